/- RvTake, StPureW, VtStep, VtPtP, ChData, ChMem, ChRound, ChSeq, ChFolM, RvPure, RvMade, RvV2, SlotsN. -/
import Derived.Test.YtdpbdkacngaemaaGreatDoorZKRvLKnown0
set_option linter.unusedVariables false
set_option linter.unusedSimpArgs false
set_option maxHeartbeats 30000000
set_option maxRecDepth 100000
namespace Go.Proofs.YtdpbdkacngaemaaGreatDoor.rv
open _root_.Go.Proofs.Tryz Go Go.RowKit Go.Sort ib mt st
open ch (kX)
def kOf (m:Mt)(p:Pa):Nat→Int
 | 0=>xU p
 | 1=>if p.base=vt.qI m then 0 else 9
 | 2=>if within m.live.length p then 0 else 2
 | _=>if p.fr=uM (vt.tf m.tok) p then 0 else 10
def nB (m:Mt)(p:Pa):Int:=j9 (kOf m p) 4
def yO (p:Pa):vt.Tf:=⟨p.base,p.target,p.fr+p.zF.length,p.all⟩
def qhA (N:Nat)(t:vt.Tg)(d:vt.DD)(m:Mt)(p:Pa)(r:Int)(d':vt.DD)(m':Mt)(lost:Bool):Prop :=
 (nB m p≠0∧r=nB m p∧d'=d∧m'=m∧lost=false)∨(nB m p=0∧vt.qg1 N t d m (vt.xA N m (yO p) p.zF) r d' m' lost)
theorem qlx{m:Mt}{p:Pa}(h:nB m p=0):xU p=0∧p.base=vt.qI m∧within m.live.length p=true∧p.fr=uM (vt.tf m.tok) p:=by
 unfold nB at h;have h0:kOf m p 0=0:=Classical.byContradiction fun e=>by rw[jE (k:=0) rfl e 4 (by omega)]at h;exact e h
 have g1:=vX (K:=kOf m p) (k:=0) rfl h0;have h1:kOf m p 1=0:=Classical.byContradiction fun e=>by rw[jE (k:=1) g1 e 4 (by omega)]at h;exact e h
 have g2:=vX g1 h1;have h2:kOf m p 2=0:=Classical.byContradiction fun e=>by rw[jE (k:=2) g2 e 4 (by omega)]at h;exact e h
 have g3:=vX g2 h2;have h3:kOf m p 3=0:=Classical.byContradiction fun e=>by rw[jE (k:=3) g3 e 4 (by omega)]at h;exact e h
 refine⟨h0,Classical.byContradiction fun e=>?_,Classical.byContradiction fun e=>?_,Classical.byContradiction fun e=>?_⟩
 ·have h:(if p.base=vt.qI m then(0:Int)else 9)=0:=h1;rw[if_neg e]at h;exact absurd h (by decide)
 ·have h:(if within m.live.length p then(0:Int)else 2)=0:=h2;rw[if_neg e]at h;exact absurd h (by decide)
 ·have h:(if p.fr=uM (vt.tf m.tok) p then(0:Int)else 10)=0:=h3;rw[if_neg e]at h;exact absurd h (by decide)
theorem qbO{p:Pa}(h:xU p=0):above p.target p.base=true∧0≤p.fr∧p.fr+p.zF.length≤p.all∧p.all≤8∧p.zF.length≤2∧(p.zF.length=0→p.all=0)∧may p.zF=true:=by
 unfold xU at h;split at h
 ·cases h
 ·rename_i hb;unfold qlv at hb;simp only[Bool.or_eq_true,Bool.and_eq_true,Bool.not_eq_true',decide_eq_true_eq,not_or,not_and]at hb;obtain⟨⟨⟨⟨⟨⟨⟨h1,h2⟩,h3⟩,h4⟩,h5⟩,h6⟩,h7⟩,h8⟩:=hb;refine⟨by simpa using h1,by omega,by omega,by omega,by omega,fun e=>?_,by simpa using h8⟩;have:=h7 e;omega
section
variable {IV:vt.jq} (H:vt.ju IV) {o1 o2:Nat→Prop} {w w':World} {v pd:Nat} {d:vt.DD} {m:Mt} {l:Bool}
include H in
theorem qT (h:vt.VP IV w o1 o2 v pd d m l)(hb:Below w.heap.size w w'):vt.VP IV w' o1 o2 v pd d m l :=
 h.keep H (fun j hj=>hb.block j (h.low H j hj)) hb.size
end
def TkG (p:Pa)(A:Option Addr)(cp v k:Nat)(gd:Gd)(t:vt.Tf)(n:Nat)(c:Int):Nat→Value→World→Prop
 | 0,x,_=>x=.agg (jg p A cp)
 | 1,x,_=>x=pt v
 | 2,x,_=>x=gv gd
 | 3,x,w=>∃b,x=.func (.func 152) #[] #[.pointer (some ⟨b,0,none⟩)]∧qh w b 38 (gC gd)
 | 4,x,_=>x=pt v
 | 5,x,_=>x=.int .i64 (k:Int)
 | 6,x,w=>∃b,x=.func (.func 153) #[] #[.pointer (some ⟨b,0,none⟩)]∧qh w b 3 #[.int .i64 (k:Int)]
 | 7,x,_=>x=pt v
 | 8,x,_=>∃B c',x=.agg (vt.pg.ub t B n c')
 | 9,x,w=>∃b B c',x=.func (.func 154) #[] #[.pointer (some ⟨b,0,none⟩)]∧qh w b 82 (vt.pg.ub t B n c')
 | 10,x,w=>∃g b1 b2 b3 B c',x=.slice (some ⟨g,0,none⟩) 4 4∧qh w g 153 #[.func (.func 79) #[] #[],.func (.func 152) #[] #[.pointer (some ⟨b1,0,none⟩)],.func (.func 153) #[] #[.pointer (some ⟨b2,0,none⟩)],.func (.func 154) #[] #[.pointer (some ⟨b3,0,none⟩)]]∧qh w b1 38 (gC gd)∧qh w b2 3 #[.int .i64 (k:Int)]∧qh w b3 82 (vt.pg.ub t B n c')
 | 11,x,_=>x=.int .i64 c
 | _,_,_=>True
theorem qly(p:Pa)(A:Option Addr)(cp v k:Nat)(gd:Gd)(t:vt.Tf)(n:Nat)(c:Int)(i:Nat)(x:Value)(w w':World)(hi:i<12)(h:TkG p A cp v k gd t n c i x w)(hb:Below w.heap.size w w'):TkG p A cp v k gd t n c i x w':=by
 match i,hi,h with
 | 0,_,h | 1,_,h | 2,_,h | 4,_,h | 5,_,h | 7,_,h | 8,_,h | 11,_,h=>exact h
 | 3,_,⟨b,h1,h2⟩=>exact⟨b,h1,h2.below hb⟩
 | 6,_,⟨b,h1,h2⟩=>exact⟨b,h1,h2.below hb⟩
 | 9,_,⟨b,B,c',h1,h2⟩=>exact⟨b,B,c',h1,h2.below hb⟩
 | 10,_,⟨g,b1,b2,b3,B,c',h1,h2,h3,h4,h5⟩=>exact⟨g,b1,b2,b3,B,c',h1,h2.below hb,h3.below hb,h4.below hb,h5.below hb⟩
 | j+12,hi,_=>exact absurd hi (by omega)
theorem qhB{p:Pa}{A:Option Addr}{cp:Nat}{m:Mt}{n c' g b1 b2 b3:Nat}{B:Option Addr}{w:World}(h:iR w A cp p)(hs:p.zF.length≤1000)
    (hk:qh w g 153 #[.func (.func 79) #[] #[],.func (.func 152) #[] #[.pointer (some ⟨b1,0,none⟩)],.func (.func 153) #[] #[.pointer (some ⟨b2,0,none⟩)],.func (.func 154) #[] #[.pointer (some ⟨b3,0,none⟩)]])
    (h1:qh w b1 38 (gC (vt.qI m))) (h2:qh w b2 3 #[.int .i64 (m.live.length:Int)]) (h3:qh w b3 82 (vt.pg.ub (vt.tf m.tok) B n c')) :
    Calls prog 78 #[.agg (jg p A cp),.slice (some ⟨g,0,none⟩) 4 4] w (ai (nB m p) w):=by
 refine qh9 A cp p w (fun k=>if k=0 then 79 else if k=1 then 152 else if k=2 then 153 else 154)
  (fun k=>if k=0 then #[]else if k=1 then #[.pointer (some ⟨b1,0,none⟩)]else if k=2 then #[.pointer (some ⟨b2,0,none⟩)]else #[.pointer (some ⟨b3,0,none⟩)]) (kOf m p) g hk ?_ ?_
 ·intro k hk4 a W;rcases k with _|_|_|_|k;all_goals (first|omega|skip)
  ·go_simp
  ·go_simp
  ·go_simp
  ·go_simp
 ·intro k hk4 W hb;rcases k with _|_|_|_|k;all_goals (first|omega|skip)
  ·exact dv A cp p W (h.below hb) hs
  ·exact qej A cp p (vt.qI m) b1 W (h1.below hb)
  ·exact tJ A cp p m.live.length b2 W (h.below hb) hs (h2.below hb)
  ·exact oG A B cp n c' p (vt.tf m.tok) b3 W (h3.below hb)
theorem jL {IV:vt.jq}(H:vt.ju IV){o1 o2:Nat→Prop}{w:World}{v pd N b:Nat}{d:vt.DD}{m:Mt}{t:vt.Tg}(A:Option Addr)(cp:Nat)(p:Pa)(hv:vt.VP IV w o1 o2 v pd d m false)(hJ:jr.JJ N t d)(hf:0≤d.qz)(hR:vt.yz b N t m)
    (h:iR w A cp p) (hs:p.zF.length≤1000) (hA:∀b o,A=some ⟨b,o,none⟩→¬ o1 b∧¬ o2 b) :
    Calls prog 25 #[pt v,.agg (jg p A cp)] w (vt.sF IV o1 o2 v pd (qhA N t d m p) w):=by
 obtain⟨W,hW,hk,hb⟩:=vz w (jg p A cp);have HB:=QH hb;have HK:=QH hk;have fz:=QH hv;have HV:=QH (qT H hv hb);have HP:=QH (h.below hb);have HJ:=QH hJ;have HF:=QH hf;have HR:=QH hR;have HA:=QH hA;have HS:=QH hs;have hlv:m.live.length=b:=hR.ok.len;have hb1:=hR.ok.b1;have hb8:=hR.ok.b8;have q2g:=hR.ok.few;have q2h:Hid ((m.qd.map (·.g)).length≤1000):=by unfold Hid;rw[List.length_map];omega
 have hnz:((m.live.length:Int) == 0)=false:=beq_false_of_ne (by omega);have yc:=QH (H.blocks (qT H hv hb).is);have HTF:Hid (vt.TfB (yO p)∨xU p≠0):=by
  unfold Hid;by_cases hc:xU p=0
  ·obtain⟨_,h2,h3,h4,h5,_⟩:=qbO hc;exact .inl ⟨h.base,h.target,by show zJ (p.fr+p.zF.length);unfold zJ;omega,h.all⟩
  ·exact .inr hc
 have HFR:Hid (xU p=0→IntKind.i64.wrap (p.fr+(p.zF.length:Int))=p.fr+(p.zF.length:Int)):=fun hc=>by
  obtain⟨_,h2,h3,h4,h5,_⟩:=qbO hc;exact IntWalk.i64_in _ (by omega)
 have HAZ:=QH (fun hz=>(qlx (m:=m) (p:=p) hz).1);have HX:Hid (∀g,w.heap.size=g→True):=fun _ _=>trivial;obtain⟨gp,hgp⟩:=QE w.heap.size;rw[hgp]at hk HK;have HGP:=QH hgp;have HW:=QH hW;clear hW hk hb hv h hJ hf hR hA hs hlv hb1 hb8 q2g hgp HX;obtain⟨K,hK⟩:=QE (nB m p);have HKE:=QH hK;clear hK;obtain⟨PN,hPN⟩:=QE (jg p A cp);have HPN:=QH hPN;rw[hPN]at HW HK ⊢;clear hPN;go_enter func25,ntmps25;go_upto_region 1 with fail;try rw[HW.out]
 try rw[HGP.out]
 clear HW;go_wp2_with fail;refine yc.out.mono ?_;rintro e W1 ⟨rfl,hb⟩;have qU:=QH (qc HB.out hb);have fT:=QH (HK.out.below hb);have HV1:=QH (qT H HV.out hb);have rU:=QH (HP.out.below hb);clear hb HB HK HV HP yc;go_upto_region 3 with fail;clear hnz;refine zR (by kernel_rfl) 12 [10,11,12,13,14,15,16,17,18,19,20,21] (by kernel_rfl) (TkG p A cp v m.live.length (vt.qI m) (vt.tf m.tok) m.tok.qp.length K) (qly _ _ _ _ _ _ _ _ _) ?_ ?_
 ·intro i o vs ρ W hi hop hρ hfn hb hG;have t0:ρ (.tmp 0)=pt v:=hρ.out 0 rfl;have t3:ρ (.tmp 3)=pt gp:=hρ.out 3 rfl;have s10:=hρ.at_ 10 0 rfl;have s11:=hρ.at_ 11 1 rfl;have s12:=hρ.at_ 12 2 rfl;have s13:=hρ.at_ 13 3 rfl;have s14:=hρ.at_ 14 4 rfl;have s15:=hρ.at_ 15 5 rfl;have s16:=hρ.at_ 16 6 rfl;have s17:=hρ.at_ 17 7 rfl;have s18:=hρ.at_ 18 8 rfl;have s19:=hρ.at_ 19 9 rfl;have s20:=hρ.at_ 20 10 rfl;have hc:=hρ.const;have hvw:=qT H HV1.out hb;rcases i with _|_|_|_|_|_|_|_|_|_|_|_|i;all_goals (first|omega|skip)
  all_goals simp only[QA,QB,QC,Option.some.injEq]at hop
  all_goals subst hop
  ·have hkw:=fT.out.below hb;rw[← HPN.out]at hkw;have a0:=hkw.cell 0;have a1:=hkw.cell 1;have a2:=hkw.cell 2;have a3:=hkw.cell 3;have a4:=hkw.cell 4;have a5:=hkw.cell 5;have a6:=hkw.cell 6;have fF:=hkw.lt;simp only[jg,QA,QB,QC]at a0 a1 a2 a3 a4 a5 a6;exact qa (v:=.agg (jg p A cp)) (w':=W) (by unfold execOp jg;simp only[t3];go_simp) ⟨Below.refl _ _,rfl⟩
  ·exact qa (w':=W) (by unfold execOp;simp only[t0];go_simp) ⟨Below.refl _ _,rfl⟩
  ·have g1:vs 1=_:=hG 1 (by kernel_rfl);refine qi (f:=81) (args:=#[pt v]) (w':=W) (by unfold execOp;simp only[hfn,s11,g1];go_simp) ((nz q2h.out (fun W' hb'=>H.list (qT H hvw hb').is)).mono ?_);rintro e W' ⟨rfl,hb5⟩;exact⟨_,rfl,hb5,by rw[il];rfl⟩
  ·have g2:vs 2=_:=hG 2 (by kernel_rfl);refine qi (f:=80) (args:=#[gv (vt.qI m)]) (w':=W) (by unfold execOp;simp only[hfn,s12,g2];go_simp) ((qel (vt.qI m) W).mono ?_);rintro e W' ⟨b',rfl,gZ,hb5⟩;exact⟨_,rfl,hb5,b',rfl,gZ⟩
  ·exact qa (w':=W) (by unfold execOp;simp only[t0];go_simp) ⟨Below.refl _ _,rfl⟩
  ·have g4:vs 4=_:=hG 4 (by kernel_rfl);refine qi (f:=77) (args:=#[pt v]) (w':=W) (by unfold execOp;simp only[hfn,s14,g4];go_simp) ((H.blocks hvw.is).mono ?_);rintro e W' ⟨rfl,hb5⟩;exact⟨_,rfl,hb5,rfl⟩
  ·have g5:vs 5=_:=hG 5 (by kernel_rfl);refine qi (f:=82) (args:=#[.int .i64 (m.live.length:Int)]) (w':=W) (by unfold execOp;simp only[hfn,s15,g5];go_simp) ((nA m.live.length W).mono ?_);rintro e W' ⟨b',rfl,gZ,hb5⟩;exact⟨_,rfl,hb5,b',rfl,gZ⟩
  ·exact qa (w':=W) (by unfold execOp;simp only[t0];go_simp) ⟨Below.refl _ _,rfl⟩
  ·have g7:vs 7=_:=hG 7 (by kernel_rfl);refine qi (f:=41) (args:=#[pt v]) (w':=W) (by unfold execOp;simp only[hfn,s17,g7];go_simp) ((H.token hvw.is).mono ?_);rintro e W' ⟨B,c',rfl,_,_,hb5⟩;exact⟨_,rfl,hb5,B,c',rfl⟩
  ·obtain⟨B,c',g8⟩:=hG 8 (by kernel_rfl);refine qi (f:=83) (args:=#[.agg (vt.pg.ub (vt.tf m.tok) B m.tok.qp.length c')]) (w':=W) (by unfold execOp;simp only[hfn,s18,g8];go_simp) ((qbN (vt.tf m.tok) B m.tok.qp.length c' W).mono ?_);rintro e W' ⟨b',rfl,gZ,hb5⟩;exact⟨_,rfl,hb5,b',B,c',rfl,gZ⟩
  ·obtain⟨b1,g3,k3⟩:=hG 3 (by kernel_rfl);obtain⟨b2,g6,k6⟩:=hG 6 (by kernel_rfl);obtain⟨b3,B,c',g9,k9⟩:=hG 9 (by kernel_rfl);have hb1:=(Below.refl _ W).alloc (Nat.le_refl _) (.cells #[.func (.func 79) #[] #[],.func (.func 152) #[] #[.pointer (some ⟨b1,0,none⟩)],.func (.func 153) #[] #[.pointer (some ⟨b2,0,none⟩)],.func (.func 154) #[] #[.pointer (some ⟨b3,0,none⟩)]] 153);exact qa (v:=.slice (some ⟨W.heap.size,0,none⟩) 4 4) (w':=W.alloc (.cells #[.func (.func 79) #[] #[],.func (.func 152) #[] #[.pointer (some ⟨b1,0,none⟩)],.func (.func 153) #[] #[.pointer (some ⟨b2,0,none⟩)],.func (.func 154) #[] #[.pointer (some ⟨b3,0,none⟩)]] 153)) (by unfold execOp;simp only[hfn,s13,g3,s16,g6,s19,g9];go_simp) ⟨hb1,_,b1,b2,b3,B,c',rfl,qh.new _ _ _,k3.below hb1,k6.below hb1,k9.below hb1⟩
  ·have g0:vs 0=_:=hG 0 (by kernel_rfl);obtain⟨g,b1,b2,b3,B,c',g10,k1,k2,k3,k4⟩:=hG 10 (by kernel_rfl);refine qi (f:=78) (args:=#[.agg (jg p A cp),.slice (some ⟨g,0,none⟩) 4 4]) (w':=W) (by unfold execOp;simp only[hfn,s10,g0,s20,g10];go_simp) ((qhB (rU.out.below hb) HS.out k1 k2 k3 k4).mono ?_);rintro e W' ⟨rfl,hb5⟩;exact⟨_,rfl,hb5,by rw[HKE.out];rfl⟩
 ·intro vs W2 hb hG;have g11:vs 11=_:=hG 11 (by decide);have qG:=QH (qc qU.out hb);have HV2:=QH (qT H HV1.out hb);have tU:=QH (rU.out.below hb);have hk2:=fT.out.below hb;rw[← HPN.out]at hk2;have a0:=hk2.cell 0;have a1:=hk2.cell 1;have a2:=hk2.cell 2;have a3:=hk2.cell 3;have a4:=hk2.cell 4;have a5:=hk2.cell 5;have a6:=hk2.cell 6;have fF:=hk2.lt;simp only[jg,QA,QB,QC]at a0 a1 a2 a3 a4 a5 a6;clear hk2 hb qU HV1 rU fT HPN;simp only[qZ,qM,if_true];rw[g11];generalize vs 0=z0;generalize vs 1=z1;generalize vs 2=z2;generalize vs 3=z3;generalize vs 4=z4;generalize vs 5=z5;generalize vs 6=z6;generalize vs 7=z7;generalize vs 8=z8;generalize vs 9=z9;generalize vs 10=z10;clear hG g11;simp only[Act.put,List.setIfInBounds_toArray,List.set_cons_succ,List.set_cons_zero];refine qY (i:=12) (by kernel_rfl) rfl rfl ?_;go_simp;refine⟨by kernel_rfl,?_⟩;by_cases h0:K=0
  ·have hkb:(K != 0)=false:=by simpa using h0
   have HZ:Hid (nB m p=0):=HKE.out.trans h0;have hw:=HFR.out (HAZ.out HZ.out);have HTB:Hid (vt.TfB (yO p)):=HTF.out.elim id (fun h=>absurd (HAZ.out HZ.out) h);have HST:=QH (H.stage (yO p) A cp p.zF HV2.out HJ.out HF.out HR.out HTB.out tU.out.zF HS.out HA.out);unfold vt.tkV yO at HST;dsimp only at HST;subst h0;clear HAZ HFR HTF HTB;go_wp2_with fail;refine HST.out.mono ?_;rintro e W3 ⟨r,d',m',lost,ov,eG,rfl,hv',js,hg,hq⟩;have hs2:=qG.out.size;have wF:Hid (vt.sF IV o1 o2 v pd (qhA N t d m p) w (.returned (.int .i64 r)) W3):=⟨r,d',m',lost,ov,eG,rfl,hv',(qB.of_below (S:=fun j=>o1 j∨o2 j) qG.out).trans js (fun _ h=>.inl h),fun j hj=>by
    rcases hg j hj with h|h
    ·exact .inl h
    ·exact .inr (by omega),.inr ⟨HZ.out,hq⟩⟩
   clear hv' js hg hq HST;go_wp2_with fail;go_ret;exact wF.out
  ·have hkb:(K != 0)=true:=by simpa using h0
   have wF:Hid (vt.sF IV o1 o2 v pd (qhA N t d m p) w (.returned (.int .i64 K)) W2):=⟨K,d,m,false,o1,o2,rfl,HV2.out,qB.of_below qG.out,fun j hj=>.inl hj,.inl ⟨by rw[HKE.out];exact h0,HKE.out.symm,rfl,rfl,rfl⟩⟩;clear h0;go_wp2_with fail;go_ret;exact wF.out
end Go.Proofs.YtdpbdkacngaemaaGreatDoor.rv
namespace Go.Proofs.YtdpbdkacngaemaaGreatDoor.st
open _root_.Go.Proofs.Tryz Go Go.RowKit wi mt
theorem qbP:∀ {l:List Ch} {k:Int},cj k l=true→k≤8→(l.length:Int)≤8-k
 | [],k,_,hk=>by simp;omega
 | x::r,k,h,hk=>by
  unfold cj at h;simp only[Bool.and_eq_true,decide_eq_true_eq]at h;obtain⟨⟨⟨h1,h2⟩,_⟩,h4⟩:=h;have:=qbP h4 (by omega);rw[List.length_cons];omega
def qx9 (b t:Gd)(l:List Ch)(k:Nat):Pa:=⟨b,t,k,l.length,(l.drop k).take 2⟩
end Go.Proofs.YtdpbdkacngaemaaGreatDoor.st
namespace Go.Proofs.YtdpbdkacngaemaaGreatDoor.vt
open _root_.Go.Proofs.Tryz Go Go.RowKit ib jr mt im sp
section
variable {N:Nat} {t:Tg} {m:Mt}
end
end Go.Proofs.YtdpbdkacngaemaaGreatDoor.vt
namespace Go.Proofs.YtdpbdkacngaemaaGreatDoor.vt
open _root_.Go.Proofs.Tryz Go Go.RowKit jr mt im sp
structure Few(k:Nat)(c:ch.CH):Prop where
 n:c.qd.length≤k
 ep:∀s∈c.qd,s.g.1≤1
theorem Few.more{k:Nat}{c:ch.CH}(h:Few k c):Few (k+1) c:=⟨by have:=h.n;omega,h.ep⟩
theorem Few.last{k:Nat}{c:ch.CH}(h:Few k c):c.last.1≤1:=by
 unfold ch.CH.last;split
 ·exact Nat.zero_le _
 ·rename_i s hs;exact h.ep s (List.mem_of_getLast? hs)
section
variable {N i:Nat} {t:Tg} {m:Mt} {c:ch.CH} {V:List Bt}
end
end Go.Proofs.YtdpbdkacngaemaaGreatDoor.vt
namespace Go.Proofs.YtdpbdkacngaemaaGreatDoor.ch
open _root_.Go.Proofs.Tryz Go Go.RowKit ib
def PtL (w:World)(A:Option Addr)(zs:List (Int × UInt8)):Prop :=
 ∀i (h:i<zs.length),∃b o,A=some ⟨b,o,none⟩∧b<w.heap.size∧w.cell? ⟨b,o+i*2,none⟩=some (.int .i64 zs[i].1)∧w.cell? ⟨b,o+i*2+1,none⟩=some (.int .u8 (zs[i].2.toNat:Int))∧zJ zs[i].1
theorem PtL.below{w w':World}{A:Option Addr}{x:List (Int × UInt8)}(h:PtL w A x)(hb:Below w.heap.size w w'):PtL w' A x:=by
 intro i hi;obtain⟨b,o,h1,h2,h3,h4,h5⟩:=h i hi;exact⟨b,o,h1,Nat.lt_of_lt_of_le h2 hb.size,by rw[hb.cell (p:=⟨b,o+i*2,none⟩) h2];exact h3,by rw[hb.cell (p:=⟨b,o+i*2+1,none⟩) h2];exact h4,h5⟩
def ud (zs:List (Int × UInt8)):List (Int × Bt):=(zs.take 10).map fun x=>(x.1,dat x.2)
def q2k (x:Int):Int:=x%8
def wr1 (d:CH)(x:Int × UInt8):CH:=(d.write (q2k x.1) (dat (x.2%200))).1
def qsC (d:CH)(zs:List (Int × UInt8)):CH:=(zs.take 10).foldl wr1 d
def rdL (l:List Bt)(zs:List (Int × UInt8)):List Bt:=(qsC ⟨l,[]⟩ zs).live
def lv (jW:List (List (Int × UInt8))):Nat→List Bt
 | 0=>dM 8
 | i+1=>rdL (lv jW i) (jW.getD i [])
structure qqd(gd:Nat→Gd):Prop where
 first:above (gd 0) (0,0)=true
 next:∀i,above (gd (i+1)) (gd i)=true
 inj:∀i j,gd i=gd j→i=j
section
variable {gd:Nat→Gd} (hg:qqd gd) {jW:List (List (Int × UInt8))}
include hg
omit hg
end
end Go.Proofs.YtdpbdkacngaemaaGreatDoor.ch
namespace Go.Proofs.YtdpbdkacngaemaaGreatDoor.ch
open _root_.Go.Proofs.Tryz Go Go.RowKit ib
def qbQ (p q:List Bt)(i:Nat):Option (Int × Bt):=if q.getD i []=p.getD i []then none else some ((i:Int),q.getD i [])
theorem nC (p q:List Bt)(hpq:p.length=q.length)(hq:∀v∈q,v.length=32):∀(m k:Nat) (l:List Bt) (b:Int),k+m=q.length→l.length=q.length→b<(k:Int)→(∀i,i<k→l.getD i []=q.getD i [])→(∀i,k≤i→l.getD i []=p.getD i []) →
    aB l b ((List.range' k m).filterMap (qbQ p q))=some q
 | 0,k,l,b,hk,hl,hb,h1,h2=>by
  show some l=some q
  congr 1
  refine List.ext_getElem? fun i=>?_;by_cases hi:i<k
  ·have:=h1 i hi;rw[List.getD_eq_getElem?_getD,List.getD_eq_getElem?_getD,List.getElem?_eq_getElem (by omega),List.getElem?_eq_getElem (by omega)]at this;rw[List.getElem?_eq_getElem (by omega),List.getElem?_eq_getElem (by omega)];exact congrArg some this
  ·rw[List.getElem?_eq_none (by omega),List.getElem?_eq_none (by omega)]
 | m+1,k,l,b,hk,hl,hb,h1,h2=>by
  have hkq:k<q.length:=by omega
  have hqk:q.getD k []=q[k]:=by rw[List.getD_eq_getElem?_getD,List.getElem?_eq_getElem hkq];rfl
  rw[List.range'_succ,List.filterMap_cons];by_cases he:q.getD k []=p.getD k []
  ·have hd:qbQ p q k=none:=by unfold qbQ;rw[if_pos he]
   rw[hd];refine nC p q hpq hq m (k+1) l b (by omega) hl (by omega) (fun i hi=>?_) (fun i hi=>h2 i (by omega));by_cases hik:i=k
   ·subst hik;rw[h2 i (Nat.le_refl _),he]
   ·exact h1 i (by omega)
  ·have hd:qbQ p q k=some ((k:Int),q.getD k []):=by unfold qbQ;rw[if_neg he]
   rw[hd];dsimp only;unfold aB;rw[if_neg (by
    rw[hqk,hq _ (List.getElem_mem hkq)];omega),Int.toNat_natCast]
   refine nC p q hpq hq m (k+1) _ (k:Int) (by omega) (by rw[List.length_set];exact hl) (by omega) (fun i hi=>?_) (fun i hi=>?_)
   ·rw[List.getD_eq_getElem?_getD,List.getElem?_set];by_cases hik:k=i
    ·subst hik;rw[if_pos rfl,if_pos (by omega)];rfl
    ·rw[if_neg hik,← List.getD_eq_getElem?_getD];exact h1 i (by omega)
   ·rw[List.getD_eq_getElem?_getD,List.getElem?_set,if_neg (by omega),← List.getD_eq_getElem?_getD];exact h2 i (by omega)
theorem qhC{p q:List Bt}(hpq:p.length=q.length)(hq:∀v∈q,v.length=32):aB p (-1) (qpp p q)=some q:=by
 have h:=nC p q hpq hq q.length 0 p (-1) (by omega) hpq (by omega) (fun i hi=>absurd hi (by omega)) (fun i _=>rfl);rw[← List.range_eq_range']at h;exact h
section
variable {gd:Nat→Gd} (hg:qqd gd) {jW:List (List (Int × UInt8))}
include hg
end
def gd1 (i:Nat):Gd:=(1,i+1)
end Go.Proofs.YtdpbdkacngaemaaGreatDoor.ch
namespace Go.Proofs.YtdpbdkacngaemaaGreatDoor.rv
open _root_.Go.Proofs.Tryz Go Go.RowKit ib mt st
structure qo6(lv:Nat→List Bt):Prop where
 zero:lv 0=ch.dM 8
 ok:∀i,ch.gA 8 (lv i)
def snL (lv:Nat→List Bt)(i:Nat):ch.Sn:=⟨ch.gd1 i,lv (i+1),false⟩
def aL (lv:Nat→List Bt)(n:Nat):ch.CH:=⟨lv n,(List.range n).map (snL lv)⟩
def df (lv:Nat→List Bt)(k:Nat):List (Int × Bt):=ch.qpp (lv k) (lv (k+1))
def qfk:Nat→Gd
 | 0=>(0,0)
 | k+1=>ch.gd1 k
section
variable {lv:Nat→List Bt}
theorem qsD(n:Nat):(aL lv n).qd.length=n:=by simp[aL]
theorem qo7(n:Nat):(aL lv (n+1)).qd=(aL lv n).qd++[snL lv n]:=by
 unfold aL;rw[List.range_succ,List.map_append];rfl
theorem qo8(n:Nat):(aL lv n).last=qfk n:=by
 cases n with
 | zero=>rfl
 | succ n =>
  unfold ch.CH.last;rw[qo7];simp[snL,qfk]
theorem qfl:∀(x:List (Int × Bt)) (p:Int),vt.xw 8 p x=cj (p+1) x
 | [],_=>rfl
 | (k,s)::r,p=>by
  unfold vt.xw cj;rw[qfl r k];rw[show decide (p<k)=decide (p+1≤k)from by rw[Bool.eq_iff_iff];simp only[decide_eq_true_eq];omega];rfl
theorem qsE(h:qo6 lv)(k:Nat):vt.xw 8 (-1) (df lv k)=true∧vt.jD (lv k) (df lv k)=lv (k+1):=by
 have h1:=ch.qhC (p:=lv k) (q:=lv (k+1)) (by rw[(h.ok k).1,(h.ok (k+1)).1]) (h.ok (k+1)).2;rw[vt.mj (b:=8) _ _ _ (h.ok k).1]at h1;split at h1
 ·rename_i h2;exact⟨h2,Option.some.inj h1⟩
 ·cases h1
theorem qsF(h:qo6 lv)(k:Nat):may (df lv k)=true:=by
 have:=(qsE h k).1;rw[qfl]at this;exact this
theorem qsG(h:qo6 lv)(k:Nat):(df lv k).length≤8:=by
 have:=qbP (qsF h k) (by omega);omega
structure Rc(lv:Nat→List Bt)(M k j:Nat)(t:vt.Tg)(m:Mt):Prop where
 jM:vt.jM t m=aL lv k
 kM:k≤M
 zero:j=0→m.tok=yg
 pos:j≠0→vt.tf m.tok=⟨qfk k,ch.gd1 k,(j:Int),((df lv k).length:Int)⟩∧vt.qD t m.tok.qp=vt.jD (lv k) ((df lv k).take j)∧j<(df lv k).length∧k<M
 even:j%2=0
def left (M k j:Nat):Nat:=4*(M-k)-j/2
variable {M k j N:Nat} {t:vt.Tg} {m:Mt}
theorem Rc.qI(h:Rc lv M k j t m):vt.qI m=qfk k:=by rw[← vt.bL t m,h.jM,qo8]
theorem Rc.qd(h:Rc lv M k j t m):m.qd.length=k:=by
 have:(vt.jM t m).qd.length=m.qd.length:=by simp[vt.jM]
 rw[← this,h.jM,qsD]
theorem Rc.hi(h:Rc lv M k j t m)(hk:k<M):(j:Int)<max ((df lv k).length:Int) 1:=by
 by_cases h0:j=0
 ·omega
 ·have:=(h.pos h0).2.2.1;omega
theorem Rc.j6(hv:qo6 lv)(h:Rc lv M k j t m):j≤6:=by
 by_cases h0:j=0
 ·omega
 ·have:=(h.pos h0).2.2.1;have:=qsG hv k;have:=h.even;omega
end
end Go.Proofs.YtdpbdkacngaemaaGreatDoor.rv
namespace Go.Proofs.YtdpbdkacngaemaaGreatDoor.rv
open _root_.Go.Proofs.Tryz Go Go.RowKit vt ib jr mt im sp
def MdP (IV:jq)(b:Nat)(w:World)(e:Ending)(w':World):Prop :=
 ∃v pd t d o1 o2,e=.returned (.tuple #[.pointer (some ⟨pd,0,none⟩),.pointer (some ⟨v,0,none⟩)])∧VP IV w' o1 o2 v pd d (m0 b) false∧JJ 500 t d∧yz b 500 t (m0 b)∧d.qz=0∧Below w.heap.size w w'∧∀j,o1 j∨o2 j→w.heap.size≤j
theorem qbR{IV:jq}(H:ju IV)(b:Nat)(h1:1≤b)(h8:b≤8)(w:World)(ht:xK w):Calls prog 34 #[.int .i64 (b:Int)] w (MdP IV b w):=by
 go_enter func34,ntmps34;go_wp2_with fail;refine(dk.lF 1000 500 500 (by decide) (by decide) (by decide) (by decide) w).mono ?_;rintro e W1 ⟨pd,o,rfl,hd,hb1,ho⟩;go_wp2_with fail;refine(H.pI b 500 500 hd (yA ht hb1 (xx ht)) (fun h=>by have h1:=ho _ h;have h2:=xx ht;omega) h1 h8 (by decide) (by decide) (by decide)).mono ?_;rintro e W2 ⟨rfl,t,d,o',hd2,hj,hr,hf,js,ho'⟩;have hs1:=hb1.size;have hb2:Below w.heap.size w W2:=hb1.trans (js.below (fun j hj=>ho j hj) hs1);have ho2:∀j,o' j→w.heap.size≤j:=fun j hj=>by
  rcases ho' j hj with h|h
  ·exact ho j h
  ·omega
 have hs2:=hb2.size;have ht2:xK W2:=yA ht hb2 (xx ht);have hn2:¬ o' gN:=fun h=>by have h1:=ho2 _ h;have h2:=xx ht;omega
 clear hd hb1 ho js ho' hs1;go_wp2_with fail;refine(H.qeQ hd2 ht2 hn2 hj.toRJ hf hr).mono ?_;rintro e W3 ⟨v,d',o1,o2,rfl,hv,hj',hf',js,h1',h2'⟩;have hb3:Below w.heap.size w W3:=hb2.trans (js.below (fun j hj=>ho2 j hj) hs2);have ho3:∀j,o1 j∨o2 j→w.heap.size≤j:=fun j hj=>by
  rcases hj with hj|hj
  ·have:=h1' j hj;omega
  ·rcases h2' j hj with h|h
   ·exact ho2 j h
   ·omega
 have HV:=QH hv;clear hv hd2 hj js h1' h2' hb2 ho2;go_wp2_with fail;go_ret2;exact⟨v,pd,t,d',o1,o2,rfl,HV.out,hj',hr,hf',hb3,ho3⟩
end Go.Proofs.YtdpbdkacngaemaaGreatDoor.rv
namespace Go.Proofs.YtdpbdkacngaemaaGreatDoor.rv
open _root_.Go.Proofs.Tryz Go Go.RowKit ib mt st
open vt (jq ju VP DD Ke gN)
def V2 (IV:jq)(w:World)(B:Nat)(X:Nat→Prop)(v pd:Nat)(d:DD)(m:Mt)(l:Bool):Prop :=
 ∃o1 o2,VP IV w o1 o2 v pd d m l∧(∀j,o1 j∨o2 j→B≤j∧¬ X j)∧(∀j,X j→j<w.heap.size)∧gN<B∧¬ X gN
section
variable {IV:jq} (H:ju IV) {w w':World} {B v pd:Nat} {X Y:Nat→Prop} {d:DD} {m:Mt} {l:Bool}
include H
theorem V2.below(h:V2 IV w B X v pd d m l)(hb:Below w.heap.size w w'):V2 IV w' B X v pd d m l:=by
 obtain⟨o1,o2,h1,h2,h3,h4⟩:=h;exact⟨o1,o2,qT H h1 hb,h2,fun j hj=>Nat.lt_of_lt_of_le (h3 j hj) hb.size,h4⟩
theorem V2.more(h:V2 IV w B X v pd d m l)(hb:Below w.heap.size w w')(hY:∀j,Y j→X j∨(w.heap.size≤j∧j<w'.heap.size)):V2 IV w' B Y v pd d m l:=by
 obtain⟨o1,o2,h1,h2,h3,h4⟩:=h;refine⟨o1,o2,qT H h1 hb,fun j hj=>⟨(h2 j hj).1,fun hy=>?_⟩,fun j hj=>?_,h4.1,fun hy=>?_⟩
 ·rcases hY j hy with h|h
  ·exact(h2 j hj).2 h
  ·have:=h1.low H j (.inl hj);omega
 ·rcases hY j hj with h|h
  ·exact Nat.lt_of_lt_of_le (h3 j h) hb.size
  ·exact h.2
 ·rcases hY gN hy with h|h
  ·exact h4.2 h
  ·have:=h1.low H gN (.inr rfl);omega
theorem V2.turn{S:Nat→Prop}(h:V2 IV w B X v pd d m l)(hb:qB S w w')(hS:∀j,S j→X j∨w.heap.size≤j)(hY:∀j,Y j→X j∨(w.heap.size≤j∧j<w'.heap.size)):V2 IV w' B Y v pd d m l:=by
 obtain⟨o1,o2,h1,h2,h3,h4⟩:=h;have hl:=h1.low H;refine⟨o1,o2,h1.keep H (fun j hj=>hb.block j (hl j hj) fun hs=>?_) hb.size,fun j hj=>⟨(h2 j hj).1,fun hy=>?_⟩,fun j hj=>?_,h4.1,fun hy=>?_⟩
 ·rcases hS j hs with h|h
  ·rcases hj with hj|rfl
   ·exact(h2 j hj).2 h
   ·exact h4.2 h
  ·have:=hl j hj;omega
 ·rcases hY j hy with h|h
  ·exact(h2 j hj).2 h
  ·have:=hl j (.inl hj);omega
 ·rcases hY j hj with h|h
  ·exact Nat.lt_of_lt_of_le (h3 j h) hb.size
  ·exact h.2
 ·rcases hY gN hy with h|h
  ·exact h4.2 h
  ·have:=hl gN (.inr rfl);omega
theorem V2.tab(h:V2 IV w B X v pd d m l):xK w:=by
 obtain⟨o1,o2,h1,_⟩:=h;exact H.tab h1.is
omit H in
theorem ql0(h:V2 IV w B X v pd d m l)(hB:B≤w.heap.size){f:Nat}{args:Array Value}{Q:Int→DD→Mt→Bool→Prop}(hc:∀o1 o2,VP IV w o1 o2 v pd d m l→(∀j,o1 j∨o2 j→B≤j∧¬ X j)→Calls prog f args w (vt.sF IV o1 o2 v pd Q w)) :
    Calls prog f args w fun e w'=>∃r d' m' l',e=.returned (.int .i64 r)∧V2 IV w' B X v pd d' m' l'∧Ke B X w w'∧Q r d' m' l':=by
 obtain⟨o1,o2,h1,h3,h5⟩:=h;refine(hc o1 o2 h1 h3).mono ?_;rintro e w' ⟨r,d',m',l',ov,eG,he,hp,hb,hg,hq⟩;refine⟨r,d',m',l',he,⟨ov,eG,hp,fun j hj=>?_,fun j hj=>Nat.lt_of_lt_of_le (h5.1 j hj) hb.size,h5.2⟩,hb.mono h3,hq⟩;rcases hg j hj with h|h
 ·exact h3 j h
 ·exact⟨by omega,fun hx=>by have:=h5.1 j hx;omega⟩
theorem iT {N b:Nat}{t:vt.Tg}(h:V2 IV w B X v pd d m false)(hB:B≤w.heap.size)(A:Option Addr)(cp:Nat)(p:Pa)(hJ:jr.JJ N t d)(hf:0≤d.qz)(hR:vt.yz b N t m)(hp:iR w A cp p)(hs:p.zF.length≤1000)(hA:∀b o,A=some ⟨b,o,none⟩→X b) :
    Calls prog 25 #[pt v,.agg (jg p A cp)] w fun e w'=>∃r d' m' l',e=.returned (.int .i64 r)∧V2 IV w' B X v pd d' m' l'∧Ke B X w w'∧qhA N t d m p r d' m' l' :=
 ql0 h hB (fun o1 o2 hv ho=>jL H A cp p hv hJ hf hR hp hs (fun b o e=>⟨fun h1=>(ho b (.inl h1)).2 (hA b o e),fun h2=>(ho b (.inr h2)).2 (hA b o e)⟩))
end
theorem qbS{W W':World}{A:Option Addr}{c:Nat}{p:Pa}(h:iR W A c p)(hs:W.heap.size≤W'.heap.size)(hk:∀b o,A=some ⟨b,o,none⟩→b<W.heap.size→W'.heap[b]?=W.heap[b]?):iR W' A c p:=by
 refine⟨fun i hi=>?_,h.base,h.target,h.fr,h.all⟩;obtain⟨b,o,e1,e2,e3,e4,e5⟩:=h.zF i hi;have hb:=hk b o e1 e2;exact⟨b,o,e1,Nat.lt_of_lt_of_le e2 hs,by rw[World.cell?_of_block (a:=⟨b,o+i*2,none⟩) hb];exact e3,by rw[World.cell?_of_block (a:=⟨b,o+i*2+1,none⟩) hb];exact e4,e5⟩
section
variable {IV:jq} {lv:Nat→List Bt} {M k j N:Nat} {t:vt.Tg} {d d':DD} {m m':Mt} {r:Int} {l':Bool}
end
end Go.Proofs.YtdpbdkacngaemaaGreatDoor.rv
namespace Go.Proofs.YtdpbdkacngaemaaGreatDoor
open _root_.Go.Proofs.Tryz Go Go.RowKit
def uz (P:Program)(K:Value→World→Prop):Result Next→Prop
 | .ok (.value v) w'=>K v w'
 | .ok .skip w'=>K undef w'
 | .ok (.enter f args) w'=>Calls P f args w' fun e w''=>∃v,e=.returned v∧K v w''
 | _=>False
theorem oH {P:Program}{o:Oper}{a:Act}{w:World}{Q:Exit→Act→World→Prop}{K:Value→World→Prop}{next:Act→World→Prop}(h:uz P K ((execOp a.eval o).run P w))(hn:∀v w',K v w'→next (a.put o.dst v) w'):o.wp P a w next Q:=by
 unfold Oper.wp;generalize (execOp a.eval o).run P w=r at *;cases r with
 | ok n w' =>
  cases n <;> simp only[uz]at h <;> simp only[Oper.upon];case value v=>exact hn _ _ h
  case skip=>exact hn _ _ h
  case enter f args =>
   refine h.mono fun e w'' he=>?_;obtain⟨v,rfl,hk⟩:=he;exact hn _ _ hk
 | halt x w'=>simp only[uz]at h
theorem zM {P:Program}{o:Oper}{ρ:Operand→Value}{w w':World}{v:Value}{K:Value→World→Prop}(h:(execOp ρ o).run P w=.ok (.value v) w')(hk:K v w'):uz P K ((execOp ρ o).run P w):=by
 rw[h];exact hk
theorem ck {P:Program}{o:Oper}{ρ:Operand→Value}{w w':World}{K:Value→World→Prop}(h:(execOp ρ o).run P w=.ok .skip w')(hk:K undef w'):uz P K ((execOp ρ o).run P w):=by
 rw[h];exact hk
section
variable {P:Program} {ops:Array Oper} {Q:Exit→Act→World→Prop}
def tK (ops:Array Oper)(ds:List Tmp)(size:Nat):Bool :=
 decide (ds.length=ops.size)&&decide ds.Nodup &&
 (List.range ops.size).all (fun i=>match ops[i]? with
  | some o=>(match o.dst with|some d=>decide (ds[i]?=some d)&&decide (d<size)|none=>(match ds[i]? with|some d=>decide (size≤d)|none=>false))&&(match o.op with | .select .. => false|_=>true) &&
   o.after.all (fun e=>!Region.binds .any e || decide (e.on<i)) &&
   (match o.guard with|none=>true|some g=>qR ops i g.1&&(match ops[g.1]? with|some q=>q.dst.isSome|none=>false)) &&
   o.op.operands.toList.all (fun x=>match x with
    | .tmp t=>match ds.idxOf? t with
     | some j=>qR ops i j&&decide (t<size)
     | none=>true
    | _=>true)
  | none=>false)
structure ql1(ops:Array Oper)(ds:List Tmp)(size:Nat):Prop where
 len:ds.length=ops.size
 nodup:ds.Nodup
 each:∀i,i<ops.size→∃o d,ops[i]?=some o∧ds[i]?=some d∧((o.dst=some d∧d<size)∨(o.dst=none∧size≤d))∧(∀cs b,o.op ≠ .select cs b)∧(∀e∈o.after,Region.binds .any e=true→e.on<i) ∧
  (∀j want,o.guard=some (j,want)→qR ops i j=true∧∃q,ops[j]?=some q∧q.dst.isSome=true)∧(∀t j,Operand.tmp t∈o.op.operands→ds.idxOf? t=some j→qR ops i j=true∧t<size)
theorem qhD{ds:List Tmp}{size:Nat}(h:tK ops ds size=true):ql1 ops ds size:=by
 unfold tK at h;simp only[Bool.and_eq_true,decide_eq_true_eq,List.all_eq_true,List.mem_range]at h;obtain⟨⟨h2,h3⟩,h5⟩:=h;refine⟨h2,h3,fun i hi=>?_⟩;have h:=h5 i hi;cases ho:ops[i]? with
 | none=>simp[ho]at h
 | some o =>
  simp only[ho,Bool.and_eq_true]at h;obtain⟨⟨⟨⟨g2,g3⟩,g4⟩,g1⟩,g5⟩:=h;have hd:∃d,ds[i]?=some d:=⟨ds[i]'(by omega),List.getElem?_eq_getElem _⟩;obtain⟨d,hd⟩:=hd;refine⟨o,d,rfl,hd,?_,fun cs b hs=>by simp[hs]at g3,fun e he hb=>?_,fun j want hg=>?_,fun t j ht hj=>?_⟩
  ·cases hq:o.dst with
   | some d' =>
    rw[hq]at g2;simp only[Bool.and_eq_true,decide_eq_true_eq]at g2;rw[hd]at g2;obtain⟨g2a,g2b⟩:=g2;injection g2a with g2a
    subst g2a;exact .inl ⟨rfl,g2b⟩
   | none =>
    rw[hq,hd]at g2;simp only[decide_eq_true_eq]at g2;exact .inr ⟨rfl,g2⟩
  ·have:=Array.all_eq_true_iff_forall_mem.1 g4 e he;simpa[hb]using this
  ·rw[hg]at g1;simp only[Bool.and_eq_true]at g1;refine⟨g1.1,?_⟩;have g1b:=g1.2;cases hq:ops[j]? with
   | none=>rw[hq]at g1b;cases g1b
   | some q=>rw[hq]at g1b;exact⟨q,rfl,g1b⟩
  ·have:=List.all_eq_true.1 g5 (.tmp t) (by simpa using ht);simpa[hj]using this
theorem qem(a:Act)(d:Tmp)(v:Value)(h:a.tmps.size≤d):a.put none v=a.put (some d) v:=by
 unfold Act.put;simp only
 congr 1
 rw[Array.setIfInBounds_eq_of_size_le h]
structure q2o(ops:Array Oper)(a0:Act)(ds:List Tmp)(I:(Nat→Bool)→(Nat→Value)→World→Prop)(listed:Array Bool)(vs:Nat→Value)(a:Act)(w:World):Prop where
 size:listed.size=ops.size
 act:a=qM (fun i=>listed.getD i false) vs ds 0 a0
 inv:I (fun i=>listed.getD i false) vs w
variable {a0:Act} {ds:List Tmp} {I:(Nat→Bool)→(Nat→Value)→World→Prop}
theorem ql2{t:Tmp}{j:Nat}(hj:ds.idxOf? t=some j):ds[j]?=some t:=by
 have:=List.of_findIdx?_eq_some (p:=(· == t)) (xs:=ds) (i:=j) (by simpa[List.idxOf?]using hj);cases hd:ds[j]? with
 | none=>simp[hd]at this
 | some d=>simp[hd]at this;rw[this]
theorem qfm(ok:ql1 ops ds a0.tmps.size)
    (step:∀i o L vs ρ w,ops[i]?=some o→L i=false→(∀j,qR ops i j=true→L j=true)→rL a0 ds vs ρ→(∀j want,o.guard=some (j,want)→vs j=.bool want)→I L vs w →
     uz P (fun v w'=>I (qN L i) (zZ vs i v) w') ((execOp ρ o).run P w))
    (skip:∀i o L vs w j want,ops[i]?=some o→L i=false→(∀j,qR ops i j=true→L j=true)→o.guard=some (j,want)→vs j ≠ .bool want→I L vs w→I (qN L i) (zZ vs i undef) w)
    (fin:∀vs w',I (fun j=>decide (j<ops.size)) vs w'→Q .normal (qZ vs ds a0) w') :
    ∀(r:Nat) (listed:Array Bool) (vs:Nat→Value) (a:Act) (w:World),q2o ops a0 ds I listed vs a w→zB ops.size listed=r→wpAny P .any ops Q r listed a w
 | 0,listed,vs,a,w,hI,hr=>by
  have hall:=ui hr;have hn:Region.ready .any ops listed=[]:=by
   apply List.eq_nil_iff_forall_not_mem.2;intro i hi;obtain⟨nU,o,ho,_⟩:=mem_ready.1 hi;have hio:i<ops.size:=(Array.getElem?_eq_some_iff.1 ho).1;have:=hall i hio;rw[za (by rw[hI.size];exact hio)]at nU;rw[this]at nU;cases nU
  have ha:a=qZ vs ds a0:=by
   rw[hI.act];exact xt _ _ _ _ ds 0 a0 fun j _ hj=>⟨hall j (by rw[← ok.len];omega),fun _=>rfl⟩
  have hL:(fun i=>listed.getD i false)=fun j=>decide (j<ops.size):=by
   funext j
   by_cases hj:j<ops.size
   ·rw[hall j hj,decide_eq_true hj]
   ·rw[decide_eq_false hj];simp[Array.getD,hI.size,hj]
  rw[ha];have h2:=hI.inv;rw[hL]at h2;exact wpAny_done hn (fin vs w h2) 0
 | r+1,listed,vs,a,w,hI,hr=>by
  refine⟨fun h0=>?_,fun i hi=>?_⟩
  ·exfalso;have hex:∃i,i<ops.size∧listed.getD i false=false:=by
    apply Classical.byContradiction;intro hn;have:zB ops.size listed=0:=by
     unfold zB;rw[List.countP_eq_zero];intro i hi;have hi':=List.mem_range.1 hi;cases hb:listed.getD i false
     ·exact absurd ⟨i,hi',hb⟩ hn
     ·simp
    omega
   have key:∀n i,i<n→i<ops.size→listed.getD i false=false→False:=by
    intro n
    induction n with
    | zero=>intro i h;omega
    | succ n ih =>
     intro i hin uB hf;obtain⟨o,_,ho,_,_,_,xm,_⟩:=ok.each i uB;have hs:i<listed.size:=by rw[hI.size];exact uB
     have:i∈Region.ready .any ops listed:=by
      rw[mem_ready];refine⟨by rw[za hs];exact hf,o,ho,fun e he hb=>?_⟩;cases hb':listed.getD e.on false
      ·exact(ih e.on (by have:=xm e he hb;omega) (by have:=xm e he hb;omega) hb').elim
      ·rfl
     rw[h0]at this;cases this
   obtain⟨i,uB,hf⟩:=hex;exact key (i+1) i (by omega) uB hf
  ·obtain⟨nU,o,ho,hall⟩:=mem_ready.1 hi;have uB:i<ops.size:=(Array.getElem?_eq_some_iff.1 ho).1;have hs:i<listed.size:=by rw[hI.size];exact uB
   have hf:listed.getD i false=false:=by rw[← za hs];exact nU
   obtain⟨o',d,ho',hd,rH,qau,xm,qq2,rI⟩:=ok.each i uB;obtain rfl:o=o':=Option.some.inj (ho.symm.trans ho');have qf:∀j,qR ops i j=true→listed.getD j false=true:=fun j hj=>by
    obtain⟨e,he,hb,rfl⟩:=zT ho hj;exact hall e he hb
   have qav:∀t j,ds[j]?=some t→t<a0.tmps.size→listed.getD j false=true→a.eval (.tmp t)=vs j:=fun t j rJ hts hl=>by
    rw[hI.act];have:=ku (fun i=>listed.getD i false) vs t ds 0 j a0 ok.nodup rJ (by simpa using hl) hts;simpa using this
   have qaw:∀v w',I (qN (fun i=>listed.getD i false) i) (zZ vs i v) w'→wpAny P .any ops Q r (listed.setIfInBounds i true) (a.put o.dst v) w':=by
    intro v w' h;refine qfm ok step skip fin r (listed.setIfInBounds i true) (zZ vs i v) (a.put o.dst v) w' ⟨by simp[hI.size],?_,?_⟩ ?_
    ·have hput:a.put o.dst v=a.put (some d) v:=by
        rcases rH with⟨e,_⟩|⟨e,hs2⟩
        ·rw[e]
        ·rw[e];exact qem a d v (by rw[hI.act,fC];exact hs2)
     rw[hput,hI.act];have:=jz (fun i=>listed.getD i false) vs i v ds 0 a0 d ok.nodup (Nat.zero_le _) (by simpa using hd) hf;rw[this,yr hs]
    ·rw[← yr hs];exact h
    ·have:=kK uB hs hf;omega
   have lj:∀j want,o.guard=some (j,want)→yielded ops a.tmps j=(match vs j with | .bool b=>some b|_=>none):=by
    intro j want hg;obtain⟨hj,q,hq1,nS⟩:=qq2 j want hg;obtain⟨e,he,hb,he2⟩:=zT ho hj;have uR:j<i:=by rw[← he2];exact xm e he hb
    obtain⟨oj,t,hoj,qfD,rJ,_⟩:=ok.each j (by omega);obtain rfl:q=oj:=Option.some.inj (hq1.symm.trans hoj);have q2p:q.dst=some t∧t<a0.tmps.size:=by
     rcases rJ with h|⟨h,_⟩
     ·exact h
     ·rw[h]at nS;cases nS
    obtain⟨rJ,hts⟩:=q2p;have hr:=qav t j qfD hts (qf j hj);unfold yielded;rw[hoj];simp only[Option.bind_some,rJ,qfD];have he:a.eval (.tmp t)=a.tmps.getD t undef:=rfl;rw[he]at hr;cases hx:a.tmps[t]? with
    | none =>
     have:a.tmps.getD t undef=undef:=by simp[Array.getD_eq_getD_getElem?,hx]
     rw[← hr,this];rfl
    | some x =>
     have:a.tmps.getD t undef=x:=by simp[Array.getD_eq_getD_getElem?,hx]
     rw[← hr,this];cases x <;> rfl
   unfold wpOp;simp only[ho];by_cases hw:Region.wanted o (yielded ops a.tmps)=true
   ·rw[if_pos hw]
    left
    have hρ:execOp a.eval o=execOp (valOf a0 ds vs) o:=by
     refine execOp_congr o qau fun x hx=>?_;cases x with
     | tmp t =>
      cases hj:ds.idxOf? t with
      | none =>
       rw[xR hj,hI.act];exact jA _ _ t ds 0 a0 (by rw[List.idxOf?_eq_none_iff]at hj;exact hj)
      | some j =>
       rw[xS hj];exact qav t j (ql2 hj) (rI t j hx hj).2 (qf j (rI t j hx hj).1)
     | const v=>simp only[valOf];rfl
     | global g=>simp only[valOf];rfl
     | func f=>simp only[valOf];rfl
    have hst:=step i o (fun i=>listed.getD i false) vs (valOf a0 ds vs) w ho hf qf ⟨fun _ _ h=>xS h,fun _ h=>xR h,fun _=>rfl,fun _=>rfl⟩ (fun j want hg=>by
     have hy:=lj j want hg;unfold Region.wanted at hw;rw[hg]at hw;simp only[hy]at hw;cases hv:vs j <;> rw[hv]at hw <;> simp at hw;rw[hw]) hI.inv
    rw[← hρ]at hst;exact oH hst fun v w' h=>qaw v w' h
   ·rw[if_neg hw];cases hg:o.guard with
    | none=>exact absurd (by simp[Region.wanted,hg]) hw
    | some g =>
     obtain⟨j,want⟩:=g;refine qaw undef w (skip i o _ vs w j want ho hf qf hg (fun hv=>hw ?_) hI.inv);have hy:=lj j want hg;unfold Region.wanted;rw[hg];simp only[hy,hv];simp
theorem nD {id:Nat}{a:Act}{w:World}(hm:P.follows .mixedOrders=true)(ds:List Tmp)(vD:tK ops ds a.tmps.size=true)(I:(Nat→Bool)→(Nat→Value)→World→Prop)
    (start:I (fun _=>false) (fun _=>undef) w.drew)
    (step:∀i o L vs ρ w,ops[i]?=some o→L i=false→(∀j,qR ops i j=true→L j=true)→rL a ds vs ρ→(∀j want,o.guard=some (j,want)→vs j=.bool want)→I L vs w →
     uz P (fun v w'=>I (qN L i) (zZ vs i v) w') ((execOp ρ o).run P w))
    (skip:∀i o L vs w j want,ops[i]?=some o→L i=false→(∀j,qR ops i j=true→L j=true)→o.guard=some (j,want)→vs j ≠ .bool want→I L vs w→I (qN L i) (zZ vs i undef) w)
    (fin:∀vs w',I (fun j=>decide (j<ops.size)) vs w'→Q .normal (qZ vs ds a) w') :
    (Code.region id ops true).wp P Q a w:=by
 have ok:=qhD vD;refine wp_region_any hm ?_;have h0:zB ops.size (Array.replicate ops.size false)=ops.size:=by
  have:=List.countP_eq_length (l:=List.range ops.size) (p:=fun i=>!(Array.replicate ops.size false).getD i false) |>.2 fun i _=>by rw[zE];rfl
  unfold zB;rw[this,List.length_range]
 have hf:(fun i=>(Array.replicate ops.size false).getD i false)=fun _=>false:=by
  funext i
  exact zE _ i
 refine qfm ok step skip fin ops.size (Array.replicate ops.size false) (fun _=>undef) a _ ⟨by simp,?_,?_⟩ h0
 ·rw[hf];exact(jJ ds 0 a).symm
 ·rw[hf];exact start
end
end Go.Proofs.YtdpbdkacngaemaaGreatDoor
