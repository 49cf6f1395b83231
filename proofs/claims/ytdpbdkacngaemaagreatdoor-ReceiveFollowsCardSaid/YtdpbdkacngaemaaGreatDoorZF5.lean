/- VgAdds, VgAb, VgTb1, Ims, AppAt, VgTb5, FMem, FPut, FIns, FCopy, FCut, FEq, FPack, DkUsed, DkBack, DkWrite2, DkFlush, DkWake, DkZero, DkIn, DkNil, DkInG, WiText, FUnpack, WiPutT, JMem. -/
import Derived.Test.YtdpbdkacngaemaaGreatDoorZF4
import Derived.Laws.BitsAllLaws
import Derived.RangeFuncNested
import Derived.RangeFuncBound
import Derived.RangeFuncCalls
import Derived.RangeFuncLeaves
import Derived.Shelf.Abstract
import Derived.Shelf.RegionOpen
import Derived.OwnWalkIn
import Derived.TacticsInMore
import Derived.LoopNIn
import Derived.LoopIn
import Derived.RegionTactic
import Derived.BigRegion
set_option linter.unusedVariables false
set_option linter.unusedSimpArgs false
set_option maxHeartbeats 30000000
set_option maxRecDepth 100000
namespace Go.Proofs.YtdpbdkacngaemaaGreatDoor.vt.pg
open _root_.Go.Proofs.Tryz Go Go.RowKit ib mt im sp
def snA (a b:Nat)(B:Option Addr)(n:Nat):Array Value:=#[.int .u64 (a:Int),.int .u64 (b:Int),.slice B n n,.bool false]
def AdG (g:Nat)(A1 A:Option Addr)(n c1 c a b:Nat)(l:List Int)(S:Nat):Nat→Value→World→Prop
 | 0,v,_=>v=pt g
 | 1,v,_=>v=pt g
 | 2,v,_=>v=pt g
 | 3,v,_=>v=.pointer (some ⟨g,1,none⟩)
 | 4,v,_=>v=.slice A1 n c1
 | 5,v,_=>v=.int .i64 (n:Int)
 | 6,v,_=>v=.int .i64 (n:Int)
 | 7,v,_=>v=.slice A1 n n
 | 8,v,_=>v=.agg #[.int .u64 (a:Int),.int .u64 (b:Int)]
 | 9,v,_=>v=.slice A l.length c
 | 10,v,w=>∃x,v=.slice (some ⟨x,0,none⟩) l.length l.length∧qf w x 3 (qh l)∧S≤x
 | 11,v,w=>∃x,v=.agg (snA a b (some ⟨x,0,none⟩) l.length)∧qf w x 3 (qh l)∧S≤x
 | 12,v,w=>∃y x,v=.slice (some ⟨y,0,none⟩) 1 1∧qf w y 141 (snA a b (some ⟨x,0,none⟩) l.length)∧qf w x 3 (qh l)∧S≤x
 | _,_,_=>True
theorem qdm(g:Nat)(A1 A:Option Addr)(n c1 c a b:Nat)(l:List Int)(S:Nat)(i:Nat)(v:Value)(w w':World)(hi:i<13)(h:AdG g A1 A n c1 c a b l S i v w)(hb:Below w.heap.size w w'):AdG g A1 A n c1 c a b l S i v w':=by
 match i,hi,h with
 | 0,_,h | 1,_,h | 2,_,h | 3,_,h | 4,_,h | 5,_,h | 6,_,h | 7,_,h | 8,_,h | 9,_,h=>exact h
 | 10,_,⟨x,h1,h2,h3⟩=>exact⟨x,h1,h2.below hb,h3⟩
 | 11,_,⟨x,h1,h2,h3⟩=>exact⟨x,h1,h2.below hb,h3⟩
 | 12,_,⟨y,x,h1,h2,h3,h4⟩=>exact⟨y,x,h1,h2.below hb,h3.below hb,h4⟩
theorem qj8{G:Nat→Prop}{W0 w:World}{g pg pb:Nat}{m:Mt}{gd:Gd}{A:Option Addr}{c:Nat}{l:List Int}(hb:Below W0.heap.size W0 w)(hg:W0.heap.size≤g)(hN:Nx G w g m)(hp:qf W0 pg 38 #[.int .u64 (gd.1:Int),.int .u64 (gd.2:Int)])(hp2:qf W0 pb 80 #[.slice A l.length c])(hl:js W0 A l c)(h1:l.length≤1000)(hgd:xB gd)(h20:m.qc.length≤100)(hG:∀j,W0.heap.size≤j→G j) :
    Calls prog 230 #[pt g,pt pg,pt pb] w (qr6 G g { m with qc:=m.qc++[⟨gd,l,false⟩] } w):=by
 obtain⟨i0,hi,hz0,hz1,hz2⟩:=info_parts qmn;obtain⟨A0,A1,A2,c0,c1,c2,hk,ht⟩:=hN.ex;obtain⟨xs,hm,hx,hrow⟩:=ht.qc.row;have HK:=QH hk;have HT:=QH ht;have HB:=QH hb;have HG:=QH hG;have HP:=QH (hp.below hb);have sB:=QH (hp2.below hb);have HL:=QH hl;have gH:=QH hg;have HX:=QH hx;have HM:=QH hm;have qzI:=QH hrow;have HGD:=QH hgd;have HLEN:Hid ((zD xs).length=m.qc.length*4):=by unfold Hid;rw[yS,← hm,List.length_map]
 have fZ:=QH ht.room;have hci:((m.qc.length:Nat):Int)≤(c1:Int):=by have:=ht.room.1;omega
 have k1:=hk.cell 1;have jG:=hk.lt;simp only[zF,QA,QB,QC]at k1;clear hN hp hp2 hl hgd hG hk ht hb hg hx hm hrow;obtain⟨a,b⟩:=gd;go_enter func230,ntmps230;go_upto_region 1 with fail;obtain⟨n,hn⟩:=QE m.qc.length;have HN:=QH hn;rw[hn]at HLEN fZ hci k1 h20 ⊢;have K1:=QH k1;clear hn k1;refine vw (by kernel_rfl) 13 [10,11,12,13,14,15,16,17,18,19,20,21,22] (by kernel_rfl) (AdG g A1 A n c1 c a b l w.heap.size) _ (pt g) rfl (by decide) (by kernel_rfl) (by kernel_rfl) (by kernel_rfl) (fun _ _ _ h=>h) (Or.inl ⟨by rfl,fun w=>by go_simp⟩) (fun _=>rfl) (qdm _ _ _ _ _ _ _ _ _ _) ?_ ?_
 ·intro i o vs ρ W qzJ hop hρ hfn hb hG;have t0:ρ (.tmp 0)=pt g:=hρ.out 0 rfl;have t1:ρ (.tmp 1)=pt pg:=hρ.out 1 rfl;have t2:ρ (.tmp 2)=pt pb:=hρ.out 2 rfl;have t4:ρ (.tmp 4)=.int .i64 (n:Int):=hρ.out 4 rfl;have hc:=hρ.const;have s11:=hρ.at_ 11 1 rfl;have s12:=hρ.at_ 12 2 rfl;have tD:=hρ.at_ 13 3 rfl;have s14:=hρ.at_ 14 4 rfl;have s15:=hρ.at_ 15 5 rfl;have s16:=hρ.at_ 16 6 rfl;have s18:=hρ.at_ 18 8 rfl;have s19:=hρ.at_ 19 9 rfl;have s20:=hρ.at_ 20 10 rfl;have s21:=hρ.at_ 21 11 rfl;have k1:W.cell? ⟨g,1,none⟩=some (.slice A1 n c1):=(hb.cell (p:=⟨g,1,none⟩) jG).trans K1.out;have eO:=HP.out.below hb;have hpl:=eO.lt;have p0:=eO.cell 0;have p1:=eO.cell 1;have hqk:=sB.out.below hb;have ma:=hqk.lt;have q0:=hqk.cell 0;simp only[QA,QB,QC]at p0 p1 q0;rcases i with _|_|_|_|_|_|_|_|_|_|_|_|_|i;all_goals (first|omega|skip)
  all_goals simp only[QA,QB,QC,Option.some.injEq]at hop
  all_goals subst hop
  ·exact q9 (w':=W) (by unfold execOp;simp only[t0];go_simp) ⟨Below.refl _ _,rfl⟩
  ·exact q9 (w':=W) (by unfold execOp;simp only[t0];go_simp) ⟨Below.refl _ _,rfl⟩
  ·have g1:vs 1=_:=hG 1 (by kernel_rfl);exact q9 (w':=W) (by unfold execOp;simp only[s11,g1];go_simp) ⟨Below.refl _ _,rfl⟩
  ·have g2:vs 2=_:=hG 2 (by kernel_rfl);exact q9 (w':=W) (by unfold execOp;simp only[s12,g2];go_simp) ⟨Below.refl _ _,rfl⟩
  ·have g3:vs 3=_:=hG 3 (by kernel_rfl);exact q9 (w':=W) (by unfold execOp;simp only[tD,g3];go_simp) ⟨Below.refl _ _,rfl⟩
  ·exact q9 (w':=W) (by unfold execOp;simp only[t4];go_simp) ⟨Below.refl _ _,rfl⟩
  ·exact q9 (w':=W) (by unfold execOp;simp only[t4];go_simp) ⟨Below.refl _ _,rfl⟩
  ·have g4:vs 4=_:=hG 4 (by kernel_rfl);have g5:vs 5=_:=hG 5 (by kernel_rfl);have g6:vs 6=_:=hG 6 (by kernel_rfl);exact q9 (w':=W) (by unfold execOp;simp only[s14,g4,s15,g5,s16,g6];go_simp) ⟨Below.refl _ _,rfl⟩
  ·exact q9 (w':=W) (by unfold execOp;simp only[t1];go_simp) ⟨Below.refl _ _,rfl⟩
  ·exact q9 (w':=W) (by unfold execOp;simp only[t2];go_simp) ⟨Below.refl _ _,rfl⟩
  ·have g9:vs 9=_:=hG 9 (by kernel_rfl);refine qj (f:=98) (args:=#[.slice A l.length c]) (w':=W) (by unfold execOp;simp only[hc,hfn,s19,g9];go_simp) ((gu A c l W ((HL.out.below HB.out).below hb) h1).mono ?_);rintro e W' eo;exact⟨_,eo.1,eo.2.2,_,rfl,eo.2.1,hb.size⟩
  ·obtain⟨x,g10,h2,h3⟩:=hG 10 (by kernel_rfl);have g8:vs 8=_:=hG 8 (by kernel_rfl);exact q9 (w':=W) (by unfold snA execOp;simp only[s18,g8,s20,g10];go_simp) ⟨Below.refl _ _,x,rfl,h2,h3⟩
  ·obtain⟨x,g11,h2,h3⟩:=hG 11 (by kernel_rfl);have hb1:=(Below.refl _ W).alloc (Nat.le_refl _) (.cells (snA a b (some ⟨x,0,none⟩) l.length) 141);exact q9 (v:=.slice (some ⟨W.heap.size,0,none⟩) 1 1) (w':=W.alloc (.cells (snA a b (some ⟨x,0,none⟩) l.length) 141)) (by unfold snA at g11 ⊢;unfold execOp;simp only[s21,g11];go_simp) ⟨hb1,_,x,rfl,qf.new _ _ _,h2.below hb1,h3⟩
 ·intro vs W hb hG;have g0:vs 0=_:=hG 0 (by decide);have g7:vs 7=_:=hG 7 (by decide);obtain⟨y,x,g12,hy,hxk,hxS⟩:=hG 12 (by decide);have ja:=QH hb;have HCE:Hid (∀b,A1=some b→∀j u,(zD xs)[j]?=some u→W.cell? (b.add j)=some u):=fun q hq j u hu=>by
   obtain⟨b',o',e,h2,h3⟩:=qzI.out j u hu;obtain rfl:q=⟨b',o',none⟩:=Option.some.inj (hq.symm.trans e);rw[addr_add];exact(hb.cell (p:=⟨b',o'+j,none⟩) h2).trans h3
  have wI:Hid (∀j u,(snA a b (some ⟨x,0,none⟩) l.length).toList[j]?=some u→W.cell? ((⟨y,0,none⟩:Addr).add j)=some u):=fun j u hu=>by
   rw[addr_add,Nat.zero_add,hy.cell j];simpa using hu
  have HXK:=QH hxk;have HXS:=QH hxS;have hA:A1=none→n=0:=fun e=>by have:=fZ.out.2 e;omega
  have HA:=QH hA;simp only[qR,qG,if_true];rw[g0,g7,g12];generalize vs 1=z1;generalize vs 2=z2;generalize vs 3=z3;generalize vs 4=z4;generalize vs 5=z5;generalize vs 6=z6;generalize vs 8=z8;generalize vs 9=z9;generalize vs 10=z10;generalize vs 11=z11;clear hG g0 g7 g12 hb hy hxk hxS hA;simp only[Act.put,List.setIfInBounds_toArray,List.set_cons_succ,List.set_cons_zero];refine qJ (i:=13) (by kernel_rfl) rfl rfl ?_;refine ah (.tmp 17) (.tmp 22) 94 rfl 141 i0 _ 4 48 underlying94 hi hz0 hz1 hz2 A1 n (zD xs) rfl HLEN.out HA.out HCE.out ⟨y,0,none⟩ 1 1 (snA a b (some ⟨x,0,none⟩) l.length).toList rfl (by rfl) wI.out (by decide) (by unfold maxLen;omega) (by omega) ?_;intro cap cur w1 hb1 zt ht1 hc1 hc2 hsz;have hgW:=HK.out.below ja.out;have qr8:=hgW.below hb1;have hWs:=ja.out.size;have hne:W.heap.size≠g:=by omega
  have jx:ib.qz (fun j=>j=g) w (w1.setCell ⟨g,1,none⟩ (.slice (some ⟨W.heap.size,0,none⟩) (n+1) cap)) :=
   ((ib.qz.of_below (S:=fun j=>j=g) ja.out).trans (S':=fun _=>False) (ib.qz.of_below hb1) (fun _ h=>h.elim)).setCell _ _ (.inl rfl)
  have hst:wG (fun j=>G j∧j≠g) w (w1.setCell ⟨g,1,none⟩ (.slice (some ⟨W.heap.size,0,none⟩) (n+1) cap)):=wG.nP jx (fun j hj=>hj.2);have hk2:qf (w1.setCell ⟨g,1,none⟩ (.slice (some ⟨W.heap.size,0,none⟩) (n+1) cap)) W.heap.size 141 cur:=zt.of_block (qw _ _ _ _ _ hne);have hGW:G W.heap.size:=HG.out _ (by have:=HB.out.size;omega);have hxg:x≠g:=by have:=HXS.out;omega
  have hsx:bu (fun j=>G j∧j≠g) (w1.setCell ⟨g,1,none⟩ (.slice (some ⟨W.heap.size,0,none⟩) (n+1) cap)) (some ⟨x,0,none⟩) l l.length:=by
   refine⟨⟨qf.nums ((HXK.out.below hb1).of_block (qw _ _ _ _ _ hxg)) HL.out.ints.mem,Nat.le_refl _,fun h=>by cases h⟩,fun _ b o s e=>?_⟩;simp only[Option.some.injEq,Addr.mk.injEq]at e;rw[← e.1];exact⟨HG.out _ (by have:=HXS.out;have:=HB.out.size;omega),hxg⟩
  have hsn:=lZ.qn7 (G:=fun j=>G j∧j≠g) (xs:=xs++[(⟨(a,b),l,false⟩,.slice (some ⟨x,0,none⟩) l.length l.length)]) ⟨hGW,hne⟩ hk2.lt (vP hk2 (n:=(n+1)*4) (by rw[ht1,eI,qiB];rfl)) (fun y hy=>by
   rcases List.mem_append.1 hy with h|h
   ·exact(HX.out y h).stay hst
   ·obtain rfl:y=_:=by simpa using h
    exact⟨_,_,rfl,hsx,HGD.out⟩)
  rw[List.map_append,HM.out]at hsn;have ht3:=HT.out.stay hst;have hkk:=qr8.qg 1 (.slice (some ⟨W.heap.size,0,none⟩) (n+1) cap);have HN2:Hid (Nx G (w1.setCell ⟨g,1,none⟩ (.slice (some ⟨W.heap.size,0,none⟩) (n+1) cap)) g { m with qc:=m.qc++[⟨(a,b),l,false⟩] }) :=
   ⟨A0,some ⟨W.heap.size,0,none⟩,A2,c0,cap,c2,by simpa[zF,HN.out]using hkk,ui.mk (m:={ m with qc:=m.qc++[⟨(a,b),l,false⟩] }) ht3.live hsn ⟨by rw[List.length_append,HN.out];exact hc1,fun e=>by cases e⟩ ht3.qp ht3.base ht3.target ht3.next ht3.all⟩
  have cM:=QH jx;have f1:w1.frozen? ⟨g,1,none⟩=false:=qr8.frozen 1;obtain⟨z,hz⟩:∃z,w1.cell? ⟨g,1,none⟩=some z:=⟨_,qr8.cell 1⟩;clear hb1 zt ht1 hc1 hc2 hsz hgW qr8 hWs jx hst hk2 hGW hsx hsn ht3 hkk HCE wI qzI;go_simp;refine qJ (i:=14) (by kernel_rfl) rfl rfl ?_;go_simp;refine qJ (i:=15) (by kernel_rfl) rfl rfl ?_;go_simp;refine qJ (i:=16) (by kernel_rfl) rfl rfl ?_;go_simp;refine⟨by kernel_rfl,?_⟩;go_wp2_with fail
  go_end0
  exact⟨rfl,HN2.out,cM.out⟩
theorem qnA{G:Nat→Prop}{w:World}{gd:Gd}{A:Option Addr}{c:Nat}{l:List Int}(hl:js w A l c)(h1:l.length≤1000)(hgd:xB gd)(hG:∀j,w.heap.size≤j→G j) :
    Calls prog 157 #[gv gd,.slice A l.length c] w (MkP G (fun m m'=>m.qc.length≤100∧m'={ m with qc:=m.qc++[⟨gd,l,false⟩] }) w):=by
 obtain⟨a,b⟩:=gd;have hb1:=(Below.refl w.heap.size w).alloc (Nat.le_refl _) (.cells #[.int .u64 (a:Int),.int .u64 (b:Int)] 38);have zt:=qf.new w 38 #[.int .u64 (a:Int),.int .u64 (b:Int)];obtain⟨W1,hW1⟩:=QE (w.alloc (.cells #[.int .u64 (a:Int),.int .u64 (b:Int)] 38));rw[hW1]at hb1 zt;have hb2:=(Below.refl W1.heap.size W1).alloc (Nat.le_refl _) (.cells #[.slice A l.length c] 80);have bz:=QH (zt.below hb2);have jV:=QH (qf.new W1 80 #[.slice A l.length c]);have HB:=QH (qa hb1 hb2);have HL:=QH hl;have HG:=QH hG;have HGD:=QH hgd;clear hl hG hgd hb1 zt hb2;show Calls _ _ #[.agg #[.int .u64 (a:Int),.int .u64 (b:Int)],.slice A l.length c] _ _;go_enter func157,ntmps157;go_wp2_with fail;try rw[hW1]
 go_ret;refine⟨_,rfl,fun m m' hR=>?_,HB.out⟩;obtain⟨h20,rfl⟩:=hR;exact⟨_,_,rfl,fun a W=>by go_simp,fun W g hb hg hN=>qj8 hb hg hN bz.out jV.out (HL.out.below HB.out) h1 HGD.out h20 (fun j hj=>HG.out j (Nat.le_trans HB.out.size hj))⟩
end Go.Proofs.YtdpbdkacngaemaaGreatDoor.vt.pg
namespace Go.Proofs.YtdpbdkacngaemaaGreatDoor.vt.pg
open _root_.Go.Proofs.Tryz Go Go.RowKit ib mt mt.pg
theorem pw (a b:Gd)(w:World):Calls prog 228 #[gv a,gv b] w (uC (above a b) w):=by
 have HR:Hid (decide (0<(if ju a.1 b.1≠0 then ju a.1 b.1 else ju a.2 b.2))=above a b):=(tC a b).symm;obtain⟨r,hr⟩:=QE (above a b);rw[hr]at HR ⊢;clear hr;obtain⟨a1,a2⟩:=a;obtain⟨b1,b2⟩:=b;dsimp only at HR;show Calls prog 228 #[.agg #[.int .u64 (a1:Int),.int .u64 (a2:Int)],.agg #[.int .u64 (b1:Int),.int .u64 (b2:Int)]] w _;have HC1:Hid (∀W,Calls prog 212 #[.int .u64 (a1:Int),.int .u64 (b1:Int)] W (same (.int .i64 (ju a1 b1)) W)):=fun W=>mY a1 b1 W;have HC2:Hid (∀W,Calls prog 212 #[.int .u64 (a2:Int),.int .u64 (b2:Int)] W (same (.int .i64 (ju a2 b2)) W)):=fun W=>mY a2 b2 W;have hz:∀z∈[ju a1 b1,ju a2 b2],qD z:=by
  intro z hz;simp only[List.mem_cons,List.not_mem_nil,or_false]at hz;rcases hz with rfl|rfl
  ·exact eK _ _
  ·exact eK _ _
 generalize ju a1 b1=x at *;generalize ju a2 b2=y at *;have HC3:Hid (∀W B,qI W (some ⟨B,0,none⟩) [x,y]→Calls prog 211 #[.slice (some ⟨B,0,none⟩) 2 2] W (same (.int .i64 (if x≠0 then x else y)) W)):=fun W B h=>qmr ⟨B,0,none⟩ 2 x y W h;generalize (if x≠0 then x else y)=z at *;have hb1:=(Below.refl w.heap.size w).alloc (Nat.le_refl _) (.cells #[.int .u64 (a1:Int),.int .u64 (a2:Int)] 38);have ha1:=qf.new w 38 #[.int .u64 (a1:Int),.int .u64 (a2:Int)];obtain⟨W1,hW1⟩:=QE (w.alloc (.cells #[.int .u64 (a1:Int),.int .u64 (a2:Int)] 38));rw[hW1]at hb1 ha1;have hbb:=(Below.refl _ W1).alloc (Nat.le_refl _) (.cells #[.int .u64 (b1:Int),.int .u64 (b2:Int)] 38);have HB:=QH (qa hb1 hbb);have mE:=QH (ha1.below hbb);have jt:=QH (qf.new W1 38 #[.int .u64 (b1:Int),.int .u64 (b2:Int)]);obtain⟨w0,hw0⟩:=QE (W1.alloc (.cells #[.int .u64 (b1:Int),.int .u64 (b2:Int)] 38));rw[hw0]at HB mE jt;obtain⟨g0,hg0⟩:=QE w.heap.size;obtain⟨g1,hg1⟩:=QE W1.heap.size;clear hb1 ha1 hbb;have HZ:=QH hz;clear hz;go_enter func228,ntmps228;go_wp2_with fail;try rw[hw0]
 try rw[hg0]
 try rw[hg1]
 rw[hg0]at mE;rw[hg1]at jt;clear hw0 hW1;have hz:=HZ.out;refine jk (by kernel_rfl) [5,6,7,8,9,10,11,12,13,14,15,16,17,4] (by kernel_rfl) (fun L vs W=>Below w0.heap.size w0 W∧∀i,L i=true→i<14→gK g0 g1 a1 a2 b1 b2 x y z i (vs i) W) ⟨(Below.refl _ _).drew,fun i hi=>by cases hi⟩ ?_ ?_ ?_
 ·intro i o L vs ρ W ho gZ qu hρ hgd hI;obtain⟨hb,rQ⟩:=hI;have hG:∀j,L j=true→gK g0 g1 a1 a2 b1 b2 x y z j (vs j) W:=fun j hj=>by
   by_cases dI:j<14
   ·exact rQ j hj dI
   ·match j,dI with
    | j+14,_=>exact trivial
  have qfg:i<14:=(Array.getElem?_eq_some_iff.1 ho).1;have hc:=hρ.const;have hfn:=hρ.fn;have next:∀v W',Below W.heap.size W W'→gK g0 g1 a1 a2 b1 b2 x y z i v W'→Below w0.heap.size w0 W'∧∀j,qM L i j=true→j<14→gK g0 g1 a1 a2 b1 b2 x y z j (zB vs i v j) W':=fun v W' h1 h2=>by
   refine⟨qa hb h1,fun j hj dI=>?_⟩;by_cases gX:j=i
   ·subst gX;simpa[zB]using h2
   ·simp only[qM,if_neg gX]at hj;simpa[zB,gX]using qc8 g0 g1 a1 a2 b1 b2 x y z j _ W W' dI (rQ j hj dI) h1
  have hA:=mE.out.below hb;have hB:=jt.out.below hb;have hlt:=hA.lt;have q4a:=hB.lt;have c0:=hA.cell 0;have c1:=hA.cell 1;have d0:=hB.cell 0;have d1:=hB.cell 1;simp only[QA,QB,QC]at c0 c1 d0 d1;rcases i with _|_|_|_|_|_|_|_|_|_|_|_|_|_|i;all_goals (first|omega|skip)
  all_goals simp only[QA,QB,QC,Option.some.injEq]at ho
  all_goals subst ho
  ·have o2:ρ (.tmp 2)=.pointer (some ⟨g0,0,none⟩):=hρ.out 2 rfl;exact q9 (w':=W) (by unfold execOp;simp only[o2,hc];go_simp) (next _ _ (Below.refl _ _) rfl)
  ·have g5:gK g0 g1 a1 a2 b1 b2 x y z 0 (vs 0) W:=hG 0 (qu 0 (by kernel_rfl));have s5:ρ (.tmp 5)=.pointer (some ⟨g0,0,none⟩):=(hρ.at_ 5 0 rfl).trans g5;exact q9 (w':=W) (by unfold execOp;simp only[s5,hc];go_simp) (next _ _ (Below.refl _ _) rfl)
  ·have o3:ρ (.tmp 3)=.pointer (some ⟨g1,0,none⟩):=hρ.out 3 rfl;exact q9 (w':=W) (by unfold execOp;simp only[o3,hc];go_simp) (next _ _ (Below.refl _ _) rfl)
  ·have g7:gK g0 g1 a1 a2 b1 b2 x y z 2 (vs 2) W:=hG 2 (qu 2 (by kernel_rfl));have s7:ρ (.tmp 7)=.pointer (some ⟨g1,0,none⟩):=(hρ.at_ 7 2 rfl).trans g7;exact q9 (w':=W) (by unfold execOp;simp only[s7,hc];go_simp) (next _ _ (Below.refl _ _) rfl)
  ·have g6:gK g0 g1 a1 a2 b1 b2 x y z 1 (vs 1) W:=hG 1 (qu 1 (by kernel_rfl));have s6:ρ (.tmp 6)=.int .u64 (a1:Int):=(hρ.at_ 6 1 rfl).trans g6;have g8:gK g0 g1 a1 a2 b1 b2 x y z 3 (vs 3) W:=hG 3 (qu 3 (by kernel_rfl));have s8:ρ (.tmp 8)=.int .u64 (b1:Int):=(hρ.at_ 8 3 rfl).trans g8;refine qj (f:=212) (args:=#[.int .u64 (a1:Int),.int .u64 (b1:Int)]) (w':=W) (by unfold execOp;simp only[hfn,s6,s8];go_simp) ((HC1.out W).mono ?_);rintro x W' ⟨rfl,rfl⟩;exact⟨_,rfl,next _ _ (Below.refl _ _) rfl⟩
  ·have o2:ρ (.tmp 2)=.pointer (some ⟨g0,0,none⟩):=hρ.out 2 rfl;exact q9 (w':=W) (by unfold execOp;simp only[o2,hc];go_simp) (next _ _ (Below.refl _ _) rfl)
  ·have g10:gK g0 g1 a1 a2 b1 b2 x y z 5 (vs 5) W:=hG 5 (qu 5 (by kernel_rfl));have s10:ρ (.tmp 10)=.pointer (some ⟨g0,1,none⟩):=(hρ.at_ 10 5 rfl).trans g10;exact q9 (w':=W) (by unfold execOp;simp only[s10,hc];go_simp) (next _ _ (Below.refl _ _) rfl)
  ·have o3:ρ (.tmp 3)=.pointer (some ⟨g1,0,none⟩):=hρ.out 3 rfl;exact q9 (w':=W) (by unfold execOp;simp only[o3,hc];go_simp) (next _ _ (Below.refl _ _) rfl)
  ·have g12:gK g0 g1 a1 a2 b1 b2 x y z 7 (vs 7) W:=hG 7 (qu 7 (by kernel_rfl));have s12:ρ (.tmp 12)=.pointer (some ⟨g1,1,none⟩):=(hρ.at_ 12 7 rfl).trans g12;exact q9 (w':=W) (by unfold execOp;simp only[s12,hc];go_simp) (next _ _ (Below.refl _ _) rfl)
  ·have g11:gK g0 g1 a1 a2 b1 b2 x y z 6 (vs 6) W:=hG 6 (qu 6 (by kernel_rfl));have s11:ρ (.tmp 11)=.int .u64 (a2:Int):=(hρ.at_ 11 6 rfl).trans g11;have g13:gK g0 g1 a1 a2 b1 b2 x y z 8 (vs 8) W:=hG 8 (qu 8 (by kernel_rfl));have tD:ρ (.tmp 13)=.int .u64 (b2:Int):=(hρ.at_ 13 8 rfl).trans g13;refine qj (f:=212) (args:=#[.int .u64 (a2:Int),.int .u64 (b2:Int)]) (w':=W) (by unfold execOp;simp only[hfn,s11,tD];go_simp) ((HC2.out W).mono ?_);rintro x W' ⟨rfl,rfl⟩;exact⟨_,rfl,next _ _ (Below.refl _ _) rfl⟩
  ·have g9:gK g0 g1 a1 a2 b1 b2 x y z 4 (vs 4) W:=hG 4 (qu 4 (by kernel_rfl));have s9:ρ (.tmp 9)=.int .i64 (x):=(hρ.at_ 9 4 rfl).trans g9;have g14:gK g0 g1 a1 a2 b1 b2 x y z 9 (vs 9) W:=hG 9 (qu 9 (by kernel_rfl));have s14:ρ (.tmp 14)=.int .i64 (y):=(hρ.at_ 14 9 rfl).trans g14;exact q9 (v:=.slice (some ⟨W.heap.size,0,none⟩) 2 2) (w':=W.alloc (.cells (qh [x,y]) 3)) (by unfold execOp;simp only[s9,s14,qh];go_simp) (next _ _ ((Below.refl _ W).alloc (Nat.le_refl _) _) ⟨W.heap.size,rfl,dB W _ hz⟩)
  ·obtain⟨B15,g15,qmy⟩:gK g0 g1 a1 a2 b1 b2 x y z 10 (vs 10) W:=hG 10 (qu 10 (by kernel_rfl));have s15:ρ (.tmp 15)=.slice (some ⟨B15,0,none⟩) 2 2:=(hρ.at_ 15 10 rfl).trans g15;refine qj (f:=211) (args:=#[.slice (some ⟨B15,0,none⟩) 2 2]) (w':=W) (by unfold execOp;simp only[hfn,s15];go_simp) ((HC3.out W B15 qmy).mono ?_);rintro x W' ⟨rfl,rfl⟩;exact⟨_,rfl,next _ _ (Below.refl _ _) rfl⟩
  ·have g16:gK g0 g1 a1 a2 b1 b2 x y z 11 (vs 11) W:=hG 11 (qu 11 (by kernel_rfl));have s16:ρ (.tmp 16)=.int .i64 z:=(hρ.at_ 16 11 rfl).trans g16;exact q9 (w':=W) (by unfold execOp;simp only[s16,hc];go_simp) (next _ _ (Below.refl _ _) rfl)
  ·have g17:gK g0 g1 a1 a2 b1 b2 x y z 12 (vs 12) W:=hG 12 (qu 12 (by kernel_rfl));have s17:ρ (.tmp 17)=.bool (decide (0<z)):=(hρ.at_ 17 12 rfl).trans g17;exact q9 (w':=W) (by unfold execOp;simp only[s17,hc];go_simp) (next _ _ (Below.refl _ _) rfl)
 ·intro i o L vs W j want ho gZ qu hg hv hI;obtain⟨hb,rQ⟩:=hI;have hG:∀j,L j=true→gK g0 g1 a1 a2 b1 b2 x y z j (vs j) W:=fun j hj=>by
   by_cases dI:j<14
   ·exact rQ j hj dI
   ·match j,dI with
    | j+14,_=>exact trivial
  have qfg:i<14:=(Array.getElem?_eq_some_iff.1 ho).1;rcases i with _|_|_|_|_|_|_|_|_|_|_|_|_|_|i;all_goals (first|omega|skip)
  all_goals simp only[QA,QB,QC,Option.some.injEq]at ho
  all_goals subst ho
  all_goals simp only[reduceCtorEq,Option.some.injEq,Prod.mk.injEq]at hg
 ·intro vs W hI;have g7:vs 13=.bool (decide (0<z)):=hI.2 13 (by decide) (by decide);have hbW:=QH (qa HB.out hI.1);clear hI;go_wp2_with fail;refine bF 13 rfl (by decide +kernel) (by kernel_rfl) rfl g7 ⟨by rw[HR.out],hbW.out⟩
end Go.Proofs.YtdpbdkacngaemaaGreatDoor.vt.pg
namespace Go.Proofs.YtdpbdkacngaemaaGreatDoor.vt.pg
open _root_.Go.Proofs.Tryz Go Go.RowKit ib mt im sp
def qj9 (G:Nat→Prop)(l:List Int)(w:World)(e:Ending)(w':World):Prop:=∃A c,e=.returned (.slice A l.length c)∧bu G w' A l c∧Below w.heap.size w w'
def qaf (m:Mt)(n:Nat):List Int:=uN { m with qc:=m.qc.take n }
theorem qgf(m:Mt):qaf m 0=List.replicate m.live.length 0:=rfl
theorem qjA{m:Mt}{k:Nat}(h:k<m.qc.length):qaf m (k+1)=m.qc[k].qp:=by
 unfold qaf uN;dsimp only;rw[List.take_succ_eq_append_getElem h,List.getLast?_concat]
theorem qjB(m:Mt):qaf m m.qc.length=uN m:=by unfold qaf;rw[List.take_length]
theorem qjC{m:Mt}(h:m.qc.length=0):qE m=(0,0):=by
 unfold qE;rw[List.length_eq_zero_iff.1 h];rfl
theorem qjD{m:Mt}{k:Nat}(h:k<m.qc.length)(h1:k+1=m.qc.length):qE m=m.qc[k].g:=by
 unfold qE;rw[List.getLast?_eq_getElem?,show m.qc.length-1=k by omega,List.getElem?_eq_getElem h]
theorem xZ (w:World)(X:Array Value):∃W,w.alloc (.cells X 96)=W∧qf W w.heap.size 96 X∧Below w.heap.size w W :=
 ⟨_,rfl,qf.new _ _ _,(Below.refl _ _).alloc (Nat.le_refl _) _⟩
theorem qag{w:World}{A0 A1 A2:Option Addr}{c0 c1 c2:Nat}{m:Mt}(hS:jL w A1 m.qc)(h20:m.qc.length≤1000) :
    Calls prog 227 #[.agg (zF A0 A1 A2 c0 c1 c2 m)] w fun e w'=>e=.returned (gv (qE m))∧Below w.heap.size w w':=by
 obtain⟨W1,hW1,zt,hb1⟩:=xZ w (zF A0 A1 A2 c0 c1 c2 m);have hb2:=(Below.refl _ W1).alloc (Nat.le_refl _) (.cells #[.int .u64 0,.int .u64 0] 38);have hr2:=qf.new W1 38 #[.int .u64 0,.int .u64 0];obtain⟨W2,hW2⟩:=QE (W1.alloc (.cells #[.int .u64 0,.int .u64 0] 38));rw[hW2]at hb2 hr2;have qA:=QH (qa hb1 hb2);have hk2:=zt.below hb2;have jM:=QH hr2;have tL:Hid (w.heap.size<W1.heap.size):=zt.lt;have q1:=hk2.cell 1;have ma:=hk2.lt;simp only[zF,QA,QB,QC]at q1;have HS:=QH (hS.below qA.out);have r0:=hr2.cell 0;have r1:=hr2.cell 1;have f0:=hr2.frozen 0;have f1:=hr2.frozen 1;have hrl:=hr2.lt;simp only[QA,QB,QC]at r0 r1;have xj:Hid (∀(a b:Nat) W,qf W W1.heap.size 38 #[.int .u64 (a:Int),.int .u64 (b:Int)]→(loadVar 38 ⟨W1.heap.size,0,none⟩).run prog W=.ok (.agg #[.int .u64 (a:Int),.int .u64 (b:Int)]) W):=fun a b W hW =>
  run_loadVar_row W W1.heap.size 38 38 _ (0,0) _ hW underlying38 rfl (by kernel_rfl)
 have dp:Hid (∀(a b:Nat),qf ((W2.setCell ⟨W1.heap.size,0,none⟩ (.int .u64 (a:Int))).setCell ⟨W1.heap.size,1,none⟩ (.int .u64 (b:Int))) W1.heap.size 38 #[.int .u64 (a:Int),.int .u64 (b:Int)]∧Below w.heap.size w ((W2.setCell ⟨W1.heap.size,0,none⟩ (.int .u64 (a:Int))).setCell ⟨W1.heap.size,1,none⟩ (.int .u64 (b:Int)))):=fun a b =>
  ⟨by have:=(hr2.qg 0 (.int .u64 (a:Int))).qg 1 (.int .u64 (b:Int));simpa using this,(qA.out.setCell (p:=⟨W1.heap.size,0,none⟩) (by have:=tL.out;show w.heap.size≤W1.heap.size;omega) _).setCell (p:=⟨W1.heap.size,1,none⟩) (by have:=tL.out;show w.heap.size≤W1.heap.size;omega) _⟩
 clear hS zt hb1 hb2 hr2 hk2;by_cases h0:m.qc.length=0
 ·have HG:=QH (qjC h0);have hz:((m.qc.length:Int) == 0)=true:=by rw[h0];rfl
  clear h0;unfold zF at hW1 ⊢;go_enter func227,ntmps227;go_upto_region 1 with fail;try rw[hW1]
  try rw[hW2]
  clear hW1 hW2;go_wp2_with fail;refine bodyPost_ret (v:=.agg #[.int .u64 0,.int .u64 0]) (im.zf rfl _ _ _ ⟨W1.heap.size,0,none⟩ _ rfl (xj.out 0 0 _ (dp.out 0 0).1)) rfl ⟨by rw[HG.out];rfl,(dp.out 0 0).2⟩
 ·obtain⟨k,hk⟩:∃k,m.qc.length=k+1:=⟨m.qc.length-1,by omega⟩;have iY:k<m.qc.length:=by omega
  have HG:=QH (qjD iY hk.symm);obtain⟨b,o,B,c,rfl,s2,s3,s4,_⟩:=HS.out k iY;generalize m.qc[k].g=gg at *;obtain⟨ga,gb⟩:=gg;dsimp only at s3 s4;have hw:IntKind.i64.wrap ((m.qc.length:Int)-1)=(k:Int):=by rw[IntWalk.i64_in _ (by omega)];omega
  have yt:(k:Int)<(m.qc.length:Int):=by omega
  have hk0:¬ (k:Int)<0:=by omega
  have hnz:((m.qc.length:Int) == 0)=false:=beq_false_of_ne (by omega);unfold zF at hW1 ⊢;clear hk h0;go_enter func227,ntmps227;go_upto_region 1 with fail;try rw[hW1]
  try rw[hW2]
  clear hW1 hW2;go_wp2_with fail;refine bodyPost_ret (v:=.agg #[.int .u64 (ga:Int),.int .u64 (gb:Int)]) (im.zf rfl _ _ _ ⟨W1.heap.size,0,none⟩ _ rfl (xj.out ga gb _ (dp.out ga gb).1)) rfl ⟨by rw[HG.out];rfl,(dp.out ga gb).2⟩
theorem qgg{w:World}{A0 A1 A2:Option Addr}{c0 c1 c2:Nat}(m:Mt):Calls prog 97 #[.agg (zF A0 A1 A2 c0 c1 c2 m)] w (uC (decide (m.tok.target=(0,0))) w):=by
 obtain⟨W1,hW1,zt,hb1⟩:=xZ w (zF A0 A1 A2 c0 c1 c2 m);have q4:=zt.cell 4;have q5:=zt.cell 5;have ma:=zt.lt;simp only[zF,QA,QB,QC]at q4 q5;have qO:=QH hb1;have HD:Hid (decide (m.tok.target=(0,0))=(((m.tok.target.1:Int) == 0)&&((m.tok.target.2:Int) == 0))):=by
  unfold Hid;have:(m.tok.target=(0,0))↔((m.tok.target.1:Int)=0∧(m.tok.target.2:Int)=0):=by
   constructor
   ·intro h;rw[h];exact⟨rfl,rfl⟩
   ·intro h;exact Prod.ext (by have:=h.1;omega) (by have:=h.2;omega)
  rw[Bool.eq_iff_iff];simp only[decide_eq_true_eq,Bool.and_eq_true,beq_iff_eq];exact this
 obtain⟨r,hr⟩:=QE (decide (m.tok.target=(0,0)));rw[hr]at HD ⊢;unfold zF at hW1 ⊢;generalize (m.tok.target.1:Int)=x at *;generalize (m.tok.target.2:Int)=y at *;obtain⟨p1,hp1⟩:=QE (x == 0);obtain⟨p2,hp2⟩:=QE (y == 0);rw[hp1,hp2]at HD;clear zt hb1 hr;go_enter func97,ntmps97;go_upto_region 1 with fail;try rw[hW1]
 clear hW1;cases p1 <;> cases p2;all_goals
  go_wp2_with fail;go_ret;exact⟨by rw[HD.out];rfl,qO.out⟩
theorem qnB{G:Nat→Prop}{w:World}{A0 A1 A2:Option Addr}{c0 c1 c2:Nat}{m:Mt}(hS:lZ G w A1 m.qc)(hsz:mtS m)(hG:∀j,w.heap.size≤j→G j)(n:Nat)(hn:n≤m.qc.length) :
    Calls prog 71 #[.agg (zF A0 A1 A2 c0 c1 c2 m),.int .i64 (n:Int)] w (qj9 G (qaf m n) w):=by
 obtain⟨W1,hW1,zt,hb1⟩:=xZ w (zF A0 A1 A2 c0 c1 c2 m);have q0:=zt.cell 0;have q1:=zt.cell 1;have ma:=zt.lt;simp only[zF,QA,QB,QC]at q0 q1;have qO:=QH hb1;have HS:=QH (hS.stay (wG.of_below hb1));have HG:=QH hG;have HL:=QH hsz.live;clear hS hG zt hb1;rcases n with _|k
 ·rw[qgf];have hb2:=(Below.refl _ W1).alloc (Nat.le_refl _) (.cells (qh (List.replicate m.live.length 0)) 3);have hs2:=qu8 W1 (List.replicate m.live.length 0) (fun z hz=>by rw[List.eq_of_mem_replicate hz];unfold qD;omega);have qA:=QH (qa qO.out hb2);have kT:Hid (bu G (W1.alloc (.cells (qh (List.replicate m.live.length 0)) 3)) (some ⟨W1.heap.size,0,none⟩) (List.replicate m.live.length 0) (List.replicate m.live.length (0:Int)).length):=⟨hs2,fun _ b o s e=>by
   simp only[Option.some.injEq,Addr.mk.injEq]at e;rw[← e.1];exact HG.out _ qO.out.size⟩
  have HW:=QH hW1;clear hW1 hb2 hs2;unfold zF at HW ⊢;go_enter func71,ntmps71;go_upto_region 1 with fail;rw[HW.out];go_wp2_with (at_make;refine qi rfl (cK _ _ m.live.length rfl rfl rfl (by have:=HL.out;omega)) ?_);go_ret;exact⟨_,_,by simp,kT.out,qA.out⟩
 ·have iY:k<m.qc.length:=by omega
  rw[qjA iY];obtain⟨b,o,B,c,rfl,s2,_,_,s5,_,s7,_⟩:=HS.out.at_ k iY;generalize m.qc[k].qp=im at *;have HS7:=QH s7;have hw:IntKind.i64.wrap (((k+1:Nat):Int)-1)=(k:Int):=by have:=hsz.qc;rw[IntWalk.i64_in _ (by omega)];omega
  have yt:(k:Int)<(m.qc.length:Int):=by omega
  have hk0:¬ (k:Int)<0:=by omega
  have hnz:(((k+1:Nat):Int) == 0)=false:=beq_false_of_ne (by omega);have HW:=QH hW1;clear hW1 s7 hsz;obtain⟨n1,hn1⟩:=QE ((k+1:Nat):Int);rw[hn1]at hw hnz ⊢;clear hn1;unfold zF at HW ⊢;go_enter func71,ntmps71;go_upto_region 1 with fail;rw[HW.out];go_wp2_with fail;go_ret;exact⟨_,_,rfl,HS7.out,qO.out⟩
end Go.Proofs.YtdpbdkacngaemaaGreatDoor.vt.pg
namespace Go.Proofs.YtdpbdkacngaemaaGreatDoor.ib
open _root_.Go.Proofs.Tryz Go Go.RowKit Go.ChangeShapes Go.WideShapes Go.Deep
def fB (w:World)(a:Option Addr)(zT:List (List Int)):Prop :=
 ∀i (h:i<zT.length),∃b o A c,a=some ⟨b,o,none⟩∧b<w.heap.size∧w.cell? ⟨b,o+i,none⟩=some (.slice A zT[i].length c)∧qI w A zT[i]∧zT[i].length≤9223372036854775807
theorem fB.below{w w':World}{a:Option Addr}{zT:List (List Int)}(h:fB w a zT)(hb:Below w.heap.size w w'):fB w' a zT:=by
 intro i hi;obtain⟨b,o,A,c,h1,h2,h3,h4,h5⟩:=h i hi;exact⟨b,o,A,c,h1,Nat.lt_of_lt_of_le h2 hb.size,by rw[hb.cell (p:=⟨b,o+i,none⟩) h2];exact h3,h4.below hb,h5⟩
section
variable {H:Type} {enc:TypeId × Value→H} {w:World} {held:Bool} {a:Option Addr} {l c:Nat} {d:DataW H} {pl:List MemPlace}
end
end Go.Proofs.YtdpbdkacngaemaaGreatDoor.ib
namespace Go.Proofs.YtdpbdkacngaemaaGreatDoor
open _root_.Go.Proofs.Tryz Go Go.RowKit
theorem xm {P:Program}{ops:Array Oper}{rest:List Oper}{o:Oper}{a:Act}{w:World}{Q:Exit→Act→World→Prop}(hgd:o.guard=none)(s x:Operand)(t:TypeId)
    (ho:o.op=.call { callee:=.builtin .append,args:=#[s,x],argTypes:=#[t,t] })
    (base:Nat) (e:TypeId) (i:TypeInfo) (z:Value) (size bytes:Nat) (ht:P.underlying t=some (.slice e)) (hi:P.info? e=some i) (hz:i.zero=some z)
    (hsize:i.size=size) (hby:i.bytes=bytes) (hzs:z.cells.size=size) (hsz:0<size)
    (v:Value) (n:Nat) (xs:List Value) (hs:a.eval s=v) (hown:w.ownsRow base e size v n xs)
    (ad:Addr) (m c:Nat) (news:List Value) (hx:a.eval x=.slice (some ad) m c) (hl:news.length=m*size) (hnews:∀j u,news[j]?=some u→w.cell? (ad.add j)=some u) (h1:∀u∈news,u.oneCell'=true)
    (h63:n+m≤maxLen) (hbytes:(n+m)*bytes≤140737488355328) (hbase:base≤w.heap.size)
    (h:∀v' w',w'.ownsRow base e size v' (n+m) (xs++news)→w.grownBy w' v.ownBlock→(v'.ownBlock=v.ownBlock∨v'.ownBlock=some w.heap.size)→wpList P ops Q rest (a.put o.dst v') w'):wpList P ops Q (o::rest) a w:=by
 refine wpList_plain hgd fun K hK=>?_;obtain⟨v',w',hrun,h2,h3,_,h5⟩:=run_append_own_at (P:=P) w base t o.type e i z size bytes ht hi hz hsize hby hzs hsz v n xs hown ad m c news hl hnews h1 h63 hbytes hbase;unfold Oper.wp;simp[execOp,ho,resolve,invoke,builtin,hs,hx,hrun,Result.andThen];exact hK _ _ (h v' w' h2 h3 h5)
end Go.Proofs.YtdpbdkacngaemaaGreatDoor
namespace Go.Proofs.YtdpbdkacngaemaaGreatDoor.vt.pg
open _root_.Go.Proofs.Tryz Go Go.RowKit ib mt im sp
theorem qv3:(prog.info? 80).map (fun i=>(i.zero,i.size,i.bytes))=some (some (.slice none 0 0),1,24):=by kernel_rfl
def qjE (w:World)(u:Value)(l:List Int):Prop:=∃B c,u=.slice B l.length c∧qI w B l∧l.length≤1000
theorem qjE.below{w w':World}{u:Value}{l:List Int}(h:qjE w u l)(hb:Below w.heap.size w w'):qjE w' u l:=by
 obtain⟨B,c,h1,h2,h3⟩:=h;exact⟨B,c,h1,h2.below hb,h3⟩
def IvL (w:World)(vs:List Value)(ls:List (List Int)):Prop:=vs.length=ls.length∧∀i (h:i<vs.length) (h':i<ls.length),qjE w vs[i] ls[i]
theorem IvL.below{w w':World}{vs:List Value}{ls:List (List Int)}(h:IvL w vs ls)(hb:Below w.heap.size w w'):IvL w' vs ls:=⟨h.1,fun i h1 h2=>(h.2 i h1 h2).below hb⟩
theorem IvL.snoc{w:World}{vs:List Value}{ls:List (List Int)}{u:Value}{l:List Int}(h:IvL w vs ls)(hu:qjE w u l):IvL w (vs++[u]) (ls++[l]):=by
 refine⟨by simp[h.1],fun i h1 h2=>?_⟩;by_cases hi:i<vs.length
 ·rw[List.getElem_append_left hi,List.getElem_append_left (by have:=h.1;omega)];exact h.2 i hi _
 ·have e:i=vs.length:=by simp at h1;omega
  subst e;rw[List.getElem_append_right (Nat.le_refl _),List.getElem_append_right (by have:=h.1;omega)];simpa[h.1]using hu
theorem IvL.ims{w:World}{B:Nat}{v:Value}{vs:List Value}{ls:List (List Int)}(h:IvL w vs ls)(ho:w.ownsRow B 80 1 v ls.length vs):∃A c,v=.slice A ls.length c∧fB w A ls:=by
 rcases ho.2 with⟨rfl,h0⟩|⟨g,cap,cur,rfl,hg,hh,hcc,hm,hcs,xC⟩
 ·exact⟨none,0,by rw[h0],fun i hi=>absurd hi (by omega)⟩
 ·refine⟨some ⟨g,0,none⟩,cap,rfl,fun i hi=>?_⟩;obtain⟨B',c',e,h1,h2⟩:=h.2 i (by have:=h.1;omega) hi;refine⟨g,0,B',c',rfl,(Array.getElem?_eq_some_iff.1 hh).1,?_,h1,by omega⟩;rw[Nat.zero_add,cell_of_row w g i cur 80 (0,0) hh];have hiv:i<vs.length:=by have:=h.1;omega
  have hu:vs[i]?=some (.slice B' ls[i].length c'):=by rw[List.getElem?_eq_getElem hiv,e]
  rw[← xC,List.getElem?_take]at hu;split at hu
  ·rw[← hu];simp
  ·cases hu
def ImR (B:Nat)(m:Mt)(w:World)(v i:Value)(wr:World):Prop :=
 ∃(k:Nat) (vs:List Value),k≤m.qc.length∧i=.int .i64 (k:Int)∧wr.ownsRow B 80 1 v (k+2) vs∧IvL w vs (m.live::m.tok.qp::(m.qc.take k).map (·.qp))∧Below w.heap.size w wr∧B≤wr.heap.size
def qzO (ls:List (List Int))(w:World)(e:Ending)(w':World):Prop:=∃A c,e=.returned (.slice A ls.length c)∧fB w' A ls∧Below w.heap.size w w'
theorem qgh{w:World}{A0 A1 A2:Option Addr}{c0 c1 c2:Nat}{m:Mt}(ht:MtL w A0 A1 A2 c0 c1 c2 m)(hsz:mtS m) :
    Calls prog 138 #[.agg (zF A0 A1 A2 c0 c1 c2 m)] w (qzO (xq m) w):=by
 obtain⟨i0,hi,hz0,hz1,hz2⟩:=info_parts qv3;obtain⟨W1,hW1,zt,hb1⟩:=xZ w (zF A0 A1 A2 c0 c1 c2 m);have hb2:=(Below.refl _ W1).alloc (Nat.le_refl _) (.cells #[.slice A0 m.live.length c0,.slice A2 m.tok.qp.length c2] 80);have hn2:=qf.new W1 80 #[.slice A0 m.live.length c0,.slice A2 m.tok.qp.length c2];obtain⟨W2,hW2⟩:=QE (W1.alloc (.cells #[.slice A0 m.live.length c0,.slice A2 m.tok.qp.length c2] 80));rw[hW2]at hb2 hn2;have hbb:=qa hb1 hb2;have vX:Hid (W2.ownsRow W1.heap.size 80 1 (.slice (some ⟨W1.heap.size,0,none⟩) 2 2) 2 [.slice A0 m.live.length c0,.slice A2 m.tok.qp.length c2]) :=
  ⟨rfl,.inr ⟨W1.heap.size,2,_,rfl,Nat.le_refl _,hn2,Nat.le_refl _,by unfold maxLen;omega,rfl,rfl⟩⟩
 have HI2:Hid (IvL w [.slice A0 m.live.length c0,.slice A2 m.tok.qp.length c2] [m.live,m.tok.qp]) :=
  (IvL.snoc (vs:=[.slice A0 m.live.length c0]) (ls:=[m.live]) ⟨rfl,fun i h1 h2=>by
   obtain rfl:i=0:=by simp at h1;exact h1
   exact⟨A0,c0,rfl,ht.live.ints,hsz.live⟩⟩ ⟨A2,c2,rfl,ht.qp.ints,hsz.qp⟩)
 have HS:=QH ht.qc;have qA:=QH hbb;have hk2:=zt.below hb2;have HL1:Hid (W1.heap.size≤W2.heap.size):=hb2.size;have HLW:Hid (w.heap.size≤W1.heap.size):=hb1.size;have tO:=QH hsz;have q0:=zt.cell 0;have q1:=hk2.cell 1;have q8:=zt.cell 8;have ma:=zt.lt;have zaY:=hk2.lt;have h20:=hsz.qc;simp only[zF,QA,QB,QC]at q0 q1 q8;clear ht hsz zt hb1 hb2 hn2 hbb hk2;have HIM:Hid (xq m=m.live::m.tok.qp::m.qc.map (·.qp)):=rfl;unfold zF at hW1 ⊢;go_enter func138,ntmps138;go_upto_region 1 with fail;try rw[hW1]
 clear hW1;go_upto_region 2 with fail;try rw[hW2]
 clear hW2 q0 q8 ma;go_wp2_with fail;go_loopw [3,15] (fun v i wr=>ImR W1.heap.size m w v i wr) (fun _ i _=>m.qc.length-(intOf i).toNat);case atStart=>exact⟨0,_,Nat.zero_le _,rfl,vX.out,HI2.out,qA.out,HL1.out⟩
 case round =>
  obtain⟨k,vs,hk,rfl,ho,hiv,hB,hLR⟩:=hrel;have HLR:=QH hLR;have HO:=QH ho;have HIV:=QH hiv;have HB:=QH hB;clear ho hiv hB;by_cases hlt:k<m.qc.length
  ·have yt:(k:Int)<(m.qc.length:Int):=by omega
   have hk0:¬ (k:Int)<0:=by omega
   obtain⟨b,o,B,c,hA,z1,z2,z3,z4,z5,s6,_⟩:=HS.out k hlt;have s1:=Nat.lt_of_lt_of_le z1 HB.out.size;have s2:=(HB.out.cell (p:=⟨b,o+k*4,none⟩) z1).trans z2;have s3:=(HB.out.cell (p:=⟨b,o+k*4+1,none⟩) z1).trans z3;have s4:=(HB.out.cell (p:=⟨b,o+k*4+2,none⟩) z1).trans z4;have s5:=(HB.out.cell (p:=⟨b,o+k*4+3,none⟩) z1).trans z5;clear z1 z2 z3 z4 z5;have mJ:=QH s6;have jH:Hid ((m.qc.take (k+1)).map (·.qp)=(m.qc.take k).map (·.qp)++[m.qc[k].qp]):=by unfold Hid;rw[List.take_succ_eq_append_getElem hlt,List.map_append];rfl
   have HIL:Hid (m.qc[k].qp.length≤1000):=tO.out.dC _ (List.getElem_mem hlt);subst hA;obtain⟨im,vJ⟩:=QE (m.qc[k].qp);obtain⟨gd,hgd⟩:=QE (m.qc[k].g);obtain⟨hd,hhd⟩:=QE (m.qc[k].hid);rw[vJ]at mJ jH HIL s4;rw[hgd]at s2 s3;rw[hhd]at s5;clear vJ hgd hhd s6;have vk:=(Below.refl _ wr).alloc (Nat.le_refl _) (.cells #[.int .u64 (gd.1:Int),.int .u64 (gd.2:Int),.slice B im.length c,.bool hd] 141);obtain⟨W3,hW3⟩:=QE (wr.alloc (.cells #[.int .u64 (gd.1:Int),.int .u64 (gd.2:Int),.slice B im.length c,.bool hd] 141));have zy:=qf.new wr 141 #[.int .u64 (gd.1:Int),.int .u64 (gd.2:Int),.slice B im.length c,.bool hd];rw[hW3]at vk zy;have r2:=zy.cell 2;have hrl:=zy.lt;simp only[QA,QB,QC]at r2;have hby:=(Below.refl _ W3).alloc (Nat.le_refl _) (.cells #[.slice B im.length c] 80);have hbz:=qa vk hby;have HO4:Hid ((W3.alloc (.cells #[.slice B im.length c] 80)).ownsRow W1.heap.size 80 1 _ (k+2) vs):=qC HO.out (fun j hj=>hbz.block j (HO.out.lt j hj).2);have q4B:Hid (qjE w (.slice B im.length c) im):=⟨B,c,rfl,mJ.out.ints,HIL.out⟩;have zx:=QH (qa HB.out hbz);have HL4:Hid (W1.heap.size≤(W3.alloc (.cells #[.slice B im.length c] 80)).heap.size):=by have h1:=HO.out.2;have:=hbz.size;have:=HLR.out;unfold Hid;omega
   have wI:Hid (∀j u,([.slice B im.length c]:List Value)[j]?=some u→(W3.alloc (.cells #[.slice B im.length c] 80)).cell? ((⟨W3.heap.size,0,none⟩:Addr).add j)=some u):=fun j u hu=>by
    rw[addr_add,Nat.zero_add,(qf.new W3 80 #[.slice B im.length c]).cell j];simpa using hu
   clear vk zy hby hbz;go_wp2_with (at_builtin;refine xm rfl (.tmp 19) (.tmp 22) 218 rfl W1.heap.size 80 i0 (.slice none 0 0) 1 24 underlying218 hi hz0 hz1 hz2 rfl (by decide) _ (k+2) vs rfl HO4.out ⟨W3.heap.size,0,none⟩ 1 1 [.slice B im.length c] rfl rfl wI.out (by intro u hu;simp at hu;subst hu;rfl) (by unfold maxLen;omega) (by omega) (by have:=zx.out.size;have:=HL4.out;omega) ?_);intro v' w1 hown hgrow _;have yw:Hid (Below w.heap.size w w1):=zx.out.grown hgrow zx.out.size (fun j hj=>Nat.le_trans HLW.out (HO4.out.lt j hj).1);have HO5:Hid (w1.ownsRow W1.heap.size 80 1 v' (k+1+2) (vs++[.slice B im.length c])):=by
    have:=hown;rw[show k+2+1=k+1+2 by omega]at this;exact this
   have q4C:Hid (IvL w (vs++[.slice B im.length c]) (m.live::m.tok.qp::(m.qc.take (k+1)).map (·.qp))):=by
    rw[jH.out];exact HIV.out.snoc q4B.out
   have HL5:Hid (W1.heap.size≤w1.heap.size):=Nat.le_trans HL4.out hgrow.size;clear hown hgrow;go_wp2_with fail;go_roundw;case rel=>exact⟨k+1,_,by omega,by go_num,HO5.out,q4C.out,yw.out,HL5.out⟩
   case measure=>simp[intOf];omega
  ·obtain rfl:k=m.qc.length:=by omega
   have yt:¬ (m.qc.length:Int)<(m.qc.length:Int):=by omega
   have hiv:=HIV.out;rw[List.take_length]at hiv;have vJ:=(hiv.below HB.out).ims (B:=W1.heap.size) (by
    have:=HO.out;rw[show m.qc.length+2=(m.live::m.tok.qp::m.qc.map (·.qp)).length by simp]at this;exact this)
   obtain⟨A,c,hv,hx⟩:=vJ;have HX:=QH hx;have HV:=QH hv;clear hiv hx hv;go_wp2_with fail;go_ret;exact⟨A,c,by rw[HV.out];rfl,HX.out,HB.out⟩
end Go.Proofs.YtdpbdkacngaemaaGreatDoor.vt.pg
namespace Go.Proofs.YtdpbdkacngaemaaGreatDoor
open _root_.Go.Proofs.Tryz Go.RowKit
def jd (w:World)(a:Option Addr)(ps:List (List UInt8)):Prop :=
 ∀i (h:i<ps.length),∃b o,a=some ⟨b,o,none⟩∧b<w.heap.size∧w.cell? ⟨b,o+i,none⟩=some (.string (str ps[i]))
def yy (ps:List (List UInt8)):List Value:=ps.map fun p=>Value.string (str p)
theorem px (ps:List (List UInt8)):(yy ps).length=ps.length:=by simp[yy]
theorem fC (ps:List (List UInt8))(p:List UInt8):yy (ps++[p])=yy ps++[.string (str p)]:=by simp[yy]
theorem jd.below{w w':World}{a:Option Addr}{ps:List (List UInt8)}{B:Nat}(h:jd w a ps)(hb:Below B w w')(hB:w.heap.size≤B):jd w' a ps:=by
 intro i hi;obtain⟨b,o,rfl,hlt,hc⟩:=h i hi;exact⟨b,o,rfl,Nat.lt_of_lt_of_le hlt hb.size,by rw[hb.cell (p:=⟨b,o+i,none⟩) (Nat.lt_of_lt_of_le hlt hB)];exact hc⟩
theorem jd.nil(w:World)(a:Option Addr):jd w a []:=fun i h=>absurd h (by simp)
def zM (w:World)(B:Nat)(v:Value)(ps:List (List UInt8)):Prop:=w.ownsRow B 9 1 v ps.length (yy ps)
theorem zM.view{w:World}{B:Nat}{v:Value}{ps:List (List UInt8)}(h:zM w B v ps) :
    ∃a c,v=.slice a ps.length c∧ps.length≤c∧c≤maxLen∧jd w a ps∧(a=none→ps=[])∧(∀x,a=some x→∃g,x=⟨g,0,none⟩∧B≤g∧g<w.heap.size):=by
 rcases h.2 with⟨rfl,h0⟩|⟨g,cap,cur,rfl,hg,hh,hc,hm,_,_⟩
 ·obtain rfl:ps=[]:=List.length_eq_zero_iff.1 h0;exact⟨none,0,rfl,Nat.le_refl _,by decide,jd.nil _ _,fun _=>rfl,fun x hx=>(by cases hx)⟩
 ·have hlt:g<w.heap.size:=(Array.getElem?_eq_some_iff.1 hh).1;refine⟨some ⟨g,0,none⟩,cap,rfl,hc,hm,?_,fun h=>(by cases h),fun x hx=>⟨g,(by cases hx;rfl),hg,hlt⟩⟩;intro i hi;refine⟨g,0,rfl,hlt,?_⟩;have:=World.ownsRow.cellAt h i (by omega);rw[Nat.zero_add,this];simp[yy,hi]
theorem py (ps:List (List UInt8))(w:World):jd (w.alloc (.cells (yy ps).toArray 9)) (some ⟨w.heap.size,0,none⟩) ps:=by
 intro i h;refine⟨w.heap.size,0,rfl,by simp,?_⟩;simp[World.cell?,World.alloc,-World.alloc_eq,yy,h]
theorem qbv{w:World}{B C:Nat}{v:Value}{ps:List (List UInt8)}(h:zM w B v ps)(hc:C≤B):zM w C v ps:=by
 refine⟨h.1,?_⟩;rcases h.2 with hn|⟨g,cap,cur,hv,hb,rest⟩
 ·exact .inl hn
 ·exact .inr ⟨g,cap,cur,hv,Nat.le_trans hc hb,rest⟩
theorem aV {w w':World}{B:Nat}{v:Value}{ps:List (List UInt8)}(h:zM w B v ps)(hb:Below w.heap.size w w'):zM w' B v ps:=by
 refine⟨h.1,?_⟩;rcases h.2 with hn|⟨g,cap,cur,hv,hB,hg,rest⟩
 ·exact .inl hn
 ·exact .inr ⟨g,cap,cur,hv,hB,by rw[hb.block g (Array.getElem?_eq_some_iff.1 hg).1];exact hg,rest⟩
theorem fD (ps:List (List UInt8))(k:Nat)(h:k<ps.length):(ps.take (k+1)).flatten=(ps.take k).flatten++ps[k]:=by
 rw[List.take_succ_eq_append_getElem h,List.flatten_append];simp only[List.flatten_cons,List.flatten_nil,List.append_nil]
theorem iZ (ps:List (List UInt8))(k:Nat):(ps.take k).flatten.length≤ps.flatten.length:=by
 have h:ps.flatten=(ps.take k).flatten++(ps.drop k).flatten:=by rw[← List.flatten_append,List.take_append_drop]
 rw[h];simp
def qr9 (ps:List (List UInt8))(w:World)(i:Value)(wr:World):Prop :=
 ∃k:Nat,k≤ps.length∧i=.int .i64 (k:Int)∧Lib.IsBuilder 296 5 w.heap.size w.heap.size (Lib.byteCells (ps.take k).flatten) wr∧Below w.heap.size w wr
theorem pz (a:Option Addr)(c:Nat)(ps:List (List UInt8))(w:World)(hc:jd w a ps)(hl:ps.length≤4611686018427387904)(hs:ps.flatten.length≤140737488355328) :
    Calls prog 178 #[.slice a ps.length c] w (sY (str ps.flatten) w):=by
 have h0:Lib.IsBuilder 296 5 w.heap.size w.heap.size [] (w.alloc (.cells #[.pointer none,.slice none 0 0] 296)):=Lib.fresh_isBuilder 296 5 w;have b0:Below w.heap.size w (w.alloc (.cells #[.pointer none,.slice none 0 0] 296)):=(Below.refl _ w).alloc (Nat.le_refl _) _;have HC:=QH hc;clear hc;go_enter func178,ntmps178;go_wp2;go_loopw [8] (fun i wr=>qr9 ps w i wr) (fun i _=>ps.length-(intOf i).toNat);case atStart=>exact⟨0,Nat.zero_le _,rfl,by simpa[Lib.byteCells]using h0,b0⟩
 case round =>
  clear h0 b0;obtain⟨k,hk,rfl,hI,hB⟩:=hrel;by_cases hlt:k<ps.length
  ·obtain⟨b,o,rfl,hb,ov⟩:=HC.out k hlt;have hcell:wr.cell? ⟨b,o+k,none⟩=some (.string (str ps[k])):=by
    rw[hB.cell (p:=⟨b,o+k,none⟩) hb];exact ov
   have gW:=fD ps k hlt;have hfm:=iZ ps (k+1);have hbp:=zw ps[k];have hsz:=qN ps[k];have hlen:(Lib.byteCells (ps.take k).flatten).length+(str ps[k]).size≤140737488355328:=by
    rw[Lib.byteCells_length,hsz];rw[gW,List.length_append]at hfm;omega
   have Hfl:=QH gW;have Hbp:=QH hbp;clear gW hfm hbp ov hsz;generalize str ps[k]=s at *;go_wp2_with (go_at_call 235;refine(Tryz.Builder_WriteString w.heap.size w.heap.size _ s _ hI hlen hB.size).mono ?_);rintro e W2 ⟨rfl,h2,b2⟩;have h2':Lib.IsBuilder 296 5 w.heap.size w.heap.size (Lib.byteCells (ps.take (k+1)).flatten) W2:=by
    rw[Lib.strCells_eq,← Lib.byteCells_append]at h2;rw[Hfl.out,← Hbp.out];exact Or.inr h2
   have b2':=hB.trans b2;clear h2 b2 hI hB;go_wp2;go_roundw;case rel=>exact⟨k+1,by omega,by go_num,h2',b2'⟩
   case measure=>simp[intOf];omega
  ·have dA:k=ps.length:=by omega
   subst dA;rw[List.take_length]at hI;go_wp2_with (go_at_call 237;refine(Tryz.Builder_String_any w.heap.size w.heap.size _ _ hI hB.size).mono ?_);rintro e W2 ⟨rfl,b2⟩;have b2':=hB.trans b2;clear b2 hI hB;go_wp2;go_ret;exact⟨rfl,b2'⟩
def qbw:Nat→Nat→List UInt8
 | 0,_=>[]
 | k+1,n=>qbw k (n/256)++[UInt8.ofNat (n%256)]
theorem qnC(n:Nat):qbw 2 n=mL n:=rfl
theorem qjF(n:Nat):qbw 4 n=be4 n:=by
 simp[qbw,be4,Nat.div_div_eq_div_mul]
def yu (D:List UInt8)(k:Nat):List Value:=List.replicate k (.int .u8 0)++Lib.byteCells (D.drop k)
def qrA (D:List UInt8)(w:World)(n i:Value)(wr:World):Prop :=
 ∃k m:Nat,i=.int .i64 ((k:Int)-1)∧n=.int .u32 (m:Int)∧m<4294967296∧qbw k m=D.take k∧k≤D.length ∧
  wr.ownsRow w.heap.size 5 1 (.slice (some ⟨w.heap.size,0,none⟩) D.length D.length) D.length (yu D k)∧Below w.heap.size w wr
theorem sL (D:List UInt8)(k:Nat)(h:k<D.length):(yu D (k+1)).set k (.int .u8 (D[k].toNat:Int))=yu D k:=by
 unfold yu;rw[List.replicate_succ',List.append_assoc,List.set_append_right _ _ (by simp),List.length_replicate,Nat.sub_self,List.drop_eq_getElem_cons h];rfl
theorem qjG(D:List UInt8)(m k:Nat)(hk:k<D.length)(h:qbw (k+1) m=D.take (k+1)) :
    qbw k (m/256)=D.take k∧D[k].toNat=m%256:=by
 have e:qbw k (m/256)++[UInt8.ofNat (m%256)]=D.take (k+1):=h;rw[List.take_succ_eq_append_getElem hk]at e;have e':=List.append_inj' e rfl;refine⟨e'.1,?_⟩;have:=e'.2;simp at this;rw[← this,kG _ (by omega)]
theorem fE (n:Nat)(D:List UInt8)(w:World)(hn:n<4294967296)(hl:D.length≤100)(hD:qbw D.length n=D) :
    Calls prog 175 #[.int .u32 (n:Int),.int .i64 (D.length:Int)] w (sY (str D) w):=by
 obtain⟨i0,hi,hz0,hz1,hz2⟩:=info_parts Tryz.nI;have hmk:=run_make (P:=prog) w 64 5 i0 (.int .u8 0) underlying64 hi hz0 .i64 .i64 (D.length:Int) (D.length:Int) (by omega) (by omega) (by rw[hz2];omega) (by omega);have qlW:(w.alloc (.cells (madeCells #[.int .u8 0] D.length) 5)).ownsRow w.heap.size 5 1 (.slice (some ⟨w.heap.size,0,none⟩) D.length D.length) D.length (yu D D.length):=by
  have:=World.ownsRow_lit (e:=5) (size:=1) (base:=w.heap.size) w (madeCells #[.int .u8 0] D.length) D.length (Nat.le_refl _) (by unfold maxLen;omega) (by simp[size_madeCells]);have e:(madeCells #[.int .u8 0] D.length).toList=yu D D.length:=by
   apply List.ext_getElem?;intro j;by_cases hj:j<D.length <;> simp[madeCells,yu,Lib.byteCells,hj,Nat.mod_one]
  rw[← e];exact this
 have hb0:Below w.heap.size w (w.alloc (.cells (madeCells #[.int .u8 0] D.length) 5)):=(Below.refl _ _).alloc (Nat.le_refl _) _;have HD:=QH hD;clear hD;rw[hz1]at hmk;clear hi hz0 hz1 hz2;go_enter func175,ntmps175;go_wp2;go_loopw [0,6] (fun n' i wr=>qrA D w n' i wr) (fun _ i _=>(intOf i+1).toNat);case atStart=>exact⟨D.length,n,rfl,rfl,hn,by rw[HD.out];simp,Nat.le_refl _,qlW,hb0⟩
 case round =>
  obtain⟨k,m,rfl,rfl,hm,hd,hk,hown,hb⟩:=hrel;cases k with
  | zero =>
   have hcv:=run_convert_bytes_back (P:=prog) wr 64 9 5 ⟨w.heap.size,0,none⟩ D.length D underlying64 underlying5 underlying9 (by
    intro j hj;have:=hown.cellAt j (by omega);rw[addr_add,Nat.zero_add,this];simp[yu,Lib.byteCells,List.getElem?_eq_getElem hj])
   have qyv:(convert 64 9 (.slice (some ⟨w.heap.size,0,none⟩) D.length D.length)).run prog wr=.ok (.string (str D)) wr:=hcv;clear hcv;go_wp2;go_ret;exact⟨rfl,hb⟩
  | succ k =>
   have hx:=hown.cellAt k (by omega);rw[show(yu D (k+1))[k]?=some (.int .u8 0)from by simp[yu,List.getElem?_append]]at hx;have hf:=hown.frozenAt k;have hs:=hown.stored k (.int .u8 ((D[k]'(by omega)).toNat:Int));rw[sL _ _ (by omega)]at hs;obtain⟨hs1,hs2⟩:=hs;obtain⟨hd',bC⟩:=qjG D m k (by omega) hd;have Hs1:=QH hs1;have Hs2:=QH hs2;have Hd:=QH hd';have Hl:=QH bC;clear hs1 hs2 hd' bC hd hown;go_wp2;have e:((m:Int)%256)=((D[k]'(by omega)).toNat:Int):=by rw[Hl.out];omega
   rw[e];exact⟨⟨k,m/256,rfl,rfl,by omega,Hd.out,by omega,Hs1.out,hb.grown Hs2.out (by have:=hb.size;omega) (fun j hj=>by cases hj;exact Nat.le_refl _)⟩,by simp[intOf]⟩
theorem qdn(n:Nat)(w:World)(hn:n<4294967296):Calls prog 175 #[.int .u32 (n:Int),.int .i64 2] w (sY (str (mL n)) w) :=
 fE n (mL n) w hn (by show 2≤100;decide) (qnC n)
theorem qbx(n:Nat)(w:World)(hn:n<4294967296):Calls prog 175 #[.int .u32 (n:Int),.int .i64 4] w (sY (str (be4 n)) w) :=
 fE n (be4 n) w hn (by show 4≤100;decide) (qjF n)
def qhR (r:Option (List UInt8))(w:World)(e:Ending)(w':World):Prop :=
 e=.returned (.tuple #[.string (str (r.getD [])),.bool r.isSome])∧Below w.heap.size w w'
theorem qby(n:Nat)(h:n<9223372036854775808):IntKind.i64.wrap (n:Int)=(n:Int):=by
 have e:(n:Int)%2 ^ 64=n:=Int.emod_eq_of_lt (by omega) (by omega);simp only[IntKind.wrap,IntKind.bits,IntKind.signed,e];rw[if_neg];simp;omega
theorem qnD(a b:Nat)(ha:a<256)(hb:b<256):bits .or .i64 ((a:Int)*256) (b:Int)=((256*a+b:Nat):Int):=by
 have e:((a:Int)*256)=((a*256:Nat):Int):=by omega
 rw[e];show IntKind.i64.wrap ((BitVec.ofInt 64 ((a*256:Nat):Int) ||| BitVec.ofInt 64 (b:Int)).toNat:Int)=_;rw[BitVec.toNat_or,ofInt_u64 _ (by omega),ofInt_u64 b (by omega)];have e2:a*256 ||| b=256*a+b:=by
  rw[show a*256=a <<< 8 from by rw[Nat.shiftLeft_eq],← Nat.shiftLeft_add_eq_or_of_lt (by omega),Nat.shiftLeft_eq];omega
 rw[e2];exact qby _ (by omega)
theorem qbz(s:ByteArray)(w:World)(h6:s.size<6) :
    Calls prog 198 #[.string s] w (qhR (sH (bl s)) w):=by
 rw[qfI (bl s) (by rw[zj];exact h6)];go_enter func198,ntmps198;go_wp2;go_ret2;exact⟨rfl,Below.refl _ _⟩
theorem qdo(s:ByteArray)(w:World)(hs:s.size≤140737488355328)(h6:6≤s.size) :
    Calls prog 198 #[.string s] w (qhR (sH (bl s)) w):=by
 have hi:=qhI (bl s) (by rw[zj];exact h6);have h0:=(s[0]'(by omega)).toNat_lt;have h1:=(s[1]'(by omega)).toNat_lt;have qnE:=qnD _ _ h0 h1;obtain⟨n,hn⟩:∃n:Nat,n=256*(s[0]'(by omega)).toNat+(s[1]'(by omega)).toNat:=⟨_,rfl⟩;have e0:(bl s)[0]'(by rw[zj];omega)=s[0]'(by omega):=rfl;have e1:(bl s)[1]'(by rw[zj];omega)=s[1]'(by omega):=rfl;rw[e0,e1,← hn,zj]at hi;rw[← hn]at qnE;have w0:wrap64 ((s[0]'(by omega)).toNat:Int)=((s[0]'(by omega)).toNat:Int):=by unfold wrap64;omega
 have w1:wrap64 ((s[1]'(by omega)).toNat:Int)=((s[1]'(by omega)).toNat:Int):=by unfold wrap64;omega
 have w2:wrap64 (((s[0]'(by omega)).toNat:Int)*256)=((s[0]'(by omega)).toNat:Int)*256:=by unfold wrap64;omega
 have hw:bits .or .i64 (wrap64 (wrap64 ((s[0]'(by omega)).toNat:Int)*256)) (wrap64 ((s[1]'(by omega)).toNat:Int))=(n:Int):=by rw[w0,w1,w2];exact qnE
 have Hw:=QH hw;clear qnE w0 w1 w2 hw;have hnl:n<65536:=by omega
 have j0:0<s.size:=by omega
 have j1:1<s.size:=by omega
 have i0:(0:Int)<(s.size:Int):=by omega
 have i1:(1:Int)<(s.size:Int):=by omega
 have Hi:=QH hi;clear hi hn e0 e1 h0 h1;go_enter func198,ntmps198;go_wp2;go_quiet (fail);rw[Hw.out];have hz:(s.extract 6 s.size).size=s.size-6:=by simp
 have hx:bl (s.extract 6 s.size)=(bl s).drop 6:=qht s 6;have Hx:=QH hx;clear hx;generalize s.extract 6 s.size=t at *;by_cases hlt:s.size-6<n
 ·have hc:(t.size:Int)<(n:Int):=by omega
  go_wp2;go_ret2;exact⟨by rw[Hi.out,if_pos hlt];rfl,below_drewN (Below.refl _ _) _⟩
 ·have hc:¬ (t.size:Int)<(n:Int):=by omega
  go_wp2;go_ret2;refine⟨?_,below_drewN (Below.refl _ _) _⟩;rw[Hi.out,if_neg hlt];have:t.extract 0 n=str (((bl s).drop 6).take n):=by rw[← Hx.out,← qqv,il]
  rw[this];rfl
theorem pA (s:ByteArray)(w:World)(hs:s.size≤140737488355328) :
    Calls prog 198 #[.string s] w (qhR (sH (bl s)) w):=by
 by_cases h:s.size<6
 ·exact qbz s w h
 ·exact qdo s w hs (by omega)
theorem qgj(w:World)(x:ByteArray) :
    (Builtin.copy_ #[64,9] 3 #[.slice (some ⟨w.heap.size,0,none⟩) 32 32,.string x]).run prog (w.alloc (.cells #[Value.int IntKind.u8 0,Value.int IntKind.u8 0,Value.int IntKind.u8 0,Value.int IntKind.u8 0,Value.int IntKind.u8 0,Value.int IntKind.u8 0,Value.int IntKind.u8 0,Value.int IntKind.u8 0,Value.int IntKind.u8 0,Value.int IntKind.u8 0,Value.int IntKind.u8 0,Value.int IntKind.u8 0,Value.int IntKind.u8 0,Value.int IntKind.u8 0,Value.int IntKind.u8 0,Value.int IntKind.u8 0,Value.int IntKind.u8 0,Value.int IntKind.u8 0,Value.int IntKind.u8 0,Value.int IntKind.u8 0,Value.int IntKind.u8 0,Value.int IntKind.u8 0,Value.int IntKind.u8 0,Value.int IntKind.u8 0,Value.int IntKind.u8 0,Value.int IntKind.u8 0,Value.int IntKind.u8 0,Value.int IntKind.u8 0,Value.int IntKind.u8 0,Value.int IntKind.u8 0,Value.int IntKind.u8 0,Value.int IntKind.u8 0] 145)) =
     .ok (.int .i64 ((min x.size 32:Nat):Int)) (w.alloc (.cells (Lib.byteCells (pad ((bl x).take 32))).toArray 145)):=by
 obtain⟨i0,hi,hz0,hz1,hz2⟩:=info_parts Tryz.nI;have hlen:(Lib.byteCells ((bl x).take 32)).length=min x.size 32:=by rw[Lib.byteCells_length,List.length_take,zj,Nat.min_comm]
 have hst:=run_storeCells_at prog w.heap.size 0 145 (Lib.byteCells ((bl x).take 32)) 0 #[Value.int IntKind.u8 0,Value.int IntKind.u8 0,Value.int IntKind.u8 0,Value.int IntKind.u8 0,Value.int IntKind.u8 0,Value.int IntKind.u8 0,Value.int IntKind.u8 0,Value.int IntKind.u8 0,Value.int IntKind.u8 0,Value.int IntKind.u8 0,Value.int IntKind.u8 0,Value.int IntKind.u8 0,Value.int IntKind.u8 0,Value.int IntKind.u8 0,Value.int IntKind.u8 0,Value.int IntKind.u8 0,Value.int IntKind.u8 0,Value.int IntKind.u8 0,Value.int IntKind.u8 0,Value.int IntKind.u8 0,Value.int IntKind.u8 0,Value.int IntKind.u8 0,Value.int IntKind.u8 0,Value.int IntKind.u8 0,Value.int IntKind.u8 0,Value.int IntKind.u8 0,Value.int IntKind.u8 0,Value.int IntKind.u8 0,Value.int IntKind.u8 0,Value.int IntKind.u8 0,Value.int IntKind.u8 0,Value.int IntKind.u8 0] (w.alloc (.cells #[Value.int IntKind.u8 0,Value.int IntKind.u8 0,Value.int IntKind.u8 0,Value.int IntKind.u8 0,Value.int IntKind.u8 0,Value.int IntKind.u8 0,Value.int IntKind.u8 0,Value.int IntKind.u8 0,Value.int IntKind.u8 0,Value.int IntKind.u8 0,Value.int IntKind.u8 0,Value.int IntKind.u8 0,Value.int IntKind.u8 0,Value.int IntKind.u8 0,Value.int IntKind.u8 0,Value.int IntKind.u8 0,Value.int IntKind.u8 0,Value.int IntKind.u8 0,Value.int IntKind.u8 0,Value.int IntKind.u8 0,Value.int IntKind.u8 0,Value.int IntKind.u8 0,Value.int IntKind.u8 0,Value.int IntKind.u8 0,Value.int IntKind.u8 0,Value.int IntKind.u8 0,Value.int IntKind.u8 0,Value.int IntKind.u8 0,Value.int IntKind.u8 0,Value.int IntKind.u8 0,Value.int IntKind.u8 0,Value.int IntKind.u8 0] 145)) (heap_alloc_new w _) (by rw[hlen];simp;omega) (Lib.byteCells_one _);rw[World.setRow_alloc_new,hlen]at hst;have hrow:(List.take (0+0) (#[Value.int IntKind.u8 0,Value.int IntKind.u8 0,Value.int IntKind.u8 0,Value.int IntKind.u8 0,Value.int IntKind.u8 0,Value.int IntKind.u8 0,Value.int IntKind.u8 0,Value.int IntKind.u8 0,Value.int IntKind.u8 0,Value.int IntKind.u8 0,Value.int IntKind.u8 0,Value.int IntKind.u8 0,Value.int IntKind.u8 0,Value.int IntKind.u8 0,Value.int IntKind.u8 0,Value.int IntKind.u8 0,Value.int IntKind.u8 0,Value.int IntKind.u8 0,Value.int IntKind.u8 0,Value.int IntKind.u8 0,Value.int IntKind.u8 0,Value.int IntKind.u8 0,Value.int IntKind.u8 0,Value.int IntKind.u8 0,Value.int IntKind.u8 0,Value.int IntKind.u8 0,Value.int IntKind.u8 0,Value.int IntKind.u8 0,Value.int IntKind.u8 0,Value.int IntKind.u8 0,Value.int IntKind.u8 0,Value.int IntKind.u8 0]:Array Value).toList++Lib.byteCells ((bl x).take 32)++List.drop (0+0+min x.size 32) (#[Value.int IntKind.u8 0,Value.int IntKind.u8 0,Value.int IntKind.u8 0,Value.int IntKind.u8 0,Value.int IntKind.u8 0,Value.int IntKind.u8 0,Value.int IntKind.u8 0,Value.int IntKind.u8 0,Value.int IntKind.u8 0,Value.int IntKind.u8 0,Value.int IntKind.u8 0,Value.int IntKind.u8 0,Value.int IntKind.u8 0,Value.int IntKind.u8 0,Value.int IntKind.u8 0,Value.int IntKind.u8 0,Value.int IntKind.u8 0,Value.int IntKind.u8 0,Value.int IntKind.u8 0,Value.int IntKind.u8 0,Value.int IntKind.u8 0,Value.int IntKind.u8 0,Value.int IntKind.u8 0,Value.int IntKind.u8 0,Value.int IntKind.u8 0,Value.int IntKind.u8 0,Value.int IntKind.u8 0,Value.int IntKind.u8 0,Value.int IntKind.u8 0,Value.int IntKind.u8 0,Value.int IntKind.u8 0,Value.int IntKind.u8 0]:Array Value).toList)=Lib.byteCells (pad ((bl x).take 32)):=by
  have hz:(#[Value.int IntKind.u8 0,Value.int IntKind.u8 0,Value.int IntKind.u8 0,Value.int IntKind.u8 0,Value.int IntKind.u8 0,Value.int IntKind.u8 0,Value.int IntKind.u8 0,Value.int IntKind.u8 0,Value.int IntKind.u8 0,Value.int IntKind.u8 0,Value.int IntKind.u8 0,Value.int IntKind.u8 0,Value.int IntKind.u8 0,Value.int IntKind.u8 0,Value.int IntKind.u8 0,Value.int IntKind.u8 0,Value.int IntKind.u8 0,Value.int IntKind.u8 0,Value.int IntKind.u8 0,Value.int IntKind.u8 0,Value.int IntKind.u8 0,Value.int IntKind.u8 0,Value.int IntKind.u8 0,Value.int IntKind.u8 0,Value.int IntKind.u8 0,Value.int IntKind.u8 0,Value.int IntKind.u8 0,Value.int IntKind.u8 0,Value.int IntKind.u8 0,Value.int IntKind.u8 0,Value.int IntKind.u8 0,Value.int IntKind.u8 0]:Array Value).toList=List.replicate 32 (Value.int IntKind.u8 0):=rfl;rw[hz,List.drop_replicate];simp[pad,Lib.byteCells,zj,Nat.min_comm]
 rw[hrow]at hst;have rV:List.take (x.size.min 32) (List.map (fun b:UInt8=>Value.int IntKind.u8 (b.toNat:Int)) x.data.toList)=Lib.byteCells ((bl x).take 32):=by
  unfold Lib.byteCells bl;rw[← List.map_take]
  congr 1
  show List.take (min x.size 32) x.data.toList=_;rw[show x.size=x.data.toList.length from(zj x).symm,Nat.min_comm,← List.take_take,List.take_length]
 simp[Builtin.copy_,run_underlying underlying64,Builtin.lenOf,Builtin.firstCells,sizeOf,typeInfo,hi];rw[rV,hst];simp[Result.andThen];rfl
def qrB (f:List UInt8)(w:World)(v left:Value)(wr:World):Prop :=
 ∃k:Nat,left=.string (str (f.drop (32*k)))∧32*k<f.length+32∧zM wr w.heap.size v (wy k f)∧Below w.heap.size w wr
def qv5 (ps:List (List UInt8))(w:World)(e:Ending)(w':World):Prop :=
 ∃v,e=.returned v∧zM w' w.heap.size v ps∧Below w.heap.size w w'
theorem qjH(w:World)(P:List UInt8)(h:P.length=32) :
    (convert 64 9 (.slice (some ⟨w.heap.size,0,none⟩) 32 32)).run prog (w.alloc (.cells (Lib.byteCells P).toArray 145))=.ok (.string (str P)) (w.alloc (.cells (Lib.byteCells P).toArray 145)):=by
 have:=run_convert_bytes_back (P:=prog) (w.alloc (.cells (Lib.byteCells P).toArray 145)) 64 9 5 ⟨w.heap.size,0,none⟩ 32 P underlying64 underlying5 underlying9 (by
  intro j hj;rw[addr_add,Nat.zero_add];simp[World.cell?,World.alloc,-World.alloc_eq,Lib.byteCells,hj])
 rw[h]at this;exact this
theorem qrC{wr:World}{B:Nat}{v:Value}{ps:List (List UInt8)}(h:zM wr B v ps)(A:Array Value)(p:List UInt8) :
    ((wr.alloc (.cells A 145)).alloc (.cells #[.string (str p)] 9)).ownsRow B 9 1 v ps.length (yy ps) :=
 World.ownsRow.alloc (World.ownsRow.alloc h (.cells A 145)) (.cells #[.string (str p)] 9)
theorem qjI(w:World)(o:Obj)(p:List UInt8) :
    ∀j u,([Value.string (str p)]:List Value)[j]?=some u→((w.alloc o).alloc (.cells #[.string (str p)] 9)).cell? ((⟨w.heap.size+1,0,none⟩:Addr).add j)=some u:=by
 intro j u hj
 match j,hj with
 | 0,hj =>
  simp at hj;subst hj;obtain⟨b,q,he,_,hc⟩:=py [p] (w.alloc o) 0 (by simp);rw[addr_add];simp only[Option.some.injEq,Addr.mk.injEq,and_true]at he;obtain⟨h1,h2⟩:=he;have hsz:(w.alloc o).heap.size=w.heap.size+1:=by simp
  rw[← h1,← h2,hsz]at hc;exact hc
theorem qah{w:World}{B:Nat}{v:Value}{ps:List (List UInt8)}{p:List UInt8}{k:Nat}(hl:ps.length=k)(h:w.ownsRow B 9 1 v (k+1) (yy ps++[.string (str p)])):zM w B v (ps++[p]):=by
 unfold zM;rw[fC,List.length_append,hl];exact h
theorem nj (f:List UInt8)(w:World)(hs:f.length≤1000000) :
    Calls prog 177 #[.string (str f)] w (qv5 (wy ((f.length+31)/32) f) w):=by
 obtain⟨i0,hi,hz0,hz1,hz2⟩:=info_parts Tryz.qlT;have hd0:str (f.drop (32*0))=str f:=by simp
 have Hd0:=QH hd0;clear hd0;go_enter func177,ntmps177;go_wp2;go_loopw [3,4] (fun v left wr=>qrB f w v left wr) (fun _ left _=>match left with | .string x=>x.size|_=>0);case atStart=>exact⟨0,by rw[Hd0.out],by omega,World.ownsRow_nil _ _ _ _,Below.refl _ _⟩
 case round =>
  obtain⟨k,rfl,hk,hown,hB⟩:=hrel;by_cases hlt:32*k<f.length
  ·have hz:=qN (f.drop (32*k));rw[List.length_drop]at hz;have hq:(str (f.drop (32*k))).toList.isEmpty=false:=by
    rw[aD,zw,List.isEmpty_eq_false_iff];intro h;have:=congrArg List.length h;simp at this;omega
   have eo:=qgj wr (str (f.drop (32*k)));have hcv:=qjH wr (pad (uK f k)) (oA _ (gM _ _));have qnF:(bl (str (f.drop (32*k)))).take 32=uK f k:=by rw[zw];rfl
   rw[qnF]at eo;have qt6:(str (f.drop (32*k))).extract (min (str (f.drop (32*k))).size 32) (str (f.drop (32*k))).size=str (f.drop (32*(k+1))):=by
    rw[← il (ByteArray.extract _ _ _),qht,zw,List.drop_drop,hz]
    congr 1
    by_cases h:f.length-32*k≤32
    ·rw[Nat.min_eq_left h,List.drop_of_length_le (by omega),List.drop_of_length_le (by omega)]
    ·rw[Nat.min_eq_right (by omega)];rw[show 32*(k+1)=32*k+32 from by omega]
   have qt7:=qfG k f;have hlen:=qbf k f;have hvl:=px (wy k f);have qt8:(str (f.drop (32*(k+1)))).size<(str (f.drop (32*k))).size:=by rw[hz,qN,List.length_drop];omega
   have hxs:0<(str (f.drop (32*k))).size:=by omega
   have Hz:=QH hz;clear hz;have qt9:=QH qt6;have qzP:=QH qt7;have qzQ:=QH qt8;clear qt6 qt7 qt8 qnF;generalize str (f.drop (32*k))=x at *;generalize pad (uK f k)=p at *;generalize (Lib.byteCells p).toArray=A at *;have hown2:=qrC hown A p;rw[hlen]at hown2;have hB2:=zN (zN hB (.cells A 145)) (.cells #[.string (str p)] 9);have qtA:=QH hown2;have hnews:=qjI wr (.cells A 145) p;have h1c:∀u∈([Value.string (str p)]:List Value),u.oneCell'=true:=by
    intro u hu;simp at hu;subst hu;rfl
   have qzR:=QH hnews;have H1c:=QH h1c;have qzS:=hB2.size;clear hnews h1c hown2 hown hB;go_wp2_with (at_builtin;refine wpList_append_own _ rfl (.tmp 13) (.tmp 16) 57 rfl w.heap.size 9 i0 (.string ByteArray.empty) 1 16 underlying57 hi hz0 hz1 hz2 rfl (by decide) _ k _ rfl qtA.out ⟨wr.heap.size+1,0,none⟩ 1 1 [.string (str p)] rfl rfl qzR.out H1c.out ?_ ?_ qzS ?_)
   ·unfold maxLen;omega
   ·omega
   ·intro v' w1 hown1 hgrow _;have hn1:=qah hlen hown1;have hb1:=hB2.grown hgrow qzS (fun j hj=>(qtA.out.lt j hj).1);rw[← qzP.out]at hn1;clear hown1 hgrow hB2 eo hcv;go_wp2;go_roundw;case rel=>exact⟨k+1,by rw[← qt9.out],by omega,hn1,hb1⟩
    case measure=>have:=qzQ.out;rw[← qt9.out]at this;simpa using this
  ·have dA:(f.length+31)/32=k:=by omega
   have hq:(str (f.drop (32*k))).toList.isEmpty=true:=by
    rw[aD,zw,List.drop_of_length_le (by omega)];rfl
   have Hk:=QH dA;clear dA;generalize str (f.drop (32*k))=x at *;go_wp2;go_ret;exact⟨_,rfl,by rw[Hk.out];exact hown,hB⟩
def qv6 (b:Bool)(w:World)(e:Ending)(w':World):Prop:=e=.returned (.bool b)∧Below w.heap.size w w'
def qv7 (ps qs:List (List UInt8))(w:World)(i:Value)(wr:World):Prop :=
 ∃k:Nat,k≤ps.length∧i=.int .i64 (k:Int)∧ps.take k=qs.take k∧Below w.heap.size w wr
theorem qb0(ps qs:List (List UInt8))(k:Nat)(h1:k<ps.length)(h2:k<qs.length)(h:ps.take k=qs.take k)(e:ps[k]=qs[k]):ps.take (k+1)=qs.take (k+1):=by
 rw[List.take_succ_eq_append_getElem h1,List.take_succ_eq_append_getElem h2,h,e]
theorem aI (a b:Option Addr)(c d:Nat)(ps qs:List (List UInt8))(w:World)(hp:jd w a ps)(hq:jd w b qs)(hl:ps.length≤4611686018427387904)(hm:qs.length≤4611686018427387904) :
    Calls prog 199 #[.slice a ps.length c,.slice b qs.length d] w (qv6 (decide (ps=qs)) w):=by
 have HP:=QH hp;have HQ:=QH hq;clear hp hq;by_cases hlen:ps.length=qs.length
 ·go_enter func199,ntmps199;go_wp2;go_loopw [13] (fun i wr=>qv7 ps qs w i wr) (fun i _=>ps.length-(intOf i).toNat);case atStart=>exact⟨0,Nat.zero_le _,rfl,rfl,Below.refl _ _⟩
  case round =>
   obtain⟨k,hk,rfl,ht,hB⟩:=hrel;have Ht:=QH ht;clear ht;by_cases hlt:k<ps.length
   ·have hlq:k<qs.length:=by omega
    obtain⟨b1,o1,rfl,hb1,hc1⟩:=HP.out k hlt;obtain⟨b2,o2,rfl,hb2,hc2⟩:=HQ.out k hlq;have qff:wr.cell? ⟨b1,o1+k,none⟩=some (.string (str ps[k])):=by rw[hB.cell (p:=⟨b1,o1+k,none⟩) hb1];exact hc1
    have qaI:wr.cell? ⟨b2,o2+k,none⟩=some (.string (str qs[k])):=by rw[hB.cell (p:=⟨b2,o2+k,none⟩) hb2];exact hc2
    have q3T:b1<wr.heap.size:=Nat.lt_of_lt_of_le hb1 hB.size;have q3U:b2<wr.heap.size:=Nat.lt_of_lt_of_le hb2 hB.size;have hi1:(k:Int)<(ps.length:Int):=by omega
    have hi2:(k:Int)<(qs.length:Int):=by omega
    have hbq:((str ps[k]).toList == (str qs[k]).toList)=decide (ps[k]=qs[k]):=by rw[qeI,zw]
    have Hbq:=QH hbq;clear hc1 hc2 hbq;generalize str ps[k]=x at *;generalize str qs[k]=y at *;go_wp2;go_quiet (fail);have hbq:=Hbq.out;generalize (x.toList == y.toList)=q at *;have hB2:=below_drewN hB nq;by_cases he:ps[k]=qs[k]
    ·have hqt:q=true:=by rw[hbq];simpa using he
     have hsn:=QH (qb0 ps qs k hlt hlq Ht.out he);clear hbq he;subst hqt;go_wp2;go_roundw;case rel=>exact⟨k+1,by omega,by go_num,hsn.out,hB2⟩
     case measure=>simp[intOf];omega
    ·have hqt:q=false:=by rw[hbq];simpa using he
     have hne:decide (ps=qs)=false:=by
      simp only[decide_eq_false_iff_not];rintro rfl;exact he rfl
     have Hne:=QH hne;clear hbq he hne;subst hqt;go_wp2;go_ret;exact⟨by rw[Hne.out];rfl,hB2⟩
   ·have dA:k=ps.length:=by omega
    have heq:decide (ps=qs)=true:=by
     have:=Ht.out;rw[List.take_of_length_le (by omega),List.take_of_length_le (by omega)]at this;simpa using this
    have Heq:=QH heq;clear heq;go_wp2;go_ret;exact⟨by rw[Heq.out];rfl,hB⟩
 ·have hne:decide (ps=qs)=false:=by
     simp only[decide_eq_false_iff_not];rintro rfl;exact hlen rfl
  have gZ:¬ (ps.length:Int)=(qs.length:Int):=by omega
  have Hne:=QH hne;clear hne;go_enter func199,ntmps199;go_wp2;go_ret;exact⟨by rw[Hne.out];rfl,Below.refl _ _⟩
def qnG (s:ByteArray)(w:World)(e:Ending)(w':World):Prop :=
 ∃v,e=.returned (.tuple #[v,.int .i64 0])∧zM w' w.heap.size v (qK (bl s))∧Below w.heap.size w w'
theorem qgk(a b:List UInt8)(s:ByteArray)(w:World):jd (w.alloc (.cells #[.string (str a),.string (str b),.string s] 9)) (some ⟨w.heap.size,0,none⟩) [a,b,bl s]:=by
 have:=py [a,b,bl s] w;simp only[yy,List.map_cons,List.map_nil,il]at this;exact this
theorem qjJ(s:ByteArray)(w:World)(hs:8192<s.size) :
    Calls prog 101 #[.string s] w fun e w'=>e=.returned (.tuple #[.slice none 0 0,.int .i64 3])∧Below w.heap.size w w':=by
 have hc:(8192:Int)<(s.size:Int):=by omega
 go_enter func101,ntmps101;go_wp2;go_ret2;exact⟨rfl,Below.refl _ _⟩
theorem qdq(t:List UInt8):[mL t.length,be4 (vM t),t].flatten=mM t:=by simp[mM,headB]
theorem fF (s:ByteArray)(w:World)(hs:s.size≤8192)(ht:xY w) :
    Calls prog 101 #[.string s] w (qnG s w):=by
 have HT:=QH ht;have hg:=ht.1;clear ht;have hn:=qjg (bl s);have gW:=qdq (bl s);rw[zj]at gW;have hrl:=dS (bl s);rw[zj]at hrl;have hns:(mM (bl s)).length+31=(bl s).length+37:=by rw[hrl,zj]
 have qai:wy (((mM (bl s)).length+31)/32) (mM (bl s))=qK (bl s):=by rw[hns];rfl
 have Hfl:=QH gW;have Hrl:=QH hrl;have qzT:=QH qai;have Hn:=QH hn;clear gW hrl hns qai hn;go_enter func101,ntmps101;go_wp2_with (go_at_call 175;refine(qdn s.size _ (by omega)).mono ?_);rintro e W1 ⟨rfl,b1⟩;have h1:=QH (HT.out.below b1 hg);go_wp2_with (go_at_call 176;refine(qn3 s _ (by omega) h1.out).mono ?_);rintro e W2 ⟨rfl,b2⟩;have b12:=qa b1 b2;clear b1 b2 h1;go_wp2_with (go_at_call 175;refine(qbx (vM (bl s)) _ Hn.out).mono ?_);rintro e W3 ⟨rfl,b3⟩;have b13:=qa b12 b3;have hst:=qgk (mL s.size) (be4 (vM (bl s))) s W3;have qaF:([mL s.size,be4 (vM (bl s)),bl s].flatten).length≤140737488355328:=by rw[Hfl.out,Hrl.out];omega
 have qzU:=zN b13 (.cells #[.string (str (mL s.size)),.string (str (be4 (vM (bl s)))),.string s] 9);have hput:=pz _ 3 _ _ hst (by simp) qaF;rw[Hfl.out]at hput;have qdr:=QH hput;clear b12 b3 b13 hst qaF hput;go_wp2_with (go_at_call 178;refine qdr.out.mono ?_);rintro e W4 ⟨rfl,b4⟩;have b14:=qa qzU b4;have hcut:=nj (mM (bl s)) W4 (by rw[Hrl.out];omega);rw[qzT.out]at hcut;have q4E:=QH hcut;clear qzU b4 qdr hcut;go_wp2_with (go_at_call 177;refine q4E.out.mono ?_);rintro e W5 ⟨v,rfl,hown,b5⟩;have b15:=qa b14 b5;have hown':zM W5 w.heap.size v (qK (bl s)):=qbv hown b14.size;clear b14 b5 hown;go_wp2;go_ret2;exact⟨v,rfl,hown',b15⟩
end Go.Proofs.YtdpbdkacngaemaaGreatDoor
namespace Go.Proofs.YtdpbdkacngaemaaGreatDoor.dk
open _root_.Go.Proofs.Tryz Go Go.RowKit
section
variable {w:World} {p m:Nat} {v:Value} {d:DD} {own:Nat→Prop}
end
end Go.Proofs.YtdpbdkacngaemaaGreatDoor.dk
namespace Go.Proofs.YtdpbdkacngaemaaGreatDoor.dk
open _root_.Go.Proofs.Tryz Go Go.RowKit Go.Shelf
attribute [local go_sem] Oper.semAt_some
abbrev Wr (n:Nat):={ x:Nat × Bt × Bt × Bool // x.1<n∧x.2.1.length=32∧x.2.2.1.length=32 }
end Go.Proofs.YtdpbdkacngaemaaGreatDoor.dk
namespace Go.Proofs.YtdpbdkacngaemaaGreatDoor.dk
open _root_.Go.Proofs.Tryz Go Go.RowKit
section
variable {w:World} {p m:Nat} {v:Value} {d:DD} {own:Nat→Prop}
theorem zP.low{most:Nat}(h:zP most w own p d):∀j,own j→j<w.heap.size:=by
 obtain⟨_,m,v,h1⟩:=h;exact h1.2.2.2.2.2.2
theorem zP.below{most:Nat}{w':World}(h:zP most w own p d)(hb:Below w.heap.size w w'):zP most w' own p d :=
 h.keep hb.size (fun j hj=>hb.block j (h.low j hj))
theorem qgm{most:Nat}(h:zP most w own p d)(xa:d.on=true)(k:Int)(hh:d.has k=true)(s:ByteArray)(hs:s.size=32)(hf:d.fits [k]=true)(hop:d.oper.on=false) :
    Calls prog 194 #[.pointer (some ⟨p,0,none⟩),.int .i64 k,.string s] w (xy most own p d.oper (.int .i64 6) w):=by
 have hk0:0≤k∧k<(d.n:Int):=by simpa[DD.has]using hh
 have hn:=h.1.n1;have h2:zP most (w.alloc (.cells #[.int .i64 k] 3)) own p d:=h.below ((Below.refl _ _).alloc (Nat.le_refl _) _);have HF:=QH (wu h2 _ 1 [k] (ox w k (by omega) (by omega)) (by simp));rw[hf]at HF;have H:=QH h;have HO:=QH (fun(W:World) (hW:zP most W own p d)=>oq hW xa);rw[hop]at HO;obtain⟨h0,m,v,h1⟩:=h;have hhas:=kB h1 k;rw[hh]at hhas;have HH:=QH hhas;obtain⟨c0,c1,c2,c3,c4,c5⟩:=kq h1.1;rw[xa]at c4;have hsz:((s.size:Int) == 32)=true:=by rw[beq_iff_eq];omega
 clear h0 h1 c0 c1 c2 c3 c5 xa hhas hh hs hf h2 hk0 hn hop;go_enter func194,ntmps194;go_wp2_with (first|(go_at_call 197;refine HH.out.mono ?_;rintro e w' ⟨rfl,rfl⟩)|(go_at_call 182;refine HF.out.mono ?_;rintro e w2 ⟨rfl,hb2⟩;have qA:=QH (((Below.refl _ w).alloc (Nat.le_refl _) (.cells #[.int .i64 k] 3)).trans (hb2.mono (by simp)));clear hb2;have HW2:=QH (HO.out w2 (H.out.below qA.out)))|(go_at_call 257;refine HW2.out.mono ?_;rintro e w3 ⟨rfl,aj,hd3,hb3,hg3⟩;have HD3:=QH hd3;have zv:=QH hb3;have HG3:=QH hg3;clear hd3 hb3 hg3));go_ret;exact⟨rfl,aj,HD3.out,(qz.of_below qA.out).trans zv.out (fun _ h=>.inl h),fun j hj=>by
  rcases HG3.out j hj with h|h
  ·exact .inl h
  ·exact .inr (Nat.le_trans qA.out.size h)⟩
theorem qgn{most:Nat}(h:zP most w own p d)(hm:d.more.length<most)(jo:most≤100000)(xa:d.on=true)(k:Int)(hh:d.has k=true)(s:ByteArray)(hs:s.size=32)(hf:d.fits [k]=true)(hop:d.oper.on=true) :
    Calls prog 194 #[.pointer (some ⟨p,0,none⟩),.int .i64 k,.string s] w (xy most own p { d.oper with more:=d.more++[(k.toNat,bl s)] } (.int .i64 0) w):=by
 have hk0:0≤k∧k<(d.n:Int):=by simpa[DD.has]using hh
 have hn:=h.1.n1;have h2:zP most (w.alloc (.cells #[.int .i64 k] 3)) own p d:=h.below ((Below.refl _ _).alloc (Nat.le_refl _) _);have HF:=QH (wu h2 _ 1 [k] (ox w k (by omega) (by omega)) (by simp));rw[hf]at HF;have H:=QH h;have HO:=QH (fun(W:World) (hW:zP most W own p d)=>oq hW xa);rw[hop]at HO;obtain⟨h0,m,v,h1⟩:=h;have hhas:=kB h1 k;rw[hh]at hhas;have HH:=QH hhas;obtain⟨c0,c1,c2,c3,c4,c5⟩:=kq h1.1;rw[xa]at c4;have hsz:((s.size:Int) == 32)=true:=by rw[beq_iff_eq];omega
 have HS:=QH hs;have HK:=QH hk0;have HN:=QH hn;have HMO:=QH hm;have l5:=QH jo;have HOP:=QH hop;obtain⟨k,rfl⟩:∃j:Nat,k=(j:Int):=⟨k.toNat,by omega⟩;clear h0 h1 c0 c1 c2 c3 c5 xa hhas hh hs hf h2 hk0 hn hop hm jo;go_enter func194,ntmps194;go_wp2_with (first|(go_at_call 197;refine HH.out.mono ?_;rintro e w' ⟨rfl,rfl⟩)|(go_at_call 182;refine HF.out.mono ?_;rintro e w2 ⟨rfl,hb2⟩;have qA:=QH (((Below.refl _ w).alloc (Nat.le_refl _) (.cells #[.int .i64 (k:Int)] 3)).trans (hb2.mono (by simp)));clear hb2;have HW2:=QH (HO.out w2 (H.out.below qA.out)))|(go_at_call 257;refine HW2.out.mono ?_));rintro e w3 ⟨rfl,aj,hd3,hb3,hg3⟩;have HD3:=QH hd3;have zv:=QH hb3;have HG3:=QH hg3;obtain⟨h30,m3,v3,h31⟩:=hd3;have H30:=QH h30;have H31:=QH h31;obtain⟨A,c,hA⟩:=xQ h31.2.2.1;obtain⟨g0,g1,g2,g3,g4,g5⟩:=kq h31.1;have hp3:=h31.1.lt;have hm3:=h31.2.1.lt;have HLB:Hid (((look d.oper.now (k:Int)).getD zz).length=32):=by
  unfold Hid;cases hx:look d.oper.now (k:Int)with
  | none=>exact ze
  | some u=>exact h30.tP hx
 clear hb3 hg3 c4 h30 h31 HF HO HH HW2;go_wp2_with (first|(refine qi rfl (qaX _ k rfl rfl) ?_)|(refine qi rfl (qaW rfl) ?_)|(refine wpList_skip rfl (zJ w3 148 _ _ (.tmp 7) (.tmp 38) rfl rfl rfl (by rw[qmX,List.size_toArray,yJ _ ze ze]) (by simp[yJ,ze]) (qvk _)) ?_)|(refine qi rfl (qcP w3 (.tmp 40) (.tmp 41) k s rfl rfl rfl HS.out) ?_)|(at_lookup;refine qi rfl (wW _ _ rfl rfl (H31.out.2.1.of_block (Below.heap_alloc w3 _ _ hm3)) (k:Int) rfl (by omega) (by have:=HK.out;have:=HN.out;omega)) ?_)|(refine wpList_skip rfl (eU w3 (.tmp 52) (.tmp 50) k (bl s) _ false rfl rfl rfl (by rw[zj,HS.out]) HLB.out) ?_)|(refine wpList_skip rfl (cj w3 (.tmp 53) (.tmp 51) k (bl s) _ _ rfl rfl rfl (by rw[zj,HS.out]) HLB.out) ?_));have HX:Hid (uI (w3.alloc (.cells (qo (k,bl s,(look d.oper.now (k:Int)).getD zz,(look d.oper.now (k:Int)).isSome)).toArray 148)) aj p m3 v3 d.oper) :=
  H31.out.keep (by simp) (fun j hj=>Below.heap_alloc _ _ _ (HD3.out.low j hj))
 have HXB:Hid (qf (w3.alloc (.cells (qo (k,bl s,(look d.oper.now (k:Int)).getD zz,(look d.oper.now (k:Int)).isSome)).toArray 148)) w3.heap.size 148 (qo (k,bl s,(look d.oper.now (k:Int)).getD zz,(look d.oper.now (k:Int)).isSome)).toArray):=qf.new _ _ _;have HXW:Hid (Below w3.heap.size w3 (w3.alloc (.cells (qo (k,bl s,(look d.oper.now (k:Int)).getD zz,(look d.oper.now (k:Int)).isSome)).toArray 148))):=(Below.refl _ _).alloc (Nat.le_refl _) _;have HXS:Hid ((w3.alloc (.cells (qo (k,bl s,(look d.oper.now (k:Int)).getD zz,(look d.oper.now (k:Int)).isSome)).toArray 148)).heap.size=w3.heap.size+1):=by unfold Hid;simp
 have HLX:Hid ((qo (k,bl s,(look d.oper.now (k:Int)).getD zz,(look d.oper.now (k:Int)).isSome)).length=66):=yJ _ (by rw[zj,HS.out]) HLB.out;generalize hX:w3.alloc (.cells (qo (k,bl s,(look d.oper.now (k:Int)).getD zz,(look d.oper.now (k:Int)).isSome)).toArray 148)=X at *;clear hX g0 g1 g2 g3 g4 g5;subst hA;obtain⟨g0,g1,g2,g3,g4,g5⟩:=kq HX.out.1;have hf3:=HX.out.1.frozen 3;have hpX:=HX.out.1.lt;simp only[Act.put];refine wp_region_any (by kernel_rfl) ?_
 change wpAny _ _ _ _ _ _ _ (World.drew _)
 refine wpAny_take (i:=0) (v:=.pointer (some ⟨p,0,none⟩)) rfl (by kernel_rfl) (by kernel_rfl) (by kernel_rfl) (fun _ _ _ h=>h) (Or.inl ⟨by rfl,fun w=>by go_simp⟩) ?_;go_simp;refine wpAny_take (i:=1) (v:=.pointer (some ⟨p,0,none⟩)) rfl (by kernel_rfl) (by kernel_rfl) (by kernel_rfl) (fun _ _ _ h=>h) (Or.inl ⟨by rfl,fun w=>by go_simp⟩) ?_;go_simp;refine wpAny_take (i:=2) (v:=.pointer (some ⟨p,0,none⟩)) rfl (by kernel_rfl) (by kernel_rfl) (by kernel_rfl) (fun _ _ _ h=>h) (Or.inl ⟨by rfl,fun w=>by go_simp⟩) ?_;go_simp;refine wpAny_take (i:=3) (v:=.pointer (some ⟨p,3,none⟩)) rfl (by kernel_rfl) (by kernel_rfl) (by kernel_rfl) (fun _ _ _ h=>h) (Or.inl ⟨by rfl,fun w=>by go_simp⟩) ?_;go_simp;refine sD (i:=4) (j:=5) (l:=6) (di:=58) (dj:=59) (dl:=60) (vi:=.slice A d.oper.more.length c) (vj:=.agg (qo (k,bl s,(look d.oper.now (k:Int)).getD zz,(look d.oper.now (k:Int)).isSome)).toArray) (vl:=.slice (some ⟨X.drew.heap.size,0,none⟩) 1 1) (w2:=X.drew.alloc (.cells (qo (k,bl s,(look d.oper.now (k:Int)).getD zz,(look d.oper.now (k:Int)).isSome)).toArray 148))
  (by kernel_rfl) (by kernel_rfl) (by kernel_rfl) (by kernel_rfl) (by kernel_rfl) (by decide) (by decide) rfl rfl rfl rfl rfl rfl rfl rfl rfl (by decide) (by decide) (dO _ rfl p 3 rfl _ _ _ g3) (dO _ rfl p 3 rfl _ _ _ g3) (dO _ rfl p 3 rfl _ _ _ ((World.cell?_of_block (a:=⟨p,3,none⟩) (Below.heap_alloc _ _ _ hpX)).trans g3))
  (lS _ rfl w3.heap.size rfl _ HXB.out (by rw[List.size_toArray,HLX.out])) (lS _ rfl w3.heap.size rfl _ HXB.out (by rw[List.size_toArray,HLX.out])) (ou _ _ rfl rfl (by rw[List.size_toArray,HLX.out])) (ou _ _ rfl rfl (by rw[List.size_toArray,HLX.out])) ?_
 have qnJ:=HX.out.2.2.1;have qzW:=HX.out.2.2.2.2.2.2;have qtB:qf (X.drew.alloc (.cells (qo (k,bl s,(look d.oper.now (k:Int)).getD zz,(look d.oper.now (k:Int)).isSome)).toArray 148)) X.drew.heap.size 148 (qo (k,bl s,(look d.oper.now (k:Int)).getD zz,(look d.oper.now (k:Int)).isSome)).toArray:=qf.new _ _ _;have qnK:(X.drew.alloc (.cells (qo (k,bl s,(look d.oper.now (k:Int)).getD zz,(look d.oper.now (k:Int)).isSome)).toArray 148)).ownsRow 0 148 66 (.slice A d.oper.more.length c) d.oper.more.length (wj (iI d.oper.base d.oper.more)) :=
  ym (w:=X) qnJ (fun j hj=>Below.heap_alloc X.drew _ j (iK qnJ j hj))
 have hml:d.oper.more.length<100000:=by rw[(xU d).2.1];have:=HMO.out;have:=l5.out;omega
 obtain⟨i0,hi,hz0,hz1,hz2⟩:=info_parts qf9;refine qJ (i:=7) (by kernel_rfl) rfl rfl ?_;refine qaY (.tmp 58) (.tmp 60) 86 rfl 0 148 i0 _ 66 80 underlying86 hi hz0 hz1 hz2 (by simp[Value.cells,yJ,ze]) (by decide) _ _ _ rfl qnK ⟨X.drew.heap.size,0,none⟩ 1 1 (qo (k,bl s,(look d.oper.now (k:Int)).getD zz,(look d.oper.now (k:Int)).isSome)) rfl (by rw[HLX.out]) ?_ (dN _) (by unfold maxLen;omega) (by omega) (Nat.zero_le _) ?_
 ·intro j u hu;rw[addr_add,Nat.zero_add,qtB.cell j];simpa using hu
 intro v7 w7 qhS qvC qnL;obtain⟨A7,c7,rfl⟩:=xQ qhS;have hne:=HX.out.ne;have qzX:(X.drew.alloc (.cells (qo (k,bl s,(look d.oper.now (k:Int)).getD zz,(look d.oper.now (k:Int)).isSome)).toArray 148)).heap.size=X.heap.size+1:=by simp
 have qb1:∀j,j<X.heap.size→(Value.slice A d.oper.more.length c).ownBlock≠some j→w7.heap[j]?=X.heap[j]? :=fun j hj hn =>
  (qvC.block j (by rw[qzX];omega) (fun e=>hn e.symm)).trans (Below.heap_alloc X.drew _ j hj)
 have q4H:=HX.out.2.1.lt;have hP7:w7.heap[p]?=X.heap[p]? :=qb1 p hpX (fun e=>(hne.2 _ e).1 rfl);have hM7:w7.heap[m3]?=X.heap[m3]? :=qb1 m3 q4H (fun e=>(hne.2 _ e).2 rfl);have hvb:∀j,(Value.slice A d.oper.more.length c).ownBlock=some j→j<w3.heap.size:=fun j hj=>HD3.out.low j (HX.out.2.2.2.2.2.1 j hj);have hS7:w7.heap[w3.heap.size]?=X.heap[w3.heap.size]? :=qb1 _ (by rw[HXS.out];omega) (fun e=>by have:=hvb _ e;omega);have qtD:Hid (qz aj w3 w7):=by
  refine((qz.of_below (S:=aj) HXW.out).drew.alloc _).grown qvC (fun j hj=>.inl (HX.out.2.2.2.2.2.1 j hj))
 have qnM:∀j,(Value.slice A7 (d.oper.more.length+1) c7).ownBlock=some j→aj j∨w3.heap.size≤j:=by
  intro j hj;rcases qnL with e|e
  ·exact .inl (HX.out.2.2.2.2.2.1 j (e.symm.trans hj))
  ·rw[hj]at e;injection e with e
   right
   have:=HXS.out;have e2:X.drew.alloc (.cells (qo (k,bl s,(look d.oper.now (k:Int)).getD zz,(look d.oper.now (k:Int)).isSome)).toArray 148)=X.drew.alloc (.cells (qo (k,bl s,(look d.oper.now (k:Int)).getD zz,(look d.oper.now (k:Int)).isSome)).toArray 148):=rfl;omega
 have qzY:∀j,(Value.slice A7 (d.oper.more.length+1) c7).ownBlock=some j→j<w7.heap.size:=iK qhS;have qtE:∀j,(Value.slice A7 (d.oper.more.length+1) c7).ownBlock=some j→j≠p∧j≠m3:=by
  intro j hj;rcases qnL with e|e
  ·exact hne.2 j (e.symm.trans hj)
  ·rw[hj]at e;injection e with e
   exact⟨by omega,by omega⟩
 have HP7:Hid (qf w7 p 88 #[.int .i64 (d.oper.n:Int),.int .i64 d.oper.room,.map (some m3),.slice A d.oper.more.length c,.bool d.oper.on,.int .i64 d.oper.qy]):=HX.out.1.of_block hP7;have HM7:Hid (xg w7 m3 d.oper.now):=HX.out.2.1.of_block hM7;have HS7:Hid (qf w7 w3.heap.size 148 (qo (k,bl s,(look d.oper.now (k:Int)).getD zz,(look d.oper.now (k:Int)).isSome)).toArray):=HXB.out.of_block hS7;have HO7:=QH qhS;have bK:=QH qnM;have mH:=QH qzY;have HPN:=QH qtE;have HNE:=QH hne;have tO:Hid (w3.heap.size≤w7.heap.size):=qtD.out.size;have k3:=HP7.out.cell 3;have fr3:=HP7.out.frozen 3;have hp7:=HP7.out.lt;clear hS7 hM7 hP7 qb1 qvC qnL qhS qnJ qnK qtB qnM qzY qtE hne qzX qzW g0 g1 g2 g3 g4 g5 hf3 hi hz0 hz1 hz2 hvb hml;go_simp;refine qJ (i:=8) (by kernel_rfl) rfl rfl ?_;go_simp;refine qJ (i:=9) (by kernel_rfl) rfl rfl ?_;go_simp;refine qJ (i:=10) (by kernel_rfl) rfl rfl ?_;go_simp;refine⟨by kernel_rfl,?_⟩;go_wp2_with fail;have HP8:Hid (qf (w7.setCell ⟨p,3,none⟩ (.slice A7 (d.oper.more.length+1) c7)) p 88 #[.int .i64 (d.oper.n:Int),.int .i64 d.oper.room,.map (some m3),.slice A7 (d.oper.more.length+1) c7,.bool d.oper.on,.int .i64 d.oper.qy]):=HP7.out.qg 3 _;have fG:Hid (xg (w7.setCell ⟨p,3,none⟩ (.slice A7 (d.oper.more.length+1) c7)) m3 d.oper.now):=HM7.out.of_block (xA _ _ _ _ _ (fun e=>HNE.out.1 e.symm));have HS8:Hid (qf (w7.setCell ⟨p,3,none⟩ (.slice A7 (d.oper.more.length+1) c7)) w3.heap.size 148 (qo (k,bl s,(look d.oper.now (k:Int)).getD zz,(look d.oper.now (k:Int)).isSome)).toArray):=HS7.out.of_block (xA _ _ _ _ _ (by omega));have HO8:Hid ((w7.setCell ⟨p,3,none⟩ (.slice A7 (d.oper.more.length+1) c7)).ownsRow 0 148 66 (.slice A7 (d.oper.more.length+1) c7) (d.oper.more.length+1) (wj (iI d.oper.base d.oper.more)++qo (k,bl s,(look d.oper.now (k:Int)).getD zz,(look d.oper.now (k:Int)).isSome))) :=
  ym HO7.out (fun j hj=>xA _ _ _ _ _ (HPN.out j hj).1)
 have qtF:Hid (qz aj w3 (w7.setCell ⟨p,3,none⟩ (.slice A7 (d.oper.more.length+1) c7))):=qtD.out.setCell _ _ (.inl H31.out.2.2.2.1);have qzZ:Hid ((w7.setCell ⟨p,3,none⟩ (.slice A7 (d.oper.more.length+1) c7)).heap.size=w7.heap.size):=by unfold Hid;simp[size_set]
 generalize hw8:w7.setCell ⟨p,3,none⟩ (.slice A7 (d.oper.more.length+1) c7)=w8 at *;clear hw8 k3 fr3;have q2:=HP8.out.cell 2;have hp8:=HP8.out.lt;have q0a:=rowOf (k,bl s,(look d.oper.now (k:Int)).getD zz,(look d.oper.now (k:Int)).isSome) (by rw[zj,HS.out]) HLB.out;have q4K:=QH q0a;have hlb:(Lib.byteCells (bl s)).length=32:=by rw[Lib.byteCells_length,zj,HS.out]
 have HLb:=QH hlb;clear q0a hlb;refine jK 7 (by kernel_rfl) (by kernel_rfl) ?_;simp only[List.take_succ_cons,List.take_zero,List.drop_succ_cons,List.drop_zero]
 iterate 6 still_step
 refine kI rfl (qU _ _ rfl w3.heap.size 1 rfl _ _ (Lib.byteCells (bl s)) _ _ HS8.out underlying146 rfl (by rw[oh,HLb.out]) q4K.out.data) ?_;refine wpStill_nil ?_;have hnl:d.oper.now.length=d.n:=by rw[d.oper.jv,qna]
 have hkn:k<d.oper.now.length:=by rw[hnl];have:=HK.out;omega
 have q0b:d.oper.now.length≤1024:=by rw[hnl];exact HN.out
 have sA:=QH hnl;have HKN:=QH hkn;have q4L:=QH q0b;clear hnl hkn q0b;refine mK (w:=w8.drew) rfl _ _ _ rfl rfl fG.out k rfl (bl s) rfl HKN.out q4L.out ?_;intro w9 hm9 ht9;have HM9:=QH hm9;have HT9:=QH (uJ ht9);clear hm9 ht9;go_wp2_with fail;go_ret;have hb9:∀j,j<w8.heap.size→j≠m3→w9.heap[j]?=w8.heap[j]? :=fun j hj hn=>HT9.out.block j hj hn;have zbn:m3<w8.heap.size:=fG.out.lt;refine⟨rfl,fun j=>aj j∨(Value.slice A7 (d.oper.more.length+1) c7).ownBlock=some j,⟨?_,m3,.slice A7 (d.oper.more.length+1) c7,?_⟩,?_,?_⟩
 ·refine { H30.out with qcJ:=?_,at1:=?_ }
  ·simp;have:=HMO.out;omega
  ·intro x hx;simp only[List.mem_append,List.mem_singleton]at hx;rcases hx with hx|rfl
   ·exact H30.out.at1 x (by rw[(xU d).2.1];exact hx)
   ·refine⟨?_,by show(bl s).length=32;rw[zj,HS.out]⟩;show k<d.oper.n;rw[qna];have:=HK.out;omega
 ·have hd:({ d.oper with more:=d.more++[((k:Int).toNat,bl s)] }:DD).now=put d.oper.now k (bl s):=by
     show qY d.oper.base (d.more++[((k:Int).toNat,bl s)])=_;rw[iH,← (xU d).2.1];rfl
  refine⟨?_,by rw[hd];exact HM9.out,?_,.inl HX.out.2.2.2.1,.inl HX.out.2.2.2.2.1,fun j hj=>.inr hj,?_⟩
  ·exact HP8.out.of_block (hb9 p hp8 HNE.out.1)
  ·have e1:(d.more++[((k:Int).toNat,bl s)]).length=d.oper.more.length+1:=by rw[(xU d).2.1];simp
   have e2:wj (iI d.oper.base (d.more++[((k:Int).toNat,bl s)]))=wj (iI d.oper.base d.oper.more)++qo (k,bl s,(look d.oper.now (k:Int)).getD zz,(look d.oper.now (k:Int)).isSome):=by
    rw[Int.toNat_natCast,tQ,qfB,(xU d).2.1,dQ];rw[show qY d.oper.base d.more=d.now from by rw[(xU d).1];rfl]
   show w9.ownsRow 0 _ 66 _ (d.more++[((k:Int).toNat,bl s)]).length (wj (iI d.oper.base (d.more++[((k:Int).toNat,bl s)])));rw[e1,e2];exact ym HO8.out (fun j hj=>hb9 j (by rw[qzZ.out];exact mH.out j hj) (HPN.out j hj).2)
  ·intro j hj;have h9:=HT9.out.size;have h8:=qtF.out.size;have e9:w8.drew.heap.size=w8.heap.size:=rfl;rcases hj with hj|hj
   ·have:=HD3.out.low j hj;omega
   ·have:=mH.out j hj;have:=qzZ.out;omega
 ·have t1:qz own w w2:=qz.of_below qA.out;have t2:qz own w w3:=t1.trans zv.out (fun _ h=>.inl h);refine(t2.trans qtF.out ?_).drew.trans HT9.out ?_
  ·intro j hj;rcases HG3.out j hj with h|h
   ·exact .inl h
   ·exact .inr (Nat.le_trans qA.out.size h)
  ·intro j hj;subst hj;rcases HG3.out _ HX.out.2.2.2.2.1 with h|h
   ·exact .inl h
   ·exact .inr (Nat.le_trans qA.out.size h)
 ·intro j hj;have hj2:aj j∨w3.heap.size≤j:=by
   rcases hj with hj|hj
   ·exact .inl hj
   ·exact bK.out j hj
  have s2:=qA.out.size;have s3:=zv.out.size;rcases hj2 with hj2|hj2
  ·rcases HG3.out j hj2 with h|h
   ·exact .inl h
   ·exact .inr (by omega)
  ·exact .inr (by omega)
end
end Go.Proofs.YtdpbdkacngaemaaGreatDoor.dk
namespace Go.Proofs.YtdpbdkacngaemaaGreatDoor.dk
open _root_.Go.Proofs.Tryz Go Go.RowKit
section
variable {w:World} {p m:Nat} {v:Value} {d:DD} {own:Nat→Prop}
theorem qjL{most:Nat}(h:zP most w own p d)(hm:d.more.length<most)(jo:most≤100000)(k:Int)(s:ByteArray) :
    Calls prog 194 #[.pointer (some ⟨p,0,none⟩),.int .i64 k,.string s] w (xy most own p (d.write k (bl s)).2 (.int .i64 (d.write k (bl s)).1) w):=by
 unfold DD.write;by_cases h1:d.on=false
 ·rw[if_pos h1];exact qjc h h1 k s
 ·rw[if_neg h1];have h1':d.on=true:=by simpa using h1
  by_cases h2:d.has k=false
  ·rw[if_pos (.inl h2)];exact qjd h h1' k h2 s
  ·have h2':d.has k=true:=by simpa using h2
   by_cases h3:s.size=32
   ·rw[if_neg (by rw[zj];rintro(h|h);exact h2 h;exact h h3)];have hf:=qnb d k h2';by_cases h4:(look d.now k).isSome=false∧d.room≤(d.used:Int)
    ·rw[if_pos h4];refine qfE h h1' k h2' s h3 ?_;rw[hf,h4.1,Bool.false_or];simp only[decide_eq_false_iff_not];omega
    ·rw[if_neg h4];have hf':d.fits [k]=true:=by
      rw[hf];by_cases h5:(look d.now k).isSome=true
      ·rw[h5];rfl
      ·have h5':(look d.now k).isSome=false:=by simpa using h5
       rw[h5',Bool.false_or];simp only[decide_eq_true_eq];have:¬ d.room≤(d.used:Int):=fun e=>h4 ⟨h5',e⟩;omega
     by_cases h5:d.oper.on=false
     ·rw[if_pos h5];exact qgm h h1' k h2' s h3 hf' h5
     ·rw[if_neg h5];exact qgn h hm jo h1' k h2' s h3 hf' (by simpa using h5)
   ·rw[if_pos (.inr (by rw[zj];exact h3))];exact qje h h1' k h2' s h3
theorem qjM{most:Nat}(h:zP most w own p d) :
    Calls prog 195 #[.pointer (some ⟨p,0,none⟩)] w (xy most own p d.flush.2 (.int .i64 d.flush.1) w):=by
 unfold DD.flush;by_cases xa:d.on=false
 ·rw[if_pos xa];have H:=QH h;obtain⟨h0,m,v,h1⟩:=h;obtain⟨c0,c1,c2,c3,c4,c5⟩:=kq h1.1;rw[xa]at c4;clear h0 h1 c0 c1 c2 c3 c5 xa;go_enter func195,ntmps195;go_wp2_with fail;go_ret;exact⟨rfl,own,H.out,qz.refl _ _,vh.refl _ _⟩
 ·rw[if_neg xa];have qvD:d.on=true:=by simpa using xa
  have HO:=QH (oq h qvD);have H:=QH h;have hp:=h.2.choose_spec.choose_spec.1.lt;obtain⟨h0,m,v,h1⟩:=h;obtain⟨c0,c1,c2,c3,c4,c5⟩:=kq h1.1;rw[qvD]at c4;clear h0 h1 c0 c1 c2 c3 c5 xa qvD;by_cases hop:d.oper.on=false
  ·rw[if_pos hop];rw[hop]at HO;clear hop;go_enter func195,ntmps195;go_wp2_with (go_at_call 257;refine HO.out.mono ?_;rintro e w3 ⟨rfl,aj,hd3,hb3,hg3⟩;have HD3:=QH hd3;have zv:=QH hb3;have HG3:=QH hg3;clear hd3 hb3 hg3);go_ret;exact⟨rfl,aj,HD3.out,zv.out,HG3.out⟩
  ·rw[if_neg hop];rw[show d.oper.on=true by simpa using hop]at HO;clear hop;go_enter func195,ntmps195;go_wp2_with (go_at_call 257;refine HO.out.mono ?_);rintro e w3 ⟨rfl,aj,hd3,hb3,hg3⟩;have HD3:=QH hd3;have zv:=QH hb3;have HG3:=QH hg3;obtain⟨h30,m3,v3,h31⟩:=hd3;have H30:=QH h30;have H31:=QH h31;obtain⟨A,c,rfl⟩:=xQ h31.2.2.1;obtain⟨g0,g1,g2,g3,g4,g5⟩:=kq h31.1;have f3:=h31.1.frozen 3;have hp3:=h31.1.lt;clear hb3 hg3 c4 h30 h31 HO;go_wp2_with fail;go_ret;have hne:=H31.out.ne;refine⟨rfl,aj,⟨?_,m3,.slice none 0 0,?_⟩,zv.out.trans (S':=aj) ((qz.refl _ _).setCell _ _ (.inl H31.out.2.2.2.1)) HG3.out,HG3.out⟩
   ·have hl:d.now.length=d.oper.n:=by rw[← dQ];exact d.oper.jv
    refine { H30.out with n0:=?_,n1:=?_,qcJ:=Nat.zero_le _,at1:=fun _ h=>by simp at h,qts:=?_ }
    ·show 1≤d.now.length;rw[hl];exact H30.out.n0
    ·show d.now.length≤1024;rw[hl];exact H30.out.n1
    ·show ∀v,some v∈d.now→v.length=32;rw[← dQ];exact H30.out.qzr
   ·obtain⟨b1,b2,b3,b4,b5,b6,b7⟩:=H31.out;refine⟨?_,?_,⟨rfl,.inl ⟨rfl,rfl⟩⟩,b4,b5,fun k hk=>by simp[Value.ownBlock]at hk,fun k hk=>by rw[size_set];exact b7 k hk⟩
    ·have hl:(DD.n { d.oper with base:=d.now,more:=[] })=d.oper.n:=by
        show d.now.length=d.oper.n;rw[← dQ];exact d.oper.jv
     rw[hl];exact b1.qg 3 _
    ·have hn:(DD.now { d.oper with base:=d.now,more:=[] })=d.oper.now:=by
        show d.now=d.oper.now;rw[dQ]
     rw[hn];exact b2.of_block (xA _ _ _ _ _ (fun e=>hne.1 e.symm))
end
end Go.Proofs.YtdpbdkacngaemaaGreatDoor.dk
namespace Go.Proofs.YtdpbdkacngaemaaGreatDoor.dk
open _root_.Go.Proofs.Tryz Go Go.RowKit Go.Shelf
attribute [local go_sem] Oper.semAt_some
section
variable {w:World} {p m:Nat} {v:Value} {d:DD} {own:Nat→Prop}
end
end Go.Proofs.YtdpbdkacngaemaaGreatDoor.dk
namespace Go.Proofs.YtdpbdkacngaemaaGreatDoor.dk
open _root_.Go.Proofs.Tryz Go Go.RowKit
theorem lK (z:Nat):madeCells #[Value.int .u8 0] z=(Lib.byteCells (List.replicate z 0)).toArray:=by
 apply Array.ext';apply List.ext_getElem?;intro j;by_cases hj:j<z <;> simp[madeCells,Lib.byteCells,hj,Nat.mod_one]
def part (c:UInt8)(k:Nat):Array Value:=(Lib.byteCells (List.replicate k c++List.replicate (32-k) 0)).toArray
def In (most:Nat)(w:World)(B p:Nat)(d:DD):Prop:=∃own,zP most w own p d∧∀k,own k→B≤k
def qrD (most B p:Nat)(d:DD)(r:Value)(w:World)(e:Ending)(w':World):Prop:=e=.returned r∧In most w' B p d∧Below w.heap.size w w'
theorem In.below{most:Nat}{w w':World}{B p:Nat}{d:DD}(h:In most w B p d)(hb:Below w.heap.size w w'):In most w' B p d:=by
 obtain⟨own,h1,h2⟩:=h;exact⟨own,h1.below hb,h2⟩
theorem In.ok{most:Nat}{w:World}{B p:Nat}{d:DD}(h:In most w B p d):d.ok most:=by
 obtain⟨own,h1,h2⟩:=h;exact h1.1
theorem In.mono{most qtG:Nat}{w:World}{B p:Nat}{d:DD}(h:In most w B p d)(hm:most≤qtG):In qtG w B p d:=by
 obtain⟨own,⟨h1,h3⟩,h2⟩:=h;exact⟨own,⟨h1.mono hm,h3⟩,h2⟩
theorem In.lt{most:Nat}{w:World}{B p:Nat}{d:DD}(h:In most w B p d):B≤p∧p<w.heap.size:=by
 obtain⟨own,⟨_,m,v,h1⟩,h2⟩:=h;exact⟨h2 p h1.2.2.2.1,h1.1.lt⟩
section
variable {most:Nat} {w:World} {B p:Nat} {d:DD}
theorem qhT(h:In most w B p d)(k:Int)(v:Bt)(s:ByteArray)(hs:str v=s)(r:Int)(h1:d.read k=(v,r)) :
    Calls prog 122 #[.pointer (some ⟨p,0,none⟩),.int .i64 k] w (qrD most B p d (.tuple #[.string s,.int .i64 r]) w):=by
 have hI:=h;obtain⟨own,hd,ho⟩:=h;subst hs;have key:Calls prog 122 #[.pointer (some ⟨p,0,none⟩),.int .i64 k] w (wm (d.read k) w):=by
  obtain⟨h0,m,v,h1⟩:=hd;unfold DD.read;by_cases xa:d.on=false
  ·rw[if_pos xa];exact qcM h1 xa k
  ·rw[if_neg xa];by_cases hh:d.has k=false
   ·rw[if_pos hh];exact qcN h1 (by simpa using xa) k hh
   ·rw[if_neg hh];exact qhD h0 h1 (by simpa using xa) k (by simpa using hh)
 rw[h1]at key;exact key.mono fun e w' h=>⟨h.1,hI.below h.2,h.2⟩
end
end Go.Proofs.YtdpbdkacngaemaaGreatDoor.dk
namespace Go.Proofs.YtdpbdkacngaemaaGreatDoor.dk
open _root_.Go.Proofs.Tryz Go Go.RowKit
theorem In.base{most:Nat}{w:World}{B B' p:Nat}{d:DD}(h:In most w B p d)(hB:B'≤B):In most w B' p d:=by
 obtain⟨own,h1,h2⟩:=h;exact⟨own,h1,fun k hk=>Nat.le_trans hB (h2 k hk)⟩
def InG (most:Nat)(w:World)(G:Nat→Prop)(p:Nat)(d:DD):Prop:=∃own,zP most w own p d∧∀k,own k→G k
def pB (most:Nat)(G:Nat→Prop)(p:Nat)(d:DD)(r:Value)(w:World)(e:Ending)(w':World):Prop:=e=.returned r∧InG most w' G p d∧qz G w w'
theorem InG.below{most:Nat}{w w':World}{G:Nat→Prop}{p:Nat}{d:DD}(h:InG most w G p d)(hb:Below w.heap.size w w'):InG most w' G p d:=by
 obtain⟨own,h1,h2⟩:=h;exact⟨own,h1.below hb,h2⟩
theorem InG.ok{most:Nat}{w:World}{G:Nat→Prop}{p:Nat}{d:DD}(h:InG most w G p d):d.ok most:=by
 obtain⟨own,h1,h2⟩:=h;exact h1.1
theorem qaj{most:Nat}{w:World}{G:Nat→Prop}{p:Nat}{d:DD}{own:Nat→Prop}{r:Value}(hG:∀k,w.heap.size≤k→G k)(ho:∀k,own k→G k){e:Ending}{w':World}(h:xy most own p d r w e w'):pB most G p d r w e w':=by
 obtain⟨rfl,yI,h1,h2,h3⟩:=h;refine⟨rfl,⟨yI,h1,fun k hk=>?_⟩,h2.mono ho⟩;rcases h3 k hk with h|h
 ·exact ho k h
 ·exact hG k h
section
variable {most:Nat} {w:World} {p:Nat} {G:Nat→Prop} {d:DD}
theorem qrE(h:InG most w G p d)(hG:∀k,w.heap.size≤k→G k)(hm:d.more.length<most)(jo:most≤100000)(k:Int)(s:ByteArray)(v:Bt)(hs:bl s=v)(r:Int)(d':DD)(h1:(d.write k v).1=r)(h2:(d.write k v).2=d') :
    Calls prog 194 #[.pointer (some ⟨p,0,none⟩),.int .i64 k,.string s] w (pB most G p d' (.int .i64 r) w):=by
 obtain⟨own,hd,ho⟩:=h;subst hs h1 h2;exact(qjL hd hm jo k s).mono fun _ _ h=>qaj hG ho h
theorem qrF(h:InG most w G p d)(hG:∀k,w.heap.size≤k→G k)(r:Int)(d':DD)(h1:d.flush.1=r)(h2:d.flush.2=d') :
    Calls prog 195 #[.pointer (some ⟨p,0,none⟩)] w (pB most G p d' (.int .i64 r) w):=by
 obtain⟨own,hd,ho⟩:=h;subst h1 h2;exact(qjM hd).mono fun _ _ h=>qaj hG ho h
end
end Go.Proofs.YtdpbdkacngaemaaGreatDoor.dk
namespace Go.Proofs.YtdpbdkacngaemaaGreatDoor.wi
open _root_.Go.Proofs.Tryz Go.RowKit
def qvE (b:Nat)(l:List UInt8)(x:Bool)(w:World)(e:Ending)(w':World):Prop :=
 w.grownBy w' (some b) ∧
  ((∃t r,jb l=some (t,r)∧e=.returned (.tuple #[.string (str t),.bool true])∧zr b r x w') ∨
   (jb l=none∧e=.returned (.tuple #[.string (str []),.bool false])∧∃m,zr b m x w'))
theorem qnN(b:Nat)(l:List UInt8)(x:Bool)(w:World)(h:zr b l x w) :
    Calls prog 283 #[.func (.func 281) #[.pointer (some ⟨b,0,none⟩)] #[]] w (qvE b l x w):=by
 go_enter func283,ntmps283;go_wp2_with (go_at_call 254;refine(eF b l x _ h).mono ?_);rintro e w1 ⟨hg,⟨n,r,hn,rfl,hr⟩|⟨hn,rfl,m,hm⟩⟩
 ·have q4M:=(dx l n r hn).2;have Hn:=QH hn;have Hg:=QH hg;obtain⟨g,o,cap,hR⟩:=hr;by_cases hlt:r.length<n
  ·have hT:jb l=none:=by unfold jb;rw[Hn.out];simp[hlt]
   have HT:=QH hT;clear hT hg hn;go_wp2_with (go_at_call 281;refine(qaG b g o cap r x (n:Int) _ hR (by omega)).mono ?_;rintro e w' ⟨rfl,rfl⟩);go_ret2;exact⟨Hg.out,.inr ⟨HT.out,rfl,r,g,o,cap,hR⟩⟩
  ·have hT:jb l=some (r.take n,r.drop n):=by unfold jb;rw[Hn.out];simp[hlt]
   have HT:=QH hT;have gI:(r.take n).length=n:=by simp;omega
   have Hln:=QH gI;clear hT hg hn gI;go_wp2_with (go_at_call 281;refine(uB b g o cap r x (n:Int) _ hR (by omega) (by omega)).mono ?_);rintro e w2 ⟨rfl,h1,h2,h3⟩;rw[Int.toNat_natCast]at h1 h3;have hcv:=run_convert_bytes_back (P:=prog) w2 64 9 5 ⟨g,o,none⟩ n (r.take n) underlying64 underlying5 underlying9 (by
    intro j hj;rw[addr_add];exact h3.cell j hj)
   rw[Hln.out]at hcv;have qyv:(convert 64 9 (.slice (some ⟨g,o,none⟩) n n)).run prog w2=.ok (.string (str (r.take n))) w2:=hcv;have H1:=QH h1;have H2:=QH h2;clear h1 h2 h3 hcv;go_wp2;go_ret2;exact⟨zU Hg.out H2.out,.inl ⟨_,_,HT.out,rfl,_,_,_,H1.out⟩⟩
 ·have hT:jb l=none:=by unfold jb;rw[hn]
  have HT:=QH hT;have Hg:=QH hg;clear hT hg hn;go_wp2;go_ret2;exact⟨Hg.out,.inr ⟨HT.out,rfl,m,hm⟩⟩
def fH (b:Nat)(l:List UInt8)(w:World)(e:Ending)(w':World):Prop :=
 w.grownBy w' (some b) ∧
  ((∃t r,jb l=some (t,r)∧e=.returned (.string (str t))∧zr b r false w') ∨
   (jb l=none∧e=.returned (.string (str []))∧∃m,zr b m true w'))
theorem qb2(b:Nat)(l:List UInt8)(w:World)(h:zr b l false w) :
    Calls prog 282 #[.pointer (some ⟨b,0,none⟩),.func (.func 283) #[] #[]] w (fH b l w):=by
 go_enter func282,ntmps282;go_wp2_with (go_at_call 280;refine(qeR b l _ h).mono ?_;rintro e w' ⟨rfl,rfl⟩);go_wp2_with (go_at_call 283;refine(qnN b l false _ h).mono ?_);rintro e w1 ⟨hg,⟨n,r,hn,rfl,hr⟩|⟨hn,rfl,m,hm⟩⟩
 ·have Hn:=QH hn;have Hg:=QH hg;obtain⟨hc,hf⟩:=hr.cell1;have Hr:=QH (hr.flag false);clear hn hg hr;go_wp2;go_ret;exact⟨zU Hg.out (zr.aG _ _ _),.inl ⟨n,r,Hn.out,rfl,Hr.out⟩⟩
 ·have Hn:=QH hn;have Hg:=QH hg;obtain⟨hc,hf⟩:=hm.cell1;have Hr:=QH (hm.flag true);clear hn hg hm;go_wp2;go_ret;exact⟨zU Hg.out (zr.aG _ _ _),.inr ⟨Hn.out,rfl,m,Hr.out⟩⟩
theorem qb3(b:Nat)(l:List UInt8)(w:World)(h:zr b l true w) :
    Calls prog 282 #[.pointer (some ⟨b,0,none⟩),.func (.func 283) #[] #[]] w fun e w'=>e=.returned (.string (str []))∧w=w':=by
 go_enter func282,ntmps282;go_wp2_with (go_at_call 280;refine(qlZ b l _ h).mono ?_;rintro e w' ⟨rfl,rfl⟩);go_ret;exact⟨rfl,rfl⟩
theorem qgo(b:Nat)(l:List UInt8)(w:World)(h:zr b l false w):Calls prog 255 #[.pointer (some ⟨b,0,none⟩)] w (fH b l w):=by
 go_enter func255,ntmps255;go_wp2_with (go_at_call 282;refine(qb2 b l _ h).mono ?_);rintro e w1 ⟨hg,⟨n,r,hn,rfl,hr⟩|⟨hn,rfl,hm⟩⟩
 ·have H:Hid (fH b l w (.returned (.string (str n))) w1):=⟨hg,.inl ⟨n,r,hn,rfl,hr⟩⟩;clear hg hn hr;go_wp2;go_ret;exact H.out
 ·have H:Hid (fH b l w (.returned (.string (str []))) w1):=⟨hg,.inr ⟨hn,rfl,hm⟩⟩;clear hg hn hm;go_wp2;go_ret;exact H.out
theorem qjO(b:Nat)(l:List UInt8)(w:World)(h:zr b l true w):Calls prog 255 #[.pointer (some ⟨b,0,none⟩)] w fun e w'=>e=.returned (.string (str []))∧w=w':=by
 go_enter func255,ntmps255;go_wp2_with (go_at_call 282;refine(qb3 b l _ h).mono ?_;rintro e w' ⟨rfl,rfl⟩);go_ret;exact⟨rfl,rfl⟩
end Go.Proofs.YtdpbdkacngaemaaGreatDoor.wi
namespace Go.Proofs.YtdpbdkacngaemaaGreatDoor
open _root_.Go.Proofs.Tryz Go.RowKit
def qtH (s:ByteArray)(w:World)(e:Ending)(w':World):Prop :=
 e=.returned (.tuple #[.string s,.int .i64 0])∧Below w.heap.size w w'
def qvF (w:World)(e:Ending)(w':World):Prop :=
 e=.returned (.tuple #[.string ⟨#[]⟩,.int .i64 4])∧Below w.heap.size w w'
theorem mf (a:Option Addr)(c:Nat)(ps:List (List UInt8))(t:List UInt8)(w:World)(hp:jd w a ps)(hi:vN ps t)(ht:xY w) :
    Calls prog 123 #[.slice a ps.length c] w (qtH (str t) w):=by
 have HT:=QH ht;have hg:=ht.1;clear ht;have HP:=QH hp;have hpl:ps.length≤1000:=by rw[hi.2,yf];have:=hi.1;unfold nsec;omega
 have gW:ps.flatten=yK t:=by rw[hi.2,yU]
 have hwl:=jm t;have jY:ps.flatten.length≤100000:=by rw[gW,hwl];have:=hi.1;unfold nsec;omega
 have hput:=pz a c ps w hp (by omega) (by omega);have htl:=hi.1;have hsz:=qN t;have hzl:=qN ps.flatten;have hts:(str t).size≤8192:=by omega
 have qnO:∀W,Calls prog 198 #[.string (str ps.flatten)] W fun e w'=>e=.returned (.tuple #[.string (str t),.bool true])∧Below W.heap.size W w':=by
  intro W;have:=pA (str ps.flatten) W (by omega);rw[zw,gW,qfJ t (by omega)]at this;rw[gW];exact this
 have heq:qK t=ps:=hi.2.symm;have qdr:=QH hput;have qb4:=QH qnO;have Heq:=QH heq;have qvG:=QH (zw t);clear hp hput qnO heq hi gW hwl hsz hzl htl jY;generalize str ps.flatten=f at *;generalize str t=s at *;go_enter func123,ntmps123;go_wp2_with (go_at_call 178;refine qdr.out.mono ?_);rintro e W1 ⟨rfl,b1⟩;go_wp2_with (go_at_call 198;refine(qb4.out _).mono ?_);rintro e W2 ⟨rfl,b2⟩;have b12:=qa b1 b2;have h2:=QH (HT.out.below b12 hg);clear b1 b2;go_wp2_with (go_at_call 101;refine(fF s _ hts h2.out).mono ?_);rintro e W3 ⟨v,rfl,hown,b3⟩;have b13:=qa b12 b3;rw[qvG.out,Heq.out]at hown;obtain⟨a2,c2,rfl,hlc,hcm,hst,_,_⟩:=hown.view;have qnP:=HP.out.below b13 (Nat.le_refl _);have qgp:=aI a2 a c2 c ps ps W3 hst qnP (by omega) (by omega);rw[show decide (ps=ps)=true from by simp]at qgp;have qvH:=QH qgp;clear b12 b3 hown hst qnP qgp h2;go_wp2_with (go_at_call 199;refine qvH.out.mono ?_);rintro e W4 ⟨rfl,b4⟩;have b14:=qa b13 b4;clear b13 b4;go_wp2;go_ret2;exact⟨rfl,b14⟩
theorem mg (a:Option Addr)(c:Nat)(ps:List (List UInt8))(w:World)(hp:jd w a ps)(hpl:ps.length≤1000)(jY:ps.flatten.length≤100000)(hi:∀t,¬ vN ps t)(ht:xY w) :
    Calls prog 123 #[.slice a ps.length c] w (qvF w):=by
 have HT:=QH ht;have hg:=ht.1;clear ht;have HP:=QH hp;have hput:=pz a c ps w hp (by omega) (by omega);have hzl:=qN ps.flatten;have qnO:∀W,Calls prog 198 #[.string (str ps.flatten)] W (qhR (sH ps.flatten) W):=by
  intro W;have:=pA (str ps.flatten) W (by omega)
  rwa [zw]at this
 have qdr:=QH hput;have qb4:=QH qnO;clear hp hput qnO hzl;generalize str ps.flatten=f at *;cases hx:sH ps.flatten with
 | none =>
  rw[hx]at qb4;go_enter func123,ntmps123;go_wp2_with (go_at_call 178;refine qdr.out.mono ?_);rintro e W1 ⟨rfl,b1⟩;go_wp2_with (go_at_call 198;refine(qb4.out _).mono ?_);rintro e W2 ⟨rfl,b2⟩;have b12:=qa b1 b2;clear b1 b2;go_wp2;go_ret2;exact⟨rfl,b12⟩
 | some t =>
  rw[hx]at qb4;have hsz:=qN t;by_cases htl:8192<t.length
  ·have hts:8192<(str t).size:=by omega
   have hgd:(some t).getD []=t:=rfl;have qnQ:Hid (∀W,Calls prog 198 #[.string f] W fun e w'=>e=.returned (.tuple #[.string (str t),.bool true])∧Below W.heap.size W w'):=qb4;clear qb4 hsz;generalize str t=s at *;go_enter func123,ntmps123;go_wp2_with (go_at_call 178;refine qdr.out.mono ?_);rintro e W1 ⟨rfl,b1⟩;go_wp2_with (go_at_call 198;refine(qnQ.out _).mono ?_);rintro e W2 ⟨rfl,b2⟩;have b12:=qa b1 b2;clear b1 b2;go_wp2_with (go_at_call 101;refine(qjJ s _ hts).mono ?_);rintro e W3 ⟨rfl,b3⟩;have b13:=qa b12 b3;clear b12 b3;go_wp2;go_ret2;exact⟨rfl,b13⟩
  ·have hts:(str t).size≤8192:=by omega
   have qnQ:Hid (∀W,Calls prog 198 #[.string f] W fun e w'=>e=.returned (.tuple #[.string (str t),.bool true])∧Below W.heap.size W w'):=qb4;have hne:decide (qK t=ps)=false:=by
    simp only[decide_eq_false_iff_not];intro h;exact hi t ⟨by omega,h.symm⟩
   have qvG:=QH (zw t);have bm:=yf t;have zbp:(qK t).length≤1000:=by rw[bm];unfold nsec;omega
   have Hne:=QH hne;have Hx:=QH hx;clear qb4 hsz hne bm hx hi;generalize str t=s at *;go_enter func123,ntmps123;go_wp2_with (go_at_call 178;refine qdr.out.mono ?_);rintro e W1 ⟨rfl,b1⟩;go_wp2_with (go_at_call 198;refine(qnQ.out _).mono ?_);rintro e W2 ⟨rfl,b2⟩;have b12:=qa b1 b2;have h2:=QH (HT.out.below b12 hg);clear b1 b2;go_wp2_with (go_at_call 101;refine(fF s _ hts h2.out).mono ?_);rintro e W3 ⟨v,rfl,hown,b3⟩;have b13:=qa b12 b3;rw[qvG.out]at hown;obtain⟨a2,c2,rfl,hlc,hcm,hst,_,_⟩:=hown.view;have qnP:=HP.out.below b13 (Nat.le_refl _);have qgp:=aI a2 a c2 c (qK t) ps W3 hst qnP (by omega) (by omega);rw[Hne.out]at qgp;have qvH:=QH qgp;clear b12 b3 hown hst qnP qgp h2;go_wp2_with (go_at_call 199;refine qvH.out.mono ?_);rintro e W4 ⟨rfl,b4⟩;have b14:=qa b13 b4;clear b13 b4;go_wp2;go_ret2;exact⟨rfl,b14⟩
end Go.Proofs.YtdpbdkacngaemaaGreatDoor
namespace Go.Proofs.YtdpbdkacngaemaaGreatDoor.wi
open _root_.Go.Proofs.Tryz Go.RowKit
def qjP (s t:ByteArray)(w:World)(e:Ending)(w':World):Prop :=
 e=.returned (.string (str (bl s++bB (bl t))))∧Below w.heap.size w w'
theorem qds(s t:ByteArray)(w:World)(hs:s.size≤70368744177000)(ht:t.size≤70368744177000) :
    Calls prog 251 #[.string s,.string t] w (qjP s t w):=by
 have hl:=jJ t.size;have hbl:=zj t;have Hbl:=QH hbl;clear hbl;go_enter func251,ntmps251;go_wp2_with (go_at_call 277;refine(qlX t.size _ (by omega)).mono ?_);rintro e W1 ⟨rfl,b1⟩;go_wp2_with (go_at_call 278;refine(qeN t.size _ (by omega)).mono ?_);rintro e W2 ⟨rfl,b2⟩;go_wp2_with (go_at_call 276;refine(kz s W2.heap.size 0 3 [str [UInt8.ofNat (zE t.size).length],str (zE t.size),t] _ ?_ (nK _ _ _ _) (by simp) ?_).mono ?_)
 ·simp
 ·have:=Hbl.out;simp[flat,zw];omega
 ·rintro e W3 ⟨rfl,b3⟩;have b':=qa (zN (qa b1 b2) _) b3;clear b1 b2 b3;go_wp2;go_ret;exact⟨by simp[flat,zw,bB,zu,Hbl.out],b'⟩
end Go.Proofs.YtdpbdkacngaemaaGreatDoor.wi
namespace Go.Proofs.YtdpbdkacngaemaaGreatDoor.jr
open _root_.Go.Proofs.Tryz Go Go.RowKit dk wi
def qD (x:Int):Prop:=-9223372036854775808≤x∧x≤9223372036854775807
def uQ (w:World)(a:Option Addr)(l:List Wr):Prop :=
 ∀i (h:i<l.length),∃b o,a=some ⟨b,o,none⟩∧b<w.heap.size∧w.cell? ⟨b,o+i*2,none⟩=some (.int .i64 l[i].1)∧w.cell? ⟨b,o+i*2+1,none⟩=some (.string (str l[i].2))∧qD l[i].1
theorem uQ.below{w w':World}{a:Option Addr}{l:List Wr}{B:Nat}(h:uQ w a l)(hb:Below B w w')(hB:w.heap.size≤B):uQ w' a l:=by
 intro i hi;obtain⟨b,o,h1,h2,h3,h4,h5⟩:=h i hi;refine⟨b,o,h1,Nat.lt_of_lt_of_le h2 hb.size,?_,?_,h5⟩
 ·rw[hb.cell (p:=⟨b,o+i*2,none⟩) (Nat.lt_of_lt_of_le h2 hB)];exact h3
 ·rw[hb.cell (p:=⟨b,o+i*2+1,none⟩) (Nat.lt_of_lt_of_le h2 hB)];exact h4
section
variable {most:Nat} {w:World} {own:Nat→Prop} {p:Nat} {d:DD}
theorem l6 (h:zP most w own p d):Calls prog 116 #[.pointer (some ⟨p,0,none⟩)] w fun e w'=>e=.returned (.int .i64 (if d.on then 0 else 6))∧w=w':=by
 obtain⟨h0,m,v,hd⟩:=h;have HO:=QH (qmW hd);clear h0 hd;cases xa:d.on with
 | true =>
  rw[xa]at HO;go_enter func116,ntmps116;go_wp2_with (go_at_call 39;refine HO.out.mono ?_;rintro e w' ⟨rfl,rfl⟩);go_ret;exact⟨rfl,rfl⟩
 | false =>
  rw[xa]at HO;go_enter func116,ntmps116;go_wp2_with (go_at_call 39;refine HO.out.mono ?_;rintro e w' ⟨rfl,rfl⟩);go_ret;exact⟨rfl,rfl⟩
theorem qak(a c:Nat)(ha:a<2)(w:World):Calls prog 192 #[.agg #[.int .i64 (a:Int),.int .i64 (c:Int)]] w fun e w'=>e=.returned (.int .i64 ((1+a*72:Nat):Int))∧Below w.heap.size w w':=by
 have e1:(1:Int)+(a:Int)*72=((1+a*72:Nat):Int):=by omega
 have ha1:(a:Int)≤1:=by omega
 have E1:=QH e1;clear e1;go_enter func192,ntmps192;go_wp2;go_ret;exact⟨by rw[← E1.out];rfl,(Below.refl _ _).alloc (Nat.le_refl _) _⟩
end
def qeO (l:List Wr)(w:World)(s i:Value)(wr:World):Prop :=
 ∃k:Nat,k≤l.length∧i=.int .i64 (k:Int)∧s=.string (str (zu l.length++((l.take k).map wB).flatten))∧Below w.heap.size w wr
theorem qrG(l:List Wr)(rW:l.length≤60)(h:∀x∈l,0≤x.1∧x.2.length=32)(k:Nat):(zu l.length++((l.take k).map wB).flatten).length≤3009:=by
 have h1:=qx l.length;have h2:=qnj (l.take k) (fun x hx=>(h x (List.mem_of_mem_take hx)).2);have h3:(l.take k).length≤60:=by simp;omega
 simp only[List.length_append];omega
def okT (t:Bt)(w:World)(e:Ending)(w':World):Prop:=e=.returned (.string (str t))∧Below w.heap.size w w'
theorem kz (a:Option Addr)(c:Nat)(l:List Wr)(w:World)(hT:uQ w a l)(rW:l.length≤60)(h:∀x∈l,0≤x.1∧x.2.length=32) :
    Calls prog 180 #[.slice a l.length c] w (okT (zm l) w):=by
 have HT:=QH hT;have HL:=QH (qrG l rW h);have HX:=QH h;clear hT h;go_enter func180,ntmps180;go_wp2_with fail;refine(ke ⟨#[]⟩ l.length w (by omega) (by decide)).mono ?_;rintro e W1 ⟨rfl,b1⟩;have B1:=QH b1;clear b1;obtain⟨s1,hs1⟩:=QE (str (bl ⟨#[]⟩++zu l.length));rw[hs1];have bY:=QH hs1;clear hs1;go_wp2_with fail;go_loopw [3,12] (fun s i wr=>qeO l w s i wr) (fun _ i _=>l.length-(intOf i).toNat);case atStart=>exact⟨0,Nat.zero_le _,rfl,by rw[← bY.out];simp[bl],B1.out⟩
 case round =>
  obtain⟨k,hk,rfl,rfl,hB⟩:=hrel;have HB:=QH hB;clear hB B1;by_cases hlt:k<l.length
  ·obtain⟨b,o,rfl,hb,q0,q1,qb⟩:=HT.out k hlt;have hx:=HX.out l[k] (List.getElem_mem hlt);have hstep:((l.take (k+1)).map wB).flatten=((l.take k).map wB).flatten++wB l[k]:=by rw[List.take_succ_eq_append_getElem hlt,List.map_append,List.flatten_append];simp
   have HST:=QH hstep;have HLk:=QH (HL.out k);clear hstep;generalize hxx:l[k]=x at *;obtain⟨n,hn⟩:=Int.eq_ofNat_of_zero_le hx.1;have e0:wr.cell? ⟨b,o+k*2,none⟩=some (.int .i64 (n:Int)):=by rw[HB.out.cell (p:=⟨b,o+k*2,none⟩) hb,q0,hn]
   have e1:wr.cell? ⟨b,o+k*2+1,none⟩=some (.string (str x.2)):=by rw[HB.out.cell (p:=⟨b,o+k*2+1,none⟩) hb];exact q1
   have q4M:(n:Int)≤9223372036854775807:=by have:=qb.2;omega
   have hb2:b<wr.heap.size:=Nat.lt_of_lt_of_le hb HB.out.size;obtain⟨S,hS⟩:=QE (str (zu l.length++((l.take k).map wB).flatten));have hSs:S.size≤3009:=by rw[← hS,qN];exact HLk.out
   rw[hS];have HS:=QH hS;have HX2:=QH hx.2;have HN:=QH hn;have qb5:(k:Int)<(l.length:Int):=by omega
   clear q0 q1 qb hS hn hx hxx;go_wp2_with fail;refine(ke S n _ (by omega) (by omega)).mono ?_;rintro e W2 ⟨rfl,b2⟩;have hA:qf (wr.alloc (.cells #[.int .i64 (n:Int),.string (str x.2)] 105)) wr.heap.size _ _:=qf.new wr _ _;have hA2:qf W2 wr.heap.size _ _:=hA.of_block (b2.block _ hA.lt);have q2:=hA2.cell 1;have lt2:=hA2.lt;have B2:=QH (qa (HB.out.alloc HB.out.size _) b2);clear b2 hA hA2;obtain⟨S2,hS2⟩:=QE (str (bl S++zu n));have hl9:=qx n;have q4N:S2.size≤3020:=by rw[← hS2,qN,List.length_append,zj];omega
   rw[hS2];have kT:=QH hS2;clear hS2;go_wp2_with fail;refine(qds S2 (str x.2) _ (by omega) (by rw[qN,HX2.out];omega)).mono ?_;rintro e W3 ⟨rfl,b3⟩;have B3:=QH (qa B2.out b3);clear b3 B2;obtain⟨S3,hS3⟩:=QE (str (bl S2++bB (bl (str x.2))));rw[hS3];have na:=QH hS3;clear hS3;go_wp2_with fail;go_roundw;case rel =>
    refine⟨k+1,by omega,by go_num,?_,B3.out⟩;rw[← na.out,← kT.out,← HS.out,HST.out,zw,zw,zw];have:x.1.toNat=n:=by rw[HN.out];rfl
    simp[wB,this]
   case measure=>simp[intOf];omega
  ·obtain rfl:k=l.length:=by omega
   go_wp2_with fail;go_ret;refine⟨?_,HB.out⟩;rw[List.take_length];rfl
end Go.Proofs.YtdpbdkacngaemaaGreatDoor.jr
