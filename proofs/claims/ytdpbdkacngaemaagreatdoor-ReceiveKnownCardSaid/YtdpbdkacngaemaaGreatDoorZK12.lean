/- VgAdds, VgAb, VgTb1, Ims, AppAt, VgTb5, FMem, FPut. -/
import Derived.Test.YtdpbdkacngaemaaGreatDoorZK11
set_option linter.unusedVariables false
set_option linter.unusedSimpArgs false
set_option maxHeartbeats 30000000
set_option maxRecDepth 100000
namespace Go.Proofs.YtdpbdkacngaemaaGreatDoor.vt.pg
open _root_.Go.Proofs.Tryz Go Go.RowKit ib mt im sp
def snA (a b:Nat)(B:Option Addr)(n:Nat):Array Value:=#[.int .u64 (a:Int),.int .u64 (b:Int),.slice B n n,.bool false]
def AdG (g:Nat)(A1 A:Option Addr)(n c1 c a b:Nat)(l:List Int)(S:Nat):Nat→Value→World→Prop
 | 0,v,_=>v=pt g
 | 1,v,_=>v=pt g
 | 2,v,_=>v=pt g
 | 3,v,_=>v=.pointer (some ⟨g,1,none⟩)
 | 4,v,_=>v=.slice A1 n c1
 | 5,v,_=>v=.int .i64 (n:Int)
 | 6,v,_=>v=.int .i64 (n:Int)
 | 7,v,_=>v=.slice A1 n n
 | 8,v,_=>v=.agg #[.int .u64 (a:Int),.int .u64 (b:Int)]
 | 9,v,_=>v=.slice A l.length c
 | 10,v,w=>∃x,v=.slice (some ⟨x,0,none⟩) l.length l.length∧qh w x 3 (qj l)∧S≤x
 | 11,v,w=>∃x,v=.agg (snA a b (some ⟨x,0,none⟩) l.length)∧qh w x 3 (qj l)∧S≤x
 | 12,v,w=>∃y x,v=.slice (some ⟨y,0,none⟩) 1 1∧qh w y 141 (snA a b (some ⟨x,0,none⟩) l.length)∧qh w x 3 (qj l)∧S≤x
 | _,_,_=>True
theorem qbh(g:Nat)(A1 A:Option Addr)(n c1 c a b:Nat)(l:List Int)(S:Nat)(i:Nat)(v:Value)(w w':World)(hi:i<13)(h:AdG g A1 A n c1 c a b l S i v w)(hb:Below w.heap.size w w'):AdG g A1 A n c1 c a b l S i v w':=by
 match i,hi,h with
 | 0,_,h | 1,_,h | 2,_,h | 3,_,h | 4,_,h | 5,_,h | 6,_,h | 7,_,h | 8,_,h | 9,_,h=>exact h
 | 10,_,⟨x,h1,h2,h3⟩=>exact⟨x,h1,h2.below hb,h3⟩
 | 11,_,⟨x,h1,h2,h3⟩=>exact⟨x,h1,h2.below hb,h3⟩
 | 12,_,⟨y,x,h1,h2,h3,h4⟩=>exact⟨y,x,h1,h2.below hb,h3.below hb,h4⟩
theorem qg8{G:Nat→Prop}{W0 w:World}{g pg pb:Nat}{m:Mt}{gd:Gd}{A:Option Addr}{c:Nat}{l:List Int}(hb:Below W0.heap.size W0 w)(hg:W0.heap.size≤g)(hN:Nx G w g m)(hp:qh W0 pg 38 #[.int .u64 (gd.1:Int),.int .u64 (gd.2:Int)])(hp2:qh W0 pb 80 #[.slice A l.length c])(hl:yU W0 A l c)(h1:l.length≤1000)(hgd:zV gd)(h20:m.qd.length≤100)(hG:∀j,W0.heap.size≤j→G j) :
    Calls prog 230 #[pt g,pt pg,pt pb] w (qn4 G g { m with qd:=m.qd++[⟨gd,l,false⟩] } w):=by
 obtain⟨i0,hi,hz0,hz1,hz2⟩:=info_parts qiG;obtain⟨A0,A1,A2,c0,c1,c2,hk,ht⟩:=hN.ex;obtain⟨xs,hm,hx,hrow⟩:=ht.qd.row;have HK:=QH hk;have HT:=QH ht;have HB:=QH hb;have HG:=QH hG;have HP:=QH (hp.below hb);have tU:=QH (hp2.below hb);have HL:=QH hl;have dm:=QH hg;have HX:=QH hx;have HM:=QH hm;have qvB:=QH hrow;have HGD:=QH hgd;have HLEN:Hid ((zt xs).length=m.qd.length*4):=by unfold Hid;rw[yD,← hm,List.length_map]
 have rF:=QH ht.room;have hci:((m.qd.length:Nat):Int)≤(c1:Int):=by have:=ht.room.1;omega
 have k1:=hk.cell 1;have jQ:=hk.lt;simp only[zw,QA,QB,QC]at k1;clear hN hp hp2 hl hgd hG hk ht hb hg hx hm hrow;obtain⟨a,b⟩:=gd;go_enter func230,ntmps230;go_upto_region 1 with fail;obtain⟨n,hn⟩:=QE m.qd.length;have HN:=QH hn;rw[hn]at HLEN rF hci k1 h20 ⊢;have K1:=QH k1;clear hn k1;refine bM (by kernel_rfl) 13 [10,11,12,13,14,15,16,17,18,19,20,21,22] (by kernel_rfl) (AdG g A1 A n c1 c a b l w.heap.size) _ (pt g) rfl (by decide) (by kernel_rfl) (by kernel_rfl) (by kernel_rfl) (fun _ _ _ h=>h) (Or.inl ⟨by rfl,fun w=>by go_simp⟩) (fun _=>rfl) (qbh _ _ _ _ _ _ _ _ _ _) ?_ ?_
 ·intro i o vs ρ W qvC hop hρ hfn hb hG;have t0:ρ (.tmp 0)=pt g:=hρ.out 0 rfl;have t1:ρ (.tmp 1)=pt pg:=hρ.out 1 rfl;have t2:ρ (.tmp 2)=pt pb:=hρ.out 2 rfl;have t4:ρ (.tmp 4)=.int .i64 (n:Int):=hρ.out 4 rfl;have hc:=hρ.const;have s11:=hρ.at_ 11 1 rfl;have s12:=hρ.at_ 12 2 rfl;have s13:=hρ.at_ 13 3 rfl;have s14:=hρ.at_ 14 4 rfl;have s15:=hρ.at_ 15 5 rfl;have s16:=hρ.at_ 16 6 rfl;have s18:=hρ.at_ 18 8 rfl;have s19:=hρ.at_ 19 9 rfl;have s20:=hρ.at_ 20 10 rfl;have s21:=hρ.at_ 21 11 rfl;have k1:W.cell? ⟨g,1,none⟩=some (.slice A1 n c1):=(hb.cell (p:=⟨g,1,none⟩) jQ).trans K1.out;have hpk:=HP.out.below hb;have hpl:=hpk.lt;have p0:=hpk.cell 0;have p1:=hpk.cell 1;have hqk:=tU.out.below hb;have fS:=hqk.lt;have q0:=hqk.cell 0;simp only[QA,QB,QC]at p0 p1 q0;rcases i with _|_|_|_|_|_|_|_|_|_|_|_|_|i;all_goals (first|omega|skip)
  all_goals simp only[QA,QB,QC,Option.some.injEq]at hop
  all_goals subst hop
  ·exact qa (w':=W) (by unfold execOp;simp only[t0];go_simp) ⟨Below.refl _ _,rfl⟩
  ·exact qa (w':=W) (by unfold execOp;simp only[t0];go_simp) ⟨Below.refl _ _,rfl⟩
  ·have g1:vs 1=_:=hG 1 (by kernel_rfl);exact qa (w':=W) (by unfold execOp;simp only[s11,g1];go_simp) ⟨Below.refl _ _,rfl⟩
  ·have g2:vs 2=_:=hG 2 (by kernel_rfl);exact qa (w':=W) (by unfold execOp;simp only[s12,g2];go_simp) ⟨Below.refl _ _,rfl⟩
  ·have g3:vs 3=_:=hG 3 (by kernel_rfl);exact qa (w':=W) (by unfold execOp;simp only[s13,g3];go_simp) ⟨Below.refl _ _,rfl⟩
  ·exact qa (w':=W) (by unfold execOp;simp only[t4];go_simp) ⟨Below.refl _ _,rfl⟩
  ·exact qa (w':=W) (by unfold execOp;simp only[t4];go_simp) ⟨Below.refl _ _,rfl⟩
  ·have g4:vs 4=_:=hG 4 (by kernel_rfl);have g5:vs 5=_:=hG 5 (by kernel_rfl);have g6:vs 6=_:=hG 6 (by kernel_rfl);exact qa (w':=W) (by unfold execOp;simp only[s14,g4,s15,g5,s16,g6];go_simp) ⟨Below.refl _ _,rfl⟩
  ·exact qa (w':=W) (by unfold execOp;simp only[t1];go_simp) ⟨Below.refl _ _,rfl⟩
  ·exact qa (w':=W) (by unfold execOp;simp only[t2];go_simp) ⟨Below.refl _ _,rfl⟩
  ·have g9:vs 9=_:=hG 9 (by kernel_rfl);refine qi (f:=98) (args:=#[.slice A l.length c]) (w':=W) (by unfold execOp;simp only[hc,hfn,s19,g9];go_simp) ((vR A c l W ((HL.out.below HB.out).below hb) h1).mono ?_);rintro e W' fR;exact⟨_,fR.1,fR.2.2,_,rfl,fR.2.1,hb.size⟩
  ·obtain⟨x,g10,h2,h3⟩:=hG 10 (by kernel_rfl);have g8:vs 8=_:=hG 8 (by kernel_rfl);exact qa (w':=W) (by unfold snA execOp;simp only[s18,g8,s20,g10];go_simp) ⟨Below.refl _ _,x,rfl,h2,h3⟩
  ·obtain⟨x,g11,h2,h3⟩:=hG 11 (by kernel_rfl);have hb1:=(Below.refl _ W).alloc (Nat.le_refl _) (.cells (snA a b (some ⟨x,0,none⟩) l.length) 141);exact qa (v:=.slice (some ⟨W.heap.size,0,none⟩) 1 1) (w':=W.alloc (.cells (snA a b (some ⟨x,0,none⟩) l.length) 141)) (by unfold snA at g11 ⊢;unfold execOp;simp only[s21,g11];go_simp) ⟨hb1,_,x,rfl,qh.new _ _ _,h2.below hb1,h3⟩
 ·intro vs W hb hG;have g0:vs 0=_:=hG 0 (by decide);have g7:vs 7=_:=hG 7 (by decide);obtain⟨y,x,g12,hy,pJ,hxS⟩:=hG 12 (by decide);have yX:=QH hb;have HCE:Hid (∀b,A1=some b→∀j u,(zt xs)[j]?=some u→W.cell? (b.add j)=some u):=fun q hq j u hu=>by
   obtain⟨b',o',e,h2,h3⟩:=qvB.out j u hu;obtain rfl:q=⟨b',o',none⟩:=Option.some.inj (hq.symm.trans e);rw[addr_add];exact(hb.cell (p:=⟨b',o'+j,none⟩) h2).trans h3
  have eJ:Hid (∀j u,(snA a b (some ⟨x,0,none⟩) l.length).toList[j]?=some u→W.cell? ((⟨y,0,none⟩:Addr).add j)=some u):=fun j u hu=>by
   rw[addr_add,Nat.zero_add,hy.cell j];simpa using hu
  have HXK:=QH pJ;have HXS:=QH hxS;have hA:A1=none→n=0:=fun e=>by have:=rF.out.2 e;omega
  have HA:=QH hA;simp only[qZ,qM,if_true];rw[g0,g7,g12];generalize vs 1=z1;generalize vs 2=z2;generalize vs 3=z3;generalize vs 4=z4;generalize vs 5=z5;generalize vs 6=z6;generalize vs 8=z8;generalize vs 9=z9;generalize vs 10=z10;generalize vs 11=z11;clear hG g0 g7 g12 hb hy pJ hxS hA;simp only[Act.put,List.setIfInBounds_toArray,List.set_cons_succ,List.set_cons_zero];refine qY (i:=13) (by kernel_rfl) rfl rfl ?_;refine mv (.tmp 17) (.tmp 22) 94 rfl 141 i0 _ 4 48 underlying94 hi hz0 hz1 hz2 A1 n (zt xs) rfl HLEN.out HA.out HCE.out ⟨y,0,none⟩ 1 1 (snA a b (some ⟨x,0,none⟩) l.length).toList rfl (by rfl) eJ.out (by decide) (by unfold maxLen;omega) (by omega) ?_;intro cap cur w1 hb1 zQ ht1 hc1 hc2 hsz;have hgW:=HK.out.below yX.out;have qn6:=hgW.below hb1;have hWs:=yX.out.size;have hne:W.heap.size≠g:=by omega
  have js:ib.qB (fun j=>j=g) w (w1.setCell ⟨g,1,none⟩ (.slice (some ⟨W.heap.size,0,none⟩) (n+1) cap)) :=
   ((ib.qB.of_below (S:=fun j=>j=g) yX.out).trans (S':=fun _=>False) (ib.qB.of_below hb1) (fun _ h=>h.elim)).setCell _ _ (.inl rfl)
  have hst:vq (fun j=>G j∧j≠g) w (w1.setCell ⟨g,1,none⟩ (.slice (some ⟨W.heap.size,0,none⟩) (n+1) cap)):=vq.ld js (fun j hj=>hj.2);have hk2:qh (w1.setCell ⟨g,1,none⟩ (.slice (some ⟨W.heap.size,0,none⟩) (n+1) cap)) W.heap.size 141 cur:=zQ.of_block (qw _ _ _ _ _ hne);have hGW:G W.heap.size:=HG.out _ (by have:=HB.out.size;omega);have hxg:x≠g:=by have:=HXS.out;omega
  have hsx:dN (fun j=>G j∧j≠g) (w1.setCell ⟨g,1,none⟩ (.slice (some ⟨W.heap.size,0,none⟩) (n+1) cap)) (some ⟨x,0,none⟩) l l.length:=by
   refine⟨⟨qh.nums ((HXK.out.below hb1).of_block (qw _ _ _ _ _ hxg)) HL.out.ints.mem,Nat.le_refl _,fun h=>by cases h⟩,fun _ b o s e=>?_⟩;simp only[Option.some.injEq,Addr.mk.injEq]at e;rw[← e.1];exact⟨HG.out _ (by have:=HXS.out;have:=HB.out.size;omega),hxg⟩
  have hsn:=fQ.qjX (G:=fun j=>G j∧j≠g) (xs:=xs++[(⟨(a,b),l,false⟩,.slice (some ⟨x,0,none⟩) l.length l.length)]) ⟨hGW,hne⟩ hk2.lt (uH hk2 (n:=(n+1)*4) (by rw[ht1,bf,qf6];rfl)) (fun y hy=>by
   rcases List.mem_append.1 hy with h|h
   ·exact(HX.out y h).stay hst
   ·obtain rfl:y=_:=by simpa using h
    exact⟨_,_,rfl,hsx,HGD.out⟩)
  rw[List.map_append,HM.out]at hsn;have ht3:=HT.out.stay hst;have hkk:=qn6.qu 1 (.slice (some ⟨W.heap.size,0,none⟩) (n+1) cap);have HN2:Hid (Nx G (w1.setCell ⟨g,1,none⟩ (.slice (some ⟨W.heap.size,0,none⟩) (n+1) cap)) g { m with qd:=m.qd++[⟨(a,b),l,false⟩] }) :=
   ⟨A0,some ⟨W.heap.size,0,none⟩,A2,c0,cap,c2,by simpa[zw,HN.out]using hkk,kj.mk (m:={ m with qd:=m.qd++[⟨(a,b),l,false⟩] }) ht3.live hsn ⟨by rw[List.length_append,HN.out];exact hc1,fun e=>by cases e⟩ ht3.qp ht3.base ht3.target ht3.next ht3.all⟩
  have HBU:=QH js;have f1:w1.frozen? ⟨g,1,none⟩=false:=qn6.frozen 1;obtain⟨z,hz⟩:∃z,w1.cell? ⟨g,1,none⟩=some z:=⟨_,qn6.cell 1⟩;clear hb1 zQ ht1 hc1 hc2 hsz hgW qn6 hWs js hst hk2 hGW hsx hsn ht3 hkk HCE eJ qvB;go_simp;refine qY (i:=14) (by kernel_rfl) rfl rfl ?_;go_simp;refine qY (i:=15) (by kernel_rfl) rfl rfl ?_;go_simp;refine qY (i:=16) (by kernel_rfl) rfl rfl ?_;go_simp;refine⟨by kernel_rfl,?_⟩;go_wp2_with fail
  go_end0
  exact⟨rfl,HN2.out,HBU.out⟩
theorem qjZ{G:Nat→Prop}{w:World}{gd:Gd}{A:Option Addr}{c:Nat}{l:List Int}(hl:yU w A l c)(h1:l.length≤1000)(hgd:zV gd)(hG:∀j,w.heap.size≤j→G j) :
    Calls prog 157 #[gv gd,.slice A l.length c] w (MkP G (fun m m'=>m.qd.length≤100∧m'={ m with qd:=m.qd++[⟨gd,l,false⟩] }) w):=by
 obtain⟨a,b⟩:=gd;have hb1:=(Below.refl w.heap.size w).alloc (Nat.le_refl _) (.cells #[.int .u64 (a:Int),.int .u64 (b:Int)] 38);have zQ:=qh.new w 38 #[.int .u64 (a:Int),.int .u64 (b:Int)];obtain⟨W1,hW1⟩:=QE (w.alloc (.cells #[.int .u64 (a:Int),.int .u64 (b:Int)] 38));rw[hW1]at hb1 zQ;have hb2:=(Below.refl W1.heap.size W1).alloc (Nat.le_refl _) (.cells #[.slice A l.length c] 80);have fT:=QH (zQ.below hb2);have wj:=QH (qh.new W1 80 #[.slice A l.length c]);have HB:=QH (qc hb1 hb2);have HL:=QH hl;have HG:=QH hG;have HGD:=QH hgd;clear hl hG hgd hb1 zQ hb2;show Calls _ _ #[.agg #[.int .u64 (a:Int),.int .u64 (b:Int)],.slice A l.length c] _ _;go_enter func157,ntmps157;go_wp2_with fail;try rw[hW1]
 go_ret;refine⟨_,rfl,fun m m' hR=>?_,HB.out⟩;obtain⟨h20,rfl⟩:=hR;exact⟨_,_,rfl,fun a W=>by go_simp,fun W g hb hg hN=>qg8 hb hg hN fT.out wj.out (HL.out.below HB.out) h1 HGD.out h20 (fun j hj=>HG.out j (Nat.le_trans HB.out.size hj))⟩
end Go.Proofs.YtdpbdkacngaemaaGreatDoor.vt.pg
namespace Go.Proofs.YtdpbdkacngaemaaGreatDoor.vt.pg
open _root_.Go.Proofs.Tryz Go Go.RowKit ib mt mt.pg
theorem mA (a b:Gd)(w:World):Calls prog 228 #[gv a,gv b] w (kE (above a b) w):=by
 have HR:Hid (decide (0<(if yV a.1 b.1≠0 then yV a.1 b.1 else yV a.2 b.2))=above a b):=(oT a b).symm;obtain⟨r,hr⟩:=QE (above a b);rw[hr]at HR ⊢;clear hr;obtain⟨a1,a2⟩:=a;obtain⟨b1,b2⟩:=b;dsimp only at HR;show Calls prog 228 #[.agg #[.int .u64 (a1:Int),.int .u64 (a2:Int)],.agg #[.int .u64 (b1:Int),.int .u64 (b2:Int)]] w _;have HC1:Hid (∀W,Calls prog 212 #[.int .u64 (a1:Int),.int .u64 (b1:Int)] W (same (.int .i64 (yV a1 b1)) W)):=fun W=>iH a1 b1 W;have HC2:Hid (∀W,Calls prog 212 #[.int .u64 (a2:Int),.int .u64 (b2:Int)] W (same (.int .i64 (yV a2 b2)) W)):=fun W=>iH a2 b2 W;have hz:∀z∈[yV a1 b1,yV a2 b2],qA z:=by
  intro z hz;simp only[List.mem_cons,List.not_mem_nil,or_false]at hz;rcases hz with rfl|rfl
  ·exact bh _ _
  ·exact bh _ _
 generalize yV a1 b1=x at *;generalize yV a2 b2=y at *;have HC3:Hid (∀W B,qH W (some ⟨B,0,none⟩) [x,y]→Calls prog 211 #[.slice (some ⟨B,0,none⟩) 2 2] W (same (.int .i64 (if x≠0 then x else y)) W)):=fun W B h=>qiJ ⟨B,0,none⟩ 2 x y W h;generalize (if x≠0 then x else y)=z at *;have hb1:=(Below.refl w.heap.size w).alloc (Nat.le_refl _) (.cells #[.int .u64 (a1:Int),.int .u64 (a2:Int)] 38);have ha1:=qh.new w 38 #[.int .u64 (a1:Int),.int .u64 (a2:Int)];obtain⟨W1,hW1⟩:=QE (w.alloc (.cells #[.int .u64 (a1:Int),.int .u64 (a2:Int)] 38));rw[hW1]at hb1 ha1;have hbb:=(Below.refl _ W1).alloc (Nat.le_refl _) (.cells #[.int .u64 (b1:Int),.int .u64 (b2:Int)] 38);have HB:=QH (qc hb1 hbb);have iu:=QH (ha1.below hbb);have jT:=QH (qh.new W1 38 #[.int .u64 (b1:Int),.int .u64 (b2:Int)]);obtain⟨w0,hw0⟩:=QE (W1.alloc (.cells #[.int .u64 (b1:Int),.int .u64 (b2:Int)] 38));rw[hw0]at HB iu jT;obtain⟨g0,hg0⟩:=QE w.heap.size;obtain⟨g1,hg1⟩:=QE W1.heap.size;clear hb1 ha1 hbb;have HZ:=QH hz;clear hz;go_enter func228,ntmps228;go_wp2_with fail;try rw[hw0]
 try rw[hg0]
 try rw[hg1]
 rw[hg0]at iu;rw[hg1]at jT;clear hw0 hW1;have hz:=HZ.out;refine xX (by kernel_rfl) [5,6,7,8,9,10,11,12,13,14,15,16,17,4] (by kernel_rfl) (fun L vs W=>Below w0.heap.size w0 W∧∀i,L i=true→i<14→wa g0 g1 a1 a2 b1 b2 x y z i (vs i) W) ⟨(Below.refl _ _).drew,fun i hi=>by cases hi⟩ ?_ ?_ ?_
 ·intro i o L vs ρ W ho cE qf hρ hgd hI;obtain⟨hb,cS⟩:=hI;have hG:∀j,L j=true→wa g0 g1 a1 a2 b1 b2 x y z j (vs j) W:=fun j hj=>by
   by_cases uj:j<14
   ·exact cS j hj uj
   ·match j,uj with
    | j+14,_=>exact trivial
  have rM:i<14:=(Array.getElem?_eq_some_iff.1 ho).1;have hc:=hρ.const;have hfn:=hρ.fn;have next:∀v W',Below W.heap.size W W'→wa g0 g1 a1 a2 b1 b2 x y z i v W'→Below w0.heap.size w0 W'∧∀j,qN L i j=true→j<14→wa g0 g1 a1 a2 b1 b2 x y z j (zZ vs i v j) W':=fun v W' h1 h2=>by
   refine⟨qc hb h1,fun j hj uj=>?_⟩;by_cases uR:j=i
   ·subst uR;simpa[zZ]using h2
   ·simp only[qN,if_neg uR]at hj;simpa[zZ,uR]using qax g0 g1 a1 a2 b1 b2 x y z j _ W W' uj (cS j hj uj) h1
  have hA:=iu.out.below hb;have hB:=jT.out.below hb;have hlt:=hA.lt;have qzK:=hB.lt;have c0:=hA.cell 0;have c1:=hA.cell 1;have d0:=hB.cell 0;have d1:=hB.cell 1;simp only[QA,QB,QC]at c0 c1 d0 d1;rcases i with _|_|_|_|_|_|_|_|_|_|_|_|_|_|i;all_goals (first|omega|skip)
  all_goals simp only[QA,QB,QC,Option.some.injEq]at ho
  all_goals subst ho
  ·have o2:ρ (.tmp 2)=.pointer (some ⟨g0,0,none⟩):=hρ.out 2 rfl;exact qa (w':=W) (by unfold execOp;simp only[o2,hc];go_simp) (next _ _ (Below.refl _ _) rfl)
  ·have g5:wa g0 g1 a1 a2 b1 b2 x y z 0 (vs 0) W:=hG 0 (qf 0 (by kernel_rfl));have s5:ρ (.tmp 5)=.pointer (some ⟨g0,0,none⟩):=(hρ.at_ 5 0 rfl).trans g5;exact qa (w':=W) (by unfold execOp;simp only[s5,hc];go_simp) (next _ _ (Below.refl _ _) rfl)
  ·have o3:ρ (.tmp 3)=.pointer (some ⟨g1,0,none⟩):=hρ.out 3 rfl;exact qa (w':=W) (by unfold execOp;simp only[o3,hc];go_simp) (next _ _ (Below.refl _ _) rfl)
  ·have g7:wa g0 g1 a1 a2 b1 b2 x y z 2 (vs 2) W:=hG 2 (qf 2 (by kernel_rfl));have s7:ρ (.tmp 7)=.pointer (some ⟨g1,0,none⟩):=(hρ.at_ 7 2 rfl).trans g7;exact qa (w':=W) (by unfold execOp;simp only[s7,hc];go_simp) (next _ _ (Below.refl _ _) rfl)
  ·have g6:wa g0 g1 a1 a2 b1 b2 x y z 1 (vs 1) W:=hG 1 (qf 1 (by kernel_rfl));have s6:ρ (.tmp 6)=.int .u64 (a1:Int):=(hρ.at_ 6 1 rfl).trans g6;have g8:wa g0 g1 a1 a2 b1 b2 x y z 3 (vs 3) W:=hG 3 (qf 3 (by kernel_rfl));have s8:ρ (.tmp 8)=.int .u64 (b1:Int):=(hρ.at_ 8 3 rfl).trans g8;refine qi (f:=212) (args:=#[.int .u64 (a1:Int),.int .u64 (b1:Int)]) (w':=W) (by unfold execOp;simp only[hfn,s6,s8];go_simp) ((HC1.out W).mono ?_);rintro x W' ⟨rfl,rfl⟩;exact⟨_,rfl,next _ _ (Below.refl _ _) rfl⟩
  ·have o2:ρ (.tmp 2)=.pointer (some ⟨g0,0,none⟩):=hρ.out 2 rfl;exact qa (w':=W) (by unfold execOp;simp only[o2,hc];go_simp) (next _ _ (Below.refl _ _) rfl)
  ·have g10:wa g0 g1 a1 a2 b1 b2 x y z 5 (vs 5) W:=hG 5 (qf 5 (by kernel_rfl));have s10:ρ (.tmp 10)=.pointer (some ⟨g0,1,none⟩):=(hρ.at_ 10 5 rfl).trans g10;exact qa (w':=W) (by unfold execOp;simp only[s10,hc];go_simp) (next _ _ (Below.refl _ _) rfl)
  ·have o3:ρ (.tmp 3)=.pointer (some ⟨g1,0,none⟩):=hρ.out 3 rfl;exact qa (w':=W) (by unfold execOp;simp only[o3,hc];go_simp) (next _ _ (Below.refl _ _) rfl)
  ·have g12:wa g0 g1 a1 a2 b1 b2 x y z 7 (vs 7) W:=hG 7 (qf 7 (by kernel_rfl));have s12:ρ (.tmp 12)=.pointer (some ⟨g1,1,none⟩):=(hρ.at_ 12 7 rfl).trans g12;exact qa (w':=W) (by unfold execOp;simp only[s12,hc];go_simp) (next _ _ (Below.refl _ _) rfl)
  ·have g11:wa g0 g1 a1 a2 b1 b2 x y z 6 (vs 6) W:=hG 6 (qf 6 (by kernel_rfl));have s11:ρ (.tmp 11)=.int .u64 (a2:Int):=(hρ.at_ 11 6 rfl).trans g11;have g13:wa g0 g1 a1 a2 b1 b2 x y z 8 (vs 8) W:=hG 8 (qf 8 (by kernel_rfl));have s13:ρ (.tmp 13)=.int .u64 (b2:Int):=(hρ.at_ 13 8 rfl).trans g13;refine qi (f:=212) (args:=#[.int .u64 (a2:Int),.int .u64 (b2:Int)]) (w':=W) (by unfold execOp;simp only[hfn,s11,s13];go_simp) ((HC2.out W).mono ?_);rintro x W' ⟨rfl,rfl⟩;exact⟨_,rfl,next _ _ (Below.refl _ _) rfl⟩
  ·have g9:wa g0 g1 a1 a2 b1 b2 x y z 4 (vs 4) W:=hG 4 (qf 4 (by kernel_rfl));have s9:ρ (.tmp 9)=.int .i64 (x):=(hρ.at_ 9 4 rfl).trans g9;have g14:wa g0 g1 a1 a2 b1 b2 x y z 9 (vs 9) W:=hG 9 (qf 9 (by kernel_rfl));have s14:ρ (.tmp 14)=.int .i64 (y):=(hρ.at_ 14 9 rfl).trans g14;exact qa (v:=.slice (some ⟨W.heap.size,0,none⟩) 2 2) (w':=W.alloc (.cells (qj [x,y]) 3)) (by unfold execOp;simp only[s9,s14,qj];go_simp) (next _ _ ((Below.refl _ W).alloc (Nat.le_refl _) _) ⟨W.heap.size,rfl,wL W _ hz⟩)
  ·obtain⟨B15,g15,qiS⟩:wa g0 g1 a1 a2 b1 b2 x y z 10 (vs 10) W:=hG 10 (qf 10 (by kernel_rfl));have s15:ρ (.tmp 15)=.slice (some ⟨B15,0,none⟩) 2 2:=(hρ.at_ 15 10 rfl).trans g15;refine qi (f:=211) (args:=#[.slice (some ⟨B15,0,none⟩) 2 2]) (w':=W) (by unfold execOp;simp only[hfn,s15];go_simp) ((HC3.out W B15 qiS).mono ?_);rintro x W' ⟨rfl,rfl⟩;exact⟨_,rfl,next _ _ (Below.refl _ _) rfl⟩
  ·have g16:wa g0 g1 a1 a2 b1 b2 x y z 11 (vs 11) W:=hG 11 (qf 11 (by kernel_rfl));have s16:ρ (.tmp 16)=.int .i64 z:=(hρ.at_ 16 11 rfl).trans g16;exact qa (w':=W) (by unfold execOp;simp only[s16,hc];go_simp) (next _ _ (Below.refl _ _) rfl)
  ·have g17:wa g0 g1 a1 a2 b1 b2 x y z 12 (vs 12) W:=hG 12 (qf 12 (by kernel_rfl));have s17:ρ (.tmp 17)=.bool (decide (0<z)):=(hρ.at_ 17 12 rfl).trans g17;exact qa (w':=W) (by unfold execOp;simp only[s17,hc];go_simp) (next _ _ (Below.refl _ _) rfl)
 ·intro i o L vs W j want ho cE qf hg hv hI;obtain⟨hb,cS⟩:=hI;have hG:∀j,L j=true→wa g0 g1 a1 a2 b1 b2 x y z j (vs j) W:=fun j hj=>by
   by_cases uj:j<14
   ·exact cS j hj uj
   ·match j,uj with
    | j+14,_=>exact trivial
  have rM:i<14:=(Array.getElem?_eq_some_iff.1 ho).1;rcases i with _|_|_|_|_|_|_|_|_|_|_|_|_|_|i;all_goals (first|omega|skip)
  all_goals simp only[QA,QB,QC,Option.some.injEq]at ho
  all_goals subst ho
  all_goals simp only[reduceCtorEq,Option.some.injEq,Prod.mk.injEq]at hg
 ·intro vs W hI;have g7:vs 13=.bool (decide (0<z)):=hI.2 13 (by decide) (by decide);have hbW:=QH (qc HB.out hI.1);clear hI;go_wp2_with fail;refine dT 13 rfl (by decide +kernel) (by kernel_rfl) rfl g7 ⟨by rw[HR.out],hbW.out⟩
end Go.Proofs.YtdpbdkacngaemaaGreatDoor.vt.pg
namespace Go.Proofs.YtdpbdkacngaemaaGreatDoor.vt.pg
open _root_.Go.Proofs.Tryz Go Go.RowKit ib mt im sp
def qg9 (G:Nat→Prop)(l:List Int)(w:World)(e:Ending)(w':World):Prop:=∃A c,e=.returned (.slice A l.length c)∧dN G w' A l c∧Below w.heap.size w w'
def pK (m:Mt)(n:Nat):List Int:=kR { m with qd:=m.qd.take n }
theorem qdw(m:Mt):pK m 0=List.replicate m.live.length 0:=rfl
theorem qgA{m:Mt}{k:Nat}(h:k<m.qd.length):pK m (k+1)=m.qd[k].qp:=by
 unfold pK kR;dsimp only;rw[List.take_succ_eq_append_getElem h,List.getLast?_concat]
theorem qgB(m:Mt):pK m m.qd.length=kR m:=by unfold pK;rw[List.take_length]
theorem qgC{m:Mt}(h:m.qd.length=0):qI m=(0,0):=by
 unfold qI;rw[List.length_eq_zero_iff.1 h];rfl
theorem qgD{m:Mt}{k:Nat}(h:k<m.qd.length)(h1:k+1=m.qd.length):qI m=m.qd[k].g:=by
 unfold qI;rw[List.getLast?_eq_getElem?,show m.qd.length-1=k by omega,List.getElem?_eq_getElem h]
theorem xL (w:World)(X:Array Value):∃W,w.alloc (.cells X 96)=W∧qh W w.heap.size 96 X∧Below w.heap.size w W :=
 ⟨_,rfl,qh.new _ _ _,(Below.refl _ _).alloc (Nat.le_refl _) _⟩
theorem pL {w:World}{A0 A1 A2:Option Addr}{c0 c1 c2:Nat}{m:Mt}(hS:ji w A1 m.qd)(h20:m.qd.length≤1000) :
    Calls prog 227 #[.agg (zw A0 A1 A2 c0 c1 c2 m)] w fun e w'=>e=.returned (gv (qI m))∧Below w.heap.size w w':=by
 obtain⟨W1,hW1,zQ,hb1⟩:=xL w (zw A0 A1 A2 c0 c1 c2 m);have hb2:=(Below.refl _ W1).alloc (Nat.le_refl _) (.cells #[.int .u64 0,.int .u64 0] 38);have hr2:=qh.new W1 38 #[.int .u64 0,.int .u64 0];obtain⟨W2,hW2⟩:=QE (W1.alloc (.cells #[.int .u64 0,.int .u64 0] 38));rw[hW2]at hb2 hr2;have qG:=QH (qc hb1 hb2);have hk2:=zQ.below hb2;have uS:=QH hr2;have HLE:Hid (w.heap.size<W1.heap.size):=zQ.lt;have q1:=hk2.cell 1;have fS:=hk2.lt;simp only[zw,QA,QB,QC]at q1;have HS:=QH (hS.below qG.out);have r0:=hr2.cell 0;have r1:=hr2.cell 1;have f0:=hr2.frozen 0;have f1:=hr2.frozen 1;have hrl:=hr2.lt;simp only[QA,QB,QC]at r0 r1;have xn:Hid (∀(a b:Nat) W,qh W W1.heap.size 38 #[.int .u64 (a:Int),.int .u64 (b:Int)]→(loadVar 38 ⟨W1.heap.size,0,none⟩).run prog W=.ok (.agg #[.int .u64 (a:Int),.int .u64 (b:Int)]) W):=fun a b W hW =>
  run_loadVar_row W W1.heap.size 38 38 _ (0,0) _ hW underlying38 rfl (by kernel_rfl)
 have wF:Hid (∀(a b:Nat),qh ((W2.setCell ⟨W1.heap.size,0,none⟩ (.int .u64 (a:Int))).setCell ⟨W1.heap.size,1,none⟩ (.int .u64 (b:Int))) W1.heap.size 38 #[.int .u64 (a:Int),.int .u64 (b:Int)]∧Below w.heap.size w ((W2.setCell ⟨W1.heap.size,0,none⟩ (.int .u64 (a:Int))).setCell ⟨W1.heap.size,1,none⟩ (.int .u64 (b:Int)))):=fun a b =>
  ⟨by have:=(hr2.qu 0 (.int .u64 (a:Int))).qu 1 (.int .u64 (b:Int));simpa using this,(qG.out.setCell (p:=⟨W1.heap.size,0,none⟩) (by have:=HLE.out;show w.heap.size≤W1.heap.size;omega) _).setCell (p:=⟨W1.heap.size,1,none⟩) (by have:=HLE.out;show w.heap.size≤W1.heap.size;omega) _⟩
 clear hS zQ hb1 hb2 hr2 hk2;by_cases h0:m.qd.length=0
 ·have HG:=QH (qgC h0);have hz:((m.qd.length:Int) == 0)=true:=by rw[h0];rfl
  clear h0;unfold zw at hW1 ⊢;go_enter func227,ntmps227;go_upto_region 1 with fail;try rw[hW1]
  try rw[hW2]
  clear hW1 hW2;go_wp2_with fail;refine bodyPost_ret (v:=.agg #[.int .u64 0,.int .u64 0]) (im.zx rfl _ _ _ ⟨W1.heap.size,0,none⟩ _ rfl (xn.out 0 0 _ (wF.out 0 0).1)) rfl ⟨by rw[HG.out];rfl,(wF.out 0 0).2⟩
 ·obtain⟨k,hk⟩:∃k,m.qd.length=k+1:=⟨m.qd.length-1,by omega⟩;have nM:k<m.qd.length:=by omega
  have HG:=QH (qgD nM hk.symm);obtain⟨b,o,B,c,rfl,s2,s3,s4,_⟩:=HS.out k nM;generalize m.qd[k].g=gg at *;obtain⟨ga,gb⟩:=gg;dsimp only at s3 s4;have hw:IntKind.i64.wrap ((m.qd.length:Int)-1)=(k:Int):=by rw[IntWalk.i64_in _ (by omega)];omega
  have ja:(k:Int)<(m.qd.length:Int):=by omega
  have hk0:¬ (k:Int)<0:=by omega
  have hnz:((m.qd.length:Int) == 0)=false:=beq_false_of_ne (by omega);unfold zw at hW1 ⊢;clear hk h0;go_enter func227,ntmps227;go_upto_region 1 with fail;try rw[hW1]
  try rw[hW2]
  clear hW1 hW2;go_wp2_with fail;refine bodyPost_ret (v:=.agg #[.int .u64 (ga:Int),.int .u64 (gb:Int)]) (im.zx rfl _ _ _ ⟨W1.heap.size,0,none⟩ _ rfl (xn.out ga gb _ (wF.out ga gb).1)) rfl ⟨by rw[HG.out];rfl,(wF.out ga gb).2⟩
theorem qdx{w:World}{A0 A1 A2:Option Addr}{c0 c1 c2:Nat}(m:Mt):Calls prog 97 #[.agg (zw A0 A1 A2 c0 c1 c2 m)] w (kE (decide (m.tok.target=(0,0))) w):=by
 obtain⟨W1,hW1,zQ,hb1⟩:=xL w (zw A0 A1 A2 c0 c1 c2 m);have q4:=zQ.cell 4;have q5:=zQ.cell 5;have fS:=zQ.lt;simp only[zw,QA,QB,QC]at q4 q5;have qU:=QH hb1;have HD:Hid (decide (m.tok.target=(0,0))=(((m.tok.target.1:Int) == 0)&&((m.tok.target.2:Int) == 0))):=by
  unfold Hid;have:(m.tok.target=(0,0))↔((m.tok.target.1:Int)=0∧(m.tok.target.2:Int)=0):=by
   constructor
   ·intro h;rw[h];exact⟨rfl,rfl⟩
   ·intro h;exact Prod.ext (by have:=h.1;omega) (by have:=h.2;omega)
  rw[Bool.eq_iff_iff];simp only[decide_eq_true_eq,Bool.and_eq_true,beq_iff_eq];exact this
 obtain⟨r,hr⟩:=QE (decide (m.tok.target=(0,0)));rw[hr]at HD ⊢;unfold zw at hW1 ⊢;generalize (m.tok.target.1:Int)=x at *;generalize (m.tok.target.2:Int)=y at *;obtain⟨p1,hp1⟩:=QE (x == 0);obtain⟨p2,hp2⟩:=QE (y == 0);rw[hp1,hp2]at HD;clear zQ hb1 hr;go_enter func97,ntmps97;go_upto_region 1 with fail;try rw[hW1]
 clear hW1;cases p1 <;> cases p2;all_goals
  go_wp2_with fail;go_ret;exact⟨by rw[HD.out];rfl,qU.out⟩
theorem qka{G:Nat→Prop}{w:World}{A0 A1 A2:Option Addr}{c0 c1 c2:Nat}{m:Mt}(hS:fQ G w A1 m.qd)(hsz:mtS m)(hG:∀j,w.heap.size≤j→G j)(n:Nat)(hn:n≤m.qd.length) :
    Calls prog 71 #[.agg (zw A0 A1 A2 c0 c1 c2 m),.int .i64 (n:Int)] w (qg9 G (pK m n) w):=by
 obtain⟨W1,hW1,zQ,hb1⟩:=xL w (zw A0 A1 A2 c0 c1 c2 m);have q0:=zQ.cell 0;have q1:=zQ.cell 1;have fS:=zQ.lt;simp only[zw,QA,QB,QC]at q0 q1;have qU:=QH hb1;have HS:=QH (hS.stay (vq.of_below hb1));have HG:=QH hG;have HL:=QH hsz.live;clear hS hG zQ hb1;rcases n with _|k
 ·rw[qdw];have hb2:=(Below.refl _ W1).alloc (Nat.le_refl _) (.cells (qj (List.replicate m.live.length 0)) 3);have hs2:=qqu W1 (List.replicate m.live.length 0) (fun z hz=>by rw[List.eq_of_mem_replicate hz];unfold qA;omega);have qG:=QH (qc qU.out hb2);have kY:Hid (dN G (W1.alloc (.cells (qj (List.replicate m.live.length 0)) 3)) (some ⟨W1.heap.size,0,none⟩) (List.replicate m.live.length 0) (List.replicate m.live.length (0:Int)).length):=⟨hs2,fun _ b o s e=>by
   simp only[Option.some.injEq,Addr.mk.injEq]at e;rw[← e.1];exact HG.out _ qU.out.size⟩
  have HW:=QH hW1;clear hW1 hb2 hs2;unfold zw at HW ⊢;go_enter func71,ntmps71;go_upto_region 1 with fail;rw[HW.out];go_wp2_with (at_make;refine qx rfl (aG _ _ m.live.length rfl rfl rfl (by have:=HL.out;omega)) ?_);go_ret;exact⟨_,_,by simp,kY.out,qG.out⟩
 ·have nM:k<m.qd.length:=by omega
  rw[qgA nM];obtain⟨b,o,B,c,rfl,s2,_,_,s5,_,s7,_⟩:=HS.out.at_ k nM;generalize m.qd[k].qp=im at *;have HS7:=QH s7;have hw:IntKind.i64.wrap (((k+1:Nat):Int)-1)=(k:Int):=by have:=hsz.qd;rw[IntWalk.i64_in _ (by omega)];omega
  have ja:(k:Int)<(m.qd.length:Int):=by omega
  have hk0:¬ (k:Int)<0:=by omega
  have hnz:(((k+1:Nat):Int) == 0)=false:=beq_false_of_ne (by omega);have HW:=QH hW1;clear hW1 s7 hsz;obtain⟨n1,hn1⟩:=QE ((k+1:Nat):Int);rw[hn1]at hw hnz ⊢;clear hn1;unfold zw at HW ⊢;go_enter func71,ntmps71;go_upto_region 1 with fail;rw[HW.out];go_wp2_with fail;go_ret;exact⟨_,_,rfl,HS7.out,qU.out⟩
end Go.Proofs.YtdpbdkacngaemaaGreatDoor.vt.pg
namespace Go.Proofs.YtdpbdkacngaemaaGreatDoor.ib
open _root_.Go.Proofs.Tryz Go Go.RowKit Go.ChangeShapes Go.WideShapes Go.Deep
def bN (w:World)(a:Option Addr)(jW:List (List Int)):Prop :=
 ∀i (h:i<jW.length),∃b o A c,a=some ⟨b,o,none⟩∧b<w.heap.size∧w.cell? ⟨b,o+i,none⟩=some (.slice A jW[i].length c)∧qH w A jW[i]∧jW[i].length≤9223372036854775807
theorem bN.below{w w':World}{a:Option Addr}{jW:List (List Int)}(h:bN w a jW)(hb:Below w.heap.size w w'):bN w' a jW:=by
 intro i hi;obtain⟨b,o,A,c,h1,h2,h3,h4,h5⟩:=h i hi;exact⟨b,o,A,c,h1,Nat.lt_of_lt_of_le h2 hb.size,by rw[hb.cell (p:=⟨b,o+i,none⟩) h2];exact h3,h4.below hb,h5⟩
section
variable {H:Type} {enc:TypeId × Value→H} {w:World} {held:Bool} {a:Option Addr} {l c:Nat} {d:DataW H} {pl:List MemPlace}
end
end Go.Proofs.YtdpbdkacngaemaaGreatDoor.ib
namespace Go.Proofs.YtdpbdkacngaemaaGreatDoor
open _root_.Go.Proofs.Tryz Go Go.RowKit
theorem xM {P:Program}{ops:Array Oper}{rest:List Oper}{o:Oper}{a:Act}{w:World}{Q:Exit→Act→World→Prop}(hgd:o.guard=none)(s x:Operand)(t:TypeId)
    (ho:o.op=.call { callee:=.builtin .append,args:=#[s,x],argTypes:=#[t,t] })
    (base:Nat) (e:TypeId) (i:TypeInfo) (z:Value) (size bytes:Nat) (ht:P.underlying t=some (.slice e)) (hi:P.info? e=some i) (hz:i.zero=some z)
    (hsize:i.size=size) (hby:i.bytes=bytes) (hzs:z.cells.size=size) (hsz:0<size)
    (v:Value) (n:Nat) (xs:List Value) (hs:a.eval s=v) (hown:w.ownsRow base e size v n xs)
    (ad:Addr) (m c:Nat) (news:List Value) (hx:a.eval x=.slice (some ad) m c) (hl:news.length=m*size) (hnews:∀j u,news[j]?=some u→w.cell? (ad.add j)=some u) (h1:∀u∈news,u.oneCell'=true)
    (h63:n+m≤maxLen) (hbytes:(n+m)*bytes≤140737488355328) (hbase:base≤w.heap.size)
    (h:∀v' w',w'.ownsRow base e size v' (n+m) (xs++news)→w.grownBy w' v.ownBlock→(v'.ownBlock=v.ownBlock∨v'.ownBlock=some w.heap.size)→wpList P ops Q rest (a.put o.dst v') w'):wpList P ops Q (o::rest) a w:=by
 refine wpList_plain hgd fun K hK=>?_;obtain⟨v',w',hrun,h2,h3,_,h5⟩:=run_append_own_at (P:=P) w base t o.type e i z size bytes ht hi hz hsize hby hzs hsz v n xs hown ad m c news hl hnews h1 h63 hbytes hbase;unfold Oper.wp;simp[execOp,ho,resolve,invoke,builtin,hs,hx,hrun,Result.andThen];exact hK _ _ (h v' w' h2 h3 h5)
end Go.Proofs.YtdpbdkacngaemaaGreatDoor
namespace Go.Proofs.YtdpbdkacngaemaaGreatDoor.vt.pg
open _root_.Go.Proofs.Tryz Go Go.RowKit ib mt im sp
theorem qrp:(prog.info? 80).map (fun i=>(i.zero,i.size,i.bytes))=some (some (.slice none 0 0),1,24):=by kernel_rfl
def qgE (w:World)(u:Value)(l:List Int):Prop:=∃B c,u=.slice B l.length c∧qH w B l∧l.length≤1000
theorem qgE.below{w w':World}{u:Value}{l:List Int}(h:qgE w u l)(hb:Below w.heap.size w w'):qgE w' u l:=by
 obtain⟨B,c,h1,h2,h3⟩:=h;exact⟨B,c,h1,h2.below hb,h3⟩
def IvL (w:World)(vs:List Value)(ls:List (List Int)):Prop:=vs.length=ls.length∧∀i (h:i<vs.length) (h':i<ls.length),qgE w vs[i] ls[i]
theorem IvL.below{w w':World}{vs:List Value}{ls:List (List Int)}(h:IvL w vs ls)(hb:Below w.heap.size w w'):IvL w' vs ls:=⟨h.1,fun i h1 h2=>(h.2 i h1 h2).below hb⟩
theorem IvL.snoc{w:World}{vs:List Value}{ls:List (List Int)}{u:Value}{l:List Int}(h:IvL w vs ls)(hu:qgE w u l):IvL w (vs++[u]) (ls++[l]):=by
 refine⟨by simp[h.1],fun i h1 h2=>?_⟩;by_cases hi:i<vs.length
 ·rw[List.getElem_append_left hi,List.getElem_append_left (by have:=h.1;omega)];exact h.2 i hi _
 ·have e:i=vs.length:=by simp at h1;omega
  subst e;rw[List.getElem_append_right (Nat.le_refl _),List.getElem_append_right (by have:=h.1;omega)];simpa[h.1]using hu
theorem IvL.ims{w:World}{B:Nat}{v:Value}{vs:List Value}{ls:List (List Int)}(h:IvL w vs ls)(ho:w.ownsRow B 80 1 v ls.length vs):∃A c,v=.slice A ls.length c∧bN w A ls:=by
 rcases ho.2 with⟨rfl,h0⟩|⟨g,cap,cur,rfl,hg,hh,hcc,hm,hcs,yb⟩
 ·exact⟨none,0,by rw[h0],fun i hi=>absurd hi (by omega)⟩
 ·refine⟨some ⟨g,0,none⟩,cap,rfl,fun i hi=>?_⟩;obtain⟨B',c',e,h1,h2⟩:=h.2 i (by have:=h.1;omega) hi;refine⟨g,0,B',c',rfl,(Array.getElem?_eq_some_iff.1 hh).1,?_,h1,by omega⟩;rw[Nat.zero_add,cell_of_row w g i cur 80 (0,0) hh];have hiv:i<vs.length:=by have:=h.1;omega
  have hu:vs[i]?=some (.slice B' ls[i].length c'):=by rw[List.getElem?_eq_getElem hiv,e]
  rw[← yb,List.getElem?_take]at hu;split at hu
  ·rw[← hu];simp
  ·cases hu
def ImR (B:Nat)(m:Mt)(w:World)(v i:Value)(wr:World):Prop :=
 ∃(k:Nat) (vs:List Value),k≤m.qd.length∧i=.int .i64 (k:Int)∧wr.ownsRow B 80 1 v (k+2) vs∧IvL w vs (m.live::m.tok.qp::(m.qd.take k).map (·.qp))∧Below w.heap.size w wr∧B≤wr.heap.size
def qvF (ls:List (List Int))(w:World)(e:Ending)(w':World):Prop:=∃A c,e=.returned (.slice A ls.length c)∧bN w' A ls∧Below w.heap.size w w'
theorem qdy{w:World}{A0 A1 A2:Option Addr}{c0 c1 c2:Nat}{m:Mt}(ht:MtL w A0 A1 A2 c0 c1 c2 m)(hsz:mtS m) :
    Calls prog 138 #[.agg (zw A0 A1 A2 c0 c1 c2 m)] w (qvF (xg m) w):=by
 obtain⟨i0,hi,hz0,hz1,hz2⟩:=info_parts qrp;obtain⟨W1,hW1,zQ,hb1⟩:=xL w (zw A0 A1 A2 c0 c1 c2 m);have hb2:=(Below.refl _ W1).alloc (Nat.le_refl _) (.cells #[.slice A0 m.live.length c0,.slice A2 m.tok.qp.length c2] 80);have hn2:=qh.new W1 80 #[.slice A0 m.live.length c0,.slice A2 m.tok.qp.length c2];obtain⟨W2,hW2⟩:=QE (W1.alloc (.cells #[.slice A0 m.live.length c0,.slice A2 m.tok.qp.length c2] 80));rw[hW2]at hb2 hn2;have hbb:=qc hb1 hb2;have wk:Hid (W2.ownsRow W1.heap.size 80 1 (.slice (some ⟨W1.heap.size,0,none⟩) 2 2) 2 [.slice A0 m.live.length c0,.slice A2 m.tok.qp.length c2]) :=
  ⟨rfl,.inr ⟨W1.heap.size,2,_,rfl,Nat.le_refl _,hn2,Nat.le_refl _,by unfold maxLen;omega,rfl,rfl⟩⟩
 have HI2:Hid (IvL w [.slice A0 m.live.length c0,.slice A2 m.tok.qp.length c2] [m.live,m.tok.qp]) :=
  (IvL.snoc (vs:=[.slice A0 m.live.length c0]) (ls:=[m.live]) ⟨rfl,fun i h1 h2=>by
   obtain rfl:i=0:=by simp at h1;exact h1
   exact⟨A0,c0,rfl,ht.live.ints,hsz.live⟩⟩ ⟨A2,c2,rfl,ht.qp.ints,hsz.qp⟩)
 have HS:=QH ht.qd;have qG:=QH hbb;have hk2:=zQ.below hb2;have HL1:Hid (W1.heap.size≤W2.heap.size):=hb2.size;have HLW:Hid (w.heap.size≤W1.heap.size):=hb1.size;have po:=QH hsz;have q0:=zQ.cell 0;have q1:=hk2.cell 1;have q8:=zQ.cell 8;have fS:=zQ.lt;have q9O:=hk2.lt;have h20:=hsz.qd;simp only[zw,QA,QB,QC]at q0 q1 q8;clear ht hsz zQ hb1 hb2 hn2 hbb hk2;have HIM:Hid (xg m=m.live::m.tok.qp::m.qd.map (·.qp)):=rfl;unfold zw at hW1 ⊢;go_enter func138,ntmps138;go_upto_region 1 with fail;try rw[hW1]
 clear hW1;go_upto_region 2 with fail;try rw[hW2]
 clear hW2 q0 q8 fS;go_wp2_with fail;go_loopw [3,15] (fun v i wr=>ImR W1.heap.size m w v i wr) (fun _ i _=>m.qd.length-(intOf i).toNat);case atStart=>exact⟨0,_,Nat.zero_le _,rfl,wk.out,HI2.out,qG.out,HL1.out⟩
 case round =>
  obtain⟨k,vs,hk,rfl,ho,hiv,hB,hLR⟩:=hrel;have HLR:=QH hLR;have HO:=QH ho;have HIV:=QH hiv;have HB:=QH hB;clear ho hiv hB;by_cases hlt:k<m.qd.length
  ·have ja:(k:Int)<(m.qd.length:Int):=by omega
   have hk0:¬ (k:Int)<0:=by omega
   obtain⟨b,o,B,c,hA,z1,z2,z3,z4,z5,s6,_⟩:=HS.out k hlt;have s1:=Nat.lt_of_lt_of_le z1 HB.out.size;have s2:=(HB.out.cell (p:=⟨b,o+k*4,none⟩) z1).trans z2;have s3:=(HB.out.cell (p:=⟨b,o+k*4+1,none⟩) z1).trans z3;have s4:=(HB.out.cell (p:=⟨b,o+k*4+2,none⟩) z1).trans z4;have s5:=(HB.out.cell (p:=⟨b,o+k*4+3,none⟩) z1).trans z5;clear z1 z2 z3 z4 z5;have HSL:=QH s6;have xY:Hid ((m.qd.take (k+1)).map (·.qp)=(m.qd.take k).map (·.qp)++[m.qd[k].qp]):=by unfold Hid;rw[List.take_succ_eq_append_getElem hlt,List.map_append];rfl
   have HIL:Hid (m.qd[k].qp.length≤1000):=po.out.wM _ (List.getElem_mem hlt);subst hA;obtain⟨im,uB⟩:=QE (m.qd[k].qp);obtain⟨gd,hgd⟩:=QE (m.qd[k].g);obtain⟨hd,hhd⟩:=QE (m.qd[k].hid);rw[uB]at HSL xY HIL s4;rw[hgd]at s2 s3;rw[hhd]at s5;clear uB hgd hhd s6;have uo:=(Below.refl _ wr).alloc (Nat.le_refl _) (.cells #[.int .u64 (gd.1:Int),.int .u64 (gd.2:Int),.slice B im.length c,.bool hd] 141);obtain⟨W3,hW3⟩:=QE (wr.alloc (.cells #[.int .u64 (gd.1:Int),.int .u64 (gd.2:Int),.slice B im.length c,.bool hd] 141));have jH:=qh.new wr 141 #[.int .u64 (gd.1:Int),.int .u64 (gd.2:Int),.slice B im.length c,.bool hd];rw[hW3]at uo jH;have r2:=jH.cell 2;have hrl:=jH.lt;simp only[QA,QB,QC]at r2;have hby:=(Below.refl _ W3).alloc (Nat.le_refl _) (.cells #[.slice B im.length c] 80);have hbz:=qc uo hby;have sJ:Hid ((W3.alloc (.cells #[.slice B im.length c] 80)).ownsRow W1.heap.size 80 1 _ (k+2) vs):=zK HO.out (fun j hj=>hbz.block j (HO.out.lt j hj).2);have q0u:Hid (qgE w (.slice B im.length c) im):=⟨B,c,rfl,HSL.out.ints,HIL.out⟩;have zY:=QH (qc HB.out hbz);have HL4:Hid (W1.heap.size≤(W3.alloc (.cells #[.slice B im.length c] 80)).heap.size):=by have h1:=HO.out.2;have:=hbz.size;have:=HLR.out;unfold Hid;omega
   have eJ:Hid (∀j u,([.slice B im.length c]:List Value)[j]?=some u→(W3.alloc (.cells #[.slice B im.length c] 80)).cell? ((⟨W3.heap.size,0,none⟩:Addr).add j)=some u):=fun j u hu=>by
    rw[addr_add,Nat.zero_add,(qh.new W3 80 #[.slice B im.length c]).cell j];simpa using hu
   clear uo jH hby hbz;go_wp2_with (at_builtin;refine xM rfl (.tmp 19) (.tmp 22) 218 rfl W1.heap.size 80 i0 (.slice none 0 0) 1 24 underlying218 hi hz0 hz1 hz2 rfl (by decide) _ (k+2) vs rfl sJ.out ⟨W3.heap.size,0,none⟩ 1 1 [.slice B im.length c] rfl rfl eJ.out (by intro u hu;simp at hu;subst hu;rfl) (by unfold maxLen;omega) (by omega) (by have:=zY.out.size;have:=HL4.out;omega) ?_);intro v' w1 hown hgrow _;have jU:Hid (Below w.heap.size w w1):=zY.out.grown hgrow zY.out.size (fun j hj=>Nat.le_trans HLW.out (sJ.out.lt j hj).1);have HO5:Hid (w1.ownsRow W1.heap.size 80 1 v' (k+1+2) (vs++[.slice B im.length c])):=by
    have:=hown;rw[show k+2+1=k+1+2 by omega]at this;exact this
   have q0v:Hid (IvL w (vs++[.slice B im.length c]) (m.live::m.tok.qp::(m.qd.take (k+1)).map (·.qp))):=by
    rw[xY.out];exact HIV.out.snoc q0u.out
   have HL5:Hid (W1.heap.size≤w1.heap.size):=Nat.le_trans HL4.out hgrow.size;clear hown hgrow;go_wp2_with fail;go_roundw;case rel=>exact⟨k+1,_,by omega,by go_num,HO5.out,q0v.out,jU.out,HL5.out⟩
   case measure=>simp[intOf];omega
  ·obtain rfl:k=m.qd.length:=by omega
   have ja:¬ (m.qd.length:Int)<(m.qd.length:Int):=by omega
   have hiv:=HIV.out;rw[List.take_length]at hiv;have uB:=(hiv.below HB.out).ims (B:=W1.heap.size) (by
    have:=HO.out;rw[show m.qd.length+2=(m.live::m.tok.qp::m.qd.map (·.qp)).length by simp]at this;exact this)
   obtain⟨A,c,hv,hx⟩:=uB;have HX:=QH hx;have HV:=QH hv;clear hiv hx hv;go_wp2_with fail;go_ret;exact⟨A,c,by rw[HV.out];rfl,HX.out,HB.out⟩
end Go.Proofs.YtdpbdkacngaemaaGreatDoor.vt.pg
namespace Go.Proofs.YtdpbdkacngaemaaGreatDoor
open _root_.Go.Proofs.Tryz Go.RowKit
def yM (w:World)(a:Option Addr)(ps:List (List UInt8)):Prop :=
 ∀i (h:i<ps.length),∃b o,a=some ⟨b,o,none⟩∧b<w.heap.size∧w.cell? ⟨b,o+i,none⟩=some (.string (str ps[i]))
def yf (ps:List (List UInt8)):List Value:=ps.map fun p=>Value.string (str p)
theorem mD (ps:List (List UInt8)):(yf ps).length=ps.length:=by simp[yf]
theorem bO (ps:List (List UInt8))(p:List UInt8):yf (ps++[p])=yf ps++[.string (str p)]:=by simp[yf]
theorem yM.below{w w':World}{a:Option Addr}{ps:List (List UInt8)}{B:Nat}(h:yM w a ps)(hb:Below B w w')(hB:w.heap.size≤B):yM w' a ps:=by
 intro i hi;obtain⟨b,o,rfl,hlt,hc⟩:=h i hi;exact⟨b,o,rfl,Nat.lt_of_lt_of_le hlt hb.size,by rw[hb.cell (p:=⟨b,o+i,none⟩) (Nat.lt_of_lt_of_le hlt hB)];exact hc⟩
theorem yM.nil(w:World)(a:Option Addr):yM w a []:=fun i h=>absurd h (by simp)
def zC (w:World)(B:Nat)(v:Value)(ps:List (List UInt8)):Prop:=w.ownsRow B 9 1 v ps.length (yf ps)
theorem zC.view{w:World}{B:Nat}{v:Value}{ps:List (List UInt8)}(h:zC w B v ps) :
    ∃a c,v=.slice a ps.length c∧ps.length≤c∧c≤maxLen∧yM w a ps∧(a=none→ps=[])∧(∀x,a=some x→∃g,x=⟨g,0,none⟩∧B≤g∧g<w.heap.size):=by
 rcases h.2 with⟨rfl,h0⟩|⟨g,cap,cur,rfl,hg,hh,hc,hm,_,_⟩
 ·obtain rfl:ps=[]:=List.length_eq_zero_iff.1 h0;exact⟨none,0,rfl,Nat.le_refl _,by decide,yM.nil _ _,fun _=>rfl,fun x hx=>(by cases hx)⟩
 ·have hlt:g<w.heap.size:=(Array.getElem?_eq_some_iff.1 hh).1;refine⟨some ⟨g,0,none⟩,cap,rfl,hc,hm,?_,fun h=>(by cases h),fun x hx=>⟨g,(by cases hx;rfl),hg,hlt⟩⟩;intro i hi;refine⟨g,0,rfl,hlt,?_⟩;have:=World.ownsRow.cellAt h i (by omega);rw[Nat.zero_add,this];simp[yf,hi]
theorem mE (ps:List (List UInt8))(w:World):yM (w.alloc (.cells (yf ps).toArray 9)) (some ⟨w.heap.size,0,none⟩) ps:=by
 intro i h;refine⟨w.heap.size,0,rfl,by simp,?_⟩;simp[World.cell?,World.alloc,-World.alloc_eq,yf,h]
theorem sL {w:World}{B C:Nat}{v:Value}{ps:List (List UInt8)}(h:zC w B v ps)(hc:C≤B):zC w C v ps:=by
 refine⟨h.1,?_⟩;rcases h.2 with hn|⟨g,cap,cur,hv,hb,rest⟩
 ·exact .inl hn
 ·exact .inr ⟨g,cap,cur,hv,Nat.le_trans hc hb,rest⟩
theorem dD {w w':World}{B:Nat}{v:Value}{ps:List (List UInt8)}(h:zC w B v ps)(hb:Below w.heap.size w w'):zC w' B v ps:=by
 refine⟨h.1,?_⟩;rcases h.2 with hn|⟨g,cap,cur,hv,hB,hg,rest⟩
 ·exact .inl hn
 ·exact .inr ⟨g,cap,cur,hv,hB,by rw[hb.block g (Array.getElem?_eq_some_iff.1 hg).1];exact hg,rest⟩
theorem bP (ps:List (List UInt8))(k:Nat)(h:k<ps.length):(ps.take (k+1)).flatten=(ps.take k).flatten++ps[k]:=by
 rw[List.take_succ_eq_append_getElem h,List.flatten_append];simp only[List.flatten_cons,List.flatten_nil,List.append_nil]
theorem eK (ps:List (List UInt8))(k:Nat):(ps.take k).flatten.length≤ps.flatten.length:=by
 have h:ps.flatten=(ps.take k).flatten++(ps.drop k).flatten:=by rw[← List.flatten_append,List.take_append_drop]
 rw[h];simp
def qn7 (ps:List (List UInt8))(w:World)(i:Value)(wr:World):Prop :=
 ∃k:Nat,k≤ps.length∧i=.int .i64 (k:Int)∧Lib.IsBuilder 296 5 w.heap.size w.heap.size (Lib.byteCells (ps.take k).flatten) wr∧Below w.heap.size w wr
theorem mF (a:Option Addr)(c:Nat)(ps:List (List UInt8))(w:World)(hc:yM w a ps)(hl:ps.length≤4611686018427387904)(hs:ps.flatten.length≤140737488355328) :
    Calls prog 178 #[.slice a ps.length c] w (oI (str ps.flatten) w):=by
 have h0:Lib.IsBuilder 296 5 w.heap.size w.heap.size [] (w.alloc (.cells #[.pointer none,.slice none 0 0] 296)):=Lib.fresh_isBuilder 296 5 w;have b0:Below w.heap.size w (w.alloc (.cells #[.pointer none,.slice none 0 0] 296)):=(Below.refl _ w).alloc (Nat.le_refl _) _;have HC:=QH hc;clear hc;go_enter func178,ntmps178;go_wp2;go_loopw [8] (fun i wr=>qn7 ps w i wr) (fun i _=>ps.length-(intOf i).toNat);case atStart=>exact⟨0,Nat.zero_le _,rfl,by simpa[Lib.byteCells]using h0,b0⟩
 case round =>
  clear h0 b0;obtain⟨k,hk,rfl,hI,hB⟩:=hrel;by_cases hlt:k<ps.length
  ·obtain⟨b,o,rfl,hb,lI⟩:=HC.out k hlt;have hcell:wr.cell? ⟨b,o+k,none⟩=some (.string (str ps[k])):=by
    rw[hB.cell (p:=⟨b,o+k,none⟩) hb];exact lI
   have wA:=bP ps k hlt;have hfm:=eK ps (k+1);have hbp:=zn ps[k];have hsz:=qO ps[k];have hlen:(Lib.byteCells (ps.take k).flatten).length+(str ps[k]).size≤140737488355328:=by
    rw[Lib.byteCells_length,hsz];rw[wA,List.length_append]at hfm;omega
   have Hfl:=QH wA;have Hbp:=QH hbp;clear wA hfm hbp lI hsz;generalize str ps[k]=s at *;go_wp2_with (go_at_call 235;refine(Tryz.Builder_WriteString w.heap.size w.heap.size _ s _ hI hlen hB.size).mono ?_);rintro e W2 ⟨rfl,h2,b2⟩;have h2':Lib.IsBuilder 296 5 w.heap.size w.heap.size (Lib.byteCells (ps.take (k+1)).flatten) W2:=by
    rw[Lib.strCells_eq,← Lib.byteCells_append]at h2;rw[Hfl.out,← Hbp.out];exact Or.inr h2
   have b2':=hB.trans b2;clear h2 b2 hI hB;go_wp2;go_roundw;case rel=>exact⟨k+1,by omega,by go_num,h2',b2'⟩
   case measure=>simp[intOf];omega
  ·have gZ:k=ps.length:=by omega
   subst gZ;rw[List.take_length]at hI;go_wp2_with (go_at_call 237;refine(Tryz.Builder_String_any w.heap.size w.heap.size _ _ hI hB.size).mono ?_);rintro e W2 ⟨rfl,b2⟩;have b2':=hB.trans b2;clear b2 hI hB;go_wp2;go_ret;exact⟨rfl,b2'⟩
def sM:Nat→Nat→List UInt8
 | 0,_=>[]
 | k+1,n=>sM k (n/256)++[UInt8.ofNat (n%256)]
theorem qkb(n:Nat):sM 2 n=iB n:=rfl
theorem qgF(n:Nat):sM 4 n=be4 n:=by
 simp[sM,be4,Nat.div_div_eq_div_mul]
def xZ (D:List UInt8)(k:Nat):List Value:=List.replicate k (.int .u8 0)++Lib.byteCells (D.drop k)
def qn8 (D:List UInt8)(w:World)(n i:Value)(wr:World):Prop :=
 ∃k m:Nat,i=.int .i64 ((k:Int)-1)∧n=.int .u32 (m:Int)∧m<4294967296∧sM k m=D.take k∧k≤D.length ∧
  wr.ownsRow w.heap.size 5 1 (.slice (some ⟨w.heap.size,0,none⟩) D.length D.length) D.length (xZ D k)∧Below w.heap.size w wr
theorem ox (D:List UInt8)(k:Nat)(h:k<D.length):(xZ D (k+1)).set k (.int .u8 (D[k].toNat:Int))=xZ D k:=by
 unfold xZ;rw[List.replicate_succ',List.append_assoc,List.set_append_right _ _ (by simp),List.length_replicate,Nat.sub_self,List.drop_eq_getElem_cons h];rfl
theorem qgG(D:List UInt8)(m k:Nat)(hk:k<D.length)(h:sM (k+1) m=D.take (k+1)) :
    sM k (m/256)=D.take k∧D[k].toNat=m%256:=by
 have e:sM k (m/256)++[UInt8.ofNat (m%256)]=D.take (k+1):=h;rw[List.take_succ_eq_append_getElem hk]at e;have e':=List.append_inj' e rfl;refine⟨e'.1,?_⟩;have:=e'.2;simp at this;rw[← this,ue _ (by omega)]
theorem bQ (n:Nat)(D:List UInt8)(w:World)(hn:n<4294967296)(hl:D.length≤100)(hD:sM D.length n=D) :
    Calls prog 175 #[.int .u32 (n:Int),.int .i64 (D.length:Int)] w (oI (str D) w):=by
 obtain⟨i0,hi,hz0,hz1,hz2⟩:=info_parts Tryz.qae;have hmk:=run_make (P:=prog) w 64 5 i0 (.int .u8 0) underlying64 hi hz0 .i64 .i64 (D.length:Int) (D.length:Int) (by omega) (by omega) (by rw[hz2];omega) (by omega);have qi2:(w.alloc (.cells (madeCells #[.int .u8 0] D.length) 5)).ownsRow w.heap.size 5 1 (.slice (some ⟨w.heap.size,0,none⟩) D.length D.length) D.length (xZ D D.length):=by
  have:=World.ownsRow_lit (e:=5) (size:=1) (base:=w.heap.size) w (madeCells #[.int .u8 0] D.length) D.length (Nat.le_refl _) (by unfold maxLen;omega) (by simp[size_madeCells]);have e:(madeCells #[.int .u8 0] D.length).toList=xZ D D.length:=by
   apply List.ext_getElem?;intro j;by_cases hj:j<D.length <;> simp[madeCells,xZ,Lib.byteCells,hj,Nat.mod_one]
  rw[← e];exact this
 have hb0:Below w.heap.size w (w.alloc (.cells (madeCells #[.int .u8 0] D.length) 5)):=(Below.refl _ _).alloc (Nat.le_refl _) _;have HD:=QH hD;clear hD;rw[hz1]at hmk;clear hi hz0 hz1 hz2;go_enter func175,ntmps175;go_wp2;go_loopw [0,6] (fun n' i wr=>qn8 D w n' i wr) (fun _ i _=>(intOf i+1).toNat);case atStart=>exact⟨D.length,n,rfl,rfl,hn,by rw[HD.out];simp,Nat.le_refl _,qi2,hb0⟩
 case round =>
  obtain⟨k,m,rfl,rfl,hm,hd,hk,hown,hb⟩:=hrel;cases k with
  | zero =>
   have hcv:=run_convert_bytes_back (P:=prog) wr 64 9 5 ⟨w.heap.size,0,none⟩ D.length D underlying64 underlying5 underlying9 (by
    intro j hj;have:=hown.cellAt j (by omega);rw[addr_add,Nat.zero_add,this];simp[xZ,Lib.byteCells,List.getElem?_eq_getElem hj])
   have qui:(convert 64 9 (.slice (some ⟨w.heap.size,0,none⟩) D.length D.length)).run prog wr=.ok (.string (str D)) wr:=hcv;clear hcv;go_wp2;go_ret;exact⟨rfl,hb⟩
  | succ k =>
   have hx:=hown.cellAt k (by omega);rw[show(xZ D (k+1))[k]?=some (.int .u8 0)from by simp[xZ,List.getElem?_append]]at hx;have hf:=hown.frozenAt k;have hs:=hown.stored k (.int .u8 ((D[k]'(by omega)).toNat:Int));rw[ox _ _ (by omega)]at hs;obtain⟨hs1,hs2⟩:=hs;obtain⟨hd',dQ⟩:=qgG D m k (by omega) hd;have Hs1:=QH hs1;have Hs2:=QH hs2;have Hd:=QH hd';have Hl:=QH dQ;clear hs1 hs2 hd' dQ hd hown;go_wp2;have e:((m:Int)%256)=((D[k]'(by omega)).toNat:Int):=by rw[Hl.out];omega
   rw[e];exact⟨⟨k,m/256,rfl,rfl,by omega,Hd.out,by omega,Hs1.out,hb.grown Hs2.out (by have:=hb.size;omega) (fun j hj=>by cases hj;exact Nat.le_refl _)⟩,by simp[intOf]⟩
theorem qbi(n:Nat)(w:World)(hn:n<4294967296):Calls prog 175 #[.int .u32 (n:Int),.int .i64 2] w (oI (str (iB n)) w) :=
 bQ n (iB n) w hn (by show 2≤100;decide) (qkb n)
theorem sN (n:Nat)(w:World)(hn:n<4294967296):Calls prog 175 #[.int .u32 (n:Int),.int .i64 4] w (oI (str (be4 n)) w) :=
 bQ n (be4 n) w hn (by show 4≤100;decide) (qgF n)
end Go.Proofs.YtdpbdkacngaemaaGreatDoor
