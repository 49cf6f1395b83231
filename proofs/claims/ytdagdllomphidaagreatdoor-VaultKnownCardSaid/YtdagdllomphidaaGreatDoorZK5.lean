/- VgEff, VgAdds, VgAb, VgTb1, Ims, AppAt, VgTb5, FMem, FPut, FIns, FCopy, FCut, FEq, FPack, DkUsed, DkBack, DkWrite2, DkFlush. -/
import Derived.Test.YtdagdllomphidaaGreatDoorZK4
import Derived.Laws.BitsAllLaws
import Derived.RangeFuncNested
import Derived.RangeFuncBound
import Derived.RangeFuncCalls
import Derived.RangeFuncLeaves
import Derived.Shelf.Abstract
import Derived.Shelf.RegionOpen
import Derived.OwnWalkIn
import Derived.TacticsInMore
import Derived.LoopNIn
import Derived.LoopIn
set_option linter.unusedVariables false
set_option linter.unusedSimpArgs false
set_option maxHeartbeats 30000000
set_option maxRecDepth 100000
namespace Go.Proofs.YtdagdllomphidaaGreatDoor.vt.pg
open _root_.Go.Proofs.Tryz Go Go.RowKit ib mt im sp
abbrev pt (g:Nat):Value:=.pointer (some ⟨g,0,none⟩)
structure Nx(G:Nat→Prop)(w:World)(g:Nat)(m:Mt):Prop where
 ex:∃A0 A1 A2 c0 c1 c2,qg w g 98 (zi A0 A1 A2 c0 c1 c2 m)∧jK (fun j=>G j∧j≠g) w A0 A1 A2 c0 c1 c2 m
def qhh (G:Nat→Prop)(g:Nat)(m':Mt)(w:World)(e:Ending)(w':World):Prop:=e=.returned (.tuple #[])∧Nx G w' g m'∧ib.qB (fun j=>j=g) w w'
def kW (G:Nat→Prop)(W0:World)(f:Value)(m m':Mt):Prop:=∃k jC,f=.func (.func k) #[] jC∧(∀(a:Array Value) (W:World),Sem.run prog (callFunc k a) W=Result.ok (Next.enter k a) W) ∧
 ∀W g,Below W0.heap.size W0 W→W0.heap.size≤g→Nx G W g m→Calls prog k (#[pt g]++jC) W (qhh G g m' W)
theorem kW.below{G:Nat→Prop}{w w':World}{f:Value}{m m':Mt}(h:kW G w f m m')(hb:Below w.heap.size w w'):kW G w' f m m':=by
 obtain⟨k,jC,h1,h2,h3⟩:=h;exact⟨k,jC,h1,h2,fun W g h4 h5 h6=>h3 W g (q9 hb h4) (Nat.le_trans hb.size h5) h6⟩
theorem vr {G:Nat→Prop}{w:World}{g k:Nat}{u:Value}(hg:∀j,G j→j≠g):kV G w (w.setCell ⟨g,k,none⟩ u) :=
 ⟨by simp[World.setCell],fun j hj _=>qE _ _ _ _ _ (hg j hj)⟩
theorem qfi(w:World)(g k:Nat)(u:Value):ib.qB (fun j=>j=g) w (w.setCell ⟨g,k,none⟩ u):=(ib.qB.refl _ w).setCell ⟨g,k,none⟩ u (.inl rfl)
theorem Nx.drew{G:Nat→Prop}{w:World}{g:Nat}{m:Mt}(h:Nx G w g m):Nx G w.drew g m:=by
 obtain⟨A0,A1,A2,c0,c1,c2,hk,ht⟩:=h.ex;exact⟨A0,A1,A2,c0,c1,c2,hk,ht.stay ⟨Nat.le_refl _,fun j _ _=>rfl⟩⟩
theorem qd6{w:World}(t:TypeId)(v:Value):(w.alloc (.cells #[v] t)).cell? ⟨w.heap.size,0,none⟩=some v:=(qg.new w t #[v]).cell 0
theorem qd7{G:Nat→Prop}{w:World}{g pb:Nat}{m:Mt}{A:Option Addr}{c:Nat}{l:List Int}(hN:Nx G w g m)(hp:w.cell? ⟨pb,0,none⟩=some (.slice A l.length c))(hpb:pb<w.heap.size)(hl:gV G w A l c)(h1:l.length≤1000)(hG:G w.heap.size) :
    Calls prog 108 #[pt g,pt pb] w (qhh G g { m with live:=l } w):=by
 obtain⟨A0,A1,A2,c0,c1,c2,hk,ht⟩:=hN.ex;have HC:=QH (vV A c l w hl.at_ h1);have HK:=QH hk;have HT:=QH ht;have HZ:=QH (hl.at_.ints.mem);have HG:=QH hG;clear hN hk ht hl h1 hG;go_enter func108,ntmps108;go_wp2_with fail;refine HC.out.mono ?_;rintro e W1 nT;obtain rfl:=nT.1;have hb:=nT.2.2;have zN:=HK.out.below hb;have wD:=HK.out.lt;have hs:=nT.sl HZ.out (fun j=>G j∧j≠g) ⟨HG.out,by omega⟩;have ht1:=HT.out.below hb;have HN2:Hid (Nx G (W1.setCell ⟨g,0,none⟩ (.slice (some ⟨w.heap.size,0,none⟩) l.length l.length)) g { m with live:=l }) :=
  ⟨_,A1,A2,_,c1,c2,by have:=zN.qo 0 (.slice (some ⟨w.heap.size,0,none⟩) l.length l.length);simpa[zi]using this,(jK.mk (m:={ m with live:=l }) hs ht1.qa ht1.room ht1.qj ht1.base ht1.target ht1.next ht1.all).stay (vr fun j hj=>hj.2)⟩
 have qG:Hid (ib.qB (fun j=>j=g) w (W1.setCell ⟨g,0,none⟩ (.slice (some ⟨w.heap.size,0,none⟩) l.length l.length))):=(ib.qB.of_below hb).setCell _ _ (.inl rfl);have k0:=zN.cell 0;have f0:=zN.frozen 0;have q3d:=zN.lt;simp only[zi,List.getElem?_toArray,List.getElem?_cons_zero]at k0;clear nT hb zN hs ht1 HC HK HT;go_wp2_with fail
 go_end0
 exact⟨rfl,HN2.out,qG.out⟩
def MkP (G:Nat→Prop)(R:Mt→Mt→Prop)(w:World)(e:Ending)(w':World):Prop:=∃f,e=.returned f∧(∀m m',R m m'→kW G w' f m m')∧Below w.heap.size w w'
theorem fp {G:Nat→Prop}{w:World}{A:Option Addr}{c:Nat}{l:List Int}(hl:gV G w A l c)(h1:l.length≤1000)(hG:∀j,w.heap.size≤j→G j) :
    Calls prog 57 #[.slice A l.length c] w (MkP G (fun m m'=>m'={ m with live:=l }) w):=by
 have HB:=QH ((Below.refl w.heap.size w).alloc (Nat.le_refl _) (.cells #[.slice A l.length c] 57));have HL:=QH hl;have HG:=QH hG;clear hl hG;go_enter func57,ntmps57;go_wp2_with fail;go_ret;refine⟨_,rfl,fun m m' hR=>?_,HB.out⟩;subst hR;refine⟨_,_,rfl,fun a W=>by go_simp,fun W g hb hg hN=>?_⟩;have hbb:=q9 HB.out hb;have hlt:w.heap.size<(w.alloc (.cells #[.slice A l.length c] 57)).heap.size:=by simp
 exact qd7 hN ((hb.cell (p:=⟨w.heap.size,0,none⟩) hlt).trans (qd6 _ _)) (Nat.lt_of_lt_of_le hlt hb.size) (HL.out.stay (kV.of_below hbb)) h1 (HG.out _ hbb.size)
theorem qd8{G:Nat→Prop}{w:World}{g pb:Nat}{m:Mt}{n:Nat}(hN:Nx G w g m)(hp:w.cell? ⟨pb,0,none⟩=some (.int .i64 (n:Int)))(hpb:pb<w.heap.size)(hn:n≤m.qa.length) :
    Calls prog 124 #[pt g,pt pb] w (qhh G g { m with qa:=m.qa.take n } w):=by
 obtain⟨A0,A1,A2,c0,c1,c2,hk,ht⟩:=hN.ex;have dB:(m.qa.take n).length=n:=by rw[List.length_take];omega
 have hni:(n:Int)≤(c1:Int):=by have:=ht.room.1;omega
 have HN2:Hid (∀A c,(A=A1∧c=n)→Nx G (w.setCell ⟨g,1,none⟩ (.slice A n c)) g { m with qa:=m.qa.take n }):=fun A c hA=>by
  obtain⟨rfl,rfl⟩:=hA;refine⟨A0,A,A2,c0,c,c2,?_,(jK.mk (m:={ m with qa:=m.qa.take c }) ht.live (ht.qa.take c) ⟨by rw[dB];exact Nat.le_refl _,fun e=>by have:=ht.room.2 e;rw[dB];omega⟩ ht.qj ht.base ht.target ht.next ht.all).stay (vr fun j hj=>hj.2)⟩;have:=hk.qo 1 (.slice A c c);simpa[zi,dB]using this
 have qG:Hid (ib.qB (fun j=>j=g) w (w.setCell ⟨g,1,none⟩ (.slice A1 n n))):=qfi _ _ _ _;have k1:=hk.cell 1;have f1:=hk.frozen 1;have wD:=hk.lt;simp only[zi,QA,QB,QC]at k1;have h0:(0:Int)≤(n:Int):=by omega
 have hA:A1=none→n=0:=fun e=>by have:=ht.room.2 e;omega
 have HA:=QH hA;clear hN hk ht dB hA;go_enter func124,ntmps124;go_region;go_wp2_with fail
 go_end0
 exact⟨rfl,(HN2.out _ _ ⟨rfl,rfl⟩).drew,qG.out.drew⟩
theorem qhi{G:Nat→Prop}{w:World}(n:Nat):Calls prog 80 #[.int .i64 (n:Int)] w (MkP G (fun m m'=>n≤m.qa.length∧m'={ m with qa:=m.qa.take n }) w):=by
 have HB:=QH ((Below.refl w.heap.size w).alloc (Nat.le_refl _) (.cells #[.int .i64 (n:Int)] 3));go_enter func80,ntmps80;go_wp2_with fail;go_ret;refine⟨_,rfl,fun m m' hR=>?_,HB.out⟩;obtain⟨hn,rfl⟩:=hR;refine⟨_,_,rfl,fun a W=>by go_simp,fun W g hb hg hN=>?_⟩;have hlt:w.heap.size<(w.alloc (.cells #[.int .i64 (n:Int)] 3)).heap.size:=by simp
 exact qd8 hN ((hb.cell (p:=⟨w.heap.size,0,none⟩) hlt).trans (qd6 _ _)) (Nat.lt_of_lt_of_le hlt hb.size) hn
def snA (a b:Nat)(B:Option Addr)(n:Nat):Array Value:=#[.int .u64 (a:Int),.int .u64 (b:Int),.slice B n n,.bool false]
def AdG (g:Nat)(A1 A:Option Addr)(n c1 c a b:Nat)(l:List Int)(S:Nat):Nat→Value→World→Prop
 | 0,v,_=>v=pt g
 | 1,v,_=>v=pt g
 | 2,v,_=>v=pt g
 | 3,v,_=>v=.pointer (some ⟨g,1,none⟩)
 | 4,v,_=>v=.slice A1 n c1
 | 5,v,_=>v=.int .i64 (n:Int)
 | 6,v,_=>v=.int .i64 (n:Int)
 | 7,v,_=>v=.slice A1 n n
 | 8,v,_=>v=.agg #[.int .u64 (a:Int),.int .u64 (b:Int)]
 | 9,v,_=>v=.slice A l.length c
 | 10,v,w=>∃x,v=.slice (some ⟨x,0,none⟩) l.length l.length∧qg w x 3 (qh l)∧S≤x
 | 11,v,w=>∃x,v=.agg (snA a b (some ⟨x,0,none⟩) l.length)∧qg w x 3 (qh l)∧S≤x
 | 12,v,w=>∃y x,v=.slice (some ⟨y,0,none⟩) 1 1∧qg w y 145 (snA a b (some ⟨x,0,none⟩) l.length)∧qg w x 3 (qh l)∧S≤x
 | _,_,_=>True
theorem qbq(g:Nat)(A1 A:Option Addr)(n c1 c a b:Nat)(l:List Int)(S:Nat)(i:Nat)(v:Value)(w w':World)(hi:i<13)(h:AdG g A1 A n c1 c a b l S i v w)(hb:Below w.heap.size w w'):AdG g A1 A n c1 c a b l S i v w':=by
 match i,hi,h with
 | 0,_,h | 1,_,h | 2,_,h | 3,_,h | 4,_,h | 5,_,h | 6,_,h | 7,_,h | 8,_,h | 9,_,h=>exact h
 | 10,_,⟨x,h1,h2,h3⟩=>exact⟨x,h1,h2.below hb,h3⟩
 | 11,_,⟨x,h1,h2,h3⟩=>exact⟨x,h1,h2.below hb,h3⟩
 | 12,_,⟨y,x,h1,h2,h3,h4⟩=>exact⟨y,x,h1,h2.below hb,h3.below hb,h4⟩
theorem qhj{G:Nat→Prop}{W0 w:World}{g pg pb:Nat}{m:Mt}{gd:Gd}{A:Option Addr}{c:Nat}{l:List Int}(hb:Below W0.heap.size W0 w)(hg:W0.heap.size≤g)(hN:Nx G w g m)(hp:qg W0 pg 55 #[.int .u64 (gd.1:Int),.int .u64 (gd.2:Int)])(hp2:qg W0 pb 57 #[.slice A l.length c])(hl:yx W0 A l c)(h1:l.length≤1000)(hgd:xn gd)(nS:m.qa.length≤100)(hG:∀j,W0.heap.size≤j→G j) :
    Calls prog 114 #[pt g,pt pg,pt pb] w (qhh G g { m with qa:=m.qa++[⟨gd,l,false⟩] } w):=by
 obtain⟨i0,hi,hz0,hz1,hz2⟩:=info_parts rM;obtain⟨A0,A1,A2,c0,c1,c2,hk,ht⟩:=hN.ex;obtain⟨xs,hm,hx,hrow⟩:=ht.qa.row;have HK:=QH hk;have HT:=QH ht;have HB:=QH hb;have HG:=QH hG;have HP:=QH (hp.below hb);have nR:=QH (hp2.below hb);have HL:=QH hl;have HGE:=QH hg;have HX:=QH hx;have HM:=QH hm;have qkA:=QH hrow;have HGD:=QH hgd;have HLEN:Hid ((qW xs).length=m.qa.length*4):=by unfold Hid;rw[ya,← hm,List.length_map]
 have HR0:=QH ht.room;have hci:((m.qa.length:Nat):Int)≤(c1:Int):=by have:=ht.room.1;omega
 have k1:=hk.cell 1;have wD:=hk.lt;simp only[zi,QA,QB,QC]at k1;clear hN hp hp2 hl hgd hG hk ht hb hg hx hm hrow;obtain⟨a,b⟩:=gd;go_enter func114,ntmps114;go_upto_region 1 with fail;obtain⟨n,hn⟩:=QE m.qa.length;have HN:=QH hn;rw[hn]at HLEN HR0 hci k1 nS ⊢;have K1:=QH k1;clear hn k1;refine cm (by kernel_rfl) 13 [10,11,12,13,14,15,16,17,18,19,20,21,22] (by kernel_rfl) (AdG g A1 A n c1 c a b l w.heap.size) _ (pt g) rfl (by decide) (by kernel_rfl) (by kernel_rfl) (by kernel_rfl) (fun _ _ _ h=>h) (Or.inl ⟨by rfl,fun w=>by go_simp⟩) (fun _=>rfl) (qbq _ _ _ _ _ _ _ _ _ _) ?_ ?_
 ·intro i o vs ρ W q9g hop hρ hfn hb hG;have t0:ρ (.tmp 0)=pt g:=hρ.out 0 rfl;have t1:ρ (.tmp 1)=pt pg:=hρ.out 1 rfl;have t2:ρ (.tmp 2)=pt pb:=hρ.out 2 rfl;have t4:ρ (.tmp 4)=.int .i64 (n:Int):=hρ.out 4 rfl;have hc:=hρ.const;have s11:=hρ.at_ 11 1 rfl;have s12:=hρ.at_ 12 2 rfl;have s13:=hρ.at_ 13 3 rfl;have s14:=hρ.at_ 14 4 rfl;have s15:=hρ.at_ 15 5 rfl;have s16:=hρ.at_ 16 6 rfl;have s18:=hρ.at_ 18 8 rfl;have s19:=hρ.at_ 19 9 rfl;have s20:=hρ.at_ 20 10 rfl;have s21:=hρ.at_ 21 11 rfl;have k1:W.cell? ⟨g,1,none⟩=some (.slice A1 n c1):=(hb.cell (p:=⟨g,1,none⟩) wD).trans K1.out;have hpk:=HP.out.below hb;have hpl:=hpk.lt;have p0:=hpk.cell 0;have p1:=hpk.cell 1;have hqk:=nR.out.below hb;have ig:=hqk.lt;have q0:=hqk.cell 0;simp only[QA,QB,QC]at p0 p1 q0;rcases i with _|_|_|_|_|_|_|_|_|_|_|_|_|i;all_goals (first|omega|skip)
  all_goals simp only[QA,QB,QC,Option.some.injEq]at hop
  all_goals subst hop
  ·exact qc (w':=W) (by unfold execOp;simp only[t0];go_simp) ⟨Below.refl _ _,rfl⟩
  ·exact qc (w':=W) (by unfold execOp;simp only[t0];go_simp) ⟨Below.refl _ _,rfl⟩
  ·have g1:vs 1=_:=hG 1 (by kernel_rfl);exact qc (w':=W) (by unfold execOp;simp only[s11,g1];go_simp) ⟨Below.refl _ _,rfl⟩
  ·have g2:vs 2=_:=hG 2 (by kernel_rfl);exact qc (w':=W) (by unfold execOp;simp only[s12,g2];go_simp) ⟨Below.refl _ _,rfl⟩
  ·have g3:vs 3=_:=hG 3 (by kernel_rfl);exact qc (w':=W) (by unfold execOp;simp only[s13,g3];go_simp) ⟨Below.refl _ _,rfl⟩
  ·exact qc (w':=W) (by unfold execOp;simp only[t4];go_simp) ⟨Below.refl _ _,rfl⟩
  ·exact qc (w':=W) (by unfold execOp;simp only[t4];go_simp) ⟨Below.refl _ _,rfl⟩
  ·have g4:vs 4=_:=hG 4 (by kernel_rfl);have g5:vs 5=_:=hG 5 (by kernel_rfl);have g6:vs 6=_:=hG 6 (by kernel_rfl);exact qc (w':=W) (by unfold execOp;simp only[s14,g4,s15,g5,s16,g6];go_simp) ⟨Below.refl _ _,rfl⟩
  ·exact qc (w':=W) (by unfold execOp;simp only[t1];go_simp) ⟨Below.refl _ _,rfl⟩
  ·exact qc (w':=W) (by unfold execOp;simp only[t2];go_simp) ⟨Below.refl _ _,rfl⟩
  ·have g9:vs 9=_:=hG 9 (by kernel_rfl);refine qu (f:=67) (args:=#[.slice A l.length c]) (w':=W) (by unfold execOp;simp only[hc,hfn,s19,g9];go_simp) ((vV A c l W ((HL.out.below HB.out).below hb) h1).mono ?_);rintro e W' nT;exact⟨_,nT.1,nT.2.2,_,rfl,nT.2.1,hb.size⟩
  ·obtain⟨x,g10,h2,h3⟩:=hG 10 (by kernel_rfl);have g8:vs 8=_:=hG 8 (by kernel_rfl);exact qc (w':=W) (by unfold snA execOp;simp only[s18,g8,s20,g10];go_simp) ⟨Below.refl _ _,x,rfl,h2,h3⟩
  ·obtain⟨x,g11,h2,h3⟩:=hG 11 (by kernel_rfl);have hb1:=(Below.refl _ W).alloc (Nat.le_refl _) (.cells (snA a b (some ⟨x,0,none⟩) l.length) 145);exact qc (v:=.slice (some ⟨W.heap.size,0,none⟩) 1 1) (w':=W.alloc (.cells (snA a b (some ⟨x,0,none⟩) l.length) 145)) (by unfold snA at g11 ⊢;unfold execOp;simp only[s21,g11];go_simp) ⟨hb1,_,x,rfl,qg.new _ _ _,h2.below hb1,h3⟩
 ·intro vs W hb hG;have g0:vs 0=_:=hG 0 (by decide);have g7:vs 7=_:=hG 7 (by decide);obtain⟨y,x,g12,hy,pP,hxS⟩:=hG 12 (by decide);have jZ:=QH hb;have HCE:Hid (∀b,A1=some b→∀j u,(qW xs)[j]?=some u→W.cell? (b.add j)=some u):=fun q hq j u hu=>by
   obtain⟨b',o',e,h2,h3⟩:=qkA.out j u hu;obtain rfl:q=⟨b',o',none⟩:=Option.some.inj (hq.symm.trans e);rw[addr_add];exact(hb.cell (p:=⟨b',o'+j,none⟩) h2).trans h3
  have fu:Hid (∀j u,(snA a b (some ⟨x,0,none⟩) l.length).toList[j]?=some u→W.cell? ((⟨y,0,none⟩:Addr).add j)=some u):=fun j u hu=>by
   rw[addr_add,Nat.zero_add,hy.cell j];simpa using hu
  have HXK:=QH pP;have HXS:=QH hxS;have hA:A1=none→n=0:=fun e=>by have:=HR0.out.2 e;omega
  have HA:=QH hA;simp only[zJ,qP,if_true];rw[g0,g7,g12];generalize vs 1=z1;generalize vs 2=z2;generalize vs 3=z3;generalize vs 4=z4;generalize vs 5=z5;generalize vs 6=z6;generalize vs 8=z8;generalize vs 9=z9;generalize vs 10=z10;generalize vs 11=z11;clear hG g0 g7 g12 hb hy pP hxS hA;simp only[Act.put,List.setIfInBounds_toArray,List.set_cons_succ,List.set_cons_zero];refine qV (i:=13) (by kernel_rfl) rfl rfl ?_;refine gW (.tmp 17) (.tmp 22) 91 rfl 145 i0 _ 4 48 underlying91 hi hz0 hz1 hz2 A1 n (qW xs) rfl HLEN.out HA.out HCE.out ⟨y,0,none⟩ 1 1 (snA a b (some ⟨x,0,none⟩) l.length).toList rfl (by rfl) fu.out (by decide) (by unfold maxLen;omega) (by omega) ?_;intro cap cur w1 hb1 zN ht1 hc1 hc2 hsz;have hgW:=HK.out.below jZ.out;have qob:=hgW.below hb1;have hWs:=jZ.out.size;have hne:W.heap.size≠g:=by omega
  have xZ:ib.qB (fun j=>j=g) w (w1.setCell ⟨g,1,none⟩ (.slice (some ⟨W.heap.size,0,none⟩) (n+1) cap)) :=
   ((ib.qB.of_below (S:=fun j=>j=g) jZ.out).trans (S':=fun _=>False) (ib.qB.of_below hb1) (fun _ h=>h.elim)).setCell _ _ (.inl rfl)
  have hst:kV (fun j=>G j∧j≠g) w (w1.setCell ⟨g,1,none⟩ (.slice (some ⟨W.heap.size,0,none⟩) (n+1) cap)):=kV.lu xZ (fun j hj=>hj.2);have hk2:qg (w1.setCell ⟨g,1,none⟩ (.slice (some ⟨W.heap.size,0,none⟩) (n+1) cap)) W.heap.size 145 cur:=zN.of_block (qE _ _ _ _ _ hne);have hGW:G W.heap.size:=HG.out _ (by have:=HB.out.size;omega);have hxg:x≠g:=by have:=HXS.out;omega
  have hsx:gV (fun j=>G j∧j≠g) (w1.setCell ⟨g,1,none⟩ (.slice (some ⟨W.heap.size,0,none⟩) (n+1) cap)) (some ⟨x,0,none⟩) l l.length:=by
   refine⟨⟨qg.nums ((HXK.out.below hb1).of_block (qE _ _ _ _ _ hxg)) HL.out.ints.mem,Nat.le_refl _,fun h=>by cases h⟩,fun _ b o s e=>?_⟩;simp only[Option.some.injEq,Addr.mk.injEq]at e;rw[← e.1];exact⟨HG.out _ (by have:=HXS.out;have:=HB.out.size;omega),hxg⟩
  have hsn:=eu.qd3 (G:=fun j=>G j∧j≠g) (xs:=xs++[(⟨(a,b),l,false⟩,.slice (some ⟨x,0,none⟩) l.length l.length)]) ⟨hGW,hne⟩ hk2.lt (yQ hk2 (n:=(n+1)*4) (by rw[ht1,bA,qgd];rfl)) (fun y hy=>by
   rcases List.mem_append.1 hy with h|h
   ·exact(HX.out y h).stay hst
   ·obtain rfl:y=_:=by simpa using h
    exact⟨_,_,rfl,hsx,HGD.out⟩)
  rw[List.map_append,HM.out]at hsn;have ht3:=HT.out.stay hst;have hkk:=qob.qo 1 (.slice (some ⟨W.heap.size,0,none⟩) (n+1) cap);have HN2:Hid (Nx G (w1.setCell ⟨g,1,none⟩ (.slice (some ⟨W.heap.size,0,none⟩) (n+1) cap)) g { m with qa:=m.qa++[⟨(a,b),l,false⟩] }) :=
   ⟨A0,some ⟨W.heap.size,0,none⟩,A2,c0,cap,c2,by simpa[zi,HN.out]using hkk,jK.mk (m:={ m with qa:=m.qa++[⟨(a,b),l,false⟩] }) ht3.live hsn ⟨by rw[List.length_append,HN.out];exact hc1,fun e=>by cases e⟩ ht3.qj ht3.base ht3.target ht3.next ht3.all⟩
  have HBU:=QH xZ;have f1:w1.frozen? ⟨g,1,none⟩=false:=qob.frozen 1;obtain⟨z,hz⟩:∃z,w1.cell? ⟨g,1,none⟩=some z:=⟨_,qob.cell 1⟩;clear hb1 zN ht1 hc1 hc2 hsz hgW qob hWs xZ hst hk2 hGW hsx hsn ht3 hkk HCE fu qkA;go_simp;refine qV (i:=14) (by kernel_rfl) rfl rfl ?_;go_simp;refine qV (i:=15) (by kernel_rfl) rfl rfl ?_;go_simp;refine qV (i:=16) (by kernel_rfl) rfl rfl ?_;go_simp;refine⟨by kernel_rfl,?_⟩;go_wp2_with fail
  go_end0
  exact⟨rfl,HN2.out,HBU.out⟩
theorem qbr{G:Nat→Prop}{w:World}{gd:Gd}{A:Option Addr}{c:Nat}{l:List Int}(hl:yx w A l c)(h1:l.length≤1000)(hgd:xn gd)(hG:∀j,w.heap.size≤j→G j) :
    Calls prog 66 #[gv gd,.slice A l.length c] w (MkP G (fun m m'=>m.qa.length≤100∧m'={ m with qa:=m.qa++[⟨gd,l,false⟩] }) w):=by
 obtain⟨a,b⟩:=gd;have hb1:=(Below.refl w.heap.size w).alloc (Nat.le_refl _) (.cells #[.int .u64 (a:Int),.int .u64 (b:Int)] 55);have zN:=qg.new w 55 #[.int .u64 (a:Int),.int .u64 (b:Int)];obtain⟨W1,hW1⟩:=QE (w.alloc (.cells #[.int .u64 (a:Int),.int .u64 (b:Int)] 55));rw[hW1]at hb1 zN;have hb2:=(Below.refl W1.heap.size W1).alloc (Nat.le_refl _) (.cells #[.slice A l.length c] 57);have HK1:=QH (zN.below hb2);have wJ:=QH (qg.new W1 57 #[.slice A l.length c]);have HB:=QH (q9 hb1 hb2);have HL:=QH hl;have HG:=QH hG;have HGD:=QH hgd;clear hl hG hgd hb1 zN hb2;show Calls _ _ #[.agg #[.int .u64 (a:Int),.int .u64 (b:Int)],.slice A l.length c] _ _;go_enter func66,ntmps66;go_wp2_with fail;try rw[hW1]
 go_ret;refine⟨_,rfl,fun m m' hR=>?_,HB.out⟩;obtain⟨nS,rfl⟩:=hR;exact⟨_,_,rfl,fun a W=>by go_simp,fun W g hb hg hN=>qhj hb hg hN HK1.out wJ.out (HL.out.below HB.out) h1 HGD.out nS (fun j hj=>HG.out j (Nat.le_trans HB.out.size hj))⟩
end Go.Proofs.YtdagdllomphidaaGreatDoor.vt.pg
namespace Go.Proofs.YtdagdllomphidaaGreatDoor.vt.pg
open _root_.Go.Proofs.Tryz Go Go.RowKit ib mt mt.pg
theorem mJ (a b:Gd)(w:World):Calls prog 113 #[gv a,gv b] w (wU (above a b) w):=by
 have HR:Hid (decide (0<(if yS a.1 b.1≠0 then yS a.1 b.1 else yS a.2 b.2))=above a b):=(oT a b).symm;obtain⟨r,hr⟩:=QE (above a b);rw[hr]at HR ⊢;clear hr;obtain⟨a1,a2⟩:=a;obtain⟨b1,b2⟩:=b;dsimp only at HR;show Calls prog 113 #[.agg #[.int .u64 (a1:Int),.int .u64 (a2:Int)],.agg #[.int .u64 (b1:Int),.int .u64 (b2:Int)]] w _;have HC1:Hid (∀W,Calls prog 152 #[.int .u64 (a1:Int),.int .u64 (b1:Int)] W (same (.int .i64 (yS a1 b1)) W)):=fun W=>iO a1 b1 W;have HC2:Hid (∀W,Calls prog 152 #[.int .u64 (a2:Int),.int .u64 (b2:Int)] W (same (.int .i64 (yS a2 b2)) W)):=fun W=>iO a2 b2 W;have hz:∀z∈[yS a1 b1,yS a2 b2],qD z:=by
  intro z hz;simp only[List.mem_cons,List.not_mem_nil,or_false]at hz;rcases hz with rfl|rfl
  ·exact bC _ _
  ·exact bC _ _
 generalize yS a1 b1=x at *;generalize yS a2 b2=y at *;have HC3:Hid (∀W B,qJ W (some ⟨B,0,none⟩) [x,y]→Calls prog 151 #[.slice (some ⟨B,0,none⟩) 2 2] W (same (.int .i64 (if x≠0 then x else y)) W)):=fun W B h=>qju ⟨B,0,none⟩ 2 x y W h;generalize (if x≠0 then x else y)=z at *;have hb1:=(Below.refl w.heap.size w).alloc (Nat.le_refl _) (.cells #[.int .u64 (a1:Int),.int .u64 (a2:Int)] 55);have ha1:=qg.new w 55 #[.int .u64 (a1:Int),.int .u64 (a2:Int)];obtain⟨W1,hW1⟩:=QE (w.alloc (.cells #[.int .u64 (a1:Int),.int .u64 (a2:Int)] 55));rw[hW1]at hb1 ha1;have hbb:=(Below.refl _ W1).alloc (Nat.le_refl _) (.cells #[.int .u64 (b1:Int),.int .u64 (b2:Int)] 55);have HB:=QH (q9 hb1 hbb);have oP:=QH (ha1.below hbb);have uj:=QH (qg.new W1 55 #[.int .u64 (b1:Int),.int .u64 (b2:Int)]);obtain⟨w0,hw0⟩:=QE (W1.alloc (.cells #[.int .u64 (b1:Int),.int .u64 (b2:Int)] 55));rw[hw0]at HB oP uj;obtain⟨g0,hg0⟩:=QE w.heap.size;obtain⟨g1,hg1⟩:=QE W1.heap.size;clear hb1 ha1 hbb;have HZ:=QH hz;clear hz;go_enter func113,ntmps113;go_wp2_with fail;try rw[hw0]
 try rw[hg0]
 try rw[hg1]
 rw[hg0]at oP;rw[hg1]at uj;clear hw0 hW1;have hz:=HZ.out;refine jD (by kernel_rfl) [5,6,7,8,9,10,11,12,13,14,15,16,17,4] (by kernel_rfl) (fun L vs W=>Below w0.heap.size w0 W∧∀i,L i=true→i<14→wj g0 g1 a1 a2 b1 b2 x y z i (vs i) W) ⟨(Below.refl _ _).drew,fun i hi=>by cases hi⟩ ?_ ?_ ?_
 ·intro i o L vs ρ W ho hli qQ hρ hgd hI;obtain⟨hb,bD⟩:=hI;have hG:∀j,L j=true→wj g0 g1 a1 a2 b1 b2 x y z j (vs j) W:=fun j hj=>by
   by_cases h51:j<14
   ·exact bD j hj h51
   ·match j,h51 with
    | j+14,_=>exact trivial
  have qte:i<14:=(Array.getElem?_eq_some_iff.1 ho).1;have hc:=hρ.const;have hfn:=hρ.fn;have next:∀v W',Below W.heap.size W W'→wj g0 g1 a1 a2 b1 b2 x y z i v W'→Below w0.heap.size w0 W'∧∀j,xW L i j=true→j<14→wj g0 g1 a1 a2 b1 b2 x y z j (yG vs i v j) W':=fun v W' h1 h2=>by
   refine⟨q9 hb h1,fun j hj h51=>?_⟩;by_cases dY:j=i
   ·subst dY;simpa[yG]using h2
   ·simp only[xW,if_neg dY]at hj;simpa[yG,dY]using qaz g0 g1 a1 a2 b1 b2 x y z j _ W W' h51 (bD j hj h51) h1
  have hA:=oP.out.below hb;have hB:=uj.out.below hb;have hlt:=hA.lt;have q20:=hB.lt;have c0:=hA.cell 0;have c1:=hA.cell 1;have d0:=hB.cell 0;have d1:=hB.cell 1;simp only[QA,QB,QC]at c0 c1 d0 d1;rcases i with _|_|_|_|_|_|_|_|_|_|_|_|_|_|i;all_goals (first|omega|skip)
  all_goals simp only[QA,QB,QC,Option.some.injEq]at ho
  all_goals subst ho
  ·have o2:ρ (.tmp 2)=.pointer (some ⟨g0,0,none⟩):=hρ.out 2 rfl;exact qc (w':=W) (by unfold execOp;simp only[o2,hc];go_simp) (next _ _ (Below.refl _ _) rfl)
  ·have g5:wj g0 g1 a1 a2 b1 b2 x y z 0 (vs 0) W:=hG 0 (qQ 0 (by kernel_rfl));have s5:ρ (.tmp 5)=.pointer (some ⟨g0,0,none⟩):=(hρ.at_ 5 0 rfl).trans g5;exact qc (w':=W) (by unfold execOp;simp only[s5,hc];go_simp) (next _ _ (Below.refl _ _) rfl)
  ·have o3:ρ (.tmp 3)=.pointer (some ⟨g1,0,none⟩):=hρ.out 3 rfl;exact qc (w':=W) (by unfold execOp;simp only[o3,hc];go_simp) (next _ _ (Below.refl _ _) rfl)
  ·have g7:wj g0 g1 a1 a2 b1 b2 x y z 2 (vs 2) W:=hG 2 (qQ 2 (by kernel_rfl));have s7:ρ (.tmp 7)=.pointer (some ⟨g1,0,none⟩):=(hρ.at_ 7 2 rfl).trans g7;exact qc (w':=W) (by unfold execOp;simp only[s7,hc];go_simp) (next _ _ (Below.refl _ _) rfl)
  ·have g6:wj g0 g1 a1 a2 b1 b2 x y z 1 (vs 1) W:=hG 1 (qQ 1 (by kernel_rfl));have s6:ρ (.tmp 6)=.int .u64 (a1:Int):=(hρ.at_ 6 1 rfl).trans g6;have g8:wj g0 g1 a1 a2 b1 b2 x y z 3 (vs 3) W:=hG 3 (qQ 3 (by kernel_rfl));have s8:ρ (.tmp 8)=.int .u64 (b1:Int):=(hρ.at_ 8 3 rfl).trans g8;refine qu (f:=152) (args:=#[.int .u64 (a1:Int),.int .u64 (b1:Int)]) (w':=W) (by unfold execOp;simp only[hfn,s6,s8];go_simp) ((HC1.out W).mono ?_);rintro x W' ⟨rfl,rfl⟩;exact⟨_,rfl,next _ _ (Below.refl _ _) rfl⟩
  ·have o2:ρ (.tmp 2)=.pointer (some ⟨g0,0,none⟩):=hρ.out 2 rfl;exact qc (w':=W) (by unfold execOp;simp only[o2,hc];go_simp) (next _ _ (Below.refl _ _) rfl)
  ·have g10:wj g0 g1 a1 a2 b1 b2 x y z 5 (vs 5) W:=hG 5 (qQ 5 (by kernel_rfl));have s10:ρ (.tmp 10)=.pointer (some ⟨g0,1,none⟩):=(hρ.at_ 10 5 rfl).trans g10;exact qc (w':=W) (by unfold execOp;simp only[s10,hc];go_simp) (next _ _ (Below.refl _ _) rfl)
  ·have o3:ρ (.tmp 3)=.pointer (some ⟨g1,0,none⟩):=hρ.out 3 rfl;exact qc (w':=W) (by unfold execOp;simp only[o3,hc];go_simp) (next _ _ (Below.refl _ _) rfl)
  ·have g12:wj g0 g1 a1 a2 b1 b2 x y z 7 (vs 7) W:=hG 7 (qQ 7 (by kernel_rfl));have s12:ρ (.tmp 12)=.pointer (some ⟨g1,1,none⟩):=(hρ.at_ 12 7 rfl).trans g12;exact qc (w':=W) (by unfold execOp;simp only[s12,hc];go_simp) (next _ _ (Below.refl _ _) rfl)
  ·have g11:wj g0 g1 a1 a2 b1 b2 x y z 6 (vs 6) W:=hG 6 (qQ 6 (by kernel_rfl));have s11:ρ (.tmp 11)=.int .u64 (a2:Int):=(hρ.at_ 11 6 rfl).trans g11;have g13:wj g0 g1 a1 a2 b1 b2 x y z 8 (vs 8) W:=hG 8 (qQ 8 (by kernel_rfl));have s13:ρ (.tmp 13)=.int .u64 (b2:Int):=(hρ.at_ 13 8 rfl).trans g13;refine qu (f:=152) (args:=#[.int .u64 (a2:Int),.int .u64 (b2:Int)]) (w':=W) (by unfold execOp;simp only[hfn,s11,s13];go_simp) ((HC2.out W).mono ?_);rintro x W' ⟨rfl,rfl⟩;exact⟨_,rfl,next _ _ (Below.refl _ _) rfl⟩
  ·have g9:wj g0 g1 a1 a2 b1 b2 x y z 4 (vs 4) W:=hG 4 (qQ 4 (by kernel_rfl));have s9:ρ (.tmp 9)=.int .i64 (x):=(hρ.at_ 9 4 rfl).trans g9;have g14:wj g0 g1 a1 a2 b1 b2 x y z 9 (vs 9) W:=hG 9 (qQ 9 (by kernel_rfl));have s14:ρ (.tmp 14)=.int .i64 (y):=(hρ.at_ 14 9 rfl).trans g14;exact qc (v:=.slice (some ⟨W.heap.size,0,none⟩) 2 2) (w':=W.alloc (.cells (qh [x,y]) 3)) (by unfold execOp;simp only[s9,s14,qh];go_simp) (next _ _ ((Below.refl _ W).alloc (Nat.le_refl _) _) ⟨W.heap.size,rfl,wT W _ hz⟩)
  ·obtain⟨B15,g15,qj2⟩:wj g0 g1 a1 a2 b1 b2 x y z 10 (vs 10) W:=hG 10 (qQ 10 (by kernel_rfl));have s15:ρ (.tmp 15)=.slice (some ⟨B15,0,none⟩) 2 2:=(hρ.at_ 15 10 rfl).trans g15;refine qu (f:=151) (args:=#[.slice (some ⟨B15,0,none⟩) 2 2]) (w':=W) (by unfold execOp;simp only[hfn,s15];go_simp) ((HC3.out W B15 qj2).mono ?_);rintro x W' ⟨rfl,rfl⟩;exact⟨_,rfl,next _ _ (Below.refl _ _) rfl⟩
  ·have g16:wj g0 g1 a1 a2 b1 b2 x y z 11 (vs 11) W:=hG 11 (qQ 11 (by kernel_rfl));have s16:ρ (.tmp 16)=.int .i64 z:=(hρ.at_ 16 11 rfl).trans g16;exact qc (w':=W) (by unfold execOp;simp only[s16,hc];go_simp) (next _ _ (Below.refl _ _) rfl)
  ·have g17:wj g0 g1 a1 a2 b1 b2 x y z 12 (vs 12) W:=hG 12 (qQ 12 (by kernel_rfl));have s17:ρ (.tmp 17)=.bool (decide (0<z)):=(hρ.at_ 17 12 rfl).trans g17;exact qc (w':=W) (by unfold execOp;simp only[s17,hc];go_simp) (next _ _ (Below.refl _ _) rfl)
 ·intro i o L vs W j want ho hli qQ hg hv hI;obtain⟨hb,bD⟩:=hI;have hG:∀j,L j=true→wj g0 g1 a1 a2 b1 b2 x y z j (vs j) W:=fun j hj=>by
   by_cases h51:j<14
   ·exact bD j hj h51
   ·match j,h51 with
    | j+14,_=>exact trivial
  have qte:i<14:=(Array.getElem?_eq_some_iff.1 ho).1;rcases i with _|_|_|_|_|_|_|_|_|_|_|_|_|_|i;all_goals (first|omega|skip)
  all_goals simp only[QA,QB,QC,Option.some.injEq]at ho
  all_goals subst ho
  all_goals simp only[reduceCtorEq,Option.some.injEq,Prod.mk.injEq]at hg
 ·intro vs W hI;have g7:vs 13=.bool (decide (0<z)):=hI.2 13 (by decide) (by decide);have hbW:=QH (q9 HB.out hI.1);clear hI;go_wp2_with fail;refine aa 13 rfl (by decide +kernel) (by kernel_rfl) rfl g7 ⟨by rw[HR.out],hbW.out⟩
end Go.Proofs.YtdagdllomphidaaGreatDoor.vt.pg
namespace Go.Proofs.YtdagdllomphidaaGreatDoor.vt.pg
open _root_.Go.Proofs.Tryz Go Go.RowKit ib mt im sp
def qhk (G:Nat→Prop)(l:List Int)(w:World)(e:Ending)(w':World):Prop:=∃A c,e=.returned (.slice A l.length c)∧gV G w' A l c∧Below w.heap.size w w'
def jL (m:Mt)(n:Nat):List Int:=xO { m with qa:=m.qa.take n }
theorem mK (m:Mt):jL m 0=List.replicate m.live.length 0:=rfl
theorem pQ {m:Mt}{k:Nat}(h:k<m.qa.length):jL m (k+1)=m.qa[k].qj:=by
 unfold jL xO;dsimp only;rw[List.take_succ_eq_append_getElem h,List.getLast?_concat]
theorem qhl(m:Mt):jL m m.qa.length=xO m:=by unfold jL;rw[List.take_length]
theorem qhm{m:Mt}(h:m.qa.length=0):qH m=(0,0):=by
 unfold qH;rw[List.length_eq_zero_iff.1 h];rfl
theorem qhn{m:Mt}{k:Nat}(h:k<m.qa.length)(h1:k+1=m.qa.length):qH m=m.qa[k].g:=by
 unfold qH;rw[List.getLast?_eq_getElem?,show m.qa.length-1=k by omega,List.getElem?_eq_getElem h]
theorem xI (w:World)(X:Array Value):∃W,w.alloc (.cells X 98)=W∧qg W w.heap.size 98 X∧Below w.heap.size w W :=
 ⟨_,rfl,qg.new _ _ _,(Below.refl _ _).alloc (Nat.le_refl _) _⟩
theorem pR {w:World}{A0 A1 A2:Option Addr}{c0 c1 c2:Nat}{m:Mt}(hS:ji w A1 m.qa)(nS:m.qa.length≤1000) :
    Calls prog 112 #[.agg (zi A0 A1 A2 c0 c1 c2 m)] w fun e w'=>e=.returned (gv (qH m))∧Below w.heap.size w w':=by
 obtain⟨W1,hW1,zN,hb1⟩:=xI w (zi A0 A1 A2 c0 c1 c2 m);have hb2:=(Below.refl _ W1).alloc (Nat.le_refl _) (.cells #[.int .u64 0,.int .u64 0] 55);have hr2:=qg.new W1 55 #[.int .u64 0,.int .u64 0];obtain⟨W2,hW2⟩:=QE (W1.alloc (.cells #[.int .u64 0,.int .u64 0] 55));rw[hW2]at hb2 hr2;have qG:=QH (q9 hb1 hb2);have hk2:=zN.below hb2;have uQ:=QH hr2;have HLE:Hid (w.heap.size<W1.heap.size):=zN.lt;have q1:=hk2.cell 1;have ig:=hk2.lt;simp only[zi,QA,QB,QC]at q1;have HS:=QH (hS.below qG.out);have r0:=hr2.cell 0;have r1:=hr2.cell 1;have f0:=hr2.frozen 0;have f1:=hr2.frozen 1;have hrl:=hr2.lt;simp only[QA,QB,QC]at r0 r1;have xB:Hid (∀(a b:Nat) W,qg W W1.heap.size 55 #[.int .u64 (a:Int),.int .u64 (b:Int)]→(loadVar 55 ⟨W1.heap.size,0,none⟩).run prog W=.ok (.agg #[.int .u64 (a:Int),.int .u64 (b:Int)]) W):=fun a b W hW =>
  run_loadVar_row W W1.heap.size 55 55 _ (0,0) _ hW underlying55 rfl (by kernel_rfl)
 have qoc:Hid (∀(a b:Nat),qg ((W2.setCell ⟨W1.heap.size,0,none⟩ (.int .u64 (a:Int))).setCell ⟨W1.heap.size,1,none⟩ (.int .u64 (b:Int))) W1.heap.size 55 #[.int .u64 (a:Int),.int .u64 (b:Int)]∧Below w.heap.size w ((W2.setCell ⟨W1.heap.size,0,none⟩ (.int .u64 (a:Int))).setCell ⟨W1.heap.size,1,none⟩ (.int .u64 (b:Int)))):=fun a b =>
  ⟨by have:=(hr2.qo 0 (.int .u64 (a:Int))).qo 1 (.int .u64 (b:Int));simpa using this,(qG.out.setCell (p:=⟨W1.heap.size,0,none⟩) (by have:=HLE.out;show w.heap.size≤W1.heap.size;omega) _).setCell (p:=⟨W1.heap.size,1,none⟩) (by have:=HLE.out;show w.heap.size≤W1.heap.size;omega) _⟩
 clear hS zN hb1 hb2 hr2 hk2;by_cases h0:m.qa.length=0
 ·have HG:=QH (qhm h0);have hz:((m.qa.length:Int) == 0)=true:=by rw[h0];rfl
  clear h0;unfold zi at hW1 ⊢;go_enter func112,ntmps112;go_upto_region 1 with fail;try rw[hW1]
  try rw[hW2]
  clear hW1 hW2;go_wp2_with fail;refine bodyPost_ret (v:=.agg #[.int .u64 0,.int .u64 0]) (im.xf rfl _ _ _ ⟨W1.heap.size,0,none⟩ _ rfl (xB.out 0 0 _ (qoc.out 0 0).1)) rfl ⟨by rw[HG.out];rfl,(qoc.out 0 0).2⟩
 ·obtain⟨k,hk⟩:∃k,m.qa.length=k+1:=⟨m.qa.length-1,by omega⟩;have hkl:k<m.qa.length:=by omega
  have HG:=QH (qhn hkl hk.symm);obtain⟨b,o,B,c,rfl,s2,s3,s4,_⟩:=HS.out k hkl;generalize m.qa[k].g=gg at *;obtain⟨ga,gb⟩:=gg;dsimp only at s3 s4;have hw:IntKind.i64.wrap ((m.qa.length:Int)-1)=(k:Int):=by rw[IntWalk.i64_in _ (by omega)];omega
  have jY:(k:Int)<(m.qa.length:Int):=by omega
  have hk0:¬ (k:Int)<0:=by omega
  have hnz:((m.qa.length:Int) == 0)=false:=beq_false_of_ne (by omega);unfold zi at hW1 ⊢;clear hk h0;go_enter func112,ntmps112;go_upto_region 1 with fail;try rw[hW1]
  try rw[hW2]
  clear hW1 hW2;go_wp2_with fail;refine bodyPost_ret (v:=.agg #[.int .u64 (ga:Int),.int .u64 (gb:Int)]) (im.xf rfl _ _ _ ⟨W1.heap.size,0,none⟩ _ rfl (xB.out ga gb _ (qoc.out ga gb).1)) rfl ⟨by rw[HG.out];rfl,(qoc.out ga gb).2⟩
theorem mL {w:World}{A0 A1 A2:Option Addr}{c0 c1 c2:Nat}(m:Mt):Calls prog 59 #[.agg (zi A0 A1 A2 c0 c1 c2 m)] w (wU (decide (m.tok.target=(0,0))) w):=by
 obtain⟨W1,hW1,zN,hb1⟩:=xI w (zi A0 A1 A2 c0 c1 c2 m);have q4:=zN.cell 4;have q5:=zN.cell 5;have ig:=zN.lt;simp only[zi,QA,QB,QC]at q4 q5;have zk:=QH hb1;have HD:Hid (decide (m.tok.target=(0,0))=(((m.tok.target.1:Int) == 0)&&((m.tok.target.2:Int) == 0))):=by
  unfold Hid;have:(m.tok.target=(0,0))↔((m.tok.target.1:Int)=0∧(m.tok.target.2:Int)=0):=by
   constructor
   ·intro h;rw[h];exact⟨rfl,rfl⟩
   ·intro h;exact Prod.ext (by have:=h.1;omega) (by have:=h.2;omega)
  rw[Bool.eq_iff_iff];simp only[decide_eq_true_eq,Bool.and_eq_true,beq_iff_eq];exact this
 obtain⟨r,hr⟩:=QE (decide (m.tok.target=(0,0)));rw[hr]at HD ⊢;unfold zi at hW1 ⊢;generalize (m.tok.target.1:Int)=x at *;generalize (m.tok.target.2:Int)=y at *;obtain⟨p1,hp1⟩:=QE (x == 0);obtain⟨p2,hp2⟩:=QE (y == 0);rw[hp1,hp2]at HD;clear zN hb1 hr;go_enter func59,ntmps59;go_upto_region 1 with fail;try rw[hW1]
 clear hW1;cases p1 <;> cases p2;all_goals
  go_wp2_with fail;go_ret;exact⟨by rw[HD.out];rfl,zk.out⟩
theorem mM {G:Nat→Prop}{w:World}{A0 A1 A2:Option Addr}{c0 c1 c2:Nat}{m:Mt}(hS:eu G w A1 m.qa)(hsz:mtS m)(hG:∀j,w.heap.size≤j→G j)(n:Nat)(hn:n≤m.qa.length) :
    Calls prog 79 #[.agg (zi A0 A1 A2 c0 c1 c2 m),.int .i64 (n:Int)] w (qhk G (jL m n) w):=by
 obtain⟨W1,hW1,zN,hb1⟩:=xI w (zi A0 A1 A2 c0 c1 c2 m);have q0:=zN.cell 0;have q1:=zN.cell 1;have ig:=zN.lt;simp only[zi,QA,QB,QC]at q0 q1;have zk:=QH hb1;have HS:=QH (hS.stay (kV.of_below hb1));have HG:=QH hG;have HL:=QH hsz.live;clear hS hG zN hb1;rcases n with _|k
 ·rw[mK];have hb2:=(Below.refl _ W1).alloc (Nat.le_refl _) (.cells (qh (List.replicate m.live.length 0)) 3);have hs2:=qsX W1 (List.replicate m.live.length 0) (fun z hz=>by rw[List.eq_of_mem_replicate hz];unfold qD;omega);have qG:=QH (q9 zk.out hb2);have uk:Hid (gV G (W1.alloc (.cells (qh (List.replicate m.live.length 0)) 3)) (some ⟨W1.heap.size,0,none⟩) (List.replicate m.live.length 0) (List.replicate m.live.length (0:Int)).length):=⟨hs2,fun _ b o s e=>by
   simp only[Option.some.injEq,Addr.mk.injEq]at e;rw[← e.1];exact HG.out _ zk.out.size⟩
  have HW:=QH hW1;clear hW1 hb2 hs2;unfold zi at HW ⊢;go_enter func79,ntmps79;go_upto_region 1 with fail;rw[HW.out];go_wp2_with (at_make;refine ql rfl (aT _ _ m.live.length rfl rfl rfl (by have:=HL.out;omega)) ?_);go_ret;exact⟨_,_,by simp,uk.out,qG.out⟩
 ·have hkl:k<m.qa.length:=by omega
  rw[pQ hkl];obtain⟨b,o,B,c,rfl,s2,_,_,s5,_,s7,_⟩:=HS.out.at_ k hkl;generalize m.qa[k].qj=im at *;have HS7:=QH s7;have hw:IntKind.i64.wrap (((k+1:Nat):Int)-1)=(k:Int):=by have:=hsz.qa;rw[IntWalk.i64_in _ (by omega)];omega
  have jY:(k:Int)<(m.qa.length:Int):=by omega
  have hk0:¬ (k:Int)<0:=by omega
  have hnz:(((k+1:Nat):Int) == 0)=false:=beq_false_of_ne (by omega);have HW:=QH hW1;clear hW1 s7 hsz;obtain⟨n1,hn1⟩:=QE ((k+1:Nat):Int);rw[hn1]at hw hnz ⊢;clear hn1;unfold zi at HW ⊢;go_enter func79,ntmps79;go_upto_region 1 with fail;rw[HW.out];go_wp2_with fail;go_ret;exact⟨_,_,rfl,HS7.out,zk.out⟩
end Go.Proofs.YtdagdllomphidaaGreatDoor.vt.pg
namespace Go.Proofs.YtdagdllomphidaaGreatDoor.ib
open _root_.Go.Proofs.Tryz Go Go.RowKit Go.ChangeShapes Go.WideShapes Go.Deep
def cn (w:World)(a:Option Addr)(ue:List (List Int)):Prop :=
 ∀i (h:i<ue.length),∃b o A c,a=some ⟨b,o,none⟩∧b<w.heap.size∧w.cell? ⟨b,o+i,none⟩=some (.slice A ue[i].length c)∧qJ w A ue[i]∧ue[i].length≤9223372036854775807
theorem cn.below{w w':World}{a:Option Addr}{ue:List (List Int)}(h:cn w a ue)(hb:Below w.heap.size w w'):cn w' a ue:=by
 intro i hi;obtain⟨b,o,A,c,h1,h2,h3,h4,h5⟩:=h i hi;exact⟨b,o,A,c,h1,Nat.lt_of_lt_of_le h2 hb.size,by rw[hb.cell (p:=⟨b,o+i,none⟩) h2];exact h3,h4.below hb,h5⟩
section
variable {H:Type} {enc:TypeId × Value→H} {w:World} {held:Bool} {a:Option Addr} {l c:Nat} {d:DataW H} {pl:List MemPlace}
end
end Go.Proofs.YtdagdllomphidaaGreatDoor.ib
namespace Go.Proofs.YtdagdllomphidaaGreatDoor
open _root_.Go.Proofs.Tryz Go Go.RowKit
theorem xh {P:Program}{ops:Array Oper}{rest:List Oper}{o:Oper}{a:Act}{w:World}{Q:Exit→Act→World→Prop}(hgd:o.guard=none)(s x:Operand)(t:TypeId)
    (ho:o.op=.call { callee:=.builtin .append,args:=#[s,x],argTypes:=#[t,t] })
    (base:Nat) (e:TypeId) (i:TypeInfo) (z:Value) (size bytes:Nat) (ht:P.underlying t=some (.slice e)) (hi:P.info? e=some i) (hz:i.zero=some z)
    (hsize:i.size=size) (hby:i.bytes=bytes) (hzs:z.cells.size=size) (hsz:0<size)
    (v:Value) (n:Nat) (xs:List Value) (hs:a.eval s=v) (hown:w.ownsRow base e size v n xs)
    (ad:Addr) (m c:Nat) (news:List Value) (hx:a.eval x=.slice (some ad) m c) (hl:news.length=m*size) (hnews:∀j u,news[j]?=some u→w.cell? (ad.add j)=some u) (h1:∀u∈news,u.oneCell'=true)
    (h63:n+m≤maxLen) (hbytes:(n+m)*bytes≤140737488355328) (hbase:base≤w.heap.size)
    (h:∀v' w',w'.ownsRow base e size v' (n+m) (xs++news)→w.grownBy w' v.ownBlock→(v'.ownBlock=v.ownBlock∨v'.ownBlock=some w.heap.size)→wpList P ops Q rest (a.put o.dst v') w'):wpList P ops Q (o::rest) a w:=by
 refine wpList_plain hgd fun K hK=>?_;obtain⟨v',w',hrun,h2,h3,_,h5⟩:=run_append_own_at (P:=P) w base t o.type e i z size bytes ht hi hz hsize hby hzs hsz v n xs hown ad m c news hl hnews h1 h63 hbytes hbase;unfold Oper.wp;simp[execOp,ho,resolve,invoke,builtin,hs,hx,hrun,Result.andThen];exact hK _ _ (h v' w' h2 h3 h5)
end Go.Proofs.YtdagdllomphidaaGreatDoor
namespace Go.Proofs.YtdagdllomphidaaGreatDoor.vt.pg
open _root_.Go.Proofs.Tryz Go Go.RowKit ib mt im sp
theorem qtU:(prog.info? 57).map (fun i=>(i.zero,i.size,i.bytes))=some (some (.slice none 0 0),1,24):=by kernel_rfl
def qho (w:World)(u:Value)(l:List Int):Prop:=∃B c,u=.slice B l.length c∧qJ w B l∧l.length≤1000
theorem qho.below{w w':World}{u:Value}{l:List Int}(h:qho w u l)(hb:Below w.heap.size w w'):qho w' u l:=by
 obtain⟨B,c,h1,h2,h3⟩:=h;exact⟨B,c,h1,h2.below hb,h3⟩
def IvL (w:World)(vs:List Value)(ls:List (List Int)):Prop:=vs.length=ls.length∧∀i (h:i<vs.length) (h':i<ls.length),qho w vs[i] ls[i]
theorem IvL.below{w w':World}{vs:List Value}{ls:List (List Int)}(h:IvL w vs ls)(hb:Below w.heap.size w w'):IvL w' vs ls:=⟨h.1,fun i h1 h2=>(h.2 i h1 h2).below hb⟩
theorem IvL.snoc{w:World}{vs:List Value}{ls:List (List Int)}{u:Value}{l:List Int}(h:IvL w vs ls)(hu:qho w u l):IvL w (vs++[u]) (ls++[l]):=by
 refine⟨by simp[h.1],fun i h1 h2=>?_⟩;by_cases hi:i<vs.length
 ·rw[List.getElem_append_left hi,List.getElem_append_left (by have:=h.1;omega)];exact h.2 i hi _
 ·have e:i=vs.length:=by simp at h1;omega
  subst e;rw[List.getElem_append_right (Nat.le_refl _),List.getElem_append_right (by have:=h.1;omega)];simpa[h.1]using hu
theorem IvL.ims{w:World}{B:Nat}{v:Value}{vs:List Value}{ls:List (List Int)}(h:IvL w vs ls)(ho:w.ownsRow B 57 1 v ls.length vs):∃A c,v=.slice A ls.length c∧cn w A ls:=by
 rcases ho.2 with⟨rfl,h0⟩|⟨g,cap,cur,rfl,hg,hh,hcc,hm,hcs,xt⟩
 ·exact⟨none,0,by rw[h0],fun i hi=>absurd hi (by omega)⟩
 ·refine⟨some ⟨g,0,none⟩,cap,rfl,fun i hi=>?_⟩;obtain⟨B',c',e,h1,h2⟩:=h.2 i (by have:=h.1;omega) hi;refine⟨g,0,B',c',rfl,(Array.getElem?_eq_some_iff.1 hh).1,?_,h1,by omega⟩;rw[Nat.zero_add,cell_of_row w g i cur 57 (0,0) hh];have hiv:i<vs.length:=by have:=h.1;omega
  have hu:vs[i]?=some (.slice B' ls[i].length c'):=by rw[List.getElem?_eq_getElem hiv,e]
  rw[← xt,List.getElem?_take]at hu;split at hu
  ·rw[← hu];simp
  ·cases hu
def ImR (B:Nat)(m:Mt)(w:World)(v i:Value)(wr:World):Prop :=
 ∃(k:Nat) (vs:List Value),k≤m.qa.length∧i=.int .i64 (k:Int)∧wr.ownsRow B 57 1 v (k+2) vs∧IvL w vs (m.live::m.tok.qj::(m.qa.take k).map (·.qj))∧Below w.heap.size w wr∧B≤wr.heap.size
def qxO (ls:List (List Int))(w:World)(e:Ending)(w':World):Prop:=∃A c,e=.returned (.slice A ls.length c)∧cn w' A ls∧Below w.heap.size w w'
theorem qd9{w:World}{A0 A1 A2:Option Addr}{c0 c1 c2:Nat}{m:Mt}(ht:MtL w A0 A1 A2 c0 c1 c2 m)(hsz:mtS m) :
    Calls prog 103 #[.agg (zi A0 A1 A2 c0 c1 c2 m)] w (qxO (xe m) w):=by
 obtain⟨i0,hi,hz0,hz1,hz2⟩:=info_parts qtU;obtain⟨W1,hW1,zN,hb1⟩:=xI w (zi A0 A1 A2 c0 c1 c2 m);have hb2:=(Below.refl _ W1).alloc (Nat.le_refl _) (.cells #[.slice A0 m.live.length c0,.slice A2 m.tok.qj.length c2] 57);have hn2:=qg.new W1 57 #[.slice A0 m.live.length c0,.slice A2 m.tok.qj.length c2];obtain⟨W2,hW2⟩:=QE (W1.alloc (.cells #[.slice A0 m.live.length c0,.slice A2 m.tok.qj.length c2] 57));rw[hW2]at hb2 hn2;have hbb:=q9 hb1 hb2;have uF:Hid (W2.ownsRow W1.heap.size 57 1 (.slice (some ⟨W1.heap.size,0,none⟩) 2 2) 2 [.slice A0 m.live.length c0,.slice A2 m.tok.qj.length c2]) :=
  ⟨rfl,.inr ⟨W1.heap.size,2,_,rfl,Nat.le_refl _,hn2,Nat.le_refl _,by unfold maxLen;omega,rfl,rfl⟩⟩
 have HI2:Hid (IvL w [.slice A0 m.live.length c0,.slice A2 m.tok.qj.length c2] [m.live,m.tok.qj]) :=
  (IvL.snoc (vs:=[.slice A0 m.live.length c0]) (ls:=[m.live]) ⟨rfl,fun i h1 h2=>by
   obtain rfl:i=0:=by simp at h1;exact h1
   exact⟨A0,c0,rfl,ht.live.ints,hsz.live⟩⟩ ⟨A2,c2,rfl,ht.qj.ints,hsz.qj⟩)
 have HS:=QH ht.qa;have qG:=QH hbb;have hk2:=zN.below hb2;have HL1:Hid (W1.heap.size≤W2.heap.size):=hb2.size;have HLW:Hid (w.heap.size≤W1.heap.size):=hb1.size;have eM:=QH hsz;have q0:=zN.cell 0;have q1:=hk2.cell 1;have q8:=zN.cell 8;have ig:=zN.lt;have q9o:=hk2.lt;have nS:=hsz.qa;simp only[zi,QA,QB,QC]at q0 q1 q8;clear ht hsz zN hb1 hb2 hn2 hbb hk2;have HIM:Hid (xe m=m.live::m.tok.qj::m.qa.map (·.qj)):=rfl;unfold zi at hW1 ⊢;go_enter func103,ntmps103;go_upto_region 1 with fail;try rw[hW1]
 clear hW1;go_upto_region 2 with fail;try rw[hW2]
 clear hW2 q0 q8 ig;go_wp2_with fail;go_loopw [3,15] (fun v i wr=>ImR W1.heap.size m w v i wr) (fun _ i _=>m.qa.length-(intOf i).toNat);case atStart=>exact⟨0,_,Nat.zero_le _,rfl,uF.out,HI2.out,qG.out,HL1.out⟩
 case round =>
  obtain⟨k,vs,hk,rfl,ho,hiv,hB,hLR⟩:=hrel;have HLR:=QH hLR;have HO:=QH ho;have HIV:=QH hiv;have HB:=QH hB;clear ho hiv hB;by_cases hlt:k<m.qa.length
  ·have jY:(k:Int)<(m.qa.length:Int):=by omega
   have hk0:¬ (k:Int)<0:=by omega
   obtain⟨b,o,B,c,hA,z1,z2,z3,z4,z5,s6,_⟩:=HS.out k hlt;have s1:=Nat.lt_of_lt_of_le z1 HB.out.size;have s2:=(HB.out.cell (p:=⟨b,o+k*4,none⟩) z1).trans z2;have s3:=(HB.out.cell (p:=⟨b,o+k*4+1,none⟩) z1).trans z3;have s4:=(HB.out.cell (p:=⟨b,o+k*4+2,none⟩) z1).trans z4;have s5:=(HB.out.cell (p:=⟨b,o+k*4+3,none⟩) z1).trans z5;clear z1 z2 z3 z4 z5;have HSL:=QH s6;have eH:Hid ((m.qa.take (k+1)).map (·.qj)=(m.qa.take k).map (·.qj)++[m.qa[k].qj]):=by unfold Hid;rw[List.take_succ_eq_append_getElem hlt,List.map_append];rfl
   have HIL:Hid (m.qa[k].qj.length≤1000):=eM.out.uf _ (List.getElem_mem hlt);subst hA;obtain⟨im,vE⟩:=QE (m.qa[k].qj);obtain⟨gd,hgd⟩:=QE (m.qa[k].g);obtain⟨hd,hhd⟩:=QE (m.qa[k].hid);rw[vE]at HSL eH HIL s4;rw[hgd]at s2 s3;rw[hhd]at s5;clear vE hgd hhd s6;have jT:=(Below.refl _ wr).alloc (Nat.le_refl _) (.cells #[.int .u64 (gd.1:Int),.int .u64 (gd.2:Int),.slice B im.length c,.bool hd] 145);obtain⟨W3,hW3⟩:=QE (wr.alloc (.cells #[.int .u64 (gd.1:Int),.int .u64 (gd.2:Int),.slice B im.length c,.bool hd] 145));have jV:=qg.new wr 145 #[.int .u64 (gd.1:Int),.int .u64 (gd.2:Int),.slice B im.length c,.bool hd];rw[hW3]at jT jV;have r2:=jV.cell 2;have hrl:=jV.lt;simp only[QA,QB,QC]at r2;have hby:=(Below.refl _ W3).alloc (Nat.le_refl _) (.cells #[.slice B im.length c] 57);have hbz:=q9 jT hby;have sK:Hid ((W3.alloc (.cells #[.slice B im.length c] 57)).ownsRow W1.heap.size 57 1 _ (k+2) vs):=xQ HO.out (fun j hj=>hbz.block j (HO.out.lt j hj).2);have q3i:Hid (qho w (.slice B im.length c) im):=⟨B,c,rfl,HSL.out.ints,HIL.out⟩;have zU:=QH (q9 HB.out hbz);have HL4:Hid (W1.heap.size≤(W3.alloc (.cells #[.slice B im.length c] 57)).heap.size):=by have h1:=HO.out.2;have:=hbz.size;have:=HLR.out;unfold Hid;omega
   have fu:Hid (∀j u,([.slice B im.length c]:List Value)[j]?=some u→(W3.alloc (.cells #[.slice B im.length c] 57)).cell? ((⟨W3.heap.size,0,none⟩:Addr).add j)=some u):=fun j u hu=>by
    rw[addr_add,Nat.zero_add,(qg.new W3 57 #[.slice B im.length c]).cell j];simpa using hu
   clear jT jV hby hbz;go_wp2_with (at_builtin;refine xh rfl (.tmp 19) (.tmp 22) 175 rfl W1.heap.size 57 i0 (.slice none 0 0) 1 24 underlying175 hi hz0 hz1 hz2 rfl (by decide) _ (k+2) vs rfl sK.out ⟨W3.heap.size,0,none⟩ 1 1 [.slice B im.length c] rfl rfl fu.out (by intro u hu;simp at hu;subst hu;rfl) (by unfold maxLen;omega) (by omega) (by have:=zU.out.size;have:=HL4.out;omega) ?_);intro v' w1 hown hgrow _;have jt:Hid (Below w.heap.size w w1):=zU.out.grown hgrow zU.out.size (fun j hj=>Nat.le_trans HLW.out (sK.out.lt j hj).1);have HO5:Hid (w1.ownsRow W1.heap.size 57 1 v' (k+1+2) (vs++[.slice B im.length c])):=by
    have:=hown;rw[show k+2+1=k+1+2 by omega]at this;exact this
   have q3j:Hid (IvL w (vs++[.slice B im.length c]) (m.live::m.tok.qj::(m.qa.take (k+1)).map (·.qj))):=by
    rw[eH.out];exact HIV.out.snoc q3i.out
   have HL5:Hid (W1.heap.size≤w1.heap.size):=Nat.le_trans HL4.out hgrow.size;clear hown hgrow;go_wp2_with fail;go_roundw;case rel=>exact⟨k+1,_,by omega,by go_num,HO5.out,q3j.out,jt.out,HL5.out⟩
   case measure=>simp[intOf];omega
  ·obtain rfl:k=m.qa.length:=by omega
   have jY:¬ (m.qa.length:Int)<(m.qa.length:Int):=by omega
   have hiv:=HIV.out;rw[List.take_length]at hiv;have vE:=(hiv.below HB.out).ims (B:=W1.heap.size) (by
    have:=HO.out;rw[show m.qa.length+2=(m.live::m.tok.qj::m.qa.map (·.qj)).length by simp]at this;exact this)
   obtain⟨A,c,hv,hx⟩:=vE;have HX:=QH hx;have HV:=QH hv;clear hiv hx hv;go_wp2_with fail;go_ret;exact⟨A,c,by rw[HV.out];rfl,HX.out,HB.out⟩
end Go.Proofs.YtdagdllomphidaaGreatDoor.vt.pg
namespace Go.Proofs.YtdagdllomphidaaGreatDoor
open _root_.Go.Proofs.Tryz Go.RowKit
def yI (w:World)(a:Option Addr)(ps:List (List UInt8)):Prop :=
 ∀i (h:i<ps.length),∃b o,a=some ⟨b,o,none⟩∧b<w.heap.size∧w.cell? ⟨b,o+i,none⟩=some (.string (str ps[i]))
def yi (ps:List (List UInt8)):List Value:=ps.map fun p=>Value.string (str p)
theorem mN (ps:List (List UInt8)):(yi ps).length=ps.length:=by simp[yi]
theorem cq (ps:List (List UInt8))(p:List UInt8):yi (ps++[p])=yi ps++[.string (str p)]:=by simp[yi]
theorem yI.below{w w':World}{a:Option Addr}{ps:List (List UInt8)}{B:Nat}(h:yI w a ps)(hb:Below B w w')(hB:w.heap.size≤B):yI w' a ps:=by
 intro i hi;obtain⟨b,o,rfl,hlt,hc⟩:=h i hi;exact⟨b,o,rfl,Nat.lt_of_lt_of_le hlt hb.size,by rw[hb.cell (p:=⟨b,o+i,none⟩) (Nat.lt_of_lt_of_le hlt hB)];exact hc⟩
theorem yI.nil(w:World)(a:Option Addr):yI w a []:=fun i h=>absurd h (by simp)
def zH (w:World)(B:Nat)(v:Value)(ps:List (List UInt8)):Prop:=w.ownsRow B 9 1 v ps.length (yi ps)
theorem zH.view{w:World}{B:Nat}{v:Value}{ps:List (List UInt8)}(h:zH w B v ps) :
    ∃a c,v=.slice a ps.length c∧ps.length≤c∧c≤maxLen∧yI w a ps∧(a=none→ps=[])∧(∀x,a=some x→∃g,x=⟨g,0,none⟩∧B≤g∧g<w.heap.size):=by
 rcases h.2 with⟨rfl,h0⟩|⟨g,cap,cur,rfl,hg,hh,hc,hm,_,_⟩
 ·obtain rfl:ps=[]:=List.length_eq_zero_iff.1 h0;exact⟨none,0,rfl,Nat.le_refl _,by decide,yI.nil _ _,fun _=>rfl,fun x hx=>(by cases hx)⟩
 ·have hlt:g<w.heap.size:=(Array.getElem?_eq_some_iff.1 hh).1;refine⟨some ⟨g,0,none⟩,cap,rfl,hc,hm,?_,fun h=>(by cases h),fun x hx=>⟨g,(by cases hx;rfl),hg,hlt⟩⟩;intro i hi;refine⟨g,0,rfl,hlt,?_⟩;have:=World.ownsRow.cellAt h i (by omega);rw[Nat.zero_add,this];simp[yi,hi]
theorem mO (ps:List (List UInt8))(w:World):yI (w.alloc (.cells (yi ps).toArray 9)) (some ⟨w.heap.size,0,none⟩) ps:=by
 intro i h;refine⟨w.heap.size,0,rfl,by simp,?_⟩;simp[World.cell?,World.alloc,-World.alloc_eq,yi,h]
theorem sM {w:World}{B C:Nat}{v:Value}{ps:List (List UInt8)}(h:zH w B v ps)(hc:C≤B):zH w C v ps:=by
 refine⟨h.1,?_⟩;rcases h.2 with hn|⟨g,cap,cur,hv,hb,rest⟩
 ·exact .inl hn
 ·exact .inr ⟨g,cap,cur,hv,Nat.le_trans hc hb,rest⟩
theorem dO {w w':World}{B:Nat}{v:Value}{ps:List (List UInt8)}(h:zH w B v ps)(hb:Below w.heap.size w w'):zH w' B v ps:=by
 refine⟨h.1,?_⟩;rcases h.2 with hn|⟨g,cap,cur,hv,hB,hg,rest⟩
 ·exact .inl hn
 ·exact .inr ⟨g,cap,cur,hv,hB,by rw[hb.block g (Array.getElem?_eq_some_iff.1 hg).1];exact hg,rest⟩
theorem cu (ps:List (List UInt8))(k:Nat)(h:k<ps.length):(ps.take (k+1)).flatten=(ps.take k).flatten++ps[k]:=by
 rw[List.take_succ_eq_append_getElem h,List.flatten_append];simp only[List.flatten_cons,List.flatten_nil,List.append_nil]
theorem fx (ps:List (List UInt8))(k:Nat):(ps.take k).flatten.length≤ps.flatten.length:=by
 have h:ps.flatten=(ps.take k).flatten++(ps.drop k).flatten:=by rw[← List.flatten_append,List.take_append_drop]
 rw[h];simp
def qoe (ps:List (List UInt8))(w:World)(i:Value)(wr:World):Prop :=
 ∃k:Nat,k≤ps.length∧i=.int .i64 (k:Int)∧Lib.IsBuilder 230 5 w.heap.size w.heap.size (Lib.byteCells (ps.take k).flatten) wr∧Below w.heap.size w wr
theorem mQ (a:Option Addr)(c:Nat)(ps:List (List UInt8))(w:World)(hc:yI w a ps)(hl:ps.length≤4611686018427387904)(hs:ps.flatten.length≤140737488355328) :
    Calls prog 136 #[.slice a ps.length c] w (qe7 (str ps.flatten) w):=by
 have h0:Lib.IsBuilder 230 5 w.heap.size w.heap.size [] (w.alloc (.cells #[.pointer none,.slice none 0 0] 230)):=Lib.fresh_isBuilder 230 5 w;have b0:Below w.heap.size w (w.alloc (.cells #[.pointer none,.slice none 0 0] 230)):=(Below.refl _ w).alloc (Nat.le_refl _) _;have HC:=QH hc;clear hc;go_enter func136,ntmps136;go_wp2;go_loopw [8] (fun i wr=>qoe ps w i wr) (fun i _=>ps.length-(intOf i).toNat);case atStart=>exact⟨0,Nat.zero_le _,rfl,by simpa[Lib.byteCells]using h0,b0⟩
 case round =>
  clear h0 b0;obtain⟨k,hk,rfl,hI,hB⟩:=hrel;by_cases hlt:k<ps.length
  ·obtain⟨b,o,rfl,hb,lR⟩:=HC.out k hlt;have hcell:wr.cell? ⟨b,o+k,none⟩=some (.string (str ps[k])):=by
    rw[hB.cell (p:=⟨b,o+k,none⟩) hb];exact lR
   have wC:=cu ps k hlt;have hfm:=fx ps (k+1);have hbp:=zo ps[k];have hsz:=qO ps[k];have hlen:(Lib.byteCells (ps.take k).flatten).length+(str ps[k]).size≤140737488355328:=by
    rw[Lib.byteCells_length,hsz];rw[wC,List.length_append]at hfm;omega
   have Hfl:=QH wC;have Hbp:=QH hbp;clear wC hfm hbp lR hsz;generalize str ps[k]=s at *;go_wp2_with (go_at_call 157;refine(Tryz.Builder_WriteString w.heap.size w.heap.size _ s _ hI hlen hB.size).mono ?_);rintro e W2 ⟨rfl,h2,b2⟩;have h2':Lib.IsBuilder 230 5 w.heap.size w.heap.size (Lib.byteCells (ps.take (k+1)).flatten) W2:=by
    rw[Lib.strCells_eq,← Lib.byteCells_append]at h2;rw[Hfl.out,← Hbp.out];exact Or.inr h2
   have b2':=hB.trans b2;clear h2 b2 hI hB;go_wp2;go_roundw;case rel=>exact⟨k+1,by omega,by go_num,h2',b2'⟩
   case measure=>simp[intOf];omega
  ·have ee:k=ps.length:=by omega
   subst ee;rw[List.take_length]at hI;go_wp2_with (go_at_call 159;refine(Tryz.Builder_String_any w.heap.size w.heap.size _ _ hI hB.size).mono ?_);rintro e W2 ⟨rfl,b2⟩;have b2':=hB.trans b2;clear b2 hI hB;go_wp2;go_ret;exact⟨rfl,b2'⟩
def sN:Nat→Nat→List UInt8
 | 0,_=>[]
 | k+1,n=>sN k (n/256)++[UInt8.ofNat (n%256)]
theorem qkC(n:Nat):sN 2 n=iH n:=rfl
theorem qhp(n:Nat):sN 4 n=be4 n:=by
 simp[sN,be4,Nat.div_div_eq_div_mul]
def yb (D:List UInt8)(k:Nat):List Value:=List.replicate k (.int .u8 0)++Lib.byteCells (D.drop k)
def qof (D:List UInt8)(w:World)(n i:Value)(wr:World):Prop :=
 ∃k m:Nat,i=.int .i64 ((k:Int)-1)∧n=.int .u32 (m:Int)∧m<4294967296∧sN k m=D.take k∧k≤D.length ∧
  wr.ownsRow w.heap.size 5 1 (.slice (some ⟨w.heap.size,0,none⟩) D.length D.length) D.length (yb D k)∧Below w.heap.size w wr
theorem ox (D:List UInt8)(k:Nat)(h:k<D.length):(yb D (k+1)).set k (.int .u8 (D[k].toNat:Int))=yb D k:=by
 unfold yb;rw[List.replicate_succ',List.append_assoc,List.set_append_right _ _ (by simp),List.length_replicate,Nat.sub_self,List.drop_eq_getElem_cons h];rfl
theorem qhq(D:List UInt8)(m k:Nat)(hk:k<D.length)(h:sN (k+1) m=D.take (k+1)) :
    sN k (m/256)=D.take k∧D[k].toNat=m%256:=by
 have e:sN k (m/256)++[UInt8.ofNat (m%256)]=D.take (k+1):=h;rw[List.take_succ_eq_append_getElem hk]at e;have e':=List.append_inj' e rfl;refine⟨e'.1,?_⟩;have:=e'.2;simp at this;rw[← this,uh _ (by omega)]
theorem cy (n:Nat)(D:List UInt8)(w:World)(hn:n<4294967296)(hl:D.length≤100)(hD:sN D.length n=D) :
    Calls prog 170 #[.int .u32 (n:Int),.int .i64 (D.length:Int)] w (qe7 (str D) w):=by
 obtain⟨i0,hi,hz0,hz1,hz2⟩:=info_parts Tryz.qan;have hmk:=run_make (P:=prog) w 118 5 i0 (.int .u8 0) underlying118 hi hz0 .i64 .i64 (D.length:Int) (D.length:Int) (by omega) (by omega) (by rw[hz2];omega) (by omega);have qjd:(w.alloc (.cells (madeCells #[.int .u8 0] D.length) 5)).ownsRow w.heap.size 5 1 (.slice (some ⟨w.heap.size,0,none⟩) D.length D.length) D.length (yb D D.length):=by
  have:=World.ownsRow_lit (e:=5) (size:=1) (base:=w.heap.size) w (madeCells #[.int .u8 0] D.length) D.length (Nat.le_refl _) (by unfold maxLen;omega) (by simp[size_madeCells]);have e:(madeCells #[.int .u8 0] D.length).toList=yb D D.length:=by
   apply List.ext_getElem?;intro j;by_cases hj:j<D.length <;> simp[madeCells,yb,Lib.byteCells,hj,Nat.mod_one]
  rw[← e];exact this
 have hb0:Below w.heap.size w (w.alloc (.cells (madeCells #[.int .u8 0] D.length) 5)):=(Below.refl _ _).alloc (Nat.le_refl _) _;have HD:=QH hD;clear hD;rw[hz1]at hmk;clear hi hz0 hz1 hz2;go_enter func170,ntmps170;go_wp2;go_loopw [0,6] (fun n' i wr=>qof D w n' i wr) (fun _ i _=>(intOf i+1).toNat);case atStart=>exact⟨D.length,n,rfl,rfl,hn,by rw[HD.out];simp,Nat.le_refl _,qjd,hb0⟩
 case round =>
  obtain⟨k,m,rfl,rfl,hm,hd,hk,hown,hb⟩:=hrel;cases k with
  | zero =>
   have hcv:=run_convert_bytes_back (P:=prog) wr 118 9 5 ⟨w.heap.size,0,none⟩ D.length D underlying118 underlying5 underlying9 (by
    intro j hj;have:=hown.cellAt j (by omega);rw[addr_add,Nat.zero_add,this];simp[yb,Lib.byteCells,List.getElem?_eq_getElem hj])
   have qwz:(convert 118 9 (.slice (some ⟨w.heap.size,0,none⟩) D.length D.length)).run prog wr=.ok (.string (str D)) wr:=hcv;clear hcv;go_wp2;go_ret;exact⟨rfl,hb⟩
  | succ k =>
   have hx:=hown.cellAt k (by omega);rw[show(yb D (k+1))[k]?=some (.int .u8 0)from by simp[yb,List.getElem?_append]]at hx;have hf:=hown.frozenAt k;have hs:=hown.stored k (.int .u8 ((D[k]'(by omega)).toNat:Int));rw[ox _ _ (by omega)]at hs;obtain⟨hs1,hs2⟩:=hs;obtain⟨hd',uM⟩:=qhq D m k (by omega) hd;have Hs1:=QH hs1;have Hs2:=QH hs2;have Hd:=QH hd';have Hl:=QH uM;clear hs1 hs2 hd' uM hd hown;go_wp2;have e:((m:Int)%256)=((D[k]'(by omega)).toNat:Int):=by rw[Hl.out];omega
   rw[e];exact⟨⟨k,m/256,rfl,rfl,by omega,Hd.out,by omega,Hs1.out,hb.grown Hs2.out (by have:=hb.size;omega) (fun j hj=>by cases hj;exact Nat.le_refl _)⟩,by simp[intOf]⟩
theorem qbs(n:Nat)(w:World)(hn:n<4294967296):Calls prog 170 #[.int .u32 (n:Int),.int .i64 2] w (qe7 (str (iH n)) w) :=
 cy n (iH n) w hn (by show 2≤100;decide) (qkC n)
theorem sO (n:Nat)(w:World)(hn:n<4294967296):Calls prog 170 #[.int .u32 (n:Int),.int .i64 4] w (qe7 (str (be4 n)) w) :=
 cy n (be4 n) w hn (by show 4≤100;decide) (qhp n)
def qfk (r:Option (List UInt8))(w:World)(e:Ending)(w':World):Prop :=
 e=.returned (.tuple #[.string (str (r.getD [])),.bool r.isSome])∧Below w.heap.size w w'
theorem sP (n:Nat)(h:n<9223372036854775808):IntKind.i64.wrap (n:Int)=(n:Int):=by
 have e:(n:Int)%2 ^ 64=n:=Int.emod_eq_of_lt (by omega) (by omega);simp only[IntKind.wrap,IntKind.bits,IntKind.signed,e];rw[if_neg];simp;omega
theorem qkD(a b:Nat)(ha:a<256)(hb:b<256):bits .or .i64 ((a:Int)*256) (b:Int)=((256*a+b:Nat):Int):=by
 have e:((a:Int)*256)=((a*256:Nat):Int):=by omega
 rw[e];show IntKind.i64.wrap ((BitVec.ofInt 64 ((a*256:Nat):Int) ||| BitVec.ofInt 64 (b:Int)).toNat:Int)=_;rw[BitVec.toNat_or,ofInt_u64 _ (by omega),ofInt_u64 b (by omega)];have e2:a*256 ||| b=256*a+b:=by
  rw[show a*256=a <<< 8 from by rw[Nat.shiftLeft_eq],← Nat.shiftLeft_add_eq_or_of_lt (by omega),Nat.shiftLeft_eq];omega
 rw[e2];exact sP _ (by omega)
theorem sQ (s:ByteArray)(w:World)(h6:s.size<6) :
    Calls prog 135 #[.string s] w (qfk (oq (bl s)) w):=by
 rw[qdm (bl s) (by rw[zq];exact h6)];go_enter func135,ntmps135;go_wp2;go_ret2;exact⟨rfl,Below.refl _ _⟩
theorem qbt(s:ByteArray)(w:World)(hs:s.size≤140737488355328)(h6:6≤s.size) :
    Calls prog 135 #[.string s] w (qfk (oq (bl s)) w):=by
 have hi:=qeY (bl s) (by rw[zq];exact h6);have h0:=(s[0]'(by omega)).toNat_lt;have h1:=(s[1]'(by omega)).toNat_lt;have qkE:=qkD _ _ h0 h1;obtain⟨n,hn⟩:∃n:Nat,n=256*(s[0]'(by omega)).toNat+(s[1]'(by omega)).toNat:=⟨_,rfl⟩;have e0:(bl s)[0]'(by rw[zq];omega)=s[0]'(by omega):=rfl;have e1:(bl s)[1]'(by rw[zq];omega)=s[1]'(by omega):=rfl;rw[e0,e1,← hn,zq]at hi;rw[← hn]at qkE;have w0:wrap64 ((s[0]'(by omega)).toNat:Int)=((s[0]'(by omega)).toNat:Int):=by unfold wrap64;omega
 have w1:wrap64 ((s[1]'(by omega)).toNat:Int)=((s[1]'(by omega)).toNat:Int):=by unfold wrap64;omega
 have w2:wrap64 (((s[0]'(by omega)).toNat:Int)*256)=((s[0]'(by omega)).toNat:Int)*256:=by unfold wrap64;omega
 have hw:bits .or .i64 (wrap64 (wrap64 ((s[0]'(by omega)).toNat:Int)*256)) (wrap64 ((s[1]'(by omega)).toNat:Int))=(n:Int):=by rw[w0,w1,w2];exact qkE
 have Hw:=QH hw;clear qkE w0 w1 w2 hw;have hnl:n<65536:=by omega
 have j0:0<s.size:=by omega
 have j1:1<s.size:=by omega
 have i0:(0:Int)<(s.size:Int):=by omega
 have i1:(1:Int)<(s.size:Int):=by omega
 have Hi:=QH hi;clear hi hn e0 e1 h0 h1;go_enter func135,ntmps135;go_wp2;go_quiet (fail);rw[Hw.out];have hz:(s.extract 6 s.size).size=s.size-6:=by simp
 have hx:bl (s.extract 6 s.size)=(bl s).drop 6:=qe6 s 6;have Hx:=QH hx;clear hx;generalize s.extract 6 s.size=t at *;by_cases hlt:s.size-6<n
 ·have hc:(t.size:Int)<(n:Int):=by omega
  go_wp2;go_ret2;exact⟨by rw[Hi.out,if_pos hlt];rfl,below_drewN (Below.refl _ _) _⟩
 ·have hc:¬ (t.size:Int)<(n:Int):=by omega
  go_wp2;go_ret2;refine⟨?_,below_drewN (Below.refl _ _) _⟩;rw[Hi.out,if_neg hlt];have:t.extract 0 n=str (((bl s).drop 6).take n):=by rw[← Hx.out,← qmX,eB]
  rw[this];rfl
theorem mR (s:ByteArray)(w:World)(hs:s.size≤140737488355328) :
    Calls prog 135 #[.string s] w (qfk (oq (bl s)) w):=by
 by_cases h:s.size<6
 ·exact sQ s w h
 ·exact qbt s w hs (by omega)
theorem qdA(w:World)(x:ByteArray) :
    (Builtin.copy_ #[118,9] 3 #[.slice (some ⟨w.heap.size,0,none⟩) 32 32,.string x]).run prog (w.alloc (.cells #[Value.int IntKind.u8 0,Value.int IntKind.u8 0,Value.int IntKind.u8 0,Value.int IntKind.u8 0,Value.int IntKind.u8 0,Value.int IntKind.u8 0,Value.int IntKind.u8 0,Value.int IntKind.u8 0,Value.int IntKind.u8 0,Value.int IntKind.u8 0,Value.int IntKind.u8 0,Value.int IntKind.u8 0,Value.int IntKind.u8 0,Value.int IntKind.u8 0,Value.int IntKind.u8 0,Value.int IntKind.u8 0,Value.int IntKind.u8 0,Value.int IntKind.u8 0,Value.int IntKind.u8 0,Value.int IntKind.u8 0,Value.int IntKind.u8 0,Value.int IntKind.u8 0,Value.int IntKind.u8 0,Value.int IntKind.u8 0,Value.int IntKind.u8 0,Value.int IntKind.u8 0,Value.int IntKind.u8 0,Value.int IntKind.u8 0,Value.int IntKind.u8 0,Value.int IntKind.u8 0,Value.int IntKind.u8 0,Value.int IntKind.u8 0] 82)) =
     .ok (.int .i64 ((min x.size 32:Nat):Int)) (w.alloc (.cells (Lib.byteCells (pad ((bl x).take 32))).toArray 82)):=by
 obtain⟨i0,hi,hz0,hz1,hz2⟩:=info_parts Tryz.qan;have hlen:(Lib.byteCells ((bl x).take 32)).length=min x.size 32:=by rw[Lib.byteCells_length,List.length_take,zq,Nat.min_comm]
 have hst:=run_storeCells_at prog w.heap.size 0 82 (Lib.byteCells ((bl x).take 32)) 0 #[Value.int IntKind.u8 0,Value.int IntKind.u8 0,Value.int IntKind.u8 0,Value.int IntKind.u8 0,Value.int IntKind.u8 0,Value.int IntKind.u8 0,Value.int IntKind.u8 0,Value.int IntKind.u8 0,Value.int IntKind.u8 0,Value.int IntKind.u8 0,Value.int IntKind.u8 0,Value.int IntKind.u8 0,Value.int IntKind.u8 0,Value.int IntKind.u8 0,Value.int IntKind.u8 0,Value.int IntKind.u8 0,Value.int IntKind.u8 0,Value.int IntKind.u8 0,Value.int IntKind.u8 0,Value.int IntKind.u8 0,Value.int IntKind.u8 0,Value.int IntKind.u8 0,Value.int IntKind.u8 0,Value.int IntKind.u8 0,Value.int IntKind.u8 0,Value.int IntKind.u8 0,Value.int IntKind.u8 0,Value.int IntKind.u8 0,Value.int IntKind.u8 0,Value.int IntKind.u8 0,Value.int IntKind.u8 0,Value.int IntKind.u8 0] (w.alloc (.cells #[Value.int IntKind.u8 0,Value.int IntKind.u8 0,Value.int IntKind.u8 0,Value.int IntKind.u8 0,Value.int IntKind.u8 0,Value.int IntKind.u8 0,Value.int IntKind.u8 0,Value.int IntKind.u8 0,Value.int IntKind.u8 0,Value.int IntKind.u8 0,Value.int IntKind.u8 0,Value.int IntKind.u8 0,Value.int IntKind.u8 0,Value.int IntKind.u8 0,Value.int IntKind.u8 0,Value.int IntKind.u8 0,Value.int IntKind.u8 0,Value.int IntKind.u8 0,Value.int IntKind.u8 0,Value.int IntKind.u8 0,Value.int IntKind.u8 0,Value.int IntKind.u8 0,Value.int IntKind.u8 0,Value.int IntKind.u8 0,Value.int IntKind.u8 0,Value.int IntKind.u8 0,Value.int IntKind.u8 0,Value.int IntKind.u8 0,Value.int IntKind.u8 0,Value.int IntKind.u8 0,Value.int IntKind.u8 0,Value.int IntKind.u8 0] 82)) (heap_alloc_new w _) (by rw[hlen];simp;omega) (Lib.byteCells_one _);rw[World.setRow_alloc_new,hlen]at hst;have hrow:(List.take (0+0) (#[Value.int IntKind.u8 0,Value.int IntKind.u8 0,Value.int IntKind.u8 0,Value.int IntKind.u8 0,Value.int IntKind.u8 0,Value.int IntKind.u8 0,Value.int IntKind.u8 0,Value.int IntKind.u8 0,Value.int IntKind.u8 0,Value.int IntKind.u8 0,Value.int IntKind.u8 0,Value.int IntKind.u8 0,Value.int IntKind.u8 0,Value.int IntKind.u8 0,Value.int IntKind.u8 0,Value.int IntKind.u8 0,Value.int IntKind.u8 0,Value.int IntKind.u8 0,Value.int IntKind.u8 0,Value.int IntKind.u8 0,Value.int IntKind.u8 0,Value.int IntKind.u8 0,Value.int IntKind.u8 0,Value.int IntKind.u8 0,Value.int IntKind.u8 0,Value.int IntKind.u8 0,Value.int IntKind.u8 0,Value.int IntKind.u8 0,Value.int IntKind.u8 0,Value.int IntKind.u8 0,Value.int IntKind.u8 0,Value.int IntKind.u8 0]:Array Value).toList++Lib.byteCells ((bl x).take 32)++List.drop (0+0+min x.size 32) (#[Value.int IntKind.u8 0,Value.int IntKind.u8 0,Value.int IntKind.u8 0,Value.int IntKind.u8 0,Value.int IntKind.u8 0,Value.int IntKind.u8 0,Value.int IntKind.u8 0,Value.int IntKind.u8 0,Value.int IntKind.u8 0,Value.int IntKind.u8 0,Value.int IntKind.u8 0,Value.int IntKind.u8 0,Value.int IntKind.u8 0,Value.int IntKind.u8 0,Value.int IntKind.u8 0,Value.int IntKind.u8 0,Value.int IntKind.u8 0,Value.int IntKind.u8 0,Value.int IntKind.u8 0,Value.int IntKind.u8 0,Value.int IntKind.u8 0,Value.int IntKind.u8 0,Value.int IntKind.u8 0,Value.int IntKind.u8 0,Value.int IntKind.u8 0,Value.int IntKind.u8 0,Value.int IntKind.u8 0,Value.int IntKind.u8 0,Value.int IntKind.u8 0,Value.int IntKind.u8 0,Value.int IntKind.u8 0,Value.int IntKind.u8 0]:Array Value).toList)=Lib.byteCells (pad ((bl x).take 32)):=by
  have hz:(#[Value.int IntKind.u8 0,Value.int IntKind.u8 0,Value.int IntKind.u8 0,Value.int IntKind.u8 0,Value.int IntKind.u8 0,Value.int IntKind.u8 0,Value.int IntKind.u8 0,Value.int IntKind.u8 0,Value.int IntKind.u8 0,Value.int IntKind.u8 0,Value.int IntKind.u8 0,Value.int IntKind.u8 0,Value.int IntKind.u8 0,Value.int IntKind.u8 0,Value.int IntKind.u8 0,Value.int IntKind.u8 0,Value.int IntKind.u8 0,Value.int IntKind.u8 0,Value.int IntKind.u8 0,Value.int IntKind.u8 0,Value.int IntKind.u8 0,Value.int IntKind.u8 0,Value.int IntKind.u8 0,Value.int IntKind.u8 0,Value.int IntKind.u8 0,Value.int IntKind.u8 0,Value.int IntKind.u8 0,Value.int IntKind.u8 0,Value.int IntKind.u8 0,Value.int IntKind.u8 0,Value.int IntKind.u8 0,Value.int IntKind.u8 0]:Array Value).toList=List.replicate 32 (Value.int IntKind.u8 0):=rfl;rw[hz,List.drop_replicate];simp[pad,Lib.byteCells,zq,Nat.min_comm]
 rw[hrow]at hst;have iG:List.take (x.size.min 32) (List.map (fun b:UInt8=>Value.int IntKind.u8 (b.toNat:Int)) x.data.toList)=Lib.byteCells ((bl x).take 32):=by
  unfold Lib.byteCells bl;rw[← List.map_take]
  congr 1
  show List.take (min x.size 32) x.data.toList=_;rw[show x.size=x.data.toList.length from(zq x).symm,Nat.min_comm,← List.take_take,List.take_length]
 simp[Builtin.copy_,run_underlying underlying118,Builtin.lenOf,Builtin.firstCells,sizeOf,typeInfo,hi];rw[iG,hst];simp[Result.andThen];rfl
def qog (f:List UInt8)(w:World)(v left:Value)(wr:World):Prop :=
 ∃k:Nat,left=.string (str (f.drop (32*k)))∧32*k<f.length+32∧zH wr w.heap.size v (uZ k f)∧Below w.heap.size w wr
def qtW (ps:List (List UInt8))(w:World)(e:Ending)(w':World):Prop :=
 ∃v,e=.returned v∧zH w' w.heap.size v ps∧Below w.heap.size w w'
theorem qhr(w:World)(P:List UInt8)(h:P.length=32) :
    (convert 118 9 (.slice (some ⟨w.heap.size,0,none⟩) 32 32)).run prog (w.alloc (.cells (Lib.byteCells P).toArray 82))=.ok (.string (str P)) (w.alloc (.cells (Lib.byteCells P).toArray 82)):=by
 have:=run_convert_bytes_back (P:=prog) (w.alloc (.cells (Lib.byteCells P).toArray 82)) 118 9 5 ⟨w.heap.size,0,none⟩ 32 P underlying118 underlying5 underlying9 (by
  intro j hj;rw[addr_add,Nat.zero_add];simp[World.cell?,World.alloc,-World.alloc_eq,Lib.byteCells,hj])
 rw[h]at this;exact this
theorem qoh{wr:World}{B:Nat}{v:Value}{ps:List (List UInt8)}(h:zH wr B v ps)(A:Array Value)(p:List UInt8) :
    ((wr.alloc (.cells A 82)).alloc (.cells #[.string (str p)] 9)).ownsRow B 9 1 v ps.length (yi ps) :=
 World.ownsRow.alloc (World.ownsRow.alloc h (.cells A 82)) (.cells #[.string (str p)] 9)
theorem qhs(w:World)(o:Obj)(p:List UInt8) :
    ∀j u,([Value.string (str p)]:List Value)[j]?=some u→((w.alloc o).alloc (.cells #[.string (str p)] 9)).cell? ((⟨w.heap.size+1,0,none⟩:Addr).add j)=some u:=by
 intro j u hj
 match j,hj with
 | 0,hj =>
  simp at hj;subst hj;obtain⟨b,q,he,_,hc⟩:=mO [p] (w.alloc o) 0 (by simp);rw[addr_add];simp only[Option.some.injEq,Addr.mk.injEq,and_true]at he;obtain⟨h1,h2⟩:=he;have hsz:(w.alloc o).heap.size=w.heap.size+1:=by simp
  rw[← h1,← h2,hsz]at hc;exact hc
theorem pS {w:World}{B:Nat}{v:Value}{ps:List (List UInt8)}{p:List UInt8}{k:Nat}(hl:ps.length=k)(h:w.ownsRow B 9 1 v (k+1) (yi ps++[.string (str p)])):zH w B v (ps++[p]):=by
 unfold zH;rw[cq,List.length_append,hl];exact h
theorem qoi(f:List UInt8)(w:World)(hs:f.length≤1000000) :
    Calls prog 172 #[.string (str f)] w (qtW (uZ ((f.length+31)/32) f) w):=by
 obtain⟨i0,hi,hz0,hz1,hz2⟩:=info_parts Tryz.qja;have hd0:str (f.drop (32*0))=str f:=by simp
 have Hd0:=QH hd0;clear hd0;go_enter func172,ntmps172;go_wp2;go_loopw [3,4] (fun v left wr=>qog f w v left wr) (fun _ left _=>match left with | .string x=>x.size|_=>0);case atStart=>exact⟨0,by rw[Hd0.out],by omega,World.ownsRow_nil _ _ _ _,Below.refl _ _⟩
 case round =>
  obtain⟨k,rfl,hk,hown,hB⟩:=hrel;by_cases hlt:32*k<f.length
  ·have hz:=qO (f.drop (32*k));rw[List.length_drop]at hz;have hq:(str (f.drop (32*k))).toList.isEmpty=false:=by
    rw[dx,zo,List.isEmpty_eq_false_iff];intro h;have:=congrArg List.length h;simp at this;omega
   have nT:=qdA wr (str (f.drop (32*k)));have hcv:=qhr wr (pad (kR f k)) (lV _ (wk _ _));have qkF:(bl (str (f.drop (32*k)))).take 32=kR f k:=by rw[zo];rfl
   rw[qkF]at nT;have qpT:(str (f.drop (32*k))).extract (min (str (f.drop (32*k))).size 32) (str (f.drop (32*k))).size=str (f.drop (32*(k+1))):=by
    rw[← eB (ByteArray.extract _ _ _),qe6,zo,List.drop_drop,hz]
    congr 1
    by_cases h:f.length-32*k≤32
    ·rw[Nat.min_eq_left h,List.drop_of_length_le (by omega),List.drop_of_length_le (by omega)]
    ·rw[Nat.min_eq_right (by omega)];rw[show 32*(k+1)=32*k+32 from by omega]
   have qpU:=qdk k f;have hlen:=sx k f;have hvl:=mN (uZ k f);have qpV:(str (f.drop (32*(k+1)))).size<(str (f.drop (32*k))).size:=by rw[hz,qO,List.length_drop];omega
   have hxs:0<(str (f.drop (32*k))).size:=by omega
   have Hz:=QH hz;clear hz;have qpW:=QH qpT;have qxQ:=QH qpU;have qxR:=QH qpV;clear qpT qpU qpV qkF;generalize str (f.drop (32*k))=x at *;generalize pad (kR f k)=p at *;generalize (Lib.byteCells p).toArray=A at *;have hown2:=qoh hown A p;rw[hlen]at hown2;have hB2:=zv (zv hB (.cells A 82)) (.cells #[.string (str p)] 9);have qpX:=QH hown2;have hnews:=qhs wr (.cells A 82) p;have h1c:∀u∈([Value.string (str p)]:List Value),u.oneCell'=true:=by
    intro u hu;simp at hu;subst hu;rfl
   have qxS:=QH hnews;have H1c:=QH h1c;have qxT:=hB2.size;clear hnews h1c hown2 hown hB;go_wp2_with (at_builtin;refine wpList_append_own _ rfl (.tmp 13) (.tmp 16) 43 rfl w.heap.size 9 i0 (.string ByteArray.empty) 1 16 underlying43 hi hz0 hz1 hz2 rfl (by decide) _ k _ rfl qpX.out ⟨wr.heap.size+1,0,none⟩ 1 1 [.string (str p)] rfl rfl qxS.out H1c.out ?_ ?_ qxT ?_)
   ·unfold maxLen;omega
   ·omega
   ·intro v' w1 hown1 hgrow _;have hn1:=pS hlen hown1;have hb1:=hB2.grown hgrow qxT (fun j hj=>(qpX.out.lt j hj).1);rw[← qxQ.out]at hn1;clear hown1 hgrow hB2 nT hcv;go_wp2;go_roundw;case rel=>exact⟨k+1,by rw[← qpW.out],by omega,hn1,hb1⟩
    case measure=>have:=qxR.out;rw[← qpW.out]at this;simpa using this
  ·have ee:(f.length+31)/32=k:=by omega
   have hq:(str (f.drop (32*k))).toList.isEmpty=true:=by
    rw[dx,zo,List.drop_of_length_le (by omega)];rfl
   have Hk:=QH ee;clear ee;generalize str (f.drop (32*k))=x at *;go_wp2;go_ret;exact⟨_,rfl,by rw[Hk.out];exact hown,hB⟩
def qtX (b:Bool)(w:World)(e:Ending)(w':World):Prop:=e=.returned (.bool b)∧Below w.heap.size w w'
def qtY (ps qs:List (List UInt8))(w:World)(i:Value)(wr:World):Prop :=
 ∃k:Nat,k≤ps.length∧i=.int .i64 (k:Int)∧ps.take k=qs.take k∧Below w.heap.size w wr
theorem sR (ps qs:List (List UInt8))(k:Nat)(h1:k<ps.length)(h2:k<qs.length)(h:ps.take k=qs.take k)(e:ps[k]=qs[k]):ps.take (k+1)=qs.take (k+1):=by
 rw[List.take_succ_eq_append_getElem h1,List.take_succ_eq_append_getElem h2,h,e]
theorem dD (a b:Option Addr)(c d:Nat)(ps qs:List (List UInt8))(w:World)(hp:yI w a ps)(hq:yI w b qs)(hl:ps.length≤4611686018427387904)(hm:qs.length≤4611686018427387904) :
    Calls prog 137 #[.slice a ps.length c,.slice b qs.length d] w (qtX (decide (ps=qs)) w):=by
 have HP:=QH hp;have HQ:=QH hq;clear hp hq;by_cases hlen:ps.length=qs.length
 ·go_enter func137,ntmps137;go_wp2;go_loopw [13] (fun i wr=>qtY ps qs w i wr) (fun i _=>ps.length-(intOf i).toNat);case atStart=>exact⟨0,Nat.zero_le _,rfl,rfl,Below.refl _ _⟩
  case round =>
   obtain⟨k,hk,rfl,ht,hB⟩:=hrel;have Ht:=QH ht;clear ht;by_cases hlt:k<ps.length
   ·have hlq:k<qs.length:=by omega
    obtain⟨b1,o1,rfl,hb1,hc1⟩:=HP.out k hlt;obtain⟨b2,o2,rfl,hb2,hc2⟩:=HQ.out k hlq;have qcD:wr.cell? ⟨b1,o1+k,none⟩=some (.string (str ps[k])):=by rw[hB.cell (p:=⟨b1,o1+k,none⟩) hb1];exact hc1
    have rN:wr.cell? ⟨b2,o2+k,none⟩=some (.string (str qs[k])):=by rw[hB.cell (p:=⟨b2,o2+k,none⟩) hb2];exact hc2
    have q2s:b1<wr.heap.size:=Nat.lt_of_lt_of_le hb1 hB.size;have q2t:b2<wr.heap.size:=Nat.lt_of_lt_of_le hb2 hB.size;have hi1:(k:Int)<(ps.length:Int):=by omega
    have oQ:(k:Int)<(qs.length:Int):=by omega
    have hbq:((str ps[k]).toList == (str qs[k]).toList)=decide (ps[k]=qs[k]):=by rw[rz,zo]
    have Hbq:=QH hbq;clear hc1 hc2 hbq;generalize str ps[k]=x at *;generalize str qs[k]=y at *;go_wp2;go_quiet (fail);have hbq:=Hbq.out;generalize (x.toList == y.toList)=q at *;have hB2:=below_drewN hB nq;by_cases he:ps[k]=qs[k]
    ·have hqt:q=true:=by rw[hbq];simpa using he
     have hsn:=QH (sR ps qs k hlt hlq Ht.out he);clear hbq he;subst hqt;go_wp2;go_roundw;case rel=>exact⟨k+1,by omega,by go_num,hsn.out,hB2⟩
     case measure=>simp[intOf];omega
    ·have hqt:q=false:=by rw[hbq];simpa using he
     have hne:decide (ps=qs)=false:=by
      simp only[decide_eq_false_iff_not];rintro rfl;exact he rfl
     have Hne:=QH hne;clear hbq he hne;subst hqt;go_wp2;go_ret;exact⟨by rw[Hne.out];rfl,hB2⟩
   ·have ee:k=ps.length:=by omega
    have heq:decide (ps=qs)=true:=by
     have:=Ht.out;rw[List.take_of_length_le (by omega),List.take_of_length_le (by omega)]at this;simpa using this
    have Heq:=QH heq;clear heq;go_wp2;go_ret;exact⟨by rw[Heq.out];rfl,hB⟩
 ·have hne:decide (ps=qs)=false:=by
     simp only[decide_eq_false_iff_not];rintro rfl;exact hlen rfl
  have hli:¬ (ps.length:Int)=(qs.length:Int):=by omega
  have Hne:=QH hne;clear hne;go_enter func137,ntmps137;go_wp2;go_ret;exact⟨by rw[Hne.out];rfl,Below.refl _ _⟩
def qkH (s:ByteArray)(w:World)(e:Ending)(w':World):Prop :=
 ∃v,e=.returned (.tuple #[v,.int .i64 0])∧zH w' w.heap.size v (qL (bl s))∧Below w.heap.size w w'
theorem qdB(a b:List UInt8)(s:ByteArray)(w:World):yI (w.alloc (.cells #[.string (str a),.string (str b),.string s] 9)) (some ⟨w.heap.size,0,none⟩) [a,b,bl s]:=by
 have:=mO [a,b,bl s] w;simp only[yi,List.map_cons,List.map_nil,eB]at this;exact this
theorem qht(s:ByteArray)(w:World)(hs:8192<s.size) :
    Calls prog 116 #[.string s] w fun e w'=>e=.returned (.tuple #[.slice none 0 0,.int .i64 3])∧Below w.heap.size w w':=by
 have hc:(8192:Int)<(s.size:Int):=by omega
 go_enter func116,ntmps116;go_wp2;go_ret2;exact⟨rfl,Below.refl _ _⟩
theorem qbu(t:List UInt8):[iH t.length,be4 (vP t),t].flatten=iI t:=by simp[iI,headB]
theorem cz (s:ByteArray)(w:World)(hs:s.size≤8192)(ht:xC w) :
    Calls prog 116 #[.string s] w (qkH s w):=by
 have HT:=QH ht;have hg:=ht.1;clear ht;have hn:=qgH (bl s);have wC:=qbu (bl s);rw[zq]at wC;have hrl:=gC (bl s);rw[zq]at hrl;have hns:(iI (bl s)).length+31=(bl s).length+37:=by rw[hrl,zq]
 have pT:uZ (((iI (bl s)).length+31)/32) (iI (bl s))=qL (bl s):=by rw[hns];rfl
 have Hfl:=QH wC;have Hrl:=QH hrl;have qxU:=QH pT;have Hn:=QH hn;clear wC hrl hns pT hn;go_enter func116,ntmps116;go_wp2_with (go_at_call 170;refine(qbs s.size _ (by omega)).mono ?_);rintro e W1 ⟨rfl,b1⟩;have h1:=QH (HT.out.below b1 hg);go_wp2_with (go_at_call 171;refine(qk2 s _ (by omega) h1.out).mono ?_);rintro e W2 ⟨rfl,b2⟩;have b12:=q9 b1 b2;clear b1 b2 h1;go_wp2_with (go_at_call 170;refine(sO (vP (bl s)) _ Hn.out).mono ?_);rintro e W3 ⟨rfl,b3⟩;have b13:=q9 b12 b3;have hst:=qdB (iH s.size) (be4 (vP (bl s))) s W3;have qjg:([iH s.size,be4 (vP (bl s)),bl s].flatten).length≤140737488355328:=by rw[Hfl.out,Hrl.out];omega
 have qxV:=zv b13 (.cells #[.string (str (iH s.size)),.string (str (be4 (vP (bl s)))),.string s] 9);have hput:=mQ _ 3 _ _ hst (by simp) qjg;rw[Hfl.out]at hput;have qbv:=QH hput;clear b12 b3 b13 hst qjg hput;go_wp2_with (go_at_call 136;refine qbv.out.mono ?_);rintro e W4 ⟨rfl,b4⟩;have b14:=q9 qxV b4;have hcut:=qoi (iI (bl s)) W4 (by rw[Hrl.out];omega);rw[qxU.out]at hcut;have q3l:=QH hcut;clear qxV b4 qbv hcut;go_wp2_with (go_at_call 172;refine q3l.out.mono ?_);rintro e W5 ⟨v,rfl,hown,b5⟩;have b15:=q9 b14 b5;have hown':zH W5 w.heap.size v (qL (bl s)):=sM hown b14.size;clear b14 b5 hown;go_wp2;go_ret2;exact⟨v,rfl,hown',b15⟩
end Go.Proofs.YtdagdllomphidaaGreatDoor
namespace Go.Proofs.YtdagdllomphidaaGreatDoor.dk
open _root_.Go.Proofs.Tryz Go Go.RowKit
section
variable {w:World} {p m:Nat} {v:Value} {d:DD} {own:Nat→Prop}
end
end Go.Proofs.YtdagdllomphidaaGreatDoor.dk
namespace Go.Proofs.YtdagdllomphidaaGreatDoor.dk
open _root_.Go.Proofs.Tryz Go Go.RowKit Go.Shelf
attribute [local go_sem] Oper.semAt_some
theorem kX {F:Fence}{n:Nat}{P:Program}{ops:Array Oper}{rest:List Oper}{o:Oper}{a:Act}{w w':World}{v:Value}{Q:Exit→Act→World→Prop}(hg:o.guard=none)(hnd:∀c,o.op ≠ .defer c)(hab:o.about P w a.eval=none)
    (h:(execOp a.eval o).run P w=.ok (.value v) w') (hn:wpListIn F n P ops Q rest (a.put o.dst v) w'):wpListIn F n P ops Q (o::rest) a w:=by
 refine wpListIn_plain hg fun K' hK'=>?_;unfold Oper.wpIn;refine⟨fun f hf=>(by rw[hab]at hf;cases hf),?_⟩;rw[Oper.semAt_plain F _ _ hnd,h];exact hK' _ _ hn
theorem mU {F:Fence}{n:Nat}{P:Program}{ops:Array Oper}{rest:List Oper}{o:Oper}{a:Act}{w w':World}{Q:Exit→Act→World→Prop}(hg:o.guard=none)(hnd:∀c,o.op ≠ .defer c)(hab:o.about P w a.eval=none)
    (h:(execOp a.eval o).run P w=.ok .skip w') (hn:wpListIn F n P ops Q rest (a.put o.dst undef) w'):wpListIn F n P ops Q (o::rest) a w:=by
 refine wpListIn_plain hg fun K' hK'=>?_;unfold Oper.wpIn;refine⟨fun f hf=>(by rw[hab]at hf;cases hf),?_⟩;rw[Oper.semAt_plain F _ _ hnd,h];exact hK' _ _ hn
theorem mV {P:Program}{o:Oper}{w:World}{ρ:Operand→Value}(t:TypeId)(x:Operand)(h:o.op=.load t x):o.about P w ρ=none:=by simp[Oper.about,h]
theorem qbw{P:Program}{o:Oper}{w:World}{ρ:Operand→Value}(t:TypeId)(x y:Operand)(h:o.op=.store t x y):o.about P w ρ=none:=by simp[Oper.about,h]
theorem qbx{P:Program}{o:Oper}{w:World}{ρ:Operand→Value}(t:TypeId)(h:o.op=.alloc t):o.about P w ρ=none:=by simp[Oper.about,h]
abbrev Wr (n:Nat):={ x:Nat × Bt × Bt × Bool // x.1<n∧x.2.1.length=32∧x.2.2.1.length=32 }
theorem qoj(l:List (Nat × Bt × Bt × Bool))(h:∀x∈l,(qf x).length=66)(k:Nat)(hk:k<l.length)(j:Nat)(hj:j<66):(yC l)[k*66+j]?=(qf l[k])[j]? :=by
 induction l generalizing k with
 | nil=>simp at hk
 | cons x l ih =>
  have h1:=h x (by simp);show(qf x++yC l)[k*66+j]?=_;cases k with
  | zero =>
   rw[List.getElem?_append_left (by omega)];simp
  | succ k =>
   rw[List.getElem?_append_right (by omega),h1,show(k+1)*66+j-66=k*66+j by omega];exact ih (fun y hy=>h y (by simp[hy])) k (by simpa using hk)
theorem qfl{w:World}{v:Value}{l:List (Nat × Bt × Bt × Bool)}{base:Nat}(hown:w.ownsRow base 125 66 v l.length (yC l))(h:∀x∈l,(qf x).length=66)(k:Nat)(hk:k<l.length) :
    ∃g c cur,v=.slice (some ⟨g,0,none⟩) l.length c∧l.length≤c∧c≤maxLen∧w.heap[g]?=some (.cells cur 125 (0,0))∧∀j u,(qf l[k])[j]?=some u→cur[k*66+j]?=some u:=by
 rcases hown.2 with⟨_,h0⟩|⟨g,cap,cur,rfl,_,hg,hc,hm,hs,iG⟩
 ·omega
 ·refine⟨g,cap,cur,rfl,hc,hm,hg,fun j u hu=>?_⟩;have hl:(qf l[k]).length=66:=h _ (List.getElem_mem hk);have hj:j<66:=by rw[← hl];exact(List.getElem?_eq_some_iff.1 hu).1
  have h1:k*66+j<l.length*66:=by
   have:(k+1)*66≤l.length*66:=Nat.mul_le_mul_right _ hk;omega
  rw[← qoj l h k hk j hj,← iG,List.getElem?_take_of_lt h1]at hu;simpa using hu
def qdD (Bs:Nat)(v:Value)(W W':World):Prop:=∀b,b=Bs∨v.ownBlock=some b→W'.heap[b]?=W.heap[b]?
def gX {n:Nat}(L:List (Wr n)):List (Nat × Wr n):=(L.zipIdx.map fun x=>(x.2,x.1)).reverse
theorem vW {n:Nat}(L:List (Wr n)):(gX L).length=L.length:=by simp[gX]
theorem pU {n:Nat}(L:List (Wr n))(r:Nat)(h:r<L.length):(gX L)[r]?=some (L.length-1-r,L[L.length-1-r]):=by
 unfold gX;rw[List.getElem?_reverse (by simpa using h)];simp
def qok {n:Nat}(x:Nat × Wr n):Array Value:=#[.int .i64 (x.1:Int),.agg (qf x.2.1).toArray]
theorem qkI(F:Fence)(nn:Nat)(hF:F.fn 111)(hro:F.round=none)(hn:1≤nn)(l Bs:Nat)(v:Value){n:Nat}(L:List (Wr n))(hL:L.length≤1000000)(J Jx:List (Nat × Wr n)→World→Prop)
    (hY:∀pre x W,J pre W→pre.length<L.length→YieldAt F (nn-1) prog l (qok x) W fun e W' =>
     (e=.returned (.bool true)∧J (pre++[x]) W'∧qdD Bs v W W')∨(e=.returned (.bool false)∧Jx (pre++[x]) W'))
    (W:World) (hBs:qg W Bs 105 #[v]) (hown:W.ownsRow 0 125 66 v L.length (yC (L.map (·.1)))) (h0:J [] W) :
    CallsIn F nn prog 111 #[.func (.yield l) #[] #[],.pointer (some ⟨Bs,0,none⟩)] W fun e W'=>(∃v,e=.returned v) ∧
     ((∃ys,ys=gX L∧J ys W')∨(∃pre,True∧Jx pre W')):=by
 have h66:∀x∈L.map (fun y=>y.1),(qf x).length=66:=by
  intro x hx;obtain⟨y,_,rfl⟩:=List.mem_map.1 hx;exact qX _ y.2.2.1 y.2.2.2
 obtain⟨A,c,hA⟩:=xV hown;have HB:=QH hBs;have HO:=QH hown;have H66:=QH h66;have HY:=QH hY;have HA:=QH hA;have HVB:Hid (v.ownBlock=v.ownBlock):=rfl;clear hBs hown h66 hY;subst hA;have kB:W.cell? ⟨Bs,0,none⟩=some (.slice A L.length c):=HB.out.cell 0;refine callsIn_of_wp func111 rfl hF ?_ hro;simp only[ntmps111,List.size_toArray,List.length_cons,List.length_nil,Nat.reduceAdd,Nat.reduceSub,Array.replicate_succ,Array.replicate_zero,List.push_toArray,List.append_toArray,List.nil_append,List.cons_append]
 gi_wp2
 gi_loopw [3] (fun i wr=>∃k:Nat,k≤L.length∧i=.int .i64 ((k:Int)-1)∧J ((gX L).take (L.length-k)) wr∧qdD Bs (.slice A L.length c) W wr) (fun i _=>(intOf i+1).toNat)
 case atStart=>exact⟨L.length,Nat.le_refl _,rfl,by simpa using h0,fun _ _=>rfl⟩
 case round =>
  obtain⟨k,hk,rfl,hJ,hKp⟩:=hrel;have HKp:=QH hKp;have HJ:=QH hJ;have kb':wr.cell? ⟨Bs,0,none⟩=some (.slice A L.length c):=(World.cell?_of_block (a:=⟨Bs,0,none⟩) (hKp Bs (.inl rfl))).trans kB;clear hKp hJ;cases k with
  | zero =>
   gi_wp2
   go_end0
   have:=HJ.out;rw[Nat.sub_zero,List.take_of_length_le (by rw[vW];exact Nat.le_refl _)]at this;exact⟨⟨_,rfl⟩,.inl ⟨_,rfl,this⟩⟩
  | succ j =>
   have ej:((j+1:Nat):Int)-1=(j:Int):=by omega
   rw[ej];have hj:j<L.length:=by omega
   have hown':wr.ownsRow 0 125 66 (.slice A L.length c) (L.map (fun y=>y.1)).length (yC (L.map (fun y=>y.1))):=by
    rw[List.length_map];exact ze HO.out (fun b hb=>HKp.out b (.inr hb))
   obtain⟨g,c',cur,hv,hlc,hcm,hg,xt⟩:=qfl hown' H66.out j (by rw[List.length_map];exact hj);simp only[Value.slice.injEq,List.length_map,true_and]at hv;obtain⟨rfl,rfl⟩:=hv;have iG:(gX L).take (L.length-j)=(gX L).take (L.length-(j+1))++[(j,L[j])]:=by
    have hr:L.length-(j+1)<L.length:=by omega
    have h1:=pU L (L.length-(j+1)) hr;have e1:L.length-j=(L.length-(j+1))+1:=by omega
    have e2:L.length-1-(L.length-(j+1))=j:=by omega
    rw[e1,List.take_add_one,h1];simp only[e2,Option.toList_some]
   have iK:(qf ((L.map (fun y=>y.1))[j]'(by rw[List.length_map];exact hj))).length=66:=H66.out _ (List.getElem_mem _);rw[List.getElem_map]at iK xt;have eH:=QH iG;obtain⟨fn,tmps,assign,body,hy,hR⟩:=HY.out _ (j,L[j]) wr HJ.out (by rw[List.length_take,vW];omega);generalize L[j]=x at *;dsimp only[qok]at hy;have HG:=QH hg;have q3n:=QH xt;have HX:=QH iK;have HR:=QH hR;have HLC:=QH hlc;have HCM:=QH hcm;clear hg xt iK hR hown' iG hlc hcm ej
   gi_wp2_with (refine kX rfl (fun c h=>by cases h) (mV _ _ rfl) (zR 125 (.tmp 15) rfl g (j*66) rfl _ cur (qf x.1) _ _ HG.out underlying125 rfl (by rw[uA,HX.out]) q3n.out) ?_)
   refine HR.out.mono ?_;rintro e W3 (⟨rfl,hJ3,hk3⟩|⟨rfl,hJx3⟩)
   ·gi_wp2
    go_roundw;case rel =>
     refine⟨j,by omega,rfl,by rw[eH.out];exact hJ3,fun b hb=>(hk3 b hb).trans (HKp.out b hb)⟩
    case measure=>simp[intOf]
   ·gi_wp2
    refine bodyPost_ret (results_none rfl _ _ _) rfl ?_;exact⟨⟨_,rfl⟩,.inr ⟨_,trivial,hJx3⟩⟩
theorem qby(F:Fence)(n:Nat)(hF:F.fn 61)(hro:F.round=none)(a:Option Addr)(len cap:Nat)(w:World) :
    CallsIn F n prog 61 #[.slice a len cap] w fun e w'=>e=.returned (.func (.func 111) #[] #[.pointer (some ⟨w.heap.size,0,none⟩)])∧w'=w.alloc (.cells #[.slice a len cap] 105):=by
 refine callsIn_of_wp func61 rfl hF ?_ hro;simp only[ntmps61,List.size_toArray,List.length_cons,List.length_nil,Nat.reduceAdd,Nat.reduceSub,Array.replicate_succ,Array.replicate_zero,List.push_toArray,List.append_toArray,List.nil_append,List.cons_append]
 gi_wp2
 go_ret;exact⟨rfl,rfl⟩
theorem qdE(F:Fence)(nn:Nat)(hF:F.fn 111)(hro:F.round=none)(hn:1≤nn)(Bs:Nat)(v:Value){n:Nat}(L:List (Wr n))(hL:L.length≤1000000)(w:World)
    (hBs:qg w Bs 105 #[v]) (hown:w.ownsRow 0 125 66 v L.length (yC (L.map (·.1)))) :
    SeqStopsK F nn prog 111 #[.pointer (some ⟨Bs,0,none⟩)] qok (qdD Bs v) (fun ys=>ys=gX L) (fun _=>True) L.length w:=fun l J Jx W hW _ _ hY h0 =>
 qkI F nn hF hro hn l Bs v L hL J Jx hY W (hBs.of_block (hW.block _ hBs.lt)) (ze hown (fun b hb=>hW.block b (jk hown b hb))) h0
end Go.Proofs.YtdagdllomphidaaGreatDoor.dk
namespace Go.Proofs.YtdagdllomphidaaGreatDoor.dk
open _root_.Go.Proofs.Tryz Go Go.RowKit
section
variable {w:World} {p m:Nat} {v:Value} {d:DD} {own:Nat→Prop}
theorem zj.low{most:Nat}(h:zj most w own p d):∀j,own j→j<w.heap.size:=by
 obtain⟨_,m,v,h1⟩:=h;exact h1.2.2.2.2.2.2
theorem zj.below{most:Nat}{w':World}(h:zj most w own p d)(hb:Below w.heap.size w w'):zj most w' own p d :=
 h.keep hb.size (fun j hj=>hb.block j (h.low j hj))
theorem qdF{most:Nat}(h:zj most w own p d)(zK:d.on=true)(k:Int)(hh:d.has k=true)(s:ByteArray)(hs:s.size=32)(hf:d.fits [k]=true)(hop:d.oper.on=false) :
    Calls prog 131 #[.pointer (some ⟨p,0,none⟩),.int .i64 k,.string s] w (xd most own p d.oper (.int .i64 6) w):=by
 have hk0:0≤k∧k<(d.n:Int):=by simpa[DD.has]using hh
 have hn:=h.1.n1;have h2:zj most (w.alloc (.cells #[.int .i64 k] 3)) own p d:=h.below ((Below.refl _ _).alloc (Nat.le_refl _) _);have HF:=QH (bP h2 _ 1 [k] (lS w k (by omega) (by omega)) (by simp));rw[hf]at HF;have H:=QH h;have HO:=QH (fun(W:World) (hW:zj most W own p d)=>lL hW zK);rw[hop]at HO;obtain⟨h0,m,v,h1⟩:=h;have hhas:=jE h1 k;rw[hh]at hhas;have HH:=QH hhas;obtain⟨c0,c1,c2,c3,c4,c5⟩:=ju h1.1;rw[zK]at c4;have hsz:((s.size:Int) == 32)=true:=by rw[beq_iff_eq];omega
 clear h0 h1 c0 c1 c2 c3 c5 zK hhas hh hs hf h2 hk0 hn hop;go_enter func131,ntmps131;go_wp2_with (first|(go_at_call 134;refine HH.out.mono ?_;rintro e w' ⟨rfl,rfl⟩)|(go_at_call 167;refine HF.out.mono ?_;rintro e w2 ⟨rfl,hb2⟩;have qG:=QH (((Below.refl _ w).alloc (Nat.le_refl _) (.cells #[.int .i64 k] 3)).trans (hb2.mono (by simp)));clear hb2;have HW2:=QH (HO.out w2 (H.out.below qG.out)))|(go_at_call 179;refine HW2.out.mono ?_;rintro e w3 ⟨rfl,cB,hd3,hb3,hg3⟩;have HD3:=QH hd3;have zf:=QH hb3;have HG3:=QH hg3;clear hd3 hb3 hg3));go_ret;exact⟨rfl,cB,HD3.out,(qB.of_below qG.out).trans zf.out (fun _ h=>.inl h),fun j hj=>by
  rcases HG3.out j hj with h|h
  ·exact .inl h
  ·exact .inr (Nat.le_trans qG.out.size h)⟩
theorem qdG{most:Nat}(h:zj most w own p d)(hm:d.more.length<most)(yF:most≤100000)(zK:d.on=true)(k:Int)(hh:d.has k=true)(s:ByteArray)(hs:s.size=32)(hf:d.fits [k]=true)(hop:d.oper.on=true) :
    Calls prog 131 #[.pointer (some ⟨p,0,none⟩),.int .i64 k,.string s] w (xd most own p { d.oper with more:=d.more++[(k.toNat,bl s)] } (.int .i64 0) w):=by
 have hk0:0≤k∧k<(d.n:Int):=by simpa[DD.has]using hh
 have hn:=h.1.n1;have h2:zj most (w.alloc (.cells #[.int .i64 k] 3)) own p d:=h.below ((Below.refl _ _).alloc (Nat.le_refl _) _);have HF:=QH (bP h2 _ 1 [k] (lS w k (by omega) (by omega)) (by simp));rw[hf]at HF;have H:=QH h;have HO:=QH (fun(W:World) (hW:zj most W own p d)=>lL hW zK);rw[hop]at HO;obtain⟨h0,m,v,h1⟩:=h;have hhas:=jE h1 k;rw[hh]at hhas;have HH:=QH hhas;obtain⟨c0,c1,c2,c3,c4,c5⟩:=ju h1.1;rw[zK]at c4;have hsz:((s.size:Int) == 32)=true:=by rw[beq_iff_eq];omega
 have HS:=QH hs;have HK:=QH hk0;have HN:=QH hn;have HMO:=QH hm;have HMM:=QH yF;have HOP:=QH hop;obtain⟨k,rfl⟩:∃j:Nat,k=(j:Int):=⟨k.toNat,by omega⟩;clear h0 h1 c0 c1 c2 c3 c5 zK hhas hh hs hf h2 hk0 hn hop hm yF;go_enter func131,ntmps131;go_wp2_with (first|(go_at_call 134;refine HH.out.mono ?_;rintro e w' ⟨rfl,rfl⟩)|(go_at_call 167;refine HF.out.mono ?_;rintro e w2 ⟨rfl,hb2⟩;have qG:=QH (((Below.refl _ w).alloc (Nat.le_refl _) (.cells #[.int .i64 (k:Int)] 3)).trans (hb2.mono (by simp)));clear hb2;have HW2:=QH (HO.out w2 (H.out.below qG.out)))|(go_at_call 179;refine HW2.out.mono ?_));rintro e w3 ⟨rfl,cB,hd3,hb3,hg3⟩;have HD3:=QH hd3;have zf:=QH hb3;have HG3:=QH hg3;obtain⟨h30,m3,v3,h31⟩:=hd3;have H30:=QH h30;have H31:=QH h31;obtain⟨A,c,hA⟩:=xV h31.2.2.1;obtain⟨g0,g1,g2,g3,g4,g5⟩:=ju h31.1;have hp3:=h31.1.lt;have hm3:=h31.2.1.lt;have HLB:Hid (((look d.oper.now (k:Int)).getD zz).length=32):=by
  unfold Hid;cases hx:look d.oper.now (k:Int)with
  | none=>exact qI
  | some u=>exact h30.pA hx
 clear hb3 hg3 c4 h30 h31 HF HO HH HW2;go_wp2_with (first|(refine ql rfl (sg _ k rfl rfl) ?_)|(refine ql rfl (jl rfl) ?_)|(refine wpList_skip rfl (zr w3 125 _ _ (.tmp 7) (.tmp 38) rfl rfl rfl (by rw[uA,List.size_toArray,qX _ qI qI]) (by simp[qX,qI]) (lN _)) ?_)|(refine ql rfl (qaM w3 (.tmp 40) (.tmp 41) k s rfl rfl rfl HS.out) ?_)|(at_lookup;refine ql rfl (vO _ _ rfl rfl (H31.out.2.1.of_block (Below.heap_alloc w3 _ _ hm3)) (k:Int) rfl (by omega) (by have:=HK.out;have:=HN.out;omega)) ?_)|(refine wpList_skip rfl (bO w3 (.tmp 52) (.tmp 50) k (bl s) _ false rfl rfl rfl (by rw[zq,HS.out]) HLB.out) ?_)|(refine wpList_skip rfl (aD w3 (.tmp 53) (.tmp 51) k (bl s) _ _ rfl rfl rfl (by rw[zq,HS.out]) HLB.out) ?_));have HX:Hid (kP (w3.alloc (.cells (qf (k,bl s,(look d.oper.now (k:Int)).getD zz,(look d.oper.now (k:Int)).isSome)).toArray 125)) cB p m3 v3 d.oper) :=
  H31.out.keep (by simp) (fun j hj=>Below.heap_alloc _ _ _ (HD3.out.low j hj))
 have HXB:Hid (qg (w3.alloc (.cells (qf (k,bl s,(look d.oper.now (k:Int)).getD zz,(look d.oper.now (k:Int)).isSome)).toArray 125)) w3.heap.size 125 (qf (k,bl s,(look d.oper.now (k:Int)).getD zz,(look d.oper.now (k:Int)).isSome)).toArray):=qg.new _ _ _;have HXW:Hid (Below w3.heap.size w3 (w3.alloc (.cells (qf (k,bl s,(look d.oper.now (k:Int)).getD zz,(look d.oper.now (k:Int)).isSome)).toArray 125))):=(Below.refl _ _).alloc (Nat.le_refl _) _;have HXS:Hid ((w3.alloc (.cells (qf (k,bl s,(look d.oper.now (k:Int)).getD zz,(look d.oper.now (k:Int)).isSome)).toArray 125)).heap.size=w3.heap.size+1):=by unfold Hid;simp
 have HLX:Hid ((qf (k,bl s,(look d.oper.now (k:Int)).getD zz,(look d.oper.now (k:Int)).isSome)).length=66):=qX _ (by rw[zq,HS.out]) HLB.out;generalize hX:w3.alloc (.cells (qf (k,bl s,(look d.oper.now (k:Int)).getD zz,(look d.oper.now (k:Int)).isSome)).toArray 125)=X at *;clear hX g0 g1 g2 g3 g4 g5;subst hA;obtain⟨g0,g1,g2,g3,g4,g5⟩:=ju HX.out.1;have hf3:=HX.out.1.frozen 3;have hpX:=HX.out.1.lt;simp only[Act.put];refine wp_region_any (by kernel_rfl) ?_
 change wpAny _ _ _ _ _ _ _ (World.drew _)
 refine wpAny_take (i:=0) (v:=.pointer (some ⟨p,0,none⟩)) rfl (by kernel_rfl) (by kernel_rfl) (by kernel_rfl) (fun _ _ _ h=>h) (Or.inl ⟨by rfl,fun w=>by go_simp⟩) ?_;go_simp;refine wpAny_take (i:=1) (v:=.pointer (some ⟨p,0,none⟩)) rfl (by kernel_rfl) (by kernel_rfl) (by kernel_rfl) (fun _ _ _ h=>h) (Or.inl ⟨by rfl,fun w=>by go_simp⟩) ?_;go_simp;refine wpAny_take (i:=2) (v:=.pointer (some ⟨p,0,none⟩)) rfl (by kernel_rfl) (by kernel_rfl) (by kernel_rfl) (fun _ _ _ h=>h) (Or.inl ⟨by rfl,fun w=>by go_simp⟩) ?_;go_simp;refine wpAny_take (i:=3) (v:=.pointer (some ⟨p,3,none⟩)) rfl (by kernel_rfl) (by kernel_rfl) (by kernel_rfl) (fun _ _ _ h=>h) (Or.inl ⟨by rfl,fun w=>by go_simp⟩) ?_;go_simp;refine od (i:=4) (j:=5) (l:=6) (di:=58) (dj:=59) (dl:=60) (vi:=.slice A d.oper.more.length c) (vj:=.agg (qf (k,bl s,(look d.oper.now (k:Int)).getD zz,(look d.oper.now (k:Int)).isSome)).toArray) (vl:=.slice (some ⟨X.drew.heap.size,0,none⟩) 1 1) (w2:=X.drew.alloc (.cells (qf (k,bl s,(look d.oper.now (k:Int)).getD zz,(look d.oper.now (k:Int)).isSome)).toArray 125))
  (by kernel_rfl) (by kernel_rfl) (by kernel_rfl) (by kernel_rfl) (by kernel_rfl) (by decide) (by decide) rfl rfl rfl rfl rfl rfl rfl rfl rfl (by decide) (by decide) (gA _ rfl p 3 rfl _ _ _ g3) (gA _ rfl p 3 rfl _ _ _ g3) (gA _ rfl p 3 rfl _ _ _ ((World.cell?_of_block (a:=⟨p,3,none⟩) (Below.heap_alloc _ _ _ hpX)).trans g3))
  (gz _ rfl w3.heap.size rfl _ HXB.out (by rw[List.size_toArray,HLX.out])) (gz _ rfl w3.heap.size rfl _ HXB.out (by rw[List.size_toArray,HLX.out])) (lQ _ _ rfl rfl (by rw[List.size_toArray,HLX.out])) (lQ _ _ rfl rfl (by rw[List.size_toArray,HLX.out])) ?_
 have qkJ:=HX.out.2.2.1;have qyb:=HX.out.2.2.2.2.2.2;have qpZ:qg (X.drew.alloc (.cells (qf (k,bl s,(look d.oper.now (k:Int)).getD zz,(look d.oper.now (k:Int)).isSome)).toArray 125)) X.drew.heap.size 125 (qf (k,bl s,(look d.oper.now (k:Int)).getD zz,(look d.oper.now (k:Int)).isSome)).toArray:=qg.new _ _ _;have qkK:(X.drew.alloc (.cells (qf (k,bl s,(look d.oper.now (k:Int)).getD zz,(look d.oper.now (k:Int)).isSome)).toArray 125)).ownsRow 0 125 66 (.slice A d.oper.more.length c) d.oper.more.length (yC (yN d.oper.base d.oper.more)) :=
  ze (w:=X) qkJ (fun j hj=>Below.heap_alloc X.drew _ j (jk qkJ j hj))
 have hml:d.oper.more.length<100000:=by rw[(xF d).2.1];have:=HMO.out;have:=HMM.out;omega
 obtain⟨i0,hi,hz0,hz1,hz2⟩:=info_parts qdd;refine qV (i:=7) (by kernel_rfl) rfl rfl ?_;refine si (.tmp 58) (.tmp 60) 105 rfl 0 125 i0 _ 66 80 underlying105 hi hz0 hz1 hz2 (by simp[Value.cells,qX,qI]) (by decide) _ _ _ rfl qkK ⟨X.drew.heap.size,0,none⟩ 1 1 (qf (k,bl s,(look d.oper.now (k:Int)).getD zz,(look d.oper.now (k:Int)).isSome)) rfl (by rw[HLX.out]) ?_ (gy _) (by unfold maxLen;omega) (by omega) (Nat.zero_le _) ?_
 ·intro j u hu;rw[addr_add,Nat.zero_add,qpZ.cell j];simpa using hu
 intro v7 w7 qfn qud qkL;obtain⟨A7,c7,rfl⟩:=xV qfn;have hne:=HX.out.ne;have qyc:(X.drew.alloc (.cells (qf (k,bl s,(look d.oper.now (k:Int)).getD zz,(look d.oper.now (k:Int)).isSome)).toArray 125)).heap.size=X.heap.size+1:=by simp
 have sS:∀j,j<X.heap.size→(Value.slice A d.oper.more.length c).ownBlock≠some j→w7.heap[j]?=X.heap[j]? :=fun j hj hn =>
  (qud.block j (by rw[qyc];omega) (fun e=>hn e.symm)).trans (Below.heap_alloc X.drew _ j hj)
 have q3q:=HX.out.2.1.lt;have hP7:w7.heap[p]?=X.heap[p]? :=sS p hpX (fun e=>(hne.2 _ e).1 rfl);have hM7:w7.heap[m3]?=X.heap[m3]? :=sS m3 q3q (fun e=>(hne.2 _ e).2 rfl);have hvb:∀j,(Value.slice A d.oper.more.length c).ownBlock=some j→j<w3.heap.size:=fun j hj=>HD3.out.low j (HX.out.2.2.2.2.2.1 j hj);have hS7:w7.heap[w3.heap.size]?=X.heap[w3.heap.size]? :=sS _ (by rw[HXS.out];omega) (fun e=>by have:=hvb _ e;omega);have qqa:Hid (qB cB w3 w7):=by
  refine((qB.of_below (S:=cB) HXW.out).drew.alloc _).grown qud (fun j hj=>.inl (HX.out.2.2.2.2.2.1 j hj))
 have qkM:∀j,(Value.slice A7 (d.oper.more.length+1) c7).ownBlock=some j→cB j∨w3.heap.size≤j:=by
  intro j hj;rcases qkL with e|e
  ·exact .inl (HX.out.2.2.2.2.2.1 j (e.symm.trans hj))
  ·rw[hj]at e;injection e with e
   right
   have:=HXS.out;have e2:X.drew.alloc (.cells (qf (k,bl s,(look d.oper.now (k:Int)).getD zz,(look d.oper.now (k:Int)).isSome)).toArray 125)=X.drew.alloc (.cells (qf (k,bl s,(look d.oper.now (k:Int)).getD zz,(look d.oper.now (k:Int)).isSome)).toArray 125):=rfl;omega
 have qyd:∀j,(Value.slice A7 (d.oper.more.length+1) c7).ownBlock=some j→j<w7.heap.size:=jk qfn;have qqb:∀j,(Value.slice A7 (d.oper.more.length+1) c7).ownBlock=some j→j≠p∧j≠m3:=by
  intro j hj;rcases qkL with e|e
  ·exact hne.2 j (e.symm.trans hj)
  ·rw[hj]at e;injection e with e
   exact⟨by omega,by omega⟩
 have HP7:Hid (qg w7 p 107 #[.int .i64 (d.oper.n:Int),.int .i64 d.oper.room,.map (some m3),.slice A d.oper.more.length c,.bool d.oper.on,.int .i64 d.oper.qi]):=HX.out.1.of_block hP7;have HM7:Hid (zA w7 m3 d.oper.now):=HX.out.2.1.of_block hM7;have HS7:Hid (qg w7 w3.heap.size 125 (qf (k,bl s,(look d.oper.now (k:Int)).getD zz,(look d.oper.now (k:Int)).isSome)).toArray):=HXB.out.of_block hS7;have HO7:=QH qfn;have HBL:=QH qkM;have HLT:=QH qyd;have HPN:=QH qqb;have rS:=QH hne;have eM:Hid (w3.heap.size≤w7.heap.size):=qqa.out.size;have k3:=HP7.out.cell 3;have fr3:=HP7.out.frozen 3;have hp7:=HP7.out.lt;clear hS7 hM7 hP7 sS qud qkL qfn qkJ qkK qpZ qkM qyd qqb hne qyc qyb g0 g1 g2 g3 g4 g5 hf3 hi hz0 hz1 hz2 hvb hml;go_simp;refine qV (i:=8) (by kernel_rfl) rfl rfl ?_;go_simp;refine qV (i:=9) (by kernel_rfl) rfl rfl ?_;go_simp;refine qV (i:=10) (by kernel_rfl) rfl rfl ?_;go_simp;refine⟨by kernel_rfl,?_⟩;go_wp2_with fail;have HP8:Hid (qg (w7.setCell ⟨p,3,none⟩ (.slice A7 (d.oper.more.length+1) c7)) p 107 #[.int .i64 (d.oper.n:Int),.int .i64 d.oper.room,.map (some m3),.slice A7 (d.oper.more.length+1) c7,.bool d.oper.on,.int .i64 d.oper.qi]):=HP7.out.qo 3 _;have HM8:Hid (zA (w7.setCell ⟨p,3,none⟩ (.slice A7 (d.oper.more.length+1) c7)) m3 d.oper.now):=HM7.out.of_block (zV _ _ _ _ _ (fun e=>rS.out.1 e.symm));have HS8:Hid (qg (w7.setCell ⟨p,3,none⟩ (.slice A7 (d.oper.more.length+1) c7)) w3.heap.size 125 (qf (k,bl s,(look d.oper.now (k:Int)).getD zz,(look d.oper.now (k:Int)).isSome)).toArray):=HS7.out.of_block (zV _ _ _ _ _ (by omega));have HO8:Hid ((w7.setCell ⟨p,3,none⟩ (.slice A7 (d.oper.more.length+1) c7)).ownsRow 0 125 66 (.slice A7 (d.oper.more.length+1) c7) (d.oper.more.length+1) (yC (yN d.oper.base d.oper.more)++qf (k,bl s,(look d.oper.now (k:Int)).getD zz,(look d.oper.now (k:Int)).isSome))) :=
  ze HO7.out (fun j hj=>zV _ _ _ _ _ (HPN.out j hj).1)
 have qqc:Hid (qB cB w3 (w7.setCell ⟨p,3,none⟩ (.slice A7 (d.oper.more.length+1) c7))):=qqa.out.setCell _ _ (.inl H31.out.2.2.2.1);have qyf:Hid ((w7.setCell ⟨p,3,none⟩ (.slice A7 (d.oper.more.length+1) c7)).heap.size=w7.heap.size):=by unfold Hid;simp[size_set]
 generalize hw8:w7.setCell ⟨p,3,none⟩ (.slice A7 (d.oper.more.length+1) c7)=w8 at *;clear hw8 k3 fr3;have q2:=HP8.out.cell 2;have hp8:=HP8.out.lt;have qkN:=rowOf (k,bl s,(look d.oper.now (k:Int)).getD zz,(look d.oper.now (k:Int)).isSome) (by rw[zq,HS.out]) HLB.out;have q3s:=QH qkN;have hlb:(Lib.byteCells (bl s)).length=32:=by rw[Lib.byteCells_length,zq,HS.out]
 have HLb:=QH hlb;clear qkN hlb;refine yg 7 (by kernel_rfl) (by kernel_rfl) ?_;simp only[List.take_succ_cons,List.take_zero,List.drop_succ_cons,List.drop_zero]
 iterate 6 still_step
 refine wV rfl (zR _ _ rfl w3.heap.size 1 rfl _ _ (Lib.byteCells (bl s)) _ _ HS8.out underlying123 rfl (by rw[aC,HLb.out]) q3s.out.data) ?_;refine wpStill_nil ?_;have hnl:d.oper.now.length=d.n:=by rw[d.oper.yo,qjZ]
 have hkn:k<d.oper.now.length:=by rw[hnl];have:=HK.out;omega
 have qyg:d.oper.now.length≤1024:=by rw[hnl];exact HN.out
 have HNL:=QH hnl;have HKN:=QH hkn;have q3t:=QH qyg;clear hnl hkn qyg;refine jS (w:=w8.drew) rfl _ _ _ rfl rfl HM8.out k rfl (bl s) rfl HKN.out q3t.out ?_;intro w9 hm9 ht9;have HM9:=QH hm9;have tX:=QH (yq ht9);clear hm9 ht9;go_wp2_with fail;go_ret;have hb9:∀j,j<w8.heap.size→j≠m3→w9.heap[j]?=w8.heap[j]? :=fun j hj hn=>tX.out.block j hj hn;have q95:m3<w8.heap.size:=HM8.out.lt;refine⟨rfl,fun j=>cB j∨(Value.slice A7 (d.oper.more.length+1) c7).ownBlock=some j,⟨?_,m3,.slice A7 (d.oper.more.length+1) c7,?_⟩,?_,?_⟩
 ·refine { H30.out with lG:=?_,at1:=?_ }
  ·simp;have:=HMO.out;omega
  ·intro x hx;simp only[List.mem_append,List.mem_singleton]at hx;rcases hx with hx|rfl
   ·exact H30.out.at1 x (by rw[(xF d).2.1];exact hx)
   ·refine⟨?_,by show(bl s).length=32;rw[zq,HS.out]⟩;show k<d.oper.n;rw[qjZ];have:=HK.out;omega
 ·have hd:({ d.oper with more:=d.more++[((k:Int).toNat,bl s)] }:DD).now=put d.oper.now k (bl s):=by
     show qK d.oper.base (d.more++[((k:Int).toNat,bl s)])=_;rw[uT,← (xF d).2.1];rfl
  refine⟨?_,by rw[hd];exact HM9.out,?_,.inl HX.out.2.2.2.1,.inl HX.out.2.2.2.2.1,fun j hj=>.inr hj,?_⟩
  ·exact HP8.out.of_block (hb9 p hp8 rS.out.1)
  ·have e1:(d.more++[((k:Int).toNat,bl s)]).length=d.oper.more.length+1:=by rw[(xF d).2.1];simp
   have e2:yC (yN d.oper.base (d.more++[((k:Int).toNat,bl s)]))=yC (yN d.oper.base d.oper.more)++qf (k,bl s,(look d.oper.now (k:Int)).getD zz,(look d.oper.now (k:Int)).isSome):=by
    rw[Int.toNat_natCast,pB,qdf,(xF d).2.1,gB];rw[show qK d.oper.base d.more=d.now from by rw[(xF d).1];rfl]
   show w9.ownsRow 0 _ 66 _ (d.more++[((k:Int).toNat,bl s)]).length (yC (yN d.oper.base (d.more++[((k:Int).toNat,bl s)])));rw[e1,e2];exact ze HO8.out (fun j hj=>hb9 j (by rw[qyf.out];exact HLT.out j hj) (HPN.out j hj).2)
  ·intro j hj;have h9:=tX.out.size;have h8:=qqc.out.size;have e9:w8.drew.heap.size=w8.heap.size:=rfl;rcases hj with hj|hj
   ·have:=HD3.out.low j hj;omega
   ·have:=HLT.out j hj;have:=qyf.out;omega
 ·have t1:qB own w w2:=qB.of_below qG.out;have t2:qB own w w3:=t1.trans zf.out (fun _ h=>.inl h);refine(t2.trans qqc.out ?_).drew.trans tX.out ?_
  ·intro j hj;rcases HG3.out j hj with h|h
   ·exact .inl h
   ·exact .inr (Nat.le_trans qG.out.size h)
  ·intro j hj;subst hj;rcases HG3.out _ HX.out.2.2.2.2.1 with h|h
   ·exact .inl h
   ·exact .inr (Nat.le_trans qG.out.size h)
 ·intro j hj;have hj2:cB j∨w3.heap.size≤j:=by
   rcases hj with hj|hj
   ·exact .inl hj
   ·exact HBL.out j hj
  have s2:=qG.out.size;have s3:=zf.out.size;rcases hj2 with hj2|hj2
  ·rcases HG3.out j hj2 with h|h
   ·exact .inl h
   ·exact .inr (by omega)
  ·exact .inr (by omega)
end
end Go.Proofs.YtdagdllomphidaaGreatDoor.dk
namespace Go.Proofs.YtdagdllomphidaaGreatDoor.dk
open _root_.Go.Proofs.Tryz Go Go.RowKit
section
variable {w:World} {p m:Nat} {v:Value} {d:DD} {own:Nat→Prop}
theorem fy {most:Nat}(h:zj most w own p d)(hm:d.more.length<most)(yF:most≤100000)(k:Int)(s:ByteArray) :
    Calls prog 131 #[.pointer (some ⟨p,0,none⟩),.int .i64 k,.string s] w (xd most own p (d.write k (bl s)).2 (.int .i64 (d.write k (bl s)).1) w):=by
 unfold DD.write;by_cases h1:d.on=false
 ·rw[if_pos h1];exact eR h h1 k s
 ·rw[if_neg h1];have h1':d.on=true:=by simpa using h1
  by_cases h2:d.has k=false
  ·rw[if_pos (.inl h2)];exact qgE h h1' k h2 s
  ·have h2':d.has k=true:=by simpa using h2
   by_cases h3:s.size=32
   ·rw[if_neg (by rw[zq];rintro(h|h);exact h2 h;exact h h3)];have hf:=qka d k h2';by_cases h4:(look d.now k).isSome=false∧d.room≤(d.used:Int)
    ·rw[if_pos h4];refine qdi h h1' k h2' s h3 ?_;rw[hf,h4.1,Bool.false_or];simp only[decide_eq_false_iff_not];omega
    ·rw[if_neg h4];have hf':d.fits [k]=true:=by
      rw[hf];by_cases h5:(look d.now k).isSome=true
      ·rw[h5];rfl
      ·have h5':(look d.now k).isSome=false:=by simpa using h5
       rw[h5',Bool.false_or];simp only[decide_eq_true_eq];have:¬ d.room≤(d.used:Int):=fun e=>h4 ⟨h5',e⟩;omega
     by_cases h5:d.oper.on=false
     ·rw[if_pos h5];exact qdF h h1' k h2' s h3 hf' h5
     ·rw[if_neg h5];exact qdG h hm yF h1' k h2' s h3 hf' (by simpa using h5)
   ·rw[if_pos (.inr (by rw[zq];exact h3))];exact qgF h h1' k h2' s h3
theorem qhw{most:Nat}(h:zj most w own p d) :
    Calls prog 132 #[.pointer (some ⟨p,0,none⟩)] w (xd most own p d.flush.2 (.int .i64 d.flush.1) w):=by
 unfold DD.flush;by_cases zK:d.on=false
 ·rw[if_pos zK];have H:=QH h;obtain⟨h0,m,v,h1⟩:=h;obtain⟨c0,c1,c2,c3,c4,c5⟩:=ju h1.1;rw[zK]at c4;clear h0 h1 c0 c1 c2 c3 c5 zK;go_enter func132,ntmps132;go_wp2_with fail;go_ret;exact⟨rfl,own,H.out,qB.refl _ _,kQ.refl _ _⟩
 ·rw[if_neg zK];have que:d.on=true:=by simpa using zK
  have HO:=QH (lL h que);have H:=QH h;have hp:=h.2.choose_spec.choose_spec.1.lt;obtain⟨h0,m,v,h1⟩:=h;obtain⟨c0,c1,c2,c3,c4,c5⟩:=ju h1.1;rw[que]at c4;clear h0 h1 c0 c1 c2 c3 c5 zK que;by_cases hop:d.oper.on=false
  ·rw[if_pos hop];rw[hop]at HO;clear hop;go_enter func132,ntmps132;go_wp2_with (go_at_call 179;refine HO.out.mono ?_;rintro e w3 ⟨rfl,cB,hd3,hb3,hg3⟩;have HD3:=QH hd3;have zf:=QH hb3;have HG3:=QH hg3;clear hd3 hb3 hg3);go_ret;exact⟨rfl,cB,HD3.out,zf.out,HG3.out⟩
  ·rw[if_neg hop];rw[show d.oper.on=true by simpa using hop]at HO;clear hop;go_enter func132,ntmps132;go_wp2_with (go_at_call 179;refine HO.out.mono ?_);rintro e w3 ⟨rfl,cB,hd3,hb3,hg3⟩;have HD3:=QH hd3;have zf:=QH hb3;have HG3:=QH hg3;obtain⟨h30,m3,v3,h31⟩:=hd3;have H30:=QH h30;have H31:=QH h31;obtain⟨A,c,rfl⟩:=xV h31.2.2.1;obtain⟨g0,g1,g2,g3,g4,g5⟩:=ju h31.1;have f3:=h31.1.frozen 3;have hp3:=h31.1.lt;clear hb3 hg3 c4 h30 h31 HO;go_wp2_with fail;go_ret;have hne:=H31.out.ne;refine⟨rfl,cB,⟨?_,m3,.slice none 0 0,?_⟩,zf.out.trans (S':=cB) ((qB.refl _ _).setCell _ _ (.inl H31.out.2.2.2.1)) HG3.out,HG3.out⟩
   ·have hl:d.now.length=d.oper.n:=by rw[← gB];exact d.oper.yo
    refine { H30.out with n0:=?_,n1:=?_,lG:=Nat.zero_le _,at1:=fun _ h=>by simp at h,pz:=?_ }
    ·show 1≤d.now.length;rw[hl];exact H30.out.n0
    ·show d.now.length≤1024;rw[hl];exact H30.out.n1
    ·show ∀v,some v∈d.now→v.length=32;rw[← gB];exact H30.out.qxr
   ·obtain⟨b1,b2,b3,b4,b5,b6,b7⟩:=H31.out;refine⟨?_,?_,⟨rfl,.inl ⟨rfl,rfl⟩⟩,b4,b5,fun k hk=>by simp[Value.ownBlock]at hk,fun k hk=>by rw[size_set];exact b7 k hk⟩
    ·have hl:(DD.n { d.oper with base:=d.now,more:=[] })=d.oper.n:=by
        show d.now.length=d.oper.n;rw[← gB];exact d.oper.yo
     rw[hl];exact b1.qo 3 _
    ·have hn:(DD.now { d.oper with base:=d.now,more:=[] })=d.oper.now:=by
        show d.now=d.oper.now;rw[gB]
     rw[hn];exact b2.of_block (zV _ _ _ _ _ (fun e=>hne.1 e.symm))
end
end Go.Proofs.YtdagdllomphidaaGreatDoor.dk
