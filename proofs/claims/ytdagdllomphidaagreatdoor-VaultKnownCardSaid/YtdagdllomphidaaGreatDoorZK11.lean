/- VtWkC, VtWk, CLaid, VtLaid. -/
import Derived.Test.YtdagdllomphidaaGreatDoorZK10
import Derived.Test.YtdagdllomphidaaGreatDoorRows
import Derived.Deep.DeepHandedRow
import Derived.Lib.LaidTab
import Derived.Deep.DeepLaidRun
import Derived.Stop.LaidErr
import GoSem.PinnedTables
set_option linter.unusedVariables false
set_option linter.unusedSimpArgs false
set_option maxHeartbeats 30000000
set_option maxRecDepth 100000
namespace Go.Proofs.YtdagdllomphidaaGreatDoor.vt
open _root_.Go.Proofs.Tryz Go Go.RowKit ib jr mt im sp
theorem vb1:ch.rp (bl ⟨#[48,48]⟩)=[zz,zz]∧ch.rp (bl ⟨#[97,48]⟩)=[la,zz]∧ch.rp (bl ⟨#[48,97]⟩)=[zz,la]:=by decide +kernel
section
variable {IV:jw} (H:ki IV) {w w':World} {B v pd:Nat} {X:Nat→Prop} {Q Q':Tg→Mt→Prop}
include H
theorem tT (h:VW IV w B X v pd Q){l:List Bt}(hQ:∀t m,Q t m→(zX t m).live=l):Calls prog 16 #[.pointer (some ⟨v,0,none⟩)] w (ch.vk (l,0) w):=by
 obtain⟨t,d,m,o1,o2,h1,h2,h3,h4,h5,h6,h7⟩:=h;have:=H.live h1 h5 h4;rw[show qy t m.live=l from hQ t m h7]at this;exact this
theorem qf7(h:VW IV w B X v pd Q)(g:Gd)(hg:xn g){r:List Bt × Int}(hQ:∀t m,Q t m→(zX t m).read g=r):Calls prog 32 #[.pointer (some ⟨v,0,none⟩),ch.gv g] w (ch.vk r w):=by
 obtain⟨t,d,m,o1,o2,h1,h2,h3,h4,h5,h6,h7⟩:=h;have:=H.read g h1 h5 h4 hg;rw[hQ t m h7]at this;exact this
theorem l6 (h:VW IV w B X v pd Q){l:List Gd}(hQ:∀t m,Q t m→(zX t m).list=l):Calls prog 22 #[.pointer (some ⟨v,0,none⟩)] w (ch.sG l w):=by
 obtain⟨t,d,m,o1,o2,h1,h2,h3,h4,h5,h6,h7⟩:=h;have:=H.list h1.is;have e:m.qa.map (·.g)=l:=by
  rw[← hQ t m h7];unfold ch.CH.list zX;rw[List.map_map];rfl
 rw[e]at this;exact this
theorem qcb(h:VW IV w B X v pd Q){k:Tk}(hQ:∀t m,Q t m→m.tok=k):Calls prog 25 #[.pointer (some ⟨v,0,none⟩)] w (bp k w):=by
 obtain⟨t,d,m,o1,o2,h1,h2,h3,h4,h5,h6,h7⟩:=h;have:=H.token h1.is;rw[hQ t m h7]at this;exact this
theorem qiq(h:VW IV w B X v pd Q)(hQ:∀t m,Q t m→m.live.length=2):Calls prog 35 #[.pointer (some ⟨v,0,none⟩)] w fun e w'=>e=.returned (.int .i64 2)∧Below w.heap.size w w':=by
 obtain⟨t,d,m,o1,o2,h1,h2,h3,h4,h5,h6,h7⟩:=h;have:=H.blocks h1.is;rw[hQ t m h7]at this;exact this
omit H in
theorem VW.rq(h:VW IV w B X v pd Q){Y:Nat→Prop}(hY:∀j,Y j→X j):VW IV w B Y v pd Q:=by
 obtain⟨t,d,m,o1,o2,h1,h2,h3,h4⟩:=h;exact⟨t,d,m,o1,o2,h1,fun j hj=>⟨(h2 j hj).1,fun hy=>(h2 j hj).2 (hY j hy)⟩,⟨fun j hj=>h3.1 j (hY j hj),fun hy=>h3.2 (hY _ hy)⟩,h4⟩
theorem qcc(h:VW IV w B X v pd Q)(hB:B≤w.heap.size)(k:Int)(s:Bt)(hk:yf k)(hs:∀t d m r d' m' l',qM 2 250 t m→JJ 250 t d→d.qi=0→Q t m→xp 250 t d m (zZ 250 m k s) r d' m' l'→Left Q' 0 r d' m' l') :
    Calls prog 17 #[.pointer (some ⟨v,0,none⟩),.int .i64 k,.string (str s)] w fun e w'=>e=.returned (.int .i64 0)∧VW IV w' B X v pd Q'∧Ke B X w w' :=
 kA h hB (P:=fun _ m=>zZ 250 m k s) (fun o1 o2 t d m h1 _ hr hj hf _=>H.write k s h1 hj (by omega) hr hk) hs
theorem l7 (h:VW IV w B X v pd Q)(hB:B≤w.heap.size)(g:Gd)(hg:xn g)(hs:∀t d m r d' m' l',qM 2 250 t m→JJ 250 t d→d.qi=0→Q t m→xp 250 t d m (yv m g) r d' m' l'→Left Q' 0 r d' m' l') :
    Calls prog 30 #[.pointer (some ⟨v,0,none⟩),ch.gv g] w fun e w'=>e=.returned (.int .i64 0)∧VW IV w' B X v pd Q'∧Ke B X w w' :=
 kA h hB (P:=fun _ m=>yv m g) (fun o1 o2 t d m h1 _ hr hj hf _=>H.snap g h1 hj (by omega) hr hg) hs
theorem qpi(h:VW IV w B X v pd Q)(hB:B≤w.heap.size)(k:Int)(hk:yf k)(hs:∀t d m r d' m' l',qM 2 250 t m→JJ 250 t d→d.qi=0→Q t m→xp 250 t d m (kg m k) r d' m' l'→Left Q' 0 r d' m' l') :
    Calls prog 34 #[.pointer (some ⟨v,0,none⟩),.int .i64 k] w fun e w'=>e=.returned (.int .i64 0)∧VW IV w' B X v pd Q'∧Ke B X w w' :=
 kA h hB (P:=fun _ m=>kg m k) (fun o1 o2 t d m h1 _ hr hj hf _=>H.roll k h1 hj (by omega) hr hk) hs
theorem jo (h:VW IV w B X v pd Q)(hB:B≤w.heap.size)(f:Tf)(hF:TfB f)(A:Option Addr)(c:Nat)(x:List (Int × Bt))(hx:ch.dU w A x)(wN:x.length≤1000)(hA:∀b o,A=some ⟨b,o,none⟩→X b){r0:Int}(hs:∀t d m r d' m' l',qM 2 250 t m→JJ 250 t d→d.qi=0→Q t m→xp 250 t d m (qT 250 m f x) r d' m' l'→Left Q' r0 r d' m' l') :
    Calls prog 24 #[.pointer (some ⟨v,0,none⟩),tkV f none 0 0,.slice A x.length c] w fun e w'=>e=.returned (.int .i64 r0)∧VW IV w' B X v pd Q'∧Ke B X w w' :=
 kA h hB (P:=fun _ m=>qT 250 m f x) (fun o1 o2 t d m h1 hX hr hj hf _=>H.stage f A c x h1 hj (by omega) hr hF hx wN (fun b o e=>⟨fun ho=>hX b (.inl ho) (hA b o e),fun ho=>hX b (.inr ho) (hA b o e)⟩)) hs
end
end Go.Proofs.YtdagdllomphidaaGreatDoor.vt
namespace Go.Proofs.YtdagdllomphidaaGreatDoor.vt
open _root_.Go.Proofs.Tryz Go Go.RowKit Go.Sort ib jr mt im sp
theorem qmn{w w':World}{A:Option Addr}{T:Nat}(h:∀j o,A=some ⟨j,o,none⟩→j<w.heap.size∧j≠T)(hb:Below w.heap.size w w'):∀j o,A=some ⟨j,o,none⟩→j<w'.heap.size∧j≠T:=fun j o e=>⟨Nat.lt_of_lt_of_le (h j o e).1 hb.size,(h j o e).2⟩
theorem qir{B:Nat}{X:Nat→Prop}{w w':World}(h:Ke B X w w')(hB:B≤w.heap.size):Below B w w':=h.below hB
theorem nN {w w':World}{A:Option Addr}{l:List Int}(h:qnV w A l)(hb:Below w.heap.size w w'):qnV w' A l:=fun i hi=>by
 obtain⟨b,o,h1,h2,h3⟩:=h i hi;exact⟨b,o,h1,Nat.lt_of_lt_of_le h2 hb.size,by rw[hb.cell (p:=⟨b,o+i,none⟩) h2];exact h3⟩
def eA (vp TB:Nat)(A:Option Addr)(c:Nat):Nat→Value→World→Prop
 | 0,v,_=>v=.slice A 2 c
 | 1,v,_=>v=.int .i64 0
 | 2,v,_=>v=.bool true
 | 3,v,_=>v=.bool false
 | 4,v,_=>v=.bool false
 | 5,v,_=>v=.pointer (some ⟨TB,2,none⟩)
 | 6,v,_=>v=.agg #[.int .u64 0,.int .u64 0]
 | 7,v,_=>v=.agg #[.int .u64 0,.int .u64 0]
 | 8,v,_=>v=.bool false
 | 9,v,_=>v=.bool false
 | 10,v,_=>v=.bool false
 | 11,v,_=>v=.pointer (some ⟨vp,0,none⟩)
 | 12,v,_=>v=.agg #[.int .u64 1,.int .u64 1]
 | 13,v,_=>v=.agg #[.int .u64 1,.int .u64 3]
 | 14,v,_=>v=.agg #[.int .u64 1,.int .u64 1,.int .u64 1,.int .u64 3,.int .i64 1,.int .i64 1,.slice none 0 0]
 | 15,v,_=>v=.int .i64 2
 | 16,v,_=>v=.bool false
 | 17,v,_=>v=.bool false
 | 18,v,_=>v=.bool false
 | 19,v,_=>v=.pointer (some ⟨vp,0,none⟩)
 | 20,v,_=>v=.int .i64 0
 | 21,v,_=>v=.bool false
 | 22,v,_=>v=.bool false
 | _,_,_=>True
def WkS (IV:jw)(B:Nat)(X:Nat→Prop)(v pd:Nat)(w0:World)(_ b:Bool)(W:World):Prop:=Ke B X w0 W∧VW IV W B X v pd (if b=true then Q7 else Q5)
theorem wk1{IV:jw}(H:ki IV){B v pd:Nat}{X:Nat→Prop}{w0 W:World}(hS:WkS IV B X v pd w0 true false W∨WkS IV B X v pd w0 false false W)(hB:B≤W.heap.size) :
    Calls prog 24 #[.pointer (some ⟨v,0,none⟩),.agg #[.int .u64 1,.int .u64 1,.int .u64 1,.int .u64 3,.int .i64 1,.int .i64 1,.slice none 0 0],.slice none 0 0] W (fun x W'=>x=.returned (.int .i64 2)∧WkS IV B X v pd w0 true false W'):=by
 have h0:Ke B X w0 W∧VW IV W B X v pd Q5:=by
  rcases hS with h|h
  ·exact⟨h.1,h.2⟩
  ·exact⟨h.1,h.2⟩
 refine(jo H h0.2 hB ⟨(1,1),(1,3),1,1⟩ ⟨⟨by decide,by decide⟩,⟨by decide,by decide⟩,by unfold yf;dsimp only;omega,by unfold yf;dsimp only;omega⟩ none 0 [] (ch.dU.nil _ _) (by simp) (fun b o e=>by cases e) (Q':=Q5) (fun _ _ _ _ _ _ _=>q5g)).mono ?_;rintro e W' ⟨rfl,h1,h2⟩;exact⟨rfl,h0.1.trans h2,h1⟩
theorem wk2{IV:jw}(H:ki IV){B v pd:Nat}{X:Nat→Prop}{w0 W:World}(hS:WkS IV B X v pd w0 true false W)(hB:B≤W.heap.size) :
    Calls prog 34 #[.pointer (some ⟨v,0,none⟩),.int .i64 1] W (fun x W'=>x=.returned (.int .i64 0)∧WkS IV B X v pd w0 true true W'):=by
 have h0:Ke B X w0 W∧VW IV W B X v pd Q5:=⟨hS.1,hS.2⟩;refine(qpi H h0.2 hB 1 (by unfold yf;omega) (Q':=Q7) (fun _ _ _ _ _ _ _=>q5h)).mono ?_;rintro e W' ⟨rfl,h1,h2⟩;exact⟨rfl,h0.1.trans h2,h1⟩
theorem qis{IV:jw}(H:ki IV)(w:World)(ht:xC w):Calls prog 8 #[] w (qcu w):=by
 have wK:=QH ht;clear ht;have qvh:Hid (∀W,Calls prog 18 #[.int .u8 97] W (okS la W)):=fun W=>ch.dv 97 W;have HD0:Hid (∀W,Calls prog 18 #[.int .u8 0] W (okS (eG 0) W)):=fun W=>ch.dv 0 W;have vD:Hid (∀W,Calls prog 23 #[.int .u64 1,.int .u64 1] W fun x w'=>x=.returned (.agg #[.int .u64 1,.int .u64 1])∧Below W.heap.size W w'):=fun W=>ch.xD 1 1 W;have qe0:Hid (∀W,Calls prog 23 #[.int .u64 1,.int .u64 2] W fun x w'=>x=.returned (.agg #[.int .u64 1,.int .u64 2])∧Below W.heap.size W w'):=fun W=>ch.xD 1 2 W;have q5i:Hid (∀W,Calls prog 23 #[.int .u64 1,.int .u64 3] W fun x w'=>x=.returned (.agg #[.int .u64 1,.int .u64 3])∧Below W.heap.size W w'):=fun W=>ch.xD 1 3 W;have q5j:Hid (∀W,Calls prog 23 #[.int .u64 0,.int .u64 0] W fun x w'=>x=.returned (.agg #[.int .u64 0,.int .u64 0])∧Below W.heap.size W w'):=fun W=>ch.xD 0 0 W;go_enter func8,ntmps8;go_wp2_with fail;refine(dk.gu 1000 250 250 (by decide) (by decide) (by decide) (by decide) w).mono ?_;rintro e W1 ⟨pd,o,rfl,hd,hb1,ho⟩;have HD1:=QH hd;have zk:=QH hb1;have sT:=QH ho;clear hd hb1 ho;go_wp2_with fail;refine(H.qbk 250 250 HD1.out (x9 wK.out zk.out (zG wK.out)) (by decide) (by decide)).mono ?_;rintro e W2 ⟨rfl,hb2⟩;have HD2:=QH (HD1.out.keep hb2.size (fun j hj=>hb2.block j (uE HD1.out j hj)));have qG:=QH (q9 zk.out hb2);clear hb2 zk HD1;go_wp2_with fail;refine(H.fk 2 250 250 HD2.out (x9 wK.out qG.out (zG wK.out)) (fun h=>by have h1:=sT.out _ h;have h2:=zG wK.out;omega) (by decide) (by decide) (by decide) (by decide) (by decide)).mono ?_;rintro e W3 ⟨rfl,t,d,o',hd3,hj,hr,hf,xZ,ho'⟩;have zf:Hid (Below w.heap.size w W3):=qG.out.trans (xZ.below (fun j hj=>sT.out j hj) qG.out.size);have HO3:Hid (∀j,o' j→w.heap.size≤j):=fun j hj=>by
  rcases ho' j hj with h|h
  ·exact sT.out j h
  ·have:=qG.out.size;omega
 clear xZ ho' sT qG HD2;go_wp2_with fail;refine(H.iV hd3 (x9 wK.out zf.out (zG wK.out)) (fun h=>by have h1:=HO3.out _ h;have h2:=zG wK.out;omega) hj.toRJ hf hr).mono ?_;rintro e W4 ⟨v,d',o1,o2,rfl,hv,hj',hf',xZ,h1',h2'⟩;have zU:Hid (Below w.heap.size w W4):=zf.out.trans (xZ.below (fun j hj=>HO3.out j hj) zf.out.size);have HV4:Hid (VW IV W4 w.heap.size (fun _=>False) v pd Q0):=⟨t,d',m0 2,o1,o2,hv,fun j hj=>⟨by
  have hs:=zf.out.size;rcases hj with hj|hj
  ·have:=h1' j hj;omega
  ·rcases h2' j hj with h|h
   ·exact HO3.out j h
   ·omega,fun h=>h⟩,⟨fun j hj=>hj.elim,fun h=>h⟩,hr,hj',hf',rfl⟩
 clear hv hd3 hj hj' hr hf hf' xZ h1' h2' HO3 zf;go_wp2_with fail;refine(qiq H HV4.out (by intro t m h;cases h;rfl)).mono ?_;rintro e W5 ⟨rfl,hb⟩;have HV5:=QH (HV4.out.below H hb);have jt:=QH (q9 zU.out hb);clear hb HV4 zU;go_wp2_with fail;refine(tT H HV5.out (l:=[zz,zz]) (by intro t m h;cases h;rw[qf6];rfl)).mono ?_;rintro e W6 ⟨A6,c6,rfl,ht,_,hb⟩;have HV6:=QH (HV5.out.below H hb);have vL:=QH (q9 jt.out hb);dsimp only at ht ⊢;have T1:=QH ht;clear ht;clear hb HV5 jt;go_wp2_with fail;refine(ch.j9 _ _ [zz,zz] _ W6 T1.out (by decide) vb1.1).mono ?_;rintro e W7 ⟨rfl,hb⟩;have HV7:=QH (HV6.out.below H hb);have HB7:=QH (q9 vL.out hb);have T1n:=QH (T1.out.below hb);clear T1;have T1:=QH T1n.out;clear T1n;clear hb HV6 vL;clear T1;go_wp2_with fail;refine(qvh.out W7).mono ?_;rintro e W8 ⟨rfl,hb⟩;have HV8:=QH (HV7.out.below H hb);have HB8:=QH (q9 HB7.out hb);clear hb HV7 HB7;go_wp2_with fail;refine(qcc H HV8.out HB8.out.size 0 la (by unfold yf;omega) (fun _ _ _ _ _ _ _=>q5b)).mono ?_;rintro e W9 ⟨rfl,hv,hk⟩;have HV9:=QH hv;have HB9:=QH (HB8.out.trans (hk.below HB8.out.size));clear hv hk HV8 HB8;go_wp2_with fail;refine(vD.out W9).mono ?_;rintro e W10 ⟨rfl,hb⟩;have q0b:=QH (HV9.out.below H hb);have qef:=QH (q9 HB9.out hb);clear hb HV9 HB9;go_wp2_with fail;refine(l7 H q0b.out qef.out.size (1,1) ⟨by decide,by decide⟩ (fun _ _ _ _ _ _ _=>q5c)).mono ?_;rintro e W11 ⟨rfl,hv,hk⟩;have q0c:=QH hv;have qeg:=QH (qef.out.trans (hk.below qef.out.size));clear hv hk q0b qef;go_wp2_with fail;refine(HD0.out W11).mono ?_;rintro e W12 ⟨rfl,hb⟩;have q0d:=QH (q0c.out.below H hb);have qpk:=QH (q9 qeg.out hb);clear hb q0c qeg;go_wp2_with fail;refine(qcc H q0d.out qpk.out.size 0 (eG 0) (by unfold yf;omega) (fun _ _ _ _ _ _ _=>q5d)).mono ?_;rintro e W13 ⟨rfl,hv,hk⟩;have q0e:=QH hv;have q0f:=QH (qpk.out.trans (hk.below qpk.out.size));clear hv hk q0d qpk;go_wp2_with fail;refine(vD.out W13).mono ?_;rintro e W14 ⟨rfl,hb⟩;have qvi:=QH (q0e.out.below H hb);have q0g:=QH (q9 q0f.out hb);clear hb q0e q0f;go_wp2_with fail;refine(qf7 H qvi.out (1,1) ⟨by decide,by decide⟩ (r:=([la,zz],0)) (by intro t m h;rw[h.1];rfl)).mono ?_;rintro e W15 ⟨A15,c15,rfl,ht,_,hb⟩;have qvj:=QH (qvi.out.below H hb);have qlV:=QH (q9 q0g.out hb);dsimp only at ht ⊢;have T1:=QH ht;clear ht;clear hb qvi q0g;go_wp2_with fail;refine(tT H qvj.out (l:=[zz,zz]) (by intro t m h;rw[h.1])).mono ?_;rintro e W16 ⟨A16,c16,rfl,ht,_,hb⟩;have q0h:=QH (qvj.out.below H hb);have q0i:=QH (q9 qlV.out hb);have T1n:=QH (T1.out.below hb);clear T1;have T1:=QH T1n.out;clear T1n;dsimp only at ht ⊢;have T2:=QH ht;clear ht;clear hb qvj qlV;go_wp2_with fail;refine(ch.j9 _ _ [la,zz] _ W16 T1.out (by decide) vb1.2.1).mono ?_;rintro e W17 ⟨rfl,hb⟩;have q0j:=QH (q0h.out.below H hb);have q0k:=QH (q9 q0i.out hb);have T1n:=QH (T1.out.below hb);clear T1;have T1:=QH T1n.out;clear T1n;have T2n:=QH (T2.out.below hb);clear T2;have T2:=QH T2n.out;clear T2n;clear hb q0h q0i;clear T1;go_wp2_with fail;refine(ch.j9 _ _ [zz,zz] _ W17 T2.out (by decide) vb1.1).mono ?_;rintro e W18 ⟨rfl,hb⟩;have q0m:=QH (q0j.out.below H hb);have qie:=QH (q9 q0k.out hb);have T2n:=QH (T2.out.below hb);clear T2;have T2:=QH T2n.out;clear T2n;clear hb q0j q0k;clear T2;go_wp2_with fail;refine(vD.out W18).mono ?_;rintro e W19 ⟨rfl,hb⟩;have q0n:=QH (q0m.out.below H hb);have q0o:=QH (q9 qie.out hb);clear hb q0m qie;go_wp2_with fail;refine(qe0.out W19).mono ?_;rintro e W20 ⟨rfl,hb⟩;have q0p:=QH (q0n.out.below H hb);have q0q:=QH (q9 q0o.out hb);clear hb q0n q0o;go_wp2_with fail;have HBP:=QH ((Below.refl W20.heap.size W20).alloc (Nat.le_refl _) (.cells #[.int .i64 0,.int .u8 0] 73));have HPT:Hid (ch.PtL (W20.alloc (.cells #[.int .i64 0,.int .u8 0] 73)) (some ⟨W20.heap.size,0,none⟩) [((0:Int),(0:UInt8))]):=ch.l5 W20 0 0 (by unfold yf;omega);have dW:=QH (ch.uv (some ⟨W20.heap.size,0,none⟩) 1 [((0:Int),(0:UInt8))] _ HPT.out (by simp));have HCO:ch.dw [((0:Int),(0:UInt8))]=[((0:Int),eG 0)]:=rfl;rw[HCO]at dW;obtain⟨S21,qvk⟩:=QE (eG 0);rw[qvk]at dW;have q5k:=QH qvk;clear HCO qvk;refine dW.out.mono ?_;rintro e W21 ⟨v1,rfl,ho1,hb1⟩;obtain⟨A21,c21,hv1,hl1,vZ⟩:=ho1.qfz (by intro y hy;simp at hy;subst hy;unfold yf;dsimp only;omega);subst hv1;have q0r:Hid (ch.dU W21 A21 [((0:Int),S21)]):=hl1;have js:=QH (q9 HBP.out hb1);have q0s:Hid (VW IV W21 w.heap.size (fun j=>(fun _=>False) j∨∃o,A21=some ⟨j,o,none⟩) v pd _):=q0p.out.more H js.out (fun j hj=>by
  rcases hj with hj|⟨o,hj⟩
  ·exact .inl hj
  ·exact .inr ⟨Nat.le_trans HBP.out.size (vZ j o hj).1,(vZ j o hj).2⟩)
 have qpl:=QH (q9 q0q.out js.out);clear ho1 hl1 vZ hb1 js HBP HPT dW q0p q0q;go_wp2_with fail;refine(jo H q0s.out qpl.out.size ⟨(1,1),(1,2),1,2⟩ ⟨⟨by decide,by decide⟩,⟨by decide,by decide⟩,by unfold yf;dsimp only;omega,by unfold yf;dsimp only;omega⟩ A21 c21 [((0:Int),S21)] q0r.out (by simp) (fun b o e=>.inr ⟨o,e⟩) (fun _ _ _ _ _ _ _=>by rw[← q5k.out];exact q5e)).mono ?_;rintro e W22 ⟨rfl,hv,hk⟩;have qit:=QH hv;have q0t:=QH (qpl.out.trans (hk.below qpl.out.size));clear hv hk q0s qpl;have qqD:=QH (qit.out.rq (Y:=(fun _=>False)) (fun j hj=>.inl hj));clear qit q0r;have qit:=QH qqD.out;clear qqD;go_wp2_with fail;refine(qcb H qit.out (k:=⟨(1,1),(1,2),1,2,[0,0]⟩) (by rintro t m ⟨_,a,y,rfl⟩;rfl)).mono ?_;rintro e W23 ⟨A23,c23,rfl,hi,_,hb⟩;have q0u:=QH (qit.out.below H hb);have qvm:=QH (q9 q0t.out hb);have HI:=QH hi;clear hi;unfold tkV tf;dsimp only[List.length_cons,List.length_nil,Nat.reduceAdd,Nat.zero_add];clear hb qit q0t;go_wp2_with fail;have zw:=QH (qg.new W23 59 #[.int .u64 1,.int .u64 1,.int .u64 1,.int .u64 2,.int .i64 1,.int .i64 2,.slice A23 2 c23]);have HBT:=QH ((Below.refl W23.heap.size W23).alloc (Nat.le_refl _) (.cells #[.int .u64 1,.int .u64 1,.int .u64 1,.int .u64 2,.int .i64 1,.int .i64 2,.slice A23 2 c23] 59));have qmq:Hid (VW IV (W23.alloc (.cells #[.int .u64 1,.int .u64 1,.int .u64 1,.int .u64 2,.int .i64 1,.int .i64 2,.slice A23 2 c23] 59)) w.heap.size (fun j=>j=W23.heap.size) v pd Q4):=q0u.out.more H HBT.out (fun j hj=>.inr ⟨by rw[hj];exact Nat.le_refl _,by rw[hj];simp⟩);have qvn:=QH (q9 qvm.out HBT.out);have HIn:=QH (nN HI.out HBT.out);obtain⟨W24,q0v⟩:=QE (W23.alloc (.cells #[.int .u64 1,.int .u64 1,.int .u64 1,.int .u64 2,.int .i64 1,.int .i64 2,.slice A23 2 c23] 59));rw[q0v]at zw HBT qmq qvn HIn ⊢;obtain⟨TB,hTB⟩:=QE W23.heap.size;rw[hTB]at zw qmq ⊢;have HTL:Hid (TB<W24.heap.size):=zw.out.lt;have HTG:Hid (w.heap.size≤TB):=by rw[← hTB];exact qvm.out.size
 clear q0v hTB HBT HI q0u qvm;have HI:=QH HIn.out;clear HIn;go_wp2_with fail;refine(l6 H qmq.out (l:=[(1,1)]) (by rintro t m ⟨h,_⟩;rw[h];rfl)).mono ?_;rintro e W25 ⟨A25,c25,rfl,_,_,hb⟩;have q0w:=QH (qmq.out.below H hb);have q0x:=QH (q9 qvn.out hb);have qU:=QH (zw.out.below hb);clear zw;have zw:=QH qU.out;clear qU;have HIn:=QH (nN HI.out hb);clear HI;have HI:=QH HIn.out;clear HIn;clear hb qmq qvn;obtain⟨bi,oi,hAi,li,i0⟩:=HI.out 0 (by decide);obtain⟨bi2,oi2,q5m,li2,i1⟩:=HI.out 1 (by decide);subst hAi;cases q5m;simp only[Nat.add_zero,List.getElem_cons_zero,List.getElem_cons_succ]at i0 i1;have qvo:=zw.out.lt;have cz2:=zw.out.cell 2;have cz3:=zw.out.cell 3;have cz4:=zw.out.cell 4;have cz5:=zw.out.cell 5;have cz6:=zw.out.cell 6;simp only[QA,QB,QC]at cz2 cz3 cz4 cz5 cz6;dsimp only[List.length_cons,List.length_nil,Nat.reduceAdd,Nat.zero_add];go_wp2_with fail;refine(vD.out W25).mono ?_;rintro e W26 ⟨rfl,hb⟩;have q03:=QH (q0w.out.below H hb);have q04:=QH (q9 q0x.out hb);have qU:=QH (zw.out.below hb);clear zw;have zw:=QH qU.out;clear qU;clear hb q0w q0x;clear i0 i1 li li2 cz2 cz3 cz4 cz5 cz6 qvo HI;go_wp2_with fail;refine(qe0.out W26).mono ?_;rintro e W27 ⟨rfl,hb⟩;have q05:=QH (q03.out.below H hb);have q06:=QH (q9 q04.out hb);have qU:=QH (zw.out.below hb);clear zw;have zw:=QH qU.out;clear qU;clear hb q03 q04;go_wp2_with fail;have HBP:=QH ((Below.refl W27.heap.size W27).alloc (Nat.le_refl _) (.cells #[.int .i64 1,.int .u8 97] 73));have HPT:Hid (ch.PtL (W27.alloc (.cells #[.int .i64 1,.int .u8 97] 73)) (some ⟨W27.heap.size,0,none⟩) [((1:Int),(97:UInt8))]):=ch.l5 W27 1 97 (by unfold yf;omega);have dW:=QH (ch.uv (some ⟨W27.heap.size,0,none⟩) 1 [((1:Int),(97:UInt8))] _ HPT.out (by simp));have HCO:ch.dw [((1:Int),(97:UInt8))]=[((1:Int),la)]:=rfl;rw[HCO]at dW;obtain⟨S28,qvp⟩:=QE la;rw[qvp]at dW;have q5n:=QH qvp;clear HCO qvp;refine dW.out.mono ?_;rintro e W28 ⟨v1,rfl,ho1,hb1⟩;obtain⟨A28,c28,hv1,hl1,vZ⟩:=ho1.qfz (by intro y hy;simp at hy;subst hy;unfold yf;dsimp only;omega);subst hv1;have q07:Hid (ch.dU W28 A28 [((1:Int),S28)]):=hl1;have js:=QH (q9 HBP.out hb1);have q08:Hid (VW IV W28 w.heap.size (fun j=>(fun j=>j=TB) j∨∃o,A28=some ⟨j,o,none⟩) v pd _):=q05.out.more H js.out (fun j hj=>by
  rcases hj with hj|⟨o,hj⟩
  ·exact .inl hj
  ·exact .inr ⟨Nat.le_trans HBP.out.size (vZ j o hj).1,(vZ j o hj).2⟩)
 have qpm:=QH (q9 q06.out js.out);have qU:=QH (zw.out.below js.out);clear zw;have zw:=QH qU.out;clear qU;clear ho1 hl1 vZ hb1 js HBP HPT dW q05 q06;go_wp2_with fail;refine(jo H q08.out qpm.out.size ⟨(1,1),(1,2),2,2⟩ ⟨⟨by decide,by decide⟩,⟨by decide,by decide⟩,by unfold yf;dsimp only;omega,by unfold yf;dsimp only;omega⟩ A28 c28 [((1:Int),S28)] q07.out (by simp) (fun b o e=>.inr ⟨o,e⟩) (fun _ _ _ _ _ _ _=>by rw[← q5n.out];exact q5f)).mono ?_;rintro e W29 ⟨rfl,hv,hk⟩;have qiu:=QH hv;have q09:=QH (qpm.out.trans (hk.below qpm.out.size));have qU:=QH (zw.out.of_block (hk.block zw.out.lt (.inl (.inl rfl))));clear zw;have zw:=QH qU.out;clear qU;clear hv hk q08 qpm;have qqE:=QH (qiu.out.rq (Y:=(fun j=>j=TB)) (fun j hj=>.inl hj));clear qiu q07;have qiu:=QH qqE.out;clear qqE;go_wp2_with fail;refine(l6 H qiu.out (l:=[(1,1),(1,2)]) (by rintro t m ⟨h,_⟩;rw[h];rfl)).mono ?_;rintro e W30 ⟨A30,c30,rfl,_,_,hb⟩;have q0A:=QH (qiu.out.below H hb);have q0B:=QH (q9 q09.out hb);have qU:=QH (zw.out.below hb);clear zw;have zw:=QH qU.out;clear qU;clear hb qiu q09;dsimp only[List.length_cons,List.length_nil,Nat.reduceAdd,Nat.zero_add];go_wp2_with fail;refine(qe0.out W30).mono ?_;rintro e W31 ⟨rfl,hb⟩;have qvq:=QH (q0A.out.below H hb);have q0C:=QH (q9 q0B.out hb);have qU:=QH (zw.out.below hb);clear zw;have zw:=QH qU.out;clear qU;clear hb q0A q0B;have HTP:=QH zw.out.lt;go_wp2_with fail;refine(qf7 H qvq.out (1,2) ⟨by decide,by decide⟩ (r:=([zz,la],0)) (by rintro t m ⟨h,_⟩;rw[h];rfl)).mono ?_;rintro e W32 ⟨AX,cX,rfl,ht,hna,hb⟩;dsimp only at ht ⊢;have T1:=QH ht;have qU:=QH (zw.out.below hb);clear zw;have zw:=QH qU.out;clear qU;have qvr:Hid (VW IV W32 w.heap.size (fun j=>j=TB∨∃o,AX=some ⟨j,o,none⟩) v pd Q5):=qvq.out.more H hb (fun j hj=>by
  rcases hj with hj|⟨o,hj⟩
  ·exact .inl hj
  ·exact .inr (hna j o hj))
 have HNA:Hid (∀j o,AX=some ⟨j,o,none⟩→j<W32.heap.size∧j≠TB):=fun j o e=>⟨(hna j o e).2,fun h=>by
  have h1:=(hna j o e).1;have h2:=HTP.out;omega⟩
 have q0D:=QH (q9 q0C.out hb);clear ht hna hb qvq q0C;go_wp2_with fail;refine(qcb H qvr.out (k:=zL) (fun _ _ h=>h.2)).mono ?_;rintro e W33 ⟨AK,cK,rfl,_,_,hb⟩;have q0E:=QH (qvr.out.below H hb);have qvt:=QH (q9 q0D.out hb);have qU:=QH (zw.out.below hb);clear zw;have zw:=QH qU.out;clear qU;have T1n:=QH (T1.out.below hb);clear T1;have T1:=QH T1n.out;clear T1n;have q0F:=QH (qmn HNA.out hb);clear HNA;have HNA:=QH q0F.out;clear q0F;unfold tkV tf zL;dsimp only[List.length_cons,List.length_nil,Nat.reduceAdd,Nat.zero_add];clear hb qvr q0D;have qvo:=zw.out.lt;have fz0:=zw.out.frozen 0;have fz1:=zw.out.frozen 1;have fz2:=zw.out.frozen 2;have fz3:=zw.out.frozen 3;have fz4:=zw.out.frozen 4;have fz5:=zw.out.frozen 5;have fz6:=zw.out.frozen 6;have cz0:=zw.out.cell 0;have cz1:=zw.out.cell 1;have cz2:=zw.out.cell 2;have cz3:=zw.out.cell 3;have cz4:=zw.out.cell 4;have cz5:=zw.out.cell 5;have cz6:=zw.out.cell 6;simp only[QA,QB,QC]at cz0 cz1 cz2 cz3 cz4 cz5 cz6;have wJ:=QH (((((((zw.out.qo 0 (.int .u64 0)).qo 1 (.int .u64 0)).qo 2 (.int .u64 0)).qo 3 (.int .u64 0)).qo 4 (.int .i64 0)).qo 5 (.int .i64 0)).qo 6 (.slice AK 0 cK));have HBu:Hid (qB (fun j=>j=TB) W33 (((((((W33.setCell ⟨TB,0,none⟩ (.int .u64 0)).setCell ⟨TB,1,none⟩ (.int .u64 0)).setCell ⟨TB,2,none⟩ (.int .u64 0)).setCell ⟨TB,3,none⟩ (.int .u64 0)).setCell ⟨TB,4,none⟩ (.int .i64 0)).setCell ⟨TB,5,none⟩ (.int .i64 0)).setCell ⟨TB,6,none⟩ (.slice AK 0 cK))):=((((((((((((((qB.refl (fun j=>j=TB) W33).setCell ⟨TB,0,none⟩ (.int .u64 0) (.inl rfl))).setCell ⟨TB,1,none⟩ (.int .u64 0) (.inl rfl))).setCell ⟨TB,2,none⟩ (.int .u64 0) (.inl rfl))).setCell ⟨TB,3,none⟩ (.int .u64 0) (.inl rfl))).setCell ⟨TB,4,none⟩ (.int .i64 0) (.inl rfl))).setCell ⟨TB,5,none⟩ (.int .i64 0) (.inl rfl))).setCell ⟨TB,6,none⟩ (.slice AK 0 cK) (.inl rfl));go_wp2_with fail;clear fz0 cz0 fz1 cz1 fz2 cz2 fz3 cz3 fz4 cz4 fz5 cz5 fz6 cz6 qvo;obtain⟨W34,q0G⟩:=QE ((((((((W33.setCell ⟨TB,0,none⟩ (.int .u64 0)).setCell ⟨TB,1,none⟩ (.int .u64 0)).setCell ⟨TB,2,none⟩ (.int .u64 0)).setCell ⟨TB,3,none⟩ (.int .u64 0)).setCell ⟨TB,4,none⟩ (.int .i64 0)).setCell ⟨TB,5,none⟩ (.int .i64 0)).setCell ⟨TB,6,none⟩ (.slice AK 0 cK)):World);rw[q0G]at wJ HBu ⊢;have q0H:=QH (q0E.out.turn H (HBu.out.mono fun j hj=>.inl hj));have qmr:Hid (Below w.heap.size w W34):=qvt.out.trans (HBu.out.below (fun j hj=>by rw[hj];exact HTG.out) qvt.out.size);have T2:Hid (TxL W34 AX [zz,la]):=T1.out.kept HBu.out.size (fun b o e=>HBu.out.block b (HNA.out b o e).1 (HNA.out b o e).2);have HNB:Hid (∀j o,AX=some ⟨j,o,none⟩→j<W34.heap.size):=fun j o e=>Nat.lt_of_lt_of_le (HNA.out j o e).1 HBu.out.size;have hlt2:=wJ.out.lt;clear q0G zw T1 HNA q0E qvt HBu;have HS0:Hid (WkS IV w.heap.size (fun j=>j=TB∨∃o,AX=some ⟨j,o,none⟩) v pd W34 false false W34.drew):=⟨Ke.of_below (qqB (Below.refl _ _) 1),q0H.out.below H (qqB (Below.refl _ _) 1)⟩;refine jD (by kernel_rfl) [158,159,160,161,162,163,164,165,166,167,168,169,170,171,172,173,174,175,176,177,178,179,180] (by kernel_rfl) (fun L vs W=>WkS IV w.heap.size (fun j=>j=TB∨∃o,AX=some ⟨j,o,none⟩) v pd W34 (L 15) (L 20) W∧((L 20=true→L 15=true)∧(L 18=true→L 15=true))∧∀i,L i=true→i<23→eA v TB AX cX i (vs i) W) ⟨HS0.out,⟨fun h=>(by cases h),fun h=>(by cases h)⟩,fun i hi=>by cases hi⟩ ?_ ?_ ?_
 ·intro i o L vs ρ W ho hli qQ hρ hgd hI;obtain⟨hS,hC,bD⟩:=hI;have hG:∀j,L j=true→eA v TB AX cX j (vs j) W:=fun j hj=>by
   by_cases h16:j<23
   ·exact bD j hj h16
   ·match j,h16 with
    | j+23,_=>exact trivial
  have qzz:i<23:=(Array.getElem?_eq_some_iff.1 ho).1;have hc:=hρ.const;have hfn:=hρ.fn;have qms:∀vv W',eA v TB AX cX i vv W'→∀j,xW L i j=true→j<23→eA v TB AX cX j (yG vs i vv j) W':=fun vv W' h2 j hj h16=>by
   by_cases dY:j=i
   ·subst dY;simpa[yG]using h2
   ·simp only[xW,if_neg dY]at hj;have:=bD j hj h16;simp only[yG,if_neg dY]
    match j,h16,this with
    | 0,_,h=>exact h
    | 1,_,h=>exact h
    | 2,_,h=>exact h
    | 3,_,h=>exact h
    | 4,_,h=>exact h
    | 5,_,h=>exact h
    | 6,_,h=>exact h
    | 7,_,h=>exact h
    | 8,_,h=>exact h
    | 9,_,h=>exact h
    | 10,_,h=>exact h
    | 11,_,h=>exact h
    | 12,_,h=>exact h
    | 13,_,h=>exact h
    | 14,_,h=>exact h
    | 15,_,h=>exact h
    | 16,_,h=>exact h
    | 17,_,h=>exact h
    | 18,_,h=>exact h
    | 19,_,h=>exact h
    | 20,_,h=>exact h
    | 21,_,h=>exact h
    | 22,_,h=>exact h
    | j+23,h,_=>exact absurd h (by omega)
  have next:i≠15→i≠20→(i=18→L 15=true)→∀vv W',WkS IV w.heap.size (fun j=>j=TB∨∃o,AX=some ⟨j,o,none⟩) v pd W34 (L 15) (L 20) W'→eA v TB AX cX i vv W'→WkS IV w.heap.size (fun j=>j=TB∨∃o,AX=some ⟨j,o,none⟩) v pd W34 (xW L i 15) (xW L i 20) W'∧((xW L i 20=true→xW L i 15=true)∧(xW L i 18=true→xW L i 15=true))∧∀j,xW L i j=true→j<23→eA v TB AX cX j (yG vs i vv j) W':=fun n1 n2 n3 vv W' h1 h2=>by
   refine⟨?_,⟨?_,?_⟩,qms vv W' h2⟩
   ·simp only[xW,if_neg (Ne.symm n1),if_neg (Ne.symm n2)];exact h1
   ·simp only[xW,if_neg (Ne.symm n1),if_neg (Ne.symm n2)];exact hC.1
   ·intro hm;simp only[xW,if_neg (Ne.symm n1)];by_cases vE:18=i
    ·exact n3 vE.symm
    ·simp only[xW,if_neg vE]at hm;exact hC.2 hm
  have hke:=hS.1;have hkt:=wJ.out.of_block (hke.block hlt2 (.inl (.inl rfl)));have z2:=hkt.cell 2;have z3:=hkt.cell 3;have zl:=hkt.lt;simp only[QA,QB,QC,Array.setIfInBounds,List.set_cons_zero,List.set_cons_succ]at z2 z3;rcases i with _|_|_|_|_|_|_|_|_|_|_|_|_|_|_|_|_|_|_|_|_|_|_|i;all_goals (first|omega|skip)
  all_goals simp only[QA,QB,QC,Option.some.injEq]at ho
  all_goals subst ho
  ·have o6:ρ (.tmp 6)=.slice AX 2 cX:=hρ.out 6 rfl;exact qc (w':=W) (by unfold execOp;simp only[o6,hc];go_simp) (next (by decide) (by decide) (fun h=>absurd h (by decide)) _ _ hS rfl)
  ·have o7:ρ (.tmp 7)=.int .i64 0:=hρ.out 7 rfl;exact qc (w':=W) (by unfold execOp;simp only[o7,hc];go_simp) (next (by decide) (by decide) (fun h=>absurd h (by decide)) _ _ hS rfl)
  ·have q5q:eA v TB AX cX 0 (vs 0) W:=hG 0 (qQ 0 (by kernel_rfl));have q5r:ρ (.tmp 158)=.slice AX 2 cX:=(hρ.at_ 158 0 rfl).trans q5q;have q5s:eA v TB AX cX 1 (vs 1) W:=hG 1 (qQ 1 (by kernel_rfl));have q5t:ρ (.tmp 159)=.int .i64 0:=(hρ.at_ 159 1 rfl).trans q5s;refine qu (f:=36) (args:=#[.slice AX 2 cX,.int .i64 0,.string ⟨#[48,97]⟩]) (w':=W) (by unfold execOp;simp only[hfn,q5r,q5t];go_simp) ((ch.j9 AX cX [zz,la] _ W (T2.out.kept hS.1.size (fun b o e=>hS.1.block (HNB.out b o e) (.inl (.inr ⟨o,e⟩)))) (by decide) vb1.2.2).mono ?_);rintro x W' ⟨rfl,hb'⟩;exact⟨_,rfl,next (by decide) (by decide) (fun h=>absurd h (by decide)) _ _ (⟨hS.1.trans (Ke.of_below hb'),hS.2.below H hb'⟩) rfl⟩
  ·have q5u:eA v TB AX cX 2 (vs 2) W:=hG 2 (qQ 2 (by kernel_rfl));have q5v:ρ (.tmp 160)=.bool true:=(hρ.at_ 160 2 rfl).trans q5u;exact qc (w':=W) (by unfold execOp;simp only[q5v,hc];go_simp) (next (by decide) (by decide) (fun h=>absurd h (by decide)) _ _ hS rfl)
  ·have q5w:eA v TB AX cX 3 (vs 3) W:=hG 3 (qQ 3 (by kernel_rfl));have q5x:ρ (.tmp 161)=.bool false:=(hρ.at_ 161 3 rfl).trans q5w;exact qc (w':=W) (by unfold execOp;simp only[q5x,hc];go_simp) (next (by decide) (by decide) (fun h=>absurd h (by decide)) _ _ hS rfl)
  ·have o10:ρ (.tmp 10)=.pointer (some ⟨TB,0,none⟩):=hρ.out 10 rfl;exact qc (w':=W) (by unfold execOp;simp only[o10,hc];go_simp) (next (by decide) (by decide) (fun h=>absurd h (by decide)) _ _ hS rfl)
  ·have q5y:eA v TB AX cX 5 (vs 5) W:=hG 5 (qQ 5 (by kernel_rfl));have q5z:ρ (.tmp 163)=.pointer (some ⟨TB,2,none⟩):=(hρ.at_ 163 5 rfl).trans q5y;exact qc (w':=W) (by unfold execOp;simp only[q5z,hc];go_simp) (next (by decide) (by decide) (fun h=>absurd h (by decide)) _ _ hS rfl)
  ·refine qu (f:=23) (args:=#[.int .u64 0,.int .u64 0]) (w':=W) (by unfold execOp;simp only[hfn,];go_simp) ((q5j.out W).mono ?_);rintro x W' ⟨rfl,hb'⟩;exact⟨_,rfl,next (by decide) (by decide) (fun h=>absurd h (by decide)) _ _ (⟨hS.1.trans (Ke.of_below hb'),hS.2.below H hb'⟩) rfl⟩
  ·have q50:eA v TB AX cX 6 (vs 6) W:=hG 6 (qQ 6 (by kernel_rfl));have q51:ρ (.tmp 164)=.agg #[.int .u64 0,.int .u64 0]:=(hρ.at_ 164 6 rfl).trans q50;have q52:eA v TB AX cX 7 (vs 7) W:=hG 7 (qQ 7 (by kernel_rfl));have q53:ρ (.tmp 165)=.agg #[.int .u64 0,.int .u64 0]:=(hρ.at_ 165 7 rfl).trans q52;exact qc (w':=W) (by unfold execOp;simp only[q51,q53,hc];go_simp) (next (by decide) (by decide) (fun h=>absurd h (by decide)) _ _ hS rfl)
  ·have q54:eA v TB AX cX 4 (vs 4) W:=hG 4 (qQ 4 (by kernel_rfl));have q55:ρ (.tmp 162)=.bool false:=(hρ.at_ 162 4 rfl).trans q54;have q56:eA v TB AX cX 8 (vs 8) W:=hG 8 (qQ 8 (by kernel_rfl));have q57:ρ (.tmp 166)=.bool false:=(hρ.at_ 166 8 rfl).trans q56;exact qc (w':=W) (by unfold execOp;simp only[q55,q57,hc];go_simp) (next (by decide) (by decide) (fun h=>absurd h (by decide)) _ _ hS rfl)
  ·have q58:eA v TB AX cX 9 (vs 9) W:=hG 9 (qQ 9 (by kernel_rfl));have q59:ρ (.tmp 167)=.bool false:=(hρ.at_ 167 9 rfl).trans q58;exact qc (w':=W) (by unfold execOp;simp only[q59,hc];go_simp) (next (by decide) (by decide) (fun h=>absurd h (by decide)) _ _ hS rfl)
  ·have o4:ρ (.tmp 4)=.pointer (some ⟨v,0,none⟩):=hρ.out 4 rfl;exact qc (w':=W) (by unfold execOp;simp only[o4,hc];go_simp) (next (by decide) (by decide) (fun h=>absurd h (by decide)) _ _ hS rfl)
  ·refine qu (f:=23) (args:=#[.int .u64 1,.int .u64 1]) (w':=W) (by unfold execOp;simp only[hfn,];go_simp) ((vD.out W).mono ?_);rintro x W' ⟨rfl,hb'⟩;exact⟨_,rfl,next (by decide) (by decide) (fun h=>absurd h (by decide)) _ _ (⟨hS.1.trans (Ke.of_below hb'),hS.2.below H hb'⟩) rfl⟩
  ·refine qu (f:=23) (args:=#[.int .u64 1,.int .u64 3]) (w':=W) (by unfold execOp;simp only[hfn,];go_simp) ((q5i.out W).mono ?_);rintro x W' ⟨rfl,hb'⟩;exact⟨_,rfl,next (by decide) (by decide) (fun h=>absurd h (by decide)) _ _ (⟨hS.1.trans (Ke.of_below hb'),hS.2.below H hb'⟩) rfl⟩
  ·have q5A:eA v TB AX cX 12 (vs 12) W:=hG 12 (qQ 12 (by kernel_rfl));have q5B:ρ (.tmp 170)=.agg #[.int .u64 1,.int .u64 1]:=(hρ.at_ 170 12 rfl).trans q5A;have q5C:eA v TB AX cX 13 (vs 13) W:=hG 13 (qQ 13 (by kernel_rfl));have q5D:ρ (.tmp 171)=.agg #[.int .u64 1,.int .u64 3]:=(hρ.at_ 171 13 rfl).trans q5C;exact qc (w':=W) (by unfold execOp;simp only[q5B,q5D,hc];go_simp) (next (by decide) (by decide) (fun h=>absurd h (by decide)) _ _ hS rfl)
  ·have q5E:eA v TB AX cX 11 (vs 11) W:=hG 11 (qQ 11 (by kernel_rfl));have q5F:ρ (.tmp 169)=.pointer (some ⟨v,0,none⟩):=(hρ.at_ 169 11 rfl).trans q5E;have q5G:eA v TB AX cX 14 (vs 14) W:=hG 14 (qQ 14 (by kernel_rfl));have q5H:ρ (.tmp 172)=.agg #[.int .u64 1,.int .u64 1,.int .u64 1,.int .u64 3,.int .i64 1,.int .i64 1,.slice none 0 0]:=(hρ.at_ 172 14 rfl).trans q5G;have n2:L 20=false:=by
    cases hx:L 20 with
    | false=>rfl
    | true=>exact absurd (hC.1 hx) (by rw[hli];decide)
   rw[hli,n2]at hS;refine qu (f:=24) (args:=#[.pointer (some ⟨v,0,none⟩),.agg #[.int .u64 1,.int .u64 1,.int .u64 1,.int .u64 3,.int .i64 1,.int .i64 1,.slice none 0 0],.slice none 0 0]) (w':=W) (by unfold execOp;simp only[hfn,q5F,q5H];go_simp) ((wk1 H (.inr hS) (Nat.le_trans qmr.out.size hS.1.size)).mono ?_);rintro x W' ⟨rfl,h1⟩;refine⟨_,rfl,?_,⟨fun _=>by simp[xW],fun _=>by simp[xW]⟩,qms _ _ rfl⟩;simp only[xW,n2];exact h1
  ·have q5I:eA v TB AX cX 15 (vs 15) W:=hG 15 (qQ 15 (by kernel_rfl));have q5J:ρ (.tmp 173)=.int .i64 2:=(hρ.at_ 173 15 rfl).trans q5I;exact qc (w':=W) (by unfold execOp;simp only[q5J,hc];go_simp) (next (by decide) (by decide) (fun h=>absurd h (by decide)) _ _ hS rfl)
  ·have q5K:eA v TB AX cX 10 (vs 10) W:=hG 10 (qQ 10 (by kernel_rfl));have q5L:ρ (.tmp 168)=.bool false:=(hρ.at_ 168 10 rfl).trans q5K;have q5M:eA v TB AX cX 16 (vs 16) W:=hG 16 (qQ 16 (by kernel_rfl));have q5N:ρ (.tmp 174)=.bool false:=(hρ.at_ 174 16 rfl).trans q5M;exact qc (w':=W) (by unfold execOp;simp only[q5L,q5N,hc];go_simp) (next (by decide) (by decide) (fun h=>absurd h (by decide)) _ _ hS rfl)
  ·have q5O:eA v TB AX cX 17 (vs 17) W:=hG 17 (qQ 17 (by kernel_rfl));have q5P:ρ (.tmp 175)=.bool false:=(hρ.at_ 175 17 rfl).trans q5O;exact qc (w':=W) (by unfold execOp;simp only[q5P,hc];go_simp) (next (by decide) (by decide) (fun _=>qQ 15 (by kernel_rfl)) _ _ hS rfl)
  ·have o4:ρ (.tmp 4)=.pointer (some ⟨v,0,none⟩):=hρ.out 4 rfl;exact qc (w':=W) (by unfold execOp;simp only[o4,hc];go_simp) (next (by decide) (by decide) (fun h=>absurd h (by decide)) _ _ hS rfl)
  ·have q5Q:eA v TB AX cX 19 (vs 19) W:=hG 19 (qQ 19 (by kernel_rfl));have q5R:ρ (.tmp 177)=.pointer (some ⟨v,0,none⟩):=(hρ.at_ 177 19 rfl).trans q5Q;have yq1:L 15=true:=hC.2 (qQ 18 (by kernel_rfl));rw[hli,yq1]at hS;refine qu (f:=34) (args:=#[.pointer (some ⟨v,0,none⟩),.int .i64 1]) (w':=W) (by unfold execOp;simp only[hfn,q5R];go_simp) ((wk2 H hS (Nat.le_trans qmr.out.size hS.1.size)).mono ?_);rintro x W' ⟨rfl,h1⟩;refine⟨_,rfl,?_,⟨fun _=>by simp[xW,yq1],fun _=>by simp[xW,yq1]⟩,qms _ _ rfl⟩;simp only[xW,yq1];exact h1
  ·have q5S:eA v TB AX cX 20 (vs 20) W:=hG 20 (qQ 20 (by kernel_rfl));have q5T:ρ (.tmp 178)=.int .i64 0:=(hρ.at_ 178 20 rfl).trans q5S;exact qc (w':=W) (by unfold execOp;simp only[q5T,hc];go_simp) (next (by decide) (by decide) (fun h=>absurd h (by decide)) _ _ hS rfl)
  ·have q5U:eA v TB AX cX 18 (vs 18) W:=hG 18 (qQ 18 (by kernel_rfl));have q5V:ρ (.tmp 176)=.bool false:=(hρ.at_ 176 18 rfl).trans q5U;have q5W:eA v TB AX cX 21 (vs 21) W:=hG 21 (qQ 21 (by kernel_rfl));have q5X:ρ (.tmp 179)=.bool false:=(hρ.at_ 179 21 rfl).trans q5W;exact qc (w':=W) (by unfold execOp;simp only[q5V,q5X,hc];go_simp) (next (by decide) (by decide) (fun h=>absurd h (by decide)) _ _ hS rfl)
 ·intro i o L vs W j want ho hli qQ hg hv hI;obtain⟨_,_,bD⟩:=hI;have qzz:i<23:=(Array.getElem?_eq_some_iff.1 ho).1;rcases i with _|_|_|_|_|_|_|_|_|_|_|_|_|_|_|_|_|_|_|_|_|_|_|i;all_goals (first|omega|skip)
  all_goals simp only[QA,QB,QC,Option.some.injEq]at ho
  all_goals subst ho
  all_goals simp only[Option.some.injEq,Prod.mk.injEq,reduceCtorEq]at hg
  ·obtain⟨rfl,rfl⟩:=hg;exact(hv (bD 4 (qQ 4 (by kernel_rfl)) (by decide))).elim
  ·obtain⟨rfl,rfl⟩:=hg;exact(hv (bD 4 (qQ 4 (by kernel_rfl)) (by decide))).elim
  ·obtain⟨rfl,rfl⟩:=hg;exact(hv (bD 4 (qQ 4 (by kernel_rfl)) (by decide))).elim
  ·obtain⟨rfl,rfl⟩:=hg;exact(hv (bD 4 (qQ 4 (by kernel_rfl)) (by decide))).elim
  ·obtain⟨rfl,rfl⟩:=hg;exact(hv (bD 10 (qQ 10 (by kernel_rfl)) (by decide))).elim
  ·obtain⟨rfl,rfl⟩:=hg;exact(hv (bD 10 (qQ 10 (by kernel_rfl)) (by decide))).elim
  ·obtain⟨rfl,rfl⟩:=hg;exact(hv (bD 10 (qQ 10 (by kernel_rfl)) (by decide))).elim
  ·obtain⟨rfl,rfl⟩:=hg;exact(hv (bD 10 (qQ 10 (by kernel_rfl)) (by decide))).elim
  ·obtain⟨rfl,rfl⟩:=hg;exact(hv (bD 10 (qQ 10 (by kernel_rfl)) (by decide))).elim
  ·obtain⟨rfl,rfl⟩:=hg;exact(hv (bD 10 (qQ 10 (by kernel_rfl)) (by decide))).elim
  ·obtain⟨rfl,rfl⟩:=hg;exact(hv (bD 18 (qQ 18 (by kernel_rfl)) (by decide))).elim
  ·obtain⟨rfl,rfl⟩:=hg;exact(hv (bD 18 (qQ 18 (by kernel_rfl)) (by decide))).elim
  ·obtain⟨rfl,rfl⟩:=hg;exact(hv (bD 18 (qQ 18 (by kernel_rfl)) (by decide))).elim
 intro vs WE hI;obtain⟨hS,_,hG⟩:=hI;have HKE:Hid (Ke w.heap.size (fun j=>j=TB∨∃o,AX=some ⟨j,o,none⟩) W34 WE):=hS.1;have HVE:Hid (VW IV WE w.heap.size (fun j=>j=TB∨∃o,AX=some ⟨j,o,none⟩) v pd Q7):=hS.2;have HBE:Hid (Below w.heap.size w WE):=qmr.out.trans (qir HKE.out qmr.out.size);have g22:vs 22=.bool false:=hG 22 rfl (by decide);simp only[zJ,qP,if_true];rw[g22];clear hG hS q0H qmr HKE wJ T2 HNB HS0;generalize vs 0=y0;generalize vs 1=y1;generalize vs 2=y2;generalize vs 3=y3;generalize vs 4=y4;generalize vs 5=y5;generalize vs 6=y6;generalize vs 7=y7;generalize vs 8=y8;generalize vs 9=y9;generalize vs 10=y10;generalize vs 11=y11;generalize vs 12=y12;generalize vs 13=y13;generalize vs 14=y14;generalize vs 15=y15;generalize vs 16=y16;generalize vs 17=y17;generalize vs 18=y18;generalize vs 19=y19;generalize vs 20=y20;generalize vs 21=y21;clear g22;simp only[Act.put,List.setIfInBounds_toArray,List.set_cons_succ,List.set_cons_zero];have qpo:=QH HVE.out;have qvv:=QH HBE.out;clear HVE HBE;obtain⟨W35,q0I⟩:=QE WE;rw[q0I]at qpo qvv ⊢;clear q0I;go_wp2_with fail;refine(tT H qpo.out (l:=[la,zz]) (by intro t m h;rw[h])).mono ?_;rintro e W36 ⟨A36,c36,rfl,ht,_,hb⟩;have q0J:=QH (qpo.out.below H hb);have q0K:=QH (q9 qvv.out hb);dsimp only at ht ⊢;have T3:=QH ht;clear ht;clear hb qpo qvv;go_wp2_with fail;refine(ch.j9 _ _ [la,zz] _ W36 T3.out (by decide) vb1.2.1).mono ?_;rintro e W37 ⟨rfl,hb⟩;have zcp:=QH (q0J.out.below H hb);have q5Y:=QH (q9 q0K.out hb);have T3n:=QH (T3.out.below hb);clear T3;have T3:=QH T3n.out;clear T3n;clear hb q0J q0K;go_wp2_with fail;go_ret;exact⟨rfl,q5Y.out⟩
end Go.Proofs.YtdagdllomphidaaGreatDoor.vt
namespace Go.Proofs.YtdagdllomphidaaGreatDoor
open _root_.Go.Proofs.Tryz Go.RowKit
def cZs:List Int:=bQ.map Int.ofNat
theorem qvw:(prog.globals[0]?).map (·.type)=some 279:=by kernel_rfl
theorem qpp:prog.cellsOf 279=16:=by kernel_rfl
theorem qvx:prog.cellsOf 250=1:=by kernel_rfl
theorem tU {W:World}{name:String}{rest:List (String × DataW Unit)}(h:laidMet prog ((name,Lib.tabData .u32 cZs)::rest) W)(cg:prog.globalNamed name=some 0):xC W:=by
 have hT:=Lib.tabIs_of_head cg qvw underlying279 underlying250 qvx qpp h;have hc:∀i,i<16→W.cell? ⟨0,i,none⟩=some (.int .u32 ((bQ.getD i 0:Nat):Int)):=by
  intro i hi;have:=hT.cell cg i (by simpa[cZs,bQ]using hi);rw[this];have:∀i:Nat,i<16→cZs.getD i 0=((bQ.getD i 0:Nat):Int):=by decide
  rw[this i hi]
 exact⟨World.block_lt_of_cell? W _ (hc 0 (by omega)),hc⟩
noncomputable def rr (os:Os):World :=
 { World.holding prog os ⟨#[],#[],[]⟩with heap:=(World.holding prog os ⟨#[],#[],[]⟩).heap.modify 0 fun
     | .cells _ t frozen=>.cells (cZs.map fun z=>Value.int .u32 z).toArray t frozen
     | o=>o }
def q0L:List Int:=[128,191,160,191,128,159,144,191,128,143]++List.replicate 22 0
noncomputable def wb (os:Os):World :=
 { rr os with heap:=((rr os).heap.modify 3 fun
     | .cells _ t frozen=>.cells (q0L.map fun z=>Value.int .u8 z).toArray t frozen
     | o=>o).modify 2 fun
     | .cells _ t frozen=>.cells (Go.Pinned.utf8FirstZ.map fun(z:Nat)=>Value.int .u8 (z:Int)).toArray t frozen
     | o=>o }
end Go.Proofs.YtdagdllomphidaaGreatDoor
