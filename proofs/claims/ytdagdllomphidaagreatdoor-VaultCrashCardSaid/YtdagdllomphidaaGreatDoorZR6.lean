/- DkWrite2, DkFlush, DkWake, DkZero, DkIn, DkNil, DkInG, WiText, FUnpack, WiPutT, JMem, JSteps, JRunW, JPlaces, JLay, VgWr. -/
import Derived.Test.YtdagdllomphidaaGreatDoorZR5
import Derived.RegionTactic
import Derived.BigRegion
set_option linter.unusedVariables false
set_option linter.unusedSimpArgs false
set_option maxHeartbeats 30000000
set_option maxRecDepth 100000
namespace Go.Proofs.YtdagdllomphidaaGreatDoor.dk
open _root_.Go.Proofs.Tryz Go Go.RowKit
section
variable {w:World} {p m:Nat} {v:Value} {d:DD} {own:Nat→Prop}
theorem zA.low{most:Nat}(h:zA most w own p d):∀j,own j→j<w.heap.size:=by
 obtain⟨_,m,v,h1⟩:=h;exact h1.2.2.2.2.2.2
theorem zA.below{most:Nat}{w':World}(h:zA most w own p d)(hb:Below w.heap.size w w'):zA most w' own p d :=
 h.keep hb.size (fun j hj=>hb.block j (h.low j hj))
theorem qg3{most:Nat}(h:zA most w own p d)(zS:d.on=true)(k:Int)(hh:d.has k=true)(s:ByteArray)(hs:s.size=32)(hf:d.fits [k]=true)(hop:d.oper.on=false) :
    Calls prog 131 #[.pointer (some ⟨p,0,none⟩),.int .i64 k,.string s] w (xh most own p d.oper (.int .i64 6) w):=by
 have hk0:0≤k∧k<(d.n:Int):=by simpa[DD.has]using hh
 have hn:=h.1.n1;have h2:zA most (w.alloc (.cells #[.int .i64 k] 3)) own p d:=h.below ((Below.refl _ _).alloc (Nat.le_refl _) _);have HF:=QH (fu h2 _ 1 [k] (oT w k (by omega) (by omega)) (by simp));rw[hf]at HF;have H:=QH h;have HO:=QH (fun(W:World) (hW:zA most W own p d)=>oM hW zS);rw[hop]at HO;obtain⟨h0,m,v,h1⟩:=h;have hhas:=kE h1 k;rw[hh]at hhas;have HH:=QH hhas;obtain⟨c0,c1,c2,c3,c4,c5⟩:=jP h1.1;rw[zS]at c4;have hsz:((s.size:Int) == 32)=true:=by rw[beq_iff_eq];omega
 clear h0 h1 c0 c1 c2 c3 c5 zS hhas hh hs hf h2 hk0 hn hop;go_enter func131,ntmps131;go_wp2_with (first|(go_at_call 134;refine HH.out.mono ?_;rintro e w' ⟨rfl,rfl⟩)|(go_at_call 167;refine HF.out.mono ?_;rintro e w2 ⟨rfl,hb2⟩;have qC:=QH (((Below.refl _ w).alloc (Nat.le_refl _) (.cells #[.int .i64 k] 3)).trans (hb2.mono (by simp)));clear hb2;have HW2:=QH (HO.out w2 (H.out.below qC.out)))|(go_at_call 179;refine HW2.out.mono ?_;rintro e w3 ⟨rfl,fS,hd3,hb3,hg3⟩;have HD3:=QH hd3;have qZ:=QH hb3;have HG3:=QH hg3;clear hd3 hb3 hg3));go_ret;exact⟨rfl,fS,HD3.out,(qz.of_below qC.out).trans qZ.out (fun _ h=>.inl h),fun j hj=>by
  rcases HG3.out j hj with h|h
  ·exact .inl h
  ·exact .inr (Nat.le_trans qC.out.size h)⟩
theorem qg4{most:Nat}(h:zA most w own p d)(hm:d.more.length<most)(yZ:most≤100000)(zS:d.on=true)(k:Int)(hh:d.has k=true)(s:ByteArray)(hs:s.size=32)(hf:d.fits [k]=true)(hop:d.oper.on=true) :
    Calls prog 131 #[.pointer (some ⟨p,0,none⟩),.int .i64 k,.string s] w (xh most own p { d.oper with more:=d.more++[(k.toNat,bl s)] } (.int .i64 0) w):=by
 have hk0:0≤k∧k<(d.n:Int):=by simpa[DD.has]using hh
 have hn:=h.1.n1;have h2:zA most (w.alloc (.cells #[.int .i64 k] 3)) own p d:=h.below ((Below.refl _ _).alloc (Nat.le_refl _) _);have HF:=QH (fu h2 _ 1 [k] (oT w k (by omega) (by omega)) (by simp));rw[hf]at HF;have H:=QH h;have HO:=QH (fun(W:World) (hW:zA most W own p d)=>oM hW zS);rw[hop]at HO;obtain⟨h0,m,v,h1⟩:=h;have hhas:=kE h1 k;rw[hh]at hhas;have HH:=QH hhas;obtain⟨c0,c1,c2,c3,c4,c5⟩:=jP h1.1;rw[zS]at c4;have hsz:((s.size:Int) == 32)=true:=by rw[beq_iff_eq];omega
 have HS:=QH hs;have HK:=QH hk0;have HN:=QH hn;have HMO:=QH hm;have HMM:=QH yZ;have HOP:=QH hop;obtain⟨k,rfl⟩:∃j:Nat,k=(j:Int):=⟨k.toNat,by omega⟩;clear h0 h1 c0 c1 c2 c3 c5 zS hhas hh hs hf h2 hk0 hn hop hm yZ;go_enter func131,ntmps131;go_wp2_with (first|(go_at_call 134;refine HH.out.mono ?_;rintro e w' ⟨rfl,rfl⟩)|(go_at_call 167;refine HF.out.mono ?_;rintro e w2 ⟨rfl,hb2⟩;have qC:=QH (((Below.refl _ w).alloc (Nat.le_refl _) (.cells #[.int .i64 (k:Int)] 3)).trans (hb2.mono (by simp)));clear hb2;have HW2:=QH (HO.out w2 (H.out.below qC.out)))|(go_at_call 179;refine HW2.out.mono ?_));rintro e w3 ⟨rfl,fS,hd3,hb3,hg3⟩;have HD3:=QH hd3;have qZ:=QH hb3;have HG3:=QH hg3;obtain⟨h30,m3,v3,h31⟩:=hd3;have H30:=QH h30;have H31:=QH h31;obtain⟨A,c,hA⟩:=yl h31.2.2.1;obtain⟨g0,g1,g2,g3,g4,g5⟩:=jP h31.1;have hp3:=h31.1.lt;have hm3:=h31.2.1.lt;have HLB:Hid (((look d.oper.now (k:Int)).getD zz).length=32):=by
  unfold Hid;cases hx:look d.oper.now (k:Int)with
  | none=>exact qJ
  | some u=>exact h30.qah hx
 clear hb3 hg3 c4 h30 h31 HF HO HH HW2;go_wp2_with (first|(refine qf rfl (qbq _ k rfl rfl) ?_)|(refine qf rfl (jQ rfl) ?_)|(refine wpList_skip rfl (qU w3 125 _ _ (.tmp 7) (.tmp 38) rfl rfl rfl (by rw[vS,List.size_toArray,zf _ qJ qJ]) (by simp[zf,qJ]) (oN _)) ?_)|(refine qf rfl (qdh w3 (.tmp 40) (.tmp 41) k s rfl rfl rfl HS.out) ?_)|(at_lookup;refine qf rfl (gz _ _ rfl rfl (H31.out.2.1.of_block (Below.heap_alloc w3 _ _ hm3)) (k:Int) rfl (by omega) (by have:=HK.out;have:=HN.out;omega)) ?_)|(refine wpList_skip rfl (fp w3 (.tmp 52) (.tmp 50) k (bl s) _ false rfl rfl rfl (by rw[zr,HS.out]) HLB.out) ?_)|(refine wpList_skip rfl (cy w3 (.tmp 53) (.tmp 51) k (bl s) _ _ rfl rfl rfl (by rw[zr,HS.out]) HLB.out) ?_));have HX:Hid (uM (w3.alloc (.cells (qh (k,bl s,(look d.oper.now (k:Int)).getD zz,(look d.oper.now (k:Int)).isSome)).toArray 125)) fS p m3 v3 d.oper) :=
  H31.out.keep (by simp) (fun j hj=>Below.heap_alloc _ _ _ (HD3.out.low j hj))
 have HXB:Hid (qg (w3.alloc (.cells (qh (k,bl s,(look d.oper.now (k:Int)).getD zz,(look d.oper.now (k:Int)).isSome)).toArray 125)) w3.heap.size 125 (qh (k,bl s,(look d.oper.now (k:Int)).getD zz,(look d.oper.now (k:Int)).isSome)).toArray):=qg.new _ _ _;have HXW:Hid (Below w3.heap.size w3 (w3.alloc (.cells (qh (k,bl s,(look d.oper.now (k:Int)).getD zz,(look d.oper.now (k:Int)).isSome)).toArray 125))):=(Below.refl _ _).alloc (Nat.le_refl _) _;have HXS:Hid ((w3.alloc (.cells (qh (k,bl s,(look d.oper.now (k:Int)).getD zz,(look d.oper.now (k:Int)).isSome)).toArray 125)).heap.size=w3.heap.size+1):=by unfold Hid;simp
 have HLX:Hid ((qh (k,bl s,(look d.oper.now (k:Int)).getD zz,(look d.oper.now (k:Int)).isSome)).length=66):=zf _ (by rw[zr,HS.out]) HLB.out;generalize hX:w3.alloc (.cells (qh (k,bl s,(look d.oper.now (k:Int)).getD zz,(look d.oper.now (k:Int)).isSome)).toArray 125)=X at *;clear hX g0 g1 g2 g3 g4 g5;subst hA;obtain⟨g0,g1,g2,g3,g4,g5⟩:=jP HX.out.1;have hf3:=HX.out.1.frozen 3;have hpX:=HX.out.1.lt;simp only[Act.put];refine wp_region_any (by kernel_rfl) ?_
 change wpAny _ _ _ _ _ _ _ (World.drew _)
 refine wpAny_take (i:=0) (v:=.pointer (some ⟨p,0,none⟩)) rfl (by kernel_rfl) (by kernel_rfl) (by kernel_rfl) (fun _ _ _ h=>h) (Or.inl ⟨by rfl,fun w=>by go_simp⟩) ?_;go_simp;refine wpAny_take (i:=1) (v:=.pointer (some ⟨p,0,none⟩)) rfl (by kernel_rfl) (by kernel_rfl) (by kernel_rfl) (fun _ _ _ h=>h) (Or.inl ⟨by rfl,fun w=>by go_simp⟩) ?_;go_simp;refine wpAny_take (i:=2) (v:=.pointer (some ⟨p,0,none⟩)) rfl (by kernel_rfl) (by kernel_rfl) (by kernel_rfl) (fun _ _ _ h=>h) (Or.inl ⟨by rfl,fun w=>by go_simp⟩) ?_;go_simp;refine wpAny_take (i:=3) (v:=.pointer (some ⟨p,3,none⟩)) rfl (by kernel_rfl) (by kernel_rfl) (by kernel_rfl) (fun _ _ _ h=>h) (Or.inl ⟨by rfl,fun w=>by go_simp⟩) ?_;go_simp;refine tj (i:=4) (j:=5) (l:=6) (di:=58) (dj:=59) (dl:=60) (vi:=.slice A d.oper.more.length c) (vj:=.agg (qh (k,bl s,(look d.oper.now (k:Int)).getD zz,(look d.oper.now (k:Int)).isSome)).toArray) (vl:=.slice (some ⟨X.drew.heap.size,0,none⟩) 1 1) (w2:=X.drew.alloc (.cells (qh (k,bl s,(look d.oper.now (k:Int)).getD zz,(look d.oper.now (k:Int)).isSome)).toArray 125))
  (by kernel_rfl) (by kernel_rfl) (by kernel_rfl) (by kernel_rfl) (by kernel_rfl) (by decide) (by decide) rfl rfl rfl rfl rfl rfl rfl rfl rfl (by decide) (by decide) (aa _ rfl p 3 rfl _ _ _ g3) (aa _ rfl p 3 rfl _ _ _ g3) (aa _ rfl p 3 rfl _ _ _ ((World.cell?_of_block (a:=⟨p,3,none⟩) (Below.heap_alloc _ _ _ hpX)).trans g3))
  (dZ _ rfl w3.heap.size rfl _ HXB.out (by rw[List.size_toArray,HLX.out])) (dZ _ rfl w3.heap.size rfl _ HXB.out (by rw[List.size_toArray,HLX.out])) (oP _ _ rfl rfl (by rw[List.size_toArray,HLX.out])) (oP _ _ rfl rfl (by rw[List.size_toArray,HLX.out])) ?_
 have qnE:=HX.out.2.2.1;have q0i:=HX.out.2.2.2.2.2.2;have qtJ:qg (X.drew.alloc (.cells (qh (k,bl s,(look d.oper.now (k:Int)).getD zz,(look d.oper.now (k:Int)).isSome)).toArray 125)) X.drew.heap.size 125 (qh (k,bl s,(look d.oper.now (k:Int)).getD zz,(look d.oper.now (k:Int)).isSome)).toArray:=qg.new _ _ _;have qnF:(X.drew.alloc (.cells (qh (k,bl s,(look d.oper.now (k:Int)).getD zz,(look d.oper.now (k:Int)).isSome)).toArray 125)).ownsRow 0 125 66 (.slice A d.oper.more.length c) d.oper.more.length (yY (ji d.oper.base d.oper.more)) :=
  zm (w:=X) qnE (fun j hj=>Below.heap_alloc X.drew _ j (jO qnE j hj))
 have hml:d.oper.more.length<100000:=by rw[(xQ d).2.1];have:=HMO.out;have:=HMM.out;omega
 obtain⟨i0,hi,hz0,hz1,hz2⟩:=info_parts qfO;refine qL (i:=7) (by kernel_rfl) rfl rfl ?_;refine qbr (.tmp 58) (.tmp 60) 105 rfl 0 125 i0 _ 66 80 underlying105 hi hz0 hz1 hz2 (by simp[Value.cells,zf,qJ]) (by decide) _ _ _ rfl qnF ⟨X.drew.heap.size,0,none⟩ 1 1 (qh (k,bl s,(look d.oper.now (k:Int)).getD zz,(look d.oper.now (k:Int)).isSome)) rfl (by rw[HLX.out]) ?_ (dY _) (by unfold maxLen;omega) (by omega) (Nat.zero_le _) ?_
 ·intro j u hu;rw[addr_add,Nat.zero_add,qtJ.cell j];simpa using hu
 intro v7 w7 qig qwb qnG;obtain⟨A7,c7,rfl⟩:=yl qig;have hne:=HX.out.ne;have q0j:(X.drew.alloc (.cells (qh (k,bl s,(look d.oper.now (k:Int)).getD zz,(look d.oper.now (k:Int)).isSome)).toArray 125)).heap.size=X.heap.size+1:=by simp
 have qbE:∀j,j<X.heap.size→(Value.slice A d.oper.more.length c).ownBlock≠some j→w7.heap[j]?=X.heap[j]? :=fun j hj hn =>
  (qwb.block j (by rw[q0j];omega) (fun e=>hn e.symm)).trans (Below.heap_alloc X.drew _ j hj)
 have q5P:=HX.out.2.1.lt;have hP7:w7.heap[p]?=X.heap[p]? :=qbE p hpX (fun e=>(hne.2 _ e).1 rfl);have hM7:w7.heap[m3]?=X.heap[m3]? :=qbE m3 q5P (fun e=>(hne.2 _ e).2 rfl);have hvb:∀j,(Value.slice A d.oper.more.length c).ownBlock=some j→j<w3.heap.size:=fun j hj=>HD3.out.low j (HX.out.2.2.2.2.2.1 j hj);have hS7:w7.heap[w3.heap.size]?=X.heap[w3.heap.size]? :=qbE _ (by rw[HXS.out];omega) (fun e=>by have:=hvb _ e;omega);have qtK:Hid (qz fS w3 w7):=by
  refine((qz.of_below (S:=fS) HXW.out).drew.alloc _).grown qwb (fun j hj=>.inl (HX.out.2.2.2.2.2.1 j hj))
 have qnH:∀j,(Value.slice A7 (d.oper.more.length+1) c7).ownBlock=some j→fS j∨w3.heap.size≤j:=by
  intro j hj;rcases qnG with e|e
  ·exact .inl (HX.out.2.2.2.2.2.1 j (e.symm.trans hj))
  ·rw[hj]at e;injection e with e
   right
   have:=HXS.out;have e2:X.drew.alloc (.cells (qh (k,bl s,(look d.oper.now (k:Int)).getD zz,(look d.oper.now (k:Int)).isSome)).toArray 125)=X.drew.alloc (.cells (qh (k,bl s,(look d.oper.now (k:Int)).getD zz,(look d.oper.now (k:Int)).isSome)).toArray 125):=rfl;omega
 have q0k:∀j,(Value.slice A7 (d.oper.more.length+1) c7).ownBlock=some j→j<w7.heap.size:=jO qig;have qtL:∀j,(Value.slice A7 (d.oper.more.length+1) c7).ownBlock=some j→j≠p∧j≠m3:=by
  intro j hj;rcases qnG with e|e
  ·exact hne.2 j (e.symm.trans hj)
  ·rw[hj]at e;injection e with e
   exact⟨by omega,by omega⟩
 have HP7:Hid (qg w7 p 107 #[.int .i64 (d.oper.n:Int),.int .i64 d.oper.room,.map (some m3),.slice A d.oper.more.length c,.bool d.oper.on,.int .i64 d.oper.qu]):=HX.out.1.of_block hP7;have HM7:Hid (zI w7 m3 d.oper.now):=HX.out.2.1.of_block hM7;have HS7:Hid (qg w7 w3.heap.size 125 (qh (k,bl s,(look d.oper.now (k:Int)).getD zz,(look d.oper.now (k:Int)).isSome)).toArray):=HXB.out.of_block hS7;have HO7:=QH qig;have HBL:=QH qnH;have HLT:=QH q0k;have HPN:=QH qtL;have sI:=QH hne;have iX:Hid (w3.heap.size≤w7.heap.size):=qtK.out.size;have k3:=HP7.out.cell 3;have fr3:=HP7.out.frozen 3;have hp7:=HP7.out.lt;clear hS7 hM7 hP7 qbE qwb qnG qig qnE qnF qtJ qnH q0k qtL hne q0j q0i g0 g1 g2 g3 g4 g5 hf3 hi hz0 hz1 hz2 hvb hml;go_simp;refine qL (i:=8) (by kernel_rfl) rfl rfl ?_;go_simp;refine qL (i:=9) (by kernel_rfl) rfl rfl ?_;go_simp;refine qL (i:=10) (by kernel_rfl) rfl rfl ?_;go_simp;refine⟨by kernel_rfl,?_⟩;go_wp2_with fail;have HP8:Hid (qg (w7.setCell ⟨p,3,none⟩ (.slice A7 (d.oper.more.length+1) c7)) p 107 #[.int .i64 (d.oper.n:Int),.int .i64 d.oper.room,.map (some m3),.slice A7 (d.oper.more.length+1) c7,.bool d.oper.on,.int .i64 d.oper.qu]):=HP7.out.ql 3 _;have HM8:Hid (zI (w7.setCell ⟨p,3,none⟩ (.slice A7 (d.oper.more.length+1) c7)) m3 d.oper.now):=HM7.out.of_block (zV _ _ _ _ _ (fun e=>sI.out.1 e.symm));have HS8:Hid (qg (w7.setCell ⟨p,3,none⟩ (.slice A7 (d.oper.more.length+1) c7)) w3.heap.size 125 (qh (k,bl s,(look d.oper.now (k:Int)).getD zz,(look d.oper.now (k:Int)).isSome)).toArray):=HS7.out.of_block (zV _ _ _ _ _ (by omega));have HO8:Hid ((w7.setCell ⟨p,3,none⟩ (.slice A7 (d.oper.more.length+1) c7)).ownsRow 0 125 66 (.slice A7 (d.oper.more.length+1) c7) (d.oper.more.length+1) (yY (ji d.oper.base d.oper.more)++qh (k,bl s,(look d.oper.now (k:Int)).getD zz,(look d.oper.now (k:Int)).isSome))) :=
  zm HO7.out (fun j hj=>zV _ _ _ _ _ (HPN.out j hj).1)
 have qtM:Hid (qz fS w3 (w7.setCell ⟨p,3,none⟩ (.slice A7 (d.oper.more.length+1) c7))):=qtK.out.setCell _ _ (.inl H31.out.2.2.2.1);have q0m:Hid ((w7.setCell ⟨p,3,none⟩ (.slice A7 (d.oper.more.length+1) c7)).heap.size=w7.heap.size):=by unfold Hid;simp[size_set]
 generalize hw8:w7.setCell ⟨p,3,none⟩ (.slice A7 (d.oper.more.length+1) c7)=w8 at *;clear hw8 k3 fr3;have q2:=HP8.out.cell 2;have hp8:=HP8.out.lt;have qnI:=rowOf (k,bl s,(look d.oper.now (k:Int)).getD zz,(look d.oper.now (k:Int)).isSome) (by rw[zr,HS.out]) HLB.out;have q5R:=QH qnI;have hlb:(Lib.byteCells (bl s)).length=32:=by rw[Lib.byteCells_length,zr,HS.out]
 have HLb:=QH hlb;clear qnI hlb;refine xc 7 (by kernel_rfl) (by kernel_rfl) ?_;simp only[List.take_succ_cons,List.take_zero,List.drop_succ_cons,List.drop_zero]
 iterate 6 still_step
 refine yI rfl (qy _ _ rfl w3.heap.size 1 rfl _ _ (Lib.byteCells (bl s)) _ _ HS8.out underlying123 rfl (by rw[cq,HLb.out]) q5R.out.data) ?_;refine wpStill_nil ?_;have hnl:d.oper.now.length=d.n:=by rw[d.oper.yK,qmV]
 have hkn:k<d.oper.now.length:=by rw[hnl];have:=HK.out;omega
 have q0n:d.oper.now.length≤1024:=by rw[hnl];exact HN.out
 have HNL:=QH hnl;have HKN:=QH hkn;have q5S:=QH q0n;clear hnl hkn q0n;refine kY (w:=w8.drew) rfl _ _ _ rfl rfl HM8.out k rfl (bl s) rfl HKN.out q5S.out ?_;intro w9 hm9 ht9;have HM9:=QH hm9;have HT9:=QH (yL ht9);clear hm9 ht9;go_wp2_with fail;go_ret;have hb9:∀j,j<w8.heap.size→j≠m3→w9.heap[j]?=w8.heap[j]? :=fun j hj hn=>HT9.out.block j hj hn;have zcy:m3<w8.heap.size:=HM8.out.lt;refine⟨rfl,fun j=>fS j∨(Value.slice A7 (d.oper.more.length+1) c7).ownBlock=some j,⟨?_,m3,.slice A7 (d.oper.more.length+1) c7,?_⟩,?_,?_⟩
 ·refine { H30.out with oH:=?_,at1:=?_ }
  ·simp;have:=HMO.out;omega
  ·intro x hx;simp only[List.mem_append,List.mem_singleton]at hx;rcases hx with hx|rfl
   ·exact H30.out.at1 x (by rw[(xQ d).2.1];exact hx)
   ·refine⟨?_,by show(bl s).length=32;rw[zr,HS.out]⟩;show k<d.oper.n;rw[qmV];have:=HK.out;omega
 ·have hd:({ d.oper with more:=d.more++[((k:Int).toNat,bl s)] }:DD).now=put d.oper.now k (bl s):=by
     show qO d.oper.base (d.more++[((k:Int).toNat,bl s)])=_;rw[wy,← (xQ d).2.1];rfl
  refine⟨?_,by rw[hd];exact HM9.out,?_,.inl HX.out.2.2.2.1,.inl HX.out.2.2.2.2.1,fun j hj=>.inr hj,?_⟩
  ·exact HP8.out.of_block (hb9 p hp8 sI.out.1)
  ·have e1:(d.more++[((k:Int).toNat,bl s)]).length=d.oper.more.length+1:=by rw[(xQ d).2.1];simp
   have e2:yY (ji d.oper.base (d.more++[((k:Int).toNat,bl s)]))=yY (ji d.oper.base d.oper.more)++qh (k,bl s,(look d.oper.now (k:Int)).getD zz,(look d.oper.now (k:Int)).isSome):=by
    rw[Int.toNat_natCast,qai,qfQ,(xQ d).2.1,ae];rw[show qO d.oper.base d.more=d.now from by rw[(xQ d).1];rfl]
   show w9.ownsRow 0 _ 66 _ (d.more++[((k:Int).toNat,bl s)]).length (yY (ji d.oper.base (d.more++[((k:Int).toNat,bl s)])));rw[e1,e2];exact zm HO8.out (fun j hj=>hb9 j (by rw[q0m.out];exact HLT.out j hj) (HPN.out j hj).2)
  ·intro j hj;have h9:=HT9.out.size;have h8:=qtM.out.size;have e9:w8.drew.heap.size=w8.heap.size:=rfl;rcases hj with hj|hj
   ·have:=HD3.out.low j hj;omega
   ·have:=HLT.out j hj;have:=q0m.out;omega
 ·have t1:qz own w w2:=qz.of_below qC.out;have t2:qz own w w3:=t1.trans qZ.out (fun _ h=>.inl h);refine(t2.trans qtM.out ?_).drew.trans HT9.out ?_
  ·intro j hj;rcases HG3.out j hj with h|h
   ·exact .inl h
   ·exact .inr (Nat.le_trans qC.out.size h)
  ·intro j hj;subst hj;rcases HG3.out _ HX.out.2.2.2.2.1 with h|h
   ·exact .inl h
   ·exact .inr (Nat.le_trans qC.out.size h)
 ·intro j hj;have hj2:fS j∨w3.heap.size≤j:=by
   rcases hj with hj|hj
   ·exact .inl hj
   ·exact HBL.out j hj
  have s2:=qC.out.size;have s3:=qZ.out.size;rcases hj2 with hj2|hj2
  ·rcases HG3.out j hj2 with h|h
   ·exact .inl h
   ·exact .inr (by omega)
  ·exact .inr (by omega)
end
end Go.Proofs.YtdagdllomphidaaGreatDoor.dk
namespace Go.Proofs.YtdagdllomphidaaGreatDoor.dk
open _root_.Go.Proofs.Tryz Go Go.RowKit
section
variable {w:World} {p m:Nat} {v:Value} {d:DD} {own:Nat→Prop}
theorem lC {most:Nat}(h:zA most w own p d)(hm:d.more.length<most)(yZ:most≤100000)(k:Int)(s:ByteArray) :
    Calls prog 131 #[.pointer (some ⟨p,0,none⟩),.int .i64 k,.string s] w (xh most own p (d.write k (bl s)).2 (.int .i64 (d.write k (bl s)).1) w):=by
 unfold DD.write;by_cases h1:d.on=false
 ·rw[if_pos h1];exact bh h h1 k s
 ·rw[if_neg h1];have h1':d.on=true:=by simpa using h1
  by_cases h2:d.has k=false
  ·rw[if_pos (.inl h2)];exact qjt h h1' k h2 s
  ·have h2':d.has k=true:=by simpa using h2
   by_cases h3:s.size=32
   ·rw[if_neg (by rw[zr];rintro(h|h);exact h2 h;exact h h3)];have hf:=qmW d k h2';by_cases h4:(look d.now k).isSome=false∧d.room≤(d.used:Int)
    ·rw[if_pos h4];refine qfS h h1' k h2' s h3 ?_;rw[hf,h4.1,Bool.false_or];simp only[decide_eq_false_iff_not];omega
    ·rw[if_neg h4];have hf':d.fits [k]=true:=by
      rw[hf];by_cases h5:(look d.now k).isSome=true
      ·rw[h5];rfl
      ·have h5':(look d.now k).isSome=false:=by simpa using h5
       rw[h5',Bool.false_or];simp only[decide_eq_true_eq];have:¬ d.room≤(d.used:Int):=fun e=>h4 ⟨h5',e⟩;omega
     by_cases h5:d.oper.on=false
     ·rw[if_pos h5];exact qg3 h h1' k h2' s h3 hf' h5
     ·rw[if_neg h5];exact qg4 h hm yZ h1' k h2' s h3 hf' (by simpa using h5)
   ·rw[if_pos (.inr (by rw[zr];exact h3))];exact qju h h1' k h2' s h3
theorem qkb{most:Nat}(h:zA most w own p d) :
    Calls prog 132 #[.pointer (some ⟨p,0,none⟩)] w (xh most own p d.flush.2 (.int .i64 d.flush.1) w):=by
 unfold DD.flush;by_cases zS:d.on=false
 ·rw[if_pos zS];have H:=QH h;obtain⟨h0,m,v,h1⟩:=h;obtain⟨c0,c1,c2,c3,c4,c5⟩:=jP h1.1;rw[zS]at c4;clear h0 h1 c0 c1 c2 c3 c5 zS;go_enter func132,ntmps132;go_wp2_with fail;go_ret;exact⟨rfl,own,H.out,qz.refl _ _,ue.refl _ _⟩
 ·rw[if_neg zS];have qwd:d.on=true:=by simpa using zS
  have HO:=QH (oM h qwd);have H:=QH h;have hp:=h.2.choose_spec.choose_spec.1.lt;obtain⟨h0,m,v,h1⟩:=h;obtain⟨c0,c1,c2,c3,c4,c5⟩:=jP h1.1;rw[qwd]at c4;clear h0 h1 c0 c1 c2 c3 c5 zS qwd;by_cases hop:d.oper.on=false
  ·rw[if_pos hop];rw[hop]at HO;clear hop;go_enter func132,ntmps132;go_wp2_with (go_at_call 179;refine HO.out.mono ?_;rintro e w3 ⟨rfl,fS,hd3,hb3,hg3⟩;have HD3:=QH hd3;have qZ:=QH hb3;have HG3:=QH hg3;clear hd3 hb3 hg3);go_ret;exact⟨rfl,fS,HD3.out,qZ.out,HG3.out⟩
  ·rw[if_neg hop];rw[show d.oper.on=true by simpa using hop]at HO;clear hop;go_enter func132,ntmps132;go_wp2_with (go_at_call 179;refine HO.out.mono ?_);rintro e w3 ⟨rfl,fS,hd3,hb3,hg3⟩;have HD3:=QH hd3;have qZ:=QH hb3;have HG3:=QH hg3;obtain⟨h30,m3,v3,h31⟩:=hd3;have H30:=QH h30;have H31:=QH h31;obtain⟨A,c,rfl⟩:=yl h31.2.2.1;obtain⟨g0,g1,g2,g3,g4,g5⟩:=jP h31.1;have f3:=h31.1.frozen 3;have hp3:=h31.1.lt;clear hb3 hg3 c4 h30 h31 HO;go_wp2_with fail;go_ret;have hne:=H31.out.ne;refine⟨rfl,fS,⟨?_,m3,.slice none 0 0,?_⟩,qZ.out.trans (S':=fS) ((qz.refl _ _).setCell _ _ (.inl H31.out.2.2.2.1)) HG3.out,HG3.out⟩
   ·have hl:d.now.length=d.oper.n:=by rw[← ae];exact d.oper.yK
    refine { H30.out with n0:=?_,n1:=?_,oH:=Nat.zero_le _,at1:=fun _ h=>by simp at h,qag:=?_ }
    ·show 1≤d.now.length;rw[hl];exact H30.out.n0
    ·show d.now.length≤1024;rw[hl];exact H30.out.n1
    ·show ∀v,some v∈d.now→v.length=32;rw[← ae];exact H30.out.qz4
   ·obtain⟨b1,b2,b3,b4,b5,b6,b7⟩:=H31.out;refine⟨?_,?_,⟨rfl,.inl ⟨rfl,rfl⟩⟩,b4,b5,fun k hk=>by simp[Value.ownBlock]at hk,fun k hk=>by rw[size_set];exact b7 k hk⟩
    ·have hl:(DD.n { d.oper with base:=d.now,more:=[] })=d.oper.n:=by
        show d.now.length=d.oper.n;rw[← ae];exact d.oper.yK
     rw[hl];exact b1.ql 3 _
    ·have hn:(DD.now { d.oper with base:=d.now,more:=[] })=d.oper.now:=by
        show d.now=d.oper.now;rw[ae]
     rw[hn];exact b2.of_block (zV _ _ _ _ _ (fun e=>hne.1 e.symm))
end
end Go.Proofs.YtdagdllomphidaaGreatDoor.dk
namespace Go.Proofs.YtdagdllomphidaaGreatDoor.dk
open _root_.Go.Proofs.Tryz Go Go.RowKit Go.Shelf
attribute [local go_sem] Oper.semAt_some
def gL (w:World)(a:Option Addr)(bs:List Bool):Prop :=
 ∀i (h:i<bs.length),∃b o,a=some ⟨b,o,none⟩∧b<w.heap.size∧w.cell? ⟨b,o+i,none⟩=some (.bool bs[i])
theorem lift{α:Type}{P:α→Prop}(l:List α)(h:∀x∈l,P x):∃L:List { x // P x },L.map (·.1)=l :=
 ⟨l.attachWith P h,by simp[List.attachWith,List.map_pmap]⟩
theorem qnJ:∀(l:List (Nat × Bt)) (s:qB),(∀x∈l,x.1<s.length∧x.2.length=32)→(∀v,some v∈s→v.length=32)→∀x∈ji s l,x.1<s.length∧x.2.1.length=32∧x.2.2.1.length=32
 | [],_,_,_,x,hx=>by simp[ji]at hx
 | (k,v)::r,s,h,hs,x,hx=>by
  simp only[ji,List.mem_cons]at hx;have h0:=h (k,v) (by simp);rcases hx with rfl|hx
  ·refine⟨h0.1,h0.2,?_⟩;show((look s (k:Int)).getD zz).length=32;cases hl:look s (k:Int)with
   | none=>exact qJ
   | some u=>exact hs u (qda hl)
  ·have hl:(put s k v).length=s.length:=by simp[put]
   have:=qnJ r (put s k v) (fun y hy=>by rw[hl];exact h y (by simp[hy])) (fun u hu=>by
    rcases mem_set hu with h' | h'
    ·exact hs u h'
    ·injection h' with h';subst h';exact h0.2) x hx
   rw[hl]at this;exact this
theorem qr7(t:Array Value)(a b:Value):Array.foldl (fun t (x:Tmp × Value)=>t.setIfInBounds x.fst x.snd) t (#[29,30].zip #[a,b])=(t.setIfInBounds 29 a).setIfInBounds 30 b:=by simp
theorem wO {n:Nat}:∀(pre:List (Nat × Wr n)) (s:qB),(pre.foldl (fun s y=>sY s y.2.1) s).length=s.length
 | [],_=>rfl
 | y::pre,s=>by
  rw[List.foldl_cons,wO pre];unfold sY put;split <;> simp
theorem qnK{n:Nat}(base:qB)(more:List (Nat × Bt))(L:List (Wr n))(hL:L.map (fun x=>x.1)=ji base more):(aB L).foldl (fun s y=>sY s y.2.1) (qO base more)=base:=by
 have hlen:L.length=more.length:=by rw[← jC more base,← hL,List.length_map]
 have key:∀r,r≤L.length→((aB L).take r).foldl (fun s y=>sY s y.2.1) (qO base more)=qO base (more.take (more.length-r)):=by
  intro r
  induction r with
  | zero=>intro _;simp
  | succ r ih =>
   intro h;have hr:r<L.length:=by omega
   have hj:L.length-1-r<more.length:=by omega
   rw[List.take_add_one,qa1 L r hr,Option.toList_some,List.foldl_append,ih (by omega)];simp only[List.foldl_cons,List.foldl_nil];have hx:(ji base more)[L.length-1-r]?=some (L[L.length-1-r]'(by omega)).1:=by
    rw[← hL,List.getElem?_map,List.getElem?_eq_getElem (by omega)];rfl
   have:=qjq more base (L.length-1-r) hj _ hx;rw[show more.length-r=L.length-1-r+1 by omega,this,show more.length-(r+1)=L.length-1-r by omega]
 have:=key L.length (Nat.le_refl _);rw[List.take_of_length_le (by rw[gK];exact Nat.le_refl _),hlen,Nat.sub_self]at this;simpa[qO]using this
section
variable {w:World} {p m:Nat} {v:Value} {d:DD} {own:Nat→Prop}
theorem qdK{most:Nat}(h:zA most w own p d)(yZ:most≤100000)(zS:d.on=false)(A:Option Addr)(c:Nat)(bs:List Bool)(hb:gL w A bs)(hbo:∀b o,A=some ⟨b,o,none⟩→0<bs.length→¬ own b) :
    Calls prog 21 #[.pointer (some ⟨p,0,none⟩),.slice A bs.length c] w (xh most own p (d.sZ bs) (.tuple #[]) w):=by
 have H:=QH h;have hl:=h.low;obtain⟨h0,m,v,h1⟩:=h;obtain⟨c0,c1,c2,c3,c4,c5⟩:=jP h1.1;rw[zS]at c4;have hp:=h1.1.lt;have hm:=h1.2.1.lt;have f3:=h1.1.frozen 3;have f4:=h1.1.frozen 4;have HL:=QH hl;have H0:=QH h0;have H1:=QH h1;have HB:=QH hb;have HON:=QH zS;obtain⟨Av,cv,hv⟩:=yl h1.2.2.1;subst hv;clear h0 h1 zS hl hb;refine(callsIn_wide (n:=9)).1 (callsIn_of_wp_marks func21 rfl trivial ?_ rfl);refine wpIn_wide.2 ?_;simp only[ntmps21,List.size_toArray,List.length_cons,List.length_nil,Nat.reduceAdd,Nat.reduceSub,Array.replicate_succ,Array.replicate_zero,List.push_toArray,List.append_toArray,List.nil_append,List.cons_append];go_wp2_with fail;go_region;have HBO:=QH hbo;have hne:=H1.out.ne;have sI:=QH hne;have sX:Hid (qg (((w.setCell ⟨p,4,none⟩ (.bool true)).setCell ⟨p,3,none⟩ (.slice none 0 0)).alloc (.cells #[.pointer (some ⟨p,0,none⟩)] 24)).drew p 107 #[.int .i64 (d.n:Int),.int .i64 d.room,.map (some m),.slice none 0 0,.bool true,.int .i64 d.qu]) :=
  ((H1.out.1.ql 4 (.bool true)).ql 3 (.slice none 0 0)).of_block (Below.heap_alloc _ _ _ (by simp[size_set];omega))
 have fT:∀j,j<w.heap.size→j≠p→(((w.setCell ⟨p,4,none⟩ (.bool true)).setCell ⟨p,3,none⟩ (.slice none 0 0)).alloc (.cells #[.pointer (some ⟨p,0,none⟩)] 24)).drew.heap[j]?=w.heap[j]? :=fun j hj hn =>
  ((Below.heap_alloc _ _ j (by simp[size_set];omega)).trans (zV _ _ _ _ _ hn)).trans (zV _ _ _ _ _ hn)
 have HM1:Hid (zI (((w.setCell ⟨p,4,none⟩ (.bool true)).setCell ⟨p,3,none⟩ (.slice none 0 0)).alloc (.cells #[.pointer (some ⟨p,0,none⟩)] 24)).drew m d.now):=H1.out.2.1.of_block (fT m hm (fun e=>hne.1 e.symm));have HO1:Hid ((((w.setCell ⟨p,4,none⟩ (.bool true)).setCell ⟨p,3,none⟩ (.slice none 0 0)).alloc (.cells #[.pointer (some ⟨p,0,none⟩)] 24)).drew.ownsRow 0 125 66 (.slice Av d.more.length cv) d.more.length (yY (ji d.base d.more))) :=
  zm H1.out.2.2.1 (fun j hj=>fT j (jO H1.out.2.2.1 j hj) (hne.2 j hj).1)
 have HX1:Hid (qg (((w.setCell ⟨p,4,none⟩ (.bool true)).setCell ⟨p,3,none⟩ (.slice none 0 0)).alloc (.cells #[.pointer (some ⟨p,0,none⟩)] 24)).drew w.heap.size 24 #[.pointer (some ⟨p,0,none⟩)]):=by
  have:=heap_alloc_new ((w.setCell ⟨p,4,none⟩ (.bool true)).setCell ⟨p,3,none⟩ (.slice none 0 0)) (.cells #[.pointer (some ⟨p,0,none⟩)] 24)
  rwa [size_set,size_set]at this
 have qtN:Hid (qz own w (((w.setCell ⟨p,4,none⟩ (.bool true)).setCell ⟨p,3,none⟩ (.slice none 0 0)).alloc (.cells #[.pointer (some ⟨p,0,none⟩)] 24)).drew) :=
  ((((qz.refl _ _).setCell _ _ (.inl H1.out.2.2.2.1)).setCell _ _ (.inl H1.out.2.2.2.1)).alloc _).drew
 have gZ:Hid ((((w.setCell ⟨p,4,none⟩ (.bool true)).setCell ⟨p,3,none⟩ (.slice none 0 0)).alloc (.cells #[.pointer (some ⟨p,0,none⟩)] 24)).drew.heap.size=w.heap.size+1):=by unfold Hid;simp[size_set]
 generalize hW1:(((w.setCell ⟨p,4,none⟩ (.bool true)).setCell ⟨p,3,none⟩ (.slice none 0 0)).alloc (.cells #[.pointer (some ⟨p,0,none⟩)] 24)).drew=W1 at *;clear hW1 fT hne hbo c0 c1 c2 c3 c4 c5 f3 f4;have hN:d.more.length≤1000000:=by have:=H0.out.oH;omega
 obtain⟨L,hL⟩:=lift (P:=fun x=>x.1<d.n∧x.2.1.length=32∧x.2.2.1.length=32) (ji d.base d.more) (qnJ d.more d.base H0.out.at1 H0.out.qag);have hLl:L.length=d.more.length:=by rw[← jC d.more d.base,← hL,List.length_map]
 have HLL:=QH hLl;have HLM:=QH hL;clear hL hLl;go_wp2_with (go_at_call 61;refine(callsIn_wide (n:=9).1 (qdJ Fence.wide 9 trivial rfl _ _ _ _)).mono ?_;rintro e w' ⟨rfl,rfl⟩);have q0r:(W1.alloc (.cells #[.slice Av d.more.length cv] 105)).heap.size=w.heap.size+1+1:=by rw[World.size_alloc,gZ.out]
 have HBs:Hid (qg (W1.alloc (.cells #[.slice Av d.more.length cv] 105)) W1.heap.size 105 #[.slice Av d.more.length cv]):=qg.new _ _ _;have qdL:∀j,j<W1.heap.size→(W1.alloc (.cells #[.slice Av d.more.length cv] 105)).heap[j]?=W1.heap[j]? :=fun j hj=>Below.heap_alloc _ _ j hj;have sK:Hid (qg (W1.alloc (.cells #[.slice Av d.more.length cv] 105)) p _ _):=sX.out.of_block (qdL p sX.out.lt);have HM2:Hid (zI (W1.alloc (.cells #[.slice Av d.more.length cv] 105)) m d.now):=HM1.out.of_block (qdL m HM1.out.lt);have uX:Hid ((W1.alloc (.cells #[.slice Av d.more.length cv] 105)).ownsRow 0 125 66 (.slice Av d.more.length cv) d.more.length (yY (ji d.base d.more))):=zm HO1.out (fun j hj=>qdL j (jO HO1.out j hj));have iG:Hid (qg (W1.alloc (.cells #[.slice Av d.more.length cv] 105)) w.heap.size 24 #[.pointer (some ⟨p,0,none⟩)]):=HX1.out.of_block (qdL _ HX1.out.lt);have qih:Hid (qz own w (W1.alloc (.cells #[.slice Av d.more.length cv] 105))):=qtN.out.alloc _;have qkc:=gZ.out;generalize hW2:W1.alloc (.cells #[.slice Av d.more.length cv] 105)=W2 at *;rw[qkc]at HBs;have qnL:=qg2 Fence.wide 8 trivial rfl (by decide) (w.heap.size+1) (.slice Av d.more.length cv) L (by have:=HLL.out;omega) W2 HBs.out (by rw[HLL.out,HLM.out];exact uX.out);have HST:=QH qnL;have q0s:=QH q0r;clear hW2 qdL qnL q0r;rw[qkc];clear qkc gZ sX HM1 HO1 HX1 qtN;have hs2:=q0s.out;refine wpIn_wide.1 (wpIn_rangeFunc_ownH (F:=Fence.wide) (n:=9) rfl (by decide) (gf:=111) (lb:=#[.pointer (some ⟨w.heap.size+1,0,none⟩)]) rfl trivial (enters_of func111 (by kernel_rfl) rfl) HST.out
  (fun h k b hb=>(k b hb).trans (h b hb)) ?hKb (Below.refl _ _) (fun _=>rfl)
  (fun pre W=>zI W m (pre.foldl (fun s y=>sY s y.2.1) d.now)∧qz (fun k=>k=m) W2 W) (fun _ _ _=>False) ?hI (fun _ _ _ _ _ hs _ _=>hs) ⟨HM2.out,qz.refl _ _⟩
  (fun x a' W=>∃Bx,W2.heap.size≤Bx∧qg W Bx 125 (qh x.2.1).toArray∧a'={ tmps:=#[.pointer (some ⟨p,0,none⟩),.slice A bs.length c,.pointer (some ⟨w.heap.size,0,none⟩),undef,.slice Av d.more.length cv,undef,.pointer (some ⟨Bx,0,none⟩),undef,undef,.pointer (some ⟨p,0,none⟩),.bool false,.bool false,.pointer (some ⟨p,0,none⟩),.pointer (some ⟨p,0,none⟩),.pointer (some ⟨p,4,none⟩),.bool false,.bool false,.pointer (some ⟨p,0,none⟩),.pointer (some ⟨p,0,none⟩),.pointer (some ⟨p,3,none⟩),.slice Av d.more.length cv,.pointer (some ⟨p,0,none⟩),.pointer (some ⟨p,0,none⟩),.pointer (some ⟨p,0,none⟩),.pointer (some ⟨p,4,none⟩),.pointer (some ⟨p,0,none⟩),.pointer (some ⟨p,3,none⟩),.slice Av d.more.length cv,.func (.func 111) #[] #[.pointer (some ⟨w.heap.size+1,0,none⟩)],.int .i64 (x.1:Int),.agg (qh x.2.1).toArray,undef,undef,undef,undef,undef,undef,undef,undef,undef,undef,undef,undef,undef,undef,undef,undef,undef,undef,undef,undef,undef,undef,undef,undef,undef,undef,undef,undef,undef],defers:=[] })
  ?hAx ?assign ?body ?done ?stop)
 case hKb =>
  intro W l o o' hl ho _ _ b hb;refine World.putObj_heap_other ?_;rcases hb with rfl|hb
  ·omega
  ·have:=jO uX.out b hb;omega
 case hI =>
  intro pre W W' row ⟨h1,h2⟩ hg hr;have hm2:=HM2.out.lt;refine⟨h1.of_block (hg.block m h1.lt (fun e=>by have:=(hr m e.symm).1;omega)),?_⟩;exact h2.grown hg (fun k e=>.inr (hr k e).1)
 case hAx =>
  intro x a' _ W W' row ⟨Bx,h1,h2,h3⟩ hg hr;refine⟨Bx,h1,h2.of_block (hg.block Bx h2.lt (fun e=>?_)),h3⟩;obtain⟨_,o,ho,hc⟩:=hr Bx e.symm;unfold qg at h2;rw[h2]at ho;injection ho with ho
  subst ho;cases hc
 case assign =>
  rintro l pre x W K ⟨hi1,ov⟩ hK;have HK:=QH hK;have HI1:=QH hi1;have HI2:=QH ov;have nA:(qh x.2.1).length=66:=zf _ x.2.2.2.1 x.2.2.2.2;have fU:=QH nA;have HXA:=QH (oN x.2.1);clear hK hi1 ov nA;dsimp only[qr5];rw[qr7];simp only[List.setIfInBounds_toArray,List.set_cons_succ,List.set_cons_zero]
  gi_wp2_with (first|(refine uZ rfl (fun c h=>by cases h) (qdI _ rfl) (jQ rfl) ?_)|(refine pZ rfl (fun c h=>by cases h) (qdH _ _ _ rfl) (qU W 125 _ _ (.tmp 6) (.tmp 30) rfl rfl rfl (by rw[vS,List.size_toArray,fU.out]) (by rw[List.size_toArray,List.size_toArray,fU.out];exact zf _ qJ qJ) HXA.out) ?_))
  refine HK.out _ _ ((KeepsOthers.alloc _ _).from _) (fun b hb=>Below.heap_alloc _ _ b ?_) ⟨HI1.out.of_block (Below.heap_alloc _ _ _ HI1.out.lt),HI2.out.alloc _⟩ ⟨W.heap.size,HI2.out.size,qg.new _ _ _,rfl⟩;have h1:=HI2.out.size;rcases hb with rfl|hb
  ·omega
  ·have:=jO uX.out b hb;omega
 case body =>
  rintro l pre x a' W hl _ ⟨hi1,ov⟩ ⟨Bx,hBx,hX,rfl⟩ hlen;have hm2:=HM2.out.lt;have aC:∀j,j<W2.heap.size→j≠m→W.heap[j]?=W2.heap[j]? :=fun j hj hn=>ov.block j hj hn;have hPW:qg W p _ _:=sK.out.of_block (aC p sK.out.lt sI.out.1);have hXW:qg W w.heap.size _ _:=iG.out.of_block (aC _ iG.out.lt (by omega));have kx:W.cell? ⟨w.heap.size,0,none⟩=some (.pointer (some ⟨p,0,none⟩)):=hXW.cell 0;have k2:W.cell? ⟨p,2,none⟩=some (.map (some m)):=hPW.cell 2;have hpl:=hPW.lt;have qan:(pre.foldl (fun s y=>sY s y.2.1) d.now).length=d.n:=(wO pre d.now).trans d.yK;have nA:(qh x.2.1).length=66:=zf _ x.2.2.2.1 x.2.2.2.2;have qtO:=qmS hpl k2 hi1 x.2.1 (qh x.2.1).toArray (rowOf _ x.2.2.2.1 x.2.2.2.2) (by rw[qan];exact x.2.2.1) (by rw[qan];exact H0.out.n1) x.2.2.2.2;have HLo:=QH qtO;have HI2:=QH ov;have HX:=QH hX;have fU:=QH nA;have HBX:=QH hBx;clear qtO ov hX nA hBx hi1 aC hPW hXW qan hlen k2
  gi_wp2_with (first|(refine uZ rfl (fun c h=>by cases h) (r8 _ _ rfl) (dZ _ rfl Bx rfl _ HX.out (by rw[List.size_toArray,fU.out])) ?_)|(refine⟨trivial,?_⟩;gi_at_call 62;refine(CallsIn.inRound l (callsIn_wide.2 HLo.out)).mono ?_;rintro e W3 ⟨rfl,hm3,hb3⟩))
  have hmW:=HI2.out.size;refine⟨⟨hb3.size,fun j o hj h0 ho=>(hb3.block j (Array.getElem?_eq_some_iff.1 h0).1 (by omega)).trans h0⟩,?_,?_,HI2.out.trans hb3 (fun _ e=>.inl e)⟩
  ·intro b hb;rcases hb with rfl|hb
   ·exact hb3.block _ (by omega) (by omega)
   ·have h1:=jO uX.out b hb;exact hb3.block b (by omega) (sI.out.2 b hb).2
  ·rw[List.foldl_append];exact hm3
 case stop =>
  rintro D c pre W _ _ h _;exact h.elim
 case done =>
  rintro D ys W hD rfl ⟨hi1,ov⟩ hK;rw[show d.now=qO d.base d.more from rfl,qnK d.base d.more L HLM.out]at hi1;have hm2:=HM2.out.lt;have aC:∀j,j<W2.heap.size→j≠m→W.heap[j]?=W2.heap[j]? :=fun j hj hn=>ov.block j hj hn;have hPW:qg W p _ _:=sK.out.of_block (aC p sK.out.lt sI.out.1);have hXW:qg W w.heap.size _ _:=iG.out.of_block (aC _ iG.out.lt (by omega));have hOW:=zm uX.out (fun j hj=>aC j (jO uX.out j hj) (sI.out.2 j hj).2);have qtP:qz own w W:=qih.out.trans ov (fun j e=>.inl (by subst e;exact H1.out.2.2.2.2.1));have HPW:=QH hPW;have HXW:=QH hXW;have HOW:=QH hOW;have qii:=QH qtP;have HMW:=QH hi1;have HKW:=QH hK;have HD:=QH hD;have HW2:=QH ov.size;have kJ:Hid (∀W3,qz (fun k=>k=m) W W3→gL W3 A bs):=fun W3 hW3 i hi=>by
   obtain⟨b,o,hA,hlt,hcell⟩:=HB.out i hi;have hnb:=HBO.out b o hA (by omega);have hbW:=qii.out.size;refine⟨b,o,hA,by have:=hW3.size;omega,?_⟩;rw[World.cell?_of_block (a:=⟨b,o+i,none⟩) ((hW3.block b (by omega) (fun e=>hnb (by rw[e];exact H1.out.2.2.2.2.1))).trans (qii.out.block b hlt hnb))];exact hcell
  clear hi1 ov hK aC hPW hXW hOW qtP hD sK iG uX qih HM2 HST HBs;have q9D:(d.more.length:Int)≤1000000:=by omega
  go_wp2_with fail;go_loopw [36] (fun i wr=>∃k:Nat,k≤d.more.length∧i=.int .i64 (k:Int)∧zI wr m (qO d.base (stay (d.more.take k) bs))∧qz (fun k=>k=m) W wr) (fun i _=>d.more.length-(intOf i).toNat);case atStart=>exact⟨0,Nat.zero_le _,rfl,HMW.out,qz.refl _ _⟩
  case round =>
   obtain⟨k,hk,rfl,hmr,hbr⟩:=hrel;have HMR:=QH hmr;have HBR:=QH hbr;clear hmr hbr;by_cases hlt:k<d.more.length
   ·have qr8:=qnJ d.more d.base H0.out.at1 H0.out.qag;have hul:k<(ji d.base d.more).length:=by rw[jC];exact hlt
    have hOr:wr.ownsRow 0 125 66 (.slice Av d.more.length cv) (ji d.base d.more).length (yY (ji d.base d.more)):=by
     rw[jC];exact zm HOW.out (fun j hj=>HBR.out.block j (jO HOW.out j hj) (sI.out.2 j hj).2)
    obtain⟨g,c',cur,hv,hlc,hcm,hg,xo⟩:=qie hOr (fun y hy=>zf _ (qr8 y hy).2.1 (qr8 y hy).2.2) k hul;rw[jC]at hv hlc;simp only[Value.slice.injEq,true_and]at hv;obtain⟨rfl,rfl⟩:=hv;have hx:=oI d.more d.base k hlt;rw[List.getElem?_eq_getElem hul]at hx;injection hx with hx
    have hxo:=qr8 _ (List.getElem_mem hul);have hx1:(ji d.base d.more)[k].1=d.more[k].1:=by rw[hx]
    have hx2:(ji d.base d.more)[k].2.1=d.more[k].2:=by rw[hx]
    generalize (ji d.base d.more)[k]=x at *;clear hx qr8 hOr hul;have nA:(qh x).length=66:=zf _ hxo.2.1 hxo.2.2;have qnI:=rowOf x hxo.2.1 hxo.2.2;have qtQ:=qaj d.more bs k hlt;have vO:(qO d.base (stay (d.more.take k) bs)).length=d.n:=zw _ _;have HG:=QH hg;have qwf:=QH xo;have fU:=QH nA;have qn7:=QH qnI;have HXO:=QH hxo;have HX1:=QH hx1;have iG:=QH hx2;have HST:=QH qtQ;have cn:=QH vO;have HCM:=QH hcm;have HLC:=QH hlc;have HBL:=QH (kJ.out (wr.alloc (.cells (qh x).toArray 125)) (HBR.out.alloc _));have hXr:wr.cell? ⟨w.heap.size,0,none⟩=some (.pointer (some ⟨p,0,none⟩)):=by
     rw[World.cell?_of_block (a:=⟨w.heap.size,0,none⟩) (HBR.out.block _ HXW.out.lt (Nat.ne_of_gt hm))];exact HXW.out.cell 0
    have hPr:wr.cell? ⟨p,2,none⟩=some (.map (some m)):=by
     rw[World.cell?_of_block (a:=⟨p,2,none⟩) (HBR.out.block _ HPW.out.lt sI.out.1)];exact HPW.out.cell 2
    have dG:w.heap.size<wr.heap.size:=by have:=HBR.out.size;have:=HXW.out.lt;omega
    have hpl:p<wr.heap.size:=by omega
    clear hg xo nA qnI hxo hx1 hx2 qtQ vO hcm hlc;by_cases hbl:k<bs.length
    ·obtain⟨bb,bo,rfl,hbb,hcb⟩:=HBL.out k hbl;have qnN:bs[k]?.getD false=bs[k]:=by rw[List.getElem?_eq_getElem hbl];rfl
     have qkd:=QH qnN;have HHB:=QH HB;have hbi:(k:Int)<(bs.length:Int):=by omega
     have q0u:(bs.length:Int)≤9223372036854775807∨True:=.inr trivial;clear HBL kJ HB HBO qnN q0u;cases tB:bs[k]with
     | true =>
      rw[tB]at hcb qkd;clear tB;go_wp2_with (first|(refine qf rfl (qy 125 (.tmp 39) rfl g (k*66) rfl _ cur (qh x) _ _ HG.out underlying125 rfl (by rw[vS,fU.out]) qwf.out) ?_)|(refine qf rfl (jQ rfl) ?_)|(refine wpList_skip rfl (qU wr 125 _ _ (.tmp 8) (.tmp 40) rfl rfl rfl (by rw[vS,List.size_toArray,fU.out]) (by rw[List.size_toArray,List.size_toArray,fU.out];exact zf _ qJ qJ) (oN _)) ?_));have qwg:qg (wr.alloc (.cells (qh x).toArray 125)) wr.heap.size 125 (qh x).toArray:=qg.new _ _ _;have q5V:=QH qwg;have q5W:=QH (HMR.out.of_block (Below.heap_alloc wr (.cells (qh x).toArray 125) _ HMR.out.lt));have qih:=QH (HBR.out.alloc (.cells (qh x).toArray 125));have q0:(wr.alloc (.cells (qh x).toArray 125)).cell? ⟨wr.heap.size,0,none⟩=some (.int .i64 (x.1:Int)):=by rw[qwg.cell 0];exact qn7.out.at_
      have qx:(wr.alloc (.cells (qh x).toArray 125)).cell? ⟨w.heap.size,0,none⟩=some (.pointer (some ⟨p,0,none⟩)):=(World.cell?_of_block (a:=⟨w.heap.size,0,none⟩) (Below.heap_alloc _ _ _ dG)).trans hXr;have qp:(wr.alloc (.cells (qh x).toArray 125)).cell? ⟨p,2,none⟩=some (.map (some m)):=(World.cell?_of_block (a:=⟨p,2,none⟩) (Below.heap_alloc _ _ _ hpl)).trans hPr;have hbd:(Lib.byteCells x.2.1).length=32:=by rw[Lib.byteCells_length,HXO.out.2.1]
      have HBD:=QH hbd;clear qwg hcb hXr hPr hbd;generalize wr.alloc (.cells (qh x).toArray 125)=wr2 at *;refine xc 8 (by kernel_rfl) (by kernel_rfl) ?_;simp only[List.take_succ_cons,List.take_zero,List.drop_succ_cons,List.drop_zero]
      iterate 7 still_step
      refine yI rfl (qy _ _ rfl wr.heap.size 1 rfl _ _ (Lib.byteCells x.2.1) _ _ q5V.out underlying123 rfl (by rw[cq,HBD.out]) qn7.out.data) ?_;refine wpStill_nil ?_;refine kY (w:=wr2.drew) rfl _ _ _ rfl rfl q5W.out x.1 rfl x.2.1 rfl (by rw[cn.out];exact HXO.out.1) (by rw[cn.out];exact H0.out.n1) ?_;intro w9 hm9 ht9;have HM9:=QH hm9;have HT9:=QH (yL ht9);clear hm9 ht9;go_wp2_with fail;go_roundw;case rel =>
       refine⟨k+1,by omega,by go_num,?_,qih.out.drew.trans HT9.out (fun _ e=>.inl e)⟩;rw[HST.out,qkd.out];simp only[if_true];rw[show d.more[k]=(d.more[k].1,d.more[k].2)from rfl,wy,← HX1.out,← iG.out];exact HM9.out
      case measure=>simp[intOf];omega
     | false =>
      rw[tB]at hcb qkd;clear tB;go_wp2_with (first|(refine qf rfl (qy 125 (.tmp 39) rfl g (k*66) rfl _ cur (qh x) _ _ HG.out underlying125 rfl (by rw[vS,fU.out]) qwf.out) ?_)|(refine qf rfl (jQ rfl) ?_)|(refine wpList_skip rfl (qU wr 125 _ _ (.tmp 8) (.tmp 40) rfl rfl rfl (by rw[vS,List.size_toArray,fU.out]) (by rw[List.size_toArray,List.size_toArray,fU.out];exact zf _ qJ qJ) (oN _)) ?_));go_roundw;case rel =>
       refine⟨k+1,by omega,by go_num,?_,HBR.out.alloc _⟩;rw[HST.out,qkd.out];simp only[Bool.false_eq_true,if_false,List.append_nil];exact HMR.out.of_block (Below.heap_alloc _ _ _ HMR.out.lt)
      case measure=>simp[intOf];omega
    ·have qnN:bs[k]?.getD false=false:=by rw[List.getElem?_eq_none (by omega)];rfl
     have qkd:=QH qnN;clear qnN HBL kJ HB HBO;go_wp2_with (first|(refine qf rfl (qy 125 (.tmp 39) rfl g (k*66) rfl _ cur (qh x) _ _ HG.out underlying125 rfl (by rw[vS,fU.out]) qwf.out) ?_)|(refine qf rfl (jQ rfl) ?_)|(refine wpList_skip rfl (qU wr 125 _ _ (.tmp 8) (.tmp 40) rfl rfl rfl (by rw[vS,List.size_toArray,fU.out]) (by rw[List.size_toArray,List.size_toArray,fU.out];exact zf _ qJ qJ) (oN _)) ?_));go_roundw;case rel =>
      refine⟨k+1,by omega,by go_num,?_,HBR.out.alloc _⟩;rw[HST.out,qkd.out];simp only[Bool.false_eq_true,if_false,List.append_nil];exact HMR.out.of_block (Below.heap_alloc _ _ _ HMR.out.lt)
     case measure=>simp[intOf];omega
   ·have hkn:k=d.more.length:=by omega
    subst hkn;go_wp2_with fail;refine⟨by simp,.inl ⟨_,_,rfl,run_takeDeferred (b:=D) (ds:=[]) ?_,?_⟩⟩
    ·exact(HBR.out.block D (Array.getElem?_eq_some_iff.1 HKW.out).1 (by have:=HD.out;exact Nat.ne_of_gt (by omega))).trans HKW.out
    ·have hDm:D≠m:=by have:=HD.out;omega
     have hput:∀j,j<W2.heap.size→(wr.putObj D (.deferred none)).heap[j]?=wr.heap[j]? :=fun j hj=>World.putObj_heap_other (by have:=HD.out;omega);have hps:(wr.putObj D (.deferred none)).heap.size=wr.heap.size:=by simp
     have hpl:=HPW.out.lt;have hb1:=HBR.out.size;have hdw:d.sZ bs={ d with base:=qO d.base (stay d.more bs),more:=[],on:=true }:=by
      unfold DD.sZ;rw[HON.out];rfl
     rw[hdw];have hml:=HMR.out;rw[List.take_of_length_le (Nat.le_refl _)]at hml;refine⟨_,results_none rfl _ _ _,rfl,own,⟨?_,m,.slice none 0 0,?_⟩,?_,ue.refl _ _⟩
     ·have hst:∀y∈stay d.more bs,y.1<d.n∧y.2.length=32:=fun y hy=>H0.out.at1 y (fh _ _ _ hy);refine { H0.out with n0:=?_,n1:=?_,oH:=Nat.zero_le _,at1:=fun _ h=>by simp at h,qag:=wA H0.out.qag (fun y hy=>(hst y hy).2) }
      ·show 1≤(qO d.base (stay d.more bs)).length;rw[zw];exact H0.out.n0
      ·show(qO d.base (stay d.more bs)).length≤1024;rw[zw];exact H0.out.n1
     ·refine⟨?_,?_,⟨rfl,.inl ⟨rfl,rfl⟩⟩,H1.out.2.2.2.1,H1.out.2.2.2.2.1,fun j hj=>by simp[Value.ownBlock]at hj,fun j hj=>?_⟩
      ·have e:(DD.n { d with base:=qO d.base (stay d.more bs),more:=[],on:=true })=d.n:=zw _ _;rw[e];refine(HPW.out.of_block (HBR.out.block p hpl sI.out.1)).of_block (hput p (by omega))
      ·exact hml.of_block (hput m (by omega))
      ·have h1:=HL.out j hj;have h2:=qii.out.size;rw[hps];omega
     ·refine(qii.out.trans HBR.out (fun j e=>.inl (by subst e;exact H1.out.2.2.2.2.1))).grown (grownBy_putObj' wr D _) (fun j e=>.inr ?_);injection e with e
      have h1:=HD.out;have h2:=q0s.out;omega
end
end Go.Proofs.YtdagdllomphidaaGreatDoor.dk
namespace Go.Proofs.YtdagdllomphidaaGreatDoor.dk
open _root_.Go.Proofs.Tryz Go Go.RowKit
theorem mo (z:Nat):madeCells #[Value.int .u8 0] z=(Lib.byteCells (List.replicate z 0)).toArray:=by
 apply Array.ext';apply List.ext_getElem?;intro j;by_cases hj:j<z <;> simp[madeCells,Lib.byteCells,hj,Nat.mod_one]
def part (c:UInt8)(k:Nat):Array Value:=(Lib.byteCells (List.replicate k c++List.replicate (32-k) 0)).toArray
theorem cd (c:UInt8)(n:Nat):(rep c n).length=n:=by simp[rep]
def In (most:Nat)(w:World)(B p:Nat)(d:DD):Prop:=∃own,zA most w own p d∧∀k,own k→B≤k
def qr9 (most B p:Nat)(d:DD)(r:Value)(w:World)(e:Ending)(w':World):Prop:=e=.returned r∧In most w' B p d∧Below w.heap.size w w'
theorem In.below{most:Nat}{w w':World}{B p:Nat}{d:DD}(h:In most w B p d)(hb:Below w.heap.size w w'):In most w' B p d:=by
 obtain⟨own,h1,h2⟩:=h;exact⟨own,h1.below hb,h2⟩
theorem In.ok{most:Nat}{w:World}{B p:Nat}{d:DD}(h:In most w B p d):d.ok most:=by
 obtain⟨own,h1,h2⟩:=h;exact h1.1
theorem In.mono{most qtR:Nat}{w:World}{B p:Nat}{d:DD}(h:In most w B p d)(hm:most≤qtR):In qtR w B p d:=by
 obtain⟨own,⟨h1,h3⟩,h2⟩:=h;exact⟨own,⟨h1.mono hm,h3⟩,h2⟩
theorem In.lt{most:Nat}{w:World}{B p:Nat}{d:DD}(h:In most w B p d):B≤p∧p<w.heap.size:=by
 obtain⟨own,⟨_,m,v,h1⟩,h2⟩:=h;exact⟨h2 p h1.2.2.2.1,h1.1.lt⟩
section
variable {most:Nat} {w:World} {B p:Nat} {d:DD}
theorem qij(h:In most w B p d)(k:Int)(v:Bt)(s:ByteArray)(hs:str v=s)(r:Int)(h1:d.read k=(v,r)) :
    Calls prog 89 #[.pointer (some ⟨p,0,none⟩),.int .i64 k] w (qr9 most B p d (.tuple #[.string s,.int .i64 r]) w):=by
 have hI:=h;obtain⟨own,hd,ho⟩:=h;subst hs;have key:Calls prog 89 #[.pointer (some ⟨p,0,none⟩),.int .i64 k] w (wC (d.read k) w):=by
  obtain⟨h0,m,v,h1⟩:=hd;unfold DD.read;by_cases zS:d.on=false
  ·rw[if_pos zS];exact qde h1 zS k
  ·rw[if_neg zS];by_cases hh:d.has k=false
   ·rw[if_pos hh];exact qdf h1 (by simpa using zS) k hh
   ·rw[if_neg hh];exact qhR h0 h1 (by simpa using zS) k (by simpa using hh)
 rw[h1]at key;exact key.mono fun e w' h=>⟨h.1,hI.below h.2,h.2⟩
end
end Go.Proofs.YtdagdllomphidaaGreatDoor.dk
namespace Go.Proofs.YtdagdllomphidaaGreatDoor.dk
open _root_.Go.Proofs.Tryz Go Go.RowKit
theorem In.base{most:Nat}{w:World}{B B' p:Nat}{d:DD}(h:In most w B p d)(hB:B'≤B):In most w B' p d:=by
 obtain⟨own,h1,h2⟩:=h;exact⟨own,h1,fun k hk=>Nat.le_trans hB (h2 k hk)⟩
def InG (most:Nat)(w:World)(G:Nat→Prop)(p:Nat)(d:DD):Prop:=∃own,zA most w own p d∧∀k,own k→G k
def r9 (most:Nat)(G:Nat→Prop)(p:Nat)(d:DD)(r:Value)(w:World)(e:Ending)(w':World):Prop:=e=.returned r∧InG most w' G p d∧qz G w w'
theorem InG.below{most:Nat}{w w':World}{G:Nat→Prop}{p:Nat}{d:DD}(h:InG most w G p d)(hb:Below w.heap.size w w'):InG most w' G p d:=by
 obtain⟨own,h1,h2⟩:=h;exact⟨own,h1.below hb,h2⟩
theorem InG.ok{most:Nat}{w:World}{G:Nat→Prop}{p:Nat}{d:DD}(h:InG most w G p d):d.ok most:=by
 obtain⟨own,h1,h2⟩:=h;exact h1.1
theorem qa3{most:Nat}{w:World}{G:Nat→Prop}{p:Nat}{d:DD}{own:Nat→Prop}{r:Value}(hG:∀k,w.heap.size≤k→G k)(ho:∀k,own k→G k){e:Ending}{w':World}(h:xh most own p d r w e w'):r9 most G p d r w e w':=by
 obtain⟨rfl,jY,h1,h2,h3⟩:=h;refine⟨rfl,⟨jY,h1,fun k hk=>?_⟩,h2.mono ho⟩;rcases h3 k hk with h|h
 ·exact ho k h
 ·exact hG k h
section
variable {most:Nat} {w:World} {p:Nat} {G:Nat→Prop} {d:DD}
theorem qrA(h:InG most w G p d)(hG:∀k,w.heap.size≤k→G k)(hm:d.more.length<most)(yZ:most≤100000)(k:Int)(s:ByteArray)(v:Bt)(hs:bl s=v)(r:Int)(d':DD)(h1:(d.write k v).1=r)(h2:(d.write k v).2=d') :
    Calls prog 131 #[.pointer (some ⟨p,0,none⟩),.int .i64 k,.string s] w (r9 most G p d' (.int .i64 r) w):=by
 obtain⟨own,hd,ho⟩:=h;subst hs h1 h2;exact(lC hd hm yZ k s).mono fun _ _ h=>qa3 hG ho h
theorem qrB(h:InG most w G p d)(hG:∀k,w.heap.size≤k→G k)(r:Int)(d':DD)(h1:d.flush.1=r)(h2:d.flush.2=d') :
    Calls prog 132 #[.pointer (some ⟨p,0,none⟩)] w (r9 most G p d' (.int .i64 r) w):=by
 obtain⟨own,hd,ho⟩:=h;subst h1 h2;exact(qkb hd).mono fun _ _ h=>qa3 hG ho h
end
end Go.Proofs.YtdagdllomphidaaGreatDoor.dk
namespace Go.Proofs.YtdagdllomphidaaGreatDoor.wi
open _root_.Go.Proofs.Tryz Go.RowKit
def qwi (b:Nat)(l:List UInt8)(x:Bool)(w:World)(e:Ending)(w':World):Prop :=
 w.grownBy w' (some b) ∧
  ((∃t r,js l=some (t,r)∧e=.returned (.tuple #[.string (str t),.bool true])∧zo b r x w') ∨
   (js l=none∧e=.returned (.tuple #[.string (str []),.bool false])∧∃m,zo b m x w'))
theorem qnO(b:Nat)(l:List UInt8)(x:Bool)(w:World)(h:zo b l x w) :
    Calls prog 210 #[.func (.func 205) #[.pointer (some ⟨b,0,none⟩)] #[]] w (qwi b l x w):=by
 go_enter func210,ntmps210;go_wp2_with (go_at_call 175;refine(qh5 b l x _ h).mono ?_);rintro e w1 ⟨hg,⟨n,r,hn,rfl,hr⟩|⟨hn,rfl,m,hm⟩⟩
 ·have q5X:=(dM l n r hn).2;have Hn:=QH hn;have Hg:=QH hg;obtain⟨g,o,cap,hR⟩:=hr;by_cases hlt:r.length<n
  ·have hT:js l=none:=by unfold js;rw[Hn.out];simp[hlt]
   have HT:=QH hT;clear hT hg hn;go_wp2_with (go_at_call 205;refine(qaZ b g o cap r x (n:Int) _ hR (by omega)).mono ?_;rintro e w' ⟨rfl,rfl⟩);go_ret2;exact⟨Hg.out,.inr ⟨HT.out,rfl,r,g,o,cap,hR⟩⟩
  ·have hT:js l=some (r.take n,r.drop n):=by unfold js;rw[Hn.out];simp[hlt]
   have HT:=QH hT;have dz:(r.take n).length=n:=by simp;omega
   have Hln:=QH dz;clear hT hg hn dz;go_wp2_with (go_at_call 205;refine(uD b g o cap r x (n:Int) _ hR (by omega) (by omega)).mono ?_);rintro e w2 ⟨rfl,h1,h2,h3⟩;rw[Int.toNat_natCast]at h1 h3;have hcv:=run_convert_bytes_back (P:=prog) w2 118 9 5 ⟨g,o,none⟩ n (r.take n) underlying118 underlying5 underlying9 (by
    intro j hj;rw[addr_add];exact h3.cell j hj)
   rw[Hln.out]at hcv;have qyI:(convert 118 9 (.slice (some ⟨g,o,none⟩) n n)).run prog w2=.ok (.string (str (r.take n))) w2:=hcv;have H1:=QH h1;have H2:=QH h2;clear h1 h2 h3 hcv;go_wp2;go_ret2;exact⟨xZ Hg.out H2.out,.inl ⟨_,_,HT.out,rfl,_,_,_,H1.out⟩⟩
 ·have hT:js l=none:=by unfold js;rw[hn]
  have HT:=QH hT;have Hg:=QH hg;clear hT hg hn;go_wp2;go_ret2;exact⟨Hg.out,.inr ⟨HT.out,rfl,m,hm⟩⟩
def fV (b:Nat)(l:List UInt8)(w:World)(e:Ending)(w':World):Prop :=
 w.grownBy w' (some b) ∧
  ((∃t r,js l=some (t,r)∧e=.returned (.string (str t))∧zo b r false w') ∨
   (js l=none∧e=.returned (.string (str []))∧∃m,zo b m true w'))
theorem qbG(b:Nat)(l:List UInt8)(w:World)(h:zo b l false w) :
    Calls prog 209 #[.pointer (some ⟨b,0,none⟩),.func (.func 210) #[] #[]] w (fV b l w):=by
 go_enter func209,ntmps209;go_wp2_with (go_at_call 204;refine(qfo b l _ h).mono ?_;rintro e w' ⟨rfl,rfl⟩);go_wp2_with (go_at_call 210;refine(qnO b l false _ h).mono ?_);rintro e w1 ⟨hg,⟨n,r,hn,rfl,hr⟩|⟨hn,rfl,m,hm⟩⟩
 ·have Hn:=QH hn;have Hg:=QH hg;obtain⟨hc,hf⟩:=hr.cell1;have Hr:=QH (hr.flag false);clear hn hg hr;go_wp2;go_ret;exact⟨xZ Hg.out (zo.aU _ _ _),.inl ⟨n,r,Hn.out,rfl,Hr.out⟩⟩
 ·have Hn:=QH hn;have Hg:=QH hg;obtain⟨hc,hf⟩:=hm.cell1;have Hr:=QH (hm.flag true);clear hn hg hm;go_wp2;go_ret;exact⟨xZ Hg.out (zo.aU _ _ _),.inr ⟨Hn.out,rfl,m,Hr.out⟩⟩
theorem qbH(b:Nat)(l:List UInt8)(w:World)(h:zo b l true w) :
    Calls prog 209 #[.pointer (some ⟨b,0,none⟩),.func (.func 210) #[] #[]] w fun e w'=>e=.returned (.string (str []))∧w=w':=by
 go_enter func209,ntmps209;go_wp2_with (go_at_call 204;refine(qmd b l _ h).mono ?_;rintro e w' ⟨rfl,rfl⟩);go_ret;exact⟨rfl,rfl⟩
theorem qg8(b:Nat)(l:List UInt8)(w:World)(h:zo b l false w):Calls prog 177 #[.pointer (some ⟨b,0,none⟩)] w (fV b l w):=by
 go_enter func177,ntmps177;go_wp2_with (go_at_call 209;refine(qbG b l _ h).mono ?_);rintro e w1 ⟨hg,⟨n,r,hn,rfl,hr⟩|⟨hn,rfl,hm⟩⟩
 ·have H:Hid (fV b l w (.returned (.string (str n))) w1):=⟨hg,.inl ⟨n,r,hn,rfl,hr⟩⟩;clear hg hn hr;go_wp2;go_ret;exact H.out
 ·have H:Hid (fV b l w (.returned (.string (str []))) w1):=⟨hg,.inr ⟨hn,rfl,hm⟩⟩;clear hg hn hm;go_wp2;go_ret;exact H.out
theorem qkf(b:Nat)(l:List UInt8)(w:World)(h:zo b l true w):Calls prog 177 #[.pointer (some ⟨b,0,none⟩)] w fun e w'=>e=.returned (.string (str []))∧w=w':=by
 go_enter func177,ntmps177;go_wp2_with (go_at_call 209;refine(qbH b l _ h).mono ?_;rintro e w' ⟨rfl,rfl⟩);go_ret;exact⟨rfl,rfl⟩
end Go.Proofs.YtdagdllomphidaaGreatDoor.wi
namespace Go.Proofs.YtdagdllomphidaaGreatDoor
open _root_.Go.Proofs.Tryz Go.RowKit
def qtS (s:ByteArray)(w:World)(e:Ending)(w':World):Prop :=
 e=.returned (.tuple #[.string s,.int .i64 0])∧Below w.heap.size w w'
def qwj (w:World)(e:Ending)(w':World):Prop :=
 e=.returned (.tuple #[.string ⟨#[]⟩,.int .i64 4])∧Below w.heap.size w w'
theorem mM (a:Option Addr)(c:Nat)(ps:List (List UInt8))(t:List UInt8)(w:World)(hp:ja w a ps)(hi:vT ps t)(ht:xL w) :
    Calls prog 90 #[.slice a ps.length c] w (qtS (str t) w):=by
 have HT:=QH ht;have hg:=ht.1;clear ht;have HP:=QH hp;have hpl:ps.length≤1000:=by rw[hi.2,yb];have:=hi.1;unfold nsec;omega
 have dw:ps.flatten=yM t:=by rw[hi.2,yS]
 have hwl:=jk t;have hfs:ps.flatten.length≤100000:=by rw[dw,hwl];have:=hi.1;unfold nsec;omega
 have hput:=pX a c ps w hp (by omega) (by omega);have htl:=hi.1;have hsz:=qT t;have hzl:=qT ps.flatten;have hts:(str t).size≤8192:=by omega
 have qnQ:∀W,Calls prog 135 #[.string (str ps.flatten)] W fun e w'=>e=.returned (.tuple #[.string (str t),.bool true])∧Below W.heap.size W w':=by
  intro W;have:=pY (str ps.flatten) W (by omega);rw[zh,dw,qfX t (by omega)]at this;rw[dw];exact this
 have heq:qP t=ps:=hi.2.symm;have qdG:=QH hput;have qbI:=QH qnQ;have Heq:=QH heq;have qwk:=QH (zh t);clear hp hput qnQ heq hi dw hwl hsz hzl htl hfs;generalize str ps.flatten=f at *;generalize str t=s at *;go_enter func90,ntmps90;go_wp2_with (go_at_call 136;refine qdG.out.mono ?_);rintro e W1 ⟨rfl,b1⟩;go_wp2_with (go_at_call 135;refine(qbI.out _).mono ?_);rintro e W2 ⟨rfl,b2⟩;have b12:=qc b1 b2;have h2:=QH (HT.out.below b12 hg);clear b1 b2;go_wp2_with (go_at_call 116;refine(fR s _ hts h2.out).mono ?_);rintro e W3 ⟨v,rfl,hown,b3⟩;have b13:=qc b12 b3;rw[qwk.out,Heq.out]at hown;obtain⟨a2,c2,rfl,hlc,hcm,hst,_,_⟩:=hown.view;have qnR:=HP.out.below b13 (Nat.le_refl _);have qg9:=aW a2 a c2 c ps ps W3 hst qnR (by omega) (by omega);rw[show decide (ps=ps)=true from by simp]at qg9;have qwl:=QH qg9;clear b12 b3 hown hst qnR qg9 h2;go_wp2_with (go_at_call 137;refine qwl.out.mono ?_);rintro e W4 ⟨rfl,b4⟩;have b14:=qc b13 b4;clear b13 b4;go_wp2;go_ret2;exact⟨rfl,b14⟩
theorem mN (a:Option Addr)(c:Nat)(ps:List (List UInt8))(w:World)(hp:ja w a ps)(hpl:ps.length≤1000)(hfs:ps.flatten.length≤100000)(hi:∀t,¬ vT ps t)(ht:xL w) :
    Calls prog 90 #[.slice a ps.length c] w (qwj w):=by
 have HT:=QH ht;have hg:=ht.1;clear ht;have HP:=QH hp;have hput:=pX a c ps w hp (by omega) (by omega);have hzl:=qT ps.flatten;have qnQ:∀W,Calls prog 135 #[.string (str ps.flatten)] W (qid (tr ps.flatten) W):=by
  intro W;have:=pY (str ps.flatten) W (by omega)
  rwa [zh]at this
 have qdG:=QH hput;have qbI:=QH qnQ;clear hp hput qnQ hzl;generalize str ps.flatten=f at *;cases hx:tr ps.flatten with
 | none =>
  rw[hx]at qbI;go_enter func90,ntmps90;go_wp2_with (go_at_call 136;refine qdG.out.mono ?_);rintro e W1 ⟨rfl,b1⟩;go_wp2_with (go_at_call 135;refine(qbI.out _).mono ?_);rintro e W2 ⟨rfl,b2⟩;have b12:=qc b1 b2;clear b1 b2;go_wp2;go_ret2;exact⟨rfl,b12⟩
 | some t =>
  rw[hx]at qbI;have hsz:=qT t;by_cases htl:8192<t.length
  ·have hts:8192<(str t).size:=by omega
   have hgd:(some t).getD []=t:=rfl;have qnS:Hid (∀W,Calls prog 135 #[.string f] W fun e w'=>e=.returned (.tuple #[.string (str t),.bool true])∧Below W.heap.size W w'):=qbI;clear qbI hsz;generalize str t=s at *;go_enter func90,ntmps90;go_wp2_with (go_at_call 136;refine qdG.out.mono ?_);rintro e W1 ⟨rfl,b1⟩;go_wp2_with (go_at_call 135;refine(qnS.out _).mono ?_);rintro e W2 ⟨rfl,b2⟩;have b12:=qc b1 b2;clear b1 b2;go_wp2_with (go_at_call 116;refine(qjZ s _ hts).mono ?_);rintro e W3 ⟨rfl,b3⟩;have b13:=qc b12 b3;clear b12 b3;go_wp2;go_ret2;exact⟨rfl,b13⟩
  ·have hts:(str t).size≤8192:=by omega
   have qnS:Hid (∀W,Calls prog 135 #[.string f] W fun e w'=>e=.returned (.tuple #[.string (str t),.bool true])∧Below W.heap.size W w'):=qbI;have hne:decide (qP t=ps)=false:=by
    simp only[decide_eq_false_iff_not];intro h;exact hi t ⟨by omega,h.symm⟩
   have qwk:=QH (zh t);have vO:=yb t;have zc3:(qP t).length≤1000:=by rw[vO];unfold nsec;omega
   have Hne:=QH hne;have Hx:=QH hx;clear qbI hsz hne vO hx hi;generalize str t=s at *;go_enter func90,ntmps90;go_wp2_with (go_at_call 136;refine qdG.out.mono ?_);rintro e W1 ⟨rfl,b1⟩;go_wp2_with (go_at_call 135;refine(qnS.out _).mono ?_);rintro e W2 ⟨rfl,b2⟩;have b12:=qc b1 b2;have h2:=QH (HT.out.below b12 hg);clear b1 b2;go_wp2_with (go_at_call 116;refine(fR s _ hts h2.out).mono ?_);rintro e W3 ⟨v,rfl,hown,b3⟩;have b13:=qc b12 b3;rw[qwk.out]at hown;obtain⟨a2,c2,rfl,hlc,hcm,hst,_,_⟩:=hown.view;have qnR:=HP.out.below b13 (Nat.le_refl _);have qg9:=aW a2 a c2 c (qP t) ps W3 hst qnR (by omega) (by omega);rw[Hne.out]at qg9;have qwl:=QH qg9;clear b12 b3 hown hst qnR qg9 h2;go_wp2_with (go_at_call 137;refine qwl.out.mono ?_);rintro e W4 ⟨rfl,b4⟩;have b14:=qc b13 b4;clear b13 b4;go_wp2;go_ret2;exact⟨rfl,b14⟩
end Go.Proofs.YtdagdllomphidaaGreatDoor
namespace Go.Proofs.YtdagdllomphidaaGreatDoor.wi
open _root_.Go.Proofs.Tryz Go.RowKit
def qkg (s t:ByteArray)(w:World)(e:Ending)(w':World):Prop :=
 e=.returned (.string (str (bl s++mf (bl t))))∧Below w.heap.size w w'
theorem qdN(s t:ByteArray)(w:World)(hs:s.size≤70368744177000)(ht:t.size≤70368744177000) :
    Calls prog 201 #[.string s,.string t] w (qkg s t w):=by
 have hl:=jM t.size;have hbl:=zr t;have Hbl:=QH hbl;clear hbl;go_enter func201,ntmps201;go_wp2_with (go_at_call 207;refine(qma t.size _ (by omega)).mono ?_);rintro e W1 ⟨rfl,b1⟩;go_wp2_with (go_at_call 208;refine(qfk t.size _ (by omega)).mono ?_);rintro e W2 ⟨rfl,b2⟩;go_wp2_with (go_at_call 206;refine(jn s W2.heap.size 0 3 [str [UInt8.ofNat (zK t.size).length],str (zK t.size),t] _ ?_ (og _ _ _ _) (by simp) ?_).mono ?_)
 ·simp
 ·have:=Hbl.out;simp[flat,zh];omega
 ·rintro e W3 ⟨rfl,b3⟩;have b':=qc (zF (qc b1 b2) _) b3;clear b1 b2 b3;go_wp2;go_ret;exact⟨by simp[flat,zh,mf,zx,Hbl.out],b'⟩
end Go.Proofs.YtdagdllomphidaaGreatDoor.wi
namespace Go.Proofs.YtdagdllomphidaaGreatDoor.jr
open _root_.Go.Proofs.Tryz Go Go.RowKit dk wi
def qG (x:Int):Prop:=-9223372036854775808≤x∧x≤9223372036854775807
def vd (w:World)(a:Option Addr)(l:List Wr):Prop :=
 ∀i (h:i<l.length),∃b o,a=some ⟨b,o,none⟩∧b<w.heap.size∧w.cell? ⟨b,o+i*2,none⟩=some (.int .i64 l[i].1)∧w.cell? ⟨b,o+i*2+1,none⟩=some (.string (str l[i].2))∧qG l[i].1
theorem vd.below{w w':World}{a:Option Addr}{l:List Wr}{B:Nat}(h:vd w a l)(hb:Below B w w')(hB:w.heap.size≤B):vd w' a l:=by
 intro i hi;obtain⟨b,o,h1,h2,h3,h4,h5⟩:=h i hi;refine⟨b,o,h1,Nat.lt_of_lt_of_le h2 hb.size,?_,?_,h5⟩
 ·rw[hb.cell (p:=⟨b,o+i*2,none⟩) (Nat.lt_of_lt_of_le h2 hB)];exact h3
 ·rw[hb.cell (p:=⟨b,o+i*2+1,none⟩) (Nat.lt_of_lt_of_le h2 hB)];exact h4
section
variable {most:Nat} {w:World} {own:Nat→Prop} {p:Nat} {d:DD}
theorem bA (h:zA most w own p d):Calls prog 83 #[.pointer (some ⟨p,0,none⟩)] w fun e w'=>e=.returned (.int .i64 (if d.on then 0 else 6))∧w=w':=by
 obtain⟨h0,m,v,hd⟩:=h;have HO:=QH (qmR hd);clear h0 hd;cases zS:d.on with
 | true =>
  rw[zS]at HO;go_enter func83,ntmps83;go_wp2_with (go_at_call 99;refine HO.out.mono ?_;rintro e w' ⟨rfl,rfl⟩);go_ret;exact⟨rfl,rfl⟩
 | false =>
  rw[zS]at HO;go_enter func83,ntmps83;go_wp2_with (go_at_call 99;refine HO.out.mono ?_;rintro e w' ⟨rfl,rfl⟩);go_ret;exact⟨rfl,rfl⟩
theorem qkh(w:World):Calls prog 83 #[.pointer none] w fun e w'=>e=.returned (.int .i64 1)∧w=w':=by
 go_enter func83,ntmps83;go_wp2;go_ret;exact⟨rfl,rfl⟩
theorem qa4(a c:Nat)(ha:a<2)(w:World):Calls prog 129 #[.agg #[.int .i64 (a:Int),.int .i64 (c:Int)]] w fun e w'=>e=.returned (.int .i64 ((1+a*72:Nat):Int))∧Below w.heap.size w w':=by
 have e1:(1:Int)+(a:Int)*72=((1+a*72:Nat):Int):=by omega
 have ha1:(a:Int)≤1:=by omega
 have E1:=QH e1;clear e1;go_enter func129,ntmps129;go_wp2;go_ret;exact⟨by rw[← E1.out];rfl,(Below.refl _ _).alloc (Nat.le_refl _) _⟩
end
def qfl (l:List Wr)(w:World)(s i:Value)(wr:World):Prop :=
 ∃k:Nat,k≤l.length∧i=.int .i64 (k:Int)∧s=.string (str (zx l.length++((l.take k).map wB).flatten))∧Below w.heap.size w wr
theorem qrC(l:List Wr)(h60:l.length≤60)(h:∀x∈l,0≤x.1∧x.2.length=32)(k:Nat):(zx l.length++((l.take k).map wB).flatten).length≤3009:=by
 have h1:=qA l.length;have h2:=qnd (l.take k) (fun x hx=>(h x (List.mem_of_mem_take hx)).2);have h3:(l.take k).length≤60:=by simp;omega
 simp only[List.length_append];omega
def okT (t:Bt)(w:World)(e:Ending)(w':World):Prop:=e=.returned (.string (str t))∧Below w.heap.size w w'
theorem jn (a:Option Addr)(c:Nat)(l:List Wr)(w:World)(hT:vd w a l)(h60:l.length≤60)(h:∀x∈l,0≤x.1∧x.2.length=32) :
    Calls prog 165 #[.slice a l.length c] w (okT (zj l) w):=by
 have HT:=QH hT;have HL:=QH (qrC l h60 h);have HX:=QH h;clear hT h;go_enter func165,ntmps165;go_wp2_with fail;refine(kj ⟨#[]⟩ l.length w (by omega) (by decide)).mono ?_;rintro e W1 ⟨rfl,b1⟩;have B1:=QH b1;clear b1;obtain⟨s1,hs1⟩:=QE (str (bl ⟨#[]⟩++zx l.length));rw[hs1];have gZ:=QH hs1;clear hs1;go_wp2_with fail;go_loopw [3,12] (fun s i wr=>qfl l w s i wr) (fun _ i _=>l.length-(intOf i).toNat);case atStart=>exact⟨0,Nat.zero_le _,rfl,by rw[← gZ.out];simp[bl],B1.out⟩
 case round =>
  obtain⟨k,hk,rfl,rfl,hB⟩:=hrel;have HB:=QH hB;clear hB B1;by_cases hlt:k<l.length
  ·obtain⟨b,o,rfl,hb,q0,q1,qb⟩:=HT.out k hlt;have hx:=HX.out l[k] (List.getElem_mem hlt);have hstep:((l.take (k+1)).map wB).flatten=((l.take k).map wB).flatten++wB l[k]:=by rw[List.take_succ_eq_append_getElem hlt,List.map_append,List.flatten_append];simp
   have HST:=QH hstep;have HLk:=QH (HL.out k);clear hstep;generalize hxx:l[k]=x at *;obtain⟨n,hn⟩:=Int.eq_ofNat_of_zero_le hx.1;have e0:wr.cell? ⟨b,o+k*2,none⟩=some (.int .i64 (n:Int)):=by rw[HB.out.cell (p:=⟨b,o+k*2,none⟩) hb,q0,hn]
   have e1:wr.cell? ⟨b,o+k*2+1,none⟩=some (.string (str x.2)):=by rw[HB.out.cell (p:=⟨b,o+k*2+1,none⟩) hb];exact q1
   have q5X:(n:Int)≤9223372036854775807:=by have:=qb.2;omega
   have hb2:b<wr.heap.size:=Nat.lt_of_lt_of_le hb HB.out.size;obtain⟨S,hS⟩:=QE (str (zx l.length++((l.take k).map wB).flatten));have hSs:S.size≤3009:=by rw[← hS,qT];exact HLk.out
   rw[hS];have HS:=QH hS;have iG:=QH hx.2;have HN:=QH hn;have ra:(k:Int)<(l.length:Int):=by omega
   clear q0 q1 qb hS hn hx hxx;go_wp2_with fail;refine(kj S n _ (by omega) (by omega)).mono ?_;rintro e W2 ⟨rfl,b2⟩;have hA:qg (wr.alloc (.cells #[.int .i64 (n:Int),.string (str x.2)] 182)) wr.heap.size _ _:=qg.new wr _ _;have hA2:qg W2 wr.heap.size _ _:=hA.of_block (b2.block _ hA.lt);have q2:=hA2.cell 1;have lt2:=hA2.lt;have B2:=QH (qc (HB.out.alloc HB.out.size _) b2);clear b2 hA hA2;obtain⟨S2,hS2⟩:=QE (str (bl S++zx n));have hl9:=qA n;have q5Y:S2.size≤3020:=by rw[← hS2,qT,List.length_append,zr];omega
   rw[hS2];have uK:=QH hS2;clear hS2;go_wp2_with fail;refine(qdN S2 (str x.2) _ (by omega) (by rw[qT,iG.out];omega)).mono ?_;rintro e W3 ⟨rfl,b3⟩;have B3:=QH (qc B2.out b3);clear b3 B2;obtain⟨S3,hS3⟩:=QE (str (bl S2++mf (bl (str x.2))));rw[hS3];have HS3:=QH hS3;clear hS3;go_wp2_with fail;go_roundw;case rel =>
    refine⟨k+1,by omega,by go_num,?_,B3.out⟩;rw[← HS3.out,← uK.out,← HS.out,HST.out,zh,zh,zh];have:x.1.toNat=n:=by rw[HN.out];rfl
    simp[wB,this]
   case measure=>simp[intOf];omega
  ·obtain rfl:k=l.length:=by omega
   go_wp2_with fail;go_ret;refine⟨?_,HB.out⟩;rw[List.take_length];rfl
end Go.Proofs.YtdagdllomphidaaGreatDoor.jr
namespace Go.Proofs.YtdagdllomphidaaGreatDoor.jr
open _root_.Go.Proofs.Tryz Go Go.RowKit dk wi
theorem qnT:(prog.info? 201).map (fun i=>(i.zero,i.size,i.bytes))=some (some .nilFunc,1,8):=by kernel_rfl
def ed (p:Nat):Value:=.func (.func 131) #[.pointer (some ⟨p,0,none⟩)] #[]
def gM (p:Nat):Value:=.func (.func 132) #[.pointer (some ⟨p,0,none⟩)] #[]
def aD (gw gi:Nat):Value:=.func (.func 133) #[] #[.pointer (some ⟨gw,0,none⟩),.pointer (some ⟨gi,0,none⟩)]
def mO (w:World)(B p:Nat):Step→Value→Prop
 | .f,v=>v=gM p
 | .w k x,v=>∃gw gi,v=aD gw gi∧B≤gw∧B≤gi∧qg w gw 46 #[ed p]∧qg w gi 182 #[.int .i64 k,.string (str x)]
def aF (w:World)(B p:Nat)(ss:List Step)(vs:List Value):Prop:=ss.length=vs.length∧∀(j:Nat) (s:Step) (v:Value),ss[j]?=some s→vs[j]?=some v→mO w B p s v
def kP (w w':World):Prop:=∀g t cs,t≠201→qg w g t cs→qg w' g t cs
theorem kP.below{w w':World}(h:Below w.heap.size w w'):kP w w':=fun _ _ _ _ hb=>hb.of_block (h.block _ hb.lt)
theorem kP.trans{a b c:World}(h:kP a b)(k:kP b c):kP a c:=fun g t cs ht hb=>k g t cs ht (h g t cs ht hb)
theorem kP.grown{w w':World}{B n:Nat}{v:Value}{xs:List Value}(ho:w.ownsRow B 201 1 v n xs)(h:w.grownBy w' v.ownBlock):kP w w':=fun g t cs ht hb=>by
 refine hb.of_block (h.block g hb.lt ?_);rcases ho.2 with⟨rfl,_⟩|⟨q,cap,cur,rfl,_,hh,_⟩
 ·simp[Value.ownBlock]
 ·simp only[Value.ownBlock,Option.some.injEq,ne_eq];rintro rfl;unfold qg at hb;rw[hb]at hh;simp only[Option.some.injEq,Obj.cells.injEq]at hh;exact ht hh.2.1
theorem mO.keep{w w':World}{B p:Nat}{s:Step}{v:Value}(h:mO w B p s v)(hk:kP w w'):mO w' B p s v:=by
 cases s with
 | f=>exact h
 | w k x =>
  obtain⟨gw,gi,h1,h2,h3,h4,h5⟩:=h;exact⟨gw,gi,h1,h2,h3,hk _ _ _ (by decide) h4,hk _ _ _ (by decide) h5⟩
theorem aF.keep{w w':World}{B p:Nat}{ss:List Step}{vs:List Value}(h:aF w B p ss vs)(hk:kP w w'):aF w' B p ss vs:=⟨h.1,fun j s v hs hv=>(h.2 j s v hs hv).keep hk⟩
theorem aF.snoc{w:World}{B p:Nat}{ss:List Step}{vs:List Value}{s:Step}{v:Value}(h:aF w B p ss vs)(hs:mO w B p s v):aF w B p (ss++[s]) (vs++[v]):=by
 refine⟨by simp[h.1],fun j t u ht hu=>?_⟩;by_cases hj:j<ss.length
 ·rw[List.getElem?_append_left hj]at ht;rw[List.getElem?_append_left (by rw[← h.1];exact hj)]at hu;exact h.2 j t u ht hu
 ·rw[List.getElem?_append_right (by omega)]at ht;rw[List.getElem?_append_right (by rw[← h.1];omega)]at hu;rw[h.1]at ht;cases hq:j-vs.length with
  | zero =>
   rw[hq]at ht hu;simp at ht hu;subst ht hu;exact hs
  | succ m =>
   rw[hq]at ht;simp at ht
def qdO (w:World)(a:Option Addr)(bs:List (List Wr)):Prop :=
 ∀i (h:i<bs.length),∃b o A c,a=some ⟨b,o,none⟩∧b<w.heap.size∧w.cell? ⟨b,o+i,none⟩=some (.slice A bs[i].length c)∧vd w A bs[i]
theorem qbJ(bs:List (List Wr))(k:Nat)(h:k<bs.length):qH (bs.take (k+1))=qH (bs.take k)++(jZ bs[k]++[.f]):=by
 have key:∀(x y:List (List Wr)),qH (x++y)=qH x++qH y:=by
  intro x y
  induction x with
  | nil=>rfl
  | cons l r ih=>simp[qH,ih]
 rw[List.take_succ_eq_append_getElem h,key];simp[qH]
theorem qki(l:List Wr)(k:Nat)(h:k<l.length):jZ (l.take (k+1))=jZ (l.take k)++[.w l[k].1 l[k].2]:=by
 unfold jZ;rw[List.take_succ_eq_append_getElem h,List.map_append];rfl
theorem qtT(l:List Wr):(jZ l).length=l.length:=by simp[jZ]
theorem mQ:∀(bs:List (List Wr)),(∀l∈bs,l.length≤1000)→(qH bs).length≤1001*bs.length
 | [],_=>by simp[qH]
 | l::r,h=>by
  have h1:=h l (by simp);have h2:=mQ r (fun m hm=>h m (by simp[hm]));simp only[qH,List.length_append,List.length_cons,qtT];omega
def tC (w:World)(p:Nat)(ss:List Step)(v:Value)(wr:World):Prop :=
 ∃vs,wr.ownsRow w.heap.size 201 1 v vs.length vs∧aF wr w.heap.size p ss vs∧qg wr w.heap.size 46 #[ed p]∧Below w.heap.size w wr
def qwo (w:World)(p:Nat)(bs:List (List Wr))(v i:Value)(wr:World):Prop :=
 ∃k:Nat,k≤bs.length∧i=.int .i64 (k:Int)∧tC w p (qH (bs.take k)) v wr
def q0w (w:World)(p:Nat)(pre:List Step)(l:List Wr)(v i:Value)(wr:World):Prop :=
 ∃k:Nat,k≤l.length∧i=.int .i64 (k:Int)∧tC w p (pre++jZ (l.take k)) v wr
def qrD (p:Nat)(ss:List Step)(w:World)(e:Ending)(w':World):Prop:=∃v,e=.returned v∧tC w p ss v w'
theorem fW (w:World)(t:TypeId)(v:Value):∀(j:Nat) (u:Value),([v]:List Value)[j]?=some u→(w.alloc (.cells #[v] t)).cell? ((⟨w.heap.size,0,none⟩:Addr).add j)=some u:=by
 intro j u hj
 match j,hj with
 | 0,hj =>
  simp at hj;subst hj;rw[addr_add];exact(qg.new w t #[v]).cell 0
theorem qik(f:Fn)(a b:Array Value):∀u∈([Value.func f a b]:List Value),u.oneCell'=true:=by
 intro u hu;simp at hu;subst hu;rfl
theorem tC.more{w wr w1:World}{p:Nat}{ss:List Step}{v':Value}{vs:List Value}{s:Step}{u:Value}(hs:aF wr w.heap.size p ss vs)(hk:qg wr w.heap.size 46 #[ed p])
    (aC:kP wr w1) (hu:mO w1 w.heap.size p s u) (hown:w1.ownsRow w.heap.size 201 1 v' (vs.length+1) (vs++[u])) (hB:Below w.heap.size w w1):tC w p (ss++[s]) v' w1 :=
 ⟨vs++[u],by rw[List.length_append];exact hown,(hs.keep aC).snoc hu,aC _ _ _ (by decide) hk,hB⟩
theorem aG (p:Nat)(a:Option Addr)(c:Nat)(bs:List (List Wr))(w:World)(hp:p<w.heap.size)(hT:qdO w a bs)(hl:bs.length≤10)(hl2:∀l∈bs,l.length≤1000) :
    Calls prog 88 #[.pointer (some ⟨p,0,none⟩),.slice a bs.length c] w (qrD p (qH bs) w):=by
 obtain⟨i0,hi,hz0,hz1,hz2⟩:=info_parts qnT;have HT:=QH hT;have nt:=QH hl2;clear hT hl2;go_enter func88,ntmps88;go_wp2_with fail;have k0:qg (w.alloc (.cells #[ed p] 46)) w.heap.size _ _:=qg.new w _ _;have b0:Below w.heap.size w (w.alloc (.cells #[ed p] 46)):=(Below.refl w.heap.size w).alloc (Nat.le_refl _) _;go_loopw [7,18] (fun v i wr=>qwo w p bs v i wr) (fun _ i _=>bs.length-(intOf i).toNat);case atStart=>exact⟨0,Nat.zero_le _,rfl,[],World.ownsRow_nil _ _ _ _,⟨rfl,fun j s v h=>by simp[qH]at h⟩,k0,b0⟩
 case round =>
  clear k0 b0;obtain⟨k,hk,rfl,hg⟩:=hrel;have HG:=QH hg;clear hg;by_cases hlt:k<bs.length
  ·obtain⟨b,o,A,cc,rfl,hb,hc,hW⟩:=HT.out k hlt;have hst:=qbJ bs k hlt;have hlen:=nt.out bs[k] (List.getElem_mem hlt);generalize bs[k]=l at *;have hc2:wr.cell? ⟨b,o+k,none⟩=some (.slice A l.length cc):=by obtain⟨_,_,_,_,hB⟩:=HG.out;rw[hB.cell (p:=⟨b,o+k,none⟩) hb];exact hc
   have hb2:b<wr.heap.size:=by obtain⟨_,_,_,_,hB⟩:=HG.out;exact Nat.lt_of_lt_of_le hb hB.size
   have ra:(k:Int)<(bs.length:Int):=by omega
   have HW:=QH hW;have HST:=QH hst;clear hc hW hst;go_wp2_with fail;obtain⟨wo,rfl⟩:∃wo:World,wo=wr:=⟨_,rfl⟩;go_loopw [7,24] (fun v i wr=>q0w w p (qH (bs.take k)) l v i wr) (fun _ i _=>l.length-(intOf i).toNat);case atStart=>exact⟨0,Nat.zero_le _,rfl,by simpa[jZ]using HG.out⟩
   case round =>
    obtain⟨j,hj,rfl,vs,hown,hsv,hk5,hB⟩:=hrel;have HO:=QH hown;have HS:=QH hsv;have HK:=QH hk5;have HB:=QH hB;clear hown hsv hk5 hB;have hvl:vs.length≤100000:=by
     have h1:=HS.out.1;have h2:=mQ (bs.take k) (fun m hm=>nt.out m (List.mem_of_mem_take hm));have h3:(bs.take k).length≤10:=by simp;omega
     have h4:(jZ (l.take j)).length≤1000:=by rw[qtT];simp;omega
     rw[List.length_append]at h1;omega
    by_cases hjl:j<l.length
    ·obtain⟨bb,oo,rfl,hbb,q0,q1,qb⟩:=HW.out j hjl;have tv:=qki l j hjl;generalize l[j]=x at *;have e0:wr.cell? ⟨bb,oo+j*2,none⟩=some (.int .i64 x.1):=by rw[HB.out.cell (p:=⟨bb,oo+j*2,none⟩) hbb];exact q0
     have e1:wr.cell? ⟨bb,oo+j*2+1,none⟩=some (.string (str x.2)):=by rw[HB.out.cell (p:=⟨bb,oo+j*2+1,none⟩) hbb];exact q1
     have q6a:bb<wr.heap.size:=Nat.lt_of_lt_of_le hbb HB.out.size;have qnU:(j:Int)<(l.length:Int):=by omega
     have HWS:=QH tv;have hB1:Below w.heap.size w (wr.alloc (.cells #[.int .i64 x.1,.string (str x.2)] 182)):=HB.out.alloc HB.out.size _;have hB2:Below w.heap.size w ((wr.alloc (.cells #[.int .i64 x.1,.string (str x.2)] 182)).alloc (.cells #[aD w.heap.size wr.heap.size] 201)):=hB1.alloc hB1.size _;have hown2:=(HO.out.alloc (.cells #[.int .i64 x.1,.string (str x.2)] 182)).alloc (.cells #[aD w.heap.size wr.heap.size] 201);have hnews:=fW (wr.alloc (.cells #[.int .i64 x.1,.string (str x.2)] 182)) 201 (aD w.heap.size wr.heap.size);have qnW:(wr.alloc (.cells #[.int .i64 x.1,.string (str x.2)] 182)).heap.size=wr.heap.size+1:=by simp
     rw[qnW]at hnews;have uX:=QH hown2;have bH:=QH hnews;have qC:=QH hB2;have hkp:kP wr ((wr.alloc (.cells #[.int .i64 x.1,.string (str x.2)] 182)).alloc (.cells #[aD w.heap.size wr.heap.size] 201)):=kP.below ((zF (Below.refl _ wr) _).alloc (by simp) _);have hgi:qg ((wr.alloc (.cells #[.int .i64 x.1,.string (str x.2)] 182)).alloc (.cells #[aD w.heap.size wr.heap.size] 201)) wr.heap.size 182 #[.int .i64 x.1,.string (str x.2)]:=(qg.new wr _ _).of_block (Below.heap_alloc _ _ _ (by simp));have HKP:=QH hkp;have HGI:=QH hgi;clear q0 q1 qb tv hB1 hB2 hown2 hnews qnW hkp hgi;go_wp2_with (at_builtin;refine wpList_append_own _ rfl (.tmp 28) (.tmp 30) 156 rfl w.heap.size 201 i0 .nilFunc 1 8 underlying156 hi hz0 hz1 hz2 rfl (by decide) _ vs.length _ rfl uX.out ⟨wr.heap.size+1,0,none⟩ 1 1 [aD w.heap.size wr.heap.size] rfl rfl bH.out (qik _ _ _) ?_ ?_ qC.out.size ?_)
     ·unfold maxLen;omega
     ·omega
     ·intro v' w1 hown1 hgrow _;have qkj:=HKP.out.trans (kP.grown uX.out hgrow);have hb1:=qC.out.grown hgrow qC.out.size (fun j hj=>(uX.out.lt j hj).1);have q0x:mO w1 w.heap.size p (.w x.1 x.2) (aD w.heap.size wr.heap.size):=⟨_,_,rfl,Nat.le_refl _,HB.out.size,qkj _ _ _ (by decide) HK.out,kP.grown uX.out hgrow _ _ _ (by decide) HGI.out⟩;have hgm:=tC.more HS.out HK.out qkj q0x hown1 hb1;have HGM:=QH hgm;clear qkj hb1 q0x hgm hown1 hgrow;go_wp2_with fail;go_roundw;case rel=>exact⟨j+1,by omega,by go_num,by rw[HWS.out,← List.append_assoc];exact HGM.out⟩
      case measure=>simp[intOf];omega
    ·obtain rfl:j=l.length:=by omega
     have hB2:Below w.heap.size w (wr.alloc (.cells #[gM p] 201)):=HB.out.alloc HB.out.size _;have hown2:=HO.out.alloc (.cells #[gM p] 201);have hnews:=fW wr 201 (gM p);have uX:=QH hown2;have bH:=QH hnews;have qC:=QH hB2;have HKP:=QH (kP.below (zF (Below.refl _ wr) (.cells #[gM p] 201)));clear hB2 hown2 hnews;go_wp2_with (at_builtin;refine wpList_append_own _ rfl (.tmp 33) (.tmp 35) 156 rfl w.heap.size 201 i0 .nilFunc 1 8 underlying156 hi hz0 hz1 hz2 rfl (by decide) _ vs.length _ rfl uX.out ⟨wr.heap.size,0,none⟩ 1 1 [gM p] rfl rfl bH.out (qik _ _ _) ?_ ?_ qC.out.size ?_)
     ·unfold maxLen;omega
     ·omega
     ·intro v' w1 hown1 hgrow _;have qkj:=HKP.out.trans (kP.grown uX.out hgrow);have hb1:=qC.out.grown hgrow qC.out.size (fun j hj=>(uX.out.lt j hj).1);have hgm:=tC.more (s:=.f) HS.out HK.out qkj rfl hown1 hb1;have HGM:=QH hgm;clear qkj hb1 hgm hown1 hgrow;go_wp2_with fail;go_roundw;case rel=>exact⟨k+1,by omega,by go_num,by rw[HST.out];have:=HGM.out;rw[List.take_length,List.append_assoc]at this;exact this⟩
      case measure=>simp[intOf];omega
  ·obtain rfl:k=bs.length:=by omega
   go_wp2_with fail;go_ret;have:=HG.out;rw[List.take_length]at this;exact⟨_,rfl,this⟩
def qil (w:World)(B p:Nat)(a:Option Addr)(ss:List Step):Prop :=
 ∀(j:Nat) (s:Step),ss[j]?=some s→∃b v,a=some ⟨b,0,none⟩∧B≤b∧b<w.heap.size∧w.cell? ⟨b,j,none⟩=some v∧mO w B p s v
theorem tC.view{w wr:World}{p:Nat}{ss:List Step}{v:Value}(h:tC w p ss v wr):∃a c,v=.slice a ss.length c∧qil wr w.heap.size p a ss:=by
 obtain⟨vs,ho,hs,_,_⟩:=h;rcases ho.2 with⟨rfl,h0⟩|⟨g,cap,cur,rfl,hg,hh,hcc,hm,hcs,xo⟩
 ·have hn:ss=[]:=List.length_eq_zero_iff.1 (by rw[hs.1];exact h0);subst hn;exact⟨none,0,rfl,fun j s h=>by simp at h⟩
 ·refine⟨some ⟨g,0,none⟩,cap,by rw[hs.1],fun j s hj=>?_⟩;have hjl:j<ss.length:=(List.getElem?_eq_some_iff.1 hj).1;have hjv:j<vs.length:=by rw[← hs.1];exact hjl
  have hv:vs[j]?=some vs[j]:=List.getElem?_eq_getElem hjv;refine⟨g,vs[j],rfl,hg,(Array.getElem?_eq_some_iff.1 hh).1,?_,hs.2 j s _ hj hv⟩;have:=cell_of_row wr g j cur 201 (0,0) hh;rw[this];have h2:cur.toList[j]?=some vs[j]:=by
   have h3:(cur.toList.take (vs.length*1))[j]?=some vs[j]:=by rw[xo];exact hv
   rw[List.getElem?_take]at h3;split at h3
   ·exact h3
   ·cases h3
  simpa using h2
section
variable {most:Nat} {w:World} {G:Nat→Prop} {p:Nat} {d:DD}
theorem fX (hI:InG most w G p d)(hG:∀k,w.heap.size≤k→G k)(hm:d.more.length<most)(yZ:most≤100000)(k:Int)(x:Bt)(gw gi:Nat)(hw:qg w gw 46 #[ed p])(hi:qg w gi 182 #[.int .i64 k,.string (str x)]) :
    Calls prog 133 #[.pointer (some ⟨gw,0,none⟩),.pointer (some ⟨gi,0,none⟩)] w (r9 most G p (d.write k x).2 (.int .i64 (d.write k x).1) w):=by
 have e0:=hw.cell 0;have l0:=hw.lt;have e1:=hi.cell 0;have e2:=hi.cell 1;have l1:=hi.lt;have HI:=QH hI;unfold ed at e0;clear hw hi hI;go_enter func133,ntmps133;go_wp2_with fail;refine(qrA HI.out hG hm yZ k (str x) x (zh x) _ _ rfl rfl).mono ?_;rintro e W1 ⟨rfl,i1,b1⟩;have H1:Hid (InG most W1 G p (d.write k x).2∧qz G w W1):=⟨i1,b1⟩;clear i1 b1;go_wp2_with fail;go_ret;exact⟨rfl,H1.out⟩
theorem qgA(d:DD)(s:Step):(kd d s).2.more.length≤d.more.length+1:=by
 cases s with
 | w k v=>exact qfT d k v
 | f =>
  have ho:=(xQ d).2.1;unfold kd DD.flush;dsimp only;split
  ·simp
  ·split <;> simp[ho]
def qwp (most:Nat)(w:World)(G:Nat→Prop)(p:Nat)(ss:List Step)(d:DD)(i:Value)(wr:World):Prop :=
 ∃(k:Nat) (e:DD),k≤ss.length∧i=.int .i64 (k:Int)∧InG most wr G p e∧qz G w wr∧ai ss d=ai (ss.drop k) e∧e.more.length≤d.more.length+k
theorem qrE(B:Nat)(ss:List Step)(a:Option Addr)(c:Nat)(hI:InG most w G p d)(hG:∀k,w.heap.size≤k→G k)(q0y:∀k,B≤k→k<w.heap.size→¬ G k)(hs:qil w B p a ss)(hm:d.more.length+ss.length≤most)(yZ:most≤100000) :
    Calls prog 87 #[.slice a ss.length c] w (r9 most G p (ai ss d).2 (.int .i64 (ai ss d).1) w):=by
 have HS:=QH hs;have HI:=QH hI;have HG:=QH hG;have HD:=QH q0y;clear hs hI hG q0y;go_enter func87,ntmps87;go_wp2_with fail;go_loopw [8] (fun i wr=>qwp most w G p ss d i wr) (fun i _=>ss.length-(intOf i).toNat);case atStart=>exact⟨0,d,Nat.zero_le _,rfl,HI.out,qz.refl _ _,by rw[List.drop_zero],Nat.le_refl _⟩
 case round =>
  obtain⟨k,e,hk,rfl,hi,hb,hrun,hml⟩:=hrel;have H1:=QH hi;have HB:=QH hb;have HR:=QH hrun;have hG1:∀k,wr.heap.size≤k→G k:=fun j hj=>HG.out j (Nat.le_trans hb.size hj);have HG1:=QH hG1;clear hi hb hrun hG1;by_cases hlt:k<ss.length
  ·have hsk:ss[k]?=some ss[k]:=List.getElem?_eq_getElem hlt;obtain⟨b,v,rfl,hBb,hbl,hcell,hv⟩:=HS.out k ss[k] hsk;have qdP:ss.drop k=ss[k]::ss.drop (k+1):=List.drop_eq_getElem_cons hlt;have hsm:=qgA e ss[k];rw[qdP]at HR;generalize ss[k]=s at *;have hc1:wr.cell? ⟨b,k,none⟩=some v:=by
    rw[World.cell?_of_block (a:=⟨b,k,none⟩) (HB.out.block b hbl (HD.out b hBb hbl))];exact hcell
   have zc7:b<wr.heap.size:=Nat.lt_of_lt_of_le hbl HB.out.size;have ra:(k:Int)<(ss.length:Int):=by omega
   have uh:(∃gw gi,v=aD gw gi∧Calls prog 133 #[.pointer (some ⟨gw,0,none⟩),.pointer (some ⟨gi,0,none⟩)] wr (r9 most G p (kd e s).2 (.int .i64 (kd e s).1) wr)) ∨
       (v=gM p∧Calls prog 132 #[.pointer (some ⟨p,0,none⟩)] wr (r9 most G p (kd e s).2 (.int .i64 (kd e s).1) wr)):=by
    cases s with
    | f=>exact .inr ⟨hv,qrB H1.out HG1.out _ _ rfl rfl⟩
    | w kk x =>
     obtain⟨gw,gi,h1,h2,h3,h4,h5⟩:=hv;exact .inl ⟨gw,gi,h1,fX H1.out HG1.out (by omega) yZ kk x gw gi (h4.of_block (HB.out.block gw h4.lt (HD.out gw h2 h4.lt))) (h5.of_block (HB.out.block gi h5.lt (HD.out gi h3 h5.lt)))⟩
   have mq:ai (s::ss.drop (k+1)) e=if (kd e s).1=0 then ai (ss.drop (k+1)) (kd e s).2 else kd e s:=rfl
   rw[mq]at HR;have HC:=QH uh;clear uh mq hv hcell hsk qdP;obtain⟨r,hr⟩:=QE ((kd e s).1);obtain⟨e2,tT⟩:=QE ((kd e s).2);rw[hr,tT]at HC HR;rw[tT]at hsm;have hse:kd e s=(r,e2):=by rw[← hr,← tT]
   rw[hse]at HR;clear hr tT hse;by_cases h0:r=0
   ·subst h0;rw[if_pos rfl]at HR;rcases HC.out with⟨gw,gi,rfl,hcc⟩|⟨rfl,hcc⟩;all_goals
     have HCC:=QH hcc;clear hcc HC;simp only[aD,gM]at hc1;go_wp2_with fail;refine HCC.out.mono ?_;rintro x W2 ⟨rfl,i2,b2⟩;have H2:=QH i2;have qC:=QH (HB.out.trans b2 (fun i hi=>.inl hi));clear i2 b2;go_wp2_with fail;go_roundw;case rel=>exact⟨k+1,e2,by omega,by go_num,H2.out,qC.out,HR.out,by omega⟩
     case measure=>simp[intOf];omega
   ·have hne:((r:Int) != 0)=true:=by simpa using h0
    rw[if_neg h0]at HR;rcases HC.out with⟨gw,gi,rfl,hcc⟩|⟨rfl,hcc⟩;all_goals
     have HCC:=QH hcc;clear hcc HC;simp only[aD,gM]at hc1;go_wp2_with fail;refine HCC.out.mono ?_;rintro x W2 ⟨rfl,i2,b2⟩;have H2:=QH i2;have qC:=QH (HB.out.trans b2 (fun i hi=>.inl hi));clear i2 b2;go_wp2_with fail;go_ret;rw[HR.out];exact⟨rfl,H2.out,qC.out⟩
  ·obtain rfl:k=ss.length:=by omega
   go_wp2_with fail;go_ret;rw[HR.out,List.drop_length];exact⟨rfl,H1.out,HB.out⟩
end
end Go.Proofs.YtdagdllomphidaaGreatDoor.jr
namespace Go.Proofs.YtdagdllomphidaaGreatDoor.jr
open _root_.Go.Proofs.Tryz Go Go.RowKit dk wi
theorem wY:(prog.info? 3).map (fun i=>(i.zero,i.size,i.bytes))=some (some (.int .i64 0),1,8):=by kernel_rfl
theorem qnX:(prog.info? 182).map (fun i=>(i.zero,i.size,i.bytes))=some (some (.agg #[.int .i64 0,.string ByteArray.empty]),2,24):=by kernel_rfl
section
variable {most:Nat} {w W1:World} {own:Nat→Prop} {p:Nat} {d:DD} {ss:List Step} {v:Value}
theorem lD (h:zA most w own p d)(hg:tC w p ss v W1)(hm:d.more.length+ss.length≤most)(yZ:most≤100000) :
    Calls prog 87 #[v] W1 (xh most own p (ai ss d).2 (.int .i64 (ai ss d).1) w):=by
 obtain⟨A,c,rfl,hst⟩:=hg.view;obtain⟨_,_,_,_,hB⟩:=hg;have hI:InG most W1 (fun k=>own k∨W1.heap.size≤k) p d:=⟨own,h.below hB,fun k hk=>.inl hk⟩;refine(qrE w.heap.size ss A c hI (fun k hk=>.inr hk) (fun k h1 h2 h3=>?_) hst hm yZ).mono ?_
 ·rcases h3 with h3|h3
  ·have:=h.low k h3;omega
  ·omega
 ·rintro e W2 ⟨rfl,⟨jY,h1,h2⟩,h3⟩;refine⟨rfl,jY,h1,?_,fun k hk=>?_⟩
  ·refine⟨h3.os.trans hB.os,h3.tape.trans hB.tape,h3.output.trans hB.output,Nat.le_trans hB.size h3.size,fun k hk hn=>?_⟩;rw[h3.block k (Nat.lt_of_lt_of_le hk hB.size) (fun g=>?_),hB.block k hk];rcases g with g|g
   ·exact hn g
   ·have:=hB.size;omega
  ·rcases h2 k hk with g|g
   ·exact .inl g
   ·exact .inr (Nat.le_trans hB.size g)
theorem xh.from{w0 w:World}{r:Value}{e:Ending}{w':World}(h:xh most own p d r w e w')(hb:Below w0.heap.size w0 w)(xP:∀k,own k→k<w0.heap.size):xh most own p d r w0 e w':=by
 obtain⟨rfl,jY,h1,h2,h3⟩:=h;refine⟨rfl,jY,h1,⟨h2.os.trans hb.os,h2.tape.trans hb.tape,h2.output.trans hb.output,Nat.le_trans hb.size h2.size,fun k hk hn=>?_⟩,fun k hk=>?_⟩
 ·rw[h2.block k (Nat.lt_of_lt_of_le hk hb.size) hn,hb.block k hk]
 ·rcases h3 k hk with g|g
  ·exact .inl g
  ·exact .inr (Nat.le_trans hb.size g)
end
def zC (w:World)(B:Nat)(v:Value)(zs:List Int):Prop:=w.ownsRow B 3 1 v zs.length (zs.map (Value.int .i64))
def qnY (w:World)(bs:List (List Wr))(v i:Value)(wr:World):Prop :=
 ∃k:Nat,k≤bs.length∧i=.int .i64 (k:Int)∧zC wr w.heap.size v (placesOf (bs.take k))∧Below w.heap.size w wr
def qwq (w:World)(pre:List Int)(l:List Wr)(v i:Value)(wr:World):Prop :=
 ∃k:Nat,k≤l.length∧i=.int .i64 (k:Int)∧zC wr w.heap.size v (pre++(l.take k).map (·.1))∧Below w.heap.size w wr
theorem tD (bs:List (List Wr))(k:Nat)(h:k<bs.length):placesOf (bs.take (k+1))=placesOf (bs.take k)++bs[k].map (·.1):=by
 unfold placesOf;rw[List.take_succ_eq_append_getElem h,List.flatten_append,List.map_append];simp
theorem gO:∀(bs:List (List Wr)),(∀l∈bs,l.length≤1000)→(placesOf bs).length≤1000*bs.length
 | [],_=>by simp[placesOf]
 | l::r,h=>by
  have h1:=h l (by simp);have h2:=gO r (fun m hm=>h m (by simp[hm]));simp only[placesOf,List.flatten_cons,List.map_append,List.length_append,List.length_map,List.length_cons]at h2 ⊢;omega
theorem qrF(z:Int):∀u∈([Value.int .i64 z]:List Value),u.oneCell'=true:=by
 intro u hu;simp at hu;subst hu;rfl
def yv (zs:List Int)(w:World)(e:Ending)(w':World):Prop:=∃v,e=.returned v∧zC w' w.heap.size v zs∧Below w.heap.size w w'
theorem zC.view{w:World}{B:Nat}{v:Value}{zs:List Int}(h:zC w B v zs)(hz:∀z∈zs,qG z):∃a c,v=.slice a zs.length c∧qM w a zs:=by
 rcases h.2 with⟨rfl,h0⟩|⟨g,cap,cur,rfl,hg,hh,hcc,hm,hcs,xo⟩
 ·obtain rfl:zs=[]:=List.length_eq_zero_iff.1 h0;exact⟨none,0,rfl,fun i h=>by simp at h⟩
 ·refine⟨some ⟨g,0,none⟩,cap,rfl,fun i hi=>⟨g,0,rfl,(Array.getElem?_eq_some_iff.1 hh).1,?_,(hz _ (List.getElem_mem hi)).1,(hz _ (List.getElem_mem hi)).2⟩⟩;rw[Nat.zero_add,cell_of_row w g i cur 3 (0,0) hh];have h3:(cur.toList.take (zs.length*1))[i]?=some (.int .i64 zs[i]):=by rw[xo];simp[hi]
  rw[List.getElem?_take]at h3;split at h3
  ·simpa using h3
  ·cases h3
theorem uH (a:Option Addr)(c:Nat)(bs:List (List Wr))(w:World)(hT:qdO w a bs)(hl:bs.length≤10)(hl2:∀l∈bs,l.length≤1000) :
    Calls prog 168 #[.slice a bs.length c] w (yv (placesOf bs) w):=by
 obtain⟨i0,hi,hz0,hz1,hz2⟩:=info_parts wY;have HT:=QH hT;have nt:=QH hl2;clear hT hl2;go_enter func168,ntmps168;go_wp2_with fail;go_loopw [3,10] (fun v i wr=>qnY w bs v i wr) (fun _ i _=>bs.length-(intOf i).toNat);case atStart=>exact⟨0,Nat.zero_le _,rfl,World.ownsRow_nil _ _ _ _,Below.refl _ _⟩
 case round =>
  obtain⟨k,hk,rfl,ho0,hB0⟩:=hrel;have HO0:=QH ho0;have xz:=QH hB0;clear ho0 hB0;by_cases hlt:k<bs.length
  ·obtain⟨b,o,A,cc,rfl,hb,hc,hW⟩:=HT.out k hlt;have hst:=tD bs k hlt;have hlen:=nt.out bs[k] (List.getElem_mem hlt);generalize bs[k]=l at *;have hc2:wr.cell? ⟨b,o+k,none⟩=some (.slice A l.length cc):=by rw[xz.out.cell (p:=⟨b,o+k,none⟩) hb];exact hc
   have hb2:b<wr.heap.size:=Nat.lt_of_lt_of_le hb xz.out.size;have ra:(k:Int)<(bs.length:Int):=by omega
   have HW:=QH hW;have HST:=QH hst;clear hc hW hst;go_wp2_with fail;obtain⟨wo,rfl⟩:∃wo:World,wo=wr:=⟨_,rfl⟩;go_loopw [3,16] (fun v i wr=>qwq w (placesOf (bs.take k)) l v i wr) (fun _ i _=>l.length-(intOf i).toNat);case atStart=>exact⟨0,Nat.zero_le _,rfl,by simpa using HO0.out,xz.out⟩
   case round =>
    obtain⟨j,hj,rfl,hown,hB⟩:=hrel;have HO:=QH hown;have HB:=QH hB;clear hown hB;have hvl:(placesOf (bs.take k)++(l.take j).map (·.1)).length≤100000:=by
     have h2:=gO (bs.take k) (fun m hm=>nt.out m (List.mem_of_mem_take hm));have h3:(bs.take k).length≤10:=by simp;omega
     rw[List.length_append,List.length_map,List.length_take];omega
    by_cases hjl:j<l.length
    ·obtain⟨bb,oo,rfl,hbb,q0,q1,qb⟩:=HW.out j hjl;have tv:(l.take (j+1)).map (·.1)=(l.take j).map (·.1)++[l[j].1]:=by rw[List.take_succ_eq_append_getElem hjl,List.map_append];rfl
     generalize l[j]=x at *;have e0:wr.cell? ⟨bb,oo+j*2,none⟩=some (.int .i64 x.1):=by rw[HB.out.cell (p:=⟨bb,oo+j*2,none⟩) hbb];exact q0
     have e1:wr.cell? ⟨bb,oo+j*2+1,none⟩=some (.string (str x.2)):=by rw[HB.out.cell (p:=⟨bb,oo+j*2+1,none⟩) hbb];exact q1
     have q6a:bb<wr.heap.size:=Nat.lt_of_lt_of_le hbb HB.out.size;have qnU:(j:Int)<(l.length:Int):=by omega
     have HWS:=QH tv;have hB1:Below w.heap.size w (wr.alloc (.cells #[.int .i64 x.1,.string (str x.2)] 182)):=HB.out.alloc HB.out.size _;have hB2:Below w.heap.size w ((wr.alloc (.cells #[.int .i64 x.1,.string (str x.2)] 182)).alloc (.cells #[.int .i64 x.1] 3)):=hB1.alloc hB1.size _;have hown2:=(HO.out.alloc (.cells #[.int .i64 x.1,.string (str x.2)] 182)).alloc (.cells #[.int .i64 x.1] 3);have hnews:=fW (wr.alloc (.cells #[.int .i64 x.1,.string (str x.2)] 182)) 3 (.int .i64 x.1);have qnW:(wr.alloc (.cells #[.int .i64 x.1,.string (str x.2)] 182)).heap.size=wr.heap.size+1:=by simp
     rw[qnW]at hnews;have uX:=QH hown2;have bH:=QH hnews;have qC:=QH hB2;clear q0 q1 qb tv hB1 hB2 hown2 hnews qnW;generalize hpl:placesOf (bs.take k)++(l.take j).map (·.1)=zs at *;go_wp2_with (at_builtin;refine wpList_append_own _ rfl (.tmp 20) (.tmp 23) 57 rfl w.heap.size 3 i0 (.int .i64 0) 1 8 underlying57 hi hz0 hz1 hz2 rfl (by decide) _ zs.length _ rfl uX.out ⟨wr.heap.size+1,0,none⟩ 1 1 [.int .i64 x.1] rfl rfl bH.out (qrF _) ?_ ?_ qC.out.size ?_)
     ·unfold maxLen;omega
     ·omega
     ·intro v' w1 hown1 hgrow _;have hb1:=qC.out.grown hgrow qC.out.size (fun j hj=>(uX.out.lt j hj).1);have ho1:zC w1 w.heap.size v' (zs++[x.1]):=by unfold zC;rw[List.length_append,List.map_append];exact hown1
      have HO1:=QH ho1;have qV:=QH hb1;clear hb1 ho1 hown1 hgrow;go_wp2_with fail;go_roundw;case rel=>exact⟨j+1,by omega,by go_num,by rw[HWS.out,← List.append_assoc,hpl];exact HO1.out,qV.out⟩
      case measure=>simp[intOf];omega
    ·obtain rfl:j=l.length:=by omega
     go_wp2_with fail;go_roundw;case rel=>exact⟨k+1,by omega,by go_num,by rw[HST.out];have:=HO.out;rw[List.take_length]at this;exact this,HB.out⟩
     case measure=>simp[intOf];omega
  ·obtain rfl:k=bs.length:=by omega
   go_wp2_with fail;go_ret;have:=HO0.out;rw[List.take_length]at this;exact⟨_,rfl,this,xz.out⟩
end Go.Proofs.YtdagdllomphidaaGreatDoor.jr
namespace Go.Proofs.YtdagdllomphidaaGreatDoor.jr
open _root_.Go.Proofs.Tryz Go Go.RowKit dk wi
def zW:List Wr→List Value
 | []=>[]
 | x::r=>.int .i64 x.1 :: .string (str x.2)::zW r
def mR (w:World)(B:Nat)(v:Value)(l:List Wr):Prop:=w.ownsRow B 182 2 v l.length (zW l)
theorem vW:∀(l r:List Wr),zW (l++r)=zW l++zW r
 | [],_=>rfl
 | x::l,r=>by simp[zW,vW l r]
theorem jy:∀l:List Wr,(zW l).length=l.length*2
 | []=>rfl
 | x::l=>by simp[zW,jy l];omega
theorem ve:∀(l:List Wr) (i:Nat) (h:i<l.length),(zW l)[i*2]?=some (.int .i64 l[i].1)∧(zW l)[i*2+1]?=some (.string (str l[i].2))
 | x::l,0,_=>⟨rfl,rfl⟩
 | x::l,i+1,h=>by
  have:=ve l i (by simpa using h);rw[show(i+1)*2=i*2+1+1 from by omega];exact this
theorem mR.view{w:World}{B:Nat}{v:Value}{l:List Wr}(h:mR w B v l)(hz:∀x∈l,qG x.1):∃a c,v=.slice a l.length c∧vd w a l:=by
 rcases h.2 with⟨rfl,h0⟩|⟨g,cap,cur,rfl,hg,hh,hcc,hm,hcs,xo⟩
 ·obtain rfl:l=[]:=List.length_eq_zero_iff.1 h0;exact⟨none,0,rfl,fun i h=>by simp at h⟩
 ·refine⟨some ⟨g,0,none⟩,cap,rfl,fun i hi=>?_⟩;have key:∀(j:Nat) (u:Value),(zW l)[j]?=some u→w.cell? ⟨g,j,none⟩=some u:=by
   intro j u hu;rw[cell_of_row w g j cur 182 (0,0) hh];rw[← xo,List.getElem?_take]at hu;split at hu
   ·simpa using hu
   ·cases hu
  obtain⟨g0,g1⟩:=ve l i hi;exact⟨g,0,rfl,(Array.getElem?_eq_some_iff.1 hh).1,by rw[Nat.zero_add];exact key _ _ g0,by rw[Nat.zero_add];exact key _ _ g1,hz _ (List.getElem_mem hi)⟩
theorem qbK(x:Wr):∀u∈([Value.int .i64 x.1,.string (str x.2)]:List Value),u.oneCell'=true:=by
 intro u hu;simp at hu;rcases hu with rfl|rfl <;> rfl
theorem qnZ(w:World)(t:TypeId)(v u:Value):∀(j:Nat) (x:Value),([v,u]:List Value)[j]?=some x→(w.alloc (.cells #[v,u] t)).cell? ((⟨w.heap.size,0,none⟩:Addr).add j)=some x:=by
 intro j x hj
 match j,hj with
 | 0,hj =>
  simp at hj;subst hj;rw[addr_add];exact(qg.new w t #[v,u]).cell 0
 | 1,hj =>
  simp at hj;subst hj;rw[addr_add];exact(qg.new w t #[v,u]).cell 1
theorem mR.snoc{w1:World}{B:Nat}{v':Value}{l:List Wr}{x:Wr}(h:w1.ownsRow B 182 2 v' (l.length+1) (zW l++[.int .i64 x.1,.string (str x.2)])):mR w1 B v' (l++[x]):=by
 unfold mR;rw[List.length_append,vW];exact h
theorem qoa{w:World}{B C:Nat}{v:Value}{l:List Wr}(h:mR w B v l)(hc:C≤B):mR w C v l:=by
 refine⟨h.1,?_⟩;rcases h.2 with hn|⟨g,cap,cur,hv,hb,rest⟩
 ·exact .inl hn
 ·exact .inr ⟨g,cap,cur,hv,Nat.le_trans hc hb,rest⟩
def q6e (l:List Wr)(w:World)(e:Ending)(w':World):Prop:=∃v,e=.returned v∧mR w' w.heap.size v l∧Below w.heap.size w w'
def qwr (w:World)(o:Nat)(ss:List Bt)(v i:Value)(wr:World):Prop :=
 ∃k:Nat,k≤ss.length∧i=.int .i64 (k:Int)∧mR wr w.heap.size v (zk o (ss.take k))∧Below w.heap.size w wr
theorem uk (a cnt:Nat)(ha:a<2)(A:Option Addr)(cc:Nat)(ss:List Bt)(w:World)(hT:ja w A ss)(hl:ss.length≤1000) :
    Calls prog 166 #[.agg #[.int .i64 (a:Int),.int .i64 (cnt:Int)],.slice A ss.length cc] w (q6e (lay a ss) w):=by
 obtain⟨i0,hi,hz0,hz1,hz2⟩:=info_parts qnX;have HT:=QH hT;have qkk:=fun(W:World)=>qa4 a cnt ha W;unfold lay;have q0z:1+a*72≤73:=by omega
 obtain⟨o1,ho1⟩:=QE (1+a*72);rw[ho1]at q0z;simp only[ho1]at qkk;rw[ho1];have HF:=QH qkk;clear ho1 qkk;have kb:qg (w.alloc (.cells #[.int .i64 (a:Int),.int .i64 (cnt:Int)] 149)) w.heap.size _ _:=qg.new w _ _;clear hT;have k0:=kb.lt;have hb0:Below w.heap.size w (w.alloc (.cells #[.int .i64 (a:Int),.int .i64 (cnt:Int)] 149)):=(Below.refl w.heap.size w).alloc (Nat.le_refl _) _;go_enter func166,ntmps166;go_wp2_with fail;obtain⟨w0,hw0⟩:=QE (w.alloc (.cells #[.int .i64 (a:Int),.int .i64 (cnt:Int)] 149));rw[hw0]at kb k0 hb0;rw[hw0];clear hw0;have KB:=QH kb;have xz:=QH hb0;clear kb hb0;go_loopw [5,10] (fun v i wr=>qwr w0 o1 ss v i wr) (fun _ i _=>ss.length-(intOf i).toNat);case atStart=>exact⟨0,Nat.zero_le _,rfl,World.ownsRow_nil _ _ _ _,Below.refl _ _⟩
 case round =>
  obtain⟨k,hk,rfl,ho,hB⟩:=hrel;have HO:=QH ho;have HB:=QH hB;clear ho hB;by_cases hlt:k<ss.length
  ·obtain⟨b,o,rfl,hb,hc⟩:=HT.out k hlt;have hsn:zk o1 (ss.take (k+1))=zk o1 (ss.take k)++[(((o1+k:Nat):Int),ss[k])]:=by
    rw[List.take_succ_eq_append_getElem hlt,cG];simp only[List.length_take];rw[Nat.min_eq_left (by omega)]
   have dz:(zk o1 (ss.take k)).length=k:=by rw[zg];simp;omega
   generalize ss[k]=x at *;have kJ:=QH (xz.out.trans (HB.out.mono xz.out.size));have e0:wr.cell? ⟨b,o+k,none⟩=some (.string (str x)):=by rw[kJ.out.cell (p:=⟨b,o+k,none⟩) hb];exact hc
   have hb2:b<wr.heap.size:=Nat.lt_of_lt_of_le hb kJ.out.size;have hB2:=KB.out.of_block (HB.out.block _ k0);have q0:=hB2.cell 0;have q1:=hB2.cell 1;have lt2:=hB2.lt;have ra:(k:Int)<(ss.length:Int):=by omega
   have kX:=QH hsn;have bF:=QH dz;clear hc hB2 hsn;go_wp2_with fail;refine(HF.out _).mono ?_;rintro e W1 ⟨rfl,b1⟩;have ho1:W1.ownsRow w0.heap.size 182 2 _ _ _:=zm HO.out (fun j hj=>b1.block j (jO HO.out j hj));have qV:=QH (HB.out.trans (b1.mono HB.out.size));have hown2:=ho1.alloc (.cells #[.int .i64 ((o1:Int)+(k:Int)),.string (str x)] 182);have hnews:=qnZ W1 182 (.int .i64 ((o1:Int)+(k:Int))) (.string (str x));have uX:=QH hown2;have bH:=QH hnews;have qC:=QH (qV.out.alloc qV.out.size (.cells #[.int .i64 ((o1:Int)+(k:Int)),.string (str x)] 182));clear b1 ho1 hown2 hnews q0 q1;have hkb:k≤100000:=by omega
   go_wp2_with (at_builtin;refine wpList_append_own _ rfl (.tmp 15) (.tmp 22) 136 rfl w0.heap.size 182 i0 (.agg #[.int .i64 0,.string ByteArray.empty]) 2 24 underlying136 hi hz0 hz1 hz2 rfl (by decide) _ (zk o1 (ss.take k)).length _ rfl uX.out ⟨W1.heap.size,0,none⟩ 1 1 [.int .i64 ((o1:Int)+(k:Int)),.string (str x)] rfl rfl bH.out (qbK (((o1:Int)+(k:Int)),x)) ?_ ?_ qC.out.size ?_)
   ·rw[bF.out];unfold maxLen;omega
   ·rw[bF.out];omega
   ·intro v' w1 hown1 hgrow _;have hb1:=qC.out.grown hgrow qC.out.size (fun j hj=>(uX.out.lt j hj).1);have hos:=mR.snoc (w1:=w1) (B:=w0.heap.size) (v':=v') (l:=zk o1 (ss.take k)) (x:=((o1:Int)+(k:Int),x)) (by rw[bF.out];exact hown1);have HOS:=QH hos;have qZ:=QH hb1;clear hb1 hos hown1 hgrow;go_wp2_with fail;go_roundw;case rel=>exact⟨k+1,by omega,by go_num,by rw[kX.out];exact HOS.out,qZ.out⟩
    case measure=>simp[intOf];omega
  ·obtain rfl:k=ss.length:=by omega
   go_wp2_with fail;go_ret;have:=HO.out;rw[List.take_length]at this;refine⟨_,rfl,?_,xz.out.trans (HB.out.mono xz.out.size)⟩;exact qoa this xz.out.size
end Go.Proofs.YtdagdllomphidaaGreatDoor.jr
namespace Go.Proofs.YtdagdllomphidaaGreatDoor.vt.pg
open _root_.Go.Proofs.Tryz Go Go.RowKit ib mt im sp
abbrev Wr:=jr.Wr
theorem qbL:(prog.info? 182).map (fun i=>(i.zero,i.size,i.bytes))=some (some (.agg #[.int .i64 0,.string ByteArray.empty]),2,24):=by kernel_rfl
def wz (n:Nat):List Value:=jr.zW (List.replicate n (0,[]))
theorem qob(n:Nat):(wz n).length=n*2:=by unfold wz;rw[jr.jy,List.length_replicate]
theorem qws(n:Nat):madeCells #[.int .i64 0,.string ByteArray.empty] (n*2)=(wz n).toArray:=by
 apply Array.ext
 ·rw[size_madeCells,List.size_toArray,qob]
 ·intro j h1 h2;have hj:j<n*2:=by simpa[qob]using h2
  have hm:j%2<2:=Nat.mod_lt _ (by omega);have hg:=jr.ve (List.replicate n ((0:Int),([]:List UInt8))) (j/2) (by simp;omega);rw[List.getElem_replicate]at hg;have e2:(wz n).toArray[j]?=some (if j%2=0 then .int .i64 0 else .string (str [])):=by
   rw[List.getElem?_toArray];unfold wz;by_cases h0:j%2=0
   ·rw[if_pos h0];have:=hg.1;rw[show j/2*2=j by omega]at this;exact this
   ·rw[if_neg h0];have:=hg.2;rw[show j/2*2+1=j by omega]at this;exact this
  rw[Array.getElem?_eq_getElem h2]at e2;rw[Option.some.inj e2];obtain⟨q,hq⟩:=QE (j%2);rw[hq]at hm ⊢
  match q,hm with
  | 0,_=>simp[madeCells,hq]
  | 1,_=>simp[madeCells,hq];rfl
theorem qgB{ρ:Operand→Value}{o:Oper}{w:World}(x y:Operand)(n:Nat)(ho:o.op=.makeSlice 136 x y)(hx:ρ x=.int .i64 (n:Int))(hy:ρ y=.int .i64 (n:Int))(h:n≤1000) :
    (execOp ρ o).run prog w=.ok (.value (.slice (some ⟨w.heap.size,0,none⟩) n n)) (w.alloc (.cells (wz n).toArray 182)):=by
 obtain⟨i0,hi,hz0,hz1,hz2⟩:=info_parts qbL;have hmk:=run_make (P:=prog) w 136 182 i0 (.agg #[.int .i64 0,.string ByteArray.empty]) underlying136 hi hz0 .i64 .i64 (n:Int) (n:Int) (by omega) (Int.le_refl _) (by rw[hz2];omega) (by omega);rw[hz1]at hmk;have:(Instr.makeSlice 136 (.int .i64 (n:Int)) (.int .i64 (n:Int))).run prog w=.ok (.slice (some ⟨w.heap.size,0,none⟩) n n) (w.alloc (.cells (wz n).toArray 182)):=by
  rw[← qws];simpa[Value.cells]using hmk
 simp[execOp,ho,hx,hy,this,Result.andThen]
theorem ee:∀(l:List Wr) (k:Nat) (_:k<l.length) (x:Wr),((jr.zW l).set (k*2) (.int .i64 x.1)).set (k*2+1) (.string (str x.2))=jr.zW (l.set k x)
 | y::l,0,_,x=>rfl
 | y::l,k+1,hk,x=>by
  have ih:=ee l k (by simpa using hk) x;rw[show(k+1)*2=k*2+1+1 by omega];simp only[jr.zW,List.set_cons_succ];exact congrArg _ (congrArg _ ih)
theorem qrH{ss:List Bt}{n k:Nat}(hl:ss.length=n)(hk:k<n):(jr.zk 145 (ss.take k)++List.replicate (n-k) ((0:Int),([]:List UInt8))).set k (((145+k:Nat):Int),ss[k]'(by omega))=jr.zk 145 (ss.take (k+1))++List.replicate (n-(k+1)) ((0:Int),([]:List UInt8)):=by
 have mD:(jr.zk 145 (ss.take k)).length=k:=by rw[jr.zg,List.length_take];omega
 rw[List.set_append_right _ _ (by omega),mD,Nat.sub_self,show n-k=(n-(k+1))+1 by omega,List.replicate_succ,List.set_cons_zero,List.take_succ_eq_append_getElem (by omega),jr.cG,List.length_take,Nat.min_eq_left (by omega),List.append_assoc];rfl
def WrR (ss:List Bt)(g:Nat)(w:World)(i:Value)(wr:World):Prop :=
 ∃k:Nat,k≤ss.length∧i=.int .i64 (k:Int)∧qg wr g 182 (jr.zW (jr.zk 145 (ss.take k)++List.replicate (ss.length-k) ((0:Int),([]:List UInt8)))).toArray∧ib.qz (fun j=>j=g) w wr
def q6f (m:Mt)(w:World)(e:Ending)(w':World):Prop:=∃v,e=.returned (.tuple #[v,.int .i64 0])∧jr.mR w' w.heap.size v (jr.zk 145 (xH m))∧Below w.heap.size w w'
theorem rf {w:World}{A0 A1 A2:Option Addr}{c0 c1 c2:Nat}{m:Mt}(ht:MtL w A0 A1 A2 c0 c1 c2 m)(hsz:mtS m)(hE:dt m=(zG m,0))(q6g:(zG m).length≤999)(hT:xL w) :
    Calls prog 73 #[.agg (zq A0 A1 A2 c0 c1 c2 m)] w (q6f m w):=by
 obtain⟨W1,hW1,zO,hb1⟩:=xV w (zq A0 A1 A2 c0 c1 c2 m);have qV:=QH hb1;have he:=mt.pg.qhP (.agg (zq A0 A1 A2 c0 c1 c2 m)) m W1 ⟨A0,A1,A2,c0,c1,c2,rfl,ht.below hb1⟩ hsz;rw[hE]at he;have HE:=QH he;have hPk:∀W,xL W→Calls prog 116 #[.string (str (zG m))] W (qnC (str (zG m)) W):=fun W h=>fR _ W (by rw[qT];omega) h;have qa0:qP (bl (str (zG m)))=xH m:=by rw[zh];rfl
 obtain⟨S,hS⟩:=QE (str (zG m));rw[hS]at hPk qa0;have HPK:=QH hPk;have HSE:=QH qa0;have h48:(xH m).length≤48:=by
  unfold xH;rw[yb];unfold nsec;omega
 have HTT:Hid (∀W,Below w.heap.size w W→xL W):=fun W h=>hT.below h hT.1;have q0:=zO.cell 0;have q1:=zO.cell 1;have q2:=zO.cell 2;have q3:=zO.cell 3;have q4:=zO.cell 4;have q5:=zO.cell 5;have q6:=zO.cell 6;have q7:=zO.cell 7;have q8:=zO.cell 8;have mL:=zO.lt;simp only[zq,QA,QB,QC]at q0 q1 q2 q3 q4 q5 q6 q7 q8;unfold qyO at HE;dsimp only at HE;rw[hS]at HE;clear ht zO hb1 he hPk qa0 hT hS hsz hE q6g;unfold zq at hW1 HE ⊢;go_enter func73,ntmps73;go_upto_region 1 with fail;try rw[hW1]
 clear hW1;go_wp2_with fail;refine HE.out.mono ?_;rintro e W2 ⟨rfl,hb2⟩;have qC:=QH (qc qV.out hb2);clear hb2 HE q0 q1 q2 q3 q4 q5 q6 q7 q8 mL;go_wp2_with fail;refine(HPK.out W2 (HTT.out W2 qC.out)).mono ?_;rintro e W3 ⟨v,rfl,ho,hb3⟩;rw[HSE.out]at ho;obtain⟨A,c,hv,_,_,hp,_,_⟩:=ho.view;subst hv;have HP:=QH hp;have qZ:=QH (qc qC.out hb3);obtain⟨ss,hss⟩:=QE (xH m);have HM:=QH hss;rw[hss]at HP h48 ⊢;clear ho hp hb3 HSE HPK HTT hss;have hb4:=(Below.refl _ W3).alloc (Nat.le_refl _) (.cells (wz ss.length).toArray 182);have hk4:=qg.new W3 182 (wz ss.length).toArray;obtain⟨W4,sW⟩:=QE (W3.alloc (.cells (wz ss.length).toArray 182));rw[sW]at hb4 hk4;have x9:=QH (qc qZ.out hb4);have mv:=QH hk4;have HP4:Hid (∀i (h:i<ss.length),∃b o,A=some ⟨b,o,none⟩∧b<W3.heap.size∧W4.cell? ⟨b,o+i,none⟩=some (.string (str ss[i]))):=fun i hi=>by
  obtain⟨b,o,h1,h2,h3⟩:=HP.out i hi;exact⟨b,o,h1,h2,(hb4.cell (p:=⟨b,o+i,none⟩) h2).trans h3⟩
 have q6i:Hid (W3.heap.size≤W4.heap.size):=hb4.size;have HGE:Hid (w.heap.size≤W3.heap.size):=qZ.out.size;clear hb4 hk4 HP;go_wp2_with (at_make;refine qf rfl (qgB _ _ ss.length rfl rfl rfl (by omega)) ?_);try rw[sW]
 clear sW;go_loopw [37] (fun i wr=>WrR ss W3.heap.size W4 i wr) (fun i _=>ss.length-(intOf i).toNat);case atStart=>exact⟨0,Nat.zero_le _,rfl,mv.out,ib.qz.refl _ _⟩
 case round =>
  obtain⟨k,hk,rfl,yE,hB⟩:=hrel;have yP:=QH yE;have HU:=QH hB;have HB:Hid (Below w.heap.size w wr):=x9.out.trans (hB.below (fun i e=>by rw[e];exact HGE.out) x9.out.size);clear yE hB;by_cases hlt:k<ss.length
  ·have jW:(k:Int)<(ss.length:Int):=by omega
   have hk0:¬ (k:Int)<0:=by omega
   obtain⟨b,o,rfl,s1,s2⟩:=HP4.out k hlt;have s0:b<W4.heap.size:=Nat.lt_of_lt_of_le s1 q6i.out;have s3:b<wr.heap.size:=Nat.lt_of_lt_of_le s0 HU.out.size;have s4:=(World.cell?_of_block (a:=⟨b,o+k,none⟩) (HU.out.block b s0 (by show ¬ b=W3.heap.size;omega))).trans s2;have HLS:=QH (qrH (ss:=ss) rfl hlt);have hlen:(jr.zk 145 (ss.take k)++List.replicate (ss.length-k) ((0:Int),([]:List UInt8))).length=ss.length:=by
    rw[List.length_append,jr.zg,List.length_take,List.length_replicate];omega
   have HVS:=QH (ee (jr.zk 145 (ss.take k)++List.replicate (ss.length-k) ((0:Int),([]:List UInt8))) k (by omega) (((145+k:Nat):Int),ss[k]));rw[HLS.out]at HVS;obtain⟨x,hx⟩:=QE (ss[k]);rw[hx]at HVS s4;obtain⟨g0,g1⟩:=jr.ve (jr.zk 145 (ss.take k)++List.replicate (ss.length-k) ((0:Int),([]:List UInt8))) k (by omega);have k0:wr.cell? ⟨W3.heap.size,k*2,none⟩=some (.int .i64 ((jr.zk 145 (ss.take k)++List.replicate (ss.length-k) ((0:Int),([]:List UInt8)))[k]'(by omega)).1):=by rw[yP.out.cell];simpa using g0
   have k1:wr.cell? ⟨W3.heap.size,k*2+1,none⟩=some (.string (str ((jr.zk 145 (ss.take k)++List.replicate (ss.length-k) ((0:Int),([]:List UInt8)))[k]'(by omega)).2)):=by rw[yP.out.cell];simpa using g1
   obtain⟨z0,hz0⟩:∃z,wr.cell? ⟨W3.heap.size,k*2,none⟩=some z:=⟨_,k0⟩;obtain⟨z1,hz1⟩:∃z,wr.cell? ⟨W3.heap.size,k*2+1,none⟩=some z:=⟨_,k1⟩;have f0:=yP.out.frozen (k*2);have f1:=yP.out.frozen (k*2+1);have dx:=yP.out.lt;have nB:Hid (qg ((wr.setCell ⟨W3.heap.size,k*2,none⟩ (.int .i64 (145+(k:Int)))).setCell ⟨W3.heap.size,k*2+1,none⟩ (.string (str x))) W3.heap.size 182 (jr.zW (jr.zk 145 (ss.take (k+1))++List.replicate (ss.length-(k+1)) ((0:Int),([]:List UInt8)))).toArray):=by
    have h:=(yP.out.ql (k*2) (.int .i64 (145+(k:Int)))).ql (k*2+1) (.string (str x));rw[List.setIfInBounds_toArray,List.setIfInBounds_toArray]at h;rw[← HVS.out];have e:(((145+k:Nat):Int))=145+(k:Int):=by omega
    dsimp only;rw[e];exact h
   have jX:Hid (ib.qz (fun j=>j=W3.heap.size) W4 ((wr.setCell ⟨W3.heap.size,k*2,none⟩ (.int .i64 (145+(k:Int)))).setCell ⟨W3.heap.size,k*2+1,none⟩ (.string (str x)))):=(HU.out.setCell ⟨W3.heap.size,k*2,none⟩ _ (.inl rfl)).setCell ⟨W3.heap.size,k*2+1,none⟩ _ (.inl rfl);have hw:IntKind.i64.wrap (145+(k:Int))=145+(k:Int):=by rw[IntWalk.i64_in _ (by omega)]
   clear hx hlen HVS HLS g0 g1 k0 k1 s0 s1 s2;go_wp2_with fail;go_roundw;case rel=>exact⟨k+1,by omega,by go_num,nB.out,jX.out⟩
   case measure=>simp[intOf];omega
  ·obtain rfl:k=ss.length:=by omega
   have jW:¬ (ss.length:Int)<(ss.length:Int):=by omega
   have yE:=yP.out;rw[List.take_length,Nat.sub_self,List.replicate_zero,List.append_nil]at yE;have HO:Hid (jr.mR wr w.heap.size (.slice (some ⟨W3.heap.size,0,none⟩) ss.length ss.length) (jr.zk 145 ss)):=by
    refine⟨by rw[jr.jy],.inr ⟨W3.heap.size,ss.length,_,by rw[jr.zg],HGE.out,yE,by rw[jr.zg];exact Nat.le_refl _,by unfold maxLen;omega,?_,?_⟩⟩
    ·rw[List.size_toArray,jr.jy,jr.zg]
    ·rw[jr.zg];have:(jr.zW (jr.zk 145 ss)).length=ss.length*2:=by rw[jr.jy,jr.zg]
     show(jr.zW (jr.zk 145 ss)).take (ss.length*2)=_;rw[← this,List.take_length]
   clear yE;go_wp2_with fail;go_ret2;exact⟨_,rfl,by rw[HM.out];exact HO.out,HB.out⟩
end Go.Proofs.YtdagdllomphidaaGreatDoor.vt.pg
