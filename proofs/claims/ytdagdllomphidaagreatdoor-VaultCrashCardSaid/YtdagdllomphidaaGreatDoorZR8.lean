/- SpProg, VgPl, ImRef, ImOwn, ImRef2, ImHyp, ImProg, JShelf, ChLst, PgBase, PgMem, PgOne, PgLast, PgList, VgPut, VgStg, VgHid, JCommit. -/
import Derived.Test.YtdagdllomphidaaGreatDoorZR7
import Derived.Lib.SliceRun
import Derived.Shelf.Strings.Repeat
set_option linter.unusedVariables false
set_option linter.unusedSimpArgs false
set_option maxHeartbeats 30000000
set_option maxRecDepth 100000
namespace Go.Proofs.YtdagdllomphidaaGreatDoor.sp
open _root_.Go.Proofs.Tryz Go Go.RowKit Go.Shelf ib
attribute [local go_sem] Oper.semAt_some
theorem qbQ{S:Nat→Prop}{w w':World}{row:Option Nat}(h:w.grownBy w' row)(hs:∀k,row=some k→S k):qz S w w' :=
 ⟨h.os,h.tape,h.output,h.size,fun k hk hn=>h.block k hk (fun e=>hn (hs k e.symm))⟩
theorem wk {S:Nat→Prop}{a w w':World}{row:Option Nat}(h:qz S a w)(hg:w.grownBy w' row)(hs:∀k,row=some k→S k∨a.heap.size≤k):qz S a w' :=
 h.trans (S':=fun k=>row=some k) (qbQ hg (fun _ e=>e)) hs
structure qor(w W:World)(n e:Int):Prop where
 num:qg W w.heap.size 3 #[.int .i64 n]
 one:qg W (w.heap.size+1) 57 #[.slice none 0 0]
 two:qg W (w.heap.size+1+1) 30 #[.int .i64 e]
 below:Below w.heap.size w W
 size:W.heap.size=w.heap.size+1+1+1
theorem three(w:World)(n e:Int):qor w (((w.alloc (.cells #[.int .i64 n] 3)).alloc (.cells #[.slice none 0 0] 57)).alloc (.cells #[.int .i64 e] 30)) n e:=by
 have s1:(w.alloc (.cells #[.int .i64 n] 3)).heap.size=w.heap.size+1:=by simp
 have s2:((w.alloc (.cells #[.int .i64 n] 3)).alloc (.cells #[.slice none 0 0] 57)).heap.size=w.heap.size+1+1:=by simp
 have k1:=qg.new w 3 #[.int .i64 n];have k2:=qg.new (w.alloc (.cells #[.int .i64 n] 3)) 57 #[.slice none 0 0];have k3:=qg.new ((w.alloc (.cells #[.int .i64 n] 3)).alloc (.cells #[.slice none 0 0] 57)) 30 #[.int .i64 e];refine⟨(k1.of_block (Below.heap_alloc _ _ _ k1.lt)).of_block (Below.heap_alloc _ _ _ ?_),?_,?_,?_,by simp⟩
 ·rw[s2];omega
 ·rw[← s1];exact k2.of_block (Below.heap_alloc _ _ _ k2.lt)
 ·rw[← s2];exact k3
 ·exact(((Below.refl w.heap.size w).alloc (Nat.le_refl _) _).alloc (by simp) _).alloc (by simp;omega) _
theorem qip{fn:Func}{w W:World}{n e:Int}(h:qor w W n e)(hf:fn.results = #[.cell 4 57,.cell 5 30])(tmps:Array Value)
    (h4:tmps.getD 4 undef=.pointer (some ⟨w.heap.size+1,0,none⟩)) (h5:tmps.getD 5 undef=.pointer (some ⟨w.heap.size+1+1,0,none⟩)) :
    (results fn tmps).run prog W=.ok (.tuple #[.slice none 0 0,.int .i64 e]) W :=
 vX hf _ _ _ _ _ _ _ h4 h5 (wQ (lG _) (h.one.cell 0)) (wQ (lH _) (h.two.cell 0))
structure Six(w W:World)(m:Nat)(A:Option Addr)(l c:Nat):Prop where
 num:qg W w.heap.size 3 #[.int .i64 (m:Int)]
 one:qg W (w.heap.size+1) 57 #[.slice none 0 0]
 two:qg W (w.heap.size+1+1) 30 #[.int .i64 0]
 cnt:qg W (w.heap.size+1+1+1) 3 (zH (List.replicate m 0))
 box:qg W (w.heap.size+1+1+1+1) 57 #[.slice (some ⟨w.heap.size+1+1+1,0,none⟩) m m]
 ims:qg W (w.heap.size+1+1+1+1+1) 175 #[.slice A l c]
 below:Below w.heap.size w W
 size:W.heap.size=w.heap.size+1+1+1+1+1+1
theorem six{w W0:World}{m:Nat}(h:qor w W0 m 0)(A:Option Addr)(l c:Nat) :
    Six w (((W0.alloc (.cells (zH (List.replicate m 0)) 3)).alloc (.cells #[.slice (some ⟨w.heap.size+1+1+1,0,none⟩) m m] 57)).alloc (.cells #[.slice A l c] 175)) m A l c:=by
 obtain⟨h1,h2,h3,h4,h5⟩:=h;have k4:=qg.new W0 3 (zH (List.replicate m 0));have b4:=(Below.refl W0.heap.size W0).alloc (Nat.le_refl _) (.cells (zH (List.replicate m 0)) 3);have s4:(W0.alloc (.cells (zH (List.replicate m 0)) 3)).heap.size=w.heap.size+1+1+1+1:=by simp[h5]
 generalize W0.alloc (.cells (zH (List.replicate m 0)) 3)=W4 at *;have k5:=qg.new W4 57 #[.slice (some ⟨w.heap.size+1+1+1,0,none⟩) m m];have b5:=(Below.refl W4.heap.size W4).alloc (Nat.le_refl _) (.cells #[.slice (some ⟨w.heap.size+1+1+1,0,none⟩) m m] 57);have s5:(W4.alloc (.cells #[.slice (some ⟨w.heap.size+1+1+1,0,none⟩) m m] 57)).heap.size=w.heap.size+1+1+1+1+1:=by simp[s4]
 generalize W4.alloc (.cells #[.slice (some ⟨w.heap.size+1+1+1,0,none⟩) m m] 57)=W5 at *;have k6:=qg.new W5 175 #[.slice A l c];have b6:=(Below.refl W5.heap.size W5).alloc (Nat.le_refl _) (.cells #[.slice A l c] 175);have s6:(W5.alloc (.cells #[.slice A l c] 175)).heap.size=w.heap.size+1+1+1+1+1+1:=by simp[s5]
 generalize W5.alloc (.cells #[.slice A l c] 175)=W6 at *;rw[h5]at k4;rw[s4]at k5;rw[s5]at k6;exact⟨((h1.below b4).below b5).below b6,((h2.below b4).below b5).below b6,((h3.below b4).below b5).below b6,(k4.below b5).below b6,k5.below b6,k6,qc (qc (qc h4 b4) b5) b6,s6⟩
def CI (m:Nat)(g:Nat)(W0:World)(pre:List I64)(W:World):Prop :=
 ∃cs,kZ (m:Int) (List.replicate m 0) (pre.map fun x=>x.1)=some cs∧qg W g 3 (zH cs)∧qz (fun k=>k=g) W0 W
def CX (m:Nat)(g b:Nat)(W0:World)(c:Code)(pre:List I64)(W:World):Prop :=
 c=.ret∧kZ (m:Int) (List.replicate m 0) (pre.map fun x=>x.1)=none∧qg W b 57 #[.slice none 0 0]∧qg W (b+1) 30 #[.int .i64 2]∧qz (fun k=>k=g∨k=b∨k=b+1) W0 W
theorem rA (L:List (List I64)):(Plain L).flatten=L.flatten.map fun x=>x.1:=by
 rw[List.map_flatten]
theorem qrX:qrS:=by
 intro A c vu n w hp hl hn;have HP:=QH hp;obtain⟨res,hres⟩:=QE (yU vu n);rw[hres];by_cases h0:n<0
 ·have hr:res=([],2):=by rw[← hres];unfold yU;rw[if_pos (.inl h0)]
  subst hr;clear hp hres;refine(callsIn_wide (n:=9)).1 (callsIn_of_wp_marks func102 rfl trivial ?_ rfl);refine wpIn_wide.2 ?_;simp only[ntmps102,List.size_toArray,List.length_cons,List.length_nil,Nat.reduceAdd,Nat.reduceSub,Array.replicate_succ,Array.replicate_zero,List.push_toArray,List.append_toArray,List.nil_append,List.cons_append];go_wp2_with fail;exact⟨_,qip (three w n 2) rfl _ rfl rfl,ie (three w n 2).below⟩
 by_cases h1:1024<n
 ·have hr:res=([],2):=by rw[← hres];unfold yU;rw[if_pos (.inr h1)]
  subst hr;clear hp hres;refine(callsIn_wide (n:=9)).1 (callsIn_of_wp_marks func102 rfl trivial ?_ rfl);refine wpIn_wide.2 ?_;simp only[ntmps102,List.size_toArray,List.length_cons,List.length_nil,Nat.reduceAdd,Nat.reduceSub,Array.replicate_succ,Array.replicate_zero,List.push_toArray,List.append_toArray,List.nil_append,List.cons_append];go_wp2_with fail;exact⟨_,qip (three w n 2) rfl _ rfl rfl,ie (three w n 2).below⟩
 have hmk:=qkr n (by omega) (by omega);obtain⟨m,rfl⟩:=Int.eq_ofNat_of_zero_le (show 0≤n by omega);rw[Int.toNat_natCast]at hmk;have hm:m≤1024:=by omega
 have xB:=QH hres;obtain⟨L,rfl⟩:=qoo vu (fun l hl' z hz=>by
  obtain⟨i,hi,rfl⟩:=List.getElem_of_mem hl';obtain⟨_,_,_,_,_,_,_,h5,_⟩:=hp i hi;exact h5.mem z hz)
 have HT:=QH (three w m 0);rw[List.length_map]at hl ⊢;clear hp hres;refine(callsIn_wide (n:=9)).1 (callsIn_of_wp_marks func102 rfl trivial ?_ rfl);refine wpIn_wide.2 ?_;simp only[ntmps102,List.size_toArray,List.length_cons,List.length_nil,Nat.reduceAdd,Nat.reduceSub,Array.replicate_succ,Array.replicate_zero,List.push_toArray,List.append_toArray,List.nil_append,List.cons_append];go_wp2_with fail;clear hmk;obtain⟨W0,hW0⟩:=QE (((w.alloc (.cells #[.int .i64 (m:Int)] 3)).alloc (.cells #[.slice none 0 0] 57)).alloc (.cells #[.int .i64 0] 30));rw[hW0]at HT ⊢;clear hW0;refine(callsIn_wide (n:=9).1 (qku Fence.wide 9 trivial rfl _ _ _ _)).mono ?_;rintro e w' ⟨rfl,rfl⟩;have q0N:((W0.alloc (.cells (zH (List.replicate m 0)) 3)).alloc (.cells #[.slice (some ⟨w.heap.size+1+1+1,0,none⟩) m m] 57)).heap.size=w.heap.size+1+1+1+1+1:=by simp[HT.out.size]
 rw[q0N];have H6:=QH (six HT.out A L.length c);clear q0N;obtain⟨W2,hW2⟩:=QE (((W0.alloc (.cells (zH (List.replicate m 0)) 3)).alloc (.cells #[.slice (some ⟨w.heap.size+1+1+1,0,none⟩) m m] 57)).alloc (.cells #[.slice A L.length c] 175));rw[hW2]at H6 ⊢;clear hW2 HT;obtain⟨q,hq⟩:=QE w.heap.size;obtain⟨d1,d2,d3,d4,d5,d6,d7,d8⟩:=H6.out;rw[hq]at d1 d2 d3 d4 d5 d6 d8 ⊢;have HQ:=QH hq;have HST:=QH (qbP Fence.wide 8 trivial rfl (by decide) (q+1+1+1+1+1) A c L w W2 HP.out hl d7 d6);clear hq;go_wp2_with fail;refine wpIn_wide.1 (wpIn_rangeFunc_ownF (F:=Fence.wide) (n:=9) rfl (by decide) (gf:=199) (lb:=#[.pointer (some ⟨q+1+1+1+1+1,0,none⟩)]) rfl trivial (enters_of func199 (by kernel_rfl) rfl) HST.out
  belowK_t (belowK_b d7.size) (Below.refl _ _) (fun _=>rfl)
  (CI m (q+1+1+1) W2) (CX m (q+1+1+1) (q+1) W2) ?hI ?hIx ⟨_,rfl,d4,qz.refl _ _⟩
  (fun x=>{ tmps:=#[.slice A L.length c,.int .i64 (m:Int),undef,.pointer (some ⟨q,0,none⟩),.pointer (some ⟨q+1,0,none⟩),.pointer (some ⟨q+1+1,0,none⟩),.pointer (some ⟨q+1+1+1+1,0,none⟩),.int .i64 x.1,.int .i64 (m:Int),.bool false,.bool false,.int .i64 (m:Int),.bool false,.bool false,.int .i64 (m:Int),.slice (some ⟨q+1+1+1,0,none⟩) m m,.slice A L.length c,.func (.func 199) #[] #[.pointer (some ⟨q+1+1+1+1+1,0,none⟩)],.int .i64 x.1,undef,undef,undef,undef,undef,undef,undef,undef,undef,undef,undef,undef,undef,undef,undef,undef,undef,undef],defers:=[] })
  ?assign ?body ?done ?stop)
 case hI =>
  intro pre W W' row ⟨cs,h1,h2,h3⟩ hg hr;refine⟨cs,h1,h2.of_block (hg.block _ h2.lt (fun e=>?_)),wk h3 hg (fun k e=>.inr (hr k e).1)⟩;have:=(hr _ e.symm).1;omega
 case hIx =>
  intro cc pre W W' row ⟨h0,h1,h2,h2',h3⟩ hg hr;refine⟨h0,h1,h2.of_block (hg.block _ h2.lt (fun e=>?_)),h2'.of_block (hg.block _ h2'.lt (fun e=>?_)),wk h3 hg (fun k e=>.inr (hr k e).1)⟩;all_goals
   have:=(hr _ e.symm).1;omega
 case assign =>
  intro l x W K hK
  gi_wp2
  exact hK
 case body =>
  rintro l pre x W ⟨cs,hcs,yE,xW⟩ _;have hsz:=xW.size;have e1:qg W q 3 _:=d1.of_block (xW.block _ d1.lt (by omega));have e2:qg W (q+1) 57 _:=d2.of_block (xW.block _ d2.lt (by omega));have e3:qg W (q+1+1) 30 _:=d3.of_block (xW.block _ d3.lt (by omega));have e5:qg W (q+1+1+1+1) 57 _:=d5.of_block (xW.block _ d5.lt (by omega));have yc:∀cs',kZ (m:Int) (List.replicate m 0) ((pre++[x]).map fun x=>x.1)=some cs'→∀W',qg W' (q+1+1+1) 3 (zH cs')→qz (fun k=>k=q+1+1+1) W W'→CI m (q+1+1+1) W2 (pre++[x]) W' :=
   fun cs' h1 W' h2 h3=>⟨cs',h1,h2,xW.trans h3 (fun i e=>.inl e)⟩
  have hbl:∀W',qz (fun k=>k=q+1+1+1) W W'→Below w.heap.size W W':=fun W' h=>h.below (fun i e=>by rw[e,HQ.out];omega) (by rw[HQ.out];omega);have hsn:=qj9 hcs x.1;rw[show pre.map (fun x=>x.1)++[x.1]=(pre++[x]).map (fun x=>x.1)by simp]at hsn;have kn:W.cell? ⟨q,0,none⟩=some (.int .i64 (m:Int)):=e1.cell 0;have kb:W.cell? ⟨q+1+1+1+1,0,none⟩=some (.slice (some ⟨q+1+1+1,0,none⟩) m m):=e5.cell 0;have ko:W.cell? ⟨q+1,0,none⟩=some (.slice none 0 0):=e2.cell 0;have kt:W.cell? ⟨q+1+1,0,none⟩=some (.int .i64 0):=e3.cell 0;have ln:=e1.lt;have lo:=e2.lt;have lt:=e3.lt;have lb:=e5.lt;have fo:=e2.frozen 0;have ft:=e3.frozen 0;have HPO:=QH yc;have HBL:=QH hbl;have kX:=QH hsn;have yP:=QH yE;have qw4:=QH xW;have HCS:=QH hcs;have E2:=QH e2;have E3:=QH e3;have zcP:=x.2;clear yc hbl hsn yE xW hcs e1 e2 e3 e5 hsz d1 d2 d3 d4 d5 d6 d7 d8;generalize x.1=y at *;by_cases hy0:y=0
  ·subst hy0;have hs:=kX.out;rw[if_pos rfl]at hs;have uK:=QH hs;clear hs
   gi_wp2
   exact⟨KeepsOthers.refl _,Below.refl _ _,HPO.out _ uK.out _ yP.out (qz.refl _ _)⟩
  ·have zcQ:(y == 0)=false:=by simpa using hy0
   by_cases uL:y<193∨(m:Int)≤y
   ·have hs:=kX.out;rw[if_neg hy0,if_pos uL]at hs;have uK:=QH hs;clear hs;have qmf:Hid (KeepsOthers W ((W.setCell ⟨q+1,0,none⟩ (.slice none 0 0)).setCell ⟨q+1+1,0,none⟩ (.int .i64 2))∧CX m (q+1+1+1) (q+1) W2 .ret (pre++[x]) ((W.setCell ⟨q+1,0,none⟩ (.slice none 0 0)).setCell ⟨q+1+1,0,none⟩ (.int .i64 2))):=by
     have b1:qz (fun k=>k=q+1) W (W.setCell ⟨q+1,0,none⟩ (.slice none 0 0)):=(qz.refl _ _).setCell ⟨q+1,0,none⟩ _ (.inl rfl);have b2:qz (fun k=>k=q+1+1) (W.setCell ⟨q+1,0,none⟩ (.slice none 0 0)) ((W.setCell ⟨q+1,0,none⟩ (.slice none 0 0)).setCell ⟨q+1+1,0,none⟩ (.int .i64 2)):=(qz.refl _ _).setCell ⟨q+1+1,0,none⟩ _ (.inl rfl);have k1:=E2.out.ql 0 (.slice none 0 0);have k2:=(E3.out.of_block (b1.block _ E3.out.lt (by omega))).ql 0 (.int .i64 2);refine⟨(KeepsOthers.setCell _ _ _).trans (KeepsOthers.setCell _ _ _),rfl,uK.out,k1.of_block (b2.block _ k1.lt (by omega)),k2,?_⟩;have b3:qz (fun k=>k=q+1∨k=q+1+1) W _:=(b1.mono (S':=fun k=>k=q+1∨k=q+1+1) (fun i e=>.inl e)).trans b2 (fun i e=>.inl (.inr e));exact(qw4.out.mono (S':=fun k=>k=q+1+1+1∨k=q+1∨k=q+1+1) (fun i e=>.inl e)).trans b3 (fun i e=>.inl (.inr e))
    by_cases xP:y<193
    ·gi_wp2
     exact qmf.out
    ·have hge:(m:Int)≤y:=by omega
     gi_wp2
     exact qmf.out
   ·have hs:=kX.out;rw[if_neg hy0,if_neg uL]at hs;have xP:¬ y<193:=fun h=>uL (.inl h);have hge:¬ (m:Int)≤y:=fun h=>uL (.inr h);obtain⟨t,rfl⟩:=Int.eq_ofNat_of_zero_le (show 0≤y by omega);rw[Int.toNat_natCast]at hs;have htm:t<m:=by omega
    have hti:(t:Int)<(m:Int):=by omega
    have hcl:cs.length=m:=by rw[fF HCS.out,List.length_replicate]
    have htd:t<cs.length:=by rw[hcl];exact htm
    have q6z:=QH hs;have hq':=yP.out.cell t;rw[bC cs t htd]at hq';have hfz:=yP.out.frozen t;have dx:=yP.out.lt;have hgd:cs.getD t 0=cs[t]:=by simp[List.getD,htd]
    have cf:=rq cs t (wrap64 (cs[t]+1));have qw7:=yP.out.ql t (.int .i64 (wrap64 (cs[t]+1)));rw[cf,← hgd]at qw7;have q0O:Hid (qg (W.setCell ⟨q+1+1+1,t,none⟩ (.int .i64 (wrap64 (cs.getD t 0+1)))) (q+1+1+1) 3 (zH (bump cs t))):=qw7;have qC:Hid (qz (fun k=>k=q+1+1+1) W (W.setCell ⟨q+1+1+1,t,none⟩ (.int .i64 (wrap64 (cs.getD t 0+1))))):=(qz.refl _ _).setCell ⟨q+1+1+1,t,none⟩ _ (.inl rfl);rw[hgd]at q0O qC;have hv:=ic HCS.out (qa5 _) cs[t] (List.getElem_mem htd);unfold qG at hv;clear hs hgd cf qw7 hcl;generalize cs[t]=v at *
    gi_wp2
    exact⟨KeepsOthers.setCell _ _ _,HBL.out _ qC.out,HPO.out _ q6z.out _ q0O.out qC.out⟩
 case stop =>
  rintro D cc pre W hD hpre ⟨rfl,hx,h1,h2,h3⟩ hK;have hr:res=([],2):=by
   rw[← xB.out];refine qdY ?_;obtain⟨r,hr⟩:=hpre;rw[rA,← hr,List.map_append];exact qjA hx _
  subst hr
  gi_wp2
  refine⟨by simp,.inl ⟨_,_,rfl,run_takeDeferred hK,?_⟩⟩;have p1:qg (W.putObj D (.deferred none)) (q+1) 57 _:=h1.of_block (World.putObj_heap_other (by omega));have p2:qg (W.putObj D (.deferred none)) (q+1+1) 30 _:=h2.of_block (World.putObj_heap_other (by omega));have hb1:Below w.heap.size w W:=d7.trans (h3.below (fun i e=>by rw[HQ.out];omega) d7.size);have hb2:Below w.heap.size w (W.putObj D (.deferred none)):=hb1.grown (grownBy_putObj' W D _) hb1.size (fun k e=>by cases e;rw[HQ.out];omega);exact⟨_,vX rfl _ _ _ ⟨q+1,0,none⟩ ⟨q+1+1,0,none⟩ _ _ rfl rfl (wQ (lG _) (p1.cell 0)) (wQ (lH _) (p2.cell 0)),ie hb2⟩
 case done =>
  rintro D ys W hD rfl ⟨cs,hcs,yE,xW⟩ hK;have hr:res=(cs,0):=by
   rw[← xB.out];refine qgK (by omega) (by omega) ?_;rw[rA,Int.toNat_natCast];exact hcs
  have hcl:cs.length=m:=by rw[fF hcs,List.length_replicate]
  have hz:=ic hcs (qa5 _);have hsz:=xW.size;have e2:qg W (q+1) 57 _:=d2.of_block (xW.block _ d2.lt (by omega));have e3:qg W (q+1+1) 30 _:=d3.of_block (xW.block _ d3.lt (by omega));have e5:qg W (q+1+1+1+1) 57 _:=d5.of_block (xW.block _ d5.lt (by omega));have hb1:Below w.heap.size w W:=d7.trans (xW.below (fun i e=>by rw[e,HQ.out];omega) d7.size);have kb:W.cell? ⟨q+1+1+1+1,0,none⟩=some (.slice (some ⟨q+1+1+1,0,none⟩) m m):=e5.cell 0;have ko:W.cell? ⟨q+1,0,none⟩=some (.slice none 0 0):=e2.cell 0;have kt:W.cell? ⟨q+1+1,0,none⟩=some (.int .i64 0):=e3.cell 0;have lo:=e2.lt;have lt:=e3.lt;have lb:=e5.lt;have fo:=e2.frozen 0;have ft:=e3.frozen 0;have HR:=QH hr;have bI:=QH hcl;have HZ:=QH hz;have E2:=QH e2;have E3:=QH e3;have yP:=QH yE;have qV:=QH hb1;have HK:=QH hK;clear hr hcl hz hsz e2 e3 e5 yE hb1 hcs xW hK d1 d2 d3 d4 d5 d6 d7;go_wp2_with fail;have b1:qz (fun k=>k=q+1) W (W.setCell ⟨q+1,0,none⟩ (.slice (some ⟨q+1+1+1,0,none⟩) m m)):=(qz.refl _ _).setCell ⟨q+1,0,none⟩ _ (.inl rfl);have b2:qz (fun k=>k=q+1+1) (W.setCell ⟨q+1,0,none⟩ (.slice (some ⟨q+1+1+1,0,none⟩) m m)) ((W.setCell ⟨q+1,0,none⟩ (.slice (some ⟨q+1+1+1,0,none⟩) m m)).setCell ⟨q+1+1,0,none⟩ (.int .i64 0)):=(qz.refl _ _).setCell ⟨q+1+1,0,none⟩ _ (.inl rfl);have k1:=E2.out.ql 0 (.slice (some ⟨q+1+1+1,0,none⟩) m m);have k2:=(E3.out.of_block (b1.block _ E3.out.lt (by omega))).ql 0 (.int .i64 0);have k1':=k1.of_block (b2.block _ k1.lt (by omega));have b3:qz (fun k=>k=q+1∨k=q+1+1) W _:=(b1.mono (S':=fun k=>k=q+1∨k=q+1+1) (fun i e=>.inl e)).trans b2 (fun i e=>.inl (.inr e));generalize (W.setCell ⟨q+1,0,none⟩ (.slice (some ⟨q+1+1+1,0,none⟩) m m)).setCell ⟨q+1+1,0,none⟩ (.int .i64 0)=W' at *;have hKD:W'.heap[D]?=some (.deferred (some [])):=(b3.block D (Array.getElem?_eq_some_iff.1 HK.out).1 (by omega)).trans HK.out;refine⟨by simp,.inl ⟨_,_,rfl,run_takeDeferred hKD,?_⟩⟩;have p1:qg (W'.putObj D (.deferred none)) (q+1) 57 _:=k1'.of_block (World.putObj_heap_other (by omega));have p2:qg (W'.putObj D (.deferred none)) (q+1+1) 30 _:=k2.of_block (World.putObj_heap_other (by omega));have p3:qg (W'.putObj D (.deferred none)) (q+1+1+1) 3 _:=(yP.out.of_block (b3.block _ yP.out.lt (by omega))).of_block (World.putObj_heap_other (by omega));have hw1:Below w.heap.size w W':=qV.out.trans (b3.below (fun i e=>by rw[HQ.out];omega) qV.out.size);have hw2:Below w.heap.size w (W'.putObj D (.deferred none)):=hw1.grown (grownBy_putObj' W' D _) hw1.size (fun k e=>by cases e;rw[HQ.out];omega);exact⟨_,vX rfl _ _ _ ⟨q+1,0,none⟩ ⟨q+1+1,0,none⟩ _ _ rfl rfl (wQ (lG _) (p1.cell 0)) (wQ (lH _) (p2.cell 0)),qio p3 hw2 (by rw[HQ.out];omega) bI.out (Nat.le_refl _) HZ.out HR.out⟩
end Go.Proofs.YtdagdllomphidaaGreatDoor.sp
namespace Go.Proofs.YtdagdllomphidaaGreatDoor.vt.pg
open _root_.Go.Proofs.Tryz Go Go.RowKit Go.Sort ib mt im sp
abbrev Pl:=Int × Int × Bt
theorem qw8:(prog.info? 171).map (fun i=>(i.zero,i.size,i.bytes))=some (some (.agg #[.int .i64 0,.int .i64 0,.string ByteArray.empty]),3,32):=by kernel_rfl
def jb:List Pl→List Value
 | []=>[]
 | x::r=>.int .i64 x.1 :: .int .i64 x.2.1 :: .string (str x.2.2)::jb r
theorem bT:∀(l r:List Pl),jb (l++r)=jb l++jb r
 | [],_=>rfl
 | x::l,r=>by simp[jb,bT l r]
theorem rB:∀l:List Pl,(jb l).length=l.length*3
 | []=>rfl
 | x::l=>by simp[jb,rB l];omega
theorem rC:∀(l:List Pl) (i:Nat) (h:i<l.length),(jb l)[i*3]?=some (.int .i64 l[i].1)∧(jb l)[i*3+1]?=some (.int .i64 l[i].2.1)∧(jb l)[i*3+2]?=some (.string (str l[i].2.2))
 | x::l,0,_=>⟨rfl,rfl,rfl⟩
 | x::l,i+1,h=>by
  have:=rC l i (by simpa using h);rw[show(i+1)*3=i*3+1+1+1 from by omega];exact this
theorem rD:∀(l:List Pl) (k:Nat) (h:k<l.length) (a:Int),(jb l).set (k*3+1) (.int .i64 a)=jb (l.set k (l[k].1,a,l[k].2.2))
 | y::l,0,_,a=>rfl
 | y::l,k+1,hk,a=>by
  have ih:=rD l k (by simpa using hk) a;rw[show(k+1)*3+1=k*3+1+1+1+1 by omega];simp only[jb,List.set_cons_succ];exact congrArg _ (congrArg _ (congrArg _ ih))
def OPl (w:World)(B:Nat)(v:Value)(l:List Pl):Prop:=w.ownsRow B 171 3 v l.length (jb l)
def PlL (w:World)(A:Option Addr)(l:List Pl):Prop:=∀i (h:i<l.length),∃b o,A=some ⟨b,o,none⟩∧b<w.heap.size∧w.cell? ⟨b,o+i*3,none⟩=some (.int .i64 l[i].1)∧w.cell? ⟨b,o+i*3+1,none⟩=some (.int .i64 l[i].2.1)∧w.cell? ⟨b,o+i*3+2,none⟩=some (.string (str l[i].2.2))
theorem PlL.below{w w':World}{A:Option Addr}{l:List Pl}(h:PlL w A l)(hb:Below w.heap.size w w'):PlL w' A l:=by
 intro i hi;obtain⟨b,o,h1,h2,h3,h4,h5⟩:=h i hi;exact⟨b,o,h1,Nat.lt_of_lt_of_le h2 hb.size,(hb.cell (p:=⟨b,o+i*3,none⟩) h2).trans h3,(hb.cell (p:=⟨b,o+i*3+1,none⟩) h2).trans h4,(hb.cell (p:=⟨b,o+i*3+2,none⟩) h2).trans h5⟩
theorem OPl.view{w:World}{B:Nat}{v:Value}{l:List Pl}(h:OPl w B v l):∃a c,v=.slice a l.length c∧PlL w a l:=by
 rcases h.2 with⟨rfl,h0⟩|⟨g,cap,cur,rfl,hg,hh,hcc,hm,hcs,xo⟩
 ·obtain rfl:l=[]:=List.length_eq_zero_iff.1 h0;exact⟨none,0,rfl,fun i h=>by simp at h⟩
 ·refine⟨some ⟨g,0,none⟩,cap,rfl,fun i hi=>?_⟩;have key:∀(j:Nat) (u:Value),(jb l)[j]?=some u→w.cell? ⟨g,j,none⟩=some u:=by
   intro j u hu;rw[cell_of_row w g j cur 171 (0,0) hh];rw[← xo,List.getElem?_take]at hu;split at hu
   ·simpa using hu
   ·cases hu
  obtain⟨g0,g1,g2⟩:=rC l i hi;exact⟨g,0,rfl,(Array.getElem?_eq_some_iff.1 hh).1,by rw[Nat.zero_add];exact key _ _ g0,by rw[Nat.zero_add];exact key _ _ g1,by rw[Nat.zero_add];exact key _ _ g2⟩
theorem OPl.below{w w':World}{B:Nat}{v:Value}{l:List Pl}(h:OPl w B v l)(hb:Below w.heap.size w w'):OPl w' B v l:=zX h (fun j hj=>hb.block j (h.lt j hj).2)
theorem OPl.set{w:World}{B:Nat}{l:List Pl}{g c n:Nat}(h:OPl w B (.slice (some ⟨g,0,none⟩) n c) l)(k:Nat)(hk:k<l.length)(a:Int) :
    OPl (w.setCell ⟨g,k*3+1,none⟩ (.int .i64 a)) B (.slice (some ⟨g,0,none⟩) n c) (l.set k (l[k].1,a,l[k].2.2))∧w.frozen? ⟨g,k*3+1,none⟩=false∧B≤g∧g<w.heap.size:=by
 rcases h.2 with⟨e,h0⟩|⟨g',cap,cur,e,hg,hh,hcc,hm,hcs,xo⟩
 ·cases e
 ·simp only[Value.slice.injEq,Option.some.injEq,Addr.mk.injEq,and_true]at e;obtain⟨rfl,rfl,rfl⟩:=e;have vB:qg w g 171 cur:=hh;have mD:(l.set k (l[k].1,a,l[k].2.2)).length=l.length:=by rw[List.length_set]
  refine⟨⟨by rw[rB],.inr ⟨g,c,_,by rw[mD],hg,vB.ql (k*3+1) (.int .i64 a),by rw[mD];exact hcc,hm,by simpa using hcs,?_⟩⟩,vB.frozen _,hg,vB.lt⟩;rw[mD,Array.toList_setIfInBounds,List.take_set,xo];exact rD l k hk a
def PL (x:List (Int × Bt))(at_:List Int):List Pl:=List.zipWith (fun c a=>(c.1,a,c.2)) x at_
def P0 (x:List (Int × Bt)):List Pl:=x.map fun c=>(c.1,0,c.2)
theorem qkx{x:List (Int × Bt)}{k:Nat}(h:k<x.length):full (x.take (k+1))=full (x.take k)+if x[k].2=zb then 0 else 1:=by
 unfold full;rw[List.take_succ_eq_append_getElem h,List.filter_append,List.length_append]
 congr 1
 by_cases e:x[k].2=zb <;> simp[e]
def rE (P:List Pl):List Wr:=P.filterMap fun p=>if p.2.1=0 then none else some (p.2.1,p.2.2)
theorem lI:∀(x:List (Int × Bt)) (fr:List Int),(∀f∈fr,f≠0)→full x≤fr.length→rE (PL x (qd fr x).1)=(qd fr x).2
 | [],fr,_,_=>by simp[qd,PL,rE]
 | (k,s)::r,fr,hf,h=>by
  rw[wI]at h;by_cases hs:s=zb
  ·rw[if_pos hs]at h;have ih:=lI r fr hf (by omega);have e:qd fr ((k,s)::r)=(0::(qd fr r).1,(qd fr r).2):=by
    cases fr <;> simp[qd,hs]
   rw[e];simpa[PL,rE]using ih
  ·rw[if_neg hs]at h;cases fr with
   | nil=>simp at h
   | cons f fr =>
    have ih:=lI r fr (fun z hz=>hf z (by simp[hz])) (by simp at h;omega);have hf0:=hf f (by simp);have e:qd (f::fr) ((k,s)::r)=(f::(qd fr r).1,(f,s)::(qd fr r).2):=by
     simp[qd,hs]
    rw[e];simpa[PL,rE,hf0]using ih
def PlR (x:List (Int × Bt))(w:World)(v f i:Value)(wr:World):Prop :=
 ∃k:Nat,k≤x.length∧i=.int .i64 (k:Int)∧f=.int .i64 ((full (x.take k):Nat):Int)∧OPl wr w.heap.size v (P0 (x.take k))∧Below w.heap.size w wr
def PcG (v pd N:Nat)(T:Value)(n1 n2:Nat)(ims:List (List Int))(cs:List Int):Nat→Value→World→Prop
 | 0,u,_=>u=pt v
 | 1,u,_=>u=pt v
 | 2,u,_=>u=pt v
 | 3,u,_=>u=T
 | 4,u,W=>∃A c,u=.slice A n1 c∧fN W A ims
 | 5,u,_=>u=pt v
 | 6,u,_=>u=pt v
 | 7,u,_=>u=.pointer (some ⟨v,9,none⟩)
 | 8,u,_=>u=pt pd
 | 9,u,_=>u=.int .i64 (N:Int)
 | 10,u,W=>∃A c,u=.tuple #[.slice A n2 c,.int .i64 0]∧ib.qM W A cs
 | 11,u,W=>∃A c,u=.tuple #[.slice A n2 c,.int .i64 0]∧ib.qM W A cs
 | 12,u,W=>∃A c,u=.slice A n2 c∧ib.qM W A cs
 | 13,u,_=>u=.int .i64 0
 | 14,u,W=>∃A c,u=.slice A n2 c∧ib.qM W A cs
 | 15,u,_=>u=.int .i64 0
 | _,_,_=>True
theorem qot(v pd N:Nat)(T:Value)(n1 n2:Nat)(ims:List (List Int))(cs:List Int)(i:Nat)(u:Value)(w w':World)(hi:i<16)(h:PcG v pd N T n1 n2 ims cs i u w)(hb:Below w.heap.size w w'):PcG v pd N T n1 n2 ims cs i u w':=by
 match i,hi,h with
 | 0,_,h | 1,_,h | 2,_,h | 3,_,h | 5,_,h | 6,_,h | 7,_,h | 8,_,h | 9,_,h | 13,_,h | 15,_,h=>exact h
 | 4,_,⟨A,c,h1,h2⟩=>exact⟨A,c,h1,h2.below hb⟩
 | 10,_,⟨A,c,h1,h2⟩ | 11,_,⟨A,c,h1,h2⟩ | 12,_,⟨A,c,h1,h2⟩ | 14,_,⟨A,c,h1,h2⟩=>exact⟨A,c,h1,h2.below hb⟩
 | j+16,hi,_=>exact absurd hi (by omega)
def qiq (r:(List Int × List Wr) × Int)(x:List (Int × Bt))(w:World)(e:Ending)(w':World):Prop:=Below w.heap.size w w'∧((r.2≠0∧e=.returned (.tuple #[.slice none 0 0,.int .i64 r.2]))∨(r.2=0∧∃v,e=.returned (.tuple #[v,.int .i64 0])∧OPl w' w.heap.size v (PL x r.1.1)))
end Go.Proofs.YtdagdllomphidaaGreatDoor.vt.pg
namespace Go.Proofs.YtdagdllomphidaaGreatDoor.im
open _root_.Go.Proofs.Tryz Go Go.RowKit ib
def okO (r:List Int)(w:World)(e:Ending)(w':World):Prop:=∃v,e=.returned v∧zC w' w.heap.size v r∧Below w.heap.size w w'
theorem qou{w:World}{ad:Addr}{zs:List Int}(h:qM w (some ad) zs)(m:Nat):∀(j:Nat) (u:Value),((zs.take m).map (Value.int .i64))[j]?=some u→w.cell? (ad.add j)=some u:=by
 intro j u hu;rw[List.getElem?_map]at hu;cases hz:(zs.take m)[j]? with
 | none=>rw[hz]at hu;cases hu
 | some z =>
  rw[hz]at hu;injection hu with hu
  subst hu;obtain⟨hj,rfl⟩:=List.getElem?_eq_some_iff.1 hz;have hj':j<zs.length:=by simp at hj;omega
  obtain⟨b,o,h1,_,h3,_⟩:=h j hj';injection h1 with h1
  subst h1;rw[addr_add,h3,List.getElem_take]
theorem qov(zs:List Int):∀u∈zs.map (Value.int .i64),u.oneCell'=true:=by
 intro u hu;obtain⟨z,_,rfl⟩:=List.mem_map.1 hu;rfl
def q0P:Prop:=∀(A:Option Addr) (c:Nat) (l:List Int) (b s:Int) (w:World),yQ w A l c→l.length≤1000→qG b→qG s →
 Calls prog 109 #[.slice A l.length c,.int .i64 b,.int .i64 s] w (quM (qc4 l b s) w)
theorem qrY(w:World):(w.alloc (.cells #[] 3)).ownsRow w.heap.size 3 1 (.slice (some ⟨w.heap.size,0,none⟩) 0 0) 0 [] :=
 ⟨rfl,.inr ⟨w.heap.size,0,#[],rfl,Nat.le_refl _,heap_alloc_new w _,Nat.le_refl _,by unfold maxLen;omega,rfl,rfl⟩⟩
theorem qow(w:World)(A:Option Addr)(l:List Int)(h:qM w A l)(h1:1≤l.length):∃b o,A=some ⟨b,o,none⟩:=by
 obtain⟨b,o,h2,_⟩:=h 0 (by omega);exact⟨b,o,h2⟩
theorem lJ (A:Option Addr)(c:Nat)(l:List Int)(w:World)(hp:qM w A l)(hl:l.length≤1000)(h1:1≤l.length) :
    Calls prog 169 #[.slice A l.length c] w (okO l w):=by
 obtain⟨i0,hi,hz0,hz1,hz2⟩:=info_parts wY;obtain⟨b,o,rfl⟩:=qow w A l hp h1;have H0:=QH (qrY w);have HB:=QH ((Below.refl w.heap.size w).alloc (Nat.le_refl _) (.cells #[] 3));have qub:=QH (qou (hp.below ((Below.refl w.heap.size w).alloc (Nat.le_refl _) (.cells #[] 3))) l.length);rw[List.take_length]at qub;have qrZ:=QH (qov l);have qn:(binOp .eql 57 (.slice (some ⟨b,o,none⟩) l.length c) (.slice none 0 0)).run prog w=.ok (.bool false) w:=Lib.run_eql_slice_nil w _ _ _ _ _ _ _ underlying57;clear hp;go_enter func169,ntmps169;go_wp2_with (at_builtin;refine wpList_append_own _ rfl (.tmp 5) (.tmp 6) 57 rfl w.heap.size 3 i0 (.int .i64 0) 1 8 underlying57 hi hz0 hz1 hz2 rfl (by decide) _ 0 [] rfl H0.out ⟨b,o,none⟩ l.length c (l.map (Value.int .i64)) rfl (by rw[List.length_map,Nat.mul_one]) qub.out qrZ.out ?_ ?_ HB.out.size ?_)
 ·unfold maxLen;omega
 ·omega
 ·intro v' w1 hown hgrow _;have hb1:=HB.out.grown hgrow HB.out.size (fun j hj=>(H0.out.lt j hj).1);have hos:zC w1 w.heap.size v' l:=hown;have HO:=QH hos;have qV:=QH hb1;clear hown hgrow hb1 hos;go_wp2_with fail;go_ret;exact⟨_,rfl,HO.out,qV.out⟩
theorem qsa{w:World}{B:Nat}{v:Value}{l:List Int}(h:zC w B v l)(k:Nat)(hk:k<l.length)(z:Int) :
    ∃g cap,v=.slice (some ⟨g,0,none⟩) l.length cap∧l.length≤cap∧B≤g∧g<w.heap.size∧(∃u,w.cell? ⟨g,k,none⟩=some u)∧w.frozen? ⟨g,k,none⟩=false∧zC (w.setCell ⟨g,k,none⟩ (.int .i64 z)) B v (l.set k z):=by
 rcases h.2 with⟨_,h0⟩|⟨g,cap,cur,rfl,hg,hh,hcc,hm,hcs,xo⟩
 ·omega
 ·have hb:qg w g 3 cur:=hh;have hsz:k<cur.size:=by omega
  refine⟨g,cap,rfl,hcc,hg,hb.lt,⟨cur[k],by rw[hb.cell k,Array.getElem?_eq_getElem hsz]⟩,hb.frozen k,?_⟩;have hs:=hb.ql k (.int .i64 z);refine⟨by simp,.inr ⟨g,cap,cur.setIfInBounds k (.int .i64 z),by simp,hg,hs,by simpa using hcc,hm,by simpa using hcs,?_⟩⟩;rw[Nat.mul_one]at xo ⊢;rw[List.length_set,Array.toList_setIfInBounds,List.take_set,xo,List.map_set]
theorem q0Q:q0P:=by
 intro A c l b s w hs hl hb hn;have HP:=QH hs.ints;have HM:=QH hs.ints.mem;have HB:=QH hb;have HN:=QH hn;obtain⟨res,hres⟩:=QE (qc4 l b s);rw[hres];unfold qc4 at hres;clear hs hb hn;by_cases h0:b<0
 ·rw[if_pos (.inl h0)]at hres;subst hres;go_enter func109,ntmps109;go_wp2_with fail;go_ret2;exact ot (Below.refl _ _)
 by_cases h1:(l.length:Int)≤b
 ·rw[if_pos (.inr (.inl h1))]at hres;subst hres;go_enter func109,ntmps109;go_wp2_with fail;go_ret2;exact ot (Below.refl _ _)
 by_cases h2:s<0
 ·rw[if_pos (.inr (.inr h2))]at hres;subst hres;go_enter func109,ntmps109;go_wp2_with fail;go_ret2;exact ot (Below.refl _ _)
 rw[if_neg (by omega)]at hres;obtain⟨k,rfl⟩:=Int.eq_ofNat_of_zero_le (show 0≤b by omega);rw[Int.toNat_natCast]at hres;have hk:k<l.length:=by omega
 have xB:=QH hres;have HC:=QH (lJ A c l w HP.out hl (by omega));clear hres;go_enter func109,ntmps109;go_wp2_with fail;refine HC.out.mono ?_;rintro e W ⟨v,rfl,ho,hw⟩;obtain⟨g,cap,rfl,qmc,hg,dx,⟨u,hu⟩,hf,ho2⟩:=qsa ho k hk s;have HO:=QH ho2;have HG:=QH hg;have HW:=QH hw;have jW:(k:Int)<(l.length:Int):=by omega
 clear ho ho2 hw;go_wp2_with fail;go_ret2;refine qfs HO.out ?_ (HW.out.setCell (p:=⟨g,k,none⟩) HG.out _) xB.out.symm;intro z hz;rcases List.mem_or_eq_of_mem_set hz with h|h
 ·exact HM.out z h
 ·rw[h];exact HN.out
theorem qox{w w':World}{B:Nat}{v:Value}{l:List Int}(h:zC w B v l)(hk:∀g,v.ownBlock=some g→w'.heap[g]?=w.heap[g]?):zC w' B v l:=by
 refine⟨h.1,?_⟩;rcases h.2 with h0|⟨g,cap,cur,rfl,hg,hh,hcc,hm,hcs,xo⟩
 ·exact .inl h0
 ·exact .inr ⟨g,cap,cur,rfl,hg,(hk g rfl).trans hh,hcc,hm,hcs,xo⟩
theorem jO {w:World}{B:Nat}{v:Value}{l:List Int}(h:zC w B v l)(g:Nat)(hg:v.ownBlock=some g):B≤g∧g<w.heap.size:=by
 rcases h.2 with⟨rfl,_⟩|⟨g',cap,cur,rfl,hg',hh,_⟩
 ·cases hg
 ·injection hg with e
  have e':g'=g:=e;subst e';exact⟨hg',(Array.getElem?_eq_some_iff.1 hh).1⟩
structure qbS(w:World)(U V:List Int)(b:Nat)(v:Value)(r:List Int)(wr:World):Prop where
 one:qg wr b 219 (qi U)
 two:qg wr (b+1) 219 (qi V)
 own:zC wr w.heap.size v r
 apart:v.ownBlock≠some b∧v.ownBlock≠some (b+1)
 below:Below w.heap.size w wr
theorem qbS.drew{w wr:World}{U V:List Int}{b:Nat}{v:Value}{r:List Int}(h:qbS w U V b v r wr)(n:Nat):qbS w U V b v r (wr.drewN n) :=
 ⟨h.one,h.two,h.own,h.apart,qzu h.below n⟩
theorem qbS.new{w wr:World}{U V:List Int}{b:Nat}{v:Value}{r:List Int}(h:qbS w U V b v r wr)(o:Obj):qbS w U V b v r (wr.alloc o) :=
 ⟨h.one.of_block (Below.heap_alloc _ _ _ h.one.lt),h.two.of_block (Below.heap_alloc _ _ _ h.two.lt),qox h.own fun g hg=>Below.heap_alloc _ _ _ (jO h.own g hg).2,h.apart,h.below.alloc h.below.size _⟩
theorem qbS.put{w wr w1:World}{U V:List Int}{b:Nat}{v v':Value}{r r':List Int}(h:qbS w U V b v r wr)(ho:zC w1 w.heap.size v' r')(hg:wr.grownBy w1 v.ownBlock)(hw:v'.ownBlock=v.ownBlock∨v'.ownBlock=some wr.heap.size):qbS w U V b v' r' w1:=by
 have l1:=h.one.lt;have l2:=h.two.lt;refine⟨h.one.of_block (hg.block _ l1 fun e=>h.apart.1 e.symm),h.two.of_block (hg.block _ l2 fun e=>h.apart.2 e.symm),ho,?_,h.below.grown hg h.below.size fun k hk=>(jO h.own k hk).1⟩;rcases hw with e|e
 ·rw[e];exact h.apart
 ·rw[e];exact⟨fun e=>by injection e;omega,fun e=>by injection e;omega⟩
end Go.Proofs.YtdagdllomphidaaGreatDoor.im
namespace Go.Proofs
open _root_.Go.Proofs.Tryz Go.Shelf
def Tryz.mX:Go.Shelf.Ren:=⟨fun | 105=>100 | 212=>154 | 99=>155 | 165=>156 | 166=>157 | 170=>158 | 169=>159 | 263=>187 | 264=>188 | 206=>189 | 240=>190 | 241=>191 | 276=>212 | 277=>213|n=>n,fun | 9=>9 | 3=>3 | 4=>4 | 0=>0 | 46=>224 | 109=>225 | 5=>5 | 72=>230 | 76=>233 | 51=>250 | 146=>266 | 53=>35 | 148=>268 | 70=>228 | 37=>118 | 75=>232 | 127=>270 | 164=>291 | 80=>235|n=>n,fun|n=>n⟩
theorem Tryz.qsb:Go.Proofs.Lays.n105 prog Tryz.mX:={
 mixed:=by kernel_rfl
 f99:=func155.trans (congrArg some (by kernel_rfl))
 f105:=func100.trans (congrArg some (by kernel_rfl))
 f165:=func156.trans (congrArg some (by kernel_rfl))
 f166:=func157.trans (congrArg some (by kernel_rfl))
 f169:=func159.trans (congrArg some (by kernel_rfl))
 f170:=func158.trans (congrArg some (by kernel_rfl))
 f206:=func189.trans (congrArg some (by kernel_rfl))
 f212:=func154.trans (congrArg some (by kernel_rfl))
 f240:=func190.trans (congrArg some (by kernel_rfl))
 f241:=func191.trans (congrArg some (by kernel_rfl))
 f263:=func187.trans (congrArg some (by kernel_rfl))
 f264:=func188.trans (congrArg some (by kernel_rfl))
 f276:=func212.trans (congrArg some (by kernel_rfl))
 f277:=func213.trans (congrArg some (by kernel_rfl))
 t0:=underlying0
 a0:=isAgg0
 z0:=sizeOf0
 v0:=zeroValue0
 t3:=underlying3
 a3:=isAgg3
 z3:=sizeOf3
 v3:=zeroValue3
 t4:=underlying4
 a4:=isAgg4
 z4:=sizeOf4
 v4:=zeroValue4
 t5:=underlying5
 a5:=isAgg5
 z5:=sizeOf5
 v5:=zeroValue5
 t9:=underlying9
 a9:=isAgg9
 z9:=sizeOf9
 v9:=zeroValue9
 t20:=underlying20
 a20:=isAgg20
 z20:=sizeOf20
 v20:=zeroValue20
 t37:=underlying118
 a37:=isAgg118
 z37:=sizeOf118
 v37:=zeroValue118
 t46:=underlying224
 a46:=isAgg224
 z46:=sizeOf224
 v46:=zeroValue224
 t51:=underlying250
 a51:=isAgg250
 z51:=sizeOf250
 v51:=zeroValue250
 t53:=underlying35
 a53:=isAgg35
 z53:=sizeOf35
 v53:=zeroValue35
 t70:=underlying228
 a70:=isAgg228
 z70:=sizeOf228
 v70:=zeroValue228
 t72:=underlying230
 a72:=isAgg230
 z72:=sizeOf230
 v72:=zeroValue230
 t75:=underlying232
 a75:=isAgg232
 z75:=sizeOf232
 v75:=zeroValue232
 t76:=underlying233
 a76:=isAgg233
 z76:=sizeOf233
 v76:=zeroValue233
 t109:=underlying225
 a109:=isAgg225
 z109:=sizeOf225
 v109:=zeroValue225
 t127:=underlying270
 a127:=isAgg270
 z127:=sizeOf270
 v127:=zeroValue270
 t146:=underlying266
 a146:=isAgg266
 z146:=sizeOf266
 v146:=zeroValue266
 t148:=underlying268
 a148:=isAgg268
 z148:=sizeOf268
 v148:=zeroValue268
 t164:=underlying291
 a164:=isAgg291
 z164:=sizeOf291
 v164:=zeroValue291 }
theorem Tryz.ig:Builder.Extra prog Tryz.mX:={
 sizeBuilder:=by kernel_rfl
 liesBuilder:=by kernel_rfl
 t5:=underlying5
 a5:=isAgg5
 z5:=sizeOf5
 v5:=zeroValue5
 infoByte:=by kernel_rfl
 cellsByte:=by kernel_rfl
 sizeByte:=by kernel_rfl
 neB5:=by decide }
open Go.RowKit Go.Lib in
theorem Tryz.strings_Repeat(s:ByteArray)(c:Nat)(w:World)(hc:c≤9223372036854775807)(hlen:s.size*c≤140737488355328) :
    Calls prog 100 #[.string s,.int .i64 c] w fun e w'=>e=.returned (.string ⟨(Lib.repeatL s.data.toList c).toArray⟩)∧Below w.heap.size w w':=Any.strings_Repeat Tryz.qsb Tryz.ig s c w hc hlen
end Go.Proofs
namespace Go.Proofs.YtdagdllomphidaaGreatDoor.ch
open _root_.Go.Proofs.Tryz Go Go.RowKit ib
theorem qgL:(prog.info? 62).map (fun i=>(i.zero,i.size,i.bytes))=some (some (.agg #[.int .i64 0,.string ByteArray.empty]),2,24):=by kernel_rfl
def ud:List (Int × Bt)→List Value
 | []=>[]
 | x::r=>.int .i64 x.1 :: .string (str x.2)::ud r
def wR (w:World)(B:Nat)(v:Value)(l:List (Int × Bt)):Prop:=w.ownsRow B 62 2 v l.length (ud l)
theorem bU:∀(l r:List (Int × Bt)),ud (l++r)=ud l++ud r
 | [],_=>rfl
 | x::l,r=>by simp[ud,bU l r]
theorem rF:∀(l:List (Int × Bt)) (i:Nat) (h:i<l.length),(ud l)[i*2]?=some (.int .i64 l[i].1)∧(ud l)[i*2+1]?=some (.string (str l[i].2))
 | x::l,0,_=>⟨rfl,rfl⟩
 | x::l,i+1,h=>by
  have:=rF l i (by simpa using h);rw[show(i+1)*2=i*2+1+1 from by omega];exact this
theorem wR.view{w:World}{B:Nat}{v:Value}{l:List (Int × Bt)}(h:wR w B v l)(hz:∀x∈l,jd x.1):∃a c,v=.slice a l.length c∧bw w a l:=by
 rcases h.2 with⟨rfl,h0⟩|⟨g,cap,cur,rfl,hg,hh,hcc,hm,hcs,xo⟩
 ·obtain rfl:l=[]:=List.length_eq_zero_iff.1 h0;exact⟨none,0,rfl,fun i h=>by simp at h⟩
 ·refine⟨some ⟨g,0,none⟩,cap,rfl,fun i hi=>?_⟩;have key:∀(j:Nat) (u:Value),(ud l)[j]?=some u→w.cell? ⟨g,j,none⟩=some u:=by
   intro j u hu;rw[cell_of_row w g j cur 62 (0,0) hh];rw[← xo,List.getElem?_take]at hu;split at hu
   ·simpa using hu
   ·cases hu
  obtain⟨g0,g1⟩:=rF l i hi;exact⟨g,0,rfl,(Array.getElem?_eq_some_iff.1 hh).1,by rw[Nat.zero_add];exact key _ _ g0,by rw[Nat.zero_add];exact key _ _ g1,hz _ (List.getElem_mem hi)⟩
theorem qbK(x:Int × Bt):∀u∈([Value.int .i64 x.1,.string (str x.2)]:List Value),u.oneCell'=true:=by
 intro u hu;simp at hu;rcases hu with rfl|rfl <;> rfl
theorem wR.snoc{w1:World}{B:Nat}{v':Value}{l:List (Int × Bt)}{x:Int × Bt}(h:w1.ownsRow B 62 2 v' (l.length+1) (ud l++[.int .i64 x.1,.string (str x.2)])):wR w1 B v' (l++[x]):=by
 unfold wR;rw[List.length_append,bU];exact h
def q0R (l:List (Int × Bt))(w:World)(e:Ending)(w':World):Prop:=∃v,e=.returned v∧wR w' w.heap.size v l∧Below w.heap.size w w'
theorem wR.qea{w:World}{B:Nat}{v:Value}{l:List (Int × Bt)}(h:wR w B v l)(hz:∀x∈l,jd x.1):∃a c,v=.slice a l.length c∧bw w a l∧∀b o,a=some ⟨b,o,none⟩→B≤b∧b<w.heap.size:=by
 obtain⟨a,c,hv,hl⟩:=h.view hz;refine⟨a,c,hv,hl,fun b o e=>?_⟩;rcases h.2 with⟨rfl,_⟩|⟨g,cap,cur,rfl,hg,hh,_⟩
 ·simp only[Value.slice.injEq]at hv;rw[e]at hv;cases hv.1
 ·simp only[Value.slice.injEq]at hv;rw[e]at hv;obtain⟨h1,_⟩:=hv;simp only[Option.some.injEq,Addr.mk.injEq,and_true]at h1;obtain⟨rfl,_⟩:=h1;exact⟨hg,(Array.getElem?_eq_some_iff.1 hh).1⟩
end Go.Proofs.YtdagdllomphidaaGreatDoor.ch
namespace Go.Proofs.YtdagdllomphidaaGreatDoor.ch.pg
open _root_.Go.Proofs.Tryz Go Go.RowKit ib
theorem vY:prog.follows .mixedOrders=true:=by kernel_rfl
theorem qsc{d:CH}(h:d.ok)(k:Nat):CH.ok ⟨d.live,d.qa.take k⟩:=by
 refine⟨h.live,h.n1,h.n8,fun s hs=>h.qa s (List.mem_of_mem_take hs),?_,fun s hs=>h.iC s (List.mem_of_mem_take hs)⟩;show(d.qa.take k).length≤20;have:=h.few;rw[List.length_take];omega
theorem qir{d:CH}(h:d.ok){l:List Bt}(hl:qR d.live.length l):CH.ok ⟨l,d.qa⟩:=by
 have hn:l.length=d.live.length:=hl.1;refine⟨?_,?_,?_,fun s hs=>?_,h.few,h.iC⟩
 ·show qR l.length l;rw[hn];exact hl
 ·show 1≤l.length;rw[hn];exact h.n1
 ·show l.length≤8;rw[hn];exact h.n8
 ·show qR l.length s.bs;rw[hn];exact h.qa s hs
theorem qsd{d:CH}(h:d.ok)(i:Nat):CH.ok ⟨d.live,xK d.qa i⟩:=by
 have hm:∀s∈xK d.qa i,∃t∈d.qa,s.bs=t.bs∧s.g=t.g:=by
  intro s hs;unfold xK at hs;obtain⟨j,hj,e⟩:=List.getElem_of_mem hs;rw[List.length_modify]at hj;rw[List.getElem_modify]at e;refine⟨d.qa[j],List.getElem_mem hj,?_⟩;rw[← e];split <;> exact⟨rfl,rfl⟩
 refine⟨h.live,h.n1,h.n8,fun s hs=>?_,?_,fun s hs=>?_⟩
 ·obtain⟨t,ht,h2,_⟩:=hm s hs;rw[h2];exact h.qa t ht
 ·show(xK d.qa i).length≤20;unfold xK;rw[List.length_modify];exact h.few
 ·obtain⟨t,ht,_,h2⟩:=hm s hs;rw[h2];exact h.iC t ht
@[go_sem] theorem qtk (a b c d:Int) (w:World):(Op.equalIn 10000 55 (.agg #[.int .u64 a,.int .u64 b]) (.agg #[.int .u64 c,.int .u64 d])).run prog w=.ok (a == c&&b == d) w:=by
 have u3:=underlying35;have a3:=isAgg35;have z3:=sizeOf35;rw[show(10000:Nat)=9999+1 from rfl,run_equalIn_agg w 9999 55 _ _ (by kernel_rfl) (by kernel_rfl)];simp only[Program.fieldsOf,underlying55];go_simp;by_cases h1:a=c <;> by_cases h2:b=d <;> simp[h1,h2]
theorem qoy(x y:Gd):((x.1:Int) == (y.1:Int)&&(x.2:Int) == (y.2:Int))=decide (x=y):=by
 obtain⟨a,b⟩:=x;obtain⟨c,d⟩:=y;rw[Bool.eq_iff_iff];simp;omega
def lK (p q:List Bt)(k:Nat):List (Int × Bt):=(List.range k).filterMap fun i=>if q.getD i []=p.getD i []then none else some ((i:Int),q.getD i [])
theorem rG (p q:List Bt)(k:Nat)(h:q.getD k []=p.getD k []):lK p q (k+1)=lK p q k:=by
 unfold lK;rw[List.range_succ,List.filterMap_append,List.filterMap_cons,if_pos h];simp
theorem qeb(p q:List Bt)(k:Nat)(h:¬ q.getD k []=p.getD k []):lK p q (k+1)=lK p q k++[((k:Int),q.getD k [])]:=by
 unfold lK;rw[List.range_succ,List.filterMap_append,List.filterMap_cons,if_neg h];rfl
theorem qbT(p q:List Bt)(k:Nat)(hk:k≤1000):∀x∈lK p q k,jd x.1:=by
 intro x hx;unfold lK at hx;obtain⟨i,hi,h⟩:=List.mem_filterMap.1 hx;have:=List.mem_range.1 hi;split at h
 ·cases h
 ·injection h with h
  subst h;unfold jd;dsimp only;omega
theorem qis(p q:List Bt)(k:Nat):(lK p q k).length≤k:=by
 unfold lK;have:=List.length_filterMap_le (fun i=>if q.getD i []=p.getD i []then none else some ((i:Int),q.getD i [])) (List.range k);simpa using this
theorem dm {w wr:World}(h:Below w.heap.size w wr)(n:Nat):Below w.heap.size w (wr.drewN n):=⟨h.os,h.tape,h.output,h.size,h.block⟩
theorem qgM:(prog.info? 55).map (fun i=>(i.zero,i.size,i.bytes))=some (some (.agg #[.int .u64 0,.int .u64 0]),2,16):=by kernel_rfl
theorem qw9(w:World)(t:TypeId)(v u:Value):∀(j:Nat) (x:Value),([v,u]:List Value)[j]?=some x→(w.alloc (.cells #[v,u] t)).cell? ((⟨w.heap.size,0,none⟩:Addr).add j)=some x:=by
 intro j x hj
 match j,hj with
 | 0,hj =>
  simp at hj;subst hj;rw[addr_add];exact(qg.new w t #[v,u]).cell 0
 | 1,hj =>
  simp at hj;subst hj;rw[addr_add];exact(qg.new w t #[v,u]).cell 1
section
variable {α β:Type} {f:α→List β} {m:Nat}
theorem aJ:∀ {l:List α},(∀x∈l,(f x).length=m)→(l.flatMap f).length=l.length*m
 | [],_=>by simp
 | x::l,h=>by
  rw[List.flatMap_cons,List.length_append,aJ (l:=l) (fun y hy=>h y (by simp[hy])),h x (by simp),List.length_cons,Nat.succ_mul];omega
theorem qit(l:List α)(k:Nat)(h:∀x∈l,(f x).length=m):(l.flatMap f).take (k*m)=(l.take k).flatMap f:=by
 by_cases hk:k≤l.length
 ·have e:l.flatMap f=(l.take k).flatMap f++(l.drop k).flatMap f:=by rw[← List.flatMap_append,List.take_append_drop]
  rw[e,List.take_left'];rw[aJ (fun x hx=>h x (List.mem_of_mem_take hx)),List.length_take,Nat.min_eq_left hk]
 ·rw[List.take_of_length_le (i:=k) (by omega),List.take_of_length_le];rw[aJ h];exact Nat.mul_le_mul_right m (by omega)
theorem qbU(l:List α)(k:Nat)(h:∀x∈l,(f x).length=m):(l.flatMap f).drop (k*m)=(l.drop k).flatMap f:=by
 by_cases hk:k≤l.length
 ·have e:l.flatMap f=(l.take k).flatMap f++(l.drop k).flatMap f:=by rw[← List.flatMap_append,List.take_append_drop]
  rw[e,List.drop_left'];rw[aJ (fun x hx=>h x (List.mem_of_mem_take hx)),List.length_take,Nat.min_eq_left hk]
 ·rw[List.drop_of_length_le (i:=k) (by omega),List.drop_of_length_le]
  ·rfl
  ·rw[aJ h];exact Nat.mul_le_mul_right m (by omega)
theorem qbV(l:List α)(k:Nat)(hk:k<l.length)(h:∀x∈l,(f x).length=m)(j:Nat)(u:β)(hu:(f l[k])[j]?=some u):(l.flatMap f)[k*m+j]?=some u:=by
 have e:=qbU l k h;rw[List.drop_eq_getElem_cons hk,List.flatMap_cons]at e;have:((l.flatMap f).drop (k*m))[j]?=some u:=by
  rw[e,List.getElem?_append_left (List.getElem?_eq_some_iff.1 hu).1];exact hu
 rwa [List.getElem?_drop]at this
theorem qoz(l:List α)(k:Nat)(s:α)(hk:k<l.length)(h:∀x∈l,(f x).length=m):(l.flatMap f).take (k*m)++f s++(l.flatMap f).drop (k*m+m)=(l.set k s).flatMap f:=by
 rw[show k*m+m=(k+1)*m by rw[Nat.succ_mul],qit l k h,qbU l (k+1) h,List.set_eq_take_append_cons_drop,if_pos hk,List.flatMap_append,List.flatMap_cons,List.append_assoc]
end
def pad (l:List Bt):List Bt:=l++List.replicate (8-l.length) zz
def vc (l:List Bt):List Value:=(pad l).flatMap Lib.byteCells
theorem vL {n:Nat}{l:List Bt}(h:qR n l)(h8:n≤8):(pad l).length=8:=by
 unfold pad;rw[List.length_append,List.length_replicate,h.1];omega
theorem rH {n:Nat}{l:List Bt}(h:qR n l):∀v∈pad l,v.length=32:=by
 intro v hv;rcases List.mem_append.1 hv with h1|h1
 ·exact h.2 v h1
 ·rw[List.eq_of_mem_replicate h1];exact qJ
theorem qo0{n:Nat}{l:List Bt}(h:qR n l):∀v∈pad l,(Lib.byteCells v).length=32:=fun v hv=>by rw[Lib.byteCells_length,rH h v hv]
theorem xj {n:Nat}{l:List Bt}(h:qR n l)(h8:n≤8):(vc l).length=256:=by
 unfold vc;rw[aJ (qo0 h),vL h h8]
theorem rI (l:List Bt):∀u∈vc l,u.oneCell'=true:=by
 intro u hu;obtain⟨s,_,h⟩:=List.mem_flatMap.1 hu;exact Lib.byteCells_one _ u h
theorem qse(l:List Bt)(k:Nat)(s:Bt)(hk:k<l.length):pad (l.set k s)=(pad l).set k s:=by
 unfold pad;rw[List.set_append_left _ _ hk,List.length_set]
theorem qo1{n:Nat}{l:List Bt}(h:qR n l)(k:Nat)(s:Bt)(hk:k<l.length):(vc l).take (k*32)++Lib.byteCells s++(vc l).drop (k*32+32)=vc (l.set k s):=by
 unfold vc;rw[qse l k s hk];exact qoz (pad l) k s (by unfold pad;rw[List.length_append];omega) (qo0 h)
theorem qgN{n:Nat}{l:List Bt}(h:qR n l)(k:Nat)(hk:k<(pad l).length)(j:Nat)(u:Value)(hu:(Lib.byteCells (pad l)[k])[j]?=some u):(vc l)[k*32+j]?=some u:=qbV (pad l) k hk (qo0 h) j u hu
theorem qwA(l:List Bt)(k:Nat)(hk:k<l.length)(hp:k<(pad l).length):(pad l)[k]=l[k]:=List.getElem_append_left hk
theorem qsf{l q:List Bt}(h:l.length=q.length)(e:pad l=pad q):l=q:=List.append_inj_left e h
theorem qo2(n:Nat)(h8:n≤8):pad (wH n)=List.replicate 8 zz:=by
 unfold pad wH;rw[List.length_replicate,List.replicate_append_replicate]
 congr 1
 omega
theorem qiu(n:Nat)(h8:n≤8):vc (wH n)=vc []:=by
 unfold vc;rw[qo2 n h8];rfl
def sc (s:Sn):List Value:=vc s.bs++[.int .u64 (s.g.1:Int),.int .u64 (s.g.2:Int),.bool s.hid]
def vz (l:List Sn):List Value:=l.flatMap sc
theorem jc {n:Nat}{s:Sn}(h:qR n s.bs)(h8:n≤8):(sc s).length=259:=by
 unfold sc;rw[List.length_append,xj h h8];rfl
theorem lL (s:Sn):∀u∈sc s,u.oneCell'=true:=by
 intro u hu;rcases List.mem_append.1 hu with h|h
 ·exact rI _ u h
 ·simp at h;rcases h with rfl|rfl|rfl <;> rfl
theorem quc{n:Nat}{s:Sn}(h:qR n s.bs)(h8:n≤8):(sc s)[256]?=some (.int .u64 (s.g.1:Int)):=by
 unfold sc;rw[List.getElem?_append_right (by rw[xj h h8];omega),xj h h8];rfl
theorem qud{n:Nat}{s:Sn}(h:qR n s.bs)(h8:n≤8):(sc s)[257]?=some (.int .u64 (s.g.2:Int)):=by
 unfold sc;rw[List.getElem?_append_right (by rw[xj h h8];omega),xj h h8];rfl
theorem qwB{n:Nat}{s:Sn}(h:qR n s.bs)(h8:n≤8):(sc s)[258]?=some (.bool s.hid):=by
 unfold sc;rw[List.getElem?_append_right (by rw[xj h h8];omega),xj h h8];rfl
theorem qo3(s:Sn)(j:Nat)(u:Value)(h:(vc s.bs)[j]?=some u):(sc s)[j]?=some u:=by
 unfold sc;rw[List.getElem?_append_left (List.getElem?_eq_some_iff.1 h).1];exact h
def z0:Sn:=⟨(0,0),[],false⟩
theorem bD:(prog.info? 131).map (fun i=>(i.zero,i.size,i.bytes))=some (some (.agg (sc z0).toArray),259,280):=by kernel_rfl
theorem yX:(prog.info? 131).map (·.size)=some 259:=by kernel_rfl
theorem uq:(prog.info? 84).map (·.size)=some 256:=by kernel_rfl
theorem qbW:(prog.info? 87).map (·.size)=some 258:=by kernel_rfl
theorem vM:(prog.info? 82).map (·.size)=some 32:=by kernel_rfl
def qI (n:Nat)(l:List Bt)(v:Value):List Value:=.int .i64 (n:Int)::(vc l++[v])
theorem qiv:(prog.info? 87).map (fun i=>(i.zero,i.size,i.bytes))=some (some (.agg (qI 0 [] (.slice none 0 0)).toArray),258,288):=by kernel_rfl
theorem kA {n m:Nat}{l:List Bt}{v:Value}(h:qR n l)(h8:n≤8):(qI m l v).length=258:=by
 unfold qI;rw[List.length_cons,List.length_append,xj h h8];rfl
theorem qo4{n m:Nat}{l:List Bt}{v:Value}(h:qR n l)(h8:n≤8):(qI m l v)[257]?=some v:=by
 unfold qI;rw[show 257=256+1 from rfl,List.getElem?_cons_succ,List.getElem?_append_right (by rw[xj h h8];omega),xj h h8];rfl
theorem qa7{m:Nat}{l:List Bt}{v:Value}(j:Nat)(u:Value)(h:(vc l)[j]?=some u):(qI m l v)[1+j]?=some u:=by
 unfold qI;rw[Nat.add_comm,List.getElem?_cons_succ,List.getElem?_append_left (List.getElem?_eq_some_iff.1 h).1];exact h
theorem mY {n m:Nat}{l:List Bt}{v u:Value}(h:qR n l)(h8:n≤8):(qI m l v).toArray.setIfInBounds 257 u=(qI m l u).toArray:=by
 unfold qI;rw[List.setIfInBounds_toArray,show 257=256+1 from rfl,List.set_cons_succ,List.set_append_right _ _ (by rw[xj h h8];omega),xj h h8];rfl
theorem qec{n m:Nat}{l q:List Bt}{v:Value}(h:qR n l)(hq:qR n q)(h8:n≤8):(qI m l v).take 1++vc q++(qI m l v).drop (1+(vc q).length)=qI m q v:=by
 unfold qI;rw[xj hq h8,Nat.add_comm,List.take_succ_cons,List.drop_succ_cons,List.take_zero,List.drop_left' (xj h h8)];simp
theorem qed{n m:Nat}{l:List Bt}{v:Value}(h:qR n l)(h8:n≤8)(k:Nat)(s:Bt)(hk:k<l.length):(qI m l v).take (1+k*32)++Lib.byteCells s++(qI m l v).drop (1+k*32+32)=qI m (l.set k s) v:=by
 have hl:=xj h h8;have hn:=h.1;unfold qI;rw[show 1+k*32+32=(k*32+32)+1 by omega,Nat.add_comm 1,List.take_succ_cons,List.drop_succ_cons,List.take_append_of_le_length (by omega),List.drop_append_of_le_length (by omega),← qo1 h k s hk];simp
theorem qsg{n:Nat}{s:Sn}(h:qR n s.bs)(h8:n≤8)(k:Nat)(b:Bt)(hk:k<s.bs.length):(sc s).take (0+k*32)++Lib.byteCells b++(sc s).drop (0+k*32+32)=sc { s with bs:=s.bs.set k b }:=by
 have hl:=xj h h8;have hn:=h.1;unfold sc;rw[Nat.zero_add,List.take_append_of_le_length (by omega),List.drop_append_of_le_length (by omega),← qo1 h k b hk];simp
theorem rJ {n:Nat}{l:List Sn}(h:∀s∈l,qR n s.bs)(h8:n≤8):(vz l).length=l.length*259:=aJ (fun s hs=>jc (h s hs) h8)
theorem qo5{n:Nat}{l:List Sn}(h:∀s∈l,qR n s.bs)(h8:n≤8)(k:Nat)(hk:k<l.length)(j:Nat)(u:Value)(hu:(sc l[k])[j]?=some u):(vz l)[k*259+j]?=some u:=qbV l k hk (fun s hs=>jc (h s hs) h8) j u hu
theorem qky(l:List Sn)(s:Sn):vz (l++[s])=vz l++sc s:=by simp[vz]
def vh (w:World)(v:Value)(l:List Sn):Prop:=∃A c,v=.slice A l.length c∧l.length≤c∧c≤maxLen ∧
 ((A=none∧l.length=0∧c=0)∨∃g cur,A=some ⟨g,0,none⟩∧qg w g 131 cur∧cur.toList.take (l.length*259)=vz l)
theorem qa8{w:World}{n k m c:Nat}{A:Option Addr}{l:List Sn}(h:vh w (.slice A m c) l)(ho:∀s∈l,qR n s.bs)(h8:n≤8)(hk:k≤l.length)(c2:Nat)(hc2:k≤c2)(hc:c2≤c):vh w (.slice A k c2) (l.take k):=by
 have hlk:(l.take k).length=k:=by rw[List.length_take];omega
 obtain⟨A',c',e,h1,h2,h3⟩:=h;simp only[Value.slice.injEq]at e;obtain⟨rfl,rfl,rfl⟩:=e;refine⟨A,c2,by rw[hlk],by omega,by omega,?_⟩;rcases h3 with⟨rfl,h0,rfl⟩|⟨g,cur,rfl,hb,xo⟩
 ·exact .inl ⟨rfl,by omega,by omega⟩
 ·refine .inr ⟨g,cur,rfl,hb,?_⟩;have e2:=qit (f:=sc) l k (fun s hs=>jc (ho s hs) h8);rw[hlk];unfold vz at xo ⊢;rw[← e2,← xo,List.take_take,Nat.min_eq_left (Nat.mul_le_mul_right 259 hk)]
theorem xE {w:World}{n:Nat}{v:Value}{l:List Sn}(h:vh w v l)(ho:∀s∈l,qR n s.bs)(h8:n≤8) :
    ∃A c,v=.slice A l.length c∧l.length≤c∧(A=none→l.length=0∧c=0)∧∀i (hi:i<l.length),∃g cur,A=some ⟨g,0,none⟩∧qg w g 131 cur∧∀j u,(sc l[i])[j]?=some u→cur[i*259+j]?=some u:=by
 obtain⟨A,c,rfl,h1,h2,h3⟩:=h;rcases h3 with⟨rfl,h0,rfl⟩|⟨g,cur,rfl,hb,xo⟩
 ·exact⟨none,0,rfl,h1,fun _=>⟨h0,rfl⟩,fun i hi=>by omega⟩
 ·refine⟨some ⟨g,0,none⟩,c,rfl,h1,(fun h=>by cases h),fun i hi=>⟨g,cur,rfl,hb,fun j u hu=>?_⟩⟩;have hr:=qo5 ho h8 i hi j u hu;rw[← xo,List.getElem?_take]at hr;split at hr
  ·simpa using hr
  ·cases hr
theorem vh.of_block{w w':World}{v:Value}{l:List Sn}(h:vh w v l)(hb:∀k,v.ownBlock=some k→w'.heap[k]?=w.heap[k]?):vh w' v l:=by
 obtain⟨A,c,rfl,h1,h2,h3⟩:=h;refine⟨A,c,rfl,h1,h2,?_⟩;rcases h3 with h3|⟨g,cur,rfl,h4,h5⟩
 ·exact .inl h3
 ·exact .inr ⟨g,cur,rfl,h4.of_block (hb g rfl),h5⟩
theorem vh.lt{w:World}{v:Value}{l:List Sn}(h:vh w v l):∀k,v.ownBlock=some k→k<w.heap.size:=by
 obtain⟨A,c,rfl,h1,h2,h3⟩:=h;intro k hk;rcases h3 with⟨rfl,_⟩|⟨g,cur,rfl,h4,h5⟩
 ·cases hk
 ·simp[Value.ownBlock]at hk;subst hk;exact h4.lt
theorem vh.ne{w:World}{v:Value}{l:List Sn}{a:Nat}{t:TypeId}{x:Array Value}(h:vh w v l)(k:qg w a t x)(hn:t≠131):∀j,v.ownBlock=some j→j≠a:=by
 obtain⟨A,c,rfl,h1,h2,h3⟩:=h;intro j hj;rcases h3 with⟨rfl,_⟩|⟨g,cur,rfl,h4,h5⟩
 ·cases hj
 ·simp[Value.ownBlock]at hj;subst hj;exact(uG k h4 hn).symm
theorem vh.cells{w:World}{A:Option Addr}{n c:Nat}{l:List Sn}(h:vh w (.slice A n c) l):n=l.length∧(A=none→n=0)∧∀b,A=some b→∀j u,(vz l)[j]?=some u→w.cell? (b.add j)=some u:=by
 obtain⟨A',c',e,h1,h2,h3⟩:=h;simp only[Value.slice.injEq]at e;obtain⟨rfl,rfl,rfl⟩:=e;rcases h3 with⟨rfl,h0,rfl⟩|⟨g,cur,rfl,hb,xo⟩
 ·exact⟨rfl,(fun _=>h0),fun b hb=>by cases hb⟩
 ·refine⟨rfl,(fun h=>by cases h),fun b e j u hu=>?_⟩;simp only[Option.some.injEq]at e;subst e;rw[addr_add,Nat.zero_add,hb.cell j];rw[← xo,List.getElem?_take]at hu;split at hu
  ·simpa using hu
  ·cases hu
structure jJ(w:World)(own:Nat→Prop)(p:Nat)(v:Value)(d:CH):Prop where
 blk:qg w p 87 (qI d.live.length d.live v).toArray
 row:vh w v d.qa
 op:own p
 om:∀k,v.ownBlock=some k→own k
 low:∀k,own k→k<w.heap.size
def n4:cS:=fun own w p d=>d.ok∧∃v,jJ w own p v d
section
variable {w w':World} {own:Nat→Prop} {p:Nat} {v:Value} {d:CH}
theorem jJ.vp(h:jJ w own p v d):∀j,v.ownBlock=some j→j≠p:=h.row.ne h.blk (by decide)
theorem jJ.keep(h:jJ w own p v d)(hs:w.heap.size≤w'.heap.size)(hb:∀k,own k→w'.heap[k]?=w.heap[k]?):jJ w' own p v d :=
 ⟨h.blk.of_block (hb _ h.op),h.row.of_block (fun k hk=>hb k (h.om k hk)),h.op,h.om,fun k hk=>Nat.lt_of_lt_of_le (h.low k hk) hs⟩
theorem jJ.below(h:jJ w own p v d)(hb:Below w.heap.size w w'):jJ w' own p v d:=h.keep hb.size (fun k hk=>hb.block k (h.low k hk))
theorem jJ.c0(h:jJ w own p v d):w.cell? ⟨p,0,none⟩=some (.int .i64 (d.live.length:Int)):=by
 rw[h.blk.cell 0];rfl
theorem jJ.c2(h:jJ w own p v d)(ho:d.ok):w.cell? ⟨p,257,none⟩=some v:=by
 rw[h.blk.cell 257];simpa using qo4 (m:=d.live.length) (v:=v) ho.live ho.n8
theorem vh.below{l:List Sn}(h:vh w v l)(hb:Below w.heap.size w w'):vh w' v l:=h.of_block (fun k hk=>hb.block k (h.lt k hk))
end
end Go.Proofs.YtdagdllomphidaaGreatDoor.ch.pg
namespace Go.Proofs.YtdagdllomphidaaGreatDoor.ch.pg
open _root_.Go.Proofs.Tryz Go Go.RowKit Go.Sort ib
theorem aY (a b:Gd)(w:World):Calls prog 115 #[gv a,gv b] w fun e w'=>e=.returned (.bool (above a b))∧Below w.heap.size w w':=by
 obtain⟨a1,a2⟩:=a;obtain⟨b1,b2⟩:=b;have HR:Hid (above (a1,a2) (b1,b2)=(decide ((b1:Int)<(a1:Int)) || (decide ((a1:Int)=(b1:Int))&&decide ((b2:Int)<(a2:Int))))):=by
  unfold Hid above;simp[Int.ofNat_inj]
 show Calls prog 115 #[.agg #[.int .u64 (a1:Int),.int .u64 (a2:Int)],.agg #[.int .u64 (b1:Int),.int .u64 (b2:Int)]] w _;obtain⟨r,hr⟩:=QE (above (a1,a2) (b1,b2));rw[hr]at HR ⊢;generalize (a1:Int)=x1 at *;generalize (a2:Int)=x2 at *;generalize (b1:Int)=y1 at *;generalize (b2:Int)=y2 at *;clear hr;have hB1:=(Below.refl w.heap.size w).alloc (Nat.le_refl _) (.cells #[.int .u64 x1,.int .u64 x2] 55);have HB:=QH (hB1.alloc hB1.size (.cells #[.int .u64 y1,.int .u64 y2] 55));clear hB1;by_cases h2:x1=y1
 ·subst h2;have HT:Hid (r=decide (y2<x2)):=by unfold Hid;rw[HR.out];simp
  clear HR;go_enter func115,ntmps115;go_wp2_with fail;go_ret;rw[HT.out];exact⟨rfl,HB.out⟩
 ·have HT:Hid (r=decide (y1<x1)):=by unfold Hid;rw[HR.out];simp[h2]
  have hq:(x1 == y1)=false:=by simpa using h2
  clear HR;go_enter func115,ntmps115;go_wp2_with fail;go_ret;rw[HT.out];exact⟨rfl,HB.out⟩
theorem wS {w:World}{p n:Nat}(c0:w.cell? ⟨p,0,none⟩=some (.int .i64 (n:Int)))(k:Int)(s:Bt):Calls prog 70 #[.pointer (some ⟨p,0,none⟩),.int .i64 k,.string (str s)] w fun e w'=>e=.returned (.bool (decide (0≤k∧k<(n:Int)∧s.length=32)))∧Below w.heap.size w w':=by
 have HS:Hid ((str s).size=s.length):=qT s;obtain⟨t,ht⟩:=QE (str s);rw[ht]at HS ⊢;clear ht;by_cases h0:(0:Int)≤k
 ·by_cases h1:k<(n:Int)
  ·have HR:Hid (decide (0≤k∧k<(n:Int)∧s.length=32)=((t.size:Int) == 32)):=by
      unfold Hid;rw[Bool.eq_iff_iff];simp only[decide_eq_true_eq,beq_iff_eq];rw[HS.out];omega
   rw[HR.out];clear HR;go_enter func70,ntmps70;go_wp2_with fail;go_ret;exact⟨rfl,Below.refl _ _⟩
  ·have HR:Hid (decide (0≤k∧k<(n:Int)∧s.length=32)=false):=decide_eq_false (fun h=>h1 h.2.1);rw[HR.out];clear HR;go_enter func70,ntmps70;go_wp2_with fail;go_ret;exact⟨rfl,Below.refl _ _⟩
 ·have HR:Hid (decide (0≤k∧k<(n:Int)∧s.length=32)=false):=decide_eq_false (fun h=>h0 h.1);rw[HR.out];clear HR;go_enter func70,ntmps70;go_wp2_with fail;go_ret;exact⟨rfl,Below.refl _ _⟩
theorem qiw{w:World}{b o:Nat}{t:TypeId}{cs:Array Value}(h:qg w b t cs)(hl:o+256≤cs.size)(k:Nat)(hk:k<8)(s:Bt)(hs:s.length=32) :
    Calls prog 71 #[.pointer (some ⟨b,o,none⟩),.int .i64 (k:Int),.string (str s)] w fun e w'=>e=.returned (.tuple #[])∧w'=w.setRow b (cs.toList.take (o+k*32)++Lib.byteCells s++cs.toList.drop (o+k*32+32)).toArray:=by
 have HB:=QH h;have HL:Hid (o+k*32+32≤cs.size):=by unfold Hid;omega
 have HS:Hid ((str s).size=32):=(qT s).trans hs;have hk8:(k:Int)<8:=by omega
 have HBL:Hid (bl (str s)=s):=zh s;obtain⟨t2,ht⟩:=QE (str s);rw[ht]at HS HBL ⊢;clear ht hl hs h;obtain⟨iu,hi,hz0,hz1,hz2⟩:=info_parts Tryz.oa;go_enter func71,ntmps71;go_wp2_with (refine qf rfl (pO w (.tmp 10) (.tmp 11) 118 9 5 t2 b (o+k*32) 32 _ t cs iu rfl rfl rfl HS.out HB.out HL.out underlying118 hi hz1) ?_)
 go_end0
 rw[HBL.out];exact⟨rfl,rfl⟩
def xI (n:Nat)(l:List Sn):Sn:=(l.getLast?).getD ⟨(0,0),wH n,false⟩
theorem aK {n:Nat}{l:List Sn}(h:∀s∈l,qR n s.bs):qR n (xI n l).bs:=by
 unfold xI;cases hl:l.getLast? with
 | none=>exact qbz n
 | some s=>exact h s (List.mem_of_getLast? hl)
theorem qsh(d:CH):(xI d.live.length d.qa).g=d.last:=by
 unfold xI CH.last;cases d.qa.getLast? <;> rfl
theorem qee(d:CH):(xI d.live.length d.qa).bs=d.base:=by
 unfold xI CH.base;cases d.qa.getLast? <;> rfl
theorem qkz(n:Nat):xI n []=⟨(0,0),wH n,false⟩:=rfl
theorem qk0(n:Nat)(l:List Sn)(k:Nat)(hk:k<l.length)(hl:k+1=l.length):xI n l=l[k]:=by
 unfold xI;rw[List.getLast?_eq_getElem?,show l.length-1=k by omega,List.getElem?_eq_getElem hk];rfl
theorem qsi(n:Nat)(h8:n≤8):sc ⟨(0,0),wH n,false⟩=sc z0:=by
 unfold sc z0;dsimp only;rw[qiu n h8]
theorem qk1{ρ:Operand→Value}{o:Oper}{w:World}{i:TypeInfo}{z:Array Value}(ho:o.op=.build 131 #[])(hi:prog.info? 131=some i)(hz:i.zero=some (.agg z)) :
    (execOp ρ o).run prog w=.ok (.value (.agg z)) w:=by
 have hz:∀w,(zeroValue 131).run prog w=.ok (.agg z) w:=fun w=>by simp[zeroValue,typeInfo,hi,hz]
 simp[execOp,ho,Instr.build,hz,Result.andThen,go_sem,Value.cells]
theorem ij {w:World}{n:Nat}{v:Value}{l:List Sn}(h:vh w v l)(ho:∀s∈l,qR n s.bs)(h8:n≤8)(bR:l.length≤20) :
    Calls prog 69 #[v] w fun e w'=>e=.returned (.agg (sc (xI n l)).toArray)∧Below w.heap.size w w':=by
 obtain⟨i0,hi,hz0,hz1,hz2⟩:=info_parts bD;obtain⟨A,c,rfl,hlc,hA,hx⟩:=xE h ho h8;have HX:=QH hx;have HI:=QH hi;have HZ:=QH hz0;have HB:=QH ((Below.refl w.heap.size w).alloc (Nat.le_refl _) (.cells (sc (xI n l)).toArray 131));have HN:Hid (qg (w.alloc (.cells (sc (xI n l)).toArray 131)) w.heap.size 131 (sc (xI n l)).toArray):=qg.new _ _ _;have HLEN:Hid ((sc (xI n l)).length=259):=jc (aK ho) h8;have HZL:Hid ((sc z0).length=259):=by unfold Hid z0;exact jc (n:=0) ⟨rfl,fun v hv=>by simp at hv⟩ (by omega)
 have HZZ:=QH (fun(e:l.length=0)=>show sc (xI n l)=sc z0 by rw[List.length_eq_zero_iff.1 e,qkz,qsi n h8]);have HP:=QH (fun k hk hl=>qk0 n l k hk hl);obtain⟨S,hS⟩:=QE (sc (xI n l));have HS:=QH hS;rw[hS]at HB HN HLEN HZZ ⊢;have H1:Hid (∀u∈S,u.oneCell'=true):=by unfold Hid;rw[← hS];exact lL _
 clear h hi hz0 hz1 hz2 hx hS;have xB:Hid (∀W,qg W w.heap.size 131 S.toArray→(loadVar 131 ⟨w.heap.size,0,none⟩).run prog W=.ok (.agg S.toArray) W):=fun W hW =>
  yR W w.heap.size 0 131 131 S.toArray S (0,0) _ hW underlying131 rfl (by rw[yX,HLEN.out]) (fun j u hu=>by rw[Nat.zero_add];simpa using hu)
 by_cases hz:l.length=0
 ·obtain⟨Z,hZ⟩:=QE (sc z0);have hzz:=HZZ.out hz;rw[hZ]at HZ HZL hzz;subst hzz;rw[hz];clear HZZ HP hZ HS HX;go_enter func69,ntmps69;go_wp2_with (first|(refine qf rfl (ku 131 i0 S.toArray rfl HI.out HZ.out) ?_)|(refine qf rfl (qk1 rfl HI.out HZ.out) ?_)|(refine wpList_skip rfl (qU w 131 S.toArray S.toArray (.tmp 2) (.tmp 6) rfl rfl rfl (by rw[yX,List.size_toArray,HLEN.out]) rfl (jI H1.out)) ?_));refine bodyPost_ret (v:=.agg S.toArray) ?_ rfl ?_
  ·exact zy rfl _ _ _ ⟨w.heap.size,0,none⟩ _ rfl (xB.out _ HN.out)
  exact⟨rfl,HB.out⟩
 ·obtain⟨k,hk⟩:=QE (l.length-1);have hkl:k<l.length:=by omega
  have hSk:=HP.out k hkl (by omega);obtain⟨g,cur,rfl,hb,hc⟩:=HX.out k hkl;rw[← hSk,HS.out]at hc;have HC:=QH hc;have HBG:Hid (qg (w.alloc (.cells (sc z0).toArray 131)) g 131 cur):=hb.of_block (Below.heap_alloc w _ _ hb.lt);have hw:IntKind.i64.wrap ((l.length:Int)-1)=(k:Int):=by rw[IntWalk.i64_in _ (by omega)];omega
  have jW:(k:Int)<(l.length:Int):=by omega
  have hnz:((l.length:Int) == 0)=false:=beq_false_of_ne (by omega);obtain⟨Z,hZ⟩:=QE (sc z0);rw[hZ]at HZ HZL HBG;clear HZZ HP hZ HS HX hb hc hSk hk hz;go_enter func69,ntmps69;go_wp2_with (first|(refine qf rfl (ku 131 i0 Z.toArray rfl HI.out HZ.out) ?_)|(refine qf rfl (qy 131 (.tmp 11) rfl g (k*259) rfl _ cur S _ _ HBG.out underlying131 rfl (by rw[yX,HLEN.out]) HC.out) ?_)|(refine wpList_skip rfl (qU w 131 Z.toArray S.toArray (.tmp 2) (.tmp 12) rfl rfl rfl (by rw[yX,List.size_toArray,HLEN.out]) (by rw[List.size_toArray,List.size_toArray,HLEN.out,HZL.out]) (jI H1.out)) ?_));refine bodyPost_ret (v:=.agg S.toArray) ?_ rfl ?_
  ·exact zy rfl _ _ _ ⟨w.heap.size,0,none⟩ _ rfl (xB.out _ HN.out)
  exact⟨rfl,HB.out⟩
def xM (l:List Bt):Array Value:=(l.map fun s=>Value.string (str s)).toArray
theorem kC (l:List Bt)(i:Nat)(h:i<l.length):(xM l)[i]?=some (.string (str l[i])):=by simp[xM,h]
theorem rK (l:List Bt)(i:Nat)(v:Bt):(xM l).setIfInBounds i (.string (str v))=xM (l.set i v):=by
 unfold xM;rw[List.setIfInBounds_toArray,List.map_set]
theorem qgO(n:Nat):madeCells #[.string ByteArray.empty] n=xM (List.replicate n []):=by
 apply Array.ext
 ·simp[size_madeCells,xM]
 ·intro j h1 h2;have e:(xM (List.replicate n []))[j]?=some (.string (str [])):=by
   have hj:j<n:=by simpa[xM]using h2
   rw[kC _ _ (by simpa using hj),List.getElem_replicate]
  rw[Array.getElem?_eq_getElem h2]at e;rw[Option.some.inj e];simp[madeCells,Nat.mod_one];rfl
theorem qgP(n:Nat)(h:n≤1000)(W:World):(Instr.makeSlice 43 (.int .i64 (n:Int)) (.int .i64 (n:Int))).run prog W=.ok (.slice (some ⟨W.heap.size,0,none⟩) n n) (W.alloc (.cells (xM (List.replicate n [])) 9)):=by
 obtain⟨i0,hi,hz0,hz1,hz2⟩:=info_parts Tryz.qlW;have hmk:=run_make (P:=prog) W 43 9 i0 (.string ByteArray.empty) underlying43 hi hz0 .i64 .i64 (n:Int) (n:Int) (by omega) (Int.le_refl _) (by rw[hz2];omega) (by omega);rw[hz1]at hmk;rw[← qgO];simpa[Value.cells]using hmk
theorem rL {ρ:Operand→Value}{o:Oper}{w:World}(x y:Operand)(n:Nat)(ho:o.op=.makeSlice 43 x y)(hx:ρ x=.int .i64 (n:Int))(hy:ρ y=.int .i64 (n:Int))(h:n≤1000) :
    (execOp ρ o).run prog w=.ok (.value (.slice (some ⟨w.heap.size,0,none⟩) n n)) (w.alloc (.cells (xM (List.replicate n [])) 9)):=by
 simp[execOp,ho,hx,hy,qgP n h w,Result.andThen]
theorem qsj(P:Bt)(cs:Array Value)(b o:Nat)(t:TypeId)(w:World)(hp:P.length=32)(h:qg w b t cs)(hc:∀(j:Nat) (u:Value),(Lib.byteCells P)[j]?=some u→cs[o+j]?=some u) :
    (convert 118 9 (.slice (some ⟨b,o,none⟩) 32 32)).run prog w=.ok (.string (str P)) w:=by
 have:=run_convert_bytes_back (P:=prog) w 118 9 5 ⟨b,o,none⟩ 32 P underlying118 underlying5 underlying9 ?_
 ·rw[hp]at this;exact this
 ·intro j hj;rw[addr_add,h.cell];exact hc j _ (by simp[Lib.byteCells,hj])
def qwC (l:List Bt)(n:Nat)(w:World)(i:Value)(wr:World):Prop :=
 ∃k:Nat,k≤n∧i=.int .i64 (k:Int)∧qg wr w.heap.size 9 (xM (l.take k++List.replicate (n-k) []))∧Below w.heap.size w wr
theorem take_set{l:List Bt}{n k:Nat}(hl:l.length=n)(hk:k<n):(l.take k++List.replicate (n-k) []).set k (l[k]'(by omega))=l.take (k+1)++List.replicate (n-(k+1)) []:=by
 rw[List.set_append_right _ _ (by rw[List.length_take];omega),List.length_take,Nat.min_eq_left (by omega),Nat.sub_self,show n-k=(n-(k+1))+1 by omega,List.replicate_succ,List.set_cons_zero,List.take_succ_eq_append_getElem (by omega),List.append_assoc];rfl
theorem wm {w:World}{b o n:Nat}{t:TypeId}{cs:Array Value}{l:List Bt}(h:qg w b t cs)(hc:∀j u,(vc l)[j]?=some u→cs[o+j]?=some u)(ho:qR n l)(h8:n≤8) :
    Calls prog 97 #[.pointer (some ⟨b,o,none⟩),.int .i64 (n:Int)] w (qjH l w):=by
 have HB:=QH h;have HC:=QH hc;have HO:=QH ho;have HBL:Hid (b<w.heap.size):=h.lt;clear h hc ho;go_enter func97,ntmps97;go_wp2_with (at_make;refine qf rfl (rL _ _ n rfl rfl rfl (by omega)) ?_);go_loopw [6,11] (fun _ i wr=>qwC l n w i wr) (fun _ i _=>n-(intOf i).toNat);case atStart=>exact⟨0,Nat.zero_le _,rfl,by simpa using qg.new w 9 (xM (List.replicate n [])),(Below.refl _ _).alloc (Nat.le_refl _) _⟩
 case round =>
  obtain⟨k,hk,rfl,yE,wa⟩:=hrel;have HK:=QH yE;have df:=QH wa;clear yE wa;by_cases hlt:k<n
  ·have jW:(k:Int)<(n:Int):=by omega
   have hk8:(k:Int)<8:=by omega
   have dz:k<l.length:=by rw[HO.out.1];exact hlt
   have hp:k<(pad l).length:=by rw[vL HO.out h8];omega
   have qam:=qsj l[k] cs b (o+k*32) t wr (HO.out.2 _ (List.getElem_mem dz)) (HB.out.of_block (df.out.block b HBL.out)) (fun j u hu=>by
    rw[Nat.add_assoc];refine HC.out _ _ (qgN HO.out k hp j u ?_);rw[qwA l k dz hp];exact hu)
   have f1:=HK.out.frozen k;have HS:Hid ((xM (l.take k++List.replicate (n-k) [])).setIfInBounds k (.string (str l[k]))=xM (l.take (k+1)++List.replicate (n-(k+1)) [])):=by
    unfold Hid;rw[rK,take_set HO.out.1 hlt]
   obtain⟨z,hz⟩:∃z,wr.cell? ⟨w.heap.size,k,none⟩=some z:=by
    rw[HK.out.cell k,kC _ _ (by rw[List.length_append,List.length_take,List.length_replicate];omega)];exact⟨_,rfl⟩
   have kh:=QH (HK.out.ql k (.string (str l[k])));have qC:=QH (df.out.setCell (p:=⟨w.heap.size,k,none⟩) (Nat.le_refl _) (.string (str l[k])));clear HK df hp;go_wp2_with fail;go_roundw;case rel=>exact⟨k+1,by omega,by go_num,by rw[← HS.out];exact kh.out,qC.out⟩
   case measure=>simp[intOf];omega
  ·obtain rfl:k=n:=by omega
   have jW:¬ (k:Int)<(k:Int):=by omega
   have hl:=HO.out.1;have HT:Hid (TxL wr (some ⟨w.heap.size,0,none⟩) l):=fun i hi=>⟨w.heap.size,0,rfl,HK.out.lt,by
    rw[Nat.zero_add,HK.out.cell i,kC _ _ (by rw[List.length_append,List.length_take];omega)];rw[List.getElem_append_left (by rw[List.length_take];omega),List.getElem_take]⟩
   have HLT:=QH HK.out.lt;have bF:=QH hl;clear hl HK;go_wp2_with fail;go_ret;refine⟨_,k,by rw[bF.out];rfl,HT.out,fun b o e=>?_,df.out⟩;simp only[Option.some.injEq,Addr.mk.injEq,and_true]at e;obtain⟨rfl,_⟩:=e;exact⟨Nat.le_refl _,HLT.out⟩
end Go.Proofs.YtdagdllomphidaaGreatDoor.ch.pg
namespace Go.Proofs.YtdagdllomphidaaGreatDoor.vt.pg
open _root_.Go.Proofs.Tryz Go Go.RowKit Go.Sort ib mt im sp
def ep:List Int→List Pl→List Int
 | l,[]=>l
 | l,p::r=>ep (l.set p.1.toNat p.2.1) r
theorem qa9:∀(P:List Pl) (l:List Int) (p:Pl),ep l (P++[p])=(ep l P).set p.1.toNat p.2.1
 | [],_,_=>rfl
 | q::P,l,p=>qa9 P (l.set q.1.toNat q.2.1) p
theorem rM:∀(P:List Pl) (l:List Int),(ep l P).length=l.length
 | [],_=>rfl
 | q::P,l=>by
  show(ep (l.set q.1.toNat q.2.1) P).length=_;rw[rM P,List.length_set]
theorem qbX:∀(x:List (Int × Bt)) (at_:List Int) (l:List Int),ep l (PL x at_)=zB l x at_
 | [],_,_=>by rw[kr];rfl
 | _::_,[],_=>by rw[cN];rfl
 | (k,s)::r,a::at_,l=>by
  rw[jG];exact qbX r at_ (l.set k.toNat a)
def PuR (G:Nat→Prop)(l:List Int)(P:List Pl)(w:World)(s i:Value)(wr:World):Prop :=
 ∃(k:Nat) (A:Option Addr) (c:Nat),k≤P.length∧i=.int .i64 (k:Int)∧s=.slice A l.length c∧aA G wr A (ep l (P.take k)) c∧Below w.heap.size w wr
theorem jn {G:Nat→Prop}{w:World}{A:Option Addr}{c:Nat}{l:List Int}(hl:aA G w A l c)(h1:0<l.length)(que:l.length≤1000){B:Option Addr}{cb:Nat}{P:List Pl}(hP:PlL w B P)(hp:∀p∈P,0≤p.1∧p.1<(l.length:Int)∧0≤p.2.1∧qG p.2.1)(hpl:P.length≤1000)(hG:∀j,w.heap.size≤j→G j) :
    Calls prog 58 #[.slice A l.length c,.slice B P.length cb] w (qjR G (ep l P) w):=by
 have HL:=QH hl;have HP:=QH hP;have HPP:=QH hp;have HG:=QH hG;clear hl hP hp hG;go_enter func58,ntmps58;go_wp2_with fail;go_loopw [0,9] (fun s i wr=>PuR G l P w s i wr) (fun _ i _=>P.length-(intOf i).toNat);case atStart=>exact⟨0,A,c,Nat.zero_le _,rfl,rfl,HL.out,Below.refl _ _⟩
 case round =>
  obtain⟨k,A1,c1,hk,rfl,rfl,hs,hB⟩:=hrel;have HS:=QH hs;have HB:=QH hB;clear hs hB;by_cases hlt:k<P.length
  ·have jW:(k:Int)<(P.length:Int):=by omega
   have hk0:¬ (k:Int)<0:=by omega
   obtain⟨b,o,rfl,s1,s2,s3,s4⟩:=(HP.out.below HB.out) k hlt;obtain⟨p0,p1,p2,p3⟩:=HPP.out _ (List.getElem_mem hlt);have kX:Hid (ep l (P.take (k+1))=(ep l (P.take k)).set P[k].1.toNat P[k].2.1):=by unfold Hid;rw[List.take_succ_eq_append_getElem hlt,qa9]
   obtain⟨x,hx⟩:=QE (P[k]);rw[hx]at s2 s3 s4 p0 p1 p2 p3 kX;clear hx;obtain⟨bk,at_,s⟩:=x;dsimp only at s2 s3 s4 p0 p1 p2 p3 kX;obtain⟨S,hS⟩:=QE (str s);rw[hS]at s4;clear hS;have mD:=rM (P.take k) l;have hw:qc4 (ep l (P.take k)) bk at_=((ep l (P.take k)).set bk.toNat at_,0):=by
    unfold qc4;rw[if_neg (by omega)]
   have kF:=(Below.refl _ wr).alloc (Nat.le_refl _) (.cells #[.int .i64 bk,.int .i64 at_,.string S] 171);have nO:=qg.new wr 171 #[.int .i64 bk,.int .i64 at_,.string S];obtain⟨W2,hW2⟩:=QE (wr.alloc (.cells #[.int .i64 bk,.int .i64 at_,.string S] 171));rw[hW2]at kF nO;have v0:=nO.cell 0;have v1:=nO.cell 1;have hvl:=nO.lt;simp only[QA,QB,QC]at v0 v1;have hwc:=q0Q A1 c1 (ep l (P.take k)) bk at_ W2 (HS.out.at_.below kF) (by omega) (by unfold qG;omega) p3;rw[hw,mD]at hwc;have HWC:=QH hwc;have qC:=QH (qc HB.out kF);have HL1:Hid (((ep l (P.take k)).set bk.toNat at_).length=l.length):=by unfold Hid;rw[List.length_set,mD]
   clear hw hwc kF nO mD p0 p1 p2 p3;go_upto_region 4 with fail;try rw[hW2]
   clear hW2 s1 s2 s3 s4;go_wp2_with fail;refine HWC.out.mono ?_;rintro e W3 ⟨A3,c3,rfl,hn,hb3⟩;have qZ:=QH (qc qC.out hb3);have HN:Hid (aA G W3 A3 ((ep l (P.take k)).set bk.toNat at_) c3):=aA.qvI (w0:=w) hn (fun j h1 h2=>HG.out j (Nat.le_trans qC.out.size h1)) (fun b o s e=>by
    obtain⟨b',o',e',_⟩:=hn.ints 0 (by have:=HL1.out;dsimp only;omega);rw[e]at e';injection e' with e'
    injection e')
   have hlen:=HL1.out;dsimp only;rw[hlen];clear hn hb3 HWC hlen;go_wp2_with fail;go_roundw;case rel=>exact⟨k+1,A3,c3,by omega,by go_num,rfl,by rw[kX.out];exact HN.out,qZ.out⟩
   case measure=>simp[intOf];omega
  ·obtain rfl:k=P.length:=by omega
   have jW:¬ (P.length:Int)<(P.length:Int):=by omega
   have hs:=HS.out;rw[List.take_length]at hs;have HSS:=QH hs;have HLL:=QH (rM P l);clear hs;go_wp2_with fail;go_ret;exact⟨A1,c1,by rw[HLL.out];rfl,HSS.out,HB.out⟩
def RdR (t:Tg)(l:List Int)(g:Nat)(w:World)(i:Value)(wr:World):Prop :=
 ∃k:Nat,k≤l.length∧i=.int .i64 (k:Int)∧qg wr g 9 (ch.pg.xM ((volume t l).take k++List.replicate (l.length-k) []))∧ib.qz (fun j=>j=g) w wr
theorem wT {o1 o2:Nat→Prop}{w:World}{v pd N:Nat}{d:DD}{m:Mt}{lo:Bool}{t:Tg}(h:VP jL w o1 o2 v pd d m lo)(hJ:jr.JJ N t d){A:Option Addr}{c:Nat}{l:List Int}(hl:yQ w A l c)(que:l.length≤1000)(hz:∀z∈l,z=0∨(193≤z∧z<(N:Int))) :
    Calls prog 53 #[pt v,.slice A l.length c] w (ch.kg (volume t l,0) w):=by
 have HV:=QH h;have HL:=QH hl;have HZ:=QH hz;have HJ:=QH hJ;have hb1:=(Below.refl _ w).alloc (Nat.le_refl _) (.cells (ch.pg.xM (List.replicate l.length [])) 9);have zO:=qg.new w 9 (ch.pg.xM (List.replicate l.length []));obtain⟨W1,hW1⟩:=QE (w.alloc (.cells (ch.pg.xM (List.replicate l.length [])) 9));rw[hW1]at hb1 zO;have qV:=QH hb1;have eI:=QH zO;have HVL:Hid ((volume t l).length=l.length):=by unfold Hid volume;rw[List.length_map]
 have qsk:Hid (∀W,Calls prog 100 #[.string ⟨#[0]⟩,.int .i64 32] W fun e w'=>e=.returned (.string (str zb))∧Below W.heap.size W w'):=fun W=>by
  have h:=Tryz.strings_Repeat ⟨#[0]⟩ 32 W (by omega) (by decide);have e:(⟨(Lib.repeatL (⟨#[0]⟩:ByteArray).data.toList 32).toArray⟩:ByteArray)=str zb:=by rfl
  rw[e]at h;exact h
 clear h hl hz hJ hb1 zO;go_enter func53,ntmps53;go_wp2_with (at_make;refine qf rfl (ch.pg.rL _ _ l.length rfl rfl rfl (by omega)) ?_);try rw[hW1]
 clear hW1;go_loopw [16] (fun i wr=>RdR t l w.heap.size W1 i wr) (fun i _=>l.length-(intOf i).toNat);case atStart=>exact⟨0,Nat.zero_le _,rfl,by simpa using eI.out,ib.qz.refl _ _⟩
 case round =>
  obtain⟨k,hk,rfl,yE,hU⟩:=hrel;have yP:=QH yE;have HU:=QH hU;have HB:Hid (Below w.heap.size w wr):=qV.out.trans (hU.below (fun i e=>by rw[e];exact Nat.le_refl _) qV.out.size);clear yE hU;by_cases hlt:k<l.length
  ·have jW:(k:Int)<(l.length:Int):=by omega
   have hk0:¬ (k:Int)<0:=by omega
   obtain⟨b,o,rfl,s1,s2,s3⟩:=HL.out.ints k hlt;have q1:=Nat.lt_of_lt_of_le s1 HB.out.size;have q2:=(HB.out.cell (p:=⟨b,o+k,none⟩) s1).trans s2;have hzz:=HZ.out _ (List.getElem_mem hlt);have hvl:k<(volume t l).length:=by rw[HVL.out];exact hlt
   have HVK:Hid ((volume t l)[k]=eE t l[k]):=by unfold Hid;simp[volume]
   have HTS:=QH (ch.pg.take_set (l:=volume t l) (n:=l.length) HVL.out hlt);obtain⟨z,hz⟩:=QE (l[k]);rw[hz]at q2 hzz HVK;have f1:=yP.out.frozen k;have dx:=yP.out.lt;obtain⟨u,hu⟩:∃u,wr.cell? ⟨w.heap.size,k,none⟩=some u:=by
    rw[yP.out.cell k,ch.pg.kC _ _ (by rw[List.length_append,List.length_take,List.length_replicate,HVL.out];omega)];exact⟨_,rfl⟩
   have HST:Hid (∀W (s:Bt),qg W w.heap.size 9 (ch.pg.xM ((volume t l).take k++List.replicate (l.length-k) []))→ib.qz (fun j=>j=w.heap.size) W1 W→eE t z=s→qg (W.setCell ⟨w.heap.size,k,none⟩ (.string (str s))) w.heap.size 9 (ch.pg.xM ((volume t l).take (k+1)++List.replicate (l.length-(k+1)) []))∧ib.qz (fun j=>j=w.heap.size) W1 (W.setCell ⟨w.heap.size,k,none⟩ (.string (str s)))):=fun W s h1 h2 h3=>by
    refine⟨?_,h2.setCell _ _ (.inl rfl)⟩;have h:=h1.ql k (.string (str s));have e:s=(volume t l)[k]:=by rw[HVK.out];exact h3.symm
    have e2:((volume t l).take k++List.replicate (l.length-k) []).set k s=(volume t l).take (k+1)++List.replicate (l.length-(k+1)) []:=by rw[e];exact HTS.out
    rw[ch.pg.rK,e2]at h;exact h
   clear s1 s2 s3 hz hvl HVK HTS;by_cases h0:z=0
   ·subst h0;have hvz:eE t 0=zb:=by unfold eE;rw[if_pos rfl]
    have HVZ:=QH hvz;clear hvz hzz;go_wp2_with fail;refine(qsk.out wr).mono ?_;rintro e W2 ⟨rfl,hb2⟩;have kh:=QH (yP.out.below hb2);have HU2:Hid (ib.qz (fun j=>j=w.heap.size) W1 W2):=HU.out.trans (S':=fun _=>False) (ib.qz.of_below hb2) (fun _ h=>h.elim);obtain⟨hk3,hu3⟩:=HST.out W2 zb kh.out HU2.out HVZ.out;have l6:=QH hk3;have HU3:=QH hu3;have f1:=kh.out.frozen k;have dx:=kh.out.lt;obtain⟨u,hu⟩:∃u,W2.cell? ⟨w.heap.size,k,none⟩=some u:=by
     rw[kh.out.cell k,ch.pg.kC _ _ (by rw[List.length_append,List.length_take,List.length_replicate,HVL.out];omega)];exact⟨_,rfl⟩
    obtain⟨S,hS⟩:=QE (str zb);rw[hS]at l6 HU3 ⊢;clear hb2 hk3 hu3 HST HVZ hS qsk;go_wp2_with fail;go_roundw;case rel=>exact⟨k+1,by omega,by go_num,l6.out,HU3.out⟩
    case measure=>simp[intOf];omega
   ·have hzr:193≤z∧z<(N:Int):=by
       rcases hzz with h|h
       ·exact absurd h h0
       ·exact h
    have hvz:eE t z=t z:=by unfold eE;rw[if_neg h0]
    have HVZ:=QH hvz;have hV2:=qX HV.out HB.out;obtain⟨p1,p2,p3⟩:=qin hV2;have wM:=lF hV2.dk z;rw[qbN HJ.out z (by omega) hzr.2]at wM;unfold dk.wC at wM;have xF:=QH wM;dsimp only at xF;have hz0:(z == 0)=false:=beq_false_of_ne h0;clear hvz hzz hV2 wM hzr h0;go_wp2_with fail;refine xF.out.mono ?_;rintro e W2 ⟨rfl,hb2⟩;have kh:=QH (yP.out.below hb2);have HU2:Hid (ib.qz (fun j=>j=w.heap.size) W1 W2):=HU.out.trans (S':=fun _=>False) (ib.qz.of_below hb2) (fun _ h=>h.elim);obtain⟨hk3,hu3⟩:=HST.out W2 (t z) kh.out HU2.out HVZ.out;have l6:=QH hk3;have HU3:=QH hu3;have f1:=kh.out.frozen k;have dx:=kh.out.lt;obtain⟨u,hu⟩:∃u,W2.cell? ⟨w.heap.size,k,none⟩=some u:=by
     rw[kh.out.cell k,ch.pg.kC _ _ (by rw[List.length_append,List.length_take,List.length_replicate,HVL.out];omega)];exact⟨_,rfl⟩
    obtain⟨S,hS⟩:=QE (str (t z));rw[hS]at l6 HU3 ⊢;clear hb2 hk3 hu3 HST HVZ hS qsk xF;go_wp2_with fail;go_roundw;case rel=>exact⟨k+1,by omega,by go_num,l6.out,HU3.out⟩
    case measure=>simp[intOf];omega
  ·obtain rfl:k=l.length:=by omega
   have jW:¬ (l.length:Int)<(l.length:Int):=by omega
   have HT:Hid (TxL wr (some ⟨w.heap.size,0,none⟩) (volume t l)):=fun i hi=>⟨w.heap.size,0,rfl,yP.out.lt,by
    have hvl:=HVL.out;rw[Nat.zero_add,yP.out.cell i,ch.pg.kC _ _ (by rw[List.length_append,List.length_take];omega)];rw[List.getElem_append_left (by rw[List.length_take];omega),List.getElem_take]⟩
   have HLT:=QH yP.out.lt;clear yP qsk;go_wp2_with fail;go_ret2;refine⟨_,l.length,by dsimp only;rw[HVL.out];rfl,HT.out,fun b o e=>?_,HB.out⟩;simp only[Option.some.injEq,Addr.mk.injEq,and_true]at e;obtain⟨rfl,_⟩:=e;exact⟨Nat.le_refl _,HLT.out⟩
end Go.Proofs.YtdagdllomphidaaGreatDoor.vt.pg
namespace Go.Proofs.YtdagdllomphidaaGreatDoor.vt.pg
open _root_.Go.Proofs.Tryz Go Go.RowKit ib mt im sp
def eJ (f:Tk)(A:Option Addr)(n c:Nat):Array Value:=#[.int .u64 (f.base.1:Int),.int .u64 (f.base.2:Int),.int .u64 (f.target.1:Int),.int .u64 (f.target.2:Int),.int .i64 f.next,.int .i64 f.all,.slice A n c]
theorem cm {W:World}{g:Nat}{A0 A1 A2 A:Option Addr}{c0 c1 c2 c:Nat}{m:Mt}(t:Tk)(h:qg W g 98 (zq A0 A1 A2 c0 c1 c2 m)):qg (yf W g (.slice A t.qo.length c) t) g 98 (zq A0 A1 A c0 c1 c { m with tok:=t }):=by
 have h9:=((((((h.ql 2 (.int .u64 (t.base.1:Int))).ql 3 (.int .u64 (t.base.2:Int))).ql 4 (.int .u64 (t.target.1:Int))).ql 5 (.int .u64 (t.target.2:Int))).ql 6 (.int .i64 t.next)).ql 7 (.int .i64 t.all)).ql 8 (.slice A t.qo.length c);simp only[zq,List.setIfInBounds_toArray,List.set_cons_succ,List.set_cons_zero]at h9;exact h9
theorem qef{G:Nat→Prop}{W:World}{g:Nat}{v:Value}{t:Tk}(hg:∀j,G j→j≠g):uS G W (yf W g v t):=by
 refine⟨by simp[yf,World.setCell],fun j hj _=>?_⟩;have hn:=hg j hj;unfold yf;rw[qD _ _ _ _ _ hn,qD _ _ _ _ _ hn,qD _ _ _ _ _ hn,qD _ _ _ _ _ hn,qD _ _ _ _ _ hn,qD _ _ _ _ _ hn,qD _ _ _ _ _ hn]
theorem qgQ(w W:World)(g:Nat)(v:Value)(t:Tk)(h:ib.qz (fun j=>j=g) w W):ib.qz (fun j=>j=g) w (yf W g v t) :=
 ((((((h.setCell ⟨g,2,none⟩ _ (.inl rfl)).setCell ⟨g,3,none⟩ _ (.inl rfl)).setCell ⟨g,4,none⟩ _ (.inl rfl)).setCell ⟨g,5,none⟩ _ (.inl rfl)).setCell ⟨g,6,none⟩ _ (.inl rfl)).setCell ⟨g,7,none⟩ _ (.inl rfl)).setCell ⟨g,8,none⟩ _ (.inl rfl)
theorem qbY{W0 W:World}{g:Nat}{v:Value}{t:Tk}(h:Below W0.heap.size W0 W)(hg:W0.heap.size≤g):Below W0.heap.size W0 (yf W g v t) :=
 ((((((h.setCell (p:=⟨g,2,none⟩) hg _).setCell (p:=⟨g,3,none⟩) hg _).setCell (p:=⟨g,4,none⟩) hg _).setCell (p:=⟨g,5,none⟩) hg _).setCell (p:=⟨g,6,none⟩) hg _).setCell (p:=⟨g,7,none⟩) hg _).setCell (p:=⟨g,8,none⟩) hg _
structure TkB(t:Tk):Prop where
 base:xn t.base
 target:xn t.target
 next:qG t.next
 all:qG t.all
theorem qeg{G:Nat→Prop}{W0 w:World}{g pb:Nat}{m:Mt}{t:Tk}{A:Option Addr}{c:Nat}(hb:Below W0.heap.size W0 w)(hg:W0.heap.size≤g)(hN:Nx G w g m)(hp:qg W0 pb 59 (eJ t A t.qo.length c))(hl:yQ W0 A t.qo c)(h1:t.qo.length≤1000)(hB:TkB t)(hG:∀j,W0.heap.size≤j→G j) :
    Calls prog 110 #[pt g,pt pb] w (qjN G g { m with tok:=t } w):=by
 obtain⟨A0,A1,A2,c0,c1,c2,hk,ht⟩:=hN.ex;have hpw:=hp.below hb;have hb2:=qbY (v:=.slice A t.qo.length c) (t:=t) hb hg;have sK:=QH (hp.below hb2);have HC:=QH (gI A c t.qo _ (hl.below hb2) h1);have hk2:=cm (A:=A) (c:=c) t hk;have cu:kN (fun j=>G j∧j≠g) (yf w g (.slice A t.qo.length c) t) A0 A1 A2 c0 c1 c2 m:=ht.stay (qef fun j hj=>hj.2);have kh:=QH hk2;have dW:=QH cu;have qC:=QH (qgQ w w g (.slice A t.qo.length c) t (ib.qz.refl _ w));have HLE:Hid (W0.heap.size≤w.heap.size∧g<w.heap.size∧w.heap.size≤(yf w g (.slice A t.qo.length c) t).heap.size):=⟨hb.size,hk.lt,qC.out.size⟩;have HG:=QH hG;have HZ:=QH (hl.ints.mem);have HTB:=QH hB;have p0:=hpw.cell 0;have p1:=hpw.cell 1;have p2:=hpw.cell 2;have p3:=hpw.cell 3;have p4:=hpw.cell 4;have p5:=hpw.cell 5;have p6:=hpw.cell 6;have k2:=hk.cell 2;have k3:=hk.cell 3;have k4:=hk.cell 4;have k5:=hk.cell 5;have k6:=hk.cell 6;have k7:=hk.cell 7;have k8:=hk.cell 8;have f2:=hk.frozen 2;have f3:=hk.frozen 3;have f4:=hk.frozen 4;have f5:=hk.frozen 5;have f6:=hk.frozen 6;have f7:=hk.frozen 7;have f8:=hk.frozen 8;have dx:=hk.lt;have hpl:=hpw.lt;simp only[zq,eJ,QA,QB,QC]at k2 k3 k4 k5 k6 k7 k8 p0 p1 p2 p3 p4 p5 p6;clear hb hg hN hp hl hG hB hk ht hpw hb2 hk2 cu h1;go_enter func110,ntmps110;go_upto_region 1 with fail;show Code.wp _ _ _ _ (yf w g (.slice A t.qo.length c) t);obtain⟨W1,hW1⟩:=QE (yf w g (.slice A t.qo.length c) t);rw[hW1]at sK HC kh dW qC HLE ⊢;clear hW1 p0 p1 p2 p3 p4 p5 p6 k2 k3 k4 k5 k6 k7 k8 f2 f3 f4 f5 f6 f7 f8 dx hpl;have q6:=sK.out.cell 6;have mL:=sK.out.lt;simp only[eJ,QA,QB,QC]at q6;go_wp2_with fail;refine HC.out.mono ?_;rintro e W2 sN;obtain rfl:=sN.1;have hb3:=sN.2.2;have hk3:=kh.out.below hb3;have hle:=HLE.out;have hs:=sN.sl HZ.out (fun j=>G j∧j≠g) ⟨HG.out _ (by omega),by omega⟩;have ht3:=dW.out.below hb3;have hbb:=HTB.out;have HN2:Hid (Nx G (W2.setCell ⟨g,8,none⟩ (.slice (some ⟨W1.heap.size,0,none⟩) t.qo.length t.qo.length)) g { m with tok:=t }) :=
  ⟨A0,A1,_,c0,c1,_,by have:=hk3.ql 8 (.slice (some ⟨W1.heap.size,0,none⟩) t.qo.length t.qo.length);simpa[zq]using this,(kN.mk (m:={ m with tok:=t }) ht3.live ht3.qa ht3.room hs hbb.base hbb.target hbb.next hbb.all).stay (wN fun j hj=>hj.2)⟩
 have qZ:Hid (ib.qz (fun j=>j=g) w (W2.setCell ⟨g,8,none⟩ (.slice (some ⟨W1.heap.size,0,none⟩) t.qo.length t.qo.length))):=(qC.out.trans (ib.qz.of_below (S:=fun _=>False) hb3) (fun _ h=>h.elim)).setCell _ _ (.inl rfl);have k8:=hk3.cell 8;have f8:=hk3.frozen 8;have dx:=hk3.lt;simp only[zq,QA,QB,QC]at k8;clear sN hb3 hk3 hs ht3 HC kh dW sK qC hle hbb q6 mL;go_wp2_with fail
 go_end0
 exact⟨rfl,HN2.out,qZ.out⟩
theorem vk {G:Nat→Prop}{w:World}{t:Tk}{A:Option Addr}{c:Nat}(hl:yQ w A t.qo c)(h1:t.qo.length≤1000)(hB:TkB t)(hG:∀j,w.heap.size≤j→G j) :
    Calls prog 60 #[.agg (eJ t A t.qo.length c)] w (MkP G (fun m m'=>m'={ m with tok:=t }) w):=by
 have HB:=QH ((Below.refl w.heap.size w).alloc (Nat.le_refl _) (.cells (eJ t A t.qo.length c) 59));have HK:=QH (qg.new w 59 (eJ t A t.qo.length c));have HL:=QH hl;have HG:=QH hG;have HTB:=QH hB;obtain⟨W1,hW1⟩:=QE (w.alloc (.cells (eJ t A t.qo.length c) 59));rw[hW1]at HB HK;unfold eJ at hW1;clear hl hG hB;unfold eJ;go_enter func60,ntmps60;go_wp2_with fail;try rw[hW1]
 go_ret;refine⟨_,rfl,fun m m' hR=>?_,HB.out⟩;subst hR;exact⟨_,_,rfl,fun a W=>by go_simp,fun W g hb hg hN=>qeg hb hg hN HK.out (HL.out.below HB.out) h1 HTB.out (fun j hj=>HG.out j (Nat.le_trans HB.out.size hj))⟩
theorem rN:∀(l:List eB) (i:Nat) (h:i<l.length),(ze l).set (i*4+3) (.bool true)=ze (l.set i ({ l[i].1 with hid:=true },l[i].2))
 | x::l,0,_=>rfl
 | x::l,i+1,h=>by
  have ih:=rN l i (by simpa using h);show(eC x++ze l).set ((i+1)*4+3) (.bool true)=eC x++_;rw[show(i+1)*4+3=(i*4+3)+4 by omega];show eC x++(ze l).set (i*4+3) (.bool true)=_;rw[ih];rfl
theorem qo6(xs:List eB)(i:Nat)(h:i<xs.length):(xs.set i ({ xs[i].1 with hid:=true },xs[i].2)).map (·.1)=xO (xs.map (·.1)) i:=by
 apply List.ext_getElem
 ·simp[xO]
 ·intro j h1 h2;simp only[xO,List.getElem_map,List.getElem_modify,List.getElem_set];by_cases e:i=j
  ·subst e;simp
  ·simp[e]
theorem qgR{G:Nat→Prop}{w:World}{g pb n:Nat}{m:Mt}(hN:Nx G w g m)(hp:w.cell? ⟨pb,0,none⟩=some (.int .i64 (n:Int)))(hpb:pb<w.heap.size)(hpg:pb≠g)(hn:n<m.qa.length)(bR:m.qa.length≤100)(hG:∀j,w.heap.size≤j→G j) :
    Calls prog 122 #[pt g,pt pb] w (qjN G g { m with qa:=xO m.qa n } w):=by
 obtain⟨A0,A1,A2,c0,c1,c2,hk,ht⟩:=hN.ex;have HC:=QH (cZ (c:=c1) ht.qa (by omega) bR);have HK:=QH hk;have HT:=QH ht;have HG:=QH hG;have HP:=QH hp;have HPL:=QH hpb;have HPG:=QH hpg;have k1:=hk.cell 1;have dx:=hk.lt;simp only[zq,QA,QB,QC]at k1;clear hN hk ht hG hp hpb hpg;go_enter func122,ntmps122;go_wp2_with fail;refine HC.out.mono ?_;rintro e W1 ⟨g2,c,xs,cur,rfl,hg2,hk2,cu,hm,hx,hcc,hb⟩;have zO:=HK.out.below hb;have dx:=HK.out.lt;have hne:g2≠g:=by omega
 have dG:xs.length=m.qa.length:=by rw[← hm,List.length_map]
 have hnx:n<xs.length:=by omega
 have hlen:(xO m.qa n).length=m.qa.length:=by unfold xO;rw[List.length_modify]
 have ik:=(zO.ql 1 (.slice (some ⟨g2,0,none⟩) m.qa.length c)).of_block (qD _ g2 (n*4+3) (.bool true) g hne.symm);have qk2:qg (W1.setCell ⟨g,1,none⟩ (.slice (some ⟨g2,0,none⟩) m.qa.length c)) g2 145 cur:=hk2.of_block (qD _ _ _ _ _ hne);have qwE:=qk2.ql (n*4+3) (.bool true);have hpw:(W1.setCell ⟨g,1,none⟩ (.slice (some ⟨g2,0,none⟩) m.qa.length c)).cell? ⟨pb,0,none⟩=some (.int .i64 (n:Int)):=by
  rw[World.cell?_of_block (a:=⟨pb,0,none⟩) (qD _ _ _ _ _ HPG.out)];exact(hb.cell (p:=⟨pb,0,none⟩) HPL.out).trans HP.out
 have xW:ib.qz (fun j=>j=g) w ((W1.setCell ⟨g,1,none⟩ (.slice (some ⟨g2,0,none⟩) m.qa.length c)).setCell ⟨g2,n*4+3,none⟩ (.bool true)) :=
  ((ib.qz.of_below (S:=fun j=>j=g) hb).setCell ⟨g,1,none⟩ _ (.inl rfl)).setCell ⟨g2,n*4+3,none⟩ _ (.inr hg2)
 have hst:uS (fun j=>G j∧j≠g) w ((W1.setCell ⟨g,1,none⟩ (.slice (some ⟨g2,0,none⟩) m.qa.length c)).setCell ⟨g2,n*4+3,none⟩ (.bool true)):=uS.ou xW (fun j hj=>hj.2);have q0W:(cur.setIfInBounds (n*4+3) (.bool true)).toList.take (m.qa.length*4)=ze (xs.set n ({ xs[n].1 with hid:=true },xs[n].2)):=by
  rw[Array.toList_setIfInBounds,List.take_set,cu];exact rN xs n hnx
 have hsn:=iI.qgq (G:=fun j=>G j∧j≠g) ⟨HG.out g2 hg2,hne⟩ qwE.lt (jm qwE q0W) (fun x hx'=>by
  rcases List.mem_or_eq_of_mem_set hx' with h|h
  ·exact(hx x h).stay hst
  ·obtain⟨B,c',h1,h2,h3⟩:=(hx _ (List.getElem_mem hnx)).stay hst;rw[h];exact⟨B,c',h1,h2,h3⟩)
 rw[qo6 xs n hnx,hm]at hsn;have ht3:=HT.out.stay hst;have HN2:Hid (Nx G ((W1.setCell ⟨g,1,none⟩ (.slice (some ⟨g2,0,none⟩) m.qa.length c)).setCell ⟨g2,n*4+3,none⟩ (.bool true)) g { m with qa:=xO m.qa n }) :=
  ⟨A0,some ⟨g2,0,none⟩,A2,c0,c,c2,by simpa[zq,hlen]using ik,kN.mk (m:={ m with qa:=xO m.qa n }) ht3.live hsn ⟨by rw[hlen];exact hcc,fun e=>by cases e⟩ ht3.qo ht3.base ht3.target ht3.next ht3.all⟩
 have qw4:=QH xW;have f1:=zO.frozen 1;have k1:=zO.cell 1;simp only[zq,QA,QB,QC]at k1;have q1:(W1.setCell ⟨g,1,none⟩ (.slice (some ⟨g2,0,none⟩) m.qa.length c)).cell? ⟨g,1,none⟩=some (.slice (some ⟨g2,0,none⟩) m.qa.length c):=by
  rw[(zO.ql 1 (.slice (some ⟨g2,0,none⟩) m.qa.length c)).cell 1];simp[zq]
 have f2:=qk2.frozen (n*4+3);have f22:=qk2.frozen (n*4+2+1);obtain⟨z,hz⟩:∃z,(W1.setCell ⟨g,1,none⟩ (.slice (some ⟨g2,0,none⟩) m.qa.length c)).cell? ⟨g2,n*4+3,none⟩=some z :=
  ⟨_,jm qk2 cu (n*4+3) _ (xD xs n hnx 3 (by omega))⟩
 have hni:(n:Int)<(m.qa.length:Int):=by omega
 have hn0:¬ (n:Int)<0:=by omega
 have q5E:=zO.lt;have zda:=qk2.lt;have hpl:pb<(W1.setCell ⟨g,1,none⟩ (.slice (some ⟨g2,0,none⟩) m.qa.length c)).heap.size:=by
  have:=HPL.out;have:=hb.size;have e:(W1.setCell ⟨g,1,none⟩ (.slice (some ⟨g2,0,none⟩) m.qa.length c)).heap.size=W1.heap.size:=by simp[World.setCell]
  omega
 clear hg2 hk2 cu hm hx hcc hb ik qk2 qwE xW hst q0W hsn ht3 HC HK HT hlen dG hnx zO HG HP HPL HPG;go_wp2_with fail;go_region;go_wp2_with fail
 go_end0
 exact⟨rfl,HN2.out.drew,qw4.out.drew⟩
theorem qk3{G:Nat→Prop}{w:World}(n:Nat)(hG:∀j,w.heap.size≤j→G j):Calls prog 78 #[.int .i64 (n:Int)] w (MkP G (fun m m'=>n<m.qa.length∧m.qa.length≤100∧m'={ m with qa:=xO m.qa n }) w):=by
 have HB:=QH ((Below.refl w.heap.size w).alloc (Nat.le_refl _) (.cells #[.int .i64 (n:Int)] 3));have HG:=QH hG;clear hG;go_enter func78,ntmps78;go_wp2_with fail;go_ret;refine⟨_,rfl,fun m m' hR=>?_,HB.out⟩;obtain⟨hn,bR,rfl⟩:=hR;refine⟨_,_,rfl,fun a W=>by go_simp,fun W g hb hg hN=>?_⟩;have hbb:=qc HB.out hb;have hlt:w.heap.size<(w.alloc (.cells #[.int .i64 (n:Int)] 3)).heap.size:=by simp
 exact qgR hN ((hb.cell (p:=⟨w.heap.size,0,none⟩) hlt).trans (qgu _ _)) (Nat.lt_of_lt_of_le hlt hb.size) (by omega) hn bR (fun j hj=>HG.out j (Nat.le_trans hbb.size hj))
end Go.Proofs.YtdagdllomphidaaGreatDoor.vt.pg
namespace Go.Proofs.YtdagdllomphidaaGreatDoor.jr
open _root_.Go.Proofs.Tryz Go Go.RowKit dk wi
theorem gS {w w':World}{a:Option Addr}{bs:List (List Wr)}(h:qdO w a bs)(hb:Below w.heap.size w w'):qdO w' a bs:=fun i hi=>by
 obtain⟨b,o,A,c,h1,h2,h3,h4⟩:=h i hi;exact⟨b,o,A,c,h1,Nat.lt_of_lt_of_le h2 hb.size,by rw[hb.cell (p:=⟨b,o+i,none⟩) h2];exact h3,h4.below hb (Nat.le_refl _)⟩
theorem qgS{W:World}{A2 A5 A:Option Addr}{r c2 c5 cl n:Nat}{ly l1 l:List Wr}(h1:ly.length=r)(h2:l1.length=n)(k1:vd W A2 ly)(k2:vd W A5 l1)(k3:vd W A l) :
    qdO (W.alloc (.cells #[.slice A2 r c2,.slice A5 n c5,.slice A l.length cl] 136)) (some ⟨W.heap.size,0,none⟩) [ly,l1,l]:=by
 subst h1 h2;have hB:=qg.new W 136 #[.slice A2 ly.length c2,.slice A5 l1.length c5,.slice A l.length cl];have hb:=(Below.refl W.heap.size W).alloc (Nat.le_refl _) (.cells #[.slice A2 ly.length c2,.slice A5 l1.length c5,.slice A l.length cl] 136);intro i hi
 match i,hi with
 | 0,_=>exact⟨W.heap.size,0,A2,c2,rfl,by simp,hB.cell 0,k1.below hb (Nat.le_refl _)⟩
 | 1,_=>exact⟨W.heap.size,0,A5,c5,rfl,by simp,hB.cell 1,k2.below hb (Nat.le_refl _)⟩
 | 2,_=>exact⟨W.heap.size,0,A,cl,rfl,by simp,hB.cell 2,k3.below hb (Nat.le_refl _)⟩
 | i+3,h=>exact absurd h (by simp only[List.length_cons,List.length_nil];omega)
def et (a r:Nat)(A8:Option Addr)(c8:Nat)(S:ByteArray)(A:Option Addr)(cl:Nat)(l:List Wr)(ly:List Wr)(hd:Bt):Nat→Value→World→Prop
 | 0,v,_=>v=.agg #[.int .i64 ((1-a:Nat):Int),.int .i64 (r:Int)]
 | 1,v,_=>v=.slice A8 r c8
 | 2,v,W=>∃A2 c2,v=.slice A2 r c2∧vd W A2 ly
 | 3,v,_=>v=.agg #[.int .i64 ((1-a:Nat):Int),.int .i64 (r:Int)]
 | 4,v,_=>v=.agg #[.int .i64 0,.string S]
 | 5,v,W=>∃A2 c2,v=.slice A2 1 c2∧vd W A2 [(0,hd)]
 | 6,v,_=>v=.slice A l.length cl
 | 7,v,W=>∃b,v=.slice (some ⟨b,0,none⟩) 3 3∧qdO W (some ⟨b,0,none⟩) [ly,[(0,hd)],l]
 | 8,v,W=>∃b,v=.slice (some ⟨b,0,none⟩) 3 3∧qdO W (some ⟨b,0,none⟩) [ly,[(0,hd)],l]
 | _,_,_=>True
theorem qk4{a r:Nat}{A8:Option Addr}{c8:Nat}{S:ByteArray}{A:Option Addr}{cl:Nat}{l ly:List Wr}{hd:Bt}(i:Nat)(v:Value)(w w':World)(hi:i<9)(h:et a r A8 c8 S A cl l ly hd i v w)(hb:Below w.heap.size w w'):et a r A8 c8 S A cl l ly hd i v w':=by
 match i,hi,h with
 | 0,_,h | 1,_,h | 3,_,h | 4,_,h | 6,_,h=>exact h
 | 2,_,⟨A2,c2,h1,h2⟩=>exact⟨A2,c2,h1,h2.below hb (Nat.le_refl _)⟩
 | 5,_,⟨A2,c2,h1,h2⟩=>exact⟨A2,c2,h1,h2.below hb (Nat.le_refl _)⟩
 | 7,_,⟨b,h1,h2⟩=>exact⟨b,h1,gS h2 hb⟩
 | 8,_,⟨b,h1,h2⟩=>exact⟨b,h1,gS h2 hb⟩
 | j+9,hi,_=>exact absurd hi (by omega)
theorem qbZ(x y z:List Wr):(qH [x,y,z]).length=x.length+y.length+z.length+3:=by simp[qH,jZ];omega
section
variable {most:Nat} {w:World} {own:Nat→Prop} {p:Nat} {d:DD}
theorem il (HW:qok)(HR:qol)(h:zA most w own p d)(hn:145<d.n)(A:Option Addr)(cl:Nat)(l:List Wr)(hwl:vd w A l)(mD:l.length≤1000000)(ht:xL w)(hm:d.more.length+150≤most)(yZ:most≤100000) :
    Calls prog 107 #[.pointer (some ⟨p,0,none⟩),.slice A l.length cl] w (xh most own p (xf d l).2 (.int .i64 (xf d l).1) w):=by
 have HD:=QH h;have HP:=QH (bA h);have my:=QH (qdU h A cl l hwl mD);have hpl:p<w.heap.size:=by obtain⟨_,_,_,hd⟩:=h;exact hd.1.lt
 have q65:d.n≤1024:=h.1.n1;have HT:=QH ht;have hg:=ht.1;have HH:=QH HR;have HHW:=QH HW;have q0X:=QH hwl;clear ht HR HW h hwl;obtain⟨R,hR⟩:=QE (xf d l);rw[hR];unfold xf at hR;cases zS:d.on with
 | false =>
  rw[zS]at HP;rw[if_pos zS]at hR;subst hR;go_enter func107,ntmps107;go_wp2_with (go_at_call 83;refine HP.out.mono ?_;rintro e w' ⟨rfl,rfl⟩);go_ret;exact xA HD.out (Below.refl _ _)
 | true =>
 rw[zS]at HP;rw[if_neg (by rw[zS];simp)]at hR;by_cases hl0:l.length=0
 ·rw[if_pos hl0]at hR;subst hR;have hl0':((l.length:Int) == 0)=true:=by simp[hl0]
  go_enter func107,ntmps107;go_wp2_with (go_at_call 83;refine HP.out.mono ?_;rintro e w' ⟨rfl,rfl⟩);go_ret;exact xA HD.out (Below.refl _ _)
 rw[if_neg hl0]at hR;have hl0':((l.length:Int) == 0)=false:=by simp only[beq_eq_false_iff_ne,ne_eq];omega
 by_cases qwz:60<l.length
 ·rw[if_pos qwz]at hR;subst hR;have q0Y:(60:Int)<(l.length:Int):=by omega
  go_enter func107,ntmps107;go_wp2_with (go_at_call 83;refine HP.out.mono ?_;rintro e w' ⟨rfl,rfl⟩);go_ret;exact xA HD.out (Below.refl _ _)
 rw[if_neg qwz]at hR;have q0Y:¬ (60:Int)<(l.length:Int):=by omega
 cases hps:vU d.n l with
 | false =>
  rw[hps]at my;rw[if_pos hps]at hR;subst hR;go_enter func107,ntmps107;go_wp2_with (go_at_call 83;refine HP.out.mono ?_;rintro e w' ⟨rfl,rfl⟩);refine my.out.mono ?_;rintro e W1 ⟨rfl,b1⟩;go_wp2_with fail;go_ret;exact xA HD.out b1
 | true =>
 rw[hps]at my;rw[if_neg (by rw[hps];simp)]at hR;have hall:=aq hps;have hsm:∀x∈l,x.1<65536∧x.2.length=32:=fun x hx=>by have:=hall x hx;exact⟨by omega,this.2.2⟩
 obtain⟨s1,s72⟩:=cE l (by omega) hsm;have qzH:=gF l (by omega) hsm;have iD:=QH hR;have HON:=QH zS;have q0Z:=QH hall;clear hR zS hps hall hsm;go_enter func107,ntmps107;go_wp2_with (go_at_call 83;refine HP.out.mono ?_;rintro e w' ⟨rfl,rfl⟩);refine my.out.mono ?_;rintro e W1 ⟨rfl,b1⟩;have qV:=QH b1;clear b1 my;go_wp2_with fail;refine(HH.out most W1 own p d (HD.out.below qV.out) HON.out (by omega)).mono ?_;intro e W2 yc;obtain⟨b2,⟨a,c,hq,rfl⟩|⟨hq,x,y,rfl⟩⟩:=vg yc;rotate_left
 ·have vw:=iD.out;rw[hq]at vw;dsimp only at vw;subst vw;have qC:=QH (qc qV.out b2);clear yc b2 hq iD;go_wp2_with fail;go_ret;exact xA HD.out (zF qC.out _)
 have vw:=iD.out;rw[hq]at vw;dsimp only at vw;obtain⟨ha,hc,_⟩:=uv hq;rw[if_neg (by omega)]at vw;have qC:=QH (qc qV.out b2);clear b2 yc hq iD;have iD:=QH vw;clear vw;have vn:qg (W2.alloc (.cells #[.int .i64 (a:Int),.int .i64 (c:Int)] 149)) W2.heap.size _ _:=qg.new W2 _ _;have HK6:=QH vn;have qZ:=QH (zF qC.out (.cells #[.int .i64 (a:Int),.int .i64 (c:Int)] 149));clear vn;go_wp2_with fail;refine(jn A cl l _ (q0X.out.below qZ.out (Nat.le_refl _)) (by omega) (fun x hx=>by have:=q0Z.out x hx;exact⟨by omega,this.2.2⟩)).mono ?_;rintro e W4 ⟨rfl,b4⟩;have x9:=QH (qc qZ.out b4);have qwF:Hid (qg W4 W2.heap.size _ _):=HK6.out.of_block (b4.block _ HK6.out.lt);clear b4 HK6;go_wp2_with fail;refine(fR (str (zj l)) W4 (by rw[qT];omega) (HT.out.below x9.out hg)).mono ?_;rintro e W5 ⟨v8,rfl,hos,b5⟩;rw[zh]at hos;obtain⟨A8,c8,rfl,_,_,hsa,_,_⟩:=hos.view;have HSA:=QH hsa;have jX:=QH (qc x9.out b5);have vn:qg W5 W2.heap.size _ _:=qwF.out.of_block (b5.block _ qwF.out.lt);clear hos hsa b5 qwF;have q1a:=QH (zg (qP (zj l)) (1+(1-a)*72));have hb8:yT a l=[lay (1-a) (qP (zj l)),[(0,kW (1-a) (qP (zj l)).length)],l]:=rfl;rw[hb8]at iD;clear hb8;have quf:=QH (fun(W:World) (hsw:ja W A8 (qP (zj l)))=>uk (1-a) (qP (zj l)).length (by omega) A8 c8 (qP (zj l)) W hsw (by omega));have hly:(lay (1-a) (qP (zj l))).length=(qP (zj l)).length:=q1a.out;have q1b:∀x∈lay (1-a) (qP (zj l)),qG x.1:=fun x hx=>by
  obtain⟨i,g1,g2,_⟩:=jE _ _ _ hx;unfold qG;have:(1-a)*72≤72:=by omega
  omega
 have q1c:=QH q1b;have qwG:=QH (fun(W:World)=>HHW.out (1-a) (qP (zj l)).length W (by omega) s72);clear q1b q1a HHW;have HHL:=QH (uP (show 1-a<2 by omega) s72).1;generalize lay (1-a) (qP (zj l))=ly at *;generalize kW (1-a) (qP (zj l)).length=hd at *;generalize hrr:(qP (zj l)).length=r at *;have HLY:=QH hly;have q60:=vn.cell 0;have lt6:=vn.lt;have qdt:(1:Int)-(a:Int)=((1-a:Nat):Int):=by omega
 have zdd:(r:Int)≤72:=by omega
 have hrw:¬ (72:Int)<(r:Int):=by omega
 have q66:=QH qdt;clear hly vn qdt;go_wp2_with fail;have hhl:hd.length=32:=HHL.out;obtain⟨w0,hw0⟩:=QE (W5.alloc (.cells #[.int .i64 (1-(a:Int)),.int .i64 (r:Int)] 149));have qk5:qg w0 W5.heap.size 149 #[.int .i64 (1-(a:Int)),.int .i64 (r:Int)]:=by rw[← hw0];exact qg.new W5 _ _
 rw[q66.out]at qk5;have qwI:Below W5.heap.size W5 w0:=by rw[← hw0];exact(Below.refl W5.heap.size W5).alloc (Nat.le_refl _) _
 rw[hw0];have xz:=QH (qc jX.out qwI);have q1e:=QH qk5;obtain⟨S,hS⟩:=QE (str hd);rw[hS]at qwG;have HSS:=QH hS;have HWR:=qwG;have qrj:∀W,Below w0.heap.size w0 W→Calls prog 166 #[.agg #[.int .i64 ((1-a:Nat):Int),.int .i64 (r:Int)],.slice A8 r c8] W fun e W'=>∃A2 c2,e=.returned (.slice A2 r c2)∧vd W' A2 ly∧Below W.heap.size W W':=fun W hb=>by
  refine(quf.out W ((HSA.out.below qwI (Nat.le_refl _)).below hb (Nat.le_refl _))).mono ?_;rintro e W' ⟨v,rfl,ho,hb'⟩;obtain⟨A2,c2,rfl,hw2⟩:=ho.view q1c.out;exact⟨A2,c2,by rw[HLY.out],hw2,hb'⟩
 have qo7:=QH qrj;have q1f:∀W,Below w0.heap.size w0 W→vd W A l:=fun W hb=>q0X.out.below (qc xz.out hb) (Nat.le_refl _);have HWL:=QH q1f;clear hw0 qk5 qwI hS qwG quf qrj q1f q60 lt6 hhl;generalize q67:W5.heap.size=g10 at *;clear q67;refine jg (by kernel_rfl) [55,56,57,58,59,60,61,62,11] (by kernel_rfl) (fun L vs W=>Below w0.heap.size w0 W∧∀i,L i=true→i<9→et a r A8 c8 S A cl l ly hd i (vs i) W) ⟨(Below.refl w0.heap.size w0).drew,fun i hi=>by cases hi⟩ ?_ ?_ ?_
 ·intro i o L vs ρ W ho oy qK hρ hgd hI;obtain⟨hb,bN⟩:=hI;have hG:∀j,L j=true→et a r A8 c8 S A cl l ly hd j (vs j) W:=fun j hj=>by
   by_cases h9:j<9
   ·exact bN j hj h9
   ·match j,h9 with
    | j+9,_=>exact trivial
  have hi9:i<9:=(Array.getElem?_eq_some_iff.1 ho).1;have hc:=hρ.const;have hfn:=hρ.fn;have next:∀v W',Below W.heap.size W W'→et a r A8 c8 S A cl l ly hd i v W'→Below w0.heap.size w0 W'∧∀j,zu L i j=true→j<9→et a r A8 c8 S A cl l ly hd j (xy vs i v j) W':=fun v W' h1 h2=>by
   refine⟨qc hb h1,fun j hj h9=>?_⟩;by_cases gp:j=i
   ·subst gp;simpa[xy]using h2
   ·simp only[zu,if_neg gp]at hj;simpa[xy,gp]using qk4 j _ W W' h9 (bN j hj h9) h1
  have hK:qg W g10 _ _:=q1e.out.of_block (hb.block _ q1e.out.lt);have q0:=hK.cell 0;have q1:=hK.cell 1;have zdg:=hK.lt;clear hK;rcases i with _|_|_|_|_|_|_|_|_|i;all_goals (first|omega|skip)
  all_goals simp only[QA,QB,QC,Option.some.injEq]at ho
  all_goals subst ho
  ·have o10:ρ (.tmp 10)=.pointer (some ⟨g10,0,none⟩):=hρ.out 10 rfl;exact q9 (w':=W) (by unfold execOp;simp only[o10];go_simp) (next _ _ (Below.refl _ _) rfl)
  ·have o8:ρ (.tmp 8)=.slice A8 r c8:=hρ.out 8 rfl;exact q9 (w':=W) (by unfold execOp;simp only[o8];go_simp) (next _ _ (Below.refl _ _) rfl)
  ·have g55:et a r A8 c8 S A cl l ly hd 0 (vs 0) W:=hG 0 (qK 0 (by kernel_rfl));have s55:ρ (.tmp 55)=.agg #[.int .i64 ((1-a:Nat):Int),.int .i64 (r:Int)]:=(hρ.at_ 55 0 rfl).trans g55;have g56:et a r A8 c8 S A cl l ly hd 1 (vs 1) W:=hG 1 (qK 1 (by kernel_rfl));have s56:ρ (.tmp 56)=.slice A8 r c8:=(hρ.at_ 56 1 rfl).trans g56;refine qj (f:=166) (args:=#[.agg #[.int .i64 ((1-a:Nat):Int),.int .i64 (r:Int)],.slice A8 r c8]) (w':=W) (by unfold execOp;simp only[hfn,s55,s56];go_simp) ((qo7.out W hb).mono ?_);rintro x W' ⟨A2,c2,rfl,hw2,hb'⟩;exact⟨_,rfl,next _ _ hb' ⟨A2,c2,rfl,hw2⟩⟩
  ·have o10:ρ (.tmp 10)=.pointer (some ⟨g10,0,none⟩):=hρ.out 10 rfl;exact q9 (w':=W) (by unfold execOp;simp only[o10];go_simp) (next _ _ (Below.refl _ _) rfl)
  ·have g58:et a r A8 c8 S A cl l ly hd 3 (vs 3) W:=hG 3 (qK 3 (by kernel_rfl));have s58:ρ (.tmp 58)=.agg #[.int .i64 ((1-a:Nat):Int),.int .i64 (r:Int)]:=(hρ.at_ 58 3 rfl).trans g58;refine qj (f:=128) (args:=#[.agg #[.int .i64 ((1-a:Nat):Int),.int .i64 (r:Int)]]) (w':=W) (by unfold execOp;simp only[hfn,s58];go_simp) ((HWR.out W).mono ?_);rintro x W' ⟨rfl,hb'⟩;exact⟨_,rfl,next _ _ hb' rfl⟩
  ·have g59:et a r A8 c8 S A cl l ly hd 4 (vs 4) W:=hG 4 (qK 4 (by kernel_rfl));have s59:ρ (.tmp 59)=.agg #[.int .i64 0,.string S]:=(hρ.at_ 59 4 rfl).trans g59;exact q9 (v:=.slice (some ⟨W.heap.size,0,none⟩) 1 1) (w':=W.alloc (.cells #[.int .i64 0,.string S] 182)) (by unfold execOp;simp only[s59];go_simp) (next _ _ ((Below.refl _ _).alloc (Nat.le_refl _) _) ⟨_,1,rfl,by rw[← HSS.out];exact qdW 0 hd (by unfold qG;omega)⟩)
  ·have o1:ρ (.tmp 1)=.slice A l.length cl:=hρ.out 1 rfl;exact q9 (w':=W) (by unfold execOp;simp only[o1];go_simp) (next _ _ (Below.refl _ _) rfl)
  ·obtain⟨A2,c2,g57,hw2⟩:et a r A8 c8 S A cl l ly hd 2 (vs 2) W:=hG 2 (qK 2 (by kernel_rfl));have s57:ρ (.tmp 57)=.slice A2 r c2:=(hρ.at_ 57 2 rfl).trans g57;obtain⟨A5,c5,g60,hw5⟩:et a r A8 c8 S A cl l ly hd 5 (vs 5) W:=hG 5 (qK 5 (by kernel_rfl));have s60:ρ (.tmp 60)=.slice A5 1 c5:=(hρ.at_ 60 5 rfl).trans g60;have g61:et a r A8 c8 S A cl l ly hd 6 (vs 6) W:=hG 6 (qK 6 (by kernel_rfl));have s61:ρ (.tmp 61)=.slice A l.length cl:=(hρ.at_ 61 6 rfl).trans g61;exact q9 (v:=.slice (some ⟨W.heap.size,0,none⟩) 3 3) (w':=W.alloc (.cells #[.slice A2 r c2,.slice A5 1 c5,.slice A l.length cl] 136)) (by unfold execOp;simp only[s57,s60,s61];go_simp) (next _ _ ((Below.refl _ _).alloc (Nat.le_refl _) _) ⟨_,rfl,qgS HLY.out rfl hw2 hw5 (HWL.out W hb)⟩)
  ·obtain⟨b,g62,q6D⟩:et a r A8 c8 S A cl l ly hd 7 (vs 7) W:=hG 7 (qK 7 (by kernel_rfl));have s62:ρ (.tmp 62)=.slice (some ⟨b,0,none⟩) 3 3:=(hρ.at_ 62 7 rfl).trans g62;exact q9 (w':=W) (by unfold execOp;simp only[s62];go_simp) (next _ _ (Below.refl _ _) ⟨b,rfl,q6D⟩)
 ·intro i o L vs W j want ho oy qK hg hv hI;have hi9:i<9:=(Array.getElem?_eq_some_iff.1 ho).1;rcases i with _|_|_|_|_|_|_|_|_|i;all_goals (first|omega|skip)
  all_goals simp only[QA,QB,QC,Option.some.injEq]at ho
  all_goals subst ho
  all_goals simp only[reduceCtorEq]at hg
 intro vs W9 hI;obtain⟨b9,hG⟩:=hI;obtain⟨b,g8,hbs⟩:et a r A8 c8 S A cl l ly hd 8 (vs 8) W9:=hG 8 (by decide) (by decide);have HB9:=QH (xz.out.trans (b9.mono xz.out.size));have HBS:=QH hbs;simp only[za,qN,if_true];rw[g8];generalize vs 0=x0 at *;generalize vs 1=x1 at *;generalize vs 2=x2 at *;generalize vs 3=x3 at *;generalize vs 4=x4 at *;generalize vs 5=x5 at *;generalize vs 6=x6 at *;generalize vs 7=x7 at *;clear hG g8 b9 hbs;go_wp2_with fail;have hbl:∀m∈[ly,[(0,hd)],l],m.length≤1000:=fun m hm2=>by
  simp only[List.mem_cons,List.not_mem_nil,or_false]at hm2;rcases hm2 with rfl|rfl|rfl
  ·rw[HLY.out];omega
  ·simp
  ·omega
 have HBL:=QH hbl;clear hbl;refine(uH (some ⟨b,0,none⟩) 3 [ly,[(0,hd)],l] W9 HBS.out (by simp) HBL.out).mono ?_;rintro e W10 ⟨v10,rfl,q1h,b10⟩;obtain⟨A10,c10,rfl,hints⟩:=q1h.view (fun z hz=>by
  simp only[placesOf,List.flatten_cons,List.flatten_nil,List.map_append,List.mem_append,List.mem_map,List.map_nil,List.not_mem_nil,or_false]at hz;rcases hz with⟨x,hx,rfl⟩|⟨x,hx,rfl⟩|⟨x,hx,rfl⟩
  ·exact q1c.out x hx
  ·obtain rfl:x=_:=by simpa using hx
   unfold qG;dsimp only;omega
  ·have:=q0Z.out x hx;unfold qG;omega)
 have HI:=QH hints;have qgT:=QH (qc HB9.out b10);have quh:=QH (gS HBS.out b10);have hzl:=gO [ly,[(0,hd)],l] HBL.out;simp only[List.length_cons,List.length_nil]at hzl;clear q1h hints b10 HBS;go_wp2_with fail;refine(fu (HD.out.below qgT.out) A10 c10 _ HI.out (by omega)).mono ?_;rintro e W11 ⟨rfl,b11⟩;have qgU:=QH (qc qgT.out b11);have q1i:=QH (gS quh.out b11);clear b11 quh;cases qnh:d.fits (placesOf [ly,[(0,hd)],l])with
 | false =>
  have vw:=iD.out;rw[if_pos qnh]at vw;subst vw;go_wp2_with fail;go_ret;exact xA HD.out qgU.out
 | true =>
  have vw:=iD.out;rw[if_neg (by rw[qnh];simp)]at vw;have q6H:=QH vw;clear vw iD;go_wp2_with fail;refine(aG p _ 3 [ly,[(0,hd)],l] _ (Nat.lt_of_lt_of_le hpl qgU.out.size) q1i.out (by simp) HBL.out).mono ?_;rintro e W12 ⟨v,rfl,hgg⟩;have HG:=QH hgg;clear hgg;go_wp2_with fail;refine(lD (HD.out.below qgU.out) HG.out (by rw[qbZ,HLY.out];simp;omega) yZ).mono ?_;rintro e W13 yc;have HPO:=QH (xh.from yc qgU.out HD.out.low);obtain⟨rfl,_⟩:=yc;rw[q6H.out]at HPO ⊢;go_wp2_with fail;go_ret;exact HPO.out
end
end Go.Proofs.YtdagdllomphidaaGreatDoor.jr
