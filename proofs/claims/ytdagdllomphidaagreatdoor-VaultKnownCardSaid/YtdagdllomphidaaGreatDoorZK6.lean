/- DkWake, DkZero, DkIn, DkNil, DkInG, WiText, FUnpack, WiPutT, JMem, JSteps, JRunW, JPlaces, JLay, VgWr, VgDel, VgShelf, WiEnd. -/
import Derived.Test.YtdagdllomphidaaGreatDoorZK5
import Derived.RegionTactic
import Derived.BigRegion
import Derived.Shelf.Strings.Trim
set_option linter.unusedVariables false
set_option linter.unusedSimpArgs false
set_option maxHeartbeats 30000000
set_option maxRecDepth 100000
namespace Go.Proofs.YtdagdllomphidaaGreatDoor.dk
open _root_.Go.Proofs.Tryz Go Go.RowKit Go.Shelf
attribute [local go_sem] Oper.semAt_some
def qfo (w:World)(a:Option Addr)(bs:List Bool):Prop :=
 ∀i (h:i<bs.length),∃b o,a=some ⟨b,o,none⟩∧b<w.heap.size∧w.cell? ⟨b,o+i,none⟩=some (.bool bs[i])
theorem lift{α:Type}{P:α→Prop}(l:List α)(h:∀x∈l,P x):∃L:List { x // P x },L.map (·.1)=l :=
 ⟨l.attachWith P h,by simp[List.attachWith,List.map_pmap]⟩
theorem qkO:∀(l:List (Nat × Bt)) (s:qA),(∀x∈l,x.1<s.length∧x.2.length=32)→(∀v,some v∈s→v.length=32)→∀x∈yN s l,x.1<s.length∧x.2.1.length=32∧x.2.2.1.length=32
 | [],_,_,_,x,hx=>by simp[yN]at hx
 | (k,v)::r,s,h,hs,x,hx=>by
  simp only[yN,List.mem_cons]at hx;have h0:=h (k,v) (by simp);rcases hx with rfl|hx
  ·refine⟨h0.1,h0.2,?_⟩;show((look s (k:Int)).getD zz).length=32;cases hl:look s (k:Int)with
   | none=>exact qI
   | some u=>exact hs u (qaE hl)
  ·have hl:(put s k v).length=s.length:=by simp[put]
   have:=qkO r (put s k v) (fun y hy=>by rw[hl];exact h y (by simp[hy])) (fun u hu=>by
    rcases mem_set hu with h' | h'
    ·exact hs u h'
    ·injection h' with h';subst h';exact h0.2) x hx
   rw[hl]at this;exact this
theorem qom(t:Array Value)(a b:Value):Array.foldl (fun t (x:Tmp × Value)=>t.setIfInBounds x.fst x.snd) t (#[29,30].zip #[a,b])=(t.setIfInBounds 29 a).setIfInBounds 30 b:=by simp
theorem vu {n:Nat}:∀(pre:List (Nat × Wr n)) (s:qA),(pre.foldl (fun s y=>oa s y.2.1) s).length=s.length
 | [],_=>rfl
 | y::pre,s=>by
  rw[List.foldl_cons,vu pre];unfold oa put;split <;> simp
theorem qkP{n:Nat}(base:qA)(more:List (Nat × Bt))(L:List (Wr n))(hL:L.map (fun x=>x.1)=yN base more):(gX L).foldl (fun s y=>oa s y.2.1) (qK base more)=base:=by
 have hlen:L.length=more.length:=by rw[← jc more base,← hL,List.length_map]
 have key:∀r,r≤L.length→((gX L).take r).foldl (fun s y=>oa s y.2.1) (qK base more)=qK base (more.take (more.length-r)):=by
  intro r
  induction r with
  | zero=>intro _;simp
  | succ r ih =>
   intro h;have hr:r<L.length:=by omega
   have hj:L.length-1-r<more.length:=by omega
   rw[List.take_add_one,pU L r hr,Option.toList_some,List.foldl_append,ih (by omega)];simp only[List.foldl_cons,List.foldl_nil];have hx:(yN base more)[L.length-1-r]?=some (L[L.length-1-r]'(by omega)).1:=by
    rw[← hL,List.getElem?_map,List.getElem?_eq_getElem (by omega)];rfl
   have:=qgB more base (L.length-1-r) hj _ hx;rw[show more.length-r=L.length-1-r+1 by omega,this,show more.length-(r+1)=L.length-1-r by omega]
 have:=key L.length (Nat.le_refl _);rw[List.take_of_length_le (by rw[vW];exact Nat.le_refl _),hlen,Nat.sub_self]at this;simpa[qK]using this
section
variable {w:World} {p m:Nat} {v:Value} {d:DD} {own:Nat→Prop}
theorem qkQ{most:Nat}(h:zj most w own p d)(yF:most≤100000)(zK:d.on=false)(A:Option Addr)(c:Nat)(bs:List Bool)(hb:qfo w A bs)(hbo:∀b o,A=some ⟨b,o,none⟩→0<bs.length→¬ own b) :
    Calls prog 21 #[.pointer (some ⟨p,0,none⟩),.slice A bs.length c] w (xd most own p (d.bK bs) (.tuple #[]) w):=by
 have H:=QH h;have hl:=h.low;obtain⟨h0,m,v,h1⟩:=h;obtain⟨c0,c1,c2,c3,c4,c5⟩:=ju h1.1;rw[zK]at c4;have hp:=h1.1.lt;have hm:=h1.2.1.lt;have f3:=h1.1.frozen 3;have f4:=h1.1.frozen 4;have HL:=QH hl;have H0:=QH h0;have H1:=QH h1;have HB:=QH hb;have HON:=QH zK;obtain⟨Av,cv,hv⟩:=xV h1.2.2.1;subst hv;clear h0 h1 zK hl hb;refine(callsIn_wide (n:=9)).1 (callsIn_of_wp_marks func21 rfl trivial ?_ rfl);refine wpIn_wide.2 ?_;simp only[ntmps21,List.size_toArray,List.length_cons,List.length_nil,Nat.reduceAdd,Nat.reduceSub,Array.replicate_succ,Array.replicate_zero,List.push_toArray,List.append_toArray,List.nil_append,List.cons_append];go_wp2_with fail;go_region;have HBO:=QH hbo;have hne:=H1.out.ne;have rS:=QH hne;have HP1:Hid (qg (((w.setCell ⟨p,4,none⟩ (.bool true)).setCell ⟨p,3,none⟩ (.slice none 0 0)).alloc (.cells #[.pointer (some ⟨p,0,none⟩)] 24)).drew p 107 #[.int .i64 (d.n:Int),.int .i64 d.room,.map (some m),.slice none 0 0,.bool true,.int .i64 d.qi]) :=
  ((H1.out.1.qo 4 (.bool true)).qo 3 (.slice none 0 0)).of_block (Below.heap_alloc _ _ _ (by simp[size_set];omega))
 have cE:∀j,j<w.heap.size→j≠p→(((w.setCell ⟨p,4,none⟩ (.bool true)).setCell ⟨p,3,none⟩ (.slice none 0 0)).alloc (.cells #[.pointer (some ⟨p,0,none⟩)] 24)).drew.heap[j]?=w.heap[j]? :=fun j hj hn =>
  ((Below.heap_alloc _ _ j (by simp[size_set];omega)).trans (zV _ _ _ _ _ hn)).trans (zV _ _ _ _ _ hn)
 have HM1:Hid (zA (((w.setCell ⟨p,4,none⟩ (.bool true)).setCell ⟨p,3,none⟩ (.slice none 0 0)).alloc (.cells #[.pointer (some ⟨p,0,none⟩)] 24)).drew m d.now):=H1.out.2.1.of_block (cE m hm (fun e=>hne.1 e.symm));have sT:Hid ((((w.setCell ⟨p,4,none⟩ (.bool true)).setCell ⟨p,3,none⟩ (.slice none 0 0)).alloc (.cells #[.pointer (some ⟨p,0,none⟩)] 24)).drew.ownsRow 0 125 66 (.slice Av d.more.length cv) d.more.length (yC (yN d.base d.more))) :=
  ze H1.out.2.2.1 (fun j hj=>cE j (jk H1.out.2.2.1 j hj) (hne.2 j hj).1)
 have HX1:Hid (qg (((w.setCell ⟨p,4,none⟩ (.bool true)).setCell ⟨p,3,none⟩ (.slice none 0 0)).alloc (.cells #[.pointer (some ⟨p,0,none⟩)] 24)).drew w.heap.size 24 #[.pointer (some ⟨p,0,none⟩)]):=by
  have:=heap_alloc_new ((w.setCell ⟨p,4,none⟩ (.bool true)).setCell ⟨p,3,none⟩ (.slice none 0 0)) (.cells #[.pointer (some ⟨p,0,none⟩)] 24)
  rwa [size_set,size_set]at this
 have qqd:Hid (qB own w (((w.setCell ⟨p,4,none⟩ (.bool true)).setCell ⟨p,3,none⟩ (.slice none 0 0)).alloc (.cells #[.pointer (some ⟨p,0,none⟩)] 24)).drew) :=
  ((((qB.refl _ _).setCell _ _ (.inl H1.out.2.2.2.1)).setCell _ _ (.inl H1.out.2.2.2.1)).alloc _).drew
 have eJ:Hid ((((w.setCell ⟨p,4,none⟩ (.bool true)).setCell ⟨p,3,none⟩ (.slice none 0 0)).alloc (.cells #[.pointer (some ⟨p,0,none⟩)] 24)).drew.heap.size=w.heap.size+1):=by unfold Hid;simp[size_set]
 generalize hW1:(((w.setCell ⟨p,4,none⟩ (.bool true)).setCell ⟨p,3,none⟩ (.slice none 0 0)).alloc (.cells #[.pointer (some ⟨p,0,none⟩)] 24)).drew=W1 at *;clear hW1 cE hne hbo c0 c1 c2 c3 c4 c5 f3 f4;have hN:d.more.length≤1000000:=by have:=H0.out.lG;omega
 obtain⟨L,hL⟩:=lift (P:=fun x=>x.1<d.n∧x.2.1.length=32∧x.2.2.1.length=32) (yN d.base d.more) (qkO d.more d.base H0.out.at1 H0.out.pz);have hLl:L.length=d.more.length:=by rw[← jc d.more d.base,← hL,List.length_map]
 have HLL:=QH hLl;have HLM:=QH hL;clear hL hLl;go_wp2_with (go_at_call 61;refine(callsIn_wide (n:=9).1 (qby Fence.wide 9 trivial rfl _ _ _ _)).mono ?_;rintro e w' ⟨rfl,rfl⟩);have qyj:(W1.alloc (.cells #[.slice Av d.more.length cv] 105)).heap.size=w.heap.size+1+1:=by rw[World.size_alloc,eJ.out]
 have HBs:Hid (qg (W1.alloc (.cells #[.slice Av d.more.length cv] 105)) W1.heap.size 105 #[.slice Av d.more.length cv]):=qg.new _ _ _;have qbz:∀j,j<W1.heap.size→(W1.alloc (.cells #[.slice Av d.more.length cv] 105)).heap[j]?=W1.heap[j]? :=fun j hj=>Below.heap_alloc _ _ j hj;have nR:Hid (qg (W1.alloc (.cells #[.slice Av d.more.length cv] 105)) p _ _):=HP1.out.of_block (qbz p HP1.out.lt);have rT:Hid (zA (W1.alloc (.cells #[.slice Av d.more.length cv] 105)) m d.now):=HM1.out.of_block (qbz m HM1.out.lt);have uF:Hid ((W1.alloc (.cells #[.slice Av d.more.length cv] 105)).ownsRow 0 125 66 (.slice Av d.more.length cv) d.more.length (yC (yN d.base d.more))):=ze sT.out (fun j hj=>qbz j (jk sT.out j hj));have tY:Hid (qg (W1.alloc (.cells #[.slice Av d.more.length cv] 105)) w.heap.size 24 #[.pointer (some ⟨p,0,none⟩)]):=HX1.out.of_block (qbz _ HX1.out.lt);have qfp:Hid (qB own w (W1.alloc (.cells #[.slice Av d.more.length cv] 105))):=qqd.out.alloc _;have qhx:=eJ.out;generalize hW2:W1.alloc (.cells #[.slice Av d.more.length cv] 105)=W2 at *;rw[qhx]at HBs;have qkR:=qdE Fence.wide 8 trivial rfl (by decide) (w.heap.size+1) (.slice Av d.more.length cv) L (by have:=HLL.out;omega) W2 HBs.out (by rw[HLL.out,HLM.out];exact uF.out);have HST:=QH qkR;have qyk:=QH qyj;clear hW2 qbz qkR qyj;rw[qhx];clear qhx eJ HP1 HM1 sT HX1 qqd;have hs2:=qyk.out;refine wpIn_wide.1 (wpIn_rangeFunc_ownH (F:=Fence.wide) (n:=9) rfl (by decide) (gf:=111) (lb:=#[.pointer (some ⟨w.heap.size+1,0,none⟩)]) rfl trivial (enters_of func111 (by kernel_rfl) rfl) HST.out
  (fun h k b hb=>(k b hb).trans (h b hb)) ?hKb (Below.refl _ _) (fun _=>rfl)
  (fun pre W=>zA W m (pre.foldl (fun s y=>oa s y.2.1) d.now)∧qB (fun k=>k=m) W2 W) (fun _ _ _=>False) ?hI (fun _ _ _ _ _ hs _ _=>hs) ⟨rT.out,qB.refl _ _⟩
  (fun x a' W=>∃Bx,W2.heap.size≤Bx∧qg W Bx 125 (qf x.2.1).toArray∧a'={ tmps:=#[.pointer (some ⟨p,0,none⟩),.slice A bs.length c,.pointer (some ⟨w.heap.size,0,none⟩),undef,.slice Av d.more.length cv,undef,.pointer (some ⟨Bx,0,none⟩),undef,undef,.pointer (some ⟨p,0,none⟩),.bool false,.bool false,.pointer (some ⟨p,0,none⟩),.pointer (some ⟨p,0,none⟩),.pointer (some ⟨p,4,none⟩),.bool false,.bool false,.pointer (some ⟨p,0,none⟩),.pointer (some ⟨p,0,none⟩),.pointer (some ⟨p,3,none⟩),.slice Av d.more.length cv,.pointer (some ⟨p,0,none⟩),.pointer (some ⟨p,0,none⟩),.pointer (some ⟨p,0,none⟩),.pointer (some ⟨p,4,none⟩),.pointer (some ⟨p,0,none⟩),.pointer (some ⟨p,3,none⟩),.slice Av d.more.length cv,.func (.func 111) #[] #[.pointer (some ⟨w.heap.size+1,0,none⟩)],.int .i64 (x.1:Int),.agg (qf x.2.1).toArray,undef,undef,undef,undef,undef,undef,undef,undef,undef,undef,undef,undef,undef,undef,undef,undef,undef,undef,undef,undef,undef,undef,undef,undef,undef,undef,undef,undef,undef],defers:=[] })
  ?hAx ?assign ?body ?done ?stop)
 case hKb =>
  intro W l o o' hl ho _ _ b hb;refine World.putObj_heap_other ?_;rcases hb with rfl|hb
  ·omega
  ·have:=jk uF.out b hb;omega
 case hI =>
  intro pre W W' row ⟨h1,h2⟩ hg hr;have hm2:=rT.out.lt;refine⟨h1.of_block (hg.block m h1.lt (fun e=>by have:=(hr m e.symm).1;omega)),?_⟩;exact h2.grown hg (fun k e=>.inr (hr k e).1)
 case hAx =>
  intro x a' _ W W' row ⟨Bx,h1,h2,h3⟩ hg hr;refine⟨Bx,h1,h2.of_block (hg.block Bx h2.lt (fun e=>?_)),h3⟩;obtain⟨_,o,ho,hc⟩:=hr Bx e.symm;unfold qg at h2;rw[h2]at ho;injection ho with ho
  subst ho;cases hc
 case assign =>
  rintro l pre x W K ⟨hi1,oQ⟩ hK;have HK:=QH hK;have HI1:=QH hi1;have HI2:=QH oQ;have iK:(qf x.2.1).length=66:=qX _ x.2.2.2.1 x.2.2.2.2;have cG:=QH iK;have HXA:=QH (lN x.2.1);clear hK hi1 oQ iK;dsimp only[qok];rw[qom];simp only[List.setIfInBounds_toArray,List.set_cons_succ,List.set_cons_zero]
  gi_wp2_with (first|(refine kX rfl (fun c h=>by cases h) (qbx _ rfl) (jl rfl) ?_)|(refine mU rfl (fun c h=>by cases h) (qbw _ _ _ rfl) (zr W 125 _ _ (.tmp 6) (.tmp 30) rfl rfl rfl (by rw[uA,List.size_toArray,cG.out]) (by rw[List.size_toArray,List.size_toArray,cG.out];exact qX _ qI qI) HXA.out) ?_))
  refine HK.out _ _ ((KeepsOthers.alloc _ _).from _) (fun b hb=>Below.heap_alloc _ _ b ?_) ⟨HI1.out.of_block (Below.heap_alloc _ _ _ HI1.out.lt),HI2.out.alloc _⟩ ⟨W.heap.size,HI2.out.size,qg.new _ _ _,rfl⟩;have h1:=HI2.out.size;rcases hb with rfl|hb
  ·omega
  ·have:=jk uF.out b hb;omega
 case body =>
  rintro l pre x a' W hl _ ⟨hi1,oQ⟩ ⟨Bx,hBx,hX,rfl⟩ hlen;have hm2:=rT.out.lt;have gY:∀j,j<W2.heap.size→j≠m→W.heap[j]?=W2.heap[j]? :=fun j hj hn=>oQ.block j hj hn;have hPW:qg W p _ _:=nR.out.of_block (gY p nR.out.lt rS.out.1);have hXW:qg W w.heap.size _ _:=tY.out.of_block (gY _ tY.out.lt (by omega));have kx:W.cell? ⟨w.heap.size,0,none⟩=some (.pointer (some ⟨p,0,none⟩)):=hXW.cell 0;have k2:W.cell? ⟨p,2,none⟩=some (.map (some m)):=hPW.cell 2;have hpl:=hPW.lt;have pF:(pre.foldl (fun s y=>oa s y.2.1) d.now).length=d.n:=(vu pre d.now).trans d.yo;have iK:(qf x.2.1).length=66:=qX _ x.2.2.2.1 x.2.2.2.2;have qqe:=qjW hpl k2 hi1 x.2.1 (qf x.2.1).toArray (rowOf _ x.2.2.2.1 x.2.2.2.2) (by rw[pF];exact x.2.2.1) (by rw[pF];exact H0.out.n1) x.2.2.2.2;have HLo:=QH qqe;have HI2:=QH oQ;have HX:=QH hX;have cG:=QH iK;have HBX:=QH hBx;clear qqe oQ hX iK hBx hi1 gY hPW hXW pF hlen k2
  gi_wp2_with (first|(refine kX rfl (fun c h=>by cases h) (mV _ _ rfl) (gz _ rfl Bx rfl _ HX.out (by rw[List.size_toArray,cG.out])) ?_)|(refine⟨trivial,?_⟩;gi_at_call 62;refine(CallsIn.inRound l (callsIn_wide.2 HLo.out)).mono ?_;rintro e W3 ⟨rfl,hm3,hb3⟩))
  have hmW:=HI2.out.size;refine⟨⟨hb3.size,fun j o hj h0 ho=>(hb3.block j (Array.getElem?_eq_some_iff.1 h0).1 (by omega)).trans h0⟩,?_,?_,HI2.out.trans hb3 (fun _ e=>.inl e)⟩
  ·intro b hb;rcases hb with rfl|hb
   ·exact hb3.block _ (by omega) (by omega)
   ·have h1:=jk uF.out b hb;exact hb3.block b (by omega) (rS.out.2 b hb).2
  ·rw[List.foldl_append];exact hm3
 case stop =>
  rintro D c pre W _ _ h _;exact h.elim
 case done =>
  rintro D ys W hD rfl ⟨hi1,oQ⟩ hK;rw[show d.now=qK d.base d.more from rfl,qkP d.base d.more L HLM.out]at hi1;have hm2:=rT.out.lt;have gY:∀j,j<W2.heap.size→j≠m→W.heap[j]?=W2.heap[j]? :=fun j hj hn=>oQ.block j hj hn;have hPW:qg W p _ _:=nR.out.of_block (gY p nR.out.lt rS.out.1);have hXW:qg W w.heap.size _ _:=tY.out.of_block (gY _ tY.out.lt (by omega));have hOW:=ze uF.out (fun j hj=>gY j (jk uF.out j hj) (rS.out.2 j hj).2);have qqg:qB own w W:=qfp.out.trans oQ (fun j e=>.inl (by subst e;exact H1.out.2.2.2.2.1));have HPW:=QH hPW;have HXW:=QH hXW;have HOW:=QH hOW;have qfq:=QH qqg;have HMW:=QH hi1;have HKW:=QH hK;have HD:=QH hD;have HW2:=QH oQ.size;have jZ:Hid (∀W3,qB (fun k=>k=m) W W3→qfo W3 A bs):=fun W3 hW3 i hi=>by
   obtain⟨b,o,hA,hlt,hcell⟩:=HB.out i hi;have hnb:=HBO.out b o hA (by omega);have hbW:=qfq.out.size;refine⟨b,o,hA,by have:=hW3.size;omega,?_⟩;rw[World.cell?_of_block (a:=⟨b,o+i,none⟩) ((hW3.block b (by omega) (fun e=>hnb (by rw[e];exact H1.out.2.2.2.2.1))).trans (qfq.out.block b hlt hnb))];exact hcell
  clear hi1 oQ hK gY hPW hXW hOW qqg hD nR tY uF qfp rT HST HBs;have q7c:(d.more.length:Int)≤1000000:=by omega
  go_wp2_with fail;go_loopw [36] (fun i wr=>∃k:Nat,k≤d.more.length∧i=.int .i64 (k:Int)∧zA wr m (qK d.base (stay (d.more.take k) bs))∧qB (fun k=>k=m) W wr) (fun i _=>d.more.length-(intOf i).toNat);case atStart=>exact⟨0,Nat.zero_le _,rfl,HMW.out,qB.refl _ _⟩
  case round =>
   obtain⟨k,hk,rfl,hmr,hbr⟩:=hrel;have HMR:=QH hmr;have HBR:=QH hbr;clear hmr hbr;by_cases hlt:k<d.more.length
   ·have qoo:=qkO d.more d.base H0.out.at1 H0.out.pz;have hul:k<(yN d.base d.more).length:=by rw[jc];exact hlt
    have hOr:wr.ownsRow 0 125 66 (.slice Av d.more.length cv) (yN d.base d.more).length (yC (yN d.base d.more)):=by
     rw[jc];exact ze HOW.out (fun j hj=>HBR.out.block j (jk HOW.out j hj) (rS.out.2 j hj).2)
    obtain⟨g,c',cur,hv,hlc,hcm,hg,xt⟩:=qfl hOr (fun y hy=>qX _ (qoo y hy).2.1 (qoo y hy).2.2) k hul;rw[jc]at hv hlc;simp only[Value.slice.injEq,true_and]at hv;obtain⟨rfl,rfl⟩:=hv;have hx:=lH d.more d.base k hlt;rw[List.getElem?_eq_getElem hul]at hx;injection hx with hx
    have hxo:=qoo _ (List.getElem_mem hul);have hx1:(yN d.base d.more)[k].1=d.more[k].1:=by rw[hx]
    have hx2:(yN d.base d.more)[k].2.1=d.more[k].2:=by rw[hx]
    generalize (yN d.base d.more)[k]=x at *;clear hx qoo hOr hul;have iK:(qf x).length=66:=qX _ hxo.2.1 hxo.2.2;have qkN:=rowOf x hxo.2.1 hxo.2.2;have qqh:=pC d.more bs k hlt;have uJ:(qK d.base (stay (d.more.take k) bs)).length=d.n:=zm _ _;have HG:=QH hg;have quh:=QH xt;have cG:=QH iK;have qkA:=QH qkN;have HXO:=QH hxo;have HX1:=QH hx1;have tY:=QH hx2;have HST:=QH qqh;have HSL:=QH uJ;have HCM:=QH hcm;have HLC:=QH hlc;have HBL:=QH (jZ.out (wr.alloc (.cells (qf x).toArray 125)) (HBR.out.alloc _));have hXr:wr.cell? ⟨w.heap.size,0,none⟩=some (.pointer (some ⟨p,0,none⟩)):=by
     rw[World.cell?_of_block (a:=⟨w.heap.size,0,none⟩) (HBR.out.block _ HXW.out.lt (Nat.ne_of_gt hm))];exact HXW.out.cell 0
    have hPr:wr.cell? ⟨p,2,none⟩=some (.map (some m)):=by
     rw[World.cell?_of_block (a:=⟨p,2,none⟩) (HBR.out.block _ HPW.out.lt rS.out.1)];exact HPW.out.cell 2
    have wN:w.heap.size<wr.heap.size:=by have:=HBR.out.size;have:=HXW.out.lt;omega
    have hpl:p<wr.heap.size:=by omega
    clear hg xt iK qkN hxo hx1 hx2 qqh uJ hcm hlc;by_cases hbl:k<bs.length
    ·obtain⟨bb,bo,rfl,hbb,hcb⟩:=HBL.out k hbl;have qkT:bs[k]?.getD false=bs[k]:=by rw[List.getElem?_eq_getElem hbl];rfl
     have qhy:=QH qkT;have HHB:=QH HB;have hbi:(k:Int)<(bs.length:Int):=by omega
     have qym:(bs.length:Int)≤9223372036854775807∨True:=.inr trivial;clear HBL jZ HB HBO qkT qym;cases oy:bs[k]with
     | true =>
      rw[oy]at hcb qhy;clear oy;go_wp2_with (first|(refine ql rfl (zR 125 (.tmp 39) rfl g (k*66) rfl _ cur (qf x) _ _ HG.out underlying125 rfl (by rw[uA,cG.out]) quh.out) ?_)|(refine ql rfl (jl rfl) ?_)|(refine wpList_skip rfl (zr wr 125 _ _ (.tmp 8) (.tmp 40) rfl rfl rfl (by rw[uA,List.size_toArray,cG.out]) (by rw[List.size_toArray,List.size_toArray,cG.out];exact qX _ qI qI) (lN _)) ?_));have qui:qg (wr.alloc (.cells (qf x).toArray 125)) wr.heap.size 125 (qf x).toArray:=qg.new _ _ _;have q3w:=QH qui;have q3x:=QH (HMR.out.of_block (Below.heap_alloc wr (.cells (qf x).toArray 125) _ HMR.out.lt));have qfp:=QH (HBR.out.alloc (.cells (qf x).toArray 125));have q0:(wr.alloc (.cells (qf x).toArray 125)).cell? ⟨wr.heap.size,0,none⟩=some (.int .i64 (x.1:Int)):=by rw[qui.cell 0];exact qkA.out.at_
      have qx:(wr.alloc (.cells (qf x).toArray 125)).cell? ⟨w.heap.size,0,none⟩=some (.pointer (some ⟨p,0,none⟩)):=(World.cell?_of_block (a:=⟨w.heap.size,0,none⟩) (Below.heap_alloc _ _ _ wN)).trans hXr;have qp:(wr.alloc (.cells (qf x).toArray 125)).cell? ⟨p,2,none⟩=some (.map (some m)):=(World.cell?_of_block (a:=⟨p,2,none⟩) (Below.heap_alloc _ _ _ hpl)).trans hPr;have hbd:(Lib.byteCells x.2.1).length=32:=by rw[Lib.byteCells_length,HXO.out.2.1]
      have HBD:=QH hbd;clear qui hcb hXr hPr hbd;generalize wr.alloc (.cells (qf x).toArray 125)=wr2 at *;refine yg 8 (by kernel_rfl) (by kernel_rfl) ?_;simp only[List.take_succ_cons,List.take_zero,List.drop_succ_cons,List.drop_zero]
      iterate 7 still_step
      refine wV rfl (zR _ _ rfl wr.heap.size 1 rfl _ _ (Lib.byteCells x.2.1) _ _ q3w.out underlying123 rfl (by rw[aC,HBD.out]) qkA.out.data) ?_;refine wpStill_nil ?_;refine jS (w:=wr2.drew) rfl _ _ _ rfl rfl q3x.out x.1 rfl x.2.1 rfl (by rw[HSL.out];exact HXO.out.1) (by rw[HSL.out];exact H0.out.n1) ?_;intro w9 hm9 ht9;have HM9:=QH hm9;have tX:=QH (yq ht9);clear hm9 ht9;go_wp2_with fail;go_roundw;case rel =>
       refine⟨k+1,by omega,by go_num,?_,qfp.out.drew.trans tX.out (fun _ e=>.inl e)⟩;rw[HST.out,qhy.out];simp only[if_true];rw[show d.more[k]=(d.more[k].1,d.more[k].2)from rfl,uT,← HX1.out,← tY.out];exact HM9.out
      case measure=>simp[intOf];omega
     | false =>
      rw[oy]at hcb qhy;clear oy;go_wp2_with (first|(refine ql rfl (zR 125 (.tmp 39) rfl g (k*66) rfl _ cur (qf x) _ _ HG.out underlying125 rfl (by rw[uA,cG.out]) quh.out) ?_)|(refine ql rfl (jl rfl) ?_)|(refine wpList_skip rfl (zr wr 125 _ _ (.tmp 8) (.tmp 40) rfl rfl rfl (by rw[uA,List.size_toArray,cG.out]) (by rw[List.size_toArray,List.size_toArray,cG.out];exact qX _ qI qI) (lN _)) ?_));go_roundw;case rel =>
       refine⟨k+1,by omega,by go_num,?_,HBR.out.alloc _⟩;rw[HST.out,qhy.out];simp only[Bool.false_eq_true,if_false,List.append_nil];exact HMR.out.of_block (Below.heap_alloc _ _ _ HMR.out.lt)
      case measure=>simp[intOf];omega
    ·have qkT:bs[k]?.getD false=false:=by rw[List.getElem?_eq_none (by omega)];rfl
     have qhy:=QH qkT;clear qkT HBL jZ HB HBO;go_wp2_with (first|(refine ql rfl (zR 125 (.tmp 39) rfl g (k*66) rfl _ cur (qf x) _ _ HG.out underlying125 rfl (by rw[uA,cG.out]) quh.out) ?_)|(refine ql rfl (jl rfl) ?_)|(refine wpList_skip rfl (zr wr 125 _ _ (.tmp 8) (.tmp 40) rfl rfl rfl (by rw[uA,List.size_toArray,cG.out]) (by rw[List.size_toArray,List.size_toArray,cG.out];exact qX _ qI qI) (lN _)) ?_));go_roundw;case rel =>
      refine⟨k+1,by omega,by go_num,?_,HBR.out.alloc _⟩;rw[HST.out,qhy.out];simp only[Bool.false_eq_true,if_false,List.append_nil];exact HMR.out.of_block (Below.heap_alloc _ _ _ HMR.out.lt)
     case measure=>simp[intOf];omega
   ·have hkn:k=d.more.length:=by omega
    subst hkn;go_wp2_with fail;refine⟨by simp,.inl ⟨_,_,rfl,run_takeDeferred (b:=D) (ds:=[]) ?_,?_⟩⟩
    ·exact(HBR.out.block D (Array.getElem?_eq_some_iff.1 HKW.out).1 (by have:=HD.out;exact Nat.ne_of_gt (by omega))).trans HKW.out
    ·have hDm:D≠m:=by have:=HD.out;omega
     have hput:∀j,j<W2.heap.size→(wr.putObj D (.deferred none)).heap[j]?=wr.heap[j]? :=fun j hj=>World.putObj_heap_other (by have:=HD.out;omega);have hps:(wr.putObj D (.deferred none)).heap.size=wr.heap.size:=by simp
     have hpl:=HPW.out.lt;have hb1:=HBR.out.size;have hdw:d.bK bs={ d with base:=qK d.base (stay d.more bs),more:=[],on:=true }:=by
      unfold DD.bK;rw[HON.out];rfl
     rw[hdw];have hml:=HMR.out;rw[List.take_of_length_le (Nat.le_refl _)]at hml;refine⟨_,results_none rfl _ _ _,rfl,own,⟨?_,m,.slice none 0 0,?_⟩,?_,kQ.refl _ _⟩
     ·have hst:∀y∈stay d.more bs,y.1<d.n∧y.2.length=32:=fun y hy=>H0.out.at1 y (bJ _ _ _ hy);refine { H0.out with n0:=?_,n1:=?_,lG:=Nat.zero_le _,at1:=fun _ h=>by simp at h,pz:=uU H0.out.pz (fun y hy=>(hst y hy).2) }
      ·show 1≤(qK d.base (stay d.more bs)).length;rw[zm];exact H0.out.n0
      ·show(qK d.base (stay d.more bs)).length≤1024;rw[zm];exact H0.out.n1
     ·refine⟨?_,?_,⟨rfl,.inl ⟨rfl,rfl⟩⟩,H1.out.2.2.2.1,H1.out.2.2.2.2.1,fun j hj=>by simp[Value.ownBlock]at hj,fun j hj=>?_⟩
      ·have e:(DD.n { d with base:=qK d.base (stay d.more bs),more:=[],on:=true })=d.n:=zm _ _;rw[e];refine(HPW.out.of_block (HBR.out.block p hpl rS.out.1)).of_block (hput p (by omega))
      ·exact hml.of_block (hput m (by omega))
      ·have h1:=HL.out j hj;have h2:=qfq.out.size;rw[hps];omega
     ·refine(qfq.out.trans HBR.out (fun j e=>.inl (by subst e;exact H1.out.2.2.2.2.1))).grown (grownBy_putObj' wr D _) (fun j e=>.inr ?_);injection e with e
      have h1:=HD.out;have h2:=qyk.out;omega
end
end Go.Proofs.YtdagdllomphidaaGreatDoor.dk
namespace Go.Proofs.YtdagdllomphidaaGreatDoor.dk
open _root_.Go.Proofs.Tryz Go Go.RowKit
theorem fR (z:Nat):madeCells #[Value.int .u8 0] z=(Lib.byteCells (List.replicate z 0)).toArray:=by
 apply Array.ext';apply List.ext_getElem?;intro j;by_cases hj:j<z <;> simp[madeCells,Lib.byteCells,hj,Nat.mod_one]
theorem ax (c:UInt8)(n:Nat):(rep c n).length=n:=by simp[rep]
def In (most:Nat)(w:World)(B p:Nat)(d:DD):Prop:=∃own,zj most w own p d∧∀k,own k→B≤k
def qop (most B p:Nat)(d:DD)(r:Value)(w:World)(e:Ending)(w':World):Prop:=e=.returned r∧In most w' B p d∧Below w.heap.size w w'
theorem In.below{most:Nat}{w w':World}{B p:Nat}{d:DD}(h:In most w B p d)(hb:Below w.heap.size w w'):In most w' B p d:=by
 obtain⟨own,h1,h2⟩:=h;exact⟨own,h1.below hb,h2⟩
theorem In.ok{most:Nat}{w:World}{B p:Nat}{d:DD}(h:In most w B p d):d.ok most:=by
 obtain⟨own,h1,h2⟩:=h;exact h1.1
theorem In.mono{most qqi:Nat}{w:World}{B p:Nat}{d:DD}(h:In most w B p d)(hm:most≤qqi):In qqi w B p d:=by
 obtain⟨own,⟨h1,h3⟩,h2⟩:=h;exact⟨own,⟨h1.mono hm,h3⟩,h2⟩
theorem In.lt{most:Nat}{w:World}{B p:Nat}{d:DD}(h:In most w B p d):B≤p∧p<w.heap.size:=by
 obtain⟨own,⟨_,m,v,h1⟩,h2⟩:=h;exact⟨h2 p h1.2.2.2.1,h1.1.lt⟩
section
variable {most:Nat} {w:World} {B p:Nat} {d:DD}
theorem qfr(h:In most w B p d)(k:Int)(v:Bt)(s:ByteArray)(hs:str v=s)(r:Int)(h1:d.read k=(v,r)) :
    Calls prog 89 #[.pointer (some ⟨p,0,none⟩),.int .i64 k] w (qop most B p d (.tuple #[.string s,.int .i64 r]) w):=by
 have hI:=h;obtain⟨own,hd,ho⟩:=h;subst hs;have key:Calls prog 89 #[.pointer (some ⟨p,0,none⟩),.int .i64 k] w (uW (d.read k) w):=by
  obtain⟨h0,m,v,h1⟩:=hd;unfold DD.read;by_cases zK:d.on=false
  ·rw[if_pos zK];exact qaJ h1 zK k
  ·rw[if_neg zK];by_cases hh:d.has k=false
   ·rw[if_pos hh];exact qaK h1 (by simpa using zK) k hh
   ·rw[if_neg hh];exact qeU h0 h1 (by simpa using zK) k (by simpa using hh)
 rw[h1]at key;exact key.mono fun e w' h=>⟨h.1,hI.below h.2,h.2⟩
end
end Go.Proofs.YtdagdllomphidaaGreatDoor.dk
namespace Go.Proofs.YtdagdllomphidaaGreatDoor.dk
open _root_.Go.Proofs.Tryz Go Go.RowKit
theorem In.base{most:Nat}{w:World}{B B' p:Nat}{d:DD}(h:In most w B p d)(hB:B'≤B):In most w B' p d:=by
 obtain⟨own,h1,h2⟩:=h;exact⟨own,h1,fun k hk=>Nat.le_trans hB (h2 k hk)⟩
def InG (most:Nat)(w:World)(G:Nat→Prop)(p:Nat)(d:DD):Prop:=∃own,zj most w own p d∧∀k,own k→G k
def mW (most:Nat)(G:Nat→Prop)(p:Nat)(d:DD)(r:Value)(w:World)(e:Ending)(w':World):Prop:=e=.returned r∧InG most w' G p d∧qB G w w'
theorem InG.below{most:Nat}{w w':World}{G:Nat→Prop}{p:Nat}{d:DD}(h:InG most w G p d)(hb:Below w.heap.size w w'):InG most w' G p d:=by
 obtain⟨own,h1,h2⟩:=h;exact⟨own,h1.below hb,h2⟩
theorem InG.ok{most:Nat}{w:World}{G:Nat→Prop}{p:Nat}{d:DD}(h:InG most w G p d):d.ok most:=by
 obtain⟨own,h1,h2⟩:=h;exact h1.1
theorem pV {most:Nat}{w:World}{G:Nat→Prop}{p:Nat}{d:DD}{own:Nat→Prop}{r:Value}(hG:∀k,w.heap.size≤k→G k)(ho:∀k,own k→G k){e:Ending}{w':World}(h:xd most own p d r w e w'):mW most G p d r w e w':=by
 obtain⟨rfl,vN,h1,h2,h3⟩:=h;refine⟨rfl,⟨vN,h1,fun k hk=>?_⟩,h2.mono ho⟩;rcases h3 k hk with h|h
 ·exact ho k h
 ·exact hG k h
section
variable {most:Nat} {w:World} {p:Nat} {G:Nat→Prop} {d:DD}
theorem qoq(h:InG most w G p d)(hG:∀k,w.heap.size≤k→G k)(hm:d.more.length<most)(yF:most≤100000)(k:Int)(s:ByteArray)(v:Bt)(hs:bl s=v)(r:Int)(d':DD)(h1:(d.write k v).1=r)(h2:(d.write k v).2=d') :
    Calls prog 131 #[.pointer (some ⟨p,0,none⟩),.int .i64 k,.string s] w (mW most G p d' (.int .i64 r) w):=by
 obtain⟨own,hd,ho⟩:=h;subst hs h1 h2;exact(fy hd hm yF k s).mono fun _ _ h=>pV hG ho h
theorem qor(h:InG most w G p d)(hG:∀k,w.heap.size≤k→G k)(r:Int)(d':DD)(h1:d.flush.1=r)(h2:d.flush.2=d') :
    Calls prog 132 #[.pointer (some ⟨p,0,none⟩)] w (mW most G p d' (.int .i64 r) w):=by
 obtain⟨own,hd,ho⟩:=h;subst h1 h2;exact(qhw hd).mono fun _ _ h=>pV hG ho h
end
end Go.Proofs.YtdagdllomphidaaGreatDoor.dk
namespace Go.Proofs.YtdagdllomphidaaGreatDoor.wi
open _root_.Go.Proofs.Tryz Go.RowKit
def quk (b:Nat)(l:List UInt8)(x:Bool)(w:World)(e:Ending)(w':World):Prop :=
 w.grownBy w' (some b) ∧
  ((∃t r,yR l=some (t,r)∧e=.returned (.tuple #[.string (str t),.bool true])∧zh b r x w') ∨
   (yR l=none∧e=.returned (.tuple #[.string (str []),.bool false])∧∃m,zh b m x w'))
theorem qkU(b:Nat)(l:List UInt8)(x:Bool)(w:World)(h:zh b l x w) :
    Calls prog 210 #[.func (.func 205) #[.pointer (some ⟨b,0,none⟩)] #[]] w (quk b l x w):=by
 go_enter func210,ntmps210;go_wp2_with (go_at_call 175;refine(qeA b l x _ h).mono ?_);rintro e w1 ⟨hg,⟨n,r,hn,rfl,hr⟩|⟨hn,rfl,m,hm⟩⟩
 ·have q3y:=(wR l n r hn).2;have Hn:=QH hn;have Hg:=QH hg;obtain⟨g,o,cap,hR⟩:=hr;by_cases hlt:r.length<n
  ·have hT:yR l=none:=by unfold yR;rw[Hn.out];simp[hlt]
   have HT:=QH hT;clear hT hg hn;go_wp2_with (go_at_call 205;refine(rK b g o cap r x (n:Int) _ hR (by omega)).mono ?_;rintro e w' ⟨rfl,rfl⟩);go_ret2;exact⟨Hg.out,.inr ⟨HT.out,rfl,r,g,o,cap,hR⟩⟩
  ·have hT:yR l=some (r.take n,r.drop n):=by unfold yR;rw[Hn.out];simp[hlt]
   have HT:=QH hT;have dB:(r.take n).length=n:=by simp;omega
   have Hln:=QH dB;clear hT hg hn dB;go_wp2_with (go_at_call 205;refine(kL b g o cap r x (n:Int) _ hR (by omega) (by omega)).mono ?_);rintro e w2 ⟨rfl,h1,h2,h3⟩;rw[Int.toNat_natCast]at h1 h3;have hcv:=run_convert_bytes_back (P:=prog) w2 118 9 5 ⟨g,o,none⟩ n (r.take n) underlying118 underlying5 underlying9 (by
    intro j hj;rw[addr_add];exact h3.cell j hj)
   rw[Hln.out]at hcv;have qwz:(convert 118 9 (.slice (some ⟨g,o,none⟩) n n)).run prog w2=.ok (.string (str (r.take n))) w2:=hcv;have H1:=QH h1;have H2:=QH h2;clear h1 h2 h3 hcv;go_wp2;go_ret2;exact⟨xL Hg.out H2.out,.inl ⟨_,_,HT.out,rfl,_,_,_,H1.out⟩⟩
 ·have hT:yR l=none:=by unfold yR;rw[hn]
  have HT:=QH hT;have Hg:=QH hg;clear hT hg hn;go_wp2;go_ret2;exact⟨Hg.out,.inr ⟨HT.out,rfl,m,hm⟩⟩
def cH (b:Nat)(l:List UInt8)(w:World)(e:Ending)(w':World):Prop :=
 w.grownBy w' (some b) ∧
  ((∃t r,yR l=some (t,r)∧e=.returned (.string (str t))∧zh b r false w') ∨
   (yR l=none∧e=.returned (.string (str []))∧∃m,zh b m true w'))
theorem sU (b:Nat)(l:List UInt8)(w:World)(h:zh b l false w) :
    Calls prog 209 #[.pointer (some ⟨b,0,none⟩),.func (.func 210) #[] #[]] w (cH b l w):=by
 go_enter func209,ntmps209;go_wp2_with (go_at_call 204;refine(qc3 b l _ h).mono ?_;rintro e w' ⟨rfl,rfl⟩);go_wp2_with (go_at_call 210;refine(qkU b l false _ h).mono ?_);rintro e w1 ⟨hg,⟨n,r,hn,rfl,hr⟩|⟨hn,rfl,m,hm⟩⟩
 ·have Hn:=QH hn;have Hg:=QH hg;obtain⟨hc,hf⟩:=hr.cell1;have Hr:=QH (hr.flag false);clear hn hg hr;go_wp2;go_ret;exact⟨xL Hg.out (zh.dA _ _ _),.inl ⟨n,r,Hn.out,rfl,Hr.out⟩⟩
 ·have Hn:=QH hn;have Hg:=QH hg;obtain⟨hc,hf⟩:=hm.cell1;have Hr:=QH (hm.flag true);clear hn hg hm;go_wp2;go_ret;exact⟨xL Hg.out (zh.dA _ _ _),.inr ⟨Hn.out,rfl,m,Hr.out⟩⟩
theorem sV (b:Nat)(l:List UInt8)(w:World)(h:zh b l true w) :
    Calls prog 209 #[.pointer (some ⟨b,0,none⟩),.func (.func 210) #[] #[]] w fun e w'=>e=.returned (.string (str []))∧w=w':=by
 go_enter func209,ntmps209;go_wp2_with (go_at_call 204;refine(qjh b l _ h).mono ?_;rintro e w' ⟨rfl,rfl⟩);go_ret;exact⟨rfl,rfl⟩
theorem qdJ(b:Nat)(l:List UInt8)(w:World)(h:zh b l false w):Calls prog 177 #[.pointer (some ⟨b,0,none⟩)] w (cH b l w):=by
 go_enter func177,ntmps177;go_wp2_with (go_at_call 209;refine(sU b l _ h).mono ?_);rintro e w1 ⟨hg,⟨n,r,hn,rfl,hr⟩|⟨hn,rfl,hm⟩⟩
 ·have H:Hid (cH b l w (.returned (.string (str n))) w1):=⟨hg,.inl ⟨n,r,hn,rfl,hr⟩⟩;clear hg hn hr;go_wp2;go_ret;exact H.out
 ·have H:Hid (cH b l w (.returned (.string (str []))) w1):=⟨hg,.inr ⟨hn,rfl,hm⟩⟩;clear hg hn hm;go_wp2;go_ret;exact H.out
theorem qh0(b:Nat)(l:List UInt8)(w:World)(h:zh b l true w):Calls prog 177 #[.pointer (some ⟨b,0,none⟩)] w fun e w'=>e=.returned (.string (str []))∧w=w':=by
 go_enter func177,ntmps177;go_wp2_with (go_at_call 209;refine(sV b l _ h).mono ?_;rintro e w' ⟨rfl,rfl⟩);go_ret;exact⟨rfl,rfl⟩
end Go.Proofs.YtdagdllomphidaaGreatDoor.wi
namespace Go.Proofs.YtdagdllomphidaaGreatDoor
open _root_.Go.Proofs.Tryz Go.RowKit
def qqj (s:ByteArray)(w:World)(e:Ending)(w':World):Prop :=
 e=.returned (.tuple #[.string s,.int .i64 0])∧Below w.heap.size w w'
def qul (w:World)(e:Ending)(w':World):Prop :=
 e=.returned (.tuple #[.string ⟨#[]⟩,.int .i64 4])∧Below w.heap.size w w'
theorem ij (a:Option Addr)(c:Nat)(ps:List (List UInt8))(t:List UInt8)(w:World)(hp:yI w a ps)(hi:uB ps t)(ht:xC w) :
    Calls prog 90 #[.slice a ps.length c] w (qqj (str t) w):=by
 have HT:=QH ht;have hg:=ht.1;clear ht;have HP:=QH hp;have hpl:ps.length≤1000:=by rw[hi.2,xN];have:=hi.1;unfold nsec;omega
 have wC:ps.flatten=yr t:=by rw[hi.2,yy]
 have hwl:=yO t;have hfs:ps.flatten.length≤100000:=by rw[wC,hwl];have:=hi.1;unfold nsec;omega
 have hput:=mQ a c ps w hp (by omega) (by omega);have htl:=hi.1;have hsz:=qO t;have hzl:=qO ps.flatten;have hts:(str t).size≤8192:=by omega
 have qkW:∀W,Calls prog 135 #[.string (str ps.flatten)] W fun e w'=>e=.returned (.tuple #[.string (str t),.bool true])∧Below W.heap.size W w':=by
  intro W;have:=mR (str ps.flatten) W (by omega);rw[zo,wC,qdn t (by omega)]at this;rw[wC];exact this
 have heq:qL t=ps:=hi.2.symm;have qbv:=QH hput;have sW:=QH qkW;have Heq:=QH heq;have qum:=QH (zo t);clear hp hput qkW heq hi wC hwl hsz hzl htl hfs;generalize str ps.flatten=f at *;generalize str t=s at *;go_enter func90,ntmps90;go_wp2_with (go_at_call 136;refine qbv.out.mono ?_);rintro e W1 ⟨rfl,b1⟩;go_wp2_with (go_at_call 135;refine(sW.out _).mono ?_);rintro e W2 ⟨rfl,b2⟩;have b12:=q9 b1 b2;have h2:=QH (HT.out.below b12 hg);clear b1 b2;go_wp2_with (go_at_call 116;refine(cz s _ hts h2.out).mono ?_);rintro e W3 ⟨v,rfl,hown,b3⟩;have b13:=q9 b12 b3;rw[qum.out,Heq.out]at hown;obtain⟨a2,c2,rfl,hlc,hcm,hst,_,_⟩:=hown.view;have qkX:=HP.out.below b13 (Nat.le_refl _);have qdK:=dD a2 a c2 c ps ps W3 hst qkX (by omega) (by omega);rw[show decide (ps=ps)=true from by simp]at qdK;have qun:=QH qdK;clear b12 b3 hown hst qkX qdK h2;go_wp2_with (go_at_call 137;refine qun.out.mono ?_);rintro e W4 ⟨rfl,b4⟩;have b14:=q9 b13 b4;clear b13 b4;go_wp2;go_ret2;exact⟨rfl,b14⟩
theorem ik (a:Option Addr)(c:Nat)(ps:List (List UInt8))(w:World)(hp:yI w a ps)(hpl:ps.length≤1000)(hfs:ps.flatten.length≤100000)(hi:∀t,¬ uB ps t)(ht:xC w) :
    Calls prog 90 #[.slice a ps.length c] w (qul w):=by
 have HT:=QH ht;have hg:=ht.1;clear ht;have HP:=QH hp;have hput:=mQ a c ps w hp (by omega) (by omega);have hzl:=qO ps.flatten;have qkW:∀W,Calls prog 135 #[.string (str ps.flatten)] W (qfk (oq ps.flatten) W):=by
  intro W;have:=mR (str ps.flatten) W (by omega)
  rwa [zo]at this
 have qbv:=QH hput;have sW:=QH qkW;clear hp hput qkW hzl;generalize str ps.flatten=f at *;cases hx:oq ps.flatten with
 | none =>
  rw[hx]at sW;go_enter func90,ntmps90;go_wp2_with (go_at_call 136;refine qbv.out.mono ?_);rintro e W1 ⟨rfl,b1⟩;go_wp2_with (go_at_call 135;refine(sW.out _).mono ?_);rintro e W2 ⟨rfl,b2⟩;have b12:=q9 b1 b2;clear b1 b2;go_wp2;go_ret2;exact⟨rfl,b12⟩
 | some t =>
  rw[hx]at sW;have hsz:=qO t;by_cases htl:8192<t.length
  ·have hts:8192<(str t).size:=by omega
   have hgd:(some t).getD []=t:=rfl;have qkY:Hid (∀W,Calls prog 135 #[.string f] W fun e w'=>e=.returned (.tuple #[.string (str t),.bool true])∧Below W.heap.size W w'):=sW;clear sW hsz;generalize str t=s at *;go_enter func90,ntmps90;go_wp2_with (go_at_call 136;refine qbv.out.mono ?_);rintro e W1 ⟨rfl,b1⟩;go_wp2_with (go_at_call 135;refine(qkY.out _).mono ?_);rintro e W2 ⟨rfl,b2⟩;have b12:=q9 b1 b2;clear b1 b2;go_wp2_with (go_at_call 116;refine(qht s _ hts).mono ?_);rintro e W3 ⟨rfl,b3⟩;have b13:=q9 b12 b3;clear b12 b3;go_wp2;go_ret2;exact⟨rfl,b13⟩
  ·have hts:(str t).size≤8192:=by omega
   have qkY:Hid (∀W,Calls prog 135 #[.string f] W fun e w'=>e=.returned (.tuple #[.string (str t),.bool true])∧Below W.heap.size W w'):=sW;have hne:decide (qL t=ps)=false:=by
    simp only[decide_eq_false_iff_not];intro h;exact hi t ⟨by omega,h.symm⟩
   have qum:=QH (zo t);have uJ:=xN t;have q9A:(qL t).length≤1000:=by rw[uJ];unfold nsec;omega
   have Hne:=QH hne;have Hx:=QH hx;clear sW hsz hne uJ hx hi;generalize str t=s at *;go_enter func90,ntmps90;go_wp2_with (go_at_call 136;refine qbv.out.mono ?_);rintro e W1 ⟨rfl,b1⟩;go_wp2_with (go_at_call 135;refine(qkY.out _).mono ?_);rintro e W2 ⟨rfl,b2⟩;have b12:=q9 b1 b2;have h2:=QH (HT.out.below b12 hg);clear b1 b2;go_wp2_with (go_at_call 116;refine(cz s _ hts h2.out).mono ?_);rintro e W3 ⟨v,rfl,hown,b3⟩;have b13:=q9 b12 b3;rw[qum.out]at hown;obtain⟨a2,c2,rfl,hlc,hcm,hst,_,_⟩:=hown.view;have qkX:=HP.out.below b13 (Nat.le_refl _);have qdK:=dD a2 a c2 c (qL t) ps W3 hst qkX (by omega) (by omega);rw[Hne.out]at qdK;have qun:=QH qdK;clear b12 b3 hown hst qkX qdK h2;go_wp2_with (go_at_call 137;refine qun.out.mono ?_);rintro e W4 ⟨rfl,b4⟩;have b14:=q9 b13 b4;clear b13 b4;go_wp2;go_ret2;exact⟨rfl,b14⟩
end Go.Proofs.YtdagdllomphidaaGreatDoor
namespace Go.Proofs.YtdagdllomphidaaGreatDoor.wi
open _root_.Go.Proofs.Tryz Go.RowKit
def qh1 (s t:ByteArray)(w:World)(e:Ending)(w':World):Prop :=
 e=.returned (.string (str (bl s++fJ (bl t))))∧Below w.heap.size w w'
theorem qb0(s t:ByteArray)(w:World)(hs:s.size≤70368744177000)(ht:t.size≤70368744177000) :
    Calls prog 201 #[.string s,.string t] w (qh1 s t w):=by
 have hl:=jh t.size;have hbl:=zq t;have Hbl:=QH hbl;clear hbl;go_enter func201,ntmps201;go_wp2_with (go_at_call 207;refine(qje t.size _ (by omega)).mono ?_);rintro e W1 ⟨rfl,b1⟩;go_wp2_with (go_at_call 208;refine(qcz t.size _ (by omega)).mono ?_);rintro e W2 ⟨rfl,b2⟩;go_wp2_with (go_at_call 206;refine(km s W2.heap.size 0 3 [str [UInt8.ofNat (zB t.size).length],str (zB t.size),t] _ ?_ (ll _ _ _ _) (by simp) ?_).mono ?_)
 ·simp
 ·have:=Hbl.out;simp[flat,zo];omega
 ·rintro e W3 ⟨rfl,b3⟩;have b':=q9 (zv (q9 b1 b2) _) b3;clear b1 b2 b3;go_wp2;go_ret;exact⟨by simp[flat,zo,fJ,zn,Hbl.out],b'⟩
end Go.Proofs.YtdagdllomphidaaGreatDoor.wi
namespace Go.Proofs.YtdagdllomphidaaGreatDoor.jr
open _root_.Go.Proofs.Tryz Go Go.RowKit dk wi
def qD (x:Int):Prop:=-9223372036854775808≤x∧x≤9223372036854775807
def kY (w:World)(a:Option Addr)(l:List Wr):Prop :=
 ∀i (h:i<l.length),∃b o,a=some ⟨b,o,none⟩∧b<w.heap.size∧w.cell? ⟨b,o+i*2,none⟩=some (.int .i64 l[i].1)∧w.cell? ⟨b,o+i*2+1,none⟩=some (.string (str l[i].2))∧qD l[i].1
theorem kY.below{w w':World}{a:Option Addr}{l:List Wr}{B:Nat}(h:kY w a l)(hb:Below B w w')(hB:w.heap.size≤B):kY w' a l:=by
 intro i hi;obtain⟨b,o,h1,h2,h3,h4,h5⟩:=h i hi;refine⟨b,o,h1,Nat.lt_of_lt_of_le h2 hb.size,?_,?_,h5⟩
 ·rw[hb.cell (p:=⟨b,o+i*2,none⟩) (Nat.lt_of_lt_of_le h2 hB)];exact h3
 ·rw[hb.cell (p:=⟨b,o+i*2+1,none⟩) (Nat.lt_of_lt_of_le h2 hB)];exact h4
section
variable {most:Nat} {w:World} {own:Nat→Prop} {p:Nat} {d:DD}
theorem dP (h:zj most w own p d):Calls prog 83 #[.pointer (some ⟨p,0,none⟩)] w fun e w'=>e=.returned (.int .i64 (if d.on then 0 else 6))∧w=w':=by
 obtain⟨h0,m,v,hd⟩:=h;have HO:=QH (qjT hd);clear h0 hd;cases zK:d.on with
 | true =>
  rw[zK]at HO;go_enter func83,ntmps83;go_wp2_with (go_at_call 99;refine HO.out.mono ?_;rintro e w' ⟨rfl,rfl⟩);go_ret;exact⟨rfl,rfl⟩
 | false =>
  rw[zK]at HO;go_enter func83,ntmps83;go_wp2_with (go_at_call 99;refine HO.out.mono ?_;rintro e w' ⟨rfl,rfl⟩);go_ret;exact⟨rfl,rfl⟩
theorem qh2(w:World):Calls prog 83 #[.pointer none] w fun e w'=>e=.returned (.int .i64 1)∧w=w':=by
 go_enter func83,ntmps83;go_wp2;go_ret;exact⟨rfl,rfl⟩
theorem pW (a c:Nat)(ha:a<2)(w:World):Calls prog 129 #[.agg #[.int .i64 (a:Int),.int .i64 (c:Int)]] w fun e w'=>e=.returned (.int .i64 ((1+a*72:Nat):Int))∧Below w.heap.size w w':=by
 have e1:(1:Int)+(a:Int)*72=((1+a*72:Nat):Int):=by omega
 have ha1:(a:Int)≤1:=by omega
 have E1:=QH e1;clear e1;go_enter func129,ntmps129;go_wp2;go_ret;exact⟨by rw[← E1.out];rfl,(Below.refl _ _).alloc (Nat.le_refl _) _⟩
end
def qc0 (l:List Wr)(w:World)(s i:Value)(wr:World):Prop :=
 ∃k:Nat,k≤l.length∧i=.int .i64 (k:Int)∧s=.string (str (zn l.length++((l.take k).map wB).flatten))∧Below w.heap.size w wr
theorem qot(l:List Wr)(h60:l.length≤60)(h:∀x∈l,0≤x.1∧x.2.length=32)(k:Nat):(zn l.length++((l.take k).map wB).flatten).length≤3009:=by
 have h1:=qz l.length;have h2:=qkh (l.take k) (fun x hx=>(h x (List.mem_of_mem_take hx)).2);have h3:(l.take k).length≤60:=by simp;omega
 simp only[List.length_append];omega
def okT (t:Bt)(w:World)(e:Ending)(w':World):Prop:=e=.returned (.string (str t))∧Below w.heap.size w w'
theorem km (a:Option Addr)(c:Nat)(l:List Wr)(w:World)(hT:kY w a l)(h60:l.length≤60)(h:∀x∈l,0≤x.1∧x.2.length=32) :
    Calls prog 165 #[.slice a l.length c] w (okT (qZ l) w):=by
 have HT:=QH hT;have HL:=QH (qot l h60 h);have HX:=QH h;clear hT h;go_enter func165,ntmps165;go_wp2_with fail;refine(jz ⟨#[]⟩ l.length w (by omega) (by decide)).mono ?_;rintro e W1 ⟨rfl,b1⟩;have B1:=QH b1;clear b1;obtain⟨s1,hs1⟩:=QE (str (bl ⟨#[]⟩++zn l.length));rw[hs1];have eJ:=QH hs1;clear hs1;go_wp2_with fail;go_loopw [3,12] (fun s i wr=>qc0 l w s i wr) (fun _ i _=>l.length-(intOf i).toNat);case atStart=>exact⟨0,Nat.zero_le _,rfl,by rw[← eJ.out];simp[bl],B1.out⟩
 case round =>
  obtain⟨k,hk,rfl,rfl,hB⟩:=hrel;have HB:=QH hB;clear hB B1;by_cases hlt:k<l.length
  ·obtain⟨b,o,rfl,hb,q0,q1,qb⟩:=HT.out k hlt;have hx:=HX.out l[k] (List.getElem_mem hlt);have hstep:((l.take (k+1)).map wB).flatten=((l.take k).map wB).flatten++wB l[k]:=by rw[List.take_succ_eq_append_getElem hlt,List.map_append,List.flatten_append];simp
   have HST:=QH hstep;have HLk:=QH (HL.out k);clear hstep;generalize hxx:l[k]=x at *;obtain⟨n,hn⟩:=Int.eq_ofNat_of_zero_le hx.1;have e0:wr.cell? ⟨b,o+k*2,none⟩=some (.int .i64 (n:Int)):=by rw[HB.out.cell (p:=⟨b,o+k*2,none⟩) hb,q0,hn]
   have e1:wr.cell? ⟨b,o+k*2+1,none⟩=some (.string (str x.2)):=by rw[HB.out.cell (p:=⟨b,o+k*2+1,none⟩) hb];exact q1
   have q3y:(n:Int)≤9223372036854775807:=by have:=qb.2;omega
   have hb2:b<wr.heap.size:=Nat.lt_of_lt_of_le hb HB.out.size;obtain⟨S,hS⟩:=QE (str (zn l.length++((l.take k).map wB).flatten));have hSs:S.size≤3009:=by rw[← hS,qO];exact HLk.out
   rw[hS];have HS:=QH hS;have tY:=QH hx.2;have HN:=QH hn;have oz:(k:Int)<(l.length:Int):=by omega
   clear q0 q1 qb hS hn hx hxx;go_wp2_with fail;refine(jz S n _ (by omega) (by omega)).mono ?_;rintro e W2 ⟨rfl,b2⟩;have hA:qg (wr.alloc (.cells #[.int .i64 (n:Int),.string (str x.2)] 182)) wr.heap.size _ _:=qg.new wr _ _;have hA2:qg W2 wr.heap.size _ _:=hA.of_block (b2.block _ hA.lt);have q2:=hA2.cell 1;have lt2:=hA2.lt;have B2:=QH (q9 (HB.out.alloc HB.out.size _) b2);clear b2 hA hA2;obtain⟨S2,sH⟩:=QE (str (bl S++zn n));have hl9:=qz n;have q3z:S2.size≤3020:=by rw[← sH,qO,List.length_append,zq];omega
   rw[sH];have uk:=QH sH;clear sH;go_wp2_with fail;refine(qb0 S2 (str x.2) _ (by omega) (by rw[qO,tY.out];omega)).mono ?_;rintro e W3 ⟨rfl,b3⟩;have B3:=QH (q9 B2.out b3);clear b3 B2;obtain⟨S3,hS3⟩:=QE (str (bl S2++fJ (bl (str x.2))));rw[hS3];have rR:=QH hS3;clear hS3;go_wp2_with fail;go_roundw;case rel =>
    refine⟨k+1,by omega,by go_num,?_,B3.out⟩;rw[← rR.out,← uk.out,← HS.out,HST.out,zo,zo,zo];have:x.1.toNat=n:=by rw[HN.out];rfl
    simp[wB,this]
   case measure=>simp[intOf];omega
  ·obtain rfl:k=l.length:=by omega
   go_wp2_with fail;go_ret;refine⟨?_,HB.out⟩;rw[List.take_length];rfl
end Go.Proofs.YtdagdllomphidaaGreatDoor.jr
namespace Go.Proofs.YtdagdllomphidaaGreatDoor.jr
open _root_.Go.Proofs.Tryz Go Go.RowKit dk wi
theorem qkZ:(prog.info? 201).map (fun i=>(i.zero,i.size,i.bytes))=some (some .nilFunc,1,8):=by kernel_rfl
def aV (p:Nat):Value:=.func (.func 131) #[.pointer (some ⟨p,0,none⟩)] #[]
def vX (p:Nat):Value:=.func (.func 132) #[.pointer (some ⟨p,0,none⟩)] #[]
def gZ (gw gi:Nat):Value:=.func (.func 133) #[] #[.pointer (some ⟨gw,0,none⟩),.pointer (some ⟨gi,0,none⟩)]
def il (w:World)(B p:Nat):Step→Value→Prop
 | .f,v=>v=vX p
 | .w k x,v=>∃gw gi,v=gZ gw gi∧B≤gw∧B≤gi∧qg w gw 46 #[aV p]∧qg w gi 182 #[.int .i64 k,.string (str x)]
def dc (w:World)(B p:Nat)(ss:List Step)(vs:List Value):Prop:=ss.length=vs.length∧∀(j:Nat) (s:Step) (v:Value),ss[j]?=some s→vs[j]?=some v→il w B p s v
def jM (w w':World):Prop:=∀g t cs,t≠201→qg w g t cs→qg w' g t cs
theorem jM.below{w w':World}(h:Below w.heap.size w w'):jM w w':=fun _ _ _ _ hb=>hb.of_block (h.block _ hb.lt)
theorem jM.trans{a b c:World}(h:jM a b)(k:jM b c):jM a c:=fun g t cs ht hb=>k g t cs ht (h g t cs ht hb)
theorem jM.grown{w w':World}{B n:Nat}{v:Value}{xs:List Value}(ho:w.ownsRow B 201 1 v n xs)(h:w.grownBy w' v.ownBlock):jM w w':=fun g t cs ht hb=>by
 refine hb.of_block (h.block g hb.lt ?_);rcases ho.2 with⟨rfl,_⟩|⟨q,cap,cur,rfl,_,hh,_⟩
 ·simp[Value.ownBlock]
 ·simp only[Value.ownBlock,Option.some.injEq,ne_eq];rintro rfl;unfold qg at hb;rw[hb]at hh;simp only[Option.some.injEq,Obj.cells.injEq]at hh;exact ht hh.2.1
theorem il.keep{w w':World}{B p:Nat}{s:Step}{v:Value}(h:il w B p s v)(hk:jM w w'):il w' B p s v:=by
 cases s with
 | f=>exact h
 | w k x =>
  obtain⟨gw,gi,h1,h2,h3,h4,h5⟩:=h;exact⟨gw,gi,h1,h2,h3,hk _ _ _ (by decide) h4,hk _ _ _ (by decide) h5⟩
theorem dc.keep{w w':World}{B p:Nat}{ss:List Step}{vs:List Value}(h:dc w B p ss vs)(hk:jM w w'):dc w' B p ss vs:=⟨h.1,fun j s v hs hv=>(h.2 j s v hs hv).keep hk⟩
theorem dc.snoc{w:World}{B p:Nat}{ss:List Step}{vs:List Value}{s:Step}{v:Value}(h:dc w B p ss vs)(hs:il w B p s v):dc w B p (ss++[s]) (vs++[v]):=by
 refine⟨by simp[h.1],fun j t u ht hu=>?_⟩;by_cases hj:j<ss.length
 ·rw[List.getElem?_append_left hj]at ht;rw[List.getElem?_append_left (by rw[← h.1];exact hj)]at hu;exact h.2 j t u ht hu
 ·rw[List.getElem?_append_right (by omega)]at ht;rw[List.getElem?_append_right (by rw[← h.1];omega)]at hu;rw[h.1]at ht;cases hq:j-vs.length with
  | zero =>
   rw[hq]at ht hu;simp at ht hu;subst ht hu;exact hs
  | succ m =>
   rw[hq]at ht;simp at ht
def qb1 (w:World)(a:Option Addr)(bs:List (List Wr)):Prop :=
 ∀i (h:i<bs.length),∃b o A c,a=some ⟨b,o,none⟩∧b<w.heap.size∧w.cell? ⟨b,o+i,none⟩=some (.slice A bs[i].length c)∧kY w A bs[i]
theorem sX (bs:List (List Wr))(k:Nat)(h:k<bs.length):qF (bs.take (k+1))=qF (bs.take k)++(jv bs[k]++[.f]):=by
 have key:∀(x y:List (List Wr)),qF (x++y)=qF x++qF y:=by
  intro x y
  induction x with
  | nil=>rfl
  | cons l r ih=>simp[qF,ih]
 rw[List.take_succ_eq_append_getElem h,key];simp[qF]
theorem qh3(l:List Wr)(k:Nat)(h:k<l.length):jv (l.take (k+1))=jv (l.take k)++[.w l[k].1 l[k].2]:=by
 unfold jv;rw[List.take_succ_eq_append_getElem h,List.map_append];rfl
theorem qqk(l:List Wr):(jv l).length=l.length:=by simp[jv]
theorem iq:∀(bs:List (List Wr)),(∀l∈bs,l.length≤1000)→(qF bs).length≤1001*bs.length
 | [],_=>by simp[qF]
 | l::r,h=>by
  have h1:=h l (by simp);have h2:=iq r (fun m hm=>h m (by simp[hm]));simp only[qF,List.length_append,List.length_cons,qqk];omega
def oA (w:World)(p:Nat)(ss:List Step)(v:Value)(wr:World):Prop :=
 ∃vs,wr.ownsRow w.heap.size 201 1 v vs.length vs∧dc wr w.heap.size p ss vs∧qg wr w.heap.size 46 #[aV p]∧Below w.heap.size w wr
def quq (w:World)(p:Nat)(bs:List (List Wr))(v i:Value)(wr:World):Prop :=
 ∃k:Nat,k≤bs.length∧i=.int .i64 (k:Int)∧oA w p (qF (bs.take k)) v wr
def qyp (w:World)(p:Nat)(pre:List Step)(l:List Wr)(v i:Value)(wr:World):Prop :=
 ∃k:Nat,k≤l.length∧i=.int .i64 (k:Int)∧oA w p (pre++jv (l.take k)) v wr
def qou (p:Nat)(ss:List Step)(w:World)(e:Ending)(w':World):Prop:=∃v,e=.returned v∧oA w p ss v w'
theorem cI (w:World)(t:TypeId)(v:Value):∀(j:Nat) (u:Value),([v]:List Value)[j]?=some u→(w.alloc (.cells #[v] t)).cell? ((⟨w.heap.size,0,none⟩:Addr).add j)=some u:=by
 intro j u hj
 match j,hj with
 | 0,hj =>
  simp at hj;subst hj;rw[addr_add];exact(qg.new w t #[v]).cell 0
theorem qfs(f:Fn)(a b:Array Value):∀u∈([Value.func f a b]:List Value),u.oneCell'=true:=by
 intro u hu;simp at hu;subst hu;rfl
theorem oA.more{w wr w1:World}{p:Nat}{ss:List Step}{v':Value}{vs:List Value}{s:Step}{u:Value}(hs:dc wr w.heap.size p ss vs)(hk:qg wr w.heap.size 46 #[aV p])
    (gY:jM wr w1) (hu:il w1 w.heap.size p s u) (hown:w1.ownsRow w.heap.size 201 1 v' (vs.length+1) (vs++[u])) (hB:Below w.heap.size w w1):oA w p (ss++[s]) v' w1 :=
 ⟨vs++[u],by rw[List.length_append];exact hown,(hs.keep gY).snoc hu,gY _ _ _ (by decide) hk,hB⟩
theorem df (p:Nat)(a:Option Addr)(c:Nat)(bs:List (List Wr))(w:World)(hp:p<w.heap.size)(hT:qb1 w a bs)(hl:bs.length≤10)(hl2:∀l∈bs,l.length≤1000) :
    Calls prog 88 #[.pointer (some ⟨p,0,none⟩),.slice a bs.length c] w (qou p (qF bs) w):=by
 obtain⟨i0,hi,hz0,hz1,hz2⟩:=info_parts qkZ;have HT:=QH hT;have rU:=QH hl2;clear hT hl2;go_enter func88,ntmps88;go_wp2_with fail;have k0:qg (w.alloc (.cells #[aV p] 46)) w.heap.size _ _:=qg.new w _ _;have b0:Below w.heap.size w (w.alloc (.cells #[aV p] 46)):=(Below.refl w.heap.size w).alloc (Nat.le_refl _) _;go_loopw [7,18] (fun v i wr=>quq w p bs v i wr) (fun _ i _=>bs.length-(intOf i).toNat);case atStart=>exact⟨0,Nat.zero_le _,rfl,[],World.ownsRow_nil _ _ _ _,⟨rfl,fun j s v h=>by simp[qF]at h⟩,k0,b0⟩
 case round =>
  clear k0 b0;obtain⟨k,hk,rfl,hg⟩:=hrel;have HG:=QH hg;clear hg;by_cases hlt:k<bs.length
  ·obtain⟨b,o,A,cc,rfl,hb,hc,hW⟩:=HT.out k hlt;have hst:=sX bs k hlt;have hlen:=rU.out bs[k] (List.getElem_mem hlt);generalize bs[k]=l at *;have hc2:wr.cell? ⟨b,o+k,none⟩=some (.slice A l.length cc):=by obtain⟨_,_,_,_,hB⟩:=HG.out;rw[hB.cell (p:=⟨b,o+k,none⟩) hb];exact hc
   have hb2:b<wr.heap.size:=by obtain⟨_,_,_,_,hB⟩:=HG.out;exact Nat.lt_of_lt_of_le hb hB.size
   have oz:(k:Int)<(bs.length:Int):=by omega
   have HW:=QH hW;have HST:=QH hst;clear hc hW hst;go_wp2_with fail;obtain⟨wo,rfl⟩:∃wo:World,wo=wr:=⟨_,rfl⟩;go_loopw [7,24] (fun v i wr=>qyp w p (qF (bs.take k)) l v i wr) (fun _ i _=>l.length-(intOf i).toNat);case atStart=>exact⟨0,Nat.zero_le _,rfl,by simpa[jv]using HG.out⟩
   case round =>
    obtain⟨j,hj,rfl,vs,hown,hsv,hk5,hB⟩:=hrel;have HO:=QH hown;have HS:=QH hsv;have HK:=QH hk5;have HB:=QH hB;clear hown hsv hk5 hB;have hvl:vs.length≤100000:=by
     have h1:=HS.out.1;have h2:=iq (bs.take k) (fun m hm=>rU.out m (List.mem_of_mem_take hm));have h3:(bs.take k).length≤10:=by simp;omega
     have h4:(jv (l.take j)).length≤1000:=by rw[qqk];simp;omega
     rw[List.length_append]at h1;omega
    by_cases hjl:j<l.length
    ·obtain⟨bb,oo,rfl,hbb,q0,q1,qb⟩:=HW.out j hjl;have ov:=qh3 l j hjl;generalize l[j]=x at *;have e0:wr.cell? ⟨bb,oo+j*2,none⟩=some (.int .i64 x.1):=by rw[HB.out.cell (p:=⟨bb,oo+j*2,none⟩) hbb];exact q0
     have e1:wr.cell? ⟨bb,oo+j*2+1,none⟩=some (.string (str x.2)):=by rw[HB.out.cell (p:=⟨bb,oo+j*2+1,none⟩) hbb];exact q1
     have q31:bb<wr.heap.size:=Nat.lt_of_lt_of_le hbb HB.out.size;have qur:(j:Int)<(l.length:Int):=by omega
     have HWS:=QH ov;have hB1:Below w.heap.size w (wr.alloc (.cells #[.int .i64 x.1,.string (str x.2)] 182)):=HB.out.alloc HB.out.size _;have hB2:Below w.heap.size w ((wr.alloc (.cells #[.int .i64 x.1,.string (str x.2)] 182)).alloc (.cells #[gZ w.heap.size wr.heap.size] 201)):=hB1.alloc hB1.size _;have hown2:=(HO.out.alloc (.cells #[.int .i64 x.1,.string (str x.2)] 182)).alloc (.cells #[gZ w.heap.size wr.heap.size] 201);have hnews:=cI (wr.alloc (.cells #[.int .i64 x.1,.string (str x.2)] 182)) 201 (gZ w.heap.size wr.heap.size);have qlb:(wr.alloc (.cells #[.int .i64 x.1,.string (str x.2)] 182)).heap.size=wr.heap.size+1:=by simp
     rw[qlb]at hnews;have uF:=QH hown2;have fu:=QH hnews;have qG:=QH hB2;have hkp:jM wr ((wr.alloc (.cells #[.int .i64 x.1,.string (str x.2)] 182)).alloc (.cells #[gZ w.heap.size wr.heap.size] 201)):=jM.below ((zv (Below.refl _ wr) _).alloc (by simp) _);have hgi:qg ((wr.alloc (.cells #[.int .i64 x.1,.string (str x.2)] 182)).alloc (.cells #[gZ w.heap.size wr.heap.size] 201)) wr.heap.size 182 #[.int .i64 x.1,.string (str x.2)]:=(qg.new wr _ _).of_block (Below.heap_alloc _ _ _ (by simp));have HKP:=QH hkp;have HGI:=QH hgi;clear q0 q1 qb ov hB1 hB2 hown2 hnews qlb hkp hgi;go_wp2_with (at_builtin;refine wpList_append_own _ rfl (.tmp 28) (.tmp 30) 156 rfl w.heap.size 201 i0 .nilFunc 1 8 underlying156 hi hz0 hz1 hz2 rfl (by decide) _ vs.length _ rfl uF.out ⟨wr.heap.size+1,0,none⟩ 1 1 [gZ w.heap.size wr.heap.size] rfl rfl fu.out (qfs _ _ _) ?_ ?_ qG.out.size ?_)
     ·unfold maxLen;omega
     ·omega
     ·intro v' w1 hown1 hgrow _;have qh4:=HKP.out.trans (jM.grown uF.out hgrow);have hb1:=qG.out.grown hgrow qG.out.size (fun j hj=>(uF.out.lt j hj).1);have qyq:il w1 w.heap.size p (.w x.1 x.2) (gZ w.heap.size wr.heap.size):=⟨_,_,rfl,Nat.le_refl _,HB.out.size,qh4 _ _ _ (by decide) HK.out,jM.grown uF.out hgrow _ _ _ (by decide) HGI.out⟩;have hgm:=oA.more HS.out HK.out qh4 qyq hown1 hb1;have HGM:=QH hgm;clear qh4 hb1 qyq hgm hown1 hgrow;go_wp2_with fail;go_roundw;case rel=>exact⟨j+1,by omega,by go_num,by rw[HWS.out,← List.append_assoc];exact HGM.out⟩
      case measure=>simp[intOf];omega
    ·obtain rfl:j=l.length:=by omega
     have hB2:Below w.heap.size w (wr.alloc (.cells #[vX p] 201)):=HB.out.alloc HB.out.size _;have hown2:=HO.out.alloc (.cells #[vX p] 201);have hnews:=cI wr 201 (vX p);have uF:=QH hown2;have fu:=QH hnews;have qG:=QH hB2;have HKP:=QH (jM.below (zv (Below.refl _ wr) (.cells #[vX p] 201)));clear hB2 hown2 hnews;go_wp2_with (at_builtin;refine wpList_append_own _ rfl (.tmp 33) (.tmp 35) 156 rfl w.heap.size 201 i0 .nilFunc 1 8 underlying156 hi hz0 hz1 hz2 rfl (by decide) _ vs.length _ rfl uF.out ⟨wr.heap.size,0,none⟩ 1 1 [vX p] rfl rfl fu.out (qfs _ _ _) ?_ ?_ qG.out.size ?_)
     ·unfold maxLen;omega
     ·omega
     ·intro v' w1 hown1 hgrow _;have qh4:=HKP.out.trans (jM.grown uF.out hgrow);have hb1:=qG.out.grown hgrow qG.out.size (fun j hj=>(uF.out.lt j hj).1);have hgm:=oA.more (s:=.f) HS.out HK.out qh4 rfl hown1 hb1;have HGM:=QH hgm;clear qh4 hb1 hgm hown1 hgrow;go_wp2_with fail;go_roundw;case rel=>exact⟨k+1,by omega,by go_num,by rw[HST.out];have:=HGM.out;rw[List.take_length,List.append_assoc]at this;exact this⟩
      case measure=>simp[intOf];omega
  ·obtain rfl:k=bs.length:=by omega
   go_wp2_with fail;go_ret;have:=HG.out;rw[List.take_length]at this;exact⟨_,rfl,this⟩
def qft (w:World)(B p:Nat)(a:Option Addr)(ss:List Step):Prop :=
 ∀(j:Nat) (s:Step),ss[j]?=some s→∃b v,a=some ⟨b,0,none⟩∧B≤b∧b<w.heap.size∧w.cell? ⟨b,j,none⟩=some v∧il w B p s v
theorem oA.view{w wr:World}{p:Nat}{ss:List Step}{v:Value}(h:oA w p ss v wr):∃a c,v=.slice a ss.length c∧qft wr w.heap.size p a ss:=by
 obtain⟨vs,ho,hs,_,_⟩:=h;rcases ho.2 with⟨rfl,h0⟩|⟨g,cap,cur,rfl,hg,hh,hcc,hm,hcs,xt⟩
 ·have hn:ss=[]:=List.length_eq_zero_iff.1 (by rw[hs.1];exact h0);subst hn;exact⟨none,0,rfl,fun j s h=>by simp at h⟩
 ·refine⟨some ⟨g,0,none⟩,cap,by rw[hs.1],fun j s hj=>?_⟩;have hjl:j<ss.length:=(List.getElem?_eq_some_iff.1 hj).1;have hjv:j<vs.length:=by rw[← hs.1];exact hjl
  have hv:vs[j]?=some vs[j]:=List.getElem?_eq_getElem hjv;refine⟨g,vs[j],rfl,hg,(Array.getElem?_eq_some_iff.1 hh).1,?_,hs.2 j s _ hj hv⟩;have:=cell_of_row wr g j cur 201 (0,0) hh;rw[this];have h2:cur.toList[j]?=some vs[j]:=by
   have h3:(cur.toList.take (vs.length*1))[j]?=some vs[j]:=by rw[xt];exact hv
   rw[List.getElem?_take]at h3;split at h3
   ·exact h3
   ·cases h3
  simpa using h2
section
variable {most:Nat} {w:World} {G:Nat→Prop} {p:Nat} {d:DD}
theorem qlc(hI:InG most w G p d)(hG:∀k,w.heap.size≤k→G k)(hm:d.more.length<most)(yF:most≤100000)(k:Int)(x:Bt)(gw gi:Nat)(hw:qg w gw 46 #[aV p])(hi:qg w gi 182 #[.int .i64 k,.string (str x)]) :
    Calls prog 133 #[.pointer (some ⟨gw,0,none⟩),.pointer (some ⟨gi,0,none⟩)] w (mW most G p (d.write k x).2 (.int .i64 (d.write k x).1) w):=by
 have e0:=hw.cell 0;have l0:=hw.lt;have e1:=hi.cell 0;have e2:=hi.cell 1;have l1:=hi.lt;have HI:=QH hI;unfold aV at e0;clear hw hi hI;go_enter func133,ntmps133;go_wp2_with fail;refine(qoq HI.out hG hm yF k (str x) x (zo x) _ _ rfl rfl).mono ?_;rintro e W1 ⟨rfl,i1,b1⟩;have H1:Hid (InG most W1 G p (d.write k x).2∧qB G w W1):=⟨i1,b1⟩;clear i1 b1;go_wp2_with fail;go_ret;exact⟨rfl,H1.out⟩
theorem qdL(d:DD)(s:Step):(jx d s).2.more.length≤d.more.length+1:=by
 cases s with
 | w k v=>exact qdj d k v
 | f =>
  have ho:=(xF d).2.1;unfold jx DD.flush;dsimp only;split
  ·simp
  ·split <;> simp[ho]
def qus (most:Nat)(w:World)(G:Nat→Prop)(p:Nat)(ss:List Step)(d:DD)(i:Value)(wr:World):Prop :=
 ∃(k:Nat) (e:DD),k≤ss.length∧i=.int .i64 (k:Int)∧InG most wr G p e∧qB G w wr∧gG ss d=gG (ss.drop k) e∧e.more.length≤d.more.length+k
theorem qov(B:Nat)(ss:List Step)(a:Option Addr)(c:Nat)(hI:InG most w G p d)(hG:∀k,w.heap.size≤k→G k)(qyr:∀k,B≤k→k<w.heap.size→¬ G k)(hs:qft w B p a ss)(hm:d.more.length+ss.length≤most)(yF:most≤100000) :
    Calls prog 87 #[.slice a ss.length c] w (mW most G p (gG ss d).2 (.int .i64 (gG ss d).1) w):=by
 have HS:=QH hs;have HI:=QH hI;have HG:=QH hG;have HD:=QH qyr;clear hs hI hG qyr;go_enter func87,ntmps87;go_wp2_with fail;go_loopw [8] (fun i wr=>qus most w G p ss d i wr) (fun i _=>ss.length-(intOf i).toNat);case atStart=>exact⟨0,d,Nat.zero_le _,rfl,HI.out,qB.refl _ _,by rw[List.drop_zero],Nat.le_refl _⟩
 case round =>
  obtain⟨k,e,hk,rfl,hi,hb,hrun,hml⟩:=hrel;have H1:=QH hi;have HB:=QH hb;have HR:=QH hrun;have hG1:∀k,wr.heap.size≤k→G k:=fun j hj=>HG.out j (Nat.le_trans hb.size hj);have HG1:=QH hG1;clear hi hb hrun hG1;by_cases hlt:k<ss.length
  ·have hsk:ss[k]?=some ss[k]:=List.getElem?_eq_getElem hlt;obtain⟨b,v,rfl,hBb,hbl,hcell,hv⟩:=HS.out k ss[k] hsk;have qqm:ss.drop k=ss[k]::ss.drop (k+1):=List.drop_eq_getElem_cons hlt;have hsm:=qdL e ss[k];rw[qqm]at HR;generalize ss[k]=s at *;have hc1:wr.cell? ⟨b,k,none⟩=some v:=by
    rw[World.cell?_of_block (a:=⟨b,k,none⟩) (HB.out.block b hbl (HD.out b hBb hbl))];exact hcell
   have q9F:b<wr.heap.size:=Nat.lt_of_lt_of_le hbl HB.out.size;have oz:(k:Int)<(ss.length:Int):=by omega
   have qb2:(∃gw gi,v=gZ gw gi∧Calls prog 133 #[.pointer (some ⟨gw,0,none⟩),.pointer (some ⟨gi,0,none⟩)] wr (mW most G p (jx e s).2 (.int .i64 (jx e s).1) wr)) ∨
       (v=vX p∧Calls prog 132 #[.pointer (some ⟨p,0,none⟩)] wr (mW most G p (jx e s).2 (.int .i64 (jx e s).1) wr)):=by
    cases s with
    | f=>exact .inr ⟨hv,qor H1.out HG1.out _ _ rfl rfl⟩
    | w kk x =>
     obtain⟨gw,gi,h1,h2,h3,h4,h5⟩:=hv;exact .inl ⟨gw,gi,h1,qlc H1.out HG1.out (by omega) yF kk x gw gi (h4.of_block (HB.out.block gw h4.lt (HD.out gw h2 h4.lt))) (h5.of_block (HB.out.block gi h5.lt (HD.out gi h3 h5.lt)))⟩
   have fU:gG (s::ss.drop (k+1)) e=if (jx e s).1=0 then gG (ss.drop (k+1)) (jx e s).2 else jx e s:=rfl
   rw[fU]at HR;have HC:=QH qb2;clear qb2 fU hv hcell hsk qqm;obtain⟨r,hr⟩:=QE ((jx e s).1);obtain⟨e2,oU⟩:=QE ((jx e s).2);rw[hr,oU]at HC HR;rw[oU]at hsm;have hse:jx e s=(r,e2):=by rw[← hr,← oU]
   rw[hse]at HR;clear hr oU hse;by_cases h0:r=0
   ·subst h0;rw[if_pos rfl]at HR;rcases HC.out with⟨gw,gi,rfl,hcc⟩|⟨rfl,hcc⟩;all_goals
     have HCC:=QH hcc;clear hcc HC;simp only[gZ,vX]at hc1;go_wp2_with fail;refine HCC.out.mono ?_;rintro x W2 ⟨rfl,i2,b2⟩;have H2:=QH i2;have qG:=QH (HB.out.trans b2 (fun i hi=>.inl hi));clear i2 b2;go_wp2_with fail;go_roundw;case rel=>exact⟨k+1,e2,by omega,by go_num,H2.out,qG.out,HR.out,by omega⟩
     case measure=>simp[intOf];omega
   ·have hne:((r:Int) != 0)=true:=by simpa using h0
    rw[if_neg h0]at HR;rcases HC.out with⟨gw,gi,rfl,hcc⟩|⟨rfl,hcc⟩;all_goals
     have HCC:=QH hcc;clear hcc HC;simp only[gZ,vX]at hc1;go_wp2_with fail;refine HCC.out.mono ?_;rintro x W2 ⟨rfl,i2,b2⟩;have H2:=QH i2;have qG:=QH (HB.out.trans b2 (fun i hi=>.inl hi));clear i2 b2;go_wp2_with fail;go_ret;rw[HR.out];exact⟨rfl,H2.out,qG.out⟩
  ·obtain rfl:k=ss.length:=by omega
   go_wp2_with fail;go_ret;rw[HR.out,List.drop_length];exact⟨rfl,H1.out,HB.out⟩
end
end Go.Proofs.YtdagdllomphidaaGreatDoor.jr
namespace Go.Proofs.YtdagdllomphidaaGreatDoor.jr
open _root_.Go.Proofs.Tryz Go Go.RowKit dk wi
theorem vG:(prog.info? 3).map (fun i=>(i.zero,i.size,i.bytes))=some (some (.int .i64 0),1,8):=by kernel_rfl
theorem qld:(prog.info? 182).map (fun i=>(i.zero,i.size,i.bytes))=some (some (.agg #[.int .i64 0,.string ByteArray.empty]),2,24):=by kernel_rfl
section
variable {most:Nat} {w W1:World} {own:Nat→Prop} {p:Nat} {d:DD} {ss:List Step} {v:Value}
theorem fz (h:zj most w own p d)(hg:oA w p ss v W1)(hm:d.more.length+ss.length≤most)(yF:most≤100000) :
    Calls prog 87 #[v] W1 (xd most own p (gG ss d).2 (.int .i64 (gG ss d).1) w):=by
 obtain⟨A,c,rfl,hst⟩:=hg.view;obtain⟨_,_,_,_,hB⟩:=hg;have hI:InG most W1 (fun k=>own k∨W1.heap.size≤k) p d:=⟨own,h.below hB,fun k hk=>.inl hk⟩;refine(qov w.heap.size ss A c hI (fun k hk=>.inr hk) (fun k h1 h2 h3=>?_) hst hm yF).mono ?_
 ·rcases h3 with h3|h3
  ·have:=h.low k h3;omega
  ·omega
 ·rintro e W2 ⟨rfl,⟨vN,h1,h2⟩,h3⟩;refine⟨rfl,vN,h1,?_,fun k hk=>?_⟩
  ·refine⟨h3.os.trans hB.os,h3.tape.trans hB.tape,h3.output.trans hB.output,Nat.le_trans hB.size h3.size,fun k hk hn=>?_⟩;rw[h3.block k (Nat.lt_of_lt_of_le hk hB.size) (fun g=>?_),hB.block k hk];rcases g with g|g
   ·exact hn g
   ·have:=hB.size;omega
  ·rcases h2 k hk with g|g
   ·exact .inl g
   ·exact .inr (Nat.le_trans hB.size g)
theorem xd.from{w0 w:World}{r:Value}{e:Ending}{w':World}(h:xd most own p d r w e w')(hb:Below w0.heap.size w0 w)(xE:∀k,own k→k<w0.heap.size):xd most own p d r w0 e w':=by
 obtain⟨rfl,vN,h1,h2,h3⟩:=h;refine⟨rfl,vN,h1,⟨h2.os.trans hb.os,h2.tape.trans hb.tape,h2.output.trans hb.output,Nat.le_trans hb.size h2.size,fun k hk hn=>?_⟩,fun k hk=>?_⟩
 ·rw[h2.block k (Nat.lt_of_lt_of_le hk hb.size) hn,hb.block k hk]
 ·rcases h3 k hk with g|g
  ·exact .inl g
  ·exact .inr (Nat.le_trans hb.size g)
end
def zu (w:World)(B:Nat)(v:Value)(zs:List Int):Prop:=w.ownsRow B 3 1 v zs.length (zs.map (Value.int .i64))
def qle (w:World)(bs:List (List Wr))(v i:Value)(wr:World):Prop :=
 ∃k:Nat,k≤bs.length∧i=.int .i64 (k:Int)∧zu wr w.heap.size v (placesOf (bs.take k))∧Below w.heap.size w wr
def qut (w:World)(pre:List Int)(l:List Wr)(v i:Value)(wr:World):Prop :=
 ∃k:Nat,k≤l.length∧i=.int .i64 (k:Int)∧zu wr w.heap.size v (pre++(l.take k).map (·.1))∧Below w.heap.size w wr
theorem oB (bs:List (List Wr))(k:Nat)(h:k<bs.length):placesOf (bs.take (k+1))=placesOf (bs.take k)++bs[k].map (·.1):=by
 unfold placesOf;rw[List.take_succ_eq_append_getElem h,List.flatten_append,List.map_append];simp
theorem vY:∀(bs:List (List Wr)),(∀l∈bs,l.length≤1000)→(placesOf bs).length≤1000*bs.length
 | [],_=>by simp[placesOf]
 | l::r,h=>by
  have h1:=h l (by simp);have h2:=vY r (fun m hm=>h m (by simp[hm]));simp only[placesOf,List.flatten_cons,List.map_append,List.length_append,List.length_map,List.length_cons]at h2 ⊢;omega
theorem qow(z:Int):∀u∈([Value.int .i64 z]:List Value),u.oneCell'=true:=by
 intro u hu;simp at hu;subst hu;rfl
def ye (zs:List Int)(w:World)(e:Ending)(w':World):Prop:=∃v,e=.returned v∧zu w' w.heap.size v zs∧Below w.heap.size w w'
theorem zu.view{w:World}{B:Nat}{v:Value}{zs:List Int}(h:zu w B v zs)(hz:∀z∈zs,qD z):∃a c,v=.slice a zs.length c∧qJ w a zs:=by
 rcases h.2 with⟨rfl,h0⟩|⟨g,cap,cur,rfl,hg,hh,hcc,hm,hcs,xt⟩
 ·obtain rfl:zs=[]:=List.length_eq_zero_iff.1 h0;exact⟨none,0,rfl,fun i h=>by simp at h⟩
 ·refine⟨some ⟨g,0,none⟩,cap,rfl,fun i hi=>⟨g,0,rfl,(Array.getElem?_eq_some_iff.1 hh).1,?_,(hz _ (List.getElem_mem hi)).1,(hz _ (List.getElem_mem hi)).2⟩⟩;rw[Nat.zero_add,cell_of_row w g i cur 3 (0,0) hh];have h3:(cur.toList.take (zs.length*1))[i]?=some (.int .i64 zs[i]):=by rw[xt];simp[hi]
  rw[List.getElem?_take]at h3;split at h3
  ·simpa using h3
  ·cases h3
theorem kM (a:Option Addr)(c:Nat)(bs:List (List Wr))(w:World)(hT:qb1 w a bs)(hl:bs.length≤10)(hl2:∀l∈bs,l.length≤1000) :
    Calls prog 168 #[.slice a bs.length c] w (ye (placesOf bs) w):=by
 obtain⟨i0,hi,hz0,hz1,hz2⟩:=info_parts vG;have HT:=QH hT;have rU:=QH hl2;clear hT hl2;go_enter func168,ntmps168;go_wp2_with fail;go_loopw [3,10] (fun v i wr=>qle w bs v i wr) (fun _ i _=>bs.length-(intOf i).toNat);case atStart=>exact⟨0,Nat.zero_le _,rfl,World.ownsRow_nil _ _ _ _,Below.refl _ _⟩
 case round =>
  obtain⟨k,hk,rfl,ho0,hB0⟩:=hrel;have HO0:=QH ho0;have uj:=QH hB0;clear ho0 hB0;by_cases hlt:k<bs.length
  ·obtain⟨b,o,A,cc,rfl,hb,hc,hW⟩:=HT.out k hlt;have hst:=oB bs k hlt;have hlen:=rU.out bs[k] (List.getElem_mem hlt);generalize bs[k]=l at *;have hc2:wr.cell? ⟨b,o+k,none⟩=some (.slice A l.length cc):=by rw[uj.out.cell (p:=⟨b,o+k,none⟩) hb];exact hc
   have hb2:b<wr.heap.size:=Nat.lt_of_lt_of_le hb uj.out.size;have oz:(k:Int)<(bs.length:Int):=by omega
   have HW:=QH hW;have HST:=QH hst;clear hc hW hst;go_wp2_with fail;obtain⟨wo,rfl⟩:∃wo:World,wo=wr:=⟨_,rfl⟩;go_loopw [3,16] (fun v i wr=>qut w (placesOf (bs.take k)) l v i wr) (fun _ i _=>l.length-(intOf i).toNat);case atStart=>exact⟨0,Nat.zero_le _,rfl,by simpa using HO0.out,uj.out⟩
   case round =>
    obtain⟨j,hj,rfl,hown,hB⟩:=hrel;have HO:=QH hown;have HB:=QH hB;clear hown hB;have hvl:(placesOf (bs.take k)++(l.take j).map (·.1)).length≤100000:=by
     have h2:=vY (bs.take k) (fun m hm=>rU.out m (List.mem_of_mem_take hm));have h3:(bs.take k).length≤10:=by simp;omega
     rw[List.length_append,List.length_map,List.length_take];omega
    by_cases hjl:j<l.length
    ·obtain⟨bb,oo,rfl,hbb,q0,q1,qb⟩:=HW.out j hjl;have ov:(l.take (j+1)).map (·.1)=(l.take j).map (·.1)++[l[j].1]:=by rw[List.take_succ_eq_append_getElem hjl,List.map_append];rfl
     generalize l[j]=x at *;have e0:wr.cell? ⟨bb,oo+j*2,none⟩=some (.int .i64 x.1):=by rw[HB.out.cell (p:=⟨bb,oo+j*2,none⟩) hbb];exact q0
     have e1:wr.cell? ⟨bb,oo+j*2+1,none⟩=some (.string (str x.2)):=by rw[HB.out.cell (p:=⟨bb,oo+j*2+1,none⟩) hbb];exact q1
     have q31:bb<wr.heap.size:=Nat.lt_of_lt_of_le hbb HB.out.size;have qur:(j:Int)<(l.length:Int):=by omega
     have HWS:=QH ov;have hB1:Below w.heap.size w (wr.alloc (.cells #[.int .i64 x.1,.string (str x.2)] 182)):=HB.out.alloc HB.out.size _;have hB2:Below w.heap.size w ((wr.alloc (.cells #[.int .i64 x.1,.string (str x.2)] 182)).alloc (.cells #[.int .i64 x.1] 3)):=hB1.alloc hB1.size _;have hown2:=(HO.out.alloc (.cells #[.int .i64 x.1,.string (str x.2)] 182)).alloc (.cells #[.int .i64 x.1] 3);have hnews:=cI (wr.alloc (.cells #[.int .i64 x.1,.string (str x.2)] 182)) 3 (.int .i64 x.1);have qlb:(wr.alloc (.cells #[.int .i64 x.1,.string (str x.2)] 182)).heap.size=wr.heap.size+1:=by simp
     rw[qlb]at hnews;have uF:=QH hown2;have fu:=QH hnews;have qG:=QH hB2;clear q0 q1 qb ov hB1 hB2 hown2 hnews qlb;generalize hpl:placesOf (bs.take k)++(l.take j).map (·.1)=zs at *;go_wp2_with (at_builtin;refine wpList_append_own _ rfl (.tmp 20) (.tmp 23) 57 rfl w.heap.size 3 i0 (.int .i64 0) 1 8 underlying57 hi hz0 hz1 hz2 rfl (by decide) _ zs.length _ rfl uF.out ⟨wr.heap.size+1,0,none⟩ 1 1 [.int .i64 x.1] rfl rfl fu.out (qow _) ?_ ?_ qG.out.size ?_)
     ·unfold maxLen;omega
     ·omega
     ·intro v' w1 hown1 hgrow _;have hb1:=qG.out.grown hgrow qG.out.size (fun j hj=>(uF.out.lt j hj).1);have ho1:zu w1 w.heap.size v' (zs++[x.1]):=by unfold zu;rw[List.length_append,List.map_append];exact hown1
      have sT:=QH ho1;have zk:=QH hb1;clear hb1 ho1 hown1 hgrow;go_wp2_with fail;go_roundw;case rel=>exact⟨j+1,by omega,by go_num,by rw[HWS.out,← List.append_assoc,hpl];exact sT.out,zk.out⟩
      case measure=>simp[intOf];omega
    ·obtain rfl:j=l.length:=by omega
     go_wp2_with fail;go_roundw;case rel=>exact⟨k+1,by omega,by go_num,by rw[HST.out];have:=HO.out;rw[List.take_length]at this;exact this,HB.out⟩
     case measure=>simp[intOf];omega
  ·obtain rfl:k=bs.length:=by omega
   go_wp2_with fail;go_ret;have:=HO0.out;rw[List.take_length]at this;exact⟨_,rfl,this,uj.out⟩
end Go.Proofs.YtdagdllomphidaaGreatDoor.jr
namespace Go.Proofs.YtdagdllomphidaaGreatDoor.jr
open _root_.Go.Proofs.Tryz Go Go.RowKit dk wi
def zM:List Wr→List Value
 | []=>[]
 | x::r=>.int .i64 x.1 :: .string (str x.2)::zM r
def ir (w:World)(B:Nat)(v:Value)(l:List Wr):Prop:=w.ownsRow B 182 2 v l.length (zM l)
theorem uG:∀(l r:List Wr),zM (l++r)=zM l++zM r
 | [],_=>rfl
 | x::l,r=>by simp[zM,uG l r]
theorem yZ:∀l:List Wr,(zM l).length=l.length*2
 | []=>rfl
 | x::l=>by simp[zM,yZ l];omega
theorem kZ:∀(l:List Wr) (i:Nat) (h:i<l.length),(zM l)[i*2]?=some (.int .i64 l[i].1)∧(zM l)[i*2+1]?=some (.string (str l[i].2))
 | x::l,0,_=>⟨rfl,rfl⟩
 | x::l,i+1,h=>by
  have:=kZ l i (by simpa using h);rw[show(i+1)*2=i*2+1+1 from by omega];exact this
theorem ir.view{w:World}{B:Nat}{v:Value}{l:List Wr}(h:ir w B v l)(hz:∀x∈l,qD x.1):∃a c,v=.slice a l.length c∧kY w a l:=by
 rcases h.2 with⟨rfl,h0⟩|⟨g,cap,cur,rfl,hg,hh,hcc,hm,hcs,xt⟩
 ·obtain rfl:l=[]:=List.length_eq_zero_iff.1 h0;exact⟨none,0,rfl,fun i h=>by simp at h⟩
 ·refine⟨some ⟨g,0,none⟩,cap,rfl,fun i hi=>?_⟩;have key:∀(j:Nat) (u:Value),(zM l)[j]?=some u→w.cell? ⟨g,j,none⟩=some u:=by
   intro j u hu;rw[cell_of_row w g j cur 182 (0,0) hh];rw[← xt,List.getElem?_take]at hu;split at hu
   ·simpa using hu
   ·cases hu
  obtain⟨g0,g1⟩:=kZ l i hi;exact⟨g,0,rfl,(Array.getElem?_eq_some_iff.1 hh).1,by rw[Nat.zero_add];exact key _ _ g0,by rw[Nat.zero_add];exact key _ _ g1,hz _ (List.getElem_mem hi)⟩
theorem sY (x:Wr):∀u∈([Value.int .i64 x.1,.string (str x.2)]:List Value),u.oneCell'=true:=by
 intro u hu;simp at hu;rcases hu with rfl|rfl <;> rfl
theorem qlf(w:World)(t:TypeId)(v u:Value):∀(j:Nat) (x:Value),([v,u]:List Value)[j]?=some x→(w.alloc (.cells #[v,u] t)).cell? ((⟨w.heap.size,0,none⟩:Addr).add j)=some x:=by
 intro j x hj
 match j,hj with
 | 0,hj =>
  simp at hj;subst hj;rw[addr_add];exact(qg.new w t #[v,u]).cell 0
 | 1,hj =>
  simp at hj;subst hj;rw[addr_add];exact(qg.new w t #[v,u]).cell 1
theorem ir.snoc{w1:World}{B:Nat}{v':Value}{l:List Wr}{x:Wr}(h:w1.ownsRow B 182 2 v' (l.length+1) (zM l++[.int .i64 x.1,.string (str x.2)])):ir w1 B v' (l++[x]):=by
 unfold ir;rw[List.length_append,uG];exact h
theorem qlg{w:World}{B C:Nat}{v:Value}{l:List Wr}(h:ir w B v l)(hc:C≤B):ir w C v l:=by
 refine⟨h.1,?_⟩;rcases h.2 with hn|⟨g,cap,cur,hv,hb,rest⟩
 ·exact .inl hn
 ·exact .inr ⟨g,cap,cur,hv,Nat.le_trans hc hb,rest⟩
def q34 (l:List Wr)(w:World)(e:Ending)(w':World):Prop:=∃v,e=.returned v∧ir w' w.heap.size v l∧Below w.heap.size w w'
def quu (w:World)(o:Nat)(ss:List Bt)(v i:Value)(wr:World):Prop :=
 ∃k:Nat,k≤ss.length∧i=.int .i64 (k:Int)∧ir wr w.heap.size v (za o (ss.take k))∧Below w.heap.size w wr
theorem kr (a cnt:Nat)(ha:a<2)(A:Option Addr)(cc:Nat)(ss:List Bt)(w:World)(hT:yI w A ss)(hl:ss.length≤1000) :
    Calls prog 166 #[.agg #[.int .i64 (a:Int),.int .i64 (cnt:Int)],.slice A ss.length cc] w (q34 (lay a ss) w):=by
 obtain⟨i0,hi,hz0,hz1,hz2⟩:=info_parts qld;have HT:=QH hT;have qh5:=fun(W:World)=>pW a cnt ha W;unfold lay;have qyt:1+a*72≤73:=by omega
 obtain⟨o1,ho1⟩:=QE (1+a*72);rw[ho1]at qyt;simp only[ho1]at qh5;rw[ho1];have HF:=QH qh5;clear ho1 qh5;have kb:qg (w.alloc (.cells #[.int .i64 (a:Int),.int .i64 (cnt:Int)] 149)) w.heap.size _ _:=qg.new w _ _;clear hT;have k0:=kb.lt;have hb0:Below w.heap.size w (w.alloc (.cells #[.int .i64 (a:Int),.int .i64 (cnt:Int)] 149)):=(Below.refl w.heap.size w).alloc (Nat.le_refl _) _;go_enter func166,ntmps166;go_wp2_with fail;obtain⟨w0,hw0⟩:=QE (w.alloc (.cells #[.int .i64 (a:Int),.int .i64 (cnt:Int)] 149));rw[hw0]at kb k0 hb0;rw[hw0];clear hw0;have KB:=QH kb;have uj:=QH hb0;clear kb hb0;go_loopw [5,10] (fun v i wr=>quu w0 o1 ss v i wr) (fun _ i _=>ss.length-(intOf i).toNat);case atStart=>exact⟨0,Nat.zero_le _,rfl,World.ownsRow_nil _ _ _ _,Below.refl _ _⟩
 case round =>
  obtain⟨k,hk,rfl,ho,hB⟩:=hrel;have HO:=QH ho;have HB:=QH hB;clear ho hB;by_cases hlt:k<ss.length
  ·obtain⟨b,o,rfl,hb,hc⟩:=HT.out k hlt;have hsn:za o1 (ss.take (k+1))=za o1 (ss.take k)++[(((o1+k:Nat):Int),ss[k])]:=by
    rw[List.take_succ_eq_append_getElem hlt,aI];simp only[List.length_take];rw[Nat.min_eq_left (by omega)]
   have dB:(za o1 (ss.take k)).length=k:=by rw[qY];simp;omega
   generalize ss[k]=x at *;have jZ:=QH (uj.out.trans (HB.out.mono uj.out.size));have e0:wr.cell? ⟨b,o+k,none⟩=some (.string (str x)):=by rw[jZ.out.cell (p:=⟨b,o+k,none⟩) hb];exact hc
   have hb2:b<wr.heap.size:=Nat.lt_of_lt_of_le hb jZ.out.size;have hB2:=KB.out.of_block (HB.out.block _ k0);have q0:=hB2.cell 0;have q1:=hB2.cell 1;have lt2:=hB2.lt;have oz:(k:Int)<(ss.length:Int):=by omega
   have wM:=QH hsn;have az:=QH dB;clear hc hB2 hsn;go_wp2_with fail;refine(HF.out _).mono ?_;rintro e W1 ⟨rfl,b1⟩;have ho1:W1.ownsRow w0.heap.size 182 2 _ _ _:=ze HO.out (fun j hj=>b1.block j (jk HO.out j hj));have zk:=QH (HB.out.trans (b1.mono HB.out.size));have hown2:=ho1.alloc (.cells #[.int .i64 ((o1:Int)+(k:Int)),.string (str x)] 182);have hnews:=qlf W1 182 (.int .i64 ((o1:Int)+(k:Int))) (.string (str x));have uF:=QH hown2;have fu:=QH hnews;have qG:=QH (zk.out.alloc zk.out.size (.cells #[.int .i64 ((o1:Int)+(k:Int)),.string (str x)] 182));clear b1 ho1 hown2 hnews q0 q1;have hkb:k≤100000:=by omega
   go_wp2_with (at_builtin;refine wpList_append_own _ rfl (.tmp 15) (.tmp 22) 136 rfl w0.heap.size 182 i0 (.agg #[.int .i64 0,.string ByteArray.empty]) 2 24 underlying136 hi hz0 hz1 hz2 rfl (by decide) _ (za o1 (ss.take k)).length _ rfl uF.out ⟨W1.heap.size,0,none⟩ 1 1 [.int .i64 ((o1:Int)+(k:Int)),.string (str x)] rfl rfl fu.out (sY (((o1:Int)+(k:Int)),x)) ?_ ?_ qG.out.size ?_)
   ·rw[az.out];unfold maxLen;omega
   ·rw[az.out];omega
   ·intro v' w1 hown1 hgrow _;have hb1:=qG.out.grown hgrow qG.out.size (fun j hj=>(uF.out.lt j hj).1);have hos:=ir.snoc (w1:=w1) (B:=w0.heap.size) (v':=v') (l:=za o1 (ss.take k)) (x:=((o1:Int)+(k:Int),x)) (by rw[az.out];exact hown1);have HOS:=QH hos;have zf:=QH hb1;clear hb1 hos hown1 hgrow;go_wp2_with fail;go_roundw;case rel=>exact⟨k+1,by omega,by go_num,by rw[wM.out];exact HOS.out,zf.out⟩
    case measure=>simp[intOf];omega
  ·obtain rfl:k=ss.length:=by omega
   go_wp2_with fail;go_ret;have:=HO.out;rw[List.take_length]at this;refine⟨_,rfl,?_,uj.out.trans (HB.out.mono uj.out.size)⟩;exact qlg this uj.out.size
end Go.Proofs.YtdagdllomphidaaGreatDoor.jr
namespace Go.Proofs.YtdagdllomphidaaGreatDoor.vt.pg
open _root_.Go.Proofs.Tryz Go Go.RowKit ib mt im sp
abbrev Wr:=jr.Wr
theorem sZ:(prog.info? 182).map (fun i=>(i.zero,i.size,i.bytes))=some (some (.agg #[.int .i64 0,.string ByteArray.empty]),2,24):=by kernel_rfl
def wz (n:Nat):List Value:=jr.zM (List.replicate n (0,[]))
theorem qlh(n:Nat):(wz n).length=n*2:=by unfold wz;rw[jr.yZ,List.length_replicate]
theorem quv(n:Nat):madeCells #[.int .i64 0,.string ByteArray.empty] (n*2)=(wz n).toArray:=by
 apply Array.ext
 ·rw[size_madeCells,List.size_toArray,qlh]
 ·intro j h1 h2;have hj:j<n*2:=by simpa[qlh]using h2
  have hm:j%2<2:=Nat.mod_lt _ (by omega);have hg:=jr.kZ (List.replicate n ((0:Int),([]:List UInt8))) (j/2) (by simp;omega);rw[List.getElem_replicate]at hg;have e2:(wz n).toArray[j]?=some (if j%2=0 then .int .i64 0 else .string (str [])):=by
   rw[List.getElem?_toArray];unfold wz;by_cases h0:j%2=0
   ·rw[if_pos h0];have:=hg.1;rw[show j/2*2=j by omega]at this;exact this
   ·rw[if_neg h0];have:=hg.2;rw[show j/2*2+1=j by omega]at this;exact this
  rw[Array.getElem?_eq_getElem h2]at e2;rw[Option.some.inj e2];obtain⟨q,hq⟩:=QE (j%2);rw[hq]at hm ⊢
  match q,hm with
  | 0,_=>simp[madeCells,hq]
  | 1,_=>simp[madeCells,hq];rfl
theorem qdM{ρ:Operand→Value}{o:Oper}{w:World}(x y:Operand)(n:Nat)(ho:o.op=.makeSlice 136 x y)(hx:ρ x=.int .i64 (n:Int))(hy:ρ y=.int .i64 (n:Int))(h:n≤1000) :
    (execOp ρ o).run prog w=.ok (.value (.slice (some ⟨w.heap.size,0,none⟩) n n)) (w.alloc (.cells (wz n).toArray 182)):=by
 obtain⟨i0,hi,hz0,hz1,hz2⟩:=info_parts sZ;have hmk:=run_make (P:=prog) w 136 182 i0 (.agg #[.int .i64 0,.string ByteArray.empty]) underlying136 hi hz0 .i64 .i64 (n:Int) (n:Int) (by omega) (Int.le_refl _) (by rw[hz2];omega) (by omega);rw[hz1]at hmk;have:(Instr.makeSlice 136 (.int .i64 (n:Int)) (.int .i64 (n:Int))).run prog w=.ok (.slice (some ⟨w.heap.size,0,none⟩) n n) (w.alloc (.cells (wz n).toArray 182)):=by
  rw[← quv];simpa[Value.cells]using hmk
 simp[execOp,ho,hx,hy,this,Result.andThen]
theorem aW:∀(l:List Wr) (k:Nat) (_:k<l.length) (x:Wr),((jr.zM l).set (k*2) (.int .i64 x.1)).set (k*2+1) (.string (str x.2))=jr.zM (l.set k x)
 | y::l,0,_,x=>rfl
 | y::l,k+1,hk,x=>by
  have ih:=aW l k (by simpa using hk) x;rw[show(k+1)*2=k*2+1+1 by omega];simp only[jr.zM,List.set_cons_succ];exact congrArg _ (congrArg _ ih)
theorem qox{ss:List Bt}{n k:Nat}(hl:ss.length=n)(hk:k<n):(jr.za 145 (ss.take k)++List.replicate (n-k) ((0:Int),([]:List UInt8))).set k (((145+k:Nat):Int),ss[k]'(by omega))=jr.za 145 (ss.take (k+1))++List.replicate (n-(k+1)) ((0:Int),([]:List UInt8)):=by
 have rV:(jr.za 145 (ss.take k)).length=k:=by rw[jr.qY,List.length_take];omega
 rw[List.set_append_right _ _ (by omega),rV,Nat.sub_self,show n-k=(n-(k+1))+1 by omega,List.replicate_succ,List.set_cons_zero,List.take_succ_eq_append_getElem (by omega),jr.aI,List.length_take,Nat.min_eq_left (by omega),List.append_assoc];rfl
def WrR (ss:List Bt)(g:Nat)(w:World)(i:Value)(wr:World):Prop :=
 ∃k:Nat,k≤ss.length∧i=.int .i64 (k:Int)∧qg wr g 182 (jr.zM (jr.za 145 (ss.take k)++List.replicate (ss.length-k) ((0:Int),([]:List UInt8)))).toArray∧ib.qB (fun j=>j=g) w wr
def q35 (m:Mt)(w:World)(e:Ending)(w':World):Prop:=∃v,e=.returned (.tuple #[v,.int .i64 0])∧jr.ir w' w.heap.size v (jr.za 145 (xw m))∧Below w.heap.size w w'
theorem mX {w:World}{A0 A1 A2:Option Addr}{c0 c1 c2:Nat}{m:Mt}(ht:MtL w A0 A1 A2 c0 c1 c2 m)(hsz:mtS m)(hE:wy m=(zx m,0))(q36:(zx m).length≤999)(hT:xC w) :
    Calls prog 73 #[.agg (zi A0 A1 A2 c0 c1 c2 m)] w (q35 m w):=by
 obtain⟨W1,hW1,zN,hb1⟩:=xI w (zi A0 A1 A2 c0 c1 c2 m);have zk:=QH hb1;have he:=mt.pg.qeP (.agg (zi A0 A1 A2 c0 c1 c2 m)) m W1 ⟨A0,A1,A2,c0,c1,c2,rfl,ht.below hb1⟩ hsz;rw[hE]at he;have HE:=QH he;have hPk:∀W,xC W→Calls prog 116 #[.string (str (zx m))] W (qkH (str (zx m)) W):=fun W h=>cz _ W (by rw[qO];omega) h;have pT:qL (bl (str (zx m)))=xw m:=by rw[zo];rfl
 obtain⟨S,hS⟩:=QE (str (zx m));rw[hS]at hPk pT;have HPK:=QH hPk;have HSE:=QH pT;have h48:(xw m).length≤48:=by
  unfold xw;rw[xN];unfold nsec;omega
 have HTT:Hid (∀W,Below w.heap.size w W→xC W):=fun W h=>hT.below h hT.1;have q0:=zN.cell 0;have q1:=zN.cell 1;have q2:=zN.cell 2;have q3:=zN.cell 3;have q4:=zN.cell 4;have q5:=zN.cell 5;have q6:=zN.cell 6;have q7:=zN.cell 7;have q8:=zN.cell 8;have ig:=zN.lt;simp only[zi,QA,QB,QC]at q0 q1 q2 q3 q4 q5 q6 q7 q8;unfold qw5 at HE;dsimp only at HE;rw[hS]at HE;clear ht zN hb1 he hPk pT hT hS hsz hE q36;unfold zi at hW1 HE ⊢;go_enter func73,ntmps73;go_upto_region 1 with fail;try rw[hW1]
 clear hW1;go_wp2_with fail;refine HE.out.mono ?_;rintro e W2 ⟨rfl,hb2⟩;have qG:=QH (q9 zk.out hb2);clear hb2 HE q0 q1 q2 q3 q4 q5 q6 q7 q8 ig;go_wp2_with fail;refine(HPK.out W2 (HTT.out W2 qG.out)).mono ?_;rintro e W3 ⟨v,rfl,ho,hb3⟩;rw[HSE.out]at ho;obtain⟨A,c,hv,_,_,hp,_,_⟩:=ho.view;subst hv;have HP:=QH hp;have zf:=QH (q9 qG.out hb3);obtain⟨ss,hss⟩:=QE (xw m);have HM:=QH hss;rw[hss]at HP h48 ⊢;clear ho hp hb3 HSE HPK HTT hss;have hb4:=(Below.refl _ W3).alloc (Nat.le_refl _) (.cells (wz ss.length).toArray 182);have hk4:=qg.new W3 182 (wz ss.length).toArray;obtain⟨W4,tZ⟩:=QE (W3.alloc (.cells (wz ss.length).toArray 182));rw[tZ]at hb4 hk4;have zU:=QH (q9 zf.out hb4);have pw:=QH hk4;have HP4:Hid (∀i (h:i<ss.length),∃b o,A=some ⟨b,o,none⟩∧b<W3.heap.size∧W4.cell? ⟨b,o+i,none⟩=some (.string (str ss[i]))):=fun i hi=>by
  obtain⟨b,o,h1,h2,h3⟩:=HP.out i hi;exact⟨b,o,h1,h2,(hb4.cell (p:=⟨b,o+i,none⟩) h2).trans h3⟩
 have q38:Hid (W3.heap.size≤W4.heap.size):=hb4.size;have HGE:Hid (w.heap.size≤W3.heap.size):=zf.out.size;clear hb4 hk4 HP;go_wp2_with (at_make;refine ql rfl (qdM _ _ ss.length rfl rfl rfl (by omega)) ?_);try rw[tZ]
 clear tZ;go_loopw [37] (fun i wr=>WrR ss W3.heap.size W4 i wr) (fun i _=>ss.length-(intOf i).toNat);case atStart=>exact⟨0,Nat.zero_le _,rfl,pw.out,ib.qB.refl _ _⟩
 case round =>
  obtain⟨k,hk,rfl,jV,hB⟩:=hrel;have js:=QH jV;have HU:=QH hB;have HB:Hid (Below w.heap.size w wr):=zU.out.trans (hB.below (fun i e=>by rw[e];exact HGE.out) zU.out.size);clear jV hB;by_cases hlt:k<ss.length
  ·have jY:(k:Int)<(ss.length:Int):=by omega
   have hk0:¬ (k:Int)<0:=by omega
   obtain⟨b,o,rfl,s1,s2⟩:=HP4.out k hlt;have s0:b<W4.heap.size:=Nat.lt_of_lt_of_le s1 q38.out;have s3:b<wr.heap.size:=Nat.lt_of_lt_of_le s0 HU.out.size;have s4:=(World.cell?_of_block (a:=⟨b,o+k,none⟩) (HU.out.block b s0 (by show ¬ b=W3.heap.size;omega))).trans s2;have HLS:=QH (qox (ss:=ss) rfl hlt);have hlen:(jr.za 145 (ss.take k)++List.replicate (ss.length-k) ((0:Int),([]:List UInt8))).length=ss.length:=by
    rw[List.length_append,jr.qY,List.length_take,List.length_replicate];omega
   have HVS:=QH (aW (jr.za 145 (ss.take k)++List.replicate (ss.length-k) ((0:Int),([]:List UInt8))) k (by omega) (((145+k:Nat):Int),ss[k]));rw[HLS.out]at HVS;obtain⟨x,hx⟩:=QE (ss[k]);rw[hx]at HVS s4;obtain⟨g0,g1⟩:=jr.kZ (jr.za 145 (ss.take k)++List.replicate (ss.length-k) ((0:Int),([]:List UInt8))) k (by omega);have k0:wr.cell? ⟨W3.heap.size,k*2,none⟩=some (.int .i64 ((jr.za 145 (ss.take k)++List.replicate (ss.length-k) ((0:Int),([]:List UInt8)))[k]'(by omega)).1):=by rw[js.out.cell];simpa using g0
   have k1:wr.cell? ⟨W3.heap.size,k*2+1,none⟩=some (.string (str ((jr.za 145 (ss.take k)++List.replicate (ss.length-k) ((0:Int),([]:List UInt8)))[k]'(by omega)).2)):=by rw[js.out.cell];simpa using g1
   obtain⟨z0,hz0⟩:∃z,wr.cell? ⟨W3.heap.size,k*2,none⟩=some z:=⟨_,k0⟩;obtain⟨z1,hz1⟩:∃z,wr.cell? ⟨W3.heap.size,k*2+1,none⟩=some z:=⟨_,k1⟩;have f0:=js.out.frozen (k*2);have f1:=js.out.frozen (k*2+1);have wD:=js.out.lt;have HK5:Hid (qg ((wr.setCell ⟨W3.heap.size,k*2,none⟩ (.int .i64 (145+(k:Int)))).setCell ⟨W3.heap.size,k*2+1,none⟩ (.string (str x))) W3.heap.size 182 (jr.zM (jr.za 145 (ss.take (k+1))++List.replicate (ss.length-(k+1)) ((0:Int),([]:List UInt8)))).toArray):=by
    have h:=(js.out.qo (k*2) (.int .i64 (145+(k:Int)))).qo (k*2+1) (.string (str x));rw[List.setIfInBounds_toArray,List.setIfInBounds_toArray]at h;rw[← HVS.out];have e:(((145+k:Nat):Int))=145+(k:Int):=by omega
    dsimp only;rw[e];exact h
   have jt:Hid (ib.qB (fun j=>j=W3.heap.size) W4 ((wr.setCell ⟨W3.heap.size,k*2,none⟩ (.int .i64 (145+(k:Int)))).setCell ⟨W3.heap.size,k*2+1,none⟩ (.string (str x)))):=(HU.out.setCell ⟨W3.heap.size,k*2,none⟩ _ (.inl rfl)).setCell ⟨W3.heap.size,k*2+1,none⟩ _ (.inl rfl);have hw:IntKind.i64.wrap (145+(k:Int))=145+(k:Int):=by rw[IntWalk.i64_in _ (by omega)]
   clear hx hlen HVS HLS g0 g1 k0 k1 s0 s1 s2;go_wp2_with fail;go_roundw;case rel=>exact⟨k+1,by omega,by go_num,HK5.out,jt.out⟩
   case measure=>simp[intOf];omega
  ·obtain rfl:k=ss.length:=by omega
   have jY:¬ (ss.length:Int)<(ss.length:Int):=by omega
   have jV:=js.out;rw[List.take_length,Nat.sub_self,List.replicate_zero,List.append_nil]at jV;have HO:Hid (jr.ir wr w.heap.size (.slice (some ⟨W3.heap.size,0,none⟩) ss.length ss.length) (jr.za 145 ss)):=by
    refine⟨by rw[jr.yZ],.inr ⟨W3.heap.size,ss.length,_,by rw[jr.qY],HGE.out,jV,by rw[jr.qY];exact Nat.le_refl _,by unfold maxLen;omega,?_,?_⟩⟩
    ·rw[List.size_toArray,jr.yZ,jr.qY]
    ·rw[jr.qY];have:(jr.zM (jr.za 145 ss)).length=ss.length*2:=by rw[jr.yZ,jr.qY]
     show(jr.zM (jr.za 145 ss)).take (ss.length*2)=_;rw[← this,List.take_length]
   clear jV;go_wp2_with fail;go_ret2;exact⟨_,rfl,by rw[HM.out];exact HO.out,HB.out⟩
def qli (w:World)(k:FuncId)(b:Value)(h:Wr→Bool)(l:List Wr):Prop:=∀W,Below w.heap.size w W→∀x∈l,Calls prog k #[b,.agg #[.int .i64 x.1,.string (str x.2)]] W (wU (h x) W)
structure vw(w:World)(g n c:Nat)(l:List Wr):Prop where
 ex:∃cur,qg w g 182 cur∧cur.size=c*2∧cur.toList.take (n*2)=jr.zM l
 len:l.length=n
 cap:n≤c
theorem vw.cells{w:World}{g n c:Nat}{l:List Wr}(h:vw w g n c l)(i:Nat)(hi:i<l.length):w.cell? ⟨g,i*2,none⟩=some (.int .i64 l[i].1)∧w.cell? ⟨g,i*2+1,none⟩=some (.string (str l[i].2)):=by
 obtain⟨cur,h1,h2,h3⟩:=h.ex;obtain⟨a,b⟩:=jr.kZ l i hi;exact⟨yQ h1 h3 _ _ a,yQ h1 h3 _ _ b⟩
theorem vw.lt{w:World}{g n c:Nat}{l:List Wr}(h:vw w g n c l):g<w.heap.size:=by
 obtain⟨cur,h1,_⟩:=h.ex;exact h1.lt
theorem vw.fro{w:World}{g n c:Nat}{l:List Wr}(h:vw w g n c l)(i:Nat):w.frozen? ⟨g,i,none⟩=false:=by
 obtain⟨cur,h1,_⟩:=h.ex;exact h1.frozen i
theorem vw.below{w w':World}{g n c:Nat}{l:List Wr}(h:vw w g n c l)(hb:Below w.heap.size w w'):vw w' g n c l:=by
 obtain⟨cur,h1,h2,h3⟩:=h.ex;exact⟨⟨cur,h1.below hb,h2,h3⟩,h.len,h.cap⟩
theorem vw.set{w:World}{g n c:Nat}{l:List Wr}(h:vw w g n c l)(i:Nat)(hi:i<l.length)(x:Wr):vw ((w.setCell ⟨g,i*2,none⟩ (.int .i64 x.1)).setCell ⟨g,i*2+1,none⟩ (.string (str x.2))) g n c (l.set i x):=by
 obtain⟨cur,h1,h2,h3⟩:=h.ex;refine⟨⟨_,(h1.qo (i*2) _).qo (i*2+1) _,by simpa using h2,?_⟩,by rw[List.length_set];exact h.len,h.cap⟩;rw[Array.toList_setIfInBounds,Array.toList_setIfInBounds,List.take_set,List.take_set,h3];exact aW l i hi x
theorem vw.ows{w:World}{g n c B:Nat}{l:List Wr}(h:vw w g n c l)(hB:B≤g)(hc:c≤maxLen):jr.ir w B (.slice (some ⟨g,0,none⟩) n c) l:=by
 obtain⟨cur,h1,h2,h3⟩:=h.ex;refine⟨by rw[jr.yZ],.inr ⟨g,c,cur,by rw[h.len],hB,h1,by rw[h.len];exact h.cap,hc,h2,by rw[h.len];exact h3⟩⟩
theorem vw.quw{w:World}{B:Nat}{v:Value}{l:List Wr}(h:jr.ir w B v l)(h1:0<l.length):∃g c,v=.slice (some ⟨g,0,none⟩) l.length c∧B≤g∧vw w g l.length c l∧c≤maxLen:=by
 rcases h.2 with⟨_,h0⟩|⟨g,cap,cur,hv,hg,hh,hcc,hm,hcs,xt⟩
 ·omega
 ·exact⟨g,cap,hv,hg,⟨⟨cur,hh,hcs,xt⟩,rfl,hcc⟩,hm⟩
def IxW (l:List Wr)(h:Wr→Bool)(w:World)(i:Value)(wr:World):Prop :=
 ∃k:Nat,k≤l.length∧i=.int .i64 (k:Int)∧(∀j (hj:j<l.length),j<k→h l[j]=false)∧Below w.heap.size w wr
def qyu (l:List Wr)(h:Wr→Bool)(w:World)(e:Ending)(w':World):Prop:=Below w.heap.size w w'∧((∃(k:Nat) (hk:k<l.length),e=.returned (.int .i64 (k:Int))∧h l[k]=true∧∀j (hj:j<l.length),j<k→h l[j]=false)∨(e=.returned (.int .i64 (-1))∧∀j (hj:j<l.length),h l[j]=false))
theorem qlj{w0 w:World}{g n c:Nat}{b:Value}{h:Wr→Bool}{l:List Wr}(hR:vw w g n c l)(hb:Below w0.heap.size w0 w)(hC:qli w0 106 b h l)(hl:l.length≤1000) :
    Calls prog 164 #[.slice (some ⟨g,0,none⟩) n c,.func (.func 106) #[b] #[]] w (qyu l h w):=by
 have HR:=QH hR;have uj:=QH hb;have HC:=QH hC;have dB:=hR.len;subst dB;clear hR hb hC;go_enter func164,ntmps164;go_wp2_with fail;go_loopw [8] (fun i wr=>IxW l h w i wr) (fun i _=>l.length-(intOf i).toNat);case atStart=>exact⟨0,Nat.zero_le _,rfl,fun j _ h=>absurd h (by omega),Below.refl _ _⟩
 case round =>
  obtain⟨k,hk,rfl,hno,hB⟩:=hrel;have uK:=QH hno;have HB:=QH hB;clear hno hB;by_cases hlt:k<l.length
  ·have jY:(k:Int)<(l.length:Int):=by omega
   have hk0:¬ (k:Int)<0:=by omega
   have hr:=HR.out.below HB.out;obtain⟨s0,s1⟩:=hr.cells k hlt;have wD:=hr.lt;have pX:=QH (HC.out wr (q9 uj.out HB.out) l[k] (List.getElem_mem hlt));have HNX:Hid (h l[k]=false→∀j (hj:j<l.length),j<k+1→h l[j]=false):=fun hne j hj hjk=>by
    by_cases qux:j<k
    ·exact uK.out j hj qux
    ·obtain rfl:j=k:=by omega
     exact hne
   obtain⟨q,hq⟩:=QE (h l[k]);have HQ:Hid (h l[k]=q):=hq;rw[hq]at pX HNX;have HLK:Hid (l[k]=l[k]):=rfl;obtain⟨x,hx⟩:=QE (l[k]);rw[hx]at s0 s1 pX;clear hx HLK;clear hr hq;go_wp2_with fail;refine pX.out.mono ?_;rintro e W1 ⟨rfl,hb1⟩;have zk:=QH (HB.out.trans (hb1.mono HB.out.size));clear hb1;cases q with
   | true =>
    clear HNX pX;go_wp2_with fail;go_ret;exact⟨zk.out,.inl ⟨k,hlt,rfl,HQ.out,uK.out⟩⟩
   | false =>
    have HN:=QH (HNX.out rfl);clear HNX pX;go_wp2_with fail;go_roundw;case rel=>exact⟨k+1,by omega,by go_num,HN.out,zk.out⟩
    case measure=>simp[intOf];omega
  ·have jY:¬ (k:Int)<(l.length:Int):=by omega
   go_wp2_with fail;go_ret;exact⟨HB.out,.inr ⟨rfl,fun j hj=>uK.out j hj (by omega)⟩⟩
theorem qdO(w:World)(ty:TypeId)(g o n c:Nat)(cur:Array Value)(hg:qg w g 182 cur)(hn:0<n)(qkl:o+n*2≤cur.size) :
    ∃zs:List Value,zs.length=n*2∧(Builtin.clear_ #[136] ty #[.slice (some ⟨g,o,none⟩) n c]).run prog w=.ok (.tuple #[]) (w.setRow g (cur.toList.take o++zs++cur.toList.drop (o+zs.length)).toArray):=by
 obtain⟨i0,hi,hz0,hz1,hz2⟩:=info_parts sZ;obtain⟨m,rfl⟩:∃m,n=m+1:=⟨n-1,by omega⟩;have hz:(zeroValue 182).run prog w=.ok (.agg #[.int .i64 0,.string ByteArray.empty]) w:=by
  simp[zeroValue,typeInfo,hi,hz0]
 refine⟨(Builtin.zeroCells (Value.agg #[.int .i64 0,.string ByteArray.empty]).cells (m+1)).toList,?_,?_⟩
 ·simp[Builtin.zeroCells,Value.cells]
 ·have hst:=run_storeCells_at prog g o 182 (Builtin.zeroCells (Value.agg #[.int .i64 0,.string ByteArray.empty]).cells (m+1)).toList 0 cur w hg (by simp[Builtin.zeroCells,Value.cells];omega) (by
     intro v hv;simp only[Builtin.zeroCells,Value.cells,Array.toList_map,List.mem_map]at hv;obtain⟨i,_,rfl⟩:=hv;have hm:i%2<2:=Nat.mod_lt _ (by omega);show(#[Value.int .i64 0,.string ByteArray.empty][i%2]!).oneCell'=true;obtain⟨q,hq⟩:=QE (i%2);rw[hq]at hm ⊢
     match q,hm with
     | 0,_=>rfl
     | 1,_=>rfl)
  simp[Builtin.clear_,run_underlying underlying136,hz,Result.andThen];simp at hst;rw[hst]
def ah (h:Wr→Bool)(l:List Wr):List Wr:=l.filter fun x=>!h x
theorem aX {h:Wr→Bool}{l:List Wr}{j:Nat}(hj:j<l.length):ah h (l.take (j+1))=ah h (l.take j)++(if h l[j]then[]else[l[j]]):=by
 unfold ah;rw[List.take_succ_eq_append_getElem hj,List.filter_append];cases hq:h l[j] <;> simp[hq]
theorem mY {h:Wr→Bool}{l:List Wr}(hn:∀j (hj:j<l.length),h l[j]=false):ah h l=l:=by
 unfold ah;rw[List.filter_eq_self];intro x hx;obtain⟨j,hj,rfl⟩:=List.getElem_of_mem hx;rw[hn j hj];rfl
structure DlS(l K:List Wr)(h:Wr→Bool)(i j:Nat):Prop where
 len:K.length=l.length
 lt:i<j
 le:j≤l.length
 kept:K.take i=ah h (l.take j)
 rest:K.drop j=l.drop j
theorem DlS.at_{l K:List Wr}{h:Wr→Bool}{i j:Nat}(s:DlS l K h i j)(hj:j<l.length)(hk:j<K.length):K[j]=l[j]:=by
 have e:=congrArg (fun x=>x[0]?) s.rest;simp only[List.getElem?_drop,Nat.add_zero]at e;rw[List.getElem?_eq_getElem hj,List.getElem?_eq_getElem hk]at e;exact Option.some.inj e
theorem DlS.q39{l K:List Wr}{h:Wr→Bool}{i j:Nat}(s:DlS l K h i j)(hj:j<l.length)(hd:h l[j]=true):DlS l K h i (j+1):=by
 refine⟨s.len,by have:=s.lt;omega,by omega,?_,?_⟩
 ·rw[aX hj,hd,s.kept];simp
 ·have:=congrArg (List.drop 1) s.rest
  rwa [List.drop_drop,List.drop_drop]at this
theorem DlS.keep{l K:List Wr}{h:Wr→Bool}{i j:Nat}(s:DlS l K h i j)(hj:j<l.length)(hd:h l[j]=false):DlS l (K.set i l[j]) h (i+1) (j+1):=by
 have hlt:=s.lt;have hle:=s.len;refine⟨by rw[List.length_set];exact s.len,by omega,by omega,?_,?_⟩
 ·rw[aX hj,hd,← s.kept];apply List.ext_getElem?;intro k;simp only[List.getElem?_take,List.getElem?_set,List.getElem?_append,List.length_take];by_cases h1:k<i
  ·rw[if_pos (by omega),if_neg (by omega),if_pos (by omega),if_pos h1]
  ·by_cases h2:k=i
   ·subst h2;rw[if_pos (by omega),if_pos rfl,if_pos (by omega),if_neg (by omega),show k-min k K.length=0 by omega];rfl
   ·rw[if_neg (by omega),if_neg (by omega)];obtain⟨q,hq⟩:∃q,k-min i K.length=q+1:=⟨k-min i K.length-1,by omega⟩;rw[hq];rfl
 ·have:=congrArg (List.drop 1) s.rest;rw[List.drop_drop,List.drop_drop]at this;rw[List.drop_set_of_lt (by omega)];exact this
def DlR (l:List Wr)(h:Wr→Bool)(g c:Nat)(w0:World)(i j:Value)(wr:World):Prop :=
 ∃(a b:Nat) (K:List Wr),i=.int .i64 (a:Int)∧j=.int .i64 (b:Int)∧DlS l K h a b∧vw wr g l.length c K∧Below w0.heap.size w0 wr
def qlk (l:List Wr)(h:Wr→Bool)(w0:World)(e:Ending)(w':World):Prop:=∃v,e=.returned v∧jr.ir w' w0.heap.size v (ah h l)∧Below w0.heap.size w0 w'
theorem qoy{w0 w:World}{v b:Value}{h:Wr→Bool}{l:List Wr}(ho:jr.ir w w0.heap.size v l)(h1:0<l.length)(hl:l.length≤1000)(hb:Below w0.heap.size w0 w)(hC:qli w0 106 b h l) :
    Calls prog 105 #[v,.func (.func 106) #[b] #[]] w (qlk l h w0):=by
 obtain⟨g,c,rfl,hg,hR,hcm⟩:=vw.quw ho h1;have HI:=QH (qlj hR hb hC hl);have HR:=QH hR;have uj:=QH hb;have HC:=QH hC;have HG:=QH hg;have HCM:=QH hcm;clear ho hg hR hcm hb hC;go_enter func105,ntmps105;go_wp2_with fail;refine HI.out.mono ?_;rintro e W1 ⟨hb1,qb3⟩;have zk:=QH (q9 uj.out hb1);have HR1:=QH (HR.out.below hb1);clear hb1 HI;rcases qb3 with⟨k,hk,rfl,hd,hno⟩|⟨rfl,hno⟩
 case' inr =>
  have uK:=QH (mY hno);clear hno;go_wp2_with fail;go_ret;exact⟨_,rfl,by rw[uK.out];exact HR1.out.ows HG.out HCM.out,zk.out⟩
 have HS0:Hid (DlS l l h k (k+1)):=by
  refine⟨rfl,by omega,by omega,?_,rfl⟩;rw[aX hk,hd,if_pos rfl,List.append_nil];exact(mY (l:=l.take k) (fun j hj=>by
   have hjk:j<k:=by rw[List.length_take]at hj;omega
   rw[List.getElem_take];exact hno j _ hjk)).symm
 clear hd hno;have hkw:IntKind.i64.wrap ((k:Int)+1)=((k+1:Nat):Int):=by rw[IntWalk.i64_in _ (by omega)];omega
 have hkn:((k:Int) == -1)=false:=beq_false_of_ne (by omega);go_wp2_with fail;go_loopw [5,6] (fun i j wr=>DlR l h g c w0 i j wr) (fun _ j _=>l.length-(intOf j).toNat);case atStart=>exact⟨k,k+1,l,rfl,by go_num,HS0.out,HR1.out,zk.out⟩
 case round =>
  obtain⟨a,b',K,rfl,rfl,hs,hr,hB⟩:=hrel;have HS:=QH hs;have HRW:=QH hr;have HB:=QH hB;have hle:=hs.le;have q9J:=hs.lt;have hkl:=hs.len;clear hs hr hB;by_cases hlt:b'<l.length
  ·have hbi:(b':Int)<(l.length:Int):=by omega
   have hb0:¬ (b':Int)<0:=by omega
   have hai:(a:Int)<(l.length:Int):=by omega
   have ha0:¬ (a:Int)<0:=by omega
   have hKb:b'<K.length:=by omega
   obtain⟨s0,s1⟩:=HRW.out.cells b' hKb;have HAT:=QH (HS.out.at_ hlt hKb);have qoz:=QH (HS.out.q39 hlt);have qb4:=QH (HS.out.keep hlt);have wD:=HRW.out.lt;rw[HAT.out]at s0 s1;have pX:Hid (∀W,Below w0.heap.size w0 W→Calls prog 106 #[b,.agg #[.int .i64 l[b'].1,.string (str l[b'].2)]] W (wU (h l[b']) W)):=fun W hW=>HC.out W hW l[b'] (List.getElem_mem hlt);obtain⟨q,hq⟩:=QE (h l[b']);rw[hq]at pX qoz qb4;obtain⟨x,hx⟩:=QE (l[b']);rw[hx]at s0 s1 pX qb4;clear hx hq HAT;have jT:=(Below.refl _ wr).alloc (Nat.le_refl _) (.cells #[.int .i64 x.1,.string (str x.2)] 182);have iW:=qg.new wr 182 #[.int .i64 x.1,.string (str x.2)];obtain⟨W2,hW2⟩:=QE (wr.alloc (.cells #[.int .i64 x.1,.string (str x.2)] 182));rw[hW2]at jT iW;have uQ:=QH (HRW.out.below jT);have qG:=QH (q9 HB.out jT);have HKX:=QH iW;have v0:=iW.cell 0;have v1:=iW.cell 1;have hvl:=iW.lt;simp only[QA,QB,QC]at v0 v1;clear jT iW;go_upto_region 8 with fail;try rw[hW2]
   clear hW2 s0 s1;go_wp2_with fail;refine(pX.out _ qG.out).mono ?_;rintro e W3 ⟨rfl,hb3⟩;have fV:=QH (uQ.out.below hb3);have zf:=QH (q9 qG.out hb3);have hk3:=HKX.out.below hb3;have v0:=hk3.cell 0;have v1:=hk3.cell 1;have hvl:=hk3.lt;simp only[QA,QB,QC]at v0 v1;have hbw:IntKind.i64.wrap ((b':Int)+1)=((b'+1:Nat):Int):=by rw[IntWalk.i64_in _ (by omega)];omega
   clear hb3 pX uQ HKX hk3;cases q with
   | true =>
    have HO:=QH (qoz.out rfl);clear qoz qb4;go_wp2_with fail;go_roundw;case rel=>exact⟨a,b'+1,K,rfl,by go_num,HO.out,fV.out,zf.out⟩
    case measure=>simp[intOf];omega
   | false =>
    have HO:=QH (qb4.out rfl);clear qoz qb4;have haK:a<K.length:=by omega
    obtain⟨t0,t1⟩:=fV.out.cells a haK;obtain⟨z0,hz0⟩:∃z,W3.cell? ⟨g,a*2,none⟩=some z:=⟨_,t0⟩;obtain⟨z1,hz1⟩:∃z,W3.cell? ⟨g,a*2+1,none⟩=some z:=⟨_,t1⟩;have f0:=fV.out.fro (a*2);have f1:=fV.out.fro (a*2+1);have wD:=fV.out.lt;have HR4:=QH (fV.out.set a haK x);have zU:Hid (Below w0.heap.size w0 ((W3.setCell ⟨g,a*2,none⟩ (.int .i64 x.1)).setCell ⟨g,a*2+1,none⟩ (.string (str x.2)))):=(zf.out.setCell (p:=⟨g,a*2,none⟩) HG.out _).setCell (p:=⟨g,a*2+1,none⟩) HG.out _;have haw:IntKind.i64.wrap ((a:Int)+1)=((a+1:Nat):Int):=by rw[IntWalk.i64_in _ (by omega)];omega
    clear t0 t1;go_wp2_with fail;go_roundw;case rel=>exact⟨a+1,b'+1,_,by go_num,by go_num,HO.out,HR4.out,zU.out⟩
    case measure=>simp[intOf];omega
  ·obtain rfl:b'=l.length:=by omega
   have hbi:¬ (l.length:Int)<(l.length:Int):=by omega
   have ha0:(0:Int)≤(a:Int):=by omega
   have hai:(a:Int)≤(l.length:Int):=by omega
   have hac:(a:Int)≤(c:Int):=by have:=HRW.out.cap;omega
   have qb5:=HS.out.kept;rw[List.take_length]at qb5;have HKP:=QH qb5;obtain⟨cur,c1,c2,c3⟩:=HRW.out.ex;have qjg:=HRW.out.cap;have hcl:∀ty,∃W4,(Builtin.clear_ #[136] ty #[.slice (some ⟨g,a*2,none⟩) (l.length-a) (c-a)]).run prog wr=.ok (.tuple #[]) W4∧vw W4 g a c (ah h l)∧Below w0.heap.size w0 W4:=fun ty=>by
    obtain⟨zs,hzl,hrun⟩:=qdO wr ty g (a*2) (l.length-a) (c-a) cur c1 (by omega) (by omega);refine⟨_,hrun,⟨⟨_,oW c1,?_,?_⟩,?_,by omega⟩,vJ HB.out _ HG.out⟩
    ·simp[hzl];omega
    ·have hcl:cur.toList.length=c*2:=by simpa using c2
     show(cur.toList.take (a*2)++zs++cur.toList.drop (a*2+zs.length)).take (a*2)=_;rw[List.append_assoc,List.take_append_of_le_length (by rw[List.length_take];omega),List.take_take,Nat.min_self];have h5:jr.zM (K.take a)=(jr.zM K).take (a*2):=by
      have e:jr.zM K=jr.zM (K.take a)++jr.zM (K.drop a):=by rw[← jr.uG,List.take_append_drop]
      rw[e,List.take_left' (by rw[jr.yZ,List.length_take];omega)]
     rw[← qb5,h5,← c3,List.take_take]
     congr 1
     omega
    ·rw[← qb5,List.length_take];omega
   obtain⟨W4,hc4,hr4,hb4⟩:=hcl 0;have q9K:∀ty,(Builtin.clear_ #[136] ty #[.slice (some ⟨g,a*2,none⟩) (l.length-a) (c-a)]).run prog wr=.ok (.tuple #[]) W4:=fun ty=>hc4;have HR4:=QH hr4;have zU:=QH hb4;have hcc:(l.length:Int)≤(c:Int):=by omega
   clear hc4 hr4 hb4 hcl qb5 c1 c2 c3;go_wp2_with fail;go_ret;exact⟨_,rfl,HR4.out.ows HG.out HCM.out,zU.out⟩
end Go.Proofs.YtdagdllomphidaaGreatDoor.vt.pg
namespace Go.Proofs
open _root_.Go.Proofs.Tryz Go.Shelf
def Tryz.qb6:Go.Shelf.Ren:=⟨fun | 160=>160 | 232=>193 | 231=>192 | 227=>194 | 234=>196 | 233=>195 | 236=>198 | 235=>197 | 228=>214 | 271=>217 | 151=>216 | 197=>215 | 120=>222 | 152=>221 | 260=>220 | 137=>224 | 119=>225 | 224=>226 | 225=>227 | 217=>228 | 266=>229|n=>n,fun | 9=>9 | 4=>4 | 3=>3 | 5=>5 | 117=>274 | 116=>273 | 0=>0 | 124=>277 | 21=>21 | 105=>295 | 46=>224 | 119=>300 | 139=>303 | 138=>302|n=>n,fun | 3=>2 | 4=>3|n=>n⟩
theorem Tryz.qo0:Go.Proofs.Lays.n160 prog Tryz.qb6:={
 mixed:=by kernel_rfl
 f119:=func225.trans (congrArg some (by kernel_rfl))
 f120:=func222.trans (congrArg some (by kernel_rfl))
 f137:=func224.trans (congrArg some (by kernel_rfl))
 f151:=func216.trans (congrArg some (by kernel_rfl))
 f152:=func221.trans (congrArg some (by kernel_rfl))
 f160:=func160.trans (congrArg some (by kernel_rfl))
 f197:=func215.trans (congrArg some (by kernel_rfl))
 f217:=func228.trans (congrArg some (by kernel_rfl))
 f224:=func226.trans (congrArg some (by kernel_rfl))
 f225:=func227.trans (congrArg some (by kernel_rfl))
 f227:=func194.trans (congrArg some (by kernel_rfl))
 f228:=func214.trans (congrArg some (by kernel_rfl))
 f231:=func192.trans (congrArg some (by kernel_rfl))
 f232:=func193.trans (congrArg some (by kernel_rfl))
 f233:=func195.trans (congrArg some (by kernel_rfl))
 f234:=func196.trans (congrArg some (by kernel_rfl))
 f235:=func197.trans (congrArg some (by kernel_rfl))
 f236:=func198.trans (congrArg some (by kernel_rfl))
 f260:=func220.trans (congrArg some (by kernel_rfl))
 f266:=func229.trans (congrArg some (by kernel_rfl))
 f271:=func217.trans (congrArg some (by kernel_rfl))
 t0:=underlying0
 a0:=isAgg0
 z0:=sizeOf0
 v0:=zeroValue0
 t3:=underlying3
 a3:=isAgg3
 z3:=sizeOf3
 v3:=zeroValue3
 t4:=underlying4
 a4:=isAgg4
 z4:=sizeOf4
 v4:=zeroValue4
 t5:=underlying5
 a5:=isAgg5
 z5:=sizeOf5
 v5:=zeroValue5
 t9:=underlying9
 a9:=isAgg9
 z9:=sizeOf9
 v9:=zeroValue9
 t21:=underlying21
 a21:=isAgg21
 z21:=sizeOf21
 v21:=zeroValue21
 t46:=underlying224
 a46:=isAgg224
 z46:=sizeOf224
 v46:=zeroValue224
 t105:=underlying295
 a105:=isAgg295
 z105:=sizeOf295
 v105:=zeroValue295
 t116:=underlying273
 a116:=isAgg273
 z116:=sizeOf273
 t117:=underlying274
 a117:=isAgg274
 z117:=sizeOf274
 v117:=zeroValue274
 t119:=underlying300
 a119:=isAgg300
 z119:=sizeOf300
 t124:=underlying277
 a124:=isAgg277
 z124:=sizeOf277
 v124:=zeroValue277
 t138:=underlying302
 a138:=isAgg302
 z138:=sizeOf302
 v138:=zeroValue302
 t139:=underlying303
 a139:=isAgg303
 z139:=sizeOf303
 v139:=zeroValue303
 g3:=by kernel_rfl
 g4:=by kernel_rfl }
open Go.RowKit in
theorem Tryz.strings_Trim_one(s:ByteArray)(c:UInt8)(hc:c.toNat<128)(w:World)(hs:s.size≤9223372036854775807) :
    Calls prog 160 #[.string s,.string ⟨#[c]⟩] w fun e w'=>e=.returned (.string ⟨(Lib.trimB s.data.toList c).toArray⟩)∧(w'=w∨w'=w.drew):=Any.strings_Trim_one Tryz.qo0 s c hc w hs
end Go.Proofs
namespace Go.Proofs.YtdagdllomphidaaGreatDoor.wi
open _root_.Go.Proofs.Tryz Go.RowKit
theorem qo1(b:Nat)(l:List UInt8)(w:World)(h:zh b l true w) :
    Calls prog 178 #[.pointer (some ⟨b,0,none⟩)] w fun e w'=>e=.returned (.bool false)∧w=w':=by
 go_enter func178,ntmps178;go_wp2_with (go_at_call 204;refine(qjh b l _ h).mono ?_;rintro e w' ⟨rfl,rfl⟩);go_ret;exact⟨rfl,rfl⟩
theorem qll(b:Nat)(l:List UInt8)(w:World)(h:zh b l false w) :
    Calls prog 178 #[.pointer (some ⟨b,0,none⟩)] w fun e w'=>e=.returned (.bool l.isEmpty)∧w=w':=by
 obtain⟨g,o,cap,hb,hr⟩:=h;have h1:w.cell? ⟨b,0,none⟩=some (.slice (some ⟨g,o,none⟩) l.length cap):=by simp[World.cell?,hb]
 have he:((l.length:Int) == 0)=l.isEmpty:=by cases l <;> simp;omega
 have hR:zh b l false w:=⟨g,o,cap,hb,hr⟩;have hlen:l.length≤140737488355328:=hr.2.2;clear hb hr;go_enter func178,ntmps178;go_wp2_with (go_at_call 204;refine(qc3 b l _ hR).mono ?_;rintro e w' ⟨rfl,rfl⟩);go_ret;exact⟨rfl,rfl⟩
end Go.Proofs.YtdagdllomphidaaGreatDoor.wi
