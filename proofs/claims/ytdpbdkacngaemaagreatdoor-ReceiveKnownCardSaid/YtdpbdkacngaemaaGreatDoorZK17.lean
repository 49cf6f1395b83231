/- SpTake, SpCellR, SpProg, VgPl, ImRef, ImOwn, ImRef2, ImHyp, ImProg, JShelf, ChLst, PgBase. -/
import Derived.Test.YtdpbdkacngaemaaGreatDoorZK16
import Derived.Lib.SliceRun
import Derived.Shelf.Strings.Repeat
set_option linter.unusedVariables false
set_option linter.unusedSimpArgs false
set_option maxHeartbeats 30000000
set_option maxRecDepth 100000
namespace Go.Proofs.YtdpbdkacngaemaaGreatDoor.sp
open _root_.Go.Proofs.Tryz Go Go.RowKit ib
theorem qb1(n:Int)(h0:0≤n)(h:n*8≤140737488355328)(W:World):(Instr.makeSlice 80 (.int .i64 n) (.int .i64 n)).run prog W=.ok (.slice (some ⟨W.heap.size,0,none⟩) n.toNat n.toNat) (W.alloc (.cells (zr (List.replicate n.toNat 0)) 3)):=by
 obtain⟨i0,hi,hz0,hz1,hz2⟩:=info_parts vE;have hmk:=run_make (P:=prog) W 80 3 i0 (.int .i64 0) underlying80 hi hz0 .i64 .i64 n n h0 (Int.le_refl _) (by rw[hz2];omega) (by omega);rw[hz1]at hmk;rw[← mR];simpa[Value.cells]using hmk
def qwv (w W:World)(g B0 B1:Nat)(A:Option Addr)(c:Nat)(cs:List Int)(m:Nat)(v:Value)(wr:World):Prop :=
 ∃(n k:Nat),n≤m∧v=.int .i64 (n:Int)∧jX W wr B0 B1 A c cs k∧(qP cs k).length=n∧qh wr g 3 (zr (qP cs k++List.replicate (m-n) 0))∧Below w.heap.size w wr
theorem qnX{cs:List Int}{k m:Nat}(h:(qP cs k).length=m)(hk:k≤cs.length∨k=193):(qP cs cs.length).take m=qP cs k:=by
 rcases hk with h1|h1
 ·obtain⟨r,hr⟩:=eA cs k cs.length h1;rw[hr,← h,List.take_left]
 ·rw[h1,yH cs 193 (by omega)]at h;rw[h1,yH cs 193 (by omega),← h];rfl
theorem lG (l:List Int)(r:Nat)(x:Int):(l++List.replicate (r+1) 0).set l.length x=(l++[x])++List.replicate r 0:=by
 rw[List.set_append_right _ _ (Nat.le_refl _),Nat.sub_self,List.replicate_succ,List.append_assoc];rfl
theorem qww:qwq:=by
 intro A c cs n w hp hl hn;have HP:=QH hp;have hsm:=mW cs;obtain⟨res,hres⟩:=QE (yS cs n);rw[hres];unfold yS at hres;by_cases h0:n<0
 ·rw[if_pos h0]at hres;subst hres;clear hp;go_enter func139,ntmps139;go_wp2_with fail;go_ret2;exact bY (Below.refl _ _)
 rw[if_neg h0]at hres;have HF:=QH (qwu A c cs w hp (by omega));obtain⟨fr,hfr⟩:=QE (xW cs);have HFR:=QH hfr;rw[hfr]at HF hres hsm;clear hfr hp;by_cases h1:(fr:Int)<n
 ·rw[if_pos h1]at hres;subst hres;go_enter func139,ntmps139;go_wp2_with fail;refine HF.out.mono ?_;rintro e W ⟨rfl,hb⟩;go_wp2_with fail;go_ret2;exact bY hb
 rw[if_neg h1]at hres;have hmk:=qb1 n (by omega) (by omega);obtain⟨m,rfl⟩:=Int.eq_ofNat_of_zero_le (show 0≤n by omega);rw[Int.toNat_natCast]at hmk hres;have xn:=QH hres;have HMK:=QH hmk;clear hres hmk;go_enter func139,ntmps139;go_wp2_with fail;refine HF.out.mono ?_;rintro e W ⟨rfl,hb⟩;have HB:=QH hb;have HPW:=QH (HP.out.below hb);clear hb HF;have hmk:=HMK.out;go_wp2_with fail;clear hmk;have hkb:qh (W.alloc (.cells (zr (List.replicate m 0)) 3)) W.heap.size 3 (zr (List.replicate m 0)):=qh.new _ _ _;have hb2:=(Below.refl W.heap.size W).alloc (Nat.le_refl _) (.cells (zr (List.replicate m 0)) 3);have hsz:(W.alloc (.cells (zr (List.replicate m 0)) 3)).heap.size=W.heap.size+1:=by simp
 obtain⟨W1,hW1⟩:=QE (W.alloc (.cells (zr (List.replicate m 0)) 3));rw[hW1]at hkb hb2 hsz ⊢;obtain⟨g,hg⟩:=QE W.heap.size;rw[hg]at hkb hb2 hsz ⊢;have HG:=QH hg;have HK:=QH hkb;have qU:=QH (qc HB.out (by rw[hg];exact hb2));have rU:=HPW;have hfi:=mV A c cs W W1 (by rw[hg];exact hb2);rw[hsz]at hfi;have HWS:Hid (w.heap.size≤W.heap.size):=HB.out.size;have qwx:Hid (w.heap.size≤g):=by rw[← hg];exact HB.out.size
 clear hkb hb2 hW1 hg HB HPW HMK;refine hfi.mono ?_;clear hfi;rintro e W2 ⟨rfl,hf,hb⟩;have HF:=QH hf;have wj:=QH (HK.out.below (by rw[hsz];exact hb));have qG:=QH (qc qU.out (by rw[hsz];exact hb));have po:=QH hsz;clear hf hb HK qU hsz;unfold qkB;go_wp2_with fail;go_loopw [21] (fun v wr=>qwv w W g (g+1) (g+1+1) A c cs m v wr) (fun v _=>m-(intOf v).toNat);case atStart=>exact⟨0,193,Nat.zero_le _,rfl,HF.out,by rw[yH cs 193 (by omega)];rfl,by rw[yH cs 193 (by omega)];exact wj.out,qG.out⟩
 case round =>
  clear HF wj qG;obtain⟨n,k,hnm,rfl,hf,wA,hk,hb⟩:=hrel;have HF:=QH hf;have tT:=QH wA;have HK:=QH hk;have HB:=QH hb;have hk2:=hf.k2;clear hf wA hk hb;by_cases hlt:n<m
  ·have qrM:(n:Int)<(m:Int):=by omega
   go_wp2_with fail;refine(gQ HF.out rU.out (by omega)).mono ?_;rintro e W3 ⟨hb3,⟨t,ht,hft,rfl,hf3⟩|⟨hs,_⟩⟩
   ·have hk3:=HK.out.of_block (hb3.block g HK.out.lt (by omega));have nT:=hk3.qu n (.int .i64 (t:Int));have hlo:=HF.out.low;have hbl:Below w.heap.size w W3:=HB.out.trans (hb3.below (fun i e=>by rw[e];have:=qwx.out;omega) HB.out.size);have hbt:qB (fun j=>j=g) W3 (W3.setCell ⟨g,n,none⟩ (.int .i64 (t:Int))):=(qB.refl _ _).setCell ⟨g,n,none⟩ _ (.inl rfl);have hcl:W3.cell? ⟨g,n,none⟩=some (.int .i64 0):=by
     rw[hk3.cell n,dE _ n (by rw[List.length_append,List.length_replicate,tT.out];omega),List.getElem_append_right (by rw[tT.out];exact Nat.le_refl _)];simp
    have jQ:=hk3.lt;have hfz:=hk3.frozen n;rw[mQ,show m-n=m-(n+1)+1 by omega]at nT;have hfo:=lG (qP cs k) (m-(n+1)) (t:Int);rw[tT.out]at hfo;rw[hfo,← hft]at nT;have hf4:jX W (W3.setCell ⟨g,n,none⟩ (.int .i64 (t:Int))) (g+1) (g+1+1) A c cs (t+1) :=
     ⟨hf3.box.of_block (hbt.block _ hf3.box.lt (by omega)),hf3.at_.of_block (hbt.block _ hf3.at_.lt (by omega)),hf3.low,hf3.lt,hf3.k1,hf3.k2,hf3.below.trans (hbt.below (fun i e=>by rw[e,HG.out];exact Nat.le_refl _) hf3.below.size)⟩
    have qwy:(qP cs (t+1)).length=n+1:=by rw[hft,List.length_append,tT.out];rfl
    have hb4:Below w.heap.size w (W3.setCell ⟨g,n,none⟩ (.int .i64 (t:Int))):=hbl.trans (hbt.below (fun i e=>by rw[e];exact qwx.out) hbl.size);have pj:=QH nT;have HF4:=QH hf4;have q0W:=QH qwy;have zY:=QH hb4;clear nT hf4 qwy hb4 hk3 hbl hbt hfo hft hb3 hf3;go_wp2_with fail;go_roundw;case rel=>exact⟨n+1,t+1,by omega,by go_num,HF4.out,q0W.out,pj.out,zY.out⟩
    case measure=>simp[intOf];omega
   ·exact absurd hs (by rw[HFR.out,tT.out];omega)
  ·have qrM:¬ (n:Int)<(m:Int):=by omega
   have qnY:n=m:=by omega
   have gZ:=HK.out;rw[qnY,Nat.sub_self,List.replicate_zero,List.append_nil]at gZ;have HKE:=QH gZ;have pq:=qnX (tT.out.trans qnY) hk2;have hr:res=(qP cs k,0):=by rw[← xn.out,pq]
   have HR:=QH hr;have HZ:=QH (qhf (cs:=cs) (i:=k) (by omega));have dH:=QH (tT.out.trans qnY);clear gZ pq hr qnY;go_wp2_with fail;go_ret2;exact qeZ HKE.out HB.out (by rw[← HG.out];exact HWS.out) dH.out (Nat.le_refl _) HZ.out HR.out
theorem uJ {fn:Func}{p u:Tmp}{ty uy:TypeId}(h:fn.results = #[.cell p ty,.cell u uy])(tmps:Array Value)(P:Program)(w:World)(a b:Addr)(v1 v2:Value)
    (hp:tmps.getD p undef=.pointer (some a)) (hu:tmps.getD u undef=.pointer (some b)) (h1:(loadVar ty a).run P w=.ok v1 w) (h2:(loadVar uy b).run P w=.ok v2 w) :
    (results fn tmps).run P w=.ok (.tuple #[v1,v2]) w:=by
 simp only[results,h];simp only[Array.getD_eq_getD_getElem?]at hp hu;simp[Sem.run_bind,Result.andThen,asAddr,hp,hu,h1,h2]
theorem eO (w:World):(isAgg 80).run prog w=.ok false w:=by kernel_rfl
theorem eP (w:World):(isAgg 27).run prog w=.ok false w:=by kernel_rfl
theorem vv {t:TypeId}{w:World}(ha:(isAgg t).run prog w=.ok false w){a:Addr}{v:Value}(hc:w.cell? a=some v):(loadVar t a).run prog w=.ok v w:=by
 unfold loadVar;rw[Sem.run_bind,ha];simp[Result.andThen,hc]
end Go.Proofs.YtdpbdkacngaemaaGreatDoor.sp
namespace Go.Proofs.YtdpbdkacngaemaaGreatDoor.sp
open _root_.Go.Proofs.Tryz Go Go.RowKit Go.Shelf ib
attribute [local go_sem] Oper.semAt_some
theorem tq {S:Nat→Prop}{w w':World}{row:Option Nat}(h:w.grownBy w' row)(hs:∀k,row=some k→S k):qB S w w' :=
 ⟨h.os,h.tape,h.output,h.size,fun k hk hn=>h.block k hk (fun e=>hn (hs k e.symm))⟩
theorem jb {S:Nat→Prop}{a w w':World}{row:Option Nat}(h:qB S a w)(hg:w.grownBy w' row)(hs:∀k,row=some k→S k∨a.heap.size≤k):qB S a w' :=
 h.trans (S':=fun k=>row=some k) (tq hg (fun _ e=>e)) hs
structure qkC(w W:World)(n e:Int):Prop where
 num:qh W w.heap.size 3 #[.int .i64 n]
 one:qh W (w.heap.size+1) 80 #[.slice none 0 0]
 two:qh W (w.heap.size+1+1) 27 #[.int .i64 e]
 below:Below w.heap.size w W
 size:W.heap.size=w.heap.size+1+1+1
theorem three(w:World)(n e:Int):qkC w (((w.alloc (.cells #[.int .i64 n] 3)).alloc (.cells #[.slice none 0 0] 80)).alloc (.cells #[.int .i64 e] 27)) n e:=by
 have s1:(w.alloc (.cells #[.int .i64 n] 3)).heap.size=w.heap.size+1:=by simp
 have s2:((w.alloc (.cells #[.int .i64 n] 3)).alloc (.cells #[.slice none 0 0] 80)).heap.size=w.heap.size+1+1:=by simp
 have k1:=qh.new w 3 #[.int .i64 n];have k2:=qh.new (w.alloc (.cells #[.int .i64 n] 3)) 80 #[.slice none 0 0];have k3:=qh.new ((w.alloc (.cells #[.int .i64 n] 3)).alloc (.cells #[.slice none 0 0] 80)) 27 #[.int .i64 e];refine⟨(k1.of_block (Below.heap_alloc _ _ _ k1.lt)).of_block (Below.heap_alloc _ _ _ ?_),?_,?_,?_,by simp⟩
 ·rw[s2];omega
 ·rw[← s1];exact k2.of_block (Below.heap_alloc _ _ _ k2.lt)
 ·rw[← s2];exact k3
 ·exact(((Below.refl w.heap.size w).alloc (Nat.le_refl _) _).alloc (by simp) _).alloc (by simp;omega) _
theorem qfa{fn:Func}{w W:World}{n e:Int}(h:qkC w W n e)(hf:fn.results = #[.cell 4 80,.cell 5 27])(tmps:Array Value)
    (h4:tmps.getD 4 undef=.pointer (some ⟨w.heap.size+1,0,none⟩)) (h5:tmps.getD 5 undef=.pointer (some ⟨w.heap.size+1+1,0,none⟩)) :
    (results fn tmps).run prog W=.ok (.tuple #[.slice none 0 0,.int .i64 e]) W :=
 uJ hf _ _ _ _ _ _ _ h4 h5 (vv (eO _) (h.one.cell 0)) (vv (eP _) (h.two.cell 0))
structure Six(w W:World)(m:Nat)(A:Option Addr)(l c:Nat):Prop where
 num:qh W w.heap.size 3 #[.int .i64 (m:Int)]
 one:qh W (w.heap.size+1) 80 #[.slice none 0 0]
 two:qh W (w.heap.size+1+1) 27 #[.int .i64 0]
 cnt:qh W (w.heap.size+1+1+1) 3 (zr (List.replicate m 0))
 box:qh W (w.heap.size+1+1+1+1) 80 #[.slice (some ⟨w.heap.size+1+1+1,0,none⟩) m m]
 ims:qh W (w.heap.size+1+1+1+1+1) 218 #[.slice A l c]
 below:Below w.heap.size w W
 size:W.heap.size=w.heap.size+1+1+1+1+1+1
theorem six{w W0:World}{m:Nat}(h:qkC w W0 m 0)(A:Option Addr)(l c:Nat) :
    Six w (((W0.alloc (.cells (zr (List.replicate m 0)) 3)).alloc (.cells #[.slice (some ⟨w.heap.size+1+1+1,0,none⟩) m m] 80)).alloc (.cells #[.slice A l c] 218)) m A l c:=by
 obtain⟨h1,h2,h3,h4,h5⟩:=h;have k4:=qh.new W0 3 (zr (List.replicate m 0));have b4:=(Below.refl W0.heap.size W0).alloc (Nat.le_refl _) (.cells (zr (List.replicate m 0)) 3);have s4:(W0.alloc (.cells (zr (List.replicate m 0)) 3)).heap.size=w.heap.size+1+1+1+1:=by simp[h5]
 generalize W0.alloc (.cells (zr (List.replicate m 0)) 3)=W4 at *;have k5:=qh.new W4 80 #[.slice (some ⟨w.heap.size+1+1+1,0,none⟩) m m];have b5:=(Below.refl W4.heap.size W4).alloc (Nat.le_refl _) (.cells #[.slice (some ⟨w.heap.size+1+1+1,0,none⟩) m m] 80);have s5:(W4.alloc (.cells #[.slice (some ⟨w.heap.size+1+1+1,0,none⟩) m m] 80)).heap.size=w.heap.size+1+1+1+1+1:=by simp[s4]
 generalize W4.alloc (.cells #[.slice (some ⟨w.heap.size+1+1+1,0,none⟩) m m] 80)=W5 at *;have k6:=qh.new W5 218 #[.slice A l c];have b6:=(Below.refl W5.heap.size W5).alloc (Nat.le_refl _) (.cells #[.slice A l c] 218);have s6:(W5.alloc (.cells #[.slice A l c] 218)).heap.size=w.heap.size+1+1+1+1+1+1:=by simp[s5]
 generalize W5.alloc (.cells #[.slice A l c] 218)=W6 at *;rw[h5]at k4;rw[s4]at k5;rw[s5]at k6;exact⟨((h1.below b4).below b5).below b6,((h2.below b4).below b5).below b6,((h3.below b4).below b5).below b6,(k4.below b5).below b6,k5.below b6,k6,qc (qc (qc h4 b4) b5) b6,s6⟩
def CI (m:Nat)(g:Nat)(W0:World)(pre:List I64)(W:World):Prop :=
 ∃cs,jV (m:Int) (List.replicate m 0) (pre.map fun x=>x.1)=some cs∧qh W g 3 (zr cs)∧qB (fun k=>k=g) W0 W
def CX (m:Nat)(g b:Nat)(W0:World)(c:Code)(pre:List I64)(W:World):Prop :=
 c=.ret∧jV (m:Int) (List.replicate m 0) (pre.map fun x=>x.1)=none∧qh W b 80 #[.slice none 0 0]∧qh W (b+1) 27 #[.int .i64 2]∧qB (fun k=>k=g∨k=b∨k=b+1) W0 W
theorem mX (L:List (List I64)):(Plain L).flatten=L.flatten.map fun x=>x.1:=by
 rw[List.map_flatten]
theorem qnZ:qnU:=by
 intro A c jW n w hp hl hn;have HP:=QH hp;obtain⟨res,hres⟩:=QE (yG jW n);rw[hres];by_cases h0:n<0
 ·have hr:res=([],2):=by rw[← hres];unfold yG;rw[if_pos (.inl h0)]
  subst hr;clear hp hres;refine(callsIn_wide (n:=9)).1 (callsIn_of_wp_marks func137 rfl trivial ?_ rfl);refine wpIn_wide.2 ?_;simp only[ntmps137,List.size_toArray,List.length_cons,List.length_nil,Nat.reduceAdd,Nat.reduceSub,Array.replicate_succ,Array.replicate_zero,List.push_toArray,List.append_toArray,List.nil_append,List.cons_append];go_wp2_with fail;exact⟨_,qfa (three w n 2) rfl _ rfl rfl,bY (three w n 2).below⟩
 by_cases h1:1024<n
 ·have hr:res=([],2):=by rw[← hres];unfold yG;rw[if_pos (.inr h1)]
  subst hr;clear hp hres;refine(callsIn_wide (n:=9)).1 (callsIn_of_wp_marks func137 rfl trivial ?_ rfl);refine wpIn_wide.2 ?_;simp only[ntmps137,List.size_toArray,List.length_cons,List.length_nil,Nat.reduceAdd,Nat.reduceSub,Array.replicate_succ,Array.replicate_zero,List.push_toArray,List.append_toArray,List.nil_append,List.cons_append];go_wp2_with fail;exact⟨_,qfa (three w n 2) rfl _ rfl rfl,bY (three w n 2).below⟩
 have hmk:=qha n (by omega) (by omega);obtain⟨m,rfl⟩:=Int.eq_ofNat_of_zero_le (show 0≤n by omega);rw[Int.toNat_natCast]at hmk;have hm:m≤1024:=by omega
 have xn:=QH hres;obtain⟨L,rfl⟩:=qk9 jW (fun l hl' z hz=>by
  obtain⟨i,hi,rfl⟩:=List.getElem_of_mem hl';obtain⟨_,_,_,_,_,_,_,h5,_⟩:=hp i hi;exact h5.mem z hz)
 have HT:=QH (three w m 0);rw[List.length_map]at hl ⊢;clear hp hres;refine(callsIn_wide (n:=9)).1 (callsIn_of_wp_marks func137 rfl trivial ?_ rfl);refine wpIn_wide.2 ?_;simp only[ntmps137,List.size_toArray,List.length_cons,List.length_nil,Nat.reduceAdd,Nat.reduceSub,Array.replicate_succ,Array.replicate_zero,List.push_toArray,List.append_toArray,List.nil_append,List.cons_append];go_wp2_with fail;clear hmk;obtain⟨W0,hW0⟩:=QE (((w.alloc (.cells #[.int .i64 (m:Int)] 3)).alloc (.cells #[.slice none 0 0] 80)).alloc (.cells #[.int .i64 0] 27));rw[hW0]at HT ⊢;clear hW0;refine(callsIn_wide (n:=9).1 (qhd Fence.wide 9 trivial rfl _ _ _ _)).mono ?_;rintro e w' ⟨rfl,rfl⟩;have qwz:((W0.alloc (.cells (zr (List.replicate m 0)) 3)).alloc (.cells #[.slice (some ⟨w.heap.size+1+1+1,0,none⟩) m m] 80)).heap.size=w.heap.size+1+1+1+1+1:=by simp[HT.out.size]
 rw[qwz];have H6:=QH (six HT.out A L.length c);clear qwz;obtain⟨W2,hW2⟩:=QE (((W0.alloc (.cells (zr (List.replicate m 0)) 3)).alloc (.cells #[.slice (some ⟨w.heap.size+1+1+1,0,none⟩) m m] 80)).alloc (.cells #[.slice A L.length c] 218));rw[hW2]at H6 ⊢;clear hW2 HT;obtain⟨q,hq⟩:=QE w.heap.size;obtain⟨d1,d2,d3,d4,d5,d6,d7,d8⟩:=H6.out;rw[hq]at d1 d2 d3 d4 d5 d6 d8 ⊢;have HQ:=QH hq;have HST:=QH (tj Fence.wide 8 trivial rfl (by decide) (q+1+1+1+1+1) A c L w W2 HP.out hl d7 d6);clear hq;go_wp2_with fail;refine wpIn_wide.1 (wpIn_rangeFunc_ownF (F:=Fence.wide) (n:=9) rfl (by decide) (gf:=268) (lb:=#[.pointer (some ⟨q+1+1+1+1+1,0,none⟩)]) rfl trivial (enters_of func268 (by kernel_rfl) rfl) HST.out
  belowK_t (belowK_b d7.size) (Below.refl _ _) (fun _=>rfl)
  (CI m (q+1+1+1) W2) (CX m (q+1+1+1) (q+1) W2) ?hI ?hIx ⟨_,rfl,d4,qB.refl _ _⟩
  (fun x=>{ tmps:=#[.slice A L.length c,.int .i64 (m:Int),undef,.pointer (some ⟨q,0,none⟩),.pointer (some ⟨q+1,0,none⟩),.pointer (some ⟨q+1+1,0,none⟩),.pointer (some ⟨q+1+1+1+1,0,none⟩),.int .i64 x.1,.int .i64 (m:Int),.bool false,.bool false,.int .i64 (m:Int),.bool false,.bool false,.int .i64 (m:Int),.slice (some ⟨q+1+1+1,0,none⟩) m m,.slice A L.length c,.func (.func 268) #[] #[.pointer (some ⟨q+1+1+1+1+1,0,none⟩)],.int .i64 x.1,undef,undef,undef,undef,undef,undef,undef,undef,undef,undef,undef,undef,undef,undef,undef,undef,undef,undef],defers:=[] })
  ?assign ?body ?done ?stop)
 case hI =>
  intro pre W W' row ⟨cs,h1,h2,h3⟩ hg hr;refine⟨cs,h1,h2.of_block (hg.block _ h2.lt (fun e=>?_)),jb h3 hg (fun k e=>.inr (hr k e).1)⟩;have:=(hr _ e.symm).1;omega
 case hIx =>
  intro cc pre W W' row ⟨h0,h1,h2,h2',h3⟩ hg hr;refine⟨h0,h1,h2.of_block (hg.block _ h2.lt (fun e=>?_)),h2'.of_block (hg.block _ h2'.lt (fun e=>?_)),jb h3 hg (fun k e=>.inr (hr k e).1)⟩;all_goals
   have:=(hr _ e.symm).1;omega
 case assign =>
  intro l x W K hK
  gi_wp2
  exact hK
 case body =>
  rintro l pre x W ⟨cs,hcs,jH,js⟩ _;have hsz:=js.size;have e1:qh W q 3 _:=d1.of_block (js.block _ d1.lt (by omega));have e2:qh W (q+1) 80 _:=d2.of_block (js.block _ d2.lt (by omega));have e3:qh W (q+1+1) 27 _:=d3.of_block (js.block _ d3.lt (by omega));have e5:qh W (q+1+1+1+1) 80 _:=d5.of_block (js.block _ d5.lt (by omega));have yB:∀cs',jV (m:Int) (List.replicate m 0) ((pre++[x]).map fun x=>x.1)=some cs'→∀W',qh W' (q+1+1+1) 3 (zr cs')→qB (fun k=>k=q+1+1+1) W W'→CI m (q+1+1+1) W2 (pre++[x]) W' :=
   fun cs' h1 W' h2 h3=>⟨cs',h1,h2,js.trans h3 (fun i e=>.inl e)⟩
  have hbl:∀W',qB (fun k=>k=q+1+1+1) W W'→Below w.heap.size W W':=fun W' h=>h.below (fun i e=>by rw[e,HQ.out];omega) (by rw[HQ.out];omega);have hsn:=qgq hcs x.1;rw[show pre.map (fun x=>x.1)++[x.1]=(pre++[x]).map (fun x=>x.1)by simp]at hsn;have kn:W.cell? ⟨q,0,none⟩=some (.int .i64 (m:Int)):=e1.cell 0;have kb:W.cell? ⟨q+1+1+1+1,0,none⟩=some (.slice (some ⟨q+1+1+1,0,none⟩) m m):=e5.cell 0;have ko:W.cell? ⟨q+1,0,none⟩=some (.slice none 0 0):=e2.cell 0;have kt:W.cell? ⟨q+1+1,0,none⟩=some (.int .i64 0):=e3.cell 0;have ln:=e1.lt;have lo:=e2.lt;have lt:=e3.lt;have lb:=e5.lt;have fo:=e2.frozen 0;have ft:=e3.frozen 0;have HPO:=QH yB;have yc:=QH hbl;have uh:=QH hsn;have vU:=QH jH;have q0X:=QH js;have HCS:=QH hcs;have E2:=QH e2;have E3:=QH e3;have za6:=x.2;clear yB hbl hsn jH js hcs e1 e2 e3 e5 hsz d1 d2 d3 d4 d5 d6 d7 d8;generalize x.1=y at *;by_cases hy0:y=0
  ·subst hy0;have hs:=uh.out;rw[if_pos rfl]at hs;have kY:=QH hs;clear hs
   gi_wp2
   exact⟨KeepsOthers.refl _,Below.refl _ _,HPO.out _ kY.out _ vU.out (qB.refl _ _)⟩
  ·have za7:(y == 0)=false:=by simpa using hy0
   by_cases cT:y<193∨(m:Int)≤y
   ·have hs:=uh.out;rw[if_neg hy0,if_pos cT]at hs;have kY:=QH hs;clear hs;have qi6:Hid (KeepsOthers W ((W.setCell ⟨q+1,0,none⟩ (.slice none 0 0)).setCell ⟨q+1+1,0,none⟩ (.int .i64 2))∧CX m (q+1+1+1) (q+1) W2 .ret (pre++[x]) ((W.setCell ⟨q+1,0,none⟩ (.slice none 0 0)).setCell ⟨q+1+1,0,none⟩ (.int .i64 2))):=by
     have b1:qB (fun k=>k=q+1) W (W.setCell ⟨q+1,0,none⟩ (.slice none 0 0)):=(qB.refl _ _).setCell ⟨q+1,0,none⟩ _ (.inl rfl);have b2:qB (fun k=>k=q+1+1) (W.setCell ⟨q+1,0,none⟩ (.slice none 0 0)) ((W.setCell ⟨q+1,0,none⟩ (.slice none 0 0)).setCell ⟨q+1+1,0,none⟩ (.int .i64 2)):=(qB.refl _ _).setCell ⟨q+1+1,0,none⟩ _ (.inl rfl);have k1:=E2.out.qu 0 (.slice none 0 0);have k2:=(E3.out.of_block (b1.block _ E3.out.lt (by omega))).qu 0 (.int .i64 2);refine⟨(KeepsOthers.setCell _ _ _).trans (KeepsOthers.setCell _ _ _),rfl,kY.out,k1.of_block (b2.block _ k1.lt (by omega)),k2,?_⟩;have b3:qB (fun k=>k=q+1∨k=q+1+1) W _:=(b1.mono (S':=fun k=>k=q+1∨k=q+1+1) (fun i e=>.inl e)).trans b2 (fun i e=>.inl (.inr e));exact(q0X.out.mono (S':=fun k=>k=q+1+1+1∨k=q+1∨k=q+1+1) (fun i e=>.inl e)).trans b3 (fun i e=>.inl (.inr e))
    by_cases xm:y<193
    ·gi_wp2
     exact qi6.out
    ·have hge:(m:Int)≤y:=by omega
     gi_wp2
     exact qi6.out
   ·have hs:=uh.out;rw[if_neg hy0,if_neg cT]at hs;have xm:¬ y<193:=fun h=>cT (.inl h);have hge:¬ (m:Int)≤y:=fun h=>cT (.inr h);obtain⟨t,rfl⟩:=Int.eq_ofNat_of_zero_le (show 0≤y by omega);rw[Int.toNat_natCast]at hs;have htm:t<m:=by omega
    have hti:(t:Int)<(m:Int):=by omega
    have hcl:cs.length=m:=by rw[bJ HCS.out,List.length_replicate]
    have htd:t<cs.length:=by rw[hcl];exact htm
    have q0Y:=QH hs;have hq':=vU.out.cell t;rw[dE cs t htd]at hq';have hfz:=vU.out.frozen t;have jQ:=vU.out.lt;have hgd:cs.getD t 0=cs[t]:=by simp[List.getD,htd]
    have nT:=mQ cs t (wrap64 (cs[t]+1));have qrP:=vU.out.qu t (.int .i64 (wrap64 (cs[t]+1)));rw[nT,← hgd]at qrP;have qw0:Hid (qh (W.setCell ⟨q+1+1+1,t,none⟩ (.int .i64 (wrap64 (cs.getD t 0+1)))) (q+1+1+1) 3 (zr (bump cs t))):=qrP;have qG:Hid (qB (fun k=>k=q+1+1+1) W (W.setCell ⟨q+1+1+1,t,none⟩ (.int .i64 (wrap64 (cs.getD t 0+1))))):=(qB.refl _ _).setCell ⟨q+1+1+1,t,none⟩ _ (.inl rfl);rw[hgd]at qw0 qG;have hv:=bX HCS.out (pQ _) cs[t] (List.getElem_mem htd);unfold qA at hv;clear hs hgd nT qrP hcl;generalize cs[t]=v at *
    gi_wp2
    exact⟨KeepsOthers.setCell _ _ _,yc.out _ qG.out,HPO.out _ q0Y.out _ qw0.out qG.out⟩
 case stop =>
  rintro D cc pre W hD hpre ⟨rfl,hx,h1,h2,h3⟩ hK;have hr:res=([],2):=by
   rw[← xn.out];refine qb0 ?_;obtain⟨r,hr⟩:=hpre;rw[mX,← hr,List.map_append];exact qgr hx _
  subst hr
  gi_wp2
  refine⟨by simp,.inl ⟨_,_,rfl,run_takeDeferred hK,?_⟩⟩;have p1:qh (W.putObj D (.deferred none)) (q+1) 80 _:=h1.of_block (World.putObj_heap_other (by omega));have p2:qh (W.putObj D (.deferred none)) (q+1+1) 27 _:=h2.of_block (World.putObj_heap_other (by omega));have hb1:Below w.heap.size w W:=d7.trans (h3.below (fun i e=>by rw[HQ.out];omega) d7.size);have hb2:Below w.heap.size w (W.putObj D (.deferred none)):=hb1.grown (grownBy_putObj' W D _) hb1.size (fun k e=>by cases e;rw[HQ.out];omega);exact⟨_,uJ rfl _ _ _ ⟨q+1,0,none⟩ ⟨q+1+1,0,none⟩ _ _ rfl rfl (vv (eO _) (p1.cell 0)) (vv (eP _) (p2.cell 0)),bY hb2⟩
 case done =>
  rintro D ys W hD rfl ⟨cs,hcs,jH,js⟩ hK;have hr:res=(cs,0):=by
   rw[← xn.out];refine qdI (by omega) (by omega) ?_;rw[mX,Int.toNat_natCast];exact hcs
  have hcl:cs.length=m:=by rw[bJ hcs,List.length_replicate]
  have hz:=bX hcs (pQ _);have hsz:=js.size;have e2:qh W (q+1) 80 _:=d2.of_block (js.block _ d2.lt (by omega));have e3:qh W (q+1+1) 27 _:=d3.of_block (js.block _ d3.lt (by omega));have e5:qh W (q+1+1+1+1) 80 _:=d5.of_block (js.block _ d5.lt (by omega));have hb1:Below w.heap.size w W:=d7.trans (js.below (fun i e=>by rw[e,HQ.out];omega) d7.size);have kb:W.cell? ⟨q+1+1+1+1,0,none⟩=some (.slice (some ⟨q+1+1+1,0,none⟩) m m):=e5.cell 0;have ko:W.cell? ⟨q+1,0,none⟩=some (.slice none 0 0):=e2.cell 0;have kt:W.cell? ⟨q+1+1,0,none⟩=some (.int .i64 0):=e3.cell 0;have lo:=e2.lt;have lt:=e3.lt;have lb:=e5.lt;have fo:=e2.frozen 0;have ft:=e3.frozen 0;have HR:=QH hr;have yK:=QH hcl;have HZ:=QH hz;have E2:=QH e2;have E3:=QH e3;have vU:=QH jH;have qU:=QH hb1;have HK:=QH hK;clear hr hcl hz hsz e2 e3 e5 jH hb1 hcs js hK d1 d2 d3 d4 d5 d6 d7;go_wp2_with fail;have b1:qB (fun k=>k=q+1) W (W.setCell ⟨q+1,0,none⟩ (.slice (some ⟨q+1+1+1,0,none⟩) m m)):=(qB.refl _ _).setCell ⟨q+1,0,none⟩ _ (.inl rfl);have b2:qB (fun k=>k=q+1+1) (W.setCell ⟨q+1,0,none⟩ (.slice (some ⟨q+1+1+1,0,none⟩) m m)) ((W.setCell ⟨q+1,0,none⟩ (.slice (some ⟨q+1+1+1,0,none⟩) m m)).setCell ⟨q+1+1,0,none⟩ (.int .i64 0)):=(qB.refl _ _).setCell ⟨q+1+1,0,none⟩ _ (.inl rfl);have k1:=E2.out.qu 0 (.slice (some ⟨q+1+1+1,0,none⟩) m m);have k2:=(E3.out.of_block (b1.block _ E3.out.lt (by omega))).qu 0 (.int .i64 0);have k1':=k1.of_block (b2.block _ k1.lt (by omega));have b3:qB (fun k=>k=q+1∨k=q+1+1) W _:=(b1.mono (S':=fun k=>k=q+1∨k=q+1+1) (fun i e=>.inl e)).trans b2 (fun i e=>.inl (.inr e));generalize (W.setCell ⟨q+1,0,none⟩ (.slice (some ⟨q+1+1+1,0,none⟩) m m)).setCell ⟨q+1+1,0,none⟩ (.int .i64 0)=W' at *;have hKD:W'.heap[D]?=some (.deferred (some [])):=(b3.block D (Array.getElem?_eq_some_iff.1 HK.out).1 (by omega)).trans HK.out;refine⟨by simp,.inl ⟨_,_,rfl,run_takeDeferred hKD,?_⟩⟩;have p1:qh (W'.putObj D (.deferred none)) (q+1) 80 _:=k1'.of_block (World.putObj_heap_other (by omega));have p2:qh (W'.putObj D (.deferred none)) (q+1+1) 27 _:=k2.of_block (World.putObj_heap_other (by omega));have p3:qh (W'.putObj D (.deferred none)) (q+1+1+1) 3 _:=(vU.out.of_block (b3.block _ vU.out.lt (by omega))).of_block (World.putObj_heap_other (by omega));have hw1:Below w.heap.size w W':=qU.out.trans (b3.below (fun i e=>by rw[HQ.out];omega) qU.out.size);have hw2:Below w.heap.size w (W'.putObj D (.deferred none)):=hw1.grown (grownBy_putObj' W' D _) hw1.size (fun k e=>by cases e;rw[HQ.out];omega);exact⟨_,uJ rfl _ _ _ ⟨q+1,0,none⟩ ⟨q+1+1,0,none⟩ _ _ rfl rfl (vv (eO _) (p1.cell 0)) (vv (eP _) (p2.cell 0)),qeZ p3 hw2 (by rw[HQ.out];omega) yK.out (Nat.le_refl _) HZ.out HR.out⟩
end Go.Proofs.YtdpbdkacngaemaaGreatDoor.sp
namespace Go.Proofs.YtdpbdkacngaemaaGreatDoor.vt.pg
open _root_.Go.Proofs.Tryz Go Go.RowKit Go.Sort ib mt im sp
abbrev Pl:=Int × Int × Bt
theorem qrQ:(prog.info? 214).map (fun i=>(i.zero,i.size,i.bytes))=some (some (.agg #[.int .i64 0,.int .i64 0,.string ByteArray.empty]),3,32):=by kernel_rfl
def yN:List Pl→List Value
 | []=>[]
 | x::r=>.int .i64 x.1 :: .int .i64 x.2.1 :: .string (str x.2.2)::yN r
theorem dY:∀(l r:List Pl),yN (l++r)=yN l++yN r
 | [],_=>rfl
 | x::l,r=>by simp[yN,dY l r]
theorem mY:∀l:List Pl,(yN l).length=l.length*3
 | []=>rfl
 | x::l=>by simp[yN,mY l];omega
theorem n4:∀(l:List Pl) (i:Nat) (h:i<l.length),(yN l)[i*3]?=some (.int .i64 l[i].1)∧(yN l)[i*3+1]?=some (.int .i64 l[i].2.1)∧(yN l)[i*3+2]?=some (.string (str l[i].2.2))
 | x::l,0,_=>⟨rfl,rfl,rfl⟩
 | x::l,i+1,h=>by
  have:=n4 l i (by simpa using h);rw[show(i+1)*3=i*3+1+1+1 from by omega];exact this
theorem n9:∀(l:List Pl) (k:Nat) (h:k<l.length) (a:Int),(yN l).set (k*3+1) (.int .i64 a)=yN (l.set k (l[k].1,a,l[k].2.2))
 | y::l,0,_,a=>rfl
 | y::l,k+1,hk,a=>by
  have ih:=n9 l k (by simpa using hk) a;rw[show(k+1)*3+1=k*3+1+1+1+1 by omega];simp only[yN,List.set_cons_succ];exact congrArg _ (congrArg _ (congrArg _ ih))
def tr (w:World)(B:Nat)(v:Value)(l:List Pl):Prop:=w.ownsRow B 214 3 v l.length (yN l)
def PlL (w:World)(A:Option Addr)(l:List Pl):Prop:=∀i (h:i<l.length),∃b o,A=some ⟨b,o,none⟩∧b<w.heap.size∧w.cell? ⟨b,o+i*3,none⟩=some (.int .i64 l[i].1)∧w.cell? ⟨b,o+i*3+1,none⟩=some (.int .i64 l[i].2.1)∧w.cell? ⟨b,o+i*3+2,none⟩=some (.string (str l[i].2.2))
theorem PlL.below{w w':World}{A:Option Addr}{l:List Pl}(h:PlL w A l)(hb:Below w.heap.size w w'):PlL w' A l:=by
 intro i hi;obtain⟨b,o,h1,h2,h3,h4,h5⟩:=h i hi;exact⟨b,o,h1,Nat.lt_of_lt_of_le h2 hb.size,(hb.cell (p:=⟨b,o+i*3,none⟩) h2).trans h3,(hb.cell (p:=⟨b,o+i*3+1,none⟩) h2).trans h4,(hb.cell (p:=⟨b,o+i*3+2,none⟩) h2).trans h5⟩
theorem tr.view{w:World}{B:Nat}{v:Value}{l:List Pl}(h:tr w B v l):∃a c,v=.slice a l.length c∧PlL w a l:=by
 rcases h.2 with⟨rfl,h0⟩|⟨g,cap,cur,rfl,hg,hh,hcc,hm,hcs,yb⟩
 ·obtain rfl:l=[]:=List.length_eq_zero_iff.1 h0;exact⟨none,0,rfl,fun i h=>by simp at h⟩
 ·refine⟨some ⟨g,0,none⟩,cap,rfl,fun i hi=>?_⟩;have key:∀(j:Nat) (u:Value),(yN l)[j]?=some u→w.cell? ⟨g,j,none⟩=some u:=by
   intro j u hu;rw[cell_of_row w g j cur 214 (0,0) hh];rw[← yb,List.getElem?_take]at hu;split at hu
   ·simpa using hu
   ·cases hu
  obtain⟨g0,g1,g2⟩:=n4 l i hi;exact⟨g,0,rfl,(Array.getElem?_eq_some_iff.1 hh).1,by rw[Nat.zero_add];exact key _ _ g0,by rw[Nat.zero_add];exact key _ _ g1,by rw[Nat.zero_add];exact key _ _ g2⟩
theorem tr.below{w w':World}{B:Nat}{v:Value}{l:List Pl}(h:tr w B v l)(hb:Below w.heap.size w w'):tr w' B v l:=zK h (fun j hj=>hb.block j (h.lt j hj).2)
theorem tr.set{w:World}{B:Nat}{l:List Pl}{g c n:Nat}(h:tr w B (.slice (some ⟨g,0,none⟩) n c) l)(k:Nat)(hk:k<l.length)(a:Int) :
    tr (w.setCell ⟨g,k*3+1,none⟩ (.int .i64 a)) B (.slice (some ⟨g,0,none⟩) n c) (l.set k (l[k].1,a,l[k].2.2))∧w.frozen? ⟨g,k*3+1,none⟩=false∧B≤g∧g<w.heap.size:=by
 rcases h.2 with⟨e,h0⟩|⟨g',cap,cur,e,hg,hh,hcc,hm,hcs,yb⟩
 ·cases e
 ·simp only[Value.slice.injEq,Option.some.injEq,Addr.mk.injEq,and_true]at e;obtain⟨rfl,rfl,rfl⟩:=e;have gZ:qh w g 214 cur:=hh;have rS:(l.set k (l[k].1,a,l[k].2.2)).length=l.length:=by rw[List.length_set]
  refine⟨⟨by rw[mY],.inr ⟨g,c,_,by rw[rS],hg,gZ.qu (k*3+1) (.int .i64 a),by rw[rS];exact hcc,hm,by simpa using hcs,?_⟩⟩,gZ.frozen _,hg,gZ.lt⟩;rw[rS,Array.toList_setIfInBounds,List.take_set,yb];exact n9 l k hk a
def PL (x:List (Int × Bt))(at_:List Int):List Pl:=List.zipWith (fun c a=>(c.1,a,c.2)) x at_
def P0 (x:List (Int × Bt)):List Pl:=x.map fun c=>(c.1,0,c.2)
theorem qhg{x:List (Int × Bt)}{k:Nat}(h:k<x.length):full (x.take (k+1))=full (x.take k)+if x[k].2=zb then 0 else 1:=by
 unfold full;rw[List.take_succ_eq_append_getElem h,List.filter_append,List.length_append]
 congr 1
 by_cases e:x[k].2=zb <;> simp[e]
def na (P:List Pl):List Wr:=P.filterMap fun p=>if p.2.1=0 then none else some (p.2.1,p.2.2)
theorem eQ:∀(x:List (Int × Bt)) (fr:List Int),(∀f∈fr,f≠0)→full x≤fr.length→na (PL x (qg fr x).1)=(qg fr x).2
 | [],fr,_,_=>by simp[qg,PL,na]
 | (k,s)::r,fr,hf,h=>by
  rw[vk]at h;by_cases hs:s=zb
  ·rw[if_pos hs]at h;have ih:=eQ r fr hf (by omega);have e:qg fr ((k,s)::r)=(0::(qg fr r).1,(qg fr r).2):=by
    cases fr <;> simp[qg,hs]
   rw[e];simpa[PL,na]using ih
  ·rw[if_neg hs]at h;cases fr with
   | nil=>simp at h
   | cons f fr =>
    have ih:=eQ r fr (fun z hz=>hf z (by simp[hz])) (by simp at h;omega);have hf0:=hf f (by simp);have e:qg (f::fr) ((k,s)::r)=(f::(qg fr r).1,(f,s)::(qg fr r).2):=by
     simp[qg,hs]
    rw[e];simpa[PL,na,hf0]using ih
def PlR (x:List (Int × Bt))(w:World)(v f i:Value)(wr:World):Prop :=
 ∃k:Nat,k≤x.length∧i=.int .i64 (k:Int)∧f=.int .i64 ((full (x.take k):Nat):Int)∧tr wr w.heap.size v (P0 (x.take k))∧Below w.heap.size w wr
def PcG (v pd N:Nat)(T:Value)(n1 n2:Nat)(ims:List (List Int))(cs:List Int):Nat→Value→World→Prop
 | 0,u,_=>u=pt v
 | 1,u,_=>u=pt v
 | 2,u,_=>u=pt v
 | 3,u,_=>u=T
 | 4,u,W=>∃A c,u=.slice A n1 c∧bN W A ims
 | 5,u,_=>u=pt v
 | 6,u,_=>u=pt v
 | 7,u,_=>u=.pointer (some ⟨v,9,none⟩)
 | 8,u,_=>u=pt pd
 | 9,u,_=>u=.int .i64 (N:Int)
 | 10,u,W=>∃A c,u=.tuple #[.slice A n2 c,.int .i64 0]∧ib.qH W A cs
 | 11,u,W=>∃A c,u=.tuple #[.slice A n2 c,.int .i64 0]∧ib.qH W A cs
 | 12,u,W=>∃A c,u=.slice A n2 c∧ib.qH W A cs
 | 13,u,_=>u=.int .i64 0
 | 14,u,W=>∃A c,u=.slice A n2 c∧ib.qH W A cs
 | 15,u,_=>u=.int .i64 0
 | _,_,_=>True
theorem qkE(v pd N:Nat)(T:Value)(n1 n2:Nat)(ims:List (List Int))(cs:List Int)(i:Nat)(u:Value)(w w':World)(hi:i<16)(h:PcG v pd N T n1 n2 ims cs i u w)(hb:Below w.heap.size w w'):PcG v pd N T n1 n2 ims cs i u w':=by
 match i,hi,h with
 | 0,_,h | 1,_,h | 2,_,h | 3,_,h | 5,_,h | 6,_,h | 7,_,h | 8,_,h | 9,_,h | 13,_,h | 15,_,h=>exact h
 | 4,_,⟨A,c,h1,h2⟩=>exact⟨A,c,h1,h2.below hb⟩
 | 10,_,⟨A,c,h1,h2⟩ | 11,_,⟨A,c,h1,h2⟩ | 12,_,⟨A,c,h1,h2⟩ | 14,_,⟨A,c,h1,h2⟩=>exact⟨A,c,h1,h2.below hb⟩
 | j+16,hi,_=>exact absurd hi (by omega)
def qoa (r:(List Int × List Wr) × Int)(x:List (Int × Bt))(w:World)(e:Ending)(w':World):Prop:=Below w.heap.size w w'∧((r.2≠0∧e=.returned (.tuple #[.slice none 0 0,.int .i64 r.2]))∨(r.2=0∧∃v,e=.returned (.tuple #[v,.int .i64 0])∧tr w' w.heap.size v (PL x r.1.1)))
end Go.Proofs.YtdpbdkacngaemaaGreatDoor.vt.pg
namespace Go.Proofs.YtdpbdkacngaemaaGreatDoor.im
open _root_.Go.Proofs.Tryz Go Go.RowKit ib
def okO (r:List Int)(w:World)(e:Ending)(w':World):Prop:=∃v,e=.returned v∧qV w' w.heap.size v r∧Below w.heap.size w w'
theorem qkF{w:World}{ad:Addr}{zs:List Int}(h:qH w (some ad) zs)(m:Nat):∀(j:Nat) (u:Value),((zs.take m).map (Value.int .i64))[j]?=some u→w.cell? (ad.add j)=some u:=by
 intro j u hu;rw[List.getElem?_map]at hu;cases hz:(zs.take m)[j]? with
 | none=>rw[hz]at hu;cases hu
 | some z =>
  rw[hz]at hu;injection hu with hu
  subst hu;obtain⟨hj,rfl⟩:=List.getElem?_eq_some_iff.1 hz;have hj':j<zs.length:=by simp at hj;omega
  obtain⟨b,o,h1,_,h3,_⟩:=h j hj';injection h1 with h1
  subst h1;rw[addr_add,h3,List.getElem_take]
theorem qkG(zs:List Int):∀u∈zs.map (Value.int .i64),u.oneCell'=true:=by
 intro u hu;obtain⟨z,_,rfl⟩:=List.mem_map.1 hu;rfl
def qw1:Prop:=∀(A:Option Addr) (c:Nat) (l:List Int) (b s:Int) (w:World),yU w A l c→l.length≤1000→qA b→qA s →
 Calls prog 143 #[.slice A l.length c,.int .i64 b,.int .i64 s] w (qf4 (tY l b s) w)
theorem qob(w:World):(w.alloc (.cells #[] 3)).ownsRow w.heap.size 3 1 (.slice (some ⟨w.heap.size,0,none⟩) 0 0) 0 [] :=
 ⟨rfl,.inr ⟨w.heap.size,0,#[],rfl,Nat.le_refl _,heap_alloc_new w _,Nat.le_refl _,by unfold maxLen;omega,rfl,rfl⟩⟩
theorem qkH(w:World)(A:Option Addr)(l:List Int)(h:qH w A l)(h1:1≤l.length):∃b o,A=some ⟨b,o,none⟩:=by
 obtain⟨b,o,h2,_⟩:=h 0 (by omega);exact⟨b,o,h2⟩
theorem eR (A:Option Addr)(c:Nat)(l:List Int)(w:World)(hp:qH w A l)(hl:l.length≤1000)(h1:1≤l.length) :
    Calls prog 224 #[.slice A l.length c] w (okO l w):=by
 obtain⟨i0,hi,hz0,hz1,hz2⟩:=info_parts vE;obtain⟨b,o,rfl⟩:=qkH w A l hp h1;have H0:=QH (qob w);have HB:=QH ((Below.refl w.heap.size w).alloc (Nat.le_refl _) (.cells #[] 3));have qpJ:=QH (qkF (hp.below ((Below.refl w.heap.size w).alloc (Nat.le_refl _) (.cells #[] 3))) l.length);rw[List.take_length]at qpJ;have q1a:=QH (qkG l);have qn:(binOp .eql 80 (.slice (some ⟨b,o,none⟩) l.length c) (.slice none 0 0)).run prog w=.ok (.bool false) w:=Lib.run_eql_slice_nil w _ _ _ _ _ _ _ underlying80;clear hp;go_enter func224,ntmps224;go_wp2_with (at_builtin;refine wpList_append_own _ rfl (.tmp 5) (.tmp 6) 80 rfl w.heap.size 3 i0 (.int .i64 0) 1 8 underlying80 hi hz0 hz1 hz2 rfl (by decide) _ 0 [] rfl H0.out ⟨b,o,none⟩ l.length c (l.map (Value.int .i64)) rfl (by rw[List.length_map,Nat.mul_one]) qpJ.out q1a.out ?_ ?_ HB.out.size ?_)
 ·unfold maxLen;omega
 ·omega
 ·intro v' w1 hown hgrow _;have hb1:=HB.out.grown hgrow HB.out.size (fun j hj=>(H0.out.lt j hj).1);have hos:qV w1 w.heap.size v' l:=hown;have HO:=QH hos;have qU:=QH hb1;clear hown hgrow hb1 hos;go_wp2_with fail;go_ret;exact⟨_,rfl,HO.out,qU.out⟩
theorem qoc{w:World}{B:Nat}{v:Value}{l:List Int}(h:qV w B v l)(k:Nat)(hk:k<l.length)(z:Int) :
    ∃g cap,v=.slice (some ⟨g,0,none⟩) l.length cap∧l.length≤cap∧B≤g∧g<w.heap.size∧(∃u,w.cell? ⟨g,k,none⟩=some u)∧w.frozen? ⟨g,k,none⟩=false∧qV (w.setCell ⟨g,k,none⟩ (.int .i64 z)) B v (l.set k z):=by
 rcases h.2 with⟨_,h0⟩|⟨g,cap,cur,rfl,hg,hh,hcc,hm,hcs,yb⟩
 ·omega
 ·have hb:qh w g 3 cur:=hh;have hsz:k<cur.size:=by omega
  refine⟨g,cap,rfl,hcc,hg,hb.lt,⟨cur[k],by rw[hb.cell k,Array.getElem?_eq_getElem hsz]⟩,hb.frozen k,?_⟩;have hs:=hb.qu k (.int .i64 z);refine⟨by simp,.inr ⟨g,cap,cur.setIfInBounds k (.int .i64 z),by simp,hg,hs,by simpa using hcc,hm,by simpa using hcs,?_⟩⟩;rw[Nat.mul_one]at yb ⊢;rw[List.length_set,Array.toList_setIfInBounds,List.take_set,yb,List.map_set]
theorem qw2:qw1:=by
 intro A c l b s w hs hl hb hn;have HP:=QH hs.ints;have HM:=QH hs.ints.mem;have HB:=QH hb;have HN:=QH hn;obtain⟨res,hres⟩:=QE (tY l b s);rw[hres];unfold tY at hres;clear hs hb hn;by_cases h0:b<0
 ·rw[if_pos (.inl h0)]at hres;subst hres;go_enter func143,ntmps143;go_wp2_with fail;go_ret2;exact l9 (Below.refl _ _)
 by_cases h1:(l.length:Int)≤b
 ·rw[if_pos (.inr (.inl h1))]at hres;subst hres;go_enter func143,ntmps143;go_wp2_with fail;go_ret2;exact l9 (Below.refl _ _)
 by_cases h2:s<0
 ·rw[if_pos (.inr (.inr h2))]at hres;subst hres;go_enter func143,ntmps143;go_wp2_with fail;go_ret2;exact l9 (Below.refl _ _)
 rw[if_neg (by omega)]at hres;obtain⟨k,rfl⟩:=Int.eq_ofNat_of_zero_le (show 0≤b by omega);rw[Int.toNat_natCast]at hres;have hk:k<l.length:=by omega
 have xn:=QH hres;have HC:=QH (eR A c l w HP.out hl (by omega));clear hres;go_enter func143,ntmps143;go_wp2_with fail;refine HC.out.mono ?_;rintro e W ⟨v,rfl,ho,hw⟩;obtain⟨g,cap,rfl,rD,hg,jQ,⟨u,hu⟩,hf,ho2⟩:=qoc ho k hk s;have HO:=QH ho2;have HG:=QH hg;have HW:=QH hw;have ja:(k:Int)<(l.length:Int):=by omega
 clear ho ho2 hw;go_wp2_with fail;go_ret2;refine qcw HO.out ?_ (HW.out.setCell (p:=⟨g,k,none⟩) HG.out _) xn.out.symm;intro z hz;rcases List.mem_or_eq_of_mem_set hz with h|h
 ·exact HM.out z h
 ·rw[h];exact HN.out
theorem qkI{w w':World}{B:Nat}{v:Value}{l:List Int}(h:qV w B v l)(hk:∀g,v.ownBlock=some g→w'.heap[g]?=w.heap[g]?):qV w' B v l:=by
 refine⟨h.1,?_⟩;rcases h.2 with h0|⟨g,cap,cur,rfl,hg,hh,hcc,hm,hcs,yb⟩
 ·exact .inl h0
 ·exact .inr ⟨g,cap,cur,rfl,hg,(hk g rfl).trans hh,hcc,hm,hcs,yb⟩
theorem et {w:World}{B:Nat}{v:Value}{l:List Int}(h:qV w B v l)(g:Nat)(hg:v.ownBlock=some g):B≤g∧g<w.heap.size:=by
 rcases h.2 with⟨rfl,_⟩|⟨g',cap,cur,rfl,hg',hh,_⟩
 ·cases hg
 ·injection hg with e
  have e':g'=g:=e;subst e';exact⟨hg',(Array.getElem?_eq_some_iff.1 hh).1⟩
structure tu(w:World)(U V:List Int)(b:Nat)(v:Value)(r:List Int)(wr:World):Prop where
 one:qh wr b 276 (qj U)
 two:qh wr (b+1) 276 (qj V)
 own:qV wr w.heap.size v r
 apart:v.ownBlock≠some b∧v.ownBlock≠some (b+1)
 below:Below w.heap.size w wr
theorem tu.drew{w wr:World}{U V:List Int}{b:Nat}{v:Value}{r:List Int}(h:tu w U V b v r wr)(n:Nat):tu w U V b v r (wr.drewN n) :=
 ⟨h.one,h.two,h.own,h.apart,quY h.below n⟩
theorem tu.new{w wr:World}{U V:List Int}{b:Nat}{v:Value}{r:List Int}(h:tu w U V b v r wr)(o:Obj):tu w U V b v r (wr.alloc o) :=
 ⟨h.one.of_block (Below.heap_alloc _ _ _ h.one.lt),h.two.of_block (Below.heap_alloc _ _ _ h.two.lt),qkI h.own fun g hg=>Below.heap_alloc _ _ _ (et h.own g hg).2,h.apart,h.below.alloc h.below.size _⟩
theorem tu.put{w wr w1:World}{U V:List Int}{b:Nat}{v v':Value}{r r':List Int}(h:tu w U V b v r wr)(ho:qV w1 w.heap.size v' r')(hg:wr.grownBy w1 v.ownBlock)(hw:v'.ownBlock=v.ownBlock∨v'.ownBlock=some wr.heap.size):tu w U V b v' r' w1:=by
 have l1:=h.one.lt;have l2:=h.two.lt;refine⟨h.one.of_block (hg.block _ l1 fun e=>h.apart.1 e.symm),h.two.of_block (hg.block _ l2 fun e=>h.apart.2 e.symm),ho,?_,h.below.grown hg h.below.size fun k hk=>(et h.own k hk).1⟩;rcases hw with e|e
 ·rw[e];exact h.apart
 ·rw[e];exact⟨fun e=>by injection e;omega,fun e=>by injection e;omega⟩
end Go.Proofs.YtdpbdkacngaemaaGreatDoor.im
namespace Go.Proofs
open _root_.Go.Proofs.Tryz Go.Shelf
def Tryz.ie:Go.Shelf.Ren:=⟨fun | 105=>162 | 212=>232 | 99=>233 | 165=>234 | 166=>235 | 170=>236 | 169=>237 | 263=>270 | 264=>271 | 206=>272 | 240=>273 | 241=>274 | 276=>289 | 277=>290|n=>n,fun | 9=>9 | 3=>3 | 4=>4 | 0=>0 | 46=>281 | 109=>291 | 5=>5 | 72=>296 | 76=>299 | 51=>244 | 146=>326 | 53=>36 | 148=>328 | 70=>294 | 37=>64 | 75=>298 | 127=>330 | 164=>345 | 80=>226|n=>n,fun|n=>n⟩
theorem Tryz.qod:Go.Proofs.Lays.n105 prog Tryz.ie:={
 mixed:=by kernel_rfl
 f99:=func233.trans (congrArg some (by kernel_rfl))
 f105:=func162.trans (congrArg some (by kernel_rfl))
 f165:=func234.trans (congrArg some (by kernel_rfl))
 f166:=func235.trans (congrArg some (by kernel_rfl))
 f169:=func237.trans (congrArg some (by kernel_rfl))
 f170:=func236.trans (congrArg some (by kernel_rfl))
 f206:=func272.trans (congrArg some (by kernel_rfl))
 f212:=func232.trans (congrArg some (by kernel_rfl))
 f240:=func273.trans (congrArg some (by kernel_rfl))
 f241:=func274.trans (congrArg some (by kernel_rfl))
 f263:=func270.trans (congrArg some (by kernel_rfl))
 f264:=func271.trans (congrArg some (by kernel_rfl))
 f276:=func289.trans (congrArg some (by kernel_rfl))
 f277:=func290.trans (congrArg some (by kernel_rfl))
 t0:=underlying0
 a0:=isAgg0
 z0:=sizeOf0
 v0:=zeroValue0
 t3:=underlying3
 a3:=isAgg3
 z3:=sizeOf3
 v3:=zeroValue3
 t4:=underlying4
 a4:=isAgg4
 z4:=sizeOf4
 v4:=zeroValue4
 t5:=underlying5
 a5:=isAgg5
 z5:=sizeOf5
 v5:=zeroValue5
 t9:=underlying9
 a9:=isAgg9
 z9:=sizeOf9
 v9:=zeroValue9
 t20:=underlying20
 a20:=isAgg20
 z20:=sizeOf20
 v20:=zeroValue20
 t37:=underlying64
 a37:=isAgg64
 z37:=sizeOf64
 v37:=zeroValue64
 t46:=underlying281
 a46:=isAgg281
 z46:=sizeOf281
 v46:=zeroValue281
 t51:=underlying244
 a51:=isAgg244
 z51:=sizeOf244
 v51:=zeroValue244
 t53:=underlying36
 a53:=isAgg36
 z53:=sizeOf36
 v53:=zeroValue36
 t70:=underlying294
 a70:=isAgg294
 z70:=sizeOf294
 v70:=zeroValue294
 t72:=underlying296
 a72:=isAgg296
 z72:=sizeOf296
 v72:=zeroValue296
 t75:=underlying298
 a75:=isAgg298
 z75:=sizeOf298
 v75:=zeroValue298
 t76:=underlying299
 a76:=isAgg299
 z76:=sizeOf299
 v76:=zeroValue299
 t109:=underlying291
 a109:=isAgg291
 z109:=sizeOf291
 v109:=zeroValue291
 t127:=underlying330
 a127:=isAgg330
 z127:=sizeOf330
 v127:=zeroValue330
 t146:=underlying326
 a146:=isAgg326
 z146:=sizeOf326
 v146:=zeroValue326
 t148:=underlying328
 a148:=isAgg328
 z148:=sizeOf328
 v148:=zeroValue328
 t164:=underlying345
 a164:=isAgg345
 z164:=sizeOf345
 v164:=zeroValue345 }
theorem Tryz.bZ:Builder.Extra prog Tryz.ie:={
 sizeBuilder:=by kernel_rfl
 liesBuilder:=by kernel_rfl
 t5:=underlying5
 a5:=isAgg5
 z5:=sizeOf5
 v5:=zeroValue5
 infoByte:=by kernel_rfl
 cellsByte:=by kernel_rfl
 sizeByte:=by kernel_rfl
 neB5:=by decide }
open Go.RowKit Go.Lib in
theorem Tryz.strings_Repeat(s:ByteArray)(c:Nat)(w:World)(hc:c≤9223372036854775807)(hlen:s.size*c≤140737488355328) :
    Calls prog 162 #[.string s,.int .i64 c] w fun e w'=>e=.returned (.string ⟨(Lib.repeatL s.data.toList c).toArray⟩)∧Below w.heap.size w w':=Any.strings_Repeat Tryz.qod Tryz.bZ s c w hc hlen
end Go.Proofs
namespace Go.Proofs.YtdpbdkacngaemaaGreatDoor.ch
open _root_.Go.Proofs.Tryz Go Go.RowKit ib
theorem jY:(prog.info? 122).map (fun i=>(i.zero,i.size,i.bytes))=some (some (.agg #[.int .i64 0,.string ByteArray.empty]),2,24):=by kernel_rfl
def xj:List (Int × Bt)→List Value
 | []=>[]
 | x::r=>.int .i64 x.1 :: .string (str x.2)::xj r
def xy (w:World)(B:Nat)(v:Value)(l:List (Int × Bt)):Prop:=w.ownsRow B 122 2 v l.length (xj l)
theorem dZ:∀(l r:List (Int × Bt)),xj (l++r)=xj l++xj r
 | [],_=>rfl
 | x::l,r=>by simp[xj,dZ l r]
theorem nb:∀(l:List (Int × Bt)) (i:Nat) (h:i<l.length),(xj l)[i*2]?=some (.int .i64 l[i].1)∧(xj l)[i*2+1]?=some (.string (str l[i].2))
 | x::l,0,_=>⟨rfl,rfl⟩
 | x::l,i+1,h=>by
  have:=nb l i (by simpa using h);rw[show(i+1)*2=i*2+1+1 from by omega];exact this
theorem xy.view{w:World}{B:Nat}{v:Value}{l:List (Int × Bt)}(h:xy w B v l)(hz:∀x∈l,zJ x.1):∃a c,v=.slice a l.length c∧kX w a l:=by
 rcases h.2 with⟨rfl,h0⟩|⟨g,cap,cur,rfl,hg,hh,hcc,hm,hcs,yb⟩
 ·obtain rfl:l=[]:=List.length_eq_zero_iff.1 h0;exact⟨none,0,rfl,fun i h=>by simp at h⟩
 ·refine⟨some ⟨g,0,none⟩,cap,rfl,fun i hi=>?_⟩;have key:∀(j:Nat) (u:Value),(xj l)[j]?=some u→w.cell? ⟨g,j,none⟩=some u:=by
   intro j u hu;rw[cell_of_row w g j cur 122 (0,0) hh];rw[← yb,List.getElem?_take]at hu;split at hu
   ·simpa using hu
   ·cases hu
  obtain⟨g0,g1⟩:=nb l i hi;exact⟨g,0,rfl,(Array.getElem?_eq_some_iff.1 hh).1,by rw[Nat.zero_add];exact key _ _ g0,by rw[Nat.zero_add];exact key _ _ g1,hz _ (List.getElem_mem hi)⟩
theorem sW (x:Int × Bt):∀u∈([Value.int .i64 x.1,.string (str x.2)]:List Value),u.oneCell'=true:=by
 intro u hu;simp at hu;rcases hu with rfl|rfl <;> rfl
theorem xy.snoc{w1:World}{B:Nat}{v':Value}{l:List (Int × Bt)}{x:Int × Bt}(h:w1.ownsRow B 122 2 v' (l.length+1) (xj l++[.int .i64 x.1,.string (str x.2)])):xy w1 B v' (l++[x]):=by
 unfold xy;rw[List.length_append,dZ];exact h
def qw3 (l:List (Int × Bt))(w:World)(e:Ending)(w':World):Prop:=∃v,e=.returned v∧xy w' w.heap.size v l∧Below w.heap.size w w'
theorem xy.qpK{w:World}{B:Nat}{v:Value}{l:List (Int × Bt)}(h:xy w B v l)(hz:∀x∈l,zJ x.1):∃a c,v=.slice a l.length c∧kX w a l∧∀b o,a=some ⟨b,o,none⟩→B≤b∧b<w.heap.size:=by
 obtain⟨a,c,hv,hl⟩:=h.view hz;refine⟨a,c,hv,hl,fun b o e=>?_⟩;rcases h.2 with⟨rfl,_⟩|⟨g,cap,cur,rfl,hg,hh,_⟩
 ·simp only[Value.slice.injEq]at hv;rw[e]at hv;cases hv.1
 ·simp only[Value.slice.injEq]at hv;rw[e]at hv;obtain⟨h1,_⟩:=hv;simp only[Option.some.injEq,Addr.mk.injEq,and_true]at h1;obtain⟨rfl,_⟩:=h1;exact⟨hg,(Array.getElem?_eq_some_iff.1 hh).1⟩
end Go.Proofs.YtdpbdkacngaemaaGreatDoor.ch
namespace Go.Proofs.YtdpbdkacngaemaaGreatDoor.ch.pg
open _root_.Go.Proofs.Tryz Go Go.RowKit ib
@[go_sem] theorem qup (a b c d:Int) (w:World):(Op.equalIn 10000 38 (.agg #[.int .u64 a,.int .u64 b]) (.agg #[.int .u64 c,.int .u64 d])).run prog w=.ok (a == c&&b == d) w:=by
 have u3:=underlying36;have a3:=isAgg36;have z3:=sizeOf36;rw[show(10000:Nat)=9999+1 from rfl,run_equalIn_agg w 9999 38 _ _ (by kernel_rfl) (by kernel_rfl)];simp only[Program.fieldsOf,underlying38];go_simp;by_cases h1:a=c <;> by_cases h2:b=d <;> simp[h1,h2]
end Go.Proofs.YtdpbdkacngaemaaGreatDoor.ch.pg
