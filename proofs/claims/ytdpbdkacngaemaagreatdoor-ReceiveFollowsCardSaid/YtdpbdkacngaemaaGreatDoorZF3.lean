/- DkNew, DkFits, DkLose, DkRow, DkApp, DkFit2, DkFit3, DkWrite, DkMore, CPure, FPure, JPure, JRun, JSafe, JSafe2, SpPure, SpMath, ChPure, VtPure, VtTab. -/
import Derived.Test.YtdpbdkacngaemaaGreatDoorZF2
import Derived.Laws.CopyRow
import Derived.Deep.RegionLaw
import Derived.Great.BuildSlice
set_option linter.unusedVariables false
set_option linter.unusedSimpArgs false
set_option maxHeartbeats 30000000
set_option maxRecDepth 100000
namespace Go.Proofs.YtdpbdkacngaemaaGreatDoor.dk
open _root_.Go.Proofs.Tryz Go Go.RowKit
def qrn (most n:Nat)(room:Int)(w:World)(e:Ending)(w':World):Prop :=
 ∃p own,e=.returned (.pointer (some ⟨p,0,none⟩))∧zP most w' own p (DD.new n room)∧Below w.heap.size w w'∧∀k,own k→w.heap.size≤k
theorem wk (most n:Nat)(room:Int)(h0:1≤n)(h1:n≤1024)(r0:0≤room)(r1:room≤9223372036854775807)(w:World) :
    Calls prog 7 #[.int .i64 (n:Int),.int .i64 room] w (qrn most n room w):=by
 have hmm:=@run_makeMap prog;have i0:¬ (n:Int)<1:=by omega
 have i1:¬ 1024<(n:Int):=by omega
 have i2:¬ room<0:=by omega
 go_enter func7,ntmps7;go_wp2;go_ret;refine⟨w.heap.size+1,fun k=>k=w.heap.size∨k=w.heap.size+1,rfl,⟨⟨?_,?_,r0,r1,Int.le_refl _,by simp[DD.new],Nat.zero_le _,fun _ h=>by simp[DD.new]at h,fun v h=>?_⟩,w.heap.size,.slice none 0 0,?_⟩,((Below.refl _ w).alloc (Nat.le_refl _) _).alloc (by simp) _,fun k h=>by omega⟩
 ·simpa[DD.n,DD.new]using h0
 ·simpa[DD.n,DD.new]using h1
 ·simp[DD.new]at h
 ·refine⟨?_,?_,⟨rfl,.inl ⟨rfl,rfl⟩⟩,.inr rfl,.inl rfl,fun k h=>by simp[Value.ownBlock]at h,fun k h=>by simp;omega⟩
  ·have e:(DD.new n room).n=n:=by simp[DD.n,DD.new]
   rw[e];exact heap_alloc2_new w _ _
  ·exact(xg.made w n).of_block (Below.heap_alloc _ _ _ (by simp))
def wm (r:Bt × Int)(w:World)(e:Ending)(w':World):Prop :=
 e=.returned (.tuple #[.string (str r.1),.int .i64 r.2])∧Below w.heap.size w w'
theorem wO (P:Bt)(b k:Nat)(t:TypeId)(w:World)(hk:P.length=k)(h:w.heap[b]?=some (.cells (Lib.byteCells P).toArray t (0,0))) :
    (convert 64 9 (.slice (some ⟨b,0,none⟩) k k)).run prog w=.ok (.string (str P)) w:=by
 subst hk;refine run_convert_bytes_back (P:=prog) w 64 9 5 ⟨b,0,none⟩ P.length P underlying64 underlying5 underlying9 ?_;intro j hj;rw[addr_add,Nat.zero_add,cell_of_row w b j _ _ _ h];simp[Lib.byteCells,hj]
section
variable {w:World} {p m:Nat} {v:Value} {d:DD} {own:Nat→Prop}
theorem qcM(h:uI w own p m v d)(xa:d.on=false)(k:Int) :
    Calls prog 122 #[.pointer (some ⟨p,0,none⟩),.int .i64 k] w (wm ([],6) w):=by
 obtain⟨c0,c1,c2,c3,c4,c5⟩:=kq h.1;rw[xa]at c4;clear h c1 c2 c3 c0 c5;go_enter func122,ntmps122;go_wp2;go_ret2;exact⟨rfl,Below.refl _ _⟩
theorem qcN(h:uI w own p m v d)(xa:d.on=true)(k:Int)(hh:d.has k=false) :
    Calls prog 122 #[.pointer (some ⟨p,0,none⟩),.int .i64 k] w (wm ([],2) w):=by
 have hhas:=kB h k;rw[hh]at hhas;have HH:=QH hhas;obtain⟨c0,c1,c2,c3,c4,c5⟩:=kq h.1;rw[xa]at c4;clear h c1 c2 c3 c0 c5 hhas xa hh;go_enter func122,ntmps122;go_wp2_with (go_at_call 197;refine HH.out.mono ?_;rintro e w' ⟨rfl,rfl⟩);go_ret2;exact⟨rfl,Below.refl _ _⟩
theorem qhD{most:Nat}(h0:d.ok most)(h:uI w own p m v d)(xa:d.on=true)(k:Int)(hh:d.has k=true) :
    Calls prog 122 #[.pointer (some ⟨p,0,none⟩),.int .i64 k] w (wm ((look d.now k).getD zz,0) w):=by
 have hhas:=kB h k;rw[hh]at hhas;have HH:=QH hhas;have HM:=QH h.2.1;obtain⟨c0,c1,c2,c3,c4,c5⟩:=kq h.1;rw[xa]at c4;have hk0:0≤k∧k<(d.n:Int):=by simpa[DD.has]using hh
 have hn1:=h0.n1;have hlen:((look d.now k).getD zz).length=32:=by
  cases hx:look d.now k with
  | none=>exact ze
  | some u=>exact h0.tP hx
 generalize hq:(look d.now k).getD zz=q at *;have HQ:=QH hq;have HK:=QH hk0;have HN:=QH hn1;have tT:=wO q w.heap.size 32 146 (w.alloc (.cells (Lib.byteCells q).toArray 146)) hlen (heap_alloc_new w _);have qtt:(Lib.byteCells q).toArray.size=32:=by simp[Lib.byteCells,hlen]
 have HL:=QH qtt;have HC:=QH tT;clear h c1 c3 c0 c5 hhas xa hh hq hk0 hn1 hlen tT qtt h0;go_enter func122,ntmps122;go_wp2_with (first|(go_at_call 197;refine HH.out.mono ?_;rintro e w' ⟨rfl,rfl⟩)|(at_lookup;refine qi rfl (qja _ _ rfl rfl HM.out k rfl (by have:=HK.out;omega) (by have:=HK.out;have:=HN.out;omega)) ?_;rw[HQ.out])|(refine wpList_skip rfl (zJ w 146 _ _ (.tmp 6) (.tmp 26) rfl rfl rfl (by rw[HL.out];exact oh) (by rw[HL.out];rfl) (iL q)) ?_;have tT:=HC.out));go_ret2;exact⟨rfl,(Below.refl _ _).alloc (Nat.le_refl _) _⟩
end
end Go.Proofs.YtdpbdkacngaemaaGreatDoor.dk
namespace Go.Proofs.YtdpbdkacngaemaaGreatDoor.dk
open _root_.Go.Proofs.Tryz Go Go.RowKit
def yx (w:World)(a:Nat)(acc:List Int):Prop :=
 ∃D:D1,w.ownsMap prog 3 unitElem a (Maps.size D) D∧(∀k:Int,Maps.has D (.int .i64 k)=acc.contains k)∧Maps.size D=acc.length
def ye (acc:List Int)(x:Int):List Int:=if acc.contains x then acc else acc++[x]
theorem yx.lt{w:World}{a:Nat}{acc:List Int}(h:yx w a acc):a<w.heap.size:=by
 obtain⟨D,h1,_⟩:=h;exact h1.lt
theorem yx.of_block{w w':World}{m:Nat}{s:List Int}(h:yx w m s)(hb:w'.heap[m]?=w.heap[m]?):yx w' m s:=by
 obtain⟨D,⟨es,clock,h1,h2⟩,h3⟩:=h;exact⟨D,⟨es,clock,hb.trans h1,h2⟩,h3⟩
theorem yx.made(w:World):yx (w.alloc (.map #[] 0)) w.heap.size [] :=
 ⟨.map [],World.ownsMap_made w prog 3 unitElem,fun _=>rfl,rfl⟩
theorem yx.len{w:World}{a:Nat}{acc:List Int}(h:yx w a acc)(ty:TypeId):(Builtin.len_ #[261] ty #[.map (some a)]).run prog w=.ok (.int .i64 (acc.length:Int)) w:=by
 obtain⟨D,hown,_,hc⟩:=h;rw[← hc];exact hown.len underlying261 ty
theorem yx.store{w:World}{a:Nat}{acc:List Int}(h:yx w a acc)(k:Int)(k0 : -9223372036854775808≤k)(k1:k≤9223372036854775807)(hl:acc.length<maxLen) :
    ∃w',(Instr.mapUpdate 261 (.map (some a)) (.int .i64 k) (.agg #[])).run prog w=.ok () w'∧yx w' a (ye acc k)∧w.mapTurned w' a:=by
 obtain⟨D,hown,hh,hc⟩:=h;have hkey:=Go.Maps.keyOf_int_mk (P:=prog) (k:=3) underlying3 (qrk k k0 k1);have hti:=hown.tidy keyed;obtain⟨w',hrun,r1,r2⟩:=hown.store keyed underlying261 (by omega) hkey unitElem_mk;refine⟨w',hrun,⟨_,iJ r1,?_,?_⟩,r2⟩
 ·intro j;by_cases e:j=k
  ·subst e;rw[Maps.has_put_same hti.isMap (qf7 _)];unfold ye;split
   ·exact(by assumption:acc.contains j=true).symm
   ·simp
  ·rw[Maps.has_put_other (og e),hh];unfold ye;split
   ·rfl
   ·simp[e]
 ·rw[Maps.size_put hti,hh,hc];unfold ye;split <;> simp
theorem eT {ρ:Operand→Value}{o:Oper}{w:World}{b:Nat}{s:List Int}(x:Operand)(ho:o.op=.call { callee:=.builtin .len,args:=#[x],argTypes:=#[261] })(hx:ρ x=.map (some b))(h:yx w b s) :
    (execOp ρ o).run prog w=.ok (.value (.int .i64 (s.length:Int))) w:=by
 simp[execOp,ho,resolve,invoke,builtin,hx,h.len o.type,Result.andThen]
theorem wq {ops:Array Oper}{rest:List Oper}{o:Oper}{a:Act}{w:World}{Q:Exit→Act→World→Prop}{b:Nat}{s:List Int}(hg:o.guard=none)(x y z:Operand)(ho:o.op=.mapUpdate 261 x y z)(hx:a.eval x=.map (some b))(h:yx w b s)
    (k:Int) (hy:a.eval y=.int .i64 k) (hz:a.eval z=.agg #[]) (k0 : -9223372036854775808≤k) (k1:k≤9223372036854775807) (hl:s.length<maxLen)
    (hK:∀w',yx w' b (ye s k)→w.mapTurned w' b→wpList prog ops Q rest (a.put o.dst undef) w'):wpList prog ops Q (o::rest) a w:=by
 refine wpList_plain hg fun K' hK'=>?_;obtain⟨w',hrun,r1,r2⟩:=h.store k k0 k1 hl;unfold Oper.wp;simp[execOp,ho,hx,hy,hz,hrun,Result.andThen];exact hK' _ _ (hK w' r1 r2)
structure Env(w:World)(p B1 B4 B3 a:Nat)(free:Int)(acc:List Int):Prop where
 b1:qf w B1 23 #[.pointer (some ⟨p,0,none⟩)]
 b4:qf w B4 261 #[.map (some a)]
 b3:qf w B3 3 #[.int .i64 free]
 qg:yx w a acc
def ask (d:DD)(acc:List Int)(x:Int):Bool × List Int :=
 if d.has x=false then(false,acc)
 else if (look d.now x).isSome then(true,acc)
 else(decide (((ye acc x).length:Int)≤d.room-(d.used:Int)),ye acc x)
def ng (r:Bool × List Int)(a:Nat)(w:World)(e:Ending)(w':World):Prop :=
 e=.returned (.bool r.1)∧yx w' a r.2∧qz (fun k=>k=a) w w'
section
variable {w:World} {p m:Nat} {v:Value} {d:DD} {own:Nat→Prop} {B1 B4 B3 a:Nat} {acc:List Int}
theorem qro(h:uI w own p m v d)(he:Env w p B1 B4 B3 a (d.room-(d.used:Int)) acc)(x:Int)(hh:d.has x=false) :
    Calls prog 279 #[.int .i64 x,.pointer (some ⟨B1,0,none⟩),.pointer (some ⟨B4,0,none⟩),.pointer (some ⟨B3,0,none⟩)] w (ng (false,acc) a w):=by
 have hhas:=kB h x;rw[hh]at hhas;have HH:=QH hhas;have HE:=QH he;have g1:w.cell? ⟨B1,0,none⟩=some (.pointer (some ⟨p,0,none⟩)):=he.b1.cell 0;clear h he hhas hh;go_enter func279,ntmps279;go_wp2_with (go_at_call 197;refine HH.out.mono ?_;rintro e w' ⟨rfl,rfl⟩);go_ret;exact⟨rfl,HE.out.qg,qz.refl _ _⟩
theorem qaV{most:Nat}(h0:d.ok most)(h:uI w own p m v d)(he:Env w p B1 B4 B3 a (d.room-(d.used:Int)) acc)(x:Int)(hh:d.has x=true)(hs:(look d.now x).isSome=true) :
    Calls prog 279 #[.int .i64 x,.pointer (some ⟨B1,0,none⟩),.pointer (some ⟨B4,0,none⟩),.pointer (some ⟨B3,0,none⟩)] w (ng (true,acc) a w):=by
 have hhas:=kB h x;rw[hh]at hhas;have HH:=QH hhas;have HE:=QH he;have HM:=QH h.2.1;have g1:w.cell? ⟨B1,0,none⟩=some (.pointer (some ⟨p,0,none⟩)):=he.b1.cell 0;have c2:=(kq h.1).2.2.1;have hk0:0≤x∧x<(d.n:Int):=by simpa[DD.has]using hh
 have HK:=QH hk0;have HN:=QH h0.n1;have hlen:(Lib.byteCells ((look d.now x).getD zz)).toArray.size=32:=by
  simp only[List.size_toArray,Lib.byteCells_length];cases hx:look d.now x with
  | none=>exact ze
  | some u=>exact h0.tP hx
 have HL:=QH hlen;have HS:=QH hs;have lQ:=fun c=>yx.of_block he.qg (Below.heap_alloc w (.cells c 146) a he.qg.lt);have HA:=QH lQ;clear h he hhas hh hk0 hlen hs lQ h0;go_enter func279,ntmps279;go_wp2_with (first|(go_at_call 197;refine HH.out.mono ?_;rintro e w' ⟨rfl,rfl⟩)|(at_lookup;refine qi rfl (wW _ _ rfl rfl HM.out x rfl (by have:=HK.out;omega) (by have:=HK.out;have:=HN.out;omega)) ?_;rw[HS.out])|(refine wpList_skip rfl (zJ w 146 _ _ (.tmp 6) (.tmp 19) rfl rfl rfl (by rw[HL.out];exact oh) (by rw[HL.out];rfl) (iL _)) ?_));go_ret;exact⟨rfl,HA.out _,(qz.refl _ _).alloc _⟩
theorem qrp{most:Nat}(h0:d.ok most)(h:uI w own p m v d)(he:Env w p B1 B4 B3 a (d.room-(d.used:Int)) acc)(x:Int)(hh:d.has x=true)(hs:(look d.now x).isSome=false)(hl:acc.length<maxLen) :
    Calls prog 279 #[.int .i64 x,.pointer (some ⟨B1,0,none⟩),.pointer (some ⟨B4,0,none⟩),.pointer (some ⟨B3,0,none⟩)] w (ng (decide (((ye acc x).length:Int)≤d.room-(d.used:Int)),ye acc x) a w):=by
 have hhas:=kB h x;rw[hh]at hhas;have HH:=QH hhas;have HE:=QH he;have HM:=QH h.2.1;have g1:w.cell? ⟨B1,0,none⟩=some (.pointer (some ⟨p,0,none⟩)):=he.b1.cell 0;have g4:w.cell? ⟨B4,0,none⟩=some (.map (some a)):=he.b4.cell 0;have g3:w.cell? ⟨B3,0,none⟩=some (.int .i64 (d.room-(d.used:Int))):=he.b3.cell 0;have l4:=he.b4.lt;have l3:=he.b3.lt;have c2:=(kq h.1).2.2.1;have hk0:0≤x∧x<(d.n:Int):=by simpa[DD.has]using hh
 have HK:=QH hk0;have HN:=QH h0.n1;have hlen:(Lib.byteCells ((look d.now x).getD zz)).toArray.size=32:=by
  simp only[List.size_toArray,Lib.byteCells_length];cases hx:look d.now x with
  | none=>exact ze
  | some u=>exact h0.tP hx
 have HL:=QH hlen;have HS:=QH hs;have lQ:=fun c=>yx.of_block he.qg (Below.heap_alloc w (.cells c 146) a he.qg.lt);have HA:=QH lQ;have HLl:=QH hl;have n43:B4≠a:=by
  rintro rfl;obtain⟨D,⟨es,clock,q,_⟩,_⟩:=he.qg;have:=he.b4;unfold qf at this;rw[q]at this;cases this
 have n33:B3≠a:=by
  rintro rfl;obtain⟨D,⟨es,clock,q,_⟩,_⟩:=he.qg;have:=he.b3;unfold qf at this;rw[q]at this;cases this
 clear h he hhas hh hk0 hlen hs lQ h0 hl;generalize qzu:d.room-(d.used:Int)=free at *;clear qzu;go_enter func279,ntmps279;go_wp2_with (first|(go_at_call 197;refine HH.out.mono ?_;rintro e w' ⟨rfl,rfl⟩)|(at_lookup;refine qi rfl (wW _ _ rfl rfl HM.out x rfl (by have:=HK.out;omega) (by have:=HK.out;have:=HN.out;omega)) ?_;rw[HS.out])|(refine wpList_skip rfl (zJ w 146 _ _ (.tmp 6) (.tmp 19) rfl rfl rfl (by rw[HL.out];exact oh) (by rw[HL.out];rfl) (iL _)) ?_)|(at_mapUpdate;refine wq rfl _ _ _ rfl rfl (HA.out _) x rfl rfl (by have:=HK.out;omega) (by have:=HK.out;have:=HN.out;omega) HLl.out ?_;intro w2 hs2 ht2;have kT:=QH hs2;have qA:=QH (((qz.refl (fun k=>k=a) w).alloc _).trans (uJ ht2) (fun _ h=>.inl h));have q4:=((uJ ht2).block B4 (by simp;omega) n43).trans (Below.heap_alloc w _ B4 l4);have q3:=((uJ ht2).block B3 (by simp;omega) n33).trans (Below.heap_alloc w _ B3 l3);have k4:=(World.cell?_of_block (a:=⟨B4,0,none⟩) q4).trans g4;have k3:=(World.cell?_of_block (a:=⟨B3,0,none⟩) q3).trans g3;clear hs2 ht2 q4 q3)|(at_len;refine qi rfl (eT _ rfl rfl kT.out) ?_));go_ret;exact⟨rfl,kT.out,qA.out⟩
end
end Go.Proofs.YtdpbdkacngaemaaGreatDoor.dk
namespace Go.Proofs.YtdpbdkacngaemaaGreatDoor.dk
open _root_.Go.Proofs.Tryz Go Go.RowKit
structure qzv(cs:Array Value)(x:Nat × Bt × Bt × Bool):Prop where
 size:cs.size=66
 at_:cs[0]?=some (.int .i64 (x.1:Int))
 data:∀j u,(Lib.byteCells x.2.1)[j]?=some u→cs[1+j]?=some u
 before:∀j u,(Lib.byteCells x.2.2.1)[j]?=some u→cs[33+j]?=some u
 written:cs[65]?=some (.bool x.2.2.2)
theorem rowOf(x:Nat × Bt × Bt × Bool)(h1:x.2.1.length=32)(h2:x.2.2.1.length=32):qzv (qo x).toArray x:=by
 have e1:(Lib.byteCells x.2.1).length=32:=by rw[Lib.byteCells_length,h1]
 have e2:(Lib.byteCells x.2.2.1).length=32:=by rw[Lib.byteCells_length,h2]
 refine⟨by simp[qo,e1,e2],rfl,?_,?_,?_⟩
 ·intro j u hu;have hj:j<32:=by rw[← e1];exact(List.getElem?_eq_some_iff.1 hu).1
  simp only[List.getElem?_toArray,qo,Nat.add_comm 1 j,List.getElem?_cons_succ];rw[List.getElem?_append_left (by omega)];exact hu
 ·intro j u hu;have hj:j<32:=by rw[← e2];exact(List.getElem?_eq_some_iff.1 hu).1
  simp only[List.getElem?_toArray,qo,show 33+j=(32+j)+1 by omega,List.getElem?_cons_succ];rw[List.getElem?_append_right (by omega),e1,List.getElem?_append_left (by omega),show 32+j-32=j by omega];exact hu
 ·simp only[List.getElem?_toArray,qo,show 65=64+1 from rfl,List.getElem?_cons_succ];rw[List.getElem?_append_right (by omega),e1,List.getElem?_append_right (by omega),e2];rfl
section
variable {w:World} {p m:Nat}
end
end Go.Proofs.YtdpbdkacngaemaaGreatDoor.dk
namespace Go.Proofs.YtdpbdkacngaemaaGreatDoor.dk
open _root_.Go.Proofs.Tryz Go Go.RowKit
theorem qhE:(prog.info? 148).map (fun i=>(i.zero,i.size))=some (some (.agg (qo (0,zz,zz,false)).toArray),66):=by kernel_rfl
theorem qf9:(prog.info? 148).map (fun i=>(i.zero,i.size,i.bytes))=some (some (.agg (qo (0,zz,zz,false)).toArray),66,80):=by kernel_rfl
theorem qmX:(prog.info? 148).map (·.size)=some 66:=by kernel_rfl
theorem yJ (x:Nat × Bt × Bt × Bool)(h1:x.2.1.length=32)(h2:x.2.2.1.length=32):(qo x).length=66:=by
 simp[qo,Lib.byteCells,h1,h2]
theorem dN (x:Nat × Bt × Bt × Bool):∀u∈qo x,u.oneCell'=true:=by
 intro u hu;simp only[qo,List.mem_cons,List.mem_append,List.not_mem_nil,or_false]at hu;rcases hu with rfl|hu|hu|rfl
 ·rfl
 ·exact Lib.byteCells_one _ u hu
 ·exact Lib.byteCells_one _ u hu
 ·rfl
theorem qvk(x:Nat × Bt × Bt × Bool):(qo x).toArray.all (·.oneCell')=true:=by
 rw[Array.all_eq_true'];intro u hu;exact dN x u (by simpa using hu)
theorem qaW{ρ:Operand→Value}{o:Oper}{w:World}(ho:o.op=.alloc 148) :
    (execOp ρ o).run prog w=.ok (.value (.pointer (some ⟨w.heap.size,0,none⟩))) (w.alloc (.cells (qo (0,zz,zz,false)).toArray 148)):=by
 obtain⟨hz,_⟩:=zero_of_info qhE;simp[execOp,ho,Instr.alloc,hz,Result.andThen,go_sem,Value.cells]
theorem qaX{ρ:Operand→Value}{o:Oper}{w:World}(x:Operand)(k:Nat)(ho:o.op=.build 148 #[(0,x)])(hx:ρ x=.int .i64 (k:Int)) :
    (execOp ρ o).run prog w=.ok (.value (.agg (qo (k,zz,zz,false)).toArray)) w:=by
 obtain⟨hz,_⟩:=zero_of_info qhE;have hb:(Instr.build 148 #[(0,.int .i64 (k:Int))]).run prog w=.ok (.agg (qo (k,zz,zz,false)).toArray) w:=by
  have e:(qo (k,zz,zz,false)).toArray=(qo (0,zz,zz,false)).toArray.set! 0 (.int .i64 (k:Int)):=rfl;rw[e];have hne:(qo (0,zz,zz,false)).toArray ≠ #[]:=by simp[qo]
  generalize (qo (0,zz,zz,false)).toArray=z0 at *;simp[Instr.build,hz,Result.andThen,go_sem,Value.cells];rw[if_neg hne];rfl
 simp[execOp,ho,hx,hb,Result.andThen]
theorem jN {P:Program}(w:World)(g o:Nat)(t ty:TypeId)(cur:Array Value)(xs:List Value)(hg:w.heap[g]?=some (.cells cur t (0,0)))(hi:(P.info? ty).map (·.size)=some xs.length)(hl:o+xs.length≤cur.size)(h1:∀v∈xs,v.oneCell'=true) :
    (storeVar ty ⟨g,o,none⟩ (.agg xs.toArray)).run P w=.ok () (w.setRow g (cur.toList.take o++xs++cur.toList.drop (o+xs.length)).toArray):=by
 have:=run_storeCells_at P g o t xs 0 cur w hg (by simpa using hl) h1;cases hq:P.info? ty with
 | none=>simp[hq]at hi
 | some i =>
  have hs:i.size=xs.length:=by simpa[hq]using hi
  simp only[Nat.add_zero]at this;simp[storeVar,sizeOf,typeInfo,hq,Value.cells,hs,this]
theorem qmY(k:Nat)(v b:Bt)(f:Bool)(u:Bt)(h:u.length=32)(hv:v.length=32) :
    (qo (k,u,b,f)).take 1++Lib.byteCells v++(qo (k,u,b,f)).drop (1+32)=qo (k,v,b,f):=by
 have e1:(Lib.byteCells u).length=32:=by rw[Lib.byteCells_length,h]
 have e2:(Lib.byteCells v).length=32:=by rw[Lib.byteCells_length,hv]
 simp only[qo,List.take_succ_cons,List.take_zero,show 1+32=32+1 from rfl,List.drop_succ_cons];rw[List.drop_left' e1];simp
theorem qfA(k:Nat)(v b:Bt)(f:Bool)(u:Bt)(hv:v.length=32)(h:u.length=32)(hb:b.length=32) :
    (qo (k,v,u,f)).take 33++Lib.byteCells b++(qo (k,v,u,f)).drop (33+32)=qo (k,v,b,f):=by
 have e1:(Lib.byteCells u).length=32:=by rw[Lib.byteCells_length,h]
 have e2:(Lib.byteCells v).length=32:=by rw[Lib.byteCells_length,hv]
 simp only[qo,show 33=32+1 from rfl,List.take_succ_cons,show 32+1+32=(32+32)+1 from rfl,List.drop_succ_cons];rw[List.take_left' e2,List.drop_append,e2,List.drop_eq_nil_of_le (by omega),show 32+32-32=32 from rfl,List.drop_left' e1];simp
theorem qcO(k:Nat)(v b:Bt)(f g:Bool)(hv:v.length=32)(hb:b.length=32):(qo (k,v,b,f)).toArray.setIfInBounds 65 (.bool g)=(qo (k,v,b,g)).toArray:=by
 have e1:(Lib.byteCells v).length=32:=by rw[Lib.byteCells_length,hv]
 have e2:(Lib.byteCells b).length=32:=by rw[Lib.byteCells_length,hb]
 simp only[List.setIfInBounds_toArray,qo,show 65=64+1 from rfl,List.set_cons_succ];rw[List.set_append_right _ _ (by omega),e1,List.set_append_right _ _ (by omega),e2];rfl
theorem qcP{ρ:Operand→Value}{o:Oper}(w:World)(x y:Operand)(k:Nat)(s:ByteArray)(ho:o.op=.call { callee:=.builtin .copy,args:=#[x,y],argTypes:=#[64,9] })
    (hx:ρ x=.slice (some ⟨w.heap.size,1,none⟩) 32 32) (hy:ρ y=.string s) (hs:s.size=32) :
    (execOp ρ o).run prog (w.alloc (.cells (qo (k,zz,zz,false)).toArray 148))=.ok (.value (.int .i64 32)) (w.alloc (.cells (qo (k,bl s,zz,false)).toArray 148)):=by
 obtain⟨i0,hi,hz0,hz1,hz2⟩:=info_parts Tryz.nI;have hl:(bl s).length=32:=by rw[zj,hs]
 have hst:=run_storeCells_at prog w.heap.size 1 148 (Lib.byteCells (bl s)) 0 (qo (k,zz,zz,false)).toArray (w.alloc (.cells (qo (k,zz,zz,false)).toArray 148)) (heap_alloc_new w _) (by simp[yJ,Lib.byteCells_length,hl,ze]) (Lib.byteCells_one _);rw[World.setRow_alloc_new,Lib.byteCells_length,hl]at hst;simp only[Nat.add_zero]at hst;rw[qmY k (bl s) zz false zz ze hl]at hst;have rV:List.take 32 (List.map (fun b:UInt8=>Value.int IntKind.u8 (b.toNat:Int)) s.data.toList)=Lib.byteCells (bl s):=by
  rw[List.take_of_length_le]
  ·rfl
  ·simp only[List.length_map];have:s.data.toList.length=32:=hl;omega
 have hc:(Builtin.copy_ #[64,9] o.type #[.slice (some ⟨w.heap.size,1,none⟩) 32 32,.string s]).run prog (w.alloc (.cells (qo (k,zz,zz,false)).toArray 148))=.ok (.int .i64 32) (w.alloc (.cells (qo (k,bl s,zz,false)).toArray 148)):=by
  simp[Builtin.copy_,run_underlying underlying64,Builtin.lenOf,Builtin.firstCells,sizeOf,typeInfo,hi,hs];rw[rV,hst];simp[Result.andThen];rfl
 simp[execOp,ho,resolve,invoke,builtin,hx,hy,hc,Result.andThen]
theorem eU {ρ:Operand→Value}{o:Oper}(w:World)(x y:Operand)(k:Nat)(v b:Bt)(f:Bool)(ho:o.op=.store 146 x y)(hx:ρ x=.pointer (some ⟨w.heap.size,33,none⟩))(hy:ρ y=eR b)(hv:v.length=32)(hb:b.length=32) :
    (execOp ρ o).run prog (w.alloc (.cells (qo (k,v,zz,f)).toArray 148))=.ok .skip (w.alloc (.cells (qo (k,v,b,f)).toArray 148)):=by
 have e2:(Lib.byteCells b).length=32:=by rw[Lib.byteCells_length,hb]
 have hr:=jN (P:=prog) (w.alloc (.cells (qo (k,v,zz,f)).toArray 148)) w.heap.size 33 148 146 (qo (k,v,zz,f)).toArray (Lib.byteCells b) (heap_alloc_new w _) (by rw[oh,e2]) (by simp[yJ,hv,ze,e2]) (Lib.byteCells_one _);rw[World.setRow_alloc_new,e2]at hr;simp only at hr;rw[qfA k v b f zz hv ze hb]at hr;have h2:(Instr.storeAt 146 (.pointer (some ⟨w.heap.size,33,none⟩)) (eR b)).run prog (w.alloc (.cells (qo (k,v,zz,f)).toArray 148))=.ok () (w.alloc (.cells (qo (k,v,b,f)).toArray 148)):=by
  simp only[Instr.storeAt,Instr.sureAddr,Sem.run_bind,Sem.run_pure,Result.andThen];exact hr
 simp[execOp,ho,hx,hy,h2,Result.andThen]
theorem cj {ρ:Operand→Value}{o:Oper}(w:World)(x y:Operand)(k:Nat)(v b:Bt)(f:Bool)(ho:o.op=.store 4 x y)(hx:ρ x=.pointer (some ⟨w.heap.size,65,none⟩))(hy:ρ y=.bool f)(hv:v.length=32)(hb:b.length=32) :
    (execOp ρ o).run prog (w.alloc (.cells (qo (k,v,b,false)).toArray 148))=.ok .skip (w.alloc (.cells (qo (k,v,b,f)).toArray 148)):=by
 have hB:qf (w.alloc (.cells (qo (k,v,b,false)).toArray 148)) w.heap.size 148 (qo (k,v,b,false)).toArray:=qf.new _ _ _;have hc:(w.alloc (.cells (qo (k,v,b,false)).toArray 148)).cell? ⟨w.heap.size,65,none⟩=some (.bool false):=by
  rw[hB.cell 65];exact(rowOf (k,v,b,false) hv hb).written
 have hf:=hB.frozen 65;have hW:(w.alloc (.cells (qo (k,v,b,false)).toArray 148)).setCell ⟨w.heap.size,65,none⟩ (.bool f)=w.alloc (.cells (qo (k,v,b,f)).toArray 148):=by
  rw[setCell_eq_setRow _ _ _ _ _ _ _ (heap_alloc_new w _),World.setRow_alloc_new,qcO k v b false f hv hb]
 unfold execOp;rw[ho];simp only[hx,hy];rw[← hW];generalize w.alloc (.cells (qo (k,v,b,false)).toArray 148)=W at *;go_simp
theorem qaY{P:Program}{o:Oper}{a:Act}{w:World}{K:Act→World→Prop}{Q:Exit→Act→World→Prop}(s x:Operand)(t:TypeId)
    (ho:o.op=.call { callee:=.builtin .append,args:=#[s,x],argTypes:=#[t,t] })
    (base:Nat) (e:TypeId) (i:TypeInfo) (z:Value) (size bytes:Nat) (ht:P.underlying t=some (.slice e)) (hi:P.info? e=some i) (hz:i.zero=some z)
    (hsize:i.size=size) (hby:i.bytes=bytes) (hzs:z.cells.size=size) (hsz:0<size)
    (v:Value) (n:Nat) (xs:List Value) (hs:a.eval s=v) (hown:w.ownsRow base e size v n xs)
    (ad:Addr) (m c:Nat) (news:List Value) (hx:a.eval x=.slice (some ad) m c) (hl:news.length=m*size) (hnews:∀j u,news[j]?=some u→w.cell? (ad.add j)=some u) (h1:∀u∈news,u.oneCell'=true)
    (h63:n+m≤maxLen) (hbytes:(n+m)*bytes≤140737488355328) (hbase:base≤w.heap.size)
    (h:∀v' w',w'.ownsRow base e size v' (n+m) (xs++news)→w.grownBy w' v.ownBlock→(v'.ownBlock=v.ownBlock∨v'.ownBlock=some w.heap.size)→K (a.put o.dst v') w'):o.wp P a w K Q:=by
 obtain⟨v',w',hrun,h2,h3,_,h5⟩:=run_append_own_at (P:=P) w base t o.type e i z size bytes ht hi hz hsize hby hzs hsz v n xs hown ad m c news hl hnews h1 h63 hbytes hbase;unfold Oper.wp;simp[execOp,ho,resolve,invoke,builtin,hs,hx,hrun,Result.andThen];exact h v' w' h2 h3 h5
theorem xQ {w:World}{base e size n:Nat}{v:Value}{xs:List Value}(h:w.ownsRow base e size v n xs):∃A c,v=.slice A n c:=by
 rcases h.2 with⟨rfl,rfl⟩|⟨g,cap,cur,rfl,_⟩
 ·exact⟨none,0,rfl⟩
 ·exact⟨_,cap,rfl⟩
theorem qfB(l:List (Nat × Bt × Bt × Bool))(x:Nat × Bt × Bt × Bool):wj (l++[x])=wj l++qo x:=by simp[wj]
theorem qcQ:∀(l:List Value) (k:Nat) (acc:Array Value),k+l.length≤acc.size →
    (l.zipIdx k).foldl (fun a x=>a.setIfInBounds (0+x.2) x.1) acc=(acc.toList.take k++l++acc.toList.drop (k+l.length)).toArray
 | [],k,acc,_=>by simp
 | x::l,k,acc,h=>by
  have hk:k<acc.size:=by simp at h;omega
  have dA:k<acc.toList.length:=by simpa using hk
  rw[List.zipIdx_cons,List.foldl_cons,qcQ l (k+1) _ (by simp at h ⊢;omega)]
  congr 1
  simp only[Nat.zero_add,Array.toList_setIfInBounds,List.length_cons];rw[List.drop_set_of_lt (by omega),show k+1+l.length=k+(l.length+1)by omega];have e:(acc.toList.set k x).take (k+1)=acc.toList.take k++[x]:=by
   rw[List.take_succ_eq_append_getElem (by simpa using hk)];simp only[List.getElem_set_self,List.take_set];rw[List.set_eq_of_length_le (by simp;omega)]
  rw[e];simp
theorem ot (size:Nat)(cs acc:Array Value)(h1:cs.size=size)(h2:acc.size=size):Instr.fill (fun i=>some (i*size,size)) acc [(0,.agg cs)]=some cs:=by
 simp only[Instr.fill,Nat.zero_mul,Value.cells];rw[if_neg (by simp[h1,h2])]
 congr 1
 rw[← Array.foldl_toList,Array.toList_zipIdx,qcQ cs.toList 0 acc (by simp;omega)];simp;rw[List.drop_eq_nil_of_le (by simp;omega)];simp
theorem ou {ρ:Operand→Value}{o:Oper}{w:World}(x:Operand)(cs:Array Value)(ho:o.op=.buildSlice 86 1 #[(0,x)])(hx:ρ x=.agg cs)(hs:cs.size=66) :
    (execOp ρ o).run prog w=.ok (.value (.slice (some ⟨w.heap.size,0,none⟩) 1 1)) (w.alloc (.cells cs 148)):=by
 obtain⟨i0,hi,hz0,hz1,hz2⟩:=info_parts qf9;have hr:=run_buildSlice (P:=prog) w 86 148 1 #[(0,.agg cs)] cs i0 _ underlying86 hi hz0 (by rw[hz1];decide) (by rw[hz1];decide) (by
  rw[hz1];exact ot 66 cs _ hs (by simp))
 simp[execOp,ho,hx,hr,Result.andThen]
theorem lS {ρ:Operand→Value}{o:Oper}{w:World}(x:Operand)(ho:o.op=.load 148 x)(g:Nat)(hx:ρ x=.pointer (some ⟨g,0,none⟩))(cs:Array Value)(hg:qf w g 148 cs)(hs:cs.size=66) :
    (execOp ρ o).run prog w=.ok (.value (.agg cs)) w:=by
 have:=qU (P:=prog) (w:=w) 148 x ho g 0 hx 148 cs cs.toList (0,0) _ hg underlying148 rfl (by rw[qmX];simp[hs]) (fun j u hu=>by rw[Nat.zero_add];simpa using hu);simpa using this
theorem dO {ρ:Operand→Value}{o:Oper}{w:World}(x:Operand)(ho:o.op=.load 86 x)(b i:Nat)(hx:ρ x=.pointer (some ⟨b,i,none⟩))(A:Option Addr)(n c:Nat)(hc:w.cell? ⟨b,i,none⟩=some (.slice A n c)) :
    (execOp ρ o).run prog w=.ok (.value (.slice A n c)) w:=by
 unfold execOp;simp only[ho,hx];go_simp
theorem sD {P:Program}{md:Region.Mode}{ops:Array Oper}{Q:Exit→Act→World→Prop}{i j l:Nat}{oi oj ol:Oper}{di dj dl:Tmp}{vi vj vl:Value}{fuel:Nat}{listed:Array Bool}{a:Act}{w w2:World}
    (hr:Region.ready md ops listed=[i,j]) (hri:Region.ready md ops (listed.setIfInBounds i true)=[j]) (q4z:Region.ready md ops ((listed.setIfInBounds i true).setIfInBounds j true)=[l])
    (hrj:Region.ready md ops (listed.setIfInBounds j true)=[i,l]) (q40:Region.ready md ops ((listed.setIfInBounds j true).setIfInBounds l true)=[i])
    (hij:i≠j) (dP:i≠l) (hoi:ops[i]?=some oi) (hoj:ops[j]?=some oj) (hol:ops[l]?=some ol) (hgi:oi.guard=none) (hgj:oj.guard=none) (jG:ol.guard=none)
    (hdi:oi.dst=some di) (hdj:oj.dst=some dj) (hdl:ol.dst=some dl) (d1:di≠dj) (d2:di≠dl)
    (hi0:(execOp a.eval oi).run P w=.ok (.value vi) w) (hi1:(execOp (a.put (some dj) vj).eval oi).run P w=.ok (.value vi) w) (hi2:(execOp ((a.put (some dj) vj).put (some dl) vl).eval oi).run P w2=.ok (.value vi) w2)
    (hj0:(execOp a.eval oj).run P w=.ok (.value vj) w) (hj1:(execOp (a.put (some di) vi).eval oj).run P w=.ok (.value vj) w)
    (hl1:(execOp ((a.put (some di) vi).put (some dj) vj).eval ol).run P w=.ok (.value vl) w2) (hl2:(execOp (a.put (some dj) vj).eval ol).run P w=.ok (.value vl) w2)
    (h:wpAny P md ops Q fuel (((listed.setIfInBounds i true).setIfInBounds j true).setIfInBounds l true) (((a.put (some di) vi).put (some dj) vj).put (some dl) vl) w2):wpAny P md ops Q (fuel+3) listed a w:=by
 have tail:∀(b:Act) (ls:Array Bool),b=(a.put (some di) vi).put (some dj) vj→ls=(listed.setIfInBounds i true).setIfInBounds j true→wpAny P md ops Q (fuel+1) ls b w:=by
  rintro b ls rfl rfl;refine qJ q4z hol jG (yG hl1 ?_);rw[hdl];exact h
 have hwi:∀b:Act,Region.wanted oi (yielded ops b.tmps)=true:=fun b=>by simp[Region.wanted,hgi]
 have hwj:∀b:Act,Region.wanted oj (yielded ops b.tmps)=true:=fun b=>by simp[Region.wanted,hgj]
 have hwl:∀b:Act,Region.wanted ol (yielded ops b.tmps)=true:=fun b=>by simp[Region.wanted,jG]
 refine wpAny_all hr (by simp) fun k hk=>?_;rcases(show k=i∨k=j by simpa using hk)with rfl|rfl
 ·unfold wpOp;simp only[hoi,hwi,if_true]
  left
  refine yG hi0 ?_;rw[hdi];refine qJ hri hoj hgj (yG hj1 ?_);rw[hdj];exact tail _ _ rfl rfl
 ·unfold wpOp;simp only[hoj,hwj,if_true]
  left
  refine yG hj0 ?_;rw[hdj];refine wpAny_all hrj (by simp) fun n hn=>?_;rcases(show n=i∨n=l by simpa using hn)with rfl|rfl
  ·unfold wpOp;simp only[hoi,hwi,if_true]
   left
   refine yG hi1 ?_;rw[hdi];exact tail _ _ (aJ a dj di vj vi (Ne.symm d1)) (Array.setIfInBounds_comm _ _ (Ne.symm hij))
  ·unfold wpOp;simp only[hol,hwl,if_true]
   left
   refine yG hl2 ?_;rw[hdl];refine qJ q40 hoi hgi (yG hi2 ?_);rw[hdi,aJ _ dl di vl vi (Ne.symm d2),aJ a dj di vj vi (Ne.symm d1),Array.setIfInBounds_comm _ _ (Ne.symm dP),Array.setIfInBounds_comm (xs:=listed) _ _ (Ne.symm hij)];exact h
def FG (p m:Nat)(room used:Int)(B:Nat):Nat→Value→World→Prop
 | 0,v,_=>v=.pointer (some ⟨p,0,none⟩)
 | 1,v,_=>v=.pointer (some ⟨p,0,none⟩)
 | 2,v,_=>v=.pointer (some ⟨p,1,none⟩)
 | 3,v,_=>v=.int .i64 room
 | 4,v,_=>v=.pointer (some ⟨p,0,none⟩)
 | 5,v,_=>v=.pointer (some ⟨p,0,none⟩)
 | 6,v,_=>v=.pointer (some ⟨p,2,none⟩)
 | 7,v,_=>v=.map (some m)
 | 8,v,_=>v=.int .i64 used
 | 9,v,_=>v=.int .i64 (room-used)
 | 10,v,w=>∃b,v=.pointer (some ⟨b,0,none⟩)∧B≤b∧qf w b 3 #[.int .i64 0]
 | _,_,_=>True
theorem qrq(p m:Nat)(room used:Int)(B:Nat)(i:Nat)(v:Value)(w w':World)(hi:i<11)(h:FG p m room used B i v w)(hb:Below w.heap.size w w'):FG p m room used B i v w':=by
 match i,hi,h with
 | 0,_,h | 1,_,h | 2,_,h | 3,_,h | 4,_,h | 5,_,h | 6,_,h | 7,_,h | 8,_,h | 9,_,h=>exact h
 | 10,_,⟨b,h1,h2,h3⟩=>exact⟨b,h1,h2,h3.of_block (hb.block b h3.lt)⟩
def qmZ (p:Nat)(free:Int)(w:World)(e:Ending)(w':World):Prop :=
 ∃B4 B3 a,e=.returned (.func (.func 279) #[] #[.pointer (some ⟨w.heap.size,0,none⟩),.pointer (some ⟨B4,0,none⟩),.pointer (some ⟨B3,0,none⟩)]) ∧
  Env w' p w.heap.size B4 B3 a free []∧Below w.heap.size w w'∧w.heap.size≤a
section
variable {w:World} {p m:Nat} {v:Value} {d:DD} {own:Nat→Prop}
theorem qfC{most:Nat}(h0:d.ok most)(h:uI w own p m v d) :
    Calls prog 252 #[.pointer (some ⟨p,0,none⟩)] w (qmZ p (d.room-(d.used:Int)) w):=by
 have hmm:=@run_makeMap prog;have HM:=QH h.2.1;have hp:=h.1.lt;have hml:=h.2.1.lt;obtain⟨c0,c1,c2,c3,c4,c5⟩:=kq h.1;have r0:=h0.qzp;have r1:=h0.qzq;have hu:d.used≤1024:=by
  have:=qaT d.now;rw[d.jv]at this;have:=h0.n1;unfold DD.used;omega
 have HU:Hid (cnt d.now=d.used):=rfl;clear h h0 c0 c3 c4 c5;generalize hroom:d.room=room at *;generalize qzw:d.used=used at *;clear hroom qzw;go_enter func252,ntmps252;go_wp2_with fail;have vk:(w.alloc (.cells #[.pointer (some ⟨p,0,none⟩)] 23)).heap[w.heap.size]?=some (.cells #[.pointer (some ⟨p,0,none⟩)] 23 (0,0)):=heap_alloc_new w _;have hold:∀k,k<w.heap.size→(w.alloc (.cells #[.pointer (some ⟨p,0,none⟩)] 23)).heap[k]?=w.heap[k]? :=fun k hk=>Below.heap_alloc w _ k hk;have hsz:(w.alloc (.cells #[.pointer (some ⟨p,0,none⟩)] 23)).heap.size=w.heap.size+1:=by simp
 have hB0:Below w.heap.size w (w.alloc (.cells #[.pointer (some ⟨p,0,none⟩)] 23)):=(Below.refl _ w).alloc (Nat.le_refl _) _;generalize w.alloc (.cells #[.pointer (some ⟨p,0,none⟩)] 23)=w1 at *;refine eJ (by kernel_rfl) 11 [5,6,7,8,9,10,11,12,13,14,3] (by kernel_rfl) (FG p m room (used:Int) w1.heap.size) (qrq _ _ _ _ _) ?_ ?_
 ·intro i o vs ρ W hi ho hρ hb hG;have t5:=hρ.at_ 5 0 rfl;have t6:=hρ.at_ 6 1 rfl;have t7:=hρ.at_ 7 2 rfl;have t8:=hρ.at_ 8 3 rfl;have t9:=hρ.at_ 9 4 rfl;have t10:=hρ.at_ 10 5 rfl;have t11:=hρ.at_ 11 6 rfl;have t12:=hρ.at_ 12 7 rfl;have t13:=hρ.at_ 13 8 rfl;have t1:ρ (.tmp 1)=.pointer (some ⟨w.heap.size,0,none⟩):=hρ.out 1 rfl;have hc:=hρ.const;have k1:W.cell? ⟨w.heap.size,0,none⟩=some (.pointer (some ⟨p,0,none⟩)):=by rw[hb.cell (p:=⟨w.heap.size,0,none⟩) (by simp[hsz]),cell_of_row _ _ _ _ _ _ vk];rfl
  have q1:W.cell? ⟨p,1,none⟩=some (.int .i64 room):=by rw[hb.cell (p:=⟨p,1,none⟩) (by simp[hsz];omega),World.cell?_of_block (a:=⟨p,1,none⟩) (hold p hp)];exact c1
  have q2:W.cell? ⟨p,2,none⟩=some (.map (some m)):=by rw[hb.cell (p:=⟨p,2,none⟩) (by simp[hsz];omega),World.cell?_of_block (a:=⟨p,2,none⟩) (hold p hp)];exact c2
  have hmW:xg W m d.now:=HM.out.of_block ((hb.block m (by omega)).trans (hold m hml));rcases i with _|_|_|_|_|_|_|_|_|_|_|i;all_goals (first|omega|skip)
  all_goals simp only[QA,QB,QC,Option.some.injEq]at ho
  all_goals subst ho
  ·exact q9 (w':=W) (by unfold execOp;simp only[t1];go_simp) ⟨Below.refl _ _,rfl⟩
  ·have g:vs 0=_:=hG 0 (by kernel_rfl);exact q9 (w':=W) (by unfold execOp;simp only[t5,g];go_simp) ⟨Below.refl _ _,rfl⟩
  ·have g:vs 1=_:=hG 1 (by kernel_rfl);exact q9 (w':=W) (by unfold execOp;simp only[t6,g];go_simp) ⟨Below.refl _ _,rfl⟩
  ·have g:vs 2=_:=hG 2 (by kernel_rfl);exact q9 (w':=W) (by unfold execOp;simp only[t7,g];go_simp) ⟨Below.refl _ _,rfl⟩
  ·exact q9 (w':=W) (by unfold execOp;simp only[t1];go_simp) ⟨Below.refl _ _,rfl⟩
  ·have g:vs 4=_:=hG 4 (by kernel_rfl);exact q9 (w':=W) (by unfold execOp;simp only[t9,g];go_simp) ⟨Below.refl _ _,rfl⟩
  ·have g:vs 5=_:=hG 5 (by kernel_rfl);exact q9 (w':=W) (by unfold execOp;simp only[t10,g];go_simp) ⟨Below.refl _ _,rfl⟩
  ·have g:vs 6=_:=hG 6 (by kernel_rfl);exact q9 (w':=W) (by unfold execOp;simp only[t11,g];go_simp) ⟨Below.refl _ _,rfl⟩
  ·have g:vs 7=_:=hG 7 (by kernel_rfl);exact q9 (w':=W) (qmU (.tmp 12) rfl (t12.trans g) hmW) ⟨Below.refl _ _,by rw[HU.out];rfl⟩
  ·have g3:vs 3=_:=hG 3 (by kernel_rfl);have g8:vs 8=_:=hG 8 (by kernel_rfl);exact q9 (w':=W) (by unfold execOp;simp only[t8,g3,t13,g8];go_simp;exact IntWalk.i64_in _ (by omega)) ⟨Below.refl _ _,rfl⟩
  ·exact q9 (v:=.pointer (some ⟨W.heap.size,0,none⟩)) (w':=W.alloc (.cells #[.int .i64 0] 3)) (by unfold execOp;go_simp) ⟨(Below.refl _ _).alloc (Nat.le_refl _) _,W.heap.size,rfl,hb.size,qf.new _ _ _⟩
 ·intro vs W hb hG;have g9:vs 9=_:=hG 9 (by decide);obtain⟨b3,g10,hb3,hk3⟩:∃b,vs 10=.pointer (some ⟨b,0,none⟩)∧w1.heap.size≤b∧qf W b 3 #[.int .i64 0]:=hG 10 (by decide);simp only[qR,qG,if_true];rw[g9,g10];generalize vs 0=x0;generalize vs 1=x1;generalize vs 2=x2;generalize vs 3=x3;generalize vs 4=x4;generalize vs 5=x5;generalize vs 6=x6;generalize vs 7=x7;generalize vs 8=x8;clear hG g9 g10;have k3:W.cell? ⟨b3,0,none⟩=some (.int .i64 0):=hk3.cell 0;have f3:=hk3.frozen 0;have sF:=QH hk3;have hbW:=hb.size;have HB:=QH (hB0.trans (hb.mono (by omega)));have HX:=QH ((hb.block w.heap.size (by omega)).trans vk);have zaK:=hk3.lt;clear hk3 hb hB0 hold vk c1 c2;go_simp;refine qJ (i:=11) (by kernel_rfl) rfl rfl ?_;go_simp;refine⟨by kernel_rfl,?_⟩;go_wp2;go_ret;generalize hW2:W.setCell ⟨b3,0,none⟩ (.int .i64 (room-(used:Int)))=W2;have hs2:W2.heap.size=W.heap.size:=by rw[← hW2,size_set]
  have hk2:qf W2 b3 3 #[.int .i64 (room-(used:Int))]:=by rw[← hW2];exact sF.out.qg 0 _
  have hx2:qf W2 w.heap.size 23 #[.pointer (some ⟨p,0,none⟩)]:=by
   unfold qf;rw[← hW2,xA _ _ _ _ _ (by omega)];exact HX.out
  have hB2:Below w.heap.size w W2:=by rw[← hW2];exact HB.out.setCell (by simp;omega) _
  refine⟨W.heap.size+1,b3,W.heap.size,rfl,⟨?_,?_,?_,?_⟩,?_,?_⟩
  ·refine(hx2.of_block (Below.heap_alloc _ _ _ (by omega))).of_block (Below.heap_alloc _ _ _ (by simp;omega))
  ·rw[← hs2];exact heap_alloc2_new _ _ _
  ·refine(hk2.of_block (Below.heap_alloc _ _ _ (by omega))).of_block (Below.heap_alloc _ _ _ (by simp;omega))
  ·rw[← hs2];exact(yx.made W2).of_block (Below.heap_alloc _ _ _ (by simp))
  ·exact(hB2.alloc (by omega) _).alloc (by simp;omega) _
  ·omega
end
end Go.Proofs.YtdpbdkacngaemaaGreatDoor.dk
namespace Go.Proofs.YtdpbdkacngaemaaGreatDoor.dk
open _root_.Go.Proofs.Tryz Go Go.RowKit
def tell (d:DD):List Int→List Int→Bool
 | _,[]=>true
 | acc,x::r=>if (ask d acc x).1 then tell d (ask d acc x).2 r else false
theorem iM (s:qH):∀(l acc:List Int),acc.length≤(fresh s acc l).length
 | [],_=>Nat.le_refl _
 | x::r,acc=>by
  unfold fresh;split
  ·exact iM s r acc
  ·exact Nat.le_trans (by simp) (iM s r (acc++[x]))
theorem qaZ(d:DD):∀(l acc:List Int),(acc.length=0∨(acc.length:Int)≤d.room-(d.used:Int)) →
    tell d acc l=(l.all d.has&&(decide ((fresh d.now acc l).length=0) || decide (((fresh d.now acc l).length:Int)≤d.room-(d.used:Int))))
 | [],acc,h=>by
  show true=_;simp only[List.all_nil,fresh,Bool.true_and];rcases h with h|h <;> simp[h]
 | x::r,acc,h=>by
  unfold tell;by_cases hh:d.has x=true
  ·by_cases hs:(look d.now x).isSome=true
   ·have e:ask d acc x=(true,acc):=by unfold ask;rw[if_neg (by rw[hh];simp),if_pos hs]
    rw[e];simp only[if_true,List.all_cons,hh,Bool.true_and];rw[qaZ d r acc h]
    conv=>rhs;unfold fresh
    rw[hs];rfl
   ·have e:ask d acc x=(decide (((ye acc x).length:Int)≤d.room-(d.used:Int)),ye acc x):=by unfold ask;rw[if_neg (by rw[hh];simp),if_neg hs]
    have hf:fresh d.now acc (x::r)=fresh d.now (ye acc x) r:=by
     conv=>lhs;unfold fresh
     unfold ye;rw[show(look d.now x).isSome=false from by simpa using hs,Bool.false_or];split <;> rfl
    rw[e,hf];simp only[List.all_cons,hh,Bool.true_and];by_cases hle:((ye acc x).length:Int)≤d.room-(d.used:Int)
    ·rw[decide_eq_true hle,if_pos rfl];exact qaZ d r _ (.inr hle)
    ·rw[decide_eq_false hle,if_neg (by simp)];have h1:=iM d.now r (ye acc x);have h2:0<(ye acc x).length:=by
      unfold ye;split
      ·rename_i hc;cases acc with
       | nil=>simp at hc
       | cons=>simp
      ·simp
     rw[decide_eq_false (by omega),decide_eq_false (by omega)];simp
  ·have e:ask d acc x=(false,acc):=by unfold ask;rw[if_pos (by simpa using hh)]
   rw[e];simp[hh]
theorem qjb(d:DD)(l:List Int):tell d [] l=d.fits l:=qaZ d l [] (.inl rfl)
def qI (w:World)(a:Option Addr)(zs:List Int):Prop :=
 ∀i (h:i<zs.length),∃b o,a=some ⟨b,o,none⟩∧b<w.heap.size∧w.cell? ⟨b,o+i,none⟩=some (.int .i64 zs[i]) ∧ -9223372036854775808≤zs[i]∧zs[i]≤9223372036854775807
def okB (r:Bool)(w:World)(e:Ending)(w':World):Prop:=e=.returned (.bool r)∧Below w.heap.size w w'
section
variable {w:World} {p m:Nat} {v:Value} {d:DD} {own:Nat→Prop} {B1 B4 B3 a:Nat} {acc:List Int}
theorem qrr{most:Nat}(h0:d.ok most)(h:uI w own p m v d)(he:Env w p B1 B4 B3 a (d.room-(d.used:Int)) acc)(x:Int)(hl:acc.length<maxLen) :
    Calls prog 279 #[.int .i64 x,.pointer (some ⟨B1,0,none⟩),.pointer (some ⟨B4,0,none⟩),.pointer (some ⟨B3,0,none⟩)] w (ng (ask d acc x) a w):=by
 unfold ask;by_cases hh:d.has x=true
 ·by_cases hs:(look d.now x).isSome=true
  ·rw[if_neg (by rw[hh];simp),if_pos hs];exact qaV h0 h he x hh hs
  ·rw[if_neg (by rw[hh];simp),if_neg hs];exact qrp h0 h he x hh (by simpa using hs) hl
 ·rw[if_pos (by simpa using hh)];exact qro h he x (by simpa using hh)
theorem Env.step{w':World}{free:Int}{qzx:List Int}(h:Env w p B1 B4 B3 a free acc)(hs:yx w' a qzx)(hb:qz (fun k=>k=a) w w'):Env w' p B1 B4 B3 a free qzx:=by
 have hne:∀ {B t cs},qf w B t cs→B≠a:=by
  rintro B t cs hB rfl;obtain⟨D,⟨es,clock,q,_⟩,_⟩:=h.qg;unfold qf at hB;rw[q]at hB;cases hB
 exact⟨h.b1.of_block (hb.block _ h.b1.lt (hne h.b1)),h.b4.of_block (hb.block _ h.b4.lt (hne h.b4)),h.b3.of_block (hb.block _ h.b3.lt (hne h.b3)),hs⟩
theorem qrs(d:DD)(acc:List Int)(x:Int):(ask d acc x).2.length≤acc.length+1:=by
 unfold ask;split
 ·simp
 ·split
  ·simp
  ·unfold ye;split <;> simp
def qvl (d:DD)(zs:List Int)(w:World)(p B1 B4 B3 a:Nat)(i:Value)(wr:World):Prop :=
 ∃k:Nat,k≤zs.length∧i=.int .i64 (k:Int)∧Below w.heap.size w wr∧∃acc,Env wr p B1 B4 B3 a (d.room-(d.used:Int)) acc∧acc.length≤k∧tell d acc (zs.drop k)=d.fits zs
theorem wu {most:Nat}(h:zP most w own p d)(A:Option Addr)(c:Nat)(zs:List Int)(hz:qI w A zs)(hzl:zs.length≤1000000) :
    Calls prog 182 #[.pointer (some ⟨p,0,none⟩),.slice A zs.length c] w (okB (d.fits zs) w):=by
 obtain⟨h0,m,v,h1⟩:=h;have H0:=QH h0;have H1:=QH h1;have HZ:=QH hz;have HF:=QH (qfC h0 h1);have xu:=h1.2.2.2.2.2.2;have HL:=QH xu;clear h0 h1 hz xu;go_enter func182,ntmps182;go_wp2_with (go_at_call 252;refine HF.out.mono ?_);rintro e W1 ⟨B4,B3,a,rfl,hE,hb,ha⟩;have HE:=QH hE;have HB:=QH hb;have HA:=QH ha;clear hE hb ha;go_wp2_with fail;go_loopw [14] (fun i wr=>qvl d zs w p w.heap.size B4 B3 a i wr) (fun i _=>zs.length-(intOf i).toNat);case atStart=>exact⟨0,Nat.zero_le _,rfl,HB.out,[],HE.out,Nat.le_refl _,qjb d zs⟩
 case round =>
  obtain⟨k,hk,rfl,hB,acc,hEn,hac,htl⟩:=hrel;have HBr:=QH hB;have HEr:=QH hEn;have HT:=QH htl;have HAc:=QH hac;by_cases hlt:k<zs.length
  ·obtain⟨b,o,rfl,j9,ov,hx0,hx1⟩:=HZ.out k hlt;have hcell:wr.cell? ⟨b,o+k,none⟩=some (.int .i64 zs[k]):=by rw[hB.cell (p:=⟨b,o+k,none⟩) j9];exact ov
   have hkr:uI wr own p m v d:=H1.out.keep hB.size (fun j hj=>hB.block j (HL.out j hj));have qzy:=qrr H0.out hkr hEn zs[k] (by unfold maxLen;omega);have hbs:b<wr.heap.size:=Nat.lt_of_lt_of_le j9 hB.size;have qzz:d.fits zs=if (ask d acc zs[k]).1 then tell d (ask d acc zs[k]).2 (zs.drop (k+1))else false:=by
    rw[← htl,List.drop_eq_getElem_cons hlt];rfl
   have lQ:=qrs d acc zs[k];generalize zs[k]=x at *;have HT2:=QH qzz;have bZ:=QH lQ;have qz0:=QH qzy;clear qzz lQ qzy hB hEn htl hac ov j9 hkr;cases hq:(ask d acc x).1 with
   | true =>
    have HQ:=QH hq;rw[hq,if_pos rfl]at HT2;clear hq;go_wp2_with (go_at_call 279;refine qz0.out.mono ?_);rintro e w2 ⟨rfl,hs2,hb2⟩;rw[HQ.out];have kT:=QH hs2;have qA:=QH hb2;clear hs2 hb2;go_wp2_with fail;go_roundw;case rel=>exact⟨k+1,by omega,by go_num,HBr.out.trans (qA.out.below (fun i e=>by subst e;exact HA.out) HBr.out.size),_,HEr.out.step kT.out qA.out,(by have:=HAc.out;have:=bZ.out;omega),HT2.out.symm⟩
    case measure=>simp[intOf];omega
   | false =>
    have HQ:=QH hq;rw[hq,if_neg (by simp)]at HT2;clear hq;go_wp2_with (go_at_call 279;refine qz0.out.mono ?_);rintro e w2 ⟨rfl,hs2,hb2⟩;rw[HQ.out];have qA:=QH hb2;clear hs2 hb2;go_wp2_with fail;go_ret;exact⟨(by rw[HT2.out];rfl),HBr.out.trans (qA.out.below (fun i e=>by subst e;exact HA.out) HBr.out.size)⟩
  ·have hkn:k=zs.length:=by omega
   subst hkn;clear hB hEn htl hac;go_wp2_with fail;go_ret;have:=HT.out;rw[List.drop_length]at this;exact⟨by rw[← this];rfl,HBr.out⟩
end
end Go.Proofs.YtdpbdkacngaemaaGreatDoor.dk
namespace Go.Proofs.YtdpbdkacngaemaaGreatDoor.dk
open _root_.Go.Proofs.Tryz Go Go.RowKit
section
variable {w:World} {p m:Nat} {v:Value} {d:DD} {own:Nat→Prop}
theorem xU (d:DD):d.oper.base=d.base∧d.oper.more=d.more∧d.oper.room=d.room:=by
 unfold DD.oper DD.off;split
 ·exact⟨rfl,rfl,rfl⟩
 ·split <;> exact⟨rfl,rfl,rfl⟩
theorem dQ (d:DD):d.oper.now=d.now:=by unfold DD.now;rw[(xU d).1,(xU d).2.1]
theorem qna(d:DD):d.oper.n=d.n:=by unfold DD.n;rw[(xU d).1]
theorem qnb(d:DD)(k:Int)(hh:d.has k=true):d.fits [k]=((look d.now k).isSome || decide ((d.used:Int)<d.room)):=by
 unfold DD.fits;simp only[List.all_cons,List.all_nil,hh,Bool.and_self,Bool.true_and,fresh];by_cases hx:(look d.now k).isSome=true
 ·simp[hx]
 ·simp[hx];omega
theorem ox (w:World)(k:Int)(h0 : -9223372036854775808≤k)(h1:k≤9223372036854775807):qI (w.alloc (.cells #[.int .i64 k] 3)) (some ⟨w.heap.size,0,none⟩) [k]:=by
 intro i h;have hi:i=0:=by simpa using h
 subst hi;refine⟨w.heap.size,0,rfl,by simp,?_,h0,h1⟩;rw[cell_of_row _ _ _ _ _ _ (heap_alloc_new w _)];rfl
theorem qjc{most:Nat}(h:zP most w own p d)(xa:d.on=false)(k:Int)(s:ByteArray) :
    Calls prog 194 #[.pointer (some ⟨p,0,none⟩),.int .i64 k,.string s] w (xy most own p d (.int .i64 6) w):=by
 have H:=QH h;obtain⟨h0,m,v,h1⟩:=h;obtain⟨c0,c1,c2,c3,c4,c5⟩:=kq h1.1;rw[xa]at c4;clear h0 h1 c0 c1 c2 c3 c5 xa;go_enter func194,ntmps194;go_wp2_with fail;go_ret;exact⟨rfl,own,H.out,qz.refl _ _,vh.refl _ _⟩
theorem qjd{most:Nat}(h:zP most w own p d)(xa:d.on=true)(k:Int)(hh:d.has k=false)(s:ByteArray) :
    Calls prog 194 #[.pointer (some ⟨p,0,none⟩),.int .i64 k,.string s] w (xy most own p d (.int .i64 2) w):=by
 have H:=QH h;obtain⟨h0,m,v,h1⟩:=h;have hhas:=kB h1 k;rw[hh]at hhas;have HH:=QH hhas;obtain⟨c0,c1,c2,c3,c4,c5⟩:=kq h1.1;rw[xa]at c4;clear h0 h1 c0 c1 c2 c3 c5 xa hhas hh;go_enter func194,ntmps194;go_wp2_with (go_at_call 197;refine HH.out.mono ?_;rintro e w' ⟨rfl,rfl⟩);go_ret;exact⟨rfl,own,H.out,qz.refl _ _,vh.refl _ _⟩
theorem qje{most:Nat}(h:zP most w own p d)(xa:d.on=true)(k:Int)(hh:d.has k=true)(s:ByteArray)(hs:s.size≠32) :
    Calls prog 194 #[.pointer (some ⟨p,0,none⟩),.int .i64 k,.string s] w (xy most own p d (.int .i64 2) w):=by
 have H:=QH h;obtain⟨h0,m,v,h1⟩:=h;have hhas:=kB h1 k;rw[hh]at hhas;have HH:=QH hhas;obtain⟨c0,c1,c2,c3,c4,c5⟩:=kq h1.1;rw[xa]at c4;have hsz:((s.size:Int) == 32)=false:=by rw[beq_eq_false_iff_ne];omega
 clear h0 h1 c0 c1 c2 c3 c5 xa hhas hh hs;go_enter func194,ntmps194;go_wp2_with (go_at_call 197;refine HH.out.mono ?_;rintro e w' ⟨rfl,rfl⟩);go_ret;exact⟨rfl,own,H.out,qz.refl _ _,vh.refl _ _⟩
theorem qfE{most:Nat}(h:zP most w own p d)(xa:d.on=true)(k:Int)(hh:d.has k=true)(s:ByteArray)(hs:s.size=32)(hf:d.fits [k]=false) :
    Calls prog 194 #[.pointer (some ⟨p,0,none⟩),.int .i64 k,.string s] w (xy most own p d (.int .i64 7) w):=by
 have hk0:0≤k∧k<(d.n:Int):=by simpa[DD.has]using hh
 have hn:=h.1.n1;have h2:zP most (w.alloc (.cells #[.int .i64 k] 3)) own p d:=h.keep (by simp) (fun j hj=>Below.heap_alloc _ _ _ (h.2.choose_spec.choose_spec.2.2.2.2.2.2 j hj));have HF:=QH (wu h2 _ 1 [k] (ox w k (by omega) (by omega)) (by simp));rw[hf]at HF;have H:=QH h;have H2:=QH h2;have xu:∀j,own j→j<w.heap.size:=fun j hj=>h.2.choose_spec.choose_spec.2.2.2.2.2.2 j hj;have HL:=QH xu;obtain⟨h0,m,v,h1⟩:=h;have hhas:=kB h1 k;rw[hh]at hhas;have HH:=QH hhas;obtain⟨c0,c1,c2,c3,c4,c5⟩:=kq h1.1;rw[xa]at c4;have hsz:((s.size:Int) == 32)=true:=by rw[beq_iff_eq];omega
 clear h0 h1 c0 c1 c2 c3 c5 xa hhas hh hs hf h2 xu hk0 hn;go_enter func194,ntmps194;go_wp2_with (first|(go_at_call 197;refine HH.out.mono ?_;rintro e w' ⟨rfl,rfl⟩)|(go_at_call 182;refine HF.out.mono ?_;rintro e w2 ⟨rfl,hb2⟩;have qA:=QH hb2;clear hb2));go_ret;have hB:Below w.heap.size w w2:=((Below.refl _ w).alloc (Nat.le_refl _) _).trans (qA.out.mono (by simp));exact⟨rfl,own,H.out.keep hB.size (fun j hj=>hB.block j (HL.out j hj)),qz.of_below hB,vh.refl _ _⟩
end
end Go.Proofs.YtdpbdkacngaemaaGreatDoor.dk
namespace Go.Proofs.YtdpbdkacngaemaaGreatDoor.dk
open _root_.Go.Proofs.Tryz Go Go.RowKit
theorem qfF(d:DD)(k:Int)(v:Bt):(d.write k v).2.more.length≤d.more.length+1:=by
 have ho:=(xU d).2.1;unfold DD.write;split
 ·simp
 ·split
  ·simp
  ·split
   ·simp
   ·split
    ·simp[ho]
    ·simp
end Go.Proofs.YtdpbdkacngaemaaGreatDoor.dk
namespace Go.Proofs.YtdpbdkacngaemaaGreatDoor
open _root_.Go.Proofs.Tryz Go
def ua (n:Nat):Nat:=if n%2=1 then n/2^^^3988292384 else n/2
def xV:Nat→Nat→Nat
 | 0,n=>n
 | k+1,n=>xV k (ua n)
def wx (n:Nat)(b:UInt8):Nat:=xV 8 (n^^^b.toNat)
def sG (n:Nat)(l:List UInt8):Nat:=l.foldl wx n
def vM (l:List UInt8):Nat:=sG 4294967295 l^^^4294967295
theorem oy (n:Nat):ua n=n/2^^^(if n%2=1 then 3988292384 else 0):=by
 unfold ua;split <;> simp
theorem qnc(a b:Nat):(a^^^b)%2=(a%2)^^^(b%2):=Nat.xor_mod_two_pow (n:=1)
theorem qjf(a b:Nat):ua (a^^^b)=ua a^^^ua b:=by
 rw[oy,oy a,oy b,Nat.xor_div_two,qnc];have ha:a%2=0∨a%2=1:=by omega
 have hb:b%2=0∨b%2=1:=by omega
 have h2:∀x y p:Nat,x^^^(y^^^p)=x^^^y^^^p:=fun x y p=>(Nat.xor_assoc x y p).symm;have h3:∀x p:Nat,x^^^p^^^p=x:=fun x p=>by
  rw[Nat.xor_assoc,Nat.xor_self,Nat.xor_zero]
 have h4:∀x y p:Nat,x^^^p^^^y=x^^^y^^^p:=fun x y p=>by
  rw[Nat.xor_assoc,Nat.xor_comm p y,← Nat.xor_assoc]
 rcases ha with ha|ha <;> rcases hb with hb|hb <;> simp[ha,hb,h2,h3,h4]
theorem ck:∀(k a b:Nat),xV k (a^^^b)=xV k a^^^xV k b
 | 0,_,_=>rfl
 | k+1,a,b=>by simp only[xV,qjf,ck k]
theorem qnd(n:Nat)(h:n<4294967296):ua n<4294967296:=by
 unfold ua;split
 ·exact Nat.xor_lt_two_pow (n:=32) (by omega) (by omega)
 ·omega
theorem tU:∀(k n:Nat),n<4294967296→xV k n<4294967296
 | 0,_,h=>h
 | k+1,n,h=>tU k _ (qnd n h)
theorem qtv(b:UInt8):b.toNat<256:=b.toNat_lt
theorem qcR(n:Nat)(b:UInt8)(h:n<4294967296):n^^^b.toNat<4294967296:=by
 have:=qtv b;exact Nat.xor_lt_two_pow (n:=32) (by omega) (by omega)
theorem qcS(n:Nat)(b:UInt8)(h:n<4294967296):wx n b<4294967296 :=
 tU 8 _ (qcR n b h)
theorem qba:∀(l:List UInt8) (n:Nat),n<4294967296→sG n l<4294967296
 | [],_,h=>h
 | b::l,n,h=>qba l _ (qcS n b h)
theorem qjg(l:List UInt8):vM l<4294967296 :=
 Nat.xor_lt_two_pow (n:=32) (qba l _ (by omega)) (by omega)
theorem qjh(n:Nat)(l:List UInt8)(b:UInt8):sG n (l++[b])=wx (sG n l) b:=by
 simp[sG]
def eV:List Nat:=[0,498536548,997073096,651767980,1994146192,1802195444,1303535960,1342533948,3988292384,4027552580,3604390888,3412177804,2607071920,2262029012,2685067896,3183342108]
def yq (n f:Nat):Nat:=n/16^^^eV.getD ((n%256^^^f)%16) 0
theorem qhG(n:Nat):n=n/16*16^^^n%16:=by
 have hd:(n/16*16^^^n%16)/2 ^ 4=n/16:=by
  rw[Nat.xor_div_two_pow];have h1:n/16*16/2 ^ 4=n/16:=by omega
  have h2:n%16/2 ^ 4=0:=by omega
  rw[h1,h2,Nat.xor_zero]
 have hm:(n/16*16^^^n%16)%2 ^ 4=n%16:=by
  rw[Nat.xor_mod_two_pow];have h1:n/16*16%2 ^ 4=0:=by omega
  have h2:n%16%2 ^ 4=n%16:=by omega
  rw[h1,h2,Nat.zero_xor]
 omega
theorem eW (m:Nat):xV 4 (m*16)=m:=by
 have h1:ua (m*16)=m*8:=by unfold ua;rw[if_neg (by omega)];omega
 have h2:ua (m*8)=m*4:=by unfold ua;rw[if_neg (by omega)];omega
 have h3:ua (m*4)=m*2:=by unfold ua;rw[if_neg (by omega)];omega
 have h4:ua (m*2)=m:=by unfold ua;rw[if_neg (by omega)];omega
 simp only[xV,h1,h2,h3,h4]
theorem qcT:∀r:Nat,r<16→xV 4 r=eV.getD r 0:=by decide +kernel
theorem qrt(n:Nat):xV 4 n=n/16^^^eV.getD (n%16) 0:=by
 have h:=qhG n;have e:xV 4 (n/16*16^^^n%16)=n/16^^^eV.getD (n%16) 0:=by
  rw[ck,eW,qcT _ (by omega)]
 rw[← h]at e;exact e
theorem oz (j:Nat):∀(k n:Nat),xV (k+j) n=xV j (xV k n)
 | 0,n=>by simp[xV]
 | k+1,n=>by
  rw[show k+1+j=(k+j)+1 from by omega];simp only[xV];exact oz j k _
theorem aP (a b:Nat):(a^^^b)%16=(a%16)^^^(b%16):=Nat.xor_mod_two_pow (n:=4)
theorem qji(a b:Nat):(a^^^b)/16=(a/16)^^^(b/16):=Nat.xor_div_two_pow (n:=4)
theorem lT (n f:Nat)(hf:f/16=0):yq n f=xV 4 (n^^^f):=by
 rw[qrt,qji,hf,Nat.xor_zero,aP];unfold yq;rw[aP,show n%256%16=n%16 from by omega]
theorem qbb(n f:Nat):yq n f=yq n (f%16):=by
 unfold yq;rw[aP,aP _ (f%16),show f%16%16=f%16 from by omega]
theorem halves(n:Nat)(b:UInt8):yq (yq n b.toNat) (b.toNat/16)=wx n b:=by
 have hb:=qtv b;unfold wx;rw[qbb n,lT _ _ (by omega),lT _ _ (by omega),oz 4 4]
 congr 1
 have h:=qhG b.toNat;have e:xV 4 (n^^^b.toNat)=xV 4 (n^^^b.toNat%16)^^^b.toNat/16:=by
  have:n^^^b.toNat=(n^^^b.toNat%16)^^^b.toNat/16*16:=by
   rw[Nat.xor_assoc,Nat.xor_comm (b.toNat%16),← h]
  rw[this,ck,eW]
 exact e.symm
theorem qcU(n f:Nat)(h:n<4294967296):yq n f<4294967296:=by
 have hi:(n%256^^^f)%16<16:=Nat.mod_lt _ (by omega);have ht:∀i:Nat,i<16→eV.getD i 0<4294967296:=by decide
 exact Nat.xor_lt_two_pow (n:=32) (by omega) (ht _ hi)
def be4 (n:Nat):List UInt8:=[UInt8.ofNat (n/16777216%256),UInt8.ofNat (n/65536%256),UInt8.ofNat (n/256%256),UInt8.ofNat (n%256)]
theorem ofNat_inj(a b:Nat)(ha:a<256)(hb:b<256)(h:UInt8.ofNat a=UInt8.ofNat b):a=b:=by
 have:=congrArg UInt8.toNat h;simp[UInt8.toNat_ofNat']at this;omega
def qhH (l:List UInt8):List UInt8:=be4 (vM l)
def dR (l:List UInt8):List UInt8:=l++qhH l
def qne (l:List UInt8):Option (List UInt8) :=
 if l.length<4 then none
 else if l.drop (l.length-4)=qhH (l.take (l.length-4))then some (l.take (l.length-4))else none
theorem qbc(l:List UInt8):(qhH l).length=4:=rfl
theorem eZ (l:List UInt8):(dR l).length=l.length+4:=by simp[dR,qbc]
theorem qcV(l:List UInt8):qne (dR l)=some l:=by
 have h:(dR l).length-4=l.length:=by rw[eZ];omega
 unfold qne;rw[if_neg (by rw[eZ];omega),h];have h1:(dR l).drop l.length=qhH l:=by simp[dR]
 have h2:(dR l).take l.length=l:=by simp[dR]
 rw[h1,h2,if_pos rfl]
def nsec (n:Nat):Nat:=(n+37)/32
def pad (l:List UInt8):List UInt8:=l++List.replicate (32-l.length) 0
def mL (n:Nat):List UInt8:=[UInt8.ofNat (n/256%256),UInt8.ofNat (n%256)]
def headB (t:List UInt8):List UInt8:=mL t.length++be4 (vM t)
def mM (t:List UInt8):List UInt8:=headB t++t
def yK (t:List UInt8):List UInt8:=mM t++List.replicate (nsec t.length*32-6-t.length) 0
def uK (f:List UInt8)(i:Nat):List UInt8:=(f.drop (32*i)).take 32
def chunks (k:Nat)(f:List UInt8):List (List UInt8):=(List.range k).map (uK f)
def wy (k:Nat)(f:List UInt8):List (List UInt8):=(List.range k).map fun i=>pad (uK f i)
def qK (t:List UInt8):List (List UInt8):=wy (nsec t.length) (mM t)
def vN (ps:List (List UInt8))(t:List UInt8):Prop:=t.length≤8192∧ps=qK t
theorem qbd(t:List UInt8):(headB t).length=6:=rfl
theorem dS (t:List UInt8):(mM t).length=t.length+6:=by simp[mM,qbd];omega
theorem qbe(n:Nat):n+6≤nsec n*32:=by unfold nsec;omega
theorem fg (n:Nat):0<nsec n:=by unfold nsec;omega
theorem jm (t:List UInt8):(yK t).length=32*nsec t.length:=by
 have:=qbe t.length;simp[yK,dS];omega
theorem yf (t:List UInt8):(qK t).length=nsec t.length:=by simp[qK,wy]
theorem qbf(k:Nat)(f:List UInt8):(wy k f).length=k:=by simp[wy]
theorem qfG(k:Nat)(f:List UInt8):wy (k+1) f=wy k f++[pad (uK f k)]:=by simp[wy,List.range_succ]
theorem qcW(k:Nat)(f:List UInt8):chunks (k+1) f=chunks k f++[uK f k]:=by simp[chunks,List.range_succ]
theorem gM (f:List UInt8)(i:Nat):(uK f i).length≤32:=by simp[uK];omega
theorem oA (l:List UInt8)(h:l.length≤32):(pad l).length=32:=by simp[pad];omega
theorem qjj(t:List UInt8)(i:Nat)(h:i<nsec t.length):pad (uK (mM t) i)=uK (yK t) i:=by
 have hl:=dS t;have hn:=qbe t.length;have hi:32*i≤(mM t).length:=by unfold nsec at h;omega
 have ht:32*(i+1)≤nsec t.length*32:=by omega
 unfold pad uK yK;rw[List.drop_append_of_le_length hi,List.take_append,List.take_replicate,List.length_take,List.length_drop]
 congr 1
 congr 1
 omega
theorem qcX(t:List UInt8):qK t=chunks (nsec t.length) (yK t):=by
 unfold qK wy chunks;apply List.map_congr_left;intro i hi;exact qjj t i (by simpa using hi)
theorem dT (f:List UInt8):∀k,(chunks k f).flatten=f.take (32*k)
 | 0=>by simp[chunks]
 | k+1=>by
  rw[qcW,List.flatten_append,dT f k];simp only[List.flatten_cons,List.flatten_nil,List.append_nil,uK];rw[show 32*(k+1)=32*k+32 from by omega,List.take_add]
theorem yU (t:List UInt8):(qK t).flatten=yK t:=by
 rw[qcX,dT,List.take_of_length_le];rw[jm];exact Nat.le_refl _
theorem aQ (t:List UInt8)(i:Nat)(h:i<(qK t).length):(qK t)[i].length=32:=by
 simp only[qK,wy,List.getElem_map];exact oA _ (gM _ _)
theorem qcY(k:Nat)(f:List UInt8):chunks (k+1) f=f.take 32::chunks k (f.drop 32):=by
 simp only[chunks,List.range_succ_eq_map,List.map_cons,List.map_map,uK]
 congr 1
 apply List.map_congr_left;intro i _;simp only[Function.comp,uK,List.drop_drop];rw[show 32*(i+1)=32+32*i from by omega]
theorem chunks_flatten:∀ps:List (List UInt8),(∀i (h:i<ps.length),ps[i].length=32)→chunks ps.length ps.flatten=ps
 | [],_=>rfl
 | p::ps,h=>by
  have h0:p.length=32:=h 0 (by simp);have ih:=chunks_flatten ps fun i hi=>h (i+1) (Nat.succ_lt_succ hi);rw[List.length_cons,qcY,List.flatten_cons,List.take_left' h0,List.drop_left' h0,ih]
theorem wA:∀ps:List (List UInt8),(∀i (h:i<ps.length),ps[i].length=32)→ps.flatten.length=32*ps.length
 | [],_=>rfl
 | p::ps,h=>by
  have h0:p.length=32:=h 0 (by simp);have ih:=wA ps fun i hi=>h (i+1) (Nat.succ_lt_succ hi);rw[List.flatten_cons,List.length_append,ih,h0,List.length_cons];omega
theorem ug (t:List UInt8):(yK t).take 2=mL t.length:=rfl
theorem qbg(t:List UInt8):(yK t).drop 6=t++List.replicate (nsec t.length*32-6-t.length) 0:=rfl
theorem dU (t:List UInt8):((yK t).drop 6).take t.length=t:=by rw[qbg];simp
theorem qcZ(n m:Nat)(hn:n<65536)(hm:m<65536)(h:mL n=mL m):n=m:=by
 simp only[mL,List.cons.injEq,and_true]at h;have:=ofNat_inj _ _ (by omega) (by omega) h.1;have:=ofNat_inj _ _ (by omega) (by omega) h.2;omega
theorem qnf(n:Nat)(h:n<65536):256*(UInt8.ofNat (n/256%256)).toNat+(UInt8.ofNat (n%256)).toNat=n:=by
 simp[UInt8.toNat_ofNat'];omega
theorem qfH(t u:List UInt8)(ht:t.length<65536)(hu:u.length<65536)(h:yK t=yK u):t=u:=by
 have hl:=qcZ _ _ ht hu (by rw[← ug,← ug,h]);rw[← dU t,← dU u,h,hl]
theorem qng(t u:List UInt8)(ht:t.length<65536)(hu:u.length<65536)(h:qK t=qK u):t=u :=
 qfH t u ht hu (by rw[← yU,← yU,h])
theorem oB (ps:List (List UInt8))(t u:List UInt8)(ht:vN ps t)(hu:vN ps u):t=u :=
 qng t u (by have:=ht.1;omega) (by have:=hu.1;omega) (by rw[← ht.2,← hu.2])
def sH (f:List UInt8):Option (List UInt8) :=
 match f with
 | a::b::_::_::_::_::r=>if r.length<256*a.toNat+b.toNat then none else some (r.take (256*a.toNat+b.toNat))
 | _=>none
theorem qfI(f:List UInt8)(h:f.length<6):sH f=none:=by
 unfold sH;split
 ·simp at h;omega
 ·rfl
theorem qhI(f:List UInt8)(h:6≤f.length):sH f=if f.length-6<256*f[0].toNat+f[1].toNat then none else some ((f.drop 6).take (256*f[0].toNat+f[1].toNat)):=by
 match f,h with
 | a::b::_::_::_::_::r,_=>simp[sH]
theorem qfJ(t:List UInt8)(ht:t.length<65536):sH (yK t)=some t:=by
 have hl:=qbe t.length;have hw:=jm t;have h0:(yK t)[0]'(by omega)=UInt8.ofNat (t.length/256%256):=rfl;have h1:(yK t)[1]'(by omega)=UInt8.ofNat (t.length%256):=rfl;rw[qhI _ (by omega),h0,h1,qnf _ ht,if_neg (by omega),dU]
end Go.Proofs.YtdpbdkacngaemaaGreatDoor
namespace Go.Proofs.YtdpbdkacngaemaaGreatDoor.jr
open _root_.Go.Proofs.Tryz dk wi
abbrev Wr:=Int × Bt
inductive Step where
 | w (k:Int) (v:Bt)
 | f
def jX (d:DD):Step→Int × DD
 | .w k v=>d.write k v
 | .f=>d.flush
def dV:List Step→DD→Int × DD
 | [],d=>(0,d)
 | s::r,d=>if (jX d s).1=0 then dV r (jX d s).2 else jX d s
def jU (l:List Wr):List Step:=l.map fun x=>.w x.1 x.2
def qF:List (List Wr)→List Step
 | []=>[]
 | l::r=>jU l ++ .f::qF r
def rd (s:qH)(k:Int):Bt:=(dk.look s k).getD zz
def kQ (a c:Nat):Bt:=zu (a+1)++zu c++List.replicate (32-(zu (a+1)).length-(zu c).length) 0
def pairs:List (Nat × Nat):=(List.range 2).flatMap fun a=>(List.range 73).map fun c=>(a,c)
def br (s:Bt):Option (Nat × Nat):=pairs.find? fun p=>kQ p.1 p.2 == s
def wB (x:Wr):Bt:=zu x.1.toNat++bB x.2
def zm (l:List Wr):Bt:=zu l.length++(l.map wB).flatten
def iN:Nat→Bt→Option (List Wr × Bt)
 | 0,t=>some ([],t)
 | n+1,t=>match rdNum t with
  | none=>none
  | some (a,t1)=>match jb t1 with
   | none=>none
   | some (v,t2)=>match iN n t2 with
    | none=>none
    | some (l,r)=>some ((((min a 1024:Nat):Int),v)::l,r)
def bI (t:Bt):Option (List Wr):=match rdNum t with
 | none=>none
 | some (n,r)=>if n<1∨60<n then none else match iN n r with
  | some (l,[])=>some l
  | _=>none
open Classical in
noncomputable def unB (ps:List Bt):Option Bt:=if h:∃t,vN ps t then some h.choose else none
def zS (s:qH)(a c:Nat):List Bt:=(List.range c).map fun i=>rd s ((1+a*72+i:Nat):Int)
noncomputable def dW (s:qH)(a c:Nat):Option (List Wr):=(unB (zS s a c)).bind bI
def okW (n:Nat)(x:Wr):Bool:=decide (145≤x.1)&&decide (x.1<(n:Int))&&decide (x.2.length=32)
def found (acc:List Int)(l:List Wr):List Int:=l.foldl (fun acc x=>ye acc x.1) acc
def vO (n:Nat)(l:List Wr):Bool:=l.all (okW n)&&decide ((found [] l).length=l.length)
def zn:Nat→List Bt→List Wr
 | _,[]=>[]
 | o,s::r=>((o:Int),s)::zn (o+1) r
def lay (a:Nat)(ss:List Bt):List Wr:=zn (1+a*72) ss
def yV (a:Nat)(l:List Wr):List (List Wr):=[lay (1-a) (qK (zm l)),[(0,kQ (1-a) (qK (zm l)).length)],l]
def placesOf(bs:List (List Wr)):List Int:=bs.flatten.map (·.1)
def kC (d:DD):Int × DD:=if d.on=false then(6,d)else if d.n≤145 then(2,d)else dV (qF [[(0,kQ 0 0)]]) d
def zY (d:DD)(l:List Wr):Int × DD :=
 if d.on=false then(6,d)
 else if l.length=0 then(0,d)
 else if 60<l.length then(3,d)
 else if vO d.n l=false then(2,d)
 else match br (rd d.now 0)with
  | none=>(8,d)
  | some (a,_) =>
   if 8192<(zm l).length∨72<(qK (zm l)).length then(3,d)
   else if d.fits (placesOf (yV a l))=false then(7,d)
   else dV (qF (yV a l)) d
noncomputable def xc (d:DD):Int × DD :=
 if d.on=false then(6,d)
 else match br (rd d.now 0)with
  | none=>(8,d)
  | some (a,c) =>
   if c=0 then(0,d)
   else match dW d.now a c with
    | none=>(8,d)
    | some l=>if vO d.n l=false then(8,d)else dV (qF [l]) d
theorem qvo:pairs.all (fun p=>decide ((kQ p.1 p.2).length=32)&&decide (br (kQ p.1 p.2)=some p)&&decide (kQ p.1 p.2≠zz))=true:=by decide +kernel
theorem qjk{a c:Nat}(ha:a<2)(hc:c≤72):(a,c)∈pairs:=by
 unfold pairs;rw[List.mem_flatMap];exact⟨a,by simpa using ha,List.mem_map.2 ⟨c,by simp;omega,rfl⟩⟩
theorem qnh{p:Nat × Nat}(h:p∈pairs):p.1<2∧p.2≤72:=by
 unfold pairs at h;rw[List.mem_flatMap]at h;obtain⟨a,ha,h⟩:=h;obtain⟨c,hc,rfl⟩:=List.mem_map.1 h;simp at ha hc;exact⟨ha,by omega⟩
theorem uL {a c:Nat}(ha:a<2)(hc:c≤72):(kQ a c).length=32∧br (kQ a c)=some (a,c)∧kQ a c≠zz:=by
 have:=List.all_eq_true.1 qvo (a,c) (qjk ha hc);simp only[Bool.and_eq_true,decide_eq_true_eq]at this;exact⟨this.1.1,this.1.2,this.2⟩
theorem uu {s:Bt}{a c:Nat}(h:br s=some (a,c)):a<2∧c≤72∧s=kQ a c:=by
 have h1:=List.find?_some h;have h2:=qnh (List.mem_of_find?_eq_some h);exact⟨h2.1,h2.2,(by simpa using h1:kQ a c=s).symm⟩
theorem qhJ:∀(l:List Wr) (r:Bt),(∀x∈l,0≤x.1∧x.1≤1024∧x.2.length=32)→iN l.length ((l.map wB).flatten++r)=some (l,r)
 | [],r,_=>rfl
 | x::l,r,h=>by
  obtain⟨h0,h1,h2⟩:=h x (by simp);have ih:=qhJ l r (fun y hy=>h y (by simp[hy]));simp only[List.length_cons,List.map_cons,List.flatten_cons,iN,wB,List.append_assoc];rw[um _ (by omega)];dsimp only;rw[nD _ (by omega)];dsimp only;rw[ih];have e:((min x.1.toNat 1024:Nat):Int)=x.1:=by omega
  simp only[e]
theorem qjl(l:List Wr)(h0:1≤l.length)(h1:l.length≤60)(h:∀x∈l,0≤x.1∧x.1≤1024∧x.2.length=32):bI (zm l)=some l:=by
 unfold bI zm;rw[um _ (by omega)];dsimp only;rw[if_neg (by omega)];have:=qhJ l [] h;rw[List.append_nil]at this;rw[this]
theorem qni(t:Bt)(h:t.length≤8192):unB (qK t)=some t:=by
 unfold unB;have hx:∃u,vN (qK t) u:=⟨t,h,rfl⟩;rw[dif_pos hx];exact congrArg some (oB _ _ _ hx.choose_spec ⟨h,rfl⟩)
theorem qx (n:Nat):(zu n).length≤9:=by
 have:=jJ n;simp[zu];omega
theorem qvp(x:Wr)(h:x.2.length=32):(wB x).length≤50:=by
 have h1:=qx x.1.toNat;have h2:=qx x.2.length;simp only[wB,bB,List.length_append];omega
theorem qnj(l:List Wr)(h:∀x∈l,x.2.length=32):((l.map wB).flatten).length≤50*l.length:=by
 induction l with
 | nil=>simp
 | cons x l ih =>
  have:=qvp x (h x (by simp));have:=ih (fun y hy=>h y (by simp[hy]));simp only[List.map_cons,List.flatten_cons,List.length_append,List.length_cons];omega
theorem qjm(l:List Wr):∀acc:List Int,(found acc l).length≤acc.length+l.length:=by
 induction l with
 | nil=>intro acc;simp[found]
 | cons x l ih =>
  intro acc;have h1:=ih (ye acc x.1);have h2:(ye acc x.1).length≤acc.length+1:=by
   unfold ye;split <;> simp
  simp only[found,List.foldl_cons,List.length_cons]at h1 ⊢;omega
def nat (l:List Wr):List (Nat × Bt):=l.map fun x=>(x.1.toNat,x.2)
theorem xi:∀(l:List (Nat × Bt)) (s:qH) (k:Int),(∀x∈l,(x.1:Int)≠k)→dk.look (qY s l) k=dk.look s k
 | [],_,_,_=>rfl
 | x::l,s,k,h=>by
  rw[iG,xi l _ k (fun y hy=>h y (by simp[hy]))];exact zV s x.1 k _ (Ne.symm (h x (by simp)))
theorem fh:∀(l:List (Nat × Bt)) (s s':qH) (k:Nat),k<s.length→k<s'.length→(∃x∈l,x.1=k)→dk.look (qY s l) (k:Int)=dk.look (qY s' l) (k:Int)
 | [],_,_,_,_,_,⟨x,hx,_⟩=>absurd hx (by simp)
 | x::l,s,s',k,hs,hs',h=>by
  rw[iG,iG];by_cases hl:∃y∈l,y.1=k
  ·exact fh l _ _ k (by simpa[dk.put]using hs) (by simpa[dk.put]using hs') hl
  ·have hx:x.1=k:=by
      obtain⟨y,hy,e⟩:=h;rcases List.mem_cons.1 hy with rfl|hy
      ·exact e
      ·exact absurd ⟨y,hy,e⟩ hl
   have hn:∀y∈l,(y.1:Int)≠(k:Int):=fun y hy e=>hl ⟨y,hy,by omega⟩;rw[xi l _ _ hn,xi l _ _ hn,hx];unfold dk.put;rw[zG _ _ _ hs,zG _ _ _ hs']
theorem qjn(l y:List (Nat × Bt))(s:qH)(k:Int)(hy:∀x∈y,x∈l)(hl:∀x∈l,x.1<s.length):dk.look (qY (qY s y) l) k=dk.look (qY s l) k:=by
 by_cases hk:∃x∈l,(x.1:Int)=k
 ·obtain⟨x,hx,rfl⟩:=hk;exact fh l _ _ x.1 (by rw[xf];exact hl x hx) (hl x hx) ⟨x,hx,rfl⟩
 ·have hn:∀x∈l,(x.1:Int)≠k:=fun x hx e=>hk ⟨x,hx,e⟩;rw[xi l _ _ hn,xi l _ _ hn,xi y _ _ (fun x hx=>hn x (hy x hx))]
end Go.Proofs.YtdpbdkacngaemaaGreatDoor.jr
namespace Go.Proofs.YtdpbdkacngaemaaGreatDoor.jr
open _root_.Go.Proofs.Tryz dk wi
abbrev BM:=qH × List (Nat × Bt)
def ap (x:BM):Step→BM
 | .w k v=>(x.1,x.2++[(k.toNat,v)])
 | .f=>(qY x.1 x.2,[])
def apL (ss:List Step)(x:BM):BM:=ss.foldl ap x
def lU (n:Nat):Step→Prop
 | .w k v=>0≤k∧k<(n:Int)∧v.length=32
 | .f=>True
def mk (d:DD)(x:BM)(on:Bool)(qy:Int):DD:={ room:=d.room,base:=x.1,more:=x.2,on:=on,qy:=qy }
def less (f:Int)(n:Nat):Int:=if f=0 then 0 else f-n
theorem qvq(s:qH)(k:Nat)(h:k<s.length)(hl:(dk.look s (k:Int)).isSome=false):cnt s<s.length:=by
 have h1:=wV s k [] h;rw[hl]at h1;have h2:=qaT (s.set k (some []));rw[h1,List.length_set]at h2;simp at h2;omega
theorem qz1(x:BM)(s:Step):(ap x s).1.length=x.1.length:=by cases s <;> simp[ap,xf]
theorem step_mk(d:DD)(xa:d.on=true)(hf:0≤d.qy)(hr:(d.n:Int)≤d.room)(s:Step)(hs:lU d.n s) :
    jX d s=if d.qy=1 then(6,mk d (d.base,d.more) false 0)else(0,mk d (ap (d.base,d.more) s) true (less d.qy 1)):=by
 have hop:d.oper=if d.qy=1 then mk d (d.base,d.more) false 0 else mk d (d.base,d.more) true (less d.qy 1):=by
  unfold DD.oper less;by_cases h1:d.qy=1
  ·rw[if_pos h1,if_pos h1];rfl
  ·rw[if_neg h1,if_neg h1];by_cases h2:1<d.qy
   ·rw[if_pos h2,if_neg (by omega)];unfold mk;rw[← xa];rfl
   ·have h0:d.qy=0:=by omega
    rw[if_neg h2,if_pos h0];obtain⟨r,b,m,o,f⟩:=d;simp only at xa h0;subst xa h0;rfl
 cases s with
 | w k v =>
  obtain⟨h0,h1,h2⟩:=hs;unfold jX DD.write;dsimp only;have hh:d.has k=true:=by simp[DD.has,h0,h1]
  rw[if_neg (by rw[xa];simp),if_neg (by rw[hh];simp[h2])];have hfull:¬ ((dk.look d.now k).isSome=false∧d.room≤(d.used:Int)):=by
   rintro⟨g1,g2⟩;obtain⟨j,rfl⟩:=Int.eq_ofNat_of_zero_le h0;have:=qvq d.now j (by rw[d.jv];omega) g1;rw[d.jv]at this;unfold DD.used at g2;omega
  rw[if_neg hfull,hop];by_cases h1:d.qy=1
  ·rw[if_pos h1,if_pos h1,if_pos (by rfl)]
  ·rw[if_neg h1,if_neg h1,if_neg (by simp[mk])];rfl
 | f =>
  unfold jX DD.flush;dsimp only;rw[if_neg (by rw[xa];simp),hop];by_cases h1:d.qy=1
  ·rw[if_pos h1,if_pos h1,if_pos (by rfl)]
  ·rw[if_neg h1,if_neg h1,if_neg (by simp[mk])];rfl
theorem fj:∀(ss:List Step) (d:DD),d.on=true→0≤d.qy→(d.n:Int)≤d.room→(∀s∈ss,lU d.n s)→(d.qy=0∨(ss.length:Int)<d.qy) →
    dV ss d=(0,mk d (apL ss (d.base,d.more)) true (less d.qy ss.length))
 | [],d,xa,hf,hr,hs,h=>by
  have e:less d.qy 0=d.qy:=by unfold less;split <;> omega
  have e2:mk d (d.base,d.more) true d.qy=d:=by
   obtain⟨r,b,m,o,f⟩:=d;simp only at xa;subst xa;rfl
  show(0,d)=_;rw[List.length_nil,e];exact congrArg (Prod.mk 0) e2.symm
 | s::r,d,xa,hf,hr,hs,h=>by
  have h1:¬ d.qy=1:=by simp only[List.length_cons]at h;omega
  have hst:=step_mk d xa hf hr s (hs s (by simp));rw[if_neg h1]at hst;unfold dV;rw[hst];dsimp only;rw[if_pos rfl];have hf':0≤less d.qy 1:=by unfold less;split <;> omega
  have hfe:less d.qy 1=0∨(r.length:Int)<less d.qy 1:=by
   simp only[List.length_cons]at h;unfold less;split <;> omega
  have hn:(mk d (ap (d.base,d.more) s) true (less d.qy 1)).n=d.n:=qz1 _ _;rw[fj r (mk d (ap (d.base,d.more) s) true (less d.qy 1)) rfl hf' (by rw[hn];exact hr) (fun x hx=>by rw[hn];exact hs x (by simp[hx])) hfe];have e:less (less d.qy 1) r.length=less d.qy (s::r).length:=by
   simp only[List.length_cons]at h ⊢;unfold less;split
   ·simp
   ·split <;> omega
  show(0,mk d (apL r (ap (d.base,d.more) s)) true (less (less d.qy 1) r.length))=_;rw[e];rfl
theorem oC:∀(ss:List Step) (d:DD),d.on=true→(d.n:Int)≤d.room→(∀s∈ss,lU d.n s)→1≤d.qy→d.qy≤(ss.length:Int) →
    dV ss d=(6,mk d (apL (ss.take (d.qy-1).toNat) (d.base,d.more)) false 0)
 | [],d,xa,hr,hs,h1,h=>by simp at h;omega
 | s::r,d,xa,hr,hs,h1,h=>by
  have hst:=step_mk d xa (by omega) hr s (hs s (by simp));unfold dV;rw[hst];by_cases hf:d.qy=1
  ·rw[if_pos hf];dsimp only;rw[if_neg (by decide),hf];rfl
  ·rw[if_neg hf];dsimp only;rw[if_pos rfl];have e:less d.qy 1=d.qy-1:=by unfold less;rw[if_neg (by omega)];rfl
   have hn:(mk d (ap (d.base,d.more) s) true (less d.qy 1)).n=d.n:=qz1 _ _;simp only[List.length_cons]at h;have hmf:(mk d (ap (d.base,d.more) s) true (less d.qy 1)).qy=d.qy-1:=e;rw[oC r (mk d (ap (d.base,d.more) s) true (less d.qy 1)) rfl (by rw[hn];exact hr) (fun x hx=>by rw[hn];exact hs x (by simp[hx])) (by omega) (by omega)];rw[hmf];have e2:(d.qy-1).toNat=(d.qy-1-1).toNat+1:=by omega
   rw[e2,List.take_succ_cons];rfl
theorem cm (a b:List Step)(x:BM):apL (a++b) x=apL b (apL a x):=List.foldl_append
theorem qfK:∀(l:List Wr) (x:BM),apL (jU l) x=(x.1,x.2++nat l)
 | [],x=>by simp[jU,nat,apL]
 | w::l,x=>by
  have ih:=qfK l (ap x (.w w.1 w.2));show apL (jU l) (ap x (.w w.1 w.2))=_;rw[ih];simp[ap,nat]
theorem qjp(l:List Wr)(m:Nat):(jU l).take m=jU (l.take m):=by simp[jU,List.map_take]
theorem dX (l:List Wr):(jU l).length=l.length:=by simp[jU]
theorem tV (l:List Wr)(b:qH):apL (jU l++[.f]) (b,[])=(qY b (nat l),[]):=by
 rw[cm,qfK];rfl
theorem aR:∀(bs:List (List Wr)) (b:qH),apL (qF bs) (b,[])=(qY b (nat bs.flatten),[])
 | [],b=>rfl
 | l::r,b=>by
  have h:qF (l::r)=(jU l++[.f])++qF r:=by simp[qF]
  rw[h,cm,tV,aR r];rw[List.flatten_cons,show nat (l++r.flatten)=nat l++nat r.flatten from List.map_append,jC]
theorem oD:∀(bs:List (List Wr)) (m:Nat) (b:qH),m≤(qF bs).length →
    ∃(pre:List (List Wr)) (l post:_) (j:Nat),bs=pre++l++post∧(l=[]∨∃y,l=[y])∧apL ((qF bs).take m) (b,[])=(qY b (nat pre.flatten),nat (l.flatten.take j))
 | [],m,b,h=>⟨[],[],[],0,rfl,.inl rfl,by simp[qF,apL,nat,qY]⟩
 | x::r,m,b,h=>by
  have hs:qF (x::r)=(jU x++[.f])++qF r:=by simp[qF]
  by_cases hm:m≤x.length
  ·refine⟨[],[x],r,m,by simp,.inr ⟨x,rfl⟩,?_⟩;rw[hs,List.take_append_of_le_length (by simp[dX];omega),List.take_append_of_le_length (by rw[dX];exact hm),qjp,qfK];simp[nat,qY]
  ·have hl:(jU x++[Step.f]).length=x.length+1:=by simp[dX]
   have e:(qF (x::r)).take m=(jU x++[.f])++(qF r).take (m-(x.length+1)):=by
    rw[hs,List.take_append,hl,List.take_of_length_le (by rw[hl];omega)]
   rw[hs,List.length_append,hl]at h;obtain⟨pre,l,post,j,h1,h2,h3⟩:=oD r (m-(x.length+1)) (qY b (nat x)) (by omega);refine⟨x::pre,l,post,j,by simp[h1],h2,?_⟩;rw[e,cm,tV,h3];rw[List.flatten_cons,show nat (x++pre.flatten)=nat x++nat pre.flatten from List.map_append,jC]
def vn (N:Nat)(b:qH)(a c:Nat)(l:List Wr):Prop:=(c=0∧l=[])∨(c≠0∧dW b a c=some l∧vO N l=true)
def RB (N:Nat)(tgt:Int→Bt)(b:qH):Prop :=
 b.length=N∧(∀v,some v∈b→v.length=32)∧∃a c l,br (rd b 0)=some (a,c)∧vn N b a c l∧∀k,145≤k→rd (qY b (nat l)) k=tgt k
def JB (N:Nat)(tgt:Int→Bt)(b:qH):Prop:=RB N tgt b∧∀k,145≤k→rd b k=tgt k
structure RJ(N:Nat)(tgt:Int→Bt)(d:DD):Prop where
 on:d.on=true
 more:d.more=[]
 room:(N:Int)≤d.room
 rb:RB N tgt d.base
structure JJ(N:Nat)(tgt:Int→Bt)(d:DD):Prop extends RJ N tgt d where
 is:∀k,145≤k→rd d.base k=tgt k
theorem dY {N:Nat}{l:List Wr}(h:vO N l=true):∀x∈l,145≤x.1∧x.1<(N:Int)∧x.2.length=32:=by
 intro x hx;unfold vO at h;simp only[Bool.and_eq_true]at h;have:=List.all_eq_true.1 h.1 x hx;simpa[okW,and_assoc]using this
theorem jD (l:List (Nat × Bt))(s:qH)(k:Int)(h:∀x∈l,(x.1:Int)≠k):rd (qY s l) k=rd s k:=by
 unfold rd;rw[xi l s k h]
theorem wX {l:List Wr}{x:Nat × Bt}(h:x∈nat l):∃y∈l,x=(y.1.toNat,y.2):=by
 obtain⟨y,hy,rfl⟩:=List.mem_map.1 h;exact⟨y,hy,rfl⟩
theorem qnk{N:Nat}{l:List Wr}(h:∀x∈l,145≤x.1∧x.1<(N:Int)∧x.2.length=32):∀x∈nat l,145≤x.1∧x.1<N∧x.2.length=32:=by
 intro x hx;obtain⟨y,hy,rfl⟩:=wX hx;have:=h y hy;exact⟨by dsimp only;omega,by dsimp only;omega,this.2.2⟩
theorem sI {s s':qH}{a c:Nat}(h:∀i,i<c→rd s ((1+a*72+i:Nat):Int)=rd s' ((1+a*72+i:Nat):Int)):zS s a c=zS s' a c :=
 List.map_congr_left fun i hi=>h i (List.mem_range.1 hi)
theorem qda{s s':qH}{a c:Nat}(h:∀i,i<c→rd s ((1+a*72+i:Nat):Int)=rd s' ((1+a*72+i:Nat):Int)):dW s a c=dW s' a c:=by
 unfold dW;rw[sI h]
theorem fk {N:Nat}{b:qH}{a c:Nat}{l:List Wr}(h:vn N b a c l):∀x∈l,145≤x.1∧x.1<(N:Int)∧x.2.length=32:=by
 rcases h with⟨_,rfl⟩|⟨_,_,h⟩
 ·intro x hx;cases hx
 ·exact dY h
theorem fp {N:Nat}{b:qH}{a c:Nat}{l:List Wr}(h:vn N b a c l)(y:List (Nat × Bt))(hy:∀x∈y,∀i,i<c→x.1≠1+a*72+i):vn N (qY b y) a c l:=by
 rcases h with h|⟨h1,h2,h3⟩
 ·exact .inl h
 ·refine .inr ⟨h1,?_,h3⟩;rw[← h2];exact qda fun i hi=>jD _ _ _ fun x hx=>by have:=hy x hx i hi;omega
theorem RB.part{N:Nat}{tgt:Int→Bt}{b:qH}(h1:b.length=N)(h2:∀v,some v∈b→v.length=32){a c:Nat}{l:List Wr}(hh:br (rd b 0)=some (a,c))(hg:vn N b a c l)(ht:∀k,145≤k→rd (qY b (nat l)) k=tgt k)
    (y:List (Nat × Bt)) (hy:∀x∈y,x∈nat l):RB N tgt (qY b y):=by
 have hp:=qnk (fk hg);obtain⟨ha,hc,_⟩:=uu hh;refine⟨by rw[xf];exact h1,dM h2 (fun x hx=>(hp x (hy x hx)).2.2),a,c,l,?_,fp hg y (fun x hx i hi=>?_),fun k hk=>?_⟩
 ·rw[jD _ _ _ (fun x hx=>?_)]
  ·exact hh
  ·have:=hp x (hy x hx);omega
 ·have:=hp x (hy x hx);have:a*72≤72:=by omega
  omega
 ·rw[← ht k hk];unfold rd;rw[qjn (nat l) y b k hy (fun x hx=>by have:=hp x hx;omega)]
theorem RB.whole{N:Nat}{tgt:Int→Bt}{b:qH}(h1:b.length=N)(h2:∀v,some v∈b→v.length=32){a c:Nat}{l:List Wr}(hh:br (rd b 0)=some (a,c))(hg:vn N b a c l)(ht:∀k,145≤k→rd (qY b (nat l)) k=tgt k):JB N tgt (qY b (nat l)) :=
 ⟨RB.part h1 h2 hh hg ht (nat l) (fun _ h=>h),ht⟩
theorem qru{N:Nat}{l:List Wr}(h:∀x∈l,0≤x.1∧x.1<(N:Int)∧x.2.length=32):∀s∈jU l,lU N s:=by
 intro s hs;obtain⟨x,hx,rfl⟩:=List.mem_map.1 hs;exact h x hx
theorem wY {N:Nat}:∀ {bs:List (List Wr)},(∀l∈bs,∀x∈l,0≤x.1∧x.1<(N:Int)∧x.2.length=32)→∀s∈qF bs,lU N s
 | [],_,s,hs=>by cases hs
 | l::r,h,s,hs=>by
  have e:qF (l::r)=jU l++(.f::qF r):=rfl;rw[e,List.mem_append,List.mem_cons]at hs;rcases hs with hs|rfl|hs
  ·exact qru (h l (by simp)) s hs
  ·trivial
  ·exact wY (fun l hl=>h l (by simp[hl])) s hs
theorem qhK(d:DD)(x:BM)(f:Int)(keep:List Bool):(mk d x false f).qzs keep=mk d (qY x.1 (stay x.2 keep),[]) true f:=rfl
def qvr (P:DD→Prop)(d:DD):Prop:=d.on=false∧∀keep,P (d.qzs keep)
theorem qdb{N:Nat}{tgt:Int→Bt}{d:DD}(h:RJ N tgt d)(hf:0≤d.qy) :
    ((xc d).1=0∧JJ N tgt (xc d).2∧(d.qy=0→(xc d).2.qy=0)∧0≤(xc d).2.qy)∨((xc d).1=6∧qvr (RJ N tgt) (xc d).2∧d.qy≠0∧(xc d).2.qy=0):=by
 obtain⟨xa,hmo,hro,h1,h2,a,c,l,hh,hg,ht⟩:=h;have qnl:d.now=d.base:=by unfold DD.now;rw[hmo];rfl
 have hn:d.n=N:=h1;unfold xc;rw[if_neg (by rw[xa];simp),qnl,hh];dsimp only;by_cases hc:c=0
 ·rw[if_pos hc]
  left
  refine⟨rfl,⟨⟨xa,hmo,hro,h1,h2,a,c,l,hh,hg,ht⟩,fun k hk=>?_⟩,fun h=>h,hf⟩;rcases hg with⟨_,rfl⟩|⟨h',_⟩
  ·exact ht k hk
  ·exact absurd hc h'
 ·rw[if_neg hc];rcases hg with⟨h',_⟩|⟨_,hr,hp⟩
  ·exact absurd h' hc
  have hg':vn N d.base a c l:=.inr ⟨hc,hr,hp⟩;rw[hr];dsimp only;rw[hn,if_neg (by rw[hp];simp)];have hgs:∀s∈qF [l],lU d.n s:=by
   rw[hn];refine wY fun m hm x hx=>?_;obtain rfl:m=l:=by simpa using hm
   have:=dY hp x hx;exact⟨by omega,this.2⟩
  by_cases hfu:d.qy=0∨((qF [l]).length:Int)<d.qy
  ·left
   rw[fj _ d xa hf (by rw[hn];exact hro) hgs hfu,hmo,aR];have hw:=RB.whole h1 h2 hh hg' ht;refine⟨rfl,⟨⟨rfl,rfl,hro,?_⟩,?_⟩,fun h0=>?_,?_⟩
   ·show RB N tgt (qY d.base (nat [l].flatten));simpa using hw.1
   ·show ∀k,145≤k→rd (qY d.base (nat [l].flatten)) k=tgt k;simpa using hw.2
   ·show less d.qy _=0;unfold less;rw[if_pos h0]
   ·show 0≤less d.qy _;unfold less;split <;> omega
  ·right
   have h0:d.qy≠0:=fun h=>hfu (.inl h);rw[oC _ d xa (by rw[hn];exact hro) hgs (by omega) (by omega),hmo];obtain⟨pre,q,post,j,e1,e2,e3⟩:=oD [l] (d.qy-1).toNat d.base (by omega);rw[e3];refine⟨rfl,⟨rfl,fun keep=>?_⟩,h0,rfl⟩;rw[qhK];have key:∃y,(∀x∈y,x∈nat l)∧qY (qY d.base (nat pre.flatten)) (stay (nat (q.flatten.take j)) keep)=qY d.base y:=by
    refine⟨nat pre.flatten++stay (nat (q.flatten.take j)) keep,fun x hx=>?_,by rw[jC]⟩;have qdc:∀z∈pre.flatten++q.flatten,z∈l:=by
     intro z hz;have:z∈[l].flatten:=by rw[e1,List.flatten_append,List.flatten_append];exact List.mem_append_left _ hz
     simpa using this
    rcases List.mem_append.1 hx with hx|hx
    ·obtain⟨z,hz,rfl⟩:=wX hx;exact List.mem_map.2 ⟨z,qdc z (List.mem_append_left _ hz),rfl⟩
    ·obtain⟨z,hz,rfl⟩:=wX (oa _ _ _ hx);exact List.mem_map.2 ⟨z,qdc z (List.mem_append_right _ (List.mem_of_mem_take hz)),rfl⟩
   obtain⟨y,hy,e4⟩:=key;refine⟨rfl,rfl,hro,?_⟩;show RB N tgt (qY (qY d.base (nat pre.flatten)) (stay (nat (q.flatten.take j)) keep));rw[e4];exact RB.part h1 h2 hh hg' ht y hy
def over:(Int→Bt)→List Wr→Int→Bt
 | t,[]=>t
 | t,x::r=>over (fun k=>if k=x.1 then x.2 else t k) r
theorem wZ:∀(l:List Wr) (t u:Int→Bt),(∀k,145≤k→t k=u k)→∀k,145≤k→over t l k=over u l k
 | [],_,_,h=>h
 | x::l,t,u,h=>wZ l _ _ fun k hk=>by
  split
  ·rfl
  ·exact h k hk
theorem nh:∀(l:List Wr) (b:qH),(∀x∈l,0≤x.1∧x.1<(b.length:Int))→∀k,rd (qY b (nat l)) k=over (rd b) l k
 | [],_,_,_=>rfl
 | x::l,b,h,k=>by
  obtain⟨h0,h1⟩:=h x (by simp);have ih:=nh l (dk.put b x.1.toNat x.2) (fun y hy=>by rw[dk.put,List.length_set];exact h y (by simp[hy])) k;have e:qY b (nat (x::l))=qY (dk.put b x.1.toNat x.2) (nat l):=rfl;rw[e,ih];have e2:rd (dk.put b x.1.toNat x.2)=fun k=>if k=x.1 then x.2 else rd b k:=by
   funext j
   obtain⟨n,hn⟩:=Int.eq_ofNat_of_zero_le h0;unfold rd dk.put;by_cases hj:j=x.1
   ·rw[if_pos hj,hj,hn,Int.toNat_natCast,zG _ _ _ (by omega)];rfl
   ·rw[if_neg hj,zV _ _ _ _ (by omega)]
  rw[e2];rfl
theorem yL (n:Nat)(h:n<65536):(zu n).length≤3:=by
 have e:zE n=xn 2 n:=by
  unfold zE;rw[yA 7 n (by omega),yA 6 n (by omega),yA 5 n (by omega),yA 4 n (by omega),yA 3 n (by omega),yA 2 n (by omega)]
 have:=ir 2 n;simp[zu,e];omega
theorem qnm(x:Wr)(h:x.2.length=32)(h0:x.1<65536):(wB x).length≤37:=by
 have h1:=yL x.1.toNat (by omega);have h2:(zu 32).length=2:=by decide
 simp only[wB,bB,List.length_append,h,h2];omega
theorem gh (l:List Wr)(rW:l.length≤60)(h:∀x∈l,x.1<65536∧x.2.length=32):(zm l).length≤2223:=by
 have key:∀l:List Wr,(∀x∈l,x.1<65536∧x.2.length=32)→((l.map wB).flatten).length≤37*l.length:=by
  intro l
  induction l with
  | nil=>intro _;simp
  | cons x l ih =>
   intro h;have:=qnm x (h x (by simp)).2 (h x (by simp)).1;have:=ih (fun y hy=>h y (by simp[hy]));simp only[List.map_cons,List.flatten_cons,List.length_append,List.length_cons];omega
 have h1:=key l h;have h2:=yL l.length (by omega);simp only[zm,List.length_append];omega
theorem cu (l:List Wr)(rW:l.length≤60)(h:∀x∈l,x.1<65536∧x.2.length=32):1≤(qK (zm l)).length∧(qK (zm l)).length≤72:=by
 have:=gh l rW h;have:=fg (zm l).length;rw[yf];refine⟨this,?_⟩;unfold nsec;omega
theorem jE:∀(ss:List Bt) (o:Nat) (x:Wr),x∈zn o ss→∃i,i<ss.length∧x.1=((o+i:Nat):Int)∧ss[i]?=some x.2
 | [],_,_,h=>by cases h
 | s::r,o,x,h=>by
  rcases List.mem_cons.1 h with rfl|h
  ·exact⟨0,by simp,by simp,rfl⟩
  ·obtain⟨i,h1,h2,h3⟩:=jE r (o+1) x h;exact⟨i+1,by simpa using h1,by rw[h2];omega,by simpa using h3⟩
theorem oF:∀(ss:List Bt) (o:Nat) (b:qH),o+ss.length≤b.length→∀i (h:i<ss.length),dk.look (qY b (nat (zn o ss))) ((o+i:Nat):Int)=some ss[i]
 | [],_,_,_,i,h=>absurd h (by simp)
 | s::r,o,b,hb,i,h=>by
  simp only[List.length_cons]at hb h;have e:qY b (nat (zn o (s::r)))=qY (dk.put b o s) (nat (zn (o+1) r)):=by
   show qY (dk.put b (o:Int).toNat s) _=_;rw[Int.toNat_natCast];rfl
  rw[e];cases i with
  | zero =>
   rw[xi _ _ _ (fun x hx=>?_)]
   ·unfold dk.put;rw[Nat.add_zero,zG _ _ _ (by omega)];rfl
   ·obtain⟨y,hy,rfl⟩:=wX hx;obtain⟨i,_,h2,_⟩:=jE r (o+1) y hy;dsimp only;omega
  | succ i =>
   have:=oF r (o+1) (dk.put b o s) (by rw[dk.put,List.length_set];omega) i (by omega);rw[show o+(i+1)=o+1+i from by omega,this];rfl
theorem zh:∀(ss:List Bt) (o:Nat),(zn o ss).length=ss.length
 | [],_=>rfl
 | s::r,o=>by simp[zn,zh r]
theorem cy:∀(ss:List Bt) (o:Nat) (s:Bt),zn o (ss++[s])=zn o ss++[(((o+ss.length:Nat):Int),s)]
 | [],o,s=>by simp[zn]
 | t::r,o,s=>by
  have:=cy r (o+1) s;simp only[List.cons_append,zn,this,List.length_cons];rw[show o+1+r.length=o+(r.length+1)from by omega]
theorem oG (s:qH):∀(l acc:List Int),acc.Nodup→(∀x∈acc,0≤x∧x<(s.length:Int)∧(dk.look s x).isSome=false)→(∀x∈l,0≤x∧x<(s.length:Int)) →
    (fresh s acc l).Nodup∧∀x∈fresh s acc l,0≤x∧x<(s.length:Int)∧(dk.look s x).isSome=false
 | [],acc,h1,h2,_=>⟨h1,h2⟩
 | x::r,acc,h1,h2,h3=>by
  unfold fresh;split
  ·exact oG s r acc h1 h2 (fun y hy=>h3 y (by simp[hy]))
  ·rename_i hn;simp only[Bool.or_eq_true,not_or,List.contains_iff_mem]at hn;refine oG s r (acc++[x]) ?_ (fun y hy=>?_) (fun y hy=>h3 y (by simp[hy]))
   ·rw[List.nodup_append];refine⟨h1,by simp,fun a ha b hb=>?_⟩;obtain rfl:b=x:=by simpa using hb
    rintro rfl;exact hn.2 ha
   ·rcases List.mem_append.1 hy with hy|hy
    ·exact h2 y hy
    ·obtain rfl:y=x:=by simpa using hy
     have:=h3 y (by simp);exact⟨this.1,this.2,by simpa using hn.1⟩
theorem tW:∀(acc:List Int) (s:qH),acc.Nodup→(∀x∈acc,0≤x∧x<(s.length:Int)∧(dk.look s x).isSome=false)→cnt s+acc.length≤s.length
 | [],s,_,_=>qaT s
 | x::r,s,h1,h2=>by
  obtain⟨g0,g1,g2⟩:=h2 x (by simp);obtain⟨n,rfl⟩:=Int.eq_ofNat_of_zero_le g0;rw[List.nodup_cons]at h1;have hc:=wV s n [] (by omega);rw[g2]at hc;simp only[Bool.false_eq_true,if_false]at hc;have ih:=tW r (s.set n (some [])) h1.2 (fun y hy=>by
   obtain⟨k0,k1,k2⟩:=h2 y (by simp[hy]);refine⟨k0,by rw[List.length_set];exact k1,?_⟩;rw[zV _ _ _ _ (fun e=>h1.1 (by rw[← e];exact hy))];exact k2)
  rw[List.length_set,hc]at ih;simp only[List.length_cons];omega
theorem qjq(d:DD)(l:List Int)(hr:(d.n:Int)≤d.room)(hl:∀x∈l,0≤x∧x<(d.n:Int)):d.fits l=true:=by
 have hn:=d.jv;obtain⟨h1,h2⟩:=oG d.now l [] List.nodup_nil (by simp) (fun x hx=>by rw[hn];exact hl x hx);have h3:=tW _ _ h1 h2;unfold DD.fits DD.used;rw[Bool.and_eq_true,Bool.or_eq_true];refine⟨List.all_eq_true.2 fun x hx=>?_,.inr ?_⟩
 ·have:=hl x hx;simp[DD.has,this.1,this.2]
 ·rw[decide_eq_true_eq];rw[hn]at h3;omega
def oH (N:Nat)(l:List Wr):Int:=if l.length=0 then 0 else if 60<l.length then 3 else if vO N l=false then 2 else 0
theorem qjr{N:Nat}{l:List Wr}(h:oH N l=0)(h0:l.length≠0):l.length≤60∧vO N l=true:=by
 unfold oH at h;rw[if_neg h0]at h;by_cases h1:60<l.length
 ·rw[if_pos h1]at h;cases h
 ·rw[if_neg h1]at h;by_cases h2:vO N l=false
  ·rw[if_pos h2]at h;cases h
  ·exact⟨by omega,by simpa using h2⟩
theorem qfL{d:DD}{l:List Wr}(xa:d.on=true)(h:oH d.n l≠0∨l.length=0):zY d l=(oH d.n l,d):=by
 unfold zY;rw[if_neg (by rw[xa];simp)];by_cases h0:l.length=0
 ·rw[if_pos h0];unfold oH;rw[if_pos h0]
 ·rw[if_neg h0];rcases h with h|h
  ·unfold oH at h ⊢;rw[if_neg h0]at h ⊢;by_cases h1:60<l.length
   ·rw[if_pos h1,if_pos h1]
   ·rw[if_neg h1]at h;rw[if_neg h1,if_neg h1];by_cases h2:vO d.n l=false
    ·rw[if_pos h2,if_pos h2]
    ·rw[if_neg h2]at h;exact absurd rfl h
  ·exact absurd h h0
section
variable {N:Nat} {tgt:Int→Bt} {b:qH} {l:List Wr}
theorem qrv(hN:145<N)(lV:N≤1024)(h1:b.length=N)(h2:∀v,some v∈b→v.length=32)(a:Nat)(ha:a<2)(rW:l.length≤60)(h0:1≤l.length)(hp:vO N l=true) :
    ∃b2,b2=qY b (nat (lay (1-a) (qK (zm l))++[(0,kQ (1-a) (qK (zm l)).length)]))∧b2.length=N∧(∀v,some v∈b2→v.length=32) ∧
     br (rd b2 0)=some (1-a,(qK (zm l)).length)∧vn N b2 (1-a) (qK (zm l)).length l∧∀k,145≤k→rd (qY b2 (nat l)) k=over (rd b) l k:=by
 have hall:=dY hp;have hsm:∀x∈l,x.1<65536∧x.2.length=32:=fun x hx=>by have:=hall x hx;exact⟨by omega,this.2.2⟩
 obtain⟨s1,s72⟩:=cu l rW hsm;have qz3:=gh l rW hsm;obtain⟨f1,f2,_⟩:=uL (show 1-a<2 by omega) s72;have qrw:∀x∈nat (lay (1-a) (qK (zm l))),∃i,i<(qK (zm l)).length∧x.1=1+(1-a)*72+i∧x.2.length=32:=by
  intro x hx;obtain⟨y,hy,rfl⟩:=wX hx;obtain⟨i,g1,g2,g3⟩:=jE _ _ _ hy;refine⟨i,g1,by dsimp only;omega,?_⟩;have:=aQ (zm l) i g1;rw[List.getElem?_eq_getElem g1]at g3;injection g3 with g3
  rw[← g3];exact this
 have e:nat (lay (1-a) (qK (zm l))++[(0,kQ (1-a) (qK (zm l)).length)])=nat (lay (1-a) (qK (zm l)))++[(0,kQ (1-a) (qK (zm l)).length)]:=by simp[nat]
 have xu:∀x∈nat (lay (1-a) (qK (zm l))++[(0,kQ (1-a) (qK (zm l)).length)]),x.1<145∧x.2.length=32:=by
  rw[e];intro x hx;rcases List.mem_append.1 hx with hx|hx
  ·obtain⟨i,g1,g2,g3⟩:=qrw x hx;have:(1-a)*72≤72:=by omega
   exact⟨by omega,g3⟩
  ·obtain rfl:x=_:=by simpa using hx
   exact⟨by dsimp only;omega,f1⟩
 have hlen:(qY b (nat (lay (1-a) (qK (zm l))))).length=N:=by rw[xf];exact h1
 have hb2:(qY b (nat (lay (1-a) (qK (zm l))++[(0,kQ (1-a) (qK (zm l)).length)]))).length=N:=by rw[xf];exact h1
 refine⟨_,rfl,hb2,dM h2 (fun x hx=>(xu x hx).2),?_,.inr ⟨by omega,?_,hp⟩,fun k hk=>?_⟩
 ·rw[e,iH];unfold rd dk.put;rw[show((0:Int))=((0:Nat):Int)from rfl,zG _ _ _ (by omega)];exact f2
 ·have hs:zS (qY b (nat (lay (1-a) (qK (zm l))++[(0,kQ (1-a) (qK (zm l)).length)]))) (1-a) (qK (zm l)).length=qK (zm l):=by
     refine List.ext_getElem (by simp[zS]) fun i g1 g2=>?_;simp only[zS,List.getElem_map,List.getElem_range];rw[e,iH];unfold rd dk.put;rw[zV _ _ _ _ (by omega)]
     have:=oF (qK (zm l)) (1+(1-a)*72) b (by have:(1-a)*72≤72:=by omega
                                             omega) i g2
     unfold lay;rw[this];rfl
  unfold dW;rw[hs,qni _ (by omega)];exact qjl l h0 rW (fun x hx=>by have:=hall x hx;exact⟨by omega,by omega,this.2.2⟩)
 ·rw[nh l _ (fun x hx=>by have:=hall x hx;rw[hb2];exact⟨by omega,this.2.1⟩)];exact wZ l _ _ (fun j hj=>jD _ _ _ fun x hx=>by have:=(xu x hx).1;omega) k hk
theorem oI {d:DD}(hN:145<N)(lV:N≤1024)(h:JJ N tgt d)(hf:0≤d.qy)(qz4:oH N l=0) :
    ((zY d l).1=0∧JJ N (over tgt l) (zY d l).2∧(d.qy=0→(zY d l).2.qy=0)∧0≤(zY d l).2.qy) ∨
    ((zY d l).1=6∧qvr (fun e=>RJ N tgt e∨RJ N (over tgt l) e) (zY d l).2∧d.qy≠0∧(zY d l).2.qy=0):=by
 have hJ:=h;obtain⟨⟨xa,hmo,hro,h1,h2,a,c,l0,hh,hg,ht⟩,his⟩:=h;have qnl:d.now=d.base:=by unfold DD.now;rw[hmo];rfl
 have hn:d.n=N:=h1;by_cases h0:l.length=0
 ·left
  have e:=qfL (l:=l) xa (.inr h0);rw[hn,qz4]at e;rw[e];obtain rfl:l=[]:=List.length_eq_zero_iff.1 h0;exact⟨rfl,hJ,fun h=>h,hf⟩
 obtain⟨rW,hp⟩:=qjr qz4 h0;have hall:=dY hp;have hsm:∀x∈l,x.1<65536∧x.2.length=32:=fun x hx=>by have:=hall x hx;exact⟨by omega,this.2.2⟩
 obtain⟨s1,s72⟩:=cu l rW hsm;have qz3:=gh l rW hsm;obtain⟨ha,hc,_⟩:=uu hh;obtain⟨f1,_,_⟩:=uL (show 1-a<2 by omega) s72;obtain⟨b2,e2,q1,q2,q3,q4,q5⟩:=qrv hN lV h1 h2 a ha rW (by omega) hp;have hov:∀k,145≤k→over (rd d.base) l k=over tgt l k:=wZ l _ _ his;have hgw:∀m∈yV a l,∀x∈m,0≤x.1∧x.1<(N:Int)∧x.2.length=32:=by
  intro m hm x hx;unfold yV at hm;simp only[List.mem_cons,List.not_mem_nil,or_false]at hm;rcases hm with rfl|rfl|rfl
  ·obtain⟨i,g1,g2,g3⟩:=jE _ _ _ hx;have:=aQ (zm l) i g1;rw[List.getElem?_eq_getElem g1]at g3;injection g3 with g3
   have:(1-a)*72≤72:=by omega
   exact⟨by omega,by omega,by rw[← g3];assumption⟩
  ·obtain rfl:x=_:=by simpa using hx
   exact⟨by dsimp only;omega,by dsimp only;omega,f1⟩
  ·have:=hall x hx;exact⟨by omega,this.2⟩
 have qnn:d.fits (placesOf (yV a l))=true:=by
  refine qjq d _ (by rw[hn];exact hro) fun x hx=>?_;obtain⟨y,hy,rfl⟩:=List.mem_map.1 hx;obtain⟨m,hm,hy⟩:=List.mem_flatten.1 hy;have:=hgw m hm y hy;rw[hn];exact⟨this.1,this.2.1⟩
 have e:zY d l=dV (qF (yV a l)) d:=by
  unfold zY;rw[if_neg (by rw[xa];simp),if_neg h0,if_neg (by omega),hn,if_neg (by rw[hp];simp),qnl,hh];dsimp only;rw[if_neg (by omega),if_neg (by rw[qnn];simp)]
 rw[e];have hgs:∀s∈qF (yV a l),lU d.n s:=by rw[hn];exact wY hgw
 have qz6:nat (yV a l).flatten=nat (lay (1-a) (qK (zm l))++[(0,kQ (1-a) (qK (zm l)).length)])++nat l:=by
  simp[yV,nat]
 by_cases hfu:d.qy=0∨((qF (yV a l)).length:Int)<d.qy
 ·left
  rw[fj _ d xa hf (by rw[hn];exact hro) hgs hfu,hmo,aR,qz6,jC,← e2];have hw:=RB.whole (tgt:=over tgt l) q1 q2 q3 q4 (fun k hk=>by rw[q5 k hk];exact hov k hk);refine⟨rfl,⟨⟨rfl,rfl,hro,hw.1⟩,hw.2⟩,fun h0=>?_,?_⟩
  ·show less d.qy _=0;unfold less;rw[if_pos h0]
  ·show 0≤less d.qy _;unfold less;split <;> omega
 ·right
  have hf0:d.qy≠0:=fun h=>hfu (.inl h);rw[oC _ d xa (by rw[hn];exact hro) hgs (by omega) (by omega),hmo];obtain⟨pre,q,post,j,e1,hq,e3⟩:=oD (yV a l) (d.qy-1).toNat d.base (by omega);rw[e3];refine⟨rfl,⟨rfl,fun keep=>?_⟩,hf0,rfl⟩;rw[qhK];have old:∀y:List (Nat × Bt),(∀x∈y,x∈nat (lay (1-a) (qK (zm l))))→RJ N tgt (mk d (qY d.base y,[]) true 0):=by
   intro y hy;have hk:∀x∈y,∃i,i<(qK (zm l)).length∧x.1=1+(1-a)*72+i∧x.2.length=32:=by
    intro x hx;obtain⟨z,hz,rfl⟩:=wX (hy x hx);obtain⟨i,g1,g2,g3⟩:=jE _ _ _ hz;have:=aQ (zm l) i g1;rw[List.getElem?_eq_getElem g1]at g3;injection g3 with g3
    exact⟨i,g1,by dsimp only;omega,by rw[← g3];assumption⟩
   refine⟨rfl,rfl,hro,by rw[← h1];exact xf _ _,dM h2 (fun x hx=>(hk x hx).choose_spec.2.2),a,c,l0,?_,fp hg y (fun x hx i hi=>?_),fun k dA=>?_⟩
   ·show br (rd (qY d.base y) 0)=_;rw[jD _ _ _ (fun x hx=>?_)]
    ·exact hh
    ·obtain⟨i,_,g2,_⟩:=hk x hx;omega
   ·obtain⟨i',g1,g2,_⟩:=hk x hx;have:a=0∨a=1:=by omega
    rcases this with rfl|rfl <;> omega
   ·rw[← ht k dA];show rd (qY (qY d.base y) (nat l0)) k=_;have hin:∀x∈l0,0≤x.1∧x.1<(d.base.length:Int):=fun x hx=>by have:=fk hg x hx;rw[h1];exact⟨by omega,this.2.1⟩
    rw[nh l0 _ (fun x hx=>by rw[xf];exact hin x hx),nh l0 _ hin];refine wZ l0 _ _ (fun m hm=>jD _ _ _ fun x hx=>?_) k dA;obtain⟨i,g1,g2,_⟩:=hk x hx;have:(1-a)*72≤72:=by omega
    omega
  have new:∀y:List (Nat × Bt),(∀x∈y,x∈nat l)→RJ N (over tgt l) (mk d (qY b2 y,[]) true 0):=fun y hy =>
   ⟨rfl,rfl,hro,RB.part (tgt:=over tgt l) q1 q2 q3 q4 (fun k hk=>by rw[q5 k hk];exact hov k hk) y hy⟩
  have qdc:∀(m:List Wr) (x:Nat × Bt),x∈stay (nat (m.take j)) keep→x∈nat m:=fun m x hx=>by
   obtain⟨z,hz,rfl⟩:=wX (oa _ _ _ hx);exact List.mem_map.2 ⟨z,List.mem_of_mem_take hz,rfl⟩
  have hnil:∀q:List (List Wr),q=[]→stay (nat (q.flatten.take j)) keep=[]:=fun q hq=>by subst hq;simp[nat,stay]
  show RJ N tgt (mk d (qY (qY d.base (nat pre.flatten)) (stay (nat (q.flatten.take j)) keep),[]) true 0)∨RJ N (over tgt l) (mk d (qY (qY d.base (nat pre.flatten)) (stay (nat (q.flatten.take j)) keep),[]) true 0);unfold yV at e1
  match pre,e1 with
  | [],e1 =>
   left
   have hq':q=[]∨q=[lay (1-a) (qK (zm l))]:=by
    rcases hq with hq|⟨y,rfl⟩
    ·exact .inl hq
    ·simp at e1;exact .inr (by rw[e1.1])
   refine old _ fun x hx=>?_;rcases hq' with rfl|rfl
   ·rw[hnil [] rfl]at hx;cases hx
   ·have:=qdc _ x hx;simpa using this
  | [p1],e1 =>
   have hp1:p1=lay (1-a) (qK (zm l)):=by simp at e1;exact e1.1.symm
   subst hp1;have hq':q=[]∨q=[[(0,kQ (1-a) (qK (zm l)).length)]]:=by
    rcases hq with hq|⟨y,rfl⟩
    ·exact .inl hq
    ·simp at e1;exact .inr (by rw[e1.1])
   have hst:stay (nat (q.flatten.take j)) keep=[]∨stay (nat (q.flatten.take j)) keep=nat [(0,kQ (1-a) (qK (zm l)).length)]:=by
    rcases hq' with rfl|rfl
    ·exact .inl (hnil [] rfl)
    ·match j with
     | 0=>exact .inl (by simp[nat,stay])
     | j+1 =>
      match keep with
      | []=>exact .inl (qmS _)
      | true::_=>exact .inr (by simp[nat,stay])
      | false::_=>exact .inl (by simp[nat,stay])
   rcases hst with hst|hst
   ·left
    rw[hst];have:=old (nat (lay (1-a) (qK (zm l)))) (fun x hx=>hx);simpa[qY]using this
   ·right
    rw[hst];have:=new [] (fun x hx=>by cases hx);rw[e2,show nat (lay (1-a) (qK (zm l))++[(0,kQ (1-a) (qK (zm l)).length)])=nat (lay (1-a) (qK (zm l)))++nat [(0,kQ (1-a) (qK (zm l)).length)]from List.map_append,jC]at this;simpa[qY]using this
  | [p1,p2],e1 =>
   right
   have hp1:p1=lay (1-a) (qK (zm l))∧p2=[(0,kQ (1-a) (qK (zm l)).length)]:=by simp at e1;exact⟨e1.1.symm,e1.2.1.symm⟩
   obtain⟨rfl,rfl⟩:=hp1;have hq':q=[]∨q=[l]:=by
    rcases hq with hq|⟨y,rfl⟩
    ·exact .inl hq
    ·simp at e1;exact .inr (by rw[e1.1])
   have e5:qY d.base (nat [lay (1-a) (qK (zm l)),[(0,kQ (1-a) (qK (zm l)).length)]].flatten)=b2:=by rw[e2];simp
   rw[e5];refine new _ fun x hx=>?_;rcases hq' with rfl|rfl
   ·rw[hnil [] rfl]at hx;cases hx
   ·have:=qdc _ x hx;simpa using this
  | [p1,p2,p3],e1 =>
   right
   have hp1:p1=lay (1-a) (qK (zm l))∧p2=[(0,kQ (1-a) (qK (zm l)).length)]∧p3=l∧q=[]:=by
    simp at e1;exact⟨e1.1.symm,e1.2.1.symm,e1.2.2.1.symm,e1.2.2.2.1⟩
   obtain⟨rfl,rfl,rfl,rfl⟩:=hp1;rw[hnil [] rfl];have e5:qY d.base (nat [lay (1-a) (qK (zm p3)),[(0,kQ (1-a) (qK (zm p3)).length)],p3].flatten)=qY b2 (nat p3):=by rw[e2,← jC];simp[nat]
   rw[e5];have:=new (nat p3) (fun x hx=>hx);simpa[qY]using this
  | p1::p2::p3::p4::r,e1=>simp at e1
end
end Go.Proofs.YtdpbdkacngaemaaGreatDoor.jr
namespace Go.Proofs.YtdpbdkacngaemaaGreatDoor.sp
open _root_.Go.Proofs.Tryz Go Go.RowKit
def bump (cs:List Int)(k:Nat):List Int:=cs.set k (wrap64 (cs.getD k 0+1))
def kV (n:Int):List Int→List Int→Option (List Int)
 | cs,[]=>some cs
 | cs,k::r=>if k=0 then kV n cs r else if k<193∨n≤k then none else kV n (bump cs k.toNat) r
def yX (zT:List (List Int))(n:Int):List Int × Int :=
 if n<0∨1024<n then([],2)else match kV n (List.replicate n.toNat 0) zT.flatten with
  | none=>([],2)
  | some cs=>(cs,0)
def qV (cs:List Int)(i:Nat):List Int:=((List.range i).filter fun j=>decide (193≤j)&&decide (cs.getD j 0=0)).map fun(j:Nat)=>(j:Int)
def yr (cs:List Int):Nat:=(qV cs cs.length).length
def jn (cs:List Int)(n:Int):List Int × Int :=
 if n<0 then([],2)else if (yr cs:Int)<n then([],7)else((qV cs cs.length).take n.toNat,0)
theorem fu (cs:List Int)(k:Nat):(bump cs k).length=cs.length:=by simp[bump]
theorem fx {n:Int}:∀ {l cs cs':List Int},kV n cs l=some cs'→cs'.length=cs.length
 | [],cs,cs',h=>by simp only[kV,Option.some.injEq]at h;rw[h]
 | k::r,cs,cs',h=>by
  unfold kV at h;split at h
  ·exact fx h
  ·split at h
   ·cases h
   ·rw[fx h,fu]
theorem aS (n:Int)(cs:List Int)(k:Int)(r:List Int):kV n cs (k::r)=if k=0 then kV n cs r else if k<193∨n≤k then none else kV n (bump cs k.toNat) r:=rfl
theorem vq {n:Int}:∀(a b cs:List Int),kV n cs (a++b)=(kV n cs a).bind fun c=>kV n c b
 | [],b,cs=>rfl
 | k::r,b,cs=>by
  show kV n cs (k::(r++b))=_;rw[aS,aS];split
  ·exact vq r b cs
  ·split
   ·rfl
   ·exact vq r b _
theorem qjs{n:Int}{a cs c:List Int}(h:kV n cs a=some c)(k:Int):kV n cs (a++[k])=if k=0 then some c else if k<193∨n≤k then none else some (bump c k.toNat):=by
 rw[vq,h];rfl
theorem qjt{n:Int}{a cs:List Int}(h:kV n cs a=none)(b:List Int):kV n cs (a++b)=none:=by
 rw[vq,h];rfl
theorem qfM(cs:List Int):qV cs 0=[]:=rfl
theorem yY (cs:List Int)(i:Nat)(h:i≤193):qV cs i=[]:=by
 unfold qV;rw[List.map_eq_nil_iff,List.filter_eq_nil_iff];intro j hj;rw[List.mem_range]at hj;simp;omega
theorem cz (cs:List Int)(i:Nat):qV cs (i+1)=qV cs i++(if 193≤i∧cs.getD i 0=0 then[(i:Int)]else[]):=by
 unfold qV;rw[List.range_succ,List.filter_append,List.map_append]
 congr 1
 by_cases h1:193≤i
 ·by_cases h2:cs.getD i 0=0
  ·rw[if_pos ⟨h1,h2⟩,List.filter_cons_of_pos (by rw[decide_eq_true h1,decide_eq_true h2];rfl)];rfl
  ·rw[if_neg (fun h=>h2 h.2),List.filter_cons_of_neg (by rw[decide_eq_false h2,Bool.and_false];decide)];rfl
 ·rw[if_neg (fun h=>h1 h.1),List.filter_cons_of_neg (by rw[decide_eq_false h1,Bool.false_and];decide)];rfl
theorem qju(cs:List Int)(i:Nat):(qV cs i).length≤i:=by
 unfold qV;rw[List.length_map];exact Nat.le_trans (List.length_filter_le _ _) (by simp)
theorem iO (cs:List Int):∀(i j:Nat),i≤j→∃r,qV cs j=qV cs i++r
 | i,0,h=>by
  obtain rfl:i=0:=by omega
  exact⟨[],by simp⟩
 | i,j+1,h=>by
  by_cases e:i=j+1
  ·subst e;exact⟨[],by simp⟩
  ·obtain⟨r,hr⟩:=iO cs i j (by omega);exact⟨r++_,by rw[cz,hr,List.append_assoc]⟩
theorem iP {cs:List Int}{i:Nat}{z:Int}:z∈qV cs i ↔ ∃j:Nat,z=(j:Int)∧j<i∧193≤j∧cs.getD j 0=0:=by
 unfold qV;simp only[List.mem_map,List.mem_filter,List.mem_range,Bool.and_eq_true,decide_eq_true_eq];constructor
 ·rintro⟨j,⟨h1,h2,h3⟩,rfl⟩;exact⟨j,rfl,h1,h2,h3⟩
 ·rintro⟨j,rfl,h1,h2,h3⟩;exact⟨j,⟨h1,h2,h3⟩,rfl⟩
theorem oJ (cs:List Int)(i:Nat):(qV cs i).Pairwise (· < ·):=by
 unfold qV;rw[List.pairwise_map];refine List.Pairwise.imp (R:=fun(a b:Nat)=>a<b) (fun h=>by omega) ?_;exact(List.pairwise_lt_range).filter _
theorem qjv(cs:List Int)(k:Nat)(h:k<cs.length)(h0:cs.getD k 0=0):(bump cs k).getD k 0=1:=by
 unfold bump;rw[h0];simp[List.getD,h];first
  | rfl
  | (unfold wrap64;omega)
theorem cB (cs:List Int)(k j:Nat)(h:j≠k):(bump cs k).getD j 0=cs.getD j 0:=by
 unfold bump;simp[List.getD,List.getElem?_set_ne (Ne.symm h)]
theorem yM (cs:List Int)(i:Nat):(qV cs (i+1)).length=(qV cs i).length+if 193≤i∧cs.getD i 0=0 then 1 else 0:=by
 rw[cz,List.length_append];split <;> rfl
theorem oK (cs:List Int)(k:Nat)(h:k<cs.length)(h1:193≤k)(h0:cs.getD k 0=0):∀i,(qV (bump cs k) i).length+(if k<i then 1 else 0)=(qV cs i).length
 | 0=>by simp[qfM]
 | i+1=>by
  have ih:=oK cs k h h1 h0 i;rw[yM,yM];by_cases e:i=k
  ·subst e;rw[qjv cs i h h0,h0];split at ih <;> split <;> split <;> split <;> omega
  ·rw[cB cs k i e];split at ih <;> split <;> split <;> omega
def bnd (M:Nat)(cs:List Int):Prop:=∀z∈cs,0≤z∧z≤(M:Int)
end Go.Proofs.YtdpbdkacngaemaaGreatDoor.sp
namespace Go.Proofs.YtdpbdkacngaemaaGreatDoor.ch
open _root_.Go.Proofs.Tryz Go Go.RowKit ib
abbrev Gd:=Nat × Nat
structure Sn where
 g:Gd
 bs:List Bt
 hid:Bool
structure CH where
 live:List Bt
 qc:List Sn
def above (a b:Gd):Bool:=decide (b.1<a.1) || (decide (a.1=b.1)&&decide (b.2<a.2))
def CH.last(c:CH):Gd:=match c.qc.getLast? with
 | none=>(0,0)
 | some s=>s.g
def uM (n:Nat):List Bt:=List.replicate n zz
def CH.base(c:CH):List Bt:=match c.qc.getLast? with
 | none=>uM c.live.length
 | some s=>s.bs
def bJ (n:Nat):CH:=⟨uM n,[]⟩
def CH.may (c:CH)(g:Gd):Int:=if above g c.last then(if 20≤c.qc.length then 3 else 0)else 2
def CH.write(c:CH)(k:Int)(s:Bt):CH × Int:=if k<0∨(c.live.length:Int)≤k∨s.length≠32 then(c,2)else(⟨c.live.set k.toNat s,c.qc⟩,0)
def CH.snap(c:CH)(g:Gd):CH × Int:=if c.may g=0 then(⟨c.live,c.qc++[⟨g,c.live,false⟩]⟩,0)else(c,c.may g)
def cD:List Bt→Int→List (Int × Bt)→Option (List Bt)
 | l,_,[]=>some l
 | l,p,(k,s)::r=>if k≤p∨(l.length:Int)≤k∨s.length≠32 then none else cD (l.set k.toNat s) k r
def CH.add (c:CH)(g:Gd)(x:List (Int × Bt)):CH × Int :=
 if c.may g=0 then(match cD c.base (-1) x with
  | none=>(c,2)
  | some l=>(⟨l,c.qc++[⟨g,l,false⟩]⟩,0))else(c,c.may g)
def CH.find(c:CH)(g:Gd):Option Nat:=c.qc.findIdx? fun s=>decide (s.g=g)
def kW (l:List Sn)(i:Nat):List Sn:=l.modify i fun s=>{ s with hid:=true }
def CH.qno (c:CH)(g:Gd):CH × Int:=match c.find g with
 | none=>(c,5)
 | some i=>match c.qc[i]? with
  | none=>(c,5)
  | some s=>if s.hid then(c,14)else(⟨c.live,kW c.qc i⟩,0)
def CH.list(c:CH):List Gd:=c.qc.map (·.g)
def CH.read(c:CH)(g:Gd):List Bt × Int:=match c.find g with
 | none=>([],5)
 | some i=>match c.qc[i]? with
  | none=>([],5)
  | some s=>if s.hid then([],14)else(s.bs,0)
def wC (p q:List Bt):List (Int × Bt):=(List.range q.length).filterMap fun i=>if q.getD i []=p.getD i []then none else some ((i:Int),q.getD i [])
def CH.tX (c:CH)(k:Nat):List Bt:=match c.qc[k]? with
 | none=>[]
 | some s=>s.bs
def CH.prev(c:CH)(k:Nat):List Bt:=if k=0 then uM c.live.length else c.tX (k-1)
def CH.changes(c:CH)(k:Int):List (Int × Bt) × Int:=if k<0∨(c.qc.length:Int)≤k then([],5)else(wC (c.prev k.toNat) (c.tX k.toNat),0)
def qT (n:Nat)(l:List Bt):Prop:=l.length=n∧∀v∈l,v.length=32
structure CH.ok(c:CH):Prop where
 live:qT c.live.length c.live
 n1:1≤c.live.length
 n8:c.live.length≤8
 qc:∀s∈c.qc,qT c.live.length s.bs
 few:c.qc.length≤20
 tx:∀s∈c.qc,s.g.1<18446744073709551616∧s.g.2<18446744073709551616
theorem qbh(n:Nat):qT n (uM n):=⟨by simp[uM],fun v hv=>by rw[List.eq_of_mem_replicate hv];exact ze⟩
theorem qnp{n k:Nat}{l:List Bt}{s:Bt}(h:qT n l)(hs:s.length=32):qT n (l.set k s):=by
 refine⟨by rw[List.length_set];exact h.1,fun v hv=>?_⟩;rcases List.mem_or_eq_of_mem_set hv with h1|h1
 ·exact h.2 v h1
 ·rw[h1];exact hs
theorem qnq{c:CH}{g:Gd}(h:c.may g=0):above g c.last=true∧c.qc.length<20:=by
 unfold CH.may at h;split at h
 ·split at h
  ·cases h
  ·exact⟨by assumption,by omega⟩
 ·cases h
theorem qjw(l:List Bt)(ss:List Sn)(s:Sn):(⟨l,ss++[s]⟩:CH).last=s.g:=by
 unfold CH.last;simp
end Go.Proofs.YtdpbdkacngaemaaGreatDoor.ch
namespace Go.Proofs.YtdpbdkacngaemaaGreatDoor.vt
open _root_.Go.Proofs.Tryz Go Go.RowKit jr mt im sp
abbrev Bt:=List UInt8
abbrev Tg:=Int→Bt
def zb:Bt:=List.replicate 32 0
def eL (t:Tg)(k:Int):Bt:=if k=0 then zb else t k
def volume (t:Tg)(qp:List Int):List Bt:=qp.map (eL t)
def xq (m:Mt):List (List Int):=m.live::m.tok.qp::m.qc.map (·.qp)
def held (m:Mt)(z:Int):Prop:=∃l∈xq m,z∈l
def qd:List Int→List (Int × Bt)→List Int × List Wr
 | _,[]=>([],[])
 | fr,(_,s)::r=>if s=zb then(0::(qd fr r).1,(qd fr r).2)else match fr with
  | []=>(0::(qd [] r).1,(qd [] r).2)
  | f::fr=>(f::(qd fr r).1,(f,s)::(qd fr r).2)
def full (x:List (Int × Bt)):Nat:=(x.filter fun c=>decide (c.2≠zb)).length
def qP (N:Nat)(m:Mt)(x:List (Int × Bt)):(List Int × List Wr) × Int :=
 if (jn (yX (xq m) N).1 (full x)).2=0 then(qd (jn (yX (xq m) N).1 (full x)).1 x,0)else(([],[]),(jn (yX (xq m) N).1 (full x)).2)
def xO (m:Mt):List Bt:=qK (zA m)
def xd (t:Tg):Nat→List Bt→List Wr
 | _,[]=>[]
 | o,s::r=>(if t (o:Int)=s then[]else[((o:Int),s)])++xd t (o+1) r
def qhL (t:Tg)(m:Mt):List Wr:=xd t 145 (xO m)
def qL (t:Tg)(m:Mt)(ws:List Wr):List Wr:=qhL t m++ws
structure qfN where
 code:Int
 m:Mt
 ws:List Wr
def qE (m:Mt):Gd:=match m.qc.getLast? with
 | none=>(0,0)
 | some s=>s.g
def uN (m:Mt):List Int:=match m.qc.getLast? with
 | none=>List.replicate m.live.length 0
 | some s=>s.qp
def x9:List Int→List (Int × Bt)→List Int→List Int
 | l,[],_=>l
 | l,_::_,[]=>l
 | l,(k,_)::r,a::at_=>x9 (l.set k.toNat a) r at_
def tY (m:Mt)(g:Gd):Option Nat:=m.qc.findIdx? fun s=>decide (s.g=g)
def gO (l:List Sp)(i:Nat):List Sp:=l.modify i fun s=>{ s with hid:=true }
def qnr (m:Mt)(g:Gd):qfN:=match tY m g with
 | none=>⟨5,m,[]⟩
 | some i=>match m.qc[i]? with
  | none=>⟨5,m,[]⟩
  | some s=>if s.hid then⟨14,m,[]⟩else⟨0,{ m with qc:=gO m.qc i },[]⟩
def xw (b:Nat):Int→List (Int × Bt)→Bool
 | _,[]=>true
 | p,(k,s)::r=>decide (p<k)&&decide (k<(b:Int))&&decide (s.length=32)&&xw b k r
structure Tf where
 base:Gd
 target:Gd
 next:Int
 all:Int
def tf (t:Tk):Tf:=⟨t.base,t.target,t.next,t.all⟩
def zK (b:Nat)(n:Nat)(last:Gd)(t:Tf)(x:List (Int × Bt)):Int :=
 if t.base≠last∨mt.above t.target last=false∨t.all<0∨(b:Int)<t.all∨t.next<0∨t.all<t.next∨¬ (t.next=0↔t.all=0)then 2
 else if xw b (-1) x=false then 2
 else if t.next=t.all∧20≤n then 3 else 0
def xr (N:Nat)(m:Mt)(t:Tf)(x:List (Int × Bt)):qfN :=
 if zK m.live.length m.qc.length (qE m) t x≠0 then⟨zK m.live.length m.qc.length (qE m) t x,m,[]⟩
 else if (qP N m x).2≠0 then⟨(qP N m x).2,m,[]⟩
 else
  let qp:=x9 (if m.tok.base=t.base∧m.tok.target=t.target∧m.tok.all=t.all then m.tok.qp else uN m) x (qP N m x).1.1
  if t.next=t.all then⟨0,⟨qp,m.qc++[⟨t.target,qp,false⟩],yB⟩,(qP N m x).1.2⟩
  else⟨0,{ m with tok:=⟨t.base,t.target,t.next,t.all,qp⟩ },(qP N m x).1.2⟩
def qbi (t:Tg)(s:Sp):ch.Sn:=⟨s.g,volume t s.qp,s.hid⟩
def uh (t:Tg)(m:Mt):ch.CH:=⟨volume t m.live,m.qc.map (qbi t)⟩
def jO (b N:Nat)(l:List Int):Prop:=l.length=b∧(∀z∈l,z=0∨(193≤z∧z<(N:Int)))∧∀i j,i<j→j<l.length→pl l i=pl l j→pl l i=0
def uO:Gd→List Gd→Prop
 | _,[]=>True
 | p,g::r=>mt.above g p=true∧uO g r
structure jI(b N:Nat)(m:Mt):Prop where
 b1:1≤b
 b8:b≤8
 live:jO b N m.live
 few:m.qc.length≤20
 dC:∀s∈m.qc,jO b N s.qp
 qjx:uO (0,0) (m.qc.map (·.g))
 tok:m.tok=yB∨(m.tok.base=qE m∧mt.above m.tok.target m.tok.base=true∧1≤m.tok.next∧m.tok.next<m.tok.all∧m.tok.all≤(b:Int)∧jO b N m.tok.qp)
 tx:mB m
theorem qns{l:List Int}(h:∀i j,i<j→j<l.length→pl l i=pl l j→pl l i=0):yz l l.length=false:=by
 cases hd:yz l l.length with
 | false=>rfl
 | true =>
  exfalso;unfold yz at hd;obtain⟨i,hi,h2⟩:=List.any_eq_true.1 hd;have hi:=List.mem_range.1 hi;simp only[Bool.and_eq_true,decide_eq_true_eq]at h2;obtain⟨h0,h3⟩:=h2;unfold dw at h3;obtain⟨j,hj,h4⟩:=List.any_eq_true.1 h3;have hj:=List.mem_range.1 hj;simp only[decide_eq_true_eq]at h4;have:=h j i hj hi h4.symm;exact h0 (h4.trans this)
theorem jO.check{b N:Nat}{l:List Int}(h:jO b N l)(h1:1≤b)(h8:b≤8):zH l (b:Int) (N:Int)=0:=by
 obtain⟨hl,hz,hd⟩:=h;unfold zH;rw[if_neg (by omega),if_neg,if_neg (by rw[qns hd];decide)];rw[Bool.not_eq_true,List.any_eq_false];intro z hzm;unfold gS;rcases hz z hzm with rfl|⟨ha,hb⟩
 ·simp
 ·simp;omega
theorem jO.mono{b N M:Nat}{l:List Int}(h:jO b N l)(hNM:N≤M):jO b M l:=⟨h.1,fun z hz=>by rcases h.2.1 z hz with h|h;exact .inl h;exact .inr (by omega),h.2.2⟩
theorem jI.mono{b N M:Nat}{m:Mt}(h:jI b N m)(hNM:N≤M):jI b M m :=
 ⟨h.b1,h.b8,h.live.mono hNM,h.few,fun s hs=>(h.dC s hs).mono hNM,h.qjx,by
  rcases h.tok with h|⟨h1,h2,h3,h4,h5,h6⟩
  ·exact .inl h
  ·exact .inr ⟨h1,h2,h3,h4,h5,h6.mono hNM⟩,h.tx⟩
theorem oL {b N:Nat}(h1:1≤b)(h8:b≤8):∀(l:List Sp) (p:Gd),(∀s∈l,jO b N s.qp)→uO p (l.map (·.g))→yc (b:Int) (N:Int) p l=(0,match l.getLast? with
    | none=>p
    | some s=>s.g)
 | [],p,_,_=>rfl
 | s::r,p,hi,hr=>by
  obtain⟨ha,hr2⟩:=hr;have ih:=oL h1 h8 r s.g (fun x hx=>hi x (by simp[hx])) hr2;unfold yc;rw[if_pos ha,if_pos ((hi s (by simp)).check h1 h8),ih];cases r with
  | nil=>rfl
  | cons y r=>rw[List.getLast?_cons_cons];rfl
theorem jI.check{b N:Nat}{m:Mt}(h:jI b N m):xo m (b:Int) (N:Int)=0:=by
 have hs:=oL h.b1 h.b8 m.qc (0,0) h.dC h.qjx;have h4:=h.few;unfold xo;rw[h.live.check h.b1 h.b8,if_neg (by simp),if_neg (by omega),hs];dsimp only;rw[if_neg (by simp)];have e:(match m.qc.getLast? with
  | none=>((0,0):Gd)
  | some s=>s.g)=qE m:=rfl
 rw[e];rcases h.tok with ht|⟨t1,t2,t3,t4,t5,t6⟩
 ·rw[ht];rfl
 ·unfold uw;have hne:m.tok.target≠(0,0):=by
   intro e0;rw[e0]at t2;unfold mt.above at t2;simp at t2
  rw[if_neg hne];have hb:dy m.tok (qE m) (b:Int)=false:=by
   unfold dy;rw[← t1,t2];simp;omega
  rw[hb];simp only[Bool.false_eq_true,if_false];exact t6.check h.b1 h.b8
theorem jI.len{b N:Nat}{m:Mt}(h:jI b N m):m.live.length=b:=h.live.1
theorem cE {z:Int}(h:z<65536):(xI z).length≤3:=yL _ (by omega)
theorem lW:∀ {l:List Int},(∀z∈l,z<65536)→(zq l).length≤3*l.length
 | [],_=>by simp[zq]
 | z::l,h=>by
  have ih:=lW (l:=l) (fun y hy=>h y (by simp[hy]));have h1:=cE (h z (by simp));show(xI z++zq l).length≤_;rw[List.length_append,List.length_cons];omega
theorem jO.small{b N:Nat}{l:List Int}(h:jO b N l)(hN:N≤1024)(h8:b≤8):(zq l).length≤24:=by
 have:=lW (l:=l) (fun z hz=>by rcases h.2.1 z hz with h|h <;> omega);have:=h.1;omega
theorem oM {b N:Nat}(hN:N≤1024)(h8:b≤8):∀ {l:List Sp},(∀s∈l,jO b N s.qp)→(jh l).length≤45*l.length
 | [],_=>by simp[jh]
 | s::l,h=>by
  have ih:=oM hN h8 (l:=l) (fun y hy=>h y (by simp[hy]));have h1:=(h s (by simp)).small hN h8;have g1:=jr.qx s.g.1;have g2:=jr.qx s.g.2;have g3:=yL (if s.hid then 1 else 0) (by split <;> omega);show(spB s++jh l).length≤_;rw[List.length_append,List.length_cons];unfold spB jS;simp only[List.length_append];omega
theorem jI.size{b N:Nat}{m:Mt}(h:jI b N m)(hN:N≤1024):(zA m).length≤999:=by
 have h1:=h.live.small hN h.b8;have h2:=oM hN h.b8 h.dC;have h3:=yL m.live.length (by have:=h.len;have:=h.b8;omega);have h4:=yL m.qc.length (by have:=h.few;omega);have h5:(tkB m.tok).length≤69:=by
  rcases h.tok with ht|⟨t1,t2,t3,t4,t5,t6⟩
  ·rw[ht];decide
  ·unfold tkB;split
   ·have:=yL 0 (by omega);omega
   ·have g1:=jr.qx m.tok.base.1;have g2:=jr.qx m.tok.base.2;have g3:=jr.qx m.tok.target.1;have g4:=jr.qx m.tok.target.2;have g5:=yL 1 (by omega);have hb:=h.b8;have g6:=cE (z:=m.tok.next) (by omega);have g7:=cE (z:=m.tok.all) (by omega);have g8:=t6.small hN h.b8;unfold jS;simp only[List.length_append];omega
 have h6:=h.few;unfold zA;simp only[List.length_append];omega
theorem jI.enc{b N:Nat}{m:Mt}(h:jI b N m)(hN:N≤1024):gU m=(zA m,0):=by
 have hs:=h.size hN;have hc:xo m (b:Int) (1024:Int)=0:=(h.mono hN).check;have hl:=h.len;unfold gU;rw[hl,hc,if_neg (by simp),if_neg];show ¬ 48<nsec (zA m).length;unfold nsec;omega
theorem jI.back{b N:Nat}{m:Mt}(h:jI b N m)(hN:N≤1024):nE (zA m)=(m,0):=qcp h.tx (h.enc hN)
theorem xW {b N:Nat}{m:Mt}(h:jI b N m)(hN:N≤1024):1≤(xO m).length∧(xO m).length≤48:=by
 have hs:=h.size hN;unfold xO;rw[yf];unfold nsec;omega
theorem qdd(m:Mt):∀s∈xO m,s.length=32:=by
 intro s hs;obtain⟨i,hi,rfl⟩:=List.getElem_of_mem hs;exact aQ _ i hi
end Go.Proofs.YtdpbdkacngaemaaGreatDoor.vt
