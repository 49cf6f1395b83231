/- DkEasy, DkNew, DkFits, DkLose, DkRow, DkApp, DkFit2, DkFit3, DkWrite, DkMore, CPure, FPure, JPure, JRun, JSafe, JSafe2, SpPure, SpMath, ChPure. -/
import Derived.Test.YtdpbdkacngaemaaGreatDoorZR2
import Derived.Laws.CopyRow
import Derived.Deep.RegionLaw
import Derived.Great.BuildSlice
set_option linter.unusedVariables false
set_option linter.unusedSimpArgs false
set_option maxHeartbeats 30000000
set_option maxRecDepth 100000
namespace Go.Proofs.YtdpbdkacngaemaaGreatDoor.dk
open _root_.Go.Proofs.Tryz Go Go.RowKit
section
variable {w:World} {p m:Nat} {v:Value} {d:DD} {own:Nat→Prop}
theorem jQ {t:TypeId}{a b c e f g:Value}(h:qd w p t #[a,b,c,e,f,g]) :
    w.cell? ⟨p,0,none⟩=some a∧w.cell? ⟨p,1,none⟩=some b∧w.cell? ⟨p,2,none⟩=some c∧w.cell? ⟨p,3,none⟩=some e∧w.cell? ⟨p,4,none⟩=some f∧w.cell? ⟨p,5,none⟩=some g :=
 ⟨h.cell 0,h.cell 1,h.cell 2,h.cell 3,h.cell 4,h.cell 5⟩
theorem qaV(h:uL w own p m v d) :
    Calls prog 43 #[.pointer (some ⟨p,0,none⟩)] w fun e w'=>e=.returned (.int .i64 (d.n:Int))∧w=w':=by
 obtain⟨c0,c1,c2,c3,c4,c5⟩:=jQ h.1;clear h c1 c2 c3 c4 c5;go_enter func43,ntmps43;go_wp2;go_ret;exact⟨rfl,rfl⟩
theorem qf8(h:uL w own p m v d) :
    Calls prog 39 #[.pointer (some ⟨p,0,none⟩)] w fun e w'=>e=.returned (.bool d.on)∧w=w':=by
 obtain⟨c0,c1,c2,c3,c4,c5⟩:=jQ h.1;clear h c1 c2 c3 c0 c5;go_enter func39,ntmps39;go_wp2;go_ret;exact⟨rfl,rfl⟩
theorem kD (h:uL w own p m v d)(k:Int) :
    Calls prog 197 #[.pointer (some ⟨p,0,none⟩),.int .i64 k] w fun e w'=>e=.returned (.bool (d.has k))∧w=w':=by
 obtain⟨c0,c1,c2,c3,c4,c5⟩:=jQ h.1;clear h c1 c2 c3 c4 c5;have H:Hid (d.has k=(decide (0≤k)&&decide (k<(d.n:Int)))):=rfl;generalize d.has k=q at *;generalize (d.n:Int)=n at *;by_cases h0:0≤k
 ·by_cases h1:k<n
  ·have hq:q=true:=by rw[H.out];simp[h0,h1]
   clear H;subst hq;go_enter func197,ntmps197;go_wp2;go_ret;exact⟨rfl,rfl⟩
  ·have hq:q=false:=by rw[H.out];simp[h1]
   have h1':n≤k:=by omega
   clear H;subst hq;go_enter func197,ntmps197;go_wp2;go_ret;exact⟨rfl,rfl⟩
 ·have hq:q=false:=by rw[H.out];simp[h0]
  have h0':k<0:=by omega
  clear H;subst hq;go_enter func197,ntmps197;go_wp2;go_ret;exact⟨rfl,rfl⟩
theorem uL.turn{w':World}{d':DD}(h:uL w own p m v d)(hb:d'.base=d.base)(hm:d'.more=d.more)
    (hk:qd w' p 88 #[.int .i64 (d'.n:Int),.int .i64 d'.room,.map (some m),v,.bool d'.on,.int .i64 d'.qz]) (hs:w.heap.size≤w'.heap.size) (hr:∀k,k<w.heap.size→k≠p→w'.heap[k]?=w.heap[k]?):uL w' own p m v d':=by
 obtain⟨hpm,hv⟩:=h.ne;obtain⟨h1,h2,h3,hp,hm',hvo,hl⟩:=h;refine⟨hk,?_,?_,hp,hm',hvo,fun k hk=>Nat.lt_of_lt_of_le (hl k hk) hs⟩
 ·have:d'.now=d.now:=by unfold DD.now;rw[hb,hm]
  rw[this];exact h2.of_block (hr _ (hl _ hm') (fun e=>hpm e.symm))
 ·rw[hb,hm];exact zt h3 (fun k hk=>hr k (hl k (hvo k hk)) (hv k hk).1)
theorem zV (w:World)(p i:Nat)(u:Value)(k:Nat)(h:k≠p):(w.setCell ⟨p,i,none⟩ u).heap[k]?=w.heap[k]? :=Below.heap_setCell _ _ _ _ h
theorem size_set(w:World)(p:Addr)(u:Value):(w.setCell p u).heap.size=w.heap.size:=by simp[World.setCell]
theorem qhG{most:Nat}(h:zK most w own p d) :
    Calls prog 20 #[.pointer (some ⟨p,0,none⟩)] w (xj most own p d.off (.tuple #[]) w):=by
 obtain⟨h0,m,v,h1⟩:=h;have H:=QH h1;have H0:=QH h0;obtain⟨c0,c1,c2,c3,c4,c5⟩:=jQ h1.1;have f4:=h1.1.frozen 4;have f5:=h1.1.frozen 5;clear h1 h0;go_enter func20,ntmps20;go_wp2
 go_end0
 refine⟨rfl,own,⟨{ H0.out with qcE:=Int.le_refl _,qcF:=(by show(0:Int)≤_;omega) },m,v,?_⟩,((qB.refl _ _).setCell _ _ (.inl H.out.2.2.2.1)).setCell _ _ (.inl H.out.2.2.2.1),ub.refl _ _⟩;refine H.out.turn (d':=d.off) rfl rfl ((H.out.1.qo 4 _).qo 5 _) (by simp[size_set]) (fun k _ hk=>?_);rw[zV _ _ _ _ _ hk,zV _ _ _ _ _ hk]
theorem qhH{most:Nat}(h:zK most w own p d)(n:Int)(hn:n≤9223372036854775807) :
    Calls prog 18 #[.pointer (some ⟨p,0,none⟩),.int .i64 n] w (xj most own p (d.arm n) (.tuple #[]) w):=by
 obtain⟨h0,m,v,h1⟩:=h;have H:=QH h1;have H0:=QH h0;have f1:=h1.1.frozen 5;obtain⟨c0,c1,c2,c3,c4,c5⟩:=jQ h1.1;clear h1 h0;go_enter func18,ntmps18;go_wp2;all_goals go_end0
 all_goals refine⟨rfl,own,⟨{ H0.out with qcE:=by simp only[DD.arm];omega,qcF:=by simp only[DD.arm];omega },m,v,?_⟩,(qB.refl _ _).setCell _ _ (.inl H.out.2.2.2.1),ub.refl _ _⟩
 all_goals
  refine H.out.turn (d':=d.arm n) rfl rfl ?_ (by simp[size_set]) (fun k _ hk=>zV _ _ _ _ _ hk);simp only[DD.arm,DD.n];first
  | (rw[show max n 0=0 from by omega];exact H.out.1.qo 5 _)
  | (rw[show max n 0=n from by omega];exact H.out.1.qo 5 _)
  | exact H.out.1.qo 5 _
theorem nY {most:Nat}(h:zK most w own p d)(xc:d.on=true) :
    Calls prog 257 #[.pointer (some ⟨p,0,none⟩)] w (xj most own p d.oper (.bool d.oper.on) w):=by
 have hd0:=QH h;obtain⟨h0,m,v,h1⟩:=h;have H:=QH h1;have H0:=QH h0;have f5:=h1.1.frozen 5;obtain⟨c0,c1,c2,c3,c4,c5⟩:=jQ h1.1;have b0:=h0.qcE;have b1:=h0.qcF;rw[xc]at c4;clear h1 h0;by_cases e1:d.qz=1
 ·have hop:d.oper=d.off:=by unfold DD.oper;rw[if_pos e1]
  rw[hop];rw[e1]at c5;have hd1:zK most (w.setCell ⟨p,5,none⟩ (.int .i64 0)) own p { d with qz:=0 } :=
   ⟨{ H0.out with qcE:=Int.le_refl _,qcF:=(by show(0:Int)≤_;omega) },m,v,H.out.turn (d':={ d with qz:=0 }) rfl rfl (H.out.1.qo 5 _) (by simp[size_set]) (fun k _ hk=>zV _ _ _ _ _ hk)⟩
  have qzU:=QH (qhG hd1);have E1:=QH e1;clear e1 hop hd1 b0 b1;go_enter func257,ntmps257;go_wp2_with (go_at_call 20;refine qzU.out.mono ?_);rintro e w2 ⟨rfl,yK,hd2,hb2,hg2⟩;obtain⟨_,m2,v2,h2⟩:=hd2;have HD2:Hid (zK most w2 yK p d.off):=⟨by assumption,m2,v2,h2⟩;obtain⟨g0,g1,g2,g3,g4,g5⟩:=jQ h2.1;clear h2 qzU;go_wp2;go_ret;exact⟨rfl,yK,HD2.out,((qB.refl own w).setCell _ _ (.inl H.out.2.2.2.1)).trans hb2 (fun i h=>.inl h),fun k hk=>by
   rcases hg2 k hk with h|h
   ·exact .inl h
   ·rw[size_set]at h;exact .inr h⟩
 ·by_cases e2:1<d.qz
  ·have hop:d.oper={ d with qz:=d.qz-1 }:=by unfold DD.oper;rw[if_neg e1,if_pos e2]
   rw[hop];have e0:0<d.qz:=by omega
   have e3:((d.qz-1:Int) == 0)=false:=by rw[beq_eq_false_iff_ne];omega
   clear e1;go_enter func257,ntmps257;go_wp2;go_ret;refine⟨(by rw[xc];rfl),own,⟨{ H0.out with qcE:=by simp only;omega,qcF:=by simp only;omega },m,v,?_⟩,(qB.refl _ _).setCell _ _ (.inl H.out.2.2.2.1),ub.refl _ _⟩;refine H.out.turn (d':={ d with qz:=d.qz-1 }) rfl rfl ?_ (by simp[size_set]) (fun k _ hk=>zV _ _ _ _ _ hk);exact H.out.1.qo 5 _
  ·have hop:d.oper=d:=by unfold DD.oper;rw[if_neg e1,if_neg e2]
   rw[hop];have e0:d.qz=0:=by omega
   rw[e0]at c5;clear e1 e2;have E0:=QH e0;clear e0 b0 b1;go_enter func257,ntmps257;go_wp2;go_ret;exact⟨(by rw[xc];rfl),own,hd0.out,qB.refl _ _,ub.refl _ _⟩
end
end Go.Proofs.YtdpbdkacngaemaaGreatDoor.dk
namespace Go.Proofs.YtdpbdkacngaemaaGreatDoor.dk
open _root_.Go.Proofs.Tryz Go Go.RowKit
def qr0 (most n:Nat)(room:Int)(w:World)(e:Ending)(w':World):Prop :=
 ∃p own,e=.returned (.pointer (some ⟨p,0,none⟩))∧zK most w' own p (DD.new n room)∧Below w.heap.size w w'∧∀k,own k→w.heap.size≤k
theorem wq (most n:Nat)(room:Int)(h0:1≤n)(h1:n≤1024)(r0:0≤room)(r1:room≤9223372036854775807)(w:World) :
    Calls prog 7 #[.int .i64 (n:Int),.int .i64 room] w (qr0 most n room w):=by
 have hmm:=@run_makeMap prog;have i0:¬ (n:Int)<1:=by omega
 have i1:¬ 1024<(n:Int):=by omega
 have i2:¬ room<0:=by omega
 go_enter func7,ntmps7;go_wp2;go_ret;refine⟨w.heap.size+1,fun k=>k=w.heap.size∨k=w.heap.size+1,rfl,⟨⟨?_,?_,r0,r1,Int.le_refl _,by simp[DD.new],Nat.zero_le _,fun _ h=>by simp[DD.new]at h,fun v h=>?_⟩,w.heap.size,.slice none 0 0,?_⟩,((Below.refl _ w).alloc (Nat.le_refl _) _).alloc (by simp) _,fun k h=>by omega⟩
 ·simpa[DD.n,DD.new]using h0
 ·simpa[DD.n,DD.new]using h1
 ·simp[DD.new]at h
 ·refine⟨?_,?_,⟨rfl,.inl ⟨rfl,rfl⟩⟩,.inr rfl,.inl rfl,fun k h=>by simp[Value.ownBlock]at h,fun k h=>by simp;omega⟩
  ·have e:(DD.new n room).n=n:=by simp[DD.n,DD.new]
   rw[e];exact heap_alloc2_new w _ _
  ·exact(zH.made w n).of_block (Below.heap_alloc _ _ _ (by simp))
def wu (r:Bt × Int)(w:World)(e:Ending)(w':World):Prop :=
 e=.returned (.tuple #[.string (str r.1),.int .i64 r.2])∧Below w.heap.size w w'
theorem wQ (P:Bt)(b k:Nat)(t:TypeId)(w:World)(hk:P.length=k)(h:w.heap[b]?=some (.cells (Lib.byteCells P).toArray t (0,0))) :
    (convert 64 9 (.slice (some ⟨b,0,none⟩) k k)).run prog w=.ok (.string (str P)) w:=by
 subst hk;refine run_convert_bytes_back (P:=prog) w 64 9 5 ⟨b,0,none⟩ P.length P underlying64 underlying5 underlying9 ?_;intro j hj;rw[addr_add,Nat.zero_add,cell_of_row w b j _ _ _ h];simp[Lib.byteCells,hj]
section
variable {w:World} {p m:Nat} {v:Value} {d:DD} {own:Nat→Prop}
theorem qcK(h:uL w own p m v d)(xc:d.on=false)(k:Int) :
    Calls prog 122 #[.pointer (some ⟨p,0,none⟩),.int .i64 k] w (wu ([],6) w):=by
 obtain⟨c0,c1,c2,c3,c4,c5⟩:=jQ h.1;rw[xc]at c4;clear h c1 c2 c3 c0 c5;go_enter func122,ntmps122;go_wp2;go_ret2;exact⟨rfl,Below.refl _ _⟩
theorem qcL(h:uL w own p m v d)(xc:d.on=true)(k:Int)(hh:d.has k=false) :
    Calls prog 122 #[.pointer (some ⟨p,0,none⟩),.int .i64 k] w (wu ([],2) w):=by
 have hhas:=kD h k;rw[hh]at hhas;have HH:=QH hhas;obtain⟨c0,c1,c2,c3,c4,c5⟩:=jQ h.1;rw[xc]at c4;clear h c1 c2 c3 c0 c5 hhas xc hh;go_enter func122,ntmps122;go_wp2_with (go_at_call 197;refine HH.out.mono ?_;rintro e w' ⟨rfl,rfl⟩);go_ret2;exact⟨rfl,Below.refl _ _⟩
theorem qhI{most:Nat}(h0:d.ok most)(h:uL w own p m v d)(xc:d.on=true)(k:Int)(hh:d.has k=true) :
    Calls prog 122 #[.pointer (some ⟨p,0,none⟩),.int .i64 k] w (wu ((look d.now k).getD zz,0) w):=by
 have hhas:=kD h k;rw[hh]at hhas;have HH:=QH hhas;have HM:=QH h.2.1;obtain⟨c0,c1,c2,c3,c4,c5⟩:=jQ h.1;rw[xc]at c4;have hk0:0≤k∧k<(d.n:Int):=by simpa[DD.has]using hh
 have hn1:=h0.n1;have hlen:((look d.now k).getD zz).length=32:=by
  cases hx:look d.now k with
  | none=>exact qJ
  | some u=>exact h0.tM hx
 generalize hq:(look d.now k).getD zz=q at *;have HQ:=QH hq;have HK:=QH hk0;have HN:=QH hn1;have tR:=wQ q w.heap.size 32 146 (w.alloc (.cells (Lib.byteCells q).toArray 146)) hlen (heap_alloc_new w _);have tS:(Lib.byteCells q).toArray.size=32:=by simp[Lib.byteCells,hlen]
 have HL:=QH tS;have HC:=QH tR;clear h c1 c3 c0 c5 hhas xc hh hq hk0 hn1 hlen tR tS h0;go_enter func122,ntmps122;go_wp2_with (first|(go_at_call 197;refine HH.out.mono ?_;rintro e w' ⟨rfl,rfl⟩)|(at_lookup;refine qh rfl (qjg _ _ rfl rfl HM.out k rfl (by have:=HK.out;omega) (by have:=HK.out;have:=HN.out;omega)) ?_;rw[HQ.out])|(refine wpList_skip rfl (qZ w 146 _ _ (.tmp 6) (.tmp 26) rfl rfl rfl (by rw[HL.out];exact bX) (by rw[HL.out];rfl) (iJ q)) ?_;have tR:=HC.out));go_ret2;exact⟨rfl,(Below.refl _ _).alloc (Nat.le_refl _) _⟩
end
end Go.Proofs.YtdpbdkacngaemaaGreatDoor.dk
namespace Go.Proofs.YtdpbdkacngaemaaGreatDoor.dk
open _root_.Go.Proofs.Tryz Go Go.RowKit
def yw (w:World)(a:Nat)(acc:List Int):Prop :=
 ∃D:D1,w.ownsMap prog 3 unitElem a (Maps.size D) D∧(∀k:Int,Maps.has D (.int .i64 k)=acc.contains k)∧Maps.size D=acc.length
def ye (acc:List Int)(x:Int):List Int:=if acc.contains x then acc else acc++[x]
theorem yw.lt{w:World}{a:Nat}{acc:List Int}(h:yw w a acc):a<w.heap.size:=by
 obtain⟨D,h1,_⟩:=h;exact h1.lt
theorem yw.of_block{w w':World}{m:Nat}{s:List Int}(h:yw w m s)(hb:w'.heap[m]?=w.heap[m]?):yw w' m s:=by
 obtain⟨D,⟨es,clock,h1,h2⟩,h3⟩:=h;exact⟨D,⟨es,clock,hb.trans h1,h2⟩,h3⟩
theorem yw.made(w:World):yw (w.alloc (.map #[] 0)) w.heap.size [] :=
 ⟨.map [],World.ownsMap_made w prog 3 unitElem,fun _=>rfl,rfl⟩
theorem yw.len{w:World}{a:Nat}{acc:List Int}(h:yw w a acc)(ty:TypeId):(Builtin.len_ #[261] ty #[.map (some a)]).run prog w=.ok (.int .i64 (acc.length:Int)) w:=by
 obtain⟨D,hown,_,hc⟩:=h;rw[← hc];exact hown.len underlying261 ty
theorem yw.store{w:World}{a:Nat}{acc:List Int}(h:yw w a acc)(k:Int)(k0 : -9223372036854775808≤k)(k1:k≤9223372036854775807)(hl:acc.length<maxLen) :
    ∃w',(Instr.mapUpdate 261 (.map (some a)) (.int .i64 k) (.agg #[])).run prog w=.ok () w'∧yw w' a (ye acc k)∧w.mapTurned w' a:=by
 obtain⟨D,hown,hh,hc⟩:=h;have hkey:=Go.Maps.keyOf_int_mk (P:=prog) (k:=3) underlying3 (qry k k0 k1);have hti:=hown.tidy keyed;obtain⟨w',hrun,r1,r2⟩:=hown.store keyed underlying261 (by omega) hkey unitElem_mk;refine⟨w',hrun,⟨_,iI r1,?_,?_⟩,r2⟩
 ·intro j;by_cases e:j=k
  ·subst e;rw[Maps.has_put_same hti.isMap (qf7 _)];unfold ye;split
   ·exact(by assumption:acc.contains j=true).symm
   ·simp
  ·rw[Maps.has_put_other (nW e),hh];unfold ye;split
   ·rfl
   ·simp[e]
 ·rw[Maps.size_put hti,hh,hc];unfold ye;split <;> simp
theorem eN {ρ:Operand→Value}{o:Oper}{w:World}{b:Nat}{s:List Int}(x:Operand)(ho:o.op=.call { callee:=.builtin .len,args:=#[x],argTypes:=#[261] })(hx:ρ x=.map (some b))(h:yw w b s) :
    (execOp ρ o).run prog w=.ok (.value (.int .i64 (s.length:Int))) w:=by
 simp[execOp,ho,resolve,invoke,builtin,hx,h.len o.type,Result.andThen]
theorem wx {ops:Array Oper}{rest:List Oper}{o:Oper}{a:Act}{w:World}{Q:Exit→Act→World→Prop}{b:Nat}{s:List Int}(hg:o.guard=none)(x y z:Operand)(ho:o.op=.mapUpdate 261 x y z)(hx:a.eval x=.map (some b))(h:yw w b s)
    (k:Int) (hy:a.eval y=.int .i64 k) (hz:a.eval z=.agg #[]) (k0 : -9223372036854775808≤k) (k1:k≤9223372036854775807) (hl:s.length<maxLen)
    (hK:∀w',yw w' b (ye s k)→w.mapTurned w' b→wpList prog ops Q rest (a.put o.dst undef) w'):wpList prog ops Q (o::rest) a w:=by
 refine wpList_plain hg fun K' hK'=>?_;obtain⟨w',hrun,r1,r2⟩:=h.store k k0 k1 hl;unfold Oper.wp;simp[execOp,ho,hx,hy,hz,hrun,Result.andThen];exact hK' _ _ (hK w' r1 r2)
structure Env(w:World)(p B1 B4 B3 a:Nat)(free:Int)(acc:List Int):Prop where
 b1:qd w B1 23 #[.pointer (some ⟨p,0,none⟩)]
 b4:qd w B4 261 #[.map (some a)]
 b3:qd w B3 3 #[.int .i64 free]
 qo:yw w a acc
def ask (d:DD)(acc:List Int)(x:Int):Bool × List Int :=
 if d.has x=false then(false,acc)
 else if (look d.now x).isSome then(true,acc)
 else(decide (((ye acc x).length:Int)≤d.room-(d.used:Int)),ye acc x)
def mU (r:Bool × List Int)(a:Nat)(w:World)(e:Ending)(w':World):Prop :=
 e=.returned (.bool r.1)∧yw w' a r.2∧qB (fun k=>k=a) w w'
section
variable {w:World} {p m:Nat} {v:Value} {d:DD} {own:Nat→Prop} {B1 B4 B3 a:Nat} {acc:List Int}
theorem qr1(h:uL w own p m v d)(he:Env w p B1 B4 B3 a (d.room-(d.used:Int)) acc)(x:Int)(hh:d.has x=false) :
    Calls prog 279 #[.int .i64 x,.pointer (some ⟨B1,0,none⟩),.pointer (some ⟨B4,0,none⟩),.pointer (some ⟨B3,0,none⟩)] w (mU (false,acc) a w):=by
 have hhas:=kD h x;rw[hh]at hhas;have HH:=QH hhas;have HE:=QH he;have g1:w.cell? ⟨B1,0,none⟩=some (.pointer (some ⟨p,0,none⟩)):=he.b1.cell 0;clear h he hhas hh;go_enter func279,ntmps279;go_wp2_with (go_at_call 197;refine HH.out.mono ?_;rintro e w' ⟨rfl,rfl⟩);go_ret;exact⟨rfl,HE.out.qo,qB.refl _ _⟩
theorem qr2{most:Nat}(h0:d.ok most)(h:uL w own p m v d)(he:Env w p B1 B4 B3 a (d.room-(d.used:Int)) acc)(x:Int)(hh:d.has x=true)(hs:(look d.now x).isSome=true) :
    Calls prog 279 #[.int .i64 x,.pointer (some ⟨B1,0,none⟩),.pointer (some ⟨B4,0,none⟩),.pointer (some ⟨B3,0,none⟩)] w (mU (true,acc) a w):=by
 have hhas:=kD h x;rw[hh]at hhas;have HH:=QH hhas;have HE:=QH he;have HM:=QH h.2.1;have g1:w.cell? ⟨B1,0,none⟩=some (.pointer (some ⟨p,0,none⟩)):=he.b1.cell 0;have c2:=(jQ h.1).2.2.1;have hk0:0≤x∧x<(d.n:Int):=by simpa[DD.has]using hh
 have HK:=QH hk0;have HN:=QH h0.n1;have hlen:(Lib.byteCells ((look d.now x).getD zz)).toArray.size=32:=by
  simp only[List.size_toArray,Lib.byteCells_length];cases hx:look d.now x with
  | none=>exact qJ
  | some u=>exact h0.tM hx
 have HL:=QH hlen;have HS:=QH hs;have lI:=fun c=>yw.of_block he.qo (Below.heap_alloc w (.cells c 146) a he.qo.lt);have HA:=QH lI;clear h he hhas hh hk0 hlen hs lI h0;go_enter func279,ntmps279;go_wp2_with (first|(go_at_call 197;refine HH.out.mono ?_;rintro e w' ⟨rfl,rfl⟩)|(at_lookup;refine qh rfl (wX _ _ rfl rfl HM.out x rfl (by have:=HK.out;omega) (by have:=HK.out;have:=HN.out;omega)) ?_;rw[HS.out])|(refine wpList_skip rfl (qZ w 146 _ _ (.tmp 6) (.tmp 19) rfl rfl rfl (by rw[HL.out];exact bX) (by rw[HL.out];rfl) (iJ _)) ?_));go_ret;exact⟨rfl,HA.out _,(qB.refl _ _).alloc _⟩
theorem qr3{most:Nat}(h0:d.ok most)(h:uL w own p m v d)(he:Env w p B1 B4 B3 a (d.room-(d.used:Int)) acc)(x:Int)(hh:d.has x=true)(hs:(look d.now x).isSome=false)(hl:acc.length<maxLen) :
    Calls prog 279 #[.int .i64 x,.pointer (some ⟨B1,0,none⟩),.pointer (some ⟨B4,0,none⟩),.pointer (some ⟨B3,0,none⟩)] w (mU (decide (((ye acc x).length:Int)≤d.room-(d.used:Int)),ye acc x) a w):=by
 have hhas:=kD h x;rw[hh]at hhas;have HH:=QH hhas;have HE:=QH he;have HM:=QH h.2.1;have g1:w.cell? ⟨B1,0,none⟩=some (.pointer (some ⟨p,0,none⟩)):=he.b1.cell 0;have g4:w.cell? ⟨B4,0,none⟩=some (.map (some a)):=he.b4.cell 0;have g3:w.cell? ⟨B3,0,none⟩=some (.int .i64 (d.room-(d.used:Int))):=he.b3.cell 0;have l4:=he.b4.lt;have l3:=he.b3.lt;have c2:=(jQ h.1).2.2.1;have hk0:0≤x∧x<(d.n:Int):=by simpa[DD.has]using hh
 have HK:=QH hk0;have HN:=QH h0.n1;have hlen:(Lib.byteCells ((look d.now x).getD zz)).toArray.size=32:=by
  simp only[List.size_toArray,Lib.byteCells_length];cases hx:look d.now x with
  | none=>exact qJ
  | some u=>exact h0.tM hx
 have HL:=QH hlen;have HS:=QH hs;have lI:=fun c=>yw.of_block he.qo (Below.heap_alloc w (.cells c 146) a he.qo.lt);have HA:=QH lI;have HLl:=QH hl;have n43:B4≠a:=by
  rintro rfl;obtain⟨D,⟨es,clock,q,_⟩,_⟩:=he.qo;have:=he.b4;unfold qd at this;rw[q]at this;cases this
 have n33:B3≠a:=by
  rintro rfl;obtain⟨D,⟨es,clock,q,_⟩,_⟩:=he.qo;have:=he.b3;unfold qd at this;rw[q]at this;cases this
 clear h he hhas hh hk0 hlen hs lI h0 hl;generalize qzV:d.room-(d.used:Int)=free at *;clear qzV;go_enter func279,ntmps279;go_wp2_with (first|(go_at_call 197;refine HH.out.mono ?_;rintro e w' ⟨rfl,rfl⟩)|(at_lookup;refine qh rfl (wX _ _ rfl rfl HM.out x rfl (by have:=HK.out;omega) (by have:=HK.out;have:=HN.out;omega)) ?_;rw[HS.out])|(refine wpList_skip rfl (qZ w 146 _ _ (.tmp 6) (.tmp 19) rfl rfl rfl (by rw[HL.out];exact bX) (by rw[HL.out];rfl) (iJ _)) ?_)|(at_mapUpdate;refine wx rfl _ _ _ rfl rfl (HA.out _) x rfl rfl (by have:=HK.out;omega) (by have:=HK.out;have:=HN.out;omega) HLl.out ?_;intro w2 hs2 ht2;have kT:=QH hs2;have qC:=QH (((qB.refl (fun k=>k=a) w).alloc _).trans (yL ht2) (fun _ h=>.inl h));have q4:=((yL ht2).block B4 (by simp;omega) n43).trans (Below.heap_alloc w _ B4 l4);have q3:=((yL ht2).block B3 (by simp;omega) n33).trans (Below.heap_alloc w _ B3 l3);have k4:=(World.cell?_of_block (a:=⟨B4,0,none⟩) q4).trans g4;have k3:=(World.cell?_of_block (a:=⟨B3,0,none⟩) q3).trans g3;clear hs2 ht2 q4 q3)|(at_len;refine qh rfl (eN _ rfl rfl kT.out) ?_));go_ret;exact⟨rfl,kT.out,qC.out⟩
end
end Go.Proofs.YtdpbdkacngaemaaGreatDoor.dk
namespace Go.Proofs.YtdpbdkacngaemaaGreatDoor.dk
open _root_.Go.Proofs.Tryz Go Go.RowKit
structure qtF(cs:Array Value)(x:Nat × Bt × Bt × Bool):Prop where
 size:cs.size=66
 at_:cs[0]?=some (.int .i64 (x.1:Int))
 data:∀j u,(Lib.byteCells x.2.1)[j]?=some u→cs[1+j]?=some u
 before:∀j u,(Lib.byteCells x.2.2.1)[j]?=some u→cs[33+j]?=some u
 written:cs[65]?=some (.bool x.2.2.2)
theorem rowOf(x:Nat × Bt × Bt × Bool)(h1:x.2.1.length=32)(h2:x.2.2.1.length=32):qtF (qg x).toArray x:=by
 have e1:(Lib.byteCells x.2.1).length=32:=by rw[Lib.byteCells_length,h1]
 have e2:(Lib.byteCells x.2.2.1).length=32:=by rw[Lib.byteCells_length,h2]
 refine⟨by simp[qg,e1,e2],rfl,?_,?_,?_⟩
 ·intro j u hu;have hj:j<32:=by rw[← e1];exact(List.getElem?_eq_some_iff.1 hu).1
  simp only[List.getElem?_toArray,qg,Nat.add_comm 1 j,List.getElem?_cons_succ];rw[List.getElem?_append_left (by omega)];exact hu
 ·intro j u hu;have hj:j<32:=by rw[← e2];exact(List.getElem?_eq_some_iff.1 hu).1
  simp only[List.getElem?_toArray,qg,show 33+j=(32+j)+1 by omega,List.getElem?_cons_succ];rw[List.getElem?_append_right (by omega),e1,List.getElem?_append_left (by omega),show 32+j-32=j by omega];exact hu
 ·simp only[List.getElem?_toArray,qg,show 65=64+1 from rfl,List.getElem?_cons_succ];rw[List.getElem?_append_right (by omega),e1,List.getElem?_append_right (by omega),e2];rfl
section
variable {w:World} {p m:Nat}
theorem qmZ(hp:p<w.heap.size)(hc:w.cell? ⟨p,2,none⟩=some (.map (some m))){s:qE}(hm:zH w m s)(x:Nat × Bt × Bt × Bool)(cs:Array Value)(hr:qtF cs x)(hx:x.1<s.length)(hs:s.length≤1024)(hl:x.2.2.1.length=32) :
    Calls prog 75 #[.pointer (some ⟨p,0,none⟩),.agg cs] w fun e w'=>e=.returned (.tuple #[])∧zH w' m (sq s x)∧qB (fun k=>k=m) w w':=by
 obtain⟨k,dat,bef,wr⟩:=x;obtain⟨h66,hat,qzX,qvE,hwr⟩:=hr;simp only at hat qzX qvE hwr hx hl;have HR:=QH qvE;have HM:=QH hm;have HS:=QH hs;have HL:=QH hl;have H66:=QH h66;clear qvE qzX hm hs hl h66;cases wr with
 | true =>
  go_enter func75,ntmps75;go_wp2;refine xe 8 (by kernel_rfl) (by kernel_rfl) ?_;simp only[List.take_succ_cons,List.take_zero,List.drop_succ_cons,List.drop_zero]
  iterate 7 still_step
  refine yE rfl (qF _ _ rfl w.heap.size 33 rfl _ cs (Lib.byteCells bef) _ _ (heap_alloc_new w _) underlying146 rfl (by rw[bX,Lib.byteCells_length,HL.out]) HR.out) ?_;refine wpStill_nil ?_;refine kU rfl _ _ _ rfl rfl (HM.out.of_block (Below.heap_alloc w _ _ HM.out.lt)) k rfl bef rfl hx HS.out ?_;intro w' hm' ht;go_wp2
  go_end0
  exact⟨rfl,hm',((qB.refl _ w).alloc _).drew.trans (yL ht) (fun _ h=>.inl h)⟩
 | false =>
  go_enter func75,ntmps75;go_wp2;refine xe 6 (by kernel_rfl) (by kernel_rfl) ?_;simp only[List.take_succ_cons,List.take_zero,List.drop_succ_cons,List.drop_zero]
  iterate 6 still_step
  refine wpStill_nil ?_;refine nX rfl _ _ rfl rfl (HM.out.of_block (Below.heap_alloc w _ _ HM.out.lt)) k rfl hx HS.out ?_;intro w' hm' ht;go_wp2
  go_end0
  exact⟨rfl,hm',((qB.refl _ w).alloc _).drew.trans (yL ht) (fun _ h=>.inl h)⟩
end
end Go.Proofs.YtdpbdkacngaemaaGreatDoor.dk
namespace Go.Proofs.YtdpbdkacngaemaaGreatDoor.dk
open _root_.Go.Proofs.Tryz Go Go.RowKit
theorem qhJ:(prog.info? 148).map (fun i=>(i.zero,i.size))=some (some (.agg (qg (0,zz,zz,false)).toArray),66):=by kernel_rfl
theorem qfA:(prog.info? 148).map (fun i=>(i.zero,i.size,i.bytes))=some (some (.agg (qg (0,zz,zz,false)).toArray),66,80):=by kernel_rfl
theorem vN:(prog.info? 148).map (·.size)=some 66:=by kernel_rfl
theorem zi (x:Nat × Bt × Bt × Bool)(h1:x.2.1.length=32)(h2:x.2.2.1.length=32):(qg x).length=66:=by
 simp[qg,Lib.byteCells,h1,h2]
theorem dR (x:Nat × Bt × Bt × Bool):∀u∈qg x,u.oneCell'=true:=by
 intro u hu;simp only[qg,List.mem_cons,List.mem_append,List.not_mem_nil,or_false]at hu;rcases hu with rfl|hu|hu|rfl
 ·rfl
 ·exact Lib.byteCells_one _ u hu
 ·exact Lib.byteCells_one _ u hu
 ·rfl
theorem nZ (x:Nat × Bt × Bt × Bool):(qg x).toArray.all (·.oneCell')=true:=by
 rw[Array.all_eq_true'];intro u hu;exact dR x u (by simpa using hu)
theorem jR {ρ:Operand→Value}{o:Oper}{w:World}(ho:o.op=.alloc 148) :
    (execOp ρ o).run prog w=.ok (.value (.pointer (some ⟨w.heap.size,0,none⟩))) (w.alloc (.cells (qg (0,zz,zz,false)).toArray 148)):=by
 obtain⟨hz,_⟩:=zero_of_info qhJ;simp[execOp,ho,Instr.alloc,hz,Result.andThen,go_sem,Value.cells]
theorem qaW{ρ:Operand→Value}{o:Oper}{w:World}(x:Operand)(k:Nat)(ho:o.op=.build 148 #[(0,x)])(hx:ρ x=.int .i64 (k:Int)) :
    (execOp ρ o).run prog w=.ok (.value (.agg (qg (k,zz,zz,false)).toArray)) w:=by
 obtain⟨hz,_⟩:=zero_of_info qhJ;have hb:(Instr.build 148 #[(0,.int .i64 (k:Int))]).run prog w=.ok (.agg (qg (k,zz,zz,false)).toArray) w:=by
  have e:(qg (k,zz,zz,false)).toArray=(qg (0,zz,zz,false)).toArray.set! 0 (.int .i64 (k:Int)):=rfl;rw[e];have hne:(qg (0,zz,zz,false)).toArray ≠ #[]:=by simp[qg]
  generalize (qg (0,zz,zz,false)).toArray=z0 at *;simp[Instr.build,hz,Result.andThen,go_sem,Value.cells];rw[if_neg hne];rfl
 simp[execOp,ho,hx,hb,Result.andThen]
theorem jS {P:Program}(w:World)(g o:Nat)(t ty:TypeId)(cur:Array Value)(xs:List Value)(hg:w.heap[g]?=some (.cells cur t (0,0)))(hi:(P.info? ty).map (·.size)=some xs.length)(hl:o+xs.length≤cur.size)(h1:∀v∈xs,v.oneCell'=true) :
    (storeVar ty ⟨g,o,none⟩ (.agg xs.toArray)).run P w=.ok () (w.setRow g (cur.toList.take o++xs++cur.toList.drop (o+xs.length)).toArray):=by
 have:=run_storeCells_at P g o t xs 0 cur w hg (by simpa using hl) h1;cases hq:P.info? ty with
 | none=>simp[hq]at hi
 | some i =>
  have hs:i.size=xs.length:=by simpa[hq]using hi
  simp only[Nat.add_zero]at this;simp[storeVar,sizeOf,typeInfo,hq,Value.cells,hs,this]
theorem qna(k:Nat)(v b:Bt)(f:Bool)(u:Bt)(h:u.length=32)(hv:v.length=32) :
    (qg (k,u,b,f)).take 1++Lib.byteCells v++(qg (k,u,b,f)).drop (1+32)=qg (k,v,b,f):=by
 have e1:(Lib.byteCells u).length=32:=by rw[Lib.byteCells_length,h]
 have e2:(Lib.byteCells v).length=32:=by rw[Lib.byteCells_length,hv]
 simp only[qg,List.take_succ_cons,List.take_zero,show 1+32=32+1 from rfl,List.drop_succ_cons];rw[List.drop_left' e1];simp
theorem qfB(k:Nat)(v b:Bt)(f:Bool)(u:Bt)(hv:v.length=32)(h:u.length=32)(hb:b.length=32) :
    (qg (k,v,u,f)).take 33++Lib.byteCells b++(qg (k,v,u,f)).drop (33+32)=qg (k,v,b,f):=by
 have e1:(Lib.byteCells u).length=32:=by rw[Lib.byteCells_length,h]
 have e2:(Lib.byteCells v).length=32:=by rw[Lib.byteCells_length,hv]
 simp only[qg,show 33=32+1 from rfl,List.take_succ_cons,show 32+1+32=(32+32)+1 from rfl,List.drop_succ_cons];rw[List.take_left' e2,List.drop_append,e2,List.drop_eq_nil_of_le (by omega),show 32+32-32=32 from rfl,List.drop_left' e1];simp
theorem qcM(k:Nat)(v b:Bt)(f g:Bool)(hv:v.length=32)(hb:b.length=32):(qg (k,v,b,f)).toArray.setIfInBounds 65 (.bool g)=(qg (k,v,b,g)).toArray:=by
 have e1:(Lib.byteCells v).length=32:=by rw[Lib.byteCells_length,hv]
 have e2:(Lib.byteCells b).length=32:=by rw[Lib.byteCells_length,hb]
 simp only[List.setIfInBounds_toArray,qg,show 65=64+1 from rfl,List.set_cons_succ];rw[List.set_append_right _ _ (by omega),e1,List.set_append_right _ _ (by omega),e2];rfl
theorem qcN{ρ:Operand→Value}{o:Oper}(w:World)(x y:Operand)(k:Nat)(s:ByteArray)(ho:o.op=.call { callee:=.builtin .copy,args:=#[x,y],argTypes:=#[64,9] })
    (hx:ρ x=.slice (some ⟨w.heap.size,1,none⟩) 32 32) (hy:ρ y=.string s) (hs:s.size=32) :
    (execOp ρ o).run prog (w.alloc (.cells (qg (k,zz,zz,false)).toArray 148))=.ok (.value (.int .i64 32)) (w.alloc (.cells (qg (k,bl s,zz,false)).toArray 148)):=by
 obtain⟨i0,hi,hz0,hz1,hz2⟩:=info_parts Tryz.ny;have hl:(bl s).length=32:=by rw[zn,hs]
 have hst:=run_storeCells_at prog w.heap.size 1 148 (Lib.byteCells (bl s)) 0 (qg (k,zz,zz,false)).toArray (w.alloc (.cells (qg (k,zz,zz,false)).toArray 148)) (heap_alloc_new w _) (by simp[zi,Lib.byteCells_length,hl,qJ]) (Lib.byteCells_one _);rw[World.setRow_alloc_new,Lib.byteCells_length,hl]at hst;simp only[Nat.add_zero]at hst;rw[qna k (bl s) zz false zz qJ hl]at hst;have iH:List.take 32 (List.map (fun b:UInt8=>Value.int IntKind.u8 (b.toNat:Int)) s.data.toList)=Lib.byteCells (bl s):=by
  rw[List.take_of_length_le]
  ·rfl
  ·simp only[List.length_map];have:s.data.toList.length=32:=hl;omega
 have hc:(Builtin.copy_ #[64,9] o.type #[.slice (some ⟨w.heap.size,1,none⟩) 32 32,.string s]).run prog (w.alloc (.cells (qg (k,zz,zz,false)).toArray 148))=.ok (.int .i64 32) (w.alloc (.cells (qg (k,bl s,zz,false)).toArray 148)):=by
  simp[Builtin.copy_,run_underlying underlying64,Builtin.lenOf,Builtin.firstCells,sizeOf,typeInfo,hi,hs];rw[iH,hst];simp[Result.andThen];rfl
 simp[execOp,ho,resolve,invoke,builtin,hx,hy,hc,Result.andThen]
theorem eO {ρ:Operand→Value}{o:Oper}(w:World)(x y:Operand)(k:Nat)(v b:Bt)(f:Bool)(ho:o.op=.store 146 x y)(hx:ρ x=.pointer (some ⟨w.heap.size,33,none⟩))(hy:ρ y=eM b)(hv:v.length=32)(hb:b.length=32) :
    (execOp ρ o).run prog (w.alloc (.cells (qg (k,v,zz,f)).toArray 148))=.ok .skip (w.alloc (.cells (qg (k,v,b,f)).toArray 148)):=by
 have e2:(Lib.byteCells b).length=32:=by rw[Lib.byteCells_length,hb]
 have hr:=jS (P:=prog) (w.alloc (.cells (qg (k,v,zz,f)).toArray 148)) w.heap.size 33 148 146 (qg (k,v,zz,f)).toArray (Lib.byteCells b) (heap_alloc_new w _) (by rw[bX,e2]) (by simp[zi,hv,qJ,e2]) (Lib.byteCells_one _);rw[World.setRow_alloc_new,e2]at hr;simp only at hr;rw[qfB k v b f zz hv qJ hb]at hr;have h2:(Instr.storeAt 146 (.pointer (some ⟨w.heap.size,33,none⟩)) (eM b)).run prog (w.alloc (.cells (qg (k,v,zz,f)).toArray 148))=.ok () (w.alloc (.cells (qg (k,v,b,f)).toArray 148)):=by
  simp only[Instr.storeAt,Instr.sureAddr,Sem.run_bind,Sem.run_pure,Result.andThen];exact hr
 simp[execOp,ho,hx,hy,h2,Result.andThen]
theorem bY {ρ:Operand→Value}{o:Oper}(w:World)(x y:Operand)(k:Nat)(v b:Bt)(f:Bool)(ho:o.op=.store 4 x y)(hx:ρ x=.pointer (some ⟨w.heap.size,65,none⟩))(hy:ρ y=.bool f)(hv:v.length=32)(hb:b.length=32) :
    (execOp ρ o).run prog (w.alloc (.cells (qg (k,v,b,false)).toArray 148))=.ok .skip (w.alloc (.cells (qg (k,v,b,f)).toArray 148)):=by
 have hB:qd (w.alloc (.cells (qg (k,v,b,false)).toArray 148)) w.heap.size 148 (qg (k,v,b,false)).toArray:=qd.new _ _ _;have hc:(w.alloc (.cells (qg (k,v,b,false)).toArray 148)).cell? ⟨w.heap.size,65,none⟩=some (.bool false):=by
  rw[hB.cell 65];exact(rowOf (k,v,b,false) hv hb).written
 have hf:=hB.frozen 65;have hW:(w.alloc (.cells (qg (k,v,b,false)).toArray 148)).setCell ⟨w.heap.size,65,none⟩ (.bool f)=w.alloc (.cells (qg (k,v,b,f)).toArray 148):=by
  rw[setCell_eq_setRow _ _ _ _ _ _ _ (heap_alloc_new w _),World.setRow_alloc_new,qcM k v b false f hv hb]
 unfold execOp;rw[ho];simp only[hx,hy];rw[← hW];generalize w.alloc (.cells (qg (k,v,b,false)).toArray 148)=W at *;go_simp
theorem qaX{P:Program}{o:Oper}{a:Act}{w:World}{K:Act→World→Prop}{Q:Exit→Act→World→Prop}(s x:Operand)(t:TypeId)
    (ho:o.op=.call { callee:=.builtin .append,args:=#[s,x],argTypes:=#[t,t] })
    (base:Nat) (e:TypeId) (i:TypeInfo) (z:Value) (size bytes:Nat) (ht:P.underlying t=some (.slice e)) (hi:P.info? e=some i) (hz:i.zero=some z)
    (hsize:i.size=size) (hby:i.bytes=bytes) (hzs:z.cells.size=size) (hsz:0<size)
    (v:Value) (n:Nat) (xs:List Value) (hs:a.eval s=v) (hown:w.ownsRow base e size v n xs)
    (ad:Addr) (m c:Nat) (news:List Value) (hx:a.eval x=.slice (some ad) m c) (hl:news.length=m*size) (hnews:∀j u,news[j]?=some u→w.cell? (ad.add j)=some u) (h1:∀u∈news,u.oneCell'=true)
    (h63:n+m≤maxLen) (hbytes:(n+m)*bytes≤140737488355328) (hbase:base≤w.heap.size)
    (h:∀v' w',w'.ownsRow base e size v' (n+m) (xs++news)→w.grownBy w' v.ownBlock→(v'.ownBlock=v.ownBlock∨v'.ownBlock=some w.heap.size)→K (a.put o.dst v') w'):o.wp P a w K Q:=by
 obtain⟨v',w',hrun,h2,h3,_,h5⟩:=run_append_own_at (P:=P) w base t o.type e i z size bytes ht hi hz hsize hby hzs hsz v n xs hown ad m c news hl hnews h1 h63 hbytes hbase;unfold Oper.wp;simp[execOp,ho,resolve,invoke,builtin,hs,hx,hrun,Result.andThen];exact h v' w' h2 h3 h5
theorem xQ {w:World}{base e size n:Nat}{v:Value}{xs:List Value}(h:w.ownsRow base e size v n xs):∃A c,v=.slice A n c:=by
 rcases h.2 with⟨rfl,rfl⟩|⟨g,cap,cur,rfl,_⟩
 ·exact⟨none,0,rfl⟩
 ·exact⟨_,cap,rfl⟩
theorem qfC(l:List (Nat × Bt × Bt × Bool))(x:Nat × Bt × Bt × Bool):jb (l++[x])=jb l++qg x:=by simp[jb]
theorem qcO:∀(l:List Value) (k:Nat) (acc:Array Value),k+l.length≤acc.size →
    (l.zipIdx k).foldl (fun a x=>a.setIfInBounds (0+x.2) x.1) acc=(acc.toList.take k++l++acc.toList.drop (k+l.length)).toArray
 | [],k,acc,_=>by simp
 | x::l,k,acc,h=>by
  have hk:k<acc.size:=by simp at h;omega
  have dE:k<acc.toList.length:=by simpa using hk
  rw[List.zipIdx_cons,List.foldl_cons,qcO l (k+1) _ (by simp at h ⊢;omega)]
  congr 1
  simp only[Nat.zero_add,Array.toList_setIfInBounds,List.length_cons];rw[List.drop_set_of_lt (by omega),show k+1+l.length=k+(l.length+1)by omega];have e:(acc.toList.set k x).take (k+1)=acc.toList.take k++[x]:=by
   rw[List.take_succ_eq_append_getElem (by simpa using hk)];simp only[List.getElem_set_self,List.take_set];rw[List.set_eq_of_length_le (by simp;omega)]
  rw[e];simp
theorem o7 (size:Nat)(cs acc:Array Value)(h1:cs.size=size)(h2:acc.size=size):Instr.fill (fun i=>some (i*size,size)) acc [(0,.agg cs)]=some cs:=by
 simp only[Instr.fill,Nat.zero_mul,Value.cells];rw[if_neg (by simp[h1,h2])]
 congr 1
 rw[← Array.foldl_toList,Array.toList_zipIdx,qcO cs.toList 0 acc (by simp;omega)];simp;rw[List.drop_eq_nil_of_le (by simp;omega)];simp
theorem oa {ρ:Operand→Value}{o:Oper}{w:World}(x:Operand)(cs:Array Value)(ho:o.op=.buildSlice 86 1 #[(0,x)])(hx:ρ x=.agg cs)(hs:cs.size=66) :
    (execOp ρ o).run prog w=.ok (.value (.slice (some ⟨w.heap.size,0,none⟩) 1 1)) (w.alloc (.cells cs 148)):=by
 obtain⟨i0,hi,hz0,hz1,hz2⟩:=info_parts qfA;have hr:=run_buildSlice (P:=prog) w 86 148 1 #[(0,.agg cs)] cs i0 _ underlying86 hi hz0 (by rw[hz1];decide) (by rw[hz1];decide) (by
  rw[hz1];exact o7 66 cs _ hs (by simp))
 simp[execOp,ho,hx,hr,Result.andThen]
theorem dS {ρ:Operand→Value}{o:Oper}{w:World}(x:Operand)(ho:o.op=.load 148 x)(g:Nat)(hx:ρ x=.pointer (some ⟨g,0,none⟩))(cs:Array Value)(hg:qd w g 148 cs)(hs:cs.size=66) :
    (execOp ρ o).run prog w=.ok (.value (.agg cs)) w:=by
 have:=qF (P:=prog) (w:=w) 148 x ho g 0 hx 148 cs cs.toList (0,0) _ hg underlying148 rfl (by rw[vN];simp[hs]) (fun j u hu=>by rw[Nat.zero_add];simpa using hu);simpa using this
theorem dT {ρ:Operand→Value}{o:Oper}{w:World}(x:Operand)(ho:o.op=.load 86 x)(b i:Nat)(hx:ρ x=.pointer (some ⟨b,i,none⟩))(A:Option Addr)(n c:Nat)(hc:w.cell? ⟨b,i,none⟩=some (.slice A n c)) :
    (execOp ρ o).run prog w=.ok (.value (.slice A n c)) w:=by
 unfold execOp;simp only[ho,hx];go_simp
theorem sr {P:Program}{md:Region.Mode}{ops:Array Oper}{Q:Exit→Act→World→Prop}{i j l:Nat}{oi oj ol:Oper}{di dj dl:Tmp}{vi vj vl:Value}{fuel:Nat}{listed:Array Bool}{a:Act}{w w2:World}
    (hr:Region.ready md ops listed=[i,j]) (hri:Region.ready md ops (listed.setIfInBounds i true)=[j]) (q5o:Region.ready md ops ((listed.setIfInBounds i true).setIfInBounds j true)=[l])
    (hrj:Region.ready md ops (listed.setIfInBounds j true)=[i,l]) (q5p:Region.ready md ops ((listed.setIfInBounds j true).setIfInBounds l true)=[i])
    (hij:i≠j) (gP:i≠l) (hoi:ops[i]?=some oi) (hoj:ops[j]?=some oj) (hol:ops[l]?=some ol) (hgi:oi.guard=none) (hgj:oj.guard=none) (jX:ol.guard=none)
    (hdi:oi.dst=some di) (hdj:oj.dst=some dj) (hdl:ol.dst=some dl) (d1:di≠dj) (d2:di≠dl)
    (hi0:(execOp a.eval oi).run P w=.ok (.value vi) w) (rY:(execOp (a.put (some dj) vj).eval oi).run P w=.ok (.value vi) w) (mr:(execOp ((a.put (some dj) vj).put (some dl) vl).eval oi).run P w2=.ok (.value vi) w2)
    (hj0:(execOp a.eval oj).run P w=.ok (.value vj) w) (hj1:(execOp (a.put (some di) vi).eval oj).run P w=.ok (.value vj) w)
    (hl1:(execOp ((a.put (some di) vi).put (some dj) vj).eval ol).run P w=.ok (.value vl) w2) (hl2:(execOp (a.put (some dj) vj).eval ol).run P w=.ok (.value vl) w2)
    (h:wpAny P md ops Q fuel (((listed.setIfInBounds i true).setIfInBounds j true).setIfInBounds l true) (((a.put (some di) vi).put (some dj) vj).put (some dl) vl) w2):wpAny P md ops Q (fuel+3) listed a w:=by
 have tail:∀(b:Act) (ls:Array Bool),b=(a.put (some di) vi).put (some dj) vj→ls=(listed.setIfInBounds i true).setIfInBounds j true→wpAny P md ops Q (fuel+1) ls b w:=by
  rintro b ls rfl rfl;refine qM q5o hol jX (yH hl1 ?_);rw[hdl];exact h
 have hwi:∀b:Act,Region.wanted oi (yielded ops b.tmps)=true:=fun b=>by simp[Region.wanted,hgi]
 have hwj:∀b:Act,Region.wanted oj (yielded ops b.tmps)=true:=fun b=>by simp[Region.wanted,hgj]
 have hwl:∀b:Act,Region.wanted ol (yielded ops b.tmps)=true:=fun b=>by simp[Region.wanted,jX]
 refine wpAny_all hr (by simp) fun k hk=>?_;rcases(show k=i∨k=j by simpa using hk)with rfl|rfl
 ·unfold wpOp;simp only[hoi,hwi,if_true]
  left
  refine yH hi0 ?_;rw[hdi];refine qM hri hoj hgj (yH hj1 ?_);rw[hdj];exact tail _ _ rfl rfl
 ·unfold wpOp;simp only[hoj,hwj,if_true]
  left
  refine yH hj0 ?_;rw[hdj];refine wpAny_all hrj (by simp) fun n hn=>?_;rcases(show n=i∨n=l by simpa using hn)with rfl|rfl
  ·unfold wpOp;simp only[hoi,hwi,if_true]
   left
   refine yH rY ?_;rw[hdi];exact tail _ _ (aQ a dj di vj vi (Ne.symm d1)) (Array.setIfInBounds_comm _ _ (Ne.symm hij))
  ·unfold wpOp;simp only[hol,hwl,if_true]
   left
   refine yH hl2 ?_;rw[hdl];refine qM q5p hoi hgi (yH mr ?_);rw[hdi,aQ _ dl di vl vi (Ne.symm d2),aQ a dj di vj vi (Ne.symm d1),Array.setIfInBounds_comm _ _ (Ne.symm gP),Array.setIfInBounds_comm (xs:=listed) _ _ (Ne.symm hij)];exact h
def FG (p m:Nat)(room used:Int)(B:Nat):Nat→Value→World→Prop
 | 0,v,_=>v=.pointer (some ⟨p,0,none⟩)
 | 1,v,_=>v=.pointer (some ⟨p,0,none⟩)
 | 2,v,_=>v=.pointer (some ⟨p,1,none⟩)
 | 3,v,_=>v=.int .i64 room
 | 4,v,_=>v=.pointer (some ⟨p,0,none⟩)
 | 5,v,_=>v=.pointer (some ⟨p,0,none⟩)
 | 6,v,_=>v=.pointer (some ⟨p,2,none⟩)
 | 7,v,_=>v=.map (some m)
 | 8,v,_=>v=.int .i64 used
 | 9,v,_=>v=.int .i64 (room-used)
 | 10,v,w=>∃b,v=.pointer (some ⟨b,0,none⟩)∧B≤b∧qd w b 3 #[.int .i64 0]
 | _,_,_=>True
theorem qr4(p m:Nat)(room used:Int)(B:Nat)(i:Nat)(v:Value)(w w':World)(hi:i<11)(h:FG p m room used B i v w)(hb:Below w.heap.size w w'):FG p m room used B i v w':=by
 match i,hi,h with
 | 0,_,h | 1,_,h | 2,_,h | 3,_,h | 4,_,h | 5,_,h | 6,_,h | 7,_,h | 8,_,h | 9,_,h=>exact h
 | 10,_,⟨b,h1,h2,h3⟩=>exact⟨b,h1,h2,h3.of_block (hb.block b h3.lt)⟩
def qnb (p:Nat)(free:Int)(w:World)(e:Ending)(w':World):Prop :=
 ∃B4 B3 a,e=.returned (.func (.func 279) #[] #[.pointer (some ⟨w.heap.size,0,none⟩),.pointer (some ⟨B4,0,none⟩),.pointer (some ⟨B3,0,none⟩)]) ∧
  Env w' p w.heap.size B4 B3 a free []∧Below w.heap.size w w'∧w.heap.size≤a
section
variable {w:World} {p m:Nat} {v:Value} {d:DD} {own:Nat→Prop}
theorem qfD{most:Nat}(h0:d.ok most)(h:uL w own p m v d) :
    Calls prog 252 #[.pointer (some ⟨p,0,none⟩)] w (qnb p (d.room-(d.used:Int)) w):=by
 have hmm:=@run_makeMap prog;have HM:=QH h.2.1;have hp:=h.1.lt;have hml:=h.2.1.lt;obtain⟨c0,c1,c2,c3,c4,c5⟩:=jQ h.1;have r0:=h0.qzR;have r1:=h0.qzS;have hu:d.used≤1024:=by
  have:=qaT d.now;rw[d.yJ]at this;have:=h0.n1;unfold DD.used;omega
 have HU:Hid (cnt d.now=d.used):=rfl;clear h h0 c0 c3 c4 c5;generalize hroom:d.room=room at *;generalize qzY:d.used=used at *;clear hroom qzY;go_enter func252,ntmps252;go_wp2_with fail;have vq:(w.alloc (.cells #[.pointer (some ⟨p,0,none⟩)] 23)).heap[w.heap.size]?=some (.cells #[.pointer (some ⟨p,0,none⟩)] 23 (0,0)):=heap_alloc_new w _;have hold:∀k,k<w.heap.size→(w.alloc (.cells #[.pointer (some ⟨p,0,none⟩)] 23)).heap[k]?=w.heap[k]? :=fun k hk=>Below.heap_alloc w _ k hk;have hsz:(w.alloc (.cells #[.pointer (some ⟨p,0,none⟩)] 23)).heap.size=w.heap.size+1:=by simp
 have hB0:Below w.heap.size w (w.alloc (.cells #[.pointer (some ⟨p,0,none⟩)] 23)):=(Below.refl _ w).alloc (Nat.le_refl _) _;generalize w.alloc (.cells #[.pointer (some ⟨p,0,none⟩)] 23)=w1 at *;refine eC (by kernel_rfl) 11 [5,6,7,8,9,10,11,12,13,14,3] (by kernel_rfl) (FG p m room (used:Int) w1.heap.size) (qr4 _ _ _ _ _) ?_ ?_
 ·intro i o vs ρ W hi ho hρ hb hG;have t5:=hρ.at_ 5 0 rfl;have t6:=hρ.at_ 6 1 rfl;have t7:=hρ.at_ 7 2 rfl;have t8:=hρ.at_ 8 3 rfl;have t9:=hρ.at_ 9 4 rfl;have t10:=hρ.at_ 10 5 rfl;have t11:=hρ.at_ 11 6 rfl;have t12:=hρ.at_ 12 7 rfl;have t13:=hρ.at_ 13 8 rfl;have t1:ρ (.tmp 1)=.pointer (some ⟨w.heap.size,0,none⟩):=hρ.out 1 rfl;have hc:=hρ.const;have k1:W.cell? ⟨w.heap.size,0,none⟩=some (.pointer (some ⟨p,0,none⟩)):=by rw[hb.cell (p:=⟨w.heap.size,0,none⟩) (by simp[hsz]),cell_of_row _ _ _ _ _ _ vq];rfl
  have q1:W.cell? ⟨p,1,none⟩=some (.int .i64 room):=by rw[hb.cell (p:=⟨p,1,none⟩) (by simp[hsz];omega),World.cell?_of_block (a:=⟨p,1,none⟩) (hold p hp)];exact c1
  have q2:W.cell? ⟨p,2,none⟩=some (.map (some m)):=by rw[hb.cell (p:=⟨p,2,none⟩) (by simp[hsz];omega),World.cell?_of_block (a:=⟨p,2,none⟩) (hold p hp)];exact c2
  have hmW:zH W m d.now:=HM.out.of_block ((hb.block m (by omega)).trans (hold m hml));rcases i with _|_|_|_|_|_|_|_|_|_|_|i;all_goals (first|omega|skip)
  all_goals simp only[QA,QB,QC,Option.some.injEq]at ho
  all_goals subst ho
  ·exact q9 (w':=W) (by unfold execOp;simp only[t1];go_simp) ⟨Below.refl _ _,rfl⟩
  ·have g:vs 0=_:=hG 0 (by kernel_rfl);exact q9 (w':=W) (by unfold execOp;simp only[t5,g];go_simp) ⟨Below.refl _ _,rfl⟩
  ·have g:vs 1=_:=hG 1 (by kernel_rfl);exact q9 (w':=W) (by unfold execOp;simp only[t6,g];go_simp) ⟨Below.refl _ _,rfl⟩
  ·have g:vs 2=_:=hG 2 (by kernel_rfl);exact q9 (w':=W) (by unfold execOp;simp only[t7,g];go_simp) ⟨Below.refl _ _,rfl⟩
  ·exact q9 (w':=W) (by unfold execOp;simp only[t1];go_simp) ⟨Below.refl _ _,rfl⟩
  ·have g:vs 4=_:=hG 4 (by kernel_rfl);exact q9 (w':=W) (by unfold execOp;simp only[t9,g];go_simp) ⟨Below.refl _ _,rfl⟩
  ·have g:vs 5=_:=hG 5 (by kernel_rfl);exact q9 (w':=W) (by unfold execOp;simp only[t10,g];go_simp) ⟨Below.refl _ _,rfl⟩
  ·have g:vs 6=_:=hG 6 (by kernel_rfl);exact q9 (w':=W) (by unfold execOp;simp only[t11,g];go_simp) ⟨Below.refl _ _,rfl⟩
  ·have g:vs 7=_:=hG 7 (by kernel_rfl);exact q9 (w':=W) (qmX (.tmp 12) rfl (t12.trans g) hmW) ⟨Below.refl _ _,by rw[HU.out];rfl⟩
  ·have g3:vs 3=_:=hG 3 (by kernel_rfl);have g8:vs 8=_:=hG 8 (by kernel_rfl);exact q9 (w':=W) (by unfold execOp;simp only[t8,g3,t13,g8];go_simp;exact IntWalk.i64_in _ (by omega)) ⟨Below.refl _ _,rfl⟩
  ·exact q9 (v:=.pointer (some ⟨W.heap.size,0,none⟩)) (w':=W.alloc (.cells #[.int .i64 0] 3)) (by unfold execOp;go_simp) ⟨(Below.refl _ _).alloc (Nat.le_refl _) _,W.heap.size,rfl,hb.size,qd.new _ _ _⟩
 ·intro vs W hb hG;have g9:vs 9=_:=hG 9 (by decide);obtain⟨b3,g10,hb3,hk3⟩:∃b,vs 10=.pointer (some ⟨b,0,none⟩)∧w1.heap.size≤b∧qd W b 3 #[.int .i64 0]:=hG 10 (by decide);simp only[qX,qK,if_true];rw[g9,g10];generalize vs 0=x0;generalize vs 1=x1;generalize vs 2=x2;generalize vs 3=x3;generalize vs 4=x4;generalize vs 5=x5;generalize vs 6=x6;generalize vs 7=x7;generalize vs 8=x8;clear hG g9 g10;have k3:W.cell? ⟨b3,0,none⟩=some (.int .i64 0):=hk3.cell 0;have f3:=hk3.frozen 0;have su:=QH hk3;have hbW:=hb.size;have HB:=QH (hB0.trans (hb.mono (by omega)));have HX:=QH ((hb.block w.heap.size (by omega)).trans vq);have zcg:=hk3.lt;clear hk3 hb hB0 hold vq c1 c2;go_simp;refine qM (i:=11) (by kernel_rfl) rfl rfl ?_;go_simp;refine⟨by kernel_rfl,?_⟩;go_wp2;go_ret;generalize hW2:W.setCell ⟨b3,0,none⟩ (.int .i64 (room-(used:Int)))=W2;have hs2:W2.heap.size=W.heap.size:=by rw[← hW2,size_set]
  have hk2:qd W2 b3 3 #[.int .i64 (room-(used:Int))]:=by rw[← hW2];exact su.out.qo 0 _
  have hx2:qd W2 w.heap.size 23 #[.pointer (some ⟨p,0,none⟩)]:=by
   unfold qd;rw[← hW2,zV _ _ _ _ _ (by omega)];exact HX.out
  have hB2:Below w.heap.size w W2:=by rw[← hW2];exact HB.out.setCell (by simp;omega) _
  refine⟨W.heap.size+1,b3,W.heap.size,rfl,⟨?_,?_,?_,?_⟩,?_,?_⟩
  ·refine(hx2.of_block (Below.heap_alloc _ _ _ (by omega))).of_block (Below.heap_alloc _ _ _ (by simp;omega))
  ·rw[← hs2];exact heap_alloc2_new _ _ _
  ·refine(hk2.of_block (Below.heap_alloc _ _ _ (by omega))).of_block (Below.heap_alloc _ _ _ (by simp;omega))
  ·rw[← hs2];exact(yw.made W2).of_block (Below.heap_alloc _ _ _ (by simp))
  ·exact(hB2.alloc (by omega) _).alloc (by simp;omega) _
  ·omega
end
end Go.Proofs.YtdpbdkacngaemaaGreatDoor.dk
namespace Go.Proofs.YtdpbdkacngaemaaGreatDoor.dk
open _root_.Go.Proofs.Tryz Go Go.RowKit
def tell (d:DD):List Int→List Int→Bool
 | _,[]=>true
 | acc,x::r=>if (ask d acc x).1 then tell d (ask d acc x).2 r else false
theorem iK (s:qE):∀(l acc:List Int),acc.length≤(fresh s acc l).length
 | [],_=>Nat.le_refl _
 | x::r,acc=>by
  unfold fresh;split
  ·exact iK s r acc
  ·exact Nat.le_trans (by simp) (iK s r (acc++[x]))
theorem qaY(d:DD):∀(l acc:List Int),(acc.length=0∨(acc.length:Int)≤d.room-(d.used:Int)) →
    tell d acc l=(l.all d.has&&(decide ((fresh d.now acc l).length=0) || decide (((fresh d.now acc l).length:Int)≤d.room-(d.used:Int))))
 | [],acc,h=>by
  show true=_;simp only[List.all_nil,fresh,Bool.true_and];rcases h with h|h <;> simp[h]
 | x::r,acc,h=>by
  unfold tell;by_cases hh:d.has x=true
  ·by_cases hs:(look d.now x).isSome=true
   ·have e:ask d acc x=(true,acc):=by unfold ask;rw[if_neg (by rw[hh];simp),if_pos hs]
    rw[e];simp only[if_true,List.all_cons,hh,Bool.true_and];rw[qaY d r acc h]
    conv=>rhs;unfold fresh
    rw[hs];rfl
   ·have e:ask d acc x=(decide (((ye acc x).length:Int)≤d.room-(d.used:Int)),ye acc x):=by unfold ask;rw[if_neg (by rw[hh];simp),if_neg hs]
    have hf:fresh d.now acc (x::r)=fresh d.now (ye acc x) r:=by
     conv=>lhs;unfold fresh
     unfold ye;rw[show(look d.now x).isSome=false from by simpa using hs,Bool.false_or];split <;> rfl
    rw[e,hf];simp only[List.all_cons,hh,Bool.true_and];by_cases hle:((ye acc x).length:Int)≤d.room-(d.used:Int)
    ·rw[decide_eq_true hle,if_pos rfl];exact qaY d r _ (.inr hle)
    ·rw[decide_eq_false hle,if_neg (by simp)];have h1:=iK d.now r (ye acc x);have h2:0<(ye acc x).length:=by
      unfold ye;split
      ·rename_i hc;cases acc with
       | nil=>simp at hc
       | cons=>simp
      ·simp
     rw[decide_eq_false (by omega),decide_eq_false (by omega)];simp
  ·have e:ask d acc x=(false,acc):=by unfold ask;rw[if_pos (by simpa using hh)]
   rw[e];simp[hh]
theorem qjh(d:DD)(l:List Int):tell d [] l=d.fits l:=qaY d l [] (.inl rfl)
def qL (w:World)(a:Option Addr)(zs:List Int):Prop :=
 ∀i (h:i<zs.length),∃b o,a=some ⟨b,o,none⟩∧b<w.heap.size∧w.cell? ⟨b,o+i,none⟩=some (.int .i64 zs[i]) ∧ -9223372036854775808≤zs[i]∧zs[i]≤9223372036854775807
def okB (r:Bool)(w:World)(e:Ending)(w':World):Prop:=e=.returned (.bool r)∧Below w.heap.size w w'
section
variable {w:World} {p m:Nat} {v:Value} {d:DD} {own:Nat→Prop} {B1 B4 B3 a:Nat} {acc:List Int}
theorem qr5{most:Nat}(h0:d.ok most)(h:uL w own p m v d)(he:Env w p B1 B4 B3 a (d.room-(d.used:Int)) acc)(x:Int)(hl:acc.length<maxLen) :
    Calls prog 279 #[.int .i64 x,.pointer (some ⟨B1,0,none⟩),.pointer (some ⟨B4,0,none⟩),.pointer (some ⟨B3,0,none⟩)] w (mU (ask d acc x) a w):=by
 unfold ask;by_cases hh:d.has x=true
 ·by_cases hs:(look d.now x).isSome=true
  ·rw[if_neg (by rw[hh];simp),if_pos hs];exact qr2 h0 h he x hh hs
  ·rw[if_neg (by rw[hh];simp),if_neg hs];exact qr3 h0 h he x hh (by simpa using hs) hl
 ·rw[if_pos (by simpa using hh)];exact qr1 h he x (by simpa using hh)
theorem Env.step{w':World}{free:Int}{qzZ:List Int}(h:Env w p B1 B4 B3 a free acc)(hs:yw w' a qzZ)(hb:qB (fun k=>k=a) w w'):Env w' p B1 B4 B3 a free qzZ:=by
 have hne:∀ {B t cs},qd w B t cs→B≠a:=by
  rintro B t cs hB rfl;obtain⟨D,⟨es,clock,q,_⟩,_⟩:=h.qo;unfold qd at hB;rw[q]at hB;cases hB
 exact⟨h.b1.of_block (hb.block _ h.b1.lt (hne h.b1)),h.b4.of_block (hb.block _ h.b4.lt (hne h.b4)),h.b3.of_block (hb.block _ h.b3.lt (hne h.b3)),hs⟩
theorem qr6(d:DD)(acc:List Int)(x:Int):(ask d acc x).2.length≤acc.length+1:=by
 unfold ask;split
 ·simp
 ·split
  ·simp
  ·unfold ye;split <;> simp
def qvF (d:DD)(zs:List Int)(w:World)(p B1 B4 B3 a:Nat)(i:Value)(wr:World):Prop :=
 ∃k:Nat,k≤zs.length∧i=.int .i64 (k:Int)∧Below w.heap.size w wr∧∃acc,Env wr p B1 B4 B3 a (d.room-(d.used:Int)) acc∧acc.length≤k∧tell d acc (zs.drop k)=d.fits zs
theorem wy {most:Nat}(h:zK most w own p d)(A:Option Addr)(c:Nat)(zs:List Int)(hz:qL w A zs)(hzl:zs.length≤1000000) :
    Calls prog 182 #[.pointer (some ⟨p,0,none⟩),.slice A zs.length c] w (okB (d.fits zs) w):=by
 obtain⟨h0,m,v,h1⟩:=h;have H0:=QH h0;have H1:=QH h1;have HZ:=QH hz;have HF:=QH (qfD h0 h1);have xB:=h1.2.2.2.2.2.2;have HL:=QH xB;clear h0 h1 hz xB;go_enter func182,ntmps182;go_wp2_with (go_at_call 252;refine HF.out.mono ?_);rintro e W1 ⟨B4,B3,a,rfl,hE,hb,ha⟩;have HE:=QH hE;have HB:=QH hb;have HA:=QH ha;clear hE hb ha;go_wp2_with fail;go_loopw [14] (fun i wr=>qvF d zs w p w.heap.size B4 B3 a i wr) (fun i _=>zs.length-(intOf i).toNat);case atStart=>exact⟨0,Nat.zero_le _,rfl,HB.out,[],HE.out,Nat.le_refl _,qjh d zs⟩
 case round =>
  obtain⟨k,hk,rfl,hB,acc,hEn,hac,htl⟩:=hrel;have HBr:=QH hB;have HEr:=QH hEn;have HT:=QH htl;have HAc:=QH hac;by_cases hlt:k<zs.length
  ·obtain⟨b,o,rfl,uK,od,hx0,hx1⟩:=HZ.out k hlt;have hcell:wr.cell? ⟨b,o+k,none⟩=some (.int .i64 zs[k]):=by rw[hB.cell (p:=⟨b,o+k,none⟩) uK];exact od
   have hkr:uL wr own p m v d:=H1.out.keep hB.size (fun j hj=>hB.block j (HL.out j hj));have q0a:=qr5 H0.out hkr hEn zs[k] (by unfold maxLen;omega);have hbs:b<wr.heap.size:=Nat.lt_of_lt_of_le uK hB.size;have q0b:d.fits zs=if (ask d acc zs[k]).1 then tell d (ask d acc zs[k]).2 (zs.drop (k+1))else false:=by
    rw[← htl,List.drop_eq_getElem_cons hlt];rfl
   have lI:=qr6 d acc zs[k];generalize zs[k]=x at *;have HT2:=QH q0b;have HAL:=QH lI;have q0c:=QH q0a;clear q0b lI q0a hB hEn htl hac od uK hkr;cases hq:(ask d acc x).1 with
   | true =>
    have HQ:=QH hq;rw[hq,if_pos rfl]at HT2;clear hq;go_wp2_with (go_at_call 279;refine q0c.out.mono ?_);rintro e w2 ⟨rfl,hs2,hb2⟩;rw[HQ.out];have kT:=QH hs2;have qC:=QH hb2;clear hs2 hb2;go_wp2_with fail;go_roundw;case rel=>exact⟨k+1,by omega,by go_num,HBr.out.trans (qC.out.below (fun i e=>by subst e;exact HA.out) HBr.out.size),_,HEr.out.step kT.out qC.out,(by have:=HAc.out;have:=HAL.out;omega),HT2.out.symm⟩
    case measure=>simp[intOf];omega
   | false =>
    have HQ:=QH hq;rw[hq,if_neg (by simp)]at HT2;clear hq;go_wp2_with (go_at_call 279;refine q0c.out.mono ?_);rintro e w2 ⟨rfl,hs2,hb2⟩;rw[HQ.out];have qC:=QH hb2;clear hs2 hb2;go_wp2_with fail;go_ret;exact⟨(by rw[HT2.out];rfl),HBr.out.trans (qC.out.below (fun i e=>by subst e;exact HA.out) HBr.out.size)⟩
  ·have hkn:k=zs.length:=by omega
   subst hkn;clear hB hEn htl hac;go_wp2_with fail;go_ret;have:=HT.out;rw[List.drop_length]at this;exact⟨by rw[← this];rfl,HBr.out⟩
end
end Go.Proofs.YtdpbdkacngaemaaGreatDoor.dk
namespace Go.Proofs.YtdpbdkacngaemaaGreatDoor.dk
open _root_.Go.Proofs.Tryz Go Go.RowKit
section
variable {w:World} {p m:Nat} {v:Value} {d:DD} {own:Nat→Prop}
theorem xU (d:DD):d.oper.base=d.base∧d.oper.more=d.more∧d.oper.room=d.room:=by
 unfold DD.oper DD.off;split
 ·exact⟨rfl,rfl,rfl⟩
 ·split <;> exact⟨rfl,rfl,rfl⟩
theorem dU (d:DD):d.oper.now=d.now:=by unfold DD.now;rw[(xU d).1,(xU d).2.1]
theorem qnc(d:DD):d.oper.n=d.n:=by unfold DD.n;rw[(xU d).1]
theorem qnd(d:DD)(k:Int)(hh:d.has k=true):d.fits [k]=((look d.now k).isSome || decide ((d.used:Int)<d.room)):=by
 unfold DD.fits;simp only[List.all_cons,List.all_nil,hh,Bool.and_self,Bool.true_and,fresh];by_cases hx:(look d.now k).isSome=true
 ·simp[hx]
 ·simp[hx];omega
theorem og (w:World)(k:Int)(h0 : -9223372036854775808≤k)(h1:k≤9223372036854775807):qL (w.alloc (.cells #[.int .i64 k] 3)) (some ⟨w.heap.size,0,none⟩) [k]:=by
 intro i h;have hi:i=0:=by simpa using h
 subst hi;refine⟨w.heap.size,0,rfl,by simp,?_,h0,h1⟩;rw[cell_of_row _ _ _ _ _ _ (heap_alloc_new w _)];rfl
theorem qji{most:Nat}(h:zK most w own p d)(xc:d.on=false)(k:Int)(s:ByteArray) :
    Calls prog 194 #[.pointer (some ⟨p,0,none⟩),.int .i64 k,.string s] w (xj most own p d (.int .i64 6) w):=by
 have H:=QH h;obtain⟨h0,m,v,h1⟩:=h;obtain⟨c0,c1,c2,c3,c4,c5⟩:=jQ h1.1;rw[xc]at c4;clear h0 h1 c0 c1 c2 c3 c5 xc;go_enter func194,ntmps194;go_wp2_with fail;go_ret;exact⟨rfl,own,H.out,qB.refl _ _,ub.refl _ _⟩
theorem qjj{most:Nat}(h:zK most w own p d)(xc:d.on=true)(k:Int)(hh:d.has k=false)(s:ByteArray) :
    Calls prog 194 #[.pointer (some ⟨p,0,none⟩),.int .i64 k,.string s] w (xj most own p d (.int .i64 2) w):=by
 have H:=QH h;obtain⟨h0,m,v,h1⟩:=h;have hhas:=kD h1 k;rw[hh]at hhas;have HH:=QH hhas;obtain⟨c0,c1,c2,c3,c4,c5⟩:=jQ h1.1;rw[xc]at c4;clear h0 h1 c0 c1 c2 c3 c5 xc hhas hh;go_enter func194,ntmps194;go_wp2_with (go_at_call 197;refine HH.out.mono ?_;rintro e w' ⟨rfl,rfl⟩);go_ret;exact⟨rfl,own,H.out,qB.refl _ _,ub.refl _ _⟩
theorem qjk{most:Nat}(h:zK most w own p d)(xc:d.on=true)(k:Int)(hh:d.has k=true)(s:ByteArray)(hs:s.size≠32) :
    Calls prog 194 #[.pointer (some ⟨p,0,none⟩),.int .i64 k,.string s] w (xj most own p d (.int .i64 2) w):=by
 have H:=QH h;obtain⟨h0,m,v,h1⟩:=h;have hhas:=kD h1 k;rw[hh]at hhas;have HH:=QH hhas;obtain⟨c0,c1,c2,c3,c4,c5⟩:=jQ h1.1;rw[xc]at c4;have hsz:((s.size:Int) == 32)=false:=by rw[beq_eq_false_iff_ne];omega
 clear h0 h1 c0 c1 c2 c3 c5 xc hhas hh hs;go_enter func194,ntmps194;go_wp2_with (go_at_call 197;refine HH.out.mono ?_;rintro e w' ⟨rfl,rfl⟩);go_ret;exact⟨rfl,own,H.out,qB.refl _ _,ub.refl _ _⟩
theorem qfF{most:Nat}(h:zK most w own p d)(xc:d.on=true)(k:Int)(hh:d.has k=true)(s:ByteArray)(hs:s.size=32)(hf:d.fits [k]=false) :
    Calls prog 194 #[.pointer (some ⟨p,0,none⟩),.int .i64 k,.string s] w (xj most own p d (.int .i64 7) w):=by
 have hk0:0≤k∧k<(d.n:Int):=by simpa[DD.has]using hh
 have hn:=h.1.n1;have h2:zK most (w.alloc (.cells #[.int .i64 k] 3)) own p d:=h.keep (by simp) (fun j hj=>Below.heap_alloc _ _ _ (h.2.choose_spec.choose_spec.2.2.2.2.2.2 j hj));have HF:=QH (wy h2 _ 1 [k] (og w k (by omega) (by omega)) (by simp));rw[hf]at HF;have H:=QH h;have H2:=QH h2;have xB:∀j,own j→j<w.heap.size:=fun j hj=>h.2.choose_spec.choose_spec.2.2.2.2.2.2 j hj;have HL:=QH xB;obtain⟨h0,m,v,h1⟩:=h;have hhas:=kD h1 k;rw[hh]at hhas;have HH:=QH hhas;obtain⟨c0,c1,c2,c3,c4,c5⟩:=jQ h1.1;rw[xc]at c4;have hsz:((s.size:Int) == 32)=true:=by rw[beq_iff_eq];omega
 clear h0 h1 c0 c1 c2 c3 c5 xc hhas hh hs hf h2 xB hk0 hn;go_enter func194,ntmps194;go_wp2_with (first|(go_at_call 197;refine HH.out.mono ?_;rintro e w' ⟨rfl,rfl⟩)|(go_at_call 182;refine HF.out.mono ?_;rintro e w2 ⟨rfl,hb2⟩;have qC:=QH hb2;clear hb2));go_ret;have hB:Below w.heap.size w w2:=((Below.refl _ w).alloc (Nat.le_refl _) _).trans (qC.out.mono (by simp));exact⟨rfl,own,H.out.keep hB.size (fun j hj=>hB.block j (HL.out j hj)),qB.of_below hB,ub.refl _ _⟩
end
end Go.Proofs.YtdpbdkacngaemaaGreatDoor.dk
namespace Go.Proofs.YtdpbdkacngaemaaGreatDoor.dk
open _root_.Go.Proofs.Tryz Go Go.RowKit
theorem qfG(d:DD)(k:Int)(v:Bt):(d.write k v).2.more.length≤d.more.length+1:=by
 have ho:=(xU d).2.1;unfold DD.write;split
 ·simp
 ·split
  ·simp
  ·split
   ·simp
   ·split
    ·simp[ho]
    ·simp
end Go.Proofs.YtdpbdkacngaemaaGreatDoor.dk
namespace Go.Proofs.YtdpbdkacngaemaaGreatDoor
open _root_.Go.Proofs.Tryz Go
def ud (n:Nat):Nat:=if n%2=1 then n/2^^^3988292384 else n/2
def xV:Nat→Nat→Nat
 | 0,n=>n
 | k+1,n=>xV k (ud n)
def wA (n:Nat)(b:UInt8):Nat:=xV 8 (n^^^b.toNat)
def sw (n:Nat)(l:List UInt8):Nat:=l.foldl wA n
def vO (l:List UInt8):Nat:=sw 4294967295 l^^^4294967295
theorem oh (n:Nat):ud n=n/2^^^(if n%2=1 then 3988292384 else 0):=by
 unfold ud;split <;> simp
theorem qne(a b:Nat):(a^^^b)%2=(a%2)^^^(b%2):=Nat.xor_mod_two_pow (n:=1)
theorem qjl(a b:Nat):ud (a^^^b)=ud a^^^ud b:=by
 rw[oh,oh a,oh b,Nat.xor_div_two,qne];have ha:a%2=0∨a%2=1:=by omega
 have hb:b%2=0∨b%2=1:=by omega
 have h2:∀x y p:Nat,x^^^(y^^^p)=x^^^y^^^p:=fun x y p=>(Nat.xor_assoc x y p).symm;have h3:∀x p:Nat,x^^^p^^^p=x:=fun x p=>by
  rw[Nat.xor_assoc,Nat.xor_self,Nat.xor_zero]
 have h4:∀x y p:Nat,x^^^p^^^y=x^^^y^^^p:=fun x y p=>by
  rw[Nat.xor_assoc,Nat.xor_comm p y,← Nat.xor_assoc]
 rcases ha with ha|ha <;> rcases hb with hb|hb <;> simp[ha,hb,h2,h3,h4]
theorem bZ:∀(k a b:Nat),xV k (a^^^b)=xV k a^^^xV k b
 | 0,_,_=>rfl
 | k+1,a,b=>by simp only[xV,qjl,bZ k]
theorem qnf(n:Nat)(h:n<4294967296):ud n<4294967296:=by
 unfold ud;split
 ·exact Nat.xor_lt_two_pow (n:=32) (by omega) (by omega)
 ·omega
theorem tT:∀(k n:Nat),n<4294967296→xV k n<4294967296
 | 0,_,h=>h
 | k+1,n,h=>tT k _ (qnf n h)
theorem qtH(b:UInt8):b.toNat<256:=b.toNat_lt
theorem qcQ(n:Nat)(b:UInt8)(h:n<4294967296):n^^^b.toNat<4294967296:=by
 have:=qtH b;exact Nat.xor_lt_two_pow (n:=32) (by omega) (by omega)
theorem qcR(n:Nat)(b:UInt8)(h:n<4294967296):wA n b<4294967296 :=
 tT 8 _ (qcQ n b h)
theorem qaZ:∀(l:List UInt8) (n:Nat),n<4294967296→sw n l<4294967296
 | [],_,h=>h
 | b::l,n,h=>qaZ l _ (qcR n b h)
theorem qjm(l:List UInt8):vO l<4294967296 :=
 Nat.xor_lt_two_pow (n:=32) (qaZ l _ (by omega)) (by omega)
theorem qjn(n:Nat)(l:List UInt8)(b:UInt8):sw n (l++[b])=wA (sw n l) b:=by
 simp[sw]
def eP:List Nat:=[0,498536548,997073096,651767980,1994146192,1802195444,1303535960,1342533948,3988292384,4027552580,3604390888,3412177804,2607071920,2262029012,2685067896,3183342108]
def yn (n f:Nat):Nat:=n/16^^^eP.getD ((n%256^^^f)%16) 0
theorem qhK(n:Nat):n=n/16*16^^^n%16:=by
 have hd:(n/16*16^^^n%16)/2 ^ 4=n/16:=by
  rw[Nat.xor_div_two_pow];have h1:n/16*16/2 ^ 4=n/16:=by omega
  have h2:n%16/2 ^ 4=0:=by omega
  rw[h1,h2,Nat.xor_zero]
 have hm:(n/16*16^^^n%16)%2 ^ 4=n%16:=by
  rw[Nat.xor_mod_two_pow];have h1:n/16*16%2 ^ 4=0:=by omega
  have h2:n%16%2 ^ 4=n%16:=by omega
  rw[h1,h2,Nat.zero_xor]
 omega
theorem eQ (m:Nat):xV 4 (m*16)=m:=by
 have h1:ud (m*16)=m*8:=by unfold ud;rw[if_neg (by omega)];omega
 have h2:ud (m*8)=m*4:=by unfold ud;rw[if_neg (by omega)];omega
 have h3:ud (m*4)=m*2:=by unfold ud;rw[if_neg (by omega)];omega
 have h4:ud (m*2)=m:=by unfold ud;rw[if_neg (by omega)];omega
 simp only[xV,h1,h2,h3,h4]
theorem qcS:∀r:Nat,r<16→xV 4 r=eP.getD r 0:=by decide +kernel
theorem qr7(n:Nat):xV 4 n=n/16^^^eP.getD (n%16) 0:=by
 have h:=qhK n;have e:xV 4 (n/16*16^^^n%16)=n/16^^^eP.getD (n%16) 0:=by
  rw[bZ,eQ,qcS _ (by omega)]
 rw[← h]at e;exact e
theorem oq (j:Nat):∀(k n:Nat),xV (k+j) n=xV j (xV k n)
 | 0,n=>by simp[xV]
 | k+1,n=>by
  rw[show k+1+j=(k+j)+1 from by omega];simp only[xV];exact oq j k _
theorem aW (a b:Nat):(a^^^b)%16=(a%16)^^^(b%16):=Nat.xor_mod_two_pow (n:=4)
theorem qjo(a b:Nat):(a^^^b)/16=(a/16)^^^(b/16):=Nat.xor_div_two_pow (n:=4)
theorem lK (n f:Nat)(hf:f/16=0):yn n f=xV 4 (n^^^f):=by
 rw[qr7,qjo,hf,Nat.xor_zero,aW];unfold yn;rw[aW,show n%256%16=n%16 from by omega]
theorem qba(n f:Nat):yn n f=yn n (f%16):=by
 unfold yn;rw[aW,aW _ (f%16),show f%16%16=f%16 from by omega]
theorem halves(n:Nat)(b:UInt8):yn (yn n b.toNat) (b.toNat/16)=wA n b:=by
 have hb:=qtH b;unfold wA;rw[qba n,lK _ _ (by omega),lK _ _ (by omega),oq 4 4]
 congr 1
 have h:=qhK b.toNat;have e:xV 4 (n^^^b.toNat)=xV 4 (n^^^b.toNat%16)^^^b.toNat/16:=by
  have:n^^^b.toNat=(n^^^b.toNat%16)^^^b.toNat/16*16:=by
   rw[Nat.xor_assoc,Nat.xor_comm (b.toNat%16),← h]
  rw[this,bZ,eQ]
 exact e.symm
theorem qcT(n f:Nat)(h:n<4294967296):yn n f<4294967296:=by
 have hi:(n%256^^^f)%16<16:=Nat.mod_lt _ (by omega);have ht:∀i:Nat,i<16→eP.getD i 0<4294967296:=by decide
 exact Nat.xor_lt_two_pow (n:=32) (by omega) (ht _ hi)
def be4 (n:Nat):List UInt8:=[UInt8.ofNat (n/16777216%256),UInt8.ofNat (n/65536%256),UInt8.ofNat (n/256%256),UInt8.ofNat (n%256)]
theorem ofNat_inj(a b:Nat)(ha:a<256)(hb:b<256)(h:UInt8.ofNat a=UInt8.ofNat b):a=b:=by
 have:=congrArg UInt8.toNat h;simp[UInt8.toNat_ofNat']at this;omega
def qhL (l:List UInt8):List UInt8:=be4 (vO l)
def dV (l:List UInt8):List UInt8:=l++qhL l
def qng (l:List UInt8):Option (List UInt8) :=
 if l.length<4 then none
 else if l.drop (l.length-4)=qhL (l.take (l.length-4))then some (l.take (l.length-4))else none
theorem qbb(l:List UInt8):(qhL l).length=4:=rfl
theorem eR (l:List UInt8):(dV l).length=l.length+4:=by simp[dV,qbb]
theorem qcU(l:List UInt8):qng (dV l)=some l:=by
 have h:(dV l).length-4=l.length:=by rw[eR];omega
 unfold qng;rw[if_neg (by rw[eR];omega),h];have h1:(dV l).drop l.length=qhL l:=by simp[dV]
 have h2:(dV l).take l.length=l:=by simp[dV]
 rw[h1,h2,if_pos rfl]
def nsec (n:Nat):Nat:=(n+37)/32
def pad (l:List UInt8):List UInt8:=l++List.replicate (32-l.length) 0
def mD (n:Nat):List UInt8:=[UInt8.ofNat (n/256%256),UInt8.ofNat (n%256)]
def headB (t:List UInt8):List UInt8:=mD t.length++be4 (vO t)
def mE (t:List UInt8):List UInt8:=headB t++t
def yM (t:List UInt8):List UInt8:=mE t++List.replicate (nsec t.length*32-6-t.length) 0
def uM (f:List UInt8)(i:Nat):List UInt8:=(f.drop (32*i)).take 32
def chunks (k:Nat)(f:List UInt8):List (List UInt8):=(List.range k).map (uM f)
def wC (k:Nat)(f:List UInt8):List (List UInt8):=(List.range k).map fun i=>pad (uM f i)
def qN (t:List UInt8):List (List UInt8):=wC (nsec t.length) (mE t)
def vP (ps:List (List UInt8))(t:List UInt8):Prop:=t.length≤8192∧ps=qN t
theorem qbc(t:List UInt8):(headB t).length=6:=rfl
theorem dW (t:List UInt8):(mE t).length=t.length+6:=by simp[mE,qbc];omega
theorem qbd(n:Nat):n+6≤nsec n*32:=by unfold nsec;omega
theorem eT (n:Nat):0<nsec n:=by unfold nsec;omega
theorem jo (t:List UInt8):(yM t).length=32*nsec t.length:=by
 have:=qbd t.length;simp[yM,dW];omega
theorem yf (t:List UInt8):(qN t).length=nsec t.length:=by simp[qN,wC]
theorem qbe(k:Nat)(f:List UInt8):(wC k f).length=k:=by simp[wC]
theorem qfH(k:Nat)(f:List UInt8):wC (k+1) f=wC k f++[pad (uM f k)]:=by simp[wC,List.range_succ]
theorem qcV(k:Nat)(f:List UInt8):chunks (k+1) f=chunks k f++[uM f k]:=by simp[chunks,List.range_succ]
theorem gQ (f:List UInt8)(i:Nat):(uM f i).length≤32:=by simp[uM];omega
theorem ot (l:List UInt8)(h:l.length≤32):(pad l).length=32:=by simp[pad];omega
theorem qjp(t:List UInt8)(i:Nat)(h:i<nsec t.length):pad (uM (mE t) i)=uM (yM t) i:=by
 have hl:=dW t;have hn:=qbd t.length;have hi:32*i≤(mE t).length:=by unfold nsec at h;omega
 have ht:32*(i+1)≤nsec t.length*32:=by omega
 unfold pad uM yM;rw[List.drop_append_of_le_length hi,List.take_append,List.take_replicate,List.length_take,List.length_drop]
 congr 1
 congr 1
 omega
theorem qcW(t:List UInt8):qN t=chunks (nsec t.length) (yM t):=by
 unfold qN wC chunks;apply List.map_congr_left;intro i hi;exact qjp t i (by simpa using hi)
theorem dX (f:List UInt8):∀k,(chunks k f).flatten=f.take (32*k)
 | 0=>by simp[chunks]
 | k+1=>by
  rw[qcV,List.flatten_append,dX f k];simp only[List.flatten_cons,List.flatten_nil,List.append_nil,uM];rw[show 32*(k+1)=32*k+32 from by omega,List.take_add]
theorem yX (t:List UInt8):(qN t).flatten=yM t:=by
 rw[qcW,dX,List.take_of_length_le];rw[jo];exact Nat.le_refl _
theorem aX (t:List UInt8)(i:Nat)(h:i<(qN t).length):(qN t)[i].length=32:=by
 simp only[qN,wC,List.getElem_map];exact ot _ (gQ _ _)
theorem qcX(k:Nat)(f:List UInt8):chunks (k+1) f=f.take 32::chunks k (f.drop 32):=by
 simp only[chunks,List.range_succ_eq_map,List.map_cons,List.map_map,uM]
 congr 1
 apply List.map_congr_left;intro i _;simp only[Function.comp,uM,List.drop_drop];rw[show 32*(i+1)=32+32*i from by omega]
theorem chunks_flatten:∀ps:List (List UInt8),(∀i (h:i<ps.length),ps[i].length=32)→chunks ps.length ps.flatten=ps
 | [],_=>rfl
 | p::ps,h=>by
  have h0:p.length=32:=h 0 (by simp);have ih:=chunks_flatten ps fun i hi=>h (i+1) (Nat.succ_lt_succ hi);rw[List.length_cons,qcX,List.flatten_cons,List.take_left' h0,List.drop_left' h0,ih]
theorem wD:∀ps:List (List UInt8),(∀i (h:i<ps.length),ps[i].length=32)→ps.flatten.length=32*ps.length
 | [],_=>rfl
 | p::ps,h=>by
  have h0:p.length=32:=h 0 (by simp);have ih:=wD ps fun i hi=>h (i+1) (Nat.succ_lt_succ hi);rw[List.flatten_cons,List.length_append,ih,h0,List.length_cons];omega
theorem uj (t:List UInt8):(yM t).take 2=mD t.length:=rfl
theorem qbf(t:List UInt8):(yM t).drop 6=t++List.replicate (nsec t.length*32-6-t.length) 0:=rfl
theorem dY (t:List UInt8):((yM t).drop 6).take t.length=t:=by rw[qbf];simp
theorem qcY(n m:Nat)(hn:n<65536)(hm:m<65536)(h:mD n=mD m):n=m:=by
 simp only[mD,List.cons.injEq,and_true]at h;have:=ofNat_inj _ _ (by omega) (by omega) h.1;have:=ofNat_inj _ _ (by omega) (by omega) h.2;omega
theorem qnh(n:Nat)(h:n<65536):256*(UInt8.ofNat (n/256%256)).toNat+(UInt8.ofNat (n%256)).toNat=n:=by
 simp[UInt8.toNat_ofNat'];omega
theorem qfI(t u:List UInt8)(ht:t.length<65536)(hu:u.length<65536)(h:yM t=yM u):t=u:=by
 have hl:=qcY _ _ ht hu (by rw[← uj,← uj,h]);rw[← dY t,← dY u,h,hl]
theorem qni(t u:List UInt8)(ht:t.length<65536)(hu:u.length<65536)(h:qN t=qN u):t=u :=
 qfI t u ht hu (by rw[← yX,← yX,h])
theorem ou (ps:List (List UInt8))(t u:List UInt8)(ht:vP ps t)(hu:vP ps u):t=u :=
 qni t u (by have:=ht.1;omega) (by have:=hu.1;omega) (by rw[← ht.2,← hu.2])
def sx (f:List UInt8):Option (List UInt8) :=
 match f with
 | a::b::_::_::_::_::r=>if r.length<256*a.toNat+b.toNat then none else some (r.take (256*a.toNat+b.toNat))
 | _=>none
theorem qfJ(f:List UInt8)(h:f.length<6):sx f=none:=by
 unfold sx;split
 ·simp at h;omega
 ·rfl
theorem qhM(f:List UInt8)(h:6≤f.length):sx f=if f.length-6<256*f[0].toNat+f[1].toNat then none else some ((f.drop 6).take (256*f[0].toNat+f[1].toNat)):=by
 match f,h with
 | a::b::_::_::_::_::r,_=>simp[sx]
theorem qfK(t:List UInt8)(ht:t.length<65536):sx (yM t)=some t:=by
 have hl:=qbd t.length;have hw:=jo t;have h0:(yM t)[0]'(by omega)=UInt8.ofNat (t.length/256%256):=rfl;have h1:(yM t)[1]'(by omega)=UInt8.ofNat (t.length%256):=rfl;rw[qhM _ (by omega),h0,h1,qnh _ ht,if_neg (by omega),dY]
end Go.Proofs.YtdpbdkacngaemaaGreatDoor
namespace Go.Proofs.YtdpbdkacngaemaaGreatDoor.jr
open _root_.Go.Proofs.Tryz dk wi
abbrev Wr:=Int × Bt
inductive Step where
 | w (k:Int) (v:Bt)
 | f
def ke (d:DD):Step→Int × DD
 | .w k v=>d.write k v
 | .f=>d.flush
def dZ:List Step→DD→Int × DD
 | [],d=>(0,d)
 | s::r,d=>if (ke d s).1=0 then dZ r (ke d s).2 else ke d s
def kd (l:List Wr):List Step:=l.map fun x=>.w x.1 x.2
def qH:List (List Wr)→List Step
 | []=>[]
 | l::r=>kd l ++ .f::qH r
def rd (s:qE)(k:Int):Bt:=(dk.look s k).getD zz
def kQ (a c:Nat):Bt:=zx (a+1)++zx c++List.replicate (32-(zx (a+1)).length-(zx c).length) 0
def pairs:List (Nat × Nat):=(List.range 2).flatMap fun a=>(List.range 73).map fun c=>(a,c)
def bu (s:Bt):Option (Nat × Nat):=pairs.find? fun p=>kQ p.1 p.2 == s
def wB (x:Wr):Bt:=zx x.1.toNat++bB x.2
def zq (l:List Wr):Bt:=zx l.length++(l.map wB).flatten
def iL:Nat→Bt→Option (List Wr × Bt)
 | 0,t=>some ([],t)
 | n+1,t=>match rdNum t with
  | none=>none
  | some (a,t1)=>match jd t1 with
   | none=>none
   | some (v,t2)=>match iL n t2 with
    | none=>none
    | some (l,r)=>some ((((min a 1024:Nat):Int),v)::l,r)
def bJ (t:Bt):Option (List Wr):=match rdNum t with
 | none=>none
 | some (n,r)=>if n<1∨60<n then none else match iL n r with
  | some (l,[])=>some l
  | _=>none
open Classical in
noncomputable def unB (ps:List Bt):Option Bt:=if h:∃t,vP ps t then some h.choose else none
def zY (s:qE)(a c:Nat):List Bt:=(List.range c).map fun i=>rd s ((1+a*72+i:Nat):Int)
noncomputable def aa (s:qE)(a c:Nat):Option (List Wr):=(unB (zY s a c)).bind bJ
def okW (n:Nat)(x:Wr):Bool:=decide (145≤x.1)&&decide (x.1<(n:Int))&&decide (x.2.length=32)
def found (acc:List Int)(l:List Wr):List Int:=l.foldl (fun acc x=>ye acc x.1) acc
def vQ (n:Nat)(l:List Wr):Bool:=l.all (okW n)&&decide ((found [] l).length=l.length)
def zr:Nat→List Bt→List Wr
 | _,[]=>[]
 | o,s::r=>((o:Int),s)::zr (o+1) r
def lay (a:Nat)(ss:List Bt):List Wr:=zr (1+a*72) ss
def yY (a:Nat)(l:List Wr):List (List Wr):=[lay (1-a) (qN (zq l)),[(0,kQ (1-a) (qN (zq l)).length)],l]
def placesOf(bs:List (List Wr)):List Int:=bs.flatten.map (·.1)
def kE (d:DD):Int × DD:=if d.on=false then(6,d)else if d.n≤145 then(2,d)else dZ (qH [[(0,kQ 0 0)]]) d
def xf (d:DD)(l:List Wr):Int × DD :=
 if d.on=false then(6,d)
 else if l.length=0 then(0,d)
 else if 60<l.length then(3,d)
 else if vQ d.n l=false then(2,d)
 else match bu (rd d.now 0)with
  | none=>(8,d)
  | some (a,_) =>
   if 8192<(zq l).length∨72<(qN (zq l)).length then(3,d)
   else if d.fits (placesOf (yY a l))=false then(7,d)
   else dZ (qH (yY a l)) d
noncomputable def xn (d:DD):Int × DD :=
 if d.on=false then(6,d)
 else match bu (rd d.now 0)with
  | none=>(8,d)
  | some (a,c) =>
   if c=0 then(0,d)
   else match aa d.now a c with
    | none=>(8,d)
    | some l=>if vQ d.n l=false then(8,d)else dZ (qH [l]) d
theorem qvI:pairs.all (fun p=>decide ((kQ p.1 p.2).length=32)&&decide (bu (kQ p.1 p.2)=some p)&&decide (kQ p.1 p.2≠zz))=true:=by decide +kernel
theorem qjq{a c:Nat}(ha:a<2)(hc:c≤72):(a,c)∈pairs:=by
 unfold pairs;rw[List.mem_flatMap];exact⟨a,by simpa using ha,List.mem_map.2 ⟨c,by simp;omega,rfl⟩⟩
theorem qnj{p:Nat × Nat}(h:p∈pairs):p.1<2∧p.2≤72:=by
 unfold pairs at h;rw[List.mem_flatMap]at h;obtain⟨a,ha,h⟩:=h;obtain⟨c,hc,rfl⟩:=List.mem_map.1 h;simp at ha hc;exact⟨ha,by omega⟩
theorem uN {a c:Nat}(ha:a<2)(hc:c≤72):(kQ a c).length=32∧bu (kQ a c)=some (a,c)∧kQ a c≠zz:=by
 have:=List.all_eq_true.1 qvI (a,c) (qjq ha hc);simp only[Bool.and_eq_true,decide_eq_true_eq]at this;exact⟨this.1.1,this.1.2,this.2⟩
theorem uw {s:Bt}{a c:Nat}(h:bu s=some (a,c)):a<2∧c≤72∧s=kQ a c:=by
 have h1:=List.find?_some h;have h2:=qnj (List.mem_of_find?_eq_some h);exact⟨h2.1,h2.2,(by simpa using h1:kQ a c=s).symm⟩
theorem qhN:∀(l:List Wr) (r:Bt),(∀x∈l,0≤x.1∧x.1≤1024∧x.2.length=32)→iL l.length ((l.map wB).flatten++r)=some (l,r)
 | [],r,_=>rfl
 | x::l,r,h=>by
  obtain⟨h0,h1,h2⟩:=h x (by simp);have ih:=qhN l r (fun y hy=>h y (by simp[hy]));simp only[List.length_cons,List.map_cons,List.flatten_cons,iL,wB,List.append_assoc];rw[uq _ (by omega)];dsimp only;rw[nr _ (by omega)];dsimp only;rw[ih];have e:((min x.1.toNat 1024:Nat):Int)=x.1:=by omega
  simp only[e]
theorem qjr(l:List Wr)(h0:1≤l.length)(h1:l.length≤60)(h:∀x∈l,0≤x.1∧x.1≤1024∧x.2.length=32):bJ (zq l)=some l:=by
 unfold bJ zq;rw[uq _ (by omega)];dsimp only;rw[if_neg (by omega)];have:=qhN l [] h;rw[List.append_nil]at this;rw[this]
theorem qnk(t:Bt)(h:t.length≤8192):unB (qN t)=some t:=by
 unfold unB;have hx:∃u,vP (qN t) u:=⟨t,h,rfl⟩;rw[dif_pos hx];exact congrArg some (ou _ _ _ hx.choose_spec ⟨h,rfl⟩)
theorem qA (n:Nat):(zx n).length≤9:=by
 have:=jM n;simp[zx];omega
theorem qvJ(x:Wr)(h:x.2.length=32):(wB x).length≤50:=by
 have h1:=qA x.1.toNat;have h2:=qA x.2.length;simp only[wB,bB,List.length_append];omega
theorem qnl(l:List Wr)(h:∀x∈l,x.2.length=32):((l.map wB).flatten).length≤50*l.length:=by
 induction l with
 | nil=>simp
 | cons x l ih =>
  have:=qvJ x (h x (by simp));have:=ih (fun y hy=>h y (by simp[hy]));simp only[List.map_cons,List.flatten_cons,List.length_append,List.length_cons];omega
theorem qjs(l:List Wr):∀acc:List Int,(found acc l).length≤acc.length+l.length:=by
 induction l with
 | nil=>intro acc;simp[found]
 | cons x l ih =>
  intro acc;have h1:=ih (ye acc x.1);have h2:(ye acc x.1).length≤acc.length+1:=by
   unfold ye;split <;> simp
  simp only[found,List.foldl_cons,List.length_cons]at h1 ⊢;omega
def nat (l:List Wr):List (Nat × Bt):=l.map fun x=>(x.1.toNat,x.2)
theorem xt:∀(l:List (Nat × Bt)) (s:qE) (k:Int),(∀x∈l,(x.1:Int)≠k)→dk.look (qR s l) k=dk.look s k
 | [],_,_,_=>rfl
 | x::l,s,k,h=>by
  rw[aV,xt l _ k (fun y hy=>h y (by simp[hy]))];exact xa s x.1 k _ (Ne.symm (h x (by simp)))
theorem eU:∀(l:List (Nat × Bt)) (s s':qE) (k:Nat),k<s.length→k<s'.length→(∃x∈l,x.1=k)→dk.look (qR s l) (k:Int)=dk.look (qR s' l) (k:Int)
 | [],_,_,_,_,_,⟨x,hx,_⟩=>absurd hx (by simp)
 | x::l,s,s',k,hs,hs',h=>by
  rw[aV,aV];by_cases hl:∃y∈l,y.1=k
  ·exact eU l _ _ k (by simpa[dk.put]using hs) (by simpa[dk.put]using hs') hl
  ·have hx:x.1=k:=by
      obtain⟨y,hy,e⟩:=h;rcases List.mem_cons.1 hy with rfl|hy
      ·exact e
      ·exact absurd ⟨y,hy,e⟩ hl
   have hn:∀y∈l,(y.1:Int)≠(k:Int):=fun y hy e=>hl ⟨y,hy,by omega⟩;rw[xt l _ _ hn,xt l _ _ hn,hx];unfold dk.put;rw[zL _ _ _ hs,zL _ _ _ hs']
theorem qjt(l y:List (Nat × Bt))(s:qE)(k:Int)(hy:∀x∈y,x∈l)(hl:∀x∈l,x.1<s.length):dk.look (qR (qR s y) l) k=dk.look (qR s l) k:=by
 by_cases hk:∃x∈l,(x.1:Int)=k
 ·obtain⟨x,hx,rfl⟩:=hk;exact eU l _ _ x.1 (by rw[zA];exact hl x hx) (hl x hx) ⟨x,hx,rfl⟩
 ·have hn:∀x∈l,(x.1:Int)≠k:=fun x hx e=>hk ⟨x,hx,e⟩;rw[xt l _ _ hn,xt l _ _ hn,xt y _ _ (fun x hx=>hn x (hy x hx))]
end Go.Proofs.YtdpbdkacngaemaaGreatDoor.jr
namespace Go.Proofs.YtdpbdkacngaemaaGreatDoor.jr
open _root_.Go.Proofs.Tryz dk wi
abbrev BM:=qE × List (Nat × Bt)
def ap (x:BM):Step→BM
 | .w k v=>(x.1,x.2++[(k.toNat,v)])
 | .f=>(qR x.1 x.2,[])
def apL (ss:List Step)(x:BM):BM:=ss.foldl ap x
def lL (n:Nat):Step→Prop
 | .w k v=>0≤k∧k<(n:Int)∧v.length=32
 | .f=>True
def mk (d:DD)(x:BM)(on:Bool)(qz:Int):DD:={ room:=d.room,base:=x.1,more:=x.2,on:=on,qz:=qz }
def less (f:Int)(n:Nat):Int:=if f=0 then 0 else f-n
theorem qvK(s:qE)(k:Nat)(h:k<s.length)(hl:(dk.look s (k:Int)).isSome=false):cnt s<s.length:=by
 have h1:=wW s k [] h;rw[hl]at h1;have h2:=qaT (s.set k (some []));rw[h1,List.length_set]at h2;simp at h2;omega
theorem q0d(x:BM)(s:Step):(ap x s).1.length=x.1.length:=by cases s <;> simp[ap,zA]
theorem step_mk(d:DD)(xc:d.on=true)(hf:0≤d.qz)(hr:(d.n:Int)≤d.room)(s:Step)(hs:lL d.n s) :
    ke d s=if d.qz=1 then(6,mk d (d.base,d.more) false 0)else(0,mk d (ap (d.base,d.more) s) true (less d.qz 1)):=by
 have hop:d.oper=if d.qz=1 then mk d (d.base,d.more) false 0 else mk d (d.base,d.more) true (less d.qz 1):=by
  unfold DD.oper less;by_cases h1:d.qz=1
  ·rw[if_pos h1,if_pos h1];rfl
  ·rw[if_neg h1,if_neg h1];by_cases h2:1<d.qz
   ·rw[if_pos h2,if_neg (by omega)];unfold mk;rw[← xc];rfl
   ·have h0:d.qz=0:=by omega
    rw[if_neg h2,if_pos h0];obtain⟨r,b,m,o,f⟩:=d;simp only at xc h0;subst xc h0;rfl
 cases s with
 | w k v =>
  obtain⟨h0,h1,h2⟩:=hs;unfold ke DD.write;dsimp only;have hh:d.has k=true:=by simp[DD.has,h0,h1]
  rw[if_neg (by rw[xc];simp),if_neg (by rw[hh];simp[h2])];have hfull:¬ ((dk.look d.now k).isSome=false∧d.room≤(d.used:Int)):=by
   rintro⟨g1,g2⟩;obtain⟨j,rfl⟩:=Int.eq_ofNat_of_zero_le h0;have:=qvK d.now j (by rw[d.yJ];omega) g1;rw[d.yJ]at this;unfold DD.used at g2;omega
  rw[if_neg hfull,hop];by_cases h1:d.qz=1
  ·rw[if_pos h1,if_pos h1,if_pos (by rfl)]
  ·rw[if_neg h1,if_neg h1,if_neg (by simp[mk])];rfl
 | f =>
  unfold ke DD.flush;dsimp only;rw[if_neg (by rw[xc];simp),hop];by_cases h1:d.qz=1
  ·rw[if_pos h1,if_pos h1,if_pos (by rfl)]
  ·rw[if_neg h1,if_neg h1,if_neg (by simp[mk])];rfl
theorem eV:∀(ss:List Step) (d:DD),d.on=true→0≤d.qz→(d.n:Int)≤d.room→(∀s∈ss,lL d.n s)→(d.qz=0∨(ss.length:Int)<d.qz) →
    dZ ss d=(0,mk d (apL ss (d.base,d.more)) true (less d.qz ss.length))
 | [],d,xc,hf,hr,hs,h=>by
  have e:less d.qz 0=d.qz:=by unfold less;split <;> omega
  have e2:mk d (d.base,d.more) true d.qz=d:=by
   obtain⟨r,b,m,o,f⟩:=d;simp only at xc;subst xc;rfl
  show(0,d)=_;rw[List.length_nil,e];exact congrArg (Prod.mk 0) e2.symm
 | s::r,d,xc,hf,hr,hs,h=>by
  have h1:¬ d.qz=1:=by simp only[List.length_cons]at h;omega
  have hst:=step_mk d xc hf hr s (hs s (by simp));rw[if_neg h1]at hst;unfold dZ;rw[hst];dsimp only;rw[if_pos rfl];have hf':0≤less d.qz 1:=by unfold less;split <;> omega
  have hfe:less d.qz 1=0∨(r.length:Int)<less d.qz 1:=by
   simp only[List.length_cons]at h;unfold less;split <;> omega
  have hn:(mk d (ap (d.base,d.more) s) true (less d.qz 1)).n=d.n:=q0d _ _;rw[eV r (mk d (ap (d.base,d.more) s) true (less d.qz 1)) rfl hf' (by rw[hn];exact hr) (fun x hx=>by rw[hn];exact hs x (by simp[hx])) hfe];have e:less (less d.qz 1) r.length=less d.qz (s::r).length:=by
   simp only[List.length_cons]at h ⊢;unfold less;split
   ·simp
   ·split <;> omega
  show(0,mk d (apL r (ap (d.base,d.more) s)) true (less (less d.qz 1) r.length))=_;rw[e];rfl
theorem ov:∀(ss:List Step) (d:DD),d.on=true→(d.n:Int)≤d.room→(∀s∈ss,lL d.n s)→1≤d.qz→d.qz≤(ss.length:Int) →
    dZ ss d=(6,mk d (apL (ss.take (d.qz-1).toNat) (d.base,d.more)) false 0)
 | [],d,xc,hr,hs,h1,h=>by simp at h;omega
 | s::r,d,xc,hr,hs,h1,h=>by
  have hst:=step_mk d xc (by omega) hr s (hs s (by simp));unfold dZ;rw[hst];by_cases hf:d.qz=1
  ·rw[if_pos hf];dsimp only;rw[if_neg (by decide),hf];rfl
  ·rw[if_neg hf];dsimp only;rw[if_pos rfl];have e:less d.qz 1=d.qz-1:=by unfold less;rw[if_neg (by omega)];rfl
   have hn:(mk d (ap (d.base,d.more) s) true (less d.qz 1)).n=d.n:=q0d _ _;simp only[List.length_cons]at h;have hmf:(mk d (ap (d.base,d.more) s) true (less d.qz 1)).qz=d.qz-1:=e;rw[ov r (mk d (ap (d.base,d.more) s) true (less d.qz 1)) rfl (by rw[hn];exact hr) (fun x hx=>by rw[hn];exact hs x (by simp[hx])) (by omega) (by omega)];rw[hmf];have e2:(d.qz-1).toNat=(d.qz-1-1).toNat+1:=by omega
   rw[e2,List.take_succ_cons];rfl
theorem cd (a b:List Step)(x:BM):apL (a++b) x=apL b (apL a x):=List.foldl_append
theorem qfL:∀(l:List Wr) (x:BM),apL (kd l) x=(x.1,x.2++nat l)
 | [],x=>by simp[kd,nat,apL]
 | w::l,x=>by
  have ih:=qfL l (ap x (.w w.1 w.2));show apL (kd l) (ap x (.w w.1 w.2))=_;rw[ih];simp[ap,nat]
theorem qjv(l:List Wr)(m:Nat):(kd l).take m=kd (l.take m):=by simp[kd,List.map_take]
theorem ae (l:List Wr):(kd l).length=l.length:=by simp[kd]
theorem tU (l:List Wr)(b:qE):apL (kd l++[.f]) (b,[])=(qR b (nat l),[]):=by
 rw[cd,qfL];rfl
theorem aY:∀(bs:List (List Wr)) (b:qE),apL (qH bs) (b,[])=(qR b (nat bs.flatten),[])
 | [],b=>rfl
 | l::r,b=>by
  have h:qH (l::r)=(kd l++[.f])++qH r:=by simp[qH]
  rw[h,cd,tU,aY r];rw[List.flatten_cons,show nat (l++r.flatten)=nat l++nat r.flatten from List.map_append,jE]
theorem ox:∀(bs:List (List Wr)) (m:Nat) (b:qE),m≤(qH bs).length →
    ∃(pre:List (List Wr)) (l post:_) (j:Nat),bs=pre++l++post∧(l=[]∨∃y,l=[y])∧apL ((qH bs).take m) (b,[])=(qR b (nat pre.flatten),nat (l.flatten.take j))
 | [],m,b,h=>⟨[],[],[],0,rfl,.inl rfl,by simp[qH,apL,nat,qR]⟩
 | x::r,m,b,h=>by
  have hs:qH (x::r)=(kd x++[.f])++qH r:=by simp[qH]
  by_cases hm:m≤x.length
  ·refine⟨[],[x],r,m,by simp,.inr ⟨x,rfl⟩,?_⟩;rw[hs,List.take_append_of_le_length (by simp[ae];omega),List.take_append_of_le_length (by rw[ae];exact hm),qjv,qfL];simp[nat,qR]
  ·have hl:(kd x++[Step.f]).length=x.length+1:=by simp[ae]
   have e:(qH (x::r)).take m=(kd x++[.f])++(qH r).take (m-(x.length+1)):=by
    rw[hs,List.take_append,hl,List.take_of_length_le (by rw[hl];omega)]
   rw[hs,List.length_append,hl]at h;obtain⟨pre,l,post,j,h1,h2,h3⟩:=ox r (m-(x.length+1)) (qR b (nat x)) (by omega);refine⟨x::pre,l,post,j,by simp[h1],h2,?_⟩;rw[e,cd,tU,h3];rw[List.flatten_cons,show nat (x++pre.flatten)=nat x++nat pre.flatten from List.map_append,jE]
def vr (N:Nat)(b:qE)(a c:Nat)(l:List Wr):Prop:=(c=0∧l=[])∨(c≠0∧aa b a c=some l∧vQ N l=true)
def RB (N:Nat)(tgt:Int→Bt)(b:qE):Prop :=
 b.length=N∧(∀v,some v∈b→v.length=32)∧∃a c l,bu (rd b 0)=some (a,c)∧vr N b a c l∧∀k,145≤k→rd (qR b (nat l)) k=tgt k
def JB (N:Nat)(tgt:Int→Bt)(b:qE):Prop:=RB N tgt b∧∀k,145≤k→rd b k=tgt k
structure RJ(N:Nat)(tgt:Int→Bt)(d:DD):Prop where
 on:d.on=true
 more:d.more=[]
 room:(N:Int)≤d.room
 rb:RB N tgt d.base
structure JJ(N:Nat)(tgt:Int→Bt)(d:DD):Prop extends RJ N tgt d where
 is:∀k,145≤k→rd d.base k=tgt k
theorem af {N:Nat}{l:List Wr}(h:vQ N l=true):∀x∈l,145≤x.1∧x.1<(N:Int)∧x.2.length=32:=by
 intro x hx;unfold vQ at h;simp only[Bool.and_eq_true]at h;have:=List.all_eq_true.1 h.1 x hx;simpa[okW,and_assoc]using this
theorem jG (l:List (Nat × Bt))(s:qE)(k:Int)(h:∀x∈l,(x.1:Int)≠k):rd (qR s l) k=rd s k:=by
 unfold rd;rw[xt l s k h]
theorem wY {l:List Wr}{x:Nat × Bt}(h:x∈nat l):∃y∈l,x=(y.1.toNat,y.2):=by
 obtain⟨y,hy,rfl⟩:=List.mem_map.1 h;exact⟨y,hy,rfl⟩
theorem qnm{N:Nat}{l:List Wr}(h:∀x∈l,145≤x.1∧x.1<(N:Int)∧x.2.length=32):∀x∈nat l,145≤x.1∧x.1<N∧x.2.length=32:=by
 intro x hx;obtain⟨y,hy,rfl⟩:=wY hx;have:=h y hy;exact⟨by dsimp only;omega,by dsimp only;omega,this.2.2⟩
theorem sA {s s':qE}{a c:Nat}(h:∀i,i<c→rd s ((1+a*72+i:Nat):Int)=rd s' ((1+a*72+i:Nat):Int)):zY s a c=zY s' a c :=
 List.map_congr_left fun i hi=>h i (List.mem_range.1 hi)
theorem qcZ{s s':qE}{a c:Nat}(h:∀i,i<c→rd s ((1+a*72+i:Nat):Int)=rd s' ((1+a*72+i:Nat):Int)):aa s a c=aa s' a c:=by
 unfold aa;rw[sA h]
theorem eW {N:Nat}{b:qE}{a c:Nat}{l:List Wr}(h:vr N b a c l):∀x∈l,145≤x.1∧x.1<(N:Int)∧x.2.length=32:=by
 rcases h with⟨_,rfl⟩|⟨_,_,h⟩
 ·intro x hx;cases hx
 ·exact af h
theorem eZ {N:Nat}{b:qE}{a c:Nat}{l:List Wr}(h:vr N b a c l)(y:List (Nat × Bt))(hy:∀x∈y,∀i,i<c→x.1≠1+a*72+i):vr N (qR b y) a c l:=by
 rcases h with h|⟨h1,h2,h3⟩
 ·exact .inl h
 ·refine .inr ⟨h1,?_,h3⟩;rw[← h2];exact qcZ fun i hi=>jG _ _ _ fun x hx=>by have:=hy x hx i hi;omega
theorem RB.part{N:Nat}{tgt:Int→Bt}{b:qE}(h1:b.length=N)(h2:∀v,some v∈b→v.length=32){a c:Nat}{l:List Wr}(hh:bu (rd b 0)=some (a,c))(hg:vr N b a c l)(ht:∀k,145≤k→rd (qR b (nat l)) k=tgt k)
    (y:List (Nat × Bt)) (hy:∀x∈y,x∈nat l):RB N tgt (qR b y):=by
 have hp:=qnm (eW hg);obtain⟨ha,hc,_⟩:=uw hh;refine⟨by rw[zA];exact h1,wm h2 (fun x hx=>(hp x (hy x hx)).2.2),a,c,l,?_,eZ hg y (fun x hx i hi=>?_),fun k hk=>?_⟩
 ·rw[jG _ _ _ (fun x hx=>?_)]
  ·exact hh
  ·have:=hp x (hy x hx);omega
 ·have:=hp x (hy x hx);have:a*72≤72:=by omega
  omega
 ·rw[← ht k hk];unfold rd;rw[qjt (nat l) y b k hy (fun x hx=>by have:=hp x hx;omega)]
theorem RB.whole{N:Nat}{tgt:Int→Bt}{b:qE}(h1:b.length=N)(h2:∀v,some v∈b→v.length=32){a c:Nat}{l:List Wr}(hh:bu (rd b 0)=some (a,c))(hg:vr N b a c l)(ht:∀k,145≤k→rd (qR b (nat l)) k=tgt k):JB N tgt (qR b (nat l)) :=
 ⟨RB.part h1 h2 hh hg ht (nat l) (fun _ h=>h),ht⟩
theorem qr8{N:Nat}{l:List Wr}(h:∀x∈l,0≤x.1∧x.1<(N:Int)∧x.2.length=32):∀s∈kd l,lL N s:=by
 intro s hs;obtain⟨x,hx,rfl⟩:=List.mem_map.1 hs;exact h x hx
theorem wZ {N:Nat}:∀ {bs:List (List Wr)},(∀l∈bs,∀x∈l,0≤x.1∧x.1<(N:Int)∧x.2.length=32)→∀s∈qH bs,lL N s
 | [],_,s,hs=>by cases hs
 | l::r,h,s,hs=>by
  have e:qH (l::r)=kd l++(.f::qH r):=rfl;rw[e,List.mem_append,List.mem_cons]at hs;rcases hs with hs|rfl|hs
  ·exact qr8 (h l (by simp)) s hs
  ·trivial
  ·exact wZ (fun l hl=>h l (by simp[hl])) s hs
theorem qhO(d:DD)(x:BM)(f:Int)(keep:List Bool):(mk d x false f).qaU keep=mk d (qR x.1 (stay x.2 keep),[]) true f:=rfl
def qvL (P:DD→Prop)(d:DD):Prop:=d.on=false∧∀keep,P (d.qaU keep)
theorem qda{N:Nat}{tgt:Int→Bt}{d:DD}(h:RJ N tgt d)(hf:0≤d.qz) :
    ((xn d).1=0∧JJ N tgt (xn d).2∧(d.qz=0→(xn d).2.qz=0)∧0≤(xn d).2.qz)∨((xn d).1=6∧qvL (RJ N tgt) (xn d).2∧d.qz≠0∧(xn d).2.qz=0):=by
 obtain⟨xc,hmo,hro,h1,h2,a,c,l,hh,hg,ht⟩:=h;have qnn:d.now=d.base:=by unfold DD.now;rw[hmo];rfl
 have hn:d.n=N:=h1;unfold xn;rw[if_neg (by rw[xc];simp),qnn,hh];dsimp only;by_cases hc:c=0
 ·rw[if_pos hc]
  left
  refine⟨rfl,⟨⟨xc,hmo,hro,h1,h2,a,c,l,hh,hg,ht⟩,fun k hk=>?_⟩,fun h=>h,hf⟩;rcases hg with⟨_,rfl⟩|⟨h',_⟩
  ·exact ht k hk
  ·exact absurd hc h'
 ·rw[if_neg hc];rcases hg with⟨h',_⟩|⟨_,hr,hp⟩
  ·exact absurd h' hc
  have hg':vr N d.base a c l:=.inr ⟨hc,hr,hp⟩;rw[hr];dsimp only;rw[hn,if_neg (by rw[hp];simp)];have hgs:∀s∈qH [l],lL d.n s:=by
   rw[hn];refine wZ fun m hm x hx=>?_;obtain rfl:m=l:=by simpa using hm
   have:=af hp x hx;exact⟨by omega,this.2⟩
  by_cases hfu:d.qz=0∨((qH [l]).length:Int)<d.qz
  ·left
   rw[eV _ d xc hf (by rw[hn];exact hro) hgs hfu,hmo,aY];have hw:=RB.whole h1 h2 hh hg' ht;refine⟨rfl,⟨⟨rfl,rfl,hro,?_⟩,?_⟩,fun h0=>?_,?_⟩
   ·show RB N tgt (qR d.base (nat [l].flatten));simpa using hw.1
   ·show ∀k,145≤k→rd (qR d.base (nat [l].flatten)) k=tgt k;simpa using hw.2
   ·show less d.qz _=0;unfold less;rw[if_pos h0]
   ·show 0≤less d.qz _;unfold less;split <;> omega
  ·right
   have h0:d.qz≠0:=fun h=>hfu (.inl h);rw[ov _ d xc (by rw[hn];exact hro) hgs (by omega) (by omega),hmo];obtain⟨pre,q,post,j,e1,e2,e3⟩:=ox [l] (d.qz-1).toNat d.base (by omega);rw[e3];refine⟨rfl,⟨rfl,fun keep=>?_⟩,h0,rfl⟩;rw[qhO];have key:∃y,(∀x∈y,x∈nat l)∧qR (qR d.base (nat pre.flatten)) (stay (nat (q.flatten.take j)) keep)=qR d.base y:=by
    refine⟨nat pre.flatten++stay (nat (q.flatten.take j)) keep,fun x hx=>?_,by rw[jE]⟩;have qdb:∀z∈pre.flatten++q.flatten,z∈l:=by
     intro z hz;have:z∈[l].flatten:=by rw[e1,List.flatten_append,List.flatten_append];exact List.mem_append_left _ hz
     simpa using this
    rcases List.mem_append.1 hx with hx|hx
    ·obtain⟨z,hz,rfl⟩:=wY hx;exact List.mem_map.2 ⟨z,qdb z (List.mem_append_left _ hz),rfl⟩
    ·obtain⟨z,hz,rfl⟩:=wY (eL _ _ _ hx);exact List.mem_map.2 ⟨z,qdb z (List.mem_append_right _ (List.mem_of_mem_take hz)),rfl⟩
   obtain⟨y,hy,e4⟩:=key;refine⟨rfl,rfl,hro,?_⟩;show RB N tgt (qR (qR d.base (nat pre.flatten)) (stay (nat (q.flatten.take j)) keep));rw[e4];exact RB.part h1 h2 hh hg' ht y hy
def over:(Int→Bt)→List Wr→Int→Bt
 | t,[]=>t
 | t,x::r=>over (fun k=>if k=x.1 then x.2 else t k) r
theorem gh:∀(l:List Wr) (t u:Int→Bt),(∀k,145≤k→t k=u k)→∀k,145≤k→over t l k=over u l k
 | [],_,_,h=>h
 | x::l,t,u,h=>gh l _ _ fun k hk=>by
  split
  ·rfl
  ·exact h k hk
theorem mV:∀(l:List Wr) (b:qE),(∀x∈l,0≤x.1∧x.1<(b.length:Int))→∀k,rd (qR b (nat l)) k=over (rd b) l k
 | [],_,_,_=>rfl
 | x::l,b,h,k=>by
  obtain⟨h0,h1⟩:=h x (by simp);have ih:=mV l (dk.put b x.1.toNat x.2) (fun y hy=>by rw[dk.put,List.length_set];exact h y (by simp[hy])) k;have e:qR b (nat (x::l))=qR (dk.put b x.1.toNat x.2) (nat l):=rfl;rw[e,ih];have e2:rd (dk.put b x.1.toNat x.2)=fun k=>if k=x.1 then x.2 else rd b k:=by
   funext j
   obtain⟨n,hn⟩:=Int.eq_ofNat_of_zero_le h0;unfold rd dk.put;by_cases hj:j=x.1
   ·rw[if_pos hj,hj,hn,Int.toNat_natCast,zL _ _ _ (by omega)];rfl
   ·rw[if_neg hj,xa _ _ _ _ (by omega)]
  rw[e2];rfl
theorem yN (n:Nat)(h:n<65536):(zx n).length≤3:=by
 have e:zI n=xw 2 n:=by
  unfold zI;rw[yA 7 n (by omega),yA 6 n (by omega),yA 5 n (by omega),yA 4 n (by omega),yA 3 n (by omega),yA 2 n (by omega)]
 have:=ix 2 n;simp[zx,e];omega
theorem qno(x:Wr)(h:x.2.length=32)(h0:x.1<65536):(wB x).length≤37:=by
 have h1:=yN x.1.toNat (by omega);have h2:(zx 32).length=2:=by decide
 simp only[wB,bB,List.length_append,h,h2];omega
theorem gj (l:List Wr)(rR:l.length≤60)(h:∀x∈l,x.1<65536∧x.2.length=32):(zq l).length≤2223:=by
 have key:∀l:List Wr,(∀x∈l,x.1<65536∧x.2.length=32)→((l.map wB).flatten).length≤37*l.length:=by
  intro l
  induction l with
  | nil=>intro _;simp
  | cons x l ih =>
   intro h;have:=qno x (h x (by simp)).2 (h x (by simp)).1;have:=ih (fun y hy=>h y (by simp[hy]));simp only[List.map_cons,List.flatten_cons,List.length_append,List.length_cons];omega
 have h1:=key l h;have h2:=yN l.length (by omega);simp only[zq,List.length_append];omega
theorem cf (l:List Wr)(rR:l.length≤60)(h:∀x∈l,x.1<65536∧x.2.length=32):1≤(qN (zq l)).length∧(qN (zq l)).length≤72:=by
 have:=gj l rR h;have:=eT (zq l).length;rw[yf];refine⟨this,?_⟩;unfold nsec;omega
theorem jH:∀(ss:List Bt) (o:Nat) (x:Wr),x∈zr o ss→∃i,i<ss.length∧x.1=((o+i:Nat):Int)∧ss[i]?=some x.2
 | [],_,_,h=>by cases h
 | s::r,o,x,h=>by
  rcases List.mem_cons.1 h with rfl|h
  ·exact⟨0,by simp,by simp,rfl⟩
  ·obtain⟨i,h1,h2,h3⟩:=jH r (o+1) x h;exact⟨i+1,by simpa using h1,by rw[h2];omega,by simpa using h3⟩
theorem oy:∀(ss:List Bt) (o:Nat) (b:qE),o+ss.length≤b.length→∀i (h:i<ss.length),dk.look (qR b (nat (zr o ss))) ((o+i:Nat):Int)=some ss[i]
 | [],_,_,_,i,h=>absurd h (by simp)
 | s::r,o,b,hb,i,h=>by
  simp only[List.length_cons]at hb h;have e:qR b (nat (zr o (s::r)))=qR (dk.put b o s) (nat (zr (o+1) r)):=by
   show qR (dk.put b (o:Int).toNat s) _=_;rw[Int.toNat_natCast];rfl
  rw[e];cases i with
  | zero =>
   rw[xt _ _ _ (fun x hx=>?_)]
   ·unfold dk.put;rw[Nat.add_zero,zL _ _ _ (by omega)];rfl
   ·obtain⟨y,hy,rfl⟩:=wY hx;obtain⟨i,_,h2,_⟩:=jH r (o+1) y hy;dsimp only;omega
  | succ i =>
   have:=oy r (o+1) (dk.put b o s) (by rw[dk.put,List.length_set];omega) i (by omega);rw[show o+(i+1)=o+1+i from by omega,this];rfl
theorem zk:∀(ss:List Bt) (o:Nat),(zr o ss).length=ss.length
 | [],_=>rfl
 | s::r,o=>by simp[zr,zk r]
theorem cj:∀(ss:List Bt) (o:Nat) (s:Bt),zr o (ss++[s])=zr o ss++[(((o+ss.length:Nat):Int),s)]
 | [],o,s=>by simp[zr]
 | t::r,o,s=>by
  have:=cj r (o+1) s;simp only[List.cons_append,zr,this,List.length_cons];rw[show o+1+r.length=o+(r.length+1)from by omega]
theorem oz (s:qE):∀(l acc:List Int),acc.Nodup→(∀x∈acc,0≤x∧x<(s.length:Int)∧(dk.look s x).isSome=false)→(∀x∈l,0≤x∧x<(s.length:Int)) →
    (fresh s acc l).Nodup∧∀x∈fresh s acc l,0≤x∧x<(s.length:Int)∧(dk.look s x).isSome=false
 | [],acc,h1,h2,_=>⟨h1,h2⟩
 | x::r,acc,h1,h2,h3=>by
  unfold fresh;split
  ·exact oz s r acc h1 h2 (fun y hy=>h3 y (by simp[hy]))
  ·rename_i hn;simp only[Bool.or_eq_true,not_or,List.contains_iff_mem]at hn;refine oz s r (acc++[x]) ?_ (fun y hy=>?_) (fun y hy=>h3 y (by simp[hy]))
   ·rw[List.nodup_append];refine⟨h1,by simp,fun a ha b hb=>?_⟩;obtain rfl:b=x:=by simpa using hb
    rintro rfl;exact hn.2 ha
   ·rcases List.mem_append.1 hy with hy|hy
    ·exact h2 y hy
    ·obtain rfl:y=x:=by simpa using hy
     have:=h3 y (by simp);exact⟨this.1,this.2,by simpa using hn.1⟩
theorem tV:∀(acc:List Int) (s:qE),acc.Nodup→(∀x∈acc,0≤x∧x<(s.length:Int)∧(dk.look s x).isSome=false)→cnt s+acc.length≤s.length
 | [],s,_,_=>qaT s
 | x::r,s,h1,h2=>by
  obtain⟨g0,g1,g2⟩:=h2 x (by simp);obtain⟨n,rfl⟩:=Int.eq_ofNat_of_zero_le g0;rw[List.nodup_cons]at h1;have hc:=wW s n [] (by omega);rw[g2]at hc;simp only[Bool.false_eq_true,if_false]at hc;have ih:=tV r (s.set n (some [])) h1.2 (fun y hy=>by
   obtain⟨k0,k1,k2⟩:=h2 y (by simp[hy]);refine⟨k0,by rw[List.length_set];exact k1,?_⟩;rw[xa _ _ _ _ (fun e=>h1.1 (by rw[← e];exact hy))];exact k2)
  rw[List.length_set,hc]at ih;simp only[List.length_cons];omega
theorem qjw(d:DD)(l:List Int)(hr:(d.n:Int)≤d.room)(hl:∀x∈l,0≤x∧x<(d.n:Int)):d.fits l=true:=by
 have hn:=d.yJ;obtain⟨h1,h2⟩:=oz d.now l [] List.nodup_nil (by simp) (fun x hx=>by rw[hn];exact hl x hx);have h3:=tV _ _ h1 h2;unfold DD.fits DD.used;rw[Bool.and_eq_true,Bool.or_eq_true];refine⟨List.all_eq_true.2 fun x hx=>?_,.inr ?_⟩
 ·have:=hl x hx;simp[DD.has,this.1,this.2]
 ·rw[decide_eq_true_eq];rw[hn]at h3;omega
def oA (N:Nat)(l:List Wr):Int:=if l.length=0 then 0 else if 60<l.length then 3 else if vQ N l=false then 2 else 0
theorem qjx{N:Nat}{l:List Wr}(h:oA N l=0)(h0:l.length≠0):l.length≤60∧vQ N l=true:=by
 unfold oA at h;rw[if_neg h0]at h;by_cases h1:60<l.length
 ·rw[if_pos h1]at h;cases h
 ·rw[if_neg h1]at h;by_cases h2:vQ N l=false
  ·rw[if_pos h2]at h;cases h
  ·exact⟨by omega,by simpa using h2⟩
theorem qfM{d:DD}{l:List Wr}(xc:d.on=true)(h:oA d.n l≠0∨l.length=0):xf d l=(oA d.n l,d):=by
 unfold xf;rw[if_neg (by rw[xc];simp)];by_cases h0:l.length=0
 ·rw[if_pos h0];unfold oA;rw[if_pos h0]
 ·rw[if_neg h0];rcases h with h|h
  ·unfold oA at h ⊢;rw[if_neg h0]at h ⊢;by_cases h1:60<l.length
   ·rw[if_pos h1,if_pos h1]
   ·rw[if_neg h1]at h;rw[if_neg h1,if_neg h1];by_cases h2:vQ d.n l=false
    ·rw[if_pos h2,if_pos h2]
    ·rw[if_neg h2]at h;exact absurd rfl h
  ·exact absurd h h0
section
variable {N:Nat} {tgt:Int→Bt} {b:qE} {l:List Wr}
theorem qr9(hN:145<N)(lM:N≤1024)(h1:b.length=N)(h2:∀v,some v∈b→v.length=32)(a:Nat)(ha:a<2)(rR:l.length≤60)(h0:1≤l.length)(hp:vQ N l=true) :
    ∃b2,b2=qR b (nat (lay (1-a) (qN (zq l))++[(0,kQ (1-a) (qN (zq l)).length)]))∧b2.length=N∧(∀v,some v∈b2→v.length=32) ∧
     bu (rd b2 0)=some (1-a,(qN (zq l)).length)∧vr N b2 (1-a) (qN (zq l)).length l∧∀k,145≤k→rd (qR b2 (nat l)) k=over (rd b) l k:=by
 have hall:=af hp;have hsm:∀x∈l,x.1<65536∧x.2.length=32:=fun x hx=>by have:=hall x hx;exact⟨by omega,this.2.2⟩
 obtain⟨s1,s72⟩:=cf l rR hsm;have q0f:=gj l rR hsm;obtain⟨f1,f2,_⟩:=uN (show 1-a<2 by omega) s72;have qrA:∀x∈nat (lay (1-a) (qN (zq l))),∃i,i<(qN (zq l)).length∧x.1=1+(1-a)*72+i∧x.2.length=32:=by
  intro x hx;obtain⟨y,hy,rfl⟩:=wY hx;obtain⟨i,g1,g2,g3⟩:=jH _ _ _ hy;refine⟨i,g1,by dsimp only;omega,?_⟩;have:=aX (zq l) i g1;rw[List.getElem?_eq_getElem g1]at g3;injection g3 with g3
  rw[← g3];exact this
 have e:nat (lay (1-a) (qN (zq l))++[(0,kQ (1-a) (qN (zq l)).length)])=nat (lay (1-a) (qN (zq l)))++[(0,kQ (1-a) (qN (zq l)).length)]:=by simp[nat]
 have xB:∀x∈nat (lay (1-a) (qN (zq l))++[(0,kQ (1-a) (qN (zq l)).length)]),x.1<145∧x.2.length=32:=by
  rw[e];intro x hx;rcases List.mem_append.1 hx with hx|hx
  ·obtain⟨i,g1,g2,g3⟩:=qrA x hx;have:(1-a)*72≤72:=by omega
   exact⟨by omega,g3⟩
  ·obtain rfl:x=_:=by simpa using hx
   exact⟨by dsimp only;omega,f1⟩
 have hlen:(qR b (nat (lay (1-a) (qN (zq l))))).length=N:=by rw[zA];exact h1
 have hb2:(qR b (nat (lay (1-a) (qN (zq l))++[(0,kQ (1-a) (qN (zq l)).length)]))).length=N:=by rw[zA];exact h1
 refine⟨_,rfl,hb2,wm h2 (fun x hx=>(xB x hx).2),?_,.inr ⟨by omega,?_,hp⟩,fun k hk=>?_⟩
 ·rw[e,wk];unfold rd dk.put;rw[show((0:Int))=((0:Nat):Int)from rfl,zL _ _ _ (by omega)];exact f2
 ·have hs:zY (qR b (nat (lay (1-a) (qN (zq l))++[(0,kQ (1-a) (qN (zq l)).length)]))) (1-a) (qN (zq l)).length=qN (zq l):=by
     refine List.ext_getElem (by simp[zY]) fun i g1 g2=>?_;simp only[zY,List.getElem_map,List.getElem_range];rw[e,wk];unfold rd dk.put;rw[xa _ _ _ _ (by omega)]
     have:=oy (qN (zq l)) (1+(1-a)*72) b (by have:(1-a)*72≤72:=by omega
                                             omega) i g2
     unfold lay;rw[this];rfl
  unfold aa;rw[hs,qnk _ (by omega)];exact qjr l h0 rR (fun x hx=>by have:=hall x hx;exact⟨by omega,by omega,this.2.2⟩)
 ·rw[mV l _ (fun x hx=>by have:=hall x hx;rw[hb2];exact⟨by omega,this.2.1⟩)];exact gh l _ _ (fun j hj=>jG _ _ _ fun x hx=>by have:=(xB x hx).1;omega) k hk
theorem oB {d:DD}(hN:145<N)(lM:N≤1024)(h:JJ N tgt d)(hf:0≤d.qz)(q0g:oA N l=0) :
    ((xf d l).1=0∧JJ N (over tgt l) (xf d l).2∧(d.qz=0→(xf d l).2.qz=0)∧0≤(xf d l).2.qz) ∨
    ((xf d l).1=6∧qvL (fun e=>RJ N tgt e∨RJ N (over tgt l) e) (xf d l).2∧d.qz≠0∧(xf d l).2.qz=0):=by
 have hJ:=h;obtain⟨⟨xc,hmo,hro,h1,h2,a,c,l0,hh,hg,ht⟩,his⟩:=h;have qnn:d.now=d.base:=by unfold DD.now;rw[hmo];rfl
 have hn:d.n=N:=h1;by_cases h0:l.length=0
 ·left
  have e:=qfM (l:=l) xc (.inr h0);rw[hn,q0g]at e;rw[e];obtain rfl:l=[]:=List.length_eq_zero_iff.1 h0;exact⟨rfl,hJ,fun h=>h,hf⟩
 obtain⟨rR,hp⟩:=qjx q0g h0;have hall:=af hp;have hsm:∀x∈l,x.1<65536∧x.2.length=32:=fun x hx=>by have:=hall x hx;exact⟨by omega,this.2.2⟩
 obtain⟨s1,s72⟩:=cf l rR hsm;have q0f:=gj l rR hsm;obtain⟨ha,hc,_⟩:=uw hh;obtain⟨f1,_,_⟩:=uN (show 1-a<2 by omega) s72;obtain⟨b2,e2,q1,q2,q3,q4,q5⟩:=qr9 hN lM h1 h2 a ha rR (by omega) hp;have hov:∀k,145≤k→over (rd d.base) l k=over tgt l k:=gh l _ _ his;have hgw:∀m∈yY a l,∀x∈m,0≤x.1∧x.1<(N:Int)∧x.2.length=32:=by
  intro m hm x hx;unfold yY at hm;simp only[List.mem_cons,List.not_mem_nil,or_false]at hm;rcases hm with rfl|rfl|rfl
  ·obtain⟨i,g1,g2,g3⟩:=jH _ _ _ hx;have:=aX (zq l) i g1;rw[List.getElem?_eq_getElem g1]at g3;injection g3 with g3
   have:(1-a)*72≤72:=by omega
   exact⟨by omega,by omega,by rw[← g3];assumption⟩
  ·obtain rfl:x=_:=by simpa using hx
   exact⟨by dsimp only;omega,by dsimp only;omega,f1⟩
  ·have:=hall x hx;exact⟨by omega,this.2⟩
 have qnp:d.fits (placesOf (yY a l))=true:=by
  refine qjw d _ (by rw[hn];exact hro) fun x hx=>?_;obtain⟨y,hy,rfl⟩:=List.mem_map.1 hx;obtain⟨m,hm,hy⟩:=List.mem_flatten.1 hy;have:=hgw m hm y hy;rw[hn];exact⟨this.1,this.2.1⟩
 have e:xf d l=dZ (qH (yY a l)) d:=by
  unfold xf;rw[if_neg (by rw[xc];simp),if_neg h0,if_neg (by omega),hn,if_neg (by rw[hp];simp),qnn,hh];dsimp only;rw[if_neg (by omega),if_neg (by rw[qnp];simp)]
 rw[e];have hgs:∀s∈qH (yY a l),lL d.n s:=by rw[hn];exact wZ hgw
 have q0j:nat (yY a l).flatten=nat (lay (1-a) (qN (zq l))++[(0,kQ (1-a) (qN (zq l)).length)])++nat l:=by
  simp[yY,nat]
 by_cases hfu:d.qz=0∨((qH (yY a l)).length:Int)<d.qz
 ·left
  rw[eV _ d xc hf (by rw[hn];exact hro) hgs hfu,hmo,aY,q0j,jE,← e2];have hw:=RB.whole (tgt:=over tgt l) q1 q2 q3 q4 (fun k hk=>by rw[q5 k hk];exact hov k hk);refine⟨rfl,⟨⟨rfl,rfl,hro,hw.1⟩,hw.2⟩,fun h0=>?_,?_⟩
  ·show less d.qz _=0;unfold less;rw[if_pos h0]
  ·show 0≤less d.qz _;unfold less;split <;> omega
 ·right
  have hf0:d.qz≠0:=fun h=>hfu (.inl h);rw[ov _ d xc (by rw[hn];exact hro) hgs (by omega) (by omega),hmo];obtain⟨pre,q,post,j,e1,hq,e3⟩:=ox (yY a l) (d.qz-1).toNat d.base (by omega);rw[e3];refine⟨rfl,⟨rfl,fun keep=>?_⟩,hf0,rfl⟩;rw[qhO];have old:∀y:List (Nat × Bt),(∀x∈y,x∈nat (lay (1-a) (qN (zq l))))→RJ N tgt (mk d (qR d.base y,[]) true 0):=by
   intro y hy;have hk:∀x∈y,∃i,i<(qN (zq l)).length∧x.1=1+(1-a)*72+i∧x.2.length=32:=by
    intro x hx;obtain⟨z,hz,rfl⟩:=wY (hy x hx);obtain⟨i,g1,g2,g3⟩:=jH _ _ _ hz;have:=aX (zq l) i g1;rw[List.getElem?_eq_getElem g1]at g3;injection g3 with g3
    exact⟨i,g1,by dsimp only;omega,by rw[← g3];assumption⟩
   refine⟨rfl,rfl,hro,by rw[← h1];exact zA _ _,wm h2 (fun x hx=>(hk x hx).choose_spec.2.2),a,c,l0,?_,eZ hg y (fun x hx i hi=>?_),fun k dE=>?_⟩
   ·show bu (rd (qR d.base y) 0)=_;rw[jG _ _ _ (fun x hx=>?_)]
    ·exact hh
    ·obtain⟨i,_,g2,_⟩:=hk x hx;omega
   ·obtain⟨i',g1,g2,_⟩:=hk x hx;have:a=0∨a=1:=by omega
    rcases this with rfl|rfl <;> omega
   ·rw[← ht k dE];show rd (qR (qR d.base y) (nat l0)) k=_;have hin:∀x∈l0,0≤x.1∧x.1<(d.base.length:Int):=fun x hx=>by have:=eW hg x hx;rw[h1];exact⟨by omega,this.2.1⟩
    rw[mV l0 _ (fun x hx=>by rw[zA];exact hin x hx),mV l0 _ hin];refine gh l0 _ _ (fun m hm=>jG _ _ _ fun x hx=>?_) k dE;obtain⟨i,g1,g2,_⟩:=hk x hx;have:(1-a)*72≤72:=by omega
    omega
  have new:∀y:List (Nat × Bt),(∀x∈y,x∈nat l)→RJ N (over tgt l) (mk d (qR b2 y,[]) true 0):=fun y hy =>
   ⟨rfl,rfl,hro,RB.part (tgt:=over tgt l) q1 q2 q3 q4 (fun k hk=>by rw[q5 k hk];exact hov k hk) y hy⟩
  have qdb:∀(m:List Wr) (x:Nat × Bt),x∈stay (nat (m.take j)) keep→x∈nat m:=fun m x hx=>by
   obtain⟨z,hz,rfl⟩:=wY (eL _ _ _ hx);exact List.mem_map.2 ⟨z,List.mem_of_mem_take hz,rfl⟩
  have hnil:∀q:List (List Wr),q=[]→stay (nat (q.flatten.take j)) keep=[]:=fun q hq=>by subst hq;simp[nat,stay]
  show RJ N tgt (mk d (qR (qR d.base (nat pre.flatten)) (stay (nat (q.flatten.take j)) keep),[]) true 0)∨RJ N (over tgt l) (mk d (qR (qR d.base (nat pre.flatten)) (stay (nat (q.flatten.take j)) keep),[]) true 0);unfold yY at e1
  match pre,e1 with
  | [],e1 =>
   left
   have hq':q=[]∨q=[lay (1-a) (qN (zq l))]:=by
    rcases hq with hq|⟨y,rfl⟩
    ·exact .inl hq
    ·simp at e1;exact .inr (by rw[e1.1])
   refine old _ fun x hx=>?_;rcases hq' with rfl|rfl
   ·rw[hnil [] rfl]at hx;cases hx
   ·have:=qdb _ x hx;simpa using this
  | [p1],e1 =>
   have hp1:p1=lay (1-a) (qN (zq l)):=by simp at e1;exact e1.1.symm
   subst hp1;have hq':q=[]∨q=[[(0,kQ (1-a) (qN (zq l)).length)]]:=by
    rcases hq with hq|⟨y,rfl⟩
    ·exact .inl hq
    ·simp at e1;exact .inr (by rw[e1.1])
   have hst:stay (nat (q.flatten.take j)) keep=[]∨stay (nat (q.flatten.take j)) keep=nat [(0,kQ (1-a) (qN (zq l)).length)]:=by
    rcases hq' with rfl|rfl
    ·exact .inl (hnil [] rfl)
    ·match j with
     | 0=>exact .inl (by simp[nat,stay])
     | j+1 =>
      match keep with
      | []=>exact .inl (qcH _)
      | true::_=>exact .inr (by simp[nat,stay])
      | false::_=>exact .inl (by simp[nat,stay])
   rcases hst with hst|hst
   ·left
    rw[hst];have:=old (nat (lay (1-a) (qN (zq l)))) (fun x hx=>hx);simpa[qR]using this
   ·right
    rw[hst];have:=new [] (fun x hx=>by cases hx);rw[e2,show nat (lay (1-a) (qN (zq l))++[(0,kQ (1-a) (qN (zq l)).length)])=nat (lay (1-a) (qN (zq l)))++nat [(0,kQ (1-a) (qN (zq l)).length)]from List.map_append,jE]at this;simpa[qR]using this
  | [p1,p2],e1 =>
   right
   have hp1:p1=lay (1-a) (qN (zq l))∧p2=[(0,kQ (1-a) (qN (zq l)).length)]:=by simp at e1;exact⟨e1.1.symm,e1.2.1.symm⟩
   obtain⟨rfl,rfl⟩:=hp1;have hq':q=[]∨q=[l]:=by
    rcases hq with hq|⟨y,rfl⟩
    ·exact .inl hq
    ·simp at e1;exact .inr (by rw[e1.1])
   have e5:qR d.base (nat [lay (1-a) (qN (zq l)),[(0,kQ (1-a) (qN (zq l)).length)]].flatten)=b2:=by rw[e2];simp
   rw[e5];refine new _ fun x hx=>?_;rcases hq' with rfl|rfl
   ·rw[hnil [] rfl]at hx;cases hx
   ·have:=qdb _ x hx;simpa using this
  | [p1,p2,p3],e1 =>
   right
   have hp1:p1=lay (1-a) (qN (zq l))∧p2=[(0,kQ (1-a) (qN (zq l)).length)]∧p3=l∧q=[]:=by
    simp at e1;exact⟨e1.1.symm,e1.2.1.symm,e1.2.2.1.symm,e1.2.2.2.1⟩
   obtain⟨rfl,rfl,rfl,rfl⟩:=hp1;rw[hnil [] rfl];have e5:qR d.base (nat [lay (1-a) (qN (zq p3)),[(0,kQ (1-a) (qN (zq p3)).length)],p3].flatten)=qR b2 (nat p3):=by rw[e2,← jE];simp[nat]
   rw[e5];have:=new (nat p3) (fun x hx=>hx);simpa[qR]using this
  | p1::p2::p3::p4::r,e1=>simp at e1
end
end Go.Proofs.YtdpbdkacngaemaaGreatDoor.jr
namespace Go.Proofs.YtdpbdkacngaemaaGreatDoor.sp
open _root_.Go.Proofs.Tryz Go Go.RowKit
def bump (cs:List Int)(k:Nat):List Int:=cs.set k (wrap64 (cs.getD k 0+1))
def kV (n:Int):List Int→List Int→Option (List Int)
 | cs,[]=>some cs
 | cs,k::r=>if k=0 then kV n cs r else if k<193∨n≤k then none else kV n (bump cs k.toNat) r
def yZ (zZ:List (List Int))(n:Int):List Int × Int :=
 if n<0∨1024<n then([],2)else match kV n (List.replicate n.toNat 0) zZ.flatten with
  | none=>([],2)
  | some cs=>(cs,0)
def za (cs:List Int)(i:Nat):List Int:=((List.range i).filter fun j=>decide (193≤j)&&decide (cs.getD j 0=0)).map fun(j:Nat)=>(j:Int)
def yo (cs:List Int):Nat:=(za cs cs.length).length
def jq (cs:List Int)(n:Int):List Int × Int :=
 if n<0 then([],2)else if (yo cs:Int)<n then([],7)else((za cs cs.length).take n.toNat,0)
theorem fg (cs:List Int)(k:Nat):(bump cs k).length=cs.length:=by simp[bump]
theorem fh {n:Int}:∀ {l cs cs':List Int},kV n cs l=some cs'→cs'.length=cs.length
 | [],cs,cs',h=>by simp only[kV,Option.some.injEq]at h;rw[h]
 | k::r,cs,cs',h=>by
  unfold kV at h;split at h
  ·exact fh h
  ·split at h
   ·cases h
   ·rw[fh h,fg]
theorem aZ (n:Int)(cs:List Int)(k:Int)(r:List Int):kV n cs (k::r)=if k=0 then kV n cs r else if k<193∨n≤k then none else kV n (bump cs k.toNat) r:=rfl
theorem vu {n:Int}:∀(a b cs:List Int),kV n cs (a++b)=(kV n cs a).bind fun c=>kV n c b
 | [],b,cs=>rfl
 | k::r,b,cs=>by
  show kV n cs (k::(r++b))=_;rw[aZ,aZ];split
  ·exact vu r b cs
  ·split
   ·rfl
   ·exact vu r b _
theorem qjy{n:Int}{a cs c:List Int}(h:kV n cs a=some c)(k:Int):kV n cs (a++[k])=if k=0 then some c else if k<193∨n≤k then none else some (bump c k.toNat):=by
 rw[vu,h];rfl
theorem qjz{n:Int}{a cs:List Int}(h:kV n cs a=none)(b:List Int):kV n cs (a++b)=none:=by
 rw[vu,h];rfl
theorem qfN(cs:List Int):za cs 0=[]:=rfl
theorem j9 (cs:List Int)(i:Nat)(h:i≤193):za cs i=[]:=by
 unfold za;rw[List.map_eq_nil_iff,List.filter_eq_nil_iff];intro j hj;rw[List.mem_range]at hj;simp;omega
theorem ck (cs:List Int)(i:Nat):za cs (i+1)=za cs i++(if 193≤i∧cs.getD i 0=0 then[(i:Int)]else[]):=by
 unfold za;rw[List.range_succ,List.filter_append,List.map_append]
 congr 1
 by_cases h1:193≤i
 ·by_cases h2:cs.getD i 0=0
  ·rw[if_pos ⟨h1,h2⟩,List.filter_cons_of_pos (by rw[decide_eq_true h1,decide_eq_true h2];rfl)];rfl
  ·rw[if_neg (fun h=>h2 h.2),List.filter_cons_of_neg (by rw[decide_eq_false h2,Bool.and_false];decide)];rfl
 ·rw[if_neg (fun h=>h1 h.1),List.filter_cons_of_neg (by rw[decide_eq_false h1,Bool.false_and];decide)];rfl
theorem qj0(cs:List Int)(i:Nat):(za cs i).length≤i:=by
 unfold za;rw[List.length_map];exact Nat.le_trans (List.length_filter_le _ _) (by simp)
theorem iM (cs:List Int):∀(i j:Nat),i≤j→∃r,za cs j=za cs i++r
 | i,0,h=>by
  obtain rfl:i=0:=by omega
  exact⟨[],by simp⟩
 | i,j+1,h=>by
  by_cases e:i=j+1
  ·subst e;exact⟨[],by simp⟩
  ·obtain⟨r,hr⟩:=iM cs i j (by omega);exact⟨r++_,by rw[ck,hr,List.append_assoc]⟩
theorem iN {cs:List Int}{i:Nat}{z:Int}:z∈za cs i ↔ ∃j:Nat,z=(j:Int)∧j<i∧193≤j∧cs.getD j 0=0:=by
 unfold za;simp only[List.mem_map,List.mem_filter,List.mem_range,Bool.and_eq_true,decide_eq_true_eq];constructor
 ·rintro⟨j,⟨h1,h2,h3⟩,rfl⟩;exact⟨j,rfl,h1,h2,h3⟩
 ·rintro⟨j,rfl,h1,h2,h3⟩;exact⟨j,⟨h1,h2,h3⟩,rfl⟩
theorem oC (cs:List Int)(i:Nat):(za cs i).Pairwise (· < ·):=by
 unfold za;rw[List.pairwise_map];refine List.Pairwise.imp (R:=fun(a b:Nat)=>a<b) (fun h=>by omega) ?_;exact(List.pairwise_lt_range).filter _
theorem qj1(cs:List Int)(k:Nat)(h:k<cs.length)(h0:cs.getD k 0=0):(bump cs k).getD k 0=1:=by
 unfold bump;rw[h0];simp[List.getD,h];first
  | rfl
  | (unfold wrap64;omega)
theorem cm (cs:List Int)(k j:Nat)(h:j≠k):(bump cs k).getD j 0=cs.getD j 0:=by
 unfold bump;simp[List.getD,List.getElem?_set_ne (Ne.symm h)]
theorem yO (cs:List Int)(i:Nat):(za cs (i+1)).length=(za cs i).length+if 193≤i∧cs.getD i 0=0 then 1 else 0:=by
 rw[ck,List.length_append];split <;> rfl
theorem oD (cs:List Int)(k:Nat)(h:k<cs.length)(h1:193≤k)(h0:cs.getD k 0=0):∀i,(za (bump cs k) i).length+(if k<i then 1 else 0)=(za cs i).length
 | 0=>by simp[qfN]
 | i+1=>by
  have ih:=oD cs k h h1 h0 i;rw[yO,yO];by_cases e:i=k
  ·subst e;rw[qj1 cs i h h0,h0];split at ih <;> split <;> split <;> split <;> omega
  ·rw[cm cs k i e];split at ih <;> split <;> split <;> omega
def bnd (M:Nat)(cs:List Int):Prop:=∀z∈cs,0≤z∧z≤(M:Int)
end Go.Proofs.YtdpbdkacngaemaaGreatDoor.sp
namespace Go.Proofs.YtdpbdkacngaemaaGreatDoor.ch
open _root_.Go.Proofs.Tryz Go Go.RowKit ib
abbrev Gd:=Nat × Nat
structure Sn where
 g:Gd
 bs:List Bt
 hid:Bool
structure CH where
 live:List Bt
 qc:List Sn
def above (a b:Gd):Bool:=decide (b.1<a.1) || (decide (a.1=b.1)&&decide (b.2<a.2))
def CH.last(c:CH):Gd:=match c.qc.getLast? with
 | none=>(0,0)
 | some s=>s.g
def uO (n:Nat):List Bt:=List.replicate n zz
def CH.base(c:CH):List Bt:=match c.qc.getLast? with
 | none=>uO c.live.length
 | some s=>s.bs
def bK (n:Nat):CH:=⟨uO n,[]⟩
def CH.may (c:CH)(g:Gd):Int:=if above g c.last then(if 20≤c.qc.length then 3 else 0)else 2
def CH.write(c:CH)(k:Int)(s:Bt):CH × Int:=if k<0∨(c.live.length:Int)≤k∨s.length≠32 then(c,2)else(⟨c.live.set k.toNat s,c.qc⟩,0)
def CH.snap(c:CH)(g:Gd):CH × Int:=if c.may g=0 then(⟨c.live,c.qc++[⟨g,c.live,false⟩]⟩,0)else(c,c.may g)
def cu:List Bt→Int→List (Int × Bt)→Option (List Bt)
 | l,_,[]=>some l
 | l,p,(k,s)::r=>if k≤p∨(l.length:Int)≤k∨s.length≠32 then none else cu (l.set k.toNat s) k r
def CH.add (c:CH)(g:Gd)(x:List (Int × Bt)):CH × Int :=
 if c.may g=0 then(match cu c.base (-1) x with
  | none=>(c,2)
  | some l=>(⟨l,c.qc++[⟨g,l,false⟩]⟩,0))else(c,c.may g)
def CH.find(c:CH)(g:Gd):Option Nat:=c.qc.findIdx? fun s=>decide (s.g=g)
def kW (l:List Sn)(i:Nat):List Sn:=l.modify i fun s=>{ s with hid:=true }
def CH.qnq (c:CH)(g:Gd):CH × Int:=match c.find g with
 | none=>(c,5)
 | some i=>match c.qc[i]? with
  | none=>(c,5)
  | some s=>if s.hid then(c,14)else(⟨c.live,kW c.qc i⟩,0)
def CH.list(c:CH):List Gd:=c.qc.map (·.g)
def CH.read(c:CH)(g:Gd):List Bt × Int:=match c.find g with
 | none=>([],5)
 | some i=>match c.qc[i]? with
  | none=>([],5)
  | some s=>if s.hid then([],14)else(s.bs,0)
def wE (p q:List Bt):List (Int × Bt):=(List.range q.length).filterMap fun i=>if q.getD i []=p.getD i []then none else some ((i:Int),q.getD i [])
def CH.tW (c:CH)(k:Nat):List Bt:=match c.qc[k]? with
 | none=>[]
 | some s=>s.bs
def CH.prev(c:CH)(k:Nat):List Bt:=if k=0 then uO c.live.length else c.tW (k-1)
def CH.changes(c:CH)(k:Int):List (Int × Bt) × Int:=if k<0∨(c.qc.length:Int)≤k then([],5)else(wE (c.prev k.toNat) (c.tW k.toNat),0)
def qY (n:Nat)(l:List Bt):Prop:=l.length=n∧∀v∈l,v.length=32
structure CH.ok(c:CH):Prop where
 live:qY c.live.length c.live
 n1:1≤c.live.length
 n8:c.live.length≤8
 qc:∀s∈c.qc,qY c.live.length s.bs
 few:c.qc.length≤20
 sZ:∀s∈c.qc,s.g.1<18446744073709551616∧s.g.2<18446744073709551616
theorem qbg(n:Nat):qY n (uO n):=⟨by simp[uO],fun v hv=>by rw[List.eq_of_mem_replicate hv];exact qJ⟩
theorem qnr{n k:Nat}{l:List Bt}{s:Bt}(h:qY n l)(hs:s.length=32):qY n (l.set k s):=by
 refine⟨by rw[List.length_set];exact h.1,fun v hv=>?_⟩;rcases List.mem_or_eq_of_mem_set hv with h1|h1
 ·exact h.2 v h1
 ·rw[h1];exact hs
theorem qns{c:CH}{g:Gd}(h:c.may g=0):above g c.last=true∧c.qc.length<20:=by
 unfold CH.may at h;split at h
 ·split at h
  ·cases h
  ·exact⟨by assumption,by omega⟩
 ·cases h
theorem qj2(l:List Bt)(ss:List Sn)(s:Sn):(⟨l,ss++[s]⟩:CH).last=s.g:=by
 unfold CH.last;simp
end Go.Proofs.YtdpbdkacngaemaaGreatDoor.ch
