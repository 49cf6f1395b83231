/- DkOps, DkEasy, DkNew, DkFits, DkLose, DkRow, DkApp, DkFit2. -/
import Derived.Test.YtdpbdkacngaemaaGreatDoorZK6
import Derived.Laws.CopyRow
import Derived.Deep.RegionLaw
import Derived.Great.BuildSlice
set_option linter.unusedVariables false
set_option linter.unusedSimpArgs false
set_option maxHeartbeats 30000000
set_option maxRecDepth 100000
namespace Go.Proofs.YtdpbdkacngaemaaGreatDoor.dk
open _root_.Go.Proofs.Tryz Go Go.RowKit
theorem qjv{ρ:Operand→Value}{o:Oper}{w:World}{b:Nat}{s:qE}(x:Operand)(ho:o.op=.call { callee:=.builtin .len,args:=#[x],argTypes:=#[85] })(hx:ρ x=.map (some b))(h:xc w b s) :
    (execOp ρ o).run prog w=.ok (.value (.int .i64 (cnt s:Int))) w:=by
 simp[execOp,ho,resolve,invoke,builtin,hx,h.len o.type,Result.andThen]
theorem vL {ρ:Operand→Value}{o:Oper}{w:World}{b:Nat}{s:qE}(x y:Operand)(ho:o.op=.lookup 85 x y true)(hx:ρ x=.map (some b))(h:xc w b s)
    (k:Int) (hy:ρ y=.int .i64 k) (h0 : -9223372036854775808≤k) (h1:k≤9223372036854775807) :
    (execOp ρ o).run prog w=.ok (.value (.tuple #[bt ((look s k).getD zz),.bool (look s k).isSome])) w:=by
 simp[execOp,ho,hx,hy,(h.find k h0 h1).1,Result.andThen]
theorem qfY{ρ:Operand→Value}{o:Oper}{w:World}{b:Nat}{s:qE}(x y:Operand)(ho:o.op=.lookup 85 x y false)(hx:ρ x=.map (some b))(h:xc w b s)
    (k:Int) (hy:ρ y=.int .i64 k) (h0 : -9223372036854775808≤k) (h1:k≤9223372036854775807) :
    (execOp ρ o).run prog w=.ok (.value (bt ((look s k).getD zz))) w:=by
 simp[execOp,ho,hx,hy,(h.find k h0 h1).2,Result.andThen]
theorem iA {ops:Array Oper}{rest:List Oper}{o:Oper}{a:Act}{w:World}{Q:Exit→Act→World→Prop}{b:Nat}{s:qE}(hg:o.guard=none)(x y z:Operand)(ho:o.op=.mapUpdate 85 x y z)(hx:a.eval x=.map (some b))(h:xc w b s)
    (k:Nat) (hy:a.eval y=.int .i64 (k:Int)) (v:Bt) (hz:a.eval z=bt v) (hk:k<s.length) (h1:s.length≤1024)
    (hK:∀w',xc w' b (put s k v)→w.mapTurned w' b→wpList prog ops Q rest (a.put o.dst undef) w'):wpList prog ops Q (o::rest) a w:=by
 refine wpList_plain hg fun K' hK'=>?_;obtain⟨w',hrun,r1,r2⟩:=h.store k v hk h1;unfold Oper.wp;simp[execOp,ho,hx,hy,hz,hrun,Result.andThen];exact hK' _ _ (hK w' r1 r2)
theorem kN {w w':World}{b:Nat}(h:w.mapTurned w' b):qB (fun k=>k=b) w w':=qB.qaC h.grown (fun _ e=>by injection e with e;exact e.symm)
theorem xG {ρ:Operand→Value}{o:Oper}{P:Program}(w:World)(t:TypeId)(c c':Array Value)(x y:Operand)(ho:o.op=.store t x y)(hx:ρ x=.pointer (some ⟨w.heap.size,0,none⟩))(hy:ρ y=.agg c')
    (hi:(P.info? t).map (·.size)=some c'.size) (dw:c.size=c'.size) (h1:c'.all (·.oneCell')=true) :
    (execOp ρ o).run P (w.alloc (.cells c t))=.ok .skip (w.alloc (.cells c' t)):=by
 have hr:=run_storeAt_new (P:=P) w t c c' hi dw h1;simp[execOp,ho,hx,hy,hr,Result.andThen]
theorem eu (q:Bt):(Lib.byteCells q).toArray.all (·.oneCell')=true:=by
 rw[Array.all_eq_true'];intro u hu;exact Lib.byteCells_one q u (by simpa using hu)
theorem lC:(prog.info? 146).map (·.size)=some 32:=by kernel_rfl
theorem uX {P:Program}(w:World)(g o:Nat)(t ty:TypeId)(cs:Array Value)(xs:List Value)(fr:Nat × Nat)(d:TypeDesc)(hg:w.heap[g]?=some (.cells cs t fr))
    (hu:P.underlying ty=some d) (hd:(match d with | .struct _ | .array _ _=>true|_=>false)=true) (hi:(P.info? ty).map (·.size)=some xs.length) (hx:∀j u,xs[j]?=some u→cs[o+j]?=some u) :
    (loadVar ty ⟨g,o,none⟩).run P w=.ok (.agg xs.toArray) w:=by
 have hl:(loadCells ⟨g,o,none⟩ xs.length).run P w=.ok xs.toArray w :=
  run_loadCells_list (P:=P) w ⟨g,o,none⟩ xs (fun j v hv=>by
   rw[addr_add,cell_of_row w g (o+j) cs t fr hg];exact hx j v hv)
 cases hq:P.info? ty with
 | none=>simp[hq]at hi
 | some i =>
  have hs:i.size=xs.length:=by simpa[hq]using hi
  have hagg:(isAgg ty).run P w=.ok true w:=by
   unfold isAgg;rw[Sem.run_bind,run_underlying hu w];cases d <;> simp_all
  simp[loadVar,Sem.run_bind,hagg,sizeOf,typeInfo,hq,hs,hl]
theorem wU {ρ:Operand→Value}{o:Oper}{P:Program}{w:World}(ty:TypeId)(x:Operand)(ho:o.op=.load ty x)(g i:Nat)(hx:ρ x=.pointer (some ⟨g,i,none⟩))(t:TypeId)(cs:Array Value)(xs:List Value)(fr:Nat × Nat)(d:TypeDesc)
    (hg:w.heap[g]?=some (.cells cs t fr)) (hu:P.underlying ty=some d) (hd:(match d with | .struct _ | .array _ _=>true|_=>false)=true) (hi:(P.info? ty).map (·.size)=some xs.length) (hc:∀j u,xs[j]?=some u→cs[i+j]?=some u) :
    (execOp ρ o).run P w=.ok (.value (.agg xs.toArray)) w:=by
 simp only[execOp,ho,hx,Instr.loadAt,Instr.sureAddr,Sem.run_bind,Sem.run_pure,Result.andThen_ok,uX w g i t ty cs xs fr d hg hu hd hi hc]
section
variable {w:World} {p m:Nat} {v:Value} {d:DD} {own:Nat→Prop}
theorem jC {t:TypeId}{a b c e f g:Value}(h:qh w p t #[a,b,c,e,f,g]) :
    w.cell? ⟨p,0,none⟩=some a∧w.cell? ⟨p,1,none⟩=some b∧w.cell? ⟨p,2,none⟩=some c∧w.cell? ⟨p,3,none⟩=some e∧w.cell? ⟨p,4,none⟩=some f∧w.cell? ⟨p,5,none⟩=some g :=
 ⟨h.cell 0,h.cell 1,h.cell 2,h.cell 3,h.cell 4,h.cell 5⟩
theorem rX (h:kL w own p m v d) :
    Calls prog 43 #[.pointer (some ⟨p,0,none⟩)] w fun e w'=>e=.returned (.int .i64 (d.n:Int))∧w=w':=by
 obtain⟨c0,c1,c2,c3,c4,c5⟩:=jC h.1;clear h c1 c2 c3 c4 c5;go_enter func43,ntmps43;go_wp2;go_ret;exact⟨rfl,rfl⟩
theorem qjw(h:kL w own p m v d) :
    Calls prog 39 #[.pointer (some ⟨p,0,none⟩)] w fun e w'=>e=.returned (.bool d.on)∧w=w':=by
 obtain⟨c0,c1,c2,c3,c4,c5⟩:=jC h.1;clear h c1 c2 c3 c0 c5;go_enter func39,ntmps39;go_wp2;go_ret;exact⟨rfl,rfl⟩
theorem jF (h:kL w own p m v d)(k:Int) :
    Calls prog 197 #[.pointer (some ⟨p,0,none⟩),.int .i64 k] w fun e w'=>e=.returned (.bool (d.has k))∧w=w':=by
 obtain⟨c0,c1,c2,c3,c4,c5⟩:=jC h.1;clear h c1 c2 c3 c4 c5;have H:Hid (d.has k=(decide (0≤k)&&decide (k<(d.n:Int)))):=rfl;generalize d.has k=q at *;generalize (d.n:Int)=n at *;by_cases h0:0≤k
 ·by_cases h1:k<n
  ·have hq:q=true:=by rw[H.out];simp[h0,h1]
   clear H;subst hq;go_enter func197,ntmps197;go_wp2;go_ret;exact⟨rfl,rfl⟩
  ·have hq:q=false:=by rw[H.out];simp[h1]
   have h1':n≤k:=by omega
   clear H;subst hq;go_enter func197,ntmps197;go_wp2;go_ret;exact⟨rfl,rfl⟩
 ·have hq:q=false:=by rw[H.out];simp[h0]
  have h0':k<0:=by omega
  clear H;subst hq;go_enter func197,ntmps197;go_wp2;go_ret;exact⟨rfl,rfl⟩
theorem kL.turn{w':World}{d':DD}(h:kL w own p m v d)(hb:d'.base=d.base)(hm:d'.more=d.more)
    (hk:qh w' p 88 #[.int .i64 (d'.n:Int),.int .i64 d'.room,.map (some m),v,.bool d'.on,.int .i64 d'.qz]) (hs:w.heap.size≤w'.heap.size) (hr:∀k,k<w.heap.size→k≠p→w'.heap[k]?=w.heap[k]?):kL w' own p m v d':=by
 obtain⟨hpm,hv⟩:=h.ne;obtain⟨h1,h2,h3,hp,hm',hvo,hl⟩:=h;refine⟨hk,?_,?_,hp,hm',hvo,fun k hk=>Nat.lt_of_lt_of_le (hl k hk) hs⟩
 ·have:d'.now=d.now:=by unfold DD.now;rw[hb,hm]
  rw[this];exact h2.of_block (hr _ (hl _ hm') (fun e=>hpm e.symm))
 ·rw[hb,hm];exact xT h3 (fun k hk=>hr k (hl k (hvo k hk)) (hv k hk).1)
theorem xr (w:World)(p i:Nat)(u:Value)(k:Nat)(h:k≠p):(w.setCell ⟨p,i,none⟩ u).heap[k]?=w.heap[k]? :=Below.heap_setCell _ _ _ _ h
theorem size_set(w:World)(p:Addr)(u:Value):(w.setCell p u).heap.size=w.heap.size:=by simp[World.setCell]
theorem qni{most:Nat}(h:zH most w own p d) :
    Calls prog 20 #[.pointer (some ⟨p,0,none⟩)] w (xp most own p d.off (.tuple #[]) w):=by
 obtain⟨h0,m,v,h1⟩:=h;have H:=QH h1;have H0:=QH h0;obtain⟨c0,c1,c2,c3,c4,c5⟩:=jC h1.1;have f4:=h1.1.frozen 4;have f5:=h1.1.frozen 5;clear h1 h0;go_enter func20,ntmps20;go_wp2
 go_end0
 refine⟨rfl,own,⟨{ H0.out with qeC:=Int.le_refl _,qeD:=(by show(0:Int)≤_;omega) },m,v,?_⟩,((qB.refl _ _).setCell _ _ (.inl H.out.2.2.2.1)).setCell _ _ (.inl H.out.2.2.2.1),um.refl _ _⟩;refine H.out.turn (d':=d.off) rfl rfl ((H.out.1.qu 4 _).qu 5 _) (by simp[size_set]) (fun k _ hk=>?_);rw[xr _ _ _ _ _ hk,xr _ _ _ _ _ hk]
theorem lD {most:Nat}(h:zH most w own p d)(zW:d.on=true) :
    Calls prog 257 #[.pointer (some ⟨p,0,none⟩)] w (xp most own p d.oper (.bool d.oper.on) w):=by
 have hd0:=QH h;obtain⟨h0,m,v,h1⟩:=h;have H:=QH h1;have H0:=QH h0;have f5:=h1.1.frozen 5;obtain⟨c0,c1,c2,c3,c4,c5⟩:=jC h1.1;have b0:=h0.qeC;have b1:=h0.qeD;rw[zW]at c4;clear h1 h0;by_cases e1:d.qz=1
 ·have hop:d.oper=d.off:=by unfold DD.oper;rw[if_pos e1]
  rw[hop];rw[e1]at c5;have hd1:zH most (w.setCell ⟨p,5,none⟩ (.int .i64 0)) own p { d with qz:=0 } :=
   ⟨{ H0.out with qeC:=Int.le_refl _,qeD:=(by show(0:Int)≤_;omega) },m,v,H.out.turn (d':={ d with qz:=0 }) rfl rfl (H.out.1.qu 5 _) (by simp[size_set]) (fun k _ hk=>xr _ _ _ _ _ hk)⟩
  have qvm:=QH (qni hd1);have E1:=QH e1;clear e1 hop hd1 b0 b1;go_enter func257,ntmps257;go_wp2_with (go_at_call 20;refine qvm.out.mono ?_);rintro e w2 ⟨rfl,dK,hd2,hb2,hg2⟩;obtain⟨_,m2,v2,h2⟩:=hd2;have HD2:Hid (zH most w2 dK p d.off):=⟨by assumption,m2,v2,h2⟩;obtain⟨g0,g1,g2,g3,g4,g5⟩:=jC h2.1;clear h2 qvm;go_wp2;go_ret;exact⟨rfl,dK,HD2.out,((qB.refl own w).setCell _ _ (.inl H.out.2.2.2.1)).trans hb2 (fun i h=>.inl h),fun k hk=>by
   rcases hg2 k hk with h|h
   ·exact .inl h
   ·rw[size_set]at h;exact .inr h⟩
 ·by_cases e2:1<d.qz
  ·have hop:d.oper={ d with qz:=d.qz-1 }:=by unfold DD.oper;rw[if_neg e1,if_pos e2]
   rw[hop];have e0:0<d.qz:=by omega
   have e3:((d.qz-1:Int) == 0)=false:=by rw[beq_eq_false_iff_ne];omega
   clear e1;go_enter func257,ntmps257;go_wp2;go_ret;refine⟨(by rw[zW];rfl),own,⟨{ H0.out with qeC:=by simp only;omega,qeD:=by simp only;omega },m,v,?_⟩,(qB.refl _ _).setCell _ _ (.inl H.out.2.2.2.1),um.refl _ _⟩;refine H.out.turn (d':={ d with qz:=d.qz-1 }) rfl rfl ?_ (by simp[size_set]) (fun k _ hk=>xr _ _ _ _ _ hk);exact H.out.1.qu 5 _
  ·have hop:d.oper=d:=by unfold DD.oper;rw[if_neg e1,if_neg e2]
   rw[hop];have e0:d.qz=0:=by omega
   rw[e0]at c5;clear e1 e2;have E0:=QH e0;clear e0 b0 b1;go_enter func257,ntmps257;go_wp2;go_ret;exact⟨(by rw[zW];rfl),own,hd0.out,qB.refl _ _,um.refl _ _⟩
end
end Go.Proofs.YtdpbdkacngaemaaGreatDoor.dk
namespace Go.Proofs.YtdpbdkacngaemaaGreatDoor.dk
open _root_.Go.Proofs.Tryz Go Go.RowKit
def qnk (most n:Nat)(room:Int)(w:World)(e:Ending)(w':World):Prop :=
 ∃p own,e=.returned (.pointer (some ⟨p,0,none⟩))∧zH most w' own p (DD.new n room)∧Below w.heap.size w w'∧∀k,own k→w.heap.size≤k
theorem lF (most n:Nat)(room:Int)(h0:1≤n)(h1:n≤1024)(r0:0≤room)(r1:room≤9223372036854775807)(w:World) :
    Calls prog 7 #[.int .i64 (n:Int),.int .i64 room] w (qnk most n room w):=by
 have hmm:=@run_makeMap prog;have i0:¬ (n:Int)<1:=by omega
 have i1:¬ 1024<(n:Int):=by omega
 have i2:¬ room<0:=by omega
 go_enter func7,ntmps7;go_wp2;go_ret;refine⟨w.heap.size+1,fun k=>k=w.heap.size∨k=w.heap.size+1,rfl,⟨⟨?_,?_,r0,r1,Int.le_refl _,by simp[DD.new],Nat.zero_le _,fun _ h=>by simp[DD.new]at h,fun v h=>?_⟩,w.heap.size,.slice none 0 0,?_⟩,((Below.refl _ w).alloc (Nat.le_refl _) _).alloc (by simp) _,fun k h=>by omega⟩
 ·simpa[DD.n,DD.new]using h0
 ·simpa[DD.n,DD.new]using h1
 ·simp[DD.new]at h
 ·refine⟨?_,?_,⟨rfl,.inl ⟨rfl,rfl⟩⟩,.inr rfl,.inl rfl,fun k h=>by simp[Value.ownBlock]at h,fun k h=>by simp;omega⟩
  ·have e:(DD.new n room).n=n:=by simp[DD.n,DD.new]
   rw[e];exact heap_alloc2_new w _ _
  ·exact(xc.made w n).of_block (Below.heap_alloc _ _ _ (by simp))
def uY (r:Bt × Int)(w:World)(e:Ending)(w':World):Prop :=
 e=.returned (.tuple #[.string (str r.1),.int .i64 r.2])∧Below w.heap.size w w'
theorem aj (P:Bt)(b k:Nat)(t:TypeId)(w:World)(hk:P.length=k)(h:w.heap[b]?=some (.cells (Lib.byteCells P).toArray t (0,0))) :
    (convert 64 9 (.slice (some ⟨b,0,none⟩) k k)).run prog w=.ok (.string (str P)) w:=by
 subst hk;refine run_convert_bytes_back (P:=prog) w 64 9 5 ⟨b,0,none⟩ P.length P underlying64 underlying5 underlying9 ?_;intro j hj;rw[addr_add,Nat.zero_add,cell_of_row w b j _ _ _ h];simp[Lib.byteCells,hj]
section
variable {w:World} {p m:Nat} {v:Value} {d:DD} {own:Nat→Prop}
theorem qaD(h:kL w own p m v d)(zW:d.on=false)(k:Int) :
    Calls prog 122 #[.pointer (some ⟨p,0,none⟩),.int .i64 k] w (uY ([],6) w):=by
 obtain⟨c0,c1,c2,c3,c4,c5⟩:=jC h.1;rw[zW]at c4;clear h c1 c2 c3 c0 c5;go_enter func122,ntmps122;go_wp2;go_ret2;exact⟨rfl,Below.refl _ _⟩
theorem qaE(h:kL w own p m v d)(zW:d.on=true)(k:Int)(hh:d.has k=false) :
    Calls prog 122 #[.pointer (some ⟨p,0,none⟩),.int .i64 k] w (uY ([],2) w):=by
 have hhas:=jF h k;rw[hh]at hhas;have HH:=QH hhas;obtain⟨c0,c1,c2,c3,c4,c5⟩:=jC h.1;rw[zW]at c4;clear h c1 c2 c3 c0 c5 hhas zW hh;go_enter func122,ntmps122;go_wp2_with (go_at_call 197;refine HH.out.mono ?_;rintro e w' ⟨rfl,rfl⟩);go_ret2;exact⟨rfl,Below.refl _ _⟩
theorem qeE{most:Nat}(h0:d.ok most)(h:kL w own p m v d)(zW:d.on=true)(k:Int)(hh:d.has k=true) :
    Calls prog 122 #[.pointer (some ⟨p,0,none⟩),.int .i64 k] w (uY ((look d.now k).getD zz,0) w):=by
 have hhas:=jF h k;rw[hh]at hhas;have HH:=QH hhas;have HM:=QH h.2.1;obtain⟨c0,c1,c2,c3,c4,c5⟩:=jC h.1;rw[zW]at c4;have hk0:0≤k∧k<(d.n:Int):=by simpa[DD.has]using hh
 have hn1:=h0.n1;have hlen:((look d.now k).getD zz).length=32:=by
  cases hx:look d.now k with
  | none=>exact zh
  | some u=>exact h0.pw hx
 generalize hq:(look d.now k).getD zz=q at *;have HQ:=QH hq;have HK:=QH hk0;have HN:=QH hn1;have qjx:=aj q w.heap.size 32 146 (w.alloc (.cells (Lib.byteCells q).toArray 146)) hlen (heap_alloc_new w _);have qpj:(Lib.byteCells q).toArray.size=32:=by simp[Lib.byteCells,hlen]
 have HL:=QH qpj;have HC:=QH qjx;clear h c1 c3 c0 c5 hhas zW hh hq hk0 hn1 hlen qjx qpj h0;go_enter func122,ntmps122;go_wp2_with (first|(go_at_call 197;refine HH.out.mono ?_;rintro e w' ⟨rfl,rfl⟩)|(at_lookup;refine qx rfl (qfY _ _ rfl rfl HM.out k rfl (by have:=HK.out;omega) (by have:=HK.out;have:=HN.out;omega)) ?_;rw[HQ.out])|(refine wpList_skip rfl (xG w 146 _ _ (.tmp 6) (.tmp 26) rfl rfl rfl (by rw[HL.out];exact lC) (by rw[HL.out];rfl) (eu q)) ?_;have qjx:=HC.out));go_ret2;exact⟨rfl,(Below.refl _ _).alloc (Nat.le_refl _) _⟩
end
end Go.Proofs.YtdpbdkacngaemaaGreatDoor.dk
namespace Go.Proofs.YtdpbdkacngaemaaGreatDoor.dk
open _root_.Go.Proofs.Tryz Go Go.RowKit
def ye (w:World)(a:Nat)(acc:List Int):Prop :=
 ∃D:D1,w.ownsMap prog 3 unitElem a (Maps.size D) D∧(∀k:Int,Maps.has D (.int .i64 k)=acc.contains k)∧Maps.size D=acc.length
def xO (acc:List Int)(x:Int):List Int:=if acc.contains x then acc else acc++[x]
theorem ye.lt{w:World}{a:Nat}{acc:List Int}(h:ye w a acc):a<w.heap.size:=by
 obtain⟨D,h1,_⟩:=h;exact h1.lt
theorem ye.of_block{w w':World}{m:Nat}{s:List Int}(h:ye w m s)(hb:w'.heap[m]?=w.heap[m]?):ye w' m s:=by
 obtain⟨D,⟨es,clock,h1,h2⟩,h3⟩:=h;exact⟨D,⟨es,clock,hb.trans h1,h2⟩,h3⟩
theorem ye.made(w:World):ye (w.alloc (.map #[] 0)) w.heap.size [] :=
 ⟨.map [],World.ownsMap_made w prog 3 unitElem,fun _=>rfl,rfl⟩
theorem ye.len{w:World}{a:Nat}{acc:List Int}(h:ye w a acc)(ty:TypeId):(Builtin.len_ #[261] ty #[.map (some a)]).run prog w=.ok (.int .i64 (acc.length:Int)) w:=by
 obtain⟨D,hown,_,hc⟩:=h;rw[← hc];exact hown.len underlying261 ty
theorem ye.store{w:World}{a:Nat}{acc:List Int}(h:ye w a acc)(k:Int)(k0 : -9223372036854775808≤k)(k1:k≤9223372036854775807)(hl:acc.length<maxLen) :
    ∃w',(Instr.mapUpdate 261 (.map (some a)) (.int .i64 k) (.agg #[])).run prog w=.ok () w'∧ye w' a (xO acc k)∧w.mapTurned w' a:=by
 obtain⟨D,hown,hh,hc⟩:=h;have hkey:=Go.Maps.keyOf_int_mk (P:=prog) (k:=3) underlying3 (qnh k k0 k1);have hti:=hown.tidy keyed;obtain⟨w',hrun,r1,r2⟩:=hown.store keyed underlying261 (by omega) hkey unitElem_mk;refine⟨w',hrun,⟨_,eo r1,?_,?_⟩,r2⟩
 ·intro j;by_cases e:j=k
  ·subst e;rw[Maps.has_put_same hti.isMap (qcR _)];unfold xO;split
   ·exact(by assumption:acc.contains j=true).symm
   ·simp
  ·rw[Maps.has_put_other (lB e),hh];unfold xO;split
   ·rfl
   ·simp[e]
 ·rw[Maps.size_put hti,hh,hc];unfold xO;split <;> simp
theorem bu {ρ:Operand→Value}{o:Oper}{w:World}{b:Nat}{s:List Int}(x:Operand)(ho:o.op=.call { callee:=.builtin .len,args:=#[x],argTypes:=#[261] })(hx:ρ x=.map (some b))(h:ye w b s) :
    (execOp ρ o).run prog w=.ok (.value (.int .i64 (s.length:Int))) w:=by
 simp[execOp,ho,resolve,invoke,builtin,hx,h.len o.type,Result.andThen]
theorem uZ {ops:Array Oper}{rest:List Oper}{o:Oper}{a:Act}{w:World}{Q:Exit→Act→World→Prop}{b:Nat}{s:List Int}(hg:o.guard=none)(x y z:Operand)(ho:o.op=.mapUpdate 261 x y z)(hx:a.eval x=.map (some b))(h:ye w b s)
    (k:Int) (hy:a.eval y=.int .i64 k) (hz:a.eval z=.agg #[]) (k0 : -9223372036854775808≤k) (k1:k≤9223372036854775807) (hl:s.length<maxLen)
    (hK:∀w',ye w' b (xO s k)→w.mapTurned w' b→wpList prog ops Q rest (a.put o.dst undef) w'):wpList prog ops Q (o::rest) a w:=by
 refine wpList_plain hg fun K' hK'=>?_;obtain⟨w',hrun,r1,r2⟩:=h.store k k0 k1 hl;unfold Oper.wp;simp[execOp,ho,hx,hy,hz,hrun,Result.andThen];exact hK' _ _ (hK w' r1 r2)
structure Env(w:World)(p B1 B4 B3 a:Nat)(free:Int)(acc:List Int):Prop where
 b1:qh w B1 23 #[.pointer (some ⟨p,0,none⟩)]
 b4:qh w B4 261 #[.map (some a)]
 b3:qh w B3 3 #[.int .i64 free]
 qu:ye w a acc
def ask (d:DD)(acc:List Int)(x:Int):Bool × List Int :=
 if d.has x=false then(false,acc)
 else if (look d.now x).isSome then(true,acc)
 else(decide (((xO acc x).length:Int)≤d.room-(d.used:Int)),xO acc x)
def iK (r:Bool × List Int)(a:Nat)(w:World)(e:Ending)(w':World):Prop :=
 e=.returned (.bool r.1)∧ye w' a r.2∧qB (fun k=>k=a) w w'
section
variable {w:World} {p m:Nat} {v:Value} {d:DD} {own:Nat→Prop} {B1 B4 B3 a:Nat} {acc:List Int}
theorem qnl(h:kL w own p m v d)(he:Env w p B1 B4 B3 a (d.room-(d.used:Int)) acc)(x:Int)(hh:d.has x=false) :
    Calls prog 279 #[.int .i64 x,.pointer (some ⟨B1,0,none⟩),.pointer (some ⟨B4,0,none⟩),.pointer (some ⟨B3,0,none⟩)] w (iK (false,acc) a w):=by
 have hhas:=jF h x;rw[hh]at hhas;have HH:=QH hhas;have HE:=QH he;have g1:w.cell? ⟨B1,0,none⟩=some (.pointer (some ⟨p,0,none⟩)):=he.b1.cell 0;clear h he hhas hh;go_enter func279,ntmps279;go_wp2_with (go_at_call 197;refine HH.out.mono ?_;rintro e w' ⟨rfl,rfl⟩);go_ret;exact⟨rfl,HE.out.qu,qB.refl _ _⟩
theorem qnm{most:Nat}(h0:d.ok most)(h:kL w own p m v d)(he:Env w p B1 B4 B3 a (d.room-(d.used:Int)) acc)(x:Int)(hh:d.has x=true)(hs:(look d.now x).isSome=true) :
    Calls prog 279 #[.int .i64 x,.pointer (some ⟨B1,0,none⟩),.pointer (some ⟨B4,0,none⟩),.pointer (some ⟨B3,0,none⟩)] w (iK (true,acc) a w):=by
 have hhas:=jF h x;rw[hh]at hhas;have HH:=QH hhas;have HE:=QH he;have HM:=QH h.2.1;have g1:w.cell? ⟨B1,0,none⟩=some (.pointer (some ⟨p,0,none⟩)):=he.b1.cell 0;have c2:=(jC h.1).2.2.1;have hk0:0≤x∧x<(d.n:Int):=by simpa[DD.has]using hh
 have HK:=QH hk0;have HN:=QH h0.n1;have hlen:(Lib.byteCells ((look d.now x).getD zz)).toArray.size=32:=by
  simp only[List.size_toArray,Lib.byteCells_length];cases hx:look d.now x with
  | none=>exact zh
  | some u=>exact h0.pw hx
 have HL:=QH hlen;have HS:=QH hs;have fF:=fun c=>ye.of_block he.qu (Below.heap_alloc w (.cells c 146) a he.qu.lt);have HA:=QH fF;clear h he hhas hh hk0 hlen hs fF h0;go_enter func279,ntmps279;go_wp2_with (first|(go_at_call 197;refine HH.out.mono ?_;rintro e w' ⟨rfl,rfl⟩)|(at_lookup;refine qx rfl (vL _ _ rfl rfl HM.out x rfl (by have:=HK.out;omega) (by have:=HK.out;have:=HN.out;omega)) ?_;rw[HS.out])|(refine wpList_skip rfl (xG w 146 _ _ (.tmp 6) (.tmp 19) rfl rfl rfl (by rw[HL.out];exact lC) (by rw[HL.out];rfl) (eu _)) ?_));go_ret;exact⟨rfl,HA.out _,(qB.refl _ _).alloc _⟩
theorem qnn{most:Nat}(h0:d.ok most)(h:kL w own p m v d)(he:Env w p B1 B4 B3 a (d.room-(d.used:Int)) acc)(x:Int)(hh:d.has x=true)(hs:(look d.now x).isSome=false)(hl:acc.length<maxLen) :
    Calls prog 279 #[.int .i64 x,.pointer (some ⟨B1,0,none⟩),.pointer (some ⟨B4,0,none⟩),.pointer (some ⟨B3,0,none⟩)] w (iK (decide (((xO acc x).length:Int)≤d.room-(d.used:Int)),xO acc x) a w):=by
 have hhas:=jF h x;rw[hh]at hhas;have HH:=QH hhas;have HE:=QH he;have HM:=QH h.2.1;have g1:w.cell? ⟨B1,0,none⟩=some (.pointer (some ⟨p,0,none⟩)):=he.b1.cell 0;have g4:w.cell? ⟨B4,0,none⟩=some (.map (some a)):=he.b4.cell 0;have g3:w.cell? ⟨B3,0,none⟩=some (.int .i64 (d.room-(d.used:Int))):=he.b3.cell 0;have l4:=he.b4.lt;have l3:=he.b3.lt;have c2:=(jC h.1).2.2.1;have hk0:0≤x∧x<(d.n:Int):=by simpa[DD.has]using hh
 have HK:=QH hk0;have HN:=QH h0.n1;have hlen:(Lib.byteCells ((look d.now x).getD zz)).toArray.size=32:=by
  simp only[List.size_toArray,Lib.byteCells_length];cases hx:look d.now x with
  | none=>exact zh
  | some u=>exact h0.pw hx
 have HL:=QH hlen;have HS:=QH hs;have fF:=fun c=>ye.of_block he.qu (Below.heap_alloc w (.cells c 146) a he.qu.lt);have HA:=QH fF;have HLl:=QH hl;have n43:B4≠a:=by
  rintro rfl;obtain⟨D,⟨es,clock,q,_⟩,_⟩:=he.qu;have:=he.b4;unfold qh at this;rw[q]at this;cases this
 have n33:B3≠a:=by
  rintro rfl;obtain⟨D,⟨es,clock,q,_⟩,_⟩:=he.qu;have:=he.b3;unfold qh at this;rw[q]at this;cases this
 clear h he hhas hh hk0 hlen hs fF h0 hl;generalize qvn:d.room-(d.used:Int)=free at *;clear qvn;go_enter func279,ntmps279;go_wp2_with (first|(go_at_call 197;refine HH.out.mono ?_;rintro e w' ⟨rfl,rfl⟩)|(at_lookup;refine qx rfl (vL _ _ rfl rfl HM.out x rfl (by have:=HK.out;omega) (by have:=HK.out;have:=HN.out;omega)) ?_;rw[HS.out])|(refine wpList_skip rfl (xG w 146 _ _ (.tmp 6) (.tmp 19) rfl rfl rfl (by rw[HL.out];exact lC) (by rw[HL.out];rfl) (eu _)) ?_)|(at_mapUpdate;refine uZ rfl _ _ _ rfl rfl (HA.out _) x rfl rfl (by have:=HK.out;omega) (by have:=HK.out;have:=HN.out;omega) HLl.out ?_;intro w2 hs2 ht2;have kY:=QH hs2;have qG:=QH (((qB.refl (fun k=>k=a) w).alloc _).trans (kN ht2) (fun _ h=>.inl h));have q4:=((kN ht2).block B4 (by simp;omega) n43).trans (Below.heap_alloc w _ B4 l4);have q3:=((kN ht2).block B3 (by simp;omega) n33).trans (Below.heap_alloc w _ B3 l3);have k4:=(World.cell?_of_block (a:=⟨B4,0,none⟩) q4).trans g4;have k3:=(World.cell?_of_block (a:=⟨B3,0,none⟩) q3).trans g3;clear hs2 ht2 q4 q3)|(at_len;refine qx rfl (bu _ rfl rfl kY.out) ?_));go_ret;exact⟨rfl,kY.out,qG.out⟩
end
end Go.Proofs.YtdpbdkacngaemaaGreatDoor.dk
namespace Go.Proofs.YtdpbdkacngaemaaGreatDoor.dk
open _root_.Go.Proofs.Tryz Go Go.RowKit
structure qvo(cs:Array Value)(x:Nat × Bt × Bt × Bool):Prop where
 size:cs.size=66
 at_:cs[0]?=some (.int .i64 (x.1:Int))
 data:∀j u,(Lib.byteCells x.2.1)[j]?=some u→cs[1+j]?=some u
 before:∀j u,(Lib.byteCells x.2.2.1)[j]?=some u→cs[33+j]?=some u
 written:cs[65]?=some (.bool x.2.2.2)
theorem rowOf(x:Nat × Bt × Bt × Bool)(h1:x.2.1.length=32)(h2:x.2.2.1.length=32):qvo (qo x).toArray x:=by
 have e1:(Lib.byteCells x.2.1).length=32:=by rw[Lib.byteCells_length,h1]
 have e2:(Lib.byteCells x.2.2.1).length=32:=by rw[Lib.byteCells_length,h2]
 refine⟨by simp[qo,e1,e2],rfl,?_,?_,?_⟩
 ·intro j u hu;have hj:j<32:=by rw[← e1];exact(List.getElem?_eq_some_iff.1 hu).1
  simp only[List.getElem?_toArray,qo,Nat.add_comm 1 j,List.getElem?_cons_succ];rw[List.getElem?_append_left (by omega)];exact hu
 ·intro j u hu;have hj:j<32:=by rw[← e2];exact(List.getElem?_eq_some_iff.1 hu).1
  simp only[List.getElem?_toArray,qo,show 33+j=(32+j)+1 by omega,List.getElem?_cons_succ];rw[List.getElem?_append_right (by omega),e1,List.getElem?_append_left (by omega),show 32+j-32=j by omega];exact hu
 ·simp only[List.getElem?_toArray,qo,show 65=64+1 from rfl,List.getElem?_cons_succ];rw[List.getElem?_append_right (by omega),e1,List.getElem?_append_right (by omega),e2];rfl
section
variable {w:World} {p m:Nat}
end
end Go.Proofs.YtdpbdkacngaemaaGreatDoor.dk
namespace Go.Proofs.YtdpbdkacngaemaaGreatDoor.dk
open _root_.Go.Proofs.Tryz Go Go.RowKit
theorem qeF:(prog.info? 148).map (fun i=>(i.zero,i.size))=some (some (.agg (qo (0,zz,zz,false)).toArray),66):=by kernel_rfl
theorem qcT:(prog.info? 148).map (fun i=>(i.zero,i.size,i.bytes))=some (some (.agg (qo (0,zz,zz,false)).toArray),66,80):=by kernel_rfl
theorem qjy:(prog.info? 148).map (·.size)=some 66:=by kernel_rfl
theorem yv (x:Nat × Bt × Bt × Bool)(h1:x.2.1.length=32)(h2:x.2.2.1.length=32):(qo x).length=66:=by
 simp[qo,Lib.byteCells,h1,h2]
theorem wV (x:Nat × Bt × Bt × Bool):∀u∈qo x,u.oneCell'=true:=by
 intro u hu;simp only[qo,List.mem_cons,List.mem_append,List.not_mem_nil,or_false]at hu;rcases hu with rfl|hu|hu|rfl
 ·rfl
 ·exact Lib.byteCells_one _ u hu
 ·exact Lib.byteCells_one _ u hu
 ·rfl
theorem qqZ(x:Nat × Bt × Bt × Bool):(qo x).toArray.all (·.oneCell')=true:=by
 rw[Array.all_eq_true'];intro u hu;exact wV x u (by simpa using hu)
theorem rY {ρ:Operand→Value}{o:Oper}{w:World}(ho:o.op=.alloc 148) :
    (execOp ρ o).run prog w=.ok (.value (.pointer (some ⟨w.heap.size,0,none⟩))) (w.alloc (.cells (qo (0,zz,zz,false)).toArray 148)):=by
 obtain⟨hz,_⟩:=zero_of_info qeF;simp[execOp,ho,Instr.alloc,hz,Result.andThen,go_sem,Value.cells]
theorem rZ {ρ:Operand→Value}{o:Oper}{w:World}(x:Operand)(k:Nat)(ho:o.op=.build 148 #[(0,x)])(hx:ρ x=.int .i64 (k:Int)) :
    (execOp ρ o).run prog w=.ok (.value (.agg (qo (k,zz,zz,false)).toArray)) w:=by
 obtain⟨hz,_⟩:=zero_of_info qeF;have hb:(Instr.build 148 #[(0,.int .i64 (k:Int))]).run prog w=.ok (.agg (qo (k,zz,zz,false)).toArray) w:=by
  have e:(qo (k,zz,zz,false)).toArray=(qo (0,zz,zz,false)).toArray.set! 0 (.int .i64 (k:Int)):=rfl;rw[e];have hne:(qo (0,zz,zz,false)).toArray ≠ #[]:=by simp[qo]
  generalize (qo (0,zz,zz,false)).toArray=z0 at *;simp[Instr.build,hz,Result.andThen,go_sem,Value.cells];rw[if_neg hne];rfl
 simp[execOp,ho,hx,hb,Result.andThen]
theorem bw {P:Program}(w:World)(g o:Nat)(t ty:TypeId)(cur:Array Value)(xs:List Value)(hg:w.heap[g]?=some (.cells cur t (0,0)))(hi:(P.info? ty).map (·.size)=some xs.length)(hl:o+xs.length≤cur.size)(h1:∀v∈xs,v.oneCell'=true) :
    (storeVar ty ⟨g,o,none⟩ (.agg xs.toArray)).run P w=.ok () (w.setRow g (cur.toList.take o++xs++cur.toList.drop (o+xs.length)).toArray):=by
 have:=run_storeCells_at P g o t xs 0 cur w hg (by simpa using hl) h1;cases hq:P.info? ty with
 | none=>simp[hq]at hi
 | some i =>
  have hs:i.size=xs.length:=by simpa[hq]using hi
  simp only[Nat.add_zero]at this;simp[storeVar,sizeOf,typeInfo,hq,Value.cells,hs,this]
theorem qjz(k:Nat)(v b:Bt)(f:Bool)(u:Bt)(h:u.length=32)(hv:v.length=32) :
    (qo (k,u,b,f)).take 1++Lib.byteCells v++(qo (k,u,b,f)).drop (1+32)=qo (k,v,b,f):=by
 have e1:(Lib.byteCells u).length=32:=by rw[Lib.byteCells_length,h]
 have e2:(Lib.byteCells v).length=32:=by rw[Lib.byteCells_length,hv]
 simp only[qo,List.take_succ_cons,List.take_zero,show 1+32=32+1 from rfl,List.drop_succ_cons];rw[List.drop_left' e1];simp
theorem qcU(k:Nat)(v b:Bt)(f:Bool)(u:Bt)(hv:v.length=32)(h:u.length=32)(hb:b.length=32) :
    (qo (k,v,u,f)).take 33++Lib.byteCells b++(qo (k,v,u,f)).drop (33+32)=qo (k,v,b,f):=by
 have e1:(Lib.byteCells u).length=32:=by rw[Lib.byteCells_length,h]
 have e2:(Lib.byteCells v).length=32:=by rw[Lib.byteCells_length,hv]
 simp only[qo,show 33=32+1 from rfl,List.take_succ_cons,show 32+1+32=(32+32)+1 from rfl,List.drop_succ_cons];rw[List.take_left' e2,List.drop_append,e2,List.drop_eq_nil_of_le (by omega),show 32+32-32=32 from rfl,List.drop_left' e1];simp
theorem qaF(k:Nat)(v b:Bt)(f g:Bool)(hv:v.length=32)(hb:b.length=32):(qo (k,v,b,f)).toArray.setIfInBounds 65 (.bool g)=(qo (k,v,b,g)).toArray:=by
 have e1:(Lib.byteCells v).length=32:=by rw[Lib.byteCells_length,hv]
 have e2:(Lib.byteCells b).length=32:=by rw[Lib.byteCells_length,hb]
 simp only[List.setIfInBounds_toArray,qo,show 65=64+1 from rfl,List.set_cons_succ];rw[List.set_append_right _ _ (by omega),e1,List.set_append_right _ _ (by omega),e2];rfl
theorem qaG{ρ:Operand→Value}{o:Oper}(w:World)(x y:Operand)(k:Nat)(s:ByteArray)(ho:o.op=.call { callee:=.builtin .copy,args:=#[x,y],argTypes:=#[64,9] })
    (hx:ρ x=.slice (some ⟨w.heap.size,1,none⟩) 32 32) (hy:ρ y=.string s) (hs:s.size=32) :
    (execOp ρ o).run prog (w.alloc (.cells (qo (k,zz,zz,false)).toArray 148))=.ok (.value (.int .i64 32)) (w.alloc (.cells (qo (k,bl s,zz,false)).toArray 148)):=by
 obtain⟨i0,hi,hz0,hz1,hz2⟩:=info_parts Tryz.qae;have hl:(bl s).length=32:=by rw[zg,hs]
 have hst:=run_storeCells_at prog w.heap.size 1 148 (Lib.byteCells (bl s)) 0 (qo (k,zz,zz,false)).toArray (w.alloc (.cells (qo (k,zz,zz,false)).toArray 148)) (heap_alloc_new w _) (by simp[yv,Lib.byteCells_length,hl,zh]) (Lib.byteCells_one _);rw[World.setRow_alloc_new,Lib.byteCells_length,hl]at hst;simp only[Nat.add_zero]at hst;rw[qjz k (bl s) zz false zz zh hl]at hst;have pq:List.take 32 (List.map (fun b:UInt8=>Value.int IntKind.u8 (b.toNat:Int)) s.data.toList)=Lib.byteCells (bl s):=by
  rw[List.take_of_length_le]
  ·rfl
  ·simp only[List.length_map];have:s.data.toList.length=32:=hl;omega
 have hc:(Builtin.copy_ #[64,9] o.type #[.slice (some ⟨w.heap.size,1,none⟩) 32 32,.string s]).run prog (w.alloc (.cells (qo (k,zz,zz,false)).toArray 148))=.ok (.int .i64 32) (w.alloc (.cells (qo (k,bl s,zz,false)).toArray 148)):=by
  simp[Builtin.copy_,run_underlying underlying64,Builtin.lenOf,Builtin.firstCells,sizeOf,typeInfo,hi,hs];rw[pq,hst];simp[Result.andThen];rfl
 simp[execOp,ho,resolve,invoke,builtin,hx,hy,hc,Result.andThen]
theorem bz {ρ:Operand→Value}{o:Oper}(w:World)(x y:Operand)(k:Nat)(v b:Bt)(f:Bool)(ho:o.op=.store 146 x y)(hx:ρ x=.pointer (some ⟨w.heap.size,33,none⟩))(hy:ρ y=bt b)(hv:v.length=32)(hb:b.length=32) :
    (execOp ρ o).run prog (w.alloc (.cells (qo (k,v,zz,f)).toArray 148))=.ok .skip (w.alloc (.cells (qo (k,v,b,f)).toArray 148)):=by
 have e2:(Lib.byteCells b).length=32:=by rw[Lib.byteCells_length,hb]
 have hr:=bw (P:=prog) (w.alloc (.cells (qo (k,v,zz,f)).toArray 148)) w.heap.size 33 148 146 (qo (k,v,zz,f)).toArray (Lib.byteCells b) (heap_alloc_new w _) (by rw[lC,e2]) (by simp[yv,hv,zh,e2]) (Lib.byteCells_one _);rw[World.setRow_alloc_new,e2]at hr;simp only at hr;rw[qcU k v b f zz hv zh hb]at hr;have h2:(Instr.storeAt 146 (.pointer (some ⟨w.heap.size,33,none⟩)) (bt b)).run prog (w.alloc (.cells (qo (k,v,zz,f)).toArray 148))=.ok () (w.alloc (.cells (qo (k,v,b,f)).toArray 148)):=by
  simp only[Instr.storeAt,Instr.sureAddr,Sem.run_bind,Sem.run_pure,Result.andThen];exact hr
 simp[execOp,ho,hx,hy,h2,Result.andThen]
theorem au {ρ:Operand→Value}{o:Oper}(w:World)(x y:Operand)(k:Nat)(v b:Bt)(f:Bool)(ho:o.op=.store 4 x y)(hx:ρ x=.pointer (some ⟨w.heap.size,65,none⟩))(hy:ρ y=.bool f)(hv:v.length=32)(hb:b.length=32) :
    (execOp ρ o).run prog (w.alloc (.cells (qo (k,v,b,false)).toArray 148))=.ok .skip (w.alloc (.cells (qo (k,v,b,f)).toArray 148)):=by
 have hB:qh (w.alloc (.cells (qo (k,v,b,false)).toArray 148)) w.heap.size 148 (qo (k,v,b,false)).toArray:=qh.new _ _ _;have hc:(w.alloc (.cells (qo (k,v,b,false)).toArray 148)).cell? ⟨w.heap.size,65,none⟩=some (.bool false):=by
  rw[hB.cell 65];exact(rowOf (k,v,b,false) hv hb).written
 have hf:=hB.frozen 65;have hW:(w.alloc (.cells (qo (k,v,b,false)).toArray 148)).setCell ⟨w.heap.size,65,none⟩ (.bool f)=w.alloc (.cells (qo (k,v,b,f)).toArray 148):=by
  rw[setCell_eq_setRow _ _ _ _ _ _ _ (heap_alloc_new w _),World.setRow_alloc_new,qaF k v b false f hv hb]
 unfold execOp;rw[ho];simp only[hx,hy];rw[← hW];generalize w.alloc (.cells (qo (k,v,b,false)).toArray 148)=W at *;go_simp
theorem sf {P:Program}{o:Oper}{a:Act}{w:World}{K:Act→World→Prop}{Q:Exit→Act→World→Prop}(s x:Operand)(t:TypeId)
    (ho:o.op=.call { callee:=.builtin .append,args:=#[s,x],argTypes:=#[t,t] })
    (base:Nat) (e:TypeId) (i:TypeInfo) (z:Value) (size bytes:Nat) (ht:P.underlying t=some (.slice e)) (hi:P.info? e=some i) (hz:i.zero=some z)
    (hsize:i.size=size) (hby:i.bytes=bytes) (hzs:z.cells.size=size) (hsz:0<size)
    (v:Value) (n:Nat) (xs:List Value) (hs:a.eval s=v) (hown:w.ownsRow base e size v n xs)
    (ad:Addr) (m c:Nat) (news:List Value) (hx:a.eval x=.slice (some ad) m c) (hl:news.length=m*size) (hnews:∀j u,news[j]?=some u→w.cell? (ad.add j)=some u) (h1:∀u∈news,u.oneCell'=true)
    (h63:n+m≤maxLen) (hbytes:(n+m)*bytes≤140737488355328) (hbase:base≤w.heap.size)
    (h:∀v' w',w'.ownsRow base e size v' (n+m) (xs++news)→w.grownBy w' v.ownBlock→(v'.ownBlock=v.ownBlock∨v'.ownBlock=some w.heap.size)→K (a.put o.dst v') w'):o.wp P a w K Q:=by
 obtain⟨v',w',hrun,h2,h3,_,h5⟩:=run_append_own_at (P:=P) w base t o.type e i z size bytes ht hi hz hsize hby hzs hsz v n xs hown ad m c news hl hnews h1 h63 hbytes hbase;unfold Oper.wp;simp[execOp,ho,resolve,invoke,builtin,hs,hx,hrun,Result.andThen];exact h v' w' h2 h3 h5
theorem yq {w:World}{base e size n:Nat}{v:Value}{xs:List Value}(h:w.ownsRow base e size v n xs):∃A c,v=.slice A n c:=by
 rcases h.2 with⟨rfl,rfl⟩|⟨g,cap,cur,rfl,_⟩
 ·exact⟨none,0,rfl⟩
 ·exact⟨_,cap,rfl⟩
theorem qcV(l:List (Nat × Bt × Bt × Bool))(x:Nat × Bt × Bt × Bool):uW (l++[x])=uW l++qo x:=by simp[uW]
theorem qaH:∀(l:List Value) (k:Nat) (acc:Array Value),k+l.length≤acc.size →
    (l.zipIdx k).foldl (fun a x=>a.setIfInBounds (0+x.2) x.1) acc=(acc.toList.take k++l++acc.toList.drop (k+l.length)).toArray
 | [],k,acc,_=>by simp
 | x::l,k,acc,h=>by
  have hk:k<acc.size:=by simp at h;omega
  have gZ:k<acc.toList.length:=by simpa using hk
  rw[List.zipIdx_cons,List.foldl_cons,qaH l (k+1) _ (by simp at h ⊢;omega)]
  congr 1
  simp only[Nat.zero_add,Array.toList_setIfInBounds,List.length_cons];rw[List.drop_set_of_lt (by omega),show k+1+l.length=k+(l.length+1)by omega];have e:(acc.toList.set k x).take (k+1)=acc.toList.take k++[x]:=by
   rw[List.take_succ_eq_append_getElem (by simpa using hk)];simp only[List.getElem_set_self,List.take_set];rw[List.set_eq_of_length_le (by simp;omega)]
  rw[e];simp
theorem lG (size:Nat)(cs acc:Array Value)(h1:cs.size=size)(h2:acc.size=size):Instr.fill (fun i=>some (i*size,size)) acc [(0,.agg cs)]=some cs:=by
 simp only[Instr.fill,Nat.zero_mul,Value.cells];rw[if_neg (by simp[h1,h2])]
 congr 1
 rw[← Array.foldl_toList,Array.toList_zipIdx,qaH cs.toList 0 acc (by simp;omega)];simp;rw[List.drop_eq_nil_of_le (by simp;omega)];simp
theorem lH {ρ:Operand→Value}{o:Oper}{w:World}(x:Operand)(cs:Array Value)(ho:o.op=.buildSlice 86 1 #[(0,x)])(hx:ρ x=.agg cs)(hs:cs.size=66) :
    (execOp ρ o).run prog w=.ok (.value (.slice (some ⟨w.heap.size,0,none⟩) 1 1)) (w.alloc (.cells cs 148)):=by
 obtain⟨i0,hi,hz0,hz1,hz2⟩:=info_parts qcT;have hr:=run_buildSlice (P:=prog) w 86 148 1 #[(0,.agg cs)] cs i0 _ underlying86 hi hz0 (by rw[hz1];decide) (by rw[hz1];decide) (by
  rw[hz1];exact lG 66 cs _ hs (by simp))
 simp[execOp,ho,hx,hr,Result.andThen]
theorem fJ {ρ:Operand→Value}{o:Oper}{w:World}(x:Operand)(ho:o.op=.load 148 x)(g:Nat)(hx:ρ x=.pointer (some ⟨g,0,none⟩))(cs:Array Value)(hg:qh w g 148 cs)(hs:cs.size=66) :
    (execOp ρ o).run prog w=.ok (.value (.agg cs)) w:=by
 have:=wU (P:=prog) (w:=w) 148 x ho g 0 hx 148 cs cs.toList (0,0) _ hg underlying148 rfl (by rw[qjy];simp[hs]) (fun j u hu=>by rw[Nat.zero_add];simpa using hu);simpa using this
theorem wW {ρ:Operand→Value}{o:Oper}{w:World}(x:Operand)(ho:o.op=.load 86 x)(b i:Nat)(hx:ρ x=.pointer (some ⟨b,i,none⟩))(A:Option Addr)(n c:Nat)(hc:w.cell? ⟨b,i,none⟩=some (.slice A n c)) :
    (execOp ρ o).run prog w=.ok (.value (.slice A n c)) w:=by
 unfold execOp;simp only[ho,hx];go_simp
theorem od {P:Program}{md:Region.Mode}{ops:Array Oper}{Q:Exit→Act→World→Prop}{i j l:Nat}{oi oj ol:Oper}{di dj dl:Tmp}{vi vj vl:Value}{fuel:Nat}{listed:Array Bool}{a:Act}{w w2:World}
    (hr:Region.ready md ops listed=[i,j]) (hri:Region.ready md ops (listed.setIfInBounds i true)=[j]) (q0g:Region.ready md ops ((listed.setIfInBounds i true).setIfInBounds j true)=[l])
    (hrj:Region.ready md ops (listed.setIfInBounds j true)=[i,l]) (q0h:Region.ready md ops ((listed.setIfInBounds j true).setIfInBounds l true)=[i])
    (hij:i≠j) (hil:i≠l) (hoi:ops[i]?=some oi) (hoj:ops[j]?=some oj) (hol:ops[l]?=some ol) (hgi:oi.guard=none) (hgj:oj.guard=none) (jQ:ol.guard=none)
    (hdi:oi.dst=some di) (rJ:oj.dst=some dj) (hdl:ol.dst=some dl) (d1:di≠dj) (d2:di≠dl)
    (hi0:(execOp a.eval oi).run P w=.ok (.value vi) w) (hi1:(execOp (a.put (some dj) vj).eval oi).run P w=.ok (.value vi) w) (hi2:(execOp ((a.put (some dj) vj).put (some dl) vl).eval oi).run P w2=.ok (.value vi) w2)
    (hj0:(execOp a.eval oj).run P w=.ok (.value vj) w) (hj1:(execOp (a.put (some di) vi).eval oj).run P w=.ok (.value vj) w)
    (hl1:(execOp ((a.put (some di) vi).put (some dj) vj).eval ol).run P w=.ok (.value vl) w2) (hl2:(execOp (a.put (some dj) vj).eval ol).run P w=.ok (.value vl) w2)
    (h:wpAny P md ops Q fuel (((listed.setIfInBounds i true).setIfInBounds j true).setIfInBounds l true) (((a.put (some di) vi).put (some dj) vj).put (some dl) vl) w2):wpAny P md ops Q (fuel+3) listed a w:=by
 have tail:∀(b:Act) (ls:Array Bool),b=(a.put (some di) vi).put (some dj) vj→ls=(listed.setIfInBounds i true).setIfInBounds j true→wpAny P md ops Q (fuel+1) ls b w:=by
  rintro b ls rfl rfl;refine qY q0g hol jQ (yt hl1 ?_);rw[hdl];exact h
 have hwi:∀b:Act,Region.wanted oi (yielded ops b.tmps)=true:=fun b=>by simp[Region.wanted,hgi]
 have hwj:∀b:Act,Region.wanted oj (yielded ops b.tmps)=true:=fun b=>by simp[Region.wanted,hgj]
 have hwl:∀b:Act,Region.wanted ol (yielded ops b.tmps)=true:=fun b=>by simp[Region.wanted,jQ]
 refine wpAny_all hr (by simp) fun k hk=>?_;rcases(show k=i∨k=j by simpa using hk)with rfl|rfl
 ·unfold wpOp;simp only[hoi,hwi,if_true]
  left
  refine yt hi0 ?_;rw[hdi];refine qY hri hoj hgj (yt hj1 ?_);rw[rJ];exact tail _ _ rfl rfl
 ·unfold wpOp;simp only[hoj,hwj,if_true]
  left
  refine yt hj0 ?_;rw[rJ];refine wpAny_all hrj (by simp) fun n hn=>?_;rcases(show n=i∨n=l by simpa using hn)with rfl|rfl
  ·unfold wpOp;simp only[hoi,hwi,if_true]
   left
   refine yt hi1 ?_;rw[hdi];exact tail _ _ (dp a dj di vj vi (Ne.symm d1)) (Array.setIfInBounds_comm _ _ (Ne.symm hij))
  ·unfold wpOp;simp only[hol,hwl,if_true]
   left
   refine yt hl2 ?_;rw[hdl];refine qY q0h hoi hgi (yt hi2 ?_);rw[hdi,dp _ dl di vl vi (Ne.symm d2),dp a dj di vj vi (Ne.symm d1),Array.setIfInBounds_comm _ _ (Ne.symm hil),Array.setIfInBounds_comm (xs:=listed) _ _ (Ne.symm hij)];exact h
def FG (p m:Nat)(room used:Int)(B:Nat):Nat→Value→World→Prop
 | 0,v,_=>v=.pointer (some ⟨p,0,none⟩)
 | 1,v,_=>v=.pointer (some ⟨p,0,none⟩)
 | 2,v,_=>v=.pointer (some ⟨p,1,none⟩)
 | 3,v,_=>v=.int .i64 room
 | 4,v,_=>v=.pointer (some ⟨p,0,none⟩)
 | 5,v,_=>v=.pointer (some ⟨p,0,none⟩)
 | 6,v,_=>v=.pointer (some ⟨p,2,none⟩)
 | 7,v,_=>v=.map (some m)
 | 8,v,_=>v=.int .i64 used
 | 9,v,_=>v=.int .i64 (room-used)
 | 10,v,w=>∃b,v=.pointer (some ⟨b,0,none⟩)∧B≤b∧qh w b 3 #[.int .i64 0]
 | _,_,_=>True
theorem qnp(p m:Nat)(room used:Int)(B:Nat)(i:Nat)(v:Value)(w w':World)(hi:i<11)(h:FG p m room used B i v w)(hb:Below w.heap.size w w'):FG p m room used B i v w':=by
 match i,hi,h with
 | 0,_,h | 1,_,h | 2,_,h | 3,_,h | 4,_,h | 5,_,h | 6,_,h | 7,_,h | 8,_,h | 9,_,h=>exact h
 | 10,_,⟨b,h1,h2,h3⟩=>exact⟨b,h1,h2,h3.of_block (hb.block b h3.lt)⟩
def qj0 (p:Nat)(free:Int)(w:World)(e:Ending)(w':World):Prop :=
 ∃B4 B3 a,e=.returned (.func (.func 279) #[] #[.pointer (some ⟨w.heap.size,0,none⟩),.pointer (some ⟨B4,0,none⟩),.pointer (some ⟨B3,0,none⟩)]) ∧
  Env w' p w.heap.size B4 B3 a free []∧Below w.heap.size w w'∧w.heap.size≤a
section
variable {w:World} {p m:Nat} {v:Value} {d:DD} {own:Nat→Prop}
theorem qcW{most:Nat}(h0:d.ok most)(h:kL w own p m v d) :
    Calls prog 252 #[.pointer (some ⟨p,0,none⟩)] w (qj0 p (d.room-(d.used:Int)) w):=by
 have hmm:=@run_makeMap prog;have HM:=QH h.2.1;have hp:=h.1.lt;have hml:=h.2.1.lt;obtain⟨c0,c1,c2,c3,c4,c5⟩:=jC h.1;have r0:=h0.qvi;have r1:=h0.qvj;have hu:d.used≤1024:=by
  have:=rW d.now;rw[d.yY]at this;have:=h0.n1;unfold DD.used;omega
 have HU:Hid (cnt d.now=d.used):=rfl;clear h h0 c0 c3 c4 c5;generalize hroom:d.room=room at *;generalize qvp:d.used=used at *;clear hroom qvp;go_enter func252,ntmps252;go_wp2_with fail;have uo:(w.alloc (.cells #[.pointer (some ⟨p,0,none⟩)] 23)).heap[w.heap.size]?=some (.cells #[.pointer (some ⟨p,0,none⟩)] 23 (0,0)):=heap_alloc_new w _;have hold:∀k,k<w.heap.size→(w.alloc (.cells #[.pointer (some ⟨p,0,none⟩)] 23)).heap[k]?=w.heap[k]? :=fun k hk=>Below.heap_alloc w _ k hk;have hsz:(w.alloc (.cells #[.pointer (some ⟨p,0,none⟩)] 23)).heap.size=w.heap.size+1:=by simp
 have hB0:Below w.heap.size w (w.alloc (.cells #[.pointer (some ⟨p,0,none⟩)] 23)):=(Below.refl _ w).alloc (Nat.le_refl _) _;generalize w.alloc (.cells #[.pointer (some ⟨p,0,none⟩)] 23)=w1 at *;refine bg (by kernel_rfl) 11 [5,6,7,8,9,10,11,12,13,14,3] (by kernel_rfl) (FG p m room (used:Int) w1.heap.size) (qnp _ _ _ _ _) ?_ ?_
 ·intro i o vs ρ W hi ho hρ hb hG;have t5:=hρ.at_ 5 0 rfl;have t6:=hρ.at_ 6 1 rfl;have t7:=hρ.at_ 7 2 rfl;have t8:=hρ.at_ 8 3 rfl;have t9:=hρ.at_ 9 4 rfl;have t10:=hρ.at_ 10 5 rfl;have t11:=hρ.at_ 11 6 rfl;have t12:=hρ.at_ 12 7 rfl;have t13:=hρ.at_ 13 8 rfl;have t1:ρ (.tmp 1)=.pointer (some ⟨w.heap.size,0,none⟩):=hρ.out 1 rfl;have hc:=hρ.const;have k1:W.cell? ⟨w.heap.size,0,none⟩=some (.pointer (some ⟨p,0,none⟩)):=by rw[hb.cell (p:=⟨w.heap.size,0,none⟩) (by simp[hsz]),cell_of_row _ _ _ _ _ _ uo];rfl
  have q1:W.cell? ⟨p,1,none⟩=some (.int .i64 room):=by rw[hb.cell (p:=⟨p,1,none⟩) (by simp[hsz];omega),World.cell?_of_block (a:=⟨p,1,none⟩) (hold p hp)];exact c1
  have q2:W.cell? ⟨p,2,none⟩=some (.map (some m)):=by rw[hb.cell (p:=⟨p,2,none⟩) (by simp[hsz];omega),World.cell?_of_block (a:=⟨p,2,none⟩) (hold p hp)];exact c2
  have hmW:xc W m d.now:=HM.out.of_block ((hb.block m (by omega)).trans (hold m hml));rcases i with _|_|_|_|_|_|_|_|_|_|_|i;all_goals (first|omega|skip)
  all_goals simp only[QA,QB,QC,Option.some.injEq]at ho
  all_goals subst ho
  ·exact qa (w':=W) (by unfold execOp;simp only[t1];go_simp) ⟨Below.refl _ _,rfl⟩
  ·have g:vs 0=_:=hG 0 (by kernel_rfl);exact qa (w':=W) (by unfold execOp;simp only[t5,g];go_simp) ⟨Below.refl _ _,rfl⟩
  ·have g:vs 1=_:=hG 1 (by kernel_rfl);exact qa (w':=W) (by unfold execOp;simp only[t6,g];go_simp) ⟨Below.refl _ _,rfl⟩
  ·have g:vs 2=_:=hG 2 (by kernel_rfl);exact qa (w':=W) (by unfold execOp;simp only[t7,g];go_simp) ⟨Below.refl _ _,rfl⟩
  ·exact qa (w':=W) (by unfold execOp;simp only[t1];go_simp) ⟨Below.refl _ _,rfl⟩
  ·have g:vs 4=_:=hG 4 (by kernel_rfl);exact qa (w':=W) (by unfold execOp;simp only[t9,g];go_simp) ⟨Below.refl _ _,rfl⟩
  ·have g:vs 5=_:=hG 5 (by kernel_rfl);exact qa (w':=W) (by unfold execOp;simp only[t10,g];go_simp) ⟨Below.refl _ _,rfl⟩
  ·have g:vs 6=_:=hG 6 (by kernel_rfl);exact qa (w':=W) (by unfold execOp;simp only[t11,g];go_simp) ⟨Below.refl _ _,rfl⟩
  ·have g:vs 7=_:=hG 7 (by kernel_rfl);exact qa (w':=W) (qjv (.tmp 12) rfl (t12.trans g) hmW) ⟨Below.refl _ _,by rw[HU.out];rfl⟩
  ·have g3:vs 3=_:=hG 3 (by kernel_rfl);have g8:vs 8=_:=hG 8 (by kernel_rfl);exact qa (w':=W) (by unfold execOp;simp only[t8,g3,t13,g8];go_simp;exact IntWalk.i64_in _ (by omega)) ⟨Below.refl _ _,rfl⟩
  ·exact qa (v:=.pointer (some ⟨W.heap.size,0,none⟩)) (w':=W.alloc (.cells #[.int .i64 0] 3)) (by unfold execOp;go_simp) ⟨(Below.refl _ _).alloc (Nat.le_refl _) _,W.heap.size,rfl,hb.size,qh.new _ _ _⟩
 ·intro vs W hb hG;have g9:vs 9=_:=hG 9 (by decide);obtain⟨b3,g10,hb3,hk3⟩:∃b,vs 10=.pointer (some ⟨b,0,none⟩)∧w1.heap.size≤b∧qh W b 3 #[.int .i64 0]:=hG 10 (by decide);simp only[qZ,qM,if_true];rw[g9,g10];generalize vs 0=x0;generalize vs 1=x1;generalize vs 2=x2;generalize vs 3=x3;generalize vs 4=x4;generalize vs 5=x5;generalize vs 6=x6;generalize vs 7=x7;generalize vs 8=x8;clear hG g9 g10;have k3:W.cell? ⟨b3,0,none⟩=some (.int .i64 0):=hk3.cell 0;have f3:=hk3.frozen 0;have og:=QH hk3;have hbW:=hb.size;have HB:=QH (hB0.trans (hb.mono (by omega)));have HX:=QH ((hb.block w.heap.size (by omega)).trans uo);have q97:=hk3.lt;clear hk3 hb hB0 hold uo c1 c2;go_simp;refine qY (i:=11) (by kernel_rfl) rfl rfl ?_;go_simp;refine⟨by kernel_rfl,?_⟩;go_wp2;go_ret;generalize hW2:W.setCell ⟨b3,0,none⟩ (.int .i64 (room-(used:Int)))=W2;have hs2:W2.heap.size=W.heap.size:=by rw[← hW2,size_set]
  have hk2:qh W2 b3 3 #[.int .i64 (room-(used:Int))]:=by rw[← hW2];exact og.out.qu 0 _
  have hx2:qh W2 w.heap.size 23 #[.pointer (some ⟨p,0,none⟩)]:=by
   unfold qh;rw[← hW2,xr _ _ _ _ _ (by omega)];exact HX.out
  have hB2:Below w.heap.size w W2:=by rw[← hW2];exact HB.out.setCell (by simp;omega) _
  refine⟨W.heap.size+1,b3,W.heap.size,rfl,⟨?_,?_,?_,?_⟩,?_,?_⟩
  ·refine(hx2.of_block (Below.heap_alloc _ _ _ (by omega))).of_block (Below.heap_alloc _ _ _ (by simp;omega))
  ·rw[← hs2];exact heap_alloc2_new _ _ _
  ·refine(hk2.of_block (Below.heap_alloc _ _ _ (by omega))).of_block (Below.heap_alloc _ _ _ (by simp;omega))
  ·rw[← hs2];exact(ye.made W2).of_block (Below.heap_alloc _ _ _ (by simp))
  ·exact(hB2.alloc (by omega) _).alloc (by simp;omega) _
  ·omega
end
end Go.Proofs.YtdpbdkacngaemaaGreatDoor.dk
