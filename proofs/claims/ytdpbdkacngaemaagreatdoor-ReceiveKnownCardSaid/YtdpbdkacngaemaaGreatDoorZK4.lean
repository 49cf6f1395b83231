/- ImVol2, ImChk, MgTk, MgTok, MgSnap, MgSns. -/
import Derived.Test.YtdpbdkacngaemaaGreatDoorZK3
import Derived.Maps.OwnSet
import Derived.Deep.DeepCutAuto
set_option linter.unusedVariables false
set_option linter.unusedSimpArgs false
set_option maxHeartbeats 30000000
set_option maxRecDepth 100000
namespace Go.Proofs.YtdpbdkacngaemaaGreatDoor.im
open _root_.Go.Proofs.Tryz Go Go.RowKit ib
def qq5 (V:List Int)(n:Int)(w:World)(i:Value)(wr:World):Prop:=∃k:Nat,k≤8∧i=.int .i64 (k:Int)∧(V.take k).any (wu n)=false∧qh wr w.heap.size 276 (qj V)∧Below w.heap.size w wr
theorem rO (V:List Int)(hv:V.length=8)(n:Int)(w:World):Calls prog 209 #[.agg (qj V),.int .i64 n] w (kE (!V.any (wu n)) w):=by
 obtain⟨res,hres⟩:=QE (V.any (wu n));rw[hres];have xn:=QH hres;have HV:=QH hv;clear hv hres;have K0:=QH (qh.new w 276 (qj V));have B0:=QH ((Below.refl w.heap.size w).alloc (Nat.le_refl _) (.cells (qj V) 276));go_enter func209,ntmps209;go_wp2_with fail;go_loopw [7] (fun i wr=>qq5 V n w i wr) (fun i _=>8-(intOf i).toNat);case atStart=>exact⟨0,by omega,rfl,by simp,K0.out,B0.out⟩
 case round =>
  clear K0 B0;obtain⟨k,hk,rfl,ha,hb,hw⟩:=hrel;have HA:=QH ha;have HB:=QH hb;have HW:=QH hw;clear ha hb hw;by_cases h8:k<8
  ·have h8i:(k:Int)<8:=by omega
   have hkv:k<V.length:=by rw[HV.out];exact h8
   have HS:=QH (qio hkv (wu n));have HT:=QH (fun h=>qql (p:=wu n) hkv h);have e0:wr.cell? ⟨w.heap.size,k,none⟩=some (.int .i64 V[k]):=by rw[HB.out.cell k];exact kr _ _ _
   have l0:=HB.out.lt;generalize V[k]=x at *;clear hkv;by_cases hx:x=0
   ·subst hx;have kY:Hid ((V.take (k+1)).any (wu n)=false):=by unfold Hid;rw[HS.out,HA.out];rfl
    go_wp2_with fail;go_roundw;case rel=>exact⟨k+1,by omega,by go_num,kY.out,HB.out,HW.out⟩
    case measure=>simp[intOf];omega
   ·have hxb:(x != 0)=true:=by simpa using hx
    by_cases cT:x<193∨n≤x
    ·have hbp:wu n x=true:=by
        unfold wu;rw[decide_eq_true hx,Bool.true_and];rcases cT with h|h
        ·rw[decide_eq_true h,Bool.true_or]
        ·rw[decide_eq_true h,Bool.or_true]
     have hr:res=true:=by rw[← xn.out,HT.out hbp]
     subst hr;by_cases xm:x<193
     ·go_wp2_with fail;go_ret;exact⟨rfl,HW.out⟩
     ·have hge:n≤x:=by omega
      go_wp2_with fail;go_ret;exact⟨rfl,HW.out⟩
    ·have xm:¬ x<193:=fun h=>cT (.inl h);have hge:¬ n≤x:=fun h=>cT (.inr h);have kY:Hid ((V.take (k+1)).any (wu n)=false):=by
      unfold Hid;rw[HS.out,HA.out];unfold wu;rw[decide_eq_false xm,decide_eq_false hge,Bool.or_false,Bool.and_false,Bool.or_false]
     go_wp2_with fail;go_roundw;case rel=>exact⟨k+1,by omega,by go_num,kY.out,HB.out,HW.out⟩
     case measure=>simp[intOf];omega
  ·have h8i:¬ (k:Int)<8:=by omega
   have hr:res=false:=by
    have:=HA.out;rw[List.take_of_length_le (by rw[HV.out];omega),xn.out]at this;exact this
   subst hr;go_wp2_with fail;go_ret;exact⟨rfl,HW.out⟩
abbrev D1:=DataW Unit
def oV:Value→Option (D1 × List MemPlace)
 | .int k a=>some (.lit (.int k a),[])
 | _=>none
theorem qfG{x:Value}{a:Int}{ps:List MemPlace}(h:oV x=some (.lit (.int .i64 a),ps)):x=.int .i64 a:=by
 cases x <;> simp[oV]at h;obtain⟨⟨rfl,rfl⟩,_⟩:=h;rfl
def xo (w:World)(m s:Nat)(f:Int→Int):Prop :=
 ∃D:D1,w.ownsMap prog 3 oV m (Maps.size D) D∧(∀k:Int,D.atKey (.int .i64 k) (.lit (.int .i64 0))=.lit (.int .i64 (f k)))∧Maps.size D≤s
theorem qc7{w:World}{b n:Nat}{D:D1}{P:Program}{k:TypeId}{R:Value→Option (D1 × List MemPlace)}(h:w.ownsMap P k R b n D):w.ownsMap P k R b (Maps.size D) D:=by
 obtain⟨es,clock,hb,F,_,rfl⟩:=h;exact⟨es,clock,hb,F,by simp[Maps.size,length_sorted],rfl⟩
theorem xo.lt{w:World}{m s:Nat}{f:Int→Int}(h:xo w m s f):m<w.heap.size:=by
 obtain⟨D,h1,_⟩:=h;exact h1.lt
theorem xo.made(w:World):xo (w.alloc (.map #[] 0)) w.heap.size 0 (fun _=>0) :=
 ⟨.map [],World.ownsMap_made w prog 3 oV,fun _=>rfl,by simp[Maps.size]⟩
theorem xo.congr{w:World}{m s:Nat}{f g:Int→Int}(h:xo w m s f)(e:∀z,f z=g z):xo w m s g:=by
 obtain⟨D,h1,h2,h3⟩:=h;exact⟨D,h1,fun k=>by rw[h2,e],h3⟩
theorem xo.more{w:World}{m s s':Nat}{f:Int→Int}(h:xo w m s f)(e:s≤s'):xo w m s' f:=by
 obtain⟨D,h1,h2,h3⟩:=h;exact⟨D,h1,h2,Nat.le_trans h3 e⟩
abbrev qc8:Go.Maps.Keyed prog 3:=Go.Maps.int_keyed underlying3
theorem iwf(k:Int)(h:qA k):(Lit.int .i64 k).wf=true:=WalkArith.wf_i64 (by unfold qA at h;omega)
theorem xo.find{w:World}{m s:Nat}{f:Int→Int}(h:xo w m s f)(k:Int)(hk:qA k) :
    (Instr.lookup 316 (.map (some m)) (.int .i64 k) false).run prog w=.ok (.int .i64 (f k)) w:=by
 obtain⟨D,hown,ha,_⟩:=h;have hkey:=Go.Maps.keyOf_int_mk (P:=prog) (k:=3) underlying3 (iwf k hk);obtain⟨i0,hi,hz0,-,-⟩:=info_parts vE;have hz:(zeroValue 3).run prog w=.ok (.int .i64 0) w:=by simp[zeroValue,typeInfo,hi,hz0]
 obtain⟨v2,ps2,fD,hv2⟩:=hown.lookup qc8 underlying316 hz (rfl:oV (.int .i64 0)=some (.lit (.int .i64 0),[])) hkey;rw[ha]at hv2;rw[qfG hv2]at fD;exact fD
theorem qmG(k:Int):WideAt.IsKeyLit (Lit.int .i64 k):=trivial
theorem qmH{a b:Int}(h:a≠b):(Lit.int .i64 a)≠Lit.int .i64 b:=fun e=>h (by injection e)
theorem xo.store{w:World}{m s:Nat}{f:Int→Int}(h:xo w m s f)(k v:Int)(hk:qA k)(hs:s≤1000) :
    ∃w',(Instr.mapUpdate 316 (.map (some m)) (.int .i64 k) (.int .i64 v)).run prog w=.ok () w'∧xo w' m (s+1) (fun z=>if z=k then v else f z)∧w.mapTurned w' m:=by
 obtain⟨D,hown,ha,hc⟩:=h;have hkey:=Go.Maps.keyOf_int_mk (P:=prog) (k:=3) underlying3 (iwf k hk);have hti:=hown.tidy qc8;obtain⟨w',hrun,r1,r2⟩:=hown.store qc8 underlying316 (by unfold maxLen;omega) hkey (rfl:oV (.int .i64 v)=some (.lit (.int .i64 v),[]));refine⟨w',hrun,⟨_,qc7 r1,?_,?_⟩,r2⟩
 ·intro j;dsimp only;by_cases e:j=k
  ·subst e;rw[if_pos rfl];exact Maps.atKey_put_same hti.isMap (qmG _) _ _
  ·rw[if_neg e,Maps.atKey_put_other (qmH e)];exact ha j
 ·rw[Maps.size_put hti];split <;> omega
theorem dt {ρ:Operand→Value}{o:Oper}{w:World}{b s:Nat}{f:Int→Int}(x y:Operand)(ho:o.op=.lookup 316 x y false)(hx:ρ x=.map (some b))(h:xo w b s f)
    (k:Int) (hy:ρ y=.int .i64 k) (hk:qA k):(execOp ρ o).run prog w=.ok (.value (.int .i64 (f k))) w:=by
 simp[execOp,ho,hx,hy,h.find k hk,Result.andThen]
theorem uk {ops:Array Oper}{rest:List Oper}{o:Oper}{a:Act}{w:World}{Q:Exit→Act→World→Prop}{b s:Nat}{f:Int→Int}(hg:o.guard=none)(x y z:Operand)(ho:o.op=.mapUpdate 316 x y z)(hx:a.eval x=.map (some b))(h:xo w b s f)
    (k v:Int) (hy:a.eval y=.int .i64 k) (hz:a.eval z=.int .i64 v) (hk:qA k) (hs:s≤1000)
    (hK:∀w',xo w' b (s+1) (fun z=>if z=k then v else f z)→w.mapTurned w' b→wpList prog ops Q rest (a.put o.dst undef) w'):wpList prog ops Q (o::rest) a w:=by
 refine wpList_plain hg fun K' hK'=>?_;obtain⟨w',hrun,r1,r2⟩:=h.store k v hk hs;unfold Oper.wp;simp[execOp,ho,hx,hy,hz,hrun,Result.andThen];exact hK' _ _ (hK w' r1 r2)
theorem bn {m:Nat}{w w' w2:World}(h:Below w.heap.size w w')(ht:w'.mapTurned w2 m)(hm:w.heap.size≤m):Below w.heap.size w w2 :=
 h.grown ht.grown h.size (fun k e=>by injection e with e;omega)
def qaz (V:List Int)(k:Nat)(z:Int):Bool:=(List.range k).any fun j=>decide (z=pl V j)
def hf (V:List Int)(k:Nat)(z:Int):Int:=if (decide (z≠0)&&qaz V k z)=true then 1 else 0
theorem ll (V:List Int)(k:Nat)(z:Int):qaz V (k+1) z=(qaz V k z || decide (z=pl V k)):=by
 unfold qaz;rw[List.range_succ,List.any_append,List.any_cons,List.any_nil,Bool.or_false]
theorem qmI(V:List Int)(z:Int):hf V 0 z=0:=by
 unfold hf qaz;simp
theorem qmJ{V:List Int}{k:Nat}(h:pl V k=0)(z:Int):hf V k z=hf V (k+1) z:=by
 unfold hf;rw[ll,h];by_cases hz:z=0
 ·subst hz;rfl
 ·rw[decide_eq_false hz,Bool.or_false]
theorem qq7{V:List Int}{k:Nat}(h:pl V k≠0)(z:Int):(if z=pl V k then 1 else hf V k z)=hf V (k+1) z:=by
 unfold hf;rw[ll];by_cases hz:z=pl V k
 ·rw[if_pos hz,decide_eq_true hz,Bool.or_true,Bool.and_true,decide_eq_true (by rw[hz];exact h),if_pos rfl]
 ·rw[if_neg hz,decide_eq_false hz,Bool.or_false]
theorem qu7{V:List Int}{k:Nat}(h:pl V k≠0):hf V k (pl V k)=if wH V k k=true then 1 else 0:=by
 unfold hf;rw[decide_eq_true h,Bool.true_and];rfl
theorem qq8{V:List Int}{k m:Nat}(h:pl V k≠0)(hd:wH V k k=true)(hk:k<m):yi V m=true:=by
 unfold wH at hd;rw[List.any_eq_true]at hd;obtain⟨j,hj,he⟩:=hd;exact qcj hk (List.mem_range.1 hj) h (of_decide_eq_true he)
def qiX (V:List Int)(w:World)(i:Value)(wr:World):Prop :=
 ∃k:Nat,k≤8∧i=.int .i64 (k:Int)∧yi V k=false∧qh wr w.heap.size 276 (qj V)∧xo wr (w.heap.size+1) k (hf V k)∧Below w.heap.size w wr
theorem nV (V:List Int)(hv:V.length=8)(hz:∀z∈V,qA z)(w:World):Calls prog 210 #[.agg (qj V)] w (kE (yi V 8) w):=by
 obtain⟨res,hres⟩:=QE (yi V 8);rw[hres];have xn:=QH hres;have HV:=QH hv;have HZ:=QH hz;clear hv hres hz;have hsz:(w.alloc (.cells (qj V) 276)).heap.size=w.heap.size+1:=by simp
 have k0:qh ((w.alloc (.cells (qj V) 276)).alloc (.map #[] 0)) w.heap.size 276 (qj V):=(qh.new w 276 (qj V)).of_block (Below.heap_alloc _ _ _ (by rw[hsz];omega));have k1:xo ((w.alloc (.cells (qj V) 276)).alloc (.map #[] 0)) (w.heap.size+1) 0 (hf V 0):=by
  have:=xo.made (w.alloc (.cells (qj V) 276));rw[hsz]at this;exact this.congr fun z=>(qmI V z).symm
 have b0:Below w.heap.size w ((w.alloc (.cells (qj V) 276)).alloc (.map #[] 0)):=((Below.refl w.heap.size w).alloc (Nat.le_refl _) _).alloc (by simp) _;have K0:=QH k0;have K1:=QH k1;have B0:=QH b0;clear hsz k0 k1 b0;have hmm:=@run_makeMap prog;go_enter func210,ntmps210;go_wp2_with fail;go_loopw [7] (fun i wr=>qiX V w i wr) (fun i _=>8-(intOf i).toNat);case atStart=>exact⟨0,by omega,rfl,rfl,K0.out,K1.out,B0.out⟩
 case round =>
  clear K0 K1 B0;obtain⟨k,hk,rfl,ha,hb,hh,hw⟩:=hrel;have HA:=QH ha;have HB:=QH hb;have HH:=QH hh;have HW:=QH hw;clear ha hb hh hw;by_cases h8:k<8
  ·have h8i:(k:Int)<8:=by omega
   have hkv:k<V.length:=by rw[HV.out];exact h8
   have hpk:pl V k=V[k]:=aO hkv;have e0:wr.cell? ⟨w.heap.size,k,none⟩=some (.int .i64 V[k]):=by rw[HB.out.cell k];exact kr _ _ _
   have HX:Hid (qA V[k]):=HZ.out _ (List.getElem_mem hkv);have l0:=HB.out.lt;have HP:=QH hpk;clear hpk;generalize V[k]=x at *;clear hkv;by_cases hx:x=0
   ·subst hx;have kY:Hid (yi V (k+1)=false):=by unfold Hid;rw[ag,HA.out,HP.out];rfl
    have HN:Hid (xo wr (w.heap.size+1) (k+1) (hf V (k+1))):=(HH.out.congr (qmJ HP.out)).more (Nat.le_succ _);go_wp2_with fail;go_roundw;case rel=>exact⟨k+1,by omega,by go_num,kY.out,HB.out,HN.out,HW.out⟩
    case measure=>simp[intOf];omega
   ·have hxb:(x == 0)=false:=by simpa using hx
    have hpn:pl V k≠0:=by rw[HP.out];exact hx
    have HI:=QH (qu7 hpn);by_cases hd:wH V k k=true
    ·have hr:res=true:=by rw[← xn.out,qq8 hpn hd h8]
     subst hr;have hf1:hf V k x=1:=by rw[← HP.out,HI.out,if_pos hd]
     have HF:=QH hf1;clear hf1 hd hpn;go_wp2_with (first|(at_lookup;refine qx rfl (dt _ _ rfl rfl HH.out x rfl HX.out) ?_;rw[HF.out])|(refine uk rfl (.tmp 15) (.tmp 16) (.tmp 18) rfl rfl HH.out x 2 rfl rfl HX.out (by omega) ?_;intro W hW hT;have HW1:=QH hW;have HT1:=QH hT;clear hW hT)|(at_lookup;refine qx rfl (dt _ _ rfl rfl HW1.out x rfl HX.out) ?_;rw[if_pos rfl]));go_ret;exact⟨rfl,bn HW.out HT1.out (Nat.le_succ _)⟩
    ·have hf1:hf V k x=0:=by rw[← HP.out,HI.out,if_neg hd]
     have HF:=QH hf1;have kY:Hid (yi V (k+1)=false):=by
      unfold Hid;rw[ag,HA.out,Bool.not_eq_true _ |>.mp hd,Bool.and_false,Bool.or_false]
     have HN:=QH (qq7 hpn);rw[HP.out]at HN;clear hf1 hd hpn;go_wp2_with (first|(at_lookup;refine qx rfl (dt _ _ rfl rfl HH.out x rfl HX.out) ?_;rw[HF.out])|(refine uk rfl (.tmp 15) (.tmp 16) (.tmp 18) rfl rfl HH.out x 1 rfl rfl HX.out (by omega) ?_;intro W hW hT;have HW1:=QH hW;have HT1:=QH hT;clear hW hT)|(at_lookup;refine qx rfl (dt _ _ rfl rfl HW1.out x rfl HX.out) ?_;rw[if_pos rfl]));go_roundw;case rel=>exact⟨k+1,by omega,by go_num,kY.out,HB.out.of_block (HT1.out.grown.block _ HB.out.lt (by simp)),HW1.out.congr HN.out,bn HW.out HT1.out (Nat.le_succ _)⟩
     case measure=>simp[intOf];omega
  ·have h8i:¬ (k:Int)<8:=by omega
   have hr:res=false:=by
    have:=HA.out;rw[show k=8 by omega,xn.out]at this;exact this
   subst hr;go_wp2_with fail;go_ret;exact⟨rfl,HW.out⟩
theorem qiY(l:List Int)(h:l.length≤8)(j:Nat):pl (bj l 0) j=pl l j:=by
 by_cases hj:j<8
 ·rw[aO (by rw[dr];exact hj),iI,Nat.zero_add]
 ·rw[cK (by rw[dr];omega),cK (by omega)]
theorem qmK(l:List Int)(h:l.length≤8)(n:Int):(bj l 0).any (wu n)=l.any (wu n):=by
 rw[Bool.eq_iff_iff,List.any_eq_true,List.any_eq_true];constructor
 ·rintro⟨z,hz,hb⟩;obtain⟨i,hi,rfl⟩:=List.getElem_of_mem hz;rw[iI,Nat.zero_add]at hb;by_cases hl:i<l.length
  ·rw[aO hl]at hb;exact⟨_,List.getElem_mem hl,hb⟩
  ·rw[cK (by omega)]at hb;cases hb
 ·rintro⟨z,hz,hb⟩;obtain⟨i,hi,rfl⟩:=List.getElem_of_mem hz;have h8:i<(bj l 0).length:=by rw[dr];omega
  refine⟨_,List.getElem_mem h8,?_⟩;rw[iI,Nat.zero_add,aO hi];exact hb
theorem qmL(l:List Int)(h:l.length≤8):yi (bj l 0) 8=yi l l.length:=by
 have e:∀i k,wH (bj l 0) i k=wH l i k:=by
  intro i k;unfold wH;simp only[qiY l h]
 have e2:∀k,yi (bj l 0) k=yi l k:=by
  intro k;unfold yi;simp only[qiY l h,e]
 rw[e2];have e3:∀m,yi l (l.length+m)=yi l l.length:=by
  intro m
  induction m with
  | zero=>rfl
  | succ m ih =>
   rw[← Nat.add_assoc,ag,ih,cK (by omega)];simp
 have:=e3 (8-l.length);rw[show l.length+(8-l.length)=8 by omega]at this;exact this
theorem qmM{w W:World}(hb:Below w.heap.size w W)(V:List Int)(hv:V.length=8) :
    qh (W.alloc (.cells #[.int .i64 0,.int .i64 0,.int .i64 0,.int .i64 0,.int .i64 0,.int .i64 0,.int .i64 0,.int .i64 0] 276)) W.heap.size 276 (qj (List.replicate 8 0)) ∧
    (W.alloc (.cells #[.int .i64 0,.int .i64 0,.int .i64 0,.int .i64 0,.int .i64 0,.int .i64 0,.int .i64 0,.int .i64 0] 276)).setRow W.heap.size (qj V)=W.alloc (.cells (qj V) 276) ∧
    qh (W.alloc (.cells (qj V) 276)) W.heap.size 276 (qj V)∧Below w.heap.size w (W.alloc (.cells (qj V) 276)) :=
 ⟨qh.new _ _ _,World.setRow_alloc_new _ _ _ _,qh.new _ _ _,hb.alloc hb.size _⟩
theorem ak (A:Option Addr)(c:Nat)(l:List Int)(b n:Int)(w:World)(hs:yU w A l c)(hl:l.length≤1000)(hb:qA b)(hn:qA n) :
    Calls prog 126 #[.slice A l.length c,.int .i64 b,.int .i64 n] w (ai (zA l b n) w):=by
 have HP:=QH hs.ints;have HM:=QH hs.ints.mem;obtain⟨res,hres⟩:=QE (zA l b n);rw[hres];unfold zA at hres;clear hs;by_cases h0:b<1
 ·rw[if_pos (.inl h0)]at hres;subst hres;go_enter func126,ntmps126;go_wp2_with fail;go_ret;exact⟨rfl,Below.refl _ _⟩
 by_cases h1:8<b
 ·rw[if_pos (.inr (.inl h1))]at hres;subst hres;go_enter func126,ntmps126;go_wp2_with fail;go_ret;exact⟨rfl,Below.refl _ _⟩
 by_cases h2:(l.length:Int)=b
 ·rw[if_neg (by omega)]at hres;have hlb:((l.length:Int) != b)=false:=by rw[h2];simp
  have h8:l.length≤8:=by omega
  rw[← qmK l h8 n,← qmL l h8]at hres;have xn:=QH hres;have HV:=QH (dr l 0);have HB:=QH (qfF HM.out 0);have HC:=QH (rN A c l 0 w HP.out hl (by omega));obtain⟨V,hV⟩:=QE (bj l 0);rw[hV]at xn HV HB HC;clear hres h2 hV;go_enter func126,ntmps126;go_wp2_with fail;refine HC.out.mono ?_;rintro e W ⟨rfl,hw⟩;obtain⟨k0,k1,k2,k3⟩:=qmM hw V HV.out;have K0:=QH k0;have K1:=QH k1;have K2:=QH k2;have K3:=QH k3;clear k0 k1 k2 k3 hw;go_wp2_with (first|(refine wpList_skip rfl (wR (.tmp 7) (.tmp 21) rfl rfl rfl K0.out (by decide) HV.out) ?_;rw[K1.out])|(refine qx rfl (uC (.tmp 7) rfl rfl K2.out HV.out) ?_));obtain⟨W2,hW2⟩:=QE (W.alloc (.cells (qj V) 276));rw[hW2]at K2 K3 ⊢;refine(rO V HV.out n W2).mono ?_;rintro e W3 ⟨rfl,hb3⟩;have zG:=QH (qc K3.out hb3);have K4:=QH (K2.out.below hb3);clear hb3;cases cT:V.any (wu n)
  ·have hres:=xn.out;rw[cT,if_neg (by decide)]at hres;have oW:=QH hres;clear hres cT hW2;go_wp2_with (refine qx rfl (uC (.tmp 7) rfl rfl K4.out HV.out) ?_);refine(nV V HV.out HB.out W3).mono ?_;rintro e W4 ⟨rfl,hb4⟩;have zY:=QH (qc zG.out hb4);clear hb4;cases hd:yi V 8
   ·have hres:=oW.out;rw[hd,if_neg (by decide)]at hres;subst hres;clear hd;go_wp2_with fail;go_ret;exact⟨rfl,zY.out⟩
   ·have hres:=oW.out;rw[hd,if_pos rfl]at hres;subst hres;clear hd;go_wp2_with fail;go_ret;exact⟨rfl,zY.out⟩
  ·have hres:=xn.out;rw[cT,if_pos rfl]at hres;subst hres;clear cT hW2;go_wp2_with fail;go_ret;exact⟨rfl,zG.out⟩
 ·rw[if_pos (.inr (.inr h2))]at hres;subst hres;have hlb:((l.length:Int) != b)=true:=by simpa using h2
  clear h2;go_enter func126,ntmps126;go_wp2_with fail;go_ret;exact⟨rfl,Below.refl _ _⟩
end Go.Proofs.YtdpbdkacngaemaaGreatDoor.im
namespace Go.Proofs.YtdpbdkacngaemaaGreatDoor.mt.pg
open _root_.Go.Proofs.Tryz Go Go.RowKit ib wi im mt
def snC (x:Sp)(A:Option Addr)(c:Nat):Array Value:=#[.int .u64 (x.g.1:Int),.int .u64 (x.g.2:Int),.slice A x.qp.length c,.bool x.hid]
def wD (x:Tk)(A:Option Addr)(c:Nat):Array Value:=#[.int .u64 (x.base.1:Int),.int .u64 (x.base.2:Int),.int .u64 (x.target.1:Int),.int .u64 (x.target.2:Int),.int .i64 x.next,.int .i64 x.all,.slice A x.qp.length c]
theorem qu9(x y:Tk):x=y↔x.base=y.base∧x.target=y.target∧x.next=y.next∧x.all=y.all∧x.qp=y.qp:=by cases x;cases y;simp
theorem fE {x y:Gd}(h:x≠y):(¬ x.1=y.1)∨(x.1=y.1∧¬ x.2=y.2):=by
 by_cases e1:x.1=y.1
 ·exact .inr ⟨e1,fun e2=>h (Prod.ext e1 e2)⟩
 ·exact .inl e1
theorem qfI(w:World)(t:TypeId)(X Y:Array Value)(W:World)(hW:(w.alloc (.cells X t)).alloc (.cells Y t)=W):qh W w.heap.size t X∧qh W (w.heap.size+1) t Y∧Below w.heap.size w W:=by
 subst hW;have h1:=(Below.refl _ w).alloc (Nat.le_refl _) (.cells X t);have h2:=(Below.refl _ (w.alloc (.cells X t))).alloc (Nat.le_refl _) (.cells Y t);have h3:=qh.new (w.alloc (.cells X t)) t Y;rw[show(w.alloc (.cells X t)).heap.size=w.heap.size+1 from by simp]at h3;exact⟨(qh.new w t X).below h2,h3,qc h1 h2⟩
theorem nW (x y:Tk)(A B:Option Addr)(c d:Nat)(w:World)(hx:yU w A x.qp c)(hy:yU w B y.qp d)(hl:x.qp.length≤1000) :
    Calls prog 259 #[.agg (wD x A c),.agg (wD y B d)] w (kE (decide (x=y)) w):=by
 obtain⟨W,hW⟩:=QE ((w.alloc (.cells (wD x A c) 82)).alloc (.cells (wD y B d) 82));have htw:=qfI w 82 (wD x A c) (wD y B d) W hW;obtain⟨hA,hB,hb⟩:=htw;have HXI:=QH (hx.below hb);have HYI:=QH (hy.below hb);have HB:=QH hb;have HL:=QH hl;clear hx hy hl hb;have x0:=hA.cell 0;have x1:=hA.cell 1;have x2:=hA.cell 2;have x3:=hA.cell 3;have x4:=hA.cell 4;have x5:=hA.cell 5;have x6:=hA.cell 6;have y0:=hB.cell 0;have y1:=hB.cell 1;have y2:=hB.cell 2;have y3:=hB.cell 3;have y4:=hB.cell 4;have y5:=hB.cell 5;have y6:=hB.cell 6;have dI:=hA.lt;have hlb:=hB.lt;clear hA hB;unfold wD at hW ⊢;simp only[wD,QA,QB,QC]at x0 x1 x2 x3 x4 x5 x6 y0 y1 y2 y3 y4 y5 y6;obtain⟨res,hres⟩:=QE (decide (x=y));rw[hres];have xY:Hid (res=true↔x.base=y.base∧x.target=y.target∧x.next=y.next∧x.all=y.all∧x.qp=y.qp):=by unfold Hid;rw[← hres,decide_eq_true_iff,qu9]
 have jK:Hid (¬ (x.base=y.base∧x.target=y.target∧x.next=y.next∧x.all=y.all∧x.qp=y.qp)→res=false):=fun hn=>by
  cases hr:res with
  | false=>rfl
  | true=>exact absurd (xY.out.1 hr) hn
 clear hres;go_enter func259,ntmps259;go_upto_region 1 with fail;try rw[hW]
 clear hW;by_cases hg:x.base=y.base
 case' neg =>
  have hr:=jK.out (fun e=>hg e.1);have HR:=QH hr;have hgn:=fE hg;clear hr hg;rcases hgn with hgn|⟨hgn,quA⟩
  ·go_wp2_with fail;go_ret;exact⟨by rw[HR.out];rfl,HB.out⟩
  ·go_wp2_with fail;go_ret;exact⟨by rw[HR.out];rfl,HB.out⟩
 rw[← hg]at y0 y1;have HG0:=QH hg;clear hg;by_cases hg:x.target=y.target
 case' neg =>
  have hr:=jK.out (fun e=>hg e.2.1);have HR:=QH hr;have hgn:=fE hg;clear hr hg;rcases hgn with hgn|⟨hgn,quA⟩
  ·go_wp2_with fail;go_ret;exact⟨by rw[HR.out];rfl,HB.out⟩
  ·go_wp2_with fail;go_ret;exact⟨by rw[HR.out];rfl,HB.out⟩
 rw[← hg]at y2 y3;have HG2:=QH hg;clear hg;by_cases hg:x.next=y.next
 case' neg =>
  have hr:=jK.out (fun e=>hg e.2.2.1);have HR:=QH hr;clear hr;go_wp2_with fail;go_ret;exact⟨by rw[HR.out];rfl,HB.out⟩
 rw[← hg]at y4;have HG4:=QH hg;clear hg;by_cases hg:x.all=y.all
 case' neg =>
  have hr:=jK.out (fun e=>hg e.2.2.2.1);have HR:=QH hr;clear hr;go_wp2_with fail;go_ret;exact⟨by rw[HR.out];rfl,HB.out⟩
 rw[← hg]at y5;have HG5:=QH hg;clear hg;go_wp2_with fail;refine(dn A B c d x.qp y.qp W HXI.out.ints HYI.out.ints (by have:=HL.out;omega)).mono ?_;rintro e W9 ⟨rfl,hb9⟩;have HB9:=QH (qc HB.out hb9);have hr:decide (x.qp=y.qp)=res:=by
  cases hr:res with
  | true=>exact decide_eq_true (xY.out.1 hr).2.2.2.2
  | false =>
   rw[decide_eq_false_iff_not];intro h;rw[xY.out.2 ⟨HG0.out,HG2.out,HG4.out,HG5.out,h⟩]at hr;cases hr
 rw[hr];clear hr hb9;go_wp2_with fail;go_ret;exact⟨rfl,HB9.out⟩
structure Env(w:World)(kb rb c b:Nat):Prop where
 k:qh w kb 3 #[.int .i64 (b:Int)]
 r:qh w rb 198 #[ptr c]
theorem Env.rd{w w':World}{kb rb c b:Nat}{s:St}(h:Env w kb rb c b)(hp:∃y,qh w c 274 y)(hr:Rd w c s w'):Env w' kb rb c b:=⟨hr.blk h.k hp (by decide),hr.blk h.r hp (by decide)⟩
theorem Env.below{w w':World}{kb rb c b:Nat}(h:Env w kb rb c b)(hb:Below w.heap.size w w'):Env w' kb rb c b:=⟨h.k.below hb,h.r.below hb⟩
theorem Rd.env{w0 w:World}{kb rb c b:Nat}{s0 s:St}(h:Rd w0 c s w)(hp:PS w0 c s0)(he:Env w0 kb rb c b):Env w kb rb c b:=he.rd hp.blk h
theorem qiZ{w:World}{B g:Nat}{zs:List Int}(h:qh w g 3 (qj zs))(hg:B≤g)(hl:zs.length≤1000):qV w B (.slice (some ⟨g,0,none⟩) zs.length zs.length) zs:=by
 refine⟨by simp,.inr ⟨g,zs.length,qj zs,rfl,hg,h,Nat.le_refl _,by unfold maxLen;omega,by rw[jI,Nat.mul_one],?_⟩⟩;rw[Nat.mul_one];unfold qj;rw[List.take_of_length_le (by simp)]
abbrev plF (kb rb:Nat):Value:=.func (.func 201) #[] #[ptr kb,ptr rb]
def tkZ:Array Value:=#[.int .u64 0,.int .u64 0,.int .u64 0,.int .u64 0,.int .i64 0,.int .i64 0,.slice none 0 0]
def quE (b c:Nat)(s:St)(w:World)(e:Ending)(w':World):Prop:=∃g,e=.returned (.agg (wD (nP b s).1 (some ⟨g,0,none⟩) b))∧w.heap.size≤g∧qh w' g 3 (qj (nP b s).1.qp)∧Rd w c (nP b s).2 w'
theorem cU {w:World}{kb rb c b:Nat}{s:St}(hb:b≤100)(h:PS w c s)(he:Env w kb rb c b):Calls prog 207 #[ptr c,plF kb rb] w (quE b c s w):=by
 have HP0:=QH h;have HE0:=QH he;have hb1:=(Below.refl w.heap.size w).alloc (Nat.le_refl _) (.cells tkZ 82);have hr1:Rd w c s (w.alloc (.cells tkZ 82)):=⟨qB.of_below hb1,h.below hb1⟩;have ha1:=qh.new w 82 tkZ;obtain⟨W1,hW1⟩:=QE (w.alloc (.cells tkZ 82));rw[hW1]at hr1 ha1 hb1;have hb2:=(Below.refl W1.heap.size W1).alloc (Nat.le_refl _) (.cells tkZ 82);have hr2:=hr1.new hb2;have ha2:=qh.new W1 82 tkZ;obtain⟨W2,hW2⟩:=QE (W1.alloc (.cells tkZ 82));rw[hW2]at hr2 ha2 hb2;have uS:=QH hr2;have uT:=QH (ha1.below hb2);have HT2:=QH ha2;have nX:Hid (w.heap.size<W1.heap.size):=ha1.lt;obtain⟨gt,hgt⟩:=QE W1.heap.size;rw[hgt]at HT2 nX;clear h he hb1 hr1 ha1 hb2 hr2 ha2;unfold tkZ at hW1 hW2;go_enter func207,ntmps207;go_upto_region 2 with fail;try rw[hW1]
 try rw[hW2]
 try rw[hgt]
 clear hW1 hW2 hgt;go_wp2_with fail;refine(qF uS.out.ps).mono ?_;rintro e W3 ⟨rfl,hq⟩;have cV:=QH (uS.out.trans hq);have fx:=QH (hq.blk uT.out uS.out.ps.blk (by decide));have oX:=QH (hq.blk HT2.out uS.out.ps.blk (by decide));clear hq uS uT HT2;obtain⟨x,hx⟩:=QE ((jS s).1);rw[hx];have HX:=QH hx;obtain⟨s1,hs1⟩:=QE ((jS s).2);rw[hs1]at cV;have oY:=QH hs1;clear hx hs1;unfold gv;have q0:=oX.out.cell 0;have q1:=oX.out.cell 1;simp only[tkZ,QA,QB,QC]at q0 q1;have f0:=oX.out.frozen 0;have f1:=oX.out.frozen 1;have hlt:=oX.out.lt;have hgn:Hid (w.heap.size≤gt):=Nat.le_of_lt nX.out;have ht4:=oX.out.qu 0 (.int .u64 (x.1:Int));have hr4:=cV.out.set oX.out hgn.out (by decide) (by decide) 0 (.int .u64 (x.1:Int));have ht5:=ht4.qu 1 (.int .u64 (x.2:Int));have hr5:=hr4.set ht4 hgn.out (by decide) (by decide) 1 (.int .u64 (x.2:Int));have HA5:=QH ((fx.out.of_block (qw W3 gt 0 (.int .u64 (x.1:Int)) w.heap.size (by have:=nX.out;omega))).of_block (qw (W3.setCell ⟨gt,0,none⟩ (.int .u64 (x.1:Int))) gt 1 (.int .u64 (x.2:Int)) w.heap.size (by have:=nX.out;omega)));have lp:=QH ht5;have uN:=QH hr5;obtain⟨W5,cG⟩:=QE ((W3.setCell ⟨gt,0,none⟩ (.int .u64 (x.1:Int))).setCell ⟨gt,1,none⟩ (.int .u64 (x.2:Int)));rw[cG]at HA5 lp uN;clear ht4 hr4 ht5 hr5 cV oX fx;go_upto_region 3 with fail;try rw[cG]
 clear cG q0 q1 f0 f1 hlt;go_wp2_with fail;refine(qF uN.out.ps).mono ?_;rintro e W6 ⟨rfl,hq⟩;have HR6:=QH (uN.out.trans hq);have HA6:=QH (hq.blk HA5.out uN.out.ps.blk (by decide));have iJ:=QH (hq.blk lp.out uN.out.ps.blk (by decide));clear hq uN HA5 lp;obtain⟨y,hy⟩:=QE ((jS s1).1);rw[hy];have HY:=QH hy;obtain⟨s2,hs2⟩:=QE ((jS s1).2);rw[hs2]at HR6;have kY:=QH hs2;clear hy hs2;unfold gv;have q2:=iJ.out.cell 2;have q3:=iJ.out.cell 3;simp[tkZ]at q2 q3;have f2:=iJ.out.frozen 2;have f3:=iJ.out.frozen 3;have hlt:=iJ.out.lt;have ht7:=iJ.out.qu 2 (.int .u64 (y.1:Int));have hr7:=HR6.out.set iJ.out hgn.out (by decide) (by decide) 2 (.int .u64 (y.1:Int));have ht8:=ht7.qu 3 (.int .u64 (y.2:Int));have hr8:=hr7.set ht7 hgn.out (by decide) (by decide) 3 (.int .u64 (y.2:Int));have HA8:=QH ((HA6.out.of_block (qw W6 gt 2 (.int .u64 (y.1:Int)) w.heap.size (by have:=nX.out;omega))).of_block (qw (W6.setCell ⟨gt,2,none⟩ (.int .u64 (y.1:Int))) gt 3 (.int .u64 (y.2:Int)) w.heap.size (by have:=nX.out;omega)));have HT8:=QH ht8;have HR8:=QH hr8;obtain⟨W8,nJ⟩:=QE ((W6.setCell ⟨gt,2,none⟩ (.int .u64 (y.1:Int))).setCell ⟨gt,3,none⟩ (.int .u64 (y.2:Int)));rw[nJ]at HA8 HT8 HR8;clear ht7 hr7 ht8 hr8 HR6 iJ HA6;go_upto_region 4 with fail;try rw[nJ]
 clear nJ q2 q3 f2 f3 hlt;go_wp2_with fail;refine(wQ HR8.out.ps 8 8 rfl (by omega)).mono ?_;rintro e W9 ⟨rfl,hq⟩;have HR9:=QH (HR8.out.trans hq);have HA9:=QH (hq.blk HA8.out HR8.out.ps.blk (by decide));have HT9:=QH (hq.blk HT8.out HR8.out.ps.blk (by decide));clear hq HR8 HA8 HT8;obtain⟨nx,hnx⟩:=QE ((jP 8 s2).1);rw[hnx];have HNX:=QH hnx;obtain⟨s3,hs3⟩:=QE ((jP 8 s2).2);rw[hs3]at HR9;have HS3:=QH hs3;clear hnx hs3;have q4:=HT9.out.cell 4;simp[tkZ]at q4;have f4:=HT9.out.frozen 4;have hlt:=HT9.out.lt;have nY:=QH (HT9.out.qu 4 (.int .i64 (nx:Int)));have qfJ:=QH (HR9.out.set HT9.out hgn.out (by decide) (by decide) 4 (.int .i64 (nx:Int)));have qqD:=QH (HA9.out.of_block (qw W9 gt 4 (.int .i64 (nx:Int)) w.heap.size (by have:=nX.out;omega)));obtain⟨W10,qqE⟩:=QE (W9.setCell ⟨gt,4,none⟩ (.int .i64 (nx:Int)));rw[qqE]at qqD nY qfJ;clear HR9 HT9 HA9;go_upto_region 5 with fail;try rw[qqE]
 clear qqE q4 f4 hlt;go_wp2_with fail;refine(wQ qfJ.out.ps 8 8 rfl (by omega)).mono ?_;rintro e W11 ⟨rfl,hq⟩;have qqF:=QH (qfJ.out.trans hq);have quH:=QH (hq.blk qqD.out qfJ.out.ps.blk (by decide));have cX:=QH (hq.blk nY.out qfJ.out.ps.blk (by decide));clear hq qfJ qqD nY;obtain⟨al,fF⟩:=QE ((jP 8 s3).1);rw[fF];have HAL:=QH fF;obtain⟨s4,hs4⟩:=QE ((jP 8 s3).2);rw[hs4]at qqF;have nZ:=QH hs4;clear fF hs4;have q5:=cX.out.cell 5;simp[tkZ]at q5;have f5:=cX.out.frozen 5;have hlt:=cX.out.lt;have uD:=QH (cX.out.qu 5 (.int .i64 (al:Int)));have qcA:=QH (qqF.out.set cX.out hgn.out (by decide) (by decide) 5 (.int .i64 (al:Int)));have qqH:=QH (quH.out.of_block (qw W11 gt 5 (.int .i64 (al:Int)) w.heap.size (by have:=nX.out;omega)));obtain⟨W12,qqI⟩:=QE (W11.setCell ⟨gt,5,none⟩ (.int .i64 (al:Int)));rw[qqI]at qqH uD qcA;clear qqF cX quH;go_upto_region 6 with fail;try rw[qqI]
 clear qqI q5 f5 hlt;have quI:=QH (qcA.out.env HP0.out HE0.out);go_wp2_with fail;refine(kJ hb qcA.out.ps quI.out.k quI.out.r).mono ?_;rintro e W13 ⟨g,rfl,hg,hgB,hq⟩;have qjb:=QH (qcA.out.trans hq);have qjc:=QH (hq.blk qqH.out qcA.out.ps.blk (by decide));have kg:=QH (hq.blk uD.out qcA.out.ps.blk (by decide));have HGL:Hid (gt<g):=Nat.lt_of_lt_of_le uD.out.lt hg;have qjd:=QH hgB;clear hq qcA qqH uD hg hgB;have q6:=kg.out.cell 6;simp[tkZ]at q6;have f6:=kg.out.frozen 6;have hlt:=kg.out.lt;have qcB:=kg.out.qu 6 (.slice (some ⟨g,0,none⟩) b b);simp only[tkZ,List.setIfInBounds_toArray,List.set_cons_succ,List.set_cons_zero]at qcB;have wE:=QH qcB;have qcC:=QH (qjb.out.set kg.out hgn.out (by decide) (by decide) 6 (.slice (some ⟨g,0,none⟩) b b));have yL:=QH (qjc.out.of_block (qw W13 gt 6 (.slice (some ⟨g,0,none⟩) b b) w.heap.size (by have:=nX.out;omega)));have qcD:=QH (qjd.out.of_block (qw W13 gt 6 (.slice (some ⟨g,0,none⟩) b b) g (by have:=HGL.out;omega)));obtain⟨W14,iv⟩:=QE (W13.setCell ⟨gt,6,none⟩ (.slice (some ⟨g,0,none⟩) b b));rw[iv]at yL wE qcC qcD;clear qjb kg qjc qjd qcB;go_upto_region 7 with fail;try rw[iv]
 clear iv q6 f6 hlt;have t0:=wE.out.cell 0;have t1:=wE.out.cell 1;have t2:=wE.out.cell 2;have t3:=wE.out.cell 3;have t4:=wE.out.cell 4;have t5:=wE.out.cell 5;have t6:=wE.out.cell 6;have a0:=yL.out.cell 0;have a1:=yL.out.cell 1;have a2:=yL.out.cell 2;have a3:=yL.out.cell 3;have a4:=yL.out.cell 4;have a5:=yL.out.cell 5;have a6:=yL.out.cell 6;simp only[tkZ,QA,QB,QC]at t0 t1 t2 t3 t4 t5 t6 a0 a1 a2 a3 a4 a5 a6;have f0:=yL.out.frozen 0;have f1:=yL.out.frozen 1;have f2:=yL.out.frozen 2;have f3:=yL.out.frozen 3;have f4:=yL.out.frozen 4;have f5:=yL.out.frozen 5;have f6:=yL.out.frozen 6;have hlt:=wE.out.lt;have dI:=yL.out.lt;have u1:=yL.out.qu 0 (.int .u64 (x.1:Int));have r1:=qcC.out.set yL.out (Nat.le_refl _) (by decide) (by decide) 0 (.int .u64 (x.1:Int));have u2:=u1.qu 1 (.int .u64 (x.2:Int));have r2:=r1.set u1 (Nat.le_refl _) (by decide) (by decide) 1 (.int .u64 (x.2:Int));have u3:=u2.qu 2 (.int .u64 (y.1:Int));have r3:=r2.set u2 (Nat.le_refl _) (by decide) (by decide) 2 (.int .u64 (y.1:Int));have u4:=u3.qu 3 (.int .u64 (y.2:Int));have r4:=r3.set u3 (Nat.le_refl _) (by decide) (by decide) 3 (.int .u64 (y.2:Int));have u5:=u4.qu 4 (.int .i64 (nx:Int));have r5:=r4.set u4 (Nat.le_refl _) (by decide) (by decide) 4 (.int .i64 (nx:Int));have u6:=u5.qu 5 (.int .i64 (al:Int));have r6:=r5.set u5 (Nat.le_refl _) (by decide) (by decide) 5 (.int .i64 (al:Int));have u7:=u6.qu 6 (.slice (some ⟨g,0,none⟩) b b);have r7:=r6.set u6 (Nat.le_refl _) (by decide) (by decide) 6 (.slice (some ⟨g,0,none⟩) b b);simp only[tkZ,List.setIfInBounds_toArray,List.set_cons_succ,List.set_cons_zero]at u7;have HU7:=QH u7;have HR7:=QH r7;have oth:∀(k:Nat) (v:Value) (W:World),qh W g 3 (qj (wy b s4).1)→qh (W.setCell ⟨w.heap.size,k,none⟩ v) g 3 (qj (wy b s4).1):=fun k v W h=>h.of_block (qw W w.heap.size k v g (by have:=HGL.out;have:=nX.out;omega));have qje:=QH (oth 6 (.slice (some ⟨g,0,none⟩) b b) _ (oth 5 (.int .i64 (al:Int)) _ (oth 4 (.int .i64 (nx:Int)) _ (oth 3 (.int .u64 (y.2:Int)) _ (oth 2 (.int .u64 (y.1:Int)) _ (oth 1 (.int .u64 (x.2:Int)) _ (oth 0 (.int .u64 (x.1:Int)) _ qcD.out)))))));obtain⟨W15,qjf⟩:=QE (((((((W14.setCell ⟨w.heap.size,0,none⟩ (.int .u64 (x.1:Int))).setCell ⟨w.heap.size,1,none⟩ (.int .u64 (x.2:Int))).setCell ⟨w.heap.size,2,none⟩ (.int .u64 (y.1:Int))).setCell ⟨w.heap.size,3,none⟩ (.int .u64 (y.2:Int))).setCell ⟨w.heap.size,4,none⟩ (.int .i64 (nx:Int))).setCell ⟨w.heap.size,5,none⟩ (.int .i64 (al:Int))).setCell ⟨w.heap.size,6,none⟩ (.slice (some ⟨g,0,none⟩) b b));rw[qjf]at HU7 HR7 qje;clear u1 u2 u3 u4 u5 u6 u7 r1 r2 r3 r4 r5 r6 r7 oth yL wE qcC qcD;go_wp2_with fail;try rw[qjf]
 have q0:=HU7.out.cell 0;have q1:=HU7.out.cell 1;have q2:=HU7.out.cell 2;have q3:=HU7.out.cell 3;have q4:=HU7.out.cell 4;have q5:=HU7.out.cell 5;have q6:=HU7.out.cell 6;simp only[QA,QB,QC]at q0 q1 q2 q3 q4 q5 q6;have HEQ:Hid (wD (nP b s).1 (some ⟨g,0,none⟩) b = #[.int .u64 (x.1:Int),.int .u64 (x.2:Int),.int .u64 (y.1:Int),.int .u64 (y.2:Int),.int .i64 (nx:Int),.int .i64 (al:Int),.slice (some ⟨g,0,none⟩) b b]∧(nP b s).1.qp=(wy b s4).1∧(nP b s).2=(wy b s4).2):=by
  unfold Hid nP wD;dsimp only;rw[HX.out,oY.out,HY.out,kY.out,HNX.out,HS3.out,HAL.out,nZ.out,ke];exact⟨rfl,rfl,rfl⟩
 refine bodyPost_ret (v:=.agg #[.int .u64 (x.1:Int),.int .u64 (x.2:Int),.int .u64 (y.1:Int),.int .u64 (y.2:Int),.int .i64 (nx:Int),.int .i64 (al:Int),.slice (some ⟨g,0,none⟩) b b]) (by simp[results,results207,go_sem,q0,q1,q2,q3,q4,q5,q6]) rfl ?_;refine⟨g,by rw[HEQ.out.1],by have:=HGL.out;have:=nX.out;omega,?_,?_⟩
 ·rw[HEQ.out.2.1];exact qje.out
 ·rw[HEQ.out.2.2];exact HR7.out
def snZ:Array Value:=#[.int .u64 0,.int .u64 0,.slice none 0 0,.bool false]
structure cY(w:World)(kb rb pb c b:Nat):Prop where
 e:Env w kb rb c b
 p:qh w pb 211 #[plF kb rb]
theorem cY.rd{w w':World}{kb rb pb c b:Nat}{s:St}(h:cY w kb rb pb c b)(hp:∃y,qh w c 274 y)(hr:Rd w c s w'):cY w' kb rb pb c b:=⟨h.e.rd hp hr,hr.blk h.p hp (by decide)⟩
theorem cY.below{w w':World}{kb rb pb c b:Nat}(h:cY w kb rb pb c b)(hb:Below w.heap.size w w'):cY w' kb rb pb c b:=⟨h.e.below hb,h.p.below hb⟩
def quJ (b c:Nat)(s:St)(w:World)(e:Ending)(w':World):Prop:=∃g,e=.returned (.agg (snC (iZ b s).1 (some ⟨g,0,none⟩) b))∧w.heap.size≤g∧qh w' g 3 (qj (iZ b s).1.qp)∧Rd w c (iZ b s).2 w'
theorem qjg{w:World}{kb rb pb c b:Nat}{s:St}(hb:b≤100)(h:PS w c s)(he:cY w kb rb pb c b):Calls prog 205 #[ptr rb,ptr pb] w (quJ b c s w):=by
 have HP0:=QH h;have HE0:=QH he;have hb1:=(Below.refl w.heap.size w).alloc (Nat.le_refl _) (.cells snZ 141);have hr1:Rd w c s (w.alloc (.cells snZ 141)):=⟨qB.of_below hb1,h.below hb1⟩;have ha1:=qh.new w 141 snZ;obtain⟨W1,hW1⟩:=QE (w.alloc (.cells snZ 141));rw[hW1]at hr1 ha1 hb1;have hb2:=(Below.refl W1.heap.size W1).alloc (Nat.le_refl _) (.cells snZ 141);have hr2:=hr1.new hb2;have ha2:=qh.new W1 141 snZ;have he2:=(he.below hb1).below hb2;obtain⟨W2,hW2⟩:=QE (W1.alloc (.cells snZ 141));rw[hW2]at hr2 ha2 hb2 he2;have uS:=QH hr2;have uT:=QH (ha1.below hb2);have HT2:=QH ha2;have nX:Hid (w.heap.size<W1.heap.size):=ha1.lt;obtain⟨gt,hgt⟩:=QE W1.heap.size;rw[hgt]at HT2 nX;have r0:=he2.e.r.cell 0;simp only[QA,QB,QC]at r0;have hlr:=he2.e.r.lt;clear h he hb1 hr1 ha1 hb2 hr2 ha2 he2;unfold snZ at hW1 hW2;go_enter func205,ntmps205;go_upto_region 2 with fail;try rw[hW1]
 try rw[hW2]
 try rw[hgt]
 clear hW1 hW2 hgt;go_wp2_with fail;refine(qF uS.out.ps).mono ?_;rintro e W3 ⟨rfl,hq⟩;have cV:=QH (uS.out.trans hq);have fx:=QH (hq.blk uT.out uS.out.ps.blk (by decide));have oX:=QH (hq.blk HT2.out uS.out.ps.blk (by decide));clear hq uS uT HT2 r0 hlr;obtain⟨x,hx⟩:=QE ((jS s).1);rw[hx];have HX:=QH hx;obtain⟨s1,hs1⟩:=QE ((jS s).2);rw[hs1]at cV;have oY:=QH hs1;clear hx hs1;unfold gv;have q0:=oX.out.cell 0;have q1:=oX.out.cell 1;simp only[snZ,QA,QB,QC]at q0 q1;have f0:=oX.out.frozen 0;have f1:=oX.out.frozen 1;have hlt:=oX.out.lt;have hgn:Hid (w.heap.size≤gt):=Nat.le_of_lt nX.out;have ht4:=oX.out.qu 0 (.int .u64 (x.1:Int));have hr4:=cV.out.set oX.out hgn.out (by decide) (by decide) 0 (.int .u64 (x.1:Int));have ht5:=ht4.qu 1 (.int .u64 (x.2:Int));have hr5:=hr4.set ht4 hgn.out (by decide) (by decide) 1 (.int .u64 (x.2:Int));have HA5:=QH ((fx.out.of_block (qw W3 gt 0 (.int .u64 (x.1:Int)) w.heap.size (by have:=nX.out;omega))).of_block (qw (W3.setCell ⟨gt,0,none⟩ (.int .u64 (x.1:Int))) gt 1 (.int .u64 (x.2:Int)) w.heap.size (by have:=nX.out;omega)));have lp:=QH ht5;have uN:=QH hr5;obtain⟨W5,cG⟩:=QE ((W3.setCell ⟨gt,0,none⟩ (.int .u64 (x.1:Int))).setCell ⟨gt,1,none⟩ (.int .u64 (x.2:Int)));rw[cG]at HA5 lp uN;clear ht4 hr4 ht5 hr5 cV oX fx;go_upto_region 3 with fail;try rw[cG]
 clear cG q0 q1 f0 f1 hlt;have he5:=HE0.out.rd HP0.out.blk uN.out;have r0:=he5.e.r.cell 0;simp only[QA,QB,QC]at r0;have hlr:=he5.e.r.lt;clear he5;go_wp2_with fail;refine(wP uN.out.ps).mono ?_;rintro e W6 ⟨rfl,hq⟩;have HR6:=QH (uN.out.trans hq);have HA6:=QH (hq.blk HA5.out uN.out.ps.blk (by decide));have iJ:=QH (hq.blk lp.out uN.out.ps.blk (by decide));clear hq uN HA5 lp r0 hlr;obtain⟨y,hy⟩:=QE ((zP s1).1);rw[hy];have HY:=QH hy;obtain⟨s2,hs2⟩:=QE ((zP s1).2);rw[hs2]at HR6;have kY:=QH hs2;clear hy hs2;obtain⟨hd,hhd⟩:=QE (decide (y=1));have hyq:((y:Int) == 1)=hd:=by
  rw[← hhd,Bool.eq_iff_iff];simp;omega
 have HHD:=QH hhd;clear hhd;have q3:=iJ.out.cell 3;simp[snZ]at q3;have f3:=iJ.out.frozen 3;have hlt:=iJ.out.lt;have HT7:=QH (iJ.out.qu 3 (.bool hd));have HR7:=QH (HR6.out.set iJ.out hgn.out (by decide) (by decide) 3 (.bool hd));have HA7:=QH (HA6.out.of_block (qw W6 gt 3 (.bool hd) w.heap.size (by have:=nX.out;omega)));obtain⟨W7,hW7⟩:=QE (W6.setCell ⟨gt,3,none⟩ (.bool hd));rw[hW7]at HA7 HT7 HR7;clear HR6 iJ HA6;go_upto_region 4 with fail;try rw[hW7]
 clear hW7 q3 f3 hlt hyq;have HE7:=QH (HE0.out.rd HP0.out.blk HR7.out);have p0:=HE7.out.p.cell 0;simp only[QA,QB,QC]at p0;have hlp:=HE7.out.p.lt;go_wp2_with fail;refine(kJ hb HR7.out.ps HE7.out.e.k HE7.out.e.r).mono ?_;rintro e W13 ⟨g,rfl,hg,hgB,hq⟩;have qjb:=QH (HR7.out.trans hq);have qjc:=QH (hq.blk HA7.out HR7.out.ps.blk (by decide));have kg:=QH (hq.blk HT7.out HR7.out.ps.blk (by decide));have HGL:Hid (gt<g):=Nat.lt_of_lt_of_le HT7.out.lt hg;have qjd:=QH hgB;clear hq HR7 HA7 HT7 hg hgB p0 hlp;have q2:=kg.out.cell 2;simp[snZ]at q2;have f2:=kg.out.frozen 2;have hlt:=kg.out.lt;have qcB:=kg.out.qu 2 (.slice (some ⟨g,0,none⟩) b b);simp only[snZ,List.setIfInBounds_toArray,List.set_cons_succ,List.set_cons_zero]at qcB;have wE:=QH qcB;have qcC:=QH (qjb.out.set kg.out hgn.out (by decide) (by decide) 2 (.slice (some ⟨g,0,none⟩) b b));have yL:=QH (qjc.out.of_block (qw W13 gt 2 (.slice (some ⟨g,0,none⟩) b b) w.heap.size (by have:=nX.out;omega)));have qcD:=QH (qjd.out.of_block (qw W13 gt 2 (.slice (some ⟨g,0,none⟩) b b) g (by have:=HGL.out;omega)));obtain⟨W14,iv⟩:=QE (W13.setCell ⟨gt,2,none⟩ (.slice (some ⟨g,0,none⟩) b b));rw[iv]at yL wE qcC qcD;clear qjb kg qjc qjd qcB;go_upto_region 5 with fail;try rw[iv]
 clear iv q2 f2 hlt;have t0:=wE.out.cell 0;have t1:=wE.out.cell 1;have t2:=wE.out.cell 2;have t3:=wE.out.cell 3;have a0:=yL.out.cell 0;have a1:=yL.out.cell 1;have a2:=yL.out.cell 2;have a3:=yL.out.cell 3;simp only[snZ,QA,QB,QC]at t0 t1 t2 t3 a0 a1 a2 a3;have f0:=yL.out.frozen 0;have f1:=yL.out.frozen 1;have f2:=yL.out.frozen 2;have f3:=yL.out.frozen 3;have hlt:=wE.out.lt;have dI:=yL.out.lt;have u1:=yL.out.qu 0 (.int .u64 (x.1:Int));have r1:=qcC.out.set yL.out (Nat.le_refl _) (by decide) (by decide) 0 (.int .u64 (x.1:Int));have u2:=u1.qu 1 (.int .u64 (x.2:Int));have r2:=r1.set u1 (Nat.le_refl _) (by decide) (by decide) 1 (.int .u64 (x.2:Int));have u3:=u2.qu 2 (.slice (some ⟨g,0,none⟩) b b);have r3:=r2.set u2 (Nat.le_refl _) (by decide) (by decide) 2 (.slice (some ⟨g,0,none⟩) b b);have u4:=u3.qu 3 (.bool hd);have r4:=r3.set u3 (Nat.le_refl _) (by decide) (by decide) 3 (.bool hd);simp only[snZ,List.setIfInBounds_toArray,List.set_cons_succ,List.set_cons_zero]at u4;have HU7:=QH u4;have quK:=QH r4;have oth:∀(k:Nat) (v:Value) (W:World),qh W g 3 (qj (wy b s2).1)→qh (W.setCell ⟨w.heap.size,k,none⟩ v) g 3 (qj (wy b s2).1):=fun k v W h=>h.of_block (qw W w.heap.size k v g (by have:=HGL.out;have:=nX.out;omega));have qje:=QH (oth 3 (.bool hd) _ (oth 2 (.slice (some ⟨g,0,none⟩) b b) _ (oth 1 (.int .u64 (x.2:Int)) _ (oth 0 (.int .u64 (x.1:Int)) _ qcD.out))));obtain⟨W15,qjf⟩:=QE ((((W14.setCell ⟨w.heap.size,0,none⟩ (.int .u64 (x.1:Int))).setCell ⟨w.heap.size,1,none⟩ (.int .u64 (x.2:Int))).setCell ⟨w.heap.size,2,none⟩ (.slice (some ⟨g,0,none⟩) b b)).setCell ⟨w.heap.size,3,none⟩ (.bool hd));rw[qjf]at HU7 quK qje;clear u1 u2 u3 u4 r1 r2 r3 r4 oth yL wE qcC qcD;go_wp2_with fail;try rw[qjf]
 have q0:=HU7.out.cell 0;have q1:=HU7.out.cell 1;have q2:=HU7.out.cell 2;have q3:=HU7.out.cell 3;simp only[QA,QB,QC]at q0 q1 q2 q3;have HEQ:Hid (snC (iZ b s).1 (some ⟨g,0,none⟩) b = #[.int .u64 (x.1:Int),.int .u64 (x.2:Int),.slice (some ⟨g,0,none⟩) b b,.bool hd]∧(iZ b s).1.qp=(wy b s2).1∧(iZ b s).2=(wy b s2).2):=by
  unfold Hid iZ snC;dsimp only;rw[HX.out,oY.out,HY.out,kY.out,HHD.out,ke];exact⟨rfl,rfl,rfl⟩
 refine bodyPost_ret (v:=.agg #[.int .u64 (x.1:Int),.int .u64 (x.2:Int),.slice (some ⟨g,0,none⟩) b b,.bool hd]) (by simp[results,results205,go_sem,q0,q1,q2,q3]) rfl ?_;refine⟨g,by rw[HEQ.out.1],by have:=HGL.out;have:=nX.out;omega,?_,?_⟩
 ·rw[HEQ.out.2.1];exact qje.out
 ·rw[HEQ.out.2.2];exact quK.out
def oZ:aZ:=(⟨(0,0),[],false⟩,.slice none 0 0)
theorem p7:∀(l:List aZ) (k:Nat) (_:k<l.length) (x:aZ) (a b c d:Value),cQ x=[a,b,c,d]→((((zt l).set (k*4) a).set (k*4+1) b).set (k*4+2) c).set (k*4+3) d=zt (l.set k x)
 | y::l,0,_,x,a,b,c,d,h=>by
  show(((((cQ y++zt l).set (0*4) a).set (0*4+1) b).set (0*4+2) c).set (0*4+3) d)=cQ x++zt l;rw[h];rfl
 | y::l,k+1,hk,x,a,b,c,d,h=>by
  have ih:=p7 l k (by simpa using hk) x a b c d h;have e:∀(j:Nat) (R:List Value) (u:Value),(cQ y++R).set ((k+1)*4+j) u=cQ y++R.set (k*4+j) u:=fun j R u=>by
   rw[show(k+1)*4+j=(k*4+j)+4 by omega];rfl
  show(((((cQ y++zt l).set ((k+1)*4) a).set ((k+1)*4+1) b).set ((k+1)*4+2) c).set ((k+1)*4+3) d)=cQ y++zt (l.set k x);rw[show(k+1)*4=(k+1)*4+0 from rfl,e 0,Nat.add_zero,e 1,e 2,e 3,← ih]
theorem qmT(n i:Nat)(h:i<n)(j:Nat)(hj:j<4):(zt (List.replicate n oZ))[i*4+j]?=(cQ oZ)[j]? :=by
 rw[xE _ i (by simpa using h) j hj,List.getElem_replicate]
theorem qfK(n:Nat):madeCells #[.int .u64 0,.int .u64 0,.slice none 0 0,.bool false] (n*4)=(zt (List.replicate n oZ)).toArray:=by
 apply Array.ext
 ·rw[size_madeCells,List.size_toArray,yD,List.length_replicate]
 ·intro j h1 h2;have hj:j<n*4:=by simpa[yD]using h2
  have hm:j%4<4:=Nat.mod_lt _ (by omega);have e:=qmT n (j/4) (by omega) (j%4) hm;rw[show j/4*4+j%4=j by omega]at e;have e2:(zt (List.replicate n oZ)).toArray[j]?=(cQ oZ)[j%4]? :=by simpa using e
  rw[Array.getElem?_eq_getElem h2]at e2;obtain⟨q,hq⟩:=QE (j%4);rw[hq]at e2 hm
  match q,hm with
  | 0,_=>rw[Option.some.inj e2];simp[madeCells,hq,oZ]
  | 1,_=>rw[Option.some.inj e2];simp[madeCells,hq,oZ]
  | 2,_=>rw[Option.some.inj e2];simp[madeCells,hq,oZ]
  | 3,_=>rw[Option.some.inj e2];simp[madeCells,hq,oZ]
theorem qcE(n:Nat)(h:n≤1000)(W:World):(Instr.makeSlice 94 (.int .i64 (n:Int)) (.int .i64 (n:Int))).run prog W=.ok (.slice (some ⟨W.heap.size,0,none⟩) n n) (W.alloc (.cells (zt (List.replicate n oZ)).toArray 141)):=by
 obtain⟨i0,hi,hz0,hz1,hz2⟩:=info_parts qiG;have hmk:=run_make (P:=prog) W 94 141 i0 (.agg #[.int .u64 0,.int .u64 0,.slice none 0 0,.bool false]) underlying94 hi hz0 .i64 .i64 (n:Int) (n:Int) (by omega) (Int.le_refl _) (by rw[hz2];omega) (by omega);rw[hz1]at hmk;rw[← qfK];simpa[Value.cells]using hmk
theorem qfL{l:List aZ}{n k:Nat}(hl:l.length=k)(hk:k<n)(z:aZ):(l++List.replicate (n-k) oZ).set k z=(l++[z])++List.replicate (n-(k+1)) oZ:=by
 rw[List.set_append_right _ _ (by omega),hl,Nat.sub_self,show n-k=(n-(k+1))+1 by omega,List.replicate_succ,List.set_cons_zero,List.append_assoc];rfl
structure Sn(b c n g:Nat)(s:St)(w:World)(k:Nat)(xs:List aZ)(wr:World):Prop where
 len:xs.length=k
 is:xs.map (·.1)=(kB b k s).1
 row:qh wr g 141 (zt (xs++List.replicate (n-k) oZ)).toArray
 qp:∀x∈xs,qV wr w.heap.size x.2 x.1.qp
 rd:Rd w c (kB b k s).2 wr
def quL (b c n g:Nat)(s:St)(w:World)(i:Value)(wr:World):Prop:=∃(k:Nat) (xs:List aZ),k≤n∧i=.int .i64 (k:Int)∧Sn b c n g s w k xs wr
def qqM (b c n:Nat)(s:St)(w:World)(e:Ending)(w':World):Prop:=∃g xs,e=.returned (.slice (some ⟨g,0,none⟩) n n)∧w.heap.size≤g∧Sn b c n g s w n xs w'
theorem qmU{w:World}{kb rb pb c b:Nat}{s:St}(n:Nat)(hn:n≤100)(hb:b≤100)(h:PS w c s)(he:cY w kb rb pb c b) :
    Calls prog 204 #[.int .i64 (n:Int),.func (.func 205) #[] #[ptr rb,ptr pb]] w (qqM b c n s w):=by
 have hmk:∀W,(Instr.makeSlice 94 (.int .i64 (n:Int)) (.int .i64 (n:Int))).run prog W=.ok (.slice (some ⟨W.heap.size,0,none⟩) n n) (W.alloc (.cells (zt (List.replicate n oZ)).toArray 141)):=fun W=>qcE n (by omega) W;have HP:=QH h;have HE:=QH he;clear h he;have hb0:=(Below.refl w.heap.size w).alloc (Nat.le_refl _) (.cells (zt (List.replicate n oZ)).toArray 141);have HS0:Hid (Sn b c n w.heap.size s w 0 [] (w.alloc (.cells (zt (List.replicate n oZ)).toArray 141))):=⟨rfl,rfl,qh.new w 141 _,fun x hx=>absurd hx (by simp),qB.of_below hb0,HP.out.below hb0⟩;clear hb0;go_enter func204,ntmps204;go_wp2_with fail;obtain⟨W0,hW0⟩:=QE (w.alloc (.cells (zt (List.replicate n oZ)).toArray 141));rw[hW0]at HS0;try rw[hW0]
 clear hW0 hmk;obtain⟨g,hg⟩:=QE w.heap.size;have dm:=QH (Nat.le_of_eq hg);have hS0:=HS0.out;rw[hg]at hS0;have oY:=QH hS0;try rw[hg]
 clear hg hS0 HS0;go_loopw [6,11] (fun _ i wr=>quL b c n g s w i wr) (fun _ i _=>n-(intOf i).toNat);case atStart=>exact⟨0,[],Nat.zero_le _,rfl,oY.out⟩
 case round =>
  obtain⟨k,xs,hk,rfl,hS⟩:=hrel;have HSK:=QH hS;clear hS;by_cases hlt:k<n
  ·have ja:(k:Int)<(n:Int):=by omega
   have HEK:=QH (HE.out.rd HP.out.blk HSK.out.rd);go_wp2_with fail;refine(qjg hb HSK.out.rd.ps HEK.out).mono ?_;rintro e W ⟨gi,rfl,hgi,hgB,hq⟩;have HQ:=QH hq;have oa:=QH (qiw b (kB b k s).2);have HGW:=QH (hq.blk HSK.out.row HSK.out.rd.ps.blk (by decide));have HIM:Hid (∀x∈xs,qV W w.heap.size x.2 x.1.qp):=fun x hx=>kI (HSK.out.qp x hx) (hq.kp HSK.out.rd.ps) (by decide);have HRW:=QH (HSK.out.rd.trans hq);have HOI:Hid (qV W w.heap.size (.slice (some ⟨gi,0,none⟩) b b) (iZ b (kB b k s).2).1.qp):=by
    have h1:=qiZ (B:=w.heap.size) hgB (by have:=HSK.out.rd.but.size;omega) (by rw[oa.out.2.1];omega)
    rwa [oa.out.2.1]at h1
   have uh:=QH (oL b k s);have HLI:=oa.out.2.1;obtain⟨x,hx⟩:=QE ((iZ b (kB b k s).2).1);rw[hx]at HLI HOI;rw[hx];have HX:=QH hx;unfold snC;rw[HLI];have q9p:=QH HLI;have fG:xs.length=k:=HSK.out.len;have HXL:=QH fG;have hrl:(zt (xs++List.replicate (n-k) oZ)).length=n*4:=by rw[yD,List.length_append,List.length_replicate];omega
   have key:∀j,j<4→∃u,W.cell? ⟨g,k*4+j,none⟩=some u:=fun j hj=>by
    rw[HGW.out.cell (k*4+j)];have:k*4+j<(zt (xs++List.replicate (n-k) oZ)).length:=by rw[hrl];omega
    exact⟨_,by rw[List.getElem?_toArray,List.getElem?_eq_getElem this]⟩
   obtain⟨u0,c0⟩:=key 0 (by omega);obtain⟨u1,c1⟩:=key 1 (by omega);obtain⟨u2,c2⟩:=key 2 (by omega);obtain⟨u3,c3⟩:=key 3 (by omega);rw[Nat.add_zero]at c0;have f0:=HGW.out.frozen (k*4);have f1:=HGW.out.frozen (k*4+1);have f2:=HGW.out.frozen (k*4+2);have f3:=HGW.out.frozen (k*4+3);have hlg:=HGW.out.lt;have q6P:k≤100:=by omega
   have s1:=HGW.out.qu (k*4) (.int .u64 (x.g.1:Int));have r1:=HRW.out.set HGW.out dm.out (by decide) (by decide) (k*4) (.int .u64 (x.g.1:Int));have s2:=s1.qu (k*4+1) (.int .u64 (x.g.2:Int));have r2:=r1.set s1 dm.out (by decide) (by decide) (k*4+1) (.int .u64 (x.g.2:Int));have s3:=s2.qu (k*4+2) (.slice (some ⟨gi,0,none⟩) b b);have r3:=r2.set s2 dm.out (by decide) (by decide) (k*4+2) (.slice (some ⟨gi,0,none⟩) b b);have s4:=s3.qu (k*4+3) (.bool x.hid);have r4:=r3.set s3 dm.out (by decide) (by decide) (k*4+3) (.bool x.hid);have kp:Kp 141 W ((((W.setCell ⟨g,k*4,none⟩ (.int .u64 (x.g.1:Int))).setCell ⟨g,k*4+1,none⟩ (.int .u64 (x.g.2:Int))).setCell ⟨g,k*4+2,none⟩ (.slice (some ⟨gi,0,none⟩) b b)).setCell ⟨g,k*4+3,none⟩ (.bool x.hid)) :=
    (((Kp.uA (k*4) _ HGW.out).trans (Kp.uA (k*4+1) _ s1)).trans (Kp.uA (k*4+2) _ s2)).trans (Kp.uA (k*4+3) _ s3)
   simp only[List.setIfInBounds_toArray]at s4;rw[p7 (xs++List.replicate (n-k) oZ) k (by rw[List.length_append,List.length_replicate];omega) (x,.slice (some ⟨gi,0,none⟩) b b) _ _ _ _ rfl,qfL fG hlt]at s4;have qa1:Hid (Sn b c n g s w (k+1) (xs++[(x,.slice (some ⟨gi,0,none⟩) b b)]) ((((W.setCell ⟨g,k*4,none⟩ (.int .u64 (x.g.1:Int))).setCell ⟨g,k*4+1,none⟩ (.int .u64 (x.g.2:Int))).setCell ⟨g,k*4+2,none⟩ (.slice (some ⟨gi,0,none⟩) b b)).setCell ⟨g,k*4+3,none⟩ (.bool x.hid))):=by
    refine⟨by rw[List.length_append,fG];rfl,?_,s4,?_,?_⟩
    ·rw[uh.out,HX.out,List.map_append,HSK.out.is];rfl
    ·intro y hy;rcases List.mem_append.1 hy with hy|hy
     ·exact kI (HIM.out y hy) kp (by decide)
     ·obtain rfl:y=(x,.slice (some ⟨gi,0,none⟩) b b):=by simpa using hy
      exact kI HOI.out kp (by decide)
    ·rw[uh.out];exact r4
   clear hq hgB hgi hx key s1 s2 s3 s4 r1 r2 r3 r4 kp hrl fG HLI HSK HEK HGW HIM HRW HOI;go_wp2_with fail;go_roundw;case rel=>exact⟨k+1,_,by omega,by go_num,qa1.out⟩
   case measure=>simp[intOf];omega
  ·have ja:¬ (k:Int)<(n:Int):=by omega
   obtain rfl:k=n:=by omega
   go_wp2_with fail;go_ret;exact⟨g,xs,rfl,dm.out,HSK.out⟩
end Go.Proofs.YtdpbdkacngaemaaGreatDoor.mt.pg
