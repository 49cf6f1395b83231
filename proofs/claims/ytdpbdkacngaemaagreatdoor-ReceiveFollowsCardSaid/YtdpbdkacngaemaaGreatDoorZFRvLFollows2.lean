/- RvChanges, RvWorks, DkArgsP, RvWFo. -/
import Derived.Test.YtdpbdkacngaemaaGreatDoorZFRvLFollows1
set_option linter.unusedVariables false
set_option linter.unusedSimpArgs false
set_option maxHeartbeats 30000000
set_option maxRecDepth 100000
namespace Go.Proofs.YtdpbdkacngaemaaGreatDoor.rv
open _root_.Go.Proofs.Tryz Go Go.RowKit ib ch
def CG (vo:Value)(bb bo k n c:Nat)(x1:Int)(x2:Nat)(S:ByteArray):Nat→Value→World→Prop
 | 0,v,_=>v=vo
 | 1,v,_=>v=.slice (some ⟨bb,bo,none⟩) n c
 | 2,v,_=>v=.int .i64 (k:Int)
 | 3,v,_=>v=.pointer (some ⟨bb,bo+k*2,none⟩)
 | 4,v,_=>v=.pointer (some ⟨bb,bo+k*2,none⟩)
 | 5,v,_=>v=.int .i64 x1
 | 6,v,_=>v=.slice (some ⟨bb,bo,none⟩) n c
 | 7,v,_=>v=.int .i64 (k:Int)
 | 8,v,_=>v=.pointer (some ⟨bb,bo+k*2,none⟩)
 | 9,v,_=>v=.pointer (some ⟨bb,bo+k*2+1,none⟩)
 | 10,v,_=>v=.int .u8 (x2:Int)
 | 11,v,_=>v=.string S
 | 12,v,_=>v=.agg #[.int .i64 x1,.string S]
 | 13,v,w=>∃g,v=.slice (some ⟨g,0,none⟩) 1 1∧qf w g 122 #[.int .i64 x1,.string S]
 | _,_,_=>True
theorem qta(vo:Value)(bb bo k n c:Nat)(x1:Int)(x2:Nat)(S:ByteArray)(i:Nat)(v:Value)(w w':World)(hi:i<14)(h:CG vo bb bo k n c x1 x2 S i v w)(hb:Below w.heap.size w w'):CG vo bb bo k n c x1 x2 S i v w':=by
 match i,hi,h with
 | 0,_,h | 1,_,h | 2,_,h | 3,_,h | 4,_,h | 5,_,h | 6,_,h | 7,_,h | 8,_,h | 9,_,h | 10,_,h | 11,_,h | 12,_,h=>exact h
 | 13,_,⟨g,h1,h2⟩=>exact⟨g,h1,h2.below hb⟩
def q2o (zs:List (Int × UInt8))(w:World)(v i:Value)(wr:World):Prop :=
 ∃k:Nat,k≤zs.length∧k≤5∧i=.int .i64 (k:Int)∧xK wr w.heap.size v (cT (zs.take k))∧Below w.heap.size w wr
theorem qli(zs:List (Int × UInt8))(k:Nat)(h:k<zs.length)(h5:k<5):cT (zs.take (k+1))=cT (zs.take k)++[(zs[k].1,rep zs[k].2 32)]:=by
 unfold cT;rw[List.take_take,List.take_take,Nat.min_eq_right (by omega),Nat.min_eq_right (by omega),List.take_succ_eq_append_getElem h,List.map_append];rfl
theorem qpJ(zs:List (Int × UInt8))(k:Nat)(h:k≤zs.length)(h5:k≤5):(cT (zs.take k)).length=k:=by
 unfold cT;rw[List.take_take,List.length_map,List.length_take];omega
theorem qlj(zs:List (Int × UInt8))(k:Nat)(h:k≤zs.length)(h5:k≤5)(he:¬ (k<zs.length∧k<5)):cT (zs.take k)=cT zs:=by
 unfold cT;rw[List.take_take]
 congr 1
 by_cases h:k=zs.length
 ·subst h;rw[← List.take_take,List.take_length]
 ·have:k=5:=by omega
  subst this;rw[Nat.min_self]
theorem qex{zs:List (Int × UInt8)}(h:∀x∈zs,kA x.1):∀x∈cT zs,kA x.1:=by
 intro x hx;obtain⟨y,hy,rfl⟩:=List.mem_map.1 hx;exact h y (List.mem_of_mem_take hy)
theorem qey(A:Option Addr)(cp:Nat)(zs:List (Int × UInt8))(w:World)(hT:PtL w A zs)(hl:zs.length≤9223372036854775807) :
    Calls prog 24 #[.slice A zs.length cp] w (q09 (cT zs) w):=by
 obtain⟨i0,hi,hz0,hz1,hz2⟩:=info_parts jQ;have HT:=QH hT;have HZB:Hid (∀x∈zs,kA x.1):=fun x hx=>by
  obtain⟨i,hi,rfl⟩:=List.getElem_of_mem hx;obtain⟨_,_,_,_,_,_,h⟩:=hT i hi;exact h
 clear hT;go_enter func24,ntmps24;go_wp2_with fail;go_loopw [3,4] (fun v i wr=>q2o zs w v i wr) (fun _ i _=>6-(intOf i).toNat);case atStart=>exact⟨0,Nat.zero_le _,Nat.zero_le _,rfl,World.ownsRow_nil _ _ _ _,Below.refl _ _⟩
 case round =>
  obtain⟨k,hk,hk5,rfl,ho,hB⟩:=hrel;have HO:=QH ho;have HB:=QH hB;clear ho hB;by_cases hgo:k<zs.length∧k<5
  ·obtain⟨hlt,qsV⟩:=hgo;obtain⟨bb,bo,rfl,hbb,c0,c1,cb⟩:=HT.out k hlt;have xP:=QH (qli zs k hlt qsV);have vI:=QH (qpJ zs k hk hk5);obtain⟨A5,c5,hv5,_⟩:=HO.out.view (fun y hy=>qex (zs:=zs.take k) (fun z hz=>HZB.out z (List.mem_of_mem_take hz)) y hy);rw[vI.out]at hv5;subst hv5;have q0:wr.cell? ⟨bb,bo+k*2,none⟩=some (.int .i64 zs[k].1):=by rw[HB.out.cell (p:=⟨bb,bo+k*2,none⟩) hbb];exact c0
   have q1:wr.cell? ⟨bb,bo+k*2+1,none⟩=some (.int .u8 (zs[k].2.toNat:Int)):=by rw[HB.out.cell (p:=⟨bb,bo+k*2+1,none⟩) hbb];exact c1
   have j9:bb<wr.heap.size:=Nat.lt_of_lt_of_le hbb HB.out.size;have qb5:(k:Int)<(zs.length:Int):=by omega
   have zdR:(k:Int)<5:=by omega
   clear c0 c1 cb;generalize zs[k]=x at *;have Q0:=QH q0;have Q1:=QH q1;clear q0 q1;have hcz:=x.2.toNat_lt;obtain⟨S,hS⟩:=QE (str (rep x.2 32));have HD:=QH (fun W=>qeo x.2 W);have HS:=QH hS;clear hS;go_wp2_with fail;refine qQ (by kernel_rfl) 14 [15,16,17,18,19,20,21,22,23,24,25,26,27,28] (by kernel_rfl) (CG (.slice A5 k c5) bb bo k zs.length cp x.1 x.2.toNat S) (qta _ _ _ _ _ _ _ _ _) ?_ ?_
   ·intro i o vs ρ W hi ho hρ hfn hb hG;have t3:ρ (.tmp 3)=.slice A5 k c5:=hρ.out 3 rfl;have t0:ρ (.tmp 0)=.slice (some ⟨bb,bo,none⟩) zs.length cp:=hρ.out 0 rfl;have t4:ρ (.tmp 4)=.int .i64 (k:Int):=hρ.out 4 rfl;have s1:=hρ.at_ 16 1 rfl;have s2:=hρ.at_ 17 2 rfl;have s3:=hρ.at_ 18 3 rfl;have s4:=hρ.at_ 19 4 rfl;have s5:=hρ.at_ 20 5 rfl;have s6:=hρ.at_ 21 6 rfl;have s7:=hρ.at_ 22 7 rfl;have s8:=hρ.at_ 23 8 rfl;have s9:=hρ.at_ 24 9 rfl;have s10:=hρ.at_ 25 10 rfl;have s11:=hρ.at_ 26 11 rfl;have s12:=hρ.at_ 27 12 rfl;have hc:=hρ.const;have q0:W.cell? ⟨bb,bo+k*2,none⟩=some (.int .i64 x.1):=by rw[hb.cell (p:=⟨bb,bo+k*2,none⟩) j9];exact Q0.out
    have q1:W.cell? ⟨bb,bo+k*2+1,none⟩=some (.int .u8 (x.2.toNat:Int)):=by rw[hb.cell (p:=⟨bb,bo+k*2+1,none⟩) j9];exact Q1.out
    rcases i with _|_|_|_|_|_|_|_|_|_|_|_|_|_|i;all_goals (first|omega|skip)
    all_goals simp only[QA,QB,QC,Option.some.injEq]at ho
    all_goals subst ho
    ·exact q9 (w':=W) (by unfold execOp;simp only[t3];go_simp) ⟨Below.refl _ _,rfl⟩
    ·exact q9 (w':=W) (by unfold execOp;simp only[t0];go_simp) ⟨Below.refl _ _,rfl⟩
    ·exact q9 (w':=W) (by unfold execOp;simp only[t4];go_simp) ⟨Below.refl _ _,rfl⟩
    ·have g1:vs 1=_:=hG 1 (by kernel_rfl);have g2:vs 2=_:=hG 2 (by kernel_rfl);exact q9 (w':=W) (by unfold execOp;simp only[s1,g1,s2,g2];go_simp) ⟨Below.refl _ _,rfl⟩
    ·have g3:vs 3=_:=hG 3 (by kernel_rfl);exact q9 (w':=W) (by unfold execOp;simp only[s3,g3];go_simp) ⟨Below.refl _ _,rfl⟩
    ·have g4:vs 4=_:=hG 4 (by kernel_rfl);exact q9 (w':=W) (by unfold execOp;simp only[s4,g4];go_simp) ⟨Below.refl _ _,rfl⟩
    ·exact q9 (w':=W) (by unfold execOp;simp only[t0];go_simp) ⟨Below.refl _ _,rfl⟩
    ·exact q9 (w':=W) (by unfold execOp;simp only[t4];go_simp) ⟨Below.refl _ _,rfl⟩
    ·have g6:vs 6=_:=hG 6 (by kernel_rfl);have g7:vs 7=_:=hG 7 (by kernel_rfl);exact q9 (w':=W) (by unfold execOp;simp only[s6,g6,s7,g7];go_simp) ⟨Below.refl _ _,rfl⟩
    ·have g8:vs 8=_:=hG 8 (by kernel_rfl);exact q9 (w':=W) (by unfold execOp;simp only[s8,g8];go_simp) ⟨Below.refl _ _,rfl⟩
    ·have g9:vs 9=_:=hG 9 (by kernel_rfl);exact q9 (w':=W) (by unfold execOp;simp only[s9,g9];go_simp) ⟨Below.refl _ _,rfl⟩
    ·have g10:vs 10=_:=hG 10 (by kernel_rfl);refine qj (f:=14) (args:=#[.int .u8 (x.2.toNat:Int)]) (w':=W) (by unfold execOp;simp only[hc,hfn,s10,g10];go_simp) ((HD.out W).mono ?_);rintro e W' ⟨rfl,hb'⟩;exact⟨_,rfl,hb',by rw[HS.out];rfl⟩
    ·have g5:vs 5=_:=hG 5 (by kernel_rfl);have g11:vs 11=_:=hG 11 (by kernel_rfl);exact q9 (w':=W) (by unfold execOp;simp only[s5,g5,s11,g11];go_simp) ⟨Below.refl _ _,rfl⟩
    ·have g12:vs 12=_:=hG 12 (by kernel_rfl);refine q9 (w':=W.alloc (.cells #[.int .i64 x.1,.string S] 122)) (v:=.slice (some ⟨W.heap.size,0,none⟩) 1 1) (by unfold execOp;simp only[s12,g12];go_simp) ⟨(Below.refl _ W).alloc (Nat.le_refl _) _,W.heap.size,rfl,qf.new _ _ _⟩
   ·intro vs W hb hG;have g0:vs 0=_:=hG 0 (by decide);obtain⟨g,g13,zy⟩:=hG 13 (by decide);have B2:=QH (qa HB.out hb);have vX:Hid (W.ownsRow w.heap.size 122 2 (.slice A5 k c5) k (xe (cT (zs.take k)))):=by
     have ho:=HO.out;unfold xK at ho;rw[vI.out]at ho;refine⟨ho.1,?_⟩;rcases ho.2 with h2|⟨g',cap,cur,h1,h2,h3,h4⟩
     ·exact .inl h2
     ·exact .inr ⟨g',cap,cur,h1,h2,(hb.block g' (Array.getElem?_eq_some_iff.1 h3).1).trans h3,h4⟩
    have wI:Hid (∀(j:Nat) (u:Value),([.int .i64 x.1,.string S]:List Value)[j]?=some u→W.cell? ((⟨g,0,none⟩:Addr).add j)=some u):=by
     intro j u hj
     match j,hj with
     | 0,hj =>
      simp at hj;subst hj;rw[addr_add];exact zy.cell 0
     | 1,hj =>
      simp at hj;subst hj;rw[addr_add];exact zy.cell 1
    simp only[qR,qG,if_true];rw[g0,g13];generalize vs 1=y1;generalize vs 2=y2;generalize vs 3=y3;generalize vs 4=y4;generalize vs 5=y5;generalize vs 6=y6;generalize vs 7=y7;generalize vs 8=y8;generalize vs 9=y9;generalize vs 10=y10;generalize vs 11=y11;generalize vs 12=y12;clear hG g0 g13 zy;simp only[Act.put,List.setIfInBounds_toArray,List.set_cons_succ,List.set_cons_zero];refine qJ (i:=14) (by kernel_rfl) rfl rfl ?_;have qkC:∀u∈([Value.int .i64 x.1,.string S]:List Value),u.oneCell'=true:=by
     rw[← HS.out];exact qb7 (x.1,rep x.2 32)
    refine wp_append_own W (.tmp 15) (.tmp 28) 39 rfl w.heap.size 122 i0 (.agg #[.int .i64 0,.string ByteArray.empty]) 2 24 underlying39 hi hz0 hz1 hz2 rfl (by decide) _ k _ rfl vX.out ⟨g,0,none⟩ 1 1 [.int .i64 x.1,.string S] rfl rfl wI.out qkC (by unfold maxLen;omega) (by omega) B2.out.size ?_;intro v' w1 hown hgrow _;have zv:=QH (B2.out.grown hgrow B2.out.size (fun j hj=>(vX.out.lt j hj).1));have HOS:Hid (xK w1 w.heap.size v' (cT (zs.take (k+1)))):=by
     unfold Hid;rw[xP.out];refine xK.snoc (x:=(x.1,rep x.2 32)) ?_;rw[vI.out,HS.out];exact hown
    obtain⟨A6,c6,hv6,_⟩:=HOS.out.view (fun y hy=>qex (zs:=zs.take (k+1)) (fun z hz=>HZB.out z (List.mem_of_mem_take hz)) y hy);clear hown hgrow hb;subst hv6;go_simp;refine qJ (i:=15) (by kernel_rfl) rfl rfl ?_;go_simp;refine⟨by kernel_rfl,?_⟩;go_wp2_with fail;go_roundw;case rel=>exact⟨k+1,by omega,by omega,by go_num,HOS.out,zv.out⟩
    case measure=>simp[intOf];omega
  ·have HE:=QH (qlj zs k hk hk5 hgo);by_cases iY:(k:Int)<(zs.length:Int)
   ·have zt:¬ ((k:Int)<5):=by omega
    go_wp2_with fail;go_ret;exact⟨_,rfl,by rw[← HE.out];exact HO.out,HB.out⟩
   ·go_wp2_with fail;go_ret;exact⟨_,rfl,by rw[← HE.out];exact HO.out,HB.out⟩
end Go.Proofs.YtdpbdkacngaemaaGreatDoor.rv
namespace Go.Proofs.YtdpbdkacngaemaaGreatDoor.rv
open _root_.Go.Proofs.Tryz Go Go.RowKit Go.Sort ib mt st
open vt (jw jP VP DD Ke gN)
theorem qlk(W:World):PtL (W.alloc (.cells #[.int .i64 0,.int .u8 97,.int .i64 1,.int .u8 98,.int .i64 3,.int .u8 99] 79)) (some ⟨W.heap.size,0,none⟩) [(0,97),(1,98),(3,99)]:=by
 intro i hi;have hi2:i<3:=by simpa using hi
 match i,hi2 with
 | 0,_=>exact⟨W.heap.size,0,rfl,by simp,(qf.new W _ _).cell 0,(qf.new W _ _).cell 1,by show kA 0;unfold kA;decide⟩
 | 1,_=>exact⟨W.heap.size,0,rfl,by simp,(qf.new W _ _).cell 2,(qf.new W _ _).cell 3,by show kA 1;unfold kA;decide⟩
 | 2,_=>exact⟨W.heap.size,0,rfl,by simp,(qf.new W _ _).cell 4,(qf.new W _ _).cell 5,by show kA 3;unfold kA;decide⟩
theorem q2p:cT [(0,97),(1,98),(3,99)]=l3:=rfl
theorem q7l:∀x∈l3,kA x.1:=by
 have h:∀x∈l3,decide (-9223372036854775808≤x.1)&&decide (x.1≤9223372036854775807)=true:=by decide +kernel
 exact fun x hx=>by have:=h x hx;unfold kA;simpa using this
theorem q2q:∀x∈l3,x.2.length≤1000000:=by decide +kernel
def W3S (IV:jw)(V:World)(B:Nat)(X:Nat→Prop)(vp pd:Nat)(g1:Gd)(n1:Nat)(f1:vt.Tf)(g2:Gd)(n2:Nat)(f2:vt.Tf)(q:Bool)(W:World):Prop :=
 Ke B X V W∧B≤W.heap.size∧if q=true then Wk IV W B X vp pd g2 n2 f2 else Wk IV W B X vp pd g1 n1 f1
section
variable {IV:jw} (H:jP IV) {V W W':World} {B vp pd n1 n2 cq:Nat} {X:Nat→Prop} {g1 g2:Gd} {f1 f2:vt.Tf} {q:Bool} {Aq:Option Addr}
include H
theorem fW (h:W3S IV V B X vp pd g1 n1 f1 g2 n2 f2 q W)(hb:Below W.heap.size W W'):W3S IV V B X vp pd g1 n1 f1 g2 n2 f2 q W':=by
 obtain⟨h1,h2,h3⟩:=h;refine⟨h1.trans (Ke.of_below hb),Nat.le_trans h2 hb.size,?_⟩;cases q
 ·exact Wk.below H h3 hb
 ·exact Wk.below H h3 hb
omit H in
theorem gG {p:Pa}(hk:Ke B X V W)(h:az V Aq cq p)(hA:∀b o,Aq=some ⟨b,o,none⟩→X b):az W Aq cq p:=zW h hk.size fun b o e hb=>hk.block hb (.inl (hA b o e))
theorem q2r(h:W3S IV V B X vp pd (0,0) 0 rv.f1 (1,1) 1 mA false W)(hp:az V Aq cq qW)(hA:∀b o,Aq=some ⟨b,o,none⟩→X b)(ha:mV 4 (0,0) rv.f1 qW=0)(he:vt.zK 4 0 (0,0) (jW qW) qW.zR=0) :
    Calls prog 25 #[pt vp,.agg (jg qW Aq cq)] W fun e w'=>e=.returned (.int .i64 0)∧W3S IV V B X vp pd (0,0) 0 rv.f1 (1,1) 1 mA true w':=by
 obtain⟨h1,h2,h3⟩:=h;refine(rN H h3 h2 Aq cq qW (gG h1 hp hA) (by decide) hA ha he (g':=(1,1)) (n':=1) (f':=mA) (by rw[if_pos (by decide)];exact⟨rfl,rfl,rfl⟩)).mono ?_;rintro e w' ⟨rfl,hw,hk⟩;exact⟨rfl,h1.trans hk,Nat.le_trans h2 hk.size,hw⟩
theorem q2s{c:Int}(h:W3S IV V B X vp pd g1 n1 f1 g1 n1 f1 false W)(hp:az V Aq cq qW)(hA:∀b o,Aq=some ⟨b,o,none⟩→X b)(ha:mV 4 g1 f1 qW=c)(hc:c≠0) :
    Calls prog 25 #[pt vp,.agg (jg qW Aq cq)] W fun e w'=>e=.returned (.int .i64 c)∧W3S IV V B X vp pd g1 n1 f1 g1 n1 f1 true w':=by
 obtain⟨h1,h2,h3⟩:=h;refine(cV H h3 h2 Aq cq qW (gG h1 hp hA) (by decide) hA ha hc).mono ?_;rintro e w' ⟨rfl,hw,hk⟩;exact⟨rfl,h1.trans hk,Nat.le_trans h2 hk.size,hw⟩
end
def ik (vp cq:Nat)(Aq:Option Addr):Nat→Value→World→Prop
 | 0,v,_=>v=.int .i64 0
 | 1,v,_=>v=.bool false
 | 2,v,_=>v=.bool false
 | 3,v,_=>v=.agg #[.int .u64 0,.int .u64 0]
 | 4,v,_=>v=.agg #[.int .u64 0,.int .u64 0]
 | 5,v,_=>v=.bool false
 | 6,v,_=>v=.bool false
 | 7,v,_=>v=.bool false
 | 8,v,_=>v=.agg #[.int .u64 1,.int .u64 1]
 | 9,v,_=>v=.agg #[.int .u64 1,.int .u64 1]
 | 10,v,_=>v=.bool false
 | 11,v,_=>v=.bool false
 | 12,v,_=>v=.bool false
 | 13,v,_=>v=.int .i64 2
 | 14,v,_=>v=.bool false
 | 15,v,_=>v=.bool false
 | 16,v,_=>v=.bool false
 | 17,v,_=>v=pt vp
 | 18,v,_=>v=.agg #[.int .u64 0,.int .u64 0,.int .u64 1,.int .u64 1,.int .i64 2,.int .i64 3,.slice Aq 1 cq]
 | 19,v,_=>v=.int .i64 0
 | 20,v,_=>v=.bool false
 | 21,v,_=>v=.bool false
 | _,_,_=>True
theorem qpK(vp cq:Nat)(Aq:Option Addr)(i:Nat)(x:Value)(w w':World)(hi:i<22)(h:ik vp cq Aq i x w)(_:(fun(_ _:World)=>True) w w'):ik vp cq Aq i x w':=by
 match i,hi,h with
 | 0,_,h | 1,_,h | 2,_,h | 3,_,h | 4,_,h | 5,_,h | 6,_,h | 7,_,h | 8,_,h | 9,_,h | 10,_,h | 11,_,h | 12,_,h | 13,_,h | 14,_,h | 15,_,h | 16,_,h | 17,_,h | 18,_,h | 19,_,h | 20,_,h | 21,_,h=>exact h
 | j+22,hi,_=>exact absurd hi (by omega)
def fX (vp cq:Nat)(Aq:Option Addr):Nat→Value→World→Prop
 | 0,v,_=>v=.int .i64 1
 | 1,v,_=>v=.bool true
 | 2,v,_=>v=.bool true
 | 3,v,_=>v=.agg #[.int .u64 1,.int .u64 1]
 | 4,v,_=>v=.agg #[.int .u64 1,.int .u64 1]
 | 5,v,_=>v=.bool true
 | 6,v,_=>v=.bool true
 | 7,v,_=>v=.bool true
 | 8,v,_=>v=.agg #[.int .u64 0,.int .u64 0]
 | 9,v,_=>v=.agg #[.int .u64 0,.int .u64 0]
 | 10,v,_=>v=.bool true
 | 11,v,_=>v=.bool true
 | 12,v,_=>v=.bool true
 | 13,v,_=>v=.int .i64 0
 | 14,v,_=>v=.bool true
 | 15,v,_=>v=.bool true
 | 16,v,_=>v=.bool true
 | 17,v,_=>v=pt vp
 | 18,v,_=>v=.agg #[.int .u64 0,.int .u64 0,.int .u64 1,.int .u64 1,.int .i64 2,.int .i64 3,.slice Aq 1 cq]
 | 19,v,_=>v=.int .i64 9
 | 20,v,_=>v=.bool true
 | 21,v,_=>v=.bool true
 | 22,v,_=>v=.bool true
 | _,_,_=>True
theorem qpL(vp cq:Nat)(Aq:Option Addr)(i:Nat)(x:Value)(w w':World)(hi:i<23)(h:fX vp cq Aq i x w)(_:(fun(_ _:World)=>True) w w'):fX vp cq Aq i x w':=by
 match i,hi,h with
 | 0,_,h | 1,_,h | 2,_,h | 3,_,h | 4,_,h | 5,_,h | 6,_,h | 7,_,h | 8,_,h | 9,_,h | 10,_,h | 11,_,h | 12,_,h | 13,_,h | 14,_,h | 15,_,h | 16,_,h | 17,_,h | 18,_,h | 19,_,h | 20,_,h | 21,_,h | 22,_,h=>exact h
 | j+23,hi,_=>exact absurd hi (by omega)
theorem qll{IV:jw}(H:jP IV)(w:World)(ht:xY w):Calls prog 32 #[] w (qa4 w):=by
 have mH:Hid (gN<w.heap.size):=vt.xG ht;have HMD:=QH (qes H 4 (by decide) (by decide) w ht);clear ht;go_enter func32,ntmps32;go_wp2_with fail;refine HMD.out.mono ?_;rintro e W1 ⟨vp,pd,t,d,o1,o2,rfl,hv,hj,hr,hf,hb,ho⟩;have su:Hid (Wk IV W1 w.heap.size (fun _=>False) vp pd (0,0) 0 mA):=⟨t,d,_,⟨o1,o2,hv,fun j hj=>⟨ho j hj,id⟩,fun j h=>h.elim,mH.out,id⟩,hr,hj,hf,⟨rfl,rfl,rfl,rfl⟩⟩;have qO:=QH hb;clear hv hj hr hf hb ho HMD;have hb2:=(Below.refl W1.heap.size W1).alloc (Nat.le_refl _) (.cells #[.int .i64 0,.int .u8 97,.int .i64 1,.int .u8 98,.int .i64 3,.int .u8 99] 79);have hpl:=qlk W1;obtain⟨W2,hW2⟩:=QE (W1.alloc (.cells #[.int .i64 0,.int .u8 97,.int .i64 1,.int .u8 98,.int .i64 3,.int .u8 99] 79));rw[hW2]at hb2 hpl;obtain⟨gl,jG⟩:=QE W1.heap.size;rw[jG]at hpl;have HCG:=QH (qey (some ⟨gl,0,none⟩) 3 [(0,97),(1,98),(3,99)] W2 hpl (by decide));rw[q2p]at HCG;have q2u:=QH hb2;have HW2:=QH hW2;have HGL:=QH jG;clear hb2 hpl hW2 jG;go_upto_region 4 with fail;go_wp2_with fail;try rw[HW2.out]
 try rw[HGL.out]
 refine HCG.out.mono ?_;rintro e W3 ⟨vl,rfl,hoc,hb⟩;obtain⟨Al,cl,rfl,hcl,-,qaF⟩:=ch.pg.xK.qul hoc q7l;rw[show l3.length=3 from rfl]at qaF ⊢;have kJ:=QH hcl;have HCP:=QH qaF;have q2v:=QH (qa q2u.out hb);clear hoc hcl qaF hb HCG HW2 HGL q2u;go_wp2_with fail;refine(xp 0 0 W3).mono ?_;rintro e W4 ⟨rfl,hb⟩;have q2w:=QH (qa q2v.out hb)
 replace kJ:=QH (kJ.out.below hb)
 clear q2v hb;go_wp2_with fail;refine(xp 1 1 W4).mono ?_;rintro e W5 ⟨rfl,hb⟩;have qk2:=QH (qa q2w.out hb)
 replace kJ:=QH (kJ.out.below hb)
 clear q2w hb;have dr:=QH (st.nj (0,0) (1,1) Al cl l3 0 W5 ⟨by decide,by decide⟩ ⟨by decide,by decide⟩ kJ.out (by decide) HCP.out.1 HCP.out.2 q2q (by unfold kA;decide));rw[qxm,show l3.length=3 from rfl]at dr;go_wp2_with fail;refine dr.out.mono ?_;rintro e W6 ⟨Ap,cp,rfl,hp,hn,hb⟩;dsimp only at hp ⊢;rw[show jg pW Ap cp = #[.int .u64 0,.int .u64 0,.int .u64 1,.int .u64 1,.int .i64 0,.int .i64 3,.slice Ap 2 cp]from rfl];have ml:=QH hp;have hs2:=qk2.out.size;have qxo:=QH (qa qk2.out hb)
 replace kJ:=QH (kJ.out.below hb)
 clear qk2 hb hp dr;have cb:=(Below.refl W6.heap.size W6).alloc (Nat.le_refl _) (.cells #[.int .u64 0,.int .u64 0,.int .u64 1,.int .u64 1,.int .i64 0,.int .i64 3,.slice Ap 2 cp] 41);have kb:=qf.new W6 41 #[.int .u64 0,.int .u64 0,.int .u64 1,.int .u64 1,.int .i64 0,.int .i64 3,.slice Ap 2 cp];obtain⟨W7,hWn⟩:=QE (W6.alloc (.cells #[.int .u64 0,.int .u64 0,.int .u64 1,.int .u64 1,.int .i64 0,.int .i64 3,.slice Ap 2 cp] 41));rw[hWn]at cb kb;obtain⟨g4,hg⟩:=QE W6.heap.size;have HG4:Hid (W1.heap.size≤g4):=by have:=qxo.out.size;unfold Hid;omega
 rw[hg]at kb;have HN4:Hid (∀b o,Ap=some ⟨b,o,none⟩→W1.heap.size≤b∧b<g4):=fun b o e=>by
  have h1:=hn b o e;omega
 clear hn hs2;have B4:=QH kb
 replace ml:=QH (ml.out.below cb)
 have q2x:=QH (qa qxo.out cb)
 replace kJ:=QH (kJ.out.below cb)
 have HWn:=QH hWn;have HGn:=QH hg;clear qxo cb kb hWn hg;go_upto_region 6 with fail;try rw[HWn.out]
 try rw[HGn.out]
 clear HWn HGn;go_wp2_with fail;refine(xp 0 0 W7).mono ?_;rintro e W8 ⟨rfl,hb⟩;have qk3:=QH (qa q2x.out hb)
 replace kJ:=QH (kJ.out.below hb)
 replace ml:=QH (ml.out.below hb)
 replace B4:=QH (B4.out.below hb)
 clear q2x hb;go_wp2_with fail;refine(xp 1 1 W8).mono ?_;rintro e W9 ⟨rfl,hb⟩;have qxp:=QH (qa qk3.out hb)
 replace kJ:=QH (kJ.out.below hb)
 replace ml:=QH (ml.out.below hb)
 replace B4:=QH (B4.out.below hb)
 clear qk3 hb;have dr:=QH (st.nj (0,0) (1,1) Al cl l3 2 W9 ⟨by decide,by decide⟩ ⟨by decide,by decide⟩ kJ.out (by decide) HCP.out.1 HCP.out.2 q2q (by unfold kA;decide));rw[qxn,show l3.length=3 from rfl]at dr;go_wp2_with fail;refine dr.out.mono ?_;rintro e W10 ⟨Aq,cq,rfl,hp,hn,hb⟩;dsimp only at hp ⊢;rw[show jg qW Aq cq = #[.int .u64 0,.int .u64 0,.int .u64 1,.int .u64 1,.int .i64 2,.int .i64 3,.slice Aq 1 cq]from rfl];have HP6:=QH hp;have hs2:=qxp.out.size;have qpM:=QH (qa qxp.out hb)
 replace kJ:=QH (kJ.out.below hb)
 replace ml:=QH (ml.out.below hb)
 replace B4:=QH (B4.out.below hb)
 clear qxp hb hp dr;have cb:=(Below.refl W10.heap.size W10).alloc (Nat.le_refl _) (.cells #[.int .u64 0,.int .u64 0,.int .u64 1,.int .u64 1,.int .i64 2,.int .i64 3,.slice Aq 1 cq] 41);have kb:=qf.new W10 41 #[.int .u64 0,.int .u64 0,.int .u64 1,.int .u64 1,.int .i64 2,.int .i64 3,.slice Aq 1 cq];obtain⟨W11,hWn⟩:=QE (W10.alloc (.cells #[.int .u64 0,.int .u64 0,.int .u64 1,.int .u64 1,.int .i64 2,.int .i64 3,.slice Aq 1 cq] 41));rw[hWn]at cb kb;obtain⟨g6,hg⟩:=QE W10.heap.size;have HG6:Hid (W1.heap.size≤g6):=by have:=qpM.out.size;unfold Hid;omega
 rw[hg]at kb;have HN6:Hid (∀b o,Aq=some ⟨b,o,none⟩→W1.heap.size≤b∧b<g6):=fun b o e=>by
  have h1:=hn b o e;omega
 clear hn hs2;have B6:=QH kb
 replace HP6:=QH (HP6.out.below cb)
 have qez:=QH (qa qpM.out cb)
 replace kJ:=QH (kJ.out.below cb)
 replace ml:=QH (ml.out.below cb)
 replace B4:=QH (B4.out.below cb)
 have HWn:=QH hWn;have HGn:=QH hg;clear qpM cb kb hWn hg;go_upto_region 7 with fail;try rw[HWn.out]
 try rw[HGn.out]
 clear HWn HGn;obtain⟨X0,hX⟩:∃X0:Nat→Prop,X0=fun j=>W1.heap.size≤j∧j<W11.heap.size:=⟨_,rfl⟩;have HW:Hid (Wk IV W11 w.heap.size X0 vp pd (0,0) 0 mA):=by
  unfold Hid;rw[hX];exact Wk.more H su.out qez.out (fun j hj=>.inr hj)
 have HXA:Hid (X0 g4∧X0 g6∧(∀b o,Ap=some ⟨b,o,none⟩→X0 b)∧∀b o,Aq=some ⟨b,o,none⟩→X0 b):=by
  unfold Hid;rw[hX];have h1:=qez.out.size;have h4:=B4.out.lt;have h6:=B6.out.lt;have hp:=fun(b o:Nat) (e:Ap=some ⟨b,o,none⟩)=>HN4.out b o e;have hq:=fun(b o:Nat) (e:Aq=some ⟨b,o,none⟩)=>HN6.out b o e;exact⟨⟨HG4.out,h4⟩,⟨HG6.out,h6⟩,fun b o e=>⟨(hp b o e).1,by have:=(hp b o e).2;omega⟩,fun b o e=>⟨(hq b o e).1,by have:=(hq b o e).2;omega⟩⟩
 have ja:Hid (w.heap.size≤W11.heap.size):=Nat.le_trans qO.out.size qez.out.size;have bK:Hid (Below w.heap.size w W11):=qO.out.trans (qez.out.mono qO.out.size);clear hX HN4 HG4 HG6 su qO kJ HCP qez;have xh:=B4.out;have x0:=xh.cell 0;have x1:=xh.cell 1;have x2:=xh.cell 2;have x3:=xh.cell 3;have x4:=xh.cell 4;have x5:=xh.cell 5;have x6:=xh.cell 6;have xl:=xh.lt;simp only[QA,QB,QC]at x0 x1 x2 x3 x4 x5 x6;clear xh;have yh:=B6.out;have y0:=yh.cell 0;have y1:=yh.cell 1;have y2:=yh.cell 2;have y3:=yh.cell 3;have y4:=yh.cell 4;have y5:=yh.cell 5;have y6:=yh.cell 6;have yl:=yh.lt;simp only[QA,QB,QC]at y0 y1 y2 y3 y4 y5 y6;clear yh;have jH:=QH (cV H HW.out ja.out Aq cq qW HP6.out (by decide) HXA.out.2.2.2 q7d (by decide));rw[show jg qW Aq cq = #[.int .u64 0,.int .u64 0,.int .u64 1,.int .u64 1,.int .i64 2,.int .i64 3,.slice Aq 1 cq]from rfl]at jH;go_wp2_with fail;refine jH.out.mono ?_;rintro e W12 ⟨rfl,hw,hk⟩
 replace HW:=QH hw
 replace B4:=QH (B4.out.of_block (hk.block B4.out.lt (.inl HXA.out.1)))
 replace B6:=QH (B6.out.of_block (hk.block B6.out.lt (.inl HXA.out.2.1)))
 replace ml:=QH (gG hk ml.out HXA.out.2.2.1)
 replace HP6:=QH (gG hk HP6.out HXA.out.2.2.2)
 replace bK:=QH (bK.out.trans (hk.below ja.out))
 replace ja:=QH (Nat.le_trans ja.out hk.size)
 clear hw hk jH x0 x1 x2 x3 x4 x5 x6 xl y0 y1 y2 y3 y4 y5 y6 yl;have xh:=B4.out;have x0:=xh.cell 0;have x1:=xh.cell 1;have x2:=xh.cell 2;have x3:=xh.cell 3;have x4:=xh.cell 4;have x5:=xh.cell 5;have x6:=xh.cell 6;have xl:=xh.lt;simp only[QA,QB,QC]at x0 x1 x2 x3 x4 x5 x6;clear xh;have yh:=B6.out;have y0:=yh.cell 0;have y1:=yh.cell 1;have y2:=yh.cell 2;have y3:=yh.cell 3;have y4:=yh.cell 4;have y5:=yh.cell 5;have y6:=yh.cell 6;have yl:=yh.lt;simp only[QA,QB,QC]at y0 y1 y2 y3 y4 y5 y6;clear yh;have jH:=QH (rN H HW.out ja.out Ap cp pW ml.out (by decide) HXA.out.2.2.1 q7e q7i (g':=(0,0)) (n':=0) (f':=f1) (by rw[if_neg (by decide)];exact⟨rfl,rfl,rfl⟩));rw[show jg pW Ap cp = #[.int .u64 0,.int .u64 0,.int .u64 1,.int .u64 1,.int .i64 0,.int .i64 3,.slice Ap 2 cp]from rfl]at jH;go_wp2_with fail;refine jH.out.mono ?_;rintro e W13 ⟨rfl,hw,hk⟩
 replace HW:=QH hw
 replace B4:=QH (B4.out.of_block (hk.block B4.out.lt (.inl HXA.out.1)))
 replace B6:=QH (B6.out.of_block (hk.block B6.out.lt (.inl HXA.out.2.1)))
 replace ml:=QH (gG hk ml.out HXA.out.2.2.1)
 replace HP6:=QH (gG hk HP6.out HXA.out.2.2.2)
 replace bK:=QH (bK.out.trans (hk.below ja.out))
 replace ja:=QH (Nat.le_trans ja.out hk.size)
 clear hw hk jH x0 x1 x2 x3 x4 x5 x6 xl y0 y1 y2 y3 y4 y5 y6 yl;have xh:=B4.out;have x0:=xh.cell 0;have x1:=xh.cell 1;have x2:=xh.cell 2;have x3:=xh.cell 3;have x4:=xh.cell 4;have x5:=xh.cell 5;have x6:=xh.cell 6;have xl:=xh.lt;simp only[QA,QB,QC]at x0 x1 x2 x3 x4 x5 x6;clear xh;have yh:=B6.out;have y0:=yh.cell 0;have y1:=yh.cell 1;have y2:=yh.cell 2;have y3:=yh.cell 3;have y4:=yh.cell 4;have y5:=yh.cell 5;have y6:=yh.cell 6;have yl:=yh.lt;simp only[QA,QB,QC]at y0 y1 y2 y3 y4 y5 y6;clear yh;have jH:=QH (cV H HW.out ja.out Ap cp pW ml.out (by decide) HXA.out.2.2.1 q7f (by decide));rw[show jg pW Ap cp = #[.int .u64 0,.int .u64 0,.int .u64 1,.int .u64 1,.int .i64 0,.int .i64 3,.slice Ap 2 cp]from rfl]at jH;go_wp2_with fail;refine jH.out.mono ?_;rintro e W14 ⟨rfl,hw,hk⟩
 replace HW:=QH hw
 replace B4:=QH (B4.out.of_block (hk.block B4.out.lt (.inl HXA.out.1)))
 replace B6:=QH (B6.out.of_block (hk.block B6.out.lt (.inl HXA.out.2.1)))
 replace ml:=QH (gG hk ml.out HXA.out.2.2.1)
 replace HP6:=QH (gG hk HP6.out HXA.out.2.2.2)
 replace bK:=QH (bK.out.trans (hk.below ja.out))
 replace ja:=QH (Nat.le_trans ja.out hk.size)
 clear hw hk jH x0 x1 x2 x3 x4 x5 x6 xl y0 y1 y2 y3 y4 y5 y6 yl;have xh:=B4.out;have x0:=xh.cell 0;have x1:=xh.cell 1;have x2:=xh.cell 2;have x3:=xh.cell 3;have x4:=xh.cell 4;have x5:=xh.cell 5;have x6:=xh.cell 6;have xl:=xh.lt;simp only[QA,QB,QC]at x0 x1 x2 x3 x4 x5 x6;clear xh;have yh:=B6.out;have y0:=yh.cell 0;have y1:=yh.cell 1;have y2:=yh.cell 2;have y3:=yh.cell 3;have y4:=yh.cell 4;have y5:=yh.cell 5;have y6:=yh.cell 6;have yl:=yh.lt;simp only[QA,QB,QC]at y0 y1 y2 y3 y4 y5 y6;clear yh;clear x0 x1 x2 x3 x4 x5 x6 xl;clear y0 y1 y2 y3 y4 y5 y6 yl;clear ml B4;have HAS:=QH (qi0 H HW.out (by decide));rw[show rL 0 (0,0) f1.target f1.next=.tuple #[.int .i64 0,.agg #[.int .u64 0,.int .u64 0],.agg #[.int .u64 1,.int .u64 1],.int .i64 2]from rfl]at HAS;go_wp2_with fail;refine HAS.out.mono ?_;rintro e W15 ⟨rfl,hb⟩;dsimp only
 replace HW:=QH (Wk.below H HW.out hb)
 replace B6:=QH (B6.out.below hb)
 replace HP6:=QH (HP6.out.below hb)
 have qpN:=QH (qa bK.out hb);clear bK ja HAS hb;have cb1:=(Below.refl W15.heap.size W15).alloc (Nat.le_refl _) (.cells #[.int .u64 0,.int .u64 0] 38);have kb1:=qf.new W15 38 #[.int .u64 0,.int .u64 0];obtain⟨W16,qtb⟩:=QE (W15.alloc (.cells #[.int .u64 0,.int .u64 0] 38));have q2z:W16.heap.size=W15.heap.size+1:=by rw[← qtb];simp
 rw[qtb]at cb1 kb1;have cb2:=(Below.refl W16.heap.size W16).alloc (Nat.le_refl _) (.cells #[.int .u64 1,.int .u64 1] 38);have kb2:=qf.new W16 38 #[.int .u64 1,.int .u64 1];obtain⟨V0,hV0⟩:=QE (W16.alloc (.cells #[.int .u64 1,.int .u64 1] 38));rw[hV0]at cb2 kb2;rw[q2z]at kb2;obtain⟨g9,hg9⟩:=QE W15.heap.size;rw[hg9]at kb1 kb2;obtain⟨g10,qo6⟩:=QE (g9+1);rw[qo6]at kb2;have mQ:=QH (qa cb1 cb2);have B9:=QH (kb1.below cb2);have B10:=QH kb2;have HG9:Hid (W15.heap.size≤g9∧W15.heap.size≤g10∧g9≠g10∧g10≠g6∧g9≠g6):=by have:=B6.out.lt;unfold Hid;omega
 have q20:=QH qtb;have nQ:=QH hV0;have Hg9:=QH hg9;have q21:=QH qo6;clear cb1 kb1 cb2 kb2 q2z qtb hV0 hg9 qo6;have HQN:Hid (∀b o,Aq=some ⟨b,o,none⟩→b≠g9∧b≠g10):=fun b o e=>by
  have h1:=HN6.out b o e;have h2:=B6.out.lt;have h3:=HG9.out;omega
 have rj:Hid (w.heap.size≤g9∧w.heap.size≤g10):=by have h1:=qpN.out.size;have h3:=HG9.out;unfold Hid;omega
 obtain⟨X,hX⟩:∃X:Nat→Prop,X=fun j=>X0 j∨j=g9∨j=g10:=⟨_,rfl⟩
 replace HW:=QH (Wk.more H HW.out mQ.out (Y:=X) (fun j hj=>by
  rw[hX]at hj;rcases hj with h|h|h
  ·exact .inl h
  ·exact .inr ⟨by have:=HG9.out;omega,by rw[h];exact B9.out.lt⟩
  ·exact .inr ⟨by have:=HG9.out;omega,by rw[h];exact B10.out.lt⟩))
 replace B6:=QH (B6.out.below mQ.out)
 have HPQ:=QH (HP6.out.below mQ.out);have qtc:=QH (qa qpN.out mQ.out);have HX:Hid (X g9∧X g10∧X g6∧∀b o,Aq=some ⟨b,o,none⟩→X b):=by
  unfold Hid;rw[hX];exact⟨.inr (.inl rfl),.inr (.inr rfl),.inl HXA.out.2.1,fun b o e=>.inl (HXA.out.2.2.2 b o e)⟩
 clear HP6 qpN mQ HXA hX HN6;have HS0:Hid (W3S IV V0 w.heap.size X vp pd (0,0) 0 f1 (1,1) 1 mA false V0.drew):=⟨Ke.of_below (Below.refl _ _).drew,qtc.out.size,Wk.below H HW.out (Below.refl _ _).drew⟩;clear HW;go_upto_region 10 with fail;try rw[q20.out]
 try rw[nQ.out]
 try rw[Hg9.out]
 try rw[q21.out]
 clear q20 nQ Hg9 q21;refine jk (by kernel_rfl) [68,69,70,71,72,73,74,75,76,77,78,79,80,81,82,83,84,85,86,87,88,89] (by kernel_rfl) (fun L vs W=>W3S IV V0 w.heap.size X vp pd (0,0) 0 f1 (1,1) 1 mA (L 19) W∧∀i,L i=true→i<22→ik vp cq Aq i (vs i) W) ⟨HS0.out,fun i hi=>by cases hi⟩ ?_ ?_ ?_
 ·intro i o L vs ρ W ho gZ qu hρ hgd hI;obtain⟨hS,rQ⟩:=hI;have hG:∀j,L j=true→ik vp cq Aq j (vs j) W:=fun j hj=>by
   by_cases dI:j<22
   ·exact rQ j hj dI
   ·match j,dI with
    | j+22,_=>exact trivial
  have qfg:i<22:=(Array.getElem?_eq_some_iff.1 ho).1;have hc:=hρ.const;have hfn:=hρ.fn;have next:∀v W',(fun(_ _:World)=>True) W W'→W3S IV V0 w.heap.size X vp pd (0,0) 0 f1 (1,1) 1 mA (qM L i 19) W'→ik vp cq Aq i v W'→W3S IV V0 w.heap.size X vp pd (0,0) 0 f1 (1,1) 1 mA (qM L i 19) W'∧∀j,qM L i j=true→j<22→ik vp cq Aq j (zB vs i v j) W':=fun v W' h1 h0 h2=>by
   refine⟨h0,fun j hj dI=>?_⟩;by_cases gX:j=i
   ·subst gX;simpa[zB]using h2
   ·simp only[qM,if_neg gX]at hj;simpa[zB,gX]using qpK vp cq Aq j _ W W' dI (rQ j hj dI) h1
  have k9:=B9.out.of_block (hS.1.block B9.out.lt (.inl HX.out.1));have ee:=B10.out.of_block (hS.1.block B10.out.lt (.inl HX.out.2.1));have k6:=B6.out.of_block (hS.1.block B6.out.lt (.inl HX.out.2.2.1));have y0:=k9.cell 0;have y1:=k9.cell 1;have yl:=k9.lt;have z0:=ee.cell 0;have z1:=ee.cell 1;have zl:=ee.lt;have x0:=k6.cell 0;have x1:=k6.cell 1;have x2:=k6.cell 2;have x3:=k6.cell 3;have x4:=k6.cell 4;have x5:=k6.cell 5;have x6:=k6.cell 6;have xl:=k6.lt;simp only[QA,QB,QC]at y0 y1 z0 z1 x0 x1 x2 x3 x4 x5 x6;rcases i with _|_|_|_|_|_|_|_|_|_|_|_|_|_|_|_|_|_|_|_|_|_|i;all_goals (first|omega|skip)
  all_goals simp only[QA,QB,QC,Option.some.injEq]at ho
  all_goals subst ho
  ·have o8:ρ (.tmp 8)=.int .i64 0:=hρ.out 8 rfl;exact q9 (w':=W) (by unfold execOp;simp only[o8,hc];go_simp) (next _ _ trivial (by simpa only[qM,Nat.reduceEqDiff,if_false,if_true,reduceIte]using hS) rfl)
  ·have g68:ik vp cq Aq 0 (vs 0) W:=hG 0 (qu 0 (by kernel_rfl));have s68:ρ (.tmp 68)=.int .i64 0:=(hρ.at_ 68 0 rfl).trans g68;exact q9 (w':=W) (by unfold execOp;simp only[s68,hc];go_simp) (next _ _ trivial (by simpa only[qM,Nat.reduceEqDiff,if_false,if_true,reduceIte]using hS) rfl)
  ·have g69:ik vp cq Aq 1 (vs 1) W:=hG 1 (qu 1 (by kernel_rfl));have s69:ρ (.tmp 69)=.bool false:=(hρ.at_ 69 1 rfl).trans g69;exact q9 (w':=W) (by unfold execOp;simp only[s69,hc];go_simp) (next _ _ trivial (by simpa only[qM,Nat.reduceEqDiff,if_false,if_true,reduceIte]using hS) rfl)
  ·have o9:ρ (.tmp 9)=pt g9:=hρ.out 9 rfl;exact q9 (w':=W) (by unfold execOp;simp only[o9,hc];go_simp) (next _ _ trivial (by simpa only[qM,Nat.reduceEqDiff,if_false,if_true,reduceIte]using hS) rfl)
  ·refine qj (f:=40) (args:=#[.int .u64 0,.int .u64 0]) (w':=W) (by unfold execOp;simp only[hfn,];go_simp) (((xp 0 0 W)).mono ?_);rintro x W' ⟨rfl,hb'⟩;exact⟨_,rfl,next _ _ trivial (by have h0:=fW H hS hb';simpa only[qM,Nat.reduceEqDiff,if_false,if_true,reduceIte]using h0) rfl⟩
  ·have g71:ik vp cq Aq 3 (vs 3) W:=hG 3 (qu 3 (by kernel_rfl));have s71:ρ (.tmp 71)=.agg #[.int .u64 0,.int .u64 0]:=(hρ.at_ 71 3 rfl).trans g71;have g72:ik vp cq Aq 4 (vs 4) W:=hG 4 (qu 4 (by kernel_rfl));have s72:ρ (.tmp 72)=.agg #[.int .u64 0,.int .u64 0]:=(hρ.at_ 72 4 rfl).trans g72;exact q9 (w':=W) (by unfold execOp;simp only[s71,s72,hc];go_simp) (next _ _ trivial (by simpa only[qM,Nat.reduceEqDiff,if_false,if_true,reduceIte]using hS) rfl)
  ·have g70:ik vp cq Aq 2 (vs 2) W:=hG 2 (qu 2 (by kernel_rfl));have s70:ρ (.tmp 70)=.bool false:=(hρ.at_ 70 2 rfl).trans g70;have g73:ik vp cq Aq 5 (vs 5) W:=hG 5 (qu 5 (by kernel_rfl));have s73:ρ (.tmp 73)=.bool false:=(hρ.at_ 73 5 rfl).trans g73;exact q9 (w':=W) (by unfold execOp;simp only[s70,s73,hc];go_simp) (next _ _ trivial (by simpa only[qM,Nat.reduceEqDiff,if_false,if_true,reduceIte]using hS) rfl)
  ·have g74:ik vp cq Aq 6 (vs 6) W:=hG 6 (qu 6 (by kernel_rfl));have s74:ρ (.tmp 74)=.bool false:=(hρ.at_ 74 6 rfl).trans g74;exact q9 (w':=W) (by unfold execOp;simp only[s74,hc];go_simp) (next _ _ trivial (by simpa only[qM,Nat.reduceEqDiff,if_false,if_true,reduceIte]using hS) rfl)
  ·have o10:ρ (.tmp 10)=pt g10:=hρ.out 10 rfl;exact q9 (w':=W) (by unfold execOp;simp only[o10,hc];go_simp) (next _ _ trivial (by simpa only[qM,Nat.reduceEqDiff,if_false,if_true,reduceIte]using hS) rfl)
  ·refine qj (f:=40) (args:=#[.int .u64 1,.int .u64 1]) (w':=W) (by unfold execOp;simp only[hfn,];go_simp) (((xp 1 1 W)).mono ?_);rintro x W' ⟨rfl,hb'⟩;exact⟨_,rfl,next _ _ trivial (by have h0:=fW H hS hb';simpa only[qM,Nat.reduceEqDiff,if_false,if_true,reduceIte]using h0) rfl⟩
  ·have g76:ik vp cq Aq 8 (vs 8) W:=hG 8 (qu 8 (by kernel_rfl));have s76:ρ (.tmp 76)=.agg #[.int .u64 1,.int .u64 1]:=(hρ.at_ 76 8 rfl).trans g76;have g77:ik vp cq Aq 9 (vs 9) W:=hG 9 (qu 9 (by kernel_rfl));have s77:ρ (.tmp 77)=.agg #[.int .u64 1,.int .u64 1]:=(hρ.at_ 77 9 rfl).trans g77;exact q9 (w':=W) (by unfold execOp;simp only[s76,s77,hc];go_simp) (next _ _ trivial (by simpa only[qM,Nat.reduceEqDiff,if_false,if_true,reduceIte]using hS) rfl)
  ·have g75:ik vp cq Aq 7 (vs 7) W:=hG 7 (qu 7 (by kernel_rfl));have s75:ρ (.tmp 75)=.bool false:=(hρ.at_ 75 7 rfl).trans g75;have g78:ik vp cq Aq 10 (vs 10) W:=hG 10 (qu 10 (by kernel_rfl));have s78:ρ (.tmp 78)=.bool false:=(hρ.at_ 78 10 rfl).trans g78;exact q9 (w':=W) (by unfold execOp;simp only[s75,s78,hc];go_simp) (next _ _ trivial (by simpa only[qM,Nat.reduceEqDiff,if_false,if_true,reduceIte]using hS) rfl)
  ·have g79:ik vp cq Aq 11 (vs 11) W:=hG 11 (qu 11 (by kernel_rfl));have s79:ρ (.tmp 79)=.bool false:=(hρ.at_ 79 11 rfl).trans g79;exact q9 (w':=W) (by unfold execOp;simp only[s79,hc];go_simp) (next _ _ trivial (by simpa only[qM,Nat.reduceEqDiff,if_false,if_true,reduceIte]using hS) rfl)
  ·have o11:ρ (.tmp 11)=.int .i64 2:=hρ.out 11 rfl;exact q9 (w':=W) (by unfold execOp;simp only[o11,hc];go_simp) (next _ _ trivial (by simpa only[qM,Nat.reduceEqDiff,if_false,if_true,reduceIte]using hS) rfl)
  ·have g81:ik vp cq Aq 13 (vs 13) W:=hG 13 (qu 13 (by kernel_rfl));have s81:ρ (.tmp 81)=.int .i64 2:=(hρ.at_ 81 13 rfl).trans g81;exact q9 (w':=W) (by unfold execOp;simp only[s81,hc];go_simp) (next _ _ trivial (by simpa only[qM,Nat.reduceEqDiff,if_false,if_true,reduceIte]using hS) rfl)
  ·have g80:ik vp cq Aq 12 (vs 12) W:=hG 12 (qu 12 (by kernel_rfl));have s80:ρ (.tmp 80)=.bool false:=(hρ.at_ 80 12 rfl).trans g80;have g82:ik vp cq Aq 14 (vs 14) W:=hG 14 (qu 14 (by kernel_rfl));have s82:ρ (.tmp 82)=.bool false:=(hρ.at_ 82 14 rfl).trans g82;exact q9 (w':=W) (by unfold execOp;simp only[s80,s82,hc];go_simp) (next _ _ trivial (by simpa only[qM,Nat.reduceEqDiff,if_false,if_true,reduceIte]using hS) rfl)
  ·have g83:ik vp cq Aq 15 (vs 15) W:=hG 15 (qu 15 (by kernel_rfl));have s83:ρ (.tmp 83)=.bool false:=(hρ.at_ 83 15 rfl).trans g83;exact q9 (w':=W) (by unfold execOp;simp only[s83,hc];go_simp) (next _ _ trivial (by simpa only[qM,Nat.reduceEqDiff,if_false,if_true,reduceIte]using hS) rfl)
  ·have o2:ρ (.tmp 2)=pt vp:=hρ.out 2 rfl;exact q9 (w':=W) (by unfold execOp;simp only[o2,hc];go_simp) (next _ _ trivial (by simpa only[qM,Nat.reduceEqDiff,if_false,if_true,reduceIte]using hS) rfl)
  ·have o6:ρ (.tmp 6)=pt g6:=hρ.out 6 rfl;exact q9 (w':=W) (by unfold execOp;simp only[o6,hc];go_simp) (next _ _ trivial (by simpa only[qM,Nat.reduceEqDiff,if_false,if_true,reduceIte]using hS) rfl)
  ·have g85:ik vp cq Aq 17 (vs 17) W:=hG 17 (qu 17 (by kernel_rfl));have s85:ρ (.tmp 85)=pt vp:=(hρ.at_ 85 17 rfl).trans g85;have g86:ik vp cq Aq 18 (vs 18) W:=hG 18 (qu 18 (by kernel_rfl));have s86:ρ (.tmp 86)=.agg #[.int .u64 0,.int .u64 0,.int .u64 1,.int .u64 1,.int .i64 2,.int .i64 3,.slice Aq 1 cq]:=(hρ.at_ 86 18 rfl).trans g86;rw[gZ]at hS;refine qj (f:=25) (args:=#[pt vp,.agg #[.int .u64 0,.int .u64 0,.int .u64 1,.int .u64 1,.int .i64 2,.int .i64 3,.slice Aq 1 cq]]) (w':=W) (by unfold execOp;simp only[hfn,s85,s86];go_simp) ((q2r H hS HPQ.out HX.out.2.2.2 q7g q7j).mono ?_);rintro x W' ⟨rfl,h1⟩;exact⟨_,rfl,next _ _ trivial (by simpa only[qM,if_true,reduceIte]using h1) rfl⟩
  ·have g87:ik vp cq Aq 19 (vs 19) W:=hG 19 (qu 19 (by kernel_rfl));have s87:ρ (.tmp 87)=.int .i64 0:=(hρ.at_ 87 19 rfl).trans g87;exact q9 (w':=W) (by unfold execOp;simp only[s87,hc];go_simp) (next _ _ trivial (by simpa only[qM,Nat.reduceEqDiff,if_false,if_true,reduceIte]using hS) rfl)
  ·have g84:ik vp cq Aq 16 (vs 16) W:=hG 16 (qu 16 (by kernel_rfl));have s84:ρ (.tmp 84)=.bool false:=(hρ.at_ 84 16 rfl).trans g84;have g88:ik vp cq Aq 20 (vs 20) W:=hG 20 (qu 20 (by kernel_rfl));have s88:ρ (.tmp 88)=.bool false:=(hρ.at_ 88 20 rfl).trans g88;exact q9 (w':=W) (by unfold execOp;simp only[s84,s88,hc];go_simp) (next _ _ trivial (by simpa only[qM,Nat.reduceEqDiff,if_false,if_true,reduceIte]using hS) rfl)
 ·intro i o L vs W j want ho gZ qu hg hv hI;obtain⟨hS,rQ⟩:=hI;have hG:∀j,L j=true→ik vp cq Aq j (vs j) W:=fun j hj=>by
   by_cases dI:j<22
   ·exact rQ j hj dI
   ·match j,dI with
    | j+22,_=>exact trivial
  have qfg:i<22:=(Array.getElem?_eq_some_iff.1 ho).1;rcases i with _|_|_|_|_|_|_|_|_|_|_|_|_|_|_|_|_|_|_|_|_|_|i;all_goals (first|omega|skip)
  all_goals simp only[QA,QB,QC,Option.some.injEq]at ho
  all_goals subst ho
  all_goals simp only[reduceCtorEq,Option.some.injEq,Prod.mk.injEq]at hg
  ·obtain⟨rfl,rfl⟩:=hg;exact(hv (hG 2 (qu 2 (by kernel_rfl)))).elim
  ·obtain⟨rfl,rfl⟩:=hg;exact(hv (hG 2 (qu 2 (by kernel_rfl)))).elim
  ·obtain⟨rfl,rfl⟩:=hg;exact(hv (hG 2 (qu 2 (by kernel_rfl)))).elim
  ·obtain⟨rfl,rfl⟩:=hg;exact(hv (hG 7 (qu 7 (by kernel_rfl)))).elim
  ·obtain⟨rfl,rfl⟩:=hg;exact(hv (hG 7 (qu 7 (by kernel_rfl)))).elim
  ·obtain⟨rfl,rfl⟩:=hg;exact(hv (hG 7 (qu 7 (by kernel_rfl)))).elim
  ·obtain⟨rfl,rfl⟩:=hg;exact(hv (hG 12 (qu 12 (by kernel_rfl)))).elim
  ·obtain⟨rfl,rfl⟩:=hg;exact(hv (hG 12 (qu 12 (by kernel_rfl)))).elim
  ·obtain⟨rfl,rfl⟩:=hg;exact(hv (hG 16 (qu 16 (by kernel_rfl)))).elim
  ·obtain⟨rfl,rfl⟩:=hg;exact(hv (hG 16 (qu 16 (by kernel_rfl)))).elim
  ·obtain⟨rfl,rfl⟩:=hg;exact(hv (hG 16 (qu 16 (by kernel_rfl)))).elim
  ·obtain⟨rfl,rfl⟩:=hg;exact(hv (hG 16 (qu 16 (by kernel_rfl)))).elim
 intro vs W17 hI;obtain⟨hS,hG⟩:=hI;have g21:vs 21=.bool false:=hG 21 (by kernel_rfl) (by decide);have HS:=QH (hS:W3S IV V0 w.heap.size X vp pd (0,0) 0 f1 (1,1) 1 mA true W17);clear hS hG;simp only[qR,qG,if_true];rw[g21];generalize vs 0=y0;generalize vs 1=y1;generalize vs 2=y2;generalize vs 3=y3;generalize vs 4=y4;generalize vs 5=y5;generalize vs 6=y6;generalize vs 7=y7;generalize vs 8=y8;generalize vs 9=y9;generalize vs 10=y10;generalize vs 11=y11;generalize vs 12=y12;generalize vs 13=y13;generalize vs 14=y14;generalize vs 15=y15;generalize vs 16=y16;generalize vs 17=y17;generalize vs 18=y18;generalize vs 19=y19;generalize vs 20=y20;clear g21;simp only[Act.put,List.setIfInBounds_toArray,List.set_cons_succ,List.set_cons_zero];have HW:Hid (Wk IV W17 w.heap.size X vp pd (1,1) 1 mA):=HS.out.2.2
 replace B9:=QH (B9.out.of_block (HS.out.1.block B9.out.lt (.inl HX.out.1)))
 replace B10:=QH (B10.out.of_block (HS.out.1.block B10.out.lt (.inl HX.out.2.1)))
 replace B6:=QH (B6.out.of_block (HS.out.1.block B6.out.lt (.inl HX.out.2.2.1)))
 replace HPQ:=QH (gG HS.out.1 HPQ.out HX.out.2.2.2)
 have bK:=QH (qtc.out.trans (HS.out.1.below qtc.out.size));clear HS HS0 qtc;have HAS:=QH (qi0 H HW.out (by decide));rw[show rL 1 (1,1) mA.target mA.next=.tuple #[.int .i64 1,.agg #[.int .u64 1,.int .u64 1],.agg #[.int .u64 0,.int .u64 0],.int .i64 0]from rfl]at HAS;go_wp2_with fail;refine HAS.out.mono ?_;rintro e W18 ⟨rfl,hb⟩;dsimp only
 replace HW:=QH (Wk.below H HW.out hb)
 replace B6:=QH (B6.out.below hb)
 replace HPQ:=QH (HPQ.out.below hb)
 have h9:=B9.out.below hb;have h10:=B10.out.below hb
 replace bK:=QH (qa bK.out hb)
 clear HAS hb;have hb9:=(qz.refl (fun j=>j=g9∨j=g10) W18).setCell ⟨g9,0,none⟩ (.int .u64 1) (.inl (.inl rfl)) |>.setCell ⟨g9,1,none⟩ (.int .u64 1) (.inl (.inl rfl)) |>.setCell ⟨g10,0,none⟩ (.int .u64 0) (.inl (.inr rfl)) |>.setCell ⟨g10,1,none⟩ (.int .u64 0) (.inl (.inr rfl))
 have k9:qf ((((W18.setCell ⟨g9,0,none⟩ (.int .u64 1)).setCell ⟨g9,1,none⟩ (.int .u64 1)).setCell ⟨g10,0,none⟩ (.int .u64 0)).setCell ⟨g10,1,none⟩ (.int .u64 0)) g9 38 #[.int .u64 1,.int .u64 1]:=by
  have:=(h9.qg 0 (.int .u64 1)).qg 1 (.int .u64 1);refine qf.of_block (w:=(W18.setCell ⟨g9,0,none⟩ (.int .u64 1)).setCell ⟨g9,1,none⟩ (.int .u64 1)) (by simpa using this) ?_;rw[qw _ _ _ _ _ HG9.out.2.2.1,qw _ _ _ _ _ HG9.out.2.2.1]
 have ee:qf ((((W18.setCell ⟨g9,0,none⟩ (.int .u64 1)).setCell ⟨g9,1,none⟩ (.int .u64 1)).setCell ⟨g10,0,none⟩ (.int .u64 0)).setCell ⟨g10,1,none⟩ (.int .u64 0)) g10 38 #[.int .u64 0,.int .u64 0]:=by
  have h:=h10.of_block (w':=(W18.setCell ⟨g9,0,none⟩ (.int .u64 1)).setCell ⟨g9,1,none⟩ (.int .u64 1)) (by rw[qw _ _ _ _ _ (Ne.symm HG9.out.2.2.1),qw _ _ _ _ _ (Ne.symm HG9.out.2.2.1)]);have:=(h.qg 0 (.int .u64 0)).qg 1 (.int .u64 0);simpa using this
 have y0:=h9.cell 0;have y1:=h9.cell 1;have yf0:=h9.frozen 0;have yf1:=h9.frozen 1;have yl:=h9.lt;have z0:=h10.cell 0;have z1:=h10.cell 1;have zf0:=h10.frozen 0;have zf1:=h10.frozen 1;have zl:=h10.lt;have hne:¬ g9=g10:=HG9.out.2.2.1;have q7q:¬ g10=g9:=fun e=>HG9.out.2.2.1 e.symm;simp only[QA,QB,QC]at y0 y1 z0 z1;obtain⟨V1,hV1⟩:=QE ((((W18.setCell ⟨g9,0,none⟩ (.int .u64 1)).setCell ⟨g9,1,none⟩ (.int .u64 1)).setCell ⟨g10,0,none⟩ (.int .u64 0)).setCell ⟨g10,1,none⟩ (.int .u64 0));rw[hV1]at hb9 k9 ee;have HBT:=QH hb9
 replace B9:=QH k9
 replace B10:=QH ee
 have HV1:=QH hV1;clear hb9 h9 h10 k9 ee hV1
 replace HW:=QH (Wk.turn H (Y:=X) HW.out HBT.out (fun j hj=>by rcases hj with rfl|rfl;exact .inl HX.out.1;exact .inl HX.out.2.1) (fun j hj=>.inl hj))
 replace B6:=QH (B6.out.of_block (HBT.out.block g6 B6.out.lt (fun e=>by have:=HG9.out;omega)))
 replace HPQ:=QH (zW HPQ.out HBT.out.size (fun b o e hl=>HBT.out.block b hl (fun h=>by have:=HQN.out b o e;omega)))
 have qxq:Hid (Below w.heap.size w V1):=bK.out.trans (HBT.out.below (fun j hj=>by have:=rj.out;rcases hj with rfl|rfl <;> omega) bK.out.size);have bY:Hid (W3S IV V1 w.heap.size X vp pd (1,1) 1 mA (1,1) 1 mA false V1.drew):=⟨Ke.of_below (Below.refl _ _).drew,qxq.out.size,Wk.below H HW.out (Below.refl _ _).drew⟩;clear HW bK HBT;go_upto_region 13 with fail;try rw[HV1.out]
 clear HV1 y0 y1 yf0 yf1 yl z0 z1 zf0 zf1 zl hne q7q;refine jk (by kernel_rfl) [97,98,99,100,101,102,103,104,105,106,107,108,109,110,111,112,113,114,115,116,117,118,0] (by kernel_rfl) (fun L vs W=>W3S IV V1 w.heap.size X vp pd (1,1) 1 mA (1,1) 1 mA (L 19) W∧∀i,L i=true→i<23→fX vp cq Aq i (vs i) W) ⟨bY.out,fun i hi=>by cases hi⟩ ?_ ?_ ?_
 ·intro i o L vs ρ W ho gZ qu hρ hgd hI;obtain⟨hS,rQ⟩:=hI;have hG:∀j,L j=true→fX vp cq Aq j (vs j) W:=fun j hj=>by
   by_cases dI:j<23
   ·exact rQ j hj dI
   ·match j,dI with
    | j+23,_=>exact trivial
  have qfg:i<23:=(Array.getElem?_eq_some_iff.1 ho).1;have hc:=hρ.const;have hfn:=hρ.fn;have next:∀v W',(fun(_ _:World)=>True) W W'→W3S IV V1 w.heap.size X vp pd (1,1) 1 mA (1,1) 1 mA (qM L i 19) W'→fX vp cq Aq i v W'→W3S IV V1 w.heap.size X vp pd (1,1) 1 mA (1,1) 1 mA (qM L i 19) W'∧∀j,qM L i j=true→j<23→fX vp cq Aq j (zB vs i v j) W':=fun v W' h1 h0 h2=>by
   refine⟨h0,fun j hj dI=>?_⟩;by_cases gX:j=i
   ·subst gX;simpa[zB]using h2
   ·simp only[qM,if_neg gX]at hj;simpa[zB,gX]using qpL vp cq Aq j _ W W' dI (rQ j hj dI) h1
  have k9:=B9.out.of_block (hS.1.block B9.out.lt (.inl HX.out.1));have ee:=B10.out.of_block (hS.1.block B10.out.lt (.inl HX.out.2.1));have k6:=B6.out.of_block (hS.1.block B6.out.lt (.inl HX.out.2.2.1));have y0:=k9.cell 0;have y1:=k9.cell 1;have yl:=k9.lt;have z0:=ee.cell 0;have z1:=ee.cell 1;have zl:=ee.lt;have x0:=k6.cell 0;have x1:=k6.cell 1;have x2:=k6.cell 2;have x3:=k6.cell 3;have x4:=k6.cell 4;have x5:=k6.cell 5;have x6:=k6.cell 6;have xl:=k6.lt;simp only[QA,QB,QC]at y0 y1 z0 z1 x0 x1 x2 x3 x4 x5 x6;rcases i with _|_|_|_|_|_|_|_|_|_|_|_|_|_|_|_|_|_|_|_|_|_|_|i;all_goals (first|omega|skip)
  all_goals simp only[QA,QB,QC,Option.some.injEq]at ho
  all_goals subst ho
  ·have o8:ρ (.tmp 8)=.int .i64 1:=hρ.out 8 rfl;exact q9 (w':=W) (by unfold execOp;simp only[o8,hc];go_simp) (next _ _ trivial (by simpa only[qM,Nat.reduceEqDiff,if_false,if_true,reduceIte]using hS) rfl)
  ·have g97:fX vp cq Aq 0 (vs 0) W:=hG 0 (qu 0 (by kernel_rfl));have s97:ρ (.tmp 97)=.int .i64 1:=(hρ.at_ 97 0 rfl).trans g97;exact q9 (w':=W) (by unfold execOp;simp only[s97,hc];go_simp) (next _ _ trivial (by simpa only[qM,Nat.reduceEqDiff,if_false,if_true,reduceIte]using hS) rfl)
  ·have g98:fX vp cq Aq 1 (vs 1) W:=hG 1 (qu 1 (by kernel_rfl));have s98:ρ (.tmp 98)=.bool true:=(hρ.at_ 98 1 rfl).trans g98;exact q9 (w':=W) (by unfold execOp;simp only[s98,hc];go_simp) (next _ _ trivial (by simpa only[qM,Nat.reduceEqDiff,if_false,if_true,reduceIte]using hS) rfl)
  ·have o9:ρ (.tmp 9)=pt g9:=hρ.out 9 rfl;exact q9 (w':=W) (by unfold execOp;simp only[o9,hc];go_simp) (next _ _ trivial (by simpa only[qM,Nat.reduceEqDiff,if_false,if_true,reduceIte]using hS) rfl)
  ·refine qj (f:=40) (args:=#[.int .u64 1,.int .u64 1]) (w':=W) (by unfold execOp;simp only[hfn,];go_simp) (((xp 1 1 W)).mono ?_);rintro x W' ⟨rfl,hb'⟩;exact⟨_,rfl,next _ _ trivial (by have h0:=fW H hS hb';simpa only[qM,Nat.reduceEqDiff,if_false,if_true,reduceIte]using h0) rfl⟩
  ·have q7r:fX vp cq Aq 3 (vs 3) W:=hG 3 (qu 3 (by kernel_rfl));have q7s:ρ (.tmp 100)=.agg #[.int .u64 1,.int .u64 1]:=(hρ.at_ 100 3 rfl).trans q7r;have q7t:fX vp cq Aq 4 (vs 4) W:=hG 4 (qu 4 (by kernel_rfl));have q7u:ρ (.tmp 101)=.agg #[.int .u64 1,.int .u64 1]:=(hρ.at_ 101 4 rfl).trans q7t;exact q9 (w':=W) (by unfold execOp;simp only[q7s,q7u,hc];go_simp) (next _ _ trivial (by simpa only[qM,Nat.reduceEqDiff,if_false,if_true,reduceIte]using hS) rfl)
  ·have g99:fX vp cq Aq 2 (vs 2) W:=hG 2 (qu 2 (by kernel_rfl));have s99:ρ (.tmp 99)=.bool true:=(hρ.at_ 99 2 rfl).trans g99;have q7v:fX vp cq Aq 5 (vs 5) W:=hG 5 (qu 5 (by kernel_rfl));have q7w:ρ (.tmp 102)=.bool true:=(hρ.at_ 102 5 rfl).trans q7v;exact q9 (w':=W) (by unfold execOp;simp only[s99,q7w,hc];go_simp) (next _ _ trivial (by simpa only[qM,Nat.reduceEqDiff,if_false,if_true,reduceIte]using hS) rfl)
  ·have q7x:fX vp cq Aq 6 (vs 6) W:=hG 6 (qu 6 (by kernel_rfl));have q7y:ρ (.tmp 103)=.bool true:=(hρ.at_ 103 6 rfl).trans q7x;exact q9 (w':=W) (by unfold execOp;simp only[q7y,hc];go_simp) (next _ _ trivial (by simpa only[qM,Nat.reduceEqDiff,if_false,if_true,reduceIte]using hS) rfl)
  ·have o10:ρ (.tmp 10)=pt g10:=hρ.out 10 rfl;exact q9 (w':=W) (by unfold execOp;simp only[o10,hc];go_simp) (next _ _ trivial (by simpa only[qM,Nat.reduceEqDiff,if_false,if_true,reduceIte]using hS) rfl)
  ·refine qj (f:=40) (args:=#[.int .u64 0,.int .u64 0]) (w':=W) (by unfold execOp;simp only[hfn,];go_simp) (((xp 0 0 W)).mono ?_);rintro x W' ⟨rfl,hb'⟩;exact⟨_,rfl,next _ _ trivial (by have h0:=fW H hS hb';simpa only[qM,Nat.reduceEqDiff,if_false,if_true,reduceIte]using h0) rfl⟩
  ·have q7z:fX vp cq Aq 8 (vs 8) W:=hG 8 (qu 8 (by kernel_rfl));have q70:ρ (.tmp 105)=.agg #[.int .u64 0,.int .u64 0]:=(hρ.at_ 105 8 rfl).trans q7z;have q71:fX vp cq Aq 9 (vs 9) W:=hG 9 (qu 9 (by kernel_rfl));have q72:ρ (.tmp 106)=.agg #[.int .u64 0,.int .u64 0]:=(hρ.at_ 106 9 rfl).trans q71;exact q9 (w':=W) (by unfold execOp;simp only[q70,q72,hc];go_simp) (next _ _ trivial (by simpa only[qM,Nat.reduceEqDiff,if_false,if_true,reduceIte]using hS) rfl)
  ·have q73:fX vp cq Aq 7 (vs 7) W:=hG 7 (qu 7 (by kernel_rfl));have q74:ρ (.tmp 104)=.bool true:=(hρ.at_ 104 7 rfl).trans q73;have q75:fX vp cq Aq 10 (vs 10) W:=hG 10 (qu 10 (by kernel_rfl));have q76:ρ (.tmp 107)=.bool true:=(hρ.at_ 107 10 rfl).trans q75;exact q9 (w':=W) (by unfold execOp;simp only[q74,q76,hc];go_simp) (next _ _ trivial (by simpa only[qM,Nat.reduceEqDiff,if_false,if_true,reduceIte]using hS) rfl)
  ·have q77:fX vp cq Aq 11 (vs 11) W:=hG 11 (qu 11 (by kernel_rfl));have q78:ρ (.tmp 108)=.bool true:=(hρ.at_ 108 11 rfl).trans q77;exact q9 (w':=W) (by unfold execOp;simp only[q78,hc];go_simp) (next _ _ trivial (by simpa only[qM,Nat.reduceEqDiff,if_false,if_true,reduceIte]using hS) rfl)
  ·have o11:ρ (.tmp 11)=.int .i64 0:=hρ.out 11 rfl;exact q9 (w':=W) (by unfold execOp;simp only[o11,hc];go_simp) (next _ _ trivial (by simpa only[qM,Nat.reduceEqDiff,if_false,if_true,reduceIte]using hS) rfl)
  ·have q79:fX vp cq Aq 13 (vs 13) W:=hG 13 (qu 13 (by kernel_rfl));have q7A:ρ (.tmp 110)=.int .i64 0:=(hρ.at_ 110 13 rfl).trans q79;exact q9 (w':=W) (by unfold execOp;simp only[q7A,hc];go_simp) (next _ _ trivial (by simpa only[qM,Nat.reduceEqDiff,if_false,if_true,reduceIte]using hS) rfl)
  ·have q7B:fX vp cq Aq 12 (vs 12) W:=hG 12 (qu 12 (by kernel_rfl));have q7C:ρ (.tmp 109)=.bool true:=(hρ.at_ 109 12 rfl).trans q7B;have q7D:fX vp cq Aq 14 (vs 14) W:=hG 14 (qu 14 (by kernel_rfl));have q7E:ρ (.tmp 111)=.bool true:=(hρ.at_ 111 14 rfl).trans q7D;exact q9 (w':=W) (by unfold execOp;simp only[q7C,q7E,hc];go_simp) (next _ _ trivial (by simpa only[qM,Nat.reduceEqDiff,if_false,if_true,reduceIte]using hS) rfl)
  ·have q7F:fX vp cq Aq 15 (vs 15) W:=hG 15 (qu 15 (by kernel_rfl));have q7G:ρ (.tmp 112)=.bool true:=(hρ.at_ 112 15 rfl).trans q7F;exact q9 (w':=W) (by unfold execOp;simp only[q7G,hc];go_simp) (next _ _ trivial (by simpa only[qM,Nat.reduceEqDiff,if_false,if_true,reduceIte]using hS) rfl)
  ·have o2:ρ (.tmp 2)=pt vp:=hρ.out 2 rfl;exact q9 (w':=W) (by unfold execOp;simp only[o2,hc];go_simp) (next _ _ trivial (by simpa only[qM,Nat.reduceEqDiff,if_false,if_true,reduceIte]using hS) rfl)
  ·have o6:ρ (.tmp 6)=pt g6:=hρ.out 6 rfl;exact q9 (w':=W) (by unfold execOp;simp only[o6,hc];go_simp) (next _ _ trivial (by simpa only[qM,Nat.reduceEqDiff,if_false,if_true,reduceIte]using hS) rfl)
  ·have q7H:fX vp cq Aq 17 (vs 17) W:=hG 17 (qu 17 (by kernel_rfl));have q7I:ρ (.tmp 114)=pt vp:=(hρ.at_ 114 17 rfl).trans q7H;have q7J:fX vp cq Aq 18 (vs 18) W:=hG 18 (qu 18 (by kernel_rfl));have q7K:ρ (.tmp 115)=.agg #[.int .u64 0,.int .u64 0,.int .u64 1,.int .u64 1,.int .i64 2,.int .i64 3,.slice Aq 1 cq]:=(hρ.at_ 115 18 rfl).trans q7J;rw[gZ]at hS;refine qj (f:=25) (args:=#[pt vp,.agg #[.int .u64 0,.int .u64 0,.int .u64 1,.int .u64 1,.int .i64 2,.int .i64 3,.slice Aq 1 cq]]) (w':=W) (by unfold execOp;simp only[hfn,q7I,q7K];go_simp) ((q2s H hS HPQ.out HX.out.2.2.2 q7h (by decide)).mono ?_);rintro x W' ⟨rfl,h1⟩;exact⟨_,rfl,next _ _ trivial (by simpa only[qM,if_true,reduceIte]using h1) rfl⟩
  ·have q7L:fX vp cq Aq 19 (vs 19) W:=hG 19 (qu 19 (by kernel_rfl));have q7M:ρ (.tmp 116)=.int .i64 9:=(hρ.at_ 116 19 rfl).trans q7L;exact q9 (w':=W) (by unfold execOp;simp only[q7M,hc];go_simp) (next _ _ trivial (by simpa only[qM,Nat.reduceEqDiff,if_false,if_true,reduceIte]using hS) rfl)
  ·have q7N:fX vp cq Aq 16 (vs 16) W:=hG 16 (qu 16 (by kernel_rfl));have q7O:ρ (.tmp 113)=.bool true:=(hρ.at_ 113 16 rfl).trans q7N;have q7P:fX vp cq Aq 20 (vs 20) W:=hG 20 (qu 20 (by kernel_rfl));have q7Q:ρ (.tmp 117)=.bool true:=(hρ.at_ 117 20 rfl).trans q7P;exact q9 (w':=W) (by unfold execOp;simp only[q7O,q7Q,hc];go_simp) (next _ _ trivial (by simpa only[qM,Nat.reduceEqDiff,if_false,if_true,reduceIte]using hS) rfl)
  ·have q7R:fX vp cq Aq 21 (vs 21) W:=hG 21 (qu 21 (by kernel_rfl));have q7S:ρ (.tmp 118)=.bool true:=(hρ.at_ 118 21 rfl).trans q7R;exact q9 (w':=W) (by unfold execOp;simp only[q7S,hc];go_simp) (next _ _ trivial (by simpa only[qM,Nat.reduceEqDiff,if_false,if_true,reduceIte]using hS) rfl)
 ·intro i o L vs W j want ho gZ qu hg hv hI;obtain⟨hS,rQ⟩:=hI;have hG:∀j,L j=true→fX vp cq Aq j (vs j) W:=fun j hj=>by
   by_cases dI:j<23
   ·exact rQ j hj dI
   ·match j,dI with
    | j+23,_=>exact trivial
  have qfg:i<23:=(Array.getElem?_eq_some_iff.1 ho).1;rcases i with _|_|_|_|_|_|_|_|_|_|_|_|_|_|_|_|_|_|_|_|_|_|_|i;all_goals (first|omega|skip)
  all_goals simp only[QA,QB,QC,Option.some.injEq]at ho
  all_goals subst ho
  all_goals simp only[reduceCtorEq,Option.some.injEq,Prod.mk.injEq]at hg
  ·obtain⟨rfl,rfl⟩:=hg;exact(hv (hG 2 (qu 2 (by kernel_rfl)))).elim
  ·obtain⟨rfl,rfl⟩:=hg;exact(hv (hG 2 (qu 2 (by kernel_rfl)))).elim
  ·obtain⟨rfl,rfl⟩:=hg;exact(hv (hG 2 (qu 2 (by kernel_rfl)))).elim
  ·obtain⟨rfl,rfl⟩:=hg;exact(hv (hG 7 (qu 7 (by kernel_rfl)))).elim
  ·obtain⟨rfl,rfl⟩:=hg;exact(hv (hG 7 (qu 7 (by kernel_rfl)))).elim
  ·obtain⟨rfl,rfl⟩:=hg;exact(hv (hG 7 (qu 7 (by kernel_rfl)))).elim
  ·obtain⟨rfl,rfl⟩:=hg;exact(hv (hG 12 (qu 12 (by kernel_rfl)))).elim
  ·obtain⟨rfl,rfl⟩:=hg;exact(hv (hG 12 (qu 12 (by kernel_rfl)))).elim
  ·obtain⟨rfl,rfl⟩:=hg;exact(hv (hG 16 (qu 16 (by kernel_rfl)))).elim
  ·obtain⟨rfl,rfl⟩:=hg;exact(hv (hG 16 (qu 16 (by kernel_rfl)))).elim
  ·obtain⟨rfl,rfl⟩:=hg;exact(hv (hG 16 (qu 16 (by kernel_rfl)))).elim
  ·obtain⟨rfl,rfl⟩:=hg;exact(hv (hG 16 (qu 16 (by kernel_rfl)))).elim
 intro vs WE hI;obtain⟨hS,hG⟩:=hI;have g22:vs 22=.bool true:=hG 22 (by kernel_rfl) (by decide);have bG:Hid (Below w.heap.size w WE):=qxq.out.trans (hS.1.below qxq.out.size);clear hS hG;simp only[qR,qG,if_true];rw[g22];generalize vs 0=y0;generalize vs 1=y1;generalize vs 2=y2;generalize vs 3=y3;generalize vs 4=y4;generalize vs 5=y5;generalize vs 6=y6;generalize vs 7=y7;generalize vs 8=y8;generalize vs 9=y9;generalize vs 10=y10;generalize vs 11=y11;generalize vs 12=y12;generalize vs 13=y13;generalize vs 14=y14;generalize vs 15=y15;generalize vs 16=y16;generalize vs 17=y17;generalize vs 18=y18;generalize vs 19=y19;generalize vs 20=y20;generalize vs 21=y21;clear g22;simp only[Act.put,List.setIfInBounds_toArray,List.set_cons_succ,List.set_cons_zero];go_wp2_with fail;go_ret;exact⟨rfl,bG.out⟩
end Go.Proofs.YtdpbdkacngaemaaGreatDoor.rv
namespace Go.Proofs.YtdpbdkacngaemaaGreatDoor.dk
open _root_.Go.Proofs.Tryz Go Go.RowKit Go.ChangeShapes Go.WideShapes Go.Deep
section
variable {H:Type} {enc:TypeId × Value→H} {w:World} {held:Bool} {a:Option Addr} {l c:Nat} {d:DataW H} {pl:List MemPlace}
end
end Go.Proofs.YtdpbdkacngaemaaGreatDoor.dk
namespace Go.Proofs.YtdpbdkacngaemaaGreatDoor.rv
open _root_.Go.Proofs.Tryz Go Go.RowKit Go.Sort ib mt st
open vt (jw jP VP DD Ke gN)
def q22 (IV:jw)(IC:ch.rX)(lv:Nat→List Bt)(M B pc pd:Nat)(w:World)(vv sv iv:Value)(wr:World):Prop :=
 ∃(i k j v:Nat) (l:List Sx) (X:Nat→Prop),vv=pt v∧iv=.int .i64 (i:Int)∧i+left M k j≤32∧l.length=i∧Fs IV lv M wr B X v pd k j∧Snd IC lv M wr B pc∧Snt lv wr B sv l X k j∧(∀x∈l,lt2 x.k x.j k j)∧Below w.heap.size w wr∧B≤wr.heap.size
theorem bA {IV:jw}{IC:ch.rX}(H:jP IV)(HC:ch.Impl IC)(HCG:q2k IC)(A0:Option Addr)(c0:Nat)(zT:List (List (Int × UInt8)))(Ao:Option Addr)(co:Nat)(os:List UInt8)(w:World)(hl:zT.length≤9223372036854775807)(hT:qxd w A0 zT)(hol:os.length≤9223372036854775807)(hO:dk.q1X w Ao os)(ht:xY w) :
    Calls prog 4 #[.slice A0 zT.length c0,.slice Ao os.length co] w (qa4 w):=by
 obtain⟨i0,hi,hz0,hz1,hz2⟩:=info_parts qxl;have HT:=QH hT;have HO:=QH hO;have HOL:=QH hol;have dr:=QH ht;have HWK:=QH (qll H w ht);have HG:=QH (vt.xG ht);clear hT hO ht hol;go_enter func4,ntmps4;go_wp2_with fail;refine HWK.out.mono ?_;rintro e W1 ⟨rfl,hb⟩;have qO:=QH hb;have HSR:=QH (qhn HC A0 c0 zT W1 hl (fun i h=>by
  obtain⟨b,o,A,c,h1,h2,h3,h4,h5⟩:=HT.out i h;exact⟨b,o,A,c,h1,Nat.lt_of_lt_of_le h2 hb.size,by rw[hb.cell (p:=⟨b,o+i,none⟩) h2];exact h3,h4.below hb,h5⟩))
 clear hb HWK;go_wp2_with fail;refine HSR.out.mono ?_;rintro e W2 ⟨pc,o3,rfl,hsr,hb,-⟩;have qA:=QH (qa qO.out hb);have kT:Hid (Snd IC (lvZ zT) (srN zT) W2 W2.heap.size pc):=⟨o3,hsr,fun j hj=>HC.low hsr j hj⟩;have fG:Hid (srN zT≤8):=by unfold Hid srN;omega
 have bp:=QH (qxc zT);generalize lvZ zT=lv at *;generalize srN zT=M at *;have HMD:=QH (qes H 8 (by decide) (by decide) W2 (vt.yN dr.out qA.out HG.out));clear hsr hb HSR qO;go_wp2_with fail;refine HMD.out.mono ?_;rintro e W3 ⟨v0,pd,t,d,o1,o2,rfl,hv,hj,hr,hf,hb,ho⟩;have hG2:gN<W2.heap.size:=Nat.lt_of_lt_of_le HG.out qA.out.size;have HF3:Hid (Fs IV lv M W3 W2.heap.size (fun _=>False) v0 pd 0 0):=⟨t,d,_,⟨o1,o2,hv,fun j hj=>⟨ho j hj,id⟩,fun j h=>h.elim,hG2,id⟩,hr,hj,hf,qxk bp.out t M⟩;have na:=QH (kT.out.keep HC.toOps hb);have zv:=QH (qa qA.out hb);have HM3:Hid (W2.heap.size≤W3.heap.size):=hb.size;have HLW:Hid (w.heap.size≤W2.heap.size):=qA.out.size;have HLF:Hid (0+left M 0 0≤32):=by have:=fG.out;unfold Hid left;omega
 obtain⟨B,hB⟩:=QE W2.heap.size;rw[hB]at HF3 na HM3 HLW;clear hv hj hr hf hb ho hG2 HMD kT qA hB;go_wp2_with fail;go_loopw [7,8,9] (fun vv sv iv wr=>q22 IV IC lv M B pc pd w vv sv iv wr) (fun _ _ i _=>60-(intOf i).toNat);case atStart=>exact⟨0,0,0,v0,[],fun _=>False,rfl,rfl,HLF.out,rfl,HF3.out,na.out,Snt.nil _ _ _ _ _ _,fun x hx=>absurd hx (by simp),zv.out,HM3.out⟩
 case round =>
  clear HF3 na zv HM3 HLF;obtain⟨i,k,j,v,l,X,rfl,rfl,dP,gI,jY,hsn,hst,hlt,j9,et⟩:=hrel;obtain⟨As,cs,rfl⟩:=xQ hst.own;have gY:=QH jY;have xP:=QH hsn;have HST:=QH hst;have mH:=QH hlt;have ja:=QH j9;have HMB:=QH et;have vI:=QH gI;have HIL:=QH dP;have zeP:(i:Int)<60:=by omega
  clear jY hsn hst hlt j9 et gI dP;by_cases hk:k<M
  ·have kU:=QH (bg H HC.toOps HCG bp.out gY.out xP.out hk fG.out);go_wp2_with fail;refine kU.out.mono ?_;rintro e W1 ⟨A,c,rfl,hp,fR,hb⟩;have jY:=Fs.more H (Y:=fun q=>X q∨∃o,A=some ⟨q,o,none⟩) gY.out hb (fun q hq=>by
    rcases hq with h|⟨o,h⟩
    ·exact .inl h
    ·exact .inr (fR q o h))
   have hsn:=xP.out.keep HC.toOps (hb.mono HMB.out);have hst:=HST.out.kept hb.size (fun q _ hq=>hb.block q hq);have cZ:∀q,X q→q<wr.heap.size:=gY.out.xlt;have hb1:=qa ja.out hb;have hm1:B≤W1.heap.size:=Nat.le_trans HMB.out hb.size;have hs1:=hb.size;obtain⟨x0,x1,x2,x3,x4,x5,n6,lC⟩:∃(x0 x1 x2 x3 x4 x5:Int) (n6:Nat),jg (gQ lv k j) A c = #[.int .u64 x0,.int .u64 x1,.int .u64 x2,.int .u64 x3,.int .i64 x4,.int .i64 x5,.slice A n6 c]:=⟨_,_,_,_,_,_,_,rfl⟩;have HPC:=QH lC;rw[lC];clear lC kU;have cb:=(Below.refl W1.heap.size W1).alloc (Nat.le_refl _) (.cells #[.int .u64 x0,.int .u64 x1,.int .u64 x2,.int .u64 x3,.int .i64 x4,.int .i64 x5,.slice A n6 c] 41);have kb:=qf.new W1 41 #[.int .u64 x0,.int .u64 x1,.int .u64 x2,.int .u64 x3,.int .i64 x4,.int .i64 x5,.slice A n6 c];obtain⟨W2',hWn⟩:=QE (W1.alloc (.cells #[.int .u64 x0,.int .u64 x1,.int .u64 x2,.int .u64 x3,.int .i64 x4,.int .i64 x5,.slice A n6 c] 41));rw[hWn]at cb kb;have hs2:W2'.heap.size=W1.heap.size+1:=by rw[← hWn];simp
   obtain⟨gp,hg⟩:=QE W1.heap.size;rw[hg]at kb hs2;have hgw:wr.heap.size≤gp:=by omega
   have HWn:=QH hWn;have HGn:=QH hg;have q23:=Fs.more H (Y:=fun q=>(X q∨∃o,A=some ⟨q,o,none⟩)∨q=gp) jY cb (fun q hq=>by
    rcases hq with h|h
    ·exact .inl h
    ·exact .inr ⟨by omega,by omega⟩)
   have q24:=QH q23;have qsb:=QH (hsn.keep HC.toOps (cb.mono hm1));have rO:=QH (hst.kept cb.size (fun q _ hq=>cb.block q hq));have sB:=QH (hp.below cb);have qA:=QH (qa hb1 cb);have nc:Hid (B≤W2'.heap.size):=Nat.le_trans hm1 cb.size;have jV:=QH kb;have wI:Hid (∀b o,A=some ⟨b,o,none⟩→wr.heap.size≤b∧b<gp):=fun b o e=>by have:=fR b o e;omega
   have HGB:Hid (B≤gp):=Nat.le_trans HMB.out hgw;have HXL:=QH cZ;have HGW:=QH hgw;clear hWn hg cb kb hs2 jY q23 hsn hst hp fR hb hb1 hm1 hs1 cZ hgw gY xP HST ja HMB;go_upto_region 12 with fail;try rw[HWn.out]
   try rw[HGn.out]
   clear HWn HGn;have r0:=jV.out.cell 0;have r1:=jV.out.cell 1;have r2:=jV.out.cell 2;have r3:=jV.out.cell 3;have r4:=jV.out.cell 4;have r5:=jV.out.cell 5;have r6:=jV.out.cell 6;have rl:=jV.out.lt;simp only[QA,QB,QC]at r0 r1 r2 r3 r4 r5 r6;have hb5:=(Below.refl W2'.heap.size W2').alloc (Nat.le_refl _) (.cells #[.int .u64 x0,.int .u64 x1,.int .u64 x2,.int .u64 x3,.int .i64 x4,.int .i64 x5,.slice A n6 c] 41);have HO5:Hid ((W2'.alloc (.cells #[.int .u64 x0,.int .u64 x1,.int .u64 x2,.int .u64 x3,.int .i64 x4,.int .i64 x5,.slice A n6 c] 41)).ownsRow B 41 7 (.slice As l.length cs) l.length (l.flatMap (sC lv))):=World.ownsRow.alloc rO.out.own _;have q25:Hid (∀(q:Nat) (u:Value),([.int .u64 x0,.int .u64 x1,.int .u64 x2,.int .u64 x3,.int .i64 x4,.int .i64 x5,.slice A n6 c]:List Value)[q]?=some u→(W2'.alloc (.cells #[.int .u64 x0,.int .u64 x1,.int .u64 x2,.int .u64 x3,.int .i64 x4,.int .i64 x5,.slice A n6 c] 41)).cell? ((⟨W2'.heap.size,0,none⟩:Addr).add q)=some u):=by
    intro q u hq;rw[addr_add,Nat.zero_add,(qf.new W2' 41 #[.int .u64 x0,.int .u64 x1,.int .u64 x2,.int .u64 x3,.int .i64 x4,.int .i64 x5,.slice A n6 c]).cell,List.getElem?_toArray];exact hq
   have qkj:Hid (∀u∈([.int .u64 x0,.int .u64 x1,.int .u64 x2,.int .u64 x3,.int .i64 x4,.int .i64 x5,.slice A n6 c]:List Value),u.oneCell'=true):=by
    intro u hu;simp only[List.mem_cons,List.not_mem_nil,or_false]at hu;rcases hu with rfl|rfl|rfl|rfl|rfl|rfl|rfl <;> rfl
   have q7U:l.length≤32:=by have:=HIL.out;have:=vI.out;omega
   have qtd:Hid (B≤(W2'.alloc (.cells #[.int .u64 x0,.int .u64 x1,.int .u64 x2,.int .u64 x3,.int .i64 x4,.int .i64 x5,.slice A n6 c] 41)).heap.size):=Nat.le_trans nc.out hb5.size;have qpQ:=QH hb5;clear hb5;go_wp2_with (at_builtin;refine xm rfl (.tmp 36) (.tmp 38) 69 rfl B 41 i0 (.agg pZ) 7 72 underlying69 hi hz0 hz1 hz2 rfl (by decide) _ l.length _ rfl HO5.out ⟨W2'.heap.size,0,none⟩ 1 1 [.int .u64 x0,.int .u64 x1,.int .u64 x2,.int .u64 x3,.int .i64 x4,.int .i64 x5,.slice A n6 c] rfl rfl q25.out qkj.out ?_ ?_ qtd.out ?_)
   ·unfold maxLen;omega
   ·omega
   ·intro v' W4 hown hgrow hloc;have vg:qz (fun q=>(Value.slice As l.length cs).ownBlock=some q) (W2'.alloc (.cells #[.int .u64 x0,.int .u64 x1,.int .u64 x2,.int .u64 x3,.int .i64 x4,.int .i64 x5,.slice A n6 c] 41)) W4:=⟨hgrow.os,hgrow.tape,hgrow.output,hgrow.size,fun q hq hn=>hgrow.block q hq (fun e=>hn e.symm)⟩;have hs5:(W2'.alloc (.cells #[.int .u64 x0,.int .u64 x1,.int .u64 x2,.int .u64 x3,.int .i64 x4,.int .i64 x5,.slice A n6 c] 41)).heap.size=W2'.heap.size+1:=by simp
    obtain⟨As',cs',rfl⟩:=xQ hown;have qxr:=Fs.turn H (Fs.below H q24.out qpQ.out) vg (fun q hq=>.inl (.inl (.inl (rO.out.blk q hq)))) (Y:=fun q=>((X q∨∃o,A=some ⟨q,o,none⟩)∨q=gp)∨(Value.slice As' (l.length+1) cs').ownBlock=some q) (fun q hq=>by
     rcases hq with h|h
     ·exact .inl h
     ·rcases hloc with e|e
      ·exact .inl (.inl (.inl (rO.out.blk q (e ▸ h))))
      ·have h2:=(hown.lt q h).2;rw[e]at h;injection h with h
       exact .inr ⟨by omega,h2⟩)
    have hne:∀q,((X q∨∃o,A=some ⟨q,o,none⟩)∨q=gp)→(Value.slice As l.length cs).ownBlock≠some q→(Value.slice As' (l.length+1) cs').ownBlock≠some q:=fun q hq hn h=>by
     rcases hloc with e|e
     ·exact hn (e ▸ h)
     ·rw[e]at h;injection h with h
      rcases hq with(hq|⟨o,hq⟩)|hq
      ·have h1:=HXL.out q hq;have h2:=HGW.out;have h3:=jV.out.lt;omega
      ·have h1:=wI.out q o hq;have h3:=jV.out.lt;omega
      ·have h3:=jV.out.lt;omega
    have qe0:∀q,(Value.slice As l.length cs).ownBlock=some q→q<wr.heap.size:=fun q hq=>HXL.out q (rO.out.blk q hq);have hblk:∀q,q<W2'.heap.size→(Value.slice As l.length cs).ownBlock≠some q→W4.heap[q]?=W2'.heap[q]? :=fun q hq hn=>(vg.block q (by omega) hn).trans (qpQ.out.block q hq);have qxs:Snt lv W4 B (.slice As' (l.length+1) cs') (l++[⟨k,j,A,c⟩]) (fun q=>((X q∨∃o,A=some ⟨q,o,none⟩)∨q=gp)∨(Value.slice As' (l.length+1) cs').ownBlock=some q) k j:=by
     refine⟨?_,fun q hq=>.inr hq,fun x hx=>?_,fun x hx b o e=>?_,fun x hx=>?_⟩
     ·rw[List.length_append,List.flatMap_append];have e7:List.flatMap (sC lv) [(⟨k,j,A,c⟩:Sx)]=[.int .u64 x0,.int .u64 x1,.int .u64 x2,.int .u64 x3,.int .i64 x4,.int .i64 x5,.slice A n6 c]:=by
       rw[List.flatMap_cons,List.flatMap_nil,List.append_nil];unfold sC;dsimp only;rw[HPC.out]
      rw[e7];exact hown
     ·rcases List.mem_append.1 hx with hx|hx
      ·exact zW (rO.out.pal x hx) (by have:=vg.size;omega) (fun b o e hb=>hblk b hb (rO.out.mU x hx b o e).2)
      ·obtain rfl:=List.mem_singleton.1 hx;exact zW sB.out (by have:=vg.size;omega) (fun b o e hb=>hblk b hb (fun h=>by have h1:=qe0 b h;have h2:=(wI.out b o e).1;omega))
     ·rcases List.mem_append.1 hx with hx|hx
      ·have h:=rO.out.mU x hx b o e;exact⟨.inl (.inl (.inl h.1)),hne b (.inl (.inl h.1)) h.2⟩
      ·obtain rfl:=List.mem_singleton.1 hx;exact⟨.inl (.inl (.inr ⟨o,e⟩)),hne b (.inl (.inr ⟨o,e⟩)) (fun h=>by have h1:=qe0 b h;have h2:=(wI.out b o e).1;omega)⟩
     ·rcases List.mem_append.1 hx with hx|hx
      ·exact rO.out.old x hx
      ·obtain rfl:=List.mem_singleton.1 hx;exact .inr ⟨rfl,Nat.le_refl _⟩
    have ed:=QH (jV.out.of_block (hblk gp jV.out.lt (fun h=>by have h1:=qe0 gp h;have h2:=HGW.out;omega)));have qxt:Below B (W2'.alloc (.cells #[.int .u64 x0,.int .u64 x1,.int .u64 x2,.int .u64 x3,.int .i64 x4,.int .i64 x5,.slice A n6 c] 41)) W4:=vg.below (fun q hq=>(rO.out.own.lt q hq).1) qtd.out;have qe1:=QH ((qsb.out.keep HC.toOps (qpQ.out.mono nc.out)).keep HC.toOps qxt);have zx:=QH ((qA.out.trans (qpQ.out.mono qA.out.size)).trans (qxt.mono HLW.out));have HM4:Hid (B≤W4.heap.size):=Nat.le_trans qtd.out vg.size;have vY:Hid ((l++[(⟨k,j,A,c⟩:Sx)]).length=i+1):=by unfold Hid;rw[List.length_append,vI.out];rfl
    have HGX:Hid ((fun q=>((X q∨∃o,A=some ⟨q,o,none⟩)∨q=gp)∨(Value.slice As' (l.length+1) cs').ownBlock=some q) gp∧(Value.slice As' (l.length+1) cs').ownBlock≠some gp):=⟨.inl (.inr rfl),hne gp (.inr rfl) (fun h=>by have h1:=qe0 gp h;have h2:=HGW.out;omega)⟩;have HNG:Hid (∀x∈l++[(⟨k,j,A,c⟩:Sx)],∀b o,x.A=some ⟨b,o,none⟩→b≠gp):=fun x hx b o e=>by
     rcases List.mem_append.1 hx with hx|hx
     ·have h1:=HXL.out b (rO.out.mU x hx b o e).1;have h2:=HGW.out;omega
     ·obtain rfl:=List.mem_singleton.1 hx;have h1:=(wI.out b o e).2;omega
    have gI:=vI.out;rw[gI]at qxr qxs HGX ⊢;have sW:=QH qxr;have fY:=QH qxs;obtain⟨Y,hY⟩:∃Y:Nat→Prop,Y=fun q=>((X q∨∃o,A=some ⟨q,o,none⟩)∨q=gp)∨(Value.slice As' (i+1) cs').ownBlock=some q:=⟨_,rfl⟩;rw[← hY]at sW fY HGX;obtain⟨l2,hl2⟩:=QE (l++[(⟨k,j,A,c⟩:Sx)]);rw[hl2]at vY fY HNG;clear hown hgrow hloc vg hs5 qxr hne qe0 hblk qxs qxt gI hY hl2 HO5 q25 qkj qtd qpQ q24 qsb rO sB qA nc jV wI HXL HGW HPC vI mH q7U r0 r1 r2 r3 r4 r5 r6 rl;by_cases hio:i<os.length
    ·have q7V:(i:Int)<(os.length:Int):=by omega
     obtain⟨bo,oo,rfl,hlo,hoc⟩:=HO.out i hio;have HOC:Hid (∀W,Below w.heap.size w W→W.cell? ⟨bo,oo+i,none⟩=some (.int .u8 (os[i].toNat:Int))∧bo<W.heap.size):=fun W hb=>⟨by rw[hb.cell (p:=⟨bo,oo+i,none⟩) hlo];exact hoc,Nat.lt_of_lt_of_le hlo hb.size⟩;have hz:=os[i].toNat_lt;obtain⟨z,hzz⟩:=QE (os[i].toNat);rw[hzz]at HOC hz;clear hoc hzz hlo;obtain⟨q0,ql⟩:=HOC.out W4 zx.out;obtain⟨b3,h3⟩:=QE ((z:Int)%3 == 0);obtain⟨b5,h5⟩:=QE ((z:Int)%5 == 0);cases b3
     ·cases b5
      ·
       go_upto_region 21 with fail;clear q0 ql h3 h5;have gY:=QH sW.out;have xP:=QH qe1.out;have HST:=QH fY.out;have sX:=QH ed.out;have bH:=QH zx.out;have l5:=QH HM4.out;have rj:Hid (le2 k j k j):=.inr ⟨rfl,Nat.le_refl _⟩;have HLF:Hid (left M k j≤left M k j):=Nat.le_refl _;have qpR:Hid (¬ k<M→lt2 k j k j∧left M k j+1≤left M k j):=fun h=>absurd hk h;clear sW qe1 fY ed zx HM4;clear hi hz0 hz1 hz2;by_cases zt:k<M
       ·have kU:=QH (bg H HC.toOps HCG bp.out gY.out xP.out zt fG.out);go_wp2_with fail;refine kU.out.mono ?_;rintro e U1 ⟨A1,c1,rfl,hp,fR,hb⟩;obtain⟨y0,y1,y2,y3,y4,y5,m6,lC⟩:∃(x0 x1 x2 x3 x4 x5:Int) (n6:Nat),jg (gQ lv k j) A1 c1 = #[.int .u64 x0,.int .u64 x1,.int .u64 x2,.int .u64 x3,.int .i64 x4,.int .i64 x5,.slice A1 n6 c1]:=⟨_,_,_,_,_,_,_,rfl⟩;rw[lC];have jY:=Fs.more H (Y:=fun q=>Y q∨∃o,A1=some ⟨q,o,none⟩) gY.out hb (fun q hq=>by
         rcases hq with h|⟨o,h⟩
         ·exact .inl h
         ·exact .inr (fR q o h))
        have hsn:=xP.out.keep HC.toOps (hb.mono l5.out);have hst:=HST.out.kept hb.size (fun q _ hq=>hb.block q hq);have hkb:=sX.out.below hb;have j9:=qa bH.out hb;have et:B≤U1.heap.size:=Nat.le_trans l5.out hb.size;have hgy:gp<W4.heap.size:=sX.out.lt;have n4:∀b o,A1=some ⟨b,o,none⟩→b≠gp:=fun b o e=>by have:=(fR b o e).1;omega
        have bW:B≤gp:=HGB.out;have r0:=hkb.cell 0;have r1:=hkb.cell 1;have r2:=hkb.cell 2;have r3:=hkb.cell 3;have r4:=hkb.cell 4;have r5:=hkb.cell 5;have r6:=hkb.cell 6;have f0:=hkb.frozen 0;have f1:=hkb.frozen 1;have f2:=hkb.frozen 2;have f3:=hkb.frozen 3;have f4:=hkb.frozen 4;have f5:=hkb.frozen 5;have f6:=hkb.frozen 6;have rl:=hkb.lt;simp only[QA,QB,QC]at r0 r1 r2 r3 r4 r5 r6;have k2:=((((((hkb.qg 0 (.int .u64 y0)).qg 1 (.int .u64 y1)).qg 2 (.int .u64 y2)).qg 3 (.int .u64 y3)).qg 4 (.int .i64 y4)).qg 5 (.int .i64 y5)).qg 6 (.slice A1 m6 c1);simp only[List.setIfInBounds_toArray,List.set_cons_succ,List.set_cons_zero]at k2;have xJ:qz (fun q=>q=gp) U1 (((((((U1.setCell ⟨gp,0,none⟩ (.int .u64 y0)).setCell ⟨gp,1,none⟩ (.int .u64 y1)).setCell ⟨gp,2,none⟩ (.int .u64 y2)).setCell ⟨gp,3,none⟩ (.int .u64 y3)).setCell ⟨gp,4,none⟩ (.int .i64 y4)).setCell ⟨gp,5,none⟩ (.int .i64 y5)).setCell ⟨gp,6,none⟩ (.slice A1 m6 c1)) :=
         (((((((qz.refl (fun q=>q=gp) U1).setCell ⟨gp,0,none⟩ _ (.inl rfl)).setCell ⟨gp,1,none⟩ _ (.inl rfl)).setCell ⟨gp,2,none⟩ _ (.inl rfl)).setCell ⟨gp,3,none⟩ _ (.inl rfl)).setCell ⟨gp,4,none⟩ _ (.inl rfl)).setCell ⟨gp,5,none⟩ _ (.inl rfl)).setCell ⟨gp,6,none⟩ _ (.inl rfl)
        obtain⟨U2,cX⟩:=QE (((((((U1.setCell ⟨gp,0,none⟩ (.int .u64 y0)).setCell ⟨gp,1,none⟩ (.int .u64 y1)).setCell ⟨gp,2,none⟩ (.int .u64 y2)).setCell ⟨gp,3,none⟩ (.int .u64 y3)).setCell ⟨gp,4,none⟩ (.int .i64 y4)).setCell ⟨gp,5,none⟩ (.int .i64 y5)).setCell ⟨gp,6,none⟩ (.slice A1 m6 c1));rw[cX]at k2 xJ;have ll:=QH (Fs.turn H (Y:=fun q=>Y q∨∃o,A1=some ⟨q,o,none⟩) jY xJ (fun q hq=>.inl (.inl (by rw[hq];exact HGX.out.1))) (fun q hq=>.inl hq));have ky:Below B U1 U2:=xJ.below (fun q hq=>by rw[hq];exact bW) et;have rZ:=QH (hsn.keep HC.toOps ky);have eO:∀x∈l2,∀b o,x.A=some ⟨b,o,none⟩→b≠gp:=fun x hx b o e h=>HNG.out x hx b o e h;have HTU:Hid (Snt lv U2 B (.slice As' (i+1) cs') l2 Y k j):=⟨qC hst.own (fun q hq=>xJ.block q (hst.own.lt q hq).2 (fun e=>HGX.out.2 (by rw[← e];exact hq))),hst.blk,fun x hx=>zW (hst.pal x hx) xJ.size (fun b o e hl=>xJ.block b hl (fun h=>eO x hx b o e h)),hst.mU,hst.old⟩;have cM:=QH (j9.trans (ky.mono HLW.out));have bR:Hid (B≤U2.heap.size):=Nat.le_trans et xJ.size;have bq:Hid (az U2 A1 c1 (gQ lv k j)):=zW hp xJ.size (fun b o e hl=>xJ.block b hl (fun h=>n4 b o e h));have jH:=QH (bf H bp.out ll.out zt fG.out bR.out A1 c1 bq.out (fun b o e=>.inr ⟨o,e⟩));rw[lC]at jH;have uk:=QH k2;have lj:=QH cX;have tL:=QH (bh bp.out gY.out zt);have sA:=QH (lB (lv:=lv) k j);clear lC jY hsn hst hkb j9 et hgy n4 bW k2 xJ cX ky eO hp fR hb kU;go_upto_region 22 with fail;try rw[lj.out]
        clear lj r0 r1 r2 r3 r4 r5 r6 f0 f1 f2 f3 f4 f5 f6 rl;have r0:=uk.out.cell 0;have r1:=uk.out.cell 1;have r2:=uk.out.cell 2;have r3:=uk.out.cell 3;have r4:=uk.out.cell 4;have r5:=uk.out.cell 5;have r6:=uk.out.cell 6;have rl:=uk.out.lt;simp only[QA,QB,QC]at r0 r1 r2 r3 r4 r5 r6;go_wp2_with fail;refine jH.out.mono ?_;rintro e U3 ⟨rfl,jY,kE⟩;have HFV:=QH jY;have zy:=kE.below bR.out;have HSV:=QH (rZ.out.keep HC.toOps zy);have HTV:=QH (HTU.out.kept kE.size (fun q hq hl=>kE.block hl (.inl (.inl hq))));have mQ:=QH (cM.out.trans (zy.mono HLW.out));have HMV:Hid (B≤U3.heap.size):=Nat.le_trans bR.out kE.size;have bZ:=QH (kO H HC.toOps bp.out HFV.out HSV.out fG.out);clear jY kE zy jH ll rZ HTU cM bR bq uk r0 r1 r2 r3 r4 r5 r6 rl;go_wp2_with fail;refine bZ.out.mono ?_;rintro e U4 ⟨rfl,hb⟩;have HF5:=QH (Fs.below H HFV.out hb);have wU:=QH (HSV.out.keep HC.toOps (hb.mono HMV.out));have yo:=QH (HTV.out.kept hb.size (fun q _ hq=>hb.block q hq));have yw:=QH (qa mQ.out hb);have HM5:Hid (B≤U4.heap.size):=Nat.le_trans HMV.out hb.size;clear hb bZ HFV HSV HTV mQ HMV;go_wp2_with fail;go_roundw;case rel =>
         refine⟨i+1,_,_,v,l2,_,rfl,by go_num,?_,vY.out,HF5.out,wU.out,⟨by rw[vY.out];exact(by have h:=yo.out.own;rw[vY.out]at h;exact h),fun q hq=>.inl (yo.out.blk q hq),yo.out.pal,fun x hx b o e=>⟨.inl (yo.out.mU x hx b o e).1,(yo.out.mU x hx b o e).2⟩,fun x hx=>le_of_lt (vG (bQ (yo.out.old x hx) rj.out) sA.out)⟩,fun x hx=>vG (bQ (yo.out.old x hx) rj.out) sA.out,yw.out,HM5.out⟩;have h1:=HIL.out;have h2:=tL.out;have h3:=HLF.out;omega
        case measure=>simp[intOf];omega
       ·exact absurd hk zt
      ·
       go_upto_region 17 with fail;clear q0 ql h3 h5;have gY:=QH sW.out;have xP:=QH qe1.out;have HST:=QH fY.out;have sX:=QH ed.out;have bH:=QH zx.out;have l5:=QH HM4.out;have rj:Hid (le2 k j k j):=.inr ⟨rfl,Nat.le_refl _⟩;have HLF:Hid (left M k j≤left M k j):=Nat.le_refl _;have qpR:Hid (¬ k<M→lt2 k j k j∧left M k j+1≤left M k j):=fun h=>absurd hk h;clear sW qe1 fY ed zx HM4;have HOP:=QH (qiz H gY.out l5.out);go_wp2_with fail;refine HOP.out.mono ?_;rintro e V5 ⟨v5,rfl,jY,kE⟩;have zy:=kE.below l5.out
       replace gY:=QH jY
       replace xP:=QH (xP.out.keep HC.toOps zy)
       replace HST:=QH (HST.out.kept kE.size (fun q hq hl=>kE.block hl (.inl hq)))
       replace sX:=QH (sX.out.of_block (kE.block sX.out.lt (.inl HGX.out.1)))
       replace bH:=QH (bH.out.trans (zy.mono HLW.out))
       replace l5:=QH (Nat.le_trans l5.out kE.size)
       clear jY kE zy HOP;dsimp only;clear hi hz0 hz1 hz2;by_cases zt:k<M
       ·have kU:=QH (bg H HC.toOps HCG bp.out gY.out xP.out zt fG.out);go_wp2_with fail;refine kU.out.mono ?_;rintro e U1 ⟨A1,c1,rfl,hp,fR,hb⟩;obtain⟨y0,y1,y2,y3,y4,y5,m6,lC⟩:∃(x0 x1 x2 x3 x4 x5:Int) (n6:Nat),jg (gQ lv k j) A1 c1 = #[.int .u64 x0,.int .u64 x1,.int .u64 x2,.int .u64 x3,.int .i64 x4,.int .i64 x5,.slice A1 n6 c1]:=⟨_,_,_,_,_,_,_,rfl⟩;rw[lC];have jY:=Fs.more H (Y:=fun q=>Y q∨∃o,A1=some ⟨q,o,none⟩) gY.out hb (fun q hq=>by
         rcases hq with h|⟨o,h⟩
         ·exact .inl h
         ·exact .inr (fR q o h))
        have hsn:=xP.out.keep HC.toOps (hb.mono l5.out);have hst:=HST.out.kept hb.size (fun q _ hq=>hb.block q hq);have hkb:=sX.out.below hb;have j9:=qa bH.out hb;have et:B≤U1.heap.size:=Nat.le_trans l5.out hb.size;have hgy:gp<V5.heap.size:=sX.out.lt;have n4:∀b o,A1=some ⟨b,o,none⟩→b≠gp:=fun b o e=>by have:=(fR b o e).1;omega
        have bW:B≤gp:=HGB.out;have r0:=hkb.cell 0;have r1:=hkb.cell 1;have r2:=hkb.cell 2;have r3:=hkb.cell 3;have r4:=hkb.cell 4;have r5:=hkb.cell 5;have r6:=hkb.cell 6;have f0:=hkb.frozen 0;have f1:=hkb.frozen 1;have f2:=hkb.frozen 2;have f3:=hkb.frozen 3;have f4:=hkb.frozen 4;have f5:=hkb.frozen 5;have f6:=hkb.frozen 6;have rl:=hkb.lt;simp only[QA,QB,QC]at r0 r1 r2 r3 r4 r5 r6;have k2:=((((((hkb.qg 0 (.int .u64 y0)).qg 1 (.int .u64 y1)).qg 2 (.int .u64 y2)).qg 3 (.int .u64 y3)).qg 4 (.int .i64 y4)).qg 5 (.int .i64 y5)).qg 6 (.slice A1 m6 c1);simp only[List.setIfInBounds_toArray,List.set_cons_succ,List.set_cons_zero]at k2;have xJ:qz (fun q=>q=gp) U1 (((((((U1.setCell ⟨gp,0,none⟩ (.int .u64 y0)).setCell ⟨gp,1,none⟩ (.int .u64 y1)).setCell ⟨gp,2,none⟩ (.int .u64 y2)).setCell ⟨gp,3,none⟩ (.int .u64 y3)).setCell ⟨gp,4,none⟩ (.int .i64 y4)).setCell ⟨gp,5,none⟩ (.int .i64 y5)).setCell ⟨gp,6,none⟩ (.slice A1 m6 c1)) :=
         (((((((qz.refl (fun q=>q=gp) U1).setCell ⟨gp,0,none⟩ _ (.inl rfl)).setCell ⟨gp,1,none⟩ _ (.inl rfl)).setCell ⟨gp,2,none⟩ _ (.inl rfl)).setCell ⟨gp,3,none⟩ _ (.inl rfl)).setCell ⟨gp,4,none⟩ _ (.inl rfl)).setCell ⟨gp,5,none⟩ _ (.inl rfl)).setCell ⟨gp,6,none⟩ _ (.inl rfl)
        obtain⟨U2,cX⟩:=QE (((((((U1.setCell ⟨gp,0,none⟩ (.int .u64 y0)).setCell ⟨gp,1,none⟩ (.int .u64 y1)).setCell ⟨gp,2,none⟩ (.int .u64 y2)).setCell ⟨gp,3,none⟩ (.int .u64 y3)).setCell ⟨gp,4,none⟩ (.int .i64 y4)).setCell ⟨gp,5,none⟩ (.int .i64 y5)).setCell ⟨gp,6,none⟩ (.slice A1 m6 c1));rw[cX]at k2 xJ;have ll:=QH (Fs.turn H (Y:=fun q=>Y q∨∃o,A1=some ⟨q,o,none⟩) jY xJ (fun q hq=>.inl (.inl (by rw[hq];exact HGX.out.1))) (fun q hq=>.inl hq));have ky:Below B U1 U2:=xJ.below (fun q hq=>by rw[hq];exact bW) et;have rZ:=QH (hsn.keep HC.toOps ky);have eO:∀x∈l2,∀b o,x.A=some ⟨b,o,none⟩→b≠gp:=fun x hx b o e h=>HNG.out x hx b o e h;have HTU:Hid (Snt lv U2 B (.slice As' (i+1) cs') l2 Y k j):=⟨qC hst.own (fun q hq=>xJ.block q (hst.own.lt q hq).2 (fun e=>HGX.out.2 (by rw[← e];exact hq))),hst.blk,fun x hx=>zW (hst.pal x hx) xJ.size (fun b o e hl=>xJ.block b hl (fun h=>eO x hx b o e h)),hst.mU,hst.old⟩;have cM:=QH (j9.trans (ky.mono HLW.out));have bR:Hid (B≤U2.heap.size):=Nat.le_trans et xJ.size;have bq:Hid (az U2 A1 c1 (gQ lv k j)):=zW hp xJ.size (fun b o e hl=>xJ.block b hl (fun h=>n4 b o e h));have jH:=QH (bf H bp.out ll.out zt fG.out bR.out A1 c1 bq.out (fun b o e=>.inr ⟨o,e⟩));rw[lC]at jH;have uk:=QH k2;have lj:=QH cX;have tL:=QH (bh bp.out gY.out zt);have sA:=QH (lB (lv:=lv) k j);clear lC jY hsn hst hkb j9 et hgy n4 bW k2 xJ cX ky eO hp fR hb kU;go_upto_region 22 with fail;try rw[lj.out]
        clear lj r0 r1 r2 r3 r4 r5 r6 f0 f1 f2 f3 f4 f5 f6 rl;have r0:=uk.out.cell 0;have r1:=uk.out.cell 1;have r2:=uk.out.cell 2;have r3:=uk.out.cell 3;have r4:=uk.out.cell 4;have r5:=uk.out.cell 5;have r6:=uk.out.cell 6;have rl:=uk.out.lt;simp only[QA,QB,QC]at r0 r1 r2 r3 r4 r5 r6;go_wp2_with fail;refine jH.out.mono ?_;rintro e U3 ⟨rfl,jY,kE⟩;have HFV:=QH jY;have zy:=kE.below bR.out;have HSV:=QH (rZ.out.keep HC.toOps zy);have HTV:=QH (HTU.out.kept kE.size (fun q hq hl=>kE.block hl (.inl (.inl hq))));have mQ:=QH (cM.out.trans (zy.mono HLW.out));have HMV:Hid (B≤U3.heap.size):=Nat.le_trans bR.out kE.size;have bZ:=QH (kO H HC.toOps bp.out HFV.out HSV.out fG.out);clear jY kE zy jH ll rZ HTU cM bR bq uk r0 r1 r2 r3 r4 r5 r6 rl;go_wp2_with fail;refine bZ.out.mono ?_;rintro e U4 ⟨rfl,hb⟩;have HF5:=QH (Fs.below H HFV.out hb);have wU:=QH (HSV.out.keep HC.toOps (hb.mono HMV.out));have yo:=QH (HTV.out.kept hb.size (fun q _ hq=>hb.block q hq));have yw:=QH (qa mQ.out hb);have HM5:Hid (B≤U4.heap.size):=Nat.le_trans HMV.out hb.size;clear hb bZ HFV HSV HTV mQ HMV;go_wp2_with fail;go_roundw;case rel =>
         refine⟨i+1,_,_,v5,l2,_,rfl,by go_num,?_,vY.out,HF5.out,wU.out,⟨by rw[vY.out];exact(by have h:=yo.out.own;rw[vY.out]at h;exact h),fun q hq=>.inl (yo.out.blk q hq),yo.out.pal,fun x hx b o e=>⟨.inl (yo.out.mU x hx b o e).1,(yo.out.mU x hx b o e).2⟩,fun x hx=>le_of_lt (vG (bQ (yo.out.old x hx) rj.out) sA.out)⟩,fun x hx=>vG (bQ (yo.out.old x hx) rj.out) sA.out,yw.out,HM5.out⟩;have h1:=HIL.out;have h2:=tL.out;have h3:=HLF.out;omega
        case measure=>simp[intOf];omega
       ·exact absurd hk zt
     ·have hyn:(z:Int)%((i:Int)+1)=((z%(i+1):Nat):Int):=by rw[Int.natCast_emod];rfl
      have hy:z%(i+1)<i+1:=Nat.mod_lt _ (by omega);obtain⟨y,hye⟩:=QE (z%(i+1));rw[hye]at hyn hy;have hyi:(y:Int)<(i:Int)+1:=by omega
      have hyl:y<l2.length:=by rw[vY.out];exact hy
      obtain⟨gs,rfl,jG,hgc⟩:=fY.out.cell hyl;have hmem:l2[y]∈l2:=List.getElem_mem hyl;obtain⟨x,hx⟩:=QE (l2[y]);rw[hx]at hgc hmem;obtain⟨y0,y1,y2,y3,y4,y5,m6,lC⟩:∃(x0 x1 x2 x3 x4 x5:Int) (n6:Nat),jg (gQ lv x.k x.j) x.A x.c = #[.int .u64 x0,.int .u64 x1,.int .u64 x2,.int .u64 x3,.int .i64 x4,.int .i64 x5,.slice x.A n6 x.c]:=⟨_,_,_,_,_,_,_,rfl⟩;have g0:=hgc 0 (by decide);have g1:=hgc 1 (by decide);have g2:=hgc 2 (by decide);have g3:=hgc 3 (by decide);have g4:=hgc 4 (by decide);have g5:=hgc 5 (by decide);have g6:=hgc 6 (by decide);unfold sC at g0 g1 g2 g3 g4 g5 g6;rw[lC]at g0 g1 g2 g3 g4 g5 g6;simp only[List.getElem?_cons_zero,List.getElem?_cons_succ,Nat.add_zero]at g0 g1 g2 g3 g4 g5 g6;have jH:=QH (qsX H bp.out sW.out hk fG.out HM4.out (fY.out.old x hmem) x.A x.c (fY.out.pal x hmem) (fun b o e=>(fY.out.mU x hmem b o e).1));rw[lC]at jH;clear hye hx hgc hmem lC;go_upto_region 15 with fail;go_wp2_with fail;refine jH.out.mono ?_;rintro e V4 ⟨r,k1,j1,rfl,jY,kE,hor⟩;have zy:=kE.below HM4.out;have gY:=QH jY;have xP:=QH (qe1.out.keep HC.toOps zy);have HST:=QH (fY.out.kept kE.size (fun q hq hl=>kE.block hl (.inl hq)));have sX:=QH (ed.out.of_block (kE.block ed.out.lt (.inl HGX.out.1)));have bH:=QH (zx.out.trans (zy.mono HLW.out));have l5:Hid (B≤V4.heap.size):=Nat.le_trans HM4.out kE.size;have rU:=bh bp.out sW.out hk;have hnl:=lB (lv:=lv) k j;have rj:Hid (le2 k j k1 j1):=by
       rcases hor with⟨rfl,rfl⟩|⟨rfl,rfl⟩
       ·exact .inr ⟨rfl,Nat.le_refl _⟩
       ·exact le_of_lt hnl
      have HLF:Hid (left M k1 j1≤left M k j):=by
       rcases hor with⟨rfl,rfl⟩|⟨rfl,rfl⟩
       ·exact Nat.le_refl _
       ·unfold Hid;omega
      have qpR:Hid (¬ k1<M→lt2 k j k1 j1∧left M k1 j1+1≤left M k j):=fun h=>by
       rcases hor with⟨rfl,rfl⟩|⟨rfl,rfl⟩
       ·exact absurd hk h
       ·exact⟨hnl,rU⟩
      clear jY kE zy hor rU hnl jH sW qe1 fY ed HM4 g0 g1 g2 g3 g4 g5 g6 jG hyl hyi hy hyn q0 ql h3;obtain⟨q0,ql⟩:=HOC.out V4 bH.out;cases b5
      ·
       go_upto_region 21 with fail;clear q0 ql h5 zx;clear hi hz0 hz1 hz2;by_cases zt:k1<M
       ·have kU:=QH (bg H HC.toOps HCG bp.out gY.out xP.out zt fG.out);go_wp2_with fail;refine kU.out.mono ?_;rintro e U1 ⟨A1,c1,rfl,hp,fR,hb⟩;obtain⟨y0,y1,y2,y3,y4,y5,m6,lC⟩:∃(x0 x1 x2 x3 x4 x5:Int) (n6:Nat),jg (gQ lv k1 j1) A1 c1 = #[.int .u64 x0,.int .u64 x1,.int .u64 x2,.int .u64 x3,.int .i64 x4,.int .i64 x5,.slice A1 n6 c1]:=⟨_,_,_,_,_,_,_,rfl⟩;rw[lC];have jY:=Fs.more H (Y:=fun q=>Y q∨∃o,A1=some ⟨q,o,none⟩) gY.out hb (fun q hq=>by
         rcases hq with h|⟨o,h⟩
         ·exact .inl h
         ·exact .inr (fR q o h))
        have hsn:=xP.out.keep HC.toOps (hb.mono l5.out);have hst:=HST.out.kept hb.size (fun q _ hq=>hb.block q hq);have hkb:=sX.out.below hb;have j9:=qa bH.out hb;have et:B≤U1.heap.size:=Nat.le_trans l5.out hb.size;have hgy:gp<V4.heap.size:=sX.out.lt;have n4:∀b o,A1=some ⟨b,o,none⟩→b≠gp:=fun b o e=>by have:=(fR b o e).1;omega
        have bW:B≤gp:=HGB.out;have r0:=hkb.cell 0;have r1:=hkb.cell 1;have r2:=hkb.cell 2;have r3:=hkb.cell 3;have r4:=hkb.cell 4;have r5:=hkb.cell 5;have r6:=hkb.cell 6;have f0:=hkb.frozen 0;have f1:=hkb.frozen 1;have f2:=hkb.frozen 2;have f3:=hkb.frozen 3;have f4:=hkb.frozen 4;have f5:=hkb.frozen 5;have f6:=hkb.frozen 6;have rl:=hkb.lt;simp only[QA,QB,QC]at r0 r1 r2 r3 r4 r5 r6;have k2:=((((((hkb.qg 0 (.int .u64 y0)).qg 1 (.int .u64 y1)).qg 2 (.int .u64 y2)).qg 3 (.int .u64 y3)).qg 4 (.int .i64 y4)).qg 5 (.int .i64 y5)).qg 6 (.slice A1 m6 c1);simp only[List.setIfInBounds_toArray,List.set_cons_succ,List.set_cons_zero]at k2;have xJ:qz (fun q=>q=gp) U1 (((((((U1.setCell ⟨gp,0,none⟩ (.int .u64 y0)).setCell ⟨gp,1,none⟩ (.int .u64 y1)).setCell ⟨gp,2,none⟩ (.int .u64 y2)).setCell ⟨gp,3,none⟩ (.int .u64 y3)).setCell ⟨gp,4,none⟩ (.int .i64 y4)).setCell ⟨gp,5,none⟩ (.int .i64 y5)).setCell ⟨gp,6,none⟩ (.slice A1 m6 c1)) :=
         (((((((qz.refl (fun q=>q=gp) U1).setCell ⟨gp,0,none⟩ _ (.inl rfl)).setCell ⟨gp,1,none⟩ _ (.inl rfl)).setCell ⟨gp,2,none⟩ _ (.inl rfl)).setCell ⟨gp,3,none⟩ _ (.inl rfl)).setCell ⟨gp,4,none⟩ _ (.inl rfl)).setCell ⟨gp,5,none⟩ _ (.inl rfl)).setCell ⟨gp,6,none⟩ _ (.inl rfl)
        obtain⟨U2,cX⟩:=QE (((((((U1.setCell ⟨gp,0,none⟩ (.int .u64 y0)).setCell ⟨gp,1,none⟩ (.int .u64 y1)).setCell ⟨gp,2,none⟩ (.int .u64 y2)).setCell ⟨gp,3,none⟩ (.int .u64 y3)).setCell ⟨gp,4,none⟩ (.int .i64 y4)).setCell ⟨gp,5,none⟩ (.int .i64 y5)).setCell ⟨gp,6,none⟩ (.slice A1 m6 c1));rw[cX]at k2 xJ;have ll:=QH (Fs.turn H (Y:=fun q=>Y q∨∃o,A1=some ⟨q,o,none⟩) jY xJ (fun q hq=>.inl (.inl (by rw[hq];exact HGX.out.1))) (fun q hq=>.inl hq));have ky:Below B U1 U2:=xJ.below (fun q hq=>by rw[hq];exact bW) et;have rZ:=QH (hsn.keep HC.toOps ky);have eO:∀x∈l2,∀b o,x.A=some ⟨b,o,none⟩→b≠gp:=fun x hx b o e h=>HNG.out x hx b o e h;have HTU:Hid (Snt lv U2 B (.slice (some ⟨gs,0,none⟩) (i+1) cs') l2 Y k j):=⟨qC hst.own (fun q hq=>xJ.block q (hst.own.lt q hq).2 (fun e=>HGX.out.2 (by rw[← e];exact hq))),hst.blk,fun x hx=>zW (hst.pal x hx) xJ.size (fun b o e hl=>xJ.block b hl (fun h=>eO x hx b o e h)),hst.mU,hst.old⟩;have cM:=QH (j9.trans (ky.mono HLW.out));have bR:Hid (B≤U2.heap.size):=Nat.le_trans et xJ.size;have bq:Hid (az U2 A1 c1 (gQ lv k1 j1)):=zW hp xJ.size (fun b o e hl=>xJ.block b hl (fun h=>n4 b o e h));have jH:=QH (bf H bp.out ll.out zt fG.out bR.out A1 c1 bq.out (fun b o e=>.inr ⟨o,e⟩));rw[lC]at jH;have uk:=QH k2;have lj:=QH cX;have tL:=QH (bh bp.out gY.out zt);have sA:=QH (lB (lv:=lv) k1 j1);clear lC jY hsn hst hkb j9 et hgy n4 bW k2 xJ cX ky eO hp fR hb kU;go_upto_region 22 with fail;try rw[lj.out]
        clear lj r0 r1 r2 r3 r4 r5 r6 f0 f1 f2 f3 f4 f5 f6 rl;have r0:=uk.out.cell 0;have r1:=uk.out.cell 1;have r2:=uk.out.cell 2;have r3:=uk.out.cell 3;have r4:=uk.out.cell 4;have r5:=uk.out.cell 5;have r6:=uk.out.cell 6;have rl:=uk.out.lt;simp only[QA,QB,QC]at r0 r1 r2 r3 r4 r5 r6;go_wp2_with fail;refine jH.out.mono ?_;rintro e U3 ⟨rfl,jY,kE⟩;have HFV:=QH jY;have zy:=kE.below bR.out;have HSV:=QH (rZ.out.keep HC.toOps zy);have HTV:=QH (HTU.out.kept kE.size (fun q hq hl=>kE.block hl (.inl (.inl hq))));have mQ:=QH (cM.out.trans (zy.mono HLW.out));have HMV:Hid (B≤U3.heap.size):=Nat.le_trans bR.out kE.size;have bZ:=QH (kO H HC.toOps bp.out HFV.out HSV.out fG.out);clear jY kE zy jH ll rZ HTU cM bR bq uk r0 r1 r2 r3 r4 r5 r6 rl;go_wp2_with fail;refine bZ.out.mono ?_;rintro e U4 ⟨rfl,hb⟩;have HF5:=QH (Fs.below H HFV.out hb);have wU:=QH (HSV.out.keep HC.toOps (hb.mono HMV.out));have yo:=QH (HTV.out.kept hb.size (fun q _ hq=>hb.block q hq));have yw:=QH (qa mQ.out hb);have HM5:Hid (B≤U4.heap.size):=Nat.le_trans HMV.out hb.size;clear hb bZ HFV HSV HTV mQ HMV;go_wp2_with fail;go_roundw;case rel =>
         refine⟨i+1,_,_,v,l2,_,rfl,by go_num,?_,vY.out,HF5.out,wU.out,⟨by rw[vY.out];exact(by have h:=yo.out.own;rw[vY.out]at h;exact h),fun q hq=>.inl (yo.out.blk q hq),yo.out.pal,fun x hx b o e=>⟨.inl (yo.out.mU x hx b o e).1,(yo.out.mU x hx b o e).2⟩,fun x hx=>le_of_lt (vG (bQ (yo.out.old x hx) rj.out) sA.out)⟩,fun x hx=>vG (bQ (yo.out.old x hx) rj.out) sA.out,yw.out,HM5.out⟩;have h1:=HIL.out;have h2:=tL.out;have h3:=HLF.out;omega
        case measure=>simp[intOf];omega
       ·have kU:=QH (qcc H HC.toOps gY.out xP.out zt fG.out);unfold NxN pZ at kU;go_wp2_with fail;refine kU.out.mono ?_;rintro e U1 ⟨rfl,hb⟩;have jY:=Fs.below H gY.out hb;have hsn:=xP.out.keep HC.toOps (hb.mono l5.out);have hst:=HST.out.kept hb.size (fun q _ hq=>hb.block q hq);have hkb:=sX.out.below hb;have j9:=qa bH.out hb;have et:B≤U1.heap.size:=Nat.le_trans l5.out hb.size;have r0:=hkb.cell 0;have r1:=hkb.cell 1;have r2:=hkb.cell 2;have r3:=hkb.cell 3;have r4:=hkb.cell 4;have r5:=hkb.cell 5;have r6:=hkb.cell 6;have f0:=hkb.frozen 0;have f1:=hkb.frozen 1;have f2:=hkb.frozen 2;have f3:=hkb.frozen 3;have f4:=hkb.frozen 4;have f5:=hkb.frozen 5;have f6:=hkb.frozen 6;have rl:=hkb.lt;simp only[QA,QB,QC]at r0 r1 r2 r3 r4 r5 r6;have xJ:qz (fun q=>q=gp) U1 (((((((U1.setCell ⟨gp,0,none⟩ (.int .u64 0)).setCell ⟨gp,1,none⟩ (.int .u64 0)).setCell ⟨gp,2,none⟩ (.int .u64 0)).setCell ⟨gp,3,none⟩ (.int .u64 0)).setCell ⟨gp,4,none⟩ (.int .i64 0)).setCell ⟨gp,5,none⟩ (.int .i64 0)).setCell ⟨gp,6,none⟩ (.slice none 0 0)) :=
         (((((((qz.refl (fun q=>q=gp) U1).setCell ⟨gp,0,none⟩ _ (.inl rfl)).setCell ⟨gp,1,none⟩ _ (.inl rfl)).setCell ⟨gp,2,none⟩ _ (.inl rfl)).setCell ⟨gp,3,none⟩ _ (.inl rfl)).setCell ⟨gp,4,none⟩ _ (.inl rfl)).setCell ⟨gp,5,none⟩ _ (.inl rfl)).setCell ⟨gp,6,none⟩ _ (.inl rfl)
        obtain⟨U2,cX⟩:=QE (((((((U1.setCell ⟨gp,0,none⟩ (.int .u64 0)).setCell ⟨gp,1,none⟩ (.int .u64 0)).setCell ⟨gp,2,none⟩ (.int .u64 0)).setCell ⟨gp,3,none⟩ (.int .u64 0)).setCell ⟨gp,4,none⟩ (.int .i64 0)).setCell ⟨gp,5,none⟩ (.int .i64 0)).setCell ⟨gp,6,none⟩ (.slice none 0 0));rw[cX]at xJ;have ll:=QH (Fs.turn H (Y:=Y) jY xJ (fun q hq=>.inl (by rw[hq];exact HGX.out.1)) (fun q hq=>.inl hq));have ky:Below B U1 U2:=xJ.below (fun q hq=>by rw[hq];exact HGB.out) et;have rZ:=QH (hsn.keep HC.toOps ky);have HTU:Hid (Snt lv U2 B (.slice (some ⟨gs,0,none⟩) (i+1) cs') l2 Y k j):=⟨qC hst.own (fun q hq=>xJ.block q (hst.own.lt q hq).2 (fun e=>HGX.out.2 (by rw[← e];exact hq))),hst.blk,fun x hx=>zW (hst.pal x hx) xJ.size (fun b o e hl=>xJ.block b hl (fun h=>HNG.out x hx b o e h)),hst.mU,hst.old⟩;have cM:=QH (j9.trans (ky.mono HLW.out));have bR:Hid (B≤U2.heap.size):=Nat.le_trans et xJ.size;have lj:=QH cX;have bZ:=QH (kO H HC.toOps bp.out ll.out rZ.out fG.out);clear jY hsn hst hkb j9 et xJ cX ky hb kU;go_upto_region 22 with fail;try rw[lj.out]
        clear lj r0 r1 r2 r3 r4 r5 r6 f0 f1 f2 f3 f4 f5 f6 rl;go_wp2_with fail;refine bZ.out.mono ?_;rintro e U4 ⟨rfl,hb⟩;have HF5:=QH (Fs.below H ll.out hb);have wU:=QH (rZ.out.keep HC.toOps (hb.mono bR.out));have yo:=QH (HTU.out.kept hb.size (fun q _ hq=>hb.block q hq));have yw:=QH (qa cM.out hb);have HM5:Hid (B≤U4.heap.size):=Nat.le_trans bR.out hb.size;have HLA:Hid (lt2 k j k1 j1∧left M k1 j1+1≤left M k j):=qpR.out zt;clear hb bZ ll rZ HTU cM bR;go_wp2_with fail;go_roundw;case rel =>
         refine⟨i+1,_,_,v,l2,_,rfl,by go_num,?_,vY.out,HF5.out,wU.out,⟨by rw[vY.out];exact(by have h:=yo.out.own;rw[vY.out]at h;exact h),yo.out.blk,yo.out.pal,yo.out.mU,fun x hx=>le_of_lt (vG (yo.out.old x hx) HLA.out.1)⟩,fun x hx=>vG (yo.out.old x hx) HLA.out.1,yw.out,HM5.out⟩;have h1:=HIL.out;have h2:=HLA.out.2;omega
        case measure=>simp[intOf];omega
      ·
       go_upto_region 17 with fail;clear q0 ql h5 zx;have HOP:=QH (qiz H gY.out l5.out);go_wp2_with fail;refine HOP.out.mono ?_;rintro e V5 ⟨v5,rfl,jY,kE⟩;have zy:=kE.below l5.out
       replace gY:=QH jY
       replace xP:=QH (xP.out.keep HC.toOps zy)
       replace HST:=QH (HST.out.kept kE.size (fun q hq hl=>kE.block hl (.inl hq)))
       replace sX:=QH (sX.out.of_block (kE.block sX.out.lt (.inl HGX.out.1)))
       replace bH:=QH (bH.out.trans (zy.mono HLW.out))
       replace l5:=QH (Nat.le_trans l5.out kE.size)
       clear jY kE zy HOP;dsimp only;clear hi hz0 hz1 hz2;by_cases zt:k1<M
       ·have kU:=QH (bg H HC.toOps HCG bp.out gY.out xP.out zt fG.out);go_wp2_with fail;refine kU.out.mono ?_;rintro e U1 ⟨A1,c1,rfl,hp,fR,hb⟩;obtain⟨y0,y1,y2,y3,y4,y5,m6,lC⟩:∃(x0 x1 x2 x3 x4 x5:Int) (n6:Nat),jg (gQ lv k1 j1) A1 c1 = #[.int .u64 x0,.int .u64 x1,.int .u64 x2,.int .u64 x3,.int .i64 x4,.int .i64 x5,.slice A1 n6 c1]:=⟨_,_,_,_,_,_,_,rfl⟩;rw[lC];have jY:=Fs.more H (Y:=fun q=>Y q∨∃o,A1=some ⟨q,o,none⟩) gY.out hb (fun q hq=>by
         rcases hq with h|⟨o,h⟩
         ·exact .inl h
         ·exact .inr (fR q o h))
        have hsn:=xP.out.keep HC.toOps (hb.mono l5.out);have hst:=HST.out.kept hb.size (fun q _ hq=>hb.block q hq);have hkb:=sX.out.below hb;have j9:=qa bH.out hb;have et:B≤U1.heap.size:=Nat.le_trans l5.out hb.size;have hgy:gp<V5.heap.size:=sX.out.lt;have n4:∀b o,A1=some ⟨b,o,none⟩→b≠gp:=fun b o e=>by have:=(fR b o e).1;omega
        have bW:B≤gp:=HGB.out;have r0:=hkb.cell 0;have r1:=hkb.cell 1;have r2:=hkb.cell 2;have r3:=hkb.cell 3;have r4:=hkb.cell 4;have r5:=hkb.cell 5;have r6:=hkb.cell 6;have f0:=hkb.frozen 0;have f1:=hkb.frozen 1;have f2:=hkb.frozen 2;have f3:=hkb.frozen 3;have f4:=hkb.frozen 4;have f5:=hkb.frozen 5;have f6:=hkb.frozen 6;have rl:=hkb.lt;simp only[QA,QB,QC]at r0 r1 r2 r3 r4 r5 r6;have k2:=((((((hkb.qg 0 (.int .u64 y0)).qg 1 (.int .u64 y1)).qg 2 (.int .u64 y2)).qg 3 (.int .u64 y3)).qg 4 (.int .i64 y4)).qg 5 (.int .i64 y5)).qg 6 (.slice A1 m6 c1);simp only[List.setIfInBounds_toArray,List.set_cons_succ,List.set_cons_zero]at k2;have xJ:qz (fun q=>q=gp) U1 (((((((U1.setCell ⟨gp,0,none⟩ (.int .u64 y0)).setCell ⟨gp,1,none⟩ (.int .u64 y1)).setCell ⟨gp,2,none⟩ (.int .u64 y2)).setCell ⟨gp,3,none⟩ (.int .u64 y3)).setCell ⟨gp,4,none⟩ (.int .i64 y4)).setCell ⟨gp,5,none⟩ (.int .i64 y5)).setCell ⟨gp,6,none⟩ (.slice A1 m6 c1)) :=
         (((((((qz.refl (fun q=>q=gp) U1).setCell ⟨gp,0,none⟩ _ (.inl rfl)).setCell ⟨gp,1,none⟩ _ (.inl rfl)).setCell ⟨gp,2,none⟩ _ (.inl rfl)).setCell ⟨gp,3,none⟩ _ (.inl rfl)).setCell ⟨gp,4,none⟩ _ (.inl rfl)).setCell ⟨gp,5,none⟩ _ (.inl rfl)).setCell ⟨gp,6,none⟩ _ (.inl rfl)
        obtain⟨U2,cX⟩:=QE (((((((U1.setCell ⟨gp,0,none⟩ (.int .u64 y0)).setCell ⟨gp,1,none⟩ (.int .u64 y1)).setCell ⟨gp,2,none⟩ (.int .u64 y2)).setCell ⟨gp,3,none⟩ (.int .u64 y3)).setCell ⟨gp,4,none⟩ (.int .i64 y4)).setCell ⟨gp,5,none⟩ (.int .i64 y5)).setCell ⟨gp,6,none⟩ (.slice A1 m6 c1));rw[cX]at k2 xJ;have ll:=QH (Fs.turn H (Y:=fun q=>Y q∨∃o,A1=some ⟨q,o,none⟩) jY xJ (fun q hq=>.inl (.inl (by rw[hq];exact HGX.out.1))) (fun q hq=>.inl hq));have ky:Below B U1 U2:=xJ.below (fun q hq=>by rw[hq];exact bW) et;have rZ:=QH (hsn.keep HC.toOps ky);have eO:∀x∈l2,∀b o,x.A=some ⟨b,o,none⟩→b≠gp:=fun x hx b o e h=>HNG.out x hx b o e h;have HTU:Hid (Snt lv U2 B (.slice (some ⟨gs,0,none⟩) (i+1) cs') l2 Y k j):=⟨qC hst.own (fun q hq=>xJ.block q (hst.own.lt q hq).2 (fun e=>HGX.out.2 (by rw[← e];exact hq))),hst.blk,fun x hx=>zW (hst.pal x hx) xJ.size (fun b o e hl=>xJ.block b hl (fun h=>eO x hx b o e h)),hst.mU,hst.old⟩;have cM:=QH (j9.trans (ky.mono HLW.out));have bR:Hid (B≤U2.heap.size):=Nat.le_trans et xJ.size;have bq:Hid (az U2 A1 c1 (gQ lv k1 j1)):=zW hp xJ.size (fun b o e hl=>xJ.block b hl (fun h=>n4 b o e h));have jH:=QH (bf H bp.out ll.out zt fG.out bR.out A1 c1 bq.out (fun b o e=>.inr ⟨o,e⟩));rw[lC]at jH;have uk:=QH k2;have lj:=QH cX;have tL:=QH (bh bp.out gY.out zt);have sA:=QH (lB (lv:=lv) k1 j1);clear lC jY hsn hst hkb j9 et hgy n4 bW k2 xJ cX ky eO hp fR hb kU;go_upto_region 22 with fail;try rw[lj.out]
        clear lj r0 r1 r2 r3 r4 r5 r6 f0 f1 f2 f3 f4 f5 f6 rl;have r0:=uk.out.cell 0;have r1:=uk.out.cell 1;have r2:=uk.out.cell 2;have r3:=uk.out.cell 3;have r4:=uk.out.cell 4;have r5:=uk.out.cell 5;have r6:=uk.out.cell 6;have rl:=uk.out.lt;simp only[QA,QB,QC]at r0 r1 r2 r3 r4 r5 r6;go_wp2_with fail;refine jH.out.mono ?_;rintro e U3 ⟨rfl,jY,kE⟩;have HFV:=QH jY;have zy:=kE.below bR.out;have HSV:=QH (rZ.out.keep HC.toOps zy);have HTV:=QH (HTU.out.kept kE.size (fun q hq hl=>kE.block hl (.inl (.inl hq))));have mQ:=QH (cM.out.trans (zy.mono HLW.out));have HMV:Hid (B≤U3.heap.size):=Nat.le_trans bR.out kE.size;have bZ:=QH (kO H HC.toOps bp.out HFV.out HSV.out fG.out);clear jY kE zy jH ll rZ HTU cM bR bq uk r0 r1 r2 r3 r4 r5 r6 rl;go_wp2_with fail;refine bZ.out.mono ?_;rintro e U4 ⟨rfl,hb⟩;have HF5:=QH (Fs.below H HFV.out hb);have wU:=QH (HSV.out.keep HC.toOps (hb.mono HMV.out));have yo:=QH (HTV.out.kept hb.size (fun q _ hq=>hb.block q hq));have yw:=QH (qa mQ.out hb);have HM5:Hid (B≤U4.heap.size):=Nat.le_trans HMV.out hb.size;clear hb bZ HFV HSV HTV mQ HMV;go_wp2_with fail;go_roundw;case rel =>
         refine⟨i+1,_,_,v5,l2,_,rfl,by go_num,?_,vY.out,HF5.out,wU.out,⟨by rw[vY.out];exact(by have h:=yo.out.own;rw[vY.out]at h;exact h),fun q hq=>.inl (yo.out.blk q hq),yo.out.pal,fun x hx b o e=>⟨.inl (yo.out.mU x hx b o e).1,(yo.out.mU x hx b o e).2⟩,fun x hx=>le_of_lt (vG (bQ (yo.out.old x hx) rj.out) sA.out)⟩,fun x hx=>vG (bQ (yo.out.old x hx) rj.out) sA.out,yw.out,HM5.out⟩;have h1:=HIL.out;have h2:=tL.out;have h3:=HLF.out;omega
        case measure=>simp[intOf];omega
       ·have kU:=QH (qcc H HC.toOps gY.out xP.out zt fG.out);unfold NxN pZ at kU;go_wp2_with fail;refine kU.out.mono ?_;rintro e U1 ⟨rfl,hb⟩;have jY:=Fs.below H gY.out hb;have hsn:=xP.out.keep HC.toOps (hb.mono l5.out);have hst:=HST.out.kept hb.size (fun q _ hq=>hb.block q hq);have hkb:=sX.out.below hb;have j9:=qa bH.out hb;have et:B≤U1.heap.size:=Nat.le_trans l5.out hb.size;have r0:=hkb.cell 0;have r1:=hkb.cell 1;have r2:=hkb.cell 2;have r3:=hkb.cell 3;have r4:=hkb.cell 4;have r5:=hkb.cell 5;have r6:=hkb.cell 6;have f0:=hkb.frozen 0;have f1:=hkb.frozen 1;have f2:=hkb.frozen 2;have f3:=hkb.frozen 3;have f4:=hkb.frozen 4;have f5:=hkb.frozen 5;have f6:=hkb.frozen 6;have rl:=hkb.lt;simp only[QA,QB,QC]at r0 r1 r2 r3 r4 r5 r6;have xJ:qz (fun q=>q=gp) U1 (((((((U1.setCell ⟨gp,0,none⟩ (.int .u64 0)).setCell ⟨gp,1,none⟩ (.int .u64 0)).setCell ⟨gp,2,none⟩ (.int .u64 0)).setCell ⟨gp,3,none⟩ (.int .u64 0)).setCell ⟨gp,4,none⟩ (.int .i64 0)).setCell ⟨gp,5,none⟩ (.int .i64 0)).setCell ⟨gp,6,none⟩ (.slice none 0 0)) :=
         (((((((qz.refl (fun q=>q=gp) U1).setCell ⟨gp,0,none⟩ _ (.inl rfl)).setCell ⟨gp,1,none⟩ _ (.inl rfl)).setCell ⟨gp,2,none⟩ _ (.inl rfl)).setCell ⟨gp,3,none⟩ _ (.inl rfl)).setCell ⟨gp,4,none⟩ _ (.inl rfl)).setCell ⟨gp,5,none⟩ _ (.inl rfl)).setCell ⟨gp,6,none⟩ _ (.inl rfl)
        obtain⟨U2,cX⟩:=QE (((((((U1.setCell ⟨gp,0,none⟩ (.int .u64 0)).setCell ⟨gp,1,none⟩ (.int .u64 0)).setCell ⟨gp,2,none⟩ (.int .u64 0)).setCell ⟨gp,3,none⟩ (.int .u64 0)).setCell ⟨gp,4,none⟩ (.int .i64 0)).setCell ⟨gp,5,none⟩ (.int .i64 0)).setCell ⟨gp,6,none⟩ (.slice none 0 0));rw[cX]at xJ;have ll:=QH (Fs.turn H (Y:=Y) jY xJ (fun q hq=>.inl (by rw[hq];exact HGX.out.1)) (fun q hq=>.inl hq));have ky:Below B U1 U2:=xJ.below (fun q hq=>by rw[hq];exact HGB.out) et;have rZ:=QH (hsn.keep HC.toOps ky);have HTU:Hid (Snt lv U2 B (.slice (some ⟨gs,0,none⟩) (i+1) cs') l2 Y k j):=⟨qC hst.own (fun q hq=>xJ.block q (hst.own.lt q hq).2 (fun e=>HGX.out.2 (by rw[← e];exact hq))),hst.blk,fun x hx=>zW (hst.pal x hx) xJ.size (fun b o e hl=>xJ.block b hl (fun h=>HNG.out x hx b o e h)),hst.mU,hst.old⟩;have cM:=QH (j9.trans (ky.mono HLW.out));have bR:Hid (B≤U2.heap.size):=Nat.le_trans et xJ.size;have lj:=QH cX;have bZ:=QH (kO H HC.toOps bp.out ll.out rZ.out fG.out);clear jY hsn hst hkb j9 et xJ cX ky hb kU;go_upto_region 22 with fail;try rw[lj.out]
        clear lj r0 r1 r2 r3 r4 r5 r6 f0 f1 f2 f3 f4 f5 f6 rl;go_wp2_with fail;refine bZ.out.mono ?_;rintro e U4 ⟨rfl,hb⟩;have HF5:=QH (Fs.below H ll.out hb);have wU:=QH (rZ.out.keep HC.toOps (hb.mono bR.out));have yo:=QH (HTU.out.kept hb.size (fun q _ hq=>hb.block q hq));have yw:=QH (qa cM.out hb);have HM5:Hid (B≤U4.heap.size):=Nat.le_trans bR.out hb.size;have HLA:Hid (lt2 k j k1 j1∧left M k1 j1+1≤left M k j):=qpR.out zt;clear hb bZ ll rZ HTU cM bR;go_wp2_with fail;go_roundw;case rel =>
         refine⟨i+1,_,_,v5,l2,_,rfl,by go_num,?_,vY.out,HF5.out,wU.out,⟨by rw[vY.out];exact(by have h:=yo.out.own;rw[vY.out]at h;exact h),yo.out.blk,yo.out.pal,yo.out.mU,fun x hx=>le_of_lt (vG (yo.out.old x hx) HLA.out.1)⟩,fun x hx=>vG (yo.out.old x hx) HLA.out.1,yw.out,HM5.out⟩;have h1:=HIL.out;have h2:=HLA.out.2;omega
        case measure=>simp[intOf];omega
    ·have q7V:¬ (i:Int)<(os.length:Int):=by omega
     go_upto_region 21 with fail;have gY:=QH sW.out;have xP:=QH qe1.out;have HST:=QH fY.out;have sX:=QH ed.out;have bH:=QH zx.out;have l5:=QH HM4.out;have rj:Hid (le2 k j k j):=.inr ⟨rfl,Nat.le_refl _⟩;have HLF:Hid (left M k j≤left M k j):=Nat.le_refl _;have qpR:Hid (¬ k<M→lt2 k j k j∧left M k j+1≤left M k j):=fun h=>absurd hk h;clear sW qe1 fY ed zx HM4;clear hi hz0 hz1 hz2;by_cases zt:k<M
     ·have kU:=QH (bg H HC.toOps HCG bp.out gY.out xP.out zt fG.out);go_wp2_with fail;refine kU.out.mono ?_;rintro e U1 ⟨A1,c1,rfl,hp,fR,hb⟩;obtain⟨y0,y1,y2,y3,y4,y5,m6,lC⟩:∃(x0 x1 x2 x3 x4 x5:Int) (n6:Nat),jg (gQ lv k j) A1 c1 = #[.int .u64 x0,.int .u64 x1,.int .u64 x2,.int .u64 x3,.int .i64 x4,.int .i64 x5,.slice A1 n6 c1]:=⟨_,_,_,_,_,_,_,rfl⟩;rw[lC];have jY:=Fs.more H (Y:=fun q=>Y q∨∃o,A1=some ⟨q,o,none⟩) gY.out hb (fun q hq=>by
       rcases hq with h|⟨o,h⟩
       ·exact .inl h
       ·exact .inr (fR q o h))
      have hsn:=xP.out.keep HC.toOps (hb.mono l5.out);have hst:=HST.out.kept hb.size (fun q _ hq=>hb.block q hq);have hkb:=sX.out.below hb;have j9:=qa bH.out hb;have et:B≤U1.heap.size:=Nat.le_trans l5.out hb.size;have hgy:gp<W4.heap.size:=sX.out.lt;have n4:∀b o,A1=some ⟨b,o,none⟩→b≠gp:=fun b o e=>by have:=(fR b o e).1;omega
      have bW:B≤gp:=HGB.out;have r0:=hkb.cell 0;have r1:=hkb.cell 1;have r2:=hkb.cell 2;have r3:=hkb.cell 3;have r4:=hkb.cell 4;have r5:=hkb.cell 5;have r6:=hkb.cell 6;have f0:=hkb.frozen 0;have f1:=hkb.frozen 1;have f2:=hkb.frozen 2;have f3:=hkb.frozen 3;have f4:=hkb.frozen 4;have f5:=hkb.frozen 5;have f6:=hkb.frozen 6;have rl:=hkb.lt;simp only[QA,QB,QC]at r0 r1 r2 r3 r4 r5 r6;have k2:=((((((hkb.qg 0 (.int .u64 y0)).qg 1 (.int .u64 y1)).qg 2 (.int .u64 y2)).qg 3 (.int .u64 y3)).qg 4 (.int .i64 y4)).qg 5 (.int .i64 y5)).qg 6 (.slice A1 m6 c1);simp only[List.setIfInBounds_toArray,List.set_cons_succ,List.set_cons_zero]at k2;have xJ:qz (fun q=>q=gp) U1 (((((((U1.setCell ⟨gp,0,none⟩ (.int .u64 y0)).setCell ⟨gp,1,none⟩ (.int .u64 y1)).setCell ⟨gp,2,none⟩ (.int .u64 y2)).setCell ⟨gp,3,none⟩ (.int .u64 y3)).setCell ⟨gp,4,none⟩ (.int .i64 y4)).setCell ⟨gp,5,none⟩ (.int .i64 y5)).setCell ⟨gp,6,none⟩ (.slice A1 m6 c1)) :=
       (((((((qz.refl (fun q=>q=gp) U1).setCell ⟨gp,0,none⟩ _ (.inl rfl)).setCell ⟨gp,1,none⟩ _ (.inl rfl)).setCell ⟨gp,2,none⟩ _ (.inl rfl)).setCell ⟨gp,3,none⟩ _ (.inl rfl)).setCell ⟨gp,4,none⟩ _ (.inl rfl)).setCell ⟨gp,5,none⟩ _ (.inl rfl)).setCell ⟨gp,6,none⟩ _ (.inl rfl)
      obtain⟨U2,cX⟩:=QE (((((((U1.setCell ⟨gp,0,none⟩ (.int .u64 y0)).setCell ⟨gp,1,none⟩ (.int .u64 y1)).setCell ⟨gp,2,none⟩ (.int .u64 y2)).setCell ⟨gp,3,none⟩ (.int .u64 y3)).setCell ⟨gp,4,none⟩ (.int .i64 y4)).setCell ⟨gp,5,none⟩ (.int .i64 y5)).setCell ⟨gp,6,none⟩ (.slice A1 m6 c1));rw[cX]at k2 xJ;have ll:=QH (Fs.turn H (Y:=fun q=>Y q∨∃o,A1=some ⟨q,o,none⟩) jY xJ (fun q hq=>.inl (.inl (by rw[hq];exact HGX.out.1))) (fun q hq=>.inl hq));have ky:Below B U1 U2:=xJ.below (fun q hq=>by rw[hq];exact bW) et;have rZ:=QH (hsn.keep HC.toOps ky);have eO:∀x∈l2,∀b o,x.A=some ⟨b,o,none⟩→b≠gp:=fun x hx b o e h=>HNG.out x hx b o e h;have HTU:Hid (Snt lv U2 B (.slice As' (i+1) cs') l2 Y k j):=⟨qC hst.own (fun q hq=>xJ.block q (hst.own.lt q hq).2 (fun e=>HGX.out.2 (by rw[← e];exact hq))),hst.blk,fun x hx=>zW (hst.pal x hx) xJ.size (fun b o e hl=>xJ.block b hl (fun h=>eO x hx b o e h)),hst.mU,hst.old⟩;have cM:=QH (j9.trans (ky.mono HLW.out));have bR:Hid (B≤U2.heap.size):=Nat.le_trans et xJ.size;have bq:Hid (az U2 A1 c1 (gQ lv k j)):=zW hp xJ.size (fun b o e hl=>xJ.block b hl (fun h=>n4 b o e h));have jH:=QH (bf H bp.out ll.out zt fG.out bR.out A1 c1 bq.out (fun b o e=>.inr ⟨o,e⟩));rw[lC]at jH;have uk:=QH k2;have lj:=QH cX;have tL:=QH (bh bp.out gY.out zt);have sA:=QH (lB (lv:=lv) k j);clear lC jY hsn hst hkb j9 et hgy n4 bW k2 xJ cX ky eO hp fR hb kU;go_upto_region 22 with fail;try rw[lj.out]
      clear lj r0 r1 r2 r3 r4 r5 r6 f0 f1 f2 f3 f4 f5 f6 rl;have r0:=uk.out.cell 0;have r1:=uk.out.cell 1;have r2:=uk.out.cell 2;have r3:=uk.out.cell 3;have r4:=uk.out.cell 4;have r5:=uk.out.cell 5;have r6:=uk.out.cell 6;have rl:=uk.out.lt;simp only[QA,QB,QC]at r0 r1 r2 r3 r4 r5 r6;go_wp2_with fail;refine jH.out.mono ?_;rintro e U3 ⟨rfl,jY,kE⟩;have HFV:=QH jY;have zy:=kE.below bR.out;have HSV:=QH (rZ.out.keep HC.toOps zy);have HTV:=QH (HTU.out.kept kE.size (fun q hq hl=>kE.block hl (.inl (.inl hq))));have mQ:=QH (cM.out.trans (zy.mono HLW.out));have HMV:Hid (B≤U3.heap.size):=Nat.le_trans bR.out kE.size;have bZ:=QH (kO H HC.toOps bp.out HFV.out HSV.out fG.out);clear jY kE zy jH ll rZ HTU cM bR bq uk r0 r1 r2 r3 r4 r5 r6 rl;go_wp2_with fail;refine bZ.out.mono ?_;rintro e U4 ⟨rfl,hb⟩;have HF5:=QH (Fs.below H HFV.out hb);have wU:=QH (HSV.out.keep HC.toOps (hb.mono HMV.out));have yo:=QH (HTV.out.kept hb.size (fun q _ hq=>hb.block q hq));have yw:=QH (qa mQ.out hb);have HM5:Hid (B≤U4.heap.size):=Nat.le_trans HMV.out hb.size;clear hb bZ HFV HSV HTV mQ HMV;go_wp2_with fail;go_roundw;case rel =>
       refine⟨i+1,_,_,v,l2,_,rfl,by go_num,?_,vY.out,HF5.out,wU.out,⟨by rw[vY.out];exact(by have h:=yo.out.own;rw[vY.out]at h;exact h),fun q hq=>.inl (yo.out.blk q hq),yo.out.pal,fun x hx b o e=>⟨.inl (yo.out.mU x hx b o e).1,(yo.out.mU x hx b o e).2⟩,fun x hx=>le_of_lt (vG (bQ (yo.out.old x hx) rj.out) sA.out)⟩,fun x hx=>vG (bQ (yo.out.old x hx) rj.out) sA.out,yw.out,HM5.out⟩;have h1:=HIL.out;have h2:=tL.out;have h3:=HLF.out;omega
      case measure=>simp[intOf];omega
     ·exact absurd hk zt
  ·have hkM:k=M:=by have:=gY.out.kM;omega
   have kU:=QH (qcc H HC.toOps gY.out xP.out hk fG.out);unfold NxN pZ at kU;go_wp2_with fail;refine kU.out.mono ?_;rintro e U1 ⟨rfl,hb⟩;have cb:=(Below.refl U1.heap.size U1).alloc (Nat.le_refl _) (.cells #[.int .u64 0,.int .u64 0,.int .u64 0,.int .u64 0,.int .i64 0,.int .i64 0,.slice none 0 0] 41);obtain⟨U2,cX⟩:=QE (U1.alloc (.cells #[.int .u64 0,.int .u64 0,.int .u64 0,.int .u64 0,.int .i64 0,.int .i64 0,.slice none 0 0] 41));rw[cX]at cb;have lj:=QH cX;have hbb:=qa hb cb;have HF2:=QH (Fs.below H gY.out hbb);have kT:=QH (xP.out.keep HC.toOps (hbb.mono HMB.out));have qA:=QH (qa ja.out hbb);have nc:Hid (B≤U2.heap.size):=Nat.le_trans HMB.out hbb.size;clear hb cb cX hbb kU gY xP HST mH ja HMB;go_upto_region 12 with fail;try rw[lj.out]
   clear lj;have HL1:=QH (qsY H HF2.out);go_wp2_with fail;refine HL1.out.mono ?_;rintro e U3 ⟨A3,c3,rfl,-,-,hb⟩;have HF3:=QH (Fs.below H HF2.out hb);have na:=QH (kT.out.keep HC.toOps (hb.mono nc.out));have q26:Hid (B≤U3.heap.size):=Nat.le_trans nc.out hb.size;have zv:=QH (qa qA.out hb);have q26:Hid (B≤U3.heap.size):=Nat.le_trans nc.out hb.size;have ig:=QH (qsZ HC.toOps na.out);have hl3:((List.range k).map ch.jZ).length=k:=by simp
   rw[hl3];clear hb HL1 HF2 kT qA nc hl3;go_wp2_with fail;refine ig.out.mono ?_;rintro e U4 ⟨A4,c4,rfl,-,-,hb⟩;rw[yQ];have hMM:((k:Int) == (M:Int))=true:=by rw[hkM];simp
   have HF4:=QH (Fs.below H HF3.out hb);have nb:=QH (na.out.keep HC.toOps (hb.mono q26.out));have zx:=QH (qa zv.out hb);have bZ:=QH (kO H HC.toOps bp.out HF4.out nb.out fG.out);clear hb ig HF3 na zv;go_wp2_with fail;refine bZ.out.mono ?_;rintro e U5 ⟨rfl,hb⟩;have yw:=QH (qa zx.out hb);clear hb bZ HF4 nb zx;go_wp2_with fail;go_ret;exact⟨rfl,yw.out⟩
end Go.Proofs.YtdpbdkacngaemaaGreatDoor.rv
