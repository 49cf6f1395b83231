/- WiRefQ, MtRd, OwnKit, MtSns, MgRd, MgList, MgEq. -/
import Derived.Test.YtdpbdkacngaemaaGreatDoorZK1
import Derived.Laws.AppendOwn
import Derived.Tactics
set_option linter.unusedVariables false
set_option linter.unusedSimpArgs false
set_option maxHeartbeats 30000000
set_option maxRecDepth 100000
namespace Go.Proofs.YtdpbdkacngaemaaGreatDoor.wi
open _root_.Go.Proofs.Tryz Go.RowKit
def qm6 (c:Nat)(s:ByteArray)(w:World)(e:Ending)(w':World):Prop :=
 w.grownBy w' (some c)∧e=.returned (.int .u64 0)∧dR c (s.extract 1 s.size) false w'
theorem qm7(c:Nat)(s:ByteArray)(w:World)(h:dR c s false w)(hp:0<s.size)(hk0:s[0].toNat=0) :
    Calls prog 214 #[.pointer (some ⟨c,0,none⟩)] w (qm6 c s w):=by
 obtain⟨h1,h2,h3,h4⟩:=h.cells;have hpi:(0:Int)<(s.size:Int):=by omega
 have e1:=QH (show((s.size:Int) == 0)=false by rw[beq_eq_false_iff_ne];omega);have e3:=QH (show decide ((s.size:Int)<(1:Int))=false by rw[decide_eq_false_iff_not];omega);go_enter func214,ntmps214;go_wp2;have f1:=e1.out;have f3:=e3.out;go_quiet (fail);obtain⟨W,hW⟩:∃W,W=w.drewN nq:=⟨_,rfl⟩;have hq:dR c s false W:=by rw[hW];exact h
 have hgW:=QH (show w.grownBy W (some c)from by rw[hW];exact grown_drewN (jx w _) nq);rw[← hW];clear hW h h1 h2 h3 h4;obtain⟨h1,h2,h3,h4⟩:=hq.cells;have hx:(s.extract 1 s.size).size≤1000000:=by have:=hq.2;simp;omega
 have HQ:=QH (hq.qiD _ hx);have HG:=QH (dh c 0 W (.string (s.extract 1 s.size)));have hs1:s.size≤1000000:=hq.2;have hs2:1≤s.size:=hp;clear hq;go_wp2;go_loop [3,5] (fun n i=>n=.int .u64 0∧i=.int .i64 1) (fun _ i=>1-(intOf i).toNat);case atStart=>exact⟨rfl,rfl⟩
 case round =>
  obtain⟨rfl,rfl⟩:=hrel;go_wp2;go_ret;exact⟨zN hgW.out HG.out,rfl,HQ.out⟩
theorem vF (k:UInt8)(r:List UInt8):rdNum (k::r) =
    if 8<k.toNat then none else if r.length<k.toNat then none else if (r.take k.toNat).head? = some 0 then none else some (val (r.take k.toNat),r.drop k.toNat):=rfl
theorem qc3(s:ByteArray)(k:Nat):(bl s).drop (1+k)=(yo s).drop k:=by
 unfold yo;rw[List.drop_drop]
theorem quu(c:Nat)(s:ByteArray)(w:World)(h:dR c s false w) :
    Calls prog 214 #[.pointer (some ⟨c,0,none⟩)] w (qc2 c s w):=by
 have hno:∀e w',rdNum (bl s)=none→oP c w e w'→qc2 c s w e w':=fun e w' hn ⟨h1,h2,h3⟩=>⟨h1,.inr ⟨hn,h2,h3⟩⟩;by_cases hp:0<s.size
 ·have hc:=qm3 s hp;have hrl:(yo s).length=s.size-1:=cP s;have quv:∀e w',¬ 8<s[0].toNat→¬ (yo s).length<s[0].toNat→¬ ((yo s).take s[0].toNat).head? = some 0→qiF c s s[0].toNat w e w'→qc2 c s w e w':=fun e w' g1 g2 g3 ⟨h1,h2,h3⟩ =>
   ⟨h1,.inl ⟨_,(yo s).drop s[0].toNat,_,by rw[hc];show rdNum (s[0]::yo s)=_;rw[vF,if_neg g1,if_neg g2,if_neg g3],h2,by rw[vB,qc3],h3⟩⟩
  by_cases hk:s[0].toNat≤8
  ·by_cases hl:1+s[0].toNat≤s.size
   ·by_cases hk0:s[0].toNat=0
    ·refine(qm7 c s w h hp hk0).mono fun e w' ⟨h1,h2,h3⟩=>quv e w' (by omega) (by omega) (by rw[hk0];simp) ⟨h1,by rw[h2,hk0];rfl,by rw[hk0];exact h3⟩
    ·have hp1:1<s.size:=by omega
     have qoW:((yo s).take s[0].toNat).head? = some s[1]:=by
      have:=oQ s 0 hp1;cases hr:yo s with
      | nil=>rw[hr]at hrl;simp at hrl;omega
      | cons y q =>
       obtain⟨k,zQ⟩:∃k,s[0].toNat=k+1:=⟨s[0].toNat-1,by omega⟩;simp only[hr,List.getElem_cons_zero,Nat.zero_add]at this;rw[zQ,List.take_succ_cons,List.head?_cons,this]
     by_cases h0:s[1].toNat=0
     ·refine(qqx c s w h hp1 hk hl (by omega) h0).mono fun e w'=>hno e w' ?_;rw[hc];show rdNum (s[0]::yo s)=none;have hz:s[1]=0:=by apply UInt8.toNat_inj.1;simpa using h0
      rw[vF,if_neg (by omega),if_neg (by omega),if_pos (by rw[qoW,hz])]
     ·refine(qqy c s w h hp1 hk hl (by omega) h0).mono fun e w'=>quv e w' (by omega) (by omega) ?_;rw[qoW];intro hz;simp only[Option.some.injEq]at hz;exact h0 (by rw[hz];rfl)
   ·refine(qm5 c s w h hp hk (by omega)).mono fun e w'=>hno e w' ?_;rw[hc];show rdNum (s[0]::yo s)=none;rw[vF,if_neg (by omega),if_pos (by omega)]
  ·refine(qus c s w h hp (by omega)).mono fun e w'=>hno e w' ?_;rw[hc];show rdNum (s[0]::yo s)=none;rw[vF,if_pos (by omega)]
 ·refine(qm4 c s w h (by omega)).mono fun e w'=>hno e w' ?_;have:bl s=[]:=List.length_eq_zero_iff.1 (by rw[zg];omega);rw[this];rfl
end Go.Proofs.YtdpbdkacngaemaaGreatDoor.wi
namespace Go.Proofs.YtdpbdkacngaemaaGreatDoor.mt
open _root_.Go.Proofs.Tryz Go Go.RowKit ib wi
def QS (w:World)(c:Nat)(s:St):Prop:=match s with
 | none=>∃q,dR c q true w
 | some l=>∃q,bl q=l∧dR c q false w
structure RS(w:World)(p c b:Nat)(s:St):Prop where
 blk:qh w p 210 #[.pointer (some ⟨c,0,none⟩),.int .i64 (b:Int)]
 ne:c≠p
 left:QS w c s
def Tc (c:Nat)(j:Nat):Prop:=j=c
theorem jb {w w':World}{c:Nat}(h:w.grownBy w' (some c)):qB (Tc c) w w':=⟨h.os,h.tape,h.output,h.size,fun k hk hn=>h.block k hk (fun e=>hn (by simpa[Tc]using e))⟩
theorem QS.lt{w:World}{c:Nat}{s:St}(h:QS w c s):c<w.heap.size:=by
 unfold QS at h;split at h
 ·obtain⟨q,h1,_⟩:=h;exact(Array.getElem?_eq_some_iff.1 h1).1
 ·obtain⟨q,_,h1,_⟩:=h;exact(Array.getElem?_eq_some_iff.1 h1).1
theorem QS.block{w w':World}{c:Nat}{s:St}(h:QS w c s)(hb:w'.heap[c]?=w.heap[c]?):QS w' c s:=by
 unfold QS at h ⊢;split at h
 ·obtain⟨q,h1,h2⟩:=h;exact⟨q,hb.trans h1,h2⟩
 ·obtain⟨q,h0,h1,h2⟩:=h;exact⟨q,h0,hb.trans h1,h2⟩
theorem RS.below{w w':World}{p c b:Nat}{s:St}(h:RS w p c b s)(hb:Below w.heap.size w w'):RS w' p c b s:=⟨h.blk.below hb,h.ne,h.left.block (hb.block _ h.left.lt)⟩
theorem RS.turn{w w':World}{p c b:Nat}{s s':St}(h:RS w p c b s)(hb:qB (Tc c) w w')(hq:QS w' c s'):RS w' p c b s':=⟨h.blk.of_block (hb.block _ h.blk.lt (fun e=>h.ne e.symm)),h.ne,hq⟩
def qc4 (c:Nat)(s:St)(w:World)(e:Ending)(w':World):Prop:=e=.returned (.int .u64 ((zP s).1:Int))∧qB (Tc c) w w'∧QS w' c (zP s).2
theorem aX {w:World}{c:Nat}{s:St}(h:QS w c s):Calls prog 214 #[.pointer (some ⟨c,0,none⟩)] w (qc4 c s w):=by
 unfold QS at h;split at h
 ·obtain⟨q,h1⟩:=h;refine(qur c q w h1).mono ?_;rintro e w' ⟨hg,rfl,hq⟩;exact⟨rfl,jb hg,_,hq⟩
 ·obtain⟨q,rfl,h1⟩:=h;refine(quu c q w h1).mono ?_;rintro e w' ⟨hg,⟨n,r,s',h2,rfl,h3,hq⟩|⟨h2,rfl,hq⟩⟩
  ·have hn:zP (some (bl q))=(n,some r):=by unfold zP;simp only[h2]
   unfold qc4;rw[hn];exact⟨rfl,jb hg,s',h3,hq⟩
  ·have hn:zP (some (bl q))=(0,none):=by unfold zP;simp only[h2]
   unfold qc4;rw[hn];exact⟨rfl,jb hg,_,hq⟩
def qq0 (p c b:Nat)(s:St)(w:World)(e:Ending)(w':World):Prop:=e=.returned (gv (jS s).1)∧qB (Tc c) w w'∧RS w' p c b (jS s).2
theorem qF {w:World}{p c b:Nat}{s:St}(h:RS w p c b s):Calls prog 133 #[.pointer (some ⟨p,0,none⟩)] w (qq0 p c b s w):=by
 have hb0:=(Below.refl w.heap.size w).alloc (Nat.le_refl _) (.cells #[.int .u64 0,.int .u64 0] 38);have rF:=QH (h.below hb0);have iu:=QH (qh.new w 38 #[.int .u64 0,.int .u64 0]);have jT:=QH (qB.of_below (S:=Tc c) hb0);have yK:=QH h.left.lt;have HPL:=QH h.blk.lt;obtain⟨w0,hw0⟩:=QE (w.alloc (.cells #[.int .u64 0,.int .u64 0] 38));rw[hw0]at rF iu jT;have c0:=rF.out.blk.cell 0;simp only[QA,QB,QC]at c0;have hlt:=rF.out.blk.lt;clear h hb0;go_enter func133,ntmps133;go_wp2_with fail;try rw[hw0]
 clear hw0 c0;refine(aX rF.out.left).mono ?_;rintro e W1 ⟨rfl,hb1,hq1⟩;have tO:=QH (rF.out.turn hb1 hq1);have cB:=QH (iu.out.of_block (hb1.block _ iu.out.lt (fun e=>by have:=yK.out;unfold Tc at e;omega)));have qU:=QH (jT.out.trans hb1 (fun i hi=>.inl hi));clear hb1 hq1 jT iu;have c0:=tO.out.blk.cell 0;simp only[QA,QB,QC]at c0;have hlt:=tO.out.blk.lt;obtain⟨x,hx⟩:=QE ((zP s).1:Nat);rw[hx];have HX:=QH hx;clear hx;dsimp only;go_wp2_with fail;refine(aX tO.out.left).mono ?_;rintro e W2 ⟨rfl,hb2,nS⟩;have uS:=QH (tO.out.turn hb2 nS);have uT:=QH (cB.out.of_block (hb2.block _ cB.out.lt (fun e=>by have:=yK.out;unfold Tc at e;omega)));have qG:=QH (qU.out.trans hb2 (fun i hi=>.inl hi));obtain⟨y,hy⟩:=QE ((zP (zP s).2).1:Nat);rw[hy];have HY:=QH hy;have q0:=uT.out.cell 0;have q1:=uT.out.cell 1;simp only[QA,QB,QC]at q0 q1;have f0:=uT.out.frozen 0;have f1:=uT.out.frozen 1;have hlA:=uT.out.lt;clear hy hb2 nS qU cB c0;dsimp only;go_wp2_with fail;have fx:=QH ((uT.out.qu 0 (.int .u64 (x:Int))).qu 1 (.int .u64 (y:Int)));have q0:=fx.out.cell 0;have q1:=fx.out.cell 1;simp at q0 q1;have HG:Hid (gv (jS s).1=.agg #[.int .u64 (x:Int),.int .u64 (y:Int)]):=by unfold Hid gv jS;dsimp only;rw[HX.out,HY.out]
 refine bodyPost_ret (v:=.agg #[.int .u64 (x:Int),.int .u64 (y:Int)]) (by simp[results,results133,go_sem,q0,q1]) rfl ?_;have hnew:∀(k:Nat) (u:Value) (W:World),qB (Tc c) w W→qB (Tc c) w (W.setCell ⟨w.heap.size,k,none⟩ u):=fun k u W h=>h.setCell _ _ (.inr (Nat.le_refl _));refine⟨by rw[HG.out],hnew _ _ _ (hnew _ _ _ qG.out),?_⟩;have hr:=uS.out;have hp:=HPL.out;have hc:=yK.out;have hbb:∀(k:Nat) (u:Value) (W:World),RS W p c b (jS s).2→RS (W.setCell ⟨w.heap.size,k,none⟩ u) p c b (jS s).2:=fun k u W h =>
  ⟨h.blk.of_block (Below.heap_setCell _ _ _ _ (fun e=>by simp at e;omega)),h.ne,h.left.block (Below.heap_setCell _ _ _ _ (fun e=>by simp at e;omega))⟩
 exact hbb _ _ _ (hbb _ _ _ hr)
end Go.Proofs.YtdpbdkacngaemaaGreatDoor.mt
namespace Go.Proofs.YtdpbdkacngaemaaGreatDoor.ib
open _root_.Go.Proofs.Tryz Go Go.RowKit
theorem kH {w:World}{a b:Nat}{t u:TypeId}{x y:Array Value}(h:qh w a t x)(k:qh w b u y)(hn:t≠u):a≠b:=by
 rintro rfl;unfold qh at h k;rw[h]at k;simp only[Option.some.injEq,Obj.cells.injEq]at k;exact hn k.2.1
theorem qap{w:World}{base e size n a:Nat}{v:Value}{xs:List Value}{t:TypeId}{x:Array Value}(h:w.ownsRow base e size v n xs)(k:qh w a t x)(hn:t≠e):∀j,v.ownBlock=some j→j≠a:=by
 intro j hj;rcases h.2 with⟨rfl,_⟩|⟨g,cap,cur,rfl,_,hg,_⟩
 ·cases hj
 ·simp[Value.ownBlock]at hj;subst hj;exact(kH k hg hn).symm
theorem zK {w w':World}{base e size n:Nat}{v:Value}{zs:List Value}(h:w.ownsRow base e size v n zs)(hb:∀k,v.ownBlock=some k→w'.heap[k]?=w.heap[k]?):w'.ownsRow base e size v n zs:=by
 refine⟨h.1,?_⟩;rcases h.2 with h2|⟨g',cap,cur,h1,h2,h3,h4⟩
 ·exact .inl h2
 ·refine .inr ⟨g',cap,cur,h1,h2,(hb g' ?_).trans h3,h4⟩;rw[h1];rfl
theorem qaq{w:World}{B B' e size n:Nat}{v:Value}{zs:List Value}(h:w.ownsRow B e size v n zs)(hB:B'≤B):w.ownsRow B' e size v n zs:=by
 refine⟨h.1,?_⟩;rcases h.2 with h2|⟨g',cap,cur,h1,h2,h3⟩
 ·exact .inl h2
 ·exact .inr ⟨g',cap,cur,h1,Nat.le_trans hB h2,h3⟩
theorem yq {w:World}{base e size n:Nat}{v:Value}{xs:List Value}(h:w.ownsRow base e size v n xs):∃A c,v=.slice A n c:=by
 rcases h.2 with⟨rfl,rfl⟩|⟨g,cap,cur,rfl,_⟩
 ·exact⟨none,0,rfl⟩
 ·exact⟨_,cap,rfl⟩
theorem qw (w:World)(g i:Nat)(u:Value)(k:Nat)(h:k≠g):(w.setCell ⟨g,i,none⟩ u).heap[k]?=w.heap[k]? :=Below.heap_setCell _ _ _ _ h
def Kp (r:TypeId)(w w':World):Prop:=∀j t cs,t≠r→qh w j t cs→qh w' j t cs
theorem Kp.refl(r:TypeId)(w:World):Kp r w w:=fun _ _ _ _ h=>h
theorem Kp.trans{r:TypeId}{a b c:World}(h:Kp r a b)(k:Kp r b c):Kp r a c:=fun j t cs hn hb=>k j t cs hn (h j t cs hn hb)
theorem Kp.of_below{r:TypeId}{w w':World}(h:Below w.heap.size w w'):Kp r w w':=fun _ _ _ _ hb=>hb.below h
theorem Kp.ld{r:TypeId}{w w':World}{c:Nat}{x:Array Value}(h:qB (fun j=>j=c) w w')(hc:qh w c r x):Kp r w w':=fun j t cs hn hb =>
 hb.of_block (h.block j hb.lt (kH hb hc hn))
theorem Kp.uA{r:TypeId}{w:World}{g:Nat}{x:Array Value}(i:Nat)(u:Value)(hg:qh w g r x):Kp r w (w.setCell ⟨g,i,none⟩ u):=fun j t cs hn hb =>
 hb.of_block (qw _ _ _ _ _ (kH hb hg hn))
theorem Kp.row{r:TypeId}{w w':World}{base e size n:Nat}{v:Value}{zs:List Value}(h:Kp r w w')(hn:e≠r)(ho:w.ownsRow base e size v n zs):w'.ownsRow base e size v n zs:=by
 refine⟨ho.1,?_⟩;rcases ho.2 with h2|⟨g',cap,cur,h1,h2,h3,h4⟩
 ·exact .inl h2
 ·exact .inr ⟨g',cap,cur,h1,h2,h g' e cur hn h3,h4⟩
end Go.Proofs.YtdpbdkacngaemaaGreatDoor.ib
namespace Go.Proofs.YtdpbdkacngaemaaGreatDoor.mt
open _root_.Go.Proofs.Tryz Go Go.RowKit ib wi
theorem qiG:(prog.info? 141).map (fun i=>(i.zero,i.size,i.bytes))=some (some (.agg #[.int .u64 0,.int .u64 0,.slice none 0 0,.bool false]),4,48):=by kernel_rfl
abbrev aZ:=Sp × Value
def cQ (x:aZ):List Value:=[.int .u64 (x.1.g.1:Int),.int .u64 (x.1.g.2:Int),x.2,.bool x.1.hid]
def zt:List aZ→List Value
 | []=>[]
 | x::r=>cQ x++zt r
theorem bf:∀(l r:List aZ),zt (l++r)=zt l++zt r
 | [],_=>rfl
 | x::l,r=>by
  show cQ x++zt (l++r)=cQ x++zt l++zt r;rw[bf l r,List.append_assoc]
theorem qf6(x:aZ):zt [x]=cQ x:=by simp[zt]
theorem yD:∀l:List aZ,(zt l).length=l.length*4
 | []=>rfl
 | x::l=>by simp[zt,cQ,yD l];omega
theorem xE:∀(l:List aZ) (i:Nat) (h:i<l.length) (j:Nat),j<4→(zt l)[i*4+j]?=(cQ l[i])[j]?
 | x::l,0,_,j,hj=>by
  show(cQ x++zt l)[0*4+j]?=_;rw[List.getElem?_append_left (by simp[cQ];omega),Nat.zero_mul,Nat.zero_add];rfl
 | x::l,i+1,h,j,hj=>by
  have:=xE l i (by simpa using h) j hj;show(cQ x++zt l)[(i+1)*4+j]?=_;rw[List.getElem?_append_right (by simp[cQ];omega)];rw[show(i+1)*4+j-(cQ x).length=i*4+j from by simp[cQ];omega];exact this
theorem wO (w:World)(B:Nat):qV w B (.slice none 0 0) []:=World.ownsRow_nil _ _ _ _
def vG (w:World)(B:Nat)(v:Value)(xs:List aZ):Prop:=w.ownsRow B 141 4 v xs.length (zt xs)∧∀x∈xs,qV w B x.2 x.1.qp
theorem vG.nil(w:World)(B:Nat):vG w B (.slice none 0 0) []:=⟨World.ownsRow_nil _ _ _ _,fun x hx=>absurd hx (by simp)⟩
section
variable {w w':World} {B:Nat} {v:Value} {xs:List aZ} {r:TypeId}
theorem vG.kp(h:vG w B v xs)(hk:Kp r w w')(h1:141≠r)(h2:3≠r):vG w' B v xs :=
 ⟨hk.row h1 h.1,fun x hx=>hk.row h2 (h.2 x hx)⟩
theorem vG.below(h:vG w B v xs)(hb:Below w.heap.size w w'):vG w' B v xs:=h.kp (r:=1000000) (Kp.of_below hb) (by decide) (by decide)
theorem kI {zs:List Int}(h:qV w B v zs)(hk:Kp r w w')(h1:3≠r):qV w' B v zs:=hk.row h1 h
theorem qes{zs:List Int}(h:qV w B v zs)(hz:∀z∈zs,qA z):∃A c,v=.slice A zs.length c∧yU w A zs c:=by
 rcases h.2 with⟨rfl,h0⟩|⟨g,cap,cur,rfl,hg,hh,hcc,hm,hcs,yb⟩
 ·obtain rfl:zs=[]:=List.length_eq_zero_iff.1 h0;exact⟨none,0,rfl,yU.none _⟩
 ·obtain⟨A,cc,hv,hi,hb⟩:=qV.view h hz;simp only[Value.slice.injEq]at hv;obtain⟨rfl,_,rfl⟩:=hv;exact⟨_,_,rfl,hi,by omega,fun h=>by cases h⟩
theorem vG.view(h:vG w B v xs)(hz:∀x∈xs,∀z∈x.1.qp,qA z)(hg:∀x∈xs,zV x.1.g) :
    ∃A c,v=.slice A (xs.map (·.1)).length c∧ji w A (xs.map (·.1))∧((xs.map (·.1)).length≤c∧(A=none→(xs.map (·.1)).length=0∧c=0)):=by
 obtain⟨h1,h2⟩:=h;rcases h1.2 with⟨rfl,h0⟩|⟨g,cap,cur,rfl,hgB,hh,hcc,hm,hcs,yb⟩
 ·obtain rfl:xs=[]:=List.length_eq_zero_iff.1 h0;exact⟨none,0,rfl,ji.nil _ _,Nat.le_refl _,fun _=>⟨rfl,rfl⟩⟩
 ·refine⟨some ⟨g,0,none⟩,cap,by simp,fun i hi=>?_,by simpa using hcc,fun h=>by cases h⟩;have hix:i<xs.length:=by simpa using hi
  have jQ:g<w.heap.size:=(Array.getElem?_eq_some_iff.1 hh).1;have key:∀(j:Nat) (u:Value),(zt xs)[j]?=some u→w.cell? ⟨g,j,none⟩=some u:=by
   intro j u hu;rw[cell_of_row w g j cur 141 (0,0) hh];rw[← yb,List.getElem?_take]at hu;split at hu
   ·simpa using hu
   ·cases hu
  obtain⟨A',c',hv,dG⟩:=qes (h2 _ (List.getElem_mem hix)) (hz _ (List.getElem_mem hix));have e:(xs.map (·.1))[i]=xs[i].1:=by simp
  rw[e];refine⟨g,0,A',c',rfl,jQ,?_,?_,?_,?_,dG,hg _ (List.getElem_mem hix)⟩
  ·rw[Nat.zero_add];have:=key (i*4+0) _ (xE xs i hix 0 (by omega));exact this
  ·rw[Nat.zero_add];exact key (i*4+1) _ (xE xs i hix 1 (by omega))
  ·rw[Nat.zero_add];have:=key (i*4+2) _ (xE xs i hix 2 (by omega));rw[← hv];exact this
  ·rw[Nat.zero_add];exact key (i*4+3) _ (xE xs i hix 3 (by omega))
end
end Go.Proofs.YtdpbdkacngaemaaGreatDoor.mt
namespace Go.Proofs.YtdpbdkacngaemaaGreatDoor.mt.pg
open _root_.Go.Proofs.Tryz Go Go.RowKit ib wi im mt
def PS (w:World)(c:Nat)(s:St):Prop:=match s with
 | none=>∃l,zj c l true w
 | some l=>zj c l false w
theorem PS.blk{w:World}{c:Nat}{s:St}(h:PS w c s):∃x,qh w c 274 x:=by
 unfold PS at h;split at h
 ·obtain⟨l,g,o,cap,h1,_⟩:=h;exact⟨_,h1⟩
 ·obtain⟨g,o,cap,h1,_⟩:=h;exact⟨_,h1⟩
theorem PS.lt{w:World}{c:Nat}{s:St}(h:PS w c s):c<w.heap.size:=by
 obtain⟨x,hx⟩:=h.blk;exact hx.lt
theorem PS.below{w w':World}{c:Nat}{s:St}(h:PS w c s)(hb:Below w.heap.size w w'):PS w' c s:=by
 unfold PS at h ⊢;split at h
 ·obtain⟨l,h⟩:=h;exact⟨l,h.below hb⟩
 ·exact h.below hb
theorem qiH{w:World}{c x:Nat}{l:List UInt8}{bad:Bool}{t:TypeId}{cs:Array Value}(h:zj c l bad w)(hx:qh w x t cs)(h1:t≠274)(h2:t≠5)(k:Nat)(v:Value):zj c l bad (w.setCell ⟨x,k,none⟩ v):=by
 obtain⟨g,o,cap,hb,hr,h3,h4⟩:=h;have hc:c≠x:=fun e=>by
  subst e;unfold qh at hx;rw[hb]at hx;simp only[Option.some.injEq,Obj.cells.injEq]at hx;exact h1 hx.2.1.symm
 have hg:g≠x:=fun e=>by
  subst e;obtain⟨cs',fr,hg,_⟩:=hr;unfold qh at hx;rw[hg]at hx;simp only[Option.some.injEq,Obj.cells.injEq]at hx;exact h2 hx.2.1.symm
 exact⟨g,o,cap,(Below.heap_setCell _ _ _ _ hc).trans hb,hr.keep (Below.heap_setCell _ _ _ _ hg),h3,h4⟩
theorem PS.set{w:World}{c x:Nat}{s:St}{t:TypeId}{cs:Array Value}(h:PS w c s)(hx:qh w x t cs)(h1:t≠274)(h2:t≠5)(k:Nat)(v:Value):PS (w.setCell ⟨x,k,none⟩ v) c s:=by
 unfold PS at h ⊢;split at h
 ·obtain⟨l,h⟩:=h;exact⟨l,qiH h hx h1 h2 k v⟩
 ·exact qiH h hx h1 h2 k v
structure Rd(w:World)(c:Nat)(s:St)(w':World):Prop where
 but:qB (Tc c) w w'
 ps:PS w' c s
theorem Rd.kp{w w':World}{c:Nat}{s s':St}(h:PS w c s)(hr:Rd w c s' w'):Kp 274 w w':=by
 obtain⟨x,hx⟩:=h.blk;exact Kp.ld hr.but hx
theorem Rd.trans{a w w':World}{c:Nat}{s s':St}(h:Rd a c s w)(k:Rd w c s' w'):Rd a c s' w':=⟨h.but.trans k.but fun i hi=>.inl hi,k.ps⟩
theorem Rd.new{a w w':World}{c:Nat}{s:St}(h:Rd a c s w)(hb:Below w.heap.size w w'):Rd a c s w':=⟨h.but.trans (qB.of_below (S:=Tc c) hb) fun i hi=>.inl hi,h.ps.below hb⟩
theorem Rd.set{a w:World}{c x:Nat}{s:St}{t:TypeId}{cs:Array Value}(h:Rd a c s w)(hx:qh w x t cs)(hn:a.heap.size≤x)(h1:t≠274)(h2:t≠5)(k:Nat)(v:Value):Rd a c s (w.setCell ⟨x,k,none⟩ v) :=
 ⟨h.but.setCell _ _ (.inr hn),h.ps.set hx h1 h2 k v⟩
theorem Rd.blk{w w':World}{c x:Nat}{s:St}{t:TypeId}{cs:Array Value}(h:Rd w c s w')(hx:qh w x t cs)(hp:∃y,qh w c 274 y)(hn:t≠274):qh w' x t cs:=by
 obtain⟨y,hy⟩:=hp;exact hx.of_block (h.but.block _ hx.lt (kH hx hy hn))
def qc4 (c:Nat)(s:St)(w:World)(e:Ending)(w':World):Prop:=e=.returned (.int .u64 ((zP s).1:Int))∧Rd w c (zP s).2 w'
theorem wP {w:World}{c:Nat}{s:St}(h:PS w c s):Calls prog 191 #[.pointer (some ⟨c,0,none⟩)] w (qc4 c s w):=by
 unfold PS at h;split at h
 ·obtain⟨l,h1⟩:=h;refine(l7 c l w h1).mono ?_;rintro e w' ⟨rfl,rfl⟩;exact⟨rfl,qB.refl _ _,l,h1⟩
 ·rename_i l;refine(uP c l w h).mono ?_;rintro e w' ⟨hg,⟨n,r,hn,rfl,hr⟩|⟨hn,rfl,m,hm⟩⟩
  ·have hq:zP (some l)=(n,some r):=by unfold zP;simp only[hn]
   unfold qc4;rw[hq];exact⟨rfl,jb hg,hr⟩
  ·have hq:zP (some l)=(0,none):=by unfold zP;simp only[hn]
   unfold qc4;rw[hq];exact⟨rfl,jb hg,m,hm⟩
def quw (k c:Nat)(s:St)(w:World)(e:Ending)(w':World):Prop:=e=.returned (.int .i64 ((jP k s).1:Int))∧Rd w c (jP k s).2 w'
theorem wQ {w:World}{c:Nat}{s:St}(h:PS w c s)(k:Nat)(K:Int)(hK:K=(k:Int))(hk:k≤2000):Calls prog 200 #[.pointer (some ⟨c,0,none⟩),.int .i64 K] w (quw k c s w):=by
 subst hK;have HN:=QH (wP h);have hm:min ((zP s).1:Int) ((k:Int)+1)=((jP k s).1:Int):=by
  unfold jP;dsimp only;omega
 have hm2:(if ((k:Int)+1:Int)<((zP s).1:Int)then((k:Int)+1:Int)else((zP s).1:Int))=((jP k s).1:Int):=by
  unfold jP;dsimp only;split <;> omega
 have hsm:=cO k s;obtain⟨n,hn⟩:=QE ((zP s).1);have hl:=ru s;rw[hn]at hm hm2 hl;have HNN:=QH hn;obtain⟨r,hr⟩:=QE ((jP k s).1);rw[hr]at hm hm2 hsm;have cD:=QH hr;clear hn hr h;go_enter func200,ntmps200;go_wp2_with fail;refine HN.out.mono ?_;rintro e W ⟨rfl,hq⟩;rw[HNN.out];have HQ:=QH hq;clear hq;go_wp2_with fail;go_ret;exact⟨by rw[cD.out];rfl,HQ.out⟩
abbrev ptr (b:Nat):Value:=.pointer (some ⟨b,0,none⟩)
theorem qm8{w:World}{rb c:Nat}{s:St}(h:PS w c s)(hr:qh w rb 198 #[ptr c]):Calls prog 203 #[ptr rb] w (quw 1024 c s w):=by
 have HU:=QH (wQ h 1024 1024 rfl (by omega));have c0:=hr.cell 0;simp only[List.getElem?_toArray,List.getElem?_cons_zero]at c0;have hlt:=hr.lt;clear h hr;go_enter func203,ntmps203;go_wp2_with fail;refine HU.out.mono ?_;rintro e W ⟨rfl,hq⟩;have HQ:=QH hq;clear hq c0;go_wp2_with fail;go_ret;exact⟨rfl,HQ.out⟩
theorem qiI{l:List Int}{n k:Nat}(hl:l.length=k)(hk:k<n)(z:Int):(l++List.replicate (n-k) 0).set k z=(l++[z])++List.replicate (n-(k+1)) 0:=by
 rw[List.set_append_right _ _ (by omega),hl,Nat.sub_self,show n-k=(n-(k+1))+1 by omega,List.replicate_succ,List.set_cons_zero,List.append_assoc];rfl
def qoX (n c:Nat)(s:St)(w:World)(e:Ending)(w':World):Prop:=∃g,e=.returned (.slice (some ⟨g,0,none⟩) n n)∧w.heap.size≤g∧qh w' g 3 (qj (wy n s).1)∧Rd w c (wy n s).2 w'
def quy (n c g:Nat)(s:St)(w:World)(i:Value)(wr:World):Prop :=
 ∃k:Nat,k≤n∧i=.int .i64 (k:Int)∧qh wr g 3 (qj ((wy k s).1++List.replicate (n-k) 0))∧Rd w c (wy k s).2 wr
theorem lf {w:World}{rb c:Nat}{s:St}(n:Nat)(hn:n≤1000)(h:PS w c s)(hr:qh w rb 198 #[ptr c]) :
    Calls prog 202 #[.int .i64 (n:Int),.func (.func 203) #[] #[ptr rb]] w (qoX n c s w):=by
 have hmk:∀W,(Instr.makeSlice 80 (.int .i64 (n:Int)) (.int .i64 (n:Int))).run prog W=.ok (.slice (some ⟨W.heap.size,0,none⟩) n n) (W.alloc (.cells (qj (List.replicate n 0)) 3)):=fun W=>by
  have:=oO (n:Int) (by omega) (by omega) W
  rwa [Int.toNat_natCast]at this
 have HP:=QH h;have HR:=QH hr;clear h hr;go_enter func202,ntmps202;go_wp2_with fail;have hb:=(Below.refl w.heap.size w).alloc (Nat.le_refl _) (.cells (qj (List.replicate n 0)) 3);have HG:=QH (qh.new w 3 (qj (List.replicate n 0)));have iG:Hid (Rd w c s (w.alloc (.cells (qj (List.replicate n 0)) 3))):=⟨qB.of_below hb,HP.out.below hb⟩;obtain⟨W0,hW0⟩:=QE (w.alloc (.cells (qj (List.replicate n 0)) 3));rw[hW0]at HG iG;try rw[hW0]
 clear hb hW0 hmk;obtain⟨g,hg⟩:=QE w.heap.size;have dm:=QH (Nat.le_of_eq hg);rw[hg]at HG;try rw[hg]
 clear hg;go_loopw [6,11] (fun _ i wr=>quy n c g s w i wr) (fun _ i _=>n-(intOf i).toNat);case atStart=>exact⟨0,Nat.zero_le _,rfl,by simpa[wy]using HG.out,iG.out⟩
 case round =>
  obtain⟨k,hk,rfl,hG,hR⟩:=hrel;have HGK:=QH hG;have HRK:=QH hR;clear hG hR;by_cases hlt:k<n
  ·have ja:(k:Int)<(n:Int):=by omega
   have HRB:=QH (HRK.out.blk HR.out HP.out.blk (by decide));go_wp2_with fail;refine(qm8 HRK.out.ps HRB.out).mono ?_;rintro e W ⟨rfl,hq⟩;have fy:=ke k s;have uh:=QH (qab k s);have hGW:=hq.blk HGK.out HRK.out.ps.blk (by decide);have HGW:=QH hGW;have HQ:=QH (HRK.out.trans hq);have f0:=hGW.frozen k;have hlg:=hGW.lt;obtain⟨u,hu⟩:∃u,W.cell? ⟨g,k,none⟩=some u:=by
    rw[hGW.cell k,kr _ k (by rw[List.length_append,fy,List.length_replicate];omega)];exact⟨_,rfl⟩
   have HFS:=QH (fun z=>qiI (n:=n) fy hlt z);have dH:=QH fy;obtain⟨z,hz⟩:=QE ((jP 1024 (wy k s).2).1:Nat);rw[hz];have HZ:=QH hz;clear hq hGW fy hz HGK HRK HRB;go_wp2_with fail;go_roundw;case rel =>
    have nT:=HGW.out.qu k (.int .i64 (z:Int));rw[l8,HFS.out]at nT;have hRd:=HQ.out.set HGW.out dm.out (by decide) (by decide) k (.int .i64 (z:Int));refine⟨k+1,by omega,by go_num,?_,?_⟩
    ·rw[uh.out,HZ.out];exact nT
    ·rw[uh.out];exact hRd
   case measure=>simp[intOf];omega
  ·have ja:¬ (k:Int)<(n:Int):=by omega
   obtain rfl:k=n:=by omega
   have hG:=HGK.out;rw[Nat.sub_self,List.replicate_zero,List.append_nil]at hG;have HG2:=QH hG;clear hG;go_wp2_with fail;go_ret;exact⟨g,rfl,dm.out,HG2.out,HRK.out⟩
theorem kJ {w:World}{kb rb c b:Nat}{s:St}(hb:b≤100)(h:PS w c s)(hk:qh w kb 3 #[.int .i64 (b:Int)])(hr:qh w rb 198 #[ptr c]) :
    Calls prog 201 #[ptr kb,ptr rb] w (qoX b c s w):=by
 have HL:=QH (lf b (by omega) h hr);have c0:=hk.cell 0;simp only[List.getElem?_toArray,List.getElem?_cons_zero]at c0;have hlt:=hk.lt;clear h hr hk;go_enter func201,ntmps201;go_wp2_with fail;refine HL.out.mono ?_;rintro e W ⟨g,rfl,hq⟩;have HQ:=QH hq;clear hq c0;go_wp2_with fail;go_ret;exact⟨g,rfl,HQ.out⟩
def qq0 (c:Nat)(s:St)(w:World)(e:Ending)(w':World):Prop:=e=.returned (gv (jS s).1)∧Rd w c (jS s).2 w'
theorem qF {w:World}{c:Nat}{s:St}(h:PS w c s):Calls prog 206 #[ptr c] w (qq0 c s w):=by
 have hb0:=(Below.refl w.heap.size w).alloc (Nat.le_refl _) (.cells #[.int .u64 0,.int .u64 0] 38);have rF:Hid (Rd w c s (w.alloc (.cells #[.int .u64 0,.int .u64 0] 38))):=⟨qB.of_below hb0,h.below hb0⟩;have iu:=QH (qh.new w 38 #[.int .u64 0,.int .u64 0]);obtain⟨w0,hw0⟩:=QE (w.alloc (.cells #[.int .u64 0,.int .u64 0] 38));rw[hw0]at rF iu;clear h hb0;go_enter func206,ntmps206;go_wp2_with fail;try rw[hw0]
 clear hw0;refine(wP rF.out.ps).mono ?_;rintro e W1 ⟨rfl,hq1⟩;have cB:=QH (hq1.blk iu.out rF.out.ps.blk (by decide));have tO:=QH (rF.out.trans hq1);clear hq1 iu rF;obtain⟨x,hx⟩:=QE ((zP s).1:Nat);rw[hx];have HX:=QH hx;clear hx;go_wp2_with fail;refine(wP tO.out.ps).mono ?_;rintro e W2 ⟨rfl,nS⟩;have uT:=QH (nS.blk cB.out tO.out.ps.blk (by decide));have uS:=QH (tO.out.trans nS);obtain⟨y,hy⟩:=QE ((zP (zP s).2).1:Nat);rw[hy];have HY:=QH hy;have q0:=uT.out.cell 0;have q1:=uT.out.cell 1;simp only[QA,QB,QC]at q0 q1;have f0:=uT.out.frozen 0;have f1:=uT.out.frozen 1;have hlA:=uT.out.lt;clear hy nS cB tO;go_wp2_with fail;have hA3:=uT.out.qu 0 (.int .u64 (x:Int));have fx:=QH (hA3.qu 1 (.int .u64 (y:Int)));have q0:=fx.out.cell 0;have q1:=fx.out.cell 1;simp at q0 q1;have HG:Hid (gv (jS s).1=.agg #[.int .u64 (x:Int),.int .u64 (y:Int)]):=by unfold Hid gv jS;dsimp only;rw[HX.out,HY.out]
 have cD:=QH ((uS.out.set uT.out (Nat.le_refl _) (by decide) (by decide) 0 (.int .u64 (x:Int))).set hA3 (Nat.le_refl _) (by decide) (by decide) 1 (.int .u64 (y:Int)));refine bodyPost_ret (v:=.agg #[.int .u64 (x:Int),.int .u64 (y:Int)]) (by simp[results,results206,go_sem,q0,q1]) rfl ?_;exact⟨by rw[HG.out],cD.out⟩
end Go.Proofs.YtdpbdkacngaemaaGreatDoor.mt.pg
namespace Go.Proofs.YtdpbdkacngaemaaGreatDoor.mt.pg
open _root_.Go.Proofs.Tryz Go Go.RowKit ib mt
def yV (a b:Nat):Int:=if a<b then -1 else if b<a then 1 else 0
def same (r:Value)(w:World)(e:Ending)(w':World):Prop:=e=.returned r∧w'=w
theorem qet(a:Nat)(w:World):Calls prog 258 #[.int .u64 (a:Int)] w (same (.bool false) w):=by
 have hq:((a:Int) != (a:Int))=false:=by simp
 go_enter func258,ntmps258;go_wp2_with fail;go_ret;exact⟨by simp,rfl⟩
theorem iH (a b:Nat)(w:World):Calls prog 212 #[.int .u64 (a:Int),.int .u64 (b:Int)] w (same (.int .i64 (yV a b)) w):=by
 have HA:=QH (qet a w);have HB:=QH (qet b w);by_cases h1:a<b
 ·have h1i:(a:Int)<(b:Int):=by omega
  have HR:Hid (yV a b = -1):=by unfold Hid yV;rw[if_pos h1]
  clear h1;go_enter func212,ntmps212;go_wp2_with fail;refine HA.out.mono ?_;rintro e _ ⟨rfl,rfl⟩;go_wp2_with fail;refine HB.out.mono ?_;rintro e _ ⟨rfl,rfl⟩;go_wp2_with fail;go_ret;exact⟨by rw[HR.out];rfl,rfl⟩
 by_cases h2:b<a
 ·have h1i:¬ (a:Int)<(b:Int):=by omega
  have h2i:(b:Int)<(a:Int):=by omega
  have HR:Hid (yV a b=1):=by unfold Hid yV;rw[if_neg h1,if_pos h2]
  clear h1 h2;go_enter func212,ntmps212;go_wp2_with fail;refine HA.out.mono ?_;rintro e _ ⟨rfl,rfl⟩;go_wp2_with fail;refine HB.out.mono ?_;rintro e _ ⟨rfl,rfl⟩;go_wp2_with fail;go_ret;exact⟨by rw[HR.out];rfl,rfl⟩
 ·have h1i:¬ (a:Int)<(b:Int):=by omega
  have h2i:¬ (b:Int)<(a:Int):=by omega
  have HR:Hid (yV a b=0):=by unfold Hid yV;rw[if_neg h1,if_neg h2]
  clear h1 h2;go_enter func212,ntmps212;go_wp2_with fail;refine HA.out.mono ?_;rintro e _ ⟨rfl,rfl⟩;go_wp2_with fail;refine HB.out.mono ?_;rintro e _ ⟨rfl,rfl⟩;go_wp2_with fail;go_ret;exact⟨by rw[HR.out];rfl,rfl⟩
theorem qfA{p q:List Int}(k:Nat)(h1:k<p.length)(h2:k<q.length)(h:p.take k=q.take k)(e:p[k]=q[k]):p.take (k+1)=q.take (k+1):=by
 rw[List.take_succ_eq_append_getElem h1,List.take_succ_eq_append_getElem h2,h,e]
def qu0 (p q:List Int)(w:World)(i:Value)(wr:World):Prop :=
 ∃k:Nat,k≤p.length∧i=.int .i64 (k:Int)∧p.take k=q.take k∧Below w.heap.size w wr
theorem dn (A B:Option Addr)(c d:Nat)(p q:List Int)(w:World)(hp:qH w A p)(hq:qH w B q)(hl:p.length≤1000000000) :
    Calls prog 284 #[.slice A p.length c,.slice B q.length d] w (kE (decide (p=q)) w):=by
 have HP:=QH hp;have HQ:=QH hq;clear hp hq;by_cases hlen:p.length=q.length
 ·go_enter func284,ntmps284;go_wp2;go_loopw [13] (fun i wr=>qu0 p q w i wr) (fun i _=>p.length-(intOf i).toNat);case atStart=>exact⟨0,Nat.zero_le _,rfl,rfl,Below.refl _ _⟩
  case round =>
   obtain⟨k,hk,rfl,ht,hB⟩:=hrel;have Ht:=QH ht;clear ht;by_cases hlt:k<p.length
   ·have hlq:k<q.length:=by omega
    obtain⟨b1,o1,rfl,hb1,hc1,hz1⟩:=HP.out k hlt;obtain⟨b2,o2,rfl,hb2,hc2,hz2⟩:=HQ.out k hlq;have qc5:wr.cell? ⟨b1,o1+k,none⟩=some (.int .i64 p[k]):=by rw[hB.cell (p:=⟨b1,o1+k,none⟩) hb1];exact hc1
    have rG:wr.cell? ⟨b2,o2+k,none⟩=some (.int .i64 q[k]):=by rw[hB.cell (p:=⟨b2,o2+k,none⟩) hb2];exact hc2
    have qzD:b1<wr.heap.size:=Nat.lt_of_lt_of_le hb1 hB.size;have qzE:b2<wr.heap.size:=Nat.lt_of_lt_of_le hb2 hB.size;have hi1:(k:Int)<(p.length:Int):=by omega
    have hi2:(k:Int)<(q.length:Int):=by omega
    clear hc1 hc2 hz1 hz2;by_cases he:p[k]=q[k]
    ·have hsn:=QH (qfA k hlt hlq Ht.out he);have qm9:wr.cell? ⟨b2,o2+k,none⟩=some (.int .i64 p[k]):=by rw[he];exact rG
     clear he rG;obtain⟨x,hx⟩:=QE (p[k]);rw[hx]at qc5 qm9;have hxx:(x != x)=false:=by simp
     clear hx;go_wp2;go_quiet (fail);have hB2:=below_drewN hB nq;go_wp2;go_roundw;case rel=>exact⟨k+1,by omega,by go_num,hsn.out,hB2⟩
     case measure=>simp[intOf];omega
    ·have hne:decide (p=q)=false:=by
        simp only[decide_eq_false_iff_not];rintro rfl;exact he rfl
     have Hne:=QH hne;obtain⟨x,hx⟩:=QE (p[k]);obtain⟨y,hy⟩:=QE (q[k]);rw[hx,hy]at he;rw[hx]at qc5;rw[hy]at rG;have hxy:(x != y)=true:=by simpa using he
     clear he hne hx hy;go_wp2;go_quiet (fail);have hB2:=below_drewN hB nq;go_wp2;go_ret;exact⟨by rw[Hne.out];rfl,hB2⟩
   ·have gZ:k=p.length:=by omega
    have heq:decide (p=q)=true:=by
     have:=Ht.out;rw[List.take_of_length_le (by omega),List.take_of_length_le (by omega)]at this;simpa using this
    have Heq:=QH heq;clear heq;go_wp2;go_ret;exact⟨by rw[Heq.out];rfl,hB⟩
 ·have hne:decide (p=q)=false:=by
     simp only[decide_eq_false_iff_not];rintro rfl;exact hlen rfl
  have cE:¬ (p.length:Int)=(q.length:Int):=by omega
  have Hne:=QH hne;clear hne;go_enter func284,ntmps284;go_wp2;go_ret;exact⟨by rw[Hne.out];rfl,Below.refl _ _⟩
def qu3 (x y:Int)(w:World)(i:Value)(wr:World):Prop:=∃k:Nat,k≤2∧i=.int .i64 (k:Int)∧(1≤k→x=0)∧(2≤k→y=0)∧wr=w
theorem qiJ(A:Addr)(c:Nat)(x y:Int)(w:World)(hp:qH w (some A) [x,y]) :
    Calls prog 211 #[.slice (some A) 2 c] w (same (.int .i64 (if x≠0 then x else y)) w):=by
 obtain⟨b0,o0,hA,hb0,hc0,hz0⟩:=hp 0 (by simp);obtain⟨b1,o1,hA1,hb1,hc1,hz1⟩:=hp 1 (by simp);obtain rfl:=Option.some.inj hA;simp only[Option.some.injEq,Addr.mk.injEq,and_true]at hA1;obtain⟨rfl,rfl⟩:=hA1;simp only[List.getElem_cons_zero,List.getElem_cons_succ]at hc0 hc1 hz0 hz1;clear hA hp;obtain⟨res,hres⟩:=QE (if x≠0 then x else y);rw[hres];have HR:=QH hres;clear hres hz0 hz1;rw[Nat.add_zero]at hc0;have HC0:=QH hc0;have HC1:=QH hc1;clear hc0 hc1;go_enter func211,ntmps211;go_wp2_with fail;go_loopw [5,8] (fun _ i wr=>qu3 x y w i wr) (fun _ i _=>2-(intOf i).toNat);case atStart=>exact⟨0,by omega,rfl,fun h=>absurd h (by omega),fun h=>absurd h (by omega),rfl⟩
 case round =>
  obtain⟨k,hk,rfl,h1,h2,rfl⟩:=hrel;by_cases hk2:k<2
  ·have ja:(k:Int)<2:=by omega
   obtain⟨v,hv,hc,hn⟩:∃v,(v≠0→res=v)∧wr.cell? ⟨b0,o0+k,none⟩=some (.int .i64 v)∧(v=0→(1≤k+1→x=0)∧(2≤k+1→y=0)):=by
    match k,hk2 with
    | 0,_=>exact⟨x,fun h=>by rw[← HR.out,if_pos h],HC0.out,fun h=>⟨fun _=>h,fun h=>absurd h (by omega)⟩⟩
    | 1,_=>exact⟨y,fun h=>by rw[← HR.out,if_neg (by simp[h1 (by omega)])],HC1.out,fun h=>⟨fun _=>h1 (by omega),fun _=>h⟩⟩
   have HV:=QH hv;have HN:=QH hn;clear hv hn h1 h2;by_cases hv0:v=0
   ·subst hv0;go_wp2_with fail;go_roundw;case rel=>exact⟨k+1,by omega,by go_num,(HN.out rfl).1,(HN.out rfl).2,rfl⟩
    case measure=>simp[intOf];omega
   ·have hvb:(v != 0)=true:=by simpa using hv0
    have fz:=QH (HV.out hv0);clear hv0;go_wp2_with fail;go_ret;exact⟨by rw[fz.out];rfl,rfl⟩
  ·have ja:¬ (k:Int)<2:=by omega
   have hr:res=0:=by rw[← HR.out,if_neg (by simp[h1 (by omega)]),h2 (by omega)]
   have rF:=QH hr;clear hr h1 h2;go_wp2_with fail;go_ret;exact⟨by rw[rF.out];rfl,rfl⟩
theorem oT (a b:Gd):above a b=decide (0<(if yV a.1 b.1≠0 then yV a.1 b.1 else yV a.2 b.2)):=by
 obtain⟨a1,a2⟩:=a;obtain⟨b1,b2⟩:=b;unfold above yV;rw[Bool.eq_iff_iff];simp only[Bool.or_eq_true,Bool.and_eq_true,decide_eq_true_eq];by_cases h1:a1<b1
 ·simp[h1];omega
 ·by_cases h2:b1<a1
  ·simp[h1,h2]
  ·by_cases h3:a2<b2
   ·simp[h1,h2,h3];omega
   ·by_cases h4:b2<a2
    ·simp[h1,h2,h3,h4];omega
    ·simp[h1,h2,h3,h4]
end Go.Proofs.YtdpbdkacngaemaaGreatDoor.mt.pg
