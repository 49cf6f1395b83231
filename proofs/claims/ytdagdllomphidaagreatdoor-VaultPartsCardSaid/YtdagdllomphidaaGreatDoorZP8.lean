/- PgList, VgPut, VgStg, VgHid, JCommit, JHead, VgChg, VgGds, VgTb3, VgTb2, VgTb4, VgApi1. -/
import Derived.Test.YtdagdllomphidaaGreatDoorZP7
set_option linter.unusedVariables false
set_option linter.unusedSimpArgs false
set_option maxHeartbeats 30000000
set_option maxRecDepth 100000
namespace Go.Proofs.YtdagdllomphidaaGreatDoor.ch.pg
open _root_.Go.Proofs.Tryz Go Go.RowKit Go.Sort ib
def xL (l:List Bt):Array Value:=(l.map fun s=>Value.string (str s)).toArray
theorem kx (l:List Bt)(i:Nat)(h:i<l.length):(xL l)[i]?=some (.string (str l[i])):=by simp[xL,h]
theorem rI (l:List Bt)(i:Nat)(v:Bt):(xL l).setIfInBounds i (.string (str v))=xL (l.set i v):=by
 unfold xL;rw[List.setIfInBounds_toArray,List.map_set]
theorem qgK(n:Nat):madeCells #[.string ByteArray.empty] n=xL (List.replicate n []):=by
 apply Array.ext
 ·simp[size_madeCells,xL]
 ·intro j h1 h2;have e:(xL (List.replicate n []))[j]?=some (.string (str [])):=by
   have hj:j<n:=by simpa[xL]using h2
   rw[kx _ _ (by simpa using hj),List.getElem_replicate]
  rw[Array.getElem?_eq_getElem h2]at e;rw[Option.some.inj e];simp[madeCells,Nat.mod_one];rfl
theorem qgL(n:Nat)(h:n≤1000)(W:World):(Instr.makeSlice 43 (.int .i64 (n:Int)) (.int .i64 (n:Int))).run prog W=.ok (.slice (some ⟨W.heap.size,0,none⟩) n n) (W.alloc (.cells (xL (List.replicate n [])) 9)):=by
 obtain⟨i0,hi,hz0,hz1,hz2⟩:=info_parts Tryz.qma;have hmk:=run_make (P:=prog) W 43 9 i0 (.string ByteArray.empty) underlying43 hi hz0 .i64 .i64 (n:Int) (n:Int) (by omega) (Int.le_refl _) (by rw[hz2];omega) (by omega);rw[hz1]at hmk;rw[← qgK];simpa[Value.cells]using hmk
theorem rJ {ρ:Operand→Value}{o:Oper}{w:World}(x y:Operand)(n:Nat)(ho:o.op=.makeSlice 43 x y)(hx:ρ x=.int .i64 (n:Int))(hy:ρ y=.int .i64 (n:Int))(h:n≤1000) :
    (execOp ρ o).run prog w=.ok (.value (.slice (some ⟨w.heap.size,0,none⟩) n n)) (w.alloc (.cells (xL (List.replicate n [])) 9)):=by
 simp[execOp,ho,hx,hy,qgL n h w,Result.andThen]
theorem qsl(P:Bt)(cs:Array Value)(b o:Nat)(t:TypeId)(w:World)(hp:P.length=32)(h:qf w b t cs)(hc:∀(j:Nat) (u:Value),(Lib.byteCells P)[j]?=some u→cs[o+j]?=some u) :
    (convert 118 9 (.slice (some ⟨b,o,none⟩) 32 32)).run prog w=.ok (.string (str P)) w:=by
 have:=run_convert_bytes_back (P:=prog) w 118 9 5 ⟨b,o,none⟩ 32 P underlying118 underlying5 underlying9 ?_
 ·rw[hp]at this;exact this
 ·intro j hj;rw[addr_add,h.cell];exact hc j _ (by simp[Lib.byteCells,hj])
def qw1 (l:List Bt)(n:Nat)(w:World)(i:Value)(wr:World):Prop :=
 ∃k:Nat,k≤n∧i=.int .i64 (k:Int)∧qf wr w.heap.size 9 (xL (l.take k++List.replicate (n-k) []))∧Below w.heap.size w wr
theorem take_set{l:List Bt}{n k:Nat}(hl:l.length=n)(hk:k<n):(l.take k++List.replicate (n-k) []).set k (l[k]'(by omega))=l.take (k+1)++List.replicate (n-(k+1)) []:=by
 rw[List.set_append_right _ _ (by rw[List.length_take];omega),List.length_take,Nat.min_eq_left (by omega),Nat.sub_self,show n-k=(n-(k+1))+1 by omega,List.replicate_succ,List.set_cons_zero,List.take_succ_eq_append_getElem (by omega),List.append_assoc];rfl
theorem wx {w:World}{b o n:Nat}{t:TypeId}{cs:Array Value}{l:List Bt}(h:qf w b t cs)(hc:∀j u,(vc l)[j]?=some u→cs[o+j]?=some u)(ho:qP n l)(h8:n≤8) :
    Calls prog 97 #[.pointer (some ⟨b,o,none⟩),.int .i64 (n:Int)] w (qjH l w):=by
 have HB:=QH h;have HC:=QH hc;have HO:=QH ho;have nO:Hid (b<w.heap.size):=h.lt;clear h hc ho;go_enter func97,ntmps97;go_wp2_with (at_make;refine qg rfl (rJ _ _ n rfl rfl rfl (by omega)) ?_);go_loopw [6,11] (fun _ i wr=>qw1 l n w i wr) (fun _ i _=>n-(intOf i).toNat);case atStart=>exact⟨0,Nat.zero_le _,rfl,by simpa using qf.new w 9 (xL (List.replicate n [])),(Below.refl _ _).alloc (Nat.le_refl _) _⟩
 case round =>
  obtain⟨k,hk,rfl,yC,wk⟩:=hrel;have HK:=QH yC;have gX:=QH wk;clear yC wk;by_cases hlt:k<n
  ·have jG:(k:Int)<(n:Int):=by omega
   have hk8:(k:Int)<8:=by omega
   have dw:k<l.length:=by rw[HO.out.1];exact hlt
   have hp:k<(pad l).length:=by rw[vL HO.out h8];omega
   have qaj:=qsl l[k] cs b (o+k*32) t wr (HO.out.2 _ (List.getElem_mem dw)) (HB.out.of_block (gX.out.block b nO.out)) (fun j u hu=>by
    rw[Nat.add_assoc];refine HC.out _ _ (qgJ HO.out k hp j u ?_);rw[qwz l k dw hp];exact hu)
   have f1:=HK.out.frozen k;have HS:Hid ((xL (l.take k++List.replicate (n-k) [])).setIfInBounds k (.string (str l[k]))=xL (l.take (k+1)++List.replicate (n-(k+1)) [])):=by
    unfold Hid;rw[rI,take_set HO.out.1 hlt]
   obtain⟨z,hz⟩:∃z,wr.cell? ⟨w.heap.size,k,none⟩=some z:=by
    rw[HK.out.cell k,kx _ _ (by rw[List.length_append,List.length_take,List.length_replicate];omega)];exact⟨_,rfl⟩
   have jZ:=QH (HK.out.qo k (.string (str l[k])));have qB:=QH (gX.out.setCell (p:=⟨w.heap.size,k,none⟩) (Nat.le_refl _) (.string (str l[k])));clear HK gX hp;go_wp2_with fail;go_roundw;case rel=>exact⟨k+1,by omega,by go_num,by rw[← HS.out];exact jZ.out,qB.out⟩
   case measure=>simp[intOf];omega
  ·obtain rfl:k=n:=by omega
   have jG:¬ (k:Int)<(k:Int):=by omega
   have hl:=HO.out.1;have HT:Hid (TxL wr (some ⟨w.heap.size,0,none⟩) l):=fun i hi=>⟨w.heap.size,0,rfl,HK.out.lt,by
    rw[Nat.zero_add,HK.out.cell i,kx _ _ (by rw[List.length_append,List.length_take];omega)];rw[List.getElem_append_left (by rw[List.length_take];omega),List.getElem_take]⟩
   have HLT:=QH HK.out.lt;have bB:=QH hl;clear hl HK;go_wp2_with fail;go_ret;refine⟨_,k,by rw[bB.out];rfl,HT.out,fun b o e=>?_,gX.out⟩;simp only[Option.some.injEq,Addr.mk.injEq,and_true]at e;obtain⟨rfl,_⟩:=e;exact⟨Nat.le_refl _,HLT.out⟩
end Go.Proofs.YtdagdllomphidaaGreatDoor.ch.pg
namespace Go.Proofs.YtdagdllomphidaaGreatDoor.vt.pg
open _root_.Go.Proofs.Tryz Go Go.RowKit Go.Sort ib mt im sp
def cZ:List Int→List Pl→List Int
 | l,[]=>l
 | l,p::r=>cZ (l.set p.1.toNat p.2.1) r
theorem qa4:∀(P:List Pl) (l:List Int) (p:Pl),cZ l (P++[p])=(cZ l P).set p.1.toNat p.2.1
 | [],_,_=>rfl
 | q::P,l,p=>qa4 P (l.set q.1.toNat q.2.1) p
theorem rK:∀(P:List Pl) (l:List Int),(cZ l P).length=l.length
 | [],_=>rfl
 | q::P,l=>by
  show(cZ (l.set q.1.toNat q.2.1) P).length=_;rw[rK P,List.length_set]
theorem qbW:∀(x:List (Int × Bt)) (at_:List Int) (l:List Int),cZ l (PL x at_)=zA l x at_
 | [],_,_=>by rw[kj];rfl
 | _::_,[],_=>by rw[cI];rfl
 | (k,s)::r,a::at_,l=>by
  rw[jD];exact qbW r at_ (l.set k.toNat a)
def PuR (G:Nat→Prop)(l:List Int)(P:List Pl)(w:World)(s i:Value)(wr:World):Prop :=
 ∃(k:Nat) (A:Option Addr) (c:Nat),k≤P.length∧i=.int .i64 (k:Int)∧s=.slice A l.length c∧ay G wr A (cZ l (P.take k)) c∧Below w.heap.size w wr
theorem jk {G:Nat→Prop}{w:World}{A:Option Addr}{c:Nat}{l:List Int}(hl:ay G w A l c)(h1:0<l.length)(qub:l.length≤1000){B:Option Addr}{cb:Nat}{P:List Pl}(hP:PlL w B P)(hp:∀p∈P,0≤p.1∧p.1<(l.length:Int)∧0≤p.2.1∧qD p.2.1)(hpl:P.length≤1000)(hG:∀j,w.heap.size≤j→G j) :
    Calls prog 58 #[.slice A l.length c,.slice B P.length cb] w (qjQ G (cZ l P) w):=by
 have HL:=QH hl;have HP:=QH hP;have HPP:=QH hp;have HG:=QH hG;clear hl hP hp hG;go_enter func58,ntmps58;go_wp2_with fail;go_loopw [0,9] (fun s i wr=>PuR G l P w s i wr) (fun _ i _=>P.length-(intOf i).toNat);case atStart=>exact⟨0,A,c,Nat.zero_le _,rfl,rfl,HL.out,Below.refl _ _⟩
 case round =>
  obtain⟨k,A1,c1,hk,rfl,rfl,hs,hB⟩:=hrel;have HS:=QH hs;have HB:=QH hB;clear hs hB;by_cases hlt:k<P.length
  ·have jG:(k:Int)<(P.length:Int):=by omega
   have hk0:¬ (k:Int)<0:=by omega
   obtain⟨b,o,rfl,s1,s2,s3,s4⟩:=(HP.out.below HB.out) k hlt;obtain⟨p0,p1,p2,p3⟩:=HPP.out _ (List.getElem_mem hlt);have kg:Hid (cZ l (P.take (k+1))=(cZ l (P.take k)).set P[k].1.toNat P[k].2.1):=by unfold Hid;rw[List.take_succ_eq_append_getElem hlt,qa4]
   obtain⟨x,hx⟩:=QE (P[k]);rw[hx]at s2 s3 s4 p0 p1 p2 p3 kg;clear hx;obtain⟨bk,at_,s⟩:=x;dsimp only at s2 s3 s4 p0 p1 p2 p3 kg;obtain⟨S,hS⟩:=QE (str s);rw[hS]at s4;clear hS;have eX:=rK (P.take k) l;have hw:qcB (cZ l (P.take k)) bk at_=((cZ l (P.take k)).set bk.toNat at_,0):=by
    unfold qcB;rw[if_neg (by omega)]
   have kB:=(Below.refl _ wr).alloc (Nat.le_refl _) (.cells #[.int .i64 bk,.int .i64 at_,.string S] 171);have nP:=qf.new wr 171 #[.int .i64 bk,.int .i64 at_,.string S];obtain⟨W2,hW2⟩:=QE (wr.alloc (.cells #[.int .i64 bk,.int .i64 at_,.string S] 171));rw[hW2]at kB nP;have v0:=nP.cell 0;have v1:=nP.cell 1;have hvl:=nP.lt;simp only[QA,QB,QC]at v0 v1;have hwc:=q0B A1 c1 (cZ l (P.take k)) bk at_ W2 (HS.out.at_.below kB) (by omega) (by unfold qD;omega) p3;rw[hw,eX]at hwc;have HWC:=QH hwc;have qB:=QH (qc HB.out kB);have HL1:Hid (((cZ l (P.take k)).set bk.toNat at_).length=l.length):=by unfold Hid;rw[List.length_set,eX]
   clear hw hwc kB nP eX p0 p1 p2 p3;go_upto_region 4 with fail;try rw[hW2]
   clear hW2 s1 s2 s3 s4;go_wp2_with fail;refine HWC.out.mono ?_;rintro e W3 ⟨A3,c3,rfl,hn,hb3⟩;have qY:=QH (qc qB.out hb3);have HN:Hid (ay G W3 A3 ((cZ l (P.take k)).set bk.toNat at_) c3):=ay.qvF (w0:=w) hn (fun j h1 h2=>HG.out j (Nat.le_trans qB.out.size h1)) (fun b o s e=>by
    obtain⟨b',o',e',_⟩:=hn.ints 0 (by have:=HL1.out;dsimp only;omega);rw[e]at e';injection e' with e'
    injection e')
   have hlen:=HL1.out;dsimp only;rw[hlen];clear hn hb3 HWC hlen;go_wp2_with fail;go_roundw;case rel=>exact⟨k+1,A3,c3,by omega,by go_num,rfl,by rw[kg.out];exact HN.out,qY.out⟩
   case measure=>simp[intOf];omega
  ·obtain rfl:k=P.length:=by omega
   have jG:¬ (P.length:Int)<(P.length:Int):=by omega
   have hs:=HS.out;rw[List.take_length]at hs;have HSS:=QH hs;have HLL:=QH (rK P l);clear hs;go_wp2_with fail;go_ret;exact⟨A1,c1,by rw[HLL.out];rfl,HSS.out,HB.out⟩
def RdR (t:Tg)(l:List Int)(g:Nat)(w:World)(i:Value)(wr:World):Prop :=
 ∃k:Nat,k≤l.length∧i=.int .i64 (k:Int)∧qf wr g 9 (ch.pg.xL ((volume t l).take k++List.replicate (l.length-k) []))∧ib.qy (fun j=>j=g) w wr
theorem wR {o1 o2:Nat→Prop}{w:World}{v pd N:Nat}{d:DD}{m:Mt}{lo:Bool}{t:Tg}(h:VP jJ w o1 o2 v pd d m lo)(hJ:jr.JJ N t d){A:Option Addr}{c:Nat}{l:List Int}(hl:yM w A l c)(qub:l.length≤1000)(hz:∀z∈l,z=0∨(193≤z∧z<(N:Int))) :
    Calls prog 53 #[pt v,.slice A l.length c] w (ch.jY (volume t l,0) w):=by
 have HV:=QH h;have HL:=QH hl;have HZ:=QH hz;have HJ:=QH hJ;have hb1:=(Below.refl _ w).alloc (Nat.le_refl _) (.cells (ch.pg.xL (List.replicate l.length [])) 9);have zK:=qf.new w 9 (ch.pg.xL (List.replicate l.length []));obtain⟨W1,hW1⟩:=QE (w.alloc (.cells (ch.pg.xL (List.replicate l.length [])) 9));rw[hW1]at hb1 zK;have qR:=QH hb1;have eF:=QH zK;have HVL:Hid ((volume t l).length=l.length):=by unfold Hid volume;rw[List.length_map]
 have qsm:Hid (∀W,Calls prog 100 #[.string ⟨#[0]⟩,.int .i64 32] W fun e w'=>e=.returned (.string (str zb))∧Below W.heap.size W w'):=fun W=>by
  have h:=Tryz.strings_Repeat ⟨#[0]⟩ 32 W (by omega) (by decide);have e:(⟨(Lib.repeatL (⟨#[0]⟩:ByteArray).data.toList 32).toArray⟩:ByteArray)=str zb:=by rfl
  rw[e]at h;exact h
 clear h hl hz hJ hb1 zK;go_enter func53,ntmps53;go_wp2_with (at_make;refine qg rfl (ch.pg.rJ _ _ l.length rfl rfl rfl (by omega)) ?_);try rw[hW1]
 clear hW1;go_loopw [16] (fun i wr=>RdR t l w.heap.size W1 i wr) (fun i _=>l.length-(intOf i).toNat);case atStart=>exact⟨0,Nat.zero_le _,rfl,by simpa using eF.out,ib.qy.refl _ _⟩
 case round =>
  obtain⟨k,hk,rfl,yC,hU⟩:=hrel;have yL:=QH yC;have HU:=QH hU;have HB:Hid (Below w.heap.size w wr):=qR.out.trans (hU.below (fun i e=>by rw[e];exact Nat.le_refl _) qR.out.size);clear yC hU;by_cases hlt:k<l.length
  ·have jG:(k:Int)<(l.length:Int):=by omega
   have hk0:¬ (k:Int)<0:=by omega
   obtain⟨b,o,rfl,s1,s2,s3⟩:=HL.out.ints k hlt;have q1:=Nat.lt_of_lt_of_le s1 HB.out.size;have q2:=(HB.out.cell (p:=⟨b,o+k,none⟩) s1).trans s2;have hzz:=HZ.out _ (List.getElem_mem hlt);have hvl:k<(volume t l).length:=by rw[HVL.out];exact hlt
   have HVK:Hid ((volume t l)[k]=eD t l[k]):=by unfold Hid;simp[volume]
   have HTS:=QH (ch.pg.take_set (l:=volume t l) (n:=l.length) HVL.out hlt);obtain⟨z,hz⟩:=QE (l[k]);rw[hz]at q2 hzz HVK;have f1:=yL.out.frozen k;have dt:=yL.out.lt;obtain⟨u,hu⟩:∃u,wr.cell? ⟨w.heap.size,k,none⟩=some u:=by
    rw[yL.out.cell k,ch.pg.kx _ _ (by rw[List.length_append,List.length_take,List.length_replicate,HVL.out];omega)];exact⟨_,rfl⟩
   have HST:Hid (∀W (s:Bt),qf W w.heap.size 9 (ch.pg.xL ((volume t l).take k++List.replicate (l.length-k) []))→ib.qy (fun j=>j=w.heap.size) W1 W→eD t z=s→qf (W.setCell ⟨w.heap.size,k,none⟩ (.string (str s))) w.heap.size 9 (ch.pg.xL ((volume t l).take (k+1)++List.replicate (l.length-(k+1)) []))∧ib.qy (fun j=>j=w.heap.size) W1 (W.setCell ⟨w.heap.size,k,none⟩ (.string (str s)))):=fun W s h1 h2 h3=>by
    refine⟨?_,h2.setCell _ _ (.inl rfl)⟩;have h:=h1.qo k (.string (str s));have e:s=(volume t l)[k]:=by rw[HVK.out];exact h3.symm
    have e2:((volume t l).take k++List.replicate (l.length-k) []).set k s=(volume t l).take (k+1)++List.replicate (l.length-(k+1)) []:=by rw[e];exact HTS.out
    rw[ch.pg.rI,e2]at h;exact h
   clear s1 s2 s3 hz hvl HVK HTS;by_cases h0:z=0
   ·subst h0;have hvz:eD t 0=zb:=by unfold eD;rw[if_pos rfl]
    have HVZ:=QH hvz;clear hvz hzz;go_wp2_with fail;refine(qsm.out wr).mono ?_;rintro e W2 ⟨rfl,hb2⟩;have jZ:=QH (yL.out.below hb2);have HU2:Hid (ib.qy (fun j=>j=w.heap.size) W1 W2):=HU.out.trans (S':=fun _=>False) (ib.qy.of_below hb2) (fun _ h=>h.elim);obtain⟨hk3,hu3⟩:=HST.out W2 zb jZ.out HU2.out HVZ.out;have l7:=QH hk3;have HU3:=QH hu3;have f1:=jZ.out.frozen k;have dt:=jZ.out.lt;obtain⟨u,hu⟩:∃u,W2.cell? ⟨w.heap.size,k,none⟩=some u:=by
     rw[jZ.out.cell k,ch.pg.kx _ _ (by rw[List.length_append,List.length_take,List.length_replicate,HVL.out];omega)];exact⟨_,rfl⟩
    obtain⟨S,hS⟩:=QE (str zb);rw[hS]at l7 HU3 ⊢;clear hb2 hk3 hu3 HST HVZ hS qsm;go_wp2_with fail;go_roundw;case rel=>exact⟨k+1,by omega,by go_num,l7.out,HU3.out⟩
    case measure=>simp[intOf];omega
   ·have hzr:193≤z∧z<(N:Int):=by
       rcases hzz with h|h
       ·exact absurd h h0
       ·exact h
    have hvz:eD t z=t z:=by unfold eD;rw[if_neg h0]
    have HVZ:=QH hvz;have hV2:=qT HV.out HB.out;obtain⟨p1,p2,p3⟩:=qil hV2;have wM:=lF hV2.dk z;rw[qbL HJ.out z (by omega) hzr.2]at wM;unfold dk.wD at wM;have xE:=QH wM;dsimp only at xE;have hz0:(z == 0)=false:=beq_false_of_ne h0;clear hvz hzz hV2 wM hzr h0;go_wp2_with fail;refine xE.out.mono ?_;rintro e W2 ⟨rfl,hb2⟩;have jZ:=QH (yL.out.below hb2);have HU2:Hid (ib.qy (fun j=>j=w.heap.size) W1 W2):=HU.out.trans (S':=fun _=>False) (ib.qy.of_below hb2) (fun _ h=>h.elim);obtain⟨hk3,hu3⟩:=HST.out W2 (t z) jZ.out HU2.out HVZ.out;have l7:=QH hk3;have HU3:=QH hu3;have f1:=jZ.out.frozen k;have dt:=jZ.out.lt;obtain⟨u,hu⟩:∃u,W2.cell? ⟨w.heap.size,k,none⟩=some u:=by
     rw[jZ.out.cell k,ch.pg.kx _ _ (by rw[List.length_append,List.length_take,List.length_replicate,HVL.out];omega)];exact⟨_,rfl⟩
    obtain⟨S,hS⟩:=QE (str (t z));rw[hS]at l7 HU3 ⊢;clear hb2 hk3 hu3 HST HVZ hS qsm xE;go_wp2_with fail;go_roundw;case rel=>exact⟨k+1,by omega,by go_num,l7.out,HU3.out⟩
    case measure=>simp[intOf];omega
  ·obtain rfl:k=l.length:=by omega
   have jG:¬ (l.length:Int)<(l.length:Int):=by omega
   have HT:Hid (TxL wr (some ⟨w.heap.size,0,none⟩) (volume t l)):=fun i hi=>⟨w.heap.size,0,rfl,yL.out.lt,by
    have hvl:=HVL.out;rw[Nat.zero_add,yL.out.cell i,ch.pg.kx _ _ (by rw[List.length_append,List.length_take];omega)];rw[List.getElem_append_left (by rw[List.length_take];omega),List.getElem_take]⟩
   have HLT:=QH yL.out.lt;clear yL qsm;go_wp2_with fail;go_ret2;refine⟨_,l.length,by dsimp only;rw[HVL.out];rfl,HT.out,fun b o e=>?_,HB.out⟩;simp only[Option.some.injEq,Addr.mk.injEq,and_true]at e;obtain⟨rfl,_⟩:=e;exact⟨Nat.le_refl _,HLT.out⟩
end Go.Proofs.YtdagdllomphidaaGreatDoor.vt.pg
namespace Go.Proofs.YtdagdllomphidaaGreatDoor.vt.pg
open _root_.Go.Proofs.Tryz Go Go.RowKit ib mt im sp
def wh (f:Tk)(A:Option Addr)(n c:Nat):Array Value:=#[.int .u64 (f.base.1:Int),.int .u64 (f.base.2:Int),.int .u64 (f.target.1:Int),.int .u64 (f.target.2:Int),.int .i64 f.next,.int .i64 f.all,.slice A n c]
theorem cj {W:World}{g:Nat}{A0 A1 A2 A:Option Addr}{c0 c1 c2 c:Nat}{m:Mt}(t:Tk)(h:qf W g 98 (zq A0 A1 A2 c0 c1 c2 m)):qf (yf W g (.slice A t.ql.length c) t) g 98 (zq A0 A1 A c0 c1 c { m with tok:=t }):=by
 have h9:=((((((h.qo 2 (.int .u64 (t.base.1:Int))).qo 3 (.int .u64 (t.base.2:Int))).qo 4 (.int .u64 (t.target.1:Int))).qo 5 (.int .u64 (t.target.2:Int))).qo 6 (.int .i64 t.next)).qo 7 (.int .i64 t.all)).qo 8 (.slice A t.ql.length c);simp only[zq,List.setIfInBounds_toArray,List.set_cons_succ,List.set_cons_zero]at h9;exact h9
theorem qec{G:Nat→Prop}{W:World}{g:Nat}{v:Value}{t:Tk}(hg:∀j,G j→j≠g):uS G W (yf W g v t):=by
 refine⟨by simp[yf,World.setCell],fun j hj _=>?_⟩;have hn:=hg j hj;unfold yf;rw[qC _ _ _ _ _ hn,qC _ _ _ _ _ hn,qC _ _ _ _ _ hn,qC _ _ _ _ _ hn,qC _ _ _ _ _ hn,qC _ _ _ _ _ hn,qC _ _ _ _ _ hn]
theorem qgM(w W:World)(g:Nat)(v:Value)(t:Tk)(h:ib.qy (fun j=>j=g) w W):ib.qy (fun j=>j=g) w (yf W g v t) :=
 ((((((h.setCell ⟨g,2,none⟩ _ (.inl rfl)).setCell ⟨g,3,none⟩ _ (.inl rfl)).setCell ⟨g,4,none⟩ _ (.inl rfl)).setCell ⟨g,5,none⟩ _ (.inl rfl)).setCell ⟨g,6,none⟩ _ (.inl rfl)).setCell ⟨g,7,none⟩ _ (.inl rfl)).setCell ⟨g,8,none⟩ _ (.inl rfl)
theorem qbX{W0 W:World}{g:Nat}{v:Value}{t:Tk}(h:Below W0.heap.size W0 W)(hg:W0.heap.size≤g):Below W0.heap.size W0 (yf W g v t) :=
 ((((((h.setCell (p:=⟨g,2,none⟩) hg _).setCell (p:=⟨g,3,none⟩) hg _).setCell (p:=⟨g,4,none⟩) hg _).setCell (p:=⟨g,5,none⟩) hg _).setCell (p:=⟨g,6,none⟩) hg _).setCell (p:=⟨g,7,none⟩) hg _).setCell (p:=⟨g,8,none⟩) hg _
structure TkB(t:Tk):Prop where
 base:zZ t.base
 target:zZ t.target
 next:qD t.next
 all:qD t.all
theorem qed{G:Nat→Prop}{W0 w:World}{g pb:Nat}{m:Mt}{t:Tk}{A:Option Addr}{c:Nat}(hb:Below W0.heap.size W0 w)(hg:W0.heap.size≤g)(hN:Nx G w g m)(hp:qf W0 pb 59 (wh t A t.ql.length c))(hl:yM W0 A t.ql c)(h1:t.ql.length≤1000)(hB:TkB t)(hG:∀j,W0.heap.size≤j→G j) :
    Calls prog 110 #[pt g,pt pb] w (qjM G g { m with tok:=t } w):=by
 obtain⟨A0,A1,A2,c0,c1,c2,hk,ht⟩:=hN.ex;have hpw:=hp.below hb;have hb2:=qbX (v:=.slice A t.ql.length c) (t:=t) hb hg;have HP2:=QH (hp.below hb2);have HC:=QH (gF A c t.ql _ (hl.below hb2) h1);have hk2:=cj (A:=A) (c:=c) t hk;have ck:kM (fun j=>G j∧j≠g) (yf w g (.slice A t.ql.length c) t) A0 A1 A2 c0 c1 c2 m:=ht.stay (qec fun j hj=>hj.2);have jZ:=QH hk2;have dT:=QH ck;have qB:=QH (qgM w w g (.slice A t.ql.length c) t (ib.qy.refl _ w));have HLE:Hid (W0.heap.size≤w.heap.size∧g<w.heap.size∧w.heap.size≤(yf w g (.slice A t.ql.length c) t).heap.size):=⟨hb.size,hk.lt,qB.out.size⟩;have HG:=QH hG;have HZ:=QH (hl.ints.mem);have oF:=QH hB;have p0:=hpw.cell 0;have p1:=hpw.cell 1;have p2:=hpw.cell 2;have p3:=hpw.cell 3;have p4:=hpw.cell 4;have p5:=hpw.cell 5;have p6:=hpw.cell 6;have k2:=hk.cell 2;have k3:=hk.cell 3;have k4:=hk.cell 4;have k5:=hk.cell 5;have k6:=hk.cell 6;have k7:=hk.cell 7;have k8:=hk.cell 8;have f2:=hk.frozen 2;have f3:=hk.frozen 3;have f4:=hk.frozen 4;have f5:=hk.frozen 5;have f6:=hk.frozen 6;have f7:=hk.frozen 7;have f8:=hk.frozen 8;have dt:=hk.lt;have hpl:=hpw.lt;simp only[zq,wh,QA,QB,QC]at k2 k3 k4 k5 k6 k7 k8 p0 p1 p2 p3 p4 p5 p6;clear hb hg hN hp hl hG hB hk ht hpw hb2 hk2 ck h1;go_enter func110,ntmps110;go_upto_region 1 with fail;show Code.wp _ _ _ _ (yf w g (.slice A t.ql.length c) t);obtain⟨W1,hW1⟩:=QE (yf w g (.slice A t.ql.length c) t);rw[hW1]at HP2 HC jZ dT qB HLE ⊢;clear hW1 p0 p1 p2 p3 p4 p5 p6 k2 k3 k4 k5 k6 k7 k8 f2 f3 f4 f5 f6 f7 f8 dt hpl;have q6:=HP2.out.cell 6;have mK:=HP2.out.lt;simp only[wh,QA,QB,QC]at q6;go_wp2_with fail;refine HC.out.mono ?_;rintro e W2 sN;obtain rfl:=sN.1;have hb3:=sN.2.2;have hk3:=jZ.out.below hb3;have hle:=HLE.out;have hs:=sN.sl HZ.out (fun j=>G j∧j≠g) ⟨HG.out _ (by omega),by omega⟩;have ht3:=dT.out.below hb3;have hbb:=oF.out;have HN2:Hid (Nx G (W2.setCell ⟨g,8,none⟩ (.slice (some ⟨W1.heap.size,0,none⟩) t.ql.length t.ql.length)) g { m with tok:=t }) :=
  ⟨A0,A1,_,c0,c1,_,by have:=hk3.qo 8 (.slice (some ⟨W1.heap.size,0,none⟩) t.ql.length t.ql.length);simpa[zq]using this,(kM.mk (m:={ m with tok:=t }) ht3.live ht3.qa ht3.room hs hbb.base hbb.target hbb.next hbb.all).stay (wN fun j hj=>hj.2)⟩
 have qY:Hid (ib.qy (fun j=>j=g) w (W2.setCell ⟨g,8,none⟩ (.slice (some ⟨W1.heap.size,0,none⟩) t.ql.length t.ql.length))):=(qB.out.trans (ib.qy.of_below (S:=fun _=>False) hb3) (fun _ h=>h.elim)).setCell _ _ (.inl rfl);have k8:=hk3.cell 8;have f8:=hk3.frozen 8;have dt:=hk3.lt;simp only[zq,QA,QB,QC]at k8;clear sN hb3 hk3 hs ht3 HC jZ dT HP2 qB hle hbb q6 mK;go_wp2_with fail
 go_end0
 exact⟨rfl,HN2.out,qY.out⟩
theorem vg {G:Nat→Prop}{w:World}{t:Tk}{A:Option Addr}{c:Nat}(hl:yM w A t.ql c)(h1:t.ql.length≤1000)(hB:TkB t)(hG:∀j,w.heap.size≤j→G j) :
    Calls prog 60 #[.agg (wh t A t.ql.length c)] w (MkP G (fun m m'=>m'={ m with tok:=t }) w):=by
 have HB:=QH ((Below.refl w.heap.size w).alloc (Nat.le_refl _) (.cells (wh t A t.ql.length c) 59));have HK:=QH (qf.new w 59 (wh t A t.ql.length c));have HL:=QH hl;have HG:=QH hG;have oF:=QH hB;obtain⟨W1,hW1⟩:=QE (w.alloc (.cells (wh t A t.ql.length c) 59));rw[hW1]at HB HK;unfold wh at hW1;clear hl hG hB;unfold wh;go_enter func60,ntmps60;go_wp2_with fail;try rw[hW1]
 go_ret;refine⟨_,rfl,fun m m' hR=>?_,HB.out⟩;subst hR;exact⟨_,_,rfl,fun a W=>by go_simp,fun W g hb hg hN=>qed hb hg hN HK.out (HL.out.below HB.out) h1 oF.out (fun j hj=>HG.out j (Nat.le_trans HB.out.size hj))⟩
theorem rL:∀(l:List eA) (i:Nat) (h:i<l.length),(za l).set (i*4+3) (.bool true)=za (l.set i ({ l[i].1 with hid:=true },l[i].2))
 | x::l,0,_=>rfl
 | x::l,i+1,h=>by
  have ih:=rL l i (by simpa using h);show(eB x++za l).set ((i+1)*4+3) (.bool true)=eB x++_;rw[show(i+1)*4+3=(i*4+3)+4 by omega];show eB x++(za l).set (i*4+3) (.bool true)=_;rw[ih];rfl
theorem qo6(xs:List eA)(i:Nat)(h:i<xs.length):(xs.set i ({ xs[i].1 with hid:=true },xs[i].2)).map (·.1)=xO (xs.map (·.1)) i:=by
 apply List.ext_getElem
 ·simp[xO]
 ·intro j h1 h2;simp only[xO,List.getElem_map,List.getElem_modify,List.getElem_set];by_cases e:i=j
  ·subst e;simp
  ·simp[e]
theorem qgN{G:Nat→Prop}{w:World}{g pb n:Nat}{m:Mt}(hN:Nx G w g m)(hp:w.cell? ⟨pb,0,none⟩=some (.int .i64 (n:Int)))(hpb:pb<w.heap.size)(hpg:pb≠g)(hn:n<m.qa.length)(bF:m.qa.length≤100)(hG:∀j,w.heap.size≤j→G j) :
    Calls prog 122 #[pt g,pt pb] w (qjM G g { m with qa:=xO m.qa n } w):=by
 obtain⟨A0,A1,A2,c0,c1,c2,hk,ht⟩:=hN.ex;have HC:=QH (cS (c:=c1) ht.qa (by omega) bF);have HK:=QH hk;have HT:=QH ht;have HG:=QH hG;have HP:=QH hp;have HPL:=QH hpb;have HPG:=QH hpg;have k1:=hk.cell 1;have dt:=hk.lt;simp only[zq,QA,QB,QC]at k1;clear hN hk ht hG hp hpb hpg;go_enter func122,ntmps122;go_wp2_with fail;refine HC.out.mono ?_;rintro e W1 ⟨g2,c,xs,cur,rfl,hg2,hk2,ck,hm,hx,hcc,hb⟩;have zK:=HK.out.below hb;have dt:=HK.out.lt;have hne:g2≠g:=by omega
 have aW:xs.length=m.qa.length:=by rw[← hm,List.length_map]
 have hnx:n<xs.length:=by omega
 have hlen:(xO m.qa n).length=m.qa.length:=by unfold xO;rw[List.length_modify]
 have ig:=(zK.qo 1 (.slice (some ⟨g2,0,none⟩) m.qa.length c)).of_block (qC _ g2 (n*4+3) (.bool true) g hne.symm);have qk1:qf (W1.setCell ⟨g,1,none⟩ (.slice (some ⟨g2,0,none⟩) m.qa.length c)) g2 145 cur:=hk2.of_block (qC _ _ _ _ _ hne);have qw3:=qk1.qo (n*4+3) (.bool true);have hpw:(W1.setCell ⟨g,1,none⟩ (.slice (some ⟨g2,0,none⟩) m.qa.length c)).cell? ⟨pb,0,none⟩=some (.int .i64 (n:Int)):=by
  rw[World.cell?_of_block (a:=⟨pb,0,none⟩) (qC _ _ _ _ _ HPG.out)];exact(hb.cell (p:=⟨pb,0,none⟩) HPL.out).trans HP.out
 have xX:ib.qy (fun j=>j=g) w ((W1.setCell ⟨g,1,none⟩ (.slice (some ⟨g2,0,none⟩) m.qa.length c)).setCell ⟨g2,n*4+3,none⟩ (.bool true)) :=
  ((ib.qy.of_below (S:=fun j=>j=g) hb).setCell ⟨g,1,none⟩ _ (.inl rfl)).setCell ⟨g2,n*4+3,none⟩ _ (.inr hg2)
 have hst:uS (fun j=>G j∧j≠g) w ((W1.setCell ⟨g,1,none⟩ (.slice (some ⟨g2,0,none⟩) m.qa.length c)).setCell ⟨g2,n*4+3,none⟩ (.bool true)):=uS.oz xX (fun j hj=>hj.2);have q0H:(cur.setIfInBounds (n*4+3) (.bool true)).toList.take (m.qa.length*4)=za (xs.set n ({ xs[n].1 with hid:=true },xs[n].2)):=by
  rw[Array.toList_setIfInBounds,List.take_set,ck];exact rL xs n hnx
 have hsn:=iD.qgr (G:=fun j=>G j∧j≠g) ⟨HG.out g2 hg2,hne⟩ qw3.lt (jg qw3 q0H) (fun x hx'=>by
  rcases List.mem_or_eq_of_mem_set hx' with h|h
  ·exact(hx x h).stay hst
  ·obtain⟨B,c',h1,h2,h3⟩:=(hx _ (List.getElem_mem hnx)).stay hst;rw[h];exact⟨B,c',h1,h2,h3⟩)
 rw[qo6 xs n hnx,hm]at hsn;have ht3:=HT.out.stay hst;have HN2:Hid (Nx G ((W1.setCell ⟨g,1,none⟩ (.slice (some ⟨g2,0,none⟩) m.qa.length c)).setCell ⟨g2,n*4+3,none⟩ (.bool true)) g { m with qa:=xO m.qa n }) :=
  ⟨A0,some ⟨g2,0,none⟩,A2,c0,c,c2,by simpa[zq,hlen]using ig,kM.mk (m:={ m with qa:=xO m.qa n }) ht3.live hsn ⟨by rw[hlen];exact hcc,fun e=>by cases e⟩ ht3.ql ht3.base ht3.target ht3.next ht3.all⟩
 have qwt:=QH xX;have f1:=zK.frozen 1;have k1:=zK.cell 1;simp only[zq,QA,QB,QC]at k1;have q1:(W1.setCell ⟨g,1,none⟩ (.slice (some ⟨g2,0,none⟩) m.qa.length c)).cell? ⟨g,1,none⟩=some (.slice (some ⟨g2,0,none⟩) m.qa.length c):=by
  rw[(zK.qo 1 (.slice (some ⟨g2,0,none⟩) m.qa.length c)).cell 1];simp[zq]
 have f2:=qk1.frozen (n*4+3);have f22:=qk1.frozen (n*4+2+1);obtain⟨z,hz⟩:∃z,(W1.setCell ⟨g,1,none⟩ (.slice (some ⟨g2,0,none⟩) m.qa.length c)).cell? ⟨g2,n*4+3,none⟩=some z :=
  ⟨_,jg qk1 ck (n*4+3) _ (xB xs n hnx 3 (by omega))⟩
 have hni:(n:Int)<(m.qa.length:Int):=by omega
 have hn0:¬ (n:Int)<0:=by omega
 have q5A:=zK.lt;have zcS:=qk1.lt;have hpl:pb<(W1.setCell ⟨g,1,none⟩ (.slice (some ⟨g2,0,none⟩) m.qa.length c)).heap.size:=by
  have:=HPL.out;have:=hb.size;have e:(W1.setCell ⟨g,1,none⟩ (.slice (some ⟨g2,0,none⟩) m.qa.length c)).heap.size=W1.heap.size:=by simp[World.setCell]
  omega
 clear hg2 hk2 ck hm hx hcc hb ig qk1 qw3 xX hst q0H hsn ht3 HC HK HT hlen aW hnx zK HG HP HPL HPG;go_wp2_with fail;go_region;go_wp2_with fail
 go_end0
 exact⟨rfl,HN2.out.drew,qwt.out.drew⟩
theorem qk2{G:Nat→Prop}{w:World}(n:Nat)(hG:∀j,w.heap.size≤j→G j):Calls prog 78 #[.int .i64 (n:Int)] w (MkP G (fun m m'=>n<m.qa.length∧m.qa.length≤100∧m'={ m with qa:=xO m.qa n }) w):=by
 have HB:=QH ((Below.refl w.heap.size w).alloc (Nat.le_refl _) (.cells #[.int .i64 (n:Int)] 3));have HG:=QH hG;clear hG;go_enter func78,ntmps78;go_wp2_with fail;go_ret;refine⟨_,rfl,fun m m' hR=>?_,HB.out⟩;obtain⟨hn,bF,rfl⟩:=hR;refine⟨_,_,rfl,fun a W=>by go_simp,fun W g hb hg hN=>?_⟩;have hbb:=qc HB.out hb;have hlt:w.heap.size<(w.alloc (.cells #[.int .i64 (n:Int)] 3)).heap.size:=by simp
 exact qgN hN ((hb.cell (p:=⟨w.heap.size,0,none⟩) hlt).trans (qgw _ _)) (Nat.lt_of_lt_of_le hlt hb.size) (by omega) hn bF (fun j hj=>HG.out j (Nat.le_trans hbb.size hj))
end Go.Proofs.YtdagdllomphidaaGreatDoor.vt.pg
namespace Go.Proofs.YtdagdllomphidaaGreatDoor.jr
open _root_.Go.Proofs.Tryz Go Go.RowKit dk wi
theorem gL {w w':World}{a:Option Addr}{bs:List (List Wr)}(h:qdL w a bs)(hb:Below w.heap.size w w'):qdL w' a bs:=fun i hi=>by
 obtain⟨b,o,A,c,h1,h2,h3,h4⟩:=h i hi;exact⟨b,o,A,c,h1,Nat.lt_of_lt_of_le h2 hb.size,by rw[hb.cell (p:=⟨b,o+i,none⟩) h2];exact h3,h4.below hb (Nat.le_refl _)⟩
theorem qgO{W:World}{A2 A5 A:Option Addr}{r c2 c5 cl n:Nat}{ly l1 l:List Wr}(h1:ly.length=r)(h2:l1.length=n)(k1:uY W A2 ly)(k2:uY W A5 l1)(k3:uY W A l) :
    qdL (W.alloc (.cells #[.slice A2 r c2,.slice A5 n c5,.slice A l.length cl] 136)) (some ⟨W.heap.size,0,none⟩) [ly,l1,l]:=by
 subst h1 h2;have hB:=qf.new W 136 #[.slice A2 ly.length c2,.slice A5 l1.length c5,.slice A l.length cl];have hb:=(Below.refl W.heap.size W).alloc (Nat.le_refl _) (.cells #[.slice A2 ly.length c2,.slice A5 l1.length c5,.slice A l.length cl] 136);intro i hi
 match i,hi with
 | 0,_=>exact⟨W.heap.size,0,A2,c2,rfl,by simp,hB.cell 0,k1.below hb (Nat.le_refl _)⟩
 | 1,_=>exact⟨W.heap.size,0,A5,c5,rfl,by simp,hB.cell 1,k2.below hb (Nat.le_refl _)⟩
 | 2,_=>exact⟨W.heap.size,0,A,cl,rfl,by simp,hB.cell 2,k3.below hb (Nat.le_refl _)⟩
 | i+3,h=>exact absurd h (by simp only[List.length_cons,List.length_nil];omega)
def ed (a r:Nat)(A8:Option Addr)(c8:Nat)(S:ByteArray)(A:Option Addr)(cl:Nat)(l:List Wr)(ly:List Wr)(hd:Bt):Nat→Value→World→Prop
 | 0,v,_=>v=.agg #[.int .i64 ((1-a:Nat):Int),.int .i64 (r:Int)]
 | 1,v,_=>v=.slice A8 r c8
 | 2,v,W=>∃A2 c2,v=.slice A2 r c2∧uY W A2 ly
 | 3,v,_=>v=.agg #[.int .i64 ((1-a:Nat):Int),.int .i64 (r:Int)]
 | 4,v,_=>v=.agg #[.int .i64 0,.string S]
 | 5,v,W=>∃A2 c2,v=.slice A2 1 c2∧uY W A2 [(0,hd)]
 | 6,v,_=>v=.slice A l.length cl
 | 7,v,W=>∃b,v=.slice (some ⟨b,0,none⟩) 3 3∧qdL W (some ⟨b,0,none⟩) [ly,[(0,hd)],l]
 | 8,v,W=>∃b,v=.slice (some ⟨b,0,none⟩) 3 3∧qdL W (some ⟨b,0,none⟩) [ly,[(0,hd)],l]
 | _,_,_=>True
theorem qk3{a r:Nat}{A8:Option Addr}{c8:Nat}{S:ByteArray}{A:Option Addr}{cl:Nat}{l ly:List Wr}{hd:Bt}(i:Nat)(v:Value)(w w':World)(hi:i<9)(h:ed a r A8 c8 S A cl l ly hd i v w)(hb:Below w.heap.size w w'):ed a r A8 c8 S A cl l ly hd i v w':=by
 match i,hi,h with
 | 0,_,h | 1,_,h | 3,_,h | 4,_,h | 6,_,h=>exact h
 | 2,_,⟨A2,c2,h1,h2⟩=>exact⟨A2,c2,h1,h2.below hb (Nat.le_refl _)⟩
 | 5,_,⟨A2,c2,h1,h2⟩=>exact⟨A2,c2,h1,h2.below hb (Nat.le_refl _)⟩
 | 7,_,⟨b,h1,h2⟩=>exact⟨b,h1,gL h2 hb⟩
 | 8,_,⟨b,h1,h2⟩=>exact⟨b,h1,gL h2 hb⟩
 | j+9,hi,_=>exact absurd hi (by omega)
theorem qbY(x y z:List Wr):(qE [x,y,z]).length=x.length+y.length+z.length+3:=by simp[qE,jU];omega
section
variable {most:Nat} {w:World} {own:Nat→Prop} {p:Nat} {d:DD}
theorem ij (HW:qoj)(HR:qok)(h:zG most w own p d)(hn:145<d.n)(A:Option Addr)(cl:Nat)(l:List Wr)(hwl:uY w A l)(eX:l.length≤1000000)(ht:xK w)(hm:d.more.length+150≤most)(jh:most≤100000) :
    Calls prog 107 #[.pointer (some ⟨p,0,none⟩),.slice A l.length cl] w (xA most own p (xa d l).2 (.int .i64 (xa d l).1) w):=by
 have HD:=QH h;have HP:=QH (bq h);have my:=QH (qdS h A cl l hwl eX);have hpl:p<w.heap.size:=by obtain⟨_,_,_,hd⟩:=h;exact hd.1.lt
 have q6x:d.n≤1024:=h.1.n1;have HT:=QH ht;have hg:=ht.1;have HH:=QH HR;have HHW:=QH HW;have q0I:=QH hwl;clear ht HR HW h hwl;obtain⟨R,hR⟩:=QE (xa d l);rw[hR];unfold xa at hR;cases zU:d.on with
 | false =>
  rw[zU]at HP;rw[if_pos zU]at hR;subst hR;go_enter func107,ntmps107;go_wp2_with (go_at_call 83;refine HP.out.mono ?_;rintro e w' ⟨rfl,rfl⟩);go_ret;exact xx HD.out (Below.refl _ _)
 | true =>
 rw[zU]at HP;rw[if_neg (by rw[zU];simp)]at hR;by_cases hl0:l.length=0
 ·rw[if_pos hl0]at hR;subst hR;have hl0':((l.length:Int) == 0)=true:=by simp[hl0]
  go_enter func107,ntmps107;go_wp2_with (go_at_call 83;refine HP.out.mono ?_;rintro e w' ⟨rfl,rfl⟩);go_ret;exact xx HD.out (Below.refl _ _)
 rw[if_neg hl0]at hR;have hl0':((l.length:Int) == 0)=false:=by simp only[beq_eq_false_iff_ne,ne_eq];omega
 by_cases qwp:60<l.length
 ·rw[if_pos qwp]at hR;subst hR;have q0J:(60:Int)<(l.length:Int):=by omega
  go_enter func107,ntmps107;go_wp2_with (go_at_call 83;refine HP.out.mono ?_;rintro e w' ⟨rfl,rfl⟩);go_ret;exact xx HD.out (Below.refl _ _)
 rw[if_neg qwp]at hR;have q0J:¬ (60:Int)<(l.length:Int):=by omega
 cases hps:vS d.n l with
 | false =>
  rw[hps]at my;rw[if_pos hps]at hR;subst hR;go_enter func107,ntmps107;go_wp2_with (go_at_call 83;refine HP.out.mono ?_;rintro e w' ⟨rfl,rfl⟩);refine my.out.mono ?_;rintro e W1 ⟨rfl,b1⟩;go_wp2_with fail;go_ret;exact xx HD.out b1
 | true =>
 rw[hps]at my;rw[if_neg (by rw[hps];simp)]at hR;have hall:=aj hps;have hsm:∀x∈l,x.1<65536∧x.2.length=32:=fun x hx=>by have:=hall x hx;exact⟨by omega,this.2.2⟩
 obtain⟨s1,s72⟩:=cu l (by omega) hsm;have qz7:=gC l (by omega) hsm;have iz:=QH hR;have HON:=QH zU;have q0K:=QH hall;clear hR zU hps hall hsm;go_enter func107,ntmps107;go_wp2_with (go_at_call 83;refine HP.out.mono ?_;rintro e w' ⟨rfl,rfl⟩);refine my.out.mono ?_;rintro e W1 ⟨rfl,b1⟩;have qR:=QH b1;clear b1 my;go_wp2_with fail;refine(HH.out most W1 own p d (HD.out.below qR.out) HON.out (by omega)).mono ?_;intro e W2 yc;obtain⟨b2,⟨a,c,hq,rfl⟩|⟨hq,x,y,rfl⟩⟩:=vd yc;rotate_left
 ·have vw:=iz.out;rw[hq]at vw;dsimp only at vw;subst vw;have qB:=QH (qc qR.out b2);clear yc b2 hq iz;go_wp2_with fail;go_ret;exact xx HD.out (zE qB.out _)
 have vw:=iz.out;rw[hq]at vw;dsimp only at vw;obtain⟨ha,hc,_⟩:=ur hq;rw[if_neg (by omega)]at vw;have qB:=QH (qc qR.out b2);clear b2 yc hq iz;have iz:=QH vw;clear vw;have ji:qf (W2.alloc (.cells #[.int .i64 (a:Int),.int .i64 (c:Int)] 149)) W2.heap.size _ _:=qf.new W2 _ _;have HK6:=QH ji;have qY:=QH (zE qB.out (.cells #[.int .i64 (a:Int),.int .i64 (c:Int)] 149));clear ji;go_wp2_with fail;refine(jk A cl l _ (q0I.out.below qY.out (Nat.le_refl _)) (by omega) (fun x hx=>by have:=q0K.out x hx;exact⟨by omega,this.2.2⟩)).mono ?_;rintro e W4 ⟨rfl,b4⟩;have zP:=QH (qc qY.out b4);have qw4:Hid (qf W4 W2.heap.size _ _):=HK6.out.of_block (b4.block _ HK6.out.lt);clear b4 HK6;go_wp2_with fail;refine(fP (str (zj l)) W4 (by rw[qQ];omega) (HT.out.below zP.out hg)).mono ?_;rintro e W5 ⟨v8,rfl,hos,b5⟩;rw[zi]at hos;obtain⟨A8,c8,rfl,_,_,hsa,_,_⟩:=hos.view;have HSA:=QH hsa;have xQ:=QH (qc zP.out b5);have ji:qf W5 W2.heap.size _ _:=qw4.out.of_block (b5.block _ qw4.out.lt);clear hos hsa b5 qw4;have q0L:=QH (ze (qL (zj l)) (1+(1-a)*72));have kJ:yP a l=[lay (1-a) (qL (zj l)),[(0,kW (1-a) (qL (zj l)).length)],l]:=rfl;rw[kJ]at iz;clear kJ;have quc:=QH (fun(W:World) (hsw:yV W A8 (qL (zj l)))=>ug (1-a) (qL (zj l)).length (by omega) A8 c8 (qL (zj l)) W hsw (by omega));have hly:(lay (1-a) (qL (zj l))).length=(qL (zj l)).length:=q0L.out;have q0M:∀x∈lay (1-a) (qL (zj l)),qD x.1:=fun x hx=>by
  obtain⟨i,g1,g2,_⟩:=jB _ _ _ hx;unfold qD;have:(1-a)*72≤72:=by omega
  omega
 have q0N:=QH q0M;have qw5:=QH (fun(W:World)=>HHW.out (1-a) (qL (zj l)).length W (by omega) s72);clear q0M q0L HHW;have HHL:=QH (uO (show 1-a<2 by omega) s72).1;generalize lay (1-a) (qL (zj l))=ly at *;generalize kW (1-a) (qL (zj l)).length=hd at *;generalize hrr:(qL (zj l)).length=r at *;have HLY:=QH hly;have q60:=ji.cell 0;have lt6:=ji.lt;have qdy:(1:Int)-(a:Int)=((1-a:Nat):Int):=by omega
 have zcV:(r:Int)≤72:=by omega
 have hrw:¬ (72:Int)<(r:Int):=by omega
 have q6y:=QH qdy;clear hly ji qdy;go_wp2_with fail;have hhl:hd.length=32:=HHL.out;obtain⟨w0,hw0⟩:=QE (W5.alloc (.cells #[.int .i64 (1-(a:Int)),.int .i64 (r:Int)] 149));have qk4:qf w0 W5.heap.size 149 #[.int .i64 (1-(a:Int)),.int .i64 (r:Int)]:=by rw[← hw0];exact qf.new W5 _ _
 rw[q6y.out]at qk4;have qw7:Below W5.heap.size W5 w0:=by rw[← hw0];exact(Below.refl W5.heap.size W5).alloc (Nat.le_refl _) _
 rw[hw0];have xu:=QH (qc xQ.out qw7);have q0P:=QH qk4;obtain⟨S,hS⟩:=QE (str hd);rw[hS]at qw5;have HSS:=QH hS;have HWR:=qw5;have qrr:∀W,Below w0.heap.size w0 W→Calls prog 166 #[.agg #[.int .i64 ((1-a:Nat):Int),.int .i64 (r:Int)],.slice A8 r c8] W fun e W'=>∃A2 c2,e=.returned (.slice A2 r c2)∧uY W' A2 ly∧Below W.heap.size W W':=fun W hb=>by
  refine(quc.out W ((HSA.out.below qw7 (Nat.le_refl _)).below hb (Nat.le_refl _))).mono ?_;rintro e W' ⟨v,rfl,ho,hb'⟩;obtain⟨A2,c2,rfl,hw2⟩:=ho.view q0N.out;exact⟨A2,c2,by rw[HLY.out],hw2,hb'⟩
 have qo7:=QH qrr;have q0Q:∀W,Below w0.heap.size w0 W→uY W A l:=fun W hb=>q0I.out.below (qc xu.out hb) (Nat.le_refl _);have HWL:=QH q0Q;clear hw0 qk4 qw7 hS qw5 quc qrr q0Q q60 lt6 hhl;generalize q61:W5.heap.size=g10 at *;clear q61;refine xJ (by kernel_rfl) [55,56,57,58,59,60,61,62,11] (by kernel_rfl) (fun L vs W=>Below w0.heap.size w0 W∧∀i,L i=true→i<9→ed a r A8 c8 S A cl l ly hd i (vs i) W) ⟨(Below.refl w0.heap.size w0).drew,fun i hi=>by cases hi⟩ ?_ ?_ ?_
 ·intro i o L vs ρ W ho eR qA hρ hgd hI;obtain⟨hb,vZ⟩:=hI;have hG:∀j,L j=true→ed a r A8 c8 S A cl l ly hd j (vs j) W:=fun j hj=>by
   by_cases h9:j<9
   ·exact vZ j hj h9
   ·match j,h9 with
    | j+9,_=>exact trivial
  have hi9:i<9:=(Array.getElem?_eq_some_iff.1 ho).1;have hc:=hρ.const;have hfn:=hρ.fn;have next:∀v W',Below W.heap.size W W'→ed a r A8 c8 S A cl l ly hd i v W'→Below w0.heap.size w0 W'∧∀j,qN L i j=true→j<9→ed a r A8 c8 S A cl l ly hd j (zX vs i v j) W':=fun v W' h1 h2=>by
   refine⟨qc hb h1,fun j hj h9=>?_⟩;by_cases vn:j=i
   ·subst vn;simpa[zX]using h2
   ·simp only[qN,if_neg vn]at hj;simpa[zX,vn]using qk3 j _ W W' h9 (vZ j hj h9) h1
  have hK:qf W g10 _ _:=q0P.out.of_block (hb.block _ q0P.out.lt);have q0:=hK.cell 0;have q1:=hK.cell 1;have zcX:=hK.lt;clear hK;rcases i with _|_|_|_|_|_|_|_|_|i;all_goals (first|omega|skip)
  all_goals simp only[QA,QB,QC,Option.some.injEq]at ho
  all_goals subst ho
  ·have o10:ρ (.tmp 10)=.pointer (some ⟨g10,0,none⟩):=hρ.out 10 rfl;exact q9 (w':=W) (by unfold execOp;simp only[o10];go_simp) (next _ _ (Below.refl _ _) rfl)
  ·have o8:ρ (.tmp 8)=.slice A8 r c8:=hρ.out 8 rfl;exact q9 (w':=W) (by unfold execOp;simp only[o8];go_simp) (next _ _ (Below.refl _ _) rfl)
  ·have g55:ed a r A8 c8 S A cl l ly hd 0 (vs 0) W:=hG 0 (qA 0 (by kernel_rfl));have s55:ρ (.tmp 55)=.agg #[.int .i64 ((1-a:Nat):Int),.int .i64 (r:Int)]:=(hρ.at_ 55 0 rfl).trans g55;have g56:ed a r A8 c8 S A cl l ly hd 1 (vs 1) W:=hG 1 (qA 1 (by kernel_rfl));have s56:ρ (.tmp 56)=.slice A8 r c8:=(hρ.at_ 56 1 rfl).trans g56;refine qi (f:=166) (args:=#[.agg #[.int .i64 ((1-a:Nat):Int),.int .i64 (r:Int)],.slice A8 r c8]) (w':=W) (by unfold execOp;simp only[hfn,s55,s56];go_simp) ((qo7.out W hb).mono ?_);rintro x W' ⟨A2,c2,rfl,hw2,hb'⟩;exact⟨_,rfl,next _ _ hb' ⟨A2,c2,rfl,hw2⟩⟩
  ·have o10:ρ (.tmp 10)=.pointer (some ⟨g10,0,none⟩):=hρ.out 10 rfl;exact q9 (w':=W) (by unfold execOp;simp only[o10];go_simp) (next _ _ (Below.refl _ _) rfl)
  ·have g58:ed a r A8 c8 S A cl l ly hd 3 (vs 3) W:=hG 3 (qA 3 (by kernel_rfl));have s58:ρ (.tmp 58)=.agg #[.int .i64 ((1-a:Nat):Int),.int .i64 (r:Int)]:=(hρ.at_ 58 3 rfl).trans g58;refine qi (f:=128) (args:=#[.agg #[.int .i64 ((1-a:Nat):Int),.int .i64 (r:Int)]]) (w':=W) (by unfold execOp;simp only[hfn,s58];go_simp) ((HWR.out W).mono ?_);rintro x W' ⟨rfl,hb'⟩;exact⟨_,rfl,next _ _ hb' rfl⟩
  ·have g59:ed a r A8 c8 S A cl l ly hd 4 (vs 4) W:=hG 4 (qA 4 (by kernel_rfl));have s59:ρ (.tmp 59)=.agg #[.int .i64 0,.string S]:=(hρ.at_ 59 4 rfl).trans g59;exact q9 (v:=.slice (some ⟨W.heap.size,0,none⟩) 1 1) (w':=W.alloc (.cells #[.int .i64 0,.string S] 182)) (by unfold execOp;simp only[s59];go_simp) (next _ _ ((Below.refl _ _).alloc (Nat.le_refl _) _) ⟨_,1,rfl,by rw[← HSS.out];exact qdU 0 hd (by unfold qD;omega)⟩)
  ·have o1:ρ (.tmp 1)=.slice A l.length cl:=hρ.out 1 rfl;exact q9 (w':=W) (by unfold execOp;simp only[o1];go_simp) (next _ _ (Below.refl _ _) rfl)
  ·obtain⟨A2,c2,g57,hw2⟩:ed a r A8 c8 S A cl l ly hd 2 (vs 2) W:=hG 2 (qA 2 (by kernel_rfl));have s57:ρ (.tmp 57)=.slice A2 r c2:=(hρ.at_ 57 2 rfl).trans g57;obtain⟨A5,c5,g60,hw5⟩:ed a r A8 c8 S A cl l ly hd 5 (vs 5) W:=hG 5 (qA 5 (by kernel_rfl));have s60:ρ (.tmp 60)=.slice A5 1 c5:=(hρ.at_ 60 5 rfl).trans g60;have g61:ed a r A8 c8 S A cl l ly hd 6 (vs 6) W:=hG 6 (qA 6 (by kernel_rfl));have s61:ρ (.tmp 61)=.slice A l.length cl:=(hρ.at_ 61 6 rfl).trans g61;exact q9 (v:=.slice (some ⟨W.heap.size,0,none⟩) 3 3) (w':=W.alloc (.cells #[.slice A2 r c2,.slice A5 1 c5,.slice A l.length cl] 136)) (by unfold execOp;simp only[s57,s60,s61];go_simp) (next _ _ ((Below.refl _ _).alloc (Nat.le_refl _) _) ⟨_,rfl,qgO HLY.out rfl hw2 hw5 (HWL.out W hb)⟩)
  ·obtain⟨b,g62,q67⟩:ed a r A8 c8 S A cl l ly hd 7 (vs 7) W:=hG 7 (qA 7 (by kernel_rfl));have s62:ρ (.tmp 62)=.slice (some ⟨b,0,none⟩) 3 3:=(hρ.at_ 62 7 rfl).trans g62;exact q9 (w':=W) (by unfold execOp;simp only[s62];go_simp) (next _ _ (Below.refl _ _) ⟨b,rfl,q67⟩)
 ·intro i o L vs W j want ho eR qA hg hv hI;have hi9:i<9:=(Array.getElem?_eq_some_iff.1 ho).1;rcases i with _|_|_|_|_|_|_|_|_|i;all_goals (first|omega|skip)
  all_goals simp only[QA,QB,QC,Option.some.injEq]at ho
  all_goals subst ho
  all_goals simp only[reduceCtorEq]at hg
 intro vs W9 hI;obtain⟨b9,hG⟩:=hI;obtain⟨b,g8,hbs⟩:ed a r A8 c8 S A cl l ly hd 8 (vs 8) W9:=hG 8 (by decide) (by decide);have HB9:=QH (xu.out.trans (b9.mono xu.out.size));have HBS:=QH hbs;simp only[qW,qG,if_true];rw[g8];generalize vs 0=x0 at *;generalize vs 1=x1 at *;generalize vs 2=x2 at *;generalize vs 3=x3 at *;generalize vs 4=x4 at *;generalize vs 5=x5 at *;generalize vs 6=x6 at *;generalize vs 7=x7 at *;clear hG g8 b9 hbs;go_wp2_with fail;have hbl:∀m∈[ly,[(0,hd)],l],m.length≤1000:=fun m hm2=>by
  simp only[List.mem_cons,List.not_mem_nil,or_false]at hm2;rcases hm2 with rfl|rfl|rfl
  ·rw[HLY.out];omega
  ·simp
  ·omega
 have nO:=QH hbl;clear hbl;refine(uF (some ⟨b,0,none⟩) 3 [ly,[(0,hd)],l] W9 HBS.out (by simp) nO.out).mono ?_;rintro e W10 ⟨v10,rfl,q0S,b10⟩;obtain⟨A10,c10,rfl,hints⟩:=q0S.view (fun z hz=>by
  simp only[placesOf,List.flatten_cons,List.flatten_nil,List.map_append,List.mem_append,List.mem_map,List.map_nil,List.not_mem_nil,or_false]at hz;rcases hz with⟨x,hx,rfl⟩|⟨x,hx,rfl⟩|⟨x,hx,rfl⟩
  ·exact q0N.out x hx
  ·obtain rfl:x=_:=by simpa using hx
   unfold qD;dsimp only;omega
  ·have:=q0K.out x hx;unfold qD;omega)
 have HI:=QH hints;have qgP:=QH (qc HB9.out b10);have que:=QH (gL HBS.out b10);have hzl:=gJ [ly,[(0,hd)],l] nO.out;simp only[List.length_cons,List.length_nil]at hzl;clear q0S hints b10 HBS;go_wp2_with fail;refine(fk (HD.out.below qgP.out) A10 c10 _ HI.out (by omega)).mono ?_;rintro e W11 ⟨rfl,b11⟩;have rM:=QH (qc qgP.out b11);have q0T:=QH (gL que.out b11);clear b11 que;cases qnn:d.fits (placesOf [ly,[(0,hd)],l])with
 | false =>
  have vw:=iz.out;rw[if_pos qnn]at vw;subst vw;go_wp2_with fail;go_ret;exact xx HD.out rM.out
 | true =>
  have vw:=iz.out;rw[if_neg (by rw[qnn];simp)]at vw;have q6B:=QH vw;clear vw iz;go_wp2_with fail;refine(aB p _ 3 [ly,[(0,hd)],l] _ (Nat.lt_of_lt_of_le hpl rM.out.size) q0T.out (by simp) nO.out).mono ?_;rintro e W12 ⟨v,rfl,hgg⟩;have HG:=QH hgg;clear hgg;go_wp2_with fail;refine(lD (HD.out.below rM.out) HG.out (by rw[qbY,HLY.out];simp;omega) jh).mono ?_;rintro e W13 yc;have HPO:=QH (xA.from yc rM.out HD.out.low);obtain⟨rfl,_⟩:=yc;rw[q6B.out]at HPO ⊢;go_wp2_with fail;go_ret;exact HPO.out
end
end Go.Proofs.YtdagdllomphidaaGreatDoor.jr
namespace Go.Proofs.YtdagdllomphidaaGreatDoor.jr
open _root_.Go.Proofs.Tryz Go Go.RowKit dk wi
theorem qo8(a b:List UInt8):str a++str b=str (a++b):=by
 apply ByteArray.ext;apply Array.ext';simp[str]
theorem qo9(l:List UInt8)(n:Nat)(h:l=[0]):Lib.repeatL l n=List.replicate n 0:=by
 subst h
 induction n with
 | zero=>rfl
 | succ n ih=>rw[List.replicate_succ,← ih];rfl
theorem qiw:qoj:=by
 intro a c w ha hc;have e1:(a:Int)+1=((a+1:Nat):Int):=by omega
 have E1:=QH e1;have ha1:(a:Int)≤1:=by omega
 have hc1:(c:Int)≤72:=by omega
 clear e1;go_enter func128,ntmps128;go_wp2_with fail;rw[E1.out];have hA:qf ((w.alloc (.cells #[.int .i64 (a:Int),.int .i64 (c:Int)] 149)).alloc (.cells #[.int .i64 0,.string ⟨#[]⟩] 182)) w.heap.size 149 #[.int .i64 (a:Int),.int .i64 (c:Int)]:=by
  have k:=qf.new w 149 #[.int .i64 (a:Int),.int .i64 (c:Int)];exact k.of_block (((Below.refl _ (w.alloc (.cells #[.int .i64 (a:Int),.int .i64 (c:Int)] 149))).alloc (Nat.le_refl _) _).block _ k.lt)
 have hA2:qf ((w.alloc (.cells #[.int .i64 (a:Int),.int .i64 (c:Int)] 149)).alloc (.cells #[.int .i64 0,.string ⟨#[]⟩] 182)) (w.heap.size+1) 182 #[.int .i64 0,.string ⟨#[]⟩]:=by
  have:=qf.new (w.alloc (.cells #[.int .i64 (a:Int),.int .i64 (c:Int)] 149)) 182 #[.int .i64 0,.string ⟨#[]⟩];simpa using this
 have hB0:Below w.heap.size w ((w.alloc (.cells #[.int .i64 (a:Int),.int .i64 (c:Int)] 149)).alloc (.cells #[.int .i64 0,.string ⟨#[]⟩] 182)):=((Below.refl w.heap.size w).alloc (Nat.le_refl _) _).alloc (by simp) _;refine(ke ⟨#[]⟩ (a+1) _ (by omega) (by decide)).mono ?_;rintro e W1 ⟨rfl,b1⟩;have HA:=QH (hA.of_block (b1.block _ hA.lt));have aP:=QH (hA2.of_block (b1.block _ hA2.lt));have HB:=QH (qc hB0 b1);have q1:=HA.out.cell 1;have lt1:=HA.out.lt;obtain⟨S1,hS1⟩:=QE (str (bl ⟨#[]⟩++zw (a+1)));have hl1:=qx (a+1);have zdj:S1.size≤9:=by
  rw[← hS1,qQ,List.length_append];have:(bl ⟨#[]⟩).length=0:=rfl;omega
 rw[hS1];have aV:=QH hS1;clear hA hA2 hB0 b1 hS1;go_wp2_with fail;refine(ke S1 c _ (by omega) (by omega)).mono ?_;rintro e W2 ⟨rfl,b2⟩;have HC:=QH (aP.out.of_block (b2.block _ aP.out.lt));have qB:=QH (qc HB.out b2);have lt2:=HC.out.lt;have q2:=HC.out.frozen 0;obtain⟨S2,hS2⟩:=QE (str (bl S1++zw c));have hl2:=qx c;have q5Q:S2.size≤18:=by rw[← hS2,qQ,List.length_append,zu];omega
 have zdk:(S2.size:Int)≤18:=by omega
 rw[hS2];have uI:=QH hS2;clear hS2 b2 q1 lt1;go_wp2_with fail;have en:(32:Int)-(S2.size:Int)=((32-S2.size:Nat):Int):=by omega
 rw[en];refine(Tryz.strings_Repeat ⟨#[0]⟩ (32-S2.size) _ (by omega) (by have:(⟨#[0]⟩:ByteArray).size=1:=rfl;rw[this];omega)).mono ?_;rintro e W3 ⟨rfl,b3⟩;obtain⟨R,hR⟩:=QE ((⟨(Lib.repeatL (⟨#[0]⟩:ByteArray).data.toList (32-S2.size)).toArray⟩:ByteArray):ByteArray);rw[hR];have hRs:R.size=32-S2.size:=by
  rw[← hR,qo9 _ _ rfl];show(List.replicate (32-S2.size) (0:UInt8)).toArray.size=_;rw[List.size_toArray,List.length_replicate]
 have HR:=QH hR;have HD:=QH (HC.out.of_block (b3.block _ lt2));have qY:=QH (qc qB.out b3);have lt3:=HD.out.lt;have q3:=HD.out.frozen 0;have q4:=HD.out.frozen 1;have q5:=HD.out.cell 0;have q6:=HD.out.cell 1;clear b3 hR q2 lt2;go_wp2_with fail;have hE:=(HD.out.qo 0 (.int .i64 0)).qo 1 (.string (S2++R));have q7:=hE.cell 0;have q8:=hE.cell 1;have hout:str (kW a c)=S2++R:=by
  have hz:S2.size=(zw (a+1)).length+(zw c).length:=by
   rw[← uI.out,qQ,List.length_append,zu,← aV.out,qQ,List.length_append];have:(bl ⟨#[]⟩).length=0:=rfl;omega
  have h2:S2=str (zw (a+1)++zw c):=by rw[← uI.out,← aV.out,zi];rfl
  have h3:R=str (List.replicate (32-(zw (a+1)).length-(zw c).length) 0):=by
   rw[← HR.out,qo9 _ _ rfl,hz,Nat.sub_add_eq];rfl
  rw[h2,h3,qo8];rfl
 have HO:=QH hout;clear hout hE
 (try simp only[Exit.inBlock,Exit.then])
 refine bodyPost_ret (v:=.agg #[.int .i64 0,.string (S2++R)]) (by simp[results,results128,go_sem,q7,q8]) rfl ⟨by rw[HO.out],(qY.out.setCell (p:=⟨w.heap.size+1,0,none⟩) (Nat.le_succ _) _).setCell (p:=⟨w.heap.size+1,1,none⟩) (Nat.le_succ _) _⟩
def m1 (s:Bt):Nat:=match rdNum s with|none=>0|some (m,_)=>m
def c1 (s:Bt):Nat:=match rdNum s with|none=>0|some (_,r)=>match rdNum r with|none=>0|some (c,_)=>c
theorem qa5{a c:Nat}(ha:a<2)(hc:c≤72):m1 (kW a c)=a+1∧c1 (kW a c)=c:=by
 unfold m1 c1 kW;rw[List.append_assoc,uk (a+1) (by omega)];dsimp only;rw[uk c (by omega)];exact⟨rfl,rfl⟩
theorem qso(s:Bt):dA s=if m1 s<1∨2<m1 s∨72<c1 s then none else if kW (m1 s-1) (c1 s)=s then some (m1 s-1,c1 s)else none:=by
 by_cases h:m1 s<1∨2<m1 s∨72<c1 s
 ·rw[if_pos h];cases hx:dA s with
  | none=>rfl
  | some p =>
   obtain⟨a,c⟩:=p;obtain⟨ha,hc,rfl⟩:=ur hx;have:=qa5 ha hc;omega
 ·rw[if_neg h];by_cases he:kW (m1 s-1) (c1 s)=s
  ·rw[if_pos he];have:=(uO (a:=m1 s-1) (c:=c1 s) (by omega) (by omega)).2.1;rw[he]at this;exact this
  ·rw[if_neg he];cases hx:dA s with
   | none=>rfl
   | some p =>
    obtain⟨a,c⟩:=p;obtain⟨ha,hc,rfl⟩:=ur hx;have:=qa5 ha hc;rw[this.1,this.2]at he;exact absurd rfl he
def q0U (rb:Nat)(s:Bt)(w:World)(e:Ending)(w':World):Prop :=
 e=.returned (.int .u64 (m1 s:Int))∧m1 s<18446744073709551616∧w.grownBy w' (some rb)∧((∃m r,rdNum s=some (m,r)∧zo rb r false w')∨(rdNum s=none∧∃m,zo rb m true w'))
def q0V (rb:Nat)(s:Bt)(w:World)(e:Ending)(w':World):Prop :=
 e=.returned (.int .u64 (c1 s:Int))∧c1 s<18446744073709551616∧w.grownBy w' (some rb)
theorem q0W{rb:Nat}{s:Bt}{w:World}(h:zo rb s false w):Calls prog 127 #[.pointer (some ⟨rb,0,none⟩)] w (q0U rb s w):=by
 refine(wm rb s w h).mono ?_;rintro e w' ⟨hg,⟨z,r1,hn,rfl,hr⟩|⟨hn,rfl,hm⟩⟩
 ·have e1:m1 s=z:=by unfold m1;rw[hn]
  exact⟨by rw[e1],by rw[e1];exact(dH _ _ _ hn).2,hg,.inl ⟨z,r1,hn,hr⟩⟩
 ·have e1:m1 s=0:=by unfold m1;rw[hn]
  exact⟨by rw[e1];rfl,by rw[e1];decide,hg,.inr ⟨hn,hm⟩⟩
theorem q0X{rb:Nat}{s:Bt}{w:World}(h:(∃m r,rdNum s=some (m,r)∧zo rb r false w)∨(rdNum s=none∧∃m,zo rb m true w)):Calls prog 127 #[.pointer (some ⟨rb,0,none⟩)] w (q0V rb s w):=by
 rcases h with⟨m,r,hs,h⟩|⟨hs,m,h⟩
 ·refine(wm rb r w h).mono ?_;rintro e w' ⟨hg,⟨z,r1,hn,rfl,hr⟩|⟨hn,rfl,hm⟩⟩
  ·have e1:c1 s=z:=by unfold c1;rw[hs];dsimp only;rw[hn]
   exact⟨by rw[e1],by rw[e1];exact(dH _ _ _ hn).2,hg⟩
  ·have e1:c1 s=0:=by unfold c1;rw[hs];dsimp only;rw[hn]
   exact⟨by rw[e1];rfl,by rw[e1];decide,hg⟩
 ·refine(ot rb m w h).mono ?_;rintro e w' ⟨rfl,rfl⟩;have e1:c1 s=0:=by unfold c1;rw[hs]
  exact⟨by rw[e1];rfl,by rw[e1];decide,wW _ _⟩
theorem qix:qok:=by
 intro most w own p d h zU hn;have wM:d.read 0=(rd d.now 0,0):=by
  unfold DD.read;have:d.has 0=true:=by
   simp only[DD.has,Bool.and_eq_true,decide_eq_true_eq];omega
  rw[if_neg (by rw[zU];simp),if_neg (by rw[this];simp)];rfl
 have h32:(rd d.now 0).length=32:=by
  unfold rd;cases hx:dk.look d.now 0 with
  | none=>exact qZ
  | some u=>exact h.1.qaf hx
 generalize rd d.now 0=x at *;obtain⟨res,hres⟩:=QE (dA x);rw[hres];rw[qso]at hres;have xy:=QH hres;have HD:=QH h;have xE:=QH wM;have H32:=QH h32;have hb0:Below w.heap.size w (w.alloc (.cells #[.int .i64 0,.int .i64 0] 149)):=(Below.refl w.heap.size w).alloc (Nat.le_refl _) _;have hk0:qf (w.alloc (.cells #[.int .i64 0,.int .i64 0] 149)) w.heap.size _ _:=qf.new w _ _;have xu:=QH hb0;have HK0:=QH hk0;clear h wM h32 hres hb0 hk0;go_enter func84,ntmps84;go_wp2_with fail;refine(qig (B:=0) ⟨own,HD.out.below xu.out,fun _ _=>Nat.zero_le _⟩ 0 x (str x) rfl 0 xE.out).mono ?_;rintro e W1 ⟨rfl,_,b1⟩;have eF:=QH (HK0.out.of_block (b1.block _ HK0.out.lt));have qR:=QH (qc xu.out b1);obtain⟨X,hX⟩:=QE (str x);rw[hX];have HX:=QH hX;clear b1 hX;go_wp2_with fail;refine(qaX X W1 (by rw[← HX.out,qQ,H32.out];decide)).mono ?_;rintro e W2 ⟨rb,rfl,hrb,hR,b2⟩;have jI:=QH hR;have jZ:=QH (eF.out.of_block (b2.block _ eF.out.lt));have qB:=QH (qc qR.out b2);have hne:rb≠w.heap.size:=by have:=eF.out.lt;omega
 clear b2 hR;go_wp2_with fail;have hRx:zo rb x false W2:=by
  have:=jI.out;rw[← HX.out,zi]at this;exact this
 refine(q0W hRx).mono ?_;rintro e W3 ⟨rfl,q6D,g3,hst⟩;have HST:=QH hst;have l7:=QH (jZ.out.of_block (g3.block _ jZ.out.lt (by simpa using Ne.symm hne)));have qY:=QH (qB.out.grown g3 qB.out.size (fun j hj=>by simp at hj;have:=qR.out.size;omega));clear hRx hst g3;go_wp2_with fail;refine(q0X HST.out).mono ?_;rintro e W4 ⟨rfl,q6E,g4⟩;have mv:=QH (l7.out.of_block (g4.block _ l7.out.lt (by simpa using Ne.symm hne)));have zP:=QH (qY.out.grown g4 qY.out.size (fun j hj=>by simp at hj;have:=qR.out.size;omega));clear g4;obtain⟨m,hm⟩:=QE (m1 x);obtain⟨c,hc⟩:=QE (c1 x);have hres:=xy.out;rw[hm,hc]at hres;rw[hm]at q6D;rw[hc]at q6E;rw[hm,hc];clear xy hm hc eF jZ l7 qR qB qY HST;have lt4:=mv.out.lt;have f0:=mv.out.frozen 0;have f1:=mv.out.frozen 1;have q0:=mv.out.cell 0;have q1:=mv.out.cell 1;have hno:∀W,Below w.heap.size w W→res=none→rh res w (.returned (.tuple #[.agg #[.int .i64 0,.int .i64 0],.bool false])) W:=by
  intro W hb hr;subst hr;exact⟨hb,0,0,rfl⟩
 have vr:=QH hno;clear hno;by_cases hlo:m<1
 ·have c1:((m:Int)<1):=by omega
  rw[if_pos (.inl hlo)]at hres;have nR:=QH hres;clear hres;go_wp2_with fail;have hE:=(mv.out.qo 0 (.int .i64 0)).qo 1 (.int .i64 0);have q7:=hE.cell 0;have q8:=hE.cell 1
  (try simp only[Exit.inBlock,Exit.then])
  refine bodyPost_ret (v:=.tuple #[.agg #[.int .i64 0,.int .i64 0],.bool false]) (by simp[results,results84,go_sem,q7,q8]) rfl (vr.out _ ((zP.out.setCell (p:=⟨w.heap.size,0,none⟩) (Nat.le_refl _) _).setCell (p:=⟨w.heap.size,1,none⟩) (Nat.le_refl _) _) nR.out.symm)
 ·by_cases hhi:2<m
  ·have c1:¬ ((m:Int)<1):=by omega
   have c2:(2:Int)<(m:Int):=by omega
   rw[if_pos (.inr (.inl hhi))]at hres;have nR:=QH hres;clear hres;go_wp2_with fail;have hE:=(mv.out.qo 0 (.int .i64 0)).qo 1 (.int .i64 0);have q7:=hE.cell 0;have q8:=hE.cell 1
   (try simp only[Exit.inBlock,Exit.then])
   refine bodyPost_ret (v:=.tuple #[.agg #[.int .i64 0,.int .i64 0],.bool false]) (by simp[results,results84,go_sem,q7,q8]) rfl (vr.out _ ((zP.out.setCell (p:=⟨w.heap.size,0,none⟩) (Nat.le_refl _) _).setCell (p:=⟨w.heap.size,1,none⟩) (Nat.le_refl _) _) nR.out.symm)
  ·by_cases h72:72<c
   ·have c1:¬ ((m:Int)<1):=by omega
    have c2:¬ (2:Int)<(m:Int):=by omega
    have c3:(72:Int)<(c:Int):=by omega
    rw[if_pos (.inr (.inr h72))]at hres;have nR:=QH hres;clear hres;go_wp2_with fail;have hE:=(mv.out.qo 0 (.int .i64 0)).qo 1 (.int .i64 0);have q7:=hE.cell 0;have q8:=hE.cell 1
    (try simp only[Exit.inBlock,Exit.then])
    refine bodyPost_ret (v:=.tuple #[.agg #[.int .i64 0,.int .i64 0],.bool false]) (by simp[results,results84,go_sem,q7,q8]) rfl (vr.out _ ((zP.out.setCell (p:=⟨w.heap.size,0,none⟩) (Nat.le_refl _) _).setCell (p:=⟨w.heap.size,1,none⟩) (Nat.le_refl _) _) nR.out.symm)
   ·have c1:¬ ((m:Int)<1):=by omega
    have c2:¬ (2:Int)<(m:Int):=by omega
    have c3:¬ (72:Int)<(c:Int):=by omega
    rw[if_neg (by omega)]at hres;obtain⟨k,rfl⟩:∃k,m=k+1:=⟨m-1,by omega⟩;have e1:((k+1:Nat):Int)-1=(k:Int):=by omega
    rw[Nat.add_sub_cancel]at hres;have nR:=QH hres;have E1:=QH e1;have hk2:k<2:=by omega
    have q6F:c≤72:=by omega
    clear hres e1;go_wp2_with fail;have kb5:qf (W4.alloc (.cells #[.int .i64 (k:Int),.int .i64 (c:Int)] 149)) W4.heap.size _ _:=qf.new W4 _ _;have hb5:Below w.heap.size w (W4.alloc (.cells #[.int .i64 (k:Int),.int .i64 (c:Int)] 149)):=zP.out.alloc zP.out.size _;have hk5:qf (W4.alloc (.cells #[.int .i64 (k:Int),.int .i64 (c:Int)] 149)) w.heap.size 149 #[.int .i64 0,.int .i64 0]:=mv.out.of_block (((Below.refl W4.heap.size W4).alloc (Nat.le_refl _) _).block _ lt4);have KB5:=QH kb5;have xQ:=QH hb5;have ny:=QH hk5;clear kb5 hb5 hk5 q0 q1 f0 f1 lt4;refine(qiw k c _ hk2 q6F).mono ?_;rintro e W6 ⟨rfl,b6⟩;have kb6:qf W6 W4.heap.size _ _:=KB5.out.of_block (b6.block _ KB5.out.lt);have ji:qf W6 w.heap.size 149 #[.int .i64 0,.int .i64 0]:=ny.out.of_block (b6.block _ ny.out.lt);have jy:=QH (qc xQ.out b6);have HK6:=QH ji;have r0:=kb6.cell 0;have r1:=kb6.cell 1;have lt6:=ji.lt;have zdl:=kb6.lt;have q0:=ji.cell 0;have q1:=ji.cell 1;have f0:=ji.frozen 0;have f1:=ji.frozen 1;clear kb6 ji b6 KB5 xQ ny zP mv;have dr:∀(Z:ByteArray) (W:World),(Instr.field 182 (.agg #[.int .i64 0,.string Z]) 1).run prog W=.ok (.string Z) W:=fun Z W=>by simp[Instr.field,go_sem,asAgg]
    obtain⟨Y,hY⟩:=QE (str (kW k c));rw[hY];have HY:=QH hY;clear hY;by_cases heq:kW k c=x
    ·have hsome:res=some (k,c):=by rw[← nR.out,if_pos heq]
     have hYX:Y=X:=by rw[← HY.out,← HX.out,heq]
     have hq:(Y.toList == X.toList)=true:=by rw[hYX];simp
     have HS:=QH hsome;clear hsome hYX nR heq;go_wp2_with fail;have hE:=(HK6.out.qo 0 (.int .i64 (k:Int))).qo 1 (.int .i64 (c:Int));have q7:=hE.cell 0;have q8:=hE.cell 1
     (try simp only[Exit.inBlock,Exit.then])
     refine bodyPost_ret (v:=.tuple #[.agg #[.int .i64 (k:Int),.int .i64 (c:Int)],.bool true]) (by simp[results,results84,go_sem,q7,q8]) rfl ?_;rw[HS.out];exact⟨(jy.out.setCell (p:=⟨w.heap.size,0,none⟩) (Nat.le_refl _) _).setCell (p:=⟨w.heap.size,1,none⟩) (Nat.le_refl _) _,rfl⟩
    ·have hnone:res=none:=by rw[← nR.out,if_neg heq]
     have hYX:Y≠X:=by
      intro h;rw[← HY.out,← HX.out]at h;exact heq (str_inj h)
     have hq:(Y.toList == X.toList)=false:=by
      rw[beq_eq_false_iff_ne];intro h;apply hYX;rw[← iH Y,← iH X];exact congrArg str (by simpa[bl,ByteArray.toList_eq]using h)
     have HS:=QH hnone;clear hnone hYX nR heq;go_wp2_with fail;have hE:=(HK6.out.qo 0 (.int .i64 0)).qo 1 (.int .i64 0);have q7:=hE.cell 0;have q8:=hE.cell 1
     (try simp only[Exit.inBlock,Exit.then])
     refine bodyPost_ret (v:=.tuple #[.agg #[.int .i64 0,.int .i64 0],.bool false]) (by simp[results,results84,go_sem,q7,q8]) rfl ?_;exact vr.out _ ((jy.out.setCell (p:=⟨w.heap.size,0,none⟩) (Nat.le_refl _) _).setCell (p:=⟨w.heap.size,1,none⟩) (Nat.le_refl _) _) HS.out
end Go.Proofs.YtdagdllomphidaaGreatDoor.jr
namespace Go.Proofs.YtdagdllomphidaaGreatDoor.vt.pg
open _root_.Go.Proofs.Tryz Go Go.RowKit Go.Sort ib mt im sp
theorem ik (t:Tg):∀(ss:List Bt) (o:Nat),bQ (fun x=>decide (t x.1=x.2)) (jr.zk o ss)=zW t o ss
 | [],_=>rfl
 | s::r,o=>by
  have ih:=ik t r (o+1);unfold bQ at ih ⊢;unfold jr.zk zW;rw[List.filter_cons,ih];by_cases h:t (o:Int)=s <;> simp[h]
theorem mY {ss:List Bt}{o:Nat}{x:Wr}(h:x∈jr.zk o ss):(o:Int)≤x.1∧x.1<((o+ss.length:Nat):Int):=by
 obtain⟨i,hi,h1,_⟩:=jr.jB ss o x h;omega
def qee (G:Nat→Prop)(w:World)(A:Option Addr)(n:Nat)(M:Nat→Mt):Prop:=∀i,i<n→∃b o f,A=some ⟨b,o,none⟩∧b<w.heap.size∧w.cell? ⟨b,o+i,none⟩=some f∧uX G w f (M i) (M (i+1))
theorem qee.below{G:Nat→Prop}{w w':World}{A:Option Addr}{n:Nat}{M:Nat→Mt}(h:qee G w A n M)(hb:Below w.heap.size w w'):qee G w' A n M:=fun i hi=>by
 obtain⟨b,o,f,h1,h2,h3,h4⟩:=h i hi;exact⟨b,o,f,h1,Nat.lt_of_lt_of_le h2 hb.size,(hb.cell (p:=⟨b,o+i,none⟩) h2).trans h3,h4.below hb⟩
def EfR (G:Nat→Prop)(g:Nat)(n:Nat)(M:Nat→Mt)(w:World)(i:Value)(wr:World):Prop :=
 ∃k:Nat,k≤n∧i=.int .i64 (k:Int)∧Nx G wr g (M k)∧Below w.heap.size w wr
def BlR (B:Nat)(l:List Wr)(P:List Pl)(w:World)(v i:Value)(wr:World):Prop :=
 ∃k:Nat,k≤P.length∧i=.int .i64 (k:Int)∧jr.mQ wr B v (l++rB (P.take k))∧Below w.heap.size w wr
theorem qoA{P:List Pl}{k:Nat}(h:k<P.length):rB (P.take (k+1))=rB (P.take k)++(if P[k].2.1=0 then[]else[(P[k].2.1,P[k].2.2)]):=by
 unfold rB;rw[List.take_succ_eq_append_getElem h,List.filterMap_append]
 congr 1
 by_cases e:P[k].2.1=0 <;> simp[e]
theorem nS {b N:Nat}{m:Mt}(h:yB b N m):mtS m:=by
 refine⟨?_,?_,fun s hs=>?_,?_⟩
 ·have:=h.len;have:=h.b8;omega
 ·have:=h.few;omega
 ·have:=(h.uD s hs).1;have:=h.b8;omega
 ·rcases h.tok with ht|ht
  ·rw[ht];simp[zD]
  ·have:=ht.2.2.2.2.2.1;have:=h.b8;omega
def q0Z (S:Nat)(o1 o2:Nat→Prop)(v pd:Nat)(Q:Int→DD→Mt→Bool→Prop)(w:World)(e:Ending)(w':World):Prop :=
 ∃r d' m' lost bm dB,e=.returned (.int .i64 r)∧VP jJ w' bm dB v pd d' m' lost∧ib.qy (fun j=>o1 j∨o2 j) w w'∧(∀j,bm j∨dB j→(o1 j∨o2 j)∨S≤j)∧Q r d' m' lost
theorem qgQ{o1 o2:Nat→Prop}{w:World}{v pd N S b n:Nat}{d:DD}{m m':Mt}{t:Tg}{ws:List Wr}{M:Nat→Mt}(h:VP jJ w o1 o2 v pd d m false)(hJ:jr.JJ N t d)(hf:0≤d.qp)(hR:qO b N t m)(hS:S≤w.heap.size)(xR:∀j,o1 j∨o2 j∨j=gN→j<S)
    (hM0:M 0=m) (hMn:M n=m') (jS:yB b N m') (tq:dE N m ws) {A:Option Addr} {c:Nat} (hE:qee (fun j=>(o1 j∧j≠v)∨S≤j) w A n M) (hn:n≤10) {B:Option Addr} {cb:Nat} {P:List Pl} (hP:PlL w B P) (hpl:P.length≤100) (hPW:rB P=ws) :
    Calls prog 56 #[pt v,.slice B P.length cb,.slice A n c] w (q0Z S o1 o2 v pd (yo N t d m ⟨0,m',ws⟩) w):=by
 obtain⟨iw,wi1,wi2,wi3,wi4⟩:=info_parts qbJ;obtain⟨A0,A1,A2,c0,c1,c2,hA⟩:=h.is;have HV:=QH h;have HA:=QH hA;have HJ:=QH hJ;have HR:=QH hR;have HE:=QH hE;have HP:=QH hP;have HOK:=QH jS;have HWS:=QH tq;have HPW:=QH hPW;have HS:=QH hS;have q1b:=QH xR;have HMN:=QH hMn;have HFU:=QH hf;obtain⟨bz,k0,k1,k2,k3,k4,k5,k6,k7,k8,k9,cP⟩:=hA.cells;have kB:=(Below.refl _ w).alloc (Nat.le_refl _) (.cells (zq A0 A1 A2 c0 c1 c2 m) 98);have nP:=qf.new w 98 (zq A0 A1 A2 c0 c1 c2 m);obtain⟨W1,hW1⟩:=QE (w.alloc (.cells (zq A0 A1 A2 c0 c1 c2 m) 98));rw[hW1]at kB nP;obtain⟨g,hg⟩:=QE w.heap.size;have HG:=QH hg;have qR:=QH kB;have HN1:Hid (Nx (fun j=>(o1 j∧j≠v)∨S≤j) W1 g (M 0)):=by
  refine⟨A0,A1,A2,c0,c1,c2,by rw[hM0,← hg];exact nP,?_⟩;rw[hM0];exact(hA.tab.mono (fun j hj=>⟨.inl hj,by have:=hA.low j hj.1;omega⟩)).below kB
 clear h hA hJ hR hE hP jS tq hPW hS xR hMn hM0 kB nP hf;unfold zq at hW1;go_enter func56,ntmps56;go_upto_region 2 with fail;try rw[hW1]
 try rw[hg]
 clear hW1 hg k0 k1 k2 k3 k4 k5 k6 k7 k8 k9 cP bz;go_wp2_with fail;go_loopw [20] (fun i wr=>EfR (fun j=>(o1 j∧j≠v)∨S≤j) g n M w i wr) (fun i _=>n-(intOf i).toNat);case atStart=>exact⟨0,Nat.zero_le _,rfl,HN1.out,qR.out⟩
 case round =>
  obtain⟨k,hk,rfl,hnx,hB⟩:=hrel;have HNX:=QH hnx;have HB:=QH hB;clear hnx hB;by_cases hlt:k<n
  ·have jG:(k:Int)<(n:Int):=by omega
   have hk0:¬ (k:Int)<0:=by omega
   obtain⟨b',o',f,rfl,s1,s2,kf,kq,rfl,hcf,bP⟩:=HE.out k hlt;have q1:=Nat.lt_of_lt_of_le s1 HB.out.size;have q2:=(HB.out.cell (p:=⟨b',o'+k,none⟩) s1).trans s2;have gK:=QH (bP wr g HB.out (by rw[HG.out];exact Nat.le_refl _) HNX.out);clear s1 s2 bP;go_wp2_with fail;refine gK.out.mono ?_;rintro e W2 ⟨rfl,q1c,hbu⟩;have q6H:=QH q1c;have qB:Hid (Below w.heap.size w W2):=HB.out.trans (hbu.below (fun i e=>by rw[e,← HG.out];exact Nat.le_refl _) HB.out.size);clear q1c hbu gK q1 q2;go_wp2_with fail;go_roundw;case rel=>exact⟨k+1,by omega,by go_num,q6H.out,qB.out⟩
   case measure=>simp[intOf];omega
  ·obtain rfl:k=n:=by omega
   obtain⟨wo,hwo⟩:∃x,x=wr:=⟨_,rfl⟩;subst hwo;have jG:¬ (k:Int)<(k:Int):=by omega
   obtain⟨X0,X1,X2,d0,d1,d2,hxk,hxt⟩:=HNX.out.ex;rw[HMN.out]at hxk hxt;have HXK:=QH hxk;have HXT:=QH hxt;have hsz:mtS m':=nS HOK.out;have iU:=QH hsz;have iE:xK wo:=HA.out.ct.below HB.out HA.out.ct.1;have dF:=QH iE;have hwr:=pZ hxt.mt hsz (HOK.out.enc HR.out.N1) (HOK.out.size HR.out.N1) iE;have HWR:=QH hwr;have j0:=hxk.cell 0;have j1:=hxk.cell 1;have j2:=hxk.cell 2;have j3:=hxk.cell 3;have j4:=hxk.cell 4;have j5:=hxk.cell 5;have j6:=hxk.cell 6;have j7:=hxk.cell 7;have j8:=hxk.cell 8;have jlt:=hxk.lt;simp only[zq,QA,QB,QC]at j0 j1 j2 j3 j4 j5 j6 j7 j8;unfold zq at HWR;clear hxk hxt hsz iE hwr HNX;go_wp2_with fail;refine HWR.out.mono ?_;rintro e W2 ⟨vl,rfl,hol,hb2⟩;have HOL:=QH hol;have qB:=QH hb2;have hts:=xU HOK.out HR.out.N1;have HTS:=QH hts;have HLL:Hid ((jr.zk 145 (xG m')).length=(xG m').length):=by unfold Hid;rw[jr.ze]
   have HTC:Hid (qob wo 106 (pt v) (fun x=>decide (t x.1=x.2)) (jr.zk 145 (xG m'))):=fun W hW x hx=>by
    have hr:=mY hx;have h2:=HTS.out.2;have h3:=HR.out.N0;exact qkn (qT HV.out (qc HB.out hW)) HJ.out x hr.1 (by omega)
   have hdel:=qrK (b:=pt v) hol (by rw[HLL.out];omega) (by rw[HLL.out];omega) hb2 HTC.out;rw[show qoe (jr.zk 145 (xG m')) (fun x=>decide (t x.1=x.2)) wo=qoe (jr.zk 145 (xG m')) (fun x=>decide (t x.1=x.2)) wo from rfl]at hdel;have q1e:=QH hdel;clear hol hb2 hts hdel HWR j0 j1 j2 j3 j4 j5 j6 j7 j8 jlt;go_wp2_with fail;refine q1e.out.mono ?_;rintro e W3 ⟨v3,rfl,ho3,hb3⟩;rw[ik]at ho3;have sM:=QH ho3;have qY:=QH hb3;have HLD:=QH (bh (t:=t) (xG m') 145);obtain⟨td,htd⟩:=QE (zW t 145 (xG m'));have HTD:=QH htd;rw[htd]at sM HLD;clear ho3 hb3 htd q1e HTC HOL;go_wp2_with fail;go_loopw [10,41] (fun v i wz=>BlR wo.heap.size td P wo v i wz) (fun _ i _=>P.length-(intOf i).toNat);case atStart=>exact⟨0,Nat.zero_le _,rfl,by simpa[rB]using sM.out,qY.out⟩
   case round =>
    obtain⟨k,hk,rfl,ho,hB4⟩:=hrel;have HO:=QH ho;have zP:=QH hB4;have kV:=QH (qc HB.out hB4);clear ho hB4;by_cases hlt:k<P.length
    ·have q6J:(k:Int)<(P.length:Int):=by omega
     have hk0:¬ (k:Int)<0:=by omega
     obtain⟨b',o',rfl,s1,s2,s3,s4⟩:=(HP.out.below kV.out) k hlt;have tA:=QH (qoA hlt);have hlen:(rB (P.take k)).length≤100:=by
      have h1:(rB (P.take k)).length≤(P.take k).length:=List.length_filterMap_le _ _;rw[List.length_take]at h1;omega
     obtain⟨x,hx⟩:=QE (P[k]);rw[hx]at tA s2 s3 s4;clear hx;obtain⟨bk,at_,s⟩:=x;dsimp only at tA s2 s3 s4;obtain⟨SS,hSS⟩:=QE (str s);have HSS:=QH hSS;rw[hSS]at s4;have kB:=(Below.refl _ wr).alloc (Nat.le_refl _) (.cells #[.int .i64 bk,.int .i64 at_,.string SS] 171);have nP:=qf.new wr 171 #[.int .i64 bk,.int .i64 at_,.string SS];obtain⟨W5,iC⟩:=QE (wr.alloc (.cells #[.int .i64 bk,.int .i64 at_,.string SS] 171));rw[iC]at kB nP;have v1:=nP.cell 1;have v2:=nP.cell 2;have hvl:=nP.lt;simp only[QA,QB,QC]at v1 v2;have xQ:=QH (qc zP.out kB);have HO5:Hid (jr.mQ W5 wo.heap.size _ (td++rB (P.take k))):=zB HO.out (fun j hj=>kB.block j (HO.out.lt j hj).2);by_cases h0:at_=0
     ·have hz0:(at_ == 0)=true:=by rw[h0];rfl
      have HP0:Hid (td++rB (P.take (k+1))=td++rB (P.take k)):=by unfold Hid;rw[tA.out,if_pos h0,List.append_nil]
      clear kB nP h0 tA hSS;go_upto_region 14 with fail;try rw[iC]
      clear iC s1 s2 s3 s4;go_wp2_with fail;go_roundw;case rel=>exact⟨k+1,by omega,by go_num,by rw[HP0.out];exact HO5.out,xQ.out⟩
      case measure=>simp[intOf];omega
     ·have hz0:(at_ == 0)=false:=beq_false_of_ne h0;have HP1:Hid (td++rB (P.take (k+1))=(td++rB (P.take k))++[(at_,s)]):=by unfold Hid;rw[tA.out,if_neg h0,List.append_assoc]
      have hby:=(Below.refl _ W5).alloc (Nat.le_refl _) (.cells #[.int .i64 at_,.string SS] 182);have HO6:Hid (jr.mQ (W5.alloc (.cells #[.int .i64 at_,.string SS] 182)) wo.heap.size _ (td++rB (P.take k))):=zB HO5.out (fun j hj=>hby.block j (HO5.out.lt j hj).2);have jy:=QH (qc xQ.out hby);have dC:Hid (∀j u,([.int .i64 at_,.string SS]:List Value)[j]?=some u→(W5.alloc (.cells #[.int .i64 at_,.string SS] 182)).cell? ((⟨W5.heap.size,0,none⟩:Addr).add j)=some u):=fun j u hu=>by
       rw[addr_add,Nat.zero_add,(qf.new W5 182 #[.int .i64 at_,.string SS]).cell j];simpa using hu
      have e1:∀u∈([.int .i64 at_,.string SS]:List Value),u.oneCell'=true:=by intro u hu;simp at hu;rcases hu with rfl|rfl <;> rfl
      have E1:=QH e1;have q1f:Hid (td.length≤48):=by have h1:=HLD.out;have h2:=HTS.out.2;unfold Hid;omega
      have E2:Hid ((td++rB (P.take k)).length+1≤maxLen):=by have h1:=q1f.out;unfold Hid;rw[List.length_append];unfold maxLen;omega
      have E3:Hid (((td++rB (P.take k)).length+1)*24≤140737488355328):=by have h1:=q1f.out;unfold Hid;rw[List.length_append];omega
      obtain⟨Lw,hLw⟩:=QE (td++rB (P.take k));rw[hLw]at HO6 HP1 E2 E3;clear kB nP h0 tA e1 hby hLw HO5 HO hSS hlen;go_upto_region 14 with fail;try rw[iC]
      clear iC s1 s2 s3 s4;go_wp2_with (at_builtin;refine xq rfl (.tmp 48) (.tmp 54) 136 rfl wo.heap.size 182 iw (.agg #[.int .i64 0,.string ByteArray.empty]) 2 24 underlying136 wi1 wi2 wi3 wi4 rfl (by decide) _ _ _ rfl HO6.out ⟨W5.heap.size,0,none⟩ 1 1 [.int .i64 at_,.string SS] rfl rfl dC.out E1.out E2.out E3.out jy.out.size ?_);intro v' w1 hown hgrow _;have gY:Hid (Below wo.heap.size wo w1):=jy.out.grown hgrow jy.out.size (fun j hj=>(HO6.out.lt j hj).1);have HO7:Hid (jr.mQ w1 wo.heap.size v' (Lw++[(at_,s)])):=by
       refine jr.mQ.snoc ?_;show w1.ownsRow _ _ _ v' (Lw.length+1) (jr.zT Lw++[.int .i64 at_,.string (str s)]);rw[HSS.out];exact hown
      clear hown hgrow;go_wp2_with fail;go_roundw;case rel=>exact⟨k+1,by omega,by go_num,by rw[HP1.out];exact HO7.out,gY.out⟩
      case measure=>simp[intOf];omega
    ·obtain rfl:k=P.length:=by omega
     have q6J:¬ (P.length:Int)<(P.length:Int):=by omega
     have ho:=HO.out;rw[List.take_length,HPW.out,← HTD.out]at ho;have HOC:Hid (jr.mQ wr wo.heap.size _ (qz t m' ws)):=ho;have q1g:=au HR.out HOK.out HWS.out;obtain⟨AW,cw,hvw,tq⟩:=HOC.out.view (fun x hx=>by have:=q1g x hx;have:=HR.out.N1;unfold jr.qD;omega);have hlw:(qz t m' ws).length≤60:=by
      have h1:=bh (t:=t) (xG m') 145;have h2:=HTS.out.2;have h3:=HWS.out.few;unfold qz qd0;rw[List.length_append];omega
     have hv2:=qT HV.out kV.out;have hN:=hv2.dk.1;have hdn:d.n=N:=HJ.out.rb.1;have quf:d.more=[]:=HJ.out.more;have q1h:=jr.ij jr.qiw jr.qix hv2.dk (by rw[hdn];have:=HR.out.N0;omega) AW cw (qz t m' ws) tq (by omega) (HA.out.ct.below kV.out HA.out.ct.1) (by rw[quf];decide) (by decide);have qsp:=QH q1h;have lM:=QH (jr.pk (N:=N) (tgt:=t) (l:=qz t m' ws) (d:=d) (by have:=HR.out.N0;omega) HR.out.N1 HJ.out HFU.out (qgd HR.out HOK.out HWS.out));have HV2:=QH hv2;obtain⟨bz,k0,k1,k2,k3,k4,k5,k6,k7,k8,k9,cP⟩:=(HA.out.below kV.out).cells;obtain⟨nw,hnw⟩:=QE ((qz t m' ws).length);rw[hnw]at hvw qsp;have HVW:=QH hvw;rw[hvw];obtain⟨RC,hRC⟩:=QE (jr.xa d (qz t m' ws));rw[hRC]at qsp lM;clear q1g tq hlw hv2 hN hdn quf q1h hnw hvw hRC ho k0 k1 k2 k3 k4 k5 k6 k7 k8 cP;go_wp2_with fail;refine qsp.out.mono ?_;rintro e W6 ⟨rfl,dB,hd6,kU,hg6⟩;obtain⟨r6,d6⟩:=RC;dsimp only at hd6 lM ⊢;have HD6:=QH hd6;have jy:Hid (ib.qy o2 wr W6):=qb3 kU;have HG6:Hid (∀j,dB j→o2 j∨wr.heap.size≤j):=hg6;have HDJ:=QH HV.out.dj;have hS:=HS.out;have hgS:S≤g:=by rw[← HG.out];exact hS
     have qw9:Hid (∀j,o2 j→j<S):=fun j hj=>q1b.out j (.inr (.inl hj));have n4:=(HA.out.below kV.out).stay (w':=W6) (fun j hj=>jy.out.block j (by
      rcases hj with hj|rfl
      ·exact Nat.lt_of_lt_of_le (HA.out.low j hj) kV.out.size
      ·exact Nat.lt_of_lt_of_le HA.out.ct.1 kV.out.size) (HDJ.out j hj)) jy.out.size
     have HAW:=QH n4;have sR:qf W6 g 98 (zq X0 X1 X2 d0 d1 d2 m'):=(HXK.out.below zP.out).of_block (jy.out.block g (HXK.out.below zP.out).lt (fun e=>by have:=qw9.out g e;omega));have j0:=sR.cell 0;have j1:=sR.cell 1;have j2:=sR.cell 2;have j3:=sR.cell 3;have j4:=sR.cell 4;have j5:=sR.cell 5;have j6:=sR.cell 6;have j7:=sR.cell 7;have j8:=sR.cell 8;have jlt:=sR.lt;simp only[zq,QA,QB,QC]at j0 j1 j2 j3 j4 j5 j6 j7 j8;obtain⟨bz,k0,k1,k2,k3,k4,k5,k6,k7,k8,k9,cP⟩:=n4.cells;have f0:=n4.blk.frozen 0;have f1:=n4.blk.frozen 1;have f2:=n4.blk.frozen 2;have f3:=n4.blk.frozen 3;have f4:=n4.blk.frozen 4;have f5:=n4.blk.frozen 5;have f6:=n4.blk.frozen 6;have f7:=n4.blk.frozen 7;have f8:=n4.blk.frozen 8;have f10:=n4.blk.frozen 10;have q1j:Hid (ib.qy (fun j=>o1 j∨o2 j) w W6):=(ib.qy.of_below (S:=fun j=>o1 j∨o2 j) kV.out).trans jy.out (fun j hj=>.inl (.inr hj));have hov:=HA.out.own;have HOV:=QH hov;clear hd6 kU hg6 n4 sR hov qsp;rcases lM.out with⟨rfl,hjj,hfz,hf0⟩|⟨rfl,quh,hfn,hfz⟩
     ·have HJJ:=QH hjj;have HFZ:=QH hfz;have HF0:=QH hf0;clear hjj hfz hf0 lM;go_wp2_with fail;show bodyPost _ _ _ _ _ (xM W6 v (.slice X0 m'.live.length d0) (.slice X1 m'.qa.length d1) (.slice X2 m'.tok.ql.length d2) m'.tok);obtain⟨WE,hWE⟩:=QE (xM W6 v (.slice X0 m'.live.length d0) (.slice X1 m'.qa.length d1) (.slice X2 m'.tok.ql.length d2) m'.tok);have hbv:ib.qy (fun j=>j=v) W6 WE:=by
       rw[← hWE];have go:∀(k:Nat) (u:Value) {W':World},ib.qy (fun j=>j=v) W6 W'→ib.qy (fun j=>j=v) W6 (W'.setCell ⟨v,k,none⟩ u):=fun k u W' h1=>h1.setCell _ _ (.inl rfl);exact go 8 _ (go 7 _ (go 6 _ (go 5 _ (go 4 _ (go 3 _ (go 2 _ (go 1 _ (go 0 _ (ib.qy.refl _ _)))))))))
      have hvk:qf WE v 101 (vC X0 X1 X2 d0 d1 d2 m' pd false):=by
       rw[← hWE];have h9:=((((((((HAW.out.blk.qo 0 (.slice X0 m'.live.length d0)).qo 1 (.slice X1 m'.qa.length d1)).qo 2 (.int .u64 (m'.tok.base.1:Int))).qo 3 (.int .u64 (m'.tok.base.2:Int))).qo 4 (.int .u64 (m'.tok.target.1:Int))).qo 5 (.int .u64 (m'.tok.target.2:Int))).qo 6 (.int .i64 m'.tok.next)).qo 7 (.int .i64 m'.tok.all)).qo 8 (.slice X2 m'.tok.ql.length d2);simp only[vC,List.setIfInBounds_toArray,List.set_cons_succ,List.set_cons_zero]at h9;exact h9
      have hvS:v<S:=q1b.out v (.inl HOV.out);have hwo:wo.heap.size≤wr.heap.size:=zP.out.size;have hst:uS (fun j=>(((o1 j∧j≠v)∨S≤j)∧j≠g)∧j<wo.heap.size) wo WE:=by
       refine⟨Nat.le_trans hwo (Nat.le_trans jy.out.size hbv.size),fun j hj hlt=>?_⟩;have hj2:¬ o2 j:=fun e=>by
        rcases hj.1.1 with h|h
        ·exact HDJ.out j (.inl h.1) e
        ·have:=qw9.out j e;omega
       have hjv:¬ j=v:=by
        rcases hj.1.1 with h|h
        ·exact h.2
        ·omega
       rw[hbv.block j (Nat.lt_of_lt_of_le (Nat.lt_of_lt_of_le hlt hwo) jy.out.size) hjv,jy.out.block j (Nat.lt_of_lt_of_le hlt hwo) hj2,zP.out.block j hlt]
      have q1m:xK WE:=wL HAW.out.ct hbv.size (hbv.block gN HAW.out.ct.1 HAW.out.gv);have hvp:VP jJ WE (fun j=>o1 j∨(S≤j∧j<wr.heap.size)) dB v pd d6 m' false:=by
       refine⟨⟨X0,X1,X2,d0,d1,d2,hvk,(HXT.out.bound.stay hst).mono (fun j hj=>?_),iU.out,q1m,.inl HOV.out,fun j hj=>?_,HAW.out.gv,?_⟩,HD6.out.keep hbv.size (fun j hj=>hbv.block j (cO HD6.out j hj) (fun e=>?_)),fun j hj e=>?_⟩
       ·rcases hj.1.1 with h|h
        ·exact⟨.inl h.1,h.2⟩
        ·exact⟨.inr ⟨h,by have:=hj.2;omega⟩,by omega⟩
       ·rcases hj with h|h
        ·exact Nat.lt_of_lt_of_le (HAW.out.low j h) hbv.size
        ·have:=jy.out.size;have:=hbv.size;omega
       ·intro htg;rcases HOK.out.tok with h|h
        ·exact h
        ·exfalso;have:=h.2.1;rw[htg]at this;unfold above at this;simp at this
       ·rw[e]at hj;rcases HG6.out v hj with h|h
        ·exact HDJ.out v (.inl HOV.out) h
        ·have:=kV.out.size;omega
       ·rcases HG6.out j e with h|h
        ·rcases hj with(hj|hj)|hj
         ·exact HDJ.out j (.inl hj) h
         ·have:=qw9.out j h;omega
         ·exact HDJ.out j (.inr hj) h
        ·rcases hj with(hj|hj)|hj
         ·have:=HA.out.low j hj;have:=kV.out.size;omega
         ·omega
         ·have:=HA.out.ct.1;have:=kV.out.size;unfold gN at hj;rw[hj]at h;omega
      have hbu:ib.qy (fun j=>o1 j∨o2 j) w WE:=q1j.out.trans hbv (fun j hj=>.inl (.inl (by rw[hj];exact HOV.out)));have HVP:=QH hvp;have bO:=QH hbu;rw[hWE];clear hbv hvk hst q1m hvp hbu hWE;refine bodyPost_ret (v:=.int .i64 0) (by simp[results,results56,go_sem]) rfl ⟨0,d6,m',false,_,dB,rfl,HVP.out,bO.out,fun j hj=>?_,.inr (.inl ⟨rfl,rfl,HJJ.out,rfl,rfl,HFZ.out,HF0.out⟩)⟩;rcases hj with(hj|hj)|hj
      ·exact .inl (.inl hj)
      ·exact .inr hj.1
      ·rcases HG6.out j hj with h|h
       ·exact .inl (.inr h)
       ·have:=kV.out.size;exact .inr (by omega)
     ·have HGO:=QH quh;have HFN:=QH hfn;have HFZ:=QH hfz;have q1n:VP jJ W6 o1 dB v pd d6 m false:=⟨⟨A0,A1,A2,c0,c1,c2,HAW.out⟩,HD6.out,fun j hj e=>by
       rcases HG6.out j e with h|h
       ·exact HDJ.out j hj h
       ·rcases hj with hj|hj
        ·have:=HA.out.low j hj;have:=kV.out.size;omega
        ·have:=HA.out.ct.1;have:=kV.out.size;unfold gN at hj;rw[hj]at h;omega⟩
      have bT:=QH (q0u q1n);clear quh hfn hfz lM q1n;go_wp2_with fail;go_ret;refine⟨6,d6,m,true,o1,dB,rfl,bT.out.1,q1j.out.trans bT.out.2 (fun j hj=>.inl (.inl (by rw[hj];exact HOV.out))),fun j hj=>?_,.inr (.inr ⟨rfl,rfl,HGO.out,rfl,HFN.out,HFZ.out⟩)⟩;rcases hj with hj|hj
      ·exact .inl (.inl hj)
      ·rcases HG6.out j hj with h|h
       ·exact .inl (.inr h)
       ·have:=kV.out.size;exact .inr (by omega)
end Go.Proofs.YtdagdllomphidaaGreatDoor.vt.pg
namespace Go.Proofs.YtdagdllomphidaaGreatDoor.vt.pg
open _root_.Go.Proofs.Tryz Go Go.RowKit ib mt im sp
theorem qgI:(prog.info? 55).map (fun i=>(i.zero,i.size,i.bytes))=some (some (.agg #[.int .u64 0,.int .u64 0]),2,16):=by kernel_rfl
def vY:List Gd→List Value
 | []=>[]
 | x::r=>.int .u64 (x.1:Int) :: .int .u64 (x.2:Int)::vY r
theorem bU:∀(l r:List Gd),vY (l++r)=vY l++vY r
 | [],_=>rfl
 | x::l,r=>by simp[vY,bU l r]
theorem rN:∀(l:List Gd) (i:Nat) (h:i<l.length),(vY l)[i*2]?=some (.int .u64 (l[i].1:Int))∧(vY l)[i*2+1]?=some (.int .u64 (l[i].2:Int))
 | x::l,0,_=>⟨rfl,rfl⟩
 | x::l,i+1,h=>by
  have:=rN l i (by simpa using h);rw[show(i+1)*2=i*2+1+1 from by omega];exact this
def qoD (w:World)(B:Nat)(v:Value)(l:List Gd):Prop:=w.ownsRow B 55 2 v l.length (vY l)
theorem qoD.view{w:World}{B:Nat}{v:Value}{l:List Gd}(h:qoD w B v l)(hz:∀x∈l,zZ x):∃a c,v=.slice a l.length c∧ch.GdL w a l∧∀b o,a=some ⟨b,o,none⟩→B≤b∧b<w.heap.size:=by
 rcases h.2 with⟨rfl,h0⟩|⟨g,cap,cur,rfl,hg,hh,hcc,hm,hcs,xP⟩
 ·obtain rfl:l=[]:=List.length_eq_zero_iff.1 h0;exact⟨none,0,rfl,(fun i h=>by simp at h),fun _ _ e=>by cases e⟩
 ·refine⟨some ⟨g,0,none⟩,cap,rfl,fun i hi=>?_,fun b o e=>?_⟩
  ·have key:∀(j:Nat) (u:Value),(vY l)[j]?=some u→w.cell? ⟨g,j,none⟩=some u:=by
      intro j u hu;rw[cell_of_row w g j cur 55 (0,0) hh];rw[← xP,List.getElem?_take]at hu;split at hu
      ·simpa using hu
      ·cases hu
   obtain⟨g0,g1⟩:=rN l i hi;exact⟨g,0,rfl,(Array.getElem?_eq_some_iff.1 hh).1,by rw[Nat.zero_add];exact key _ _ g0,by rw[Nat.zero_add];exact key _ _ g1,hz _ (List.getElem_mem hi)⟩
  ·simp only[Option.some.injEq,Addr.mk.injEq,and_true]at e;obtain⟨rfl,_⟩:=e;exact⟨hg,(Array.getElem?_eq_some_iff.1 hh).1⟩
def GuR (m:Mt)(w:World)(v i:Value)(wr:World):Prop :=
 ∃k:Nat,k≤m.qa.length∧i=.int .i64 (k:Int)∧qoD wr w.heap.size v ((m.qa.take k).map (·.g))∧Below w.heap.size w wr
theorem qk7{w:World}{A0 A1 A2:Option Addr}{c0 c1 c2:Nat}{m:Mt}(hS:jM w A1 m.qa)(bF:m.qa.length≤1000) :
    Calls prog 63 #[.agg (zq A0 A1 A2 c0 c1 c2 m)] w (ch.lv (m.qa.map (·.g)) w):=by
 obtain⟨i0,hi,hz0,hz1,hz2⟩:=info_parts qgI;obtain⟨W1,hW1,zK,hb1⟩:=xW w (zq A0 A1 A2 c0 c1 c2 m);have HS:=QH hS;have qR:=QH hb1;have q1:=zK.cell 1;have mK:=zK.lt;simp only[zq,QA,QB,QC]at q1;clear hS zK hb1;unfold zq at hW1 ⊢;go_enter func63,ntmps63;go_upto_region 1 with fail;try rw[hW1]
 clear hW1;go_wp2_with fail;go_loopw [3,9] (fun v i wr=>GuR m w v i wr) (fun _ i _=>m.qa.length-(intOf i).toNat);case atStart=>exact⟨0,Nat.zero_le _,rfl,World.ownsRow_nil _ _ _ _,qR.out⟩
 case round =>
  obtain⟨k,hk,rfl,ho,hB⟩:=hrel;have HO:=QH ho;have HB:=QH hB;clear ho hB;by_cases hlt:k<m.qa.length
  ·have jG:(k:Int)<(m.qa.length:Int):=by omega
   have hk0:¬ (k:Int)<0:=by omega
   obtain⟨b,o,B,c,hA,s1,s2,s3,s4,s5,s6,_⟩:=(HS.out.below HB.out) k hlt;have iB:Hid ((m.qa.take (k+1)).map (·.g)=(m.qa.take k).map (·.g)++[m.qa[k].g]):=by unfold Hid;rw[List.take_succ_eq_append_getElem hlt,List.map_append];rfl
   have HLK:Hid (((m.qa.take k).map (·.g)).length=k):=by unfold Hid;rw[List.length_map,List.length_take];omega
   subst hA;obtain⟨n,hn⟩:=QE (m.qa[k].ql.length);obtain⟨gd,hgd⟩:=QE (m.qa[k].g);obtain⟨hd,hhd⟩:=QE (m.qa[k].hid);rw[hn]at s4;rw[hgd]at iB s2 s3;rw[hhd]at s5;clear hn hgd hhd s6;obtain⟨ga,gb⟩:=gd;dsimp only at s2 s3;have kB:=(Below.refl _ wr).alloc (Nat.le_refl _) (.cells #[.int .u64 (ga:Int),.int .u64 (gb:Int),.slice B n c,.bool hd] 145);obtain⟨W3,hW3⟩:=QE (wr.alloc (.cells #[.int .u64 (ga:Int),.int .u64 (gb:Int),.slice B n c,.bool hd] 145));have yC:=qf.new wr 145 #[.int .u64 (ga:Int),.int .u64 (gb:Int),.slice B n c,.bool hd];rw[hW3]at kB yC;have r0:=yC.cell 0;have r1:=yC.cell 1;have hrl:=yC.lt;simp only[QA,QB,QC]at r0 r1;have hby:=(Below.refl _ W3).alloc (Nat.le_refl _) (.cells #[.int .u64 (ga:Int),.int .u64 (gb:Int)] 55);have hbz:=qc kB hby;have HO4:Hid ((W3.alloc (.cells #[.int .u64 (ga:Int),.int .u64 (gb:Int)] 55)).ownsRow w.heap.size 55 2 _ ((m.qa.take k).map (·.g)).length (vY ((m.qa.take k).map (·.g)))):=zB HO.out (fun j hj=>hbz.block j (HO.out.lt j hj).2);have zP:=QH (qc HB.out hbz);have dC:Hid (∀j u,([.int .u64 (ga:Int),.int .u64 (gb:Int)]:List Value)[j]?=some u→(W3.alloc (.cells #[.int .u64 (ga:Int),.int .u64 (gb:Int)] 55)).cell? ((⟨W3.heap.size,0,none⟩:Addr).add j)=some u):=fun j u hu=>by
    rw[addr_add,Nat.zero_add,(qf.new W3 55 #[.int .u64 (ga:Int),.int .u64 (gb:Int)]).cell j];simpa using hu
   clear kB yC hby hbz;have q6N:k≤1000:=by omega
   have e1:∀u∈([.int .u64 (ga:Int),.int .u64 (gb:Int)]:List Value),u.oneCell'=true:=by intro u hu;simp at hu;rcases hu with rfl|rfl <;> rfl
   have E1:=QH e1;have E2:Hid (((m.qa.take k).map (·.g)).length+1≤maxLen):=by unfold Hid;rw[HLK.out];unfold maxLen;omega
   have E3:Hid ((((m.qa.take k).map (·.g)).length+1)*16≤140737488355328):=by unfold Hid;rw[HLK.out];omega
   clear e1;go_wp2_with (at_builtin;refine xq rfl (.tmp 13) (.tmp 16) 52 rfl w.heap.size 55 i0 (.agg #[.int .u64 0,.int .u64 0]) 2 16 underlying52 hi hz0 hz1 hz2 rfl (by decide) _ _ _ rfl HO4.out ⟨W3.heap.size,0,none⟩ 1 1 [.int .u64 (ga:Int),.int .u64 (gb:Int)] rfl rfl dC.out E1.out E2.out E3.out zP.out.size ?_);intro v' w1 hown hgrow _;have xQ:Hid (Below w.heap.size w w1):=zP.out.grown hgrow zP.out.size (fun j hj=>(HO4.out.lt j hj).1);have HO5:Hid (qoD w1 w.heap.size v' ((m.qa.take (k+1)).map (·.g))):=by
    unfold Hid qoD;rw[iB.out,bU,List.length_append,HLK.out,List.map_take];exact hown
   clear hown hgrow;go_wp2_with fail;go_roundw;case rel=>exact⟨k+1,by omega,by go_num,HO5.out,xQ.out⟩
   case measure=>simp[intOf];omega
  ·obtain rfl:k=m.qa.length:=by omega
   have jG:¬ (m.qa.length:Int)<(m.qa.length:Int):=by omega
   have ho:=HO.out;rw[List.take_length]at ho;obtain⟨A,c,hv,hx,hn⟩:=ho.view (fun g hg=>by
    obtain⟨s,hs,rfl⟩:=List.mem_map.1 hg;exact HS.out.iy s hs)
   have HX:=QH hx;have HV:=QH hv;have HN:=QH hn;clear ho hx hv hn;go_wp2_with fail;go_ret;exact⟨A,c,by rw[HV.out];rfl,HX.out,HN.out,HB.out⟩
theorem tX {x y:Gd}(h:x≠y):(¬ x.1=y.1)∨(x.1=y.1∧¬ x.2=y.2):=by
 by_cases e1:x.1=y.1
 ·exact .inr ⟨e1,fun e2=>h (Prod.ext e1 e2)⟩
 ·exact .inl e1
def ee (f:Tf)(A:Option Addr)(n c:Nat):Array Value:=#[.int .u64 (f.base.1:Int),.int .u64 (f.base.2:Int),.int .u64 (f.target.1:Int),.int .u64 (f.target.2:Int),.int .i64 f.next,.int .i64 f.all,.slice A n c]
theorem qgR{G:Nat→Prop}{w:World}{A0 A1 A2:Option Addr}{c0 c1 c2:Nat}{m:Mt}(ht:kM G w A0 A1 A2 c0 c1 c2 m)(hsz:mtS m)(hG:∀j,w.heap.size≤j→G j)(f:Tf)(A:Option Addr)(n c:Nat) :
    Calls prog 65 #[.agg (zq A0 A1 A2 c0 c1 c2 m),.agg (ee f A n c)] w (qjQ G (zr m f) w):=by
 obtain⟨W1,hW1,zK,hb1⟩:=xW w (zq A0 A1 A2 c0 c1 c2 m);have hb2:=(Below.refl _ W1).alloc (Nat.le_refl _) (.cells (ee f A n c) 59);have hr2:=qf.new W1 59 (ee f A n c);obtain⟨W2,hW2⟩:=QE (W1.alloc (.cells (ee f A n c) 59));rw[hW2]at hb2 hr2;have qB:=QH (qc hb1 hb2);have hk2:=zK.below hb2;have ck:=ht.below qB.out;have HI2:=QH ck.ql;have HBS:=QH (pR (A0:=A0) (A2:=A2) (c0:=c0) (c1:=c1) (c2:=c2) ck.qa hsz (fun j hj=>hG j (Nat.le_trans qB.out.size hj)) m.qa.length (Nat.le_refl _));rw[qjR]at HBS;have q0:=hk2.cell 0;have q1:=hk2.cell 1;have q2:=hk2.cell 2;have q3:=hk2.cell 3;have q4:=hk2.cell 4;have q5:=hk2.cell 5;have q6:=hk2.cell 6;have q7:=hk2.cell 7;have q8:=hk2.cell 8;have r0:=hr2.cell 0;have r1:=hr2.cell 1;have r2:=hr2.cell 2;have r3:=hr2.cell 3;have r5:=hr2.cell 5;have mK:=hk2.lt;have hrl:=hr2.lt;simp only[zq,ee,QA,QB,QC]at q0 q1 q2 q3 q4 q5 q6 q7 q8 r0 r1 r2 r3 r5;have HY:Hid ((m.tok.base=f.base∧m.tok.target=f.target∧m.tok.all=f.all)→zr m f=m.tok.ql):=fun h=>by unfold zr;rw[if_pos h]
 have vr:Hid (¬ (m.tok.base=f.base∧m.tok.target=f.target∧m.tok.all=f.all)→zr m f=xN m):=fun h=>by unfold zr;rw[if_neg h]
 obtain⟨R,hR⟩:=QE (zr m f);rw[hR]at HY vr ⊢;clear ht hG zK hb1 hb2 hr2 hk2 ck hR;unfold zq ee at *;go_enter func65,ntmps65;go_upto_region 1 with fail;try rw[hW1]
 try rw[hW2]
 clear hW1 hW2;have FIN:Hid (∀(e:Ending) (W3:World),qjQ G (xN m) W2 e W3→R=xN m→qjQ G R w e W3):=fun e W3 h hr=>by
  obtain⟨A',c',h1,h2,h3⟩:=h;rw[hr];exact⟨A',c',h1,h2,qc qB.out h3⟩
 have E1:Hid (m.tok.base=f.base→m.tok.base.1=f.base.1∧m.tok.base.2=f.base.2):=fun h=>⟨by rw[h],by rw[h]⟩;have E2:Hid (m.tok.target=f.target→m.tok.target.1=f.target.1∧m.tok.target.2=f.target.2):=fun h=>⟨by rw[h],by rw[h]⟩;by_cases h1:m.tok.base=f.base
 case' neg =>
  have HR:=QH (vr.out (fun h=>h1 h.1));have hgn:=tX h1;clear h1 HY vr E1 E2;rcases hgn with hg|⟨hg,hg2⟩;all_goals
   go_upto_region 3 with fail;first|clear hg2|skip
   clear hg;first|clear e1 e2|skip
   go_wp2_with fail;refine HBS.out.mono ?_;rintro e W3 ⟨A',c',rfl,hs,hb3⟩;have HF:=QH (FIN.out _ _ ⟨A',c',rfl,hs,hb3⟩ HR.out);clear hs hb3;go_wp2_with fail;go_ret;exact HF.out
 obtain⟨e1,e2⟩:=E1.out h1;by_cases h2:m.tok.target=f.target
 case' neg =>
  have HR:=QH (vr.out (fun h=>h2 h.2.1));have hgn:=tX h2;clear h1 h2 HY vr E1 E2;rcases hgn with hg|⟨hg,hg2⟩;all_goals
   go_upto_region 3 with fail;first|clear hg2|skip
   clear hg;first|clear e1 e2|skip
   go_wp2_with fail;refine HBS.out.mono ?_;rintro e W3 ⟨A',c',rfl,hs,hb3⟩;have HF:=QH (FIN.out _ _ ⟨A',c',rfl,hs,hb3⟩ HR.out);clear hs hb3;go_wp2_with fail;go_ret;exact HF.out
 obtain⟨e3,e4⟩:=E2.out h2;by_cases h3:m.tok.all=f.all
 case' neg =>
  have HR:=QH (vr.out (fun h=>h3 h.2.2));clear h1 h2 HY vr E1 E2;go_upto_region 3 with fail;clear h3 e1 e2 e3 e4;go_wp2_with fail;refine HBS.out.mono ?_;rintro e W3 ⟨A',c',rfl,hs,hb3⟩;have HF:=QH (FIN.out _ _ ⟨A',c',rfl,hs,hb3⟩ HR.out);clear hs hb3;go_wp2_with fail;go_ret;exact HF.out
 have HR:=QH (HY.out ⟨h1,h2,h3⟩);clear h1 h2 HY vr E1 E2;go_wp2_with fail;go_ret;rw[HR.out];exact⟨_,_,rfl,HI2.out,qB.out⟩
theorem qk8{w:World}{gb:Nat}(a b:Nat)(B:Option Addr)(n c:Nat)(hd:Bool)(g:Gd)(hgb:gb<w.heap.size)(q0:w.cell? ⟨gb,0,none⟩=some (.int .u64 (g.1:Int)))(q1:w.cell? ⟨gb,1,none⟩=some (.int .u64 (g.2:Int))) :
    Calls prog 121 #[.agg #[.int .u64 (a:Int),.int .u64 (b:Int),.slice B n c,.bool hd],pt gb] w fun e w'=>e=.returned (.bool (decide ((a,b)=g)))∧Below w.heap.size w w':=by
 obtain⟨g1,g2⟩:=g;have hb0:=(Below.refl w.heap.size w).alloc (Nat.le_refl _) (.cells #[.int .u64 (a:Int),.int .u64 (b:Int),.slice B n c,.bool hd] 145);have p0:=(hb0.cell (p:=⟨gb,0,none⟩) hgb).trans q0;have p1:=(hb0.cell (p:=⟨gb,1,none⟩) hgb).trans q1;have HB:=QH hb0;have hq:decide ((a,b)=(g1,g2))=(((a:Int) == (g1:Int))&&((b:Int) == (g2:Int))):=by
  rw[Bool.eq_iff_iff];simp only[decide_eq_true_eq,Bool.and_eq_true,beq_iff_eq,Prod.mk.injEq];omega
 obtain⟨r,hr⟩:=QE (decide ((a,b)=(g1,g2)));rw[hr]at hq ⊢;dsimp only at p0 p1 q0 q1;generalize (a:Int)=x1 at *;generalize (b:Int)=x2 at *;generalize (g1:Int)=y1 at *;generalize (g2:Int)=y2 at *;obtain⟨b1,hb1⟩:=QE (x1 == y1);obtain⟨b2,hb2⟩:=QE (x2 == y2);rw[hb1,hb2]at hq;subst hq;clear hb0 hr;cases b1 <;> cases b2;all_goals
  go_enter func121,ntmps121;go_wp2_with fail;go_ret;exact⟨rfl,HB.out⟩
def tB (l:List Sp)(g:Gd):Int:=match l.findIdx? fun s=>decide (s.g=g)with
 | none=>-1
 | some i=>(i:Int)
theorem qk9{l:List Sp}{g:Gd}{k:Nat}(hk:k<l.length)(hg:l[k].g=g)(hb:∀j (h:j<l.length),j<k→l[j].g≠g):tB l g=(k:Int):=by
 unfold tB;have:(l.findIdx? fun s=>decide (s.g=g))=some k:=by
  rw[List.findIdx?_eq_some_iff_getElem];exact⟨hk,by simpa using hg,fun j hj=>by simpa using hb j (by omega) hj⟩
 rw[this]
theorem qkA{l:List Sp}{g:Gd}(hb:∀j (h:j<l.length),l[j].g≠g):tB l g = -1:=by
 unfold tB;have:(l.findIdx? fun s=>decide (s.g=g))=none:=by
  rw[List.findIdx?_eq_none_iff];intro s hs;obtain⟨j,hj,rfl⟩:=List.getElem_of_mem hs;simpa using hb j hj
 rw[this]
def IxS (l:List Sp)(g:Gd)(w:World)(i:Value)(wr:World):Prop :=
 ∃k:Nat,k≤l.length∧i=.int .i64 (k:Int)∧(∀j (h:j<l.length),j<k→l[j].g≠g)∧Below w.heap.size w wr
theorem qoE{w:World}{gb:Nat}{A:Option Addr}{c:Nat}{l:List Sp}(hS:jM w A l)(bF:l.length≤1000)(g:Gd)(hgb:gb<w.heap.size)(q0:w.cell? ⟨gb,0,none⟩=some (.int .u64 (g.1:Int)))(q1:w.cell? ⟨gb,1,none⟩=some (.int .u64 (g.2:Int))) :
    Calls prog 120 #[.slice A l.length c,.func (.func 121) #[] #[pt gb]] w fun e w'=>e=.returned (.int .i64 (tB l g))∧Below w.heap.size w w':=by
 have HS:=QH hS;have HQ0:=QH q0;have HQ1:=QH q1;have nR:=QH (fun k hk hg hb=>qk9 (l:=l) (g:=g) (k:=k) hk hg hb);have HRN:=QH (fun hb=>qkA (l:=l) (g:=g) hb);obtain⟨R,hR⟩:=QE (tB l g);rw[hR]at nR HRN ⊢;clear hS q0 q1 hR;go_enter func120,ntmps120;go_wp2_with fail;go_loopw [8] (fun i wr=>IxS l g w i wr) (fun i _=>l.length-(intOf i).toNat);case atStart=>exact⟨0,Nat.zero_le _,rfl,fun j _ h=>absurd h (by omega),Below.refl _ _⟩
 case round =>
  obtain⟨k,hk,rfl,hno,hB⟩:=hrel;have vr:=QH hno;have HB:=QH hB;clear hno hB;by_cases hlt:k<l.length
  ·have jG:(k:Int)<(l.length:Int):=by omega
   obtain⟨b,o,B,cc,rfl,s1,s2,s3,s4,s5,_⟩:=(HS.out.below HB.out) k hlt;have HYE:=QH (fun(e:l[k].g=g)=>nR.out k hlt e vr.out);have HNX:Hid (l[k].g≠g→∀j (h:j<l.length),j<k+1→l[j].g≠g):=fun hne j hj hjk=>by
    by_cases qod:j<k
    ·exact vr.out j hj qod
    ·obtain rfl:j=k:=by omega
     exact hne
   obtain⟨ga,gb',hd,n,hgd,hn,hh⟩:∃a b' hd n,l[k].g=(a,b')∧l[k].ql.length=n∧l[k].hid=hd:=⟨_,_,_,_,rfl,rfl,rfl⟩;have gK:=QH (qk8 ga gb' B n cc hd g (w:=wr) (Nat.lt_of_lt_of_le hgb HB.out.size) ((HB.out.cell (p:=⟨gb,0,none⟩) hgb).trans HQ0.out) ((HB.out.cell (p:=⟨gb,1,none⟩) hgb).trans HQ1.out));rw[hgd]at s2 s3 HYE HNX;rw[hn]at s4;rw[hh]at s5;dsimp only at s2 s3;have hk0:¬ (k:Int)<0:=by omega
   clear hgd hn hh;go_wp2_with fail;refine gK.out.mono ?_;rintro e W1 ⟨rfl,hb1⟩;have qR:=QH (HB.out.trans (hb1.mono HB.out.size));clear hb1;by_cases hg:(ga,gb')=g
   ·rw[decide_eq_true hg];have HR:=QH (HYE.out hg);clear hg HYE HNX gK;go_wp2_with fail;go_ret;rw[HR.out];exact⟨rfl,qR.out⟩
   ·rw[decide_eq_false hg];have HN:=QH (HNX.out hg);clear hg HYE HNX gK;go_wp2_with fail;go_roundw;case rel=>exact⟨k+1,by omega,by go_num,HN.out,qR.out⟩
    case measure=>simp[intOf];omega
  ·have jG:¬ (k:Int)<(l.length:Int):=by omega
   have HR:=QH (HRN.out (fun j hj=>vr.out j hj (by omega)));go_wp2_with fail;go_ret;rw[HR.out];exact⟨rfl,HB.out⟩
def kP (m:Mt)(g:Gd):Int × Int:=match pw m g with
 | none=>(0,5)
 | some i=>match m.qa[i]? with
  | none=>(0,5)
  | some s=>if s.hid then(0,14)else((i:Int),0)
theorem qkB(m:Mt)(g:Gd):(tB m.qa g = -1∧kP m g=(0,5))∨∃i,∃h:i<m.qa.length,tB m.qa g=((i:Nat):Int)∧kP m g=if m.qa[i].hid then(0,14)else((i:Int),0):=by
 unfold tB kP pw;cases hf:m.qa.findIdx? fun s=>decide (s.g=g)with
 | none=>exact .inl ⟨rfl,rfl⟩
 | some i =>
  have hi:=(List.findIdx?_eq_some_iff_getElem.1 hf).1;refine .inr ⟨i,hi,rfl,?_⟩;show(match m.qa[i]? with
   | none=>((0:Int),(5:Int))
   | some s=>if s.hid then(0,14)else((i:Int),0))=_
  rw[List.getElem?_eq_getElem hi]
theorem jQ {w:World}{A0 A1 A2:Option Addr}{c0 c1 c2:Nat}{m:Mt}(hS:jM w A1 m.qa)(bF:m.qa.length≤1000)(g:Gd) :
    Calls prog 77 #[.agg (zq A0 A1 A2 c0 c1 c2 m),gv g] w fun e w'=>e=.returned (.tuple #[.int .i64 (kP m g).1,.int .i64 (kP m g).2])∧Below w.heap.size w w':=by
 obtain⟨g1,g2⟩:=g;obtain⟨W1,hW1,zK,hb1⟩:=xW w (zq A0 A1 A2 c0 c1 c2 m);have hb2:=(Below.refl _ W1).alloc (Nat.le_refl _) (.cells #[.int .u64 (g1:Int),.int .u64 (g2:Int)] 55);have hr2:=qf.new W1 55 #[.int .u64 (g1:Int),.int .u64 (g2:Int)];obtain⟨W2,hW2⟩:=QE (W1.alloc (.cells #[.int .u64 (g1:Int),.int .u64 (g2:Int)] 55));rw[hW2]at hb2 hr2;have qB:=QH (qc hb1 hb2);have hk2:=zK.below hb2;have jZ:=QH hk2;have q1:=hk2.cell 1;have mK:=hk2.lt;simp only[zq,QA,QB,QC]at q1;have HS:=QH (hS.below qB.out);have HI:=QH (qoE (c:=c1) HS.out bF (g1,g2) hr2.lt (hr2.cell 0) (hr2.cell 1));have sL:=QH (qkB m (g1,g2));obtain⟨R,hR⟩:=QE (kP m (g1,g2));rw[hR]at sL ⊢;obtain⟨X,hX⟩:=QE (tB m.qa (g1,g2));rw[hX]at sL HI;clear hS zK hb1 hb2 hr2 hk2 hR hX;show Calls _ _ #[.agg (zq A0 A1 A2 c0 c1 c2 m),.agg #[.int .u64 (g1:Int),.int .u64 (g2:Int)]] _ _;unfold zq at hW1 ⊢;go_enter func77,ntmps77;go_upto_region 1 with fail;try rw[hW1]
 try rw[hW2]
 clear hW1 hW2;go_wp2_with fail;refine HI.out.mono ?_;rintro e W3 ⟨rfl,hb3⟩;have qY:=QH (qc qB.out hb3);have tZ:=QH (HS.out.below hb3);have hk3:=jZ.out.below hb3;have q1:=hk3.cell 1;have mK:=hk3.lt;simp only[zq,QA,QB,QC]at q1;clear hb3 hk3 HI jZ HS;rcases sL.out with⟨rfl,hf⟩|⟨i,eE,rfl,hf⟩
 ·have HF:=QH hf;clear hf sL;go_wp2_with fail;go_ret2;rw[HF.out];exact⟨rfl,qY.out⟩
 ·have HF:=QH hf;obtain⟨b,o,B,cc,rfl,s1,s2,s3,s4,s5,_⟩:=tZ.out i eE;have hii:(i:Int)<(m.qa.length:Int):=by omega
  have hin:¬ (i:Int)<0:=by omega
  generalize m.qa[i].hid=hd at *;clear hf sL s2 s3 s4;cases hd with
  | true =>
   have HF2:Hid (R=(0,14)):=by unfold Hid;simpa using HF.out
   go_wp2_with fail;go_ret2;rw[HF2.out];exact⟨rfl,qY.out⟩
  | false =>
   have HF2:Hid (R=((i:Int),0)):=by unfold Hid;simpa using HF.out
   go_wp2_with fail;go_ret2;rw[HF2.out];exact⟨rfl,qY.out⟩
end Go.Proofs.YtdagdllomphidaaGreatDoor.vt.pg
namespace Go.Proofs.YtdagdllomphidaaGreatDoor.vt.pg
open _root_.Go.Proofs.Tryz Go Go.RowKit Go.Sort ib mt im sp
theorem vX:prog.follows .mixedOrders=true:=by kernel_rfl
def TkR (b:Nat)(x:List (Int × Bt))(w:World)(l i:Value)(wr:World):Prop :=
 ∃(k:Nat) (p:Int),k≤x.length∧i=.int .i64 (k:Int)∧l=.int .i64 (p+1) ∧ -1≤p∧p≤1000∧zH b (-1) x=zH b p (x.drop k)∧Below w.heap.size w wr
theorem qgT{b:Nat}{p:Int}{x:List (Int × Bt)}{k:Nat}(h:k<x.length):zH b p (x.drop k)=(decide (p<x[k].1)&&decide (x[k].1<(b:Int))&&decide (x[k].2.length=32)&&zH b x[k].1 (x.drop (k+1))):=by
 rw[List.drop_eq_getElem_cons h];rfl
theorem qoF{b:Nat}{p k:Int}{s:Bt}{r:Bool}(h:k<p+1∨(b:Int)≤k∨s.length≠32):(decide (p<k)&&decide (k<(b:Int))&&decide (s.length=32)&&r)=false:=by
 rcases h with h|h|h
 ·rw[decide_eq_false (by omega:¬ p<k)];rfl
 ·rw[decide_eq_false (by omega:¬ k<(b:Int))];simp
 ·rw[decide_eq_false h];simp
theorem qkC{b:Nat}{p k:Int}{s:Bt}{r:Bool}(h1:¬ k<p+1)(h2:¬ (b:Int)≤k)(h3:s.length=32):(decide (p<k)&&decide (k<(b:Int))&&decide (s.length=32)&&r)=r:=by
 rw[decide_eq_true (by omega:p<k),decide_eq_true (by omega:k<(b:Int)),decide_eq_true h3];simp
theorem wQ {w:World}{A0 A1 A2:Option Addr}{c0 c1 c2:Nat}{m:Mt}(kJ:m.live.length≤1000){A:Option Addr}{c:Nat}{x:List (Int × Bt)}(hx:ch.vU w A x)(aW:x.length≤1000) :
    Calls prog 54 #[.agg (zq A0 A1 A2 c0 c1 c2 m),.slice A x.length c] w (dL (zH m.live.length (-1) x) w):=by
 obtain⟨W1,hW1,zK,hb1⟩:=xW w (zq A0 A1 A2 c0 c1 c2 m);have eF:=QH zK;have qR:=QH hb1;have HX:=QH (hx.below hb1);obtain⟨R,hR⟩:=QE (zH m.live.length (-1) x);have eC:=QH hR;rw[hR];clear hx zK hb1 hR;unfold zq at hW1 ⊢;go_enter func54,ntmps54;go_upto_region 1 with fail;try rw[hW1]
 clear hW1;go_wp2_with fail;go_loopw [5,10] (fun l i wr=>TkR m.live.length x W1 l i wr) (fun _ i _=>x.length-(intOf i).toNat);case atStart=>exact⟨0,-1,Nat.zero_le _,rfl,rfl,by omega,by omega,rfl,Below.refl _ _⟩
 case round =>
  obtain⟨k,p,hk,rfl,rfl,hp1,hp2,hch,hB⟩:=hrel;have HB:=QH hB;have eo:=QH hch;have HP1:=QH hp1;clear hB hch;by_cases hlt:k<x.length
  ·have jG:(k:Int)<(x.length:Int):=by omega
   have hk0:¬ (k:Int)<0:=by omega
   obtain⟨b,o,rfl,s1,s2,s3,s4⟩:=(HX.out.below HB.out) k hlt;have HST:=QH (qgT (b:=m.live.length) (p:=p) hlt);obtain⟨xk,hxk⟩:=QE (x[k].1);obtain⟨sk,hsk⟩:=QE (x[k].2);rw[hxk,hsk]at HST;rw[hxk]at s2 s4;rw[hsk]at s3;obtain⟨S,hS⟩:=QE (str sk);have hSl:S.size=sk.length:=by rw[← hS,qQ]
   rw[hS]at s3;have aX:=QH hSl;obtain⟨L,hL⟩:=QE (p+1);have HLL:=QH hL;rw[hL];have kB:=(Below.refl _ wr).alloc (Nat.le_refl _) (.cells #[.int .i64 xk,.string S] 62);have HBX:=QH (qc HB.out kB);have hq:=eF.out.below HBX.out;have q0:=hq.cell 0;have mK:=hq.lt;simp only[zq,List.getElem?_toArray,List.getElem?_cons_zero]at q0;have HS4:=QH s4;clear hxk hsk hS hSl hL hq kB s4 hp1 hp2;have no:xk<p+1∨(m.live.length:Int)≤xk∨sk.length≠32→R=false:=fun h=>by rw[← eC.out,eo.out,HST.out,qoF h]
   have vr:=QH no;clear no;by_cases h1:xk<L
   ·have HF:=QH (vr.out (.inl (by rw[HLL.out];exact h1)));go_wp2_with fail;go_ret;exact⟨by rw[HF.out];rfl,qc qR.out HBX.out⟩
   ·by_cases h2:(m.live.length:Int)≤xk
    ·have HF:=QH (vr.out (.inr (.inl h2)));go_wp2_with fail;go_ret;exact⟨by rw[HF.out];rfl,qc qR.out HBX.out⟩
    ·by_cases h3:(S.size:Int)=32
     ·have h3b:((S.size:Int) != 32)=false:=by rw[h3];rfl
      have h3n:sk.length=32:=by have:=aX.out;omega
      have HYE:Hid (zH m.live.length (-1) x=zH m.live.length xk (x.drop (k+1))):=by unfold Hid;rw[eo.out,HST.out,qkC (by rw[HLL.out];exact h1) h2 h3n]
      have hx1:¬ xk<p+1:=by rw[HLL.out];exact h1
      have hxr : -9223372036854775808≤xk∧xk≤9223372036854775807:=HS4.out;have hw:IntKind.i64.wrap (xk+1)=xk+1:=by rw[IntWalk.i64_in _ (by omega)]
      have HPR:Hid (-1≤xk∧xk≤1000):=by have:=HP1.out;unfold Hid;omega
      clear h3 h3n HST eo vr hx1 hxr HLL;go_wp2_with fail;go_roundw;case rel=>exact⟨k+1,xk,by omega,by go_num,rfl,HPR.out.1,HPR.out.2,HYE.out,HBX.out⟩
      case measure=>simp[intOf];omega
     ·have h3b:((S.size:Int) != 32)=true:=by simpa using h3
      have HF:=QH (vr.out (.inr (.inr (by have:=aX.out;omega))));clear h3;go_wp2_with fail;go_ret;exact⟨by rw[HF.out];rfl,qc qR.out HBX.out⟩
  ·have jG:¬ (k:Int)<(x.length:Int):=by omega
   have HF:Hid (R=true):=by unfold Hid;rw[← eC.out,eo.out,List.drop_eq_nil_of_le (by omega)];rfl
   go_wp2_with fail;go_ret;exact⟨by rw[HF.out];rfl,qc qR.out HB.out⟩
theorem rO {w:World}{A0 A1 A2:Option Addr}{c0 c1 c2:Nat}{m:Mt}(hS:jM w A1 m.qa)(bF:m.qa.length≤1000)(g:Gd) :
    Calls prog 76 #[.agg (zq A0 A1 A2 c0 c1 c2 m),gv g] w (qiK (if above g (qw m)=false then 2 else if 20≤m.qa.length then 3 else 0) w):=by
 obtain⟨g1,g2⟩:=g;obtain⟨W1,hW1,zK,hb1⟩:=xW w (zq A0 A1 A2 c0 c1 c2 m);have hb2:=(Below.refl _ W1).alloc (Nat.le_refl _) (.cells #[.int .u64 (g1:Int),.int .u64 (g2:Int)] 55);have hr2:=qf.new W1 55 #[.int .u64 (g1:Int),.int .u64 (g2:Int)];obtain⟨W,hW2⟩:=QE (W1.alloc (.cells #[.int .u64 (g1:Int),.int .u64 (g2:Int)] 55));rw[hW2]at hb2 hr2;have qB:=QH (qc hb1 hb2);have hk2:=zK.below hb2;have HS:=QH (hS.below qB.out);have q0:=hk2.cell 0;have q1:=hk2.cell 1;have q2:=hk2.cell 2;have q3:=hk2.cell 3;have q4:=hk2.cell 4;have q5:=hk2.cell 5;have q6:=hk2.cell 6;have q7:=hk2.cell 7;have q8:=hk2.cell 8;have r0:=hr2.cell 0;have r1:=hr2.cell 1;simp only[zq,QA,QB,QC]at q0 q1 q2 q3 q4 q5 q6 q7 q8 r0 r1;have e0:=fun d os=>cell_regrown q0 d os;have e1:=fun d os=>cell_regrown q1 d os;have e2:=fun d os=>cell_regrown q2 d os;have e3:=fun d os=>cell_regrown q3 d os;have e4:=fun d os=>cell_regrown q4 d os;have e5:=fun d os=>cell_regrown q5 d os;have e6:=fun d os=>cell_regrown q6 d os;have e7:=fun d os=>cell_regrown q7 d os;have e8:=fun d os=>cell_regrown q8 d os;have p0:=fun d os=>cell_regrown r0 d os;have p1:=fun d os=>cell_regrown r1 d os;have cL:∀b os,Calls prog 112 #[.agg (zq A0 A1 A2 c0 c1 c2 m)] (grow (redrawn W b) os) fun e w''=>e=.returned (gv (qw m))∧∃q:Regrown,w''=grow (redrawn W q.d) q.os :=
  fun b os=>Calls.regrown_of (qau (HS.out.below (below_regrown W b os)) bF)
 have cA:∀b os,Calls prog 113 #[gv (g1,g2),gv (qw m)] (grow (redrawn W b) os) fun e w''=>e=.returned (.bool (above (g1,g2) (qw m)))∧∃q:Regrown,w''=grow (redrawn W q.d) q.os :=
  fun b os=>Calls.regrown_of (pO (g1,g2) (qw m) _)
 obtain⟨L,hL⟩:=QE (gv (qw m));rw[hL]at cA cL;generalize above (g1,g2) (qw m)=q at *;have HQ1:=QH q1;clear hS zK hb1 hb2 hr2 hk2 q0 q1 q2 q3 q4 q5 q6 q7 q8 r0 r1 hL;show Calls _ _ #[.agg (zq A0 A1 A2 c0 c1 c2 m),.agg #[.int .u64 (g1:Int),.int .u64 (g2:Int)]] _ _;unfold gv at cA;unfold zq at hW1 cL ⊢;dsimp only at cA;go_enter func76,ntmps76;go_upto_region 1 with fail;try rw[hW1]
 try rw[hW2]
 clear hW1 hW2;refine wp_region_quiet_below vX (by kernel_rfl) ?_;repeat (any_goals (first|go_big_quiet_step (first|exact cL _ _|exact cA _ _)|quiet_step (first|exact cL _ _|exact cA _ _)))
 refine wpQuiet_nil ?_;intro _ hw';obtain⟨⟨dq,osq⟩,hw''⟩:=hw';subst hw'';have q1:=e1 dq osq;have hb:=below_regrown W dq osq;have qY:=QH (qc qB.out hb);clear hb e0 e1 e2 e3 e4 e5 e6 e7 e8 p0 p1 cL cA qB HS HQ1;generalize grow (redrawn W dq) osq=W3 at *;cases q with
 | false =>
  go_wp2_with fail;go_ret;exact⟨rfl,qY.out⟩
 | true =>
  by_cases hx:(20:Int)≤(m.qa.length:Int)
  ·go_wp2_with fail;go_ret;exact⟨rfl,qY.out⟩
  ·go_wp2_with fail;go_ret;exact⟨rfl,qY.out⟩
theorem jw {o:Nat→Prop}{w:World}{v pd:Nat}{m:Mt}{l:Bool}(h:jJ o w v pd m l):Calls prog 35 #[pt v] w fun e w'=>e=.returned (.int .i64 (m.live.length:Int))∧Below w.heap.size w w':=by
 obtain⟨A0,A1,A2,c0,c1,c2,hA⟩:=h;obtain⟨bz,k0,_⟩:=hA.cells;clear hA;go_enter func35,ntmps35;go_wp2_with fail;go_ret;exact⟨rfl,Below.refl _ _⟩
theorem qeg(w:World):Calls prog 35 #[.pointer none] w fun e w'=>e=.returned (.int .i64 0)∧Below w.heap.size w w':=by
 go_enter func35,ntmps35;go_wp2_with fail;go_ret;exact⟨rfl,Below.refl _ _⟩
theorem wx {o:Nat→Prop}{w:World}{v pd:Nat}{m:Mt}{l:Bool}(h:jJ o w v pd m l):Calls prog 22 #[pt v] w (ch.lv (m.qa.map (·.g)) w):=by
 obtain⟨A0,A1,A2,c0,c1,c2,hA⟩:=h;have HG:=QH (qk7 (A0:=A0) (A2:=A2) (c0:=c0) (c1:=c1) (c2:=c2) hA.tab.mt.qa hA.sz.qa);obtain⟨bz,k0,k1,k2,k3,k4,k5,k6,k7,k8,k9,cP⟩:=hA.cells;unfold zq at HG;clear hA;go_enter func22,ntmps22;go_wp2_with fail;refine HG.out.mono ?_;rintro e W1 ⟨A,cc,rfl,h1,h2,h3⟩;have H1:=QH h1;have H2:=QH h2;have H3:=QH h3;clear h1 h2 h3 HG;go_wp2_with fail;go_ret;exact⟨A,cc,by rw[List.length_map];rfl,H1.out,H2.out,H3.out⟩
theorem lN (w:World):Calls prog 22 #[.pointer none] w (ch.lv [] w):=by
 go_enter func22,ntmps22;go_wp2_with fail;go_ret;exact⟨none,0,rfl,fun i h=>absurd h (by simp),ib.uC.none _ _,Below.refl _ _⟩
section
variable {o1 o2:Nat→Prop} {w:World} {v pd N b:Nat} {d:DD} {m:Mt} {l:Bool} {t:Tg}
theorem rP (h:VP jJ w o1 o2 v pd d m false)(hJ:jr.JJ N t d)(hR:qO b N t m):Calls prog 16 #[pt v] w (ch.jY (volume t m.live,0) w):=by
 obtain⟨A0,A1,A2,c0,c1,c2,hA⟩:=h.is;have HA:=QH hA;have xE:=QH (jP h hJ.on);have HLV:=QH (wR h hJ hA.tab.mt.live hA.sz.live (fun z hz=>hR.ok.live.2.1 z hz));obtain⟨bz,k0,k1,k2,k3,k4,k5,k6,k7,k8,k9,cP⟩:=hA.cells;clear h hJ hR hA;go_enter func16,ntmps16;go_wp2_with fail;refine xE.out.mono ?_;rintro e W1 ⟨rfl,rfl⟩;go_wp2_with fail;refine HLV.out.mono ?_;rintro e W1 ⟨A,cc,rfl,h1,h2,h3⟩;have H1:=QH h1;have H2:=QH h2;have H3:=QH h3;clear h1 h2 h3 HLV xE;go_wp2_with fail;go_ret2;exact⟨A,cc,rfl,H1.out,H2.out,H3.out⟩
theorem qeh(h:VP jJ w o1 o2 v pd d m l)(hl:l=true∨d.on=false):Calls prog 16 #[pt v] w fun e w'=>e=.returned (.tuple #[.slice none 0 0,.int .i64 6])∧VP jJ w' o1 o2 v pd d m true∧ib.qy (fun j=>j=v) w w':=by
 have xE:=QH (br h hl);clear h hl;go_enter func16,ntmps16;go_wp2_with fail;refine xE.out.mono ?_;rintro e W1 ⟨rfl,h1,h2⟩;have H1:=QH h1;have H2:=QH h2;clear h1 h2 xE;go_wp2_with fail;go_ret2;exact⟨rfl,H1.out,H2.out⟩
end
theorem lO (w:World):Calls prog 16 #[.pointer none] w (ch.jY ([],1) w):=by
 have xE:=QH (yh w);go_enter func16,ntmps16;go_wp2_with fail;refine xE.out.mono ?_;rintro e W1 ⟨rfl,rfl⟩;go_wp2_with fail;go_ret2;exact⟨none,0,rfl,fun i h=>absurd h (by simp),ib.uC.none _ _,Below.refl _ _⟩
theorem na (t:Tg)(m:Mt)(g:Gd):(∃c,c≠0∧kP m g=(0,c)∧(zh t m).read g=([],c)∧uP m g=⟨c,m,[]⟩) ∨
    ∃i,∃h:i<m.qa.length,kP m g=((i:Int),0)∧(zh t m).read g=(volume t m.qa[i].ql,0)∧uP m g=⟨0,{ m with qa:=xO m.qa i },[]⟩:=by
 unfold kP uP ch.CH.read;rw[qd6];cases hf:pw m g with
 | none=>exact .inl ⟨5,by decide,rfl,rfl,rfl⟩
 | some i =>
  have hi:i<m.qa.length:=(List.findIdx?_eq_some_iff_getElem.1 hf).1;have e:(zh t m).qa[i]?=some (fE t m.qa[i]):=by simp[zh,hi]
  dsimp only;rw[e,List.getElem?_eq_getElem hi];dsimp only;have eh:(fE t m.qa[i]).hid=m.qa[i].hid:=rfl;rw[eh];cases hh:m.qa[i].hid with
  | true=>exact .inl ⟨14,by decide,by simp,by simp,by simp⟩
  | false=>exact .inr ⟨i,hi,by simp,by simp[fE],by simp⟩
theorem qkD{o1 o2:Nat→Prop}{w:World}{v pd N b:Nat}{d:DD}{m:Mt}{t:Tg}(g:Gd)(h:VP jJ w o1 o2 v pd d m false)(hJ:jr.JJ N t d)(hR:qO b N t m):Calls prog 32 #[pt v,gv g] w (ch.jY ((zh t m).read g) w):=by
 obtain⟨g1,g2⟩:=g;have hb2:=(Below.refl _ w).alloc (Nat.le_refl _) (.cells #[.int .u64 (g1:Int),.int .u64 (g2:Int)] 55);have hr2:=qf.new w 55 #[.int .u64 (g1:Int),.int .u64 (g2:Int)];obtain⟨W,hW2⟩:=QE (w.alloc (.cells #[.int .u64 (g1:Int),.int .u64 (g2:Int)] 55));rw[hW2]at hb2 hr2;have h2:=qT h hb2;obtain⟨A0,A1,A2,c0,c1,c2,hA⟩:=h2.is;have HA:=QH hA;have HV:=QH h2;have HJ:=QH hJ;have HR:=QH hR;have qB:=QH hb2;have xE:=QH (jP h2 hJ.on);have iU:=QH hA.sz;obtain⟨bz,k0,k1,k2,k3,k4,k5,k6,k7,k8,k9,cP⟩:=hA.cells;have r0:=hr2.cell 0;have r1:=hr2.cell 1;have rlt:=hr2.lt;simp only[Nat.zero_add,QA,QB,QC]at r0 r1;have e0:=fun d os=>cell_regrown k0 d os;have e1:=fun d os=>cell_regrown k1 d os;have e2:=fun d os=>cell_regrown k2 d os;have e3:=fun d os=>cell_regrown k3 d os;have e4:=fun d os=>cell_regrown k4 d os;have e5:=fun d os=>cell_regrown k5 d os;have e6:=fun d os=>cell_regrown k6 d os;have e7:=fun d os=>cell_regrown k7 d os;have e8:=fun d os=>cell_regrown k8 d os;have p0:=fun d os=>cell_regrown r0 d os;have p1:=fun d os=>cell_regrown r1 d os;have cF:∀b os,Calls prog 77 #[.agg (zq A0 A1 A2 c0 c1 c2 m),gv (g1,g2)] (grow (redrawn W b) os) fun e w''=>e=.returned (.tuple #[.int .i64 (kP m (g1,g2)).1,.int .i64 (kP m (g1,g2)).2])∧∃q:Regrown,w''=grow (redrawn W q.d) q.os :=
  fun b os=>Calls.regrown_of (jQ (HA.out.below (below_regrown W b os)).tab.mt.qa iU.out.qa (g1,g2))
 have HFC:=QH (na t m (g1,g2));have hE0:∀(c:Int),kP m (g1,g2)=(0,c)→kP m (g1,g2)=(0,c):=fun _ h=>h;obtain⟨R,hR'⟩:=QE ((zh t m).read (g1,g2));obtain⟨F,hF⟩:=QE (kP m (g1,g2));rw[hF,hR']at HFC;rw[hF]at cF;rw[hR'];obtain⟨F1,F2⟩:=F;clear h h2 hJ hR hA hb2 hr2 hR' hF hE0;unfold gv at cF;unfold zq at cF;dsimp only at cF;show Calls _ _ #[pt v,.agg #[.int .u64 (g1:Int),.int .u64 (g2:Int)]] _ _;go_enter func32,ntmps32;go_upto_region 1 with fail;try rw[hW2]
 clear hW2;go_wp2_with fail;refine xE.out.mono ?_;rintro e W1 ⟨rfl,rfl⟩;clear xE;go_upto_region 4 with fail;refine wp_region_quiet_below vX (by kernel_rfl) ?_;repeat (any_goals (first|go_big_quiet_step (first|exact cF _ _)|quiet_step (first|exact cF _ _)))
 refine wpQuiet_nil ?_;intro _ hw';obtain⟨⟨dq,osq⟩,hw''⟩:=hw';subst hw'';have hb:=below_regrown W dq osq;have qY:=QH (qc qB.out hb);have HV3:=QH (qT HV.out hb);have cd:=QH (HA.out.below hb);clear hb e0 e1 e2 e3 e4 e5 e6 e7 e8 p0 p1 cF HA HV qB bz k0 k1 k2 k3 k4 k5 k6 k7 k8 k9 cP r0 r1 rlt;generalize grow (redrawn W dq) osq=W3 at *;rcases HFC.out with⟨c,hc,hf,wM,_⟩|⟨i,hi,hf,wM,_⟩
 ·obtain⟨rfl,rfl⟩:=Prod.mk.inj hf;have hcb:(F2 != 0)=true:=by simpa using hc
  have xE:=QH wM;clear hc wM hf HFC;go_wp2_with fail;go_ret2;rw[xE.out];exact⟨none,0,rfl,fun i h=>absurd h (by simp),ib.uC.none _ _,qY.out⟩
 ·obtain⟨rfl,rfl⟩:=Prod.mk.inj hf;have xE:=QH wM;obtain⟨b',o',B,cc,rfl,s1,s2,s3,s4,s5,s6,s7⟩:=cd.out.tab.mt.qa i hi;have iz:=QH (wR HV3.out HJ.out s6 (iU.out.uD _ (List.getElem_mem hi)) (fun z hz=>(HR.out.ok.uD _ (List.getElem_mem hi)).2.1 z hz));obtain⟨bz,k0,k1,k2,k3,k4,k5,k6,k7,k8,k9,cP⟩:=cd.out.cells;have hii:(i:Int)<(m.qa.length:Int):=by omega
  have hin:¬ (i:Int)<0:=by omega
  generalize m.qa[i].ql=im at *;clear wM hf HFC s2 s3 s5 s6 s7 hi;go_wp2_with fail;refine iz.out.mono ?_;rintro e W4 ⟨A,cc',rfl,h1,h2,h3⟩;have H1:=QH h1;have H2:=QH h2;have H3:=QH h3;clear h1 h2 h3 iz;go_wp2_with fail;go_ret2;rw[xE.out];exact⟨A,cc',rfl,H1.out,fun b o e=>⟨Nat.le_trans qY.out.size (H2.out b o e).1,(H2.out b o e).2⟩,qc qY.out H3.out⟩
theorem lQ (g:Gd)(w:World):Calls prog 32 #[.pointer none,gv g] w (ch.jY ([],1) w):=by
 have HB:=QH ((Below.refl w.heap.size w).alloc (Nat.le_refl _) (.cells #[.int .u64 (g.1:Int),.int .u64 (g.2:Int)] 55));have xE:Hid (∀W,Calls prog 52 #[.pointer none] W fun e w'=>e=.returned (.int .i64 1)∧W=w'):=fun W=>yh W;unfold gv;go_enter func32,ntmps32;go_wp2_with fail;refine(xE.out _).mono ?_;rintro e W1 ⟨rfl,rfl⟩;go_wp2_with fail;go_ret2;exact⟨none,0,rfl,fun i h=>absurd h (by simp),ib.uC.none _ _,HB.out⟩
end Go.Proofs.YtdagdllomphidaaGreatDoor.vt.pg
