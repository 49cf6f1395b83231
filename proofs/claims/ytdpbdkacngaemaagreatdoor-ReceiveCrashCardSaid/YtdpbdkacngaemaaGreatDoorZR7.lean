/- JTake, JRec, JPoss, JHeadP, JRecov, VgHld, VgTxt, SpMem, SpHyp, SpPlaces, SpFind, SpRef, SpFree, SpRefC, SpTake, SpCellR, SpProg, VgPl, ImRef, ImOwn, ImRef2, ImHyp, ImProg, JShelf. -/
import Derived.Test.YtdpbdkacngaemaaGreatDoorZR6
import Derived.Lib.SliceRun
import Derived.Shelf.Strings.Repeat
set_option linter.unusedVariables false
set_option linter.unusedSimpArgs false
set_option maxHeartbeats 30000000
set_option maxRecDepth 100000
namespace Go.Proofs.YtdpbdkacngaemaaGreatDoor.jr
open _root_.Go.Proofs.Tryz Go Go.RowKit dk wi
def vD (t:Bt):Option (Wr × Bt):=match rdNum t with
 | none=>none
 | some (a,t1)=>match jd t1 with
  | none=>none
  | some (v,t2)=>some ((((min a 1024:Nat):Int),v),t2)
theorem fH (n:Nat)(t:Bt):iL (n+1) t=match vD t with|none=>none|some (x,r)=>match iL n r with|none=>none|some (l,q)=>some (x::l,q):=by
 rw[iL];unfold vD;cases rdNum t with
 | none=>rfl
 | some p =>
  obtain⟨a,t1⟩:=p;dsimp only;cases jd t1 with
  | none=>rfl
  | some q=>rfl
theorem aB:∀(k:Nat) (t:Bt),iL (k+1) t=match iL k t with|none=>none|some (l,r)=>match vD r with|none=>none|some (x,q)=>some (l++[x],q)
 | 0,t=>by
  rw[fH];show _=match vD t with|none=>none|some (x,q)=>some ([]++[x],q)
  cases vD t with
  | none=>rfl
  | some p=>rfl
 | k+1,t=>by
  rw[fH];cases h:vD t with
  | none =>
   have h2:iL (k+1) t=none:=by rw[fH,h]
   rw[h2]
  | some p =>
   obtain⟨x,r⟩:=p;have h2:iL (k+1) t=match iL k r with|none=>none|some (l,q)=>some (x::l,q):=by rw[fH,h]
   rw[h2];dsimp only;rw[aB k r];cases iL k r with
   | none=>rfl
   | some p2 =>
    obtain⟨l,q⟩:=p2;dsimp only;cases vD q with
    | none=>rfl
    | some p3=>rfl
theorem pB:∀(n k:Nat) (t:Bt),k≤n→iL k t=none→iL n t=none
 | 0,k,t,h,hk=>by
  obtain rfl:k=0:=by omega
  exact hk
 | n+1,k,t,h,hk=>by
  by_cases e:k=n+1
  ·rw[← e];exact hk
  ·rw[aB,pB n k t (by omega) hk]
theorem n9:∀(n:Nat) (t:Bt) (l:List Wr) (r:Bt),iL n t=some (l,r)→l.length=n
 | 0,t,l,r,h=>by simp[iL]at h;simp[← h.1]
 | n+1,t,l,r,h=>by
  rw[fH]at h;cases h1:vD t with
  | none=>rw[h1]at h;cases h
  | some p =>
   obtain⟨x,q⟩:=p;rw[h1]at h;dsimp only at h;cases h2:iL n q with
   | none=>rw[h2]at h;cases h
   | some p2 =>
    obtain⟨l2,q2⟩:=p2;rw[h2]at h;simp at h;rw[← h.1];simp[n9 n q l2 q2 h2]
def Fill (cs:Array Value)(n:Nat)(l:List Wr):Prop:=cs.size=n*2∧∀i (h:i<l.length),cs[i*2]?=some (.int .i64 l[i].1)∧cs[i*2+1]?=some (.string (str l[i].2))
theorem qke{cs:Array Value}{n:Nat}{l:List Wr}(h:Fill cs n l)(hl:l.length<n)(x:Wr):Fill ((cs.setIfInBounds (l.length*2) (.int .i64 x.1)).setIfInBounds (l.length*2+1) (.string (str x.2))) n (l++[x]):=by
 obtain⟨h1,h2⟩:=h;refine⟨by simpa using h1,fun i hi=>?_⟩;by_cases gP:i<l.length
 ·rw[List.getElem_append_left gP];obtain⟨g1,g2⟩:=h2 i gP;constructor
  ·rw[Array.getElem?_setIfInBounds_ne (by omega),Array.getElem?_setIfInBounds_ne (by omega)];exact g1
  ·rw[Array.getElem?_setIfInBounds_ne (by omega),Array.getElem?_setIfInBounds_ne (by omega)];exact g2
 ·have e:i=l.length:=by simp at hi;omega
  subst e;rw[List.getElem_append_right (Nat.le_refl _)];simp only[Nat.sub_self,List.getElem_cons_zero];constructor
  ·rw[Array.getElem?_setIfInBounds_ne (by omega),Array.getElem?_setIfInBounds_self_of_lt (by omega)]
  ·rw[Array.getElem?_setIfInBounds_self_of_lt (by rw[Array.size_setIfInBounds];omega)]
def S0 (n:Nat)(r0:Bt)(rb k:Nat)(cs:Array Value)(wr:World):Prop :=
 (∃l r,iL k r0=some (l,r)∧Fill cs n l∧zw rb r false wr∧∀x∈l,qG x.1)∨(iL n r0=none∧∃m,zw rb m true wr)
def S1 (n:Nat)(r0:Bt)(rb k:Nat)(cs:Array Value)(z:Nat)(wr:World):Prop :=
 (∃l r r1,iL k r0=some (l,r)∧Fill cs n l∧rdNum r=some (z,r1)∧zw rb r1 false wr∧∀x∈l,qG x.1)∨(iL n r0=none∧∃m,zw rb m true wr)
def S2 (n:Nat)(r0:Bt)(rb k:Nat)(cs:Array Value)(z:Nat)(t:Bt)(wr:World):Prop :=
 (∃l r,iL k r0=some (l,r)∧Fill cs n l∧(∀x∈l,qG x.1)∧∃q,iL (k+1) r0=some (l++[(((min z 1024:Nat):Int),t)],q)∧zw rb q false wr)∨(iL n r0=none∧∃m,zw rb m true wr)
def qsg (n:Nat)(r0:Bt)(rb k:Nat)(cs:Array Value)(w:World)(e:Ending)(w':World):Prop :=
 ∃z:Nat,e=.returned (.int .u64 (z:Int))∧z<18446744073709551616∧w.grownBy w' (some rb)∧S1 n r0 rb k cs z w'
def qoq (n:Nat)(r0:Bt)(rb k:Nat)(cs:Array Value)(z:Nat)(w:World)(e:Ending)(w':World):Prop :=
 ∃t:Bt,e=.returned (.string (str t))∧w.grownBy w' (some rb)∧S2 n r0 rb k cs z t w'
theorem qkf{n:Nat}{r0:Bt}{rb k:Nat}{cs:Array Value}{w:World}(hk:k<n)(h:S0 n r0 rb k cs w):Calls prog 191 #[.pointer (some ⟨rb,0,none⟩)] w (qsg n r0 rb k cs w):=by
 rcases h with⟨l,r,h1,h2,h3,h4⟩|⟨h1,m,h2⟩
 ·refine(w6 rb r w h3).mono ?_;rintro e w' ⟨hg,⟨z,r1,hn,rfl,hr⟩|⟨hn,rfl,hm⟩⟩
  ·exact⟨z,rfl,(dB _ _ _ hn).2,hg,.inl ⟨l,r,r1,h1,h2,hn,hr,h4⟩⟩
  ·refine⟨0,rfl,by decide,hg,.inr ⟨?_,hm⟩⟩;refine pB n (k+1) r0 (by omega) ?_;rw[aB,h1];dsimp only;have:vD r=none:=by unfold vD;rw[hn]
   rw[this]
 ·refine(nB rb m w h2).mono ?_;rintro e w' ⟨rfl,rfl⟩;exact⟨0,rfl,by decide,ki _ _,.inr ⟨h1,m,h2⟩⟩
theorem qgx{n:Nat}{r0:Bt}{rb k:Nat}{cs:Array Value}{z:Nat}{w:World}(hk:k<n)(h:S1 n r0 rb k cs z w):Calls prog 255 #[.pointer (some ⟨rb,0,none⟩)] w (qoq n r0 rb k cs z w):=by
 rcases h with⟨l,r,r1,h1,h2,hn,h3,h4⟩|⟨h1,m,h2⟩
 ·refine(qgq rb r1 w h3).mono ?_;rintro e w' ⟨hg,⟨t,r2,ht,rfl,hr⟩|⟨ht,rfl,hm⟩⟩
  ·refine⟨t,rfl,hg,.inl ⟨l,r,h1,h2,h4,r2,?_,hr⟩⟩;rw[aB,h1];dsimp only;have:vD r=some ((((min z 1024:Nat):Int),t),r2):=by
    unfold vD;rw[hn];dsimp only;rw[ht]
   rw[this]
  ·refine⟨[],rfl,hg,.inr ⟨?_,hm⟩⟩;refine pB n (k+1) r0 (by omega) ?_;rw[aB,h1];dsimp only;have:vD r=none:=by
    unfold vD;rw[hn];dsimp only;rw[ht]
   rw[this]
 ·refine(qjY rb m w h2).mono ?_;rintro e w' ⟨rfl,rfl⟩;exact⟨[],rfl,ki _ _,.inr ⟨h1,m,h2⟩⟩
def qsh (w:World)(rb g n:Nat)(r0:Bt)(i:Value)(wr:World):Prop :=
 ∃(k:Nat) (cs:Array Value),k≤n∧i=.int .i64 (k:Int)∧qd wr g 105 cs∧cs.size=n*2∧Below w.heap.size w wr∧S0 n r0 rb k cs wr
def pD (r:Option (List Wr))(w:World)(e:Ending)(w':World):Prop :=
 Below w.heap.size w w'∧match r with
  | some l=>∃A c,e=.returned (.tuple #[.slice A l.length c,.bool true])∧uU w' A l
  | none=>∃A n c,e=.returned (.tuple #[.slice A n c,.bool false])
theorem qsi(n:Nat)(h:n≤60)(W:World):(Instr.makeSlice 89 (.int .u64 (n:Int)) (.int .u64 (n:Int))).run prog W=.ok (.slice (some ⟨W.heap.size,0,none⟩) n n) (W.alloc (.cells (madeCells #[.int .i64 0,.string ByteArray.empty] (n*2)) 105)):=by
 obtain⟨i0,hi,hz0,hz1,hz2⟩:=info_parts qoe;have hmk:=run_make (P:=prog) W 89 105 i0 (.agg #[.int .i64 0,.string ByteArray.empty]) underlying89 hi hz0 .u64 .u64 (n:Int) (n:Int) (by omega) (by omega) (by rw[hz2];omega) (by omega);rw[hz1]at hmk;simpa[Value.cells]using hmk
theorem fJ {rb g i:Nat}{l:Bt}{x:Bool}{W:World}{cs:Array Value}{u:Value}(h:zw rb l x W)(hB:qd W g 105 cs):zw rb l x (W.setCell ⟨g,i,none⟩ u):=by
 obtain⟨q,o,cap,h1,h2,h3,h4⟩:=h;have n1:rb≠g:=by
  rintro rfl;unfold qd at hB;rw[h1]at hB;simp at hB
 have n2:q≠g:=by
  rintro rfl;obtain⟨cs',fr,hq,_⟩:=h2;unfold qd at hB;rw[hq]at hB;simp at hB
 exact⟨q,o,cap,by rw[Below.heap_setCell W ⟨g,i,none⟩ u rb n1];exact h1,h2.keep (Below.heap_setCell W ⟨g,i,none⟩ u q n2),h3,h4⟩
theorem kN (s:ByteArray)(w:World)(hs:s.size≤140737488355328) :
    Calls prog 193 #[.string s] w (pD (bJ (bl s)) w):=by
 obtain⟨res,hres⟩:=QE (bJ (bl s));rw[hres];have xu:=QH hres;clear hres;go_enter func193,ntmps193;go_wp2_with fail;refine(qaG s w hs).mono ?_;rintro e W1 ⟨rb,rfl,hrb,hR,b1⟩;have HR:=QH hR;have qT:=QH b1;clear hR b1;go_wp2_with fail;refine(w6 rb (bl s) W1 HR.out).mono ?_;rintro e W2 ⟨g2,⟨n,r0,hn,rfl,hR2⟩|⟨hn,rfl,m,hR2⟩⟩
 ·have hres:res=if n<1∨60<n then none else match iL n r0 with|some (l,[])=>some l|_=>none:=by
     have h:=xu.out;unfold bJ at h;rw[hn]at h;exact h.symm
  have jO:=QH hR2;have qC:=QH (qT.out.grown g2 qT.out.size (fun j hj=>by simp at hj;omega));clear hR2 g2 HR qT xu hn;by_cases hlo:n<1
  ·have c1:((n:Int)<1):=by omega
   rw[if_pos (.inl hlo)]at hres;subst hres;go_wp2_with fail;go_ret2;exact⟨qC.out,_,_,_,rfl⟩
  ·by_cases hhi:60<n
   ·have c1:¬ ((n:Int)<1):=by omega
    have c2:(60:Int)<(n:Int):=by omega
    rw[if_pos (.inr hhi)]at hres;subst hres;go_wp2_with fail;go_ret2;exact⟨qC.out,_,_,_,rfl⟩
   ·rw[if_neg (by omega)]at hres;have c1:¬ ((n:Int)<1):=by omega
    have c2:¬ (60:Int)<(n:Int):=by omega
    have xu:=QH hres;clear hres;have hmk:=qsi n (by omega);have kb:qd (W2.alloc (.cells (madeCells #[.int .i64 0,.string ByteArray.empty] (n*2)) 105)) W2.heap.size _ _:=qd.new W2 _ _;have hR3:zw rb r0 false (W2.alloc (.cells (madeCells #[.int .i64 0,.string ByteArray.empty] (n*2)) 105)):=jO.out.below ((Below.refl W2.heap.size W2).alloc (Nat.le_refl _) _);have hB3:Below w.heap.size w (W2.alloc (.cells (madeCells #[.int .i64 0,.string ByteArray.empty] (n*2)) 105)):=qC.out.alloc qC.out.size _;have hgg:w.heap.size≤W2.heap.size:=qC.out.size;have hcz:(madeCells #[.int .i64 0,.string ByteArray.empty] (n*2)).size=n*2:=size_madeCells _ _;have HCZ:=QH hcz;clear hcz;go_wp2_with fail;clear hmk;generalize W2.heap.size=g at *;generalize madeCells #[.int .i64 0,.string ByteArray.empty] (n*2)=cs0 at *;generalize W2.alloc (.cells cs0 105)=W3 at *;go_loopw [22] (fun i wr=>qsh w rb g n r0 i wr) (fun i _=>n-(intOf i).toNat);case atStart=>exact⟨0,cs0,Nat.zero_le _,rfl,kb,HCZ.out,hB3,.inl ⟨[],r0,rfl,⟨HCZ.out,fun i h=>by simp at h⟩,hR3,fun x hx=>by cases hx⟩⟩
    case round =>
     clear kb hR3 hB3 qC jO HCZ;obtain⟨k,cs,hk,rfl,zy,hcs,hB,hst⟩:=hrel;have kX:=QH zy;have HB:=QH hB;have HST:=QH hst;clear zy hB hst;have jX:=kX.out.lt;have q0R:rb≠g:=by
      intro e;have hb2:=kX.out;unfold qd at hb2;rcases HST.out with⟨_,_,_,_,⟨_,_,_,h,_⟩,_⟩|⟨_,_,_,_,_,h,_⟩;all_goals
       rw[e,hb2]at h;simp at h
     by_cases hlt:k<n
     ·have qb2:(k:Int)<(n:Int):=by omega
      go_wp2_with fail;refine(qkf hlt HST.out).mono ?_;rintro e Wa ⟨z,rfl,zcM,ga,hs1⟩;have hba:qd Wa g 105 cs:=kX.out.of_block (ga.block g jX (by simpa using Ne.symm q0R));have HBA:=QH hba;have dO:=QH hs1;have qT:=QH (HB.out.grown ga HB.out.size (fun j hj=>by simp at hj;omega));have br:=hba.lt;obtain⟨q5Y,hc0⟩:∃u,cs[k*2]?=some u:=⟨_,Array.getElem?_eq_getElem (by omega)⟩;have ea:Wa.cell? ⟨g,k*2,none⟩=some q5Y:=by rw[hba.cell];exact hc0
      have fa:Wa.frozen? ⟨g,k*2,none⟩=false:=hba.frozen _;have q5Z:min (z:Int) 1024=((min z 1024:Nat):Int):=by omega
      have hmn:min z 1024≤1024:=Nat.min_le_right _ _;obtain⟨mz,hmz⟩:=QE (min z 1024);rw[hmz]at q5Z hmn;have HMZ:=QH hmz;have hmi:(mz:Int)≤1024:=by omega
      clear hba ga hs1 hc0 hmz HB kX HST;go_wp2_with fail;have hbb:=HBA.out.qo (k*2) (.int .i64 (mz:Int));have q0T:S1 n r0 rb k cs z (Wa.setCell ⟨g,k*2,none⟩ (.int .i64 (mz:Int))):=by
       rcases dO.out with⟨l,r,r1,h1,h2,h3,h4,h5⟩|⟨h1,m,h2⟩
       ·exact .inl ⟨l,r,r1,h1,h2,h3,fJ h4 HBA.out,h5⟩
       ·exact .inr ⟨h1,m,fJ h2 HBA.out⟩
      have HBB:=QH hbb;have qjU:=QH q0T;have qwz:=QH (qT.out.setCell (p:=⟨g,k*2,none⟩) (Nat.le_trans hgg (Nat.le_refl _)) (.int .i64 (mz:Int)));clear hbb q0T ea fa HBA dO qT;refine(qgx hlt qjU.out).mono ?_;rintro e Wc ⟨t,rfl,gc,hs2⟩;have hbc:qd Wc g 105 (cs.setIfInBounds (k*2) (.int .i64 (mz:Int))):=HBB.out.of_block (gc.block g HBB.out.lt (by simpa using Ne.symm q0R));have HBC:=QH hbc;have kT:=QH hs2;have qC:=QH (qwz.out.grown gc qwz.out.size (fun j hj=>by simp at hj;omega));have hlc:=hbc.lt;obtain⟨q6c,hc1⟩:∃u,(cs.setIfInBounds (k*2) (.int .i64 (mz:Int)))[k*2+1]?=some u:=⟨_,Array.getElem?_eq_getElem (by rw[Array.size_setIfInBounds];omega)⟩;have ec:Wc.cell? ⟨g,k*2+1,none⟩=some q6c:=by rw[hbc.cell];exact hc1
      have fc:Wc.frozen? ⟨g,k*2+1,none⟩=false:=hbc.frozen _;clear hbc gc hs2 hc1 HBB qjU qwz;go_wp2_with fail;go_roundw;case rel =>
       refine⟨k+1,_,by omega,by go_num,HBC.out.qo (k*2+1) (.string (str t)),by simp[hcs],qC.out.setCell (p:=⟨g,k*2+1,none⟩) (Nat.le_trans hgg (Nat.le_refl _)) _,?_⟩;rcases kT.out with⟨l,r,h1,h2,h3,q,h4,h5⟩|⟨h1,m,h2⟩
       ·have hl:=n9 k r0 l r h1;subst hl;rw[HMZ.out]at h4;refine .inl ⟨_,q,h4,qke h2 hlt ((mz:Int),t),fJ h5 HBC.out,fun x hx=>?_⟩;rcases List.mem_append.1 hx with hx|hx
        ·exact h3 x hx
        ·obtain rfl:x=_:=by simpa using hx
         unfold qG;dsimp only;omega
       ·exact .inr ⟨h1,m,fJ h2 HBC.out⟩
      case measure=>simp[intOf];omega
     ·obtain rfl:k=n:=by omega
      have hres:=xu.out;rcases HST.out with⟨l,r,h1,h2,h3,h4⟩|⟨h1,m,h2⟩
      ·have hl:=n9 k r0 l r h1;rw[h1]at hres;have H3:=QH h3;have H2:=QH h2;have H4:=QH h4;have na:=QH hres;clear h1 h2 h3 h4 hres xu HST;go_wp2_with (go_at_call 256;refine(qop rb r _ H3.out).mono ?_;rintro e w' ⟨rfl,rfl⟩);go_ret2;refine⟨HB.out,?_⟩;rw[na.out];cases r with
       | nil =>
        subst hl;refine⟨_,_,rfl,fun i hi=>⟨g,0,rfl,jX,?_,?_,H4.out _ (List.getElem_mem hi)⟩⟩
        ·rw[Nat.zero_add,kX.out.cell];exact(H2.out.2 i hi).1
        ·rw[Nat.zero_add,kX.out.cell];exact(H2.out.2 i hi).2
       | cons x r=>exact⟨_,_,_,rfl⟩
      ·rw[h1]at hres;dsimp only at hres;have H2:=QH h2;have na:=QH hres;clear h1 h2 hres xu HST;go_wp2_with (go_at_call 256;refine(qsf rb m _ H2.out).mono ?_;rintro e w' ⟨rfl,rfl⟩);go_ret2;refine⟨HB.out,?_⟩;rw[na.out];exact⟨_,_,_,rfl⟩
 ·have hres:res=none:=by rw[← xu.out];unfold bJ;rw[hn]
  subst hres;have qC:=QH (qT.out.grown g2 qT.out.size (fun j hj=>by simp at hj;omega));clear hR2 g2 HR qT;go_wp2_with fail;go_ret2;exact⟨qC.out,_,_,_,rfl⟩
theorem qb6(s:qE)(a k:Nat):zY s a (k+1)=zY s a k++[rd s ((1+a*72+k:Nat):Int)]:=by
 unfold zY;rw[List.range_succ,List.map_append];rfl
theorem ma (s:qE)(a k:Nat):(zY s a k).length=k:=by simp[zY]
def qw0 (w:World)(s:qE)(a c:Nat)(v i:Value)(wr:World):Prop :=
 ∃k:Nat,k≤c∧i=.int .i64 (k:Int)∧zQ wr w.heap.size v (zY s a k)∧Below w.heap.size w wr
theorem qgy{most:Nat}{w:World}{own:Nat→Prop}{p:Nat}{d:DD}(h:zK most w own p d)(xc:d.on=true)(hn:145<d.n)(a c:Nat)(ha:a<2)(hc:c≤72)(ht:xY w) :
    Calls prog 118 #[.agg #[.int .i64 (a:Int),.int .i64 (c:Int)],.pointer (some ⟨p,0,none⟩)] w (pD (aa d.now a c) w):=by
 obtain⟨i0,hi,hz0,hz1,hz2⟩:=info_parts Tryz.qlY;have HD:=QH h;have HT:=QH ht;have hg:=ht.1;have lJ:=QH h.1;have bz:∀k,k<c→d.read ((1+a*72+k:Nat):Int)=(rd d.now ((1+a*72+k:Nat):Int),0):=by
  intro k hk;unfold DD.read;have:d.has ((1+a*72+k:Nat):Int)=true:=by
   have h72:a*72≤72:=by omega
   simp only[DD.has,Bool.and_eq_true,decide_eq_true_eq];omega
  rw[if_neg (by rw[xc];simp),if_neg (by rw[this];simp)];rfl
 have h32:∀k,(rd d.now ((1+a*72+k:Nat):Int)).length=32:=by
  intro k;unfold rd;cases hx:dk.look d.now ((1+a*72+k:Nat):Int)with
  | none=>exact qJ
  | some u=>exact lJ.out.tM hx
 have H32:=QH h32;have dy:=QH bz;have qkd:=fun(W:World)=>qam a c ha W;have HF:=QH qkd;obtain⟨res,hres⟩:=QE (aa d.now a c);rw[hres];have xu:=QH hres;have kb:qd (w.alloc (.cells #[.int .i64 (a:Int),.int .i64 (c:Int)] 188)) w.heap.size _ _:=qd.new w _ _;have k0:=kb.lt;have hb0:Below w.heap.size w (w.alloc (.cells #[.int .i64 (a:Int),.int .i64 (c:Int)] 188)):=(Below.refl w.heap.size w).alloc (Nat.le_refl _) _;clear h ht bz h32 qkd hres;go_enter func118,ntmps118;go_wp2_with fail;obtain⟨w0,hw0⟩:=QE (w.alloc (.cells #[.int .i64 (a:Int),.int .i64 (c:Int)] 188));rw[hw0]at kb k0 hb0;rw[hw0];clear hw0;have KB:=QH kb;have jw:=QH hb0;clear kb hb0;go_loopw [6,14] (fun v i wr=>qw0 w0 d.now a c v i wr) (fun _ i _=>c-(intOf i).toNat);case atStart=>exact⟨0,Nat.zero_le _,rfl,World.ownsRow_nil _ _ _ _,Below.refl _ _⟩
 case round =>
  obtain⟨k,hk,rfl,ho,hB⟩:=hrel;have HO:=QH ho;have HB:=QH hB;have yy:=QH (jw.out.trans (hB.mono jw.out.size));clear ho hB;by_cases hlt:k<c
  ·have hkb:qd wr w.heap.size _ _:=KB.out.of_block (HB.out.block _ k0);have q0:=hkb.cell 0;have q1:=hkb.cell 1;have lt2:=hkb.lt;have qb2:(k:Int)<(c:Int):=by omega
   have hsn:=qb6 d.now a k;have hr1:=dy.out k hlt;have zcN:=H32.out k;have bE:=ma d.now a k;clear hkb;generalize rd d.now ((1+a*72+k:Nat):Int)=x at *;have jC:=QH hsn;have uu:=QH hr1;have gK:=QH bE;obtain⟨o1,ho1⟩:=QE (1+a*72);have q0P:o1≤73:=by omega
   have HF1:=HF;rw[ho1]at HF1 uu;have hadd:(o1:Int)+(k:Int)=((o1+k:Nat):Int):=by omega
   have HAD:=QH hadd;clear hsn hr1 ho1 hadd;go_wp2_with fail;refine(HF1.out _).mono ?_;rintro e W1 ⟨rfl,b1⟩;have ho1:=bh HO.out b1;have HO1:=QH ho1;have qT:=QH (HB.out.trans (b1.mono HB.out.size));clear b1 ho1 q0 q1;go_wp2_with fail;rw[HAD.out];have HBX:=QH (jw.out.trans (qT.out.mono jw.out.size));refine(qia (B:=0) ⟨own,HD.out.below HBX.out,fun _ _=>Nat.zero_le _⟩ ((o1+k:Nat):Int) x (str x) rfl 0 uu.out).mono ?_;rintro e W2 ⟨rfl,_,b2⟩;have ho2:=bh HO1.out b2;rw[show zQ W2 w0.heap.size _ (zY d.now a k)=W2.ownsRow w0.heap.size 9 1 _ (zY d.now a k).length (yx (zY d.now a k))from rfl]at ho2;have qC:=QH (qT.out.trans (b2.mono qT.out.size));have hown2:=ho2.alloc (.cells #[.string (str x)] 9);have hnews:=fG W2 9 (.string (str x));have ue:=QH hown2;have au:=QH hnews;have zB:=QH (qC.out.alloc qC.out.size (.cells #[.string (str x)] 9));clear b2 ho2 hown2 hnews HO HO1;have hkb:k≤1000:=by omega
   go_wp2_with (at_builtin;refine wpList_append_own _ rfl (.tmp 28) (.tmp 30) 57 rfl w0.heap.size 9 i0 (.string ByteArray.empty) 1 16 underlying57 hi hz0 hz1 hz2 rfl (by decide) _ (zY d.now a k).length _ rfl ue.out ⟨W2.heap.size,0,none⟩ 1 1 [.string (str x)] rfl rfl au.out (fun u hu=>by simp at hu;subst hu;rfl) ?_ ?_ zB.out.size ?_)
   ·rw[gK.out];unfold maxLen;omega
   ·rw[gK.out];omega
   ·intro v' w1 hown1 hgrow _;have hb1:=zB.out.grown hgrow zB.out.size (fun j hj=>(ue.out.lt j hj).1);have hos:zQ w1 w0.heap.size v' (zY d.now a k++[x]):=by
     unfold zQ;rw[fy,List.length_append];rw[gK.out];first|exact hown1|(rw[gK.out]at hown1;exact hown1)
    have HOS:=QH hos;have zT:=QH hb1;clear hb1 hos hown1 hgrow;go_wp2_with fail;go_roundw;case rel=>exact⟨k+1,by omega,by go_num,by rw[jC.out];exact HOS.out,zT.out⟩
    case measure=>simp[intOf];omega
  ·obtain rfl:k=c:=by omega
   obtain⟨A,cc,rfl,_,_,hsa,_,_⟩:=HO.out.view;have bE:=ma d.now a k;have HSA:=QH hsa;have ik:=HT.out.below yy.out hg;have dv:=QH ik;clear hsa ik;have hres:=xu.out;unfold aa at hres;have gY:(zY d.now a k).flatten.length≤100000:=by
    rw[wD _ (fun i hi=>by simp only[zY,List.getElem_map,List.getElem_range];exact H32.out i),bE];omega
   have HFL:=QH gY;clear gY;generalize zY d.now a k=ps at *;have HLP:=QH bE;by_cases hx:∃t,vP ps t
   ·obtain⟨t,htx⟩:=hx;have rZ:unB ps=some t:=by
     have hx:∃u,vP ps u:=⟨t,htx⟩;unfold unB;rw[dif_pos hx];exact congrArg some (ou _ _ _ hx.choose_spec htx)
    rw[rZ]at hres;have HR:=QH (show bJ t=res from hres);have HTX:=QH htx;clear hres rZ htx bE;go_wp2_with fail;refine(lU A cc ps t _ HSA.out HTX.out dv.out).mono ?_;rintro e W3 ⟨rfl,b3⟩;have zB:=QH (yy.out.trans (b3.mono yy.out.size));clear b3;go_wp2_with fail;refine(kN (str t) _ (by rw[qQ];have:=HTX.out.1;omega)).mono ?_;rintro e W4 ⟨b4,hq⟩;rw[zC,HR.out]at hq;have zT:=QH (zB.out.trans (b4.mono zB.out.size));clear b4;cases res with
    | some l =>
     obtain⟨A2,c2,rfl,hw⟩:=hq;have HW:=QH hw;clear hw;go_wp2_with fail;go_ret2;exact⟨zT.out,_,_,rfl,HW.out⟩
    | none =>
     obtain⟨A2,n2,c2,rfl⟩:=hq;go_wp2_with fail;go_ret2;exact⟨zT.out,_,_,_,rfl⟩
   ·have rZ:unB ps=none:=by
       unfold unB;rw[dif_neg hx]
    rw[rZ]at hres;have q0X:none=res:=hres;subst q0X;have HX:=QH hx;clear hres rZ hx bE;go_wp2_with fail;refine(lV A cc ps _ HSA.out (by have:=HLP.out;omega) HFL.out (fun t ht=>HX.out ⟨t,ht⟩) dv.out).mono ?_;rintro e W3 ⟨rfl,b3⟩;have zB:=QH (yy.out.trans (b3.mono yy.out.size));clear b3;go_wp2_with fail;go_ret2;exact⟨zB.out,_,_,_,rfl⟩
def qsj (N:Nat)(l:List Wr)(w:World)(i:Value)(wr:World):Prop :=
 ∃k:Nat,k≤l.length∧i=.int .i64 (k:Int)∧yw wr w.heap.size (found [] (l.take k))∧(l.take k).all (okW N)=true∧Below w.heap.size w wr
theorem qgz(l:List Wr)(k:Nat)(h:k<l.length):found [] (l.take (k+1))=ye (found [] (l.take k)) l[k].1:=by
 rw[List.take_succ_eq_append_getElem h];unfold found;rw[List.foldl_append];rfl
theorem qd6{w wr:World}(h:Below w.heap.size w wr)(n:Nat):Below w.heap.size w (wr.drewN n):=⟨h.os,h.tape,h.output,h.size,h.block⟩
theorem qd7{most:Nat}{w:World}{own:Nat→Prop}{p:Nat}{d:DD}(h:zK most w own p d)(a:Option Addr)(c:Nat)(l:List Wr)(hT:uU w a l)(hl:l.length≤1000000) :
    Calls prog 119 #[.pointer (some ⟨p,0,none⟩),.slice a l.length c] w (okB (vQ d.n l) w):=by
 obtain⟨h0,m,v,hd⟩:=h;have HD:=QH hd;have HN:=QH h0.n1;have HT:=QH hT;have hmm:=@run_makeMap prog;clear h0 hd hT;go_enter func119,ntmps119;go_wp2_with fail;clear hmm;go_loopw [11] (fun i wr=>qsj d.n l w i wr) (fun i _=>l.length-(intOf i).toNat);case atStart=>exact⟨0,Nat.zero_le _,rfl,yw.made w,rfl,(Below.refl _ w).alloc (Nat.le_refl _) _⟩
 case round =>
  obtain⟨k,hk,rfl,hs,hall,hB⟩:=hrel;have HS:=QH hs;have HB:=QH hB;have HA:=QH hall;clear hs hB hall;by_cases hlt:k<l.length
  ·obtain⟨b,o,rfl,hb,q0,q1,qb⟩:=HT.out k hlt;have fF:=qgz l k hlt;have q0Y:(l.take (k+1)).all (okW d.n)=((l.take k).all (okW d.n)&&okW d.n l[k]):=by rw[List.take_succ_eq_append_getElem hlt,List.all_append,List.all_cons,List.all_nil,Bool.and_true]
   have hin:okW d.n l[k]=false→vQ d.n l=false:=fun hh=>by
    unfold vQ;rw[Bool.and_eq_false_iff]
    left
    rw[List.all_eq_false];exact⟨l[k],List.getElem_mem hlt,by rw[hh];simp⟩
   generalize hxx:l[k]=x at *;have e0:wr.cell? ⟨b,o+k*2,none⟩=some (.int .i64 x.1):=by rw[HB.out.cell (p:=⟨b,o+k*2,none⟩) hb];exact q0
   have e1:wr.cell? ⟨b,o+k*2+1,none⟩=some (.string (str x.2)):=by rw[HB.out.cell (p:=⟨b,o+k*2+1,none⟩) hb];exact q1
   have hb2:b<wr.heap.size:=Nat.lt_of_lt_of_le hb HB.out.size;have qb2:(k:Int)<(l.length:Int):=by omega
   have HF:=QH fF;have HAS:=QH q0Y;have HIN:=QH hin;have HQB:=QH qb;clear q0 q1 fF q0Y hin qb hxx;have d0:wr.cell? ⟨p,0,none⟩=some (.int .i64 (d.n:Int)):=by rw[HB.out.cell (p:=⟨p,0,none⟩) HD.out.1.lt];exact HD.out.1.cell 0
   have hpl:p<wr.heap.size:=Nat.lt_of_lt_of_le HD.out.1.lt HB.out.size;have hdw:∀n,uL ((wr.alloc (.cells #[.int .i64 x.1,.string (str x.2)] 105)).drewN n) own p m v d:=fun n=>by
    have hb':=qd6 (HB.out.alloc HB.out.size (.cells #[.int .i64 x.1,.string (str x.2)] 105)) n;exact HD.out.keep hb'.size (fun j hj=>hb'.block j (HD.out.2.2.2.2.2.2 j hj))
   have bE:∀n,Calls prog 43 #[.pointer (some ⟨p,0,none⟩)] ((wr.alloc (.cells #[.int .i64 x.1,.string (str x.2)] 105)).drewN n) fun e w'=>e=.returned (.int .i64 (d.n:Int))∧w'=(wr.alloc (.cells #[.int .i64 x.1,.string (str x.2)] 105)).drewN n:=fun n=>(qaV (hdw n)).mono fun e w' g=>⟨g.1,g.2.symm⟩;have gK:=QH bE;clear hdw bE;by_cases c1:x.1<145
   ·have hf:=QH (HIN.out (by simp[okW];omega));go_wp2_with fail;go_quiet (fail);go_wp2_with fail;go_ret;exact⟨by rw[hf.out];rfl,qd6 (HB.out.alloc HB.out.size _) _⟩
   ·have c1':decide (x.1<145)=false:=by simpa using c1
    by_cases c2:(d.n:Int)≤x.1
    ·have hf:=QH (HIN.out (by simp[okW];omega));go_wp2_with fail;go_quiet (first|(go_at_call 43;exact Calls.quiet_of_same (gK.out _)));go_wp2_with fail;go_ret;exact⟨by rw[hf.out];rfl,qd6 (HB.out.alloc HB.out.size _) _⟩
    ·have c2':decide ((d.n:Int)≤x.1)=false:=by simpa using c2
     by_cases c3:x.2.length=32
     ·have c3':(((str x.2).size:Int) != 32)=false:=by rw[bne_eq_false_iff_eq,qQ];omega
      have hok:okW d.n x=true:=by simp[okW];omega
      have lJ:=QH hok;clear hok;go_wp2_with fail;go_quiet (first|(go_at_call 43;exact Calls.quiet_of_same (gK.out _)));have hsw:yw ((wr.alloc (.cells #[.int .i64 x.1,.string (str x.2)] 105)).drewN nq) w.heap.size (found [] (l.take k)):=HS.out.of_block (Below.heap_alloc wr _ _ HS.out.lt);have HSW:=QH hsw;have yy:=QH (qd6 (HB.out.alloc HB.out.size (.cells #[.int .i64 x.1,.string (str x.2)] 105)) nq);have gY:(found [] (l.take k)).length<maxLen:=by
       have:=qjs (l.take k) [];simp at this;unfold maxLen;omega
      have HFL:=QH gY;clear hsw gY;go_wp2_with (at_mapUpdate;refine wx rfl _ _ _ rfl rfl HSW.out x.1 rfl rfl HQB.out.1 HQB.out.2 HFL.out ?_;intro w2 hs2 ht2;have kT:=QH hs2;have qC:=QH (yL ht2);clear hs2 ht2);go_roundw;case rel=>exact⟨k+1,by omega,by go_num,by rw[HF.out];exact kT.out,by rw[HAS.out,HA.out,lJ.out];rfl,yy.out.trans (qC.out.below (fun i e=>by subst e;exact Nat.le_refl _) yy.out.size)⟩
      case measure=>simp[intOf];omega
     ·have c3':(((str x.2).size:Int) != 32)=true:=by rw[bne_iff_ne,qQ];omega
      have hf:=QH (HIN.out (by simp[okW];omega));go_wp2_with fail;go_quiet (first|(go_at_call 43;exact Calls.quiet_of_same (gK.out _)));go_wp2_with fail;go_ret;exact⟨by rw[hf.out];rfl,qd6 (HB.out.alloc HB.out.size _) _⟩
  ·obtain rfl:k=l.length:=by omega
   have bE:=QH (HS.out);have hres:vQ d.n l=((((found [] l).length:Int)) == (l.length:Int)):=by
    have ha:=HA.out;rw[List.take_length]at ha;unfold vQ;rw[ha,Bool.true_and,Bool.eq_iff_iff];simp;omega
   have HR:=QH hres;clear hres;go_wp2_with (at_len;refine qh rfl (eN _ rfl rfl HS.out) ?_);go_ret;exact⟨by rw[HR.out];rfl,HB.out⟩
def qor:Prop:=∀(a c:Nat) (w:World),a<2→c≤72 →
 Calls prog 179 #[.agg #[.int .i64 (a:Int),.int .i64 (c:Int)]] w fun e w'=>e=.returned (.agg #[.int .i64 0,.string (str (kQ a c))])∧Below w.heap.size w w'
def pE (r:Option (Nat × Nat))(w:World)(e:Ending)(w':World):Prop :=
 Below w.heap.size w w'∧match r with
  | some (a,c)=>e=.returned (.tuple #[.agg #[.int .i64 (a:Int),.int .i64 (c:Int)],.bool true])
  | none=>∃x y:Int,e=.returned (.tuple #[.agg #[.int .i64 x,.int .i64 y],.bool false])
def qot:Prop:=∀(most:Nat) (w:World) (own:Nat→Prop) (p:Nat) (d:DD),zK most w own p d→d.on=true→0<d.n →
 Calls prog 117 #[.pointer (some ⟨p,0,none⟩)] w (pE (bu (rd d.now 0)) w)
section
variable {most:Nat} {w:World} {own:Nat→Prop} {p:Nat} {d:DD}
theorem qd8{W:World}{A:Option Addr}{c:Nat}{l:List Wr}(h:uU W A l):qdz (W.alloc (.cells #[.slice A l.length c] 89)) (some ⟨W.heap.size,0,none⟩) [l]:=fun i hi=>by
 obtain rfl:i=0:=by simp at hi;exact hi
 exact⟨W.heap.size,0,A,c,rfl,by simp,(qd.new W _ _).cell 0,h.below ((Below.refl W.heap.size W).alloc (Nat.le_refl _) _) (Nat.le_refl _)⟩
theorem qd9{W:World}(k:Int)(x:Bt)(hk:qG k):uU (W.alloc (.cells #[.int .i64 k,.string (str x)] 105)) (some ⟨W.heap.size,0,none⟩) [(k,x)]:=fun i hi=>by
 obtain rfl:i=0:=by simp at hi;exact hi
 exact⟨W.heap.size,0,rfl,by simp,(qd.new W _ _).cell 0,(qd.new W _ _).cell 1,hk⟩
theorem qg0(HW:qor)(h:zK most w own p d)(hm:d.more.length+2≤most)(jc:most≤100000) :
    Calls prog 102 #[.pointer (some ⟨p,0,none⟩)] w (xj most own p (kE d).2 (.int .i64 (kE d).1) w):=by
 have HD:=QH h;have HP:=QH (iX h);obtain⟨h0,m,v,hd⟩:=h;have HL:=QH (qaV hd);have hpl:=hd.1.lt;have HW':=QH HW;clear h0 hd HW;unfold kE;cases xc:d.on with
 | false =>
  rw[xc]at HP;rw[if_pos rfl];go_enter func102,ntmps102;go_wp2_with (go_at_call 116;refine HP.out.mono ?_;rintro e w' ⟨rfl,rfl⟩);go_ret;exact⟨rfl,own,HD.out,qB.refl _ _,ub.refl _ _⟩
 | true =>
  rw[xc]at HP;rw[if_neg (by simp)];by_cases hn:d.n≤145
  ·rw[if_pos hn];have hn':(d.n:Int)≤145:=by omega
   go_enter func102,ntmps102;go_wp2_with (first|(go_at_call 116;refine HP.out.mono ?_;rintro e w' ⟨rfl,rfl⟩)|(go_at_call 43;refine HL.out.mono ?_;rintro e w' ⟨rfl,rfl⟩));go_ret;exact⟨rfl,own,HD.out,qB.refl _ _,ub.refl _ _⟩
  ·rw[if_neg hn];have hn':¬ (d.n:Int)≤145:=by omega
   go_enter func102,ntmps102;go_wp2_with (first|(go_at_call 116;refine HP.out.mono ?_;rintro e w' ⟨rfl,rfl⟩)|(go_at_call 43;refine HL.out.mono ?_;rintro e w' ⟨rfl,rfl⟩));refine(HW'.out 0 0 _ (by decide) (by decide)).mono ?_;rintro e W1 ⟨rfl,b1⟩;have qT:=QH b1;clear b1;go_wp2_with fail;have hb2:Below w.heap.size w ((W1.alloc (.cells #[.int .i64 0,.string (str (kQ 0 0))] 105)).alloc (.cells #[.slice (some ⟨W1.heap.size,0,none⟩) 1 1] 89)):=(zR qT.out _).alloc (zR qT.out _).size _;have hw1:=qd9 (W:=W1) 0 (kQ 0 0) (by unfold qG;omega);have hbs:=qd8 (c:=1) hw1;have hsz:(W1.alloc (.cells #[.int .i64 0,.string (str (kQ 0 0))] 105)).heap.size=W1.heap.size+1:=by simp
   rw[hsz]at hbs;have qC:=QH hb2;have HBS:=QH hbs;clear hw1 hbs hsz hb2;refine(aA p _ 1 [[(0,kQ 0 0)]] _ (Nat.lt_of_lt_of_le hpl qC.out.size) HBS.out (by decide) (fun l hl=>by simp at hl;subst hl;decide)).mono ?_;rintro e W3 ⟨v,rfl,hg⟩;have HG:=QH hg;clear hg;go_wp2_with fail;refine(iY (HD.out.below qC.out) HG.out (by simpa[qH,kd]using hm) jc).mono ?_;rintro e W4 yQ;have HPO:=QH (xj.from yQ qC.out HD.out.low);obtain⟨rfl,_⟩:=yQ;go_wp2_with fail;go_ret;exact HPO.out
end
end Go.Proofs.YtdpbdkacngaemaaGreatDoor.jr
namespace Go.Proofs.YtdpbdkacngaemaaGreatDoor.jr
open _root_.Go.Proofs.Tryz Go Go.RowKit dk wi
section
variable {most:Nat} {w:World} {own:Nat→Prop} {p:Nat} {d:DD}
theorem pF {r:Option (List Wr)}{w:World}{e:Ending}{w':World}(h:pD r w e w'):Below w.heap.size w w'∧((∃l A c,r=some l∧e=.returned (.tuple #[.slice A l.length c,.bool true])∧uU w' A l)∨(r=none∧∃A n c,e=.returned (.tuple #[.slice A n c,.bool false]))):=by
 obtain⟨h1,h2⟩:=h;refine⟨h1,?_⟩;cases r with
 | some l =>
  obtain⟨A,c,g1,g2⟩:=h2;exact .inl ⟨l,A,c,rfl,g1,g2⟩
 | none =>
  obtain⟨A,n,c,g⟩:=h2;exact .inr ⟨rfl,A,n,c,g⟩
theorem aC {r:Option (Nat × Nat)}{w:World}{e:Ending}{w':World}(h:pE r w e w'):Below w.heap.size w w'∧((∃a c:Nat,r=some (a,c)∧e=.returned (.tuple #[.agg #[.int .i64 (a:Int),.int .i64 (c:Int)],.bool true]))∨(r=none∧∃x y:Int,e=.returned (.tuple #[.agg #[.int .i64 x,.int .i64 y],.bool false]))):=by
 obtain⟨h1,h2⟩:=h;refine⟨h1,?_⟩;cases r with
 | some q =>
  obtain⟨a,c⟩:=q;exact .inl ⟨a,c,rfl,h2⟩
 | none =>
  obtain⟨x,y,g⟩:=h2;exact .inr ⟨rfl,x,y,g⟩
theorem xA {w':World}{r:Value}(h:zK most w own p d)(hb:Below w.heap.size w w'):xj most own p d r w (.returned r) w':=⟨rfl,own,h.below hb,qB.of_below hb,ub.refl _ _⟩
theorem qkg{t:Bt}{l:List Wr}(h:bJ t=some l):l.length≤60:=by
 unfold bJ at h;cases hn:rdNum t with
 | none=>rw[hn]at h;cases h
 | some q =>
  obtain⟨n,r⟩:=q;rw[hn]at h;dsimp only at h;split at h
  ·cases h
  ·rename_i hh;cases hr:iL n r with
   | none=>rw[hr]at h;cases h
   | some q2 =>
    obtain⟨l2,r2⟩:=q2;have hl:=n9 n r l2 r2 hr;rw[hr]at h;cases r2 with
    | nil =>
     simp at h;subst h;omega
    | cons=>cases h
theorem qkh{s:qE}{a c:Nat}{l:List Wr}(h:aa s a c=some l):l.length≤60:=by
 unfold aa at h;cases hu:unB (zY s a c)with
 | none=>rw[hu]at h;cases h
 | some t=>rw[hu]at h;exact qkg h
theorem sJ (HR:qot)(h:zK most w own p d)(hn:145<d.n)(ht:xY w)(hm:d.more.length+100≤most)(jc:most≤100000) :
    Calls prog 50 #[.pointer (some ⟨p,0,none⟩)] w (xj most own p (xn d).2 (.int .i64 (xn d).1) w):=by
 have HD:=QH h;have HP:=QH (iX h);have hpl:p<w.heap.size:=by obtain⟨_,_,_,hd⟩:=h;exact hd.1.lt
 have HT:=QH ht;have hg:=ht.1;have HH:=QH HR;clear ht HR h;obtain⟨R,hR⟩:=QE (xn d);rw[hR];unfold xn at hR;cases xc:d.on with
 | false =>
  rw[xc]at HP;rw[if_pos xc]at hR;subst hR;go_enter func50,ntmps50;go_wp2_with (go_at_call 116;refine HP.out.mono ?_;rintro e w' ⟨rfl,rfl⟩);go_ret;exact xA HD.out (Below.refl _ _)
 | true =>
  rw[xc]at HP;rw[if_neg (by rw[xc];simp)]at hR;have cQ:=QH hR;have HON:=QH xc;clear hR xc;go_enter func50,ntmps50;go_wp2_with (go_at_call 116;refine HP.out.mono ?_;rintro e w' ⟨rfl,rfl⟩);refine(HH.out most w own p d HD.out HON.out (by omega)).mono ?_;intro e W1 yQ;obtain⟨b1,⟨a,c,hq,rfl⟩|⟨hq,x,y,rfl⟩⟩:=aC yQ
  ·have vd:=cQ.out;rw[hq]at vd;dsimp only at vd;obtain⟨ha,hc,_⟩:=uw hq;have qT:=QH b1;clear b1 yQ hq cQ;by_cases hc0:c=0
   ·subst hc0;rw[if_pos rfl]at vd;subst vd;go_wp2_with fail;go_ret;exact xA HD.out (zR qT.out _)
   ·rw[if_neg hc0]at vd;have zcS:((c:Int) == 0)=false:=by simpa using hc0
    have hkb:qd (W1.alloc (.cells #[.int .i64 (a:Int),.int .i64 (c:Int)] 188)) W1.heap.size _ _:=qd.new W1 _ _;have qC:=QH (zR qT.out (.cells #[.int .i64 (a:Int),.int .i64 (c:Int)] 188));have cQ:=QH vd;clear vd hkb;go_wp2_with fail;refine(qgy (HD.out.below qC.out) HON.out hn a c ha hc (HT.out.below qC.out hg)).mono ?_;intro e W3 yQ;obtain⟨b3,⟨l,A,c3,hq,rfl,hw⟩|⟨hq,A,n3,c3,rfl⟩⟩:=pF yQ
    ·have vd:=cQ.out;rw[hq]at vd;dsimp only at vd;have qw3:=qkh hq;have zB:=QH (qa qC.out b3);have HW:=QH hw;clear yQ b3 hw hq cQ;have rO:=QH (qd7 (HD.out.below zB.out) A c3 l HW.out (by omega));cases hps:vQ d.n l with
     | false =>
      rw[hps]at rO vd;rw[if_pos rfl]at vd;subst vd;go_wp2_with (go_at_call 119;refine rO.out.mono ?_;rintro e w' ⟨rfl,b4⟩);go_wp2_with fail;go_ret;exact xA HD.out (qa zB.out b4)
     | true =>
      rw[hps]at rO vd;rw[if_neg (by simp)]at vd;have cQ:=QH vd;clear vd;go_wp2_with (go_at_call 119;refine rO.out.mono ?_);rintro e W4 ⟨rfl,b4⟩;have zT:=QH (qa zB.out b4);have HW4:=QH (HW.out.below b4 (Nat.le_refl _));clear b4 HW;go_wp2_with fail;have HBS:=QH (qd8 (c:=c3) HW4.out);have jJ:=QH (zR zT.out (.cells #[.slice A l.length c3] 89));refine(aA p _ 1 [l] _ (Nat.lt_of_lt_of_le hpl jJ.out.size) HBS.out (by simp) (fun m tr=>by simp at tr;subst tr;omega)).mono ?_;rintro e W5 ⟨v,rfl,hgg⟩;have HG:=QH hgg;clear hgg;go_wp2_with fail;refine(iY (HD.out.below jJ.out) HG.out (by simp[qH,kd];omega) jc).mono ?_;rintro e W6 yQ;have HPO:=QH (xj.from yQ jJ.out HD.out.low);obtain⟨rfl,_⟩:=yQ;rw[cQ.out]at HPO ⊢;go_wp2_with fail;go_ret;exact HPO.out
    ·have vd:=cQ.out;rw[hq]at vd;dsimp only at vd;subst vd;have zB:=QH (qa qC.out b3);clear yQ b3 hq cQ;go_wp2_with fail;go_ret;exact xA HD.out zB.out
  ·have vd:=cQ.out;rw[hq]at vd;dsimp only at vd;subst vd;have qT:=QH b1;clear b1 yQ hq cQ;go_wp2_with fail;go_ret;exact xA HD.out (zR qT.out _)
end
end Go.Proofs.YtdpbdkacngaemaaGreatDoor.jr
namespace Go.Proofs.YtdpbdkacngaemaaGreatDoor.vt.pg
open _root_.Go.Proofs.Tryz Go Go.RowKit Go.Sort ib mt im sp
theorem qsk:prog.follows .mixedOrders=true:=by kernel_rfl
theorem qb7{N:Nat}{t:Tg}{d:DD}(h:jr.JJ N t d)(k:Int)(h0:145≤k)(h1:k<(N:Int)):d.read k=(t k,0):=by
 have hn:d.n=N:=h.rb.1;have qnn:d.now=d.base:=by unfold dk.DD.now;rw[h.more];rfl
 unfold dk.DD.read;have:d.has k=true:=by
  unfold dk.DD.has;rw[hn];simp;omega
 rw[if_neg (by rw[h.on];simp),if_neg (by rw[this];simp),qnn];exact congrArg (fun x=>(x,(0:Int))) (h.is k h0)
theorem iZ {w:World}{o:Nat→Prop}{pd:Nat}{d:DD}(h:dk.zK 1000 w o pd d)(k:Int):Calls prog 122 #[pt pd,.int .i64 k] w (dk.wu (d.read k) w):=by
 obtain⟨h0,m,v,h1⟩:=h;unfold dk.DD.read;by_cases xc:d.on=false
 ·rw[if_pos xc];exact dk.qcK h1 xc k
 ·rw[if_neg xc];by_cases hh:d.has k=false
  ·rw[if_pos hh];exact dk.qcL h1 (by simpa using xc) k hh
  ·rw[if_neg hh];exact dk.qhI h0 h1 (by simpa using xc) k (by simpa using hh)
theorem pG {w:World}{o:Nat→Prop}{pd:Nat}{d:DD}(h:dk.zK 1000 w o pd d):Calls prog 43 #[pt pd] w fun e w'=>e=.returned (.int .i64 (d.n:Int))∧w=w':=by
 obtain⟨h0,m,v,h1⟩:=h;exact dk.qaV h1
theorem qsl{w:World}{o:Nat→Prop}{pd:Nat}{d:DD}(h:dk.zK 1000 w o pd d):Calls prog 39 #[pt pd] w fun e w'=>e=.returned (.bool d.on)∧w=w':=by
 obtain⟨h0,m,v,h1⟩:=h;exact dk.qf8 h1
section
variable {o1 o2:Nat→Prop} {w:World} {v pd N:Nat} {d:DD} {m:Mt} {l:Bool} {t:Tg}
theorem qou(h:VP ak w o1 o2 v pd d m l):v<w.heap.size∧w.cell? ⟨v,9,none⟩=some (pt pd)∧w.cell? ⟨v,10,none⟩=some (.bool l):=by
 obtain⟨A0,A1,A2,c0,c1,c2,h1⟩:=h.is;exact⟨h1.cells.lt,h1.cells.k9,h1.cells.cT⟩
theorem qki(h:VP ak w o1 o2 v pd d m l)(hJ:jr.JJ N t d)(x:Wr)(h0:145≤x.1)(h1:x.1<(N:Int)):Calls prog 141 #[pt v,.agg #[.int .i64 x.1,.string (str x.2)]] w (uE (decide (t x.1=x.2)) w):=by
 obtain⟨xk,xs⟩:=x;dsimp only at h0 h1 ⊢;have hb1:=(Below.refl _ w).alloc (Nat.le_refl _) (.cells #[.int .i64 xk,.string (str xs)] 105);have zX:=qd.new w 105 #[.int .i64 xk,.string (str xs)];obtain⟨W,hW⟩:=QE (w.alloc (.cells #[.int .i64 xk,.string (str xs)] 105));rw[hW]at hb1 zX;have h2:=ze h hb1;have bz:=qb7 hJ xk h0 h1;obtain⟨q1,q2,q3⟩:=qou h2;have p0:=zX.cell 0;have p1:=zX.cell 1;have hpl:=zX.lt;simp only[QA,QB,QC]at p0 p1;have e0:=fun d os=>cell_regrown p0 d os;have e1:=fun d os=>cell_regrown p1 d os;have e2:=fun d os=>cell_regrown q2 d os;have cR:∀b os,Calls prog 122 #[pt pd,.int .i64 xk] (grow (redrawn W b) os) fun e w''=>e=.returned (.tuple #[.string (str (t xk)),.int .i64 0])∧∃q:Regrown,w''=grow (redrawn W q.d) q.os :=
  fun b os=>by
   have:=iZ (ze h2 (below_regrown W b os)).dk xk;rw[bz]at this;exact Calls.regrown_of this
 have hq:((str (t xk)).toList == (str xs).toList)=decide (t xk=xs):=by
  have h:=qeI (str (t xk)) xs;rw[zC]at h;exact h
 have qT:=QH hb1;obtain⟨r,hr⟩:=QE (decide (t xk=xs));rw[hr]at hq ⊢;obtain⟨S1,hS1⟩:=QE (str (t xk));obtain⟨S2,hS2⟩:=QE (str xs);rw[hS1]at hq cR;rw[hS2]at hq hW p1 e1 ⊢;have HK:=QH p1;have HPL:=QH hpl;clear h hb1 zX h2 bz hr hS1 hS2 p0 p1 q2 q3;go_enter func141,ntmps141;go_upto_region 1 with fail;try rw[hW]
 clear hW;refine wp_region_quiet_below qsk (by kernel_rfl) ?_;repeat (any_goals (first|go_big_quiet_step (first|exact cR _ _)|quiet_step (first|exact cR _ _)))
 refine wpQuiet_nil ?_;intro _ hw';obtain⟨⟨dq,osq⟩,hw''⟩:=hw';subst hw'';have p1:=e1 dq osq;have hb:=below_regrown W dq osq;have qC:=QH (qa qT.out hb);have hpl:=Nat.lt_of_lt_of_le HPL.out hb.size;clear hb e0 e1 e2 cR qT HK HPL q1;generalize grow (redrawn W dq) osq=W3 at *;cases r;all_goals
  go_wp2_with fail;go_ret;exact⟨rfl,qC.out⟩
theorem qdA(h:VP ak w o1 o2 v pd d m false)(xc:d.on=true):Calls prog 60 #[pt v] w fun e w'=>e=.returned (.int .i64 0)∧w=w':=by
 obtain⟨q1,q2,q3⟩:=qou h;have HO:=QH (qsl h.dk);rw[xc]at HO;clear h;go_enter func60,ntmps60;go_wp2_with fail;refine HO.out.mono ?_;rintro e W1 ⟨rfl,rfl⟩;go_wp2_with fail;go_ret;exact⟨rfl,rfl⟩
theorem q6e(h:VP ak w o1 o2 v pd d m l):VP ak (w.setCell ⟨v,10,none⟩ (.bool true)) o1 o2 v pd d m true∧ib.qB (fun j=>j=v) w (w.setCell ⟨v,10,none⟩ (.bool true)):=by
 obtain⟨A0,A1,A2,c0,c1,c2,h1⟩:=h.is;have hb:=qrK w v 10 (.bool true);refine⟨⟨⟨A0,A1,A2,c0,c1,c2,?_⟩,h.dk.keep hb.size (fun j hj=>hb.block j (iT h.dk j hj) (fun e=>?_)),h.dj⟩,hb⟩
 ·refine⟨by have:=h1.blk.qo 10 (.bool true);simpa[vC]using this,h1.tab.stay (ar fun j hj=>hj.2),h1.sz,?_,h1.own,fun j hj=>Nat.lt_of_lt_of_le (h1.low j hj) hb.size,h1.gv,h1.tk⟩;exact wH h1.ct hb.size (qy _ _ _ _ _ h1.gv)
 ·have:=h.dj v (.inl h1.own);rw[e]at hj;exact this hj
end
theorem qov(l:List UInt8)(c:UInt8):Lib.trimB l c=[] ↔ ∀b∈l,b=c:=by
 have key:∀L:List UInt8,L.dropWhile (· == c)=[] ↔ ∀b∈L,b=c:=by
  intro L
  induction L with
  | nil=>simp
  | cons x r ih =>
   by_cases hx:x=c
   ·subst hx;simp[List.dropWhile_cons,ih]
   ·have:(x == c)=false:=by simpa using hx
    rw[List.dropWhile_cons,this];simp[hx]
 have q6f:∀L:List UInt8,(∀b∈L.dropWhile (· == c),b=c)→∀b∈L,b=c:=by
  intro L
  induction L with
  | nil=>simp
  | cons x r ih =>
   intro h;by_cases hx:x=c
   ·subst hx;simp only[List.dropWhile_cons,BEq.rfl,if_true]at h;intro b hb;rcases List.mem_cons.1 hb with rfl|hb
    ·rfl
    ·exact ih h b hb
   ·have:(x == c)=false:=by simpa using hx
    rw[List.dropWhile_cons,this]at h;exact fun b hb=>h b hb
 unfold Lib.trimB Lib.trimLeftB Lib.trimRightB;rw[key];constructor
 ·intro h b hb;exact q6f l.reverse (fun b hb=>h b (by simpa using hb)) b (by simpa using hb)
 ·intro h b hb;have hb:b∈l.reverse.dropWhile (· == c):=by simpa using hb
  exact h b (by simpa using(List.dropWhile_suffix (fun x=>x == c)).mem hb)
theorem qw5(s:Bt)(hs:s.length=32):s=zb ↔ ∀b∈s,b=0:=by
 constructor
 ·rintro rfl b hb;exact List.eq_of_mem_replicate hb
 ·intro h;exact List.eq_replicate_iff.2 ⟨hs,h⟩
theorem mf (s:Bt)(hs:s.length=32)(w:World):Calls prog 136 #[.string (str s)] w (uE (decide (s=zb)) w):=by
 have ht:=Tryz.strings_Trim_one (str s) 0 (by decide) w (by rw[qQ];omega);have hd:(⟨(Lib.trimB (str s).data.toList 0).toArray⟩:ByteArray).toList.isEmpty=decide (s=zb):=by
  have h:=qeI (⟨(Lib.trimB (str s).data.toList 0).toArray⟩:ByteArray) [];have h0:(str []).toList=[]:=by first|rfl|(simp[str];done)|decide +kernel
  have e:∀L:List UInt8,L.isEmpty=(L == []):=fun L=>by cases L <;> rfl
  rw[h0]at h;rw[e,h,Bool.eq_iff_iff];simp only[decide_eq_true_eq];rw[qw5 s hs,← qov];show Lib.trimB (bl (str s)) 0=[]↔_;rw[zC]
 have HT:=QH ht;obtain⟨r,hr⟩:=QE (decide (s=zb));rw[hr]at hd ⊢;obtain⟨S,hS⟩:=QE (⟨(Lib.trimB (str s).data.toList 0).toArray⟩:ByteArray);rw[hS]at HT hd;clear ht hS hr;go_enter func136,ntmps136;go_wp2_with fail;refine HT.out.mono ?_;rintro e W1 ⟨rfl,hw⟩;have HB:Hid (Below w.heap.size w W1):=by
  rcases hw with rfl|rfl
  ·exact Below.refl _ _
  ·exact(Below.refl _ _).drew
 clear hw HT;go_wp2_with fail;go_ret;exact⟨rfl,HB.out⟩
end Go.Proofs.YtdpbdkacngaemaaGreatDoor.vt.pg
namespace Go.Proofs.YtdpbdkacngaemaaGreatDoor.vt.pg
open _root_.Go.Proofs.Tryz Go Go.RowKit ib mt im sp
theorem qw6:(prog.info? 9).map (fun i=>(i.zero,i.size,i.bytes))=some (some (.string ByteArray.empty),1,16):=by kernel_rfl
def TxR (w:World)(ps:List Bt)(v i:Value)(wr:World):Prop:=∃k:Nat,k<ps.length∧i=.int .i64 (k:Int)∧zQ wr w.heap.size v (ps.take k)∧Below w.heap.size w wr
theorem qkj(u:Bt)(hu:u.length≤8192)(k:Nat):((qN u).take k).flatten.length≤100000:=by
 have h2:(qN u).flatten=((qN u).take k).flatten++((qN u).drop k).flatten:=by rw[← List.flatten_append,List.take_append_drop]
 have h3:=congrArg List.length h2;rw[yX,jo,List.length_append]at h3;unfold nsec at h3;omega
theorem qg1{o:Nat→Prop}{w:World}{pd N:Nat}{d:DD}{t:Tg}{u:Bt}(h:dk.zK 1000 w o pd d)(ik:xY w)(hJ:jr.JJ N t d)(hN:193≤N)(hu:u.length≤8192)(hn:(qN u).length≤48)(home:∀i (h:i<(qN u).length),t ((145+i:Nat):Int)=(qN u)[i]) :
    Calls prog 51 #[pt pd] w (quj (str u) w):=by
 obtain⟨i0,hi,hz0,hz1,hz2⟩:=info_parts qw6;have q0Z:0<(qN u).length:=by rw[yf];exact eT _
 have q1a:=QH q0Z;have HD:=QH h;have HT:=QH ik;have HJ:=QH hJ;have HN:=QH hn;have HNN:=QH hN;have HU:=QH hu;have q1b:=QH home;have jZ:=QH (fun k (hk:k<(qN u).length) v=>qdh u v hu k hk);have HFL:=QH (qkj u hu);have HIT:Hid (vP (qN u) u):=⟨hu,rfl⟩;obtain⟨ps,hps⟩:=QE (qN u);rw[hps]at q1a HN q1b jZ HFL HIT;clear h ik hJ hn hN home q0Z hps hu;go_enter func51,ntmps51;go_wp2_with fail;go_loopw [4,10] (fun v i wr=>TxR w ps v i wr) (fun _ i _=>ps.length-(intOf i).toNat);case atStart=>exact⟨0,q1a.out,rfl,World.ownsRow_nil _ _ _ _,Below.refl _ _⟩
 case round =>
  obtain⟨k,hk,rfl,ho,hB⟩:=hrel;have HO:=QH ho;have HB:=QH hB;have h48:(k:Int)<48:=by have:=HN.out;omega
  have bz:=iZ (HD.out.below hB) ((145:Int)+(k:Int));rw[qb7 HJ.out ((145:Int)+(k:Int)) (by omega) (by have:=HNN.out;omega)]at bz;have ht:t ((145:Int)+(k:Int))=ps[k]:=by
   have:=q1b.out k hk;rw[← this]
   congr 1
  rw[ht]at bz;have dy:=QH bz;have jC:Hid (ps.take (k+1)=ps.take k++[ps[k]]):=List.take_succ_eq_append_getElem hk;have gK:Hid ((ps.take k).length=k):=by unfold Hid;rw[List.length_take];omega
  obtain⟨x,hx⟩:=QE (ps[k]);rw[hx]at dy jC;have HK:=QH hk;clear ho hB bz ht hx hk;go_wp2_with fail;refine dy.out.mono ?_;rintro e W2 ⟨rfl,hb2⟩;have qC:=QH (qa HB.out hb2);have ue:=QH (bh HO.out hb2);clear hb2 dy HO;have hby:=(Below.refl _ W2).alloc (Nat.le_refl _) (.cells #[.string (str x)] 9);have HO3:Hid (World.ownsRow (W2.alloc (.cells #[.string (str x)] 9)) w.heap.size 9 1 _ (ps.take k).length (yx (ps.take k))):=zf ue.out (fun j hj=>hby.block j (ue.out.lt j hj).2);have zB:=QH (qa qC.out hby);have au:Hid (∀j u,([.string (str x)]:List Value)[j]?=some u→(W2.alloc (.cells #[.string (str x)] 9)).cell? ((⟨W2.heap.size,0,none⟩:Addr).add j)=some u):=fun j u hu=>by
   rw[addr_add,Nat.zero_add,(qd.new W2 9 #[.string (str x)]).cell j];simpa using hu
  have e1:∀u∈([.string (str x)]:List Value),u.oneCell'=true:=by intro u hu;simp at hu;subst hu;rfl
  have E1:=QH e1;have E2:Hid ((ps.take k).length+1≤maxLen):=by unfold Hid;rw[gK.out];unfold maxLen;omega
  have E3:Hid (((ps.take k).length+1)*16≤140737488355328):=by unfold Hid;rw[gK.out];omega
  obtain⟨Lw,hLw⟩:=QE (ps.take k);rw[hLw]at HO3 jC E2 E3 gK;clear hby e1 hLw ue;go_wp2_with (at_builtin;refine ya rfl (.tmp 23) (.tmp 25) 57 rfl w.heap.size 9 i0 (.string ByteArray.empty) 1 16 underlying57 hi hz0 hz1 hz2 rfl (by decide) _ _ _ rfl HO3.out ⟨W2.heap.size,0,none⟩ 1 1 [.string (str x)] rfl rfl au.out E1.out E2.out E3.out zB.out.size ?_);intro v' w1 hown hgrow _;have zT:Hid (Below w.heap.size w w1):=zB.out.grown hgrow zB.out.size (fun j hj=>(HO3.out.lt j hj).1);have HO4:Hid (zQ w1 w.heap.size v' (ps.take (k+1))):=by
   rw[jC.out];refine qag gK.out ?_;rw[gK.out]at hown;exact hown
  obtain⟨A4,c4,hv4,hs4⟩:=HO4.out.view;subst hv4;have mQ:=QH hs4.2.2.1;have ik:=yP HT.out zT.out (xI HT.out);have dv:=QH ik;have HL4:Hid ((ps.take (k+1)).length=k+1):=by unfold Hid;rw[List.length_take];have:=HK.out;omega
  clear hown hgrow hs4 ik HO3 au E1 E2 E3;by_cases bC:k+1<ps.length
  ·have hup:=lV A4 c4 (ps.take (k+1)) w1 mQ.out (by rw[HL4.out];omega) (HFL.out (k+1)) (fun v=>jZ.out (k+1) bC v) dv.out;have HUP:=QH hup;have rM:=QH bC;have hfo:((4:Int) == 0)=false:=rfl;clear hup bC;generalize (ps.take (k+1)).length=q at *;go_wp2_with fail;refine HUP.out.mono ?_;rintro e W5 ⟨rfl,hb5⟩;have jJ:=QH (qa zT.out hb5);have HO5:=QH (bh HO4.out hb5);clear hb5 HUP;go_wp2_with fail;go_roundw;case rel=>exact⟨k+1,rM.out,by go_num,HO5.out,jJ.out⟩
   case measure=>simp[intOf];have:=rM.out;omega
  ·have zX:k+1=ps.length:=by have:=HK.out;omega
   have iH:ps.take (k+1)=ps:=by rw[zX];exact List.take_length
   rw[iH]at mQ;have hup:=lU A4 c4 ps u w1 mQ.out HIT.out dv.out;have lS:(ps.take (k+1)).length=ps.length:=by rw[iH]
   rw[← lS]at hup;have HUP:=QH hup;clear hup bC zX iH lS HO4;generalize (ps.take (k+1)).length=q at *;go_wp2_with fail;refine HUP.out.mono ?_;rintro e W5 ⟨rfl,hb5⟩;have jJ:=QH (qa zT.out hb5);clear hb5 HUP;go_wp2_with fail;go_ret2;exact⟨rfl,jJ.out⟩
end Go.Proofs.YtdpbdkacngaemaaGreatDoor.vt.pg
namespace Go.Proofs.YtdpbdkacngaemaaGreatDoor.sp
open _root_.Go.Proofs.Tryz Go Go.RowKit ib
def zF (cs:List Int):Array Value:=(cs.map (Value.int .i64)).toArray
theorem bj (cs:List Int)(i:Nat)(h:i<cs.length):(zF cs)[i]?=some (.int .i64 cs[i]):=by simp[zF,h]
theorem pH (cs:List Int)(i:Nat)(v:Int):(zF cs).setIfInBounds i (.int .i64 v)=zF (cs.set i v):=by
 unfold zF;rw[List.setIfInBounds_toArray,List.map_set]
theorem pI (n:Nat):madeCells #[.int .i64 0] n=zF (List.replicate n 0):=by
 apply Array.ext
 ·simp[size_madeCells,zF]
 ·intro j h1 h2;have e:(zF (List.replicate n 0))[j]?=some (.int .i64 0):=by
   have hj:j<n:=by simpa[zF]using h2
   rw[bj _ _ (by simpa using hj),List.getElem_replicate]
  rw[Array.getElem?_eq_getElem h2]at e;rw[Option.some.inj e];simp[madeCells,Nat.mod_one]
theorem wrap_i64(x:Int):qG (wrap64 x):=by unfold qG wrap64;omega
theorem qow{cs:List Int}(h:∀z∈cs,qG z)(k:Nat):∀z∈bump cs k,qG z:=by
 intro z hz;unfold bump at hz;rcases List.mem_or_eq_of_mem_set hz with h1|h1
 ·exact h z h1
 ·rw[h1];exact wrap_i64 _
theorem fK {n:Int}:∀ {l cs cs':List Int},kV n cs l=some cs'→(∀z∈cs,qG z)→∀z∈cs',qG z
 | [],cs,cs',h,hz=>by
  simp only[kV,Option.some.injEq]at h;rw[← h];exact hz
 | k::r,cs,cs',h,hz=>by
  rw[aZ]at h;split at h
  ·exact fK h hz
  ·split at h
   ·cases h
   ·exact fK h (qow hz _)
theorem qan(n:Nat):∀z∈List.replicate n (0:Int),qG z:=by
 intro z hz;rw[List.eq_of_mem_replicate hz];unfold qG;omega
theorem qd.ints{w:World}{g:Nat}{cs:List Int}(h:qd w g 3 (zF cs))(hz:∀z∈cs,qG z):qL w (some ⟨g,0,none⟩) cs:=fun i hi =>
 ⟨g,0,rfl,h.lt,by rw[Nat.zero_add,h.cell i];exact bj cs i hi,hz _ (List.getElem_mem hi)⟩
def okL (r:List Int × Int)(w:World)(e:Ending)(w':World):Prop :=
 ∃A cc,e=.returned (.tuple #[.slice A r.1.length cc,.int .i64 r.2])∧qL w' A r.1∧Below w.heap.size w w'∧(∀b o,A=some ⟨b,o,none⟩→w.heap.size≤b∧b<w'.heap.size)∧r.1.length≤cc
theorem fL {c:Int}{w w':World}(h:Below w.heap.size w w'):okL ([],c) w (.returned (.tuple #[.slice none 0 0,.int .i64 c])) w' :=
 ⟨none,0,rfl,qL.nil _ _,h,(fun _ _ h=>by cases h),Nat.le_refl _⟩
theorem qkk(n:Int)(h0:0≤n)(h:n≤1024)(W:World):(Instr.makeSlice 80 (.int .i64 n) (.int .i64 n)).run prog W=.ok (.slice (some ⟨W.heap.size,0,none⟩) n.toNat n.toNat) (W.alloc (.cells (zF (List.replicate n.toNat 0)) 3)):=by
 obtain⟨i0,hi,hz0,hz1,hz2⟩:=info_parts wP;have hmk:=run_make (P:=prog) W 80 3 i0 (.int .i64 0) underlying80 hi hz0 .i64 .i64 n n h0 (Int.le_refl _) (by rw[hz2];omega) (by omega);rw[hz1]at hmk;rw[← pI];simpa[Value.cells]using hmk
def qsm:Prop:=∀(A:Option Addr) (c:Nat) (zZ:List (List Int)) (n:Int) (w:World),fx w A zZ→zZ.length≤9223372036854775807→qG n →
 Calls prog 137 #[.slice A zZ.length c,.int .i64 n] w (okL (yZ zZ n) w)
def q1e:Prop:=∀(A:Option Addr) (c:Nat) (cs:List Int) (n:Int) (w:World),qL w A cs→cs.length*8≤140737488355328→qG n →
 Calls prog 139 #[.slice A cs.length c,.int .i64 n] w (okL (jq cs n) w)
def okI (r:Int)(w:World)(e:Ending)(w':World):Prop:=e=.returned (.int .i64 r)∧Below w.heap.size w w'
def q1f:Prop:=∀(A:Option Addr) (c:Nat) (cs:List Int) (w:World),qL w A cs→cs.length≤9223372036854775807 →
 Calls prog 221 #[.slice A cs.length c] w (okI (yo cs:Int) w)
theorem qL.some{w:World}{A:Option Addr}{cs:List Int}(h:qL w A cs)(h0:0<cs.length):∃b o,A=some ⟨b,o,none⟩∧b<w.heap.size:=by
 obtain⟨b,o,h1,h2,_⟩:=h 0 h0;exact⟨b,o,h1,h2⟩
end Go.Proofs.YtdpbdkacngaemaaGreatDoor.sp
namespace Go.Proofs.YtdpbdkacngaemaaGreatDoor.sp
open _root_.Go.Proofs.Tryz Go Go.RowKit Go.Shelf ib
attribute [local go_sem] Oper.semAt_some
abbrev I64:={ x:Int // qG x }
abbrev Plain(L:List (List I64)):List (List Int):=L.map fun l=>l.map fun x=>x.1
theorem qox:∀(zZ:List (List Int)),(∀l∈zZ,∀z∈l,qG z)→∃L,Plain L=zZ
 | [],_=>⟨[],rfl⟩
 | l::r,h=>by
  obtain⟨L,hL⟩:=qox r (fun l' hl'=>h l' (List.mem_cons_of_mem _ hl'));obtain⟨l',hl'⟩:∃l':List I64,l'.map (fun x=>x.1)=l:=⟨l.attachWith qG (h l (by simp)),by simp[List.attachWith,List.map_pmap]⟩;refine⟨l'::L,?_⟩;show l'.map (fun x=>x.1)::Plain L=_;rw[hL,hl']
theorem pJ {α:Type}(zZ:List (List α))(k:Nat)(h:k<zZ.length):(zZ.take (k+1)).flatten=(zZ.take k).flatten++zZ[k]:=by
 rw[List.take_succ_eq_append_getElem h,List.flatten_append];simp
theorem qoy{α:Type}(zZ:List (List α))(k:Nat)(h:k<zZ.length):(zZ.take k).flatten++zZ[k] <+: zZ.flatten:=by
 rw[← pJ zZ k h];refine⟨(zZ.drop (k+1)).flatten,?_⟩;rw[← List.flatten_append,List.take_append_drop]
theorem qkm{α:Type}(zZ:List (List α))(k:Nat)(h:k<zZ.length)(j:Nat)(hj:j<zZ[k].length):(zZ.take k).flatten++zZ[k].take j++[zZ[k][j]] <+: zZ.flatten:=by
 refine List.IsPrefix.trans ?_ (qoy zZ k h);rw[List.append_assoc,← List.take_succ_eq_append_getElem hj];exact(List.prefix_append_right_inj _).2 (List.take_prefix _ _)
def qof (n₀:Nat)(L:List (List I64))(J:List I64→World→Prop)(W:World)(i:Value)(wr:World):Prop :=
 ∃k:Nat,k≤L.length∧i=.int .i64 (k:Int)∧J (L.take k).flatten wr∧Below n₀ W wr
def qwu (n₀:Nat)(pre l:List I64)(J:List I64→World→Prop)(W:World)(i:Value)(wr:World):Prop :=
 ∃j:Nat,j≤l.length∧i=.int .i64 (j:Int)∧J (pre++l.take j) wr∧Below n₀ W wr
theorem qg2(F:Fence)(nn:Nat)(hF:F.fn 268)(hro:F.round=none)(hn:1≤nn)(l Bs:Nat)(A:Option Addr)(c:Nat)(L:List (List I64))(w0:World)(J Jx:List I64→World→Prop)
    (hA:fx w0 A (Plain L)) (hL:L.length≤9223372036854775807)
    (hY:∀pre x W,J pre W→pre.length<L.flatten.length→YieldAt F (nn-1) prog l #[.int .i64 x.1] W fun e W' =>
     (e=.returned (.bool true)∧J (pre++[x]) W'∧Below w0.heap.size W W')∨(e=.returned (.bool false)∧Jx (pre++[x]) W'))
    (W:World) (hb:Below w0.heap.size w0 W) (hBs:W.cell? ⟨Bs,0,none⟩=some (.slice A L.length c)) (h0:J [] W) :
    CallsIn F nn prog 268 #[.func (.yield l) #[] #[],.pointer (some ⟨Bs,0,none⟩)] W fun e W'=>(∃v,e=.returned v) ∧
     ((∃ys,ys=L.flatten∧J ys W')∨(∃pre,pre <+: L.flatten∧Jx pre W')):=by
 have HA:=QH hA;have HY:=QH hY;have HB:=QH hb;have HJ:=QH h0;clear hA hY hb h0;refine callsIn_of_wp func268 rfl hF ?_ hro;simp only[ntmps268,List.size_toArray,List.length_cons,List.length_nil,Nat.reduceAdd,Nat.reduceSub,Array.replicate_succ,Array.replicate_zero,List.push_toArray,List.append_toArray,List.nil_append,List.cons_append]
 gi_wp2
 gi_loopw [9] (fun i wr=>qof w0.heap.size L J W i wr) (fun i _=>L.length-(intOf i).toNat)
 case atStart=>exact⟨0,Nat.zero_le _,rfl,HJ.out,Below.refl _ _⟩
 case round =>
  obtain⟨k,hk,rfl,hj,hkb⟩:=hrel;have HJK:=QH hj;have HKB:=QH hkb;clear hj hkb HJ;by_cases hlt:k<L.length
  ·have qw7:(k:Int)<(L.length:Int):=by omega
   have hft:=pJ L k hlt;have hpr:=qkm L k hlt;obtain⟨b,o,A1,c1,rfl,hbl,hc,hz,hzl⟩:=HA.out k (by rw[List.length_map];exact hlt);have ec:wr.cell? ⟨b,o+k,none⟩=some (.slice A1 ((Plain L)[k]'(by rw[List.length_map];exact hlt)).length c1):=by
    rw[HKB.out.cell (p:=⟨b,o+k,none⟩) hbl,HB.out.cell (p:=⟨b,o+k,none⟩) hbl];exact hc
   have lb:b<wr.heap.size:=Nat.lt_of_lt_of_le hbl (Nat.le_trans HB.out.size HKB.out.size);have HFT:=QH hft;have HPR:=QH hpr;have HZ:=QH hz;clear hft hpr hz hc;have hpk:(Plain L)[k]'(by rw[List.length_map];exact hlt)=L[k].map (fun x=>x.1):=List.getElem_map _;rw[hpk]at ec HZ hzl;rw[List.length_map]at ec hzl;clear hpk;generalize hzs:L[k]=zs at *;clear hzs
   gi_wp2
   gi_loopw [15] (fun i wr=>qwu w0.heap.size (L.take k).flatten zs J W i wr) (fun i _=>zs.length-(intOf i).toNat)
   case atStart=>exact⟨0,Nat.zero_le _,rfl,by rw[List.take_zero,List.append_nil];exact HJK.out,HKB.out⟩
   case round =>
    clear HJK HKB ec lb;obtain⟨j,hjl,rfl,hj,hkb⟩:=hrel;have HJK:=QH hj;have HKB:=QH hkb;clear hj hkb;by_cases hjt:j<zs.length
    ·have q6h:(j:Int)<(zs.length:Int):=by omega
     obtain⟨b1,o1,rfl,qw8,hc1,hz1⟩:=HZ.out j (by rw[List.length_map];exact hjt);rw[List.getElem_map]at hc1 hz1;have e1:wr.cell? ⟨b1,o1+j,none⟩=some (.int .i64 zs[j].1):=by
      rw[HKB.out.cell (p:=⟨b1,o1+j,none⟩) qw8,HB.out.cell (p:=⟨b1,o1+j,none⟩) qw8];exact hc1
     have l1:b1<wr.heap.size:=Nat.lt_of_lt_of_le qw8 (Nat.le_trans HB.out.size HKB.out.size);have hp:=HPR.out j hjt;have iH:zs.take (j+1)=zs.take j++[zs[j]]:=List.take_succ_eq_append_getElem hjt;have bE:=hp.length_le;rw[List.length_append]at bE;obtain⟨fn,tmps,assign,body,hy,hR⟩:=HY.out _ zs[j] wr HJK.out (by simp only[List.length_cons,List.length_nil]at bE;omega);have HP:=QH hp;have ua:=QH iH;have HR:=QH hR;clear hp iH hR hc1 hz1 bE;generalize zs[j]=x at *
     gi_wp2
     refine HR.out.mono ?_;rintro e W3 (⟨rfl,hJ3,hk3⟩|⟨rfl,hJx3⟩)
     ·have HJ3:=QH hJ3;have su:=QH (HKB.out.trans hk3);clear hJ3 hk3 HR
      gi_wp2
      refine⟨⟨j+1,by omega,by go_num,by rw[ua.out,← List.append_assoc];exact HJ3.out,su.out⟩,?_⟩;simp[intOf];omega
     ·gi_wp2
      refine bodyPost_ret (results_none rfl _ _ _) rfl ?_;exact⟨⟨_,rfl⟩,.inr ⟨_,HP.out,hJx3⟩⟩
    ·have q6h:¬ (j:Int)<(zs.length:Int):=by omega
     have hj:=HJK.out;rw[List.take_of_length_le (l:=zs) (by omega),← HFT.out]at hj;have HJ2:=QH hj;clear hj
     gi_wp2
     refine⟨⟨k+1,by omega,by go_num,HJ2.out,HKB.out⟩,?_⟩;simp[intOf];omega
  ·have qw7:¬ (k:Int)<(L.length:Int):=by omega
   have hj:=HJK.out;rw[List.take_of_length_le (by omega)]at hj;have HJ2:=QH hj;clear hj
   gi_wp2
   go_end0
   exact⟨⟨_,rfl⟩,.inl HJ2.out⟩
theorem qkn(F:Fence)(n:Nat)(hF:F.fn 220)(hro:F.round=none)(a:Option Addr)(len cap:Nat)(w:World) :
    CallsIn F n prog 220 #[.slice a len cap] w fun e w'=>e=.returned (.func (.func 268) #[] #[.pointer (some ⟨w.heap.size,0,none⟩)])∧w'=w.alloc (.cells #[.slice a len cap] 218):=by
 refine callsIn_of_wp func220 rfl hF ?_ hro;simp only[ntmps220,List.size_toArray,List.length_cons,List.length_nil,Nat.reduceAdd,Nat.reduceSub,Array.replicate_succ,Array.replicate_zero,List.push_toArray,List.append_toArray,List.nil_append,List.cons_append]
 gi_wp2
 go_ret;exact⟨rfl,rfl⟩
theorem qb8(F:Fence)(nn:Nat)(hF:F.fn 268)(hro:F.round=none)(hn:1≤nn)(Bs:Nat)(A:Option Addr)(c:Nat)(L:List (List I64))(w0 w:World)
    (hA:fx w0 A (Plain L)) (hL:L.length≤9223372036854775807) (hb:Below w0.heap.size w0 w) (hBs:qd w Bs 218 #[.slice A L.length c]) :
    SeqStopsK F nn prog 268 #[.pointer (some ⟨Bs,0,none⟩)] (fun x:I64=>#[.int .i64 x.1]) (Below w0.heap.size) (fun ys=>ys=L.flatten) (fun pre=>pre <+: L.flatten) L.flatten.length w:=fun l J Jx W hW _ _ hY h0 =>
 qg2 F nn hF hro hn l Bs A c L w0 J Jx hA hL hY W (qa hb hW) ((hBs.below hW).cell 0) h0
end Go.Proofs.YtdpbdkacngaemaaGreatDoor.sp
namespace Go.Proofs.YtdpbdkacngaemaaGreatDoor.sp
open _root_.Go.Proofs.Tryz Go Go.RowKit ib
structure kY(w0 w:World)(B0 B1:Nat)(A:Option Addr)(c:Nat)(cs:List Int)(k:Nat):Prop where
 box:qd w B0 80 #[.slice A cs.length c]
 at_:qd w B1 3 #[.int .i64 (k:Int)]
 low:w0.heap.size≤B0
 lt:B0<B1
 k1:193≤k
 k2:k≤cs.length∨k=193
 below:Below w0.heap.size w0 w
def qo0 (B0 B1:Nat):Value:=.func (.func 269) #[] #[.pointer (some ⟨B1,0,none⟩),.pointer (some ⟨B0,0,none⟩)]
def qdB (w0:World)(B0 B1:Nat)(A:Option Addr)(c:Nat)(cs:List Int)(k:Nat)(w:World)(e:Ending)(w':World):Prop :=
 qB (fun j=>j=B1) w w' ∧
 ((∃t:Nat,t<cs.length∧za cs (t+1)=za cs k++[(t:Int)]∧e=.returned (.tuple #[.int .i64 (t:Int),.bool true])∧kY w0 w' B0 B1 A c cs (t+1)) ∨
  (yo cs=(za cs k).length∧e=.returned (.tuple #[.int .i64 0,.bool false])))
def cellOf (w:World)(B:Nat):Nat:=match w.cell? ⟨B,0,none⟩with
 | some (.int _ z)=>z.toNat
 | _=>0
theorem qao{w:World}{B k:Nat}{t:TypeId}(h:qd w B t #[.int .i64 (k:Int)]):cellOf w B=k:=by
 unfold cellOf;rw[h.cell 0];simp
theorem kY.move{w0 w w':World}{B0 B1:Nat}{A:Option Addr}{c:Nat}{cs:List Int}{k k':Nat}(h:kY w0 w B0 B1 A c cs k)(hb:qB (fun j=>j=B1) w w')(ha:qd w' B1 3 #[.int .i64 (k':Int)])(h1:193≤k')(h2:k'≤cs.length∨k'=193):kY w0 w' B0 B1 A c cs k' :=
 ⟨h.box.of_block (hb.block _ h.box.lt (Nat.ne_of_lt h.lt)),ha,h.low,h.lt,h1,h2,(h.below).trans (hb.below (fun i e=>by rw[e];have:=h.low;have:=h.lt;omega) h.below.size)⟩
def qsn (w0 w:World)(B0 B1:Nat)(A:Option Addr)(c:Nat)(cs:List Int)(k:Nat)(wr:World):Prop :=
 ∃j:Nat,kY w0 wr B0 B1 A c cs j∧za cs j=za cs k∧qB (fun i=>i=B1) w wr
theorem qko{cs:List Int}{k:Nat}(h:k≤cs.length∨k=193)(he:cs.length≤k):yo cs=(za cs k).length:=by
 rcases h with h|h
 ·rw[show k=cs.length by omega];rfl
 ·unfold yo;rw[h,j9 cs 193 (by omega),j9 cs cs.length (by omega)]
theorem uW {w0 w:World}{B0 B1:Nat}{A:Option Addr}{c:Nat}{cs:List Int}{k:Nat}(h:kY w0 w B0 B1 A c cs k)(hA:qL w0 A cs)(hl:cs.length≤9223372036854775807) :
    Calls prog 269 #[.pointer (some ⟨B1,0,none⟩),.pointer (some ⟨B0,0,none⟩)] w (qdB w0 B0 B1 A c cs k w):=by
 have HF:=QH h;have HA:=QH hA;clear h hA;go_enter func269,ntmps269;go_wp2_with fail;go_loopw [] (fun wr=>qsn w0 w B0 B1 A c cs k wr) (fun wr=>cs.length-cellOf wr B1);case atStart=>exact⟨k,HF.out,rfl,qB.refl _ _⟩
 case round =>
  obtain⟨j,hf,hfr,hb⟩:=hrel;have HFR:=QH hfr;have HB:=QH hb;have HFJ:=QH hf;have q0:wr.cell? ⟨B0,0,none⟩=some (.slice A cs.length c):=hf.box.cell 0;have q1:wr.cell? ⟨B1,0,none⟩=some (.int .i64 (j:Int)):=hf.at_.cell 0;have l0:=hf.box.lt;have l1:=hf.at_.lt;have f1:=hf.at_.frozen 0;have hne:=Nat.ne_of_lt hf.lt;have zX:=hf.k1;have hk2:=hf.k2;clear hf hfr hb HF;by_cases hlt:j<cs.length
  ·obtain⟨b,o,rfl,hbl,hc,hz⟩:=HA.out j hlt;have qws:(j:Int)<(cs.length:Int):=by omega
   have hg:cs.getD j 0=cs[j]:=by simp[List.getD,hlt]
   have hs:=ck cs j;rw[hg]at hs;have HS:=QH hs;have ec:wr.cell? ⟨b,o+j,none⟩=some (.int .i64 cs[j]):=by rw[HFJ.out.below.cell (p:=⟨b,o+j,none⟩) hbl];exact hc
   have lb:b<B0:=Nat.lt_of_lt_of_le hbl HFJ.out.low;have zy:Hid (qd (wr.setCell ⟨B1,0,none⟩ (.int .i64 (((j+1:Nat)):Int))) B1 3 #[.int .i64 ((j+1:Nat):Int)]):=by
    have h:=HFJ.out.at_.qo 0 (.int .i64 ((j+1:Nat):Int));exact h
   have hbb:Hid (qB (fun i=>i=B1) w (wr.setCell ⟨B1,0,none⟩ (.int .i64 (((j+1:Nat)):Int)))):=HB.out.setCell ⟨B1,0,none⟩ _ (.inl rfl);have hbj:Hid (qB (fun i=>i=B1) wr (wr.setCell ⟨B1,0,none⟩ (.int .i64 (((j+1:Nat)):Int)))):=(qB.refl _ _).setCell ⟨B1,0,none⟩ _ (.inl rfl);have ej:((j+1:Nat):Int)=(j:Int)+1:=by omega
   rw[ej]at zy hbb hbj;clear hs hg hc hz;generalize cs[j]=x at *;by_cases hx:x=0
   ·subst hx;have hs:=HS.out;rw[if_pos ⟨zX,rfl⟩]at hs;have kT:=QH hs;clear hs;go_wp2_with fail;go_ret2;exact⟨hbb.out,.inl ⟨j,hlt,by rw[kT.out,HFR.out],rfl,HFJ.out.move hbj.out (by rw[ej];exact zy.out) (by omega) (by omega)⟩⟩
   ·have hxb:(x == 0)=false:=by simpa using hx
    have hs:=HS.out;rw[if_neg (fun h=>hx h.2),List.append_nil]at hs;have kT:=QH hs;have hm:Hid (cellOf wr B1=j):=qao HFJ.out.at_;have tr:Hid (cellOf (wr.setCell ⟨B1,0,none⟩ (.int .i64 ((j:Int)+1))) B1=j+1):=by
     refine qao (t:=3) ?_;rw[ej];exact zy.out
    clear hs;go_wp2_with fail;refine⟨⟨j+1,HFJ.out.move hbj.out (by rw[ej];exact zy.out) (by omega) (by omega),by rw[kT.out,HFR.out],hbb.out⟩,?_⟩;rw[hm.out,tr.out];omega
  ·have qws:¬ (j:Int)<(cs.length:Int):=by omega
   have HD:=QH (qko hk2 (show cs.length≤j by omega));go_wp2_with fail;go_ret2;exact⟨HB.out,.inr ⟨by rw[HD.out,HFR.out],rfl⟩⟩
theorem pK (A:Option Addr)(c:Nat)(cs:List Int)(w0 w:World)(hb:Below w0.heap.size w0 w) :
    Calls prog 222 #[.slice A cs.length c] w fun e w'=>e=.returned (qo0 w.heap.size (w.heap.size+1))∧kY w0 w' w.heap.size (w.heap.size+1) A c cs 193∧Below w.heap.size w w':=by
 go_enter func222,ntmps222;go_wp2_with fail;go_ret;have h0:qd (w.alloc (.cells #[.slice A cs.length c] 80)) w.heap.size 80 #[.slice A cs.length c]:=qd.new _ _ _;have h1:qd ((w.alloc (.cells #[.slice A cs.length c] 80)).alloc (.cells #[.int .i64 193] 3)) (w.alloc (.cells #[.slice A cs.length c] 80)).heap.size 3 #[.int .i64 ((193:Nat):Int)]:=qd.new _ _ _;have b1:=((Below.refl w.heap.size w).alloc (Nat.le_refl _) (.cells #[.slice A cs.length c] 80)).alloc (by simp) (.cells #[.int .i64 193] 3);rw[World.size_alloc]at h1;exact⟨rfl,⟨h0.of_block (Below.heap_alloc _ _ _ h0.lt),h1,hb.size,by omega,by omega,.inr rfl,qa hb b1⟩,b1⟩
theorem qkp{cs:List Int}{i:Nat}(h:i≤9223372036854775807):∀z∈za cs i,qG z:=by
 intro z hz;unfold za at hz;obtain⟨j,hj,rfl⟩:=List.mem_map.1 hz;have:=List.mem_range.1 (List.mem_filter.1 hj).1;unfold qG;omega
def q1g (w:World)(B0 B1:Nat)(A:Option Addr)(c:Nat)(cs:List Int)(n:Nat)(i:Bool)(wr:World):Prop :=
 Below w.heap.size w wr∧((i=true∧∃k,kY w wr B0 B1 A c cs k∧(za cs k).length=n+1)∨(i=false∧n=yo cs))
def q1h (w:World)(B0 B1:Nat)(A:Option Addr)(c:Nat)(cs:List Int)(v i:Value)(wr:World):Prop :=
 ∃(n:Nat) (b:Bool),v=.int .i64 (n:Int)∧i=.bool b∧q1g w B0 B1 A c cs n b wr
theorem qun{w W W':World}{B0 B1:Nat}{A:Option Addr}{c:Nat}{cs:List Int}{k:Nat}{e:Ending}(h:kY w W B0 B1 A c cs k)(hp:qdB w B0 B1 A c cs k W e W'):∃(x:Int) (b:Bool),e=.returned (.tuple #[.int .i64 x,.bool b])∧q1g w B0 B1 A c cs (za cs k).length b W':=by
 obtain⟨hb,⟨t,ht,hf,rfl,hF⟩|⟨hs,rfl⟩⟩:=hp
 ·exact⟨_,_,rfl,hF.below,.inl ⟨rfl,t+1,hF,by rw[hf,List.length_append];rfl⟩⟩
 ·exact⟨_,_,rfl,h.below.trans (hb.below (fun i e=>by rw[e];have:=h.low;have:=h.lt;omega) h.below.size),.inr ⟨rfl,hs.symm⟩⟩
theorem qg3{w w':World}{B0 B1:Nat}{A:Option Addr}{c:Nat}{cs:List Int}{k:Nat}(h:kY w w' B0 B1 A c cs k):(za cs k).length≤yo cs:=by
 rcases h.k2 with h1|h1
 ·obtain⟨r,hr⟩:=iM cs k cs.length h1;unfold yo;rw[hr,List.length_append];omega
 ·rw[h1,j9 cs 193 (by omega)];exact Nat.zero_le _
theorem pL (cs:List Int):yo cs≤cs.length:=qj0 cs cs.length
theorem q1i:q1f:=by
 intro A c cs w hp hl;have HP:=QH hp;have HFI:=QH (pK A c cs w w (Below.refl _ _));have hsm:=pL cs;clear hp;go_enter func221,ntmps221;go_wp2_with fail;refine HFI.out.mono ?_;rintro e W1 ⟨rfl,hf,hb⟩;have HF:=QH hf;clear hf hb HFI;unfold qo0;have hl0:=HF.out.low;obtain⟨B0,hB0⟩:=QE w.heap.size;rw[hB0]at HF hl0 ⊢;go_wp2_with fail;refine(uW HF.out HP.out hl).mono ?_;rintro e W2 hp;obtain⟨x,b,rfl,hs⟩:=qun HF.out hp;rw[j9 cs 193 (by omega)]at hs;have HS:=QH hs;clear hp hs HF;go_wp2_with fail;go_loopw [3,6] (fun v i wr=>q1h w B0 (B0+1) A c cs v i wr) (fun v _ _=>cs.length-(intOf v).toNat);case atStart=>exact⟨0,b,rfl,rfl,HS.out⟩
 case round =>
  clear HS;obtain⟨n,b,rfl,rfl,hb,h⟩:=hrel;have HB:=QH hb;rcases h with⟨rfl,k,hf,hk⟩|⟨rfl,rfl⟩
  ·have hm:=qg3 hf;have HF:=QH hf;have HK:=QH hk;clear hf;go_wp2_with fail;refine(uW HF.out HP.out hl).mono ?_;rintro e W3 hp;obtain⟨x,b,rfl,hs⟩:=qun HF.out hp;rw[HK.out]at hs;have HS:=QH hs;clear hp hs HF;go_wp2_with fail;go_roundw;case rel=>exact⟨n+1,b,by go_num,rfl,HS.out⟩
   case measure=>simp[intOf];omega
  ·go_wp2_with fail;go_ret;exact⟨rfl,HB.out⟩
theorem qdC{zZ:List (List Int)}{n:Int}(h:kV n (List.replicate n.toNat 0) zZ.flatten=none):yZ zZ n=([],2):=by
 unfold yZ;rw[h];split <;> rfl
theorem qg4{zZ:List (List Int)}{n:Int}{cs:List Int}(h0:0≤n)(h1:n≤1024)(h:kV n (List.replicate n.toNat 0) zZ.flatten=some cs):yZ zZ n=(cs,0):=by
 unfold yZ;rw[h,if_neg (by omega)]
theorem qid{w wr:World}{g c:Nat}{n:Nat}{cs:List Int}{r:List Int × Int}(hk:qd wr g 3 (zF cs))(hb:Below w.heap.size w wr)(hg:w.heap.size≤g)(hn:cs.length=n)(hc:n≤c)(hz:∀z∈cs,qG z)(hr:r=(cs,0)) :
    okL r w (.returned (.tuple #[.slice (some ⟨g,0,none⟩) n c,.int .i64 0])) wr:=by
 subst hr hn;refine⟨_,c,rfl,qd.ints hk hz,hb,fun b o h=>?_,hc⟩;simp only[Option.some.injEq,Addr.mk.injEq,and_true]at h;rw[← h.1];exact⟨hg,hk.lt⟩
theorem qdD(n:Int)(h0:0≤n)(h:n*8≤140737488355328)(W:World):(Instr.makeSlice 80 (.int .i64 n) (.int .i64 n)).run prog W=.ok (.slice (some ⟨W.heap.size,0,none⟩) n.toNat n.toNat) (W.alloc (.cells (zF (List.replicate n.toNat 0)) 3)):=by
 obtain⟨i0,hi,hz0,hz1,hz2⟩:=info_parts wP;have hmk:=run_make (P:=prog) W 80 3 i0 (.int .i64 0) underlying80 hi hz0 .i64 .i64 n n h0 (Int.le_refl _) (by rw[hz2];omega) (by omega);rw[hz1]at hmk;rw[← pI];simpa[Value.cells]using hmk
def q1j (w W:World)(g B0 B1:Nat)(A:Option Addr)(c:Nat)(cs:List Int)(m:Nat)(v:Value)(wr:World):Prop :=
 ∃(n k:Nat),n≤m∧v=.int .i64 (n:Int)∧kY W wr B0 B1 A c cs k∧(za cs k).length=n∧qd wr g 3 (zF (za cs k++List.replicate (m-n) 0))∧Below w.heap.size w wr
theorem qso{cs:List Int}{k m:Nat}(h:(za cs k).length=m)(hk:k≤cs.length∨k=193):(za cs cs.length).take m=za cs k:=by
 rcases hk with h1|h1
 ·obtain⟨r,hr⟩:=iM cs k cs.length h1;rw[hr,← h,List.take_left]
 ·rw[h1,j9 cs 193 (by omega)]at h;rw[h1,j9 cs 193 (by omega),← h];rfl
theorem o7 (l:List Int)(r:Nat)(x:Int):(l++List.replicate (r+1) 0).set l.length x=(l++[x])++List.replicate r 0:=by
 rw[List.set_append_right _ _ (Nat.le_refl _),Nat.sub_self,List.replicate_succ,List.append_assoc];rfl
theorem q1k:q1e:=by
 intro A c cs n w hp hl hn;have HP:=QH hp;have hsm:=pL cs;obtain⟨res,hres⟩:=QE (jq cs n);rw[hres];unfold jq at hres;by_cases h0:n<0
 ·rw[if_pos h0]at hres;subst hres;clear hp;go_enter func139,ntmps139;go_wp2_with fail;go_ret2;exact fL (Below.refl _ _)
 rw[if_neg h0]at hres;have HF:=QH (q1i A c cs w hp (by omega));obtain⟨fr,hfr⟩:=QE (yo cs);have HFR:=QH hfr;rw[hfr]at HF hres hsm;clear hfr hp;by_cases h1:(fr:Int)<n
 ·rw[if_pos h1]at hres;subst hres;go_enter func139,ntmps139;go_wp2_with fail;refine HF.out.mono ?_;rintro e W ⟨rfl,hb⟩;go_wp2_with fail;go_ret2;exact fL hb
 rw[if_neg h1]at hres;have hmk:=qdD n (by omega) (by omega);obtain⟨m,rfl⟩:=Int.eq_ofNat_of_zero_le (show 0≤n by omega);rw[Int.toNat_natCast]at hmk hres;have xu:=QH hres;have HMK:=QH hmk;clear hres hmk;go_enter func139,ntmps139;go_wp2_with fail;refine HF.out.mono ?_;rintro e W ⟨rfl,hb⟩;have HB:=QH hb;have HPW:=QH (HP.out.below hb);clear hb HF;have hmk:=HMK.out;go_wp2_with fail;clear hmk;have hkb:qd (W.alloc (.cells (zF (List.replicate m 0)) 3)) W.heap.size 3 (zF (List.replicate m 0)):=qd.new _ _ _;have hb2:=(Below.refl W.heap.size W).alloc (Nat.le_refl _) (.cells (zF (List.replicate m 0)) 3);have hsz:(W.alloc (.cells (zF (List.replicate m 0)) 3)).heap.size=W.heap.size+1:=by simp
 obtain⟨W1,hW1⟩:=QE (W.alloc (.cells (zF (List.replicate m 0)) 3));rw[hW1]at hkb hb2 hsz ⊢;obtain⟨g,hg⟩:=QE W.heap.size;rw[hg]at hkb hb2 hsz ⊢;have HG:=QH hg;have HK:=QH hkb;have qT:=QH (qa HB.out (by rw[hg];exact hb2));have nS:=HPW;have hfi:=pK A c cs W W1 (by rw[hg];exact hb2);rw[hsz]at hfi;have HWS:Hid (w.heap.size≤W.heap.size):=HB.out.size;have q1l:Hid (w.heap.size≤g):=by rw[← hg];exact HB.out.size
 clear hkb hb2 hW1 hg HB HPW HMK;refine hfi.mono ?_;clear hfi;rintro e W2 ⟨rfl,hf,hb⟩;have HF:=QH hf;have uR:=QH (HK.out.below (by rw[hsz];exact hb));have qC:=QH (qa qT.out (by rw[hsz];exact hb));have tK:=QH hsz;clear hf hb HK qT hsz;unfold qo0;go_wp2_with fail;go_loopw [21] (fun v wr=>q1j w W g (g+1) (g+1+1) A c cs m v wr) (fun v _=>m-(intOf v).toNat);case atStart=>exact⟨0,193,Nat.zero_le _,rfl,HF.out,by rw[j9 cs 193 (by omega)];rfl,by rw[j9 cs 193 (by omega)];exact uR.out,qC.out⟩
 case round =>
  clear HF uR qC;obtain⟨n,k,hnm,rfl,hf,gY,hk,hb⟩:=hrel;have HF:=QH hf;have HFL:=QH gY;have HK:=QH hk;have HB:=QH hb;have hk2:=hf.k2;clear hf gY hk hb;by_cases hlt:n<m
  ·have qw7:(n:Int)<(m:Int):=by omega
   go_wp2_with fail;refine(uW HF.out nS.out (by omega)).mono ?_;rintro e W3 ⟨hb3,⟨t,ht,hft,rfl,hf3⟩|⟨hs,_⟩⟩
   ·have hk3:=HK.out.of_block (hb3.block g HK.out.lt (by omega));have mq:=hk3.qo n (.int .i64 (t:Int));have hlo:=HF.out.low;have hbl:Below w.heap.size w W3:=HB.out.trans (hb3.below (fun i e=>by rw[e];have:=q1l.out;omega) HB.out.size);have hbt:qB (fun j=>j=g) W3 (W3.setCell ⟨g,n,none⟩ (.int .i64 (t:Int))):=(qB.refl _ _).setCell ⟨g,n,none⟩ _ (.inl rfl);have hcl:W3.cell? ⟨g,n,none⟩=some (.int .i64 0):=by
     rw[hk3.cell n,bj _ n (by rw[List.length_append,List.length_replicate,HFL.out];omega),List.getElem_append_right (by rw[HFL.out];exact Nat.le_refl _)];simp
    have jX:=hk3.lt;have hfz:=hk3.frozen n;rw[pH,show m-n=m-(n+1)+1 by omega]at mq;have hfo:=o7 (za cs k) (m-(n+1)) (t:Int);rw[HFL.out]at hfo;rw[hfo,← hft]at mq;have hf4:kY W (W3.setCell ⟨g,n,none⟩ (.int .i64 (t:Int))) (g+1) (g+1+1) A c cs (t+1) :=
     ⟨hf3.box.of_block (hbt.block _ hf3.box.lt (by omega)),hf3.at_.of_block (hbt.block _ hf3.at_.lt (by omega)),hf3.low,hf3.lt,hf3.k1,hf3.k2,hf3.below.trans (hbt.below (fun i e=>by rw[e,HG.out];exact Nat.le_refl _) hf3.below.size)⟩
    have q1m:(za cs (t+1)).length=n+1:=by rw[hft,List.length_append,HFL.out];rfl
    have hb4:Below w.heap.size w (W3.setCell ⟨g,n,none⟩ (.int .i64 (t:Int))):=hbl.trans (hbt.below (fun i e=>by rw[e];exact q1l.out) hbl.size);have tG:=QH mq;have HF4:=QH hf4;have q6k:=QH q1m;have zT:=QH hb4;clear mq hf4 q1m hb4 hk3 hbl hbt hfo hft hb3 hf3;go_wp2_with fail;go_roundw;case rel=>exact⟨n+1,t+1,by omega,by go_num,HF4.out,q6k.out,tG.out,zT.out⟩
    case measure=>simp[intOf];omega
   ·exact absurd hs (by rw[HFR.out,HFL.out];omega)
  ·have qw7:¬ (n:Int)<(m:Int):=by omega
   have qsp:n=m:=by omega
   have dE:=HK.out;rw[qsp,Nat.sub_self,List.replicate_zero,List.append_nil]at dE;have HKE:=QH dE;have iH:=qso (HFL.out.trans qsp) hk2;have hr:res=(za cs k,0):=by rw[← xu.out,iH]
   have HR:=QH hr;have HZ:=QH (qkp (cs:=cs) (i:=k) (by omega));have gK:=QH (HFL.out.trans qsp);clear dE iH hr qsp;go_wp2_with fail;go_ret2;exact qid HKE.out HB.out (by rw[← HG.out];exact HWS.out) gK.out (Nat.le_refl _) HZ.out HR.out
theorem vT {fn:Func}{p u:Tmp}{ty uy:TypeId}(h:fn.results = #[.cell p ty,.cell u uy])(tmps:Array Value)(P:Program)(w:World)(a b:Addr)(v1 v2:Value)
    (hp:tmps.getD p undef=.pointer (some a)) (hu:tmps.getD u undef=.pointer (some b)) (h1:(loadVar ty a).run P w=.ok v1 w) (h2:(loadVar uy b).run P w=.ok v2 w) :
    (results fn tmps).run P w=.ok (.tuple #[v1,v2]) w:=by
 simp only[results,h];simp only[Array.getD_eq_getD_getElem?]at hp hu;simp[Sem.run_bind,Result.andThen,asAddr,hp,hu,h1,h2]
theorem l5 (w:World):(isAgg 80).run prog w=.ok false w:=by kernel_rfl
theorem l6 (w:World):(isAgg 27).run prog w=.ok false w:=by kernel_rfl
theorem wM {t:TypeId}{w:World}(ha:(isAgg t).run prog w=.ok false w){a:Addr}{v:Value}(hc:w.cell? a=some v):(loadVar t a).run prog w=.ok v w:=by
 unfold loadVar;rw[Sem.run_bind,ha];simp[Result.andThen,hc]
end Go.Proofs.YtdpbdkacngaemaaGreatDoor.sp
namespace Go.Proofs.YtdpbdkacngaemaaGreatDoor.sp
open _root_.Go.Proofs.Tryz Go Go.RowKit Go.Shelf ib
attribute [local go_sem] Oper.semAt_some
theorem qb9{S:Nat→Prop}{w w':World}{row:Option Nat}(h:w.grownBy w' row)(hs:∀k,row=some k→S k):qB S w w' :=
 ⟨h.os,h.tape,h.output,h.size,fun k hk hn=>h.block k hk (fun e=>hn (hs k e.symm))⟩
theorem jB {S:Nat→Prop}{a w w':World}{row:Option Nat}(h:qB S a w)(hg:w.grownBy w' row)(hs:∀k,row=some k→S k∨a.heap.size≤k):qB S a w' :=
 h.trans (S':=fun k=>row=some k) (qb9 hg (fun _ e=>e)) hs
structure qo1(w W:World)(n e:Int):Prop where
 num:qd W w.heap.size 3 #[.int .i64 n]
 one:qd W (w.heap.size+1) 80 #[.slice none 0 0]
 two:qd W (w.heap.size+1+1) 27 #[.int .i64 e]
 below:Below w.heap.size w W
 size:W.heap.size=w.heap.size+1+1+1
theorem three(w:World)(n e:Int):qo1 w (((w.alloc (.cells #[.int .i64 n] 3)).alloc (.cells #[.slice none 0 0] 80)).alloc (.cells #[.int .i64 e] 27)) n e:=by
 have s1:(w.alloc (.cells #[.int .i64 n] 3)).heap.size=w.heap.size+1:=by simp
 have s2:((w.alloc (.cells #[.int .i64 n] 3)).alloc (.cells #[.slice none 0 0] 80)).heap.size=w.heap.size+1+1:=by simp
 have k1:=qd.new w 3 #[.int .i64 n];have k2:=qd.new (w.alloc (.cells #[.int .i64 n] 3)) 80 #[.slice none 0 0];have k3:=qd.new ((w.alloc (.cells #[.int .i64 n] 3)).alloc (.cells #[.slice none 0 0] 80)) 27 #[.int .i64 e];refine⟨(k1.of_block (Below.heap_alloc _ _ _ k1.lt)).of_block (Below.heap_alloc _ _ _ ?_),?_,?_,?_,by simp⟩
 ·rw[s2];omega
 ·rw[← s1];exact k2.of_block (Below.heap_alloc _ _ _ k2.lt)
 ·rw[← s2];exact k3
 ·exact(((Below.refl w.heap.size w).alloc (Nat.le_refl _) _).alloc (by simp) _).alloc (by simp;omega) _
theorem qie{fn:Func}{w W:World}{n e:Int}(h:qo1 w W n e)(hf:fn.results = #[.cell 4 80,.cell 5 27])(tmps:Array Value)
    (h4:tmps.getD 4 undef=.pointer (some ⟨w.heap.size+1,0,none⟩)) (h5:tmps.getD 5 undef=.pointer (some ⟨w.heap.size+1+1,0,none⟩)) :
    (results fn tmps).run prog W=.ok (.tuple #[.slice none 0 0,.int .i64 e]) W :=
 vT hf _ _ _ _ _ _ _ h4 h5 (wM (l5 _) (h.one.cell 0)) (wM (l6 _) (h.two.cell 0))
structure Six(w W:World)(m:Nat)(A:Option Addr)(l c:Nat):Prop where
 num:qd W w.heap.size 3 #[.int .i64 (m:Int)]
 one:qd W (w.heap.size+1) 80 #[.slice none 0 0]
 two:qd W (w.heap.size+1+1) 27 #[.int .i64 0]
 cnt:qd W (w.heap.size+1+1+1) 3 (zF (List.replicate m 0))
 box:qd W (w.heap.size+1+1+1+1) 80 #[.slice (some ⟨w.heap.size+1+1+1,0,none⟩) m m]
 ims:qd W (w.heap.size+1+1+1+1+1) 218 #[.slice A l c]
 below:Below w.heap.size w W
 size:W.heap.size=w.heap.size+1+1+1+1+1+1
theorem six{w W0:World}{m:Nat}(h:qo1 w W0 m 0)(A:Option Addr)(l c:Nat) :
    Six w (((W0.alloc (.cells (zF (List.replicate m 0)) 3)).alloc (.cells #[.slice (some ⟨w.heap.size+1+1+1,0,none⟩) m m] 80)).alloc (.cells #[.slice A l c] 218)) m A l c:=by
 obtain⟨h1,h2,h3,h4,h5⟩:=h;have k4:=qd.new W0 3 (zF (List.replicate m 0));have b4:=(Below.refl W0.heap.size W0).alloc (Nat.le_refl _) (.cells (zF (List.replicate m 0)) 3);have s4:(W0.alloc (.cells (zF (List.replicate m 0)) 3)).heap.size=w.heap.size+1+1+1+1:=by simp[h5]
 generalize W0.alloc (.cells (zF (List.replicate m 0)) 3)=W4 at *;have k5:=qd.new W4 80 #[.slice (some ⟨w.heap.size+1+1+1,0,none⟩) m m];have b5:=(Below.refl W4.heap.size W4).alloc (Nat.le_refl _) (.cells #[.slice (some ⟨w.heap.size+1+1+1,0,none⟩) m m] 80);have s5:(W4.alloc (.cells #[.slice (some ⟨w.heap.size+1+1+1,0,none⟩) m m] 80)).heap.size=w.heap.size+1+1+1+1+1:=by simp[s4]
 generalize W4.alloc (.cells #[.slice (some ⟨w.heap.size+1+1+1,0,none⟩) m m] 80)=W5 at *;have k6:=qd.new W5 218 #[.slice A l c];have b6:=(Below.refl W5.heap.size W5).alloc (Nat.le_refl _) (.cells #[.slice A l c] 218);have s6:(W5.alloc (.cells #[.slice A l c] 218)).heap.size=w.heap.size+1+1+1+1+1+1:=by simp[s5]
 generalize W5.alloc (.cells #[.slice A l c] 218)=W6 at *;rw[h5]at k4;rw[s4]at k5;rw[s5]at k6;exact⟨((h1.below b4).below b5).below b6,((h2.below b4).below b5).below b6,((h3.below b4).below b5).below b6,(k4.below b5).below b6,k5.below b6,k6,qa (qa (qa h4 b4) b5) b6,s6⟩
def CI (m:Nat)(g:Nat)(W0:World)(pre:List I64)(W:World):Prop :=
 ∃cs,kV (m:Int) (List.replicate m 0) (pre.map fun x=>x.1)=some cs∧qd W g 3 (zF cs)∧qB (fun k=>k=g) W0 W
def CX (m:Nat)(g b:Nat)(W0:World)(c:Code)(pre:List I64)(W:World):Prop :=
 c=.ret∧kV (m:Int) (List.replicate m 0) (pre.map fun x=>x.1)=none∧qd W b 80 #[.slice none 0 0]∧qd W (b+1) 27 #[.int .i64 2]∧qB (fun k=>k=g∨k=b∨k=b+1) W0 W
theorem pM (L:List (List I64)):(Plain L).flatten=L.flatten.map fun x=>x.1:=by
 rw[List.map_flatten]
theorem qsq:qsm:=by
 intro A c zZ n w hp hl hn;have HP:=QH hp;obtain⟨res,hres⟩:=QE (yZ zZ n);rw[hres];by_cases h0:n<0
 ·have hr:res=([],2):=by rw[← hres];unfold yZ;rw[if_pos (.inl h0)]
  subst hr;clear hp hres;refine(callsIn_wide (n:=9)).1 (callsIn_of_wp_marks func137 rfl trivial ?_ rfl);refine wpIn_wide.2 ?_;simp only[ntmps137,List.size_toArray,List.length_cons,List.length_nil,Nat.reduceAdd,Nat.reduceSub,Array.replicate_succ,Array.replicate_zero,List.push_toArray,List.append_toArray,List.nil_append,List.cons_append];go_wp2_with fail;exact⟨_,qie (three w n 2) rfl _ rfl rfl,fL (three w n 2).below⟩
 by_cases h1:1024<n
 ·have hr:res=([],2):=by rw[← hres];unfold yZ;rw[if_pos (.inr h1)]
  subst hr;clear hp hres;refine(callsIn_wide (n:=9)).1 (callsIn_of_wp_marks func137 rfl trivial ?_ rfl);refine wpIn_wide.2 ?_;simp only[ntmps137,List.size_toArray,List.length_cons,List.length_nil,Nat.reduceAdd,Nat.reduceSub,Array.replicate_succ,Array.replicate_zero,List.push_toArray,List.append_toArray,List.nil_append,List.cons_append];go_wp2_with fail;exact⟨_,qie (three w n 2) rfl _ rfl rfl,fL (three w n 2).below⟩
 have hmk:=qkk n (by omega) (by omega);obtain⟨m,rfl⟩:=Int.eq_ofNat_of_zero_le (show 0≤n by omega);rw[Int.toNat_natCast]at hmk;have hm:m≤1024:=by omega
 have xu:=QH hres;obtain⟨L,rfl⟩:=qox zZ (fun l hl' z hz=>by
  obtain⟨i,hi,rfl⟩:=List.getElem_of_mem hl';obtain⟨_,_,_,_,_,_,_,h5,_⟩:=hp i hi;exact h5.mem z hz)
 have HT:=QH (three w m 0);rw[List.length_map]at hl ⊢;clear hp hres;refine(callsIn_wide (n:=9)).1 (callsIn_of_wp_marks func137 rfl trivial ?_ rfl);refine wpIn_wide.2 ?_;simp only[ntmps137,List.size_toArray,List.length_cons,List.length_nil,Nat.reduceAdd,Nat.reduceSub,Array.replicate_succ,Array.replicate_zero,List.push_toArray,List.append_toArray,List.nil_append,List.cons_append];go_wp2_with fail;clear hmk;obtain⟨W0,hW0⟩:=QE (((w.alloc (.cells #[.int .i64 (m:Int)] 3)).alloc (.cells #[.slice none 0 0] 80)).alloc (.cells #[.int .i64 0] 27));rw[hW0]at HT ⊢;clear hW0;refine(callsIn_wide (n:=9).1 (qkn Fence.wide 9 trivial rfl _ _ _ _)).mono ?_;rintro e w' ⟨rfl,rfl⟩;have q1n:((W0.alloc (.cells (zF (List.replicate m 0)) 3)).alloc (.cells #[.slice (some ⟨w.heap.size+1+1+1,0,none⟩) m m] 80)).heap.size=w.heap.size+1+1+1+1+1:=by simp[HT.out.size]
 rw[q1n];have H6:=QH (six HT.out A L.length c);clear q1n;obtain⟨W2,hW2⟩:=QE (((W0.alloc (.cells (zF (List.replicate m 0)) 3)).alloc (.cells #[.slice (some ⟨w.heap.size+1+1+1,0,none⟩) m m] 80)).alloc (.cells #[.slice A L.length c] 218));rw[hW2]at H6 ⊢;clear hW2 HT;obtain⟨q,hq⟩:=QE w.heap.size;obtain⟨d1,d2,d3,d4,d5,d6,d7,d8⟩:=H6.out;rw[hq]at d1 d2 d3 d4 d5 d6 d8 ⊢;have HQ:=QH hq;have HST:=QH (qb8 Fence.wide 8 trivial rfl (by decide) (q+1+1+1+1+1) A c L w W2 HP.out hl d7 d6);clear hq;go_wp2_with fail;refine wpIn_wide.1 (wpIn_rangeFunc_ownF (F:=Fence.wide) (n:=9) rfl (by decide) (gf:=268) (lb:=#[.pointer (some ⟨q+1+1+1+1+1,0,none⟩)]) rfl trivial (enters_of func268 (by kernel_rfl) rfl) HST.out
  belowK_t (belowK_b d7.size) (Below.refl _ _) (fun _=>rfl)
  (CI m (q+1+1+1) W2) (CX m (q+1+1+1) (q+1) W2) ?hI ?hIx ⟨_,rfl,d4,qB.refl _ _⟩
  (fun x=>{ tmps:=#[.slice A L.length c,.int .i64 (m:Int),undef,.pointer (some ⟨q,0,none⟩),.pointer (some ⟨q+1,0,none⟩),.pointer (some ⟨q+1+1,0,none⟩),.pointer (some ⟨q+1+1+1+1,0,none⟩),.int .i64 x.1,.int .i64 (m:Int),.bool false,.bool false,.int .i64 (m:Int),.bool false,.bool false,.int .i64 (m:Int),.slice (some ⟨q+1+1+1,0,none⟩) m m,.slice A L.length c,.func (.func 268) #[] #[.pointer (some ⟨q+1+1+1+1+1,0,none⟩)],.int .i64 x.1,undef,undef,undef,undef,undef,undef,undef,undef,undef,undef,undef,undef,undef,undef,undef,undef,undef,undef],defers:=[] })
  ?assign ?body ?done ?stop)
 case hI =>
  intro pre W W' row ⟨cs,h1,h2,h3⟩ hg hr;refine⟨cs,h1,h2.of_block (hg.block _ h2.lt (fun e=>?_)),jB h3 hg (fun k e=>.inr (hr k e).1)⟩;have:=(hr _ e.symm).1;omega
 case hIx =>
  intro cc pre W W' row ⟨h0,h1,h2,h2',h3⟩ hg hr;refine⟨h0,h1,h2.of_block (hg.block _ h2.lt (fun e=>?_)),h2'.of_block (hg.block _ h2'.lt (fun e=>?_)),jB h3 hg (fun k e=>.inr (hr k e).1)⟩;all_goals
   have:=(hr _ e.symm).1;omega
 case assign =>
  intro l x W K hK
  gi_wp2
  exact hK
 case body =>
  rintro l pre x W ⟨cs,hcs,zy,jy⟩ _;have hsz:=jy.size;have e1:qd W q 3 _:=d1.of_block (jy.block _ d1.lt (by omega));have e2:qd W (q+1) 80 _:=d2.of_block (jy.block _ d2.lt (by omega));have e3:qd W (q+1+1) 27 _:=d3.of_block (jy.block _ d3.lt (by omega));have e5:qd W (q+1+1+1+1) 80 _:=d5.of_block (jy.block _ d5.lt (by omega));have yQ:∀cs',kV (m:Int) (List.replicate m 0) ((pre++[x]).map fun x=>x.1)=some cs'→∀W',qd W' (q+1+1+1) 3 (zF cs')→qB (fun k=>k=q+1+1+1) W W'→CI m (q+1+1+1) W2 (pre++[x]) W' :=
   fun cs' h1 W' h2 h3=>⟨cs',h1,h2,jy.trans h3 (fun i e=>.inl e)⟩
  have hbl:∀W',qB (fun k=>k=q+1+1+1) W W'→Below w.heap.size W W':=fun W' h=>h.below (fun i e=>by rw[e,HQ.out];omega) (by rw[HQ.out];omega);have hsn:=qjy hcs x.1;rw[show pre.map (fun x=>x.1)++[x.1]=(pre++[x]).map (fun x=>x.1)by simp]at hsn;have kn:W.cell? ⟨q,0,none⟩=some (.int .i64 (m:Int)):=e1.cell 0;have kb:W.cell? ⟨q+1+1+1+1,0,none⟩=some (.slice (some ⟨q+1+1+1,0,none⟩) m m):=e5.cell 0;have ko:W.cell? ⟨q+1,0,none⟩=some (.slice none 0 0):=e2.cell 0;have kt:W.cell? ⟨q+1+1,0,none⟩=some (.int .i64 0):=e3.cell 0;have ln:=e1.lt;have lo:=e2.lt;have lt:=e3.lt;have lb:=e5.lt;have fo:=e2.frozen 0;have ft:=e3.frozen 0;have HPO:=QH yQ;have dt:=QH hbl;have jC:=QH hsn;have kX:=QH zy;have q6l:=QH jy;have HCS:=QH hcs;have E2:=QH e2;have E3:=QH e3;have zcX:=x.2;clear yQ hbl hsn zy jy hcs e1 e2 e3 e5 hsz d1 d2 d3 d4 d5 d6 d7 d8;generalize x.1=y at *;by_cases hy0:y=0
  ·subst hy0;have hs:=jC.out;rw[if_pos rfl]at hs;have kT:=QH hs;clear hs
   gi_wp2
   exact⟨KeepsOthers.refl _,Below.refl _ _,HPO.out _ kT.out _ kX.out (qB.refl _ _)⟩
  ·have zcY:(y == 0)=false:=by simpa using hy0
   by_cases dm:y<193∨(m:Int)≤y
   ·have hs:=jC.out;rw[if_neg hy0,if_pos dm]at hs;have kT:=QH hs;clear hs;have qmf:Hid (KeepsOthers W ((W.setCell ⟨q+1,0,none⟩ (.slice none 0 0)).setCell ⟨q+1+1,0,none⟩ (.int .i64 2))∧CX m (q+1+1+1) (q+1) W2 .ret (pre++[x]) ((W.setCell ⟨q+1,0,none⟩ (.slice none 0 0)).setCell ⟨q+1+1,0,none⟩ (.int .i64 2))):=by
     have b1:qB (fun k=>k=q+1) W (W.setCell ⟨q+1,0,none⟩ (.slice none 0 0)):=(qB.refl _ _).setCell ⟨q+1,0,none⟩ _ (.inl rfl);have b2:qB (fun k=>k=q+1+1) (W.setCell ⟨q+1,0,none⟩ (.slice none 0 0)) ((W.setCell ⟨q+1,0,none⟩ (.slice none 0 0)).setCell ⟨q+1+1,0,none⟩ (.int .i64 2)):=(qB.refl _ _).setCell ⟨q+1+1,0,none⟩ _ (.inl rfl);have k1:=E2.out.qo 0 (.slice none 0 0);have k2:=(E3.out.of_block (b1.block _ E3.out.lt (by omega))).qo 0 (.int .i64 2);refine⟨(KeepsOthers.setCell _ _ _).trans (KeepsOthers.setCell _ _ _),rfl,kT.out,k1.of_block (b2.block _ k1.lt (by omega)),k2,?_⟩;have b3:qB (fun k=>k=q+1∨k=q+1+1) W _:=(b1.mono (S':=fun k=>k=q+1∨k=q+1+1) (fun i e=>.inl e)).trans b2 (fun i e=>.inl (.inr e));exact(q6l.out.mono (S':=fun k=>k=q+1+1+1∨k=q+1∨k=q+1+1) (fun i e=>.inl e)).trans b3 (fun i e=>.inl (.inr e))
    by_cases xB:y<193
    ·gi_wp2
     exact qmf.out
    ·have hge:(m:Int)≤y:=by omega
     gi_wp2
     exact qmf.out
   ·have hs:=jC.out;rw[if_neg hy0,if_neg dm]at hs;have xB:¬ y<193:=fun h=>dm (.inl h);have hge:¬ (m:Int)≤y:=fun h=>dm (.inr h);obtain⟨t,rfl⟩:=Int.eq_ofNat_of_zero_le (show 0≤y by omega);rw[Int.toNat_natCast]at hs;have htm:t<m:=by omega
    have hti:(t:Int)<(m:Int):=by omega
    have hcl:cs.length=m:=by rw[fh HCS.out,List.length_replicate]
    have htd:t<cs.length:=by rw[hcl];exact htm
    have qo2:=QH hs;have hq':=kX.out.cell t;rw[bj cs t htd]at hq';have hfz:=kX.out.frozen t;have jX:=kX.out.lt;have hgd:cs.getD t 0=cs[t]:=by simp[List.getD,htd]
    have mq:=pH cs t (wrap64 (cs[t]+1));have qwC:=kX.out.qo t (.int .i64 (wrap64 (cs[t]+1)));rw[mq,← hgd]at qwC;have q1o:Hid (qd (W.setCell ⟨q+1+1+1,t,none⟩ (.int .i64 (wrap64 (cs.getD t 0+1)))) (q+1+1+1) 3 (zF (bump cs t))):=qwC;have qC:Hid (qB (fun k=>k=q+1+1+1) W (W.setCell ⟨q+1+1+1,t,none⟩ (.int .i64 (wrap64 (cs.getD t 0+1))))):=(qB.refl _ _).setCell ⟨q+1+1+1,t,none⟩ _ (.inl rfl);rw[hgd]at q1o qC;have hv:=fK HCS.out (qan _) cs[t] (List.getElem_mem htd);unfold qG at hv;clear hs hgd mq qwC hcl;generalize cs[t]=v at *
    gi_wp2
    exact⟨KeepsOthers.setCell _ _ _,dt.out _ qC.out,HPO.out _ qo2.out _ q1o.out qC.out⟩
 case stop =>
  rintro D cc pre W hD hpre ⟨rfl,hx,h1,h2,h3⟩ hK;have hr:res=([],2):=by
   rw[← xu.out];refine qdC ?_;obtain⟨r,hr⟩:=hpre;rw[pM,← hr,List.map_append];exact qjz hx _
  subst hr
  gi_wp2
  refine⟨by simp,.inl ⟨_,_,rfl,run_takeDeferred hK,?_⟩⟩;have p1:qd (W.putObj D (.deferred none)) (q+1) 80 _:=h1.of_block (World.putObj_heap_other (by omega));have p2:qd (W.putObj D (.deferred none)) (q+1+1) 27 _:=h2.of_block (World.putObj_heap_other (by omega));have hb1:Below w.heap.size w W:=d7.trans (h3.below (fun i e=>by rw[HQ.out];omega) d7.size);have hb2:Below w.heap.size w (W.putObj D (.deferred none)):=hb1.grown (grownBy_putObj' W D _) hb1.size (fun k e=>by cases e;rw[HQ.out];omega);exact⟨_,vT rfl _ _ _ ⟨q+1,0,none⟩ ⟨q+1+1,0,none⟩ _ _ rfl rfl (wM (l5 _) (p1.cell 0)) (wM (l6 _) (p2.cell 0)),fL hb2⟩
 case done =>
  rintro D ys W hD rfl ⟨cs,hcs,zy,jy⟩ hK;have hr:res=(cs,0):=by
   rw[← xu.out];refine qg4 (by omega) (by omega) ?_;rw[pM,Int.toNat_natCast];exact hcs
  have hcl:cs.length=m:=by rw[fh hcs,List.length_replicate]
  have hz:=fK hcs (qan _);have hsz:=jy.size;have e2:qd W (q+1) 80 _:=d2.of_block (jy.block _ d2.lt (by omega));have e3:qd W (q+1+1) 27 _:=d3.of_block (jy.block _ d3.lt (by omega));have e5:qd W (q+1+1+1+1) 80 _:=d5.of_block (jy.block _ d5.lt (by omega));have hb1:Below w.heap.size w W:=d7.trans (jy.below (fun i e=>by rw[e,HQ.out];omega) d7.size);have kb:W.cell? ⟨q+1+1+1+1,0,none⟩=some (.slice (some ⟨q+1+1+1,0,none⟩) m m):=e5.cell 0;have ko:W.cell? ⟨q+1,0,none⟩=some (.slice none 0 0):=e2.cell 0;have kt:W.cell? ⟨q+1+1,0,none⟩=some (.int .i64 0):=e3.cell 0;have lo:=e2.lt;have lt:=e3.lt;have lb:=e5.lt;have fo:=e2.frozen 0;have ft:=e3.frozen 0;have HR:=QH hr;have kK:=QH hcl;have HZ:=QH hz;have E2:=QH e2;have E3:=QH e3;have kX:=QH zy;have qT:=QH hb1;have HK:=QH hK;clear hr hcl hz hsz e2 e3 e5 zy hb1 hcs jy hK d1 d2 d3 d4 d5 d6 d7;go_wp2_with fail;have b1:qB (fun k=>k=q+1) W (W.setCell ⟨q+1,0,none⟩ (.slice (some ⟨q+1+1+1,0,none⟩) m m)):=(qB.refl _ _).setCell ⟨q+1,0,none⟩ _ (.inl rfl);have b2:qB (fun k=>k=q+1+1) (W.setCell ⟨q+1,0,none⟩ (.slice (some ⟨q+1+1+1,0,none⟩) m m)) ((W.setCell ⟨q+1,0,none⟩ (.slice (some ⟨q+1+1+1,0,none⟩) m m)).setCell ⟨q+1+1,0,none⟩ (.int .i64 0)):=(qB.refl _ _).setCell ⟨q+1+1,0,none⟩ _ (.inl rfl);have k1:=E2.out.qo 0 (.slice (some ⟨q+1+1+1,0,none⟩) m m);have k2:=(E3.out.of_block (b1.block _ E3.out.lt (by omega))).qo 0 (.int .i64 0);have k1':=k1.of_block (b2.block _ k1.lt (by omega));have b3:qB (fun k=>k=q+1∨k=q+1+1) W _:=(b1.mono (S':=fun k=>k=q+1∨k=q+1+1) (fun i e=>.inl e)).trans b2 (fun i e=>.inl (.inr e));generalize (W.setCell ⟨q+1,0,none⟩ (.slice (some ⟨q+1+1+1,0,none⟩) m m)).setCell ⟨q+1+1,0,none⟩ (.int .i64 0)=W' at *;have hKD:W'.heap[D]?=some (.deferred (some [])):=(b3.block D (Array.getElem?_eq_some_iff.1 HK.out).1 (by omega)).trans HK.out;refine⟨by simp,.inl ⟨_,_,rfl,run_takeDeferred hKD,?_⟩⟩;have p1:qd (W'.putObj D (.deferred none)) (q+1) 80 _:=k1'.of_block (World.putObj_heap_other (by omega));have p2:qd (W'.putObj D (.deferred none)) (q+1+1) 27 _:=k2.of_block (World.putObj_heap_other (by omega));have p3:qd (W'.putObj D (.deferred none)) (q+1+1+1) 3 _:=(kX.out.of_block (b3.block _ kX.out.lt (by omega))).of_block (World.putObj_heap_other (by omega));have hw1:Below w.heap.size w W':=qT.out.trans (b3.below (fun i e=>by rw[HQ.out];omega) qT.out.size);have hw2:Below w.heap.size w (W'.putObj D (.deferred none)):=hw1.grown (grownBy_putObj' W' D _) hw1.size (fun k e=>by cases e;rw[HQ.out];omega);exact⟨_,vT rfl _ _ _ ⟨q+1,0,none⟩ ⟨q+1+1,0,none⟩ _ _ rfl rfl (wM (l5 _) (p1.cell 0)) (wM (l6 _) (p2.cell 0)),qid p3 hw2 (by rw[HQ.out];omega) kK.out (Nat.le_refl _) HZ.out HR.out⟩
end Go.Proofs.YtdpbdkacngaemaaGreatDoor.sp
namespace Go.Proofs.YtdpbdkacngaemaaGreatDoor.vt.pg
open _root_.Go.Proofs.Tryz Go Go.RowKit Go.Sort ib mt im sp
abbrev Pl:=Int × Int × Bt
theorem qwD:(prog.info? 214).map (fun i=>(i.zero,i.size,i.bytes))=some (some (.agg #[.int .i64 0,.int .i64 0,.string ByteArray.empty]),3,32):=by kernel_rfl
def jg:List Pl→List Value
 | []=>[]
 | x::r=>.int .i64 x.1 :: .int .i64 x.2.1 :: .string (str x.2.2)::jg r
theorem bM:∀(l r:List Pl),jg (l++r)=jg l++jg r
 | [],_=>rfl
 | x::l,r=>by simp[jg,bM l r]
theorem pN:∀l:List Pl,(jg l).length=l.length*3
 | []=>rfl
 | x::l=>by simp[jg,pN l];omega
theorem pO:∀(l:List Pl) (i:Nat) (h:i<l.length),(jg l)[i*3]?=some (.int .i64 l[i].1)∧(jg l)[i*3+1]?=some (.int .i64 l[i].2.1)∧(jg l)[i*3+2]?=some (.string (str l[i].2.2))
 | x::l,0,_=>⟨rfl,rfl,rfl⟩
 | x::l,i+1,h=>by
  have:=pO l i (by simpa using h);rw[show(i+1)*3=i*3+1+1+1 from by omega];exact this
theorem pP:∀(l:List Pl) (k:Nat) (h:k<l.length) (a:Int),(jg l).set (k*3+1) (.int .i64 a)=jg (l.set k (l[k].1,a,l[k].2.2))
 | y::l,0,_,a=>rfl
 | y::l,k+1,hk,a=>by
  have ih:=pP l k (by simpa using hk) a;rw[show(k+1)*3+1=k*3+1+1+1+1 by omega];simp only[jg,List.set_cons_succ];exact congrArg _ (congrArg _ (congrArg _ ih))
def OPl (w:World)(B:Nat)(v:Value)(l:List Pl):Prop:=w.ownsRow B 214 3 v l.length (jg l)
def PlL (w:World)(A:Option Addr)(l:List Pl):Prop:=∀i (h:i<l.length),∃b o,A=some ⟨b,o,none⟩∧b<w.heap.size∧w.cell? ⟨b,o+i*3,none⟩=some (.int .i64 l[i].1)∧w.cell? ⟨b,o+i*3+1,none⟩=some (.int .i64 l[i].2.1)∧w.cell? ⟨b,o+i*3+2,none⟩=some (.string (str l[i].2.2))
theorem PlL.below{w w':World}{A:Option Addr}{l:List Pl}(h:PlL w A l)(hb:Below w.heap.size w w'):PlL w' A l:=by
 intro i hi;obtain⟨b,o,h1,h2,h3,h4,h5⟩:=h i hi;exact⟨b,o,h1,Nat.lt_of_lt_of_le h2 hb.size,(hb.cell (p:=⟨b,o+i*3,none⟩) h2).trans h3,(hb.cell (p:=⟨b,o+i*3+1,none⟩) h2).trans h4,(hb.cell (p:=⟨b,o+i*3+2,none⟩) h2).trans h5⟩
theorem OPl.view{w:World}{B:Nat}{v:Value}{l:List Pl}(h:OPl w B v l):∃a c,v=.slice a l.length c∧PlL w a l:=by
 rcases h.2 with⟨rfl,h0⟩|⟨g,cap,cur,rfl,hg,hh,hcc,hm,hcs,xg⟩
 ·obtain rfl:l=[]:=List.length_eq_zero_iff.1 h0;exact⟨none,0,rfl,fun i h=>by simp at h⟩
 ·refine⟨some ⟨g,0,none⟩,cap,rfl,fun i hi=>?_⟩;have key:∀(j:Nat) (u:Value),(jg l)[j]?=some u→w.cell? ⟨g,j,none⟩=some u:=by
   intro j u hu;rw[cell_of_row w g j cur 214 (0,0) hh];rw[← xg,List.getElem?_take]at hu;split at hu
   ·simpa using hu
   ·cases hu
  obtain⟨g0,g1,g2⟩:=pO l i hi;exact⟨g,0,rfl,(Array.getElem?_eq_some_iff.1 hh).1,by rw[Nat.zero_add];exact key _ _ g0,by rw[Nat.zero_add];exact key _ _ g1,by rw[Nat.zero_add];exact key _ _ g2⟩
theorem OPl.below{w w':World}{B:Nat}{v:Value}{l:List Pl}(h:OPl w B v l)(hb:Below w.heap.size w w'):OPl w' B v l:=zf h (fun j hj=>hb.block j (h.lt j hj).2)
theorem OPl.set{w:World}{B:Nat}{l:List Pl}{g c n:Nat}(h:OPl w B (.slice (some ⟨g,0,none⟩) n c) l)(k:Nat)(hk:k<l.length)(a:Int) :
    OPl (w.setCell ⟨g,k*3+1,none⟩ (.int .i64 a)) B (.slice (some ⟨g,0,none⟩) n c) (l.set k (l[k].1,a,l[k].2.2))∧w.frozen? ⟨g,k*3+1,none⟩=false∧B≤g∧g<w.heap.size:=by
 rcases h.2 with⟨e,h0⟩|⟨g',cap,cur,e,hg,hh,hcc,hm,hcs,xg⟩
 ·cases e
 ·simp only[Value.slice.injEq,Option.some.injEq,Addr.mk.injEq,and_true]at e;obtain⟨rfl,rfl,rfl⟩:=e;have dE:qd w g 214 cur:=hh;have rQ:(l.set k (l[k].1,a,l[k].2.2)).length=l.length:=by rw[List.length_set]
  refine⟨⟨by rw[pN],.inr ⟨g,c,_,by rw[rQ],hg,dE.qo (k*3+1) (.int .i64 a),by rw[rQ];exact hcc,hm,by simpa using hcs,?_⟩⟩,dE.frozen _,hg,dE.lt⟩;rw[rQ,Array.toList_setIfInBounds,List.take_set,xg];exact pP l k hk a
def PL (x:List (Int × Bt))(at_:List Int):List Pl:=List.zipWith (fun c a=>(c.1,a,c.2)) x at_
def P0 (x:List (Int × Bt)):List Pl:=x.map fun c=>(c.1,0,c.2)
theorem qkr{x:List (Int × Bt)}{k:Nat}(h:k<x.length):full (x.take (k+1))=full (x.take k)+if x[k].2=zb then 0 else 1:=by
 unfold full;rw[List.take_succ_eq_append_getElem h,List.filter_append,List.length_append]
 congr 1
 by_cases e:x[k].2=zb <;> simp[e]
def pQ (P:List Pl):List Wr:=P.filterMap fun p=>if p.2.1=0 then none else some (p.2.1,p.2.2)
theorem l7:∀(x:List (Int × Bt)) (fr:List Int),(∀f∈fr,f≠0)→full x≤fr.length→pQ (PL x (qf fr x).1)=(qf fr x).2
 | [],fr,_,_=>by simp[qf,PL,pQ]
 | (k,s)::r,fr,hf,h=>by
  rw[wF]at h;by_cases hs:s=zb
  ·rw[if_pos hs]at h;have ih:=l7 r fr hf (by omega);have e:qf fr ((k,s)::r)=(0::(qf fr r).1,(qf fr r).2):=by
    cases fr <;> simp[qf,hs]
   rw[e];simpa[PL,pQ]using ih
  ·rw[if_neg hs]at h;cases fr with
   | nil=>simp at h
   | cons f fr =>
    have ih:=l7 r fr (fun z hz=>hf z (by simp[hz])) (by simp at h;omega);have hf0:=hf f (by simp);have e:qf (f::fr) ((k,s)::r)=(f::(qf fr r).1,(f,s)::(qf fr r).2):=by
     simp[qf,hs]
    rw[e];simpa[PL,pQ,hf0]using ih
def PlR (x:List (Int × Bt))(w:World)(v f i:Value)(wr:World):Prop :=
 ∃k:Nat,k≤x.length∧i=.int .i64 (k:Int)∧f=.int .i64 ((full (x.take k):Nat):Int)∧OPl wr w.heap.size v (P0 (x.take k))∧Below w.heap.size w wr
def PcG (v pd N:Nat)(T:Value)(n1 n2:Nat)(ims:List (List Int))(cs:List Int):Nat→Value→World→Prop
 | 0,u,_=>u=pt v
 | 1,u,_=>u=pt v
 | 2,u,_=>u=pt v
 | 3,u,_=>u=T
 | 4,u,W=>∃A c,u=.slice A n1 c∧fx W A ims
 | 5,u,_=>u=pt v
 | 6,u,_=>u=pt v
 | 7,u,_=>u=.pointer (some ⟨v,9,none⟩)
 | 8,u,_=>u=pt pd
 | 9,u,_=>u=.int .i64 (N:Int)
 | 10,u,W=>∃A c,u=.tuple #[.slice A n2 c,.int .i64 0]∧ib.qL W A cs
 | 11,u,W=>∃A c,u=.tuple #[.slice A n2 c,.int .i64 0]∧ib.qL W A cs
 | 12,u,W=>∃A c,u=.slice A n2 c∧ib.qL W A cs
 | 13,u,_=>u=.int .i64 0
 | 14,u,W=>∃A c,u=.slice A n2 c∧ib.qL W A cs
 | 15,u,_=>u=.int .i64 0
 | _,_,_=>True
theorem qo4(v pd N:Nat)(T:Value)(n1 n2:Nat)(ims:List (List Int))(cs:List Int)(i:Nat)(u:Value)(w w':World)(hi:i<16)(h:PcG v pd N T n1 n2 ims cs i u w)(hb:Below w.heap.size w w'):PcG v pd N T n1 n2 ims cs i u w':=by
 match i,hi,h with
 | 0,_,h | 1,_,h | 2,_,h | 3,_,h | 5,_,h | 6,_,h | 7,_,h | 8,_,h | 9,_,h | 13,_,h | 15,_,h=>exact h
 | 4,_,⟨A,c,h1,h2⟩=>exact⟨A,c,h1,h2.below hb⟩
 | 10,_,⟨A,c,h1,h2⟩ | 11,_,⟨A,c,h1,h2⟩ | 12,_,⟨A,c,h1,h2⟩ | 14,_,⟨A,c,h1,h2⟩=>exact⟨A,c,h1,h2.below hb⟩
 | j+16,hi,_=>exact absurd hi (by omega)
def qsr (r:(List Int × List Wr) × Int)(x:List (Int × Bt))(w:World)(e:Ending)(w':World):Prop:=Below w.heap.size w w'∧((r.2≠0∧e=.returned (.tuple #[.slice none 0 0,.int .i64 r.2]))∨(r.2=0∧∃v,e=.returned (.tuple #[v,.int .i64 0])∧OPl w' w.heap.size v (PL x r.1.1)))
end Go.Proofs.YtdpbdkacngaemaaGreatDoor.vt.pg
namespace Go.Proofs.YtdpbdkacngaemaaGreatDoor.im
open _root_.Go.Proofs.Tryz Go Go.RowKit ib
def okO (r:List Int)(w:World)(e:Ending)(w':World):Prop:=∃v,e=.returned v∧zj w' w.heap.size v r∧Below w.heap.size w w'
theorem qo5{w:World}{ad:Addr}{zs:List Int}(h:qL w (some ad) zs)(m:Nat):∀(j:Nat) (u:Value),((zs.take m).map (Value.int .i64))[j]?=some u→w.cell? (ad.add j)=some u:=by
 intro j u hu;rw[List.getElem?_map]at hu;cases hz:(zs.take m)[j]? with
 | none=>rw[hz]at hu;cases hu
 | some z =>
  rw[hz]at hu;injection hu with hu
  subst hu;obtain⟨hj,rfl⟩:=List.getElem?_eq_some_iff.1 hz;have hj':j<zs.length:=by simp at hj;omega
  obtain⟨b,o,h1,_,h3,_⟩:=h j hj';injection h1 with h1
  subst h1;rw[addr_add,h3,List.getElem_take]
theorem qo6(zs:List Int):∀u∈zs.map (Value.int .i64),u.oneCell'=true:=by
 intro u hu;obtain⟨z,_,rfl⟩:=List.mem_map.1 hu;rfl
def q1p:Prop:=∀(A:Option Addr) (c:Nat) (l:List Int) (b s:Int) (w:World),jv w A l c→l.length≤1000→qG b→qG s →
 Calls prog 143 #[.slice A l.length c,.int .i64 b,.int .i64 s] w (qiD (qch l b s) w)
theorem qss(w:World):(w.alloc (.cells #[] 3)).ownsRow w.heap.size 3 1 (.slice (some ⟨w.heap.size,0,none⟩) 0 0) 0 [] :=
 ⟨rfl,.inr ⟨w.heap.size,0,#[],rfl,Nat.le_refl _,heap_alloc_new w _,Nat.le_refl _,by unfold maxLen;omega,rfl,rfl⟩⟩
theorem qo7(w:World)(A:Option Addr)(l:List Int)(h:qL w A l)(h1:1≤l.length):∃b o,A=some ⟨b,o,none⟩:=by
 obtain⟨b,o,h2,_⟩:=h 0 (by omega);exact⟨b,o,h2⟩
theorem l8 (A:Option Addr)(c:Nat)(l:List Int)(w:World)(hp:qL w A l)(hl:l.length≤1000)(h1:1≤l.length) :
    Calls prog 224 #[.slice A l.length c] w (okO l w):=by
 obtain⟨i0,hi,hz0,hz1,hz2⟩:=info_parts wP;obtain⟨b,o,rfl⟩:=qo7 w A l hp h1;have H0:=QH (qss w);have HB:=QH ((Below.refl w.heap.size w).alloc (Nat.le_refl _) (.cells #[] 3));have quq:=QH (qo5 (hp.below ((Below.refl w.heap.size w).alloc (Nat.le_refl _) (.cells #[] 3))) l.length);rw[List.take_length]at quq;have qwE:=QH (qo6 l);have qn:(binOp .eql 80 (.slice (some ⟨b,o,none⟩) l.length c) (.slice none 0 0)).run prog w=.ok (.bool false) w:=Lib.run_eql_slice_nil w _ _ _ _ _ _ _ underlying80;clear hp;go_enter func224,ntmps224;go_wp2_with (at_builtin;refine wpList_append_own _ rfl (.tmp 5) (.tmp 6) 80 rfl w.heap.size 3 i0 (.int .i64 0) 1 8 underlying80 hi hz0 hz1 hz2 rfl (by decide) _ 0 [] rfl H0.out ⟨b,o,none⟩ l.length c (l.map (Value.int .i64)) rfl (by rw[List.length_map,Nat.mul_one]) quq.out qwE.out ?_ ?_ HB.out.size ?_)
 ·unfold maxLen;omega
 ·omega
 ·intro v' w1 hown hgrow _;have hb1:=HB.out.grown hgrow HB.out.size (fun j hj=>(H0.out.lt j hj).1);have hos:zj w1 w.heap.size v' l:=hown;have HO:=QH hos;have qT:=QH hb1;clear hown hgrow hb1 hos;go_wp2_with fail;go_ret;exact⟨_,rfl,HO.out,qT.out⟩
theorem qst{w:World}{B:Nat}{v:Value}{l:List Int}(h:zj w B v l)(k:Nat)(hk:k<l.length)(z:Int) :
    ∃g cap,v=.slice (some ⟨g,0,none⟩) l.length cap∧l.length≤cap∧B≤g∧g<w.heap.size∧(∃u,w.cell? ⟨g,k,none⟩=some u)∧w.frozen? ⟨g,k,none⟩=false∧zj (w.setCell ⟨g,k,none⟩ (.int .i64 z)) B v (l.set k z):=by
 rcases h.2 with⟨_,h0⟩|⟨g,cap,cur,rfl,hg,hh,hcc,hm,hcs,xg⟩
 ·omega
 ·have hb:qd w g 3 cur:=hh;have hsz:k<cur.size:=by omega
  refine⟨g,cap,rfl,hcc,hg,hb.lt,⟨cur[k],by rw[hb.cell k,Array.getElem?_eq_getElem hsz]⟩,hb.frozen k,?_⟩;have hs:=hb.qo k (.int .i64 z);refine⟨by simp,.inr ⟨g,cap,cur.setIfInBounds k (.int .i64 z),by simp,hg,hs,by simpa using hcc,hm,by simpa using hcs,?_⟩⟩;rw[Nat.mul_one]at xg ⊢;rw[List.length_set,Array.toList_setIfInBounds,List.take_set,xg,List.map_set]
theorem q1q:q1p:=by
 intro A c l b s w hs hl hb hn;have HP:=QH hs.ints;have HM:=QH hs.ints.mem;have HB:=QH hb;have HN:=QH hn;obtain⟨res,hres⟩:=QE (qch l b s);rw[hres];unfold qch at hres;clear hs hb hn;by_cases h0:b<0
 ·rw[if_pos (.inl h0)]at hres;subst hres;go_enter func143,ntmps143;go_wp2_with fail;go_ret2;exact nD (Below.refl _ _)
 by_cases h1:(l.length:Int)≤b
 ·rw[if_pos (.inr (.inl h1))]at hres;subst hres;go_enter func143,ntmps143;go_wp2_with fail;go_ret2;exact nD (Below.refl _ _)
 by_cases h2:s<0
 ·rw[if_pos (.inr (.inr h2))]at hres;subst hres;go_enter func143,ntmps143;go_wp2_with fail;go_ret2;exact nD (Below.refl _ _)
 rw[if_neg (by omega)]at hres;obtain⟨k,rfl⟩:=Int.eq_ofNat_of_zero_le (show 0≤b by omega);rw[Int.toNat_natCast]at hres;have hk:k<l.length:=by omega
 have xu:=QH hres;have HC:=QH (l8 A c l w HP.out hl (by omega));clear hres;go_enter func143,ntmps143;go_wp2_with fail;refine HC.out.mono ?_;rintro e W ⟨v,rfl,ho,hw⟩;obtain⟨g,cap,rfl,qaH,hg,jX,⟨u,hu⟩,hf,ho2⟩:=qst ho k hk s;have HO:=QH ho2;have HG:=QH hg;have HW:=QH hw;have yr:(k:Int)<(l.length:Int):=by omega
 clear ho ho2 hw;go_wp2_with fail;go_ret2;refine qeW HO.out ?_ (HW.out.setCell (p:=⟨g,k,none⟩) HG.out _) xu.out.symm;intro z hz;rcases List.mem_or_eq_of_mem_set hz with h|h
 ·exact HM.out z h
 ·rw[h];exact HN.out
theorem qo8{w w':World}{B:Nat}{v:Value}{l:List Int}(h:zj w B v l)(hk:∀g,v.ownBlock=some g→w'.heap[g]?=w.heap[g]?):zj w' B v l:=by
 refine⟨h.1,?_⟩;rcases h.2 with h0|⟨g,cap,cur,rfl,hg,hh,hcc,hm,hcs,xg⟩
 ·exact .inl h0
 ·exact .inr ⟨g,cap,cur,rfl,hg,(hk g rfl).trans hh,hcc,hm,hcs,xg⟩
theorem jP {w:World}{B:Nat}{v:Value}{l:List Int}(h:zj w B v l)(g:Nat)(hg:v.ownBlock=some g):B≤g∧g<w.heap.size:=by
 rcases h.2 with⟨rfl,_⟩|⟨g',cap,cur,rfl,hg',hh,_⟩
 ·cases hg
 ·injection hg with e
  have e':g'=g:=e;subst e';exact⟨hg',(Array.getElem?_eq_some_iff.1 hh).1⟩
structure qbB(w:World)(U V:List Int)(b:Nat)(v:Value)(r:List Int)(wr:World):Prop where
 one:qd wr b 276 (qi U)
 two:qd wr (b+1) 276 (qi V)
 own:zj wr w.heap.size v r
 apart:v.ownBlock≠some b∧v.ownBlock≠some (b+1)
 below:Below w.heap.size w wr
theorem qbB.drew{w wr:World}{U V:List Int}{b:Nat}{v:Value}{r:List Int}(h:qbB w U V b v r wr)(n:Nat):qbB w U V b v r (wr.drewN n) :=
 ⟨h.one,h.two,h.own,h.apart,qzJ h.below n⟩
theorem qbB.new{w wr:World}{U V:List Int}{b:Nat}{v:Value}{r:List Int}(h:qbB w U V b v r wr)(o:Obj):qbB w U V b v r (wr.alloc o) :=
 ⟨h.one.of_block (Below.heap_alloc _ _ _ h.one.lt),h.two.of_block (Below.heap_alloc _ _ _ h.two.lt),qo8 h.own fun g hg=>Below.heap_alloc _ _ _ (jP h.own g hg).2,h.apart,h.below.alloc h.below.size _⟩
theorem qbB.put{w wr w1:World}{U V:List Int}{b:Nat}{v v':Value}{r r':List Int}(h:qbB w U V b v r wr)(ho:zj w1 w.heap.size v' r')(hg:wr.grownBy w1 v.ownBlock)(hw:v'.ownBlock=v.ownBlock∨v'.ownBlock=some wr.heap.size):qbB w U V b v' r' w1:=by
 have l1:=h.one.lt;have l2:=h.two.lt;refine⟨h.one.of_block (hg.block _ l1 fun e=>h.apart.1 e.symm),h.two.of_block (hg.block _ l2 fun e=>h.apart.2 e.symm),ho,?_,h.below.grown hg h.below.size fun k hk=>(jP h.own k hk).1⟩;rcases hw with e|e
 ·rw[e];exact h.apart
 ·rw[e];exact⟨fun e=>by injection e;omega,fun e=>by injection e;omega⟩
end Go.Proofs.YtdpbdkacngaemaaGreatDoor.im
namespace Go.Proofs
open _root_.Go.Proofs.Tryz Go.Shelf
def Tryz.mg:Go.Shelf.Ren:=⟨fun | 105=>162 | 212=>232 | 99=>233 | 165=>234 | 166=>235 | 170=>236 | 169=>237 | 263=>270 | 264=>271 | 206=>272 | 240=>273 | 241=>274 | 276=>289 | 277=>290|n=>n,fun | 9=>9 | 3=>3 | 4=>4 | 0=>0 | 46=>281 | 109=>291 | 5=>5 | 72=>296 | 76=>299 | 51=>244 | 146=>326 | 53=>36 | 148=>328 | 70=>294 | 37=>64 | 75=>298 | 127=>330 | 164=>345 | 80=>226|n=>n,fun|n=>n⟩
theorem Tryz.qsu:Go.Proofs.Lays.n105 prog Tryz.mg:={
 mixed:=by kernel_rfl
 f99:=func233.trans (congrArg some (by kernel_rfl))
 f105:=func162.trans (congrArg some (by kernel_rfl))
 f165:=func234.trans (congrArg some (by kernel_rfl))
 f166:=func235.trans (congrArg some (by kernel_rfl))
 f169:=func237.trans (congrArg some (by kernel_rfl))
 f170:=func236.trans (congrArg some (by kernel_rfl))
 f206:=func272.trans (congrArg some (by kernel_rfl))
 f212:=func232.trans (congrArg some (by kernel_rfl))
 f240:=func273.trans (congrArg some (by kernel_rfl))
 f241:=func274.trans (congrArg some (by kernel_rfl))
 f263:=func270.trans (congrArg some (by kernel_rfl))
 f264:=func271.trans (congrArg some (by kernel_rfl))
 f276:=func289.trans (congrArg some (by kernel_rfl))
 f277:=func290.trans (congrArg some (by kernel_rfl))
 t0:=underlying0
 a0:=isAgg0
 z0:=sizeOf0
 v0:=zeroValue0
 t3:=underlying3
 a3:=isAgg3
 z3:=sizeOf3
 v3:=zeroValue3
 t4:=underlying4
 a4:=isAgg4
 z4:=sizeOf4
 v4:=zeroValue4
 t5:=underlying5
 a5:=isAgg5
 z5:=sizeOf5
 v5:=zeroValue5
 t9:=underlying9
 a9:=isAgg9
 z9:=sizeOf9
 v9:=zeroValue9
 t20:=underlying20
 a20:=isAgg20
 z20:=sizeOf20
 v20:=zeroValue20
 t37:=underlying64
 a37:=isAgg64
 z37:=sizeOf64
 v37:=zeroValue64
 t46:=underlying281
 a46:=isAgg281
 z46:=sizeOf281
 v46:=zeroValue281
 t51:=underlying244
 a51:=isAgg244
 z51:=sizeOf244
 v51:=zeroValue244
 t53:=underlying36
 a53:=isAgg36
 z53:=sizeOf36
 v53:=zeroValue36
 t70:=underlying294
 a70:=isAgg294
 z70:=sizeOf294
 v70:=zeroValue294
 t72:=underlying296
 a72:=isAgg296
 z72:=sizeOf296
 v72:=zeroValue296
 t75:=underlying298
 a75:=isAgg298
 z75:=sizeOf298
 v75:=zeroValue298
 t76:=underlying299
 a76:=isAgg299
 z76:=sizeOf299
 v76:=zeroValue299
 t109:=underlying291
 a109:=isAgg291
 z109:=sizeOf291
 v109:=zeroValue291
 t127:=underlying330
 a127:=isAgg330
 z127:=sizeOf330
 v127:=zeroValue330
 t146:=underlying326
 a146:=isAgg326
 z146:=sizeOf326
 v146:=zeroValue326
 t148:=underlying328
 a148:=isAgg328
 z148:=sizeOf328
 v148:=zeroValue328
 t164:=underlying345
 a164:=isAgg345
 z164:=sizeOf345
 v164:=zeroValue345 }
theorem Tryz.fM:Builder.Extra prog Tryz.mg:={
 sizeBuilder:=by kernel_rfl
 liesBuilder:=by kernel_rfl
 t5:=underlying5
 a5:=isAgg5
 z5:=sizeOf5
 v5:=zeroValue5
 infoByte:=by kernel_rfl
 cellsByte:=by kernel_rfl
 sizeByte:=by kernel_rfl
 neB5:=by decide }
open Go.RowKit Go.Lib in
theorem Tryz.strings_Repeat(s:ByteArray)(c:Nat)(w:World)(hc:c≤9223372036854775807)(hlen:s.size*c≤140737488355328) :
    Calls prog 162 #[.string s,.int .i64 c] w fun e w'=>e=.returned (.string ⟨(Lib.repeatL s.data.toList c).toArray⟩)∧Below w.heap.size w w':=Any.strings_Repeat Tryz.qsu Tryz.fM s c w hc hlen
end Go.Proofs
