/- JTake, JRec, JPoss, JHeadP, JRecov, VgHld, VgTxt, SpMem, SpHyp, SpPlaces, SpFind, SpRef, SpFree, SpRefC, SpTake, SpCellR, SpProg, VgPl, ImRef, ImOwn, ImRef2, ImHyp, ImProg, JShelf. -/
import Derived.Test.YtdagdllomphidaaGreatDoorZK6
import Derived.Lib.SliceRun
import Derived.Shelf.Strings.Repeat
set_option linter.unusedVariables false
set_option linter.unusedSimpArgs false
set_option maxHeartbeats 30000000
set_option maxRecDepth 100000
namespace Go.Proofs.YtdagdllomphidaaGreatDoor.jr
open _root_.Go.Proofs.Tryz Go Go.RowKit dk wi
def uu (t:Bt):Option (Wr × Bt):=match rdNum t with
 | none=>none
 | some (a,t1)=>match yR t1 with
  | none=>none
  | some (v,t2)=>some ((((min a 1024:Nat):Int),v),t2)
theorem cJ (n:Nat)(t:Bt):eT (n+1) t=match uu t with|none=>none|some (x,r)=>match eT n r with|none=>none|some (l,q)=>some (x::l,q):=by
 rw[eT];unfold uu;cases rdNum t with
 | none=>rfl
 | some p =>
  obtain⟨a,t1⟩:=p;dsimp only;cases yR t1 with
  | none=>rfl
  | some q=>rfl
theorem dh:∀(k:Nat) (t:Bt),eT (k+1) t=match eT k t with|none=>none|some (l,r)=>match uu r with|none=>none|some (x,q)=>some (l++[x],q)
 | 0,t=>by
  rw[cJ];show _=match uu t with|none=>none|some (x,q)=>some ([]++[x],q)
  cases uu t with
  | none=>rfl
  | some p=>rfl
 | k+1,t=>by
  rw[cJ];cases h:uu t with
  | none =>
   have h2:eT (k+1) t=none:=by rw[cJ,h]
   rw[h2]
  | some p =>
   obtain⟨x,r⟩:=p;have h2:eT (k+1) t=match eT k r with|none=>none|some (l,q)=>some (x::l,q):=by rw[cJ,h]
   rw[h2];dsimp only;rw[dh k r];cases eT k r with
   | none=>rfl
   | some p2 =>
    obtain⟨l,q⟩:=p2;dsimp only;cases uu q with
    | none=>rfl
    | some p3=>rfl
theorem n4:∀(n k:Nat) (t:Bt),k≤n→eT k t=none→eT n t=none
 | 0,k,t,h,hk=>by
  obtain rfl:k=0:=by omega
  exact hk
 | n+1,k,t,h,hk=>by
  by_cases e:k=n+1
  ·rw[← e];exact hk
  ·rw[dh,n4 n k t (by omega) hk]
theorem iX:∀(n:Nat) (t:Bt) (l:List Wr) (r:Bt),eT n t=some (l,r)→l.length=n
 | 0,t,l,r,h=>by simp[eT]at h;simp[← h.1]
 | n+1,t,l,r,h=>by
  rw[cJ]at h;cases h1:uu t with
  | none=>rw[h1]at h;cases h
  | some p =>
   obtain⟨x,q⟩:=p;rw[h1]at h;dsimp only at h;cases h2:eT n q with
   | none=>rw[h2]at h;cases h
   | some p2 =>
    obtain⟨l2,q2⟩:=p2;rw[h2]at h;simp at h;rw[← h.1];simp[iX n q l2 q2 h2]
def Fill (cs:Array Value)(n:Nat)(l:List Wr):Prop:=cs.size=n*2∧∀i (h:i<l.length),cs[i*2]?=some (.int .i64 l[i].1)∧cs[i*2+1]?=some (.string (str l[i].2))
theorem qh6{cs:Array Value}{n:Nat}{l:List Wr}(h:Fill cs n l)(hl:l.length<n)(x:Wr):Fill ((cs.setIfInBounds (l.length*2) (.int .i64 x.1)).setIfInBounds (l.length*2+1) (.string (str x.2))) n (l++[x]):=by
 obtain⟨h1,h2⟩:=h;refine⟨by simpa using h1,fun i hi=>?_⟩;by_cases hil:i<l.length
 ·rw[List.getElem_append_left hil];obtain⟨g1,g2⟩:=h2 i hil;constructor
  ·rw[Array.getElem?_setIfInBounds_ne (by omega),Array.getElem?_setIfInBounds_ne (by omega)];exact g1
  ·rw[Array.getElem?_setIfInBounds_ne (by omega),Array.getElem?_setIfInBounds_ne (by omega)];exact g2
 ·have e:i=l.length:=by simp at hi;omega
  subst e;rw[List.getElem_append_right (Nat.le_refl _)];simp only[Nat.sub_self,List.getElem_cons_zero];constructor
  ·rw[Array.getElem?_setIfInBounds_ne (by omega),Array.getElem?_setIfInBounds_self_of_lt (by omega)]
  ·rw[Array.getElem?_setIfInBounds_self_of_lt (by rw[Array.size_setIfInBounds];omega)]
def S0 (n:Nat)(r0:Bt)(rb k:Nat)(cs:Array Value)(wr:World):Prop :=
 (∃l r,eT k r0=some (l,r)∧Fill cs n l∧zh rb r false wr∧∀x∈l,qD x.1)∨(eT n r0=none∧∃m,zh rb m true wr)
def S1 (n:Nat)(r0:Bt)(rb k:Nat)(cs:Array Value)(z:Nat)(wr:World):Prop :=
 (∃l r r1,eT k r0=some (l,r)∧Fill cs n l∧rdNum r=some (z,r1)∧zh rb r1 false wr∧∀x∈l,qD x.1)∨(eT n r0=none∧∃m,zh rb m true wr)
def S2 (n:Nat)(r0:Bt)(rb k:Nat)(cs:Array Value)(z:Nat)(t:Bt)(wr:World):Prop :=
 (∃l r,eT k r0=some (l,r)∧Fill cs n l∧(∀x∈l,qD x.1)∧∃q,eT (k+1) r0=some (l++[(((min z 1024:Nat):Int),t)],q)∧zh rb q false wr)∨(eT n r0=none∧∃m,zh rb m true wr)
def qo2 (n:Nat)(r0:Bt)(rb k:Nat)(cs:Array Value)(w:World)(e:Ending)(w':World):Prop :=
 ∃z:Nat,e=.returned (.int .u64 (z:Int))∧z<18446744073709551616∧w.grownBy w' (some rb)∧S1 n r0 rb k cs z w'
def qlm (n:Nat)(r0:Bt)(rb k:Nat)(cs:Array Value)(z:Nat)(w:World)(e:Ending)(w':World):Prop :=
 ∃t:Bt,e=.returned (.string (str t))∧w.grownBy w' (some rb)∧S2 n r0 rb k cs z t w'
theorem qh7{n:Nat}{r0:Bt}{rb k:Nat}{cs:Array Value}{w:World}(hk:k<n)(h:S0 n r0 rb k cs w):Calls prog 127 #[.pointer (some ⟨rb,0,none⟩)] w (qo2 n r0 rb k cs w):=by
 rcases h with⟨l,r,h1,h2,h3,h4⟩|⟨h1,m,h2⟩
 ·refine(uN rb r w h3).mono ?_;rintro e w' ⟨hg,⟨z,r1,hn,rfl,hr⟩|⟨hn,rfl,hm⟩⟩
  ·exact⟨z,rfl,(wR _ _ _ hn).2,hg,.inl ⟨l,r,r1,h1,h2,hn,hr,h4⟩⟩
  ·refine⟨0,rfl,by decide,hg,.inr ⟨?_,hm⟩⟩;refine n4 n (k+1) r0 (by omega) ?_;rw[dh,h1];dsimp only;have:uu r=none:=by unfold uu;rw[hn]
   rw[this]
 ·refine(lp rb m w h2).mono ?_;rintro e w' ⟨rfl,rfl⟩;exact⟨0,rfl,by decide,vF _ _,.inr ⟨h1,m,h2⟩⟩
theorem qdP{n:Nat}{r0:Bt}{rb k:Nat}{cs:Array Value}{z:Nat}{w:World}(hk:k<n)(h:S1 n r0 rb k cs z w):Calls prog 177 #[.pointer (some ⟨rb,0,none⟩)] w (qlm n r0 rb k cs z w):=by
 rcases h with⟨l,r,r1,h1,h2,hn,h3,h4⟩|⟨h1,m,h2⟩
 ·refine(qdJ rb r1 w h3).mono ?_;rintro e w' ⟨hg,⟨t,r2,ht,rfl,hr⟩|⟨ht,rfl,hm⟩⟩
  ·refine⟨t,rfl,hg,.inl ⟨l,r,h1,h2,h4,r2,?_,hr⟩⟩;rw[dh,h1];dsimp only;have:uu r=some ((((min z 1024:Nat):Int),t),r2):=by
    unfold uu;rw[hn];dsimp only;rw[ht]
   rw[this]
  ·refine⟨[],rfl,hg,.inr ⟨?_,hm⟩⟩;refine n4 n (k+1) r0 (by omega) ?_;rw[dh,h1];dsimp only;have:uu r=none:=by
    unfold uu;rw[hn];dsimp only;rw[ht]
   rw[this]
 ·refine(qh0 rb m w h2).mono ?_;rintro e w' ⟨rfl,rfl⟩;exact⟨[],rfl,vF _ _,.inr ⟨h1,m,h2⟩⟩
def qo3 (w:World)(rb g n:Nat)(r0:Bt)(i:Value)(wr:World):Prop :=
 ∃(k:Nat) (cs:Array Value),k≤n∧i=.int .i64 (k:Int)∧qg wr g 182 cs∧cs.size=n*2∧Below w.heap.size w wr∧S0 n r0 rb k cs wr
def n9 (r:Option (List Wr))(w:World)(e:Ending)(w':World):Prop :=
 Below w.heap.size w w'∧match r with
  | some l=>∃A c,e=.returned (.tuple #[.slice A l.length c,.bool true])∧kY w' A l
  | none=>∃A n c,e=.returned (.tuple #[.slice A n c,.bool false])
theorem qo4(n:Nat)(h:n≤60)(W:World):(Instr.makeSlice 136 (.int .u64 (n:Int)) (.int .u64 (n:Int))).run prog W=.ok (.slice (some ⟨W.heap.size,0,none⟩) n n) (W.alloc (.cells (madeCells #[.int .i64 0,.string ByteArray.empty] (n*2)) 182)):=by
 obtain⟨i0,hi,hz0,hz1,hz2⟩:=info_parts qld;have hmk:=run_make (P:=prog) W 136 182 i0 (.agg #[.int .i64 0,.string ByteArray.empty]) underlying136 hi hz0 .u64 .u64 (n:Int) (n:Int) (by omega) (by omega) (by rw[hz2];omega) (by omega);rw[hz1]at hmk;simpa[Value.cells]using hmk
theorem cM {rb g i:Nat}{l:Bt}{x:Bool}{W:World}{cs:Array Value}{u:Value}(h:zh rb l x W)(hB:qg W g 182 cs):zh rb l x (W.setCell ⟨g,i,none⟩ u):=by
 obtain⟨q,o,cap,h1,h2,h3,h4⟩:=h;have n1:rb≠g:=by
  rintro rfl;unfold qg at hB;rw[h1]at hB;simp at hB
 have n2:q≠g:=by
  rintro rfl;obtain⟨cs',fr,hq,_⟩:=h2;unfold qg at hB;rw[hq]at hB;simp at hB
 exact⟨q,o,cap,by rw[Below.heap_setCell W ⟨g,i,none⟩ u rb n1];exact h1,h2.keep (Below.heap_setCell W ⟨g,i,none⟩ u q n2),h3,h4⟩
theorem yM (s:ByteArray)(w:World)(hs:s.size≤140737488355328) :
    Calls prog 130 #[.string s] w (n9 (af (bl s)) w):=by
 obtain⟨res,hres⟩:=QE (af (bl s));rw[hres];have xB:=QH hres;clear hres;go_enter func130,ntmps130;go_wp2_with fail;refine(rJ s w hs).mono ?_;rintro e W1 ⟨rb,rfl,hrb,hR,b1⟩;have HR:=QH hR;have zk:=QH b1;clear hR b1;go_wp2_with fail;refine(uN rb (bl s) W1 HR.out).mono ?_;rintro e W2 ⟨g2,⟨n,r0,hn,rfl,hR2⟩|⟨hn,rfl,m,hR2⟩⟩
 ·have hres:res=if n<1∨60<n then none else match eT n r0 with|some (l,[])=>some l|_=>none:=by
     have h:=xB.out;unfold af at h;rw[hn]at h;exact h.symm
  have uQ:=QH hR2;have qG:=QH (zk.out.grown g2 zk.out.size (fun j hj=>by simp at hj;omega));clear hR2 g2 HR zk xB hn;by_cases hlo:n<1
  ·have c1:((n:Int)<1):=by omega
   rw[if_pos (.inl hlo)]at hres;subst hres;go_wp2_with fail;go_ret2;exact⟨qG.out,_,_,_,rfl⟩
  ·by_cases hhi:60<n
   ·have c1:¬ ((n:Int)<1):=by omega
    have c2:(60:Int)<(n:Int):=by omega
    rw[if_pos (.inr hhi)]at hres;subst hres;go_wp2_with fail;go_ret2;exact⟨qG.out,_,_,_,rfl⟩
   ·rw[if_neg (by omega)]at hres;have c1:¬ ((n:Int)<1):=by omega
    have c2:¬ (60:Int)<(n:Int):=by omega
    have xB:=QH hres;clear hres;have hmk:=qo4 n (by omega);have kb:qg (W2.alloc (.cells (madeCells #[.int .i64 0,.string ByteArray.empty] (n*2)) 182)) W2.heap.size _ _:=qg.new W2 _ _;have hR3:zh rb r0 false (W2.alloc (.cells (madeCells #[.int .i64 0,.string ByteArray.empty] (n*2)) 182)):=uQ.out.below ((Below.refl W2.heap.size W2).alloc (Nat.le_refl _) _);have hB3:Below w.heap.size w (W2.alloc (.cells (madeCells #[.int .i64 0,.string ByteArray.empty] (n*2)) 182)):=qG.out.alloc qG.out.size _;have hgg:w.heap.size≤W2.heap.size:=qG.out.size;have hcz:(madeCells #[.int .i64 0,.string ByteArray.empty] (n*2)).size=n*2:=size_madeCells _ _;have HCZ:=QH hcz;clear hcz;go_wp2_with fail;clear hmk;generalize W2.heap.size=g at *;generalize madeCells #[.int .i64 0,.string ByteArray.empty] (n*2)=cs0 at *;generalize W2.alloc (.cells cs0 182)=W3 at *;go_loopw [22] (fun i wr=>qo3 w rb g n r0 i wr) (fun i _=>n-(intOf i).toNat);case atStart=>exact⟨0,cs0,Nat.zero_le _,rfl,kb,HCZ.out,hB3,.inl ⟨[],r0,rfl,⟨HCZ.out,fun i h=>by simp at h⟩,hR3,fun x hx=>by cases hx⟩⟩
    case round =>
     clear kb hR3 hB3 qG uQ HCZ;obtain⟨k,cs,hk,rfl,jV,hcs,hB,hst⟩:=hrel;have js:=QH jV;have HB:=QH hB;have HST:=QH hst;clear jV hB hst;have wD:=js.out.lt;have qyv:rb≠g:=by
      intro e;have hb2:=js.out;unfold qg at hb2;rcases HST.out with⟨_,_,_,_,⟨_,_,_,h,_⟩,_⟩|⟨_,_,_,_,_,h,_⟩;all_goals
       rw[e,hb2]at h;simp at h
     by_cases hlt:k<n
     ·have oz:(k:Int)<(n:Int):=by omega
      go_wp2_with fail;refine(qh7 hlt HST.out).mono ?_;rintro e Wa ⟨z,rfl,q9L,ga,hs1⟩;have hba:qg Wa g 182 cs:=js.out.of_block (ga.block g wD (by simpa using Ne.symm qyv));have HBA:=QH hba;have eJ:=QH hs1;have zk:=QH (HB.out.grown ga HB.out.size (fun j hj=>by simp at hj;omega));have ep:=hba.lt;obtain⟨q3D,hc0⟩:∃u,cs[k*2]?=some u:=⟨_,Array.getElem?_eq_getElem (by omega)⟩;have ea:Wa.cell? ⟨g,k*2,none⟩=some q3D:=by rw[hba.cell];exact hc0
      have fa:Wa.frozen? ⟨g,k*2,none⟩=false:=hba.frozen _;have q3E:min (z:Int) 1024=((min z 1024:Nat):Int):=by omega
      have hmn:min z 1024≤1024:=Nat.min_le_right _ _;obtain⟨mz,hmz⟩:=QE (min z 1024);rw[hmz]at q3E hmn;have HMZ:=QH hmz;have hmi:(mz:Int)≤1024:=by omega
      clear hba ga hs1 hc0 hmz HB js HST;go_wp2_with fail;have hbb:=HBA.out.qo (k*2) (.int .i64 (mz:Int));have qyw:S1 n r0 rb k cs z (Wa.setCell ⟨g,k*2,none⟩ (.int .i64 (mz:Int))):=by
       rcases eJ.out with⟨l,r,r1,h1,h2,h3,h4,h5⟩|⟨h1,m,h2⟩
       ·exact .inl ⟨l,r,r1,h1,h2,h3,cM h4 HBA.out,h5⟩
       ·exact .inr ⟨h1,m,cM h2 HBA.out⟩
      have HBB:=QH hbb;have qhx:=QH qyw;have quz:=QH (zk.out.setCell (p:=⟨g,k*2,none⟩) (Nat.le_trans hgg (Nat.le_refl _)) (.int .i64 (mz:Int)));clear hbb qyw ea fa HBA eJ zk;refine(qdP hlt qhx.out).mono ?_;rintro e Wc ⟨t,rfl,gc,hs2⟩;have hbc:qg Wc g 182 (cs.setIfInBounds (k*2) (.int .i64 (mz:Int))):=HBB.out.of_block (gc.block g HBB.out.lt (by simpa using Ne.symm qyv));have HBC:=QH hbc;have uk:=QH hs2;have qG:=QH (quz.out.grown gc quz.out.size (fun j hj=>by simp at hj;omega));have hlc:=hbc.lt;obtain⟨q3H,hc1⟩:∃u,(cs.setIfInBounds (k*2) (.int .i64 (mz:Int)))[k*2+1]?=some u:=⟨_,Array.getElem?_eq_getElem (by rw[Array.size_setIfInBounds];omega)⟩;have ec:Wc.cell? ⟨g,k*2+1,none⟩=some q3H:=by rw[hbc.cell];exact hc1
      have fc:Wc.frozen? ⟨g,k*2+1,none⟩=false:=hbc.frozen _;clear hbc gc hs2 hc1 HBB qhx quz;go_wp2_with fail;go_roundw;case rel =>
       refine⟨k+1,_,by omega,by go_num,HBC.out.qo (k*2+1) (.string (str t)),by simp[hcs],qG.out.setCell (p:=⟨g,k*2+1,none⟩) (Nat.le_trans hgg (Nat.le_refl _)) _,?_⟩;rcases uk.out with⟨l,r,h1,h2,h3,q,h4,h5⟩|⟨h1,m,h2⟩
       ·have hl:=iX k r0 l r h1;subst hl;rw[HMZ.out]at h4;refine .inl ⟨_,q,h4,qh6 h2 hlt ((mz:Int),t),cM h5 HBC.out,fun x hx=>?_⟩;rcases List.mem_append.1 hx with hx|hx
        ·exact h3 x hx
        ·obtain rfl:x=_:=by simpa using hx
         unfold qD;dsimp only;omega
       ·exact .inr ⟨h1,m,cM h2 HBC.out⟩
      case measure=>simp[intOf];omega
     ·obtain rfl:k=n:=by omega
      have hres:=xB.out;rcases HST.out with⟨l,r,h1,h2,h3,h4⟩|⟨h1,m,h2⟩
      ·have hl:=iX k r0 l r h1;rw[h1]at hres;have H3:=QH h3;have H2:=QH h2;have H4:=QH h4;have oC:=QH hres;clear h1 h2 h3 h4 hres xB HST;go_wp2_with (go_at_call 178;refine(qll rb r _ H3.out).mono ?_;rintro e w' ⟨rfl,rfl⟩);go_ret2;refine⟨HB.out,?_⟩;rw[oC.out];cases r with
       | nil =>
        subst hl;refine⟨_,_,rfl,fun i hi=>⟨g,0,rfl,wD,?_,?_,H4.out _ (List.getElem_mem hi)⟩⟩
        ·rw[Nat.zero_add,js.out.cell];exact(H2.out.2 i hi).1
        ·rw[Nat.zero_add,js.out.cell];exact(H2.out.2 i hi).2
       | cons x r=>exact⟨_,_,_,rfl⟩
      ·rw[h1]at hres;dsimp only at hres;have H2:=QH h2;have oC:=QH hres;clear h1 h2 hres xB HST;go_wp2_with (go_at_call 178;refine(qo1 rb m _ H2.out).mono ?_;rintro e w' ⟨rfl,rfl⟩);go_ret2;refine⟨HB.out,?_⟩;rw[oC.out];exact⟨_,_,_,rfl⟩
 ·have hres:res=none:=by rw[← xB.out];unfold af;rw[hn]
  subst hres;have qG:=QH (zk.out.grown g2 zk.out.size (fun j hj=>by simp at hj;omega));clear hR2 g2 HR zk;go_wp2_with fail;go_ret2;exact⟨qG.out,_,_,_,rfl⟩
theorem tj (s:qA)(a k:Nat):zO s a (k+1)=zO s a k++[rd s ((1+a*72+k:Nat):Int)]:=by
 unfold zO;rw[List.range_succ,List.map_append];rfl
theorem iu (s:qA)(a k:Nat):(zO s a k).length=k:=by simp[zO]
def qu0 (w:World)(s:qA)(a c:Nat)(v i:Value)(wr:World):Prop :=
 ∃k:Nat,k≤c∧i=.int .i64 (k:Int)∧zH wr w.heap.size v (zO s a k)∧Below w.heap.size w wr
theorem qdQ{most:Nat}{w:World}{own:Nat→Prop}{p:Nat}{d:DD}(h:zj most w own p d)(zK:d.on=true)(hn:145<d.n)(a c:Nat)(ha:a<2)(hc:c≤72)(ht:xC w) :
    Calls prog 85 #[.agg #[.int .i64 (a:Int),.int .i64 (c:Int)],.pointer (some ⟨p,0,none⟩)] w (n9 (gH d.now a c) w):=by
 obtain⟨i0,hi,hz0,hz1,hz2⟩:=info_parts Tryz.qja;have HD:=QH h;have HT:=QH ht;have hg:=ht.1;have HOK:=QH h.1;have ck:∀k,k<c→d.read ((1+a*72+k:Nat):Int)=(rd d.now ((1+a*72+k:Nat):Int),0):=by
  intro k hk;unfold DD.read;have:d.has ((1+a*72+k:Nat):Int)=true:=by
   have h72:a*72≤72:=by omega
   simp only[DD.has,Bool.and_eq_true,decide_eq_true_eq];omega
  rw[if_neg (by rw[zK];simp),if_neg (by rw[this];simp)];rfl
 have h32:∀k,(rd d.now ((1+a*72+k:Nat):Int)).length=32:=by
  intro k;unfold rd;cases hx:dk.look d.now ((1+a*72+k:Nat):Int)with
  | none=>exact qI
  | some u=>exact HOK.out.pA hx
 have H32:=QH h32;have xJ:=QH ck;have qh5:=fun(W:World)=>pW a c ha W;have HF:=QH qh5;obtain⟨res,hres⟩:=QE (gH d.now a c);rw[hres];have xB:=QH hres;have kb:qg (w.alloc (.cells #[.int .i64 (a:Int),.int .i64 (c:Int)] 149)) w.heap.size _ _:=qg.new w _ _;have k0:=kb.lt;have hb0:Below w.heap.size w (w.alloc (.cells #[.int .i64 (a:Int),.int .i64 (c:Int)] 149)):=(Below.refl w.heap.size w).alloc (Nat.le_refl _) _;clear h ht ck h32 qh5 hres;go_enter func85,ntmps85;go_wp2_with fail;obtain⟨w0,hw0⟩:=QE (w.alloc (.cells #[.int .i64 (a:Int),.int .i64 (c:Int)] 149));rw[hw0]at kb k0 hb0;rw[hw0];clear hw0;have KB:=QH kb;have uj:=QH hb0;clear kb hb0;go_loopw [6,14] (fun v i wr=>qu0 w0 d.now a c v i wr) (fun _ i _=>c-(intOf i).toNat);case atStart=>exact⟨0,Nat.zero_le _,rfl,World.ownsRow_nil _ _ _ _,Below.refl _ _⟩
 case round =>
  obtain⟨k,hk,rfl,ho,hB⟩:=hrel;have HO:=QH ho;have HB:=QH hB;have jZ:=QH (uj.out.trans (hB.mono uj.out.size));clear ho hB;by_cases hlt:k<c
  ·have hkb:qg wr w.heap.size _ _:=KB.out.of_block (HB.out.block _ k0);have q0:=hkb.cell 0;have q1:=hkb.cell 1;have lt2:=hkb.lt;have oz:(k:Int)<(c:Int):=by omega
   have hsn:=tj d.now a k;have hr1:=xJ.out k hlt;have q9O:=H32.out k;have dB:=iu d.now a k;clear hkb;generalize rd d.now ((1+a*72+k:Nat):Int)=x at *;have wM:=QH hsn;have HR1:=QH hr1;have az:=QH dB;obtain⟨o1,ho1⟩:=QE (1+a*72);have qyt:o1≤73:=by omega
   have HF1:=HF;rw[ho1]at HF1 HR1;have hadd:(o1:Int)+(k:Int)=((o1+k:Nat):Int):=by omega
   have HAD:=QH hadd;clear hsn hr1 ho1 hadd;go_wp2_with fail;refine(HF1.out _).mono ?_;rintro e W1 ⟨rfl,b1⟩;have ho1:=dO HO.out b1;have sT:=QH ho1;have zk:=QH (HB.out.trans (b1.mono HB.out.size));clear b1 ho1 q0 q1;go_wp2_with fail;rw[HAD.out];have HBX:=QH (uj.out.trans (zk.out.mono uj.out.size));refine(qfr (B:=0) ⟨own,HD.out.below HBX.out,fun _ _=>Nat.zero_le _⟩ ((o1+k:Nat):Int) x (str x) rfl 0 HR1.out).mono ?_;rintro e W2 ⟨rfl,_,b2⟩;have ho2:=dO sT.out b2;rw[show zH W2 w0.heap.size _ (zO d.now a k)=W2.ownsRow w0.heap.size 9 1 _ (zO d.now a k).length (yi (zO d.now a k))from rfl]at ho2;have qG:=QH (zk.out.trans (b2.mono zk.out.size));have hown2:=ho2.alloc (.cells #[.string (str x)] 9);have hnews:=cI W2 9 (.string (str x));have uF:=QH hown2;have fu:=QH hnews;have zf:=QH (qG.out.alloc qG.out.size (.cells #[.string (str x)] 9));clear b2 ho2 hown2 hnews HO sT;have hkb:k≤1000:=by omega
   go_wp2_with (at_builtin;refine wpList_append_own _ rfl (.tmp 28) (.tmp 30) 43 rfl w0.heap.size 9 i0 (.string ByteArray.empty) 1 16 underlying43 hi hz0 hz1 hz2 rfl (by decide) _ (zO d.now a k).length _ rfl uF.out ⟨W2.heap.size,0,none⟩ 1 1 [.string (str x)] rfl rfl fu.out (fun u hu=>by simp at hu;subst hu;rfl) ?_ ?_ zf.out.size ?_)
   ·rw[az.out];unfold maxLen;omega
   ·rw[az.out];omega
   ·intro v' w1 hown1 hgrow _;have hb1:=zf.out.grown hgrow zf.out.size (fun j hj=>(uF.out.lt j hj).1);have hos:zH w1 w0.heap.size v' (zO d.now a k++[x]):=by
     unfold zH;rw[cq,List.length_append];rw[az.out];first|exact hown1|(rw[az.out]at hown1;exact hown1)
    have HOS:=QH hos;have zU:=QH hb1;clear hb1 hos hown1 hgrow;go_wp2_with fail;go_roundw;case rel=>exact⟨k+1,by omega,by go_num,by rw[wM.out];exact HOS.out,zU.out⟩
    case measure=>simp[intOf];omega
  ·obtain rfl:k=c:=by omega
   obtain⟨A,cc,rfl,_,_,hsa,_,_⟩:=HO.out.view;have dB:=iu d.now a k;have HSA:=QH hsa;have ew:=HT.out.below jZ.out hg;have wK:=QH ew;clear hsa ew;have hres:=xB.out;unfold gH at hres;have wC:(zO d.now a k).flatten.length≤100000:=by
    rw[ve _ (fun i hi=>by simp only[zO,List.getElem_map,List.getElem_range];exact H32.out i),dB];omega
   have HFL:=QH wC;clear wC;generalize zO d.now a k=ps at *;have HLP:=QH dB;by_cases hx:∃t,uB ps t
   ·obtain⟨t,htx⟩:=hx;have hun:unB ps=some t:=by
     have hx:∃u,uB ps u:=⟨t,htx⟩;unfold unB;rw[dif_pos hx];exact congrArg some (lW _ _ _ hx.choose_spec htx)
    rw[hun]at hres;have HR:=QH (show af t=res from hres);have HTX:=QH htx;clear hres hun htx dB;go_wp2_with fail;refine(ij A cc ps t _ HSA.out HTX.out wK.out).mono ?_;rintro e W3 ⟨rfl,b3⟩;have zf:=QH (jZ.out.trans (b3.mono jZ.out.size));clear b3;go_wp2_with fail;refine(yM (str t) _ (by rw[qO];have:=HTX.out.1;omega)).mono ?_;rintro e W4 ⟨b4,hq⟩;rw[zo,HR.out]at hq;have zU:=QH (zf.out.trans (b4.mono zf.out.size));clear b4;cases res with
    | some l =>
     obtain⟨A2,c2,rfl,hw⟩:=hq;have HW:=QH hw;clear hw;go_wp2_with fail;go_ret2;exact⟨zU.out,_,_,rfl,HW.out⟩
    | none =>
     obtain⟨A2,n2,c2,rfl⟩:=hq;go_wp2_with fail;go_ret2;exact⟨zU.out,_,_,_,rfl⟩
   ·have hun:unB ps=none:=by
       unfold unB;rw[dif_neg hx]
    rw[hun]at hres;have qy0:none=res:=hres;subst qy0;have HX:=QH hx;clear hres hun hx dB;go_wp2_with fail;refine(ik A cc ps _ HSA.out (by have:=HLP.out;omega) HFL.out (fun t ht=>HX.out ⟨t,ht⟩) wK.out).mono ?_;rintro e W3 ⟨rfl,b3⟩;have zf:=QH (jZ.out.trans (b3.mono jZ.out.size));clear b3;go_wp2_with fail;go_ret2;exact⟨zf.out,_,_,_,rfl⟩
def qo5 (N:Nat)(l:List Wr)(w:World)(i:Value)(wr:World):Prop :=
 ∃k:Nat,k≤l.length∧i=.int .i64 (k:Int)∧yh wr w.heap.size (found [] (l.take k))∧(l.take k).all (okW N)=true∧Below w.heap.size w wr
theorem qdR(l:List Wr)(k:Nat)(h:k<l.length):found [] (l.take (k+1))=xM (found [] (l.take k)) l[k].1:=by
 rw[List.take_succ_eq_append_getElem h];unfold found;rw[List.foldl_append];rfl
theorem qb7{w wr:World}(h:Below w.heap.size w wr)(n:Nat):Below w.heap.size w (wr.drewN n):=⟨h.os,h.tape,h.output,h.size,h.block⟩
theorem qb8{most:Nat}{w:World}{own:Nat→Prop}{p:Nat}{d:DD}(h:zj most w own p d)(a:Option Addr)(c:Nat)(l:List Wr)(hT:kY w a l)(hl:l.length≤1000000) :
    Calls prog 86 #[.pointer (some ⟨p,0,none⟩),.slice a l.length c] w (okB (uC d.n l) w):=by
 obtain⟨h0,m,v,hd⟩:=h;have HD:=QH hd;have HN:=QH h0.n1;have HT:=QH hT;have hmm:=@run_makeMap prog;clear h0 hd hT;go_enter func86,ntmps86;go_wp2_with fail;clear hmm;go_loopw [11] (fun i wr=>qo5 d.n l w i wr) (fun i _=>l.length-(intOf i).toNat);case atStart=>exact⟨0,Nat.zero_le _,rfl,yh.made w,rfl,(Below.refl _ w).alloc (Nat.le_refl _) _⟩
 case round =>
  obtain⟨k,hk,rfl,hs,hall,hB⟩:=hrel;have HS:=QH hs;have HB:=QH hB;have HA:=QH hall;clear hs hB hall;by_cases hlt:k<l.length
  ·obtain⟨b,o,rfl,hb,q0,q1,qb⟩:=HT.out k hlt;have hfs:=qdR l k hlt;have qy1:(l.take (k+1)).all (okW d.n)=((l.take k).all (okW d.n)&&okW d.n l[k]):=by rw[List.take_succ_eq_append_getElem hlt,List.all_append,List.all_cons,List.all_nil,Bool.and_true]
   have hin:okW d.n l[k]=false→uC d.n l=false:=fun hh=>by
    unfold uC;rw[Bool.and_eq_false_iff]
    left
    rw[List.all_eq_false];exact⟨l[k],List.getElem_mem hlt,by rw[hh];simp⟩
   generalize hxx:l[k]=x at *;have e0:wr.cell? ⟨b,o+k*2,none⟩=some (.int .i64 x.1):=by rw[HB.out.cell (p:=⟨b,o+k*2,none⟩) hb];exact q0
   have e1:wr.cell? ⟨b,o+k*2+1,none⟩=some (.string (str x.2)):=by rw[HB.out.cell (p:=⟨b,o+k*2+1,none⟩) hb];exact q1
   have hb2:b<wr.heap.size:=Nat.lt_of_lt_of_le hb HB.out.size;have oz:(k:Int)<(l.length:Int):=by omega
   have HF:=QH hfs;have HAS:=QH qy1;have HIN:=QH hin;have HQB:=QH qb;clear q0 q1 hfs qy1 hin qb hxx;have d0:wr.cell? ⟨p,0,none⟩=some (.int .i64 (d.n:Int)):=by rw[HB.out.cell (p:=⟨p,0,none⟩) HD.out.1.lt];exact HD.out.1.cell 0
   have hpl:p<wr.heap.size:=Nat.lt_of_lt_of_le HD.out.1.lt HB.out.size;have hdw:∀n,kP ((wr.alloc (.cells #[.int .i64 x.1,.string (str x.2)] 182)).drewN n) own p m v d:=fun n=>by
    have hb':=qb7 (HB.out.alloc HB.out.size (.cells #[.int .i64 x.1,.string (str x.2)] 182)) n;exact HD.out.keep hb'.size (fun j hj=>hb'.block j (HD.out.2.2.2.2.2.2 j hj))
   have dB:∀n,Calls prog 45 #[.pointer (some ⟨p,0,none⟩)] ((wr.alloc (.cells #[.int .i64 x.1,.string (str x.2)] 182)).drewN n) fun e w'=>e=.returned (.int .i64 (d.n:Int))∧w'=(wr.alloc (.cells #[.int .i64 x.1,.string (str x.2)] 182)).drewN n:=fun n=>(sf (hdw n)).mono fun e w' g=>⟨g.1,g.2.symm⟩;have az:=QH dB;clear hdw dB;by_cases c1:x.1<145
   ·have hf:=QH (HIN.out (by simp[okW];omega));go_wp2_with fail;go_quiet (fail);go_wp2_with fail;go_ret;exact⟨by rw[hf.out];rfl,qb7 (HB.out.alloc HB.out.size _) _⟩
   ·have c1':decide (x.1<145)=false:=by simpa using c1
    by_cases c2:(d.n:Int)≤x.1
    ·have hf:=QH (HIN.out (by simp[okW];omega));go_wp2_with fail;go_quiet (first|(go_at_call 45;exact Calls.quiet_of_same (az.out _)));go_wp2_with fail;go_ret;exact⟨by rw[hf.out];rfl,qb7 (HB.out.alloc HB.out.size _) _⟩
    ·have c2':decide ((d.n:Int)≤x.1)=false:=by simpa using c2
     by_cases c3:x.2.length=32
     ·have c3':(((str x.2).size:Int) != 32)=false:=by rw[bne_eq_false_iff_eq,qO];omega
      have jq:okW d.n x=true:=by simp[okW];omega
      have HOK:=QH jq;clear jq;go_wp2_with fail;go_quiet (first|(go_at_call 45;exact Calls.quiet_of_same (az.out _)));have hsw:yh ((wr.alloc (.cells #[.int .i64 x.1,.string (str x.2)] 182)).drewN nq) w.heap.size (found [] (l.take k)):=HS.out.of_block (Below.heap_alloc wr _ _ HS.out.lt);have HSW:=QH hsw;have jZ:=QH (qb7 (HB.out.alloc HB.out.size (.cells #[.int .i64 x.1,.string (str x.2)] 182)) nq);have wC:(found [] (l.take k)).length<maxLen:=by
       have:=qgN (l.take k) [];simp at this;unfold maxLen;omega
      have HFL:=QH wC;clear hsw wC;go_wp2_with (at_mapUpdate;refine uX rfl _ _ _ rfl rfl HSW.out x.1 rfl rfl HQB.out.1 HQB.out.2 HFL.out ?_;intro w2 hs2 lM;have uk:=QH hs2;have qG:=QH (yq lM);clear hs2 lM);go_roundw;case rel=>exact⟨k+1,by omega,by go_num,by rw[HF.out];exact uk.out,by rw[HAS.out,HA.out,HOK.out];rfl,jZ.out.trans (qG.out.below (fun i e=>by subst e;exact Nat.le_refl _) jZ.out.size)⟩
      case measure=>simp[intOf];omega
     ·have c3':(((str x.2).size:Int) != 32)=true:=by rw[bne_iff_ne,qO];omega
      have hf:=QH (HIN.out (by simp[okW];omega));go_wp2_with fail;go_quiet (first|(go_at_call 45;exact Calls.quiet_of_same (az.out _)));go_wp2_with fail;go_ret;exact⟨by rw[hf.out];rfl,qb7 (HB.out.alloc HB.out.size _) _⟩
  ·obtain rfl:k=l.length:=by omega
   have dB:=QH (HS.out);have hres:uC d.n l=((((found [] l).length:Int)) == (l.length:Int)):=by
    have ha:=HA.out;rw[List.take_length]at ha;unfold uC;rw[ha,Bool.true_and,Bool.eq_iff_iff];simp;omega
   have HR:=QH hres;clear hres;go_wp2_with (at_len;refine ql rfl (bM _ rfl rfl HS.out) ?_);go_ret;exact⟨by rw[HR.out];rfl,HB.out⟩
def qlo:Prop:=∀(a c:Nat) (w:World),a<2→c≤72 →
 Calls prog 128 #[.agg #[.int .i64 (a:Int),.int .i64 (c:Int)]] w fun e w'=>e=.returned (.agg #[.int .i64 0,.string (str (jR a c))])∧Below w.heap.size w w'
def na (r:Option (Nat × Nat))(w:World)(e:Ending)(w':World):Prop :=
 Below w.heap.size w w'∧match r with
  | some (a,c)=>e=.returned (.tuple #[.agg #[.int .i64 (a:Int),.int .i64 (c:Int)],.bool true])
  | none=>∃x y:Int,e=.returned (.tuple #[.agg #[.int .i64 x,.int .i64 y],.bool false])
def qlp:Prop:=∀(most:Nat) (w:World) (own:Nat→Prop) (p:Nat) (d:DD),zj most w own p d→d.on=true→0<d.n →
 Calls prog 84 #[.pointer (some ⟨p,0,none⟩)] w (na (wI (rd d.now 0)) w)
section
variable {most:Nat} {w:World} {own:Nat→Prop} {p:Nat} {d:DD}
theorem qb9{W:World}{A:Option Addr}{c:Nat}{l:List Wr}(h:kY W A l):qb1 (W.alloc (.cells #[.slice A l.length c] 136)) (some ⟨W.heap.size,0,none⟩) [l]:=fun i hi=>by
 obtain rfl:i=0:=by simp at hi;exact hi
 exact⟨W.heap.size,0,A,c,rfl,by simp,(qg.new W _ _).cell 0,h.below ((Below.refl W.heap.size W).alloc (Nat.le_refl _) _) (Nat.le_refl _)⟩
theorem qbA{W:World}(k:Int)(x:Bt)(hk:qD k):kY (W.alloc (.cells #[.int .i64 k,.string (str x)] 182)) (some ⟨W.heap.size,0,none⟩) [(k,x)]:=fun i hi=>by
 obtain rfl:i=0:=by simp at hi;exact hi
 exact⟨W.heap.size,0,rfl,by simp,(qg.new W _ _).cell 0,(qg.new W _ _).cell 1,hk⟩
theorem qdS(HW:qlo)(h:zj most w own p d)(hm:d.more.length+2≤most)(yF:most≤100000) :
    Calls prog 117 #[.pointer (some ⟨p,0,none⟩)] w (xd most own p (ky d).2 (.int .i64 (ky d).1) w):=by
 have HD:=QH h;have HP:=QH (dP h);obtain⟨h0,m,v,hd⟩:=h;have HL:=QH (sf hd);have hpl:=hd.1.lt;have HW':=QH HW;clear h0 hd HW;unfold ky;cases zK:d.on with
 | false =>
  rw[zK]at HP;rw[if_pos rfl];go_enter func117,ntmps117;go_wp2_with (go_at_call 83;refine HP.out.mono ?_;rintro e w' ⟨rfl,rfl⟩);go_ret;exact⟨rfl,own,HD.out,qB.refl _ _,kQ.refl _ _⟩
 | true =>
  rw[zK]at HP;rw[if_neg (by simp)];by_cases hn:d.n≤145
  ·rw[if_pos hn];have hn':(d.n:Int)≤145:=by omega
   go_enter func117,ntmps117;go_wp2_with (first|(go_at_call 83;refine HP.out.mono ?_;rintro e w' ⟨rfl,rfl⟩)|(go_at_call 45;refine HL.out.mono ?_;rintro e w' ⟨rfl,rfl⟩));go_ret;exact⟨rfl,own,HD.out,qB.refl _ _,kQ.refl _ _⟩
  ·rw[if_neg hn];have hn':¬ (d.n:Int)≤145:=by omega
   go_enter func117,ntmps117;go_wp2_with (first|(go_at_call 83;refine HP.out.mono ?_;rintro e w' ⟨rfl,rfl⟩)|(go_at_call 45;refine HL.out.mono ?_;rintro e w' ⟨rfl,rfl⟩));refine(HW'.out 0 0 _ (by decide) (by decide)).mono ?_;rintro e W1 ⟨rfl,b1⟩;have zk:=QH b1;clear b1;go_wp2_with fail;have hb2:Below w.heap.size w ((W1.alloc (.cells #[.int .i64 0,.string (str (jR 0 0))] 182)).alloc (.cells #[.slice (some ⟨W1.heap.size,0,none⟩) 1 1] 136)):=(zv zk.out _).alloc (zv zk.out _).size _;have hw1:=qbA (W:=W1) 0 (jR 0 0) (by unfold qD;omega);have hbs:=qb9 (c:=1) hw1;have hsz:(W1.alloc (.cells #[.int .i64 0,.string (str (jR 0 0))] 182)).heap.size=W1.heap.size+1:=by simp
   rw[hsz]at hbs;have qG:=QH hb2;have HBS:=QH hbs;clear hw1 hbs hsz hb2;refine(df p _ 1 [[(0,jR 0 0)]] _ (Nat.lt_of_lt_of_le hpl qG.out.size) HBS.out (by decide) (fun l hl=>by simp at hl;subst hl;decide)).mono ?_;rintro e W3 ⟨v,rfl,hg⟩;have HG:=QH hg;clear hg;go_wp2_with fail;refine(fz (HD.out.below qG.out) HG.out (by simpa[qF,jv]using hm) yF).mono ?_;rintro e W4 xP;have HPO:=QH (xd.from xP qG.out HD.out.low);obtain⟨rfl,_⟩:=xP;go_wp2_with fail;go_ret;exact HPO.out
end
end Go.Proofs.YtdagdllomphidaaGreatDoor.jr
namespace Go.Proofs.YtdagdllomphidaaGreatDoor.jr
open _root_.Go.Proofs.Tryz Go Go.RowKit dk wi
section
variable {most:Nat} {w:World} {own:Nat→Prop} {p:Nat} {d:DD}
theorem nb {r:Option (List Wr)}{w:World}{e:Ending}{w':World}(h:n9 r w e w'):Below w.heap.size w w'∧((∃l A c,r=some l∧e=.returned (.tuple #[.slice A l.length c,.bool true])∧kY w' A l)∨(r=none∧∃A n c,e=.returned (.tuple #[.slice A n c,.bool false]))):=by
 obtain⟨h1,h2⟩:=h;refine⟨h1,?_⟩;cases r with
 | some l =>
  obtain⟨A,c,g1,g2⟩:=h2;exact .inl ⟨l,A,c,rfl,g1,g2⟩
 | none =>
  obtain⟨A,n,c,g⟩:=h2;exact .inr ⟨rfl,A,n,c,g⟩
theorem ua {r:Option (Nat × Nat)}{w:World}{e:Ending}{w':World}(h:na r w e w'):Below w.heap.size w w'∧((∃a c:Nat,r=some (a,c)∧e=.returned (.tuple #[.agg #[.int .i64 (a:Int),.int .i64 (c:Int)],.bool true]))∨(r=none∧∃x y:Int,e=.returned (.tuple #[.agg #[.int .i64 x,.int .i64 y],.bool false]))):=by
 obtain⟨h1,h2⟩:=h;refine⟨h1,?_⟩;cases r with
 | some q =>
  obtain⟨a,c⟩:=q;exact .inl ⟨a,c,rfl,h2⟩
 | none =>
  obtain⟨x,y,g⟩:=h2;exact .inr ⟨rfl,x,y,g⟩
theorem xm {w':World}{r:Value}(h:zj most w own p d)(hb:Below w.heap.size w w'):xd most own p d r w (.returned r) w':=⟨rfl,own,h.below hb,qB.of_below hb,kQ.refl _ _⟩
theorem qh8{t:Bt}{l:List Wr}(h:af t=some l):l.length≤60:=by
 unfold af at h;cases hn:rdNum t with
 | none=>rw[hn]at h;cases h
 | some q =>
  obtain⟨n,r⟩:=q;rw[hn]at h;dsimp only at h;split at h
  ·cases h
  ·rename_i hh;cases hr:eT n r with
   | none=>rw[hr]at h;cases h
   | some q2 =>
    obtain⟨l2,r2⟩:=q2;have hl:=iX n r l2 r2 hr;rw[hr]at h;cases r2 with
    | nil =>
     simp at h;subst h;omega
    | cons=>cases h
theorem qh9{s:qA}{a c:Nat}{l:List Wr}(h:gH s a c=some l):l.length≤60:=by
 unfold gH at h;cases hu:unB (zO s a c)with
 | none=>rw[hu]at h;cases h
 | some t=>rw[hu]at h;exact qh8 h
theorem oD (HR:qlp)(h:zj most w own p d)(hn:145<d.n)(ht:xC w)(hm:d.more.length+100≤most)(yF:most≤100000) :
    Calls prog 41 #[.pointer (some ⟨p,0,none⟩)] w (xd most own p (xa d).2 (.int .i64 (xa d).1) w):=by
 have HD:=QH h;have HP:=QH (dP h);have hpl:p<w.heap.size:=by obtain⟨_,_,_,hd⟩:=h;exact hd.1.lt
 have HT:=QH ht;have hg:=ht.1;have HH:=QH HR;clear ht HR h;obtain⟨R,hR⟩:=QE (xa d);rw[hR];unfold xa at hR;cases zK:d.on with
 | false =>
  rw[zK]at HP;rw[if_pos zK]at hR;subst hR;go_enter func41,ntmps41;go_wp2_with (go_at_call 83;refine HP.out.mono ?_;rintro e w' ⟨rfl,rfl⟩);go_ret;exact xm HD.out (Below.refl _ _)
 | true =>
  rw[zK]at HP;rw[if_neg (by rw[zK];simp)]at hR;have eo:=QH hR;have HON:=QH zK;clear hR zK;go_enter func41,ntmps41;go_wp2_with (go_at_call 83;refine HP.out.mono ?_;rintro e w' ⟨rfl,rfl⟩);refine(HH.out most w own p d HD.out HON.out (by omega)).mono ?_;intro e W1 xP;obtain⟨b1,⟨a,c,hq,rfl⟩|⟨hq,x,y,rfl⟩⟩:=ua xP
  ·have ug:=eo.out;rw[hq]at ug;dsimp only at ug;obtain⟨ha,hc,_⟩:=kE hq;have zk:=QH b1;clear b1 xP hq eo;by_cases hc0:c=0
   ·subst hc0;rw[if_pos rfl]at ug;subst ug;go_wp2_with fail;go_ret;exact xm HD.out (zv zk.out _)
   ·rw[if_neg hc0]at ug;have q9T:((c:Int) == 0)=false:=by simpa using hc0
    have hkb:qg (W1.alloc (.cells #[.int .i64 (a:Int),.int .i64 (c:Int)] 149)) W1.heap.size _ _:=qg.new W1 _ _;have qG:=QH (zv zk.out (.cells #[.int .i64 (a:Int),.int .i64 (c:Int)] 149));have eo:=QH ug;clear ug hkb;go_wp2_with fail;refine(qdQ (HD.out.below qG.out) HON.out hn a c ha hc (HT.out.below qG.out hg)).mono ?_;intro e W3 xP;obtain⟨b3,⟨l,A,c3,hq,rfl,hw⟩|⟨hq,A,n3,c3,rfl⟩⟩:=nb xP
    ·have ug:=eo.out;rw[hq]at ug;dsimp only at ug;have qu3:=qh9 hq;have zf:=QH (q9 qG.out b3);have HW:=QH hw;clear xP b3 hw hq eo;have nQ:=QH (qb8 (HD.out.below zf.out) A c3 l HW.out (by omega));cases hps:uC d.n l with
     | false =>
      rw[hps]at nQ ug;rw[if_pos rfl]at ug;subst ug;go_wp2_with (go_at_call 86;refine nQ.out.mono ?_;rintro e w' ⟨rfl,b4⟩);go_wp2_with fail;go_ret;exact xm HD.out (q9 zf.out b4)
     | true =>
      rw[hps]at nQ ug;rw[if_neg (by simp)]at ug;have eo:=QH ug;clear ug;go_wp2_with (go_at_call 86;refine nQ.out.mono ?_);rintro e W4 ⟨rfl,b4⟩;have zU:=QH (q9 zf.out b4);have HW4:=QH (HW.out.below b4 (Nat.le_refl _));clear b4 HW;go_wp2_with fail;have HBS:=QH (qb9 (c:=c3) HW4.out);have jt:=QH (zv zU.out (.cells #[.slice A l.length c3] 136));refine(df p _ 1 [l] _ (Nat.lt_of_lt_of_le hpl jt.out.size) HBS.out (by simp) (fun m hm2=>by simp at hm2;subst hm2;omega)).mono ?_;rintro e W5 ⟨v,rfl,hgg⟩;have HG:=QH hgg;clear hgg;go_wp2_with fail;refine(fz (HD.out.below jt.out) HG.out (by simp[qF,jv];omega) yF).mono ?_;rintro e W6 xP;have HPO:=QH (xd.from xP jt.out HD.out.low);obtain⟨rfl,_⟩:=xP;rw[eo.out]at HPO ⊢;go_wp2_with fail;go_ret;exact HPO.out
    ·have ug:=eo.out;rw[hq]at ug;dsimp only at ug;subst ug;have zf:=QH (q9 qG.out b3);clear xP b3 hq eo;go_wp2_with fail;go_ret;exact xm HD.out zf.out
  ·have ug:=eo.out;rw[hq]at ug;dsimp only at ug;subst ug;have zk:=QH b1;clear b1 xP hq eo;go_wp2_with fail;go_ret;exact xm HD.out (zv zk.out _)
end
end Go.Proofs.YtdagdllomphidaaGreatDoor.jr
namespace Go.Proofs.YtdagdllomphidaaGreatDoor.vt.pg
open _root_.Go.Proofs.Tryz Go Go.RowKit Go.Sort ib mt im sp
theorem qo6:prog.follows .mixedOrders=true:=by kernel_rfl
theorem tq {N:Nat}{t:Tg}{d:DD}(h:jr.JJ N t d)(k:Int)(h0:145≤k)(h1:k<(N:Int)):d.read k=(t k,0):=by
 have hn:d.n=N:=h.rb.1;have qkj:d.now=d.base:=by unfold dk.DD.now;rw[h.more];rfl
 unfold dk.DD.read;have:d.has k=true:=by
  unfold dk.DD.has;rw[hn];simp;omega
 rw[if_neg (by rw[h.on];simp),if_neg (by rw[this];simp),qkj];exact congrArg (fun x=>(x,(0:Int))) (h.is k h0)
theorem fA {w:World}{o:Nat→Prop}{pd:Nat}{d:DD}(h:dk.zj 1000 w o pd d)(k:Int):Calls prog 89 #[pt pd,.int .i64 k] w (dk.uW (d.read k) w):=by
 obtain⟨h0,m,v,h1⟩:=h;unfold dk.DD.read;by_cases zK:d.on=false
 ·rw[if_pos zK];exact dk.qaJ h1 zK k
 ·rw[if_neg zK];by_cases hh:d.has k=false
  ·rw[if_pos hh];exact dk.qaK h1 (by simpa using zK) k hh
  ·rw[if_neg hh];exact dk.qeU h0 h1 (by simpa using zK) k (by simpa using hh)
theorem cN {w:World}{o:Nat→Prop}{pd:Nat}{d:DD}(h:dk.zj 1000 w o pd d):Calls prog 45 #[pt pd] w fun e w'=>e=.returned (.int .i64 (d.n:Int))∧w=w':=by
 obtain⟨h0,m,v,h1⟩:=h;exact dk.sf h1
theorem qfu{w:World}{o:Nat→Prop}{pd:Nat}{d:DD}(h:dk.zj 1000 w o pd d):Calls prog 99 #[pt pd] w fun e w'=>e=.returned (.bool d.on)∧w=w':=by
 obtain⟨h0,m,v,h1⟩:=h;exact dk.qjT h1
section
variable {o1 o2:Nat→Prop} {w:World} {v pd N:Nat} {d:DD} {m:Mt} {l:Bool} {t:Tg}
theorem qfv(h:VP jg w o1 o2 v pd d m l):v<w.heap.size∧w.cell? ⟨v,9,none⟩=some (pt pd)∧w.cell? ⟨v,10,none⟩=some (.bool l):=by
 obtain⟨A0,A1,A2,c0,c1,c2,h1⟩:=h.is;exact⟨h1.cells.lt,h1.cells.k9,h1.cells.aR⟩
theorem qhA(h:VP jg w o1 o2 v pd d m l)(hJ:jr.JJ N t d)(x:Wr)(h0:145≤x.1)(h1:x.1<(N:Int)):Calls prog 106 #[pt v,.agg #[.int .i64 x.1,.string (str x.2)]] w (wU (decide (t x.1=x.2)) w):=by
 obtain⟨xk,xs⟩:=x;dsimp only at h0 h1 ⊢;have hb1:=(Below.refl _ w).alloc (Nat.le_refl _) (.cells #[.int .i64 xk,.string (str xs)] 182);have zN:=qg.new w 182 #[.int .i64 xk,.string (str xs)];obtain⟨W,hW⟩:=QE (w.alloc (.cells #[.int .i64 xk,.string (str xs)] 182));rw[hW]at hb1 zN;have h2:=qN h hb1;have ck:=tq hJ xk h0 h1;obtain⟨q1,q2,q3⟩:=qfv h2;have p0:=zN.cell 0;have p1:=zN.cell 1;have hpl:=zN.lt;simp only[QA,QB,QC]at p0 p1;have e0:=fun d os=>cell_regrown p0 d os;have e1:=fun d os=>cell_regrown p1 d os;have e2:=fun d os=>cell_regrown q2 d os;have cR:∀b os,Calls prog 89 #[pt pd,.int .i64 xk] (grow (redrawn W b) os) fun e w''=>e=.returned (.tuple #[.string (str (t xk)),.int .i64 0])∧∃q:Regrown,w''=grow (redrawn W q.d) q.os :=
  fun b os=>by
   have:=fA (qN h2 (below_regrown W b os)).dk xk;rw[ck]at this;exact Calls.regrown_of this
 have hq:((str (t xk)).toList == (str xs).toList)=decide (t xk=xs):=by
  have h:=rz (str (t xk)) xs;rw[zo]at h;exact h
 have zk:=QH hb1;obtain⟨r,hr⟩:=QE (decide (t xk=xs));rw[hr]at hq ⊢;obtain⟨S1,hS1⟩:=QE (str (t xk));obtain⟨S2,sH⟩:=QE (str xs);rw[hS1]at hq cR;rw[sH]at hq hW p1 e1 ⊢;have HK:=QH p1;have tr:=QH hpl;clear h hb1 zN h2 ck hr hS1 sH p0 p1 q2 q3;go_enter func106,ntmps106;go_upto_region 1 with fail;try rw[hW]
 clear hW;refine wp_region_quiet_below qo6 (by kernel_rfl) ?_;repeat (any_goals (first|go_big_quiet_step (first|exact cR _ _)|quiet_step (first|exact cR _ _)))
 refine wpQuiet_nil ?_;intro _ hw';obtain⟨⟨dq,osq⟩,hw''⟩:=hw';subst hw'';have p1:=e1 dq osq;have hb:=below_regrown W dq osq;have qG:=QH (q9 zk.out hb);have hpl:=Nat.lt_of_lt_of_le tr.out hb.size;clear hb e0 e1 e2 cR zk HK tr q1;generalize grow (redrawn W dq) osq=W3 at *;cases r;all_goals
  go_wp2_with fail;go_ret;exact⟨rfl,qG.out⟩
theorem jm (h:VP jg w o1 o2 v pd d m false)(zK:d.on=true):Calls prog 52 #[pt v] w fun e w'=>e=.returned (.int .i64 0)∧w=w':=by
 obtain⟨q1,q2,q3⟩:=qfv h;have HO:=QH (qfu h.dk);rw[zK]at HO;clear h;go_enter func52,ntmps52;go_wp2_with fail;refine HO.out.mono ?_;rintro e W1 ⟨rfl,rfl⟩;go_wp2_with fail;go_ret;exact⟨rfl,rfl⟩
theorem qy2(h:VP jg w o1 o2 v pd d m l):VP jg (w.setCell ⟨v,10,none⟩ (.bool true)) o1 o2 v pd d m true∧ib.qB (fun j=>j=v) w (w.setCell ⟨v,10,none⟩ (.bool true)):=by
 obtain⟨A0,A1,A2,c0,c1,c2,h1⟩:=h.is;have hb:=qfi w v 10 (.bool true);refine⟨⟨⟨A0,A1,A2,c0,c1,c2,?_⟩,h.dk.keep hb.size (fun j hj=>hb.block j (uE h.dk j hj) (fun e=>?_)),h.dj⟩,hb⟩
 ·refine⟨by have:=h1.blk.qo 10 (.bool true);simpa[vC]using this,h1.tab.stay (vr fun j hj=>hj.2),h1.sz,?_,h1.own,fun j hj=>Nat.lt_of_lt_of_le (h1.low j hj) hb.size,h1.gv,h1.tk⟩;exact vq h1.ct hb.size (qE _ _ _ _ _ h1.gv)
 ·have:=h.dj v (.inl h1.own);rw[e]at hj;exact this hj
theorem dQ (h:VP jg w o1 o2 v pd d m l)(hl:l=true∨d.on=false):Calls prog 52 #[pt v] w fun e w'=>e=.returned (.int .i64 6)∧VP jg w' o1 o2 v pd d m true∧ib.qB (fun j=>j=v) w w':=by
 obtain⟨q1,q2,q3⟩:=qfv h;have HO:=QH (qfu h.dk);have HL:=QH (qy2 h);have hf:w.frozen? ⟨v,10,none⟩=false:=by
  obtain⟨A0,A1,A2,c0,c1,c2,h1⟩:=h.is;exact h1.blk.frozen 10
 clear h;cases l with
 | true =>
  go_enter func52,ntmps52;go_wp2_with fail;go_ret;exact⟨rfl,HL.out.1,HL.out.2⟩
 | false =>
  have zK:d.on=false:=by simpa using hl
  rw[zK]at HO;clear hl zK;go_enter func52,ntmps52;go_wp2_with fail;refine HO.out.mono ?_;rintro e W1 ⟨rfl,rfl⟩;go_wp2_with fail;go_ret;exact⟨rfl,HL.out.1,HL.out.2⟩
end
theorem xT (w:World):Calls prog 52 #[.pointer none] w fun e w'=>e=.returned (.int .i64 1)∧w=w':=by
 go_enter func52,ntmps52;go_wp2_with fail;go_ret;exact⟨rfl,rfl⟩
theorem qlq(l:List UInt8)(c:UInt8):Lib.trimB l c=[] ↔ ∀b∈l,b=c:=by
 have key:∀L:List UInt8,L.dropWhile (· == c)=[] ↔ ∀b∈L,b=c:=by
  intro L
  induction L with
  | nil=>simp
  | cons x r ih =>
   by_cases hx:x=c
   ·subst hx;simp[List.dropWhile_cons,ih]
   ·have:(x == c)=false:=by simpa using hx
    rw[List.dropWhile_cons,this];simp[hx]
 have q3J:∀L:List UInt8,(∀b∈L.dropWhile (· == c),b=c)→∀b∈L,b=c:=by
  intro L
  induction L with
  | nil=>simp
  | cons x r ih =>
   intro h;by_cases hx:x=c
   ·subst hx;simp only[List.dropWhile_cons,BEq.rfl,if_true]at h;intro b hb;rcases List.mem_cons.1 hb with rfl|hb
    ·rfl
    ·exact ih h b hb
   ·have:(x == c)=false:=by simpa using hx
    rw[List.dropWhile_cons,this]at h;exact fun b hb=>h b hb
 unfold Lib.trimB Lib.trimLeftB Lib.trimRightB;rw[key];constructor
 ·intro h b hb;exact q3J l.reverse (fun b hb=>h b (by simpa using hb)) b (by simpa using hb)
 ·intro h b hb;have hb:b∈l.reverse.dropWhile (· == c):=by simpa using hb
  exact h b (by simpa using(List.dropWhile_suffix (fun x=>x == c)).mem hb)
theorem qu4(s:Bt)(hs:s.length=32):s=zb ↔ ∀b∈s,b=0:=by
 constructor
 ·rintro rfl b hb;exact List.eq_of_mem_replicate hb
 ·intro h;exact List.eq_replicate_iff.2 ⟨hs,h⟩
theorem iv (s:Bt)(hs:s.length=32)(w:World):Calls prog 101 #[.string (str s)] w (wU (decide (s=zb)) w):=by
 have ht:=Tryz.strings_Trim_one (str s) 0 (by decide) w (by rw[qO];omega);have hd:(⟨(Lib.trimB (str s).data.toList 0).toArray⟩:ByteArray).toList.isEmpty=decide (s=zb):=by
  have h:=rz (⟨(Lib.trimB (str s).data.toList 0).toArray⟩:ByteArray) [];have h0:(str []).toList=[]:=by first|rfl|(simp[str];done)|decide +kernel
  have e:∀L:List UInt8,L.isEmpty=(L == []):=fun L=>by cases L <;> rfl
  rw[h0]at h;rw[e,h,Bool.eq_iff_iff];simp only[decide_eq_true_eq];rw[qu4 s hs,← qlq];show Lib.trimB (bl (str s)) 0=[]↔_;rw[zo]
 have HT:=QH ht;obtain⟨r,hr⟩:=QE (decide (s=zb));rw[hr]at hd ⊢;obtain⟨S,hS⟩:=QE (⟨(Lib.trimB (str s).data.toList 0).toArray⟩:ByteArray);rw[hS]at HT hd;clear ht hS hr;go_enter func101,ntmps101;go_wp2_with fail;refine HT.out.mono ?_;rintro e W1 ⟨rfl,hw⟩;have HB:Hid (Below w.heap.size w W1):=by
  rcases hw with rfl|rfl
  ·exact Below.refl _ _
  ·exact(Below.refl _ _).drew
 clear hw HT;go_wp2_with fail;go_ret;exact⟨rfl,HB.out⟩
end Go.Proofs.YtdagdllomphidaaGreatDoor.vt.pg
namespace Go.Proofs.YtdagdllomphidaaGreatDoor.vt.pg
open _root_.Go.Proofs.Tryz Go Go.RowKit ib mt im sp
theorem qu5:(prog.info? 9).map (fun i=>(i.zero,i.size,i.bytes))=some (some (.string ByteArray.empty),1,16):=by kernel_rfl
def TxR (w:World)(ps:List Bt)(v i:Value)(wr:World):Prop:=∃k:Nat,k<ps.length∧i=.int .i64 (k:Int)∧zH wr w.heap.size v (ps.take k)∧Below w.heap.size w wr
theorem qhB(u:Bt)(hu:u.length≤8192)(k:Nat):((qL u).take k).flatten.length≤100000:=by
 have h2:(qL u).flatten=((qL u).take k).flatten++((qL u).drop k).flatten:=by rw[← List.flatten_append,List.take_append_drop]
 have h3:=congrArg List.length h2;rw[yy,yO,List.length_append]at h3;unfold nsec at h3;omega
theorem qdT{o:Nat→Prop}{w:World}{pd N:Nat}{d:DD}{t:Tg}{u:Bt}(h:dk.zj 1000 w o pd d)(ew:xC w)(hJ:jr.JJ N t d)(hN:193≤N)(hu:u.length≤8192)(hn:(qL u).length≤48)(home:∀i (h:i<(qL u).length),t ((145+i:Nat):Int)=(qL u)[i]) :
    Calls prog 42 #[pt pd] w (qqj (str u) w):=by
 obtain⟨i0,hi,hz0,hz1,hz2⟩:=info_parts qu5;have qy3:0<(qL u).length:=by rw[xN];exact bS _
 have qy4:=QH qy3;have HD:=QH h;have HT:=QH ew;have HJ:=QH hJ;have HN:=QH hn;have HNN:=QH hN;have HU:=QH hu;have qy5:=QH home;have uK:=QH (fun k (hk:k<(qL u).length) v=>qbh u v hu k hk);have HFL:=QH (qhB u hu);have HIT:Hid (uB (qL u) u):=⟨hu,rfl⟩;obtain⟨ps,hps⟩:=QE (qL u);rw[hps]at qy4 HN qy5 uK HFL HIT;clear h ew hJ hn hN home qy3 hps hu;go_enter func42,ntmps42;go_wp2_with fail;go_loopw [4,10] (fun v i wr=>TxR w ps v i wr) (fun _ i _=>ps.length-(intOf i).toNat);case atStart=>exact⟨0,qy4.out,rfl,World.ownsRow_nil _ _ _ _,Below.refl _ _⟩
 case round =>
  obtain⟨k,hk,rfl,ho,hB⟩:=hrel;have HO:=QH ho;have HB:=QH hB;have h48:(k:Int)<48:=by have:=HN.out;omega
  have ck:=fA (HD.out.below hB) ((145:Int)+(k:Int));rw[tq HJ.out ((145:Int)+(k:Int)) (by omega) (by have:=HNN.out;omega)]at ck;have ht:t ((145:Int)+(k:Int))=ps[k]:=by
   have:=qy5.out k hk;rw[← this]
   congr 1
  rw[ht]at ck;have xJ:=QH ck;have wM:Hid (ps.take (k+1)=ps.take k++[ps[k]]):=List.take_succ_eq_append_getElem hk;have az:Hid ((ps.take k).length=k):=by unfold Hid;rw[List.length_take];omega
  obtain⟨x,hx⟩:=QE (ps[k]);rw[hx]at xJ wM;have HK:=QH hk;clear ho hB ck ht hx hk;go_wp2_with fail;refine xJ.out.mono ?_;rintro e W2 ⟨rfl,hb2⟩;have qG:=QH (q9 HB.out hb2);have uF:=QH (dO HO.out hb2);clear hb2 xJ HO;have hby:=(Below.refl _ W2).alloc (Nat.le_refl _) (.cells #[.string (str x)] 9);have HO3:Hid (World.ownsRow (W2.alloc (.cells #[.string (str x)] 9)) w.heap.size 9 1 _ (ps.take k).length (yi (ps.take k))):=xQ uF.out (fun j hj=>hby.block j (uF.out.lt j hj).2);have zf:=QH (q9 qG.out hby);have fu:Hid (∀j u,([.string (str x)]:List Value)[j]?=some u→(W2.alloc (.cells #[.string (str x)] 9)).cell? ((⟨W2.heap.size,0,none⟩:Addr).add j)=some u):=fun j u hu=>by
   rw[addr_add,Nat.zero_add,(qg.new W2 9 #[.string (str x)]).cell j];simpa using hu
  have e1:∀u∈([.string (str x)]:List Value),u.oneCell'=true:=by intro u hu;simp at hu;subst hu;rfl
  have E1:=QH e1;have E2:Hid ((ps.take k).length+1≤maxLen):=by unfold Hid;rw[az.out];unfold maxLen;omega
  have E3:Hid (((ps.take k).length+1)*16≤140737488355328):=by unfold Hid;rw[az.out];omega
  obtain⟨Lw,hLw⟩:=QE (ps.take k);rw[hLw]at HO3 wM E2 E3 az;clear hby e1 hLw uF;go_wp2_with (at_builtin;refine xh rfl (.tmp 23) (.tmp 25) 43 rfl w.heap.size 9 i0 (.string ByteArray.empty) 1 16 underlying43 hi hz0 hz1 hz2 rfl (by decide) _ _ _ rfl HO3.out ⟨W2.heap.size,0,none⟩ 1 1 [.string (str x)] rfl rfl fu.out E1.out E2.out E3.out zf.out.size ?_);intro v' w1 hown hgrow _;have zU:Hid (Below w.heap.size w w1):=zf.out.grown hgrow zf.out.size (fun j hj=>(HO3.out.lt j hj).1);have sK:Hid (zH w1 w.heap.size v' (ps.take (k+1))):=by
   rw[wM.out];refine pS az.out ?_;rw[az.out]at hown;exact hown
  obtain⟨A4,c4,hv4,hs4⟩:=sK.out.view;subst hv4;have pj:=QH hs4.2.2.1;have ew:=x9 HT.out zU.out (zG HT.out);have wK:=QH ew;have HL4:Hid ((ps.take (k+1)).length=k+1):=by unfold Hid;rw[List.length_take];have:=HK.out;omega
  clear hown hgrow hs4 ew HO3 fu E1 E2 E3;by_cases uM:k+1<ps.length
  ·have hup:=ik A4 c4 (ps.take (k+1)) w1 pj.out (by rw[HL4.out];omega) (HFL.out (k+1)) (fun v=>uK.out (k+1) uM v) wK.out;have HUP:=QH hup;have HLT:=QH uM;have hfo:((4:Int) == 0)=false:=rfl;clear hup uM;generalize (ps.take (k+1)).length=q at *;go_wp2_with fail;refine HUP.out.mono ?_;rintro e W5 ⟨rfl,hb5⟩;have jt:=QH (q9 zU.out hb5);have HO5:=QH (dO sK.out hb5);clear hb5 HUP;go_wp2_with fail;go_roundw;case rel=>exact⟨k+1,HLT.out,by go_num,HO5.out,jt.out⟩
   case measure=>simp[intOf];have:=HLT.out;omega
  ·have zN:k+1=ps.length:=by have:=HK.out;omega
   have iG:ps.take (k+1)=ps:=by rw[zN];exact List.take_length
   rw[iG]at pj;have hup:=ij A4 c4 ps u w1 pj.out HIT.out wK.out;have ig:(ps.take (k+1)).length=ps.length:=by rw[iG]
   rw[← ig]at hup;have HUP:=QH hup;clear hup uM zN iG ig sK;generalize (ps.take (k+1)).length=q at *;go_wp2_with fail;refine HUP.out.mono ?_;rintro e W5 ⟨rfl,hb5⟩;have jt:=QH (q9 zU.out hb5);clear hb5 HUP;go_wp2_with fail;go_ret2;exact⟨rfl,jt.out⟩
end Go.Proofs.YtdagdllomphidaaGreatDoor.vt.pg
namespace Go.Proofs.YtdagdllomphidaaGreatDoor.sp
open _root_.Go.Proofs.Tryz Go Go.RowKit ib
def zy (cs:List Int):Array Value:=(cs.map (Value.int .i64)).toArray
theorem dR (cs:List Int)(i:Nat)(h:i<cs.length):(zy cs)[i]?=some (.int .i64 cs[i]):=by simp[zy,h]
theorem nc (cs:List Int)(i:Nat)(v:Int):(zy cs).setIfInBounds i (.int .i64 v)=zy (cs.set i v):=by
 unfold zy;rw[List.setIfInBounds_toArray,List.map_set]
theorem nd (n:Nat):madeCells #[.int .i64 0] n=zy (List.replicate n 0):=by
 apply Array.ext
 ·simp[size_madeCells,zy]
 ·intro j h1 h2;have e:(zy (List.replicate n 0))[j]?=some (.int .i64 0):=by
   have hj:j<n:=by simpa[zy]using h2
   rw[dR _ _ (by simpa using hj),List.getElem_replicate]
  rw[Array.getElem?_eq_getElem h2]at e;rw[Option.some.inj e];simp[madeCells,Nat.mod_one]
theorem wrap_i64(x:Int):qD (wrap64 x):=by unfold qD wrap64;omega
theorem qlr{cs:List Int}(h:∀z∈cs,qD z)(k:Nat):∀z∈bump cs k,qD z:=by
 intro z hz;unfold bump at hz;rcases List.mem_or_eq_of_mem_set hz with h1|h1
 ·exact h z h1
 ·rw[h1];exact wrap_i64 _
theorem cO {n:Int}:∀ {l cs cs':List Int},jU n cs l=some cs'→(∀z∈cs,qD z)→∀z∈cs',qD z
 | [],cs,cs',h,hz=>by
  simp only[jU,Option.some.injEq]at h;rw[← h];exact hz
 | k::r,cs,cs',h,hz=>by
  rw[dL]at h;split at h
  ·exact cO h hz
  ·split at h
   ·cases h
   ·exact cO h (qlr hz _)
theorem pY (n:Nat):∀z∈List.replicate n (0:Int),qD z:=by
 intro z hz;rw[List.eq_of_mem_replicate hz];unfold qD;omega
theorem qg.ints{w:World}{g:Nat}{cs:List Int}(h:qg w g 3 (zy cs))(hz:∀z∈cs,qD z):qJ w (some ⟨g,0,none⟩) cs:=fun i hi =>
 ⟨g,0,rfl,h.lt,by rw[Nat.zero_add,h.cell i];exact dR cs i hi,hz _ (List.getElem_mem hi)⟩
def okL (r:List Int × Int)(w:World)(e:Ending)(w':World):Prop :=
 ∃A cc,e=.returned (.tuple #[.slice A r.1.length cc,.int .i64 r.2])∧qJ w' A r.1∧Below w.heap.size w w'∧(∀b o,A=some ⟨b,o,none⟩→w.heap.size≤b∧b<w'.heap.size)∧r.1.length≤cc
theorem cP {c:Int}{w w':World}(h:Below w.heap.size w w'):okL ([],c) w (.returned (.tuple #[.slice none 0 0,.int .i64 c])) w' :=
 ⟨none,0,rfl,qJ.nil _ _,h,(fun _ _ h=>by cases h),Nat.le_refl _⟩
theorem qhC(n:Int)(h0:0≤n)(h:n≤1024)(W:World):(Instr.makeSlice 57 (.int .i64 n) (.int .i64 n)).run prog W=.ok (.slice (some ⟨W.heap.size,0,none⟩) n.toNat n.toNat) (W.alloc (.cells (zy (List.replicate n.toNat 0)) 3)):=by
 obtain⟨i0,hi,hz0,hz1,hz2⟩:=info_parts vG;have hmk:=run_make (P:=prog) W 57 3 i0 (.int .i64 0) underlying57 hi hz0 .i64 .i64 n n h0 (Int.le_refl _) (by rw[hz2];omega) (by omega);rw[hz1]at hmk;rw[← nd];simpa[Value.cells]using hmk
def qo7:Prop:=∀(A:Option Addr) (c:Nat) (ue:List (List Int)) (n:Int) (w:World),cn w A ue→ue.length≤9223372036854775807→qD n →
 Calls prog 102 #[.slice A ue.length c,.int .i64 n] w (okL (yA ue n) w)
def qy7:Prop:=∀(A:Option Addr) (c:Nat) (cs:List Int) (n:Int) (w:World),qJ w A cs→cs.length*8≤140737488355328→qD n →
 Calls prog 104 #[.slice A cs.length c,.int .i64 n] w (okL (yP cs n) w)
def okI (r:Int)(w:World)(e:Ending)(w':World):Prop:=e=.returned (.int .i64 r)∧Below w.heap.size w w'
def qy8:Prop:=∀(A:Option Addr) (c:Nat) (cs:List Int) (w:World),qJ w A cs→cs.length≤9223372036854775807 →
 Calls prog 162 #[.slice A cs.length c] w (okI (xY cs:Int) w)
theorem qJ.some{w:World}{A:Option Addr}{cs:List Int}(h:qJ w A cs)(h0:0<cs.length):∃b o,A=some ⟨b,o,none⟩∧b<w.heap.size:=by
 obtain⟨b,o,h1,h2,_⟩:=h 0 h0;exact⟨b,o,h1,h2⟩
end Go.Proofs.YtdagdllomphidaaGreatDoor.sp
namespace Go.Proofs.YtdagdllomphidaaGreatDoor.sp
open _root_.Go.Proofs.Tryz Go Go.RowKit Go.Shelf ib
attribute [local go_sem] Oper.semAt_some
abbrev I64:={ x:Int // qD x }
abbrev Plain(L:List (List I64)):List (List Int):=L.map fun l=>l.map fun x=>x.1
theorem qls:∀(ue:List (List Int)),(∀l∈ue,∀z∈l,qD z)→∃L,Plain L=ue
 | [],_=>⟨[],rfl⟩
 | l::r,h=>by
  obtain⟨L,hL⟩:=qls r (fun l' hl'=>h l' (List.mem_cons_of_mem _ hl'));obtain⟨l',hl'⟩:∃l':List I64,l'.map (fun x=>x.1)=l:=⟨l.attachWith qD (h l (by simp)),by simp[List.attachWith,List.map_pmap]⟩;refine⟨l'::L,?_⟩;show l'.map (fun x=>x.1)::Plain L=_;rw[hL,hl']
theorem ng {α:Type}(ue:List (List α))(k:Nat)(h:k<ue.length):(ue.take (k+1)).flatten=(ue.take k).flatten++ue[k]:=by
 rw[List.take_succ_eq_append_getElem h,List.flatten_append];simp
theorem qlu{α:Type}(ue:List (List α))(k:Nat)(h:k<ue.length):(ue.take k).flatten++ue[k] <+: ue.flatten:=by
 rw[← ng ue k h];refine⟨(ue.drop (k+1)).flatten,?_⟩;rw[← List.flatten_append,List.take_append_drop]
theorem qhE{α:Type}(ue:List (List α))(k:Nat)(h:k<ue.length)(j:Nat)(hj:j<ue[k].length):(ue.take k).flatten++ue[k].take j++[ue[k][j]] <+: ue.flatten:=by
 refine List.IsPrefix.trans ?_ (qlu ue k h);rw[List.append_assoc,← List.take_succ_eq_append_getElem hj];exact(List.prefix_append_right_inj _).2 (List.take_prefix _ _)
def qle (n₀:Nat)(L:List (List I64))(J:List I64→World→Prop)(W:World)(i:Value)(wr:World):Prop :=
 ∃k:Nat,k≤L.length∧i=.int .i64 (k:Int)∧J (L.take k).flatten wr∧Below n₀ W wr
def qut (n₀:Nat)(pre l:List I64)(J:List I64→World→Prop)(W:World)(i:Value)(wr:World):Prop :=
 ∃j:Nat,j≤l.length∧i=.int .i64 (j:Int)∧J (pre++l.take j) wr∧Below n₀ W wr
theorem qdU(F:Fence)(nn:Nat)(hF:F.fn 199)(hro:F.round=none)(hn:1≤nn)(l Bs:Nat)(A:Option Addr)(c:Nat)(L:List (List I64))(w0:World)(J Jx:List I64→World→Prop)
    (hA:cn w0 A (Plain L)) (hL:L.length≤9223372036854775807)
    (hY:∀pre x W,J pre W→pre.length<L.flatten.length→YieldAt F (nn-1) prog l #[.int .i64 x.1] W fun e W' =>
     (e=.returned (.bool true)∧J (pre++[x]) W'∧Below w0.heap.size W W')∨(e=.returned (.bool false)∧Jx (pre++[x]) W'))
    (W:World) (hb:Below w0.heap.size w0 W) (hBs:W.cell? ⟨Bs,0,none⟩=some (.slice A L.length c)) (h0:J [] W) :
    CallsIn F nn prog 199 #[.func (.yield l) #[] #[],.pointer (some ⟨Bs,0,none⟩)] W fun e W'=>(∃v,e=.returned v) ∧
     ((∃ys,ys=L.flatten∧J ys W')∨(∃pre,pre <+: L.flatten∧Jx pre W')):=by
 have HA:=QH hA;have HY:=QH hY;have HB:=QH hb;have HJ:=QH h0;clear hA hY hb h0;refine callsIn_of_wp func199 rfl hF ?_ hro;simp only[ntmps199,List.size_toArray,List.length_cons,List.length_nil,Nat.reduceAdd,Nat.reduceSub,Array.replicate_succ,Array.replicate_zero,List.push_toArray,List.append_toArray,List.nil_append,List.cons_append]
 gi_wp2
 gi_loopw [9] (fun i wr=>qle w0.heap.size L J W i wr) (fun i _=>L.length-(intOf i).toNat)
 case atStart=>exact⟨0,Nat.zero_le _,rfl,HJ.out,Below.refl _ _⟩
 case round =>
  obtain⟨k,hk,rfl,hj,hkb⟩:=hrel;have HJK:=QH hj;have HKB:=QH hkb;clear hj hkb HJ;by_cases hlt:k<L.length
  ·have qu6:(k:Int)<(L.length:Int):=by omega
   have hft:=ng L k hlt;have hpr:=qhE L k hlt;obtain⟨b,o,A1,c1,rfl,hbl,hc,hz,hzl⟩:=HA.out k (by rw[List.length_map];exact hlt);have ec:wr.cell? ⟨b,o+k,none⟩=some (.slice A1 ((Plain L)[k]'(by rw[List.length_map];exact hlt)).length c1):=by
    rw[HKB.out.cell (p:=⟨b,o+k,none⟩) hbl,HB.out.cell (p:=⟨b,o+k,none⟩) hbl];exact hc
   have lb:b<wr.heap.size:=Nat.lt_of_lt_of_le hbl (Nat.le_trans HB.out.size HKB.out.size);have HFT:=QH hft;have HPR:=QH hpr;have HZ:=QH hz;clear hft hpr hz hc;have hpk:(Plain L)[k]'(by rw[List.length_map];exact hlt)=L[k].map (fun x=>x.1):=List.getElem_map _;rw[hpk]at ec HZ hzl;rw[List.length_map]at ec hzl;clear hpk;generalize hzs:L[k]=zs at *;clear hzs
   gi_wp2
   gi_loopw [15] (fun i wr=>qut w0.heap.size (L.take k).flatten zs J W i wr) (fun i _=>zs.length-(intOf i).toNat)
   case atStart=>exact⟨0,Nat.zero_le _,rfl,by rw[List.take_zero,List.append_nil];exact HJK.out,HKB.out⟩
   case round =>
    clear HJK HKB ec lb;obtain⟨j,hjl,rfl,hj,hkb⟩:=hrel;have HJK:=QH hj;have HKB:=QH hkb;clear hj hkb;by_cases hjt:j<zs.length
    ·have q3L:(j:Int)<(zs.length:Int):=by omega
     obtain⟨b1,o1,rfl,vZ,hc1,hz1⟩:=HZ.out j (by rw[List.length_map];exact hjt);rw[List.getElem_map]at hc1 hz1;have e1:wr.cell? ⟨b1,o1+j,none⟩=some (.int .i64 zs[j].1):=by
      rw[HKB.out.cell (p:=⟨b1,o1+j,none⟩) vZ,HB.out.cell (p:=⟨b1,o1+j,none⟩) vZ];exact hc1
     have l1:b1<wr.heap.size:=Nat.lt_of_lt_of_le vZ (Nat.le_trans HB.out.size HKB.out.size);have hp:=HPR.out j hjt;have iG:zs.take (j+1)=zs.take j++[zs[j]]:=List.take_succ_eq_append_getElem hjt;have dB:=hp.length_le;rw[List.length_append]at dB;obtain⟨fn,tmps,assign,body,hy,hR⟩:=HY.out _ zs[j] wr HJK.out (by simp only[List.length_cons,List.length_nil]at dB;omega);have HP:=QH hp;have eH:=QH iG;have HR:=QH hR;clear hp iG hR hc1 hz1 dB;generalize zs[j]=x at *
     gi_wp2
     refine HR.out.mono ?_;rintro e W3 (⟨rfl,hJ3,hk3⟩|⟨rfl,hJx3⟩)
     ·have HJ3:=QH hJ3;have og:=QH (HKB.out.trans hk3);clear hJ3 hk3 HR
      gi_wp2
      refine⟨⟨j+1,by omega,by go_num,by rw[eH.out,← List.append_assoc];exact HJ3.out,og.out⟩,?_⟩;simp[intOf];omega
     ·gi_wp2
      refine bodyPost_ret (results_none rfl _ _ _) rfl ?_;exact⟨⟨_,rfl⟩,.inr ⟨_,HP.out,hJx3⟩⟩
    ·have q3L:¬ (j:Int)<(zs.length:Int):=by omega
     have hj:=HJK.out;rw[List.take_of_length_le (l:=zs) (by omega),← HFT.out]at hj;have HJ2:=QH hj;clear hj
     gi_wp2
     refine⟨⟨k+1,by omega,by go_num,HJ2.out,HKB.out⟩,?_⟩;simp[intOf];omega
  ·have qu6:¬ (k:Int)<(L.length:Int):=by omega
   have hj:=HJK.out;rw[List.take_of_length_le (by omega)]at hj;have HJ2:=QH hj;clear hj
   gi_wp2
   go_end0
   exact⟨⟨_,rfl⟩,.inl HJ2.out⟩
theorem qhF(F:Fence)(n:Nat)(hF:F.fn 161)(hro:F.round=none)(a:Option Addr)(len cap:Nat)(w:World) :
    CallsIn F n prog 161 #[.slice a len cap] w fun e w'=>e=.returned (.func (.func 199) #[] #[.pointer (some ⟨w.heap.size,0,none⟩)])∧w'=w.alloc (.cells #[.slice a len cap] 175):=by
 refine callsIn_of_wp func161 rfl hF ?_ hro;simp only[ntmps161,List.size_toArray,List.length_cons,List.length_nil,Nat.reduceAdd,Nat.reduceSub,Array.replicate_succ,Array.replicate_zero,List.push_toArray,List.append_toArray,List.nil_append,List.cons_append]
 gi_wp2
 go_ret;exact⟨rfl,rfl⟩
theorem tu (F:Fence)(nn:Nat)(hF:F.fn 199)(hro:F.round=none)(hn:1≤nn)(Bs:Nat)(A:Option Addr)(c:Nat)(L:List (List I64))(w0 w:World)
    (hA:cn w0 A (Plain L)) (hL:L.length≤9223372036854775807) (hb:Below w0.heap.size w0 w) (hBs:qg w Bs 175 #[.slice A L.length c]) :
    SeqStopsK F nn prog 199 #[.pointer (some ⟨Bs,0,none⟩)] (fun x:I64=>#[.int .i64 x.1]) (Below w0.heap.size) (fun ys=>ys=L.flatten) (fun pre=>pre <+: L.flatten) L.flatten.length w:=fun l J Jx W hW _ _ hY h0 =>
 qdU F nn hF hro hn l Bs A c L w0 J Jx hA hL hY W (q9 hb hW) ((hBs.below hW).cell 0) h0
end Go.Proofs.YtdagdllomphidaaGreatDoor.sp
namespace Go.Proofs.YtdagdllomphidaaGreatDoor.sp
open _root_.Go.Proofs.Tryz Go Go.RowKit ib
structure jW(w0 w:World)(B0 B1:Nat)(A:Option Addr)(c:Nat)(cs:List Int)(k:Nat):Prop where
 box:qg w B0 57 #[.slice A cs.length c]
 at_:qg w B1 3 #[.int .i64 (k:Int)]
 low:w0.heap.size≤B0
 lt:B0<B1
 k1:193≤k
 k2:k≤cs.length∨k=193
 below:Below w0.heap.size w0 w
def qlv (B0 B1:Nat):Value:=.func (.func 200) #[] #[.pointer (some ⟨B1,0,none⟩),.pointer (some ⟨B0,0,none⟩)]
def qbB (w0:World)(B0 B1:Nat)(A:Option Addr)(c:Nat)(cs:List Int)(k:Nat)(w:World)(e:Ending)(w':World):Prop :=
 qB (fun j=>j=B1) w w' ∧
 ((∃t:Nat,t<cs.length∧qR cs (t+1)=qR cs k++[(t:Int)]∧e=.returned (.tuple #[.int .i64 (t:Int),.bool true])∧jW w0 w' B0 B1 A c cs (t+1)) ∨
  (xY cs=(qR cs k).length∧e=.returned (.tuple #[.int .i64 0,.bool false])))
def cellOf (w:World)(B:Nat):Nat:=match w.cell? ⟨B,0,none⟩with
 | some (.int _ z)=>z.toNat
 | _=>0
theorem pZ {w:World}{B k:Nat}{t:TypeId}(h:qg w B t #[.int .i64 (k:Int)]):cellOf w B=k:=by
 unfold cellOf;rw[h.cell 0];simp
theorem jW.move{w0 w w':World}{B0 B1:Nat}{A:Option Addr}{c:Nat}{cs:List Int}{k k':Nat}(h:jW w0 w B0 B1 A c cs k)(hb:qB (fun j=>j=B1) w w')(ha:qg w' B1 3 #[.int .i64 (k':Int)])(h1:193≤k')(h2:k'≤cs.length∨k'=193):jW w0 w' B0 B1 A c cs k' :=
 ⟨h.box.of_block (hb.block _ h.box.lt (Nat.ne_of_lt h.lt)),ha,h.low,h.lt,h1,h2,(h.below).trans (hb.below (fun i e=>by rw[e];have:=h.low;have:=h.lt;omega) h.below.size)⟩
def qo9 (w0 w:World)(B0 B1:Nat)(A:Option Addr)(c:Nat)(cs:List Int)(k:Nat)(wr:World):Prop :=
 ∃j:Nat,jW w0 wr B0 B1 A c cs j∧qR cs j=qR cs k∧qB (fun i=>i=B1) w wr
theorem qhG{cs:List Int}{k:Nat}(h:k≤cs.length∨k=193)(he:cs.length≤k):xY cs=(qR cs k).length:=by
 rcases h with h|h
 ·rw[show k=cs.length by omega];rfl
 ·unfold xY;rw[h,yB cs 193 (by omega),yB cs cs.length (by omega)]
theorem vz {w0 w:World}{B0 B1:Nat}{A:Option Addr}{c:Nat}{cs:List Int}{k:Nat}(h:jW w0 w B0 B1 A c cs k)(hA:qJ w0 A cs)(hl:cs.length≤9223372036854775807) :
    Calls prog 200 #[.pointer (some ⟨B1,0,none⟩),.pointer (some ⟨B0,0,none⟩)] w (qbB w0 B0 B1 A c cs k w):=by
 have HF:=QH h;have HA:=QH hA;clear h hA;go_enter func200,ntmps200;go_wp2_with fail;go_loopw [] (fun wr=>qo9 w0 w B0 B1 A c cs k wr) (fun wr=>cs.length-cellOf wr B1);case atStart=>exact⟨k,HF.out,rfl,qB.refl _ _⟩
 case round =>
  obtain⟨j,hf,hfr,hb⟩:=hrel;have HFR:=QH hfr;have HB:=QH hb;have HFJ:=QH hf;have q0:wr.cell? ⟨B0,0,none⟩=some (.slice A cs.length c):=hf.box.cell 0;have q1:wr.cell? ⟨B1,0,none⟩=some (.int .i64 (j:Int)):=hf.at_.cell 0;have l0:=hf.box.lt;have l1:=hf.at_.lt;have f1:=hf.at_.frozen 0;have hne:=Nat.ne_of_lt hf.lt;have zN:=hf.k1;have hk2:=hf.k2;clear hf hfr hb HF;by_cases hlt:j<cs.length
  ·obtain⟨b,o,rfl,hbl,hc,hz⟩:=HA.out j hlt;have qur:(j:Int)<(cs.length:Int):=by omega
   have hg:cs.getD j 0=cs[j]:=by simp[List.getD,hlt]
   have hs:=aJ cs j;rw[hg]at hs;have HS:=QH hs;have ec:wr.cell? ⟨b,o+j,none⟩=some (.int .i64 cs[j]):=by rw[HFJ.out.below.cell (p:=⟨b,o+j,none⟩) hbl];exact hc
   have lb:b<B0:=Nat.lt_of_lt_of_le hbl HFJ.out.low;have jV:Hid (qg (wr.setCell ⟨B1,0,none⟩ (.int .i64 (((j+1:Nat)):Int))) B1 3 #[.int .i64 ((j+1:Nat):Int)]):=by
    have h:=HFJ.out.at_.qo 0 (.int .i64 ((j+1:Nat):Int));exact h
   have hbb:Hid (qB (fun i=>i=B1) w (wr.setCell ⟨B1,0,none⟩ (.int .i64 (((j+1:Nat)):Int)))):=HB.out.setCell ⟨B1,0,none⟩ _ (.inl rfl);have hbj:Hid (qB (fun i=>i=B1) wr (wr.setCell ⟨B1,0,none⟩ (.int .i64 (((j+1:Nat)):Int)))):=(qB.refl _ _).setCell ⟨B1,0,none⟩ _ (.inl rfl);have ej:((j+1:Nat):Int)=(j:Int)+1:=by omega
   rw[ej]at jV hbb hbj;clear hs hg hc hz;generalize cs[j]=x at *;by_cases hx:x=0
   ·subst hx;have hs:=HS.out;rw[if_pos ⟨zN,rfl⟩]at hs;have uk:=QH hs;clear hs;go_wp2_with fail;go_ret2;exact⟨hbb.out,.inl ⟨j,hlt,by rw[uk.out,HFR.out],rfl,HFJ.out.move hbj.out (by rw[ej];exact jV.out) (by omega) (by omega)⟩⟩
   ·have hxb:(x == 0)=false:=by simpa using hx
    have hs:=HS.out;rw[if_neg (fun h=>hx h.2),List.append_nil]at hs;have uk:=QH hs;have hm:Hid (cellOf wr B1=j):=pZ HFJ.out.at_;have hm2:Hid (cellOf (wr.setCell ⟨B1,0,none⟩ (.int .i64 ((j:Int)+1))) B1=j+1):=by
     refine pZ (t:=3) ?_;rw[ej];exact jV.out
    clear hs;go_wp2_with fail;refine⟨⟨j+1,HFJ.out.move hbj.out (by rw[ej];exact jV.out) (by omega) (by omega),by rw[uk.out,HFR.out],hbb.out⟩,?_⟩;rw[hm.out,hm2.out];omega
  ·have qur:¬ (j:Int)<(cs.length:Int):=by omega
   have HD:=QH (qhG hk2 (show cs.length≤j by omega));go_wp2_with fail;go_ret2;exact⟨HB.out,.inr ⟨by rw[HD.out,HFR.out],rfl⟩⟩
theorem nh (A:Option Addr)(c:Nat)(cs:List Int)(w0 w:World)(hb:Below w0.heap.size w0 w) :
    Calls prog 163 #[.slice A cs.length c] w fun e w'=>e=.returned (qlv w.heap.size (w.heap.size+1))∧jW w0 w' w.heap.size (w.heap.size+1) A c cs 193∧Below w.heap.size w w':=by
 go_enter func163,ntmps163;go_wp2_with fail;go_ret;have h0:qg (w.alloc (.cells #[.slice A cs.length c] 57)) w.heap.size 57 #[.slice A cs.length c]:=qg.new _ _ _;have h1:qg ((w.alloc (.cells #[.slice A cs.length c] 57)).alloc (.cells #[.int .i64 193] 3)) (w.alloc (.cells #[.slice A cs.length c] 57)).heap.size 3 #[.int .i64 ((193:Nat):Int)]:=qg.new _ _ _;have b1:=((Below.refl w.heap.size w).alloc (Nat.le_refl _) (.cells #[.slice A cs.length c] 57)).alloc (by simp) (.cells #[.int .i64 193] 3);rw[World.size_alloc]at h1;exact⟨rfl,⟨h0.of_block (Below.heap_alloc _ _ _ h0.lt),h1,hb.size,by omega,by omega,.inr rfl,q9 hb b1⟩,b1⟩
theorem qhH{cs:List Int}{i:Nat}(h:i≤9223372036854775807):∀z∈qR cs i,qD z:=by
 intro z hz;unfold qR at hz;obtain⟨j,hj,rfl⟩:=List.mem_map.1 hz;have:=List.mem_range.1 (List.mem_filter.1 hj).1;unfold qD;omega
def qyA (w:World)(B0 B1:Nat)(A:Option Addr)(c:Nat)(cs:List Int)(n:Nat)(i:Bool)(wr:World):Prop :=
 Below w.heap.size w wr∧((i=true∧∃k,jW w wr B0 B1 A c cs k∧(qR cs k).length=n+1)∨(i=false∧n=xY cs))
def qyB (w:World)(B0 B1:Nat)(A:Option Addr)(c:Nat)(cs:List Int)(v i:Value)(wr:World):Prop :=
 ∃(n:Nat) (b:Bool),v=.int .i64 (n:Int)∧i=.bool b∧qyA w B0 B1 A c cs n b wr
theorem qqp{w W W':World}{B0 B1:Nat}{A:Option Addr}{c:Nat}{cs:List Int}{k:Nat}{e:Ending}(h:jW w W B0 B1 A c cs k)(hp:qbB w B0 B1 A c cs k W e W'):∃(x:Int) (b:Bool),e=.returned (.tuple #[.int .i64 x,.bool b])∧qyA w B0 B1 A c cs (qR cs k).length b W':=by
 obtain⟨hb,⟨t,ht,hf,rfl,hF⟩|⟨hs,rfl⟩⟩:=hp
 ·exact⟨_,_,rfl,hF.below,.inl ⟨rfl,t+1,hF,by rw[hf,List.length_append];rfl⟩⟩
 ·exact⟨_,_,rfl,h.below.trans (hb.below (fun i e=>by rw[e];have:=h.low;have:=h.lt;omega) h.below.size),.inr ⟨rfl,hs.symm⟩⟩
theorem qdV{w w':World}{B0 B1:Nat}{A:Option Addr}{c:Nat}{cs:List Int}{k:Nat}(h:jW w w' B0 B1 A c cs k):(qR cs k).length≤xY cs:=by
 rcases h.k2 with h1|h1
 ·obtain⟨r,hr⟩:=eU cs k cs.length h1;unfold xY;rw[hr,List.length_append];omega
 ·rw[h1,yB cs 193 (by omega)];exact Nat.zero_le _
theorem ni (cs:List Int):xY cs≤cs.length:=qgW cs cs.length
theorem qyC:qy8:=by
 intro A c cs w hp hl;have HP:=QH hp;have HFI:=QH (nh A c cs w w (Below.refl _ _));have hsm:=ni cs;clear hp;go_enter func162,ntmps162;go_wp2_with fail;refine HFI.out.mono ?_;rintro e W1 ⟨rfl,hf,hb⟩;have HF:=QH hf;clear hf hb HFI;unfold qlv;have hl0:=HF.out.low;obtain⟨B0,hB0⟩:=QE w.heap.size;rw[hB0]at HF hl0 ⊢;go_wp2_with fail;refine(vz HF.out HP.out hl).mono ?_;rintro e W2 hp;obtain⟨x,b,rfl,hs⟩:=qqp HF.out hp;rw[yB cs 193 (by omega)]at hs;have HS:=QH hs;clear hp hs HF;go_wp2_with fail;go_loopw [3,6] (fun v i wr=>qyB w B0 (B0+1) A c cs v i wr) (fun v _ _=>cs.length-(intOf v).toNat);case atStart=>exact⟨0,b,rfl,rfl,HS.out⟩
 case round =>
  clear HS;obtain⟨n,b,rfl,rfl,hb,h⟩:=hrel;have HB:=QH hb;rcases h with⟨rfl,k,hf,hk⟩|⟨rfl,rfl⟩
  ·have hm:=qdV hf;have HF:=QH hf;have HK:=QH hk;clear hf;go_wp2_with fail;refine(vz HF.out HP.out hl).mono ?_;rintro e W3 hp;obtain⟨x,b,rfl,hs⟩:=qqp HF.out hp;rw[HK.out]at hs;have HS:=QH hs;clear hp hs HF;go_wp2_with fail;go_roundw;case rel=>exact⟨n+1,b,by go_num,rfl,HS.out⟩
   case measure=>simp[intOf];omega
  ·go_wp2_with fail;go_ret;exact⟨rfl,HB.out⟩
theorem qbC{ue:List (List Int)}{n:Int}(h:jU n (List.replicate n.toNat 0) ue.flatten=none):yA ue n=([],2):=by
 unfold yA;rw[h];split <;> rfl
theorem qdW{ue:List (List Int)}{n:Int}{cs:List Int}(h0:0≤n)(h1:n≤1024)(h:jU n (List.replicate n.toNat 0) ue.flatten=some cs):yA ue n=(cs,0):=by
 unfold yA;rw[h,if_neg (by omega)]
theorem qfw{w wr:World}{g c:Nat}{n:Nat}{cs:List Int}{r:List Int × Int}(hk:qg wr g 3 (zy cs))(hb:Below w.heap.size w wr)(hg:w.heap.size≤g)(hn:cs.length=n)(hc:n≤c)(hz:∀z∈cs,qD z)(hr:r=(cs,0)) :
    okL r w (.returned (.tuple #[.slice (some ⟨g,0,none⟩) n c,.int .i64 0])) wr:=by
 subst hr hn;refine⟨_,c,rfl,qg.ints hk hz,hb,fun b o h=>?_,hc⟩;simp only[Option.some.injEq,Addr.mk.injEq,and_true]at h;rw[← h.1];exact⟨hg,hk.lt⟩
theorem qbD(n:Int)(h0:0≤n)(h:n*8≤140737488355328)(W:World):(Instr.makeSlice 57 (.int .i64 n) (.int .i64 n)).run prog W=.ok (.slice (some ⟨W.heap.size,0,none⟩) n.toNat n.toNat) (W.alloc (.cells (zy (List.replicate n.toNat 0)) 3)):=by
 obtain⟨i0,hi,hz0,hz1,hz2⟩:=info_parts vG;have hmk:=run_make (P:=prog) W 57 3 i0 (.int .i64 0) underlying57 hi hz0 .i64 .i64 n n h0 (Int.le_refl _) (by rw[hz2];omega) (by omega);rw[hz1]at hmk;rw[← nd];simpa[Value.cells]using hmk
def qyD (w W:World)(g B0 B1:Nat)(A:Option Addr)(c:Nat)(cs:List Int)(m:Nat)(v:Value)(wr:World):Prop :=
 ∃(n k:Nat),n≤m∧v=.int .i64 (n:Int)∧jW W wr B0 B1 A c cs k∧(qR cs k).length=n∧qg wr g 3 (zy (qR cs k++List.replicate (m-n) 0))∧Below w.heap.size w wr
theorem qoA{cs:List Int}{k m:Nat}(h:(qR cs k).length=m)(hk:k≤cs.length∨k=193):(qR cs cs.length).take m=qR cs k:=by
 rcases hk with h1|h1
 ·obtain⟨r,hr⟩:=eU cs k cs.length h1;rw[hr,← h,List.take_left]
 ·rw[h1,yB cs 193 (by omega)]at h;rw[h1,yB cs 193 (by omega),← h];rfl
theorem lO (l:List Int)(r:Nat)(x:Int):(l++List.replicate (r+1) 0).set l.length x=(l++[x])++List.replicate r 0:=by
 rw[List.set_append_right _ _ (Nat.le_refl _),Nat.sub_self,List.replicate_succ,List.append_assoc];rfl
theorem qyE:qy7:=by
 intro A c cs n w hp hl hn;have HP:=QH hp;have hsm:=ni cs;obtain⟨res,hres⟩:=QE (yP cs n);rw[hres];unfold yP at hres;by_cases h0:n<0
 ·rw[if_pos h0]at hres;subst hres;clear hp;go_enter func104,ntmps104;go_wp2_with fail;go_ret2;exact cP (Below.refl _ _)
 rw[if_neg h0]at hres;have HF:=QH (qyC A c cs w hp (by omega));obtain⟨fr,hfr⟩:=QE (xY cs);have HFR:=QH hfr;rw[hfr]at HF hres hsm;clear hfr hp;by_cases h1:(fr:Int)<n
 ·rw[if_pos h1]at hres;subst hres;go_enter func104,ntmps104;go_wp2_with fail;refine HF.out.mono ?_;rintro e W ⟨rfl,hb⟩;go_wp2_with fail;go_ret2;exact cP hb
 rw[if_neg h1]at hres;have hmk:=qbD n (by omega) (by omega);obtain⟨m,rfl⟩:=Int.eq_ofNat_of_zero_le (show 0≤n by omega);rw[Int.toNat_natCast]at hmk hres;have xB:=QH hres;have HMK:=QH hmk;clear hres hmk;go_enter func104,ntmps104;go_wp2_with fail;refine HF.out.mono ?_;rintro e W ⟨rfl,hb⟩;have HB:=QH hb;have HPW:=QH (HP.out.below hb);clear hb HF;have hmk:=HMK.out;go_wp2_with fail;clear hmk;have hkb:qg (W.alloc (.cells (zy (List.replicate m 0)) 3)) W.heap.size 3 (zy (List.replicate m 0)):=qg.new _ _ _;have hb2:=(Below.refl W.heap.size W).alloc (Nat.le_refl _) (.cells (zy (List.replicate m 0)) 3);have hsz:(W.alloc (.cells (zy (List.replicate m 0)) 3)).heap.size=W.heap.size+1:=by simp
 obtain⟨W1,hW1⟩:=QE (W.alloc (.cells (zy (List.replicate m 0)) 3));rw[hW1]at hkb hb2 hsz ⊢;obtain⟨g,hg⟩:=QE W.heap.size;rw[hg]at hkb hb2 hsz ⊢;have HG:=QH hg;have HK:=QH hkb;have zk:=QH (q9 HB.out (by rw[hg];exact hb2));have HP1:=HPW;have hfi:=nh A c cs W W1 (by rw[hg];exact hb2);rw[hsz]at hfi;have HWS:Hid (w.heap.size≤W.heap.size):=HB.out.size;have qyF:Hid (w.heap.size≤g):=by rw[← hg];exact HB.out.size
 clear hkb hb2 hW1 hg HB HPW HMK;refine hfi.mono ?_;clear hfi;rintro e W2 ⟨rfl,hf,hb⟩;have HF:=QH hf;have wJ:=QH (HK.out.below (by rw[hsz];exact hb));have qG:=QH (q9 zk.out (by rw[hsz];exact hb));have eM:=QH hsz;clear hf hb HK zk hsz;unfold qlv;go_wp2_with fail;go_loopw [21] (fun v wr=>qyD w W g (g+1) (g+1+1) A c cs m v wr) (fun v _=>m-(intOf v).toNat);case atStart=>exact⟨0,193,Nat.zero_le _,rfl,HF.out,by rw[yB cs 193 (by omega)];rfl,by rw[yB cs 193 (by omega)];exact wJ.out,qG.out⟩
 case round =>
  clear HF wJ qG;obtain⟨n,k,hnm,rfl,hf,wC,hk,hb⟩:=hrel;have HF:=QH hf;have HFL:=QH wC;have HK:=QH hk;have HB:=QH hb;have hk2:=hf.k2;clear hf wC hk hb;by_cases hlt:n<m
  ·have qu6:(n:Int)<(m:Int):=by omega
   go_wp2_with fail;refine(vz HF.out HP1.out (by omega)).mono ?_;rintro e W3 ⟨hb3,⟨t,ht,hft,rfl,hf3⟩|⟨hs,_⟩⟩
   ·have hk3:=HK.out.of_block (hb3.block g HK.out.lt (by omega));have nX:=hk3.qo n (.int .i64 (t:Int));have hlo:=HF.out.low;have hbl:Below w.heap.size w W3:=HB.out.trans (hb3.below (fun i e=>by rw[e];have:=qyF.out;omega) HB.out.size);have hbt:qB (fun j=>j=g) W3 (W3.setCell ⟨g,n,none⟩ (.int .i64 (t:Int))):=(qB.refl _ _).setCell ⟨g,n,none⟩ _ (.inl rfl);have hcl:W3.cell? ⟨g,n,none⟩=some (.int .i64 0):=by
     rw[hk3.cell n,dR _ n (by rw[List.length_append,List.length_replicate,HFL.out];omega),List.getElem_append_right (by rw[HFL.out];exact Nat.le_refl _)];simp
    have wD:=hk3.lt;have hfz:=hk3.frozen n;rw[nc,show m-n=m-(n+1)+1 by omega]at nX;have hfo:=lO (qR cs k) (m-(n+1)) (t:Int);rw[HFL.out]at hfo;rw[hfo,← hft]at nX;have hf4:jW W (W3.setCell ⟨g,n,none⟩ (.int .i64 (t:Int))) (g+1) (g+1+1) A c cs (t+1) :=
     ⟨hf3.box.of_block (hbt.block _ hf3.box.lt (by omega)),hf3.at_.of_block (hbt.block _ hf3.at_.lt (by omega)),hf3.low,hf3.lt,hf3.k1,hf3.k2,hf3.below.trans (hbt.below (fun i e=>by rw[e,HG.out];exact Nat.le_refl _) hf3.below.size)⟩
    have qyG:(qR cs (t+1)).length=n+1:=by rw[hft,List.length_append,HFL.out];rfl
    have hb4:Below w.heap.size w (W3.setCell ⟨g,n,none⟩ (.int .i64 (t:Int))):=hbl.trans (hbt.below (fun i e=>by rw[e];exact qyF.out) hbl.size);have pw:=QH nX;have HF4:=QH hf4;have q3P:=QH qyG;have zU:=QH hb4;clear nX hf4 qyG hb4 hk3 hbl hbt hfo hft hb3 hf3;go_wp2_with fail;go_roundw;case rel=>exact⟨n+1,t+1,by omega,by go_num,HF4.out,q3P.out,pw.out,zU.out⟩
    case measure=>simp[intOf];omega
   ·exact absurd hs (by rw[HFR.out,HFL.out];omega)
  ·have qu6:¬ (n:Int)<(m:Int):=by omega
   have qoB:n=m:=by omega
   have ee:=HK.out;rw[qoB,Nat.sub_self,List.replicate_zero,List.append_nil]at ee;have HKE:=QH ee;have iG:=qoA (HFL.out.trans qoB) hk2;have hr:res=(qR cs k,0):=by rw[← xB.out,iG]
   have HR:=QH hr;have HZ:=QH (qhH (cs:=cs) (i:=k) (by omega));have az:=QH (HFL.out.trans qoB);clear ee iG hr qoB;go_wp2_with fail;go_ret2;exact qfw HKE.out HB.out (by rw[← HG.out];exact HWS.out) az.out (Nat.le_refl _) HZ.out HR.out
theorem uH {fn:Func}{p u:Tmp}{ty uy:TypeId}(h:fn.results = #[.cell p ty,.cell u uy])(tmps:Array Value)(P:Program)(w:World)(a b:Addr)(v1 v2:Value)
    (hp:tmps.getD p undef=.pointer (some a)) (hu:tmps.getD u undef=.pointer (some b)) (h1:(loadVar ty a).run P w=.ok v1 w) (h2:(loadVar uy b).run P w=.ok v2 w) :
    (results fn tmps).run P w=.ok (.tuple #[v1,v2]) w:=by
 simp only[results,h];simp only[Array.getD_eq_getD_getElem?]at hp hu;simp[Sem.run_bind,Result.andThen,asAddr,hp,hu,h1,h2]
theorem fB (w:World):(isAgg 57).run prog w=.ok false w:=by kernel_rfl
theorem fC (w:World):(isAgg 30).run prog w=.ok false w:=by kernel_rfl
theorem vA {t:TypeId}{w:World}(ha:(isAgg t).run prog w=.ok false w){a:Addr}{v:Value}(hc:w.cell? a=some v):(loadVar t a).run prog w=.ok v w:=by
 unfold loadVar;rw[Sem.run_bind,ha];simp[Result.andThen,hc]
end Go.Proofs.YtdagdllomphidaaGreatDoor.sp
namespace Go.Proofs.YtdagdllomphidaaGreatDoor.sp
open _root_.Go.Proofs.Tryz Go Go.RowKit Go.Shelf ib
attribute [local go_sem] Oper.semAt_some
theorem tv {S:Nat→Prop}{w w':World}{row:Option Nat}(h:w.grownBy w' row)(hs:∀k,row=some k→S k):qB S w w' :=
 ⟨h.os,h.tape,h.output,h.size,fun k hk hn=>h.block k hk (fun e=>hn (hs k e.symm))⟩
theorem uP {S:Nat→Prop}{a w w':World}{row:Option Nat}(h:qB S a w)(hg:w.grownBy w' row)(hs:∀k,row=some k→S k∨a.heap.size≤k):qB S a w' :=
 h.trans (S':=fun k=>row=some k) (tv hg (fun _ e=>e)) hs
structure qlw(w W:World)(n e:Int):Prop where
 num:qg W w.heap.size 3 #[.int .i64 n]
 one:qg W (w.heap.size+1) 57 #[.slice none 0 0]
 two:qg W (w.heap.size+1+1) 30 #[.int .i64 e]
 below:Below w.heap.size w W
 size:W.heap.size=w.heap.size+1+1+1
theorem three(w:World)(n e:Int):qlw w (((w.alloc (.cells #[.int .i64 n] 3)).alloc (.cells #[.slice none 0 0] 57)).alloc (.cells #[.int .i64 e] 30)) n e:=by
 have s1:(w.alloc (.cells #[.int .i64 n] 3)).heap.size=w.heap.size+1:=by simp
 have s2:((w.alloc (.cells #[.int .i64 n] 3)).alloc (.cells #[.slice none 0 0] 57)).heap.size=w.heap.size+1+1:=by simp
 have k1:=qg.new w 3 #[.int .i64 n];have k2:=qg.new (w.alloc (.cells #[.int .i64 n] 3)) 57 #[.slice none 0 0];have k3:=qg.new ((w.alloc (.cells #[.int .i64 n] 3)).alloc (.cells #[.slice none 0 0] 57)) 30 #[.int .i64 e];refine⟨(k1.of_block (Below.heap_alloc _ _ _ k1.lt)).of_block (Below.heap_alloc _ _ _ ?_),?_,?_,?_,by simp⟩
 ·rw[s2];omega
 ·rw[← s1];exact k2.of_block (Below.heap_alloc _ _ _ k2.lt)
 ·rw[← s2];exact k3
 ·exact(((Below.refl w.heap.size w).alloc (Nat.le_refl _) _).alloc (by simp) _).alloc (by simp;omega) _
theorem qfx{fn:Func}{w W:World}{n e:Int}(h:qlw w W n e)(hf:fn.results = #[.cell 4 57,.cell 5 30])(tmps:Array Value)
    (h4:tmps.getD 4 undef=.pointer (some ⟨w.heap.size+1,0,none⟩)) (h5:tmps.getD 5 undef=.pointer (some ⟨w.heap.size+1+1,0,none⟩)) :
    (results fn tmps).run prog W=.ok (.tuple #[.slice none 0 0,.int .i64 e]) W :=
 uH hf _ _ _ _ _ _ _ h4 h5 (vA (fB _) (h.one.cell 0)) (vA (fC _) (h.two.cell 0))
structure Six(w W:World)(m:Nat)(A:Option Addr)(l c:Nat):Prop where
 num:qg W w.heap.size 3 #[.int .i64 (m:Int)]
 one:qg W (w.heap.size+1) 57 #[.slice none 0 0]
 two:qg W (w.heap.size+1+1) 30 #[.int .i64 0]
 cnt:qg W (w.heap.size+1+1+1) 3 (zy (List.replicate m 0))
 box:qg W (w.heap.size+1+1+1+1) 57 #[.slice (some ⟨w.heap.size+1+1+1,0,none⟩) m m]
 ims:qg W (w.heap.size+1+1+1+1+1) 175 #[.slice A l c]
 below:Below w.heap.size w W
 size:W.heap.size=w.heap.size+1+1+1+1+1+1
theorem six{w W0:World}{m:Nat}(h:qlw w W0 m 0)(A:Option Addr)(l c:Nat) :
    Six w (((W0.alloc (.cells (zy (List.replicate m 0)) 3)).alloc (.cells #[.slice (some ⟨w.heap.size+1+1+1,0,none⟩) m m] 57)).alloc (.cells #[.slice A l c] 175)) m A l c:=by
 obtain⟨h1,h2,h3,h4,h5⟩:=h;have k4:=qg.new W0 3 (zy (List.replicate m 0));have b4:=(Below.refl W0.heap.size W0).alloc (Nat.le_refl _) (.cells (zy (List.replicate m 0)) 3);have s4:(W0.alloc (.cells (zy (List.replicate m 0)) 3)).heap.size=w.heap.size+1+1+1+1:=by simp[h5]
 generalize W0.alloc (.cells (zy (List.replicate m 0)) 3)=W4 at *;have k5:=qg.new W4 57 #[.slice (some ⟨w.heap.size+1+1+1,0,none⟩) m m];have b5:=(Below.refl W4.heap.size W4).alloc (Nat.le_refl _) (.cells #[.slice (some ⟨w.heap.size+1+1+1,0,none⟩) m m] 57);have s5:(W4.alloc (.cells #[.slice (some ⟨w.heap.size+1+1+1,0,none⟩) m m] 57)).heap.size=w.heap.size+1+1+1+1+1:=by simp[s4]
 generalize W4.alloc (.cells #[.slice (some ⟨w.heap.size+1+1+1,0,none⟩) m m] 57)=W5 at *;have k6:=qg.new W5 175 #[.slice A l c];have b6:=(Below.refl W5.heap.size W5).alloc (Nat.le_refl _) (.cells #[.slice A l c] 175);have s6:(W5.alloc (.cells #[.slice A l c] 175)).heap.size=w.heap.size+1+1+1+1+1+1:=by simp[s5]
 generalize W5.alloc (.cells #[.slice A l c] 175)=W6 at *;rw[h5]at k4;rw[s4]at k5;rw[s5]at k6;exact⟨((h1.below b4).below b5).below b6,((h2.below b4).below b5).below b6,((h3.below b4).below b5).below b6,(k4.below b5).below b6,k5.below b6,k6,q9 (q9 (q9 h4 b4) b5) b6,s6⟩
def CI (m:Nat)(g:Nat)(W0:World)(pre:List I64)(W:World):Prop :=
 ∃cs,jU (m:Int) (List.replicate m 0) (pre.map fun x=>x.1)=some cs∧qg W g 3 (zy cs)∧qB (fun k=>k=g) W0 W
def CX (m:Nat)(g b:Nat)(W0:World)(c:Code)(pre:List I64)(W:World):Prop :=
 c=.ret∧jU (m:Int) (List.replicate m 0) (pre.map fun x=>x.1)=none∧qg W b 57 #[.slice none 0 0]∧qg W (b+1) 30 #[.int .i64 2]∧qB (fun k=>k=g∨k=b∨k=b+1) W0 W
theorem nj (L:List (List I64)):(Plain L).flatten=L.flatten.map fun x=>x.1:=by
 rw[List.map_flatten]
theorem qoC:qo7:=by
 intro A c ue n w hp hl hn;have HP:=QH hp;obtain⟨res,hres⟩:=QE (yA ue n);rw[hres];by_cases h0:n<0
 ·have hr:res=([],2):=by rw[← hres];unfold yA;rw[if_pos (.inl h0)]
  subst hr;clear hp hres;refine(callsIn_wide (n:=9)).1 (callsIn_of_wp_marks func102 rfl trivial ?_ rfl);refine wpIn_wide.2 ?_;simp only[ntmps102,List.size_toArray,List.length_cons,List.length_nil,Nat.reduceAdd,Nat.reduceSub,Array.replicate_succ,Array.replicate_zero,List.push_toArray,List.append_toArray,List.nil_append,List.cons_append];go_wp2_with fail;exact⟨_,qfx (three w n 2) rfl _ rfl rfl,cP (three w n 2).below⟩
 by_cases h1:1024<n
 ·have hr:res=([],2):=by rw[← hres];unfold yA;rw[if_pos (.inr h1)]
  subst hr;clear hp hres;refine(callsIn_wide (n:=9)).1 (callsIn_of_wp_marks func102 rfl trivial ?_ rfl);refine wpIn_wide.2 ?_;simp only[ntmps102,List.size_toArray,List.length_cons,List.length_nil,Nat.reduceAdd,Nat.reduceSub,Array.replicate_succ,Array.replicate_zero,List.push_toArray,List.append_toArray,List.nil_append,List.cons_append];go_wp2_with fail;exact⟨_,qfx (three w n 2) rfl _ rfl rfl,cP (three w n 2).below⟩
 have hmk:=qhC n (by omega) (by omega);obtain⟨m,rfl⟩:=Int.eq_ofNat_of_zero_le (show 0≤n by omega);rw[Int.toNat_natCast]at hmk;have hm:m≤1024:=by omega
 have xB:=QH hres;obtain⟨L,rfl⟩:=qls ue (fun l hl' z hz=>by
  obtain⟨i,hi,rfl⟩:=List.getElem_of_mem hl';obtain⟨_,_,_,_,_,_,_,h5,_⟩:=hp i hi;exact h5.mem z hz)
 have HT:=QH (three w m 0);rw[List.length_map]at hl ⊢;clear hp hres;refine(callsIn_wide (n:=9)).1 (callsIn_of_wp_marks func102 rfl trivial ?_ rfl);refine wpIn_wide.2 ?_;simp only[ntmps102,List.size_toArray,List.length_cons,List.length_nil,Nat.reduceAdd,Nat.reduceSub,Array.replicate_succ,Array.replicate_zero,List.push_toArray,List.append_toArray,List.nil_append,List.cons_append];go_wp2_with fail;clear hmk;obtain⟨W0,hW0⟩:=QE (((w.alloc (.cells #[.int .i64 (m:Int)] 3)).alloc (.cells #[.slice none 0 0] 57)).alloc (.cells #[.int .i64 0] 30));rw[hW0]at HT ⊢;clear hW0;refine(callsIn_wide (n:=9).1 (qhF Fence.wide 9 trivial rfl _ _ _ _)).mono ?_;rintro e w' ⟨rfl,rfl⟩;have qyH:((W0.alloc (.cells (zy (List.replicate m 0)) 3)).alloc (.cells #[.slice (some ⟨w.heap.size+1+1+1,0,none⟩) m m] 57)).heap.size=w.heap.size+1+1+1+1+1:=by simp[HT.out.size]
 rw[qyH];have H6:=QH (six HT.out A L.length c);clear qyH;obtain⟨W2,hW2⟩:=QE (((W0.alloc (.cells (zy (List.replicate m 0)) 3)).alloc (.cells #[.slice (some ⟨w.heap.size+1+1+1,0,none⟩) m m] 57)).alloc (.cells #[.slice A L.length c] 175));rw[hW2]at H6 ⊢;clear hW2 HT;obtain⟨q,hq⟩:=QE w.heap.size;obtain⟨d1,d2,d3,d4,d5,d6,d7,d8⟩:=H6.out;rw[hq]at d1 d2 d3 d4 d5 d6 d8 ⊢;have HQ:=QH hq;have HST:=QH (tu Fence.wide 8 trivial rfl (by decide) (q+1+1+1+1+1) A c L w W2 HP.out hl d7 d6);clear hq;go_wp2_with fail;refine wpIn_wide.1 (wpIn_rangeFunc_ownF (F:=Fence.wide) (n:=9) rfl (by decide) (gf:=199) (lb:=#[.pointer (some ⟨q+1+1+1+1+1,0,none⟩)]) rfl trivial (enters_of func199 (by kernel_rfl) rfl) HST.out
  belowK_t (belowK_b d7.size) (Below.refl _ _) (fun _=>rfl)
  (CI m (q+1+1+1) W2) (CX m (q+1+1+1) (q+1) W2) ?hI ?hIx ⟨_,rfl,d4,qB.refl _ _⟩
  (fun x=>{ tmps:=#[.slice A L.length c,.int .i64 (m:Int),undef,.pointer (some ⟨q,0,none⟩),.pointer (some ⟨q+1,0,none⟩),.pointer (some ⟨q+1+1,0,none⟩),.pointer (some ⟨q+1+1+1+1,0,none⟩),.int .i64 x.1,.int .i64 (m:Int),.bool false,.bool false,.int .i64 (m:Int),.bool false,.bool false,.int .i64 (m:Int),.slice (some ⟨q+1+1+1,0,none⟩) m m,.slice A L.length c,.func (.func 199) #[] #[.pointer (some ⟨q+1+1+1+1+1,0,none⟩)],.int .i64 x.1,undef,undef,undef,undef,undef,undef,undef,undef,undef,undef,undef,undef,undef,undef,undef,undef,undef,undef],defers:=[] })
  ?assign ?body ?done ?stop)
 case hI =>
  intro pre W W' row ⟨cs,h1,h2,h3⟩ hg hr;refine⟨cs,h1,h2.of_block (hg.block _ h2.lt (fun e=>?_)),uP h3 hg (fun k e=>.inr (hr k e).1)⟩;have:=(hr _ e.symm).1;omega
 case hIx =>
  intro cc pre W W' row ⟨h0,h1,h2,h2',h3⟩ hg hr;refine⟨h0,h1,h2.of_block (hg.block _ h2.lt (fun e=>?_)),h2'.of_block (hg.block _ h2'.lt (fun e=>?_)),uP h3 hg (fun k e=>.inr (hr k e).1)⟩;all_goals
   have:=(hr _ e.symm).1;omega
 case assign =>
  intro l x W K hK
  gi_wp2
  exact hK
 case body =>
  rintro l pre x W ⟨cs,hcs,jV,xZ⟩ _;have hsz:=xZ.size;have e1:qg W q 3 _:=d1.of_block (xZ.block _ d1.lt (by omega));have e2:qg W (q+1) 57 _:=d2.of_block (xZ.block _ d2.lt (by omega));have e3:qg W (q+1+1) 30 _:=d3.of_block (xZ.block _ d3.lt (by omega));have e5:qg W (q+1+1+1+1) 57 _:=d5.of_block (xZ.block _ d5.lt (by omega));have xP:∀cs',jU (m:Int) (List.replicate m 0) ((pre++[x]).map fun x=>x.1)=some cs'→∀W',qg W' (q+1+1+1) 3 (zy cs')→qB (fun k=>k=q+1+1+1) W W'→CI m (q+1+1+1) W2 (pre++[x]) W' :=
   fun cs' h1 W' h2 h3=>⟨cs',h1,h2,xZ.trans h3 (fun i e=>.inl e)⟩
  have hbl:∀W',qB (fun k=>k=q+1+1+1) W W'→Below w.heap.size W W':=fun W' h=>h.below (fun i e=>by rw[e,HQ.out];omega) (by rw[HQ.out];omega);have hsn:=qgU hcs x.1;rw[show pre.map (fun x=>x.1)++[x.1]=(pre++[x]).map (fun x=>x.1)by simp]at hsn;have kn:W.cell? ⟨q,0,none⟩=some (.int .i64 (m:Int)):=e1.cell 0;have kb:W.cell? ⟨q+1+1+1+1,0,none⟩=some (.slice (some ⟨q+1+1+1,0,none⟩) m m):=e5.cell 0;have ko:W.cell? ⟨q+1,0,none⟩=some (.slice none 0 0):=e2.cell 0;have kt:W.cell? ⟨q+1+1,0,none⟩=some (.int .i64 0):=e3.cell 0;have ln:=e1.lt;have lo:=e2.lt;have lt:=e3.lt;have lb:=e5.lt;have fo:=e2.frozen 0;have ft:=e3.frozen 0;have HPO:=QH xP;have HBL:=QH hbl;have wM:=QH hsn;have js:=QH jV;have qu7:=QH xZ;have HCS:=QH hcs;have E2:=QH e2;have E3:=QH e3;have zaa:=x.2;clear xP hbl hsn jV xZ hcs e1 e2 e3 e5 hsz d1 d2 d3 d4 d5 d6 d7 d8;generalize x.1=y at *;by_cases hy0:y=0
  ·subst hy0;have hs:=wM.out;rw[if_pos rfl]at hs;have uk:=QH hs;clear hs
   gi_wp2
   exact⟨KeepsOthers.refl _,Below.refl _ _,HPO.out _ uk.out _ js.out (qB.refl _ _)⟩
  ·have zab:(y == 0)=false:=by simpa using hy0
   by_cases bF:y<193∨(m:Int)≤y
   ·have hs:=wM.out;rw[if_neg hy0,if_pos bF]at hs;have uk:=QH hs;clear hs;have qjj:Hid (KeepsOthers W ((W.setCell ⟨q+1,0,none⟩ (.slice none 0 0)).setCell ⟨q+1+1,0,none⟩ (.int .i64 2))∧CX m (q+1+1+1) (q+1) W2 .ret (pre++[x]) ((W.setCell ⟨q+1,0,none⟩ (.slice none 0 0)).setCell ⟨q+1+1,0,none⟩ (.int .i64 2))):=by
     have b1:qB (fun k=>k=q+1) W (W.setCell ⟨q+1,0,none⟩ (.slice none 0 0)):=(qB.refl _ _).setCell ⟨q+1,0,none⟩ _ (.inl rfl);have b2:qB (fun k=>k=q+1+1) (W.setCell ⟨q+1,0,none⟩ (.slice none 0 0)) ((W.setCell ⟨q+1,0,none⟩ (.slice none 0 0)).setCell ⟨q+1+1,0,none⟩ (.int .i64 2)):=(qB.refl _ _).setCell ⟨q+1+1,0,none⟩ _ (.inl rfl);have k1:=E2.out.qo 0 (.slice none 0 0);have k2:=(E3.out.of_block (b1.block _ E3.out.lt (by omega))).qo 0 (.int .i64 2);refine⟨(KeepsOthers.setCell _ _ _).trans (KeepsOthers.setCell _ _ _),rfl,uk.out,k1.of_block (b2.block _ k1.lt (by omega)),k2,?_⟩;have b3:qB (fun k=>k=q+1∨k=q+1+1) W _:=(b1.mono (S':=fun k=>k=q+1∨k=q+1+1) (fun i e=>.inl e)).trans b2 (fun i e=>.inl (.inr e));exact(qu7.out.mono (S':=fun k=>k=q+1+1+1∨k=q+1∨k=q+1+1) (fun i e=>.inl e)).trans b3 (fun i e=>.inl (.inr e))
    by_cases xE:y<193
    ·gi_wp2
     exact qjj.out
    ·have hge:(m:Int)≤y:=by omega
     gi_wp2
     exact qjj.out
   ·have hs:=wM.out;rw[if_neg hy0,if_neg bF]at hs;have xE:¬ y<193:=fun h=>bF (.inl h);have hge:¬ (m:Int)≤y:=fun h=>bF (.inr h);obtain⟨t,rfl⟩:=Int.eq_ofNat_of_zero_le (show 0≤y by omega);rw[Int.toNat_natCast]at hs;have htm:t<m:=by omega
    have hti:(t:Int)<(m:Int):=by omega
    have hcl:cs.length=m:=by rw[bY HCS.out,List.length_replicate]
    have htd:t<cs.length:=by rw[hcl];exact htm
    have q3Q:=QH hs;have hq':=js.out.cell t;rw[dR cs t htd]at hq';have hfz:=js.out.frozen t;have wD:=js.out.lt;have hgd:cs.getD t 0=cs[t]:=by simp[List.getD,htd]
    have nX:=nc cs t (wrap64 (cs[t]+1));have qu9:=js.out.qo t (.int .i64 (wrap64 (cs[t]+1)));rw[nX,← hgd]at qu9;have qyI:Hid (qg (W.setCell ⟨q+1+1+1,t,none⟩ (.int .i64 (wrap64 (cs.getD t 0+1)))) (q+1+1+1) 3 (zy (bump cs t))):=qu9;have qG:Hid (qB (fun k=>k=q+1+1+1) W (W.setCell ⟨q+1+1+1,t,none⟩ (.int .i64 (wrap64 (cs.getD t 0+1))))):=(qB.refl _ _).setCell ⟨q+1+1+1,t,none⟩ _ (.inl rfl);rw[hgd]at qyI qG;have hv:=cO HCS.out (pY _) cs[t] (List.getElem_mem htd);unfold qD at hv;clear hs hgd nX qu9 hcl;generalize cs[t]=v at *
    gi_wp2
    exact⟨KeepsOthers.setCell _ _ _,HBL.out _ qG.out,HPO.out _ q3Q.out _ qyI.out qG.out⟩
 case stop =>
  rintro D cc pre W hD hpre ⟨rfl,hx,h1,h2,h3⟩ hK;have hr:res=([],2):=by
   rw[← xB.out];refine qbC ?_;obtain⟨r,hr⟩:=hpre;rw[nj,← hr,List.map_append];exact qgV hx _
  subst hr
  gi_wp2
  refine⟨by simp,.inl ⟨_,_,rfl,run_takeDeferred hK,?_⟩⟩;have p1:qg (W.putObj D (.deferred none)) (q+1) 57 _:=h1.of_block (World.putObj_heap_other (by omega));have p2:qg (W.putObj D (.deferred none)) (q+1+1) 30 _:=h2.of_block (World.putObj_heap_other (by omega));have hb1:Below w.heap.size w W:=d7.trans (h3.below (fun i e=>by rw[HQ.out];omega) d7.size);have hb2:Below w.heap.size w (W.putObj D (.deferred none)):=hb1.grown (grownBy_putObj' W D _) hb1.size (fun k e=>by cases e;rw[HQ.out];omega);exact⟨_,uH rfl _ _ _ ⟨q+1,0,none⟩ ⟨q+1+1,0,none⟩ _ _ rfl rfl (vA (fB _) (p1.cell 0)) (vA (fC _) (p2.cell 0)),cP hb2⟩
 case done =>
  rintro D ys W hD rfl ⟨cs,hcs,jV,xZ⟩ hK;have hr:res=(cs,0):=by
   rw[← xB.out];refine qdW (by omega) (by omega) ?_;rw[nj,Int.toNat_natCast];exact hcs
  have hcl:cs.length=m:=by rw[bY hcs,List.length_replicate]
  have hz:=cO hcs (pY _);have hsz:=xZ.size;have e2:qg W (q+1) 57 _:=d2.of_block (xZ.block _ d2.lt (by omega));have e3:qg W (q+1+1) 30 _:=d3.of_block (xZ.block _ d3.lt (by omega));have e5:qg W (q+1+1+1+1) 57 _:=d5.of_block (xZ.block _ d5.lt (by omega));have hb1:Below w.heap.size w W:=d7.trans (xZ.below (fun i e=>by rw[e,HQ.out];omega) d7.size);have kb:W.cell? ⟨q+1+1+1+1,0,none⟩=some (.slice (some ⟨q+1+1+1,0,none⟩) m m):=e5.cell 0;have ko:W.cell? ⟨q+1,0,none⟩=some (.slice none 0 0):=e2.cell 0;have kt:W.cell? ⟨q+1+1,0,none⟩=some (.int .i64 0):=e3.cell 0;have lo:=e2.lt;have lt:=e3.lt;have lb:=e5.lt;have fo:=e2.frozen 0;have ft:=e3.frozen 0;have HR:=QH hr;have pX:=QH hcl;have HZ:=QH hz;have E2:=QH e2;have E3:=QH e3;have js:=QH jV;have zk:=QH hb1;have HK:=QH hK;clear hr hcl hz hsz e2 e3 e5 jV hb1 hcs xZ hK d1 d2 d3 d4 d5 d6 d7;go_wp2_with fail;have b1:qB (fun k=>k=q+1) W (W.setCell ⟨q+1,0,none⟩ (.slice (some ⟨q+1+1+1,0,none⟩) m m)):=(qB.refl _ _).setCell ⟨q+1,0,none⟩ _ (.inl rfl);have b2:qB (fun k=>k=q+1+1) (W.setCell ⟨q+1,0,none⟩ (.slice (some ⟨q+1+1+1,0,none⟩) m m)) ((W.setCell ⟨q+1,0,none⟩ (.slice (some ⟨q+1+1+1,0,none⟩) m m)).setCell ⟨q+1+1,0,none⟩ (.int .i64 0)):=(qB.refl _ _).setCell ⟨q+1+1,0,none⟩ _ (.inl rfl);have k1:=E2.out.qo 0 (.slice (some ⟨q+1+1+1,0,none⟩) m m);have k2:=(E3.out.of_block (b1.block _ E3.out.lt (by omega))).qo 0 (.int .i64 0);have k1':=k1.of_block (b2.block _ k1.lt (by omega));have b3:qB (fun k=>k=q+1∨k=q+1+1) W _:=(b1.mono (S':=fun k=>k=q+1∨k=q+1+1) (fun i e=>.inl e)).trans b2 (fun i e=>.inl (.inr e));generalize (W.setCell ⟨q+1,0,none⟩ (.slice (some ⟨q+1+1+1,0,none⟩) m m)).setCell ⟨q+1+1,0,none⟩ (.int .i64 0)=W' at *;have hKD:W'.heap[D]?=some (.deferred (some [])):=(b3.block D (Array.getElem?_eq_some_iff.1 HK.out).1 (by omega)).trans HK.out;refine⟨by simp,.inl ⟨_,_,rfl,run_takeDeferred hKD,?_⟩⟩;have p1:qg (W'.putObj D (.deferred none)) (q+1) 57 _:=k1'.of_block (World.putObj_heap_other (by omega));have p2:qg (W'.putObj D (.deferred none)) (q+1+1) 30 _:=k2.of_block (World.putObj_heap_other (by omega));have p3:qg (W'.putObj D (.deferred none)) (q+1+1+1) 3 _:=(js.out.of_block (b3.block _ js.out.lt (by omega))).of_block (World.putObj_heap_other (by omega));have hw1:Below w.heap.size w W':=zk.out.trans (b3.below (fun i e=>by rw[HQ.out];omega) zk.out.size);have hw2:Below w.heap.size w (W'.putObj D (.deferred none)):=hw1.grown (grownBy_putObj' W' D _) hw1.size (fun k e=>by cases e;rw[HQ.out];omega);exact⟨_,uH rfl _ _ _ ⟨q+1,0,none⟩ ⟨q+1+1,0,none⟩ _ _ rfl rfl (vA (fB _) (p1.cell 0)) (vA (fC _) (p2.cell 0)),qfw p3 hw2 (by rw[HQ.out];omega) pX.out (Nat.le_refl _) HZ.out HR.out⟩
end Go.Proofs.YtdagdllomphidaaGreatDoor.sp
namespace Go.Proofs.YtdagdllomphidaaGreatDoor.vt.pg
open _root_.Go.Proofs.Tryz Go Go.RowKit Go.Sort ib mt im sp
abbrev Pl:=Int × Int × Bt
theorem quA:(prog.info? 171).map (fun i=>(i.zero,i.size,i.bytes))=some (some (.agg #[.int .i64 0,.int .i64 0,.string ByteArray.empty]),3,32):=by kernel_rfl
def yJ:List Pl→List Value
 | []=>[]
 | x::r=>.int .i64 x.1 :: .int .i64 x.2.1 :: .string (str x.2.2)::yJ r
theorem ai:∀(l r:List Pl),yJ (l++r)=yJ l++yJ r
 | [],_=>rfl
 | x::l,r=>by simp[yJ,ai l r]
theorem nk:∀l:List Pl,(yJ l).length=l.length*3
 | []=>rfl
 | x::l=>by simp[yJ,nk l];omega
theorem np:∀(l:List Pl) (i:Nat) (h:i<l.length),(yJ l)[i*3]?=some (.int .i64 l[i].1)∧(yJ l)[i*3+1]?=some (.int .i64 l[i].2.1)∧(yJ l)[i*3+2]?=some (.string (str l[i].2.2))
 | x::l,0,_=>⟨rfl,rfl,rfl⟩
 | x::l,i+1,h=>by
  have:=np l i (by simpa using h);rw[show(i+1)*3=i*3+1+1+1 from by omega];exact this
theorem nr:∀(l:List Pl) (k:Nat) (h:k<l.length) (a:Int),(yJ l).set (k*3+1) (.int .i64 a)=yJ (l.set k (l[k].1,a,l[k].2.2))
 | y::l,0,_,a=>rfl
 | y::l,k+1,hk,a=>by
  have ih:=nr l k (by simpa using hk) a;rw[show(k+1)*3+1=k*3+1+1+1+1 by omega];simp only[yJ,List.set_cons_succ];exact congrArg _ (congrArg _ (congrArg _ ih))
def tx (w:World)(B:Nat)(v:Value)(l:List Pl):Prop:=w.ownsRow B 171 3 v l.length (yJ l)
def PlL (w:World)(A:Option Addr)(l:List Pl):Prop:=∀i (h:i<l.length),∃b o,A=some ⟨b,o,none⟩∧b<w.heap.size∧w.cell? ⟨b,o+i*3,none⟩=some (.int .i64 l[i].1)∧w.cell? ⟨b,o+i*3+1,none⟩=some (.int .i64 l[i].2.1)∧w.cell? ⟨b,o+i*3+2,none⟩=some (.string (str l[i].2.2))
theorem PlL.below{w w':World}{A:Option Addr}{l:List Pl}(h:PlL w A l)(hb:Below w.heap.size w w'):PlL w' A l:=by
 intro i hi;obtain⟨b,o,h1,h2,h3,h4,h5⟩:=h i hi;exact⟨b,o,h1,Nat.lt_of_lt_of_le h2 hb.size,(hb.cell (p:=⟨b,o+i*3,none⟩) h2).trans h3,(hb.cell (p:=⟨b,o+i*3+1,none⟩) h2).trans h4,(hb.cell (p:=⟨b,o+i*3+2,none⟩) h2).trans h5⟩
theorem tx.view{w:World}{B:Nat}{v:Value}{l:List Pl}(h:tx w B v l):∃a c,v=.slice a l.length c∧PlL w a l:=by
 rcases h.2 with⟨rfl,h0⟩|⟨g,cap,cur,rfl,hg,hh,hcc,hm,hcs,xt⟩
 ·obtain rfl:l=[]:=List.length_eq_zero_iff.1 h0;exact⟨none,0,rfl,fun i h=>by simp at h⟩
 ·refine⟨some ⟨g,0,none⟩,cap,rfl,fun i hi=>?_⟩;have key:∀(j:Nat) (u:Value),(yJ l)[j]?=some u→w.cell? ⟨g,j,none⟩=some u:=by
   intro j u hu;rw[cell_of_row w g j cur 171 (0,0) hh];rw[← xt,List.getElem?_take]at hu;split at hu
   ·simpa using hu
   ·cases hu
  obtain⟨g0,g1,g2⟩:=np l i hi;exact⟨g,0,rfl,(Array.getElem?_eq_some_iff.1 hh).1,by rw[Nat.zero_add];exact key _ _ g0,by rw[Nat.zero_add];exact key _ _ g1,by rw[Nat.zero_add];exact key _ _ g2⟩
theorem tx.below{w w':World}{B:Nat}{v:Value}{l:List Pl}(h:tx w B v l)(hb:Below w.heap.size w w'):tx w' B v l:=xQ h (fun j hj=>hb.block j (h.lt j hj).2)
theorem tx.set{w:World}{B:Nat}{l:List Pl}{g c n:Nat}(h:tx w B (.slice (some ⟨g,0,none⟩) n c) l)(k:Nat)(hk:k<l.length)(a:Int) :
    tx (w.setCell ⟨g,k*3+1,none⟩ (.int .i64 a)) B (.slice (some ⟨g,0,none⟩) n c) (l.set k (l[k].1,a,l[k].2.2))∧w.frozen? ⟨g,k*3+1,none⟩=false∧B≤g∧g<w.heap.size:=by
 rcases h.2 with⟨e,h0⟩|⟨g',cap,cur,e,hg,hh,hcc,hm,hcs,xt⟩
 ·cases e
 ·simp only[Value.slice.injEq,Option.some.injEq,Addr.mk.injEq,and_true]at e;obtain⟨rfl,rfl,rfl⟩:=e;have ee:qg w g 171 cur:=hh;have rV:(l.set k (l[k].1,a,l[k].2.2)).length=l.length:=by rw[List.length_set]
  refine⟨⟨by rw[nk],.inr ⟨g,c,_,by rw[rV],hg,ee.qo (k*3+1) (.int .i64 a),by rw[rV];exact hcc,hm,by simpa using hcs,?_⟩⟩,ee.frozen _,hg,ee.lt⟩;rw[rV,Array.toList_setIfInBounds,List.take_set,xt];exact nr l k hk a
def PL (x:List (Int × Bt))(at_:List Int):List Pl:=List.zipWith (fun c a=>(c.1,a,c.2)) x at_
def P0 (x:List (Int × Bt)):List Pl:=x.map fun c=>(c.1,0,c.2)
theorem qhI{x:List (Int × Bt)}{k:Nat}(h:k<x.length):full (x.take (k+1))=full (x.take k)+if x[k].2=zb then 0 else 1:=by
 unfold full;rw[List.take_succ_eq_append_getElem h,List.filter_append,List.length_append]
 congr 1
 by_cases e:x[k].2=zb <;> simp[e]
def nt (P:List Pl):List Wr:=P.filterMap fun p=>if p.2.1=0 then none else some (p.2.1,p.2.2)
theorem fD:∀(x:List (Int × Bt)) (fr:List Int),(∀f∈fr,f≠0)→full x≤fr.length→nt (PL x (qd fr x).1)=(qd fr x).2
 | [],fr,_,_=>by simp[qd,PL,nt]
 | (k,s)::r,fr,hf,h=>by
  rw[vg]at h;by_cases hs:s=zb
  ·rw[if_pos hs]at h;have ih:=fD r fr hf (by omega);have e:qd fr ((k,s)::r)=(0::(qd fr r).1,(qd fr r).2):=by
    cases fr <;> simp[qd,hs]
   rw[e];simpa[PL,nt]using ih
  ·rw[if_neg hs]at h;cases fr with
   | nil=>simp at h
   | cons f fr =>
    have ih:=fD r fr (fun z hz=>hf z (by simp[hz])) (by simp at h;omega);have hf0:=hf f (by simp);have e:qd (f::fr) ((k,s)::r)=(f::(qd fr r).1,(f,s)::(qd fr r).2):=by
     simp[qd,hs]
    rw[e];simpa[PL,nt,hf0]using ih
def PlR (x:List (Int × Bt))(w:World)(v f i:Value)(wr:World):Prop :=
 ∃k:Nat,k≤x.length∧i=.int .i64 (k:Int)∧f=.int .i64 ((full (x.take k):Nat):Int)∧tx wr w.heap.size v (P0 (x.take k))∧Below w.heap.size w wr
def PcG (v pd N:Nat)(T:Value)(n1 n2:Nat)(ims:List (List Int))(cs:List Int):Nat→Value→World→Prop
 | 0,u,_=>u=pt v
 | 1,u,_=>u=pt v
 | 2,u,_=>u=pt v
 | 3,u,_=>u=T
 | 4,u,W=>∃A c,u=.slice A n1 c∧cn W A ims
 | 5,u,_=>u=pt v
 | 6,u,_=>u=pt v
 | 7,u,_=>u=.pointer (some ⟨v,9,none⟩)
 | 8,u,_=>u=pt pd
 | 9,u,_=>u=.int .i64 (N:Int)
 | 10,u,W=>∃A c,u=.tuple #[.slice A n2 c,.int .i64 0]∧ib.qJ W A cs
 | 11,u,W=>∃A c,u=.tuple #[.slice A n2 c,.int .i64 0]∧ib.qJ W A cs
 | 12,u,W=>∃A c,u=.slice A n2 c∧ib.qJ W A cs
 | 13,u,_=>u=.int .i64 0
 | 14,u,W=>∃A c,u=.slice A n2 c∧ib.qJ W A cs
 | 15,u,_=>u=.int .i64 0
 | _,_,_=>True
theorem qlx(v pd N:Nat)(T:Value)(n1 n2:Nat)(ims:List (List Int))(cs:List Int)(i:Nat)(u:Value)(w w':World)(hi:i<16)(h:PcG v pd N T n1 n2 ims cs i u w)(hb:Below w.heap.size w w'):PcG v pd N T n1 n2 ims cs i u w':=by
 match i,hi,h with
 | 0,_,h | 1,_,h | 2,_,h | 3,_,h | 5,_,h | 6,_,h | 7,_,h | 8,_,h | 9,_,h | 13,_,h | 15,_,h=>exact h
 | 4,_,⟨A,c,h1,h2⟩=>exact⟨A,c,h1,h2.below hb⟩
 | 10,_,⟨A,c,h1,h2⟩ | 11,_,⟨A,c,h1,h2⟩ | 12,_,⟨A,c,h1,h2⟩ | 14,_,⟨A,c,h1,h2⟩=>exact⟨A,c,h1,h2.below hb⟩
 | j+16,hi,_=>exact absurd hi (by omega)
def qfy (r:(List Int × List Wr) × Int)(x:List (Int × Bt))(w:World)(e:Ending)(w':World):Prop:=Below w.heap.size w w'∧((r.2≠0∧e=.returned (.tuple #[.slice none 0 0,.int .i64 r.2]))∨(r.2=0∧∃v,e=.returned (.tuple #[v,.int .i64 0])∧tx w' w.heap.size v (PL x r.1.1)))
end Go.Proofs.YtdagdllomphidaaGreatDoor.vt.pg
namespace Go.Proofs.YtdagdllomphidaaGreatDoor.im
open _root_.Go.Proofs.Tryz Go Go.RowKit ib
def okO (r:List Int)(w:World)(e:Ending)(w':World):Prop:=∃v,e=.returned v∧zu w' w.heap.size v r∧Below w.heap.size w w'
theorem qly{w:World}{ad:Addr}{zs:List Int}(h:qJ w (some ad) zs)(m:Nat):∀(j:Nat) (u:Value),((zs.take m).map (Value.int .i64))[j]?=some u→w.cell? (ad.add j)=some u:=by
 intro j u hu;rw[List.getElem?_map]at hu;cases hz:(zs.take m)[j]? with
 | none=>rw[hz]at hu;cases hu
 | some z =>
  rw[hz]at hu;injection hu with hu
  subst hu;obtain⟨hj,rfl⟩:=List.getElem?_eq_some_iff.1 hz;have hj':j<zs.length:=by simp at hj;omega
  obtain⟨b,o,h1,_,h3,_⟩:=h j hj';injection h1 with h1
  subst h1;rw[addr_add,h3,List.getElem_take]
theorem qlz(zs:List Int):∀u∈zs.map (Value.int .i64),u.oneCell'=true:=by
 intro u hu;obtain⟨z,_,rfl⟩:=List.mem_map.1 hu;rfl
def qyJ:Prop:=∀(A:Option Addr) (c:Nat) (l:List Int) (b s:Int) (w:World),yx w A l c→l.length≤1000→qD b→qD s →
 Calls prog 109 #[.slice A l.length c,.int .i64 b,.int .i64 s] w (qsY (qag l b s) w)
theorem qoD(w:World):(w.alloc (.cells #[] 3)).ownsRow w.heap.size 3 1 (.slice (some ⟨w.heap.size,0,none⟩) 0 0) 0 [] :=
 ⟨rfl,.inr ⟨w.heap.size,0,#[],rfl,Nat.le_refl _,heap_alloc_new w _,Nat.le_refl _,by unfold maxLen;omega,rfl,rfl⟩⟩
theorem ql0(w:World)(A:Option Addr)(l:List Int)(h:qJ w A l)(h1:1≤l.length):∃b o,A=some ⟨b,o,none⟩:=by
 obtain⟨b,o,h2,_⟩:=h 0 (by omega);exact⟨b,o,h2⟩
theorem qhJ(A:Option Addr)(c:Nat)(l:List Int)(w:World)(hp:qJ w A l)(hl:l.length≤1000)(h1:1≤l.length) :
    Calls prog 169 #[.slice A l.length c] w (okO l w):=by
 obtain⟨i0,hi,hz0,hz1,hz2⟩:=info_parts vG;obtain⟨b,o,rfl⟩:=ql0 w A l hp h1;have H0:=QH (qoD w);have HB:=QH ((Below.refl w.heap.size w).alloc (Nat.le_refl _) (.cells #[] 3));have qqr:=QH (qly (hp.below ((Below.refl w.heap.size w).alloc (Nat.le_refl _) (.cells #[] 3))) l.length);rw[List.take_length]at qqr;have q3S:=QH (qlz l);have qn:(binOp .eql 57 (.slice (some ⟨b,o,none⟩) l.length c) (.slice none 0 0)).run prog w=.ok (.bool false) w:=Lib.run_eql_slice_nil w _ _ _ _ _ _ _ underlying57;clear hp;go_enter func169,ntmps169;go_wp2_with (at_builtin;refine wpList_append_own _ rfl (.tmp 5) (.tmp 6) 57 rfl w.heap.size 3 i0 (.int .i64 0) 1 8 underlying57 hi hz0 hz1 hz2 rfl (by decide) _ 0 [] rfl H0.out ⟨b,o,none⟩ l.length c (l.map (Value.int .i64)) rfl (by rw[List.length_map,Nat.mul_one]) qqr.out q3S.out ?_ ?_ HB.out.size ?_)
 ·unfold maxLen;omega
 ·omega
 ·intro v' w1 hown hgrow _;have hb1:=HB.out.grown hgrow HB.out.size (fun j hj=>(H0.out.lt j hj).1);have hos:zu w1 w.heap.size v' l:=hown;have HO:=QH hos;have zk:=QH hb1;clear hown hgrow hb1 hos;go_wp2_with fail;go_ret;exact⟨_,rfl,HO.out,zk.out⟩
theorem qoE{w:World}{B:Nat}{v:Value}{l:List Int}(h:zu w B v l)(k:Nat)(hk:k<l.length)(z:Int) :
    ∃g cap,v=.slice (some ⟨g,0,none⟩) l.length cap∧l.length≤cap∧B≤g∧g<w.heap.size∧(∃u,w.cell? ⟨g,k,none⟩=some u)∧w.frozen? ⟨g,k,none⟩=false∧zu (w.setCell ⟨g,k,none⟩ (.int .i64 z)) B v (l.set k z):=by
 rcases h.2 with⟨_,h0⟩|⟨g,cap,cur,rfl,hg,hh,hcc,hm,hcs,xt⟩
 ·omega
 ·have hb:qg w g 3 cur:=hh;have hsz:k<cur.size:=by omega
  refine⟨g,cap,rfl,hcc,hg,hb.lt,⟨cur[k],by rw[hb.cell k,Array.getElem?_eq_getElem hsz]⟩,hb.frozen k,?_⟩;have hs:=hb.qo k (.int .i64 z);refine⟨by simp,.inr ⟨g,cap,cur.setIfInBounds k (.int .i64 z),by simp,hg,hs,by simpa using hcc,hm,by simpa using hcs,?_⟩⟩;rw[Nat.mul_one]at xt ⊢;rw[List.length_set,Array.toList_setIfInBounds,List.take_set,xt,List.map_set]
theorem qyK:qyJ:=by
 intro A c l b s w hs hl hb hn;have HP:=QH hs.ints;have HM:=QH hs.ints.mem;have HB:=QH hb;have HN:=QH hn;obtain⟨res,hres⟩:=QE (qag l b s);rw[hres];unfold qag at hres;clear hs hb hn;by_cases h0:b<0
 ·rw[if_pos (.inl h0)]at hres;subst hres;go_enter func109,ntmps109;go_wp2_with fail;go_ret2;exact lr (Below.refl _ _)
 by_cases h1:(l.length:Int)≤b
 ·rw[if_pos (.inr (.inl h1))]at hres;subst hres;go_enter func109,ntmps109;go_wp2_with fail;go_ret2;exact lr (Below.refl _ _)
 by_cases h2:s<0
 ·rw[if_pos (.inr (.inr h2))]at hres;subst hres;go_enter func109,ntmps109;go_wp2_with fail;go_ret2;exact lr (Below.refl _ _)
 rw[if_neg (by omega)]at hres;obtain⟨k,rfl⟩:=Int.eq_ofNat_of_zero_le (show 0≤b by omega);rw[Int.toNat_natCast]at hres;have hk:k<l.length:=by omega
 have xB:=QH hres;have HC:=QH (qhJ A c l w HP.out hl (by omega));clear hres;go_enter func109,ntmps109;go_wp2_with fail;refine HC.out.mono ?_;rintro e W ⟨v,rfl,ho,hw⟩;obtain⟨g,cap,rfl,qjg,hg,wD,⟨u,hu⟩,hf,ho2⟩:=qoE ho k hk s;have HO:=QH ho2;have HG:=QH hg;have HW:=QH hw;have jY:(k:Int)<(l.length:Int):=by omega
 clear ho ho2 hw;go_wp2_with fail;go_ret2;refine qc8 HO.out ?_ (HW.out.setCell (p:=⟨g,k,none⟩) HG.out _) xB.out.symm;intro z hz;rcases List.mem_or_eq_of_mem_set hz with h|h
 ·exact HM.out z h
 ·rw[h];exact HN.out
theorem ql1{w w':World}{B:Nat}{v:Value}{l:List Int}(h:zu w B v l)(hk:∀g,v.ownBlock=some g→w'.heap[g]?=w.heap[g]?):zu w' B v l:=by
 refine⟨h.1,?_⟩;rcases h.2 with h0|⟨g,cap,cur,rfl,hg,hh,hcc,hm,hcs,xt⟩
 ·exact .inl h0
 ·exact .inr ⟨g,cap,cur,rfl,hg,(hk g rfl).trans hh,hcc,hm,hcs,xt⟩
theorem jk {w:World}{B:Nat}{v:Value}{l:List Int}(h:zu w B v l)(g:Nat)(hg:v.ownBlock=some g):B≤g∧g<w.heap.size:=by
 rcases h.2 with⟨rfl,_⟩|⟨g',cap,cur,rfl,rI,hh,_⟩
 ·cases hg
 ·injection hg with e
  have e':g'=g:=e;subst e';exact⟨rI,(Array.getElem?_eq_some_iff.1 hh).1⟩
structure tA(w:World)(U V:List Int)(b:Nat)(v:Value)(r:List Int)(wr:World):Prop where
 one:qg wr b 219 (qh U)
 two:qg wr (b+1) 219 (qh V)
 own:zu wr w.heap.size v r
 apart:v.ownBlock≠some b∧v.ownBlock≠some (b+1)
 below:Below w.heap.size w wr
theorem tA.drew{w wr:World}{U V:List Int}{b:Nat}{v:Value}{r:List Int}(h:tA w U V b v r wr)(n:Nat):tA w U V b v r (wr.drewN n) :=
 ⟨h.one,h.two,h.own,h.apart,qxi h.below n⟩
theorem tA.new{w wr:World}{U V:List Int}{b:Nat}{v:Value}{r:List Int}(h:tA w U V b v r wr)(o:Obj):tA w U V b v r (wr.alloc o) :=
 ⟨h.one.of_block (Below.heap_alloc _ _ _ h.one.lt),h.two.of_block (Below.heap_alloc _ _ _ h.two.lt),ql1 h.own fun g hg=>Below.heap_alloc _ _ _ (jk h.own g hg).2,h.apart,h.below.alloc h.below.size _⟩
theorem tA.put{w wr w1:World}{U V:List Int}{b:Nat}{v v':Value}{r r':List Int}(h:tA w U V b v r wr)(ho:zu w1 w.heap.size v' r')(hg:wr.grownBy w1 v.ownBlock)(hw:v'.ownBlock=v.ownBlock∨v'.ownBlock=some wr.heap.size):tA w U V b v' r' w1:=by
 have l1:=h.one.lt;have l2:=h.two.lt;refine⟨h.one.of_block (hg.block _ l1 fun e=>h.apart.1 e.symm),h.two.of_block (hg.block _ l2 fun e=>h.apart.2 e.symm),ho,?_,h.below.grown hg h.below.size fun k hk=>(jk h.own k hk).1⟩;rcases hw with e|e
 ·rw[e];exact h.apart
 ·rw[e];exact⟨fun e=>by injection e;omega,fun e=>by injection e;omega⟩
end Go.Proofs.YtdagdllomphidaaGreatDoor.im
namespace Go.Proofs
open _root_.Go.Proofs.Tryz Go.Shelf
def Tryz.ix:Go.Shelf.Ren:=⟨fun | 105=>100 | 212=>154 | 99=>155 | 165=>156 | 166=>157 | 170=>158 | 169=>159 | 263=>187 | 264=>188 | 206=>189 | 240=>190 | 241=>191 | 276=>212 | 277=>213|n=>n,fun | 9=>9 | 3=>3 | 4=>4 | 0=>0 | 46=>224 | 109=>225 | 5=>5 | 72=>230 | 76=>233 | 51=>250 | 146=>266 | 53=>35 | 148=>268 | 70=>228 | 37=>118 | 75=>232 | 127=>270 | 164=>291 | 80=>235|n=>n,fun|n=>n⟩
theorem Tryz.qoF:Go.Proofs.Lays.n105 prog Tryz.ix:={
 mixed:=by kernel_rfl
 f99:=func155.trans (congrArg some (by kernel_rfl))
 f105:=func100.trans (congrArg some (by kernel_rfl))
 f165:=func156.trans (congrArg some (by kernel_rfl))
 f166:=func157.trans (congrArg some (by kernel_rfl))
 f169:=func159.trans (congrArg some (by kernel_rfl))
 f170:=func158.trans (congrArg some (by kernel_rfl))
 f206:=func189.trans (congrArg some (by kernel_rfl))
 f212:=func154.trans (congrArg some (by kernel_rfl))
 f240:=func190.trans (congrArg some (by kernel_rfl))
 f241:=func191.trans (congrArg some (by kernel_rfl))
 f263:=func187.trans (congrArg some (by kernel_rfl))
 f264:=func188.trans (congrArg some (by kernel_rfl))
 f276:=func212.trans (congrArg some (by kernel_rfl))
 f277:=func213.trans (congrArg some (by kernel_rfl))
 t0:=underlying0
 a0:=isAgg0
 z0:=sizeOf0
 v0:=zeroValue0
 t3:=underlying3
 a3:=isAgg3
 z3:=sizeOf3
 v3:=zeroValue3
 t4:=underlying4
 a4:=isAgg4
 z4:=sizeOf4
 v4:=zeroValue4
 t5:=underlying5
 a5:=isAgg5
 z5:=sizeOf5
 v5:=zeroValue5
 t9:=underlying9
 a9:=isAgg9
 z9:=sizeOf9
 v9:=zeroValue9
 t20:=underlying20
 a20:=isAgg20
 z20:=sizeOf20
 v20:=zeroValue20
 t37:=underlying118
 a37:=isAgg118
 z37:=sizeOf118
 v37:=zeroValue118
 t46:=underlying224
 a46:=isAgg224
 z46:=sizeOf224
 v46:=zeroValue224
 t51:=underlying250
 a51:=isAgg250
 z51:=sizeOf250
 v51:=zeroValue250
 t53:=underlying35
 a53:=isAgg35
 z53:=sizeOf35
 v53:=zeroValue35
 t70:=underlying228
 a70:=isAgg228
 z70:=sizeOf228
 v70:=zeroValue228
 t72:=underlying230
 a72:=isAgg230
 z72:=sizeOf230
 v72:=zeroValue230
 t75:=underlying232
 a75:=isAgg232
 z75:=sizeOf232
 v75:=zeroValue232
 t76:=underlying233
 a76:=isAgg233
 z76:=sizeOf233
 v76:=zeroValue233
 t109:=underlying225
 a109:=isAgg225
 z109:=sizeOf225
 v109:=zeroValue225
 t127:=underlying270
 a127:=isAgg270
 z127:=sizeOf270
 v127:=zeroValue270
 t146:=underlying266
 a146:=isAgg266
 z146:=sizeOf266
 v146:=zeroValue266
 t148:=underlying268
 a148:=isAgg268
 z148:=sizeOf268
 v148:=zeroValue268
 t164:=underlying291
 a164:=isAgg291
 z164:=sizeOf291
 v164:=zeroValue291 }
theorem Tryz.cQ:Builder.Extra prog Tryz.ix:={
 sizeBuilder:=by kernel_rfl
 liesBuilder:=by kernel_rfl
 t5:=underlying5
 a5:=isAgg5
 z5:=sizeOf5
 v5:=zeroValue5
 infoByte:=by kernel_rfl
 cellsByte:=by kernel_rfl
 sizeByte:=by kernel_rfl
 neB5:=by decide }
open Go.RowKit Go.Lib in
theorem Tryz.strings_Repeat(s:ByteArray)(c:Nat)(w:World)(hc:c≤9223372036854775807)(hlen:s.size*c≤140737488355328) :
    Calls prog 100 #[.string s,.int .i64 c] w fun e w'=>e=.returned (.string ⟨(Lib.repeatL s.data.toList c).toArray⟩)∧Below w.heap.size w w':=Any.strings_Repeat Tryz.qoF Tryz.cQ s c w hc hlen
end Go.Proofs
