/- JSteps, JRunW, JPlaces, JLay, VgWr, VgDel, VgShelf, WiEnd, JTake, JRec, JPoss, JHeadP, JRecov, VgHld, VgTxt, SpMem, SpHyp. -/
import Derived.Test.YtdpbdkacngaemaaGreatDoorZF5
import Derived.Shelf.Strings.Trim
set_option linter.unusedVariables false
set_option linter.unusedSimpArgs false
set_option maxHeartbeats 30000000
set_option maxRecDepth 100000
namespace Go.Proofs.YtdpbdkacngaemaaGreatDoor.jr
open _root_.Go.Proofs.Tryz Go Go.RowKit dk wi
theorem qnR:(prog.info? 263).map (fun i=>(i.zero,i.size,i.bytes))=some (some .nilFunc,1,8):=by kernel_rfl
def cN (p:Nat):Value:=.func (.func 194) #[.pointer (some ⟨p,0,none⟩)] #[]
def gy (p:Nat):Value:=.func (.func 195) #[.pointer (some ⟨p,0,none⟩)] #[]
def ak (gw gi:Nat):Value:=.func (.func 196) #[] #[.pointer (some ⟨gw,0,none⟩),.pointer (some ⟨gi,0,none⟩)]
def mh (w:World)(B p:Nat):Step→Value→Prop
 | .f,v=>v=gy p
 | .w k x,v=>∃gw gi,v=ak gw gi∧B≤gw∧B≤gi∧qf w gw 46 #[cN p]∧qf w gi 105 #[.int .i64 k,.string (str x)]
def aq (w:World)(B p:Nat)(ss:List Step)(vs:List Value):Prop:=ss.length=vs.length∧∀(j:Nat) (s:Step) (v:Value),ss[j]?=some s→vs[j]?=some v→mh w B p s v
def kN (w w':World):Prop:=∀g t cs,t≠263→qf w g t cs→qf w' g t cs
theorem kN.below{w w':World}(h:Below w.heap.size w w'):kN w w':=fun _ _ _ _ hb=>hb.of_block (h.block _ hb.lt)
theorem kN.trans{a b c:World}(h:kN a b)(k:kN b c):kN a c:=fun g t cs ht hb=>k g t cs ht (h g t cs ht hb)
theorem kN.grown{w w':World}{B n:Nat}{v:Value}{xs:List Value}(ho:w.ownsRow B 263 1 v n xs)(h:w.grownBy w' v.ownBlock):kN w w':=fun g t cs ht hb=>by
 refine hb.of_block (h.block g hb.lt ?_);rcases ho.2 with⟨rfl,_⟩|⟨q,cap,cur,rfl,_,hh,_⟩
 ·simp[Value.ownBlock]
 ·simp only[Value.ownBlock,Option.some.injEq,ne_eq];rintro rfl;unfold qf at hb;rw[hb]at hh;simp only[Option.some.injEq,Obj.cells.injEq]at hh;exact ht hh.2.1
theorem mh.keep{w w':World}{B p:Nat}{s:Step}{v:Value}(h:mh w B p s v)(hk:kN w w'):mh w' B p s v:=by
 cases s with
 | f=>exact h
 | w k x =>
  obtain⟨gw,gi,h1,h2,h3,h4,h5⟩:=h;exact⟨gw,gi,h1,h2,h3,hk _ _ _ (by decide) h4,hk _ _ _ (by decide) h5⟩
theorem aq.keep{w w':World}{B p:Nat}{ss:List Step}{vs:List Value}(h:aq w B p ss vs)(hk:kN w w'):aq w' B p ss vs:=⟨h.1,fun j s v hs hv=>(h.2 j s v hs hv).keep hk⟩
theorem aq.snoc{w:World}{B p:Nat}{ss:List Step}{vs:List Value}{s:Step}{v:Value}(h:aq w B p ss vs)(hs:mh w B p s v):aq w B p (ss++[s]) (vs++[v]):=by
 refine⟨by simp[h.1],fun j t u ht hu=>?_⟩;by_cases hj:j<ss.length
 ·rw[List.getElem?_append_left hj]at ht;rw[List.getElem?_append_left (by rw[← h.1];exact hj)]at hu;exact h.2 j t u ht hu
 ·rw[List.getElem?_append_right (by omega)]at ht;rw[List.getElem?_append_right (by rw[← h.1];omega)]at hu;rw[h.1]at ht;cases hq:j-vs.length with
  | zero =>
   rw[hq]at ht hu;simp at ht hu;subst ht hu;exact hs
  | succ m =>
   rw[hq]at ht;simp at ht
def qdt (w:World)(a:Option Addr)(bs:List (List Wr)):Prop :=
 ∀i (h:i<bs.length),∃b o A c,a=some ⟨b,o,none⟩∧b<w.heap.size∧w.cell? ⟨b,o+i,none⟩=some (.slice A bs[i].length c)∧uQ w A bs[i]
theorem qb6(bs:List (List Wr))(k:Nat)(h:k<bs.length):qF (bs.take (k+1))=qF (bs.take k)++(jU bs[k]++[.f]):=by
 have key:∀(x y:List (List Wr)),qF (x++y)=qF x++qF y:=by
  intro x y
  induction x with
  | nil=>rfl
  | cons l r ih=>simp[qF,ih]
 rw[List.take_succ_eq_append_getElem h,key];simp[qF]
theorem qjQ(l:List Wr)(k:Nat)(h:k<l.length):jU (l.take (k+1))=jU (l.take k)++[.w l[k].1 l[k].2]:=by
 unfold jU;rw[List.take_succ_eq_append_getElem h,List.map_append];rfl
theorem qtI(l:List Wr):(jU l).length=l.length:=by simp[jU]
theorem mi:∀(bs:List (List Wr)),(∀l∈bs,l.length≤1000)→(qF bs).length≤1001*bs.length
 | [],_=>by simp[qF]
 | l::r,h=>by
  have h1:=h l (by simp);have h2:=mi r (fun m hm=>h m (by simp[hm]));simp only[qF,List.length_append,List.length_cons,qtI];omega
def sM (w:World)(p:Nat)(ss:List Step)(v:Value)(wr:World):Prop :=
 ∃vs,wr.ownsRow w.heap.size 263 1 v vs.length vs∧aq wr w.heap.size p ss vs∧qf wr w.heap.size 46 #[cN p]∧Below w.heap.size w wr
def qvJ (w:World)(p:Nat)(bs:List (List Wr))(v i:Value)(wr:World):Prop :=
 ∃k:Nat,k≤bs.length∧i=.int .i64 (k:Int)∧sM w p (qF (bs.take k)) v wr
def q0c (w:World)(p:Nat)(pre:List Step)(l:List Wr)(v i:Value)(wr:World):Prop :=
 ∃k:Nat,k≤l.length∧i=.int .i64 (k:Int)∧sM w p (pre++jU (l.take k)) v wr
def qrH (p:Nat)(ss:List Step)(w:World)(e:Ending)(w':World):Prop:=∃v,e=.returned v∧sM w p ss v w'
theorem fJ (w:World)(t:TypeId)(v:Value):∀(j:Nat) (u:Value),([v]:List Value)[j]?=some u→(w.alloc (.cells #[v] t)).cell? ((⟨w.heap.size,0,none⟩:Addr).add j)=some u:=by
 intro j u hj
 match j,hj with
 | 0,hj =>
  simp at hj;subst hj;rw[addr_add];exact(qf.new w t #[v]).cell 0
theorem qhU(f:Fn)(a b:Array Value):∀u∈([Value.func f a b]:List Value),u.oneCell'=true:=by
 intro u hu;simp at hu;subst hu;rfl
theorem sM.more{w wr w1:World}{p:Nat}{ss:List Step}{v':Value}{vs:List Value}{s:Step}{u:Value}(hs:aq wr w.heap.size p ss vs)(hk:qf wr w.heap.size 46 #[cN p])
    (qtJ:kN wr w1) (hu:mh w1 w.heap.size p s u) (hown:w1.ownsRow w.heap.size 263 1 v' (vs.length+1) (vs++[u])) (hB:Below w.heap.size w w1):sM w p (ss++[s]) v' w1 :=
 ⟨vs++[u],by rw[List.length_append];exact hown,(hs.keep qtJ).snoc hu,qtJ _ _ _ (by decide) hk,hB⟩
theorem ar (p:Nat)(a:Option Addr)(c:Nat)(bs:List (List Wr))(w:World)(hp:p<w.heap.size)(hT:qdt w a bs)(hl:bs.length≤10)(hl2:∀l∈bs,l.length≤1000) :
    Calls prog 121 #[.pointer (some ⟨p,0,none⟩),.slice a bs.length c] w (qrH p (qF bs) w):=by
 obtain⟨i0,hi,hz0,hz1,hz2⟩:=info_parts qnR;have HT:=QH hT;have ig:=QH hl2;clear hT hl2;go_enter func121,ntmps121;go_wp2_with fail;have k0:qf (w.alloc (.cells #[cN p] 46)) w.heap.size _ _:=qf.new w _ _;have b0:Below w.heap.size w (w.alloc (.cells #[cN p] 46)):=(Below.refl w.heap.size w).alloc (Nat.le_refl _) _;go_loopw [7,18] (fun v i wr=>qvJ w p bs v i wr) (fun _ i _=>bs.length-(intOf i).toNat);case atStart=>exact⟨0,Nat.zero_le _,rfl,[],World.ownsRow_nil _ _ _ _,⟨rfl,fun j s v h=>by simp[qF]at h⟩,k0,b0⟩
 case round =>
  clear k0 b0;obtain⟨k,hk,rfl,hg⟩:=hrel;have HG:=QH hg;clear hg;by_cases hlt:k<bs.length
  ·obtain⟨b,o,A,cc,rfl,hb,hc,hW⟩:=HT.out k hlt;have hst:=qb6 bs k hlt;have hlen:=ig.out bs[k] (List.getElem_mem hlt);generalize bs[k]=l at *;have hc2:wr.cell? ⟨b,o+k,none⟩=some (.slice A l.length cc):=by obtain⟨_,_,_,_,hB⟩:=HG.out;rw[hB.cell (p:=⟨b,o+k,none⟩) hb];exact hc
   have hb2:b<wr.heap.size:=by obtain⟨_,_,_,_,hB⟩:=HG.out;exact Nat.lt_of_lt_of_le hb hB.size
   have qb5:(k:Int)<(bs.length:Int):=by omega
   have HW:=QH hW;have HST:=QH hst;clear hc hW hst;go_wp2_with fail;obtain⟨wo,rfl⟩:∃wo:World,wo=wr:=⟨_,rfl⟩;go_loopw [7,24] (fun v i wr=>q0c w p (qF (bs.take k)) l v i wr) (fun _ i _=>l.length-(intOf i).toNat);case atStart=>exact⟨0,Nat.zero_le _,rfl,by simpa[jU]using HG.out⟩
   case round =>
    obtain⟨j,hj,rfl,vs,hown,hsv,hk5,hB⟩:=hrel;have HO:=QH hown;have HS:=QH hsv;have HK:=QH hk5;have HB:=QH hB;clear hown hsv hk5 hB;have hvl:vs.length≤100000:=by
     have h1:=HS.out.1;have h2:=mi (bs.take k) (fun m hm=>ig.out m (List.mem_of_mem_take hm));have h3:(bs.take k).length≤10:=by simp;omega
     have h4:(jU (l.take j)).length≤1000:=by rw[qtI];simp;omega
     rw[List.length_append]at h1;omega
    by_cases hjl:j<l.length
    ·obtain⟨bb,oo,rfl,hbb,q0,q1,qb⟩:=HW.out j hjl;have sJ:=qjQ l j hjl;generalize l[j]=x at *;have e0:wr.cell? ⟨bb,oo+j*2,none⟩=some (.int .i64 x.1):=by rw[HB.out.cell (p:=⟨bb,oo+j*2,none⟩) hbb];exact q0
     have e1:wr.cell? ⟨bb,oo+j*2+1,none⟩=some (.string (str x.2)):=by rw[HB.out.cell (p:=⟨bb,oo+j*2+1,none⟩) hbb];exact q1
     have q4P:bb<wr.heap.size:=Nat.lt_of_lt_of_le hbb HB.out.size;have qvK:(j:Int)<(l.length:Int):=by omega
     have HWS:=QH sJ;have hB1:Below w.heap.size w (wr.alloc (.cells #[.int .i64 x.1,.string (str x.2)] 105)):=HB.out.alloc HB.out.size _;have hB2:Below w.heap.size w ((wr.alloc (.cells #[.int .i64 x.1,.string (str x.2)] 105)).alloc (.cells #[ak w.heap.size wr.heap.size] 263)):=hB1.alloc hB1.size _;have hown2:=(HO.out.alloc (.cells #[.int .i64 x.1,.string (str x.2)] 105)).alloc (.cells #[ak w.heap.size wr.heap.size] 263);have hnews:=fJ (wr.alloc (.cells #[.int .i64 x.1,.string (str x.2)] 105)) 263 (ak w.heap.size wr.heap.size);have qdu:(wr.alloc (.cells #[.int .i64 x.1,.string (str x.2)] 105)).heap.size=wr.heap.size+1:=by simp
     rw[qdu]at hnews;have vX:=QH hown2;have wI:=QH hnews;have qA:=QH hB2;have hkp:kN wr ((wr.alloc (.cells #[.int .i64 x.1,.string (str x.2)] 105)).alloc (.cells #[ak w.heap.size wr.heap.size] 263)):=kN.below ((zN (Below.refl _ wr) _).alloc (by simp) _);have hgi:qf ((wr.alloc (.cells #[.int .i64 x.1,.string (str x.2)] 105)).alloc (.cells #[ak w.heap.size wr.heap.size] 263)) wr.heap.size 105 #[.int .i64 x.1,.string (str x.2)]:=(qf.new wr _ _).of_block (Below.heap_alloc _ _ _ (by simp));have HKP:=QH hkp;have HGI:=QH hgi;clear q0 q1 qb sJ hB1 hB2 hown2 hnews qdu hkp hgi;go_wp2_with (at_builtin;refine wpList_append_own _ rfl (.tmp 28) (.tmp 30) 195 rfl w.heap.size 263 i0 .nilFunc 1 8 underlying195 hi hz0 hz1 hz2 rfl (by decide) _ vs.length _ rfl vX.out ⟨wr.heap.size+1,0,none⟩ 1 1 [ak w.heap.size wr.heap.size] rfl rfl wI.out (qhU _ _ _) ?_ ?_ qA.out.size ?_)
     ·unfold maxLen;omega
     ·omega
     ·intro v' w1 hown1 hgrow _;have qjR:=HKP.out.trans (kN.grown vX.out hgrow);have hb1:=qA.out.grown hgrow qA.out.size (fun j hj=>(vX.out.lt j hj).1);have q0d:mh w1 w.heap.size p (.w x.1 x.2) (ak w.heap.size wr.heap.size):=⟨_,_,rfl,Nat.le_refl _,HB.out.size,qjR _ _ _ (by decide) HK.out,kN.grown vX.out hgrow _ _ _ (by decide) HGI.out⟩;have hgm:=sM.more HS.out HK.out qjR q0d hown1 hb1;have HGM:=QH hgm;clear qjR hb1 q0d hgm hown1 hgrow;go_wp2_with fail;go_roundw;case rel=>exact⟨j+1,by omega,by go_num,by rw[HWS.out,← List.append_assoc];exact HGM.out⟩
      case measure=>simp[intOf];omega
    ·obtain rfl:j=l.length:=by omega
     have hB2:Below w.heap.size w (wr.alloc (.cells #[gy p] 263)):=HB.out.alloc HB.out.size _;have hown2:=HO.out.alloc (.cells #[gy p] 263);have hnews:=fJ wr 263 (gy p);have vX:=QH hown2;have wI:=QH hnews;have qA:=QH hB2;have HKP:=QH (kN.below (zN (Below.refl _ wr) (.cells #[gy p] 263)));clear hB2 hown2 hnews;go_wp2_with (at_builtin;refine wpList_append_own _ rfl (.tmp 33) (.tmp 35) 195 rfl w.heap.size 263 i0 .nilFunc 1 8 underlying195 hi hz0 hz1 hz2 rfl (by decide) _ vs.length _ rfl vX.out ⟨wr.heap.size,0,none⟩ 1 1 [gy p] rfl rfl wI.out (qhU _ _ _) ?_ ?_ qA.out.size ?_)
     ·unfold maxLen;omega
     ·omega
     ·intro v' w1 hown1 hgrow _;have qjR:=HKP.out.trans (kN.grown vX.out hgrow);have hb1:=qA.out.grown hgrow qA.out.size (fun j hj=>(vX.out.lt j hj).1);have hgm:=sM.more (s:=.f) HS.out HK.out qjR rfl hown1 hb1;have HGM:=QH hgm;clear qjR hb1 hgm hown1 hgrow;go_wp2_with fail;go_roundw;case rel=>exact⟨k+1,by omega,by go_num,by rw[HST.out];have:=HGM.out;rw[List.take_length,List.append_assoc]at this;exact this⟩
      case measure=>simp[intOf];omega
  ·obtain rfl:k=bs.length:=by omega
   go_wp2_with fail;go_ret;have:=HG.out;rw[List.take_length]at this;exact⟨_,rfl,this⟩
def qhV (w:World)(B p:Nat)(a:Option Addr)(ss:List Step):Prop :=
 ∀(j:Nat) (s:Step),ss[j]?=some s→∃b v,a=some ⟨b,0,none⟩∧B≤b∧b<w.heap.size∧w.cell? ⟨b,j,none⟩=some v∧mh w B p s v
theorem sM.view{w wr:World}{p:Nat}{ss:List Step}{v:Value}(h:sM w p ss v wr):∃a c,v=.slice a ss.length c∧qhV wr w.heap.size p a ss:=by
 obtain⟨vs,ho,hs,_,_⟩:=h;rcases ho.2 with⟨rfl,h0⟩|⟨g,cap,cur,rfl,hg,hh,hcc,hm,hcs,xC⟩
 ·have hn:ss=[]:=List.length_eq_zero_iff.1 (by rw[hs.1];exact h0);subst hn;exact⟨none,0,rfl,fun j s h=>by simp at h⟩
 ·refine⟨some ⟨g,0,none⟩,cap,by rw[hs.1],fun j s hj=>?_⟩;have hjl:j<ss.length:=(List.getElem?_eq_some_iff.1 hj).1;have hjv:j<vs.length:=by rw[← hs.1];exact hjl
  have hv:vs[j]?=some vs[j]:=List.getElem?_eq_getElem hjv;refine⟨g,vs[j],rfl,hg,(Array.getElem?_eq_some_iff.1 hh).1,?_,hs.2 j s _ hj hv⟩;have:=cell_of_row wr g j cur 263 (0,0) hh;rw[this];have h2:cur.toList[j]?=some vs[j]:=by
   have h3:(cur.toList.take (vs.length*1))[j]?=some vs[j]:=by rw[xC];exact hv
   rw[List.getElem?_take]at h3;split at h3
   ·exact h3
   ·cases h3
  simpa using h2
section
variable {most:Nat} {w:World} {G:Nat→Prop} {p:Nat} {d:DD}
theorem qnT(hI:InG most w G p d)(hG:∀k,w.heap.size≤k→G k)(hm:d.more.length<most)(jo:most≤100000)(k:Int)(x:Bt)(gw gi:Nat)(hw:qf w gw 46 #[cN p])(hi:qf w gi 105 #[.int .i64 k,.string (str x)]) :
    Calls prog 196 #[.pointer (some ⟨gw,0,none⟩),.pointer (some ⟨gi,0,none⟩)] w (pB most G p (d.write k x).2 (.int .i64 (d.write k x).1) w):=by
 have e0:=hw.cell 0;have l0:=hw.lt;have e1:=hi.cell 0;have e2:=hi.cell 1;have l1:=hi.lt;have HI:=QH hI;unfold cN at e0;clear hw hi hI;go_enter func196,ntmps196;go_wp2_with fail;refine(qrE HI.out hG hm jo k (str x) x (zw x) _ _ rfl rfl).mono ?_;rintro e W1 ⟨rfl,i1,b1⟩;have H1:Hid (InG most W1 G p (d.write k x).2∧qz G w W1):=⟨i1,b1⟩;clear i1 b1;go_wp2_with fail;go_ret;exact⟨rfl,H1.out⟩
theorem qgq(d:DD)(s:Step):(jX d s).2.more.length≤d.more.length+1:=by
 cases s with
 | w k v=>exact qfF d k v
 | f =>
  have ho:=(xU d).2.1;unfold jX DD.flush;dsimp only;split
  ·simp
  ·split <;> simp[ho]
def qvL (most:Nat)(w:World)(G:Nat→Prop)(p:Nat)(ss:List Step)(d:DD)(i:Value)(wr:World):Prop :=
 ∃(k:Nat) (e:DD),k≤ss.length∧i=.int .i64 (k:Int)∧InG most wr G p e∧qz G w wr∧dV ss d=dV (ss.drop k) e∧e.more.length≤d.more.length+k
theorem qrI(B:Nat)(ss:List Step)(a:Option Addr)(c:Nat)(hI:InG most w G p d)(hG:∀k,w.heap.size≤k→G k)(q0e:∀k,B≤k→k<w.heap.size→¬ G k)(hs:qhV w B p a ss)(hm:d.more.length+ss.length≤most)(jo:most≤100000) :
    Calls prog 120 #[.slice a ss.length c] w (pB most G p (dV ss d).2 (.int .i64 (dV ss d).1) w):=by
 have HS:=QH hs;have HI:=QH hI;have HG:=QH hG;have HD:=QH q0e;clear hs hI hG q0e;go_enter func120,ntmps120;go_wp2_with fail;go_loopw [8] (fun i wr=>qvL most w G p ss d i wr) (fun i _=>ss.length-(intOf i).toNat);case atStart=>exact⟨0,d,Nat.zero_le _,rfl,HI.out,qz.refl _ _,by rw[List.drop_zero],Nat.le_refl _⟩
 case round =>
  obtain⟨k,e,hk,rfl,hi,hb,hrun,hml⟩:=hrel;have H1:=QH hi;have HB:=QH hb;have HR:=QH hrun;have hG1:∀k,wr.heap.size≤k→G k:=fun j hj=>HG.out j (Nat.le_trans hb.size hj);have HG1:=QH hG1;clear hi hb hrun hG1;by_cases hlt:k<ss.length
  ·have hsk:ss[k]?=some ss[k]:=List.getElem?_eq_getElem hlt;obtain⟨b,v,rfl,hBb,hbl,hcell,hv⟩:=HS.out k ss[k] hsk;have qtK:ss.drop k=ss[k]::ss.drop (k+1):=List.drop_eq_getElem_cons hlt;have hsm:=qgq e ss[k];rw[qtK]at HR;generalize ss[k]=s at *;have hc1:wr.cell? ⟨b,k,none⟩=some v:=by
    rw[World.cell?_of_block (a:=⟨b,k,none⟩) (HB.out.block b hbl (HD.out b hBb hbl))];exact hcell
   have zbt:b<wr.heap.size:=Nat.lt_of_lt_of_le hbl HB.out.size;have qb5:(k:Int)<(ss.length:Int):=by omega
   have qdw:(∃gw gi,v=ak gw gi∧Calls prog 196 #[.pointer (some ⟨gw,0,none⟩),.pointer (some ⟨gi,0,none⟩)] wr (pB most G p (jX e s).2 (.int .i64 (jX e s).1) wr)) ∨
       (v=gy p∧Calls prog 195 #[.pointer (some ⟨p,0,none⟩)] wr (pB most G p (jX e s).2 (.int .i64 (jX e s).1) wr)):=by
    cases s with
    | f=>exact .inr ⟨hv,qrF H1.out HG1.out _ _ rfl rfl⟩
    | w kk x =>
     obtain⟨gw,gi,h1,h2,h3,h4,h5⟩:=hv;exact .inl ⟨gw,gi,h1,qnT H1.out HG1.out (by omega) jo kk x gw gi (h4.of_block (HB.out.block gw h4.lt (HD.out gw h2 h4.lt))) (h5.of_block (HB.out.block gi h5.lt (HD.out gi h3 h5.lt)))⟩
   have lN:dV (s::ss.drop (k+1)) e=if (jX e s).1=0 then dV (ss.drop (k+1)) (jX e s).2 else jX e s:=rfl
   rw[lN]at HR;have HC:=QH qdw;clear qdw lN hv hcell hsk qtK;obtain⟨r,hr⟩:=QE ((jX e s).1);obtain⟨e2,he2⟩:=QE ((jX e s).2);rw[hr,he2]at HC HR;rw[he2]at hsm;have hse:jX e s=(r,e2):=by rw[← hr,← he2]
   rw[hse]at HR;clear hr he2 hse;by_cases h0:r=0
   ·subst h0;rw[if_pos rfl]at HR;rcases HC.out with⟨gw,gi,rfl,hcc⟩|⟨rfl,hcc⟩;all_goals
     have HCC:=QH hcc;clear hcc HC;simp only[ak,gy]at hc1;go_wp2_with fail;refine HCC.out.mono ?_;rintro x W2 ⟨rfl,i2,b2⟩;have H2:=QH i2;have qA:=QH (HB.out.trans b2 (fun i hi=>.inl hi));clear i2 b2;go_wp2_with fail;go_roundw;case rel=>exact⟨k+1,e2,by omega,by go_num,H2.out,qA.out,HR.out,by omega⟩
     case measure=>simp[intOf];omega
   ·have hne:((r:Int) != 0)=true:=by simpa using h0
    rw[if_neg h0]at HR;rcases HC.out with⟨gw,gi,rfl,hcc⟩|⟨rfl,hcc⟩;all_goals
     have HCC:=QH hcc;clear hcc HC;simp only[ak,gy]at hc1;go_wp2_with fail;refine HCC.out.mono ?_;rintro x W2 ⟨rfl,i2,b2⟩;have H2:=QH i2;have qA:=QH (HB.out.trans b2 (fun i hi=>.inl hi));clear i2 b2;go_wp2_with fail;go_ret;rw[HR.out];exact⟨rfl,H2.out,qA.out⟩
  ·obtain rfl:k=ss.length:=by omega
   go_wp2_with fail;go_ret;rw[HR.out,List.drop_length];exact⟨rfl,H1.out,HB.out⟩
end
end Go.Proofs.YtdpbdkacngaemaaGreatDoor.jr
namespace Go.Proofs.YtdpbdkacngaemaaGreatDoor.jr
open _root_.Go.Proofs.Tryz Go Go.RowKit dk wi
theorem wN:(prog.info? 3).map (fun i=>(i.zero,i.size,i.bytes))=some (some (.int .i64 0),1,8):=by kernel_rfl
theorem qnU:(prog.info? 105).map (fun i=>(i.zero,i.size,i.bytes))=some (some (.agg #[.int .i64 0,.string ByteArray.empty]),2,24):=by kernel_rfl
section
variable {most:Nat} {w W1:World} {own:Nat→Prop} {p:Nat} {d:DD} {ss:List Step} {v:Value}
theorem l7 (h:zP most w own p d)(hg:sM w p ss v W1)(hm:d.more.length+ss.length≤most)(jo:most≤100000) :
    Calls prog 120 #[v] W1 (xy most own p (dV ss d).2 (.int .i64 (dV ss d).1) w):=by
 obtain⟨A,c,rfl,hst⟩:=hg.view;obtain⟨_,_,_,_,hB⟩:=hg;have hI:InG most W1 (fun k=>own k∨W1.heap.size≤k) p d:=⟨own,h.below hB,fun k hk=>.inl hk⟩;refine(qrI w.heap.size ss A c hI (fun k hk=>.inr hk) (fun k h1 h2 h3=>?_) hst hm jo).mono ?_
 ·rcases h3 with h3|h3
  ·have:=h.low k h3;omega
  ·omega
 ·rintro e W2 ⟨rfl,⟨yI,h1,h2⟩,h3⟩;refine⟨rfl,yI,h1,?_,fun k hk=>?_⟩
  ·refine⟨h3.os.trans hB.os,h3.tape.trans hB.tape,h3.output.trans hB.output,Nat.le_trans hB.size h3.size,fun k hk hn=>?_⟩;rw[h3.block k (Nat.lt_of_lt_of_le hk hB.size) (fun g=>?_),hB.block k hk];rcases g with g|g
   ·exact hn g
   ·have:=hB.size;omega
  ·rcases h2 k hk with g|g
   ·exact .inl g
   ·exact .inr (Nat.le_trans hB.size g)
theorem xy.from{w0 w:World}{r:Value}{e:Ending}{w':World}(h:xy most own p d r w e w')(hb:Below w0.heap.size w0 w)(xu:∀k,own k→k<w0.heap.size):xy most own p d r w0 e w':=by
 obtain⟨rfl,yI,h1,h2,h3⟩:=h;refine⟨rfl,yI,h1,⟨h2.os.trans hb.os,h2.tape.trans hb.tape,h2.output.trans hb.output,Nat.le_trans hb.size h2.size,fun k hk hn=>?_⟩,fun k hk=>?_⟩
 ·rw[h2.block k (Nat.lt_of_lt_of_le hk hb.size) hn,hb.block k hk]
 ·rcases h3 k hk with g|g
  ·exact .inl g
  ·exact .inr (Nat.le_trans hb.size g)
end
def zg (w:World)(B:Nat)(v:Value)(zs:List Int):Prop:=w.ownsRow B 3 1 v zs.length (zs.map (Value.int .i64))
def qnV (w:World)(bs:List (List Wr))(v i:Value)(wr:World):Prop :=
 ∃k:Nat,k≤bs.length∧i=.int .i64 (k:Int)∧zg wr w.heap.size v (placesOf (bs.take k))∧Below w.heap.size w wr
def qvM (w:World)(pre:List Int)(l:List Wr)(v i:Value)(wr:World):Prop :=
 ∃k:Nat,k≤l.length∧i=.int .i64 (k:Int)∧zg wr w.heap.size v (pre++(l.take k).map (·.1))∧Below w.heap.size w wr
theorem sN (bs:List (List Wr))(k:Nat)(h:k<bs.length):placesOf (bs.take (k+1))=placesOf (bs.take k)++bs[k].map (·.1):=by
 unfold placesOf;rw[List.take_succ_eq_append_getElem h,List.flatten_append,List.map_append];simp
theorem gz:∀(bs:List (List Wr)),(∀l∈bs,l.length≤1000)→(placesOf bs).length≤1000*bs.length
 | [],_=>by simp[placesOf]
 | l::r,h=>by
  have h1:=h l (by simp);have h2:=gz r (fun m hm=>h m (by simp[hm]));simp only[placesOf,List.flatten_cons,List.map_append,List.length_append,List.length_map,List.length_cons]at h2 ⊢;omega
theorem qrJ(z:Int):∀u∈([Value.int .i64 z]:List Value),u.oneCell'=true:=by
 intro u hu;simp at hu;subst hu;rfl
def yv (zs:List Int)(w:World)(e:Ending)(w':World):Prop:=∃v,e=.returned v∧zg w' w.heap.size v zs∧Below w.heap.size w w'
theorem zg.view{w:World}{B:Nat}{v:Value}{zs:List Int}(h:zg w B v zs)(hz:∀z∈zs,qD z):∃a c,v=.slice a zs.length c∧qI w a zs:=by
 rcases h.2 with⟨rfl,h0⟩|⟨g,cap,cur,rfl,hg,hh,hcc,hm,hcs,xC⟩
 ·obtain rfl:zs=[]:=List.length_eq_zero_iff.1 h0;exact⟨none,0,rfl,fun i h=>by simp at h⟩
 ·refine⟨some ⟨g,0,none⟩,cap,rfl,fun i hi=>⟨g,0,rfl,(Array.getElem?_eq_some_iff.1 hh).1,?_,(hz _ (List.getElem_mem hi)).1,(hz _ (List.getElem_mem hi)).2⟩⟩;rw[Nat.zero_add,cell_of_row w g i cur 3 (0,0) hh];have h3:(cur.toList.take (zs.length*1))[i]?=some (.int .i64 zs[i]):=by rw[xC];simp[hi]
  rw[List.getElem?_take]at h3;split at h3
  ·simpa using h3
  ·cases h3
theorem uG (a:Option Addr)(c:Nat)(bs:List (List Wr))(w:World)(hT:qdt w a bs)(hl:bs.length≤10)(hl2:∀l∈bs,l.length≤1000) :
    Calls prog 183 #[.slice a bs.length c] w (yv (placesOf bs) w):=by
 obtain⟨i0,hi,hz0,hz1,hz2⟩:=info_parts wN;have HT:=QH hT;have ig:=QH hl2;clear hT hl2;go_enter func183,ntmps183;go_wp2_with fail;go_loopw [3,10] (fun v i wr=>qnV w bs v i wr) (fun _ i _=>bs.length-(intOf i).toNat);case atStart=>exact⟨0,Nat.zero_le _,rfl,World.ownsRow_nil _ _ _ _,Below.refl _ _⟩
 case round =>
  obtain⟨k,hk,rfl,ho0,hB0⟩:=hrel;have HO0:=QH ho0;have jt:=QH hB0;clear ho0 hB0;by_cases hlt:k<bs.length
  ·obtain⟨b,o,A,cc,rfl,hb,hc,hW⟩:=HT.out k hlt;have hst:=sN bs k hlt;have hlen:=ig.out bs[k] (List.getElem_mem hlt);generalize bs[k]=l at *;have hc2:wr.cell? ⟨b,o+k,none⟩=some (.slice A l.length cc):=by rw[jt.out.cell (p:=⟨b,o+k,none⟩) hb];exact hc
   have hb2:b<wr.heap.size:=Nat.lt_of_lt_of_le hb jt.out.size;have qb5:(k:Int)<(bs.length:Int):=by omega
   have HW:=QH hW;have HST:=QH hst;clear hc hW hst;go_wp2_with fail;obtain⟨wo,rfl⟩:∃wo:World,wo=wr:=⟨_,rfl⟩;go_loopw [3,16] (fun v i wr=>qvM w (placesOf (bs.take k)) l v i wr) (fun _ i _=>l.length-(intOf i).toNat);case atStart=>exact⟨0,Nat.zero_le _,rfl,by simpa using HO0.out,jt.out⟩
   case round =>
    obtain⟨j,hj,rfl,hown,hB⟩:=hrel;have HO:=QH hown;have HB:=QH hB;clear hown hB;have hvl:(placesOf (bs.take k)++(l.take j).map (·.1)).length≤100000:=by
     have h2:=gz (bs.take k) (fun m hm=>ig.out m (List.mem_of_mem_take hm));have h3:(bs.take k).length≤10:=by simp;omega
     rw[List.length_append,List.length_map,List.length_take];omega
    by_cases hjl:j<l.length
    ·obtain⟨bb,oo,rfl,hbb,q0,q1,qb⟩:=HW.out j hjl;have sJ:(l.take (j+1)).map (·.1)=(l.take j).map (·.1)++[l[j].1]:=by rw[List.take_succ_eq_append_getElem hjl,List.map_append];rfl
     generalize l[j]=x at *;have e0:wr.cell? ⟨bb,oo+j*2,none⟩=some (.int .i64 x.1):=by rw[HB.out.cell (p:=⟨bb,oo+j*2,none⟩) hbb];exact q0
     have e1:wr.cell? ⟨bb,oo+j*2+1,none⟩=some (.string (str x.2)):=by rw[HB.out.cell (p:=⟨bb,oo+j*2+1,none⟩) hbb];exact q1
     have q4P:bb<wr.heap.size:=Nat.lt_of_lt_of_le hbb HB.out.size;have qvK:(j:Int)<(l.length:Int):=by omega
     have HWS:=QH sJ;have hB1:Below w.heap.size w (wr.alloc (.cells #[.int .i64 x.1,.string (str x.2)] 105)):=HB.out.alloc HB.out.size _;have hB2:Below w.heap.size w ((wr.alloc (.cells #[.int .i64 x.1,.string (str x.2)] 105)).alloc (.cells #[.int .i64 x.1] 3)):=hB1.alloc hB1.size _;have hown2:=(HO.out.alloc (.cells #[.int .i64 x.1,.string (str x.2)] 105)).alloc (.cells #[.int .i64 x.1] 3);have hnews:=fJ (wr.alloc (.cells #[.int .i64 x.1,.string (str x.2)] 105)) 3 (.int .i64 x.1);have qdu:(wr.alloc (.cells #[.int .i64 x.1,.string (str x.2)] 105)).heap.size=wr.heap.size+1:=by simp
     rw[qdu]at hnews;have vX:=QH hown2;have wI:=QH hnews;have qA:=QH hB2;clear q0 q1 qb sJ hB1 hB2 hown2 hnews qdu;generalize hpl:placesOf (bs.take k)++(l.take j).map (·.1)=zs at *;go_wp2_with (at_builtin;refine wpList_append_own _ rfl (.tmp 20) (.tmp 23) 80 rfl w.heap.size 3 i0 (.int .i64 0) 1 8 underlying80 hi hz0 hz1 hz2 rfl (by decide) _ zs.length _ rfl vX.out ⟨wr.heap.size+1,0,none⟩ 1 1 [.int .i64 x.1] rfl rfl wI.out (qrJ _) ?_ ?_ qA.out.size ?_)
     ·unfold maxLen;omega
     ·omega
     ·intro v' w1 hown1 hgrow _;have hb1:=qA.out.grown hgrow qA.out.size (fun j hj=>(vX.out.lt j hj).1);have ho1:zg w1 w.heap.size v' (zs++[x.1]):=by unfold zg;rw[List.length_append,List.map_append];exact hown1
      have HO1:=QH ho1;have qO:=QH hb1;clear hb1 ho1 hown1 hgrow;go_wp2_with fail;go_roundw;case rel=>exact⟨j+1,by omega,by go_num,by rw[HWS.out,← List.append_assoc,hpl];exact HO1.out,qO.out⟩
      case measure=>simp[intOf];omega
    ·obtain rfl:j=l.length:=by omega
     go_wp2_with fail;go_roundw;case rel=>exact⟨k+1,by omega,by go_num,by rw[HST.out];have:=HO.out;rw[List.take_length]at this;exact this,HB.out⟩
     case measure=>simp[intOf];omega
  ·obtain rfl:k=bs.length:=by omega
   go_wp2_with fail;go_ret;have:=HO0.out;rw[List.take_length]at this;exact⟨_,rfl,this,jt.out⟩
end Go.Proofs.YtdpbdkacngaemaaGreatDoor.jr
namespace Go.Proofs.YtdpbdkacngaemaaGreatDoor.jr
open _root_.Go.Proofs.Tryz Go Go.RowKit dk wi
def zQ:List Wr→List Value
 | []=>[]
 | x::r=>.int .i64 x.1 :: .string (str x.2)::zQ r
def mj (w:World)(B:Nat)(v:Value)(l:List Wr):Prop:=w.ownsRow B 105 2 v l.length (zQ l)
theorem vQ:∀(l r:List Wr),zQ (l++r)=zQ l++zQ r
 | [],_=>rfl
 | x::l,r=>by simp[zQ,vQ l r]
theorem jy:∀l:List Wr,(zQ l).length=l.length*2
 | []=>rfl
 | x::l=>by simp[zQ,jy l];omega
theorem uR:∀(l:List Wr) (i:Nat) (h:i<l.length),(zQ l)[i*2]?=some (.int .i64 l[i].1)∧(zQ l)[i*2+1]?=some (.string (str l[i].2))
 | x::l,0,_=>⟨rfl,rfl⟩
 | x::l,i+1,h=>by
  have:=uR l i (by simpa using h);rw[show(i+1)*2=i*2+1+1 from by omega];exact this
theorem mj.view{w:World}{B:Nat}{v:Value}{l:List Wr}(h:mj w B v l)(hz:∀x∈l,qD x.1):∃a c,v=.slice a l.length c∧uQ w a l:=by
 rcases h.2 with⟨rfl,h0⟩|⟨g,cap,cur,rfl,hg,hh,hcc,hm,hcs,xC⟩
 ·obtain rfl:l=[]:=List.length_eq_zero_iff.1 h0;exact⟨none,0,rfl,fun i h=>by simp at h⟩
 ·refine⟨some ⟨g,0,none⟩,cap,rfl,fun i hi=>?_⟩;have key:∀(j:Nat) (u:Value),(zQ l)[j]?=some u→w.cell? ⟨g,j,none⟩=some u:=by
   intro j u hu;rw[cell_of_row w g j cur 105 (0,0) hh];rw[← xC,List.getElem?_take]at hu;split at hu
   ·simpa using hu
   ·cases hu
  obtain⟨g0,g1⟩:=uR l i hi;exact⟨g,0,rfl,(Array.getElem?_eq_some_iff.1 hh).1,by rw[Nat.zero_add];exact key _ _ g0,by rw[Nat.zero_add];exact key _ _ g1,hz _ (List.getElem_mem hi)⟩
theorem qb7(x:Wr):∀u∈([Value.int .i64 x.1,.string (str x.2)]:List Value),u.oneCell'=true:=by
 intro u hu;simp at hu;rcases hu with rfl|rfl <;> rfl
theorem qnW(w:World)(t:TypeId)(v u:Value):∀(j:Nat) (x:Value),([v,u]:List Value)[j]?=some x→(w.alloc (.cells #[v,u] t)).cell? ((⟨w.heap.size,0,none⟩:Addr).add j)=some x:=by
 intro j x hj
 match j,hj with
 | 0,hj =>
  simp at hj;subst hj;rw[addr_add];exact(qf.new w t #[v,u]).cell 0
 | 1,hj =>
  simp at hj;subst hj;rw[addr_add];exact(qf.new w t #[v,u]).cell 1
theorem mj.snoc{w1:World}{B:Nat}{v':Value}{l:List Wr}{x:Wr}(h:w1.ownsRow B 105 2 v' (l.length+1) (zQ l++[.int .i64 x.1,.string (str x.2)])):mj w1 B v' (l++[x]):=by
 unfold mj;rw[List.length_append,vQ];exact h
theorem qnX{w:World}{B C:Nat}{v:Value}{l:List Wr}(h:mj w B v l)(hc:C≤B):mj w C v l:=by
 refine⟨h.1,?_⟩;rcases h.2 with hn|⟨g,cap,cur,hv,hb,rest⟩
 ·exact .inl hn
 ·exact .inr ⟨g,cap,cur,hv,Nat.le_trans hc hb,rest⟩
def q4T (l:List Wr)(w:World)(e:Ending)(w':World):Prop:=∃v,e=.returned v∧mj w' w.heap.size v l∧Below w.heap.size w w'
def qvN (w:World)(o:Nat)(ss:List Bt)(v i:Value)(wr:World):Prop :=
 ∃k:Nat,k≤ss.length∧i=.int .i64 (k:Int)∧mj wr w.heap.size v (zn o (ss.take k))∧Below w.heap.size w wr
theorem uf (a cnt:Nat)(ha:a<2)(A:Option Addr)(cc:Nat)(ss:List Bt)(w:World)(hT:jd w A ss)(hl:ss.length≤1000) :
    Calls prog 181 #[.agg #[.int .i64 (a:Int),.int .i64 (cnt:Int)],.slice A ss.length cc] w (q4T (lay a ss) w):=by
 obtain⟨i0,hi,hz0,hz1,hz2⟩:=info_parts qnU;have HT:=QH hT;have qjU:=fun(W:World)=>qak a cnt ha W;unfold lay;have q0g:1+a*72≤73:=by omega
 obtain⟨o1,ho1⟩:=QE (1+a*72);rw[ho1]at q0g;simp only[ho1]at qjU;rw[ho1];have HF:=QH qjU;clear ho1 qjU;have kb:qf (w.alloc (.cells #[.int .i64 (a:Int),.int .i64 (cnt:Int)] 188)) w.heap.size _ _:=qf.new w _ _;clear hT;have k0:=kb.lt;have hb0:Below w.heap.size w (w.alloc (.cells #[.int .i64 (a:Int),.int .i64 (cnt:Int)] 188)):=(Below.refl w.heap.size w).alloc (Nat.le_refl _) _;go_enter func181,ntmps181;go_wp2_with fail;obtain⟨w0,hw0⟩:=QE (w.alloc (.cells #[.int .i64 (a:Int),.int .i64 (cnt:Int)] 188));rw[hw0]at kb k0 hb0;rw[hw0];clear hw0;have KB:=QH kb;have jt:=QH hb0;clear kb hb0;go_loopw [5,10] (fun v i wr=>qvN w0 o1 ss v i wr) (fun _ i _=>ss.length-(intOf i).toNat);case atStart=>exact⟨0,Nat.zero_le _,rfl,World.ownsRow_nil _ _ _ _,Below.refl _ _⟩
 case round =>
  obtain⟨k,hk,rfl,ho,hB⟩:=hrel;have HO:=QH ho;have HB:=QH hB;clear ho hB;by_cases hlt:k<ss.length
  ·obtain⟨b,o,rfl,hb,hc⟩:=HT.out k hlt;have hsn:zn o1 (ss.take (k+1))=zn o1 (ss.take k)++[(((o1+k:Nat):Int),ss[k])]:=by
    rw[List.take_succ_eq_append_getElem hlt,cy];simp only[List.length_take];rw[Nat.min_eq_left (by omega)]
   have gI:(zn o1 (ss.take k)).length=k:=by rw[zh];simp;omega
   generalize ss[k]=x at *;have ja:=QH (jt.out.trans (HB.out.mono jt.out.size));have e0:wr.cell? ⟨b,o+k,none⟩=some (.string (str x)):=by rw[ja.out.cell (p:=⟨b,o+k,none⟩) hb];exact hc
   have hb2:b<wr.heap.size:=Nat.lt_of_lt_of_le hb ja.out.size;have hB2:=KB.out.of_block (HB.out.block _ k0);have q0:=hB2.cell 0;have q1:=hB2.cell 1;have lt2:=hB2.lt;have qb5:(k:Int)<(ss.length:Int):=by omega
   have xP:=QH hsn;have vI:=QH gI;clear hc hB2 hsn;go_wp2_with fail;refine(HF.out _).mono ?_;rintro e W1 ⟨rfl,b1⟩;have ho1:W1.ownsRow w0.heap.size 105 2 _ _ _:=ym HO.out (fun j hj=>b1.block j (iK HO.out j hj));have qO:=QH (HB.out.trans (b1.mono HB.out.size));have hown2:=ho1.alloc (.cells #[.int .i64 ((o1:Int)+(k:Int)),.string (str x)] 105);have hnews:=qnW W1 105 (.int .i64 ((o1:Int)+(k:Int))) (.string (str x));have vX:=QH hown2;have wI:=QH hnews;have qA:=QH (qO.out.alloc qO.out.size (.cells #[.int .i64 ((o1:Int)+(k:Int)),.string (str x)] 105));clear b1 ho1 hown2 hnews q0 q1;have hkb:k≤100000:=by omega
   go_wp2_with (at_builtin;refine wpList_append_own _ rfl (.tmp 15) (.tmp 22) 89 rfl w0.heap.size 105 i0 (.agg #[.int .i64 0,.string ByteArray.empty]) 2 24 underlying89 hi hz0 hz1 hz2 rfl (by decide) _ (zn o1 (ss.take k)).length _ rfl vX.out ⟨W1.heap.size,0,none⟩ 1 1 [.int .i64 ((o1:Int)+(k:Int)),.string (str x)] rfl rfl wI.out (qb7 (((o1:Int)+(k:Int)),x)) ?_ ?_ qA.out.size ?_)
   ·rw[vI.out];unfold maxLen;omega
   ·rw[vI.out];omega
   ·intro v' w1 hown1 hgrow _;have hb1:=qA.out.grown hgrow qA.out.size (fun j hj=>(vX.out.lt j hj).1);have hos:=mj.snoc (w1:=w1) (B:=w0.heap.size) (v':=v') (l:=zn o1 (ss.take k)) (x:=((o1:Int)+(k:Int),x)) (by rw[vI.out];exact hown1);have HOS:=QH hos;have zv:=QH hb1;clear hb1 hos hown1 hgrow;go_wp2_with fail;go_roundw;case rel=>exact⟨k+1,by omega,by go_num,by rw[xP.out];exact HOS.out,zv.out⟩
    case measure=>simp[intOf];omega
  ·obtain rfl:k=ss.length:=by omega
   go_wp2_with fail;go_ret;have:=HO.out;rw[List.take_length]at this;refine⟨_,rfl,?_,jt.out.trans (HB.out.mono jt.out.size)⟩;exact qnX this jt.out.size
end Go.Proofs.YtdpbdkacngaemaaGreatDoor.jr
namespace Go.Proofs.YtdpbdkacngaemaaGreatDoor.vt.pg
open _root_.Go.Proofs.Tryz Go Go.RowKit ib mt im sp
abbrev Wr:=jr.Wr
theorem qb8:(prog.info? 105).map (fun i=>(i.zero,i.size,i.bytes))=some (some (.agg #[.int .i64 0,.string ByteArray.empty]),2,24):=by kernel_rfl
def wz (n:Nat):List Value:=jr.zQ (List.replicate n (0,[]))
theorem qnZ(n:Nat):(wz n).length=n*2:=by unfold wz;rw[jr.jy,List.length_replicate]
theorem qvO(n:Nat):madeCells #[.int .i64 0,.string ByteArray.empty] (n*2)=(wz n).toArray:=by
 apply Array.ext
 ·rw[size_madeCells,List.size_toArray,qnZ]
 ·intro j h1 h2;have hj:j<n*2:=by simpa[qnZ]using h2
  have hm:j%2<2:=Nat.mod_lt _ (by omega);have hg:=jr.uR (List.replicate n ((0:Int),([]:List UInt8))) (j/2) (by simp;omega);rw[List.getElem_replicate]at hg;have e2:(wz n).toArray[j]?=some (if j%2=0 then .int .i64 0 else .string (str [])):=by
   rw[List.getElem?_toArray];unfold wz;by_cases h0:j%2=0
   ·rw[if_pos h0];have:=hg.1;rw[show j/2*2=j by omega]at this;exact this
   ·rw[if_neg h0];have:=hg.2;rw[show j/2*2+1=j by omega]at this;exact this
  rw[Array.getElem?_eq_getElem h2]at e2;rw[Option.some.inj e2];obtain⟨q,hq⟩:=QE (j%2);rw[hq]at hm ⊢
  match q,hm with
  | 0,_=>simp[madeCells,hq]
  | 1,_=>simp[madeCells,hq];rfl
theorem qgr{ρ:Operand→Value}{o:Oper}{w:World}(x y:Operand)(n:Nat)(ho:o.op=.makeSlice 89 x y)(hx:ρ x=.int .i64 (n:Int))(hy:ρ y=.int .i64 (n:Int))(h:n≤1000) :
    (execOp ρ o).run prog w=.ok (.value (.slice (some ⟨w.heap.size,0,none⟩) n n)) (w.alloc (.cells (wz n).toArray 105)):=by
 obtain⟨i0,hi,hz0,hz1,hz2⟩:=info_parts qb8;have hmk:=run_make (P:=prog) w 89 105 i0 (.agg #[.int .i64 0,.string ByteArray.empty]) underlying89 hi hz0 .i64 .i64 (n:Int) (n:Int) (by omega) (Int.le_refl _) (by rw[hz2];omega) (by omega);rw[hz1]at hmk;have:(Instr.makeSlice 89 (.int .i64 (n:Int)) (.int .i64 (n:Int))).run prog w=.ok (.slice (some ⟨w.heap.size,0,none⟩) n n) (w.alloc (.cells (wz n).toArray 105)):=by
  rw[← qvO];simpa[Value.cells]using hmk
 simp[execOp,ho,hx,hy,this,Result.andThen]
theorem cO:∀(l:List Wr) (k:Nat) (_:k<l.length) (x:Wr),((jr.zQ l).set (k*2) (.int .i64 x.1)).set (k*2+1) (.string (str x.2))=jr.zQ (l.set k x)
 | y::l,0,_,x=>rfl
 | y::l,k+1,hk,x=>by
  have ih:=cO l k (by simpa using hk) x;rw[show(k+1)*2=k*2+1+1 by omega];simp only[jr.zQ,List.set_cons_succ];exact congrArg _ (congrArg _ ih)
theorem qrK{ss:List Bt}{n k:Nat}(hl:ss.length=n)(hk:k<n):(jr.zn 145 (ss.take k)++List.replicate (n-k) ((0:Int),([]:List UInt8))).set k (((145+k:Nat):Int),ss[k]'(by omega))=jr.zn 145 (ss.take (k+1))++List.replicate (n-(k+1)) ((0:Int),([]:List UInt8)):=by
 have rU:(jr.zn 145 (ss.take k)).length=k:=by rw[jr.zh,List.length_take];omega
 rw[List.set_append_right _ _ (by omega),rU,Nat.sub_self,show n-k=(n-(k+1))+1 by omega,List.replicate_succ,List.set_cons_zero,List.take_succ_eq_append_getElem (by omega),jr.cy,List.length_take,Nat.min_eq_left (by omega),List.append_assoc];rfl
def WrR (ss:List Bt)(g:Nat)(w:World)(i:Value)(wr:World):Prop :=
 ∃k:Nat,k≤ss.length∧i=.int .i64 (k:Int)∧qf wr g 105 (jr.zQ (jr.zn 145 (ss.take k)++List.replicate (ss.length-k) ((0:Int),([]:List UInt8)))).toArray∧ib.qz (fun j=>j=g) w wr
def q4U (m:Mt)(w:World)(e:Ending)(w':World):Prop:=∃v,e=.returned (.tuple #[v,.int .i64 0])∧jr.mj w' w.heap.size v (jr.zn 145 (xO m))∧Below w.heap.size w w'
theorem pD {w:World}{A0 A1 A2:Option Addr}{c0 c1 c2:Nat}{m:Mt}(ht:MtL w A0 A1 A2 c0 c1 c2 m)(hsz:mtS m)(hE:gU m=(zA m,0))(q4V:(zA m).length≤999)(hT:xY w) :
    Calls prog 44 #[.agg (zF A0 A1 A2 c0 c1 c2 m)] w (q4U m w):=by
 obtain⟨W1,hW1,zt,hb1⟩:=xZ w (zF A0 A1 A2 c0 c1 c2 m);have qO:=QH hb1;have he:=mt.pg.qh9 (.agg (zF A0 A1 A2 c0 c1 c2 m)) m W1 ⟨A0,A1,A2,c0,c1,c2,rfl,ht.below hb1⟩ hsz;rw[hE]at he;have HE:=QH he;have hPk:∀W,xY W→Calls prog 101 #[.string (str (zA m))] W (qnG (str (zA m)) W):=fun W h=>fF _ W (by rw[qN];omega) h;have qai:qK (bl (str (zA m)))=xO m:=by rw[zw];rfl
 obtain⟨S,hS⟩:=QE (str (zA m));rw[hS]at hPk qai;have HPK:=QH hPk;have HSE:=QH qai;have h48:(xO m).length≤48:=by
  unfold xO;rw[yf];unfold nsec;omega
 have HTT:Hid (∀W,Below w.heap.size w W→xY W):=fun W h=>hT.below h hT.1;have q0:=zt.cell 0;have q1:=zt.cell 1;have q2:=zt.cell 2;have q3:=zt.cell 3;have q4:=zt.cell 4;have q5:=zt.cell 5;have q6:=zt.cell 6;have q7:=zt.cell 7;have q8:=zt.cell 8;have ma:=zt.lt;simp only[zF,QA,QB,QC]at q0 q1 q2 q3 q4 q5 q6 q7 q8;unfold qu9 at HE;dsimp only at HE;rw[hS]at HE;clear ht zt hb1 he hPk qai hT hS hsz hE q4V;unfold zF at hW1 HE ⊢;go_enter func44,ntmps44;go_upto_region 1 with fail;try rw[hW1]
 clear hW1;go_wp2_with fail;refine HE.out.mono ?_;rintro e W2 ⟨rfl,hb2⟩;have qA:=QH (qa qO.out hb2);clear hb2 HE q0 q1 q2 q3 q4 q5 q6 q7 q8 ma;go_wp2_with fail;refine(HPK.out W2 (HTT.out W2 qA.out)).mono ?_;rintro e W3 ⟨v,rfl,ho,hb3⟩;rw[HSE.out]at ho;obtain⟨A,c,hv,_,_,hp,_,_⟩:=ho.view;subst hv;have HP:=QH hp;have zv:=QH (qa qA.out hb3);obtain⟨ss,hss⟩:=QE (xO m);have HM:=QH hss;rw[hss]at HP h48 ⊢;clear ho hp hb3 HSE HPK HTT hss;have hb4:=(Below.refl _ W3).alloc (Nat.le_refl _) (.cells (wz ss.length).toArray 105);have hk4:=qf.new W3 105 (wz ss.length).toArray;obtain⟨W4,ie⟩:=QE (W3.alloc (.cells (wz ss.length).toArray 105));rw[ie]at hb4 hk4;have zx:=QH (qa zv.out hb4);have ed:=QH hk4;have ml:Hid (∀i (h:i<ss.length),∃b o,A=some ⟨b,o,none⟩∧b<W3.heap.size∧W4.cell? ⟨b,o+i,none⟩=some (.string (str ss[i]))):=fun i hi=>by
  obtain⟨b,o,h1,h2,h3⟩:=HP.out i hi;exact⟨b,o,h1,h2,(hb4.cell (p:=⟨b,o+i,none⟩) h2).trans h3⟩
 have q4X:Hid (W3.heap.size≤W4.heap.size):=hb4.size;have gH:Hid (w.heap.size≤W3.heap.size):=zv.out.size;clear hb4 hk4 HP;go_wp2_with (at_make;refine qi rfl (qgr _ _ ss.length rfl rfl rfl (by omega)) ?_);try rw[ie]
 clear ie;go_loopw [37] (fun i wr=>WrR ss W3.heap.size W4 i wr) (fun i _=>ss.length-(intOf i).toNat);case atStart=>exact⟨0,Nat.zero_le _,rfl,ed.out,ib.qz.refl _ _⟩
 case round =>
  obtain⟨k,hk,rfl,zy,hB⟩:=hrel;have kX:=QH zy;have HU:=QH hB;have HB:Hid (Below w.heap.size w wr):=zx.out.trans (hB.below (fun i e=>by rw[e];exact gH.out) zx.out.size);clear zy hB;by_cases hlt:k<ss.length
  ·have yt:(k:Int)<(ss.length:Int):=by omega
   have hk0:¬ (k:Int)<0:=by omega
   obtain⟨b,o,rfl,s1,s2⟩:=ml.out k hlt;have s0:b<W4.heap.size:=Nat.lt_of_lt_of_le s1 q4X.out;have s3:b<wr.heap.size:=Nat.lt_of_lt_of_le s0 HU.out.size;have s4:=(World.cell?_of_block (a:=⟨b,o+k,none⟩) (HU.out.block b s0 (by show ¬ b=W3.heap.size;omega))).trans s2;have HLS:=QH (qrK (ss:=ss) rfl hlt);have hlen:(jr.zn 145 (ss.take k)++List.replicate (ss.length-k) ((0:Int),([]:List UInt8))).length=ss.length:=by
    rw[List.length_append,jr.zh,List.length_take,List.length_replicate];omega
   have HVS:=QH (cO (jr.zn 145 (ss.take k)++List.replicate (ss.length-k) ((0:Int),([]:List UInt8))) k (by omega) (((145+k:Nat):Int),ss[k]));rw[HLS.out]at HVS;obtain⟨x,hx⟩:=QE (ss[k]);rw[hx]at HVS s4;obtain⟨g0,g1⟩:=jr.uR (jr.zn 145 (ss.take k)++List.replicate (ss.length-k) ((0:Int),([]:List UInt8))) k (by omega);have k0:wr.cell? ⟨W3.heap.size,k*2,none⟩=some (.int .i64 ((jr.zn 145 (ss.take k)++List.replicate (ss.length-k) ((0:Int),([]:List UInt8)))[k]'(by omega)).1):=by rw[kX.out.cell];simpa using g0
   have k1:wr.cell? ⟨W3.heap.size,k*2+1,none⟩=some (.string (str ((jr.zn 145 (ss.take k)++List.replicate (ss.length-k) ((0:Int),([]:List UInt8)))[k]'(by omega)).2)):=by rw[kX.out.cell];simpa using g1
   obtain⟨z0,hz0⟩:∃z,wr.cell? ⟨W3.heap.size,k*2,none⟩=some z:=⟨_,k0⟩;obtain⟨z1,hz1⟩:∃z,wr.cell? ⟨W3.heap.size,k*2+1,none⟩=some z:=⟨_,k1⟩;have f0:=kX.out.frozen (k*2);have f1:=kX.out.frozen (k*2+1);have jG:=kX.out.lt;have HK5:Hid (qf ((wr.setCell ⟨W3.heap.size,k*2,none⟩ (.int .i64 (145+(k:Int)))).setCell ⟨W3.heap.size,k*2+1,none⟩ (.string (str x))) W3.heap.size 105 (jr.zQ (jr.zn 145 (ss.take (k+1))++List.replicate (ss.length-(k+1)) ((0:Int),([]:List UInt8)))).toArray):=by
    have h:=(kX.out.qg (k*2) (.int .i64 (145+(k:Int)))).qg (k*2+1) (.string (str x));rw[List.setIfInBounds_toArray,List.setIfInBounds_toArray]at h;rw[← HVS.out];have e:(((145+k:Nat):Int))=145+(k:Int):=by omega
    dsimp only;rw[e];exact h
   have yw:Hid (ib.qz (fun j=>j=W3.heap.size) W4 ((wr.setCell ⟨W3.heap.size,k*2,none⟩ (.int .i64 (145+(k:Int)))).setCell ⟨W3.heap.size,k*2+1,none⟩ (.string (str x)))):=(HU.out.setCell ⟨W3.heap.size,k*2,none⟩ _ (.inl rfl)).setCell ⟨W3.heap.size,k*2+1,none⟩ _ (.inl rfl);have hw:IntKind.i64.wrap (145+(k:Int))=145+(k:Int):=by rw[IntWalk.i64_in _ (by omega)]
   clear hx hlen HVS HLS g0 g1 k0 k1 s0 s1 s2;go_wp2_with fail;go_roundw;case rel=>exact⟨k+1,by omega,by go_num,HK5.out,yw.out⟩
   case measure=>simp[intOf];omega
  ·obtain rfl:k=ss.length:=by omega
   have yt:¬ (ss.length:Int)<(ss.length:Int):=by omega
   have zy:=kX.out;rw[List.take_length,Nat.sub_self,List.replicate_zero,List.append_nil]at zy;have HO:Hid (jr.mj wr w.heap.size (.slice (some ⟨W3.heap.size,0,none⟩) ss.length ss.length) (jr.zn 145 ss)):=by
    refine⟨by rw[jr.jy],.inr ⟨W3.heap.size,ss.length,_,by rw[jr.zh],gH.out,zy,by rw[jr.zh];exact Nat.le_refl _,by unfold maxLen;omega,?_,?_⟩⟩
    ·rw[List.size_toArray,jr.jy,jr.zh]
    ·rw[jr.zh];have:(jr.zQ (jr.zn 145 ss)).length=ss.length*2:=by rw[jr.jy,jr.zh]
     show(jr.zQ (jr.zn 145 ss)).take (ss.length*2)=_;rw[← this,List.take_length]
   clear zy;go_wp2_with fail;go_ret2;exact⟨_,rfl,by rw[HM.out];exact HO.out,HB.out⟩
def qoa (w:World)(k:FuncId)(b:Value)(h:Wr→Bool)(l:List Wr):Prop:=∀W,Below w.heap.size w W→∀x∈l,Calls prog k #[b,.agg #[.int .i64 x.1,.string (str x.2)]] W (uC (h x) W)
structure wJ(w:World)(g n c:Nat)(l:List Wr):Prop where
 ex:∃cur,qf w g 105 cur∧cur.size=c*2∧cur.toList.take (n*2)=jr.zQ l
 len:l.length=n
 cap:n≤c
theorem wJ.cells{w:World}{g n c:Nat}{l:List Wr}(h:wJ w g n c l)(i:Nat)(hi:i<l.length):w.cell? ⟨g,i*2,none⟩=some (.int .i64 l[i].1)∧w.cell? ⟨g,i*2+1,none⟩=some (.string (str l[i].2)):=by
 obtain⟨cur,h1,h2,h3⟩:=h.ex;obtain⟨a,b⟩:=jr.uR l i hi;exact⟨vP h1 h3 _ _ a,vP h1 h3 _ _ b⟩
theorem wJ.lt{w:World}{g n c:Nat}{l:List Wr}(h:wJ w g n c l):g<w.heap.size:=by
 obtain⟨cur,h1,_⟩:=h.ex;exact h1.lt
theorem wJ.fro{w:World}{g n c:Nat}{l:List Wr}(h:wJ w g n c l)(i:Nat):w.frozen? ⟨g,i,none⟩=false:=by
 obtain⟨cur,h1,_⟩:=h.ex;exact h1.frozen i
theorem wJ.below{w w':World}{g n c:Nat}{l:List Wr}(h:wJ w g n c l)(hb:Below w.heap.size w w'):wJ w' g n c l:=by
 obtain⟨cur,h1,h2,h3⟩:=h.ex;exact⟨⟨cur,h1.below hb,h2,h3⟩,h.len,h.cap⟩
theorem wJ.set{w:World}{g n c:Nat}{l:List Wr}(h:wJ w g n c l)(i:Nat)(hi:i<l.length)(x:Wr):wJ ((w.setCell ⟨g,i*2,none⟩ (.int .i64 x.1)).setCell ⟨g,i*2+1,none⟩ (.string (str x.2))) g n c (l.set i x):=by
 obtain⟨cur,h1,h2,h3⟩:=h.ex;refine⟨⟨_,(h1.qg (i*2) _).qg (i*2+1) _,by simpa using h2,?_⟩,by rw[List.length_set];exact h.len,h.cap⟩;rw[Array.toList_setIfInBounds,Array.toList_setIfInBounds,List.take_set,List.take_set,h3];exact cO l i hi x
theorem wJ.ows{w:World}{g n c B:Nat}{l:List Wr}(h:wJ w g n c l)(hB:B≤g)(hc:c≤maxLen):jr.mj w B (.slice (some ⟨g,0,none⟩) n c) l:=by
 obtain⟨cur,h1,h2,h3⟩:=h.ex;refine⟨by rw[jr.jy],.inr ⟨g,c,cur,by rw[h.len],hB,h1,by rw[h.len];exact h.cap,hc,h2,by rw[h.len];exact h3⟩⟩
theorem wJ.qvP{w:World}{B:Nat}{v:Value}{l:List Wr}(h:jr.mj w B v l)(h1:0<l.length):∃g c,v=.slice (some ⟨g,0,none⟩) l.length c∧B≤g∧wJ w g l.length c l∧c≤maxLen:=by
 rcases h.2 with⟨_,h0⟩|⟨g,cap,cur,hv,hg,hh,hcc,hm,hcs,xC⟩
 ·omega
 ·exact⟨g,cap,hv,hg,⟨⟨cur,hh,hcs,xC⟩,rfl,hcc⟩,hm⟩
def IxW (l:List Wr)(h:Wr→Bool)(w:World)(i:Value)(wr:World):Prop :=
 ∃k:Nat,k≤l.length∧i=.int .i64 (k:Int)∧(∀j (hj:j<l.length),j<k→h l[j]=false)∧Below w.heap.size w wr
def q0h (l:List Wr)(h:Wr→Bool)(w:World)(e:Ending)(w':World):Prop:=Below w.heap.size w w'∧((∃(k:Nat) (hk:k<l.length),e=.returned (.int .i64 (k:Int))∧h l[k]=true∧∀j (hj:j<l.length),j<k→h l[j]=false)∨(e=.returned (.int .i64 (-1))∧∀j (hj:j<l.length),h l[j]=false))
theorem qob{w0 w:World}{g n c:Nat}{b:Value}{h:Wr→Bool}{l:List Wr}(hR:wJ w g n c l)(hb:Below w0.heap.size w0 w)(hC:qoa w0 141 b h l)(hl:l.length≤1000) :
    Calls prog 223 #[.slice (some ⟨g,0,none⟩) n c,.func (.func 141) #[b] #[]] w (q0h l h w):=by
 have HR:=QH hR;have jt:=QH hb;have HC:=QH hC;have gI:=hR.len;subst gI;clear hR hb hC;go_enter func223,ntmps223;go_wp2_with fail;go_loopw [8] (fun i wr=>IxW l h w i wr) (fun i _=>l.length-(intOf i).toNat);case atStart=>exact⟨0,Nat.zero_le _,rfl,fun j _ h=>absurd h (by omega),Below.refl _ _⟩
 case round =>
  obtain⟨k,hk,rfl,hno,hB⟩:=hrel;have jT:=QH hno;have HB:=QH hB;clear hno hB;by_cases hlt:k<l.length
  ·have yt:(k:Int)<(l.length:Int):=by omega
   have hk0:¬ (k:Int)<0:=by omega
   have hr:=HR.out.below HB.out;obtain⟨s0,s1⟩:=hr.cells k hlt;have jG:=hr.lt;have kJ:=QH (HC.out wr (qa jt.out HB.out) l[k] (List.getElem_mem hlt));have kU:Hid (h l[k]=false→∀j (hj:j<l.length),j<k+1→h l[j]=false):=fun hne j hj hjk=>by
    by_cases qoc:j<k
    ·exact jT.out j hj qoc
    ·obtain rfl:j=k:=by omega
     exact hne
   obtain⟨q,hq⟩:=QE (h l[k]);have HQ:Hid (h l[k]=q):=hq;rw[hq]at kJ kU;have HLK:Hid (l[k]=l[k]):=rfl;obtain⟨x,hx⟩:=QE (l[k]);rw[hx]at s0 s1 kJ;clear hx HLK;clear hr hq;go_wp2_with fail;refine kJ.out.mono ?_;rintro e W1 ⟨rfl,hb1⟩;have qO:=QH (HB.out.trans (hb1.mono HB.out.size));clear hb1;cases q with
   | true =>
    clear kU kJ;go_wp2_with fail;go_ret;exact⟨qO.out,.inl ⟨k,hlt,rfl,HQ.out,jT.out⟩⟩
   | false =>
    have HN:=QH (kU.out rfl);clear kU kJ;go_wp2_with fail;go_roundw;case rel=>exact⟨k+1,by omega,by go_num,HN.out,qO.out⟩
    case measure=>simp[intOf];omega
  ·have yt:¬ (k:Int)<(l.length:Int):=by omega
   go_wp2_with fail;go_ret;exact⟨HB.out,.inr ⟨rfl,fun j hj=>jT.out j hj (by omega)⟩⟩
theorem qgu(w:World)(ty:TypeId)(g o n c:Nat)(cur:Array Value)(hg:qf w g 105 cur)(hn:0<n)(qnn:o+n*2≤cur.size) :
    ∃zs:List Value,zs.length=n*2∧(Builtin.clear_ #[89] ty #[.slice (some ⟨g,o,none⟩) n c]).run prog w=.ok (.tuple #[]) (w.setRow g (cur.toList.take o++zs++cur.toList.drop (o+zs.length)).toArray):=by
 obtain⟨i0,hi,hz0,hz1,hz2⟩:=info_parts qb8;obtain⟨m,rfl⟩:∃m,n=m+1:=⟨n-1,by omega⟩;have hz:(zeroValue 105).run prog w=.ok (.agg #[.int .i64 0,.string ByteArray.empty]) w:=by
  simp[zeroValue,typeInfo,hi,hz0]
 refine⟨(Builtin.zeroCells (Value.agg #[.int .i64 0,.string ByteArray.empty]).cells (m+1)).toList,?_,?_⟩
 ·simp[Builtin.zeroCells,Value.cells]
 ·have hst:=run_storeCells_at prog g o 105 (Builtin.zeroCells (Value.agg #[.int .i64 0,.string ByteArray.empty]).cells (m+1)).toList 0 cur w hg (by simp[Builtin.zeroCells,Value.cells];omega) (by
     intro v hv;simp only[Builtin.zeroCells,Value.cells,Array.toList_map,List.mem_map]at hv;obtain⟨i,_,rfl⟩:=hv;have hm:i%2<2:=Nat.mod_lt _ (by omega);show(#[Value.int .i64 0,.string ByteArray.empty][i%2]!).oneCell'=true;obtain⟨q,hq⟩:=QE (i%2);rw[hq]at hm ⊢
     match q,hm with
     | 0,_=>rfl
     | 1,_=>rfl)
  simp[Builtin.clear_,run_underlying underlying89,hz,Result.andThen];simp at hst;rw[hst]
def bL (h:Wr→Bool)(l:List Wr):List Wr:=l.filter fun x=>!h x
theorem cP {h:Wr→Bool}{l:List Wr}{j:Nat}(hj:j<l.length):bL h (l.take (j+1))=bL h (l.take j)++(if h l[j]then[]else[l[j]]):=by
 unfold bL;rw[List.take_succ_eq_append_getElem hj,List.filter_append];cases hq:h l[j] <;> simp[hq]
theorem pE {h:Wr→Bool}{l:List Wr}(hn:∀j (hj:j<l.length),h l[j]=false):bL h l=l:=by
 unfold bL;rw[List.filter_eq_self];intro x hx;obtain⟨j,hj,rfl⟩:=List.getElem_of_mem hx;rw[hn j hj];rfl
structure DlS(l K:List Wr)(h:Wr→Bool)(i j:Nat):Prop where
 len:K.length=l.length
 lt:i<j
 le:j≤l.length
 kept:K.take i=bL h (l.take j)
 rest:K.drop j=l.drop j
theorem DlS.at_{l K:List Wr}{h:Wr→Bool}{i j:Nat}(s:DlS l K h i j)(hj:j<l.length)(hk:j<K.length):K[j]=l[j]:=by
 have e:=congrArg (fun x=>x[0]?) s.rest;simp only[List.getElem?_drop,Nat.add_zero]at e;rw[List.getElem?_eq_getElem hj,List.getElem?_eq_getElem hk]at e;exact Option.some.inj e
theorem DlS.q4Y{l K:List Wr}{h:Wr→Bool}{i j:Nat}(s:DlS l K h i j)(hj:j<l.length)(hd:h l[j]=true):DlS l K h i (j+1):=by
 refine⟨s.len,by have:=s.lt;omega,by omega,?_,?_⟩
 ·rw[cP hj,hd,s.kept];simp
 ·have:=congrArg (List.drop 1) s.rest
  rwa [List.drop_drop,List.drop_drop]at this
theorem DlS.keep{l K:List Wr}{h:Wr→Bool}{i j:Nat}(s:DlS l K h i j)(hj:j<l.length)(hd:h l[j]=false):DlS l (K.set i l[j]) h (i+1) (j+1):=by
 have hlt:=s.lt;have hle:=s.len;refine⟨by rw[List.length_set];exact s.len,by omega,by omega,?_,?_⟩
 ·rw[cP hj,hd,← s.kept];apply List.ext_getElem?;intro k;simp only[List.getElem?_take,List.getElem?_set,List.getElem?_append,List.length_take];by_cases h1:k<i
  ·rw[if_pos (by omega),if_neg (by omega),if_pos (by omega),if_pos h1]
  ·by_cases h2:k=i
   ·subst h2;rw[if_pos (by omega),if_pos rfl,if_pos (by omega),if_neg (by omega),show k-min k K.length=0 by omega];rfl
   ·rw[if_neg (by omega),if_neg (by omega)];obtain⟨q,hq⟩:∃q,k-min i K.length=q+1:=⟨k-min i K.length-1,by omega⟩;rw[hq];rfl
 ·have:=congrArg (List.drop 1) s.rest;rw[List.drop_drop,List.drop_drop]at this;rw[List.drop_set_of_lt (by omega)];exact this
def DlR (l:List Wr)(h:Wr→Bool)(g c:Nat)(w0:World)(i j:Value)(wr:World):Prop :=
 ∃(a b:Nat) (K:List Wr),i=.int .i64 (a:Int)∧j=.int .i64 (b:Int)∧DlS l K h a b∧wJ wr g l.length c K∧Below w0.heap.size w0 wr
def qod (l:List Wr)(h:Wr→Bool)(w0:World)(e:Ending)(w':World):Prop:=∃v,e=.returned v∧jr.mj w' w0.heap.size v (bL h l)∧Below w0.heap.size w0 w'
theorem qrL{w0 w:World}{v b:Value}{h:Wr→Bool}{l:List Wr}(ho:jr.mj w w0.heap.size v l)(h1:0<l.length)(hl:l.length≤1000)(hb:Below w0.heap.size w0 w)(hC:qoa w0 141 b h l) :
    Calls prog 140 #[v,.func (.func 141) #[b] #[]] w (qod l h w0):=by
 obtain⟨g,c,rfl,hg,hR,hcm⟩:=wJ.qvP ho h1;have HI:=QH (qob hR hb hC hl);have HR:=QH hR;have jt:=QH hb;have HC:=QH hC;have HG:=QH hg;have HCM:=QH hcm;clear ho hg hR hcm hb hC;go_enter func140,ntmps140;go_wp2_with fail;refine HI.out.mono ?_;rintro e W1 ⟨hb1,qoe⟩;have qO:=QH (qa jt.out hb1);have uq:=QH (HR.out.below hb1);clear hb1 HI;rcases qoe with⟨k,hk,rfl,hd,hno⟩|⟨rfl,hno⟩
 case' inr =>
  have jT:=QH (pE hno);clear hno;go_wp2_with fail;go_ret;exact⟨_,rfl,by rw[jT.out];exact uq.out.ows HG.out HCM.out,qO.out⟩
 have HS0:Hid (DlS l l h k (k+1)):=by
  refine⟨rfl,by omega,by omega,?_,rfl⟩;rw[cP hk,hd,if_pos rfl,List.append_nil];exact(pE (l:=l.take k) (fun j hj=>by
   have hjk:j<k:=by rw[List.length_take]at hj;omega
   rw[List.getElem_take];exact hno j _ hjk)).symm
 clear hd hno;have hkw:IntKind.i64.wrap ((k:Int)+1)=((k+1:Nat):Int):=by rw[IntWalk.i64_in _ (by omega)];omega
 have hkn:((k:Int) == -1)=false:=beq_false_of_ne (by omega);go_wp2_with fail;go_loopw [5,6] (fun i j wr=>DlR l h g c w0 i j wr) (fun _ j _=>l.length-(intOf j).toNat);case atStart=>exact⟨k,k+1,l,rfl,by go_num,HS0.out,uq.out,qO.out⟩
 case round =>
  obtain⟨a,b',K,rfl,rfl,hs,hr,hB⟩:=hrel;have HS:=QH hs;have HRW:=QH hr;have HB:=QH hB;have hle:=hs.le;have zbx:=hs.lt;have iY:=hs.len;clear hs hr hB;by_cases hlt:b'<l.length
  ·have hbi:(b':Int)<(l.length:Int):=by omega
   have hb0:¬ (b':Int)<0:=by omega
   have hai:(a:Int)<(l.length:Int):=by omega
   have ha0:¬ (a:Int)<0:=by omega
   have hKb:b'<K.length:=by omega
   obtain⟨s0,s1⟩:=HRW.out.cells b' hKb;have HAT:=QH (HS.out.at_ hlt hKb);have qrM:=QH (HS.out.q4Y hlt);have qdx:=QH (HS.out.keep hlt);have jG:=HRW.out.lt;rw[HAT.out]at s0 s1;have kJ:Hid (∀W,Below w0.heap.size w0 W→Calls prog 141 #[b,.agg #[.int .i64 l[b'].1,.string (str l[b'].2)]] W (uC (h l[b']) W)):=fun W hW=>HC.out W hW l[b'] (List.getElem_mem hlt);obtain⟨q,hq⟩:=QE (h l[b']);rw[hq]at kJ qrM qdx;obtain⟨x,hx⟩:=QE (l[b']);rw[hx]at s0 s1 kJ qdx;clear hx hq HAT;have vk:=(Below.refl _ wr).alloc (Nat.le_refl _) (.cells #[.int .i64 x.1,.string (str x.2)] 105);have nk:=qf.new wr 105 #[.int .i64 x.1,.string (str x.2)];obtain⟨W2,hW2⟩:=QE (wr.alloc (.cells #[.int .i64 x.1,.string (str x.2)] 105));rw[hW2]at vk nk;have jM:=QH (HRW.out.below vk);have qA:=QH (qa HB.out vk);have HKX:=QH nk;have v0:=nk.cell 0;have v1:=nk.cell 1;have hvl:=nk.lt;simp only[QA,QB,QC]at v0 v1;clear vk nk;go_upto_region 8 with fail;try rw[hW2]
   clear hW2 s0 s1;go_wp2_with fail;refine(kJ.out _ qA.out).mono ?_;rintro e W3 ⟨rfl,hb3⟩;have iC:=QH (jM.out.below hb3);have zv:=QH (qa qA.out hb3);have hk3:=HKX.out.below hb3;have v0:=hk3.cell 0;have v1:=hk3.cell 1;have hvl:=hk3.lt;simp only[QA,QB,QC]at v0 v1;have j9:IntKind.i64.wrap ((b':Int)+1)=((b'+1:Nat):Int):=by rw[IntWalk.i64_in _ (by omega)];omega
   clear hb3 kJ jM HKX hk3;cases q with
   | true =>
    have HO:=QH (qrM.out rfl);clear qrM qdx;go_wp2_with fail;go_roundw;case rel=>exact⟨a,b'+1,K,rfl,by go_num,HO.out,iC.out,zv.out⟩
    case measure=>simp[intOf];omega
   | false =>
    have HO:=QH (qdx.out rfl);clear qrM qdx;have haK:a<K.length:=by omega
    obtain⟨t0,t1⟩:=iC.out.cells a haK;obtain⟨z0,hz0⟩:∃z,W3.cell? ⟨g,a*2,none⟩=some z:=⟨_,t0⟩;obtain⟨z1,hz1⟩:∃z,W3.cell? ⟨g,a*2+1,none⟩=some z:=⟨_,t1⟩;have f0:=iC.out.fro (a*2);have f1:=iC.out.fro (a*2+1);have jG:=iC.out.lt;have np:=QH (iC.out.set a haK x);have zx:Hid (Below w0.heap.size w0 ((W3.setCell ⟨g,a*2,none⟩ (.int .i64 x.1)).setCell ⟨g,a*2+1,none⟩ (.string (str x.2)))):=(zv.out.setCell (p:=⟨g,a*2,none⟩) HG.out _).setCell (p:=⟨g,a*2+1,none⟩) HG.out _;have haw:IntKind.i64.wrap ((a:Int)+1)=((a+1:Nat):Int):=by rw[IntWalk.i64_in _ (by omega)];omega
    clear t0 t1;go_wp2_with fail;go_roundw;case rel=>exact⟨a+1,b'+1,_,by go_num,by go_num,HO.out,np.out,zx.out⟩
    case measure=>simp[intOf];omega
  ·obtain rfl:b'=l.length:=by omega
   have hbi:¬ (l.length:Int)<(l.length:Int):=by omega
   have ha0:(0:Int)≤(a:Int):=by omega
   have hai:(a:Int)≤(l.length:Int):=by omega
   have hac:(a:Int)≤(c:Int):=by have:=HRW.out.cap;omega
   have qdy:=HS.out.kept;rw[List.take_length]at qdy;have HKP:=QH qdy;obtain⟨cur,c1,c2,c3⟩:=HRW.out.ex;have qaF:=HRW.out.cap;have hcl:∀ty,∃W4,(Builtin.clear_ #[89] ty #[.slice (some ⟨g,a*2,none⟩) (l.length-a) (c-a)]).run prog wr=.ok (.tuple #[]) W4∧wJ W4 g a c (bL h l)∧Below w0.heap.size w0 W4:=fun ty=>by
    obtain⟨zs,hzl,hrun⟩:=qgu wr ty g (a*2) (l.length-a) (c-a) cur c1 (by omega) (by omega);refine⟨_,hrun,⟨⟨_,tE c1,?_,?_⟩,?_,by omega⟩,wS HB.out _ HG.out⟩
    ·simp[hzl];omega
    ·have hcl:cur.toList.length=c*2:=by simpa using c2
     show(cur.toList.take (a*2)++zs++cur.toList.drop (a*2+zs.length)).take (a*2)=_;rw[List.append_assoc,List.take_append_of_le_length (by rw[List.length_take];omega),List.take_take,Nat.min_self];have h5:jr.zQ (K.take a)=(jr.zQ K).take (a*2):=by
      have e:jr.zQ K=jr.zQ (K.take a)++jr.zQ (K.drop a):=by rw[← jr.vQ,List.take_append_drop]
      rw[e,List.take_left' (by rw[jr.jy,List.length_take];omega)]
     rw[← qdy,h5,← c3,List.take_take]
     congr 1
     omega
    ·rw[← qdy,List.length_take];omega
   obtain⟨W4,hc4,hr4,hb4⟩:=hcl 0;have zbz:∀ty,(Builtin.clear_ #[89] ty #[.slice (some ⟨g,a*2,none⟩) (l.length-a) (c-a)]).run prog wr=.ok (.tuple #[]) W4:=fun ty=>hc4;have np:=QH hr4;have zx:=QH hb4;have hcc:(l.length:Int)≤(c:Int):=by omega
   clear hc4 hr4 hb4 hcl qdy c1 c2 c3;go_wp2_with fail;go_ret;exact⟨_,rfl,np.out.ows HG.out HCM.out,zx.out⟩
end Go.Proofs.YtdpbdkacngaemaaGreatDoor.vt.pg
namespace Go.Proofs
open _root_.Go.Proofs.Tryz Go.Shelf
def Tryz.qdz:Go.Shelf.Ren:=⟨fun | 160=>219 | 232=>262 | 231=>261 | 227=>263 | 234=>265 | 233=>264 | 236=>267 | 235=>266 | 228=>285 | 271=>288 | 151=>287 | 197=>286 | 120=>294 | 152=>293 | 260=>292 | 137=>296 | 119=>297 | 224=>298 | 225=>299 | 217=>300 | 266=>301|n=>n,fun | 9=>9 | 4=>4 | 3=>3 | 5=>5 | 117=>322 | 116=>321 | 0=>0 | 124=>325 | 21=>21 | 105=>342 | 46=>281 | 119=>350 | 139=>353 | 138=>352|n=>n,fun | 3=>2 | 4=>3|n=>n⟩
theorem Tryz.qrN:Go.Proofs.Lays.n160 prog Tryz.qdz:={
 mixed:=by kernel_rfl
 f119:=func297.trans (congrArg some (by kernel_rfl))
 f120:=func294.trans (congrArg some (by kernel_rfl))
 f137:=func296.trans (congrArg some (by kernel_rfl))
 f151:=func287.trans (congrArg some (by kernel_rfl))
 f152:=func293.trans (congrArg some (by kernel_rfl))
 f160:=func219.trans (congrArg some (by kernel_rfl))
 f197:=func286.trans (congrArg some (by kernel_rfl))
 f217:=func300.trans (congrArg some (by kernel_rfl))
 f224:=func298.trans (congrArg some (by kernel_rfl))
 f225:=func299.trans (congrArg some (by kernel_rfl))
 f227:=func263.trans (congrArg some (by kernel_rfl))
 f228:=func285.trans (congrArg some (by kernel_rfl))
 f231:=func261.trans (congrArg some (by kernel_rfl))
 f232:=func262.trans (congrArg some (by kernel_rfl))
 f233:=func264.trans (congrArg some (by kernel_rfl))
 f234:=func265.trans (congrArg some (by kernel_rfl))
 f235:=func266.trans (congrArg some (by kernel_rfl))
 f236:=func267.trans (congrArg some (by kernel_rfl))
 f260:=func292.trans (congrArg some (by kernel_rfl))
 f266:=func301.trans (congrArg some (by kernel_rfl))
 f271:=func288.trans (congrArg some (by kernel_rfl))
 t0:=underlying0
 a0:=isAgg0
 z0:=sizeOf0
 v0:=zeroValue0
 t3:=underlying3
 a3:=isAgg3
 z3:=sizeOf3
 v3:=zeroValue3
 t4:=underlying4
 a4:=isAgg4
 z4:=sizeOf4
 v4:=zeroValue4
 t5:=underlying5
 a5:=isAgg5
 z5:=sizeOf5
 v5:=zeroValue5
 t9:=underlying9
 a9:=isAgg9
 z9:=sizeOf9
 v9:=zeroValue9
 t21:=underlying21
 a21:=isAgg21
 z21:=sizeOf21
 v21:=zeroValue21
 t46:=underlying281
 a46:=isAgg281
 z46:=sizeOf281
 v46:=zeroValue281
 t105:=underlying342
 a105:=isAgg342
 z105:=sizeOf342
 v105:=zeroValue342
 t116:=underlying321
 a116:=isAgg321
 z116:=sizeOf321
 t117:=underlying322
 a117:=isAgg322
 z117:=sizeOf322
 v117:=zeroValue322
 t119:=underlying350
 a119:=isAgg350
 z119:=sizeOf350
 t124:=underlying325
 a124:=isAgg325
 z124:=sizeOf325
 v124:=zeroValue325
 t138:=underlying352
 a138:=isAgg352
 z138:=sizeOf352
 v138:=zeroValue352
 t139:=underlying353
 a139:=isAgg353
 z139:=sizeOf353
 v139:=zeroValue353
 g3:=by kernel_rfl
 g4:=by kernel_rfl }
open Go.RowKit in
theorem Tryz.strings_Trim_one(s:ByteArray)(c:UInt8)(hc:c.toNat<128)(w:World)(hs:s.size≤9223372036854775807) :
    Calls prog 219 #[.string s,.string ⟨#[c]⟩] w fun e w'=>e=.returned (.string ⟨(Lib.trimB s.data.toList c).toArray⟩)∧(w'=w∨w'=w.drew):=Any.strings_Trim_one Tryz.qrN s c hc w hs
end Go.Proofs
namespace Go.Proofs.YtdpbdkacngaemaaGreatDoor.wi
open _root_.Go.Proofs.Tryz Go.RowKit
theorem qrO(b:Nat)(l:List UInt8)(w:World)(h:zr b l true w) :
    Calls prog 256 #[.pointer (some ⟨b,0,none⟩)] w fun e w'=>e=.returned (.bool false)∧w=w':=by
 go_enter func256,ntmps256;go_wp2_with (go_at_call 280;refine(qlZ b l _ h).mono ?_;rintro e w' ⟨rfl,rfl⟩);go_ret;exact⟨rfl,rfl⟩
theorem qof(b:Nat)(l:List UInt8)(w:World)(h:zr b l false w) :
    Calls prog 256 #[.pointer (some ⟨b,0,none⟩)] w fun e w'=>e=.returned (.bool l.isEmpty)∧w=w':=by
 obtain⟨g,o,cap,hb,hr⟩:=h;have h1:w.cell? ⟨b,0,none⟩=some (.slice (some ⟨g,o,none⟩) l.length cap):=by simp[World.cell?,hb]
 have he:((l.length:Int) == 0)=l.isEmpty:=by cases l <;> simp;omega
 have hR:zr b l false w:=⟨g,o,cap,hb,hr⟩;have hlen:l.length≤140737488355328:=hr.2.2;clear hb hr;go_enter func256,ntmps256;go_wp2_with (go_at_call 280;refine(qeR b l _ hR).mono ?_;rintro e w' ⟨rfl,rfl⟩);go_ret;exact⟨rfl,rfl⟩
end Go.Proofs.YtdpbdkacngaemaaGreatDoor.wi
namespace Go.Proofs.YtdpbdkacngaemaaGreatDoor.jr
open _root_.Go.Proofs.Tryz Go Go.RowKit dk wi
def vz (t:Bt):Option (Wr × Bt):=match rdNum t with
 | none=>none
 | some (a,t1)=>match jb t1 with
  | none=>none
  | some (v,t2)=>some ((((min a 1024:Nat):Int),v),t2)
theorem fK (n:Nat)(t:Bt):iN (n+1) t=match vz t with|none=>none|some (x,r)=>match iN n r with|none=>none|some (l,q)=>some (x::l,q):=by
 rw[iN];unfold vz;cases rdNum t with
 | none=>rfl
 | some p =>
  obtain⟨a,t1⟩:=p;dsimp only;cases jb t1 with
  | none=>rfl
  | some q=>rfl
theorem au:∀(k:Nat) (t:Bt),iN (k+1) t=match iN k t with|none=>none|some (l,r)=>match vz r with|none=>none|some (x,q)=>some (l++[x],q)
 | 0,t=>by
  rw[fK];show _=match vz t with|none=>none|some (x,q)=>some ([]++[x],q)
  cases vz t with
  | none=>rfl
  | some p=>rfl
 | k+1,t=>by
  rw[fK];cases h:vz t with
  | none =>
   have h2:iN (k+1) t=none:=by rw[fK,h]
   rw[h2]
  | some p =>
   obtain⟨x,r⟩:=p;have h2:iN (k+1) t=match iN k r with|none=>none|some (l,q)=>some (x::l,q):=by rw[fK,h]
   rw[h2];dsimp only;rw[au k r];cases iN k r with
   | none=>rfl
   | some p2 =>
    obtain⟨l,q⟩:=p2;dsimp only;cases vz q with
    | none=>rfl
    | some p3=>rfl
theorem pF:∀(n k:Nat) (t:Bt),k≤n→iN k t=none→iN n t=none
 | 0,k,t,h,hk=>by
  obtain rfl:k=0:=by omega
  exact hk
 | n+1,k,t,h,hk=>by
  by_cases e:k=n+1
  ·rw[← e];exact hk
  ·rw[au,pF n k t (by omega) hk]
theorem nr:∀(n:Nat) (t:Bt) (l:List Wr) (r:Bt),iN n t=some (l,r)→l.length=n
 | 0,t,l,r,h=>by simp[iN]at h;simp[← h.1]
 | n+1,t,l,r,h=>by
  rw[fK]at h;cases h1:vz t with
  | none=>rw[h1]at h;cases h
  | some p =>
   obtain⟨x,q⟩:=p;rw[h1]at h;dsimp only at h;cases h2:iN n q with
   | none=>rw[h2]at h;cases h
   | some p2 =>
    obtain⟨l2,q2⟩:=p2;rw[h2]at h;simp at h;rw[← h.1];simp[nr n q l2 q2 h2]
def Fill (cs:Array Value)(n:Nat)(l:List Wr):Prop:=cs.size=n*2∧∀i (h:i<l.length),cs[i*2]?=some (.int .i64 l[i].1)∧cs[i*2+1]?=some (.string (str l[i].2))
theorem qjV{cs:Array Value}{n:Nat}{l:List Wr}(h:Fill cs n l)(hl:l.length<n)(x:Wr):Fill ((cs.setIfInBounds (l.length*2) (.int .i64 x.1)).setIfInBounds (l.length*2+1) (.string (str x.2))) n (l++[x]):=by
 obtain⟨h1,h2⟩:=h;refine⟨by simpa using h1,fun i hi=>?_⟩;by_cases dP:i<l.length
 ·rw[List.getElem_append_left dP];obtain⟨g1,g2⟩:=h2 i dP;constructor
  ·rw[Array.getElem?_setIfInBounds_ne (by omega),Array.getElem?_setIfInBounds_ne (by omega)];exact g1
  ·rw[Array.getElem?_setIfInBounds_ne (by omega),Array.getElem?_setIfInBounds_ne (by omega)];exact g2
 ·have e:i=l.length:=by simp at hi;omega
  subst e;rw[List.getElem_append_right (Nat.le_refl _)];simp only[Nat.sub_self,List.getElem_cons_zero];constructor
  ·rw[Array.getElem?_setIfInBounds_ne (by omega),Array.getElem?_setIfInBounds_self_of_lt (by omega)]
  ·rw[Array.getElem?_setIfInBounds_self_of_lt (by rw[Array.size_setIfInBounds];omega)]
def S0 (n:Nat)(r0:Bt)(rb k:Nat)(cs:Array Value)(wr:World):Prop :=
 (∃l r,iN k r0=some (l,r)∧Fill cs n l∧zr rb r false wr∧∀x∈l,qD x.1)∨(iN n r0=none∧∃m,zr rb m true wr)
def S1 (n:Nat)(r0:Bt)(rb k:Nat)(cs:Array Value)(z:Nat)(wr:World):Prop :=
 (∃l r r1,iN k r0=some (l,r)∧Fill cs n l∧rdNum r=some (z,r1)∧zr rb r1 false wr∧∀x∈l,qD x.1)∨(iN n r0=none∧∃m,zr rb m true wr)
def S2 (n:Nat)(r0:Bt)(rb k:Nat)(cs:Array Value)(z:Nat)(t:Bt)(wr:World):Prop :=
 (∃l r,iN k r0=some (l,r)∧Fill cs n l∧(∀x∈l,qD x.1)∧∃q,iN (k+1) r0=some (l++[(((min z 1024:Nat):Int),t)],q)∧zr rb q false wr)∨(iN n r0=none∧∃m,zr rb m true wr)
def qrP (n:Nat)(r0:Bt)(rb k:Nat)(cs:Array Value)(w:World)(e:Ending)(w':World):Prop :=
 ∃z:Nat,e=.returned (.int .u64 (z:Int))∧z<18446744073709551616∧w.grownBy w' (some rb)∧S1 n r0 rb k cs z w'
def qog (n:Nat)(r0:Bt)(rb k:Nat)(cs:Array Value)(z:Nat)(w:World)(e:Ending)(w':World):Prop :=
 ∃t:Bt,e=.returned (.string (str t))∧w.grownBy w' (some rb)∧S2 n r0 rb k cs z t w'
theorem qjW{n:Nat}{r0:Bt}{rb k:Nat}{cs:Array Value}{w:World}(hk:k<n)(h:S0 n r0 rb k cs w):Calls prog 191 #[.pointer (some ⟨rb,0,none⟩)] w (qrP n r0 rb k cs w):=by
 rcases h with⟨l,r,h1,h2,h3,h4⟩|⟨h1,m,h2⟩
 ·refine(vZ rb r w h3).mono ?_;rintro e w' ⟨hg,⟨z,r1,hn,rfl,hr⟩|⟨hn,rfl,hm⟩⟩
  ·exact⟨z,rfl,(dx _ _ _ hn).2,hg,.inl ⟨l,r,r1,h1,h2,hn,hr,h4⟩⟩
  ·refine⟨0,rfl,by decide,hg,.inr ⟨?_,hm⟩⟩;refine pF n (k+1) r0 (by omega) ?_;rw[au,h1];dsimp only;have:vz r=none:=by unfold vz;rw[hn]
   rw[this]
 ·refine(nL rb m w h2).mono ?_;rintro e w' ⟨rfl,rfl⟩;exact⟨0,rfl,by decide,kg _ _,.inr ⟨h1,m,h2⟩⟩
theorem qgv{n:Nat}{r0:Bt}{rb k:Nat}{cs:Array Value}{z:Nat}{w:World}(hk:k<n)(h:S1 n r0 rb k cs z w):Calls prog 255 #[.pointer (some ⟨rb,0,none⟩)] w (qog n r0 rb k cs z w):=by
 rcases h with⟨l,r,r1,h1,h2,hn,h3,h4⟩|⟨h1,m,h2⟩
 ·refine(qgo rb r1 w h3).mono ?_;rintro e w' ⟨hg,⟨t,r2,ht,rfl,hr⟩|⟨ht,rfl,hm⟩⟩
  ·refine⟨t,rfl,hg,.inl ⟨l,r,h1,h2,h4,r2,?_,hr⟩⟩;rw[au,h1];dsimp only;have:vz r=some ((((min z 1024:Nat):Int),t),r2):=by
    unfold vz;rw[hn];dsimp only;rw[ht]
   rw[this]
  ·refine⟨[],rfl,hg,.inr ⟨?_,hm⟩⟩;refine pF n (k+1) r0 (by omega) ?_;rw[au,h1];dsimp only;have:vz r=none:=by
    unfold vz;rw[hn];dsimp only;rw[ht]
   rw[this]
 ·refine(qjO rb m w h2).mono ?_;rintro e w' ⟨rfl,rfl⟩;exact⟨[],rfl,kg _ _,.inr ⟨h1,m,h2⟩⟩
def qrQ (w:World)(rb g n:Nat)(r0:Bt)(i:Value)(wr:World):Prop :=
 ∃(k:Nat) (cs:Array Value),k≤n∧i=.int .i64 (k:Int)∧qf wr g 105 cs∧cs.size=n*2∧Below w.heap.size w wr∧S0 n r0 rb k cs wr
def pG (r:Option (List Wr))(w:World)(e:Ending)(w':World):Prop :=
 Below w.heap.size w w'∧match r with
  | some l=>∃A c,e=.returned (.tuple #[.slice A l.length c,.bool true])∧uQ w' A l
  | none=>∃A n c,e=.returned (.tuple #[.slice A n c,.bool false])
theorem qrR(n:Nat)(h:n≤60)(W:World):(Instr.makeSlice 89 (.int .u64 (n:Int)) (.int .u64 (n:Int))).run prog W=.ok (.slice (some ⟨W.heap.size,0,none⟩) n n) (W.alloc (.cells (madeCells #[.int .i64 0,.string ByteArray.empty] (n*2)) 105)):=by
 obtain⟨i0,hi,hz0,hz1,hz2⟩:=info_parts qnU;have hmk:=run_make (P:=prog) W 89 105 i0 (.agg #[.int .i64 0,.string ByteArray.empty]) underlying89 hi hz0 .u64 .u64 (n:Int) (n:Int) (by omega) (by omega) (by rw[hz2];omega) (by omega);rw[hz1]at hmk;simpa[Value.cells]using hmk
theorem fL {rb g i:Nat}{l:Bt}{x:Bool}{W:World}{cs:Array Value}{u:Value}(h:zr rb l x W)(hB:qf W g 105 cs):zr rb l x (W.setCell ⟨g,i,none⟩ u):=by
 obtain⟨q,o,cap,h1,h2,h3,h4⟩:=h;have n1:rb≠g:=by
  rintro rfl;unfold qf at hB;rw[h1]at hB;simp at hB
 have n2:q≠g:=by
  rintro rfl;obtain⟨cs',fr,hq,_⟩:=h2;unfold qf at hB;rw[hq]at hB;simp at hB
 exact⟨q,o,cap,by rw[Below.heap_setCell W ⟨g,i,none⟩ u rb n1];exact h1,h2.keep (Below.heap_setCell W ⟨g,i,none⟩ u q n2),h3,h4⟩
theorem kL (s:ByteArray)(w:World)(hs:s.size≤140737488355328) :
    Calls prog 193 #[.string s] w (pG (bI (bl s)) w):=by
 obtain⟨res,hres⟩:=QE (bI (bl s));rw[hres];have xj:=QH hres;clear hres;go_enter func193,ntmps193;go_wp2_with fail;refine(qaE s w hs).mono ?_;rintro e W1 ⟨rb,rfl,hrb,hR,b1⟩;have HR:=QH hR;have qO:=QH b1;clear hR b1;go_wp2_with fail;refine(vZ rb (bl s) W1 HR.out).mono ?_;rintro e W2 ⟨g2,⟨n,r0,hn,rfl,hR2⟩|⟨hn,rfl,m,hR2⟩⟩
 ·have hres:res=if n<1∨60<n then none else match iN n r0 with|some (l,[])=>some l|_=>none:=by
     have h:=xj.out;unfold bI at h;rw[hn]at h;exact h.symm
  have jM:=QH hR2;have qA:=QH (qO.out.grown g2 qO.out.size (fun j hj=>by simp at hj;omega));clear hR2 g2 HR qO xj hn;by_cases hlo:n<1
  ·have c1:((n:Int)<1):=by omega
   rw[if_pos (.inl hlo)]at hres;subst hres;go_wp2_with fail;go_ret2;exact⟨qA.out,_,_,_,rfl⟩
  ·by_cases hhi:60<n
   ·have c1:¬ ((n:Int)<1):=by omega
    have c2:(60:Int)<(n:Int):=by omega
    rw[if_pos (.inr hhi)]at hres;subst hres;go_wp2_with fail;go_ret2;exact⟨qA.out,_,_,_,rfl⟩
   ·rw[if_neg (by omega)]at hres;have c1:¬ ((n:Int)<1):=by omega
    have c2:¬ (60:Int)<(n:Int):=by omega
    have xj:=QH hres;clear hres;have hmk:=qrR n (by omega);have kb:qf (W2.alloc (.cells (madeCells #[.int .i64 0,.string ByteArray.empty] (n*2)) 105)) W2.heap.size _ _:=qf.new W2 _ _;have hR3:zr rb r0 false (W2.alloc (.cells (madeCells #[.int .i64 0,.string ByteArray.empty] (n*2)) 105)):=jM.out.below ((Below.refl W2.heap.size W2).alloc (Nat.le_refl _) _);have hB3:Below w.heap.size w (W2.alloc (.cells (madeCells #[.int .i64 0,.string ByteArray.empty] (n*2)) 105)):=qA.out.alloc qA.out.size _;have hgg:w.heap.size≤W2.heap.size:=qA.out.size;have hcz:(madeCells #[.int .i64 0,.string ByteArray.empty] (n*2)).size=n*2:=size_madeCells _ _;have HCZ:=QH hcz;clear hcz;go_wp2_with fail;clear hmk;generalize W2.heap.size=g at *;generalize madeCells #[.int .i64 0,.string ByteArray.empty] (n*2)=cs0 at *;generalize W2.alloc (.cells cs0 105)=W3 at *;go_loopw [22] (fun i wr=>qrQ w rb g n r0 i wr) (fun i _=>n-(intOf i).toNat);case atStart=>exact⟨0,cs0,Nat.zero_le _,rfl,kb,HCZ.out,hB3,.inl ⟨[],r0,rfl,⟨HCZ.out,fun i h=>by simp at h⟩,hR3,fun x hx=>by cases hx⟩⟩
    case round =>
     clear kb hR3 hB3 qA jM HCZ;obtain⟨k,cs,hk,rfl,zy,hcs,hB,hst⟩:=hrel;have kX:=QH zy;have HB:=QH hB;have HST:=QH hst;clear zy hB hst;have jG:=kX.out.lt;have q0i:rb≠g:=by
      intro e;have hb2:=kX.out;unfold qf at hb2;rcases HST.out with⟨_,_,_,_,⟨_,_,_,h,_⟩,_⟩|⟨_,_,_,_,_,h,_⟩;all_goals
       rw[e,hb2]at h;simp at h
     by_cases hlt:k<n
     ·have qb5:(k:Int)<(n:Int):=by omega
      go_wp2_with fail;refine(qjW hlt HST.out).mono ?_;rintro e Wa ⟨z,rfl,zb0,ga,hs1⟩;have hba:qf Wa g 105 cs:=kX.out.of_block (ga.block g jG (by simpa using Ne.symm q0i));have HBA:=QH hba;have bY:=QH hs1;have qO:=QH (HB.out.grown ga HB.out.size (fun j hj=>by simp at hj;omega));have bn:=hba.lt;obtain⟨q5c,hc0⟩:∃u,cs[k*2]?=some u:=⟨_,Array.getElem?_eq_getElem (by omega)⟩;have ea:Wa.cell? ⟨g,k*2,none⟩=some q5c:=by rw[hba.cell];exact hc0
      have fa:Wa.frozen? ⟨g,k*2,none⟩=false:=hba.frozen _;have q5d:min (z:Int) 1024=((min z 1024:Nat):Int):=by omega
      have hmn:min z 1024≤1024:=Nat.min_le_right _ _;obtain⟨mz,hmz⟩:=QE (min z 1024);rw[hmz]at q5d hmn;have HMZ:=QH hmz;have hmi:(mz:Int)≤1024:=by omega
      clear hba ga hs1 hc0 hmz HB kX HST;go_wp2_with fail;have hbb:=HBA.out.qg (k*2) (.int .i64 (mz:Int));have q0k:S1 n r0 rb k cs z (Wa.setCell ⟨g,k*2,none⟩ (.int .i64 (mz:Int))):=by
       rcases bY.out with⟨l,r,r1,h1,h2,h3,h4,h5⟩|⟨h1,m,h2⟩
       ·exact .inl ⟨l,r,r1,h1,h2,h3,fL h4 HBA.out,h5⟩
       ·exact .inr ⟨h1,m,fL h2 HBA.out⟩
      have bH:=QH hbb;have q0l:=QH q0k;have qvR:=QH (qO.out.setCell (p:=⟨g,k*2,none⟩) (Nat.le_trans hgg (Nat.le_refl _)) (.int .i64 (mz:Int)));clear hbb q0k ea fa HBA bY qO;refine(qgv hlt q0l.out).mono ?_;rintro e Wc ⟨t,rfl,gc,hs2⟩;have hbc:qf Wc g 105 (cs.setIfInBounds (k*2) (.int .i64 (mz:Int))):=bH.out.of_block (gc.block g bH.out.lt (by simpa using Ne.symm q0i));have HBC:=QH hbc;have kT:=QH hs2;have qA:=QH (qvR.out.grown gc qvR.out.size (fun j hj=>by simp at hj;omega));have hlc:=hbc.lt;obtain⟨q5g,hc1⟩:∃u,(cs.setIfInBounds (k*2) (.int .i64 (mz:Int)))[k*2+1]?=some u:=⟨_,Array.getElem?_eq_getElem (by rw[Array.size_setIfInBounds];omega)⟩;have ec:Wc.cell? ⟨g,k*2+1,none⟩=some q5g:=by rw[hbc.cell];exact hc1
      have fc:Wc.frozen? ⟨g,k*2+1,none⟩=false:=hbc.frozen _;clear hbc gc hs2 hc1 bH q0l qvR;go_wp2_with fail;go_roundw;case rel =>
       refine⟨k+1,_,by omega,by go_num,HBC.out.qg (k*2+1) (.string (str t)),by simp[hcs],qA.out.setCell (p:=⟨g,k*2+1,none⟩) (Nat.le_trans hgg (Nat.le_refl _)) _,?_⟩;rcases kT.out with⟨l,r,h1,h2,h3,q,h4,h5⟩|⟨h1,m,h2⟩
       ·have hl:=nr k r0 l r h1;subst hl;rw[HMZ.out]at h4;refine .inl ⟨_,q,h4,qjV h2 hlt ((mz:Int),t),fL h5 HBC.out,fun x hx=>?_⟩;rcases List.mem_append.1 hx with hx|hx
        ·exact h3 x hx
        ·obtain rfl:x=_:=by simpa using hx
         unfold qD;dsimp only;omega
       ·exact .inr ⟨h1,m,fL h2 HBC.out⟩
      case measure=>simp[intOf];omega
     ·obtain rfl:k=n:=by omega
      have hres:=xj.out;rcases HST.out with⟨l,r,h1,h2,h3,h4⟩|⟨h1,m,h2⟩
      ·have hl:=nr k r0 l r h1;rw[h1]at hres;have H3:=QH h3;have H2:=QH h2;have H4:=QH h4;have nt:=QH hres;clear h1 h2 h3 h4 hres xj HST;go_wp2_with (go_at_call 256;refine(qof rb r _ H3.out).mono ?_;rintro e w' ⟨rfl,rfl⟩);go_ret2;refine⟨HB.out,?_⟩;rw[nt.out];cases r with
       | nil =>
        subst hl;refine⟨_,_,rfl,fun i hi=>⟨g,0,rfl,jG,?_,?_,H4.out _ (List.getElem_mem hi)⟩⟩
        ·rw[Nat.zero_add,kX.out.cell];exact(H2.out.2 i hi).1
        ·rw[Nat.zero_add,kX.out.cell];exact(H2.out.2 i hi).2
       | cons x r=>exact⟨_,_,_,rfl⟩
      ·rw[h1]at hres;dsimp only at hres;have H2:=QH h2;have nt:=QH hres;clear h1 h2 hres xj HST;go_wp2_with (go_at_call 256;refine(qrO rb m _ H2.out).mono ?_;rintro e w' ⟨rfl,rfl⟩);go_ret2;refine⟨HB.out,?_⟩;rw[nt.out];exact⟨_,_,_,rfl⟩
 ·have hres:res=none:=by rw[← xj.out];unfold bI;rw[hn]
  subst hres;have qA:=QH (qO.out.grown g2 qO.out.size (fun j hj=>by simp at hj;omega));clear hR2 g2 HR qO;go_wp2_with fail;go_ret2;exact⟨qA.out,_,_,_,rfl⟩
theorem qb9(s:qH)(a k:Nat):zS s a (k+1)=zS s a k++[rd s ((1+a*72+k:Nat):Int)]:=by
 unfold zS;rw[List.range_succ,List.map_append];rfl
theorem mn (s:qH)(a k:Nat):(zS s a k).length=k:=by simp[zS]
def qvS (w:World)(s:qH)(a c:Nat)(v i:Value)(wr:World):Prop :=
 ∃k:Nat,k≤c∧i=.int .i64 (k:Int)∧zM wr w.heap.size v (zS s a k)∧Below w.heap.size w wr
theorem qgw{most:Nat}{w:World}{own:Nat→Prop}{p:Nat}{d:DD}(h:zP most w own p d)(xa:d.on=true)(hn:145<d.n)(a c:Nat)(ha:a<2)(hc:c≤72)(ht:xY w) :
    Calls prog 118 #[.agg #[.int .i64 (a:Int),.int .i64 (c:Int)],.pointer (some ⟨p,0,none⟩)] w (pG (dW d.now a c) w):=by
 obtain⟨i0,hi,hz0,hz1,hz2⟩:=info_parts Tryz.qlT;have HD:=QH h;have HT:=QH ht;have hg:=ht.1;have lR:=QH h.1;have bw:∀k,k<c→d.read ((1+a*72+k:Nat):Int)=(rd d.now ((1+a*72+k:Nat):Int),0):=by
  intro k hk;unfold DD.read;have:d.has ((1+a*72+k:Nat):Int)=true:=by
   have h72:a*72≤72:=by omega
   simp only[DD.has,Bool.and_eq_true,decide_eq_true_eq];omega
  rw[if_neg (by rw[xa];simp),if_neg (by rw[this];simp)];rfl
 have h32:∀k,(rd d.now ((1+a*72+k:Nat):Int)).length=32:=by
  intro k;unfold rd;cases hx:dk.look d.now ((1+a*72+k:Nat):Int)with
  | none=>exact ze
  | some u=>exact lR.out.tP hx
 have H32:=QH h32;have dv:=QH bw;have qjU:=fun(W:World)=>qak a c ha W;have HF:=QH qjU;obtain⟨res,hres⟩:=QE (dW d.now a c);rw[hres];have xj:=QH hres;have kb:qf (w.alloc (.cells #[.int .i64 (a:Int),.int .i64 (c:Int)] 188)) w.heap.size _ _:=qf.new w _ _;have k0:=kb.lt;have hb0:Below w.heap.size w (w.alloc (.cells #[.int .i64 (a:Int),.int .i64 (c:Int)] 188)):=(Below.refl w.heap.size w).alloc (Nat.le_refl _) _;clear h ht bw h32 qjU hres;go_enter func118,ntmps118;go_wp2_with fail;obtain⟨w0,hw0⟩:=QE (w.alloc (.cells #[.int .i64 (a:Int),.int .i64 (c:Int)] 188));rw[hw0]at kb k0 hb0;rw[hw0];clear hw0;have KB:=QH kb;have jt:=QH hb0;clear kb hb0;go_loopw [6,14] (fun v i wr=>qvS w0 d.now a c v i wr) (fun _ i _=>c-(intOf i).toNat);case atStart=>exact⟨0,Nat.zero_le _,rfl,World.ownsRow_nil _ _ _ _,Below.refl _ _⟩
 case round =>
  obtain⟨k,hk,rfl,ho,hB⟩:=hrel;have HO:=QH ho;have HB:=QH hB;have ja:=QH (jt.out.trans (hB.mono jt.out.size));clear ho hB;by_cases hlt:k<c
  ·have hkb:qf wr w.heap.size _ _:=KB.out.of_block (HB.out.block _ k0);have q0:=hkb.cell 0;have q1:=hkb.cell 1;have lt2:=hkb.lt;have qb5:(k:Int)<(c:Int):=by omega
   have hsn:=qb9 d.now a k;have hr1:=dv.out k hlt;have zb1:=H32.out k;have gI:=mn d.now a k;clear hkb;generalize rd d.now ((1+a*72+k:Nat):Int)=x at *;have xP:=QH hsn;have uq:=QH hr1;have vI:=QH gI;obtain⟨o1,ho1⟩:=QE (1+a*72);have q0g:o1≤73:=by omega
   have HF1:=HF;rw[ho1]at HF1 uq;have hadd:(o1:Int)+(k:Int)=((o1+k:Nat):Int):=by omega
   have HAD:=QH hadd;clear hsn hr1 ho1 hadd;go_wp2_with fail;refine(HF1.out _).mono ?_;rintro e W1 ⟨rfl,b1⟩;have ho1:=aV HO.out b1;have HO1:=QH ho1;have qO:=QH (HB.out.trans (b1.mono HB.out.size));clear b1 ho1 q0 q1;go_wp2_with fail;rw[HAD.out];have HBX:=QH (jt.out.trans (qO.out.mono jt.out.size));refine(qhT (B:=0) ⟨own,HD.out.below HBX.out,fun _ _=>Nat.zero_le _⟩ ((o1+k:Nat):Int) x (str x) rfl 0 uq.out).mono ?_;rintro e W2 ⟨rfl,_,b2⟩;have ho2:=aV HO1.out b2;rw[show zM W2 w0.heap.size _ (zS d.now a k)=W2.ownsRow w0.heap.size 9 1 _ (zS d.now a k).length (yy (zS d.now a k))from rfl]at ho2;have qA:=QH (qO.out.trans (b2.mono qO.out.size));have hown2:=ho2.alloc (.cells #[.string (str x)] 9);have hnews:=fJ W2 9 (.string (str x));have vX:=QH hown2;have wI:=QH hnews;have zv:=QH (qA.out.alloc qA.out.size (.cells #[.string (str x)] 9));clear b2 ho2 hown2 hnews HO HO1;have hkb:k≤1000:=by omega
   go_wp2_with (at_builtin;refine wpList_append_own _ rfl (.tmp 28) (.tmp 30) 57 rfl w0.heap.size 9 i0 (.string ByteArray.empty) 1 16 underlying57 hi hz0 hz1 hz2 rfl (by decide) _ (zS d.now a k).length _ rfl vX.out ⟨W2.heap.size,0,none⟩ 1 1 [.string (str x)] rfl rfl wI.out (fun u hu=>by simp at hu;subst hu;rfl) ?_ ?_ zv.out.size ?_)
   ·rw[vI.out];unfold maxLen;omega
   ·rw[vI.out];omega
   ·intro v' w1 hown1 hgrow _;have hb1:=zv.out.grown hgrow zv.out.size (fun j hj=>(vX.out.lt j hj).1);have hos:zM w1 w0.heap.size v' (zS d.now a k++[x]):=by
     unfold zM;rw[fC,List.length_append];rw[vI.out];first|exact hown1|(rw[vI.out]at hown1;exact hown1)
    have HOS:=QH hos;have zx:=QH hb1;clear hb1 hos hown1 hgrow;go_wp2_with fail;go_roundw;case rel=>exact⟨k+1,by omega,by go_num,by rw[xP.out];exact HOS.out,zx.out⟩
    case measure=>simp[intOf];omega
  ·obtain rfl:k=c:=by omega
   obtain⟨A,cc,rfl,_,_,hsa,_,_⟩:=HO.out.view;have gI:=mn d.now a k;have HSA:=QH hsa;have ij:=HT.out.below ja.out hg;have dr:=QH ij;clear hsa ij;have hres:=xj.out;unfold dW at hres;have gW:(zS d.now a k).flatten.length≤100000:=by
    rw[wA _ (fun i hi=>by simp only[zS,List.getElem_map,List.getElem_range];exact H32.out i),gI];omega
   have HFL:=QH gW;clear gW;generalize zS d.now a k=ps at *;have HLP:=QH gI;by_cases hx:∃t,vN ps t
   ·obtain⟨t,htx⟩:=hx;have sq:unB ps=some t:=by
     have hx:∃u,vN ps u:=⟨t,htx⟩;unfold unB;rw[dif_pos hx];exact congrArg some (oB _ _ _ hx.choose_spec htx)
    rw[sq]at hres;have HR:=QH (show bI t=res from hres);have HTX:=QH htx;clear hres sq htx gI;go_wp2_with fail;refine(mf A cc ps t _ HSA.out HTX.out dr.out).mono ?_;rintro e W3 ⟨rfl,b3⟩;have zv:=QH (ja.out.trans (b3.mono ja.out.size));clear b3;go_wp2_with fail;refine(kL (str t) _ (by rw[qN];have:=HTX.out.1;omega)).mono ?_;rintro e W4 ⟨b4,hq⟩;rw[zw,HR.out]at hq;have zx:=QH (zv.out.trans (b4.mono zv.out.size));clear b4;cases res with
    | some l =>
     obtain⟨A2,c2,rfl,hw⟩:=hq;have HW:=QH hw;clear hw;go_wp2_with fail;go_ret2;exact⟨zx.out,_,_,rfl,HW.out⟩
    | none =>
     obtain⟨A2,n2,c2,rfl⟩:=hq;go_wp2_with fail;go_ret2;exact⟨zx.out,_,_,_,rfl⟩
   ·have sq:unB ps=none:=by
       unfold unB;rw[dif_neg hx]
    rw[sq]at hres;have q0p:none=res:=hres;subst q0p;have HX:=QH hx;clear hres sq hx gI;go_wp2_with fail;refine(mg A cc ps _ HSA.out (by have:=HLP.out;omega) HFL.out (fun t ht=>HX.out ⟨t,ht⟩) dr.out).mono ?_;rintro e W3 ⟨rfl,b3⟩;have zv:=QH (ja.out.trans (b3.mono ja.out.size));clear b3;go_wp2_with fail;go_ret2;exact⟨zv.out,_,_,_,rfl⟩
def qrS (N:Nat)(l:List Wr)(w:World)(i:Value)(wr:World):Prop :=
 ∃k:Nat,k≤l.length∧i=.int .i64 (k:Int)∧yx wr w.heap.size (found [] (l.take k))∧(l.take k).all (okW N)=true∧Below w.heap.size w wr
theorem qgx(l:List Wr)(k:Nat)(h:k<l.length):found [] (l.take (k+1))=ye (found [] (l.take k)) l[k].1:=by
 rw[List.take_succ_eq_append_getElem h];unfold found;rw[List.foldl_append];rfl
theorem qd0{w wr:World}(h:Below w.heap.size w wr)(n:Nat):Below w.heap.size w (wr.drewN n):=⟨h.os,h.tape,h.output,h.size,h.block⟩
theorem qd1{most:Nat}{w:World}{own:Nat→Prop}{p:Nat}{d:DD}(h:zP most w own p d)(a:Option Addr)(c:Nat)(l:List Wr)(hT:uQ w a l)(hl:l.length≤1000000) :
    Calls prog 119 #[.pointer (some ⟨p,0,none⟩),.slice a l.length c] w (okB (vO d.n l) w):=by
 obtain⟨h0,m,v,hd⟩:=h;have HD:=QH hd;have HN:=QH h0.n1;have HT:=QH hT;have hmm:=@run_makeMap prog;clear h0 hd hT;go_enter func119,ntmps119;go_wp2_with fail;clear hmm;go_loopw [11] (fun i wr=>qrS d.n l w i wr) (fun i _=>l.length-(intOf i).toNat);case atStart=>exact⟨0,Nat.zero_le _,rfl,yx.made w,rfl,(Below.refl _ w).alloc (Nat.le_refl _) _⟩
 case round =>
  obtain⟨k,hk,rfl,hs,hall,hB⟩:=hrel;have HS:=QH hs;have HB:=QH hB;have HA:=QH hall;clear hs hB hall;by_cases hlt:k<l.length
  ·obtain⟨b,o,rfl,hb,q0,q1,qb⟩:=HT.out k hlt;have jY:=qgx l k hlt;have q0q:(l.take (k+1)).all (okW d.n)=((l.take k).all (okW d.n)&&okW d.n l[k]):=by rw[List.take_succ_eq_append_getElem hlt,List.all_append,List.all_cons,List.all_nil,Bool.and_true]
   have hin:okW d.n l[k]=false→vO d.n l=false:=fun hh=>by
    unfold vO;rw[Bool.and_eq_false_iff]
    left
    rw[List.all_eq_false];exact⟨l[k],List.getElem_mem hlt,by rw[hh];simp⟩
   generalize hxx:l[k]=x at *;have e0:wr.cell? ⟨b,o+k*2,none⟩=some (.int .i64 x.1):=by rw[HB.out.cell (p:=⟨b,o+k*2,none⟩) hb];exact q0
   have e1:wr.cell? ⟨b,o+k*2+1,none⟩=some (.string (str x.2)):=by rw[HB.out.cell (p:=⟨b,o+k*2+1,none⟩) hb];exact q1
   have hb2:b<wr.heap.size:=Nat.lt_of_lt_of_le hb HB.out.size;have qb5:(k:Int)<(l.length:Int):=by omega
   have HF:=QH jY;have HAS:=QH q0q;have HIN:=QH hin;have HQB:=QH qb;clear q0 q1 jY q0q hin qb hxx;have d0:wr.cell? ⟨p,0,none⟩=some (.int .i64 (d.n:Int)):=by rw[HB.out.cell (p:=⟨p,0,none⟩) HD.out.1.lt];exact HD.out.1.cell 0
   have hpl:p<wr.heap.size:=Nat.lt_of_lt_of_le HD.out.1.lt HB.out.size;have hdw:∀n,uI ((wr.alloc (.cells #[.int .i64 x.1,.string (str x.2)] 105)).drewN n) own p m v d:=fun n=>by
    have hb':=qd0 (HB.out.alloc HB.out.size (.cells #[.int .i64 x.1,.string (str x.2)] 105)) n;exact HD.out.keep hb'.size (fun j hj=>hb'.block j (HD.out.2.2.2.2.2.2 j hj))
   have gI:∀n,Calls prog 43 #[.pointer (some ⟨p,0,none⟩)] ((wr.alloc (.cells #[.int .i64 x.1,.string (str x.2)] 105)).drewN n) fun e w'=>e=.returned (.int .i64 (d.n:Int))∧w'=(wr.alloc (.cells #[.int .i64 x.1,.string (str x.2)] 105)).drewN n:=fun n=>(qaU (hdw n)).mono fun e w' g=>⟨g.1,g.2.symm⟩;have vI:=QH gI;clear hdw gI;by_cases c1:x.1<145
   ·have hf:=QH (HIN.out (by simp[okW];omega));go_wp2_with fail;go_quiet (fail);go_wp2_with fail;go_ret;exact⟨by rw[hf.out];rfl,qd0 (HB.out.alloc HB.out.size _) _⟩
   ·have c1':decide (x.1<145)=false:=by simpa using c1
    by_cases c2:(d.n:Int)≤x.1
    ·have hf:=QH (HIN.out (by simp[okW];omega));go_wp2_with fail;go_quiet (first|(go_at_call 43;exact Calls.quiet_of_same (vI.out _)));go_wp2_with fail;go_ret;exact⟨by rw[hf.out];rfl,qd0 (HB.out.alloc HB.out.size _) _⟩
    ·have c2':decide ((d.n:Int)≤x.1)=false:=by simpa using c2
     by_cases c3:x.2.length=32
     ·have c3':(((str x.2).size:Int) != 32)=false:=by rw[bne_eq_false_iff_eq,qN];omega
      have hok:okW d.n x=true:=by simp[okW];omega
      have lR:=QH hok;clear hok;go_wp2_with fail;go_quiet (first|(go_at_call 43;exact Calls.quiet_of_same (vI.out _)));have hsw:yx ((wr.alloc (.cells #[.int .i64 x.1,.string (str x.2)] 105)).drewN nq) w.heap.size (found [] (l.take k)):=HS.out.of_block (Below.heap_alloc wr _ _ HS.out.lt);have HSW:=QH hsw;have ja:=QH (qd0 (HB.out.alloc HB.out.size (.cells #[.int .i64 x.1,.string (str x.2)] 105)) nq);have gW:(found [] (l.take k)).length<maxLen:=by
       have:=qjm (l.take k) [];simp at this;unfold maxLen;omega
      have HFL:=QH gW;clear hsw gW;go_wp2_with (at_mapUpdate;refine wq rfl _ _ _ rfl rfl HSW.out x.1 rfl rfl HQB.out.1 HQB.out.2 HFL.out ?_;intro w2 hs2 ht2;have kT:=QH hs2;have qA:=QH (uJ ht2);clear hs2 ht2);go_roundw;case rel=>exact⟨k+1,by omega,by go_num,by rw[HF.out];exact kT.out,by rw[HAS.out,HA.out,lR.out];rfl,ja.out.trans (qA.out.below (fun i e=>by subst e;exact Nat.le_refl _) ja.out.size)⟩
      case measure=>simp[intOf];omega
     ·have c3':(((str x.2).size:Int) != 32)=true:=by rw[bne_iff_ne,qN];omega
      have hf:=QH (HIN.out (by simp[okW];omega));go_wp2_with fail;go_quiet (first|(go_at_call 43;exact Calls.quiet_of_same (vI.out _)));go_wp2_with fail;go_ret;exact⟨by rw[hf.out];rfl,qd0 (HB.out.alloc HB.out.size _) _⟩
  ·obtain rfl:k=l.length:=by omega
   have gI:=QH (HS.out);have hres:vO d.n l=((((found [] l).length:Int)) == (l.length:Int)):=by
    have ha:=HA.out;rw[List.take_length]at ha;unfold vO;rw[ha,Bool.true_and,Bool.eq_iff_iff];simp;omega
   have HR:=QH hres;clear hres;go_wp2_with (at_len;refine qi rfl (eT _ rfl rfl HS.out) ?_);go_ret;exact⟨by rw[HR.out];rfl,HB.out⟩
def qoh:Prop:=∀(a c:Nat) (w:World),a<2→c≤72 →
 Calls prog 179 #[.agg #[.int .i64 (a:Int),.int .i64 (c:Int)]] w fun e w'=>e=.returned (.agg #[.int .i64 0,.string (str (kQ a c))])∧Below w.heap.size w w'
def pH (r:Option (Nat × Nat))(w:World)(e:Ending)(w':World):Prop :=
 Below w.heap.size w w'∧match r with
  | some (a,c)=>e=.returned (.tuple #[.agg #[.int .i64 (a:Int),.int .i64 (c:Int)],.bool true])
  | none=>∃x y:Int,e=.returned (.tuple #[.agg #[.int .i64 x,.int .i64 y],.bool false])
def qoi:Prop:=∀(most:Nat) (w:World) (own:Nat→Prop) (p:Nat) (d:DD),zP most w own p d→d.on=true→0<d.n →
 Calls prog 117 #[.pointer (some ⟨p,0,none⟩)] w (pH (br (rd d.now 0)) w)
section
variable {most:Nat} {w:World} {own:Nat→Prop} {p:Nat} {d:DD}
theorem qd2{W:World}{A:Option Addr}{c:Nat}{l:List Wr}(h:uQ W A l):qdt (W.alloc (.cells #[.slice A l.length c] 89)) (some ⟨W.heap.size,0,none⟩) [l]:=fun i hi=>by
 obtain rfl:i=0:=by simp at hi;exact hi
 exact⟨W.heap.size,0,A,c,rfl,by simp,(qf.new W _ _).cell 0,h.below ((Below.refl W.heap.size W).alloc (Nat.le_refl _) _) (Nat.le_refl _)⟩
theorem qd3{W:World}(k:Int)(x:Bt)(hk:qD k):uQ (W.alloc (.cells #[.int .i64 k,.string (str x)] 105)) (some ⟨W.heap.size,0,none⟩) [(k,x)]:=fun i hi=>by
 obtain rfl:i=0:=by simp at hi;exact hi
 exact⟨W.heap.size,0,rfl,by simp,(qf.new W _ _).cell 0,(qf.new W _ _).cell 1,hk⟩
theorem qgy(HW:qoh)(h:zP most w own p d)(hm:d.more.length+2≤most)(jo:most≤100000) :
    Calls prog 102 #[.pointer (some ⟨p,0,none⟩)] w (xy most own p (kC d).2 (.int .i64 (kC d).1) w):=by
 have HD:=QH h;have HP:=QH (l6 h);obtain⟨h0,m,v,hd⟩:=h;have HL:=QH (qaU hd);have hpl:=hd.1.lt;have HW':=QH HW;clear h0 hd HW;unfold kC;cases xa:d.on with
 | false =>
  rw[xa]at HP;rw[if_pos rfl];go_enter func102,ntmps102;go_wp2_with (go_at_call 116;refine HP.out.mono ?_;rintro e w' ⟨rfl,rfl⟩);go_ret;exact⟨rfl,own,HD.out,qz.refl _ _,vh.refl _ _⟩
 | true =>
  rw[xa]at HP;rw[if_neg (by simp)];by_cases hn:d.n≤145
  ·rw[if_pos hn];have hn':(d.n:Int)≤145:=by omega
   go_enter func102,ntmps102;go_wp2_with (first|(go_at_call 116;refine HP.out.mono ?_;rintro e w' ⟨rfl,rfl⟩)|(go_at_call 43;refine HL.out.mono ?_;rintro e w' ⟨rfl,rfl⟩));go_ret;exact⟨rfl,own,HD.out,qz.refl _ _,vh.refl _ _⟩
  ·rw[if_neg hn];have hn':¬ (d.n:Int)≤145:=by omega
   go_enter func102,ntmps102;go_wp2_with (first|(go_at_call 116;refine HP.out.mono ?_;rintro e w' ⟨rfl,rfl⟩)|(go_at_call 43;refine HL.out.mono ?_;rintro e w' ⟨rfl,rfl⟩));refine(HW'.out 0 0 _ (by decide) (by decide)).mono ?_;rintro e W1 ⟨rfl,b1⟩;have qO:=QH b1;clear b1;go_wp2_with fail;have hb2:Below w.heap.size w ((W1.alloc (.cells #[.int .i64 0,.string (str (kQ 0 0))] 105)).alloc (.cells #[.slice (some ⟨W1.heap.size,0,none⟩) 1 1] 89)):=(zN qO.out _).alloc (zN qO.out _).size _;have hw1:=qd3 (W:=W1) 0 (kQ 0 0) (by unfold qD;omega);have hbs:=qd2 (c:=1) hw1;have hsz:(W1.alloc (.cells #[.int .i64 0,.string (str (kQ 0 0))] 105)).heap.size=W1.heap.size+1:=by simp
   rw[hsz]at hbs;have qA:=QH hb2;have HBS:=QH hbs;clear hw1 hbs hsz hb2;refine(ar p _ 1 [[(0,kQ 0 0)]] _ (Nat.lt_of_lt_of_le hpl qA.out.size) HBS.out (by decide) (fun l hl=>by simp at hl;subst hl;decide)).mono ?_;rintro e W3 ⟨v,rfl,hg⟩;have HG:=QH hg;clear hg;go_wp2_with fail;refine(l7 (HD.out.below qA.out) HG.out (by simpa[qF,jU]using hm) jo).mono ?_;rintro e W4 yO;have HPO:=QH (xy.from yO qA.out HD.out.low);obtain⟨rfl,_⟩:=yO;go_wp2_with fail;go_ret;exact HPO.out
end
end Go.Proofs.YtdpbdkacngaemaaGreatDoor.jr
namespace Go.Proofs.YtdpbdkacngaemaaGreatDoor.jr
open _root_.Go.Proofs.Tryz Go Go.RowKit dk wi
section
variable {most:Nat} {w:World} {own:Nat→Prop} {p:Nat} {d:DD}
theorem pI {r:Option (List Wr)}{w:World}{e:Ending}{w':World}(h:pG r w e w'):Below w.heap.size w w'∧((∃l A c,r=some l∧e=.returned (.tuple #[.slice A l.length c,.bool true])∧uQ w' A l)∨(r=none∧∃A n c,e=.returned (.tuple #[.slice A n c,.bool false]))):=by
 obtain⟨h1,h2⟩:=h;refine⟨h1,?_⟩;cases r with
 | some l =>
  obtain⟨A,c,g1,g2⟩:=h2;exact .inl ⟨l,A,c,rfl,g1,g2⟩
 | none =>
  obtain⟨A,n,c,g⟩:=h2;exact .inr ⟨rfl,A,n,c,g⟩
theorem av {r:Option (Nat × Nat)}{w:World}{e:Ending}{w':World}(h:pH r w e w'):Below w.heap.size w w'∧((∃a c:Nat,r=some (a,c)∧e=.returned (.tuple #[.agg #[.int .i64 (a:Int),.int .i64 (c:Int)],.bool true]))∨(r=none∧∃x y:Int,e=.returned (.tuple #[.agg #[.int .i64 x,.int .i64 y],.bool false]))):=by
 obtain⟨h1,h2⟩:=h;refine⟨h1,?_⟩;cases r with
 | some q =>
  obtain⟨a,c⟩:=q;exact .inl ⟨a,c,rfl,h2⟩
 | none =>
  obtain⟨x,y,g⟩:=h2;exact .inr ⟨rfl,x,y,g⟩
theorem xt {w':World}{r:Value}(h:zP most w own p d)(hb:Below w.heap.size w w'):xy most own p d r w (.returned r) w':=⟨rfl,own,h.below hb,qz.of_below hb,vh.refl _ _⟩
theorem qjX{t:Bt}{l:List Wr}(h:bI t=some l):l.length≤60:=by
 unfold bI at h;cases hn:rdNum t with
 | none=>rw[hn]at h;cases h
 | some q =>
  obtain⟨n,r⟩:=q;rw[hn]at h;dsimp only at h;split at h
  ·cases h
  ·rename_i hh;cases hr:iN n r with
   | none=>rw[hr]at h;cases h
   | some q2 =>
    obtain⟨l2,r2⟩:=q2;have hl:=nr n r l2 r2 hr;rw[hr]at h;cases r2 with
    | nil =>
     simp at h;subst h;omega
    | cons=>cases h
theorem qjY{s:qH}{a c:Nat}{l:List Wr}(h:dW s a c=some l):l.length≤60:=by
 unfold dW at h;cases hu:unB (zS s a c)with
 | none=>rw[hu]at h;cases h
 | some t=>rw[hu]at h;exact qjX h
theorem sO (HR:qoi)(h:zP most w own p d)(hn:145<d.n)(ht:xY w)(hm:d.more.length+100≤most)(jo:most≤100000) :
    Calls prog 50 #[.pointer (some ⟨p,0,none⟩)] w (xy most own p (xc d).2 (.int .i64 (xc d).1) w):=by
 have HD:=QH h;have HP:=QH (l6 h);have hpl:p<w.heap.size:=by obtain⟨_,_,_,hd⟩:=h;exact hd.1.lt
 have HT:=QH ht;have hg:=ht.1;have HH:=QH HR;clear ht HR h;obtain⟨R,hR⟩:=QE (xc d);rw[hR];unfold xc at hR;cases xa:d.on with
 | false =>
  rw[xa]at HP;rw[if_pos xa]at hR;subst hR;go_enter func50,ntmps50;go_wp2_with (go_at_call 116;refine HP.out.mono ?_;rintro e w' ⟨rfl,rfl⟩);go_ret;exact xt HD.out (Below.refl _ _)
 | true =>
  rw[xa]at HP;rw[if_neg (by rw[xa];simp)]at hR;have cY:=QH hR;have HON:=QH xa;clear hR xa;go_enter func50,ntmps50;go_wp2_with (go_at_call 116;refine HP.out.mono ?_;rintro e w' ⟨rfl,rfl⟩);refine(HH.out most w own p d HD.out HON.out (by omega)).mono ?_;intro e W1 yO;obtain⟨b1,⟨a,c,hq,rfl⟩|⟨hq,x,y,rfl⟩⟩:=av yO
  ·have uV:=cY.out;rw[hq]at uV;dsimp only at uV;obtain⟨ha,hc,_⟩:=uu hq;have qO:=QH b1;clear b1 yO hq cY;by_cases hc0:c=0
   ·subst hc0;rw[if_pos rfl]at uV;subst uV;go_wp2_with fail;go_ret;exact xt HD.out (zN qO.out _)
   ·rw[if_neg hc0]at uV;have zb6:((c:Int) == 0)=false:=by simpa using hc0
    have hkb:qf (W1.alloc (.cells #[.int .i64 (a:Int),.int .i64 (c:Int)] 188)) W1.heap.size _ _:=qf.new W1 _ _;have qA:=QH (zN qO.out (.cells #[.int .i64 (a:Int),.int .i64 (c:Int)] 188));have cY:=QH uV;clear uV hkb;go_wp2_with fail;refine(qgw (HD.out.below qA.out) HON.out hn a c ha hc (HT.out.below qA.out hg)).mono ?_;intro e W3 yO;obtain⟨b3,⟨l,A,c3,hq,rfl,hw⟩|⟨hq,A,n3,c3,rfl⟩⟩:=pI yO
    ·have uV:=cY.out;rw[hq]at uV;dsimp only at uV;have qvV:=qjY hq;have zv:=QH (qa qA.out b3);have HW:=QH hw;clear yO b3 hw hq cY;have rT:=QH (qd1 (HD.out.below zv.out) A c3 l HW.out (by omega));cases hps:vO d.n l with
     | false =>
      rw[hps]at rT uV;rw[if_pos rfl]at uV;subst uV;go_wp2_with (go_at_call 119;refine rT.out.mono ?_;rintro e w' ⟨rfl,b4⟩);go_wp2_with fail;go_ret;exact xt HD.out (qa zv.out b4)
     | true =>
      rw[hps]at rT uV;rw[if_neg (by simp)]at uV;have cY:=QH uV;clear uV;go_wp2_with (go_at_call 119;refine rT.out.mono ?_);rintro e W4 ⟨rfl,b4⟩;have zx:=QH (qa zv.out b4);have HW4:=QH (HW.out.below b4 (Nat.le_refl _));clear b4 HW;go_wp2_with fail;have HBS:=QH (qd2 (c:=c3) HW4.out);have yw:=QH (zN zx.out (.cells #[.slice A l.length c3] 89));refine(ar p _ 1 [l] _ (Nat.lt_of_lt_of_le hpl yw.out.size) HBS.out (by simp) (fun m hm2=>by simp at hm2;subst hm2;omega)).mono ?_;rintro e W5 ⟨v,rfl,hgg⟩;have HG:=QH hgg;clear hgg;go_wp2_with fail;refine(l7 (HD.out.below yw.out) HG.out (by simp[qF,jU];omega) jo).mono ?_;rintro e W6 yO;have HPO:=QH (xy.from yO yw.out HD.out.low);obtain⟨rfl,_⟩:=yO;rw[cY.out]at HPO ⊢;go_wp2_with fail;go_ret;exact HPO.out
    ·have uV:=cY.out;rw[hq]at uV;dsimp only at uV;subst uV;have zv:=QH (qa qA.out b3);clear yO b3 hq cY;go_wp2_with fail;go_ret;exact xt HD.out zv.out
  ·have uV:=cY.out;rw[hq]at uV;dsimp only at uV;subst uV;have qO:=QH b1;clear b1 yO hq cY;go_wp2_with fail;go_ret;exact xt HD.out (zN qO.out _)
end
end Go.Proofs.YtdpbdkacngaemaaGreatDoor.jr
namespace Go.Proofs.YtdpbdkacngaemaaGreatDoor.vt.pg
open _root_.Go.Proofs.Tryz Go Go.RowKit Go.Sort ib mt im sp
theorem qrT:prog.follows .mixedOrders=true:=by kernel_rfl
theorem qbA{N:Nat}{t:Tg}{d:DD}(h:jr.JJ N t d)(k:Int)(h0:145≤k)(h1:k<(N:Int)):d.read k=(t k,0):=by
 have hn:d.n=N:=h.rb.1;have qnl:d.now=d.base:=by unfold dk.DD.now;rw[h.more];rfl
 unfold dk.DD.read;have:d.has k=true:=by
  unfold dk.DD.has;rw[hn];simp;omega
 rw[if_neg (by rw[h.on];simp),if_neg (by rw[this];simp),qnl];exact congrArg (fun x=>(x,(0:Int))) (h.is k h0)
theorem l8 {w:World}{o:Nat→Prop}{pd:Nat}{d:DD}(h:dk.zP 1000 w o pd d)(k:Int):Calls prog 122 #[pt pd,.int .i64 k] w (dk.wm (d.read k) w):=by
 obtain⟨h0,m,v,h1⟩:=h;unfold dk.DD.read;by_cases xa:d.on=false
 ·rw[if_pos xa];exact dk.qcM h1 xa k
 ·rw[if_neg xa];by_cases hh:d.has k=false
  ·rw[if_pos hh];exact dk.qcN h1 (by simpa using xa) k hh
  ·rw[if_neg hh];exact dk.qhD h0 h1 (by simpa using xa) k (by simpa using hh)
theorem pJ {w:World}{o:Nat→Prop}{pd:Nat}{d:DD}(h:dk.zP 1000 w o pd d):Calls prog 43 #[pt pd] w fun e w'=>e=.returned (.int .i64 (d.n:Int))∧w=w':=by
 obtain⟨h0,m,v,h1⟩:=h;exact dk.qaU h1
theorem qrU{w:World}{o:Nat→Prop}{pd:Nat}{d:DD}(h:dk.zP 1000 w o pd d):Calls prog 39 #[pt pd] w fun e w'=>e=.returned (.bool d.on)∧w=w':=by
 obtain⟨h0,m,v,h1⟩:=h;exact dk.qmW h1
section
variable {o1 o2:Nat→Prop} {w:World} {v pd N:Nat} {d:DD} {m:Mt} {l:Bool} {t:Tg}
theorem qoj(h:VP ag w o1 o2 v pd d m l):v<w.heap.size∧w.cell? ⟨v,9,none⟩=some (pt pd)∧w.cell? ⟨v,10,none⟩=some (.bool l):=by
 obtain⟨A0,A1,A2,c0,c1,c2,h1⟩:=h.is;exact⟨h1.cells.lt,h1.cells.k9,h1.cells.ee⟩
theorem qjZ(h:VP ag w o1 o2 v pd d m l)(hJ:jr.JJ N t d)(x:Wr)(h0:145≤x.1)(h1:x.1<(N:Int)):Calls prog 141 #[pt v,.agg #[.int .i64 x.1,.string (str x.2)]] w (uC (decide (t x.1=x.2)) w):=by
 obtain⟨xk,xs⟩:=x;dsimp only at h0 h1 ⊢;have hb1:=(Below.refl _ w).alloc (Nat.le_refl _) (.cells #[.int .i64 xk,.string (str xs)] 105);have zt:=qf.new w 105 #[.int .i64 xk,.string (str xs)];obtain⟨W,hW⟩:=QE (w.alloc (.cells #[.int .i64 xk,.string (str xs)] 105));rw[hW]at hb1 zt;have h2:=qZ h hb1;have bw:=qbA hJ xk h0 h1;obtain⟨q1,q2,q3⟩:=qoj h2;have p0:=zt.cell 0;have p1:=zt.cell 1;have hpl:=zt.lt;simp only[QA,QB,QC]at p0 p1;have e0:=fun d os=>cell_regrown p0 d os;have e1:=fun d os=>cell_regrown p1 d os;have e2:=fun d os=>cell_regrown q2 d os;have cR:∀b os,Calls prog 122 #[pt pd,.int .i64 xk] (grow (redrawn W b) os) fun e w''=>e=.returned (.tuple #[.string (str (t xk)),.int .i64 0])∧∃q:Regrown,w''=grow (redrawn W q.d) q.os :=
  fun b os=>by
   have:=l8 (qZ h2 (below_regrown W b os)).dk xk;rw[bw]at this;exact Calls.regrown_of this
 have hq:((str (t xk)).toList == (str xs).toList)=decide (t xk=xs):=by
  have h:=qeI (str (t xk)) xs;rw[zw]at h;exact h
 have qO:=QH hb1;obtain⟨r,hr⟩:=QE (decide (t xk=xs));rw[hr]at hq ⊢;obtain⟨S1,hS1⟩:=QE (str (t xk));obtain⟨S2,hS2⟩:=QE (str xs);rw[hS1]at hq cR;rw[hS2]at hq hW p1 e1 ⊢;have HK:=QH p1;have HPL:=QH hpl;clear h hb1 zt h2 bw hr hS1 hS2 p0 p1 q2 q3;go_enter func141,ntmps141;go_upto_region 1 with fail;try rw[hW]
 clear hW;refine wp_region_quiet_below qrT (by kernel_rfl) ?_;repeat (any_goals (first|go_big_quiet_step (first|exact cR _ _)|quiet_step (first|exact cR _ _)))
 refine wpQuiet_nil ?_;intro _ hw';obtain⟨⟨dq,osq⟩,hw''⟩:=hw';subst hw'';have p1:=e1 dq osq;have hb:=below_regrown W dq osq;have qA:=QH (qa qO.out hb);have hpl:=Nat.lt_of_lt_of_le HPL.out hb.size;clear hb e0 e1 e2 cR qO HK HPL q1;generalize grow (redrawn W dq) osq=W3 at *;cases r;all_goals
  go_wp2_with fail;go_ret;exact⟨rfl,qA.out⟩
theorem qd4(h:VP ag w o1 o2 v pd d m false)(xa:d.on=true):Calls prog 60 #[pt v] w fun e w'=>e=.returned (.int .i64 0)∧w=w':=by
 obtain⟨q1,q2,q3⟩:=qoj h;have HO:=QH (qrU h.dk);rw[xa]at HO;clear h;go_enter func60,ntmps60;go_wp2_with fail;refine HO.out.mono ?_;rintro e W1 ⟨rfl,rfl⟩;go_wp2_with fail;go_ret;exact⟨rfl,rfl⟩
theorem q5i(h:VP ag w o1 o2 v pd d m l):VP ag (w.setCell ⟨v,10,none⟩ (.bool true)) o1 o2 v pd d m true∧ib.qz (fun j=>j=v) w (w.setCell ⟨v,10,none⟩ (.bool true)):=by
 obtain⟨A0,A1,A2,c0,c1,c2,h1⟩:=h.is;have hb:=qr7 w v 10 (.bool true);refine⟨⟨⟨A0,A1,A2,c0,c1,c2,?_⟩,h.dk.keep hb.size (fun j hj=>hb.block j (iW h.dk j hj) (fun e=>?_)),h.dj⟩,hb⟩
 ·refine⟨by have:=h1.blk.qg 10 (.bool true);simpa[vC]using this,h1.tab.stay (ai fun j hj=>hj.2),h1.sz,?_,h1.own,fun j hj=>Nat.lt_of_lt_of_le (h1.low j hj) hb.size,h1.gv,h1.tk⟩;exact wF h1.ct hb.size (qw _ _ _ _ _ h1.gv)
 ·have:=h.dj v (.inl h1.own);rw[e]at hj;exact this hj
end
theorem qok(l:List UInt8)(c:UInt8):Lib.trimB l c=[] ↔ ∀b∈l,b=c:=by
 have key:∀L:List UInt8,L.dropWhile (· == c)=[] ↔ ∀b∈L,b=c:=by
  intro L
  induction L with
  | nil=>simp
  | cons x r ih =>
   by_cases hx:x=c
   ·subst hx;simp[List.dropWhile_cons,ih]
   ·have:(x == c)=false:=by simpa using hx
    rw[List.dropWhile_cons,this];simp[hx]
 have q5j:∀L:List UInt8,(∀b∈L.dropWhile (· == c),b=c)→∀b∈L,b=c:=by
  intro L
  induction L with
  | nil=>simp
  | cons x r ih =>
   intro h;by_cases hx:x=c
   ·subst hx;simp only[List.dropWhile_cons,BEq.rfl,if_true]at h;intro b hb;rcases List.mem_cons.1 hb with rfl|hb
    ·rfl
    ·exact ih h b hb
   ·have:(x == c)=false:=by simpa using hx
    rw[List.dropWhile_cons,this]at h;exact fun b hb=>h b hb
 unfold Lib.trimB Lib.trimLeftB Lib.trimRightB;rw[key];constructor
 ·intro h b hb;exact q5j l.reverse (fun b hb=>h b (by simpa using hb)) b (by simpa using hb)
 ·intro h b hb;have hb:b∈l.reverse.dropWhile (· == c):=by simpa using hb
  exact h b (by simpa using(List.dropWhile_suffix (fun x=>x == c)).mem hb)
theorem qvX(s:Bt)(hs:s.length=32):s=zb ↔ ∀b∈s,b=0:=by
 constructor
 ·rintro rfl b hb;exact List.eq_of_mem_replicate hb
 ·intro h;exact List.eq_replicate_iff.2 ⟨hs,h⟩
theorem mo (s:Bt)(hs:s.length=32)(w:World):Calls prog 136 #[.string (str s)] w (uC (decide (s=zb)) w):=by
 have ht:=Tryz.strings_Trim_one (str s) 0 (by decide) w (by rw[qN];omega);have hd:(⟨(Lib.trimB (str s).data.toList 0).toArray⟩:ByteArray).toList.isEmpty=decide (s=zb):=by
  have h:=qeI (⟨(Lib.trimB (str s).data.toList 0).toArray⟩:ByteArray) [];have h0:(str []).toList=[]:=by first|rfl|(simp[str];done)|decide +kernel
  have e:∀L:List UInt8,L.isEmpty=(L == []):=fun L=>by cases L <;> rfl
  rw[h0]at h;rw[e,h,Bool.eq_iff_iff];simp only[decide_eq_true_eq];rw[qvX s hs,← qok];show Lib.trimB (bl (str s)) 0=[]↔_;rw[zw]
 have HT:=QH ht;obtain⟨r,hr⟩:=QE (decide (s=zb));rw[hr]at hd ⊢;obtain⟨S,hS⟩:=QE (⟨(Lib.trimB (str s).data.toList 0).toArray⟩:ByteArray);rw[hS]at HT hd;clear ht hS hr;go_enter func136,ntmps136;go_wp2_with fail;refine HT.out.mono ?_;rintro e W1 ⟨rfl,hw⟩;have HB:Hid (Below w.heap.size w W1):=by
  rcases hw with rfl|rfl
  ·exact Below.refl _ _
  ·exact(Below.refl _ _).drew
 clear hw HT;go_wp2_with fail;go_ret;exact⟨rfl,HB.out⟩
end Go.Proofs.YtdpbdkacngaemaaGreatDoor.vt.pg
namespace Go.Proofs.YtdpbdkacngaemaaGreatDoor.vt.pg
open _root_.Go.Proofs.Tryz Go Go.RowKit ib mt im sp
theorem qvY:(prog.info? 9).map (fun i=>(i.zero,i.size,i.bytes))=some (some (.string ByteArray.empty),1,16):=by kernel_rfl
def TxR (w:World)(ps:List Bt)(v i:Value)(wr:World):Prop:=∃k:Nat,k<ps.length∧i=.int .i64 (k:Int)∧zM wr w.heap.size v (ps.take k)∧Below w.heap.size w wr
theorem qka(u:Bt)(hu:u.length≤8192)(k:Nat):((qK u).take k).flatten.length≤100000:=by
 have h2:(qK u).flatten=((qK u).take k).flatten++((qK u).drop k).flatten:=by rw[← List.flatten_append,List.take_append_drop]
 have h3:=congrArg List.length h2;rw[yU,jm,List.length_append]at h3;unfold nsec at h3;omega
theorem qgz{o:Nat→Prop}{w:World}{pd N:Nat}{d:DD}{t:Tg}{u:Bt}(h:dk.zP 1000 w o pd d)(ij:xY w)(hJ:jr.JJ N t d)(hN:193≤N)(hu:u.length≤8192)(hn:(qK u).length≤48)(home:∀i (h:i<(qK u).length),t ((145+i:Nat):Int)=(qK u)[i]) :
    Calls prog 51 #[pt pd] w (qtH (str u) w):=by
 obtain⟨i0,hi,hz0,hz1,hz2⟩:=info_parts qvY;have q0r:0<(qK u).length:=by rw[yf];exact fg _
 have q0s:=QH q0r;have HD:=QH h;have HT:=QH ij;have HJ:=QH hJ;have HN:=QH hn;have HNN:=QH hN;have HU:=QH hu;have q0t:=QH home;have jT:=QH (fun k (hk:k<(qK u).length) v=>qdi u v hu k hk);have HFL:=QH (qka u hu);have HIT:Hid (vN (qK u) u):=⟨hu,rfl⟩;obtain⟨ps,hps⟩:=QE (qK u);rw[hps]at q0s HN q0t jT HFL HIT;clear h ij hJ hn hN home q0r hps hu;go_enter func51,ntmps51;go_wp2_with fail;go_loopw [4,10] (fun v i wr=>TxR w ps v i wr) (fun _ i _=>ps.length-(intOf i).toNat);case atStart=>exact⟨0,q0s.out,rfl,World.ownsRow_nil _ _ _ _,Below.refl _ _⟩
 case round =>
  obtain⟨k,hk,rfl,ho,hB⟩:=hrel;have HO:=QH ho;have HB:=QH hB;have h48:(k:Int)<48:=by have:=HN.out;omega
  have bw:=l8 (HD.out.below hB) ((145:Int)+(k:Int));rw[qbA HJ.out ((145:Int)+(k:Int)) (by omega) (by have:=HNN.out;omega)]at bw;have ht:t ((145:Int)+(k:Int))=ps[k]:=by
   have:=q0t.out k hk;rw[← this]
   congr 1
  rw[ht]at bw;have dv:=QH bw;have xP:Hid (ps.take (k+1)=ps.take k++[ps[k]]):=List.take_succ_eq_append_getElem hk;have vI:Hid ((ps.take k).length=k):=by unfold Hid;rw[List.length_take];omega
  obtain⟨x,hx⟩:=QE (ps[k]);rw[hx]at dv xP;have HK:=QH hk;clear ho hB bw ht hx hk;go_wp2_with fail;refine dv.out.mono ?_;rintro e W2 ⟨rfl,hb2⟩;have qA:=QH (qa HB.out hb2);have vX:=QH (aV HO.out hb2);clear hb2 dv HO;have hby:=(Below.refl _ W2).alloc (Nat.le_refl _) (.cells #[.string (str x)] 9);have HO3:Hid (World.ownsRow (W2.alloc (.cells #[.string (str x)] 9)) w.heap.size 9 1 _ (ps.take k).length (yy (ps.take k))):=qC vX.out (fun j hj=>hby.block j (vX.out.lt j hj).2);have zv:=QH (qa qA.out hby);have wI:Hid (∀j u,([.string (str x)]:List Value)[j]?=some u→(W2.alloc (.cells #[.string (str x)] 9)).cell? ((⟨W2.heap.size,0,none⟩:Addr).add j)=some u):=fun j u hu=>by
   rw[addr_add,Nat.zero_add,(qf.new W2 9 #[.string (str x)]).cell j];simpa using hu
  have e1:∀u∈([.string (str x)]:List Value),u.oneCell'=true:=by intro u hu;simp at hu;subst hu;rfl
  have E1:=QH e1;have E2:Hid ((ps.take k).length+1≤maxLen):=by unfold Hid;rw[vI.out];unfold maxLen;omega
  have E3:Hid (((ps.take k).length+1)*16≤140737488355328):=by unfold Hid;rw[vI.out];omega
  obtain⟨Lw,hLw⟩:=QE (ps.take k);rw[hLw]at HO3 xP E2 E3 vI;clear hby e1 hLw vX;go_wp2_with (at_builtin;refine xm rfl (.tmp 23) (.tmp 25) 57 rfl w.heap.size 9 i0 (.string ByteArray.empty) 1 16 underlying57 hi hz0 hz1 hz2 rfl (by decide) _ _ _ rfl HO3.out ⟨W2.heap.size,0,none⟩ 1 1 [.string (str x)] rfl rfl wI.out E1.out E2.out E3.out zv.out.size ?_);intro v' w1 hown hgrow _;have zx:Hid (Below w.heap.size w w1):=zv.out.grown hgrow zv.out.size (fun j hj=>(HO3.out.lt j hj).1);have HO4:Hid (zM w1 w.heap.size v' (ps.take (k+1))):=by
   rw[xP.out];refine qah vI.out ?_;rw[vI.out]at hown;exact hown
  obtain⟨A4,c4,hv4,hs4⟩:=HO4.out.view;subst hv4;have nb:=QH hs4.2.2.1;have ij:=yN HT.out zx.out (xG HT.out);have dr:=QH ij;have HL4:Hid ((ps.take (k+1)).length=k+1):=by unfold Hid;rw[List.length_take];have:=HK.out;omega
  clear hown hgrow hs4 ij HO3 wI E1 E2 E3;by_cases bC:k+1<ps.length
  ·have hup:=mg A4 c4 (ps.take (k+1)) w1 nb.out (by rw[HL4.out];omega) (HFL.out (k+1)) (fun v=>jT.out (k+1) bC v) dr.out;have HUP:=QH hup;have mH:=QH bC;have hfo:((4:Int) == 0)=false:=rfl;clear hup bC;generalize (ps.take (k+1)).length=q at *;go_wp2_with fail;refine HUP.out.mono ?_;rintro e W5 ⟨rfl,hb5⟩;have yw:=QH (qa zx.out hb5);have HO5:=QH (aV HO4.out hb5);clear hb5 HUP;go_wp2_with fail;go_roundw;case rel=>exact⟨k+1,mH.out,by go_num,HO5.out,yw.out⟩
   case measure=>simp[intOf];have:=mH.out;omega
  ·have zt:k+1=ps.length:=by have:=HK.out;omega
   have rV:ps.take (k+1)=ps:=by rw[zt];exact List.take_length
   rw[rV]at nb;have hup:=mf A4 c4 ps u w1 nb.out HIT.out dr.out;have ma:(ps.take (k+1)).length=ps.length:=by rw[rV]
   rw[← ma]at hup;have HUP:=QH hup;clear hup bC zt rV ma HO4;generalize (ps.take (k+1)).length=q at *;go_wp2_with fail;refine HUP.out.mono ?_;rintro e W5 ⟨rfl,hb5⟩;have yw:=QH (qa zx.out hb5);clear hb5 HUP;go_wp2_with fail;go_ret2;exact⟨rfl,yw.out⟩
end Go.Proofs.YtdpbdkacngaemaaGreatDoor.vt.pg
namespace Go.Proofs.YtdpbdkacngaemaaGreatDoor.sp
open _root_.Go.Proofs.Tryz Go Go.RowKit ib
def zC (cs:List Int):Array Value:=(cs.map (Value.int .i64)).toArray
theorem aW (cs:List Int)(i:Nat)(h:i<cs.length):(zC cs)[i]?=some (.int .i64 cs[i]):=by simp[zC,h]
theorem pK (cs:List Int)(i:Nat)(v:Int):(zC cs).setIfInBounds i (.int .i64 v)=zC (cs.set i v):=by
 unfold zC;rw[List.setIfInBounds_toArray,List.map_set]
theorem pL (n:Nat):madeCells #[.int .i64 0] n=zC (List.replicate n 0):=by
 apply Array.ext
 ·simp[size_madeCells,zC]
 ·intro j h1 h2;have e:(zC (List.replicate n 0))[j]?=some (.int .i64 0):=by
   have hj:j<n:=by simpa[zC]using h2
   rw[aW _ _ (by simpa using hj),List.getElem_replicate]
  rw[Array.getElem?_eq_getElem h2]at e;rw[Option.some.inj e];simp[madeCells,Nat.mod_one]
theorem wrap_i64(x:Int):qD (wrap64 x):=by unfold qD wrap64;omega
theorem qol{cs:List Int}(h:∀z∈cs,qD z)(k:Nat):∀z∈bump cs k,qD z:=by
 intro z hz;unfold bump at hz;rcases List.mem_or_eq_of_mem_set hz with h1|h1
 ·exact h z h1
 ·rw[h1];exact wrap_i64 _
theorem fM {n:Int}:∀ {l cs cs':List Int},kV n cs l=some cs'→(∀z∈cs,qD z)→∀z∈cs',qD z
 | [],cs,cs',h,hz=>by
  simp only[kV,Option.some.injEq]at h;rw[← h];exact hz
 | k::r,cs,cs',h,hz=>by
  rw[aS]at h;split at h
  ·exact fM h hz
  ·split at h
   ·cases h
   ·exact fM h (qol hz _)
theorem qam(n:Nat):∀z∈List.replicate n (0:Int),qD z:=by
 intro z hz;rw[List.eq_of_mem_replicate hz];unfold qD;omega
theorem qf.ints{w:World}{g:Nat}{cs:List Int}(h:qf w g 3 (zC cs))(hz:∀z∈cs,qD z):qI w (some ⟨g,0,none⟩) cs:=fun i hi =>
 ⟨g,0,rfl,h.lt,by rw[Nat.zero_add,h.cell i];exact aW cs i hi,hz _ (List.getElem_mem hi)⟩
def okL (r:List Int × Int)(w:World)(e:Ending)(w':World):Prop :=
 ∃A cc,e=.returned (.tuple #[.slice A r.1.length cc,.int .i64 r.2])∧qI w' A r.1∧Below w.heap.size w w'∧(∀b o,A=some ⟨b,o,none⟩→w.heap.size≤b∧b<w'.heap.size)∧r.1.length≤cc
theorem fN {c:Int}{w w':World}(h:Below w.heap.size w w'):okL ([],c) w (.returned (.tuple #[.slice none 0 0,.int .i64 c])) w' :=
 ⟨none,0,rfl,qI.nil _ _,h,(fun _ _ h=>by cases h),Nat.le_refl _⟩
theorem qkb(n:Int)(h0:0≤n)(h:n≤1024)(W:World):(Instr.makeSlice 80 (.int .i64 n) (.int .i64 n)).run prog W=.ok (.slice (some ⟨W.heap.size,0,none⟩) n.toNat n.toNat) (W.alloc (.cells (zC (List.replicate n.toNat 0)) 3)):=by
 obtain⟨i0,hi,hz0,hz1,hz2⟩:=info_parts wN;have hmk:=run_make (P:=prog) W 80 3 i0 (.int .i64 0) underlying80 hi hz0 .i64 .i64 n n h0 (Int.le_refl _) (by rw[hz2];omega) (by omega);rw[hz1]at hmk;rw[← pL];simpa[Value.cells]using hmk
def qrV:Prop:=∀(A:Option Addr) (c:Nat) (zT:List (List Int)) (n:Int) (w:World),fB w A zT→zT.length≤9223372036854775807→qD n →
 Calls prog 137 #[.slice A zT.length c,.int .i64 n] w (okL (yX zT n) w)
def q0w:Prop:=∀(A:Option Addr) (c:Nat) (cs:List Int) (n:Int) (w:World),qI w A cs→cs.length*8≤140737488355328→qD n →
 Calls prog 139 #[.slice A cs.length c,.int .i64 n] w (okL (jn cs n) w)
def okI (r:Int)(w:World)(e:Ending)(w':World):Prop:=e=.returned (.int .i64 r)∧Below w.heap.size w w'
def q0x:Prop:=∀(A:Option Addr) (c:Nat) (cs:List Int) (w:World),qI w A cs→cs.length≤9223372036854775807 →
 Calls prog 221 #[.slice A cs.length c] w (okI (yr cs:Int) w)
theorem qI.some{w:World}{A:Option Addr}{cs:List Int}(h:qI w A cs)(h0:0<cs.length):∃b o,A=some ⟨b,o,none⟩∧b<w.heap.size:=by
 obtain⟨b,o,h1,h2,_⟩:=h 0 h0;exact⟨b,o,h1,h2⟩
end Go.Proofs.YtdpbdkacngaemaaGreatDoor.sp
