/- FUnpack, WiPutT, JMem, JSteps, JRunW, JPlaces, JLay. -/
import Derived.Test.YtdpbdkacngaemaaGreatDoorZK13
set_option linter.unusedVariables false
set_option linter.unusedSimpArgs false
set_option maxHeartbeats 30000000
set_option maxRecDepth 100000
namespace Go.Proofs.YtdpbdkacngaemaaGreatDoor
open _root_.Go.Proofs.Tryz Go.RowKit
def qp9 (s:ByteArray)(w:World)(e:Ending)(w':World):Prop :=
 e=.returned (.tuple #[.string s,.int .i64 0])∧Below w.heap.size w w'
def qr1 (w:World)(e:Ending)(w':World):Prop :=
 e=.returned (.tuple #[.string ⟨#[]⟩,.int .i64 4])∧Below w.heap.size w w'
theorem fU (a:Option Addr)(c:Nat)(ps:List (List UInt8))(t:List UInt8)(w:World)(hp:yM w a ps)(hi:uF ps t)(ht:xK w) :
    Calls prog 123 #[.slice a ps.length c] w (qp9 (str t) w):=by
 have HT:=QH ht;have hg:=ht.1;clear ht;have HP:=QH hp;have hpl:ps.length≤1000:=by rw[hi.2,xP];have:=hi.1;unfold nsec;omega
 have wA:ps.flatten=yw t:=by rw[hi.2,yE]
 have hwl:=yR t;have hfs:ps.flatten.length≤100000:=by rw[wA,hwl];have:=hi.1;unfold nsec;omega
 have hput:=mF a c ps w hp (by omega) (by omega);have htl:=hi.1;have hsz:=qO t;have hzl:=qO ps.flatten;have hts:(str t).size≤8192:=by omega
 have qkn:∀W,Calls prog 198 #[.string (str ps.flatten)] W fun e w'=>e=.returned (.tuple #[.string (str t),.bool true])∧Below W.heap.size W w':=by
  intro W;have:=mG (str ps.flatten) W (by omega);rw[zn,wA,qdd t (by omega)]at this;rw[wA];exact this
 have heq:qJ t=ps:=hi.2.symm;have qbl:=QH hput;have sU:=QH qkn;have Heq:=QH heq;have qr2:=QH (zn t);clear hp hput qkn heq hi wA hwl hsz hzl htl hfs;generalize str ps.flatten=f at *;generalize str t=s at *;go_enter func123,ntmps123;go_wp2_with (go_at_call 178;refine qbl.out.mono ?_);rintro e W1 ⟨rfl,b1⟩;go_wp2_with (go_at_call 198;refine(sU.out _).mono ?_);rintro e W2 ⟨rfl,b2⟩;have b12:=qc b1 b2;have h2:=QH (HT.out.below b12 hg);clear b1 b2;go_wp2_with (go_at_call 101;refine(bR s _ hts h2.out).mono ?_);rintro e W3 ⟨v,rfl,hown,b3⟩;have b13:=qc b12 b3;rw[qr2.out,Heq.out]at hown;obtain⟨a2,c2,rfl,hlc,hcm,hst,_,_⟩:=hown.view;have qko:=HP.out.below b13 (Nat.le_refl _);have qd5:=dn a2 a c2 c ps ps W3 hst qko (by omega) (by omega);rw[show decide (ps=ps)=true from by simp]at qd5;have qr3:=QH qd5;clear b12 b3 hown hst qko qd5 h2;go_wp2_with (go_at_call 199;refine qr3.out.mono ?_);rintro e W4 ⟨rfl,b4⟩;have b14:=qc b13 b4;clear b13 b4;go_wp2;go_ret2;exact⟨rfl,b14⟩
theorem fV (a:Option Addr)(c:Nat)(ps:List (List UInt8))(w:World)(hp:yM w a ps)(hpl:ps.length≤1000)(hfs:ps.flatten.length≤100000)(hi:∀t,¬ uF ps t)(ht:xK w) :
    Calls prog 123 #[.slice a ps.length c] w (qr1 w):=by
 have HT:=QH ht;have hg:=ht.1;clear ht;have HP:=QH hp;have hput:=mF a c ps w hp (by omega) (by omega);have hzl:=qO ps.flatten;have qkn:∀W,Calls prog 198 #[.string (str ps.flatten)] W (qeU (oq ps.flatten) W):=by
  intro W;have:=mG (str ps.flatten) W (by omega)
  rwa [zn]at this
 have qbl:=QH hput;have sU:=QH qkn;clear hp hput qkn hzl;generalize str ps.flatten=f at *;cases hx:oq ps.flatten with
 | none =>
  rw[hx]at sU;go_enter func123,ntmps123;go_wp2_with (go_at_call 178;refine qbl.out.mono ?_);rintro e W1 ⟨rfl,b1⟩;go_wp2_with (go_at_call 198;refine(sU.out _).mono ?_);rintro e W2 ⟨rfl,b2⟩;have b12:=qc b1 b2;clear b1 b2;go_wp2;go_ret2;exact⟨rfl,b12⟩
 | some t =>
  rw[hx]at sU;have hsz:=qO t;by_cases htl:8192<t.length
  ·have hts:8192<(str t).size:=by omega
   have hgd:(some t).getD []=t:=rfl;have qkp:Hid (∀W,Calls prog 198 #[.string f] W fun e w'=>e=.returned (.tuple #[.string (str t),.bool true])∧Below W.heap.size W w'):=sU;clear sU hsz;generalize str t=s at *;go_enter func123,ntmps123;go_wp2_with (go_at_call 178;refine qbl.out.mono ?_);rintro e W1 ⟨rfl,b1⟩;go_wp2_with (go_at_call 198;refine(qkp.out _).mono ?_);rintro e W2 ⟨rfl,b2⟩;have b12:=qc b1 b2;clear b1 b2;go_wp2_with (go_at_call 101;refine(qgJ s _ hts).mono ?_);rintro e W3 ⟨rfl,b3⟩;have b13:=qc b12 b3;clear b12 b3;go_wp2;go_ret2;exact⟨rfl,b13⟩
  ·have hts:(str t).size≤8192:=by omega
   have qkp:Hid (∀W,Calls prog 198 #[.string f] W fun e w'=>e=.returned (.tuple #[.string (str t),.bool true])∧Below W.heap.size W w'):=sU;have hne:decide (qJ t=ps)=false:=by
    simp only[decide_eq_false_iff_not];intro h;exact hi t ⟨by omega,h.symm⟩
   have qr2:=QH (zn t);have dG:=xP t;have zah:(qJ t).length≤1000:=by rw[dG];unfold nsec;omega
   have Hne:=QH hne;have Hx:=QH hx;clear sU hsz hne dG hx hi;generalize str t=s at *;go_enter func123,ntmps123;go_wp2_with (go_at_call 178;refine qbl.out.mono ?_);rintro e W1 ⟨rfl,b1⟩;go_wp2_with (go_at_call 198;refine(qkp.out _).mono ?_);rintro e W2 ⟨rfl,b2⟩;have b12:=qc b1 b2;have h2:=QH (HT.out.below b12 hg);clear b1 b2;go_wp2_with (go_at_call 101;refine(bR s _ hts h2.out).mono ?_);rintro e W3 ⟨v,rfl,hown,b3⟩;have b13:=qc b12 b3;rw[qr2.out]at hown;obtain⟨a2,c2,rfl,hlc,hcm,hst,_,_⟩:=hown.view;have qko:=HP.out.below b13 (Nat.le_refl _);have qd5:=dn a2 a c2 c (qJ t) ps W3 hst qko (by omega) (by omega);rw[Hne.out]at qd5;have qr3:=QH qd5;clear b12 b3 hown hst qko qd5 h2;go_wp2_with (go_at_call 199;refine qr3.out.mono ?_);rintro e W4 ⟨rfl,b4⟩;have b14:=qc b13 b4;clear b13 b4;go_wp2;go_ret2;exact⟨rfl,b14⟩
end Go.Proofs.YtdpbdkacngaemaaGreatDoor
namespace Go.Proofs.YtdpbdkacngaemaaGreatDoor.wi
open _root_.Go.Proofs.Tryz Go.RowKit
def qgP (s t:ByteArray)(w:World)(e:Ending)(w':World):Prop :=
 e=.returned (.string (str (bl s++dP (bl t))))∧Below w.heap.size w w'
theorem qbm(s t:ByteArray)(w:World)(hs:s.size≤70368744177000)(ht:t.size≤70368744177000) :
    Calls prog 251 #[.string s,.string t] w (qgP s t w):=by
 have hl:=jh t.size;have hbl:=zg t;have Hbl:=QH hbl;clear hbl;go_enter func251,ntmps251;go_wp2_with (go_at_call 277;refine(qi3 t.size _ (by omega)).mono ?_);rintro e W1 ⟨rfl,b1⟩;go_wp2_with (go_at_call 278;refine(qcn t.size _ (by omega)).mono ?_);rintro e W2 ⟨rfl,b2⟩;go_wp2_with (go_at_call 276;refine(ug s W2.heap.size 0 3 [str [UInt8.ofNat (zv t.size).length],str (zv t.size),t] _ ?_ (l6 _ _ _ _) (by simp) ?_).mono ?_)
 ·simp
 ·have:=Hbl.out;simp[flat,zn];omega
 ·rintro e W3 ⟨rfl,b3⟩;have b':=qc (zD (qc b1 b2) _) b3;clear b1 b2 b3;go_wp2;go_ret;exact⟨by simp[flat,zn,dP,zk,Hbl.out],b'⟩
end Go.Proofs.YtdpbdkacngaemaaGreatDoor.wi
namespace Go.Proofs.YtdpbdkacngaemaaGreatDoor.jr
open _root_.Go.Proofs.Tryz Go Go.RowKit dk wi
def qA (x:Int):Prop:=-9223372036854775808≤x∧x≤9223372036854775807
def kV (w:World)(a:Option Addr)(l:List Wr):Prop :=
 ∀i (h:i<l.length),∃b o,a=some ⟨b,o,none⟩∧b<w.heap.size∧w.cell? ⟨b,o+i*2,none⟩=some (.int .i64 l[i].1)∧w.cell? ⟨b,o+i*2+1,none⟩=some (.string (str l[i].2))∧qA l[i].1
theorem kV.below{w w':World}{a:Option Addr}{l:List Wr}{B:Nat}(h:kV w a l)(hb:Below B w w')(hB:w.heap.size≤B):kV w' a l:=by
 intro i hi;obtain⟨b,o,h1,h2,h3,h4,h5⟩:=h i hi;refine⟨b,o,h1,Nat.lt_of_lt_of_le h2 hb.size,?_,?_,h5⟩
 ·rw[hb.cell (p:=⟨b,o+i*2,none⟩) (Nat.lt_of_lt_of_le h2 hB)];exact h3
 ·rw[hb.cell (p:=⟨b,o+i*2+1,none⟩) (Nat.lt_of_lt_of_le h2 hB)];exact h4
section
variable {most:Nat} {w:World} {own:Nat→Prop} {p:Nat} {d:DD}
theorem eL (h:zH most w own p d):Calls prog 116 #[.pointer (some ⟨p,0,none⟩)] w fun e w'=>e=.returned (.int .i64 (if d.on then 0 else 6))∧w=w':=by
 obtain⟨h0,m,v,hd⟩:=h;have HO:=QH (qjw hd);clear h0 hd;cases zW:d.on with
 | true =>
  rw[zW]at HO;go_enter func116,ntmps116;go_wp2_with (go_at_call 39;refine HO.out.mono ?_;rintro e w' ⟨rfl,rfl⟩);go_ret;exact⟨rfl,rfl⟩
 | false =>
  rw[zW]at HO;go_enter func116,ntmps116;go_wp2_with (go_at_call 39;refine HO.out.mono ?_;rintro e w' ⟨rfl,rfl⟩);go_ret;exact⟨rfl,rfl⟩
theorem pP (a c:Nat)(ha:a<2)(w:World):Calls prog 192 #[.agg #[.int .i64 (a:Int),.int .i64 (c:Int)]] w fun e w'=>e=.returned (.int .i64 ((1+a*72:Nat):Int))∧Below w.heap.size w w':=by
 have e1:(1:Int)+(a:Int)*72=((1+a*72:Nat):Int):=by omega
 have ha1:(a:Int)≤1:=by omega
 have E1:=QH e1;clear e1;go_enter func192,ntmps192;go_wp2;go_ret;exact⟨by rw[← E1.out];rfl,(Below.refl _ _).alloc (Nat.le_refl _) _⟩
end
def qco (l:List Wr)(w:World)(s i:Value)(wr:World):Prop :=
 ∃k:Nat,k≤l.length∧i=.int .i64 (k:Int)∧s=.string (str (zk l.length++((l.take k).map wB).flatten))∧Below w.heap.size w wr
theorem qnE(l:List Wr)(nL:l.length≤60)(h:∀x∈l,0≤x.1∧x.2.length=32)(k:Nat):(zk l.length++((l.take k).map wB).flatten).length≤3009:=by
 have h1:=qy l.length;have h2:=qjA (l.take k) (fun x hx=>(h x (List.mem_of_mem_take hx)).2);have h3:(l.take k).length≤60:=by simp;omega
 simp only[List.length_append];omega
def okT (t:Bt)(w:World)(e:Ending)(w':World):Prop:=e=.returned (.string (str t))∧Below w.heap.size w w'
theorem ug (a:Option Addr)(c:Nat)(l:List Wr)(w:World)(hT:kV w a l)(nL:l.length≤60)(h:∀x∈l,0≤x.1∧x.2.length=32) :
    Calls prog 180 #[.slice a l.length c] w (okT (ze l) w):=by
 have HT:=QH hT;have HL:=QH (qnE l nL h);have HX:=QH h;clear hT h;go_enter func180,ntmps180;go_wp2_with fail;refine(jw ⟨#[]⟩ l.length w (by omega) (by decide)).mono ?_;rintro e W1 ⟨rfl,b1⟩;have B1:=QH b1;clear b1;obtain⟨s1,hs1⟩:=QE (str (bl ⟨#[]⟩++zk l.length));rw[hs1];have oY:=QH hs1;clear hs1;go_wp2_with fail;go_loopw [3,12] (fun s i wr=>qco l w s i wr) (fun _ i _=>l.length-(intOf i).toNat);case atStart=>exact⟨0,Nat.zero_le _,rfl,by rw[← oY.out];simp[bl],B1.out⟩
 case round =>
  obtain⟨k,hk,rfl,rfl,hB⟩:=hrel;have HB:=QH hB;clear hB B1;by_cases hlt:k<l.length
  ·obtain⟨b,o,rfl,hb,q0,q1,qb⟩:=HT.out k hlt;have hx:=HX.out l[k] (List.getElem_mem hlt);have hstep:((l.take (k+1)).map wB).flatten=((l.take k).map wB).flatten++wB l[k]:=by rw[List.take_succ_eq_append_getElem hlt,List.map_append,List.flatten_append];simp
   have HST:=QH hstep;have HLk:=QH (HL.out k);clear hstep;generalize hxx:l[k]=x at *;obtain⟨n,hn⟩:=Int.eq_ofNat_of_zero_le hx.1;have e0:wr.cell? ⟨b,o+k*2,none⟩=some (.int .i64 (n:Int)):=by rw[HB.out.cell (p:=⟨b,o+k*2,none⟩) hb,q0,hn]
   have e1:wr.cell? ⟨b,o+k*2+1,none⟩=some (.string (str x.2)):=by rw[HB.out.cell (p:=⟨b,o+k*2+1,none⟩) hb];exact q1
   have q05:(n:Int)≤9223372036854775807:=by have:=qb.2;omega
   have hb2:b<wr.heap.size:=Nat.lt_of_lt_of_le hb HB.out.size;obtain⟨S,hS⟩:=QE (str (zk l.length++((l.take k).map wB).flatten));have hSs:S.size≤3009:=by rw[← hS,qO];exact HLk.out
   rw[hS];have HS:=QH hS;have HX2:=QH hx.2;have HN:=QH hn;have qbn:(k:Int)<(l.length:Int):=by omega
   clear q0 q1 qb hS hn hx hxx;go_wp2_with fail;refine(jw S n _ (by omega) (by omega)).mono ?_;rintro e W2 ⟨rfl,b2⟩;have hA:qh (wr.alloc (.cells #[.int .i64 (n:Int),.string (str x.2)] 105)) wr.heap.size _ _:=qh.new wr _ _;have hA2:qh W2 wr.heap.size _ _:=hA.of_block (b2.block _ hA.lt);have q2:=hA2.cell 1;have lt2:=hA2.lt;have B2:=QH (qc (HB.out.alloc HB.out.size _) b2);clear b2 hA hA2;obtain⟨S2,hS2⟩:=QE (str (bl S++zk n));have hl9:=qy n;have q06:S2.size≤3020:=by rw[← hS2,qO,List.length_append,zg];omega
   rw[hS2];have kY:=QH hS2;clear hS2;go_wp2_with fail;refine(qbm S2 (str x.2) _ (by omega) (by rw[qO,HX2.out];omega)).mono ?_;rintro e W3 ⟨rfl,b3⟩;have B3:=QH (qc B2.out b3);clear b3 B2;obtain⟨S3,hS3⟩:=QE (str (bl S2++dP (bl (str x.2))));rw[hS3];have HS3:=QH hS3;clear hS3;go_wp2_with fail;go_roundw;case rel =>
    refine⟨k+1,by omega,by go_num,?_,B3.out⟩;rw[← HS3.out,← kY.out,← HS.out,HST.out,zn,zn,zn];have:x.1.toNat=n:=by rw[HN.out];rfl
    simp[wB,this]
   case measure=>simp[intOf];omega
  ·obtain rfl:k=l.length:=by omega
   go_wp2_with fail;go_ret;refine⟨?_,HB.out⟩;rw[List.take_length];rfl
end Go.Proofs.YtdpbdkacngaemaaGreatDoor.jr
namespace Go.Proofs.YtdpbdkacngaemaaGreatDoor.jr
open _root_.Go.Proofs.Tryz Go Go.RowKit dk wi
theorem qkq:(prog.info? 263).map (fun i=>(i.zero,i.size,i.bytes))=some (some .nilFunc,1,8):=by kernel_rfl
def aH (p:Nat):Value:=.func (.func 194) #[.pointer (some ⟨p,0,none⟩)] #[]
def vS (p:Nat):Value:=.func (.func 195) #[.pointer (some ⟨p,0,none⟩)] #[]
def gK (gw gi:Nat):Value:=.func (.func 196) #[] #[.pointer (some ⟨gw,0,none⟩),.pointer (some ⟨gi,0,none⟩)]
def fW (w:World)(B p:Nat):Step→Value→Prop
 | .f,v=>v=vS p
 | .w k x,v=>∃gw gi,v=gK gw gi∧B≤gw∧B≤gi∧qh w gw 46 #[aH p]∧qh w gi 105 #[.int .i64 k,.string (str x)]
def gL (w:World)(B p:Nat)(ss:List Step)(vs:List Value):Prop:=ss.length=vs.length∧∀(j:Nat) (s:Step) (v:Value),ss[j]?=some s→vs[j]?=some v→fW w B p s v
def jN (w w':World):Prop:=∀g t cs,t≠263→qh w g t cs→qh w' g t cs
theorem jN.below{w w':World}(h:Below w.heap.size w w'):jN w w':=fun _ _ _ _ hb=>hb.of_block (h.block _ hb.lt)
theorem jN.trans{a b c:World}(h:jN a b)(k:jN b c):jN a c:=fun g t cs ht hb=>k g t cs ht (h g t cs ht hb)
theorem jN.grown{w w':World}{B n:Nat}{v:Value}{xs:List Value}(ho:w.ownsRow B 263 1 v n xs)(h:w.grownBy w' v.ownBlock):jN w w':=fun g t cs ht hb=>by
 refine hb.of_block (h.block g hb.lt ?_);rcases ho.2 with⟨rfl,_⟩|⟨q,cap,cur,rfl,_,hh,_⟩
 ·simp[Value.ownBlock]
 ·simp only[Value.ownBlock,Option.some.injEq,ne_eq];rintro rfl;unfold qh at hb;rw[hb]at hh;simp only[Option.some.injEq,Obj.cells.injEq]at hh;exact ht hh.2.1
theorem fW.keep{w w':World}{B p:Nat}{s:Step}{v:Value}(h:fW w B p s v)(hk:jN w w'):fW w' B p s v:=by
 cases s with
 | f=>exact h
 | w k x =>
  obtain⟨gw,gi,h1,h2,h3,h4,h5⟩:=h;exact⟨gw,gi,h1,h2,h3,hk _ _ _ (by decide) h4,hk _ _ _ (by decide) h5⟩
theorem gL.keep{w w':World}{B p:Nat}{ss:List Step}{vs:List Value}(h:gL w B p ss vs)(hk:jN w w'):gL w' B p ss vs:=⟨h.1,fun j s v hs hv=>(h.2 j s v hs hv).keep hk⟩
theorem gL.snoc{w:World}{B p:Nat}{ss:List Step}{vs:List Value}{s:Step}{v:Value}(h:gL w B p ss vs)(hs:fW w B p s v):gL w B p (ss++[s]) (vs++[v]):=by
 refine⟨by simp[h.1],fun j t u ht hu=>?_⟩;by_cases hj:j<ss.length
 ·rw[List.getElem?_append_left hj]at ht;rw[List.getElem?_append_left (by rw[← h.1];exact hj)]at hu;exact h.2 j t u ht hu
 ·rw[List.getElem?_append_right (by omega)]at ht;rw[List.getElem?_append_right (by rw[← h.1];omega)]at hu;rw[h.1]at ht;cases hq:j-vs.length with
  | zero =>
   rw[hq]at ht hu;simp at ht hu;subst ht hu;exact hs
  | succ m =>
   rw[hq]at ht;simp at ht
def qbo (w:World)(a:Option Addr)(bs:List (List Wr)):Prop :=
 ∀i (h:i<bs.length),∃b o A c,a=some ⟨b,o,none⟩∧b<w.heap.size∧w.cell? ⟨b,o+i,none⟩=some (.slice A bs[i].length c)∧kV w A bs[i]
theorem sV (bs:List (List Wr))(k:Nat)(h:k<bs.length):qC (bs.take (k+1))=qC (bs.take k)++(jo bs[k]++[.f]):=by
 have key:∀(x y:List (List Wr)),qC (x++y)=qC x++qC y:=by
  intro x y
  induction x with
  | nil=>rfl
  | cons l r ih=>simp[qC,ih]
 rw[List.take_succ_eq_append_getElem h,key];simp[qC]
theorem qgQ(l:List Wr)(k:Nat)(h:k<l.length):jo (l.take (k+1))=jo (l.take k)++[.w l[k].1 l[k].2]:=by
 unfold jo;rw[List.take_succ_eq_append_getElem h,List.map_append];rfl
theorem qpA(l:List Wr):(jo l).length=l.length:=by simp[jo]
theorem fX:∀(bs:List (List Wr)),(∀l∈bs,l.length≤1000)→(qC bs).length≤1001*bs.length
 | [],_=>by simp[qC]
 | l::r,h=>by
  have h1:=h l (by simp);have h2:=fX r (fun m hm=>h m (by simp[hm]));simp only[qC,List.length_append,List.length_cons,qpA];omega
def oy (w:World)(p:Nat)(ss:List Step)(v:Value)(wr:World):Prop :=
 ∃vs,wr.ownsRow w.heap.size 263 1 v vs.length vs∧gL wr w.heap.size p ss vs∧qh wr w.heap.size 46 #[aH p]∧Below w.heap.size w wr
def qr6 (w:World)(p:Nat)(bs:List (List Wr))(v i:Value)(wr:World):Prop :=
 ∃k:Nat,k≤bs.length∧i=.int .i64 (k:Int)∧oy w p (qC (bs.take k)) v wr
def qvX (w:World)(p:Nat)(pre:List Step)(l:List Wr)(v i:Value)(wr:World):Prop :=
 ∃k:Nat,k≤l.length∧i=.int .i64 (k:Int)∧oy w p (pre++jo (l.take k)) v wr
def qnF (p:Nat)(ss:List Step)(w:World)(e:Ending)(w':World):Prop:=∃v,e=.returned v∧oy w p ss v w'
theorem bU (w:World)(t:TypeId)(v:Value):∀(j:Nat) (u:Value),([v]:List Value)[j]?=some u→(w.alloc (.cells #[v] t)).cell? ((⟨w.heap.size,0,none⟩:Addr).add j)=some u:=by
 intro j u hj
 match j,hj with
 | 0,hj =>
  simp at hj;subst hj;rw[addr_add];exact(qh.new w t #[v]).cell 0
theorem qeX(f:Fn)(a b:Array Value):∀u∈([Value.func f a b]:List Value),u.oneCell'=true:=by
 intro u hu;simp at hu;subst hu;rfl
theorem oy.more{w wr w1:World}{p:Nat}{ss:List Step}{v':Value}{vs:List Value}{s:Step}{u:Value}(hs:gL wr w.heap.size p ss vs)(hk:qh wr w.heap.size 46 #[aH p])
    (qpB:jN wr w1) (hu:fW w1 w.heap.size p s u) (hown:w1.ownsRow w.heap.size 263 1 v' (vs.length+1) (vs++[u])) (hB:Below w.heap.size w w1):oy w p (ss++[s]) v' w1 :=
 ⟨vs++[u],by rw[List.length_append];exact hown,(hs.keep qpB).snoc hu,qpB _ _ _ (by decide) hk,hB⟩
theorem gM (p:Nat)(a:Option Addr)(c:Nat)(bs:List (List Wr))(w:World)(hp:p<w.heap.size)(hT:qbo w a bs)(hl:bs.length≤10)(hl2:∀l∈bs,l.length≤1000) :
    Calls prog 121 #[.pointer (some ⟨p,0,none⟩),.slice a bs.length c] w (qnF p (qC bs) w):=by
 obtain⟨i0,hi,hz0,hz1,hz2⟩:=info_parts qkq;have HT:=QH hT;have rQ:=QH hl2;clear hT hl2;go_enter func121,ntmps121;go_wp2_with fail;have k0:qh (w.alloc (.cells #[aH p] 46)) w.heap.size _ _:=qh.new w _ _;have b0:Below w.heap.size w (w.alloc (.cells #[aH p] 46)):=(Below.refl w.heap.size w).alloc (Nat.le_refl _) _;go_loopw [7,18] (fun v i wr=>qr6 w p bs v i wr) (fun _ i _=>bs.length-(intOf i).toNat);case atStart=>exact⟨0,Nat.zero_le _,rfl,[],World.ownsRow_nil _ _ _ _,⟨rfl,fun j s v h=>by simp[qC]at h⟩,k0,b0⟩
 case round =>
  clear k0 b0;obtain⟨k,hk,rfl,hg⟩:=hrel;have HG:=QH hg;clear hg;by_cases hlt:k<bs.length
  ·obtain⟨b,o,A,cc,rfl,hb,hc,hW⟩:=HT.out k hlt;have hst:=sV bs k hlt;have hlen:=rQ.out bs[k] (List.getElem_mem hlt);generalize bs[k]=l at *;have hc2:wr.cell? ⟨b,o+k,none⟩=some (.slice A l.length cc):=by obtain⟨_,_,_,_,hB⟩:=HG.out;rw[hB.cell (p:=⟨b,o+k,none⟩) hb];exact hc
   have hb2:b<wr.heap.size:=by obtain⟨_,_,_,_,hB⟩:=HG.out;exact Nat.lt_of_lt_of_le hb hB.size
   have qbn:(k:Int)<(bs.length:Int):=by omega
   have HW:=QH hW;have HST:=QH hst;clear hc hW hst;go_wp2_with fail;obtain⟨wo,rfl⟩:∃wo:World,wo=wr:=⟨_,rfl⟩;go_loopw [7,24] (fun v i wr=>qvX w p (qC (bs.take k)) l v i wr) (fun _ i _=>l.length-(intOf i).toNat);case atStart=>exact⟨0,Nat.zero_le _,rfl,by simpa[jo]using HG.out⟩
   case round =>
    obtain⟨j,hj,rfl,vs,hown,hsv,hk5,hB⟩:=hrel;have HO:=QH hown;have HS:=QH hsv;have HK:=QH hk5;have HB:=QH hB;clear hown hsv hk5 hB;have hvl:vs.length≤100000:=by
     have h1:=HS.out.1;have h2:=fX (bs.take k) (fun m hm=>rQ.out m (List.mem_of_mem_take hm));have h3:(bs.take k).length≤10:=by simp;omega
     have h4:(jo (l.take j)).length≤1000:=by rw[qpA];simp;omega
     rw[List.length_append]at h1;omega
    by_cases hjl:j<l.length
    ·obtain⟨bb,oo,rfl,hbb,q0,q1,qb⟩:=HW.out j hjl;have ou:=qgQ l j hjl;generalize l[j]=x at *;have e0:wr.cell? ⟨bb,oo+j*2,none⟩=some (.int .i64 x.1):=by rw[HB.out.cell (p:=⟨bb,oo+j*2,none⟩) hbb];exact q0
     have e1:wr.cell? ⟨bb,oo+j*2+1,none⟩=some (.string (str x.2)):=by rw[HB.out.cell (p:=⟨bb,oo+j*2+1,none⟩) hbb];exact q1
     have q07:bb<wr.heap.size:=Nat.lt_of_lt_of_le hbb HB.out.size;have qr7:(j:Int)<(l.length:Int):=by omega
     have HWS:=QH ou;have hB1:Below w.heap.size w (wr.alloc (.cells #[.int .i64 x.1,.string (str x.2)] 105)):=HB.out.alloc HB.out.size _;have hB2:Below w.heap.size w ((wr.alloc (.cells #[.int .i64 x.1,.string (str x.2)] 105)).alloc (.cells #[gK w.heap.size wr.heap.size] 263)):=hB1.alloc hB1.size _;have hown2:=(HO.out.alloc (.cells #[.int .i64 x.1,.string (str x.2)] 105)).alloc (.cells #[gK w.heap.size wr.heap.size] 263);have hnews:=bU (wr.alloc (.cells #[.int .i64 x.1,.string (str x.2)] 105)) 263 (gK w.heap.size wr.heap.size);have qbp:(wr.alloc (.cells #[.int .i64 x.1,.string (str x.2)] 105)).heap.size=wr.heap.size+1:=by simp
     rw[qbp]at hnews;have wk:=QH hown2;have eJ:=QH hnews;have qG:=QH hB2;have hkp:jN wr ((wr.alloc (.cells #[.int .i64 x.1,.string (str x.2)] 105)).alloc (.cells #[gK w.heap.size wr.heap.size] 263)):=jN.below ((zD (Below.refl _ wr) _).alloc (by simp) _);have hgi:qh ((wr.alloc (.cells #[.int .i64 x.1,.string (str x.2)] 105)).alloc (.cells #[gK w.heap.size wr.heap.size] 263)) wr.heap.size 105 #[.int .i64 x.1,.string (str x.2)]:=(qh.new wr _ _).of_block (Below.heap_alloc _ _ _ (by simp));have HKP:=QH hkp;have HGI:=QH hgi;clear q0 q1 qb ou hB1 hB2 hown2 hnews qbp hkp hgi;go_wp2_with (at_builtin;refine wpList_append_own _ rfl (.tmp 28) (.tmp 30) 195 rfl w.heap.size 263 i0 .nilFunc 1 8 underlying195 hi hz0 hz1 hz2 rfl (by decide) _ vs.length _ rfl wk.out ⟨wr.heap.size+1,0,none⟩ 1 1 [gK w.heap.size wr.heap.size] rfl rfl eJ.out (qeX _ _ _) ?_ ?_ qG.out.size ?_)
     ·unfold maxLen;omega
     ·omega
     ·intro v' w1 hown1 hgrow _;have qgR:=HKP.out.trans (jN.grown wk.out hgrow);have hb1:=qG.out.grown hgrow qG.out.size (fun j hj=>(wk.out.lt j hj).1);have qvY:fW w1 w.heap.size p (.w x.1 x.2) (gK w.heap.size wr.heap.size):=⟨_,_,rfl,Nat.le_refl _,HB.out.size,qgR _ _ _ (by decide) HK.out,jN.grown wk.out hgrow _ _ _ (by decide) HGI.out⟩;have hgm:=oy.more HS.out HK.out qgR qvY hown1 hb1;have HGM:=QH hgm;clear qgR hb1 qvY hgm hown1 hgrow;go_wp2_with fail;go_roundw;case rel=>exact⟨j+1,by omega,by go_num,by rw[HWS.out,← List.append_assoc];exact HGM.out⟩
      case measure=>simp[intOf];omega
    ·obtain rfl:j=l.length:=by omega
     have hB2:Below w.heap.size w (wr.alloc (.cells #[vS p] 263)):=HB.out.alloc HB.out.size _;have hown2:=HO.out.alloc (.cells #[vS p] 263);have hnews:=bU wr 263 (vS p);have wk:=QH hown2;have eJ:=QH hnews;have qG:=QH hB2;have HKP:=QH (jN.below (zD (Below.refl _ wr) (.cells #[vS p] 263)));clear hB2 hown2 hnews;go_wp2_with (at_builtin;refine wpList_append_own _ rfl (.tmp 33) (.tmp 35) 195 rfl w.heap.size 263 i0 .nilFunc 1 8 underlying195 hi hz0 hz1 hz2 rfl (by decide) _ vs.length _ rfl wk.out ⟨wr.heap.size,0,none⟩ 1 1 [vS p] rfl rfl eJ.out (qeX _ _ _) ?_ ?_ qG.out.size ?_)
     ·unfold maxLen;omega
     ·omega
     ·intro v' w1 hown1 hgrow _;have qgR:=HKP.out.trans (jN.grown wk.out hgrow);have hb1:=qG.out.grown hgrow qG.out.size (fun j hj=>(wk.out.lt j hj).1);have hgm:=oy.more (s:=.f) HS.out HK.out qgR rfl hown1 hb1;have HGM:=QH hgm;clear qgR hb1 hgm hown1 hgrow;go_wp2_with fail;go_roundw;case rel=>exact⟨k+1,by omega,by go_num,by rw[HST.out];have:=HGM.out;rw[List.take_length,List.append_assoc]at this;exact this⟩
      case measure=>simp[intOf];omega
  ·obtain rfl:k=bs.length:=by omega
   go_wp2_with fail;go_ret;have:=HG.out;rw[List.take_length]at this;exact⟨_,rfl,this⟩
def qeY (w:World)(B p:Nat)(a:Option Addr)(ss:List Step):Prop :=
 ∀(j:Nat) (s:Step),ss[j]?=some s→∃b v,a=some ⟨b,0,none⟩∧B≤b∧b<w.heap.size∧w.cell? ⟨b,j,none⟩=some v∧fW w B p s v
theorem oy.view{w wr:World}{p:Nat}{ss:List Step}{v:Value}(h:oy w p ss v wr):∃a c,v=.slice a ss.length c∧qeY wr w.heap.size p a ss:=by
 obtain⟨vs,ho,hs,_,_⟩:=h;rcases ho.2 with⟨rfl,h0⟩|⟨g,cap,cur,rfl,hg,hh,hcc,hm,hcs,yb⟩
 ·have hn:ss=[]:=List.length_eq_zero_iff.1 (by rw[hs.1];exact h0);subst hn;exact⟨none,0,rfl,fun j s h=>by simp at h⟩
 ·refine⟨some ⟨g,0,none⟩,cap,by rw[hs.1],fun j s hj=>?_⟩;have hjl:j<ss.length:=(List.getElem?_eq_some_iff.1 hj).1;have hjv:j<vs.length:=by rw[← hs.1];exact hjl
  have hv:vs[j]?=some vs[j]:=List.getElem?_eq_getElem hjv;refine⟨g,vs[j],rfl,hg,(Array.getElem?_eq_some_iff.1 hh).1,?_,hs.2 j s _ hj hv⟩;have:=cell_of_row wr g j cur 263 (0,0) hh;rw[this];have h2:cur.toList[j]?=some vs[j]:=by
   have h3:(cur.toList.take (vs.length*1))[j]?=some vs[j]:=by rw[yb];exact hv
   rw[List.getElem?_take]at h3;split at h3
   ·exact h3
   ·cases h3
  simpa using h2
section
variable {most:Nat} {w:World} {G:Nat→Prop} {p:Nat} {d:DD}
theorem qks(hI:InG most w G p d)(hG:∀k,w.heap.size≤k→G k)(hm:d.more.length<most)(yT:most≤100000)(k:Int)(x:Bt)(gw gi:Nat)(hw:qh w gw 46 #[aH p])(hi:qh w gi 105 #[.int .i64 k,.string (str x)]) :
    Calls prog 196 #[.pointer (some ⟨gw,0,none⟩),.pointer (some ⟨gi,0,none⟩)] w (mH most G p (d.write k x).2 (.int .i64 (d.write k x).1) w):=by
 have e0:=hw.cell 0;have l0:=hw.lt;have e1:=hi.cell 0;have e2:=hi.cell 1;have l1:=hi.lt;have HI:=QH hI;unfold aH at e0;clear hw hi hI;go_enter func196,ntmps196;go_wp2_with fail;refine(qnC HI.out hG hm yT k (str x) x (zn x) _ _ rfl rfl).mono ?_;rintro e W1 ⟨rfl,i1,b1⟩;have H1:Hid (InG most W1 G p (d.write k x).2∧qB G w W1):=⟨i1,b1⟩;clear i1 b1;go_wp2_with fail;go_ret;exact⟨rfl,H1.out⟩
theorem qd6(d:DD)(s:Step):(jt d s).2.more.length≤d.more.length+1:=by
 cases s with
 | w k v=>exact qcZ d k v
 | f =>
  have ho:=(xH d).2.1;unfold jt DD.flush;dsimp only;split
  ·simp
  ·split <;> simp[ho]
def qr8 (most:Nat)(w:World)(G:Nat→Prop)(p:Nat)(ss:List Step)(d:DD)(i:Value)(wr:World):Prop :=
 ∃(k:Nat) (e:DD),k≤ss.length∧i=.int .i64 (k:Int)∧InG most wr G p e∧qB G w wr∧gq ss d=gq (ss.drop k) e∧e.more.length≤d.more.length+k
theorem qnG(B:Nat)(ss:List Step)(a:Option Addr)(c:Nat)(hI:InG most w G p d)(hG:∀k,w.heap.size≤k→G k)(qvZ:∀k,B≤k→k<w.heap.size→¬ G k)(hs:qeY w B p a ss)(hm:d.more.length+ss.length≤most)(yT:most≤100000) :
    Calls prog 120 #[.slice a ss.length c] w (mH most G p (gq ss d).2 (.int .i64 (gq ss d).1) w):=by
 have HS:=QH hs;have HI:=QH hI;have HG:=QH hG;have HD:=QH qvZ;clear hs hI hG qvZ;go_enter func120,ntmps120;go_wp2_with fail;go_loopw [8] (fun i wr=>qr8 most w G p ss d i wr) (fun i _=>ss.length-(intOf i).toNat);case atStart=>exact⟨0,d,Nat.zero_le _,rfl,HI.out,qB.refl _ _,by rw[List.drop_zero],Nat.le_refl _⟩
 case round =>
  obtain⟨k,e,hk,rfl,hi,hb,hrun,hml⟩:=hrel;have H1:=QH hi;have HB:=QH hb;have HR:=QH hrun;have hG1:∀k,wr.heap.size≤k→G k:=fun j hj=>HG.out j (Nat.le_trans hb.size hj);have HG1:=QH hG1;clear hi hb hrun hG1;by_cases hlt:k<ss.length
  ·have hsk:ss[k]?=some ss[k]:=List.getElem?_eq_getElem hlt;obtain⟨b,v,rfl,hBb,hbl,hcell,hv⟩:=HS.out k ss[k] hsk;have qpC:ss.drop k=ss[k]::ss.drop (k+1):=List.drop_eq_getElem_cons hlt;have hsm:=qd6 e ss[k];rw[qpC]at HR;generalize ss[k]=s at *;have hc1:wr.cell? ⟨b,k,none⟩=some v:=by
    rw[World.cell?_of_block (a:=⟨b,k,none⟩) (HB.out.block b hbl (HD.out b hBb hbl))];exact hcell
   have zam:b<wr.heap.size:=Nat.lt_of_lt_of_le hbl HB.out.size;have qbn:(k:Int)<(ss.length:Int):=by omega
   have qbq:(∃gw gi,v=gK gw gi∧Calls prog 196 #[.pointer (some ⟨gw,0,none⟩),.pointer (some ⟨gi,0,none⟩)] wr (mH most G p (jt e s).2 (.int .i64 (jt e s).1) wr)) ∨
       (v=vS p∧Calls prog 195 #[.pointer (some ⟨p,0,none⟩)] wr (mH most G p (jt e s).2 (.int .i64 (jt e s).1) wr)):=by
    cases s with
    | f=>exact .inr ⟨hv,qnD H1.out HG1.out _ _ rfl rfl⟩
    | w kk x =>
     obtain⟨gw,gi,h1,h2,h3,h4,h5⟩:=hv;exact .inl ⟨gw,gi,h1,qks H1.out HG1.out (by omega) yT kk x gw gi (h4.of_block (HB.out.block gw h4.lt (HD.out gw h2 h4.lt))) (h5.of_block (HB.out.block gi h5.lt (HD.out gi h3 h5.lt)))⟩
   have fD:gq (s::ss.drop (k+1)) e=if (jt e s).1=0 then gq (ss.drop (k+1)) (jt e s).2 else jt e s:=rfl
   rw[fD]at HR;have HC:=QH qbq;clear qbq fD hv hcell hsk qpC;obtain⟨r,hr⟩:=QE ((jt e s).1);obtain⟨e2,he2⟩:=QE ((jt e s).2);rw[hr,he2]at HC HR;rw[he2]at hsm;have hse:jt e s=(r,e2):=by rw[← hr,← he2]
   rw[hse]at HR;clear hr he2 hse;by_cases h0:r=0
   ·subst h0;rw[if_pos rfl]at HR;rcases HC.out with⟨gw,gi,rfl,hcc⟩|⟨rfl,hcc⟩;all_goals
     have HCC:=QH hcc;clear hcc HC;simp only[gK,vS]at hc1;go_wp2_with fail;refine HCC.out.mono ?_;rintro x W2 ⟨rfl,i2,b2⟩;have H2:=QH i2;have qG:=QH (HB.out.trans b2 (fun i hi=>.inl hi));clear i2 b2;go_wp2_with fail;go_roundw;case rel=>exact⟨k+1,e2,by omega,by go_num,H2.out,qG.out,HR.out,by omega⟩
     case measure=>simp[intOf];omega
   ·have hne:((r:Int) != 0)=true:=by simpa using h0
    rw[if_neg h0]at HR;rcases HC.out with⟨gw,gi,rfl,hcc⟩|⟨rfl,hcc⟩;all_goals
     have HCC:=QH hcc;clear hcc HC;simp only[gK,vS]at hc1;go_wp2_with fail;refine HCC.out.mono ?_;rintro x W2 ⟨rfl,i2,b2⟩;have H2:=QH i2;have qG:=QH (HB.out.trans b2 (fun i hi=>.inl hi));clear i2 b2;go_wp2_with fail;go_ret;rw[HR.out];exact⟨rfl,H2.out,qG.out⟩
  ·obtain rfl:k=ss.length:=by omega
   go_wp2_with fail;go_ret;rw[HR.out,List.drop_length];exact⟨rfl,H1.out,HB.out⟩
end
end Go.Proofs.YtdpbdkacngaemaaGreatDoor.jr
namespace Go.Proofs.YtdpbdkacngaemaaGreatDoor.jr
open _root_.Go.Proofs.Tryz Go Go.RowKit dk wi
theorem vE:(prog.info? 3).map (fun i=>(i.zero,i.size,i.bytes))=some (some (.int .i64 0),1,8):=by kernel_rfl
theorem qkt:(prog.info? 105).map (fun i=>(i.zero,i.size,i.bytes))=some (some (.agg #[.int .i64 0,.string ByteArray.empty]),2,24):=by kernel_rfl
section
variable {most:Nat} {w W1:World} {own:Nat→Prop} {p:Nat} {d:DD} {ss:List Step} {v:Value}
theorem eM (h:zH most w own p d)(hg:oy w p ss v W1)(hm:d.more.length+ss.length≤most)(yT:most≤100000) :
    Calls prog 120 #[v] W1 (xp most own p (gq ss d).2 (.int .i64 (gq ss d).1) w):=by
 obtain⟨A,c,rfl,hst⟩:=hg.view;obtain⟨_,_,_,_,hB⟩:=hg;have hI:InG most W1 (fun k=>own k∨W1.heap.size≤k) p d:=⟨own,h.below hB,fun k hk=>.inl hk⟩;refine(qnG w.heap.size ss A c hI (fun k hk=>.inr hk) (fun k h1 h2 h3=>?_) hst hm yT).mono ?_
 ·rcases h3 with h3|h3
  ·have:=h.low k h3;omega
  ·omega
 ·rintro e W2 ⟨rfl,⟨dK,h1,h2⟩,h3⟩;refine⟨rfl,dK,h1,?_,fun k hk=>?_⟩
  ·refine⟨h3.os.trans hB.os,h3.tape.trans hB.tape,h3.output.trans hB.output,Nat.le_trans hB.size h3.size,fun k hk hn=>?_⟩;rw[h3.block k (Nat.lt_of_lt_of_le hk hB.size) (fun g=>?_),hB.block k hk];rcases g with g|g
   ·exact hn g
   ·have:=hB.size;omega
  ·rcases h2 k hk with g|g
   ·exact .inl g
   ·exact .inr (Nat.le_trans hB.size g)
theorem xp.from{w0 w:World}{r:Value}{e:Ending}{w':World}(h:xp most own p d r w e w')(hb:Below w0.heap.size w0 w)(xm:∀k,own k→k<w0.heap.size):xp most own p d r w0 e w':=by
 obtain⟨rfl,dK,h1,h2,h3⟩:=h;refine⟨rfl,dK,h1,⟨h2.os.trans hb.os,h2.tape.trans hb.tape,h2.output.trans hb.output,Nat.le_trans hb.size h2.size,fun k hk hn=>?_⟩,fun k hk=>?_⟩
 ·rw[h2.block k (Nat.lt_of_lt_of_le hk hb.size) hn,hb.block k hk]
 ·rcases h3 k hk with g|g
  ·exact .inl g
  ·exact .inr (Nat.le_trans hb.size g)
end
def qV (w:World)(B:Nat)(v:Value)(zs:List Int):Prop:=w.ownsRow B 3 1 v zs.length (zs.map (Value.int .i64))
def qku (w:World)(bs:List (List Wr))(v i:Value)(wr:World):Prop :=
 ∃k:Nat,k≤bs.length∧i=.int .i64 (k:Int)∧qV wr w.heap.size v (placesOf (bs.take k))∧Below w.heap.size w wr
def qr9 (w:World)(pre:List Int)(l:List Wr)(v i:Value)(wr:World):Prop :=
 ∃k:Nat,k≤l.length∧i=.int .i64 (k:Int)∧qV wr w.heap.size v (pre++(l.take k).map (·.1))∧Below w.heap.size w wr
theorem oz (bs:List (List Wr))(k:Nat)(h:k<bs.length):placesOf (bs.take (k+1))=placesOf (bs.take k)++bs[k].map (·.1):=by
 unfold placesOf;rw[List.take_succ_eq_append_getElem h,List.flatten_append,List.map_append];simp
theorem vT:∀(bs:List (List Wr)),(∀l∈bs,l.length≤1000)→(placesOf bs).length≤1000*bs.length
 | [],_=>by simp[placesOf]
 | l::r,h=>by
  have h1:=h l (by simp);have h2:=vT r (fun m hm=>h m (by simp[hm]));simp only[placesOf,List.flatten_cons,List.map_append,List.length_append,List.length_map,List.length_cons]at h2 ⊢;omega
theorem qnH(z:Int):∀u∈([Value.int .i64 z]:List Value),u.oneCell'=true:=by
 intro u hu;simp at hu;subst hu;rfl
def ya (zs:List Int)(w:World)(e:Ending)(w':World):Prop:=∃v,e=.returned v∧qV w' w.heap.size v zs∧Below w.heap.size w w'
theorem qV.view{w:World}{B:Nat}{v:Value}{zs:List Int}(h:qV w B v zs)(hz:∀z∈zs,qA z):∃a c,v=.slice a zs.length c∧qH w a zs:=by
 rcases h.2 with⟨rfl,h0⟩|⟨g,cap,cur,rfl,hg,hh,hcc,hm,hcs,yb⟩
 ·obtain rfl:zs=[]:=List.length_eq_zero_iff.1 h0;exact⟨none,0,rfl,fun i h=>by simp at h⟩
 ·refine⟨some ⟨g,0,none⟩,cap,rfl,fun i hi=>⟨g,0,rfl,(Array.getElem?_eq_some_iff.1 hh).1,?_,(hz _ (List.getElem_mem hi)).1,(hz _ (List.getElem_mem hi)).2⟩⟩;rw[Nat.zero_add,cell_of_row w g i cur 3 (0,0) hh];have h3:(cur.toList.take (zs.length*1))[i]?=some (.int .i64 zs[i]):=by rw[yb];simp[hi]
  rw[List.getElem?_take]at h3;split at h3
  ·simpa using h3
  ·cases h3
theorem kJ (a:Option Addr)(c:Nat)(bs:List (List Wr))(w:World)(hT:qbo w a bs)(hl:bs.length≤10)(hl2:∀l∈bs,l.length≤1000) :
    Calls prog 183 #[.slice a bs.length c] w (ya (placesOf bs) w):=by
 obtain⟨i0,hi,hz0,hz1,hz2⟩:=info_parts vE;have HT:=QH hT;have rQ:=QH hl2;clear hT hl2;go_enter func183,ntmps183;go_wp2_with fail;go_loopw [3,10] (fun v i wr=>qku w bs v i wr) (fun _ i _=>bs.length-(intOf i).toNat);case atStart=>exact⟨0,Nat.zero_le _,rfl,World.ownsRow_nil _ _ _ _,Below.refl _ _⟩
 case round =>
  obtain⟨k,hk,rfl,ho0,hB0⟩:=hrel;have HO0:=QH ho0;have jT:=QH hB0;clear ho0 hB0;by_cases hlt:k<bs.length
  ·obtain⟨b,o,A,cc,rfl,hb,hc,hW⟩:=HT.out k hlt;have hst:=oz bs k hlt;have hlen:=rQ.out bs[k] (List.getElem_mem hlt);generalize bs[k]=l at *;have hc2:wr.cell? ⟨b,o+k,none⟩=some (.slice A l.length cc):=by rw[jT.out.cell (p:=⟨b,o+k,none⟩) hb];exact hc
   have hb2:b<wr.heap.size:=Nat.lt_of_lt_of_le hb jT.out.size;have qbn:(k:Int)<(bs.length:Int):=by omega
   have HW:=QH hW;have HST:=QH hst;clear hc hW hst;go_wp2_with fail;obtain⟨wo,rfl⟩:∃wo:World,wo=wr:=⟨_,rfl⟩;go_loopw [3,16] (fun v i wr=>qr9 w (placesOf (bs.take k)) l v i wr) (fun _ i _=>l.length-(intOf i).toNat);case atStart=>exact⟨0,Nat.zero_le _,rfl,by simpa using HO0.out,jT.out⟩
   case round =>
    obtain⟨j,hj,rfl,hown,hB⟩:=hrel;have HO:=QH hown;have HB:=QH hB;clear hown hB;have hvl:(placesOf (bs.take k)++(l.take j).map (·.1)).length≤100000:=by
     have h2:=vT (bs.take k) (fun m hm=>rQ.out m (List.mem_of_mem_take hm));have h3:(bs.take k).length≤10:=by simp;omega
     rw[List.length_append,List.length_map,List.length_take];omega
    by_cases hjl:j<l.length
    ·obtain⟨bb,oo,rfl,hbb,q0,q1,qb⟩:=HW.out j hjl;have ou:(l.take (j+1)).map (·.1)=(l.take j).map (·.1)++[l[j].1]:=by rw[List.take_succ_eq_append_getElem hjl,List.map_append];rfl
     generalize l[j]=x at *;have e0:wr.cell? ⟨bb,oo+j*2,none⟩=some (.int .i64 x.1):=by rw[HB.out.cell (p:=⟨bb,oo+j*2,none⟩) hbb];exact q0
     have e1:wr.cell? ⟨bb,oo+j*2+1,none⟩=some (.string (str x.2)):=by rw[HB.out.cell (p:=⟨bb,oo+j*2+1,none⟩) hbb];exact q1
     have q07:bb<wr.heap.size:=Nat.lt_of_lt_of_le hbb HB.out.size;have qr7:(j:Int)<(l.length:Int):=by omega
     have HWS:=QH ou;have hB1:Below w.heap.size w (wr.alloc (.cells #[.int .i64 x.1,.string (str x.2)] 105)):=HB.out.alloc HB.out.size _;have hB2:Below w.heap.size w ((wr.alloc (.cells #[.int .i64 x.1,.string (str x.2)] 105)).alloc (.cells #[.int .i64 x.1] 3)):=hB1.alloc hB1.size _;have hown2:=(HO.out.alloc (.cells #[.int .i64 x.1,.string (str x.2)] 105)).alloc (.cells #[.int .i64 x.1] 3);have hnews:=bU (wr.alloc (.cells #[.int .i64 x.1,.string (str x.2)] 105)) 3 (.int .i64 x.1);have qbp:(wr.alloc (.cells #[.int .i64 x.1,.string (str x.2)] 105)).heap.size=wr.heap.size+1:=by simp
     rw[qbp]at hnews;have wk:=QH hown2;have eJ:=QH hnews;have qG:=QH hB2;clear q0 q1 qb ou hB1 hB2 hown2 hnews qbp;generalize hpl:placesOf (bs.take k)++(l.take j).map (·.1)=zs at *;go_wp2_with (at_builtin;refine wpList_append_own _ rfl (.tmp 20) (.tmp 23) 80 rfl w.heap.size 3 i0 (.int .i64 0) 1 8 underlying80 hi hz0 hz1 hz2 rfl (by decide) _ zs.length _ rfl wk.out ⟨wr.heap.size+1,0,none⟩ 1 1 [.int .i64 x.1] rfl rfl eJ.out (qnH _) ?_ ?_ qG.out.size ?_)
     ·unfold maxLen;omega
     ·omega
     ·intro v' w1 hown1 hgrow _;have hb1:=qG.out.grown hgrow qG.out.size (fun j hj=>(wk.out.lt j hj).1);have ho1:qV w1 w.heap.size v' (zs++[x.1]):=by unfold qV;rw[List.length_append,List.map_append];exact hown1
      have HO1:=QH ho1;have qU:=QH hb1;clear hb1 ho1 hown1 hgrow;go_wp2_with fail;go_roundw;case rel=>exact⟨j+1,by omega,by go_num,by rw[HWS.out,← List.append_assoc,hpl];exact HO1.out,qU.out⟩
      case measure=>simp[intOf];omega
    ·obtain rfl:j=l.length:=by omega
     go_wp2_with fail;go_roundw;case rel=>exact⟨k+1,by omega,by go_num,by rw[HST.out];have:=HO.out;rw[List.take_length]at this;exact this,HB.out⟩
     case measure=>simp[intOf];omega
  ·obtain rfl:k=bs.length:=by omega
   go_wp2_with fail;go_ret;have:=HO0.out;rw[List.take_length]at this;exact⟨_,rfl,this,jT.out⟩
end Go.Proofs.YtdpbdkacngaemaaGreatDoor.jr
namespace Go.Proofs.YtdpbdkacngaemaaGreatDoor.jr
open _root_.Go.Proofs.Tryz Go Go.RowKit dk wi
def zI:List Wr→List Value
 | []=>[]
 | x::r=>.int .i64 x.1 :: .string (str x.2)::zI r
def fY (w:World)(B:Nat)(v:Value)(l:List Wr):Prop:=w.ownsRow B 105 2 v l.length (zI l)
theorem uI:∀(l r:List Wr),zI (l++r)=zI l++zI r
 | [],_=>rfl
 | x::l,r=>by simp[zI,uI l r]
theorem yZ:∀l:List Wr,(zI l).length=l.length*2
 | []=>rfl
 | x::l=>by simp[zI,yZ l];omega
theorem kW:∀(l:List Wr) (i:Nat) (h:i<l.length),(zI l)[i*2]?=some (.int .i64 l[i].1)∧(zI l)[i*2+1]?=some (.string (str l[i].2))
 | x::l,0,_=>⟨rfl,rfl⟩
 | x::l,i+1,h=>by
  have:=kW l i (by simpa using h);rw[show(i+1)*2=i*2+1+1 from by omega];exact this
theorem fY.view{w:World}{B:Nat}{v:Value}{l:List Wr}(h:fY w B v l)(hz:∀x∈l,qA x.1):∃a c,v=.slice a l.length c∧kV w a l:=by
 rcases h.2 with⟨rfl,h0⟩|⟨g,cap,cur,rfl,hg,hh,hcc,hm,hcs,yb⟩
 ·obtain rfl:l=[]:=List.length_eq_zero_iff.1 h0;exact⟨none,0,rfl,fun i h=>by simp at h⟩
 ·refine⟨some ⟨g,0,none⟩,cap,rfl,fun i hi=>?_⟩;have key:∀(j:Nat) (u:Value),(zI l)[j]?=some u→w.cell? ⟨g,j,none⟩=some u:=by
   intro j u hu;rw[cell_of_row w g j cur 105 (0,0) hh];rw[← yb,List.getElem?_take]at hu;split at hu
   ·simpa using hu
   ·cases hu
  obtain⟨g0,g1⟩:=kW l i hi;exact⟨g,0,rfl,(Array.getElem?_eq_some_iff.1 hh).1,by rw[Nat.zero_add];exact key _ _ g0,by rw[Nat.zero_add];exact key _ _ g1,hz _ (List.getElem_mem hi)⟩
theorem sW (x:Wr):∀u∈([Value.int .i64 x.1,.string (str x.2)]:List Value),u.oneCell'=true:=by
 intro u hu;simp at hu;rcases hu with rfl|rfl <;> rfl
theorem qkv(w:World)(t:TypeId)(v u:Value):∀(j:Nat) (x:Value),([v,u]:List Value)[j]?=some x→(w.alloc (.cells #[v,u] t)).cell? ((⟨w.heap.size,0,none⟩:Addr).add j)=some x:=by
 intro j x hj
 match j,hj with
 | 0,hj =>
  simp at hj;subst hj;rw[addr_add];exact(qh.new w t #[v,u]).cell 0
 | 1,hj =>
  simp at hj;subst hj;rw[addr_add];exact(qh.new w t #[v,u]).cell 1
theorem fY.snoc{w1:World}{B:Nat}{v':Value}{l:List Wr}{x:Wr}(h:w1.ownsRow B 105 2 v' (l.length+1) (zI l++[.int .i64 x.1,.string (str x.2)])):fY w1 B v' (l++[x]):=by
 unfold fY;rw[List.length_append,uI];exact h
theorem qkw{w:World}{B C:Nat}{v:Value}{l:List Wr}(h:fY w B v l)(hc:C≤B):fY w C v l:=by
 refine⟨h.1,?_⟩;rcases h.2 with hn|⟨g,cap,cur,hv,hb,rest⟩
 ·exact .inl hn
 ·exact .inr ⟨g,cap,cur,hv,Nat.le_trans hc hb,rest⟩
def q0A (l:List Wr)(w:World)(e:Ending)(w':World):Prop:=∃v,e=.returned v∧fY w' w.heap.size v l∧Below w.heap.size w w'
def qrA (w:World)(o:Nat)(ss:List Bt)(v i:Value)(wr:World):Prop :=
 ∃k:Nat,k≤ss.length∧i=.int .i64 (k:Int)∧fY wr w.heap.size v (zf o (ss.take k))∧Below w.heap.size w wr
theorem kh (a cnt:Nat)(ha:a<2)(A:Option Addr)(cc:Nat)(ss:List Bt)(w:World)(hT:yM w A ss)(hl:ss.length≤1000) :
    Calls prog 181 #[.agg #[.int .i64 (a:Int),.int .i64 (cnt:Int)],.slice A ss.length cc] w (q0A (lay a ss) w):=by
 obtain⟨i0,hi,hz0,hz1,hz2⟩:=info_parts qkt;have HT:=QH hT;have qgS:=fun(W:World)=>pP a cnt ha W;unfold lay;have qwb:1+a*72≤73:=by omega
 obtain⟨o1,ho1⟩:=QE (1+a*72);rw[ho1]at qwb;simp only[ho1]at qgS;rw[ho1];have HF:=QH qgS;clear ho1 qgS;have kb:qh (w.alloc (.cells #[.int .i64 (a:Int),.int .i64 (cnt:Int)] 188)) w.heap.size _ _:=qh.new w _ _;clear hT;have k0:=kb.lt;have hb0:Below w.heap.size w (w.alloc (.cells #[.int .i64 (a:Int),.int .i64 (cnt:Int)] 188)):=(Below.refl w.heap.size w).alloc (Nat.le_refl _) _;go_enter func181,ntmps181;go_wp2_with fail;obtain⟨w0,hw0⟩:=QE (w.alloc (.cells #[.int .i64 (a:Int),.int .i64 (cnt:Int)] 188));rw[hw0]at kb k0 hb0;rw[hw0];clear hw0;have KB:=QH kb;have jT:=QH hb0;clear kb hb0;go_loopw [5,10] (fun v i wr=>qrA w0 o1 ss v i wr) (fun _ i _=>ss.length-(intOf i).toNat);case atStart=>exact⟨0,Nat.zero_le _,rfl,World.ownsRow_nil _ _ _ _,Below.refl _ _⟩
 case round =>
  obtain⟨k,hk,rfl,ho,hB⟩:=hrel;have HO:=QH ho;have HB:=QH hB;clear ho hB;by_cases hlt:k<ss.length
  ·obtain⟨b,o,rfl,hb,hc⟩:=HT.out k hlt;have hsn:zf o1 (ss.take (k+1))=zf o1 (ss.take k)++[(((o1+k:Nat):Int),ss[k])]:=by
    rw[List.take_succ_eq_append_getElem hlt,ay];simp only[List.length_take];rw[Nat.min_eq_left (by omega)]
   have fy:(zf o1 (ss.take k)).length=k:=by rw[qX];simp;omega
   generalize ss[k]=x at *;have yX:=QH (jT.out.trans (HB.out.mono jT.out.size));have e0:wr.cell? ⟨b,o+k,none⟩=some (.string (str x)):=by rw[yX.out.cell (p:=⟨b,o+k,none⟩) hb];exact hc
   have hb2:b<wr.heap.size:=Nat.lt_of_lt_of_le hb yX.out.size;have hB2:=KB.out.of_block (HB.out.block _ k0);have q0:=hB2.cell 0;have q1:=hB2.cell 1;have lt2:=hB2.lt;have qbn:(k:Int)<(ss.length:Int):=by omega
   have uh:=QH hsn;have dH:=QH fy;clear hc hB2 hsn;go_wp2_with fail;refine(HF.out _).mono ?_;rintro e W1 ⟨rfl,b1⟩;have ho1:W1.ownsRow w0.heap.size 105 2 _ _ _:=xT HO.out (fun j hj=>b1.block j (et HO.out j hj));have qU:=QH (HB.out.trans (b1.mono HB.out.size));have hown2:=ho1.alloc (.cells #[.int .i64 ((o1:Int)+(k:Int)),.string (str x)] 105);have hnews:=qkv W1 105 (.int .i64 ((o1:Int)+(k:Int))) (.string (str x));have wk:=QH hown2;have eJ:=QH hnews;have qG:=QH (qU.out.alloc qU.out.size (.cells #[.int .i64 ((o1:Int)+(k:Int)),.string (str x)] 105));clear b1 ho1 hown2 hnews q0 q1;have hkb:k≤100000:=by omega
   go_wp2_with (at_builtin;refine wpList_append_own _ rfl (.tmp 15) (.tmp 22) 89 rfl w0.heap.size 105 i0 (.agg #[.int .i64 0,.string ByteArray.empty]) 2 24 underlying89 hi hz0 hz1 hz2 rfl (by decide) _ (zf o1 (ss.take k)).length _ rfl wk.out ⟨W1.heap.size,0,none⟩ 1 1 [.int .i64 ((o1:Int)+(k:Int)),.string (str x)] rfl rfl eJ.out (sW (((o1:Int)+(k:Int)),x)) ?_ ?_ qG.out.size ?_)
   ·rw[dH.out];unfold maxLen;omega
   ·rw[dH.out];omega
   ·intro v' w1 hown1 hgrow _;have hb1:=qG.out.grown hgrow qG.out.size (fun j hj=>(wk.out.lt j hj).1);have hos:=fY.snoc (w1:=w1) (B:=w0.heap.size) (v':=v') (l:=zf o1 (ss.take k)) (x:=((o1:Int)+(k:Int),x)) (by rw[dH.out];exact hown1);have HOS:=QH hos;have zG:=QH hb1;clear hb1 hos hown1 hgrow;go_wp2_with fail;go_roundw;case rel=>exact⟨k+1,by omega,by go_num,by rw[uh.out];exact HOS.out,zG.out⟩
    case measure=>simp[intOf];omega
  ·obtain rfl:k=ss.length:=by omega
   go_wp2_with fail;go_ret;have:=HO.out;rw[List.take_length]at this;refine⟨_,rfl,?_,jT.out.trans (HB.out.mono jT.out.size)⟩;exact qkw this jT.out.size
end Go.Proofs.YtdpbdkacngaemaaGreatDoor.jr
