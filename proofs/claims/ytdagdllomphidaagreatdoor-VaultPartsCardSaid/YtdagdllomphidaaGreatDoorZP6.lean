/- DkInG, WiText, FUnpack, WiPutT, JMem, JSteps, JRunW, JPlaces, JLay, VgWr, VgDel, VgShelf, WiEnd, JTake, JRec, JPoss, JHeadP. -/
import Derived.Test.YtdagdllomphidaaGreatDoorZP5
import Derived.Shelf.Strings.Trim
set_option linter.unusedVariables false
set_option linter.unusedSimpArgs false
set_option maxHeartbeats 30000000
set_option maxRecDepth 100000
namespace Go.Proofs.YtdagdllomphidaaGreatDoor.dk
open _root_.Go.Proofs.Tryz Go Go.RowKit
def InG (most:Nat)(w:World)(G:Nat→Prop)(p:Nat)(d:DD):Prop:=∃own,zG most w own p d∧∀k,own k→G k
def pW (most:Nat)(G:Nat→Prop)(p:Nat)(d:DD)(r:Value)(w:World)(e:Ending)(w':World):Prop:=e=.returned r∧InG most w' G p d∧qy G w w'
theorem InG.below{most:Nat}{w w':World}{G:Nat→Prop}{p:Nat}{d:DD}(h:InG most w G p d)(hb:Below w.heap.size w w'):InG most w' G p d:=by
 obtain⟨own,h1,h2⟩:=h;exact⟨own,h1.below hb,h2⟩
theorem InG.ok{most:Nat}{w:World}{G:Nat→Prop}{p:Nat}{d:DD}(h:InG most w G p d):d.ok most:=by
 obtain⟨own,h1,h2⟩:=h;exact h1.1
theorem qay{most:Nat}{w:World}{G:Nat→Prop}{p:Nat}{d:DD}{own:Nat→Prop}{r:Value}(hG:∀k,w.heap.size≤k→G k)(ho:∀k,own k→G k){e:Ending}{w':World}(h:xA most own p d r w e w'):pW most G p d r w e w':=by
 obtain⟨rfl,jT,h1,h2,h3⟩:=h;refine⟨rfl,⟨jT,h1,fun k hk=>?_⟩,h2.mono ho⟩;rcases h3 k hk with h|h
 ·exact ho k h
 ·exact hG k h
section
variable {most:Nat} {w:World} {p:Nat} {G:Nat→Prop} {d:DD}
theorem qrD(h:InG most w G p d)(hG:∀k,w.heap.size≤k→G k)(hm:d.more.length<most)(jh:most≤100000)(k:Int)(s:ByteArray)(v:Bt)(hs:bl s=v)(r:Int)(d':DD)(h1:(d.write k v).1=r)(h2:(d.write k v).2=d') :
    Calls prog 131 #[.pointer (some ⟨p,0,none⟩),.int .i64 k,.string s] w (pW most G p d' (.int .i64 r) w):=by
 obtain⟨own,hd,ho⟩:=h;subst hs h1 h2;exact(lC hd hm jh k s).mono fun _ _ h=>qay hG ho h
theorem qrE(h:InG most w G p d)(hG:∀k,w.heap.size≤k→G k)(r:Int)(d':DD)(h1:d.flush.1=r)(h2:d.flush.2=d') :
    Calls prog 132 #[.pointer (some ⟨p,0,none⟩)] w (pW most G p d' (.int .i64 r) w):=by
 obtain⟨own,hd,ho⟩:=h;subst h1 h2;exact(qka hd).mono fun _ _ h=>qay hG ho h
end
end Go.Proofs.YtdagdllomphidaaGreatDoor.dk
namespace Go.Proofs.YtdagdllomphidaaGreatDoor.wi
open _root_.Go.Proofs.Tryz Go.RowKit
def qvZ (b:Nat)(l:List UInt8)(x:Bool)(w:World)(e:Ending)(w':World):Prop :=
 w.grownBy w' (some b) ∧
  ((∃t r,jm l=some (t,r)∧e=.returned (.tuple #[.string (str t),.bool true])∧zo b r x w') ∨
   (jm l=none∧e=.returned (.tuple #[.string (str []),.bool false])∧∃m,zo b m x w'))
theorem qnO(b:Nat)(l:List UInt8)(x:Bool)(w:World)(h:zo b l x w) :
    Calls prog 210 #[.func (.func 205) #[.pointer (some ⟨b,0,none⟩)] #[]] w (qvZ b l x w):=by
 go_enter func210,ntmps210;go_wp2_with (go_at_call 175;refine(qh5 b l x _ h).mono ?_);rintro e w1 ⟨hg,⟨n,r,hn,rfl,hr⟩|⟨hn,rfl,m,hm⟩⟩
 ·have q5P:=(dH l n r hn).2;have Hn:=QH hn;have Hg:=QH hg;obtain⟨g,o,cap,hR⟩:=hr;by_cases hlt:r.length<n
  ·have hT:jm l=none:=by unfold jm;rw[Hn.out];simp[hlt]
   have HT:=QH hT;clear hT hg hn;go_wp2_with (go_at_call 205;refine(qaY b g o cap r x (n:Int) _ hR (by omega)).mono ?_;rintro e w' ⟨rfl,rfl⟩);go_ret2;exact⟨Hg.out,.inr ⟨HT.out,rfl,r,g,o,cap,hR⟩⟩
  ·have hT:jm l=some (r.take n,r.drop n):=by unfold jm;rw[Hn.out];simp[hlt]
   have HT:=QH hT;have dw:(r.take n).length=n:=by simp;omega
   have Hln:=QH dw;clear hT hg hn dw;go_wp2_with (go_at_call 205;refine(uB b g o cap r x (n:Int) _ hR (by omega) (by omega)).mono ?_);rintro e w2 ⟨rfl,h1,h2,h3⟩;rw[Int.toNat_natCast]at h1 h3;have hcv:=run_convert_bytes_back (P:=prog) w2 118 9 5 ⟨g,o,none⟩ n (r.take n) underlying118 underlying5 underlying9 (by
    intro j hj;rw[addr_add];exact h3.cell j hj)
   rw[Hln.out]at hcv;have qy9:(convert 118 9 (.slice (some ⟨g,o,none⟩) n n)).run prog w2=.ok (.string (str (r.take n))) w2:=hcv;have H1:=QH h1;have H2:=QH h2;clear h1 h2 h3 hcv;go_wp2;go_ret2;exact⟨xZ Hg.out H2.out,.inl ⟨_,_,HT.out,rfl,_,_,_,H1.out⟩⟩
 ·have hT:jm l=none:=by unfold jm;rw[hn]
  have HT:=QH hT;have Hg:=QH hg;clear hT hg hn;go_wp2;go_ret2;exact⟨Hg.out,.inr ⟨HT.out,rfl,m,hm⟩⟩
def fR (b:Nat)(l:List UInt8)(w:World)(e:Ending)(w':World):Prop :=
 w.grownBy w' (some b) ∧
  ((∃t r,jm l=some (t,r)∧e=.returned (.string (str t))∧zo b r false w') ∨
   (jm l=none∧e=.returned (.string (str []))∧∃m,zo b m true w'))
theorem qbF(b:Nat)(l:List UInt8)(w:World)(h:zo b l false w) :
    Calls prog 209 #[.pointer (some ⟨b,0,none⟩),.func (.func 210) #[] #[]] w (fR b l w):=by
 go_enter func209,ntmps209;go_wp2_with (go_at_call 204;refine(qfo b l _ h).mono ?_;rintro e w' ⟨rfl,rfl⟩);go_wp2_with (go_at_call 210;refine(qnO b l false _ h).mono ?_);rintro e w1 ⟨hg,⟨n,r,hn,rfl,hr⟩|⟨hn,rfl,m,hm⟩⟩
 ·have Hn:=QH hn;have Hg:=QH hg;obtain⟨hc,hf⟩:=hr.cell1;have Hr:=QH (hr.flag false);clear hn hg hr;go_wp2;go_ret;exact⟨xZ Hg.out (zo.aO _ _ _),.inl ⟨n,r,Hn.out,rfl,Hr.out⟩⟩
 ·have Hn:=QH hn;have Hg:=QH hg;obtain⟨hc,hf⟩:=hm.cell1;have Hr:=QH (hm.flag true);clear hn hg hm;go_wp2;go_ret;exact⟨xZ Hg.out (zo.aO _ _ _),.inr ⟨Hn.out,rfl,m,Hr.out⟩⟩
theorem qbG(b:Nat)(l:List UInt8)(w:World)(h:zo b l true w) :
    Calls prog 209 #[.pointer (some ⟨b,0,none⟩),.func (.func 210) #[] #[]] w fun e w'=>e=.returned (.string (str []))∧w=w':=by
 go_enter func209,ntmps209;go_wp2_with (go_at_call 204;refine(qmh b l _ h).mono ?_;rintro e w' ⟨rfl,rfl⟩);go_ret;exact⟨rfl,rfl⟩
theorem qg5(b:Nat)(l:List UInt8)(w:World)(h:zo b l false w):Calls prog 177 #[.pointer (some ⟨b,0,none⟩)] w (fR b l w):=by
 go_enter func177,ntmps177;go_wp2_with (go_at_call 209;refine(qbF b l _ h).mono ?_);rintro e w1 ⟨hg,⟨n,r,hn,rfl,hr⟩|⟨hn,rfl,hm⟩⟩
 ·have H:Hid (fR b l w (.returned (.string (str n))) w1):=⟨hg,.inl ⟨n,r,hn,rfl,hr⟩⟩;clear hg hn hr;go_wp2;go_ret;exact H.out
 ·have H:Hid (fR b l w (.returned (.string (str []))) w1):=⟨hg,.inr ⟨hn,rfl,hm⟩⟩;clear hg hn hm;go_wp2;go_ret;exact H.out
theorem qkc(b:Nat)(l:List UInt8)(w:World)(h:zo b l true w):Calls prog 177 #[.pointer (some ⟨b,0,none⟩)] w fun e w'=>e=.returned (.string (str []))∧w=w':=by
 go_enter func177,ntmps177;go_wp2_with (go_at_call 209;refine(qbG b l _ h).mono ?_;rintro e w' ⟨rfl,rfl⟩);go_ret;exact⟨rfl,rfl⟩
end Go.Proofs.YtdagdllomphidaaGreatDoor.wi
namespace Go.Proofs.YtdagdllomphidaaGreatDoor
open _root_.Go.Proofs.Tryz Go.RowKit
def qtN (s:ByteArray)(w:World)(e:Ending)(w':World):Prop :=
 e=.returned (.tuple #[.string s,.int .i64 0])∧Below w.heap.size w w'
def qwa (w:World)(e:Ending)(w':World):Prop :=
 e=.returned (.tuple #[.string ⟨#[]⟩,.int .i64 4])∧Below w.heap.size w w'
theorem mL (a:Option Addr)(c:Nat)(ps:List (List UInt8))(t:List UInt8)(w:World)(hp:yV w a ps)(hi:vR ps t)(ht:xK w) :
    Calls prog 90 #[.slice a ps.length c] w (qtN (str t) w):=by
 have HT:=QH ht;have hg:=ht.1;clear ht;have HP:=QH hp;have hpl:ps.length≤1000:=by rw[hi.2,yb];have:=hi.1;unfold nsec;omega
 have dr:ps.flatten=yI t:=by rw[hi.2,yO]
 have hwl:=je t;have hfs:ps.flatten.length≤100000:=by rw[dr,hwl];have:=hi.1;unfold nsec;omega
 have hput:=pU a c ps w hp (by omega) (by omega);have htl:=hi.1;have hsz:=qQ t;have hzl:=qQ ps.flatten;have hts:(str t).size≤8192:=by omega
 have qnQ:∀W,Calls prog 135 #[.string (str ps.flatten)] W fun e w'=>e=.returned (.tuple #[.string (str t),.bool true])∧Below W.heap.size W w':=by
  intro W;have:=pV (str ps.flatten) W (by omega);rw[zi,dr,qfX t (by omega)]at this;rw[dr];exact this
 have heq:qL t=ps:=hi.2.symm;have qdJ:=QH hput;have qbH:=QH qnQ;have Heq:=QH heq;have qwb:=QH (zi t);clear hp hput qnQ heq hi dr hwl hsz hzl htl hfs;generalize str ps.flatten=f at *;generalize str t=s at *;go_enter func90,ntmps90;go_wp2_with (go_at_call 136;refine qdJ.out.mono ?_);rintro e W1 ⟨rfl,b1⟩;go_wp2_with (go_at_call 135;refine(qbH.out _).mono ?_);rintro e W2 ⟨rfl,b2⟩;have b12:=qc b1 b2;have h2:=QH (HT.out.below b12 hg);clear b1 b2;go_wp2_with (go_at_call 116;refine(fP s _ hts h2.out).mono ?_);rintro e W3 ⟨v,rfl,hown,b3⟩;have b13:=qc b12 b3;rw[qwb.out,Heq.out]at hown;obtain⟨a2,c2,rfl,hlc,hcm,hst,_,_⟩:=hown.view;have qnR:=HP.out.below b13 (Nat.le_refl _);have qg6:=aQ a2 a c2 c ps ps W3 hst qnR (by omega) (by omega);rw[show decide (ps=ps)=true from by simp]at qg6;have qwc:=QH qg6;clear b12 b3 hown hst qnR qg6 h2;go_wp2_with (go_at_call 137;refine qwc.out.mono ?_);rintro e W4 ⟨rfl,b4⟩;have b14:=qc b13 b4;clear b13 b4;go_wp2;go_ret2;exact⟨rfl,b14⟩
theorem mM (a:Option Addr)(c:Nat)(ps:List (List UInt8))(w:World)(hp:yV w a ps)(hpl:ps.length≤1000)(hfs:ps.flatten.length≤100000)(hi:∀t,¬ vR ps t)(ht:xK w) :
    Calls prog 90 #[.slice a ps.length c] w (qwa w):=by
 have HT:=QH ht;have hg:=ht.1;clear ht;have HP:=QH hp;have hput:=pU a c ps w hp (by omega) (by omega);have hzl:=qQ ps.flatten;have qnQ:∀W,Calls prog 135 #[.string (str ps.flatten)] W (qid (sZ ps.flatten) W):=by
  intro W;have:=pV (str ps.flatten) W (by omega)
  rwa [zi]at this
 have qdJ:=QH hput;have qbH:=QH qnQ;clear hp hput qnQ hzl;generalize str ps.flatten=f at *;cases hx:sZ ps.flatten with
 | none =>
  rw[hx]at qbH;go_enter func90,ntmps90;go_wp2_with (go_at_call 136;refine qdJ.out.mono ?_);rintro e W1 ⟨rfl,b1⟩;go_wp2_with (go_at_call 135;refine(qbH.out _).mono ?_);rintro e W2 ⟨rfl,b2⟩;have b12:=qc b1 b2;clear b1 b2;go_wp2;go_ret2;exact⟨rfl,b12⟩
 | some t =>
  rw[hx]at qbH;have hsz:=qQ t;by_cases htl:8192<t.length
  ·have hts:8192<(str t).size:=by omega
   have hgd:(some t).getD []=t:=rfl;have qnS:Hid (∀W,Calls prog 135 #[.string f] W fun e w'=>e=.returned (.tuple #[.string (str t),.bool true])∧Below W.heap.size W w'):=qbH;clear qbH hsz;generalize str t=s at *;go_enter func90,ntmps90;go_wp2_with (go_at_call 136;refine qdJ.out.mono ?_);rintro e W1 ⟨rfl,b1⟩;go_wp2_with (go_at_call 135;refine(qnS.out _).mono ?_);rintro e W2 ⟨rfl,b2⟩;have b12:=qc b1 b2;clear b1 b2;go_wp2_with (go_at_call 116;refine(qjY s _ hts).mono ?_);rintro e W3 ⟨rfl,b3⟩;have b13:=qc b12 b3;clear b12 b3;go_wp2;go_ret2;exact⟨rfl,b13⟩
  ·have hts:(str t).size≤8192:=by omega
   have qnS:Hid (∀W,Calls prog 135 #[.string f] W fun e w'=>e=.returned (.tuple #[.string (str t),.bool true])∧Below W.heap.size W w'):=qbH;have hne:decide (qL t=ps)=false:=by
    simp only[decide_eq_false_iff_not];intro h;exact hi t ⟨by omega,h.symm⟩
   have qwb:=QH (zi t);have wU:=yb t;have zcu:(qL t).length≤1000:=by rw[wU];unfold nsec;omega
   have Hne:=QH hne;have Hx:=QH hx;clear qbH hsz hne wU hx hi;generalize str t=s at *;go_enter func90,ntmps90;go_wp2_with (go_at_call 136;refine qdJ.out.mono ?_);rintro e W1 ⟨rfl,b1⟩;go_wp2_with (go_at_call 135;refine(qnS.out _).mono ?_);rintro e W2 ⟨rfl,b2⟩;have b12:=qc b1 b2;have h2:=QH (HT.out.below b12 hg);clear b1 b2;go_wp2_with (go_at_call 116;refine(fP s _ hts h2.out).mono ?_);rintro e W3 ⟨v,rfl,hown,b3⟩;have b13:=qc b12 b3;rw[qwb.out]at hown;obtain⟨a2,c2,rfl,hlc,hcm,hst,_,_⟩:=hown.view;have qnR:=HP.out.below b13 (Nat.le_refl _);have qg6:=aQ a2 a c2 c (qL t) ps W3 hst qnR (by omega) (by omega);rw[Hne.out]at qg6;have qwc:=QH qg6;clear b12 b3 hown hst qnR qg6 h2;go_wp2_with (go_at_call 137;refine qwc.out.mono ?_);rintro e W4 ⟨rfl,b4⟩;have b14:=qc b13 b4;clear b13 b4;go_wp2;go_ret2;exact⟨rfl,b14⟩
end Go.Proofs.YtdagdllomphidaaGreatDoor
namespace Go.Proofs.YtdagdllomphidaaGreatDoor.wi
open _root_.Go.Proofs.Tryz Go.RowKit
def qkd (s t:ByteArray)(w:World)(e:Ending)(w':World):Prop :=
 e=.returned (.string (str (bl s++mf (bl t))))∧Below w.heap.size w w'
theorem qdK(s t:ByteArray)(w:World)(hs:s.size≤70368744177000)(ht:t.size≤70368744177000) :
    Calls prog 201 #[.string s,.string t] w (qkd s t w):=by
 have hl:=jK t.size;have hbl:=zu t;have Hbl:=QH hbl;clear hbl;go_enter func201,ntmps201;go_wp2_with (go_at_call 207;refine(qme t.size _ (by omega)).mono ?_);rintro e W1 ⟨rfl,b1⟩;go_wp2_with (go_at_call 208;refine(qfk t.size _ (by omega)).mono ?_);rintro e W2 ⟨rfl,b2⟩;go_wp2_with (go_at_call 206;refine(jk s W2.heap.size 0 3 [str [UInt8.ofNat (zL t.size).length],str (zL t.size),t] _ ?_ (oq _ _ _ _) (by simp) ?_).mono ?_)
 ·simp
 ·have:=Hbl.out;simp[flat,zi];omega
 ·rintro e W3 ⟨rfl,b3⟩;have b':=qc (zE (qc b1 b2) _) b3;clear b1 b2 b3;go_wp2;go_ret;exact⟨by simp[flat,zi,mf,zw,Hbl.out],b'⟩
end Go.Proofs.YtdagdllomphidaaGreatDoor.wi
namespace Go.Proofs.YtdagdllomphidaaGreatDoor.jr
open _root_.Go.Proofs.Tryz Go Go.RowKit dk wi
def qD (x:Int):Prop:=-9223372036854775808≤x∧x≤9223372036854775807
def uY (w:World)(a:Option Addr)(l:List Wr):Prop :=
 ∀i (h:i<l.length),∃b o,a=some ⟨b,o,none⟩∧b<w.heap.size∧w.cell? ⟨b,o+i*2,none⟩=some (.int .i64 l[i].1)∧w.cell? ⟨b,o+i*2+1,none⟩=some (.string (str l[i].2))∧qD l[i].1
theorem uY.below{w w':World}{a:Option Addr}{l:List Wr}{B:Nat}(h:uY w a l)(hb:Below B w w')(hB:w.heap.size≤B):uY w' a l:=by
 intro i hi;obtain⟨b,o,h1,h2,h3,h4,h5⟩:=h i hi;refine⟨b,o,h1,Nat.lt_of_lt_of_le h2 hb.size,?_,?_,h5⟩
 ·rw[hb.cell (p:=⟨b,o+i*2,none⟩) (Nat.lt_of_lt_of_le h2 hB)];exact h3
 ·rw[hb.cell (p:=⟨b,o+i*2+1,none⟩) (Nat.lt_of_lt_of_le h2 hB)];exact h4
section
variable {most:Nat} {w:World} {own:Nat→Prop} {p:Nat} {d:DD}
theorem bq (h:zG most w own p d):Calls prog 83 #[.pointer (some ⟨p,0,none⟩)] w fun e w'=>e=.returned (.int .i64 (if d.on then 0 else 6))∧w=w':=by
 obtain⟨h0,m,v,hd⟩:=h;have HO:=QH (qmW hd);clear h0 hd;cases zU:d.on with
 | true =>
  rw[zU]at HO;go_enter func83,ntmps83;go_wp2_with (go_at_call 99;refine HO.out.mono ?_;rintro e w' ⟨rfl,rfl⟩);go_ret;exact⟨rfl,rfl⟩
 | false =>
  rw[zU]at HO;go_enter func83,ntmps83;go_wp2_with (go_at_call 99;refine HO.out.mono ?_;rintro e w' ⟨rfl,rfl⟩);go_ret;exact⟨rfl,rfl⟩
theorem qke(w:World):Calls prog 83 #[.pointer none] w fun e w'=>e=.returned (.int .i64 1)∧w=w':=by
 go_enter func83,ntmps83;go_wp2;go_ret;exact⟨rfl,rfl⟩
theorem qaz(a c:Nat)(ha:a<2)(w:World):Calls prog 129 #[.agg #[.int .i64 (a:Int),.int .i64 (c:Int)]] w fun e w'=>e=.returned (.int .i64 ((1+a*72:Nat):Int))∧Below w.heap.size w w':=by
 have e1:(1:Int)+(a:Int)*72=((1+a*72:Nat):Int):=by omega
 have ha1:(a:Int)≤1:=by omega
 have E1:=QH e1;clear e1;go_enter func129,ntmps129;go_wp2;go_ret;exact⟨by rw[← E1.out];rfl,(Below.refl _ _).alloc (Nat.le_refl _) _⟩
end
def qfl (l:List Wr)(w:World)(s i:Value)(wr:World):Prop :=
 ∃k:Nat,k≤l.length∧i=.int .i64 (k:Int)∧s=.string (str (zw l.length++((l.take k).map wB).flatten))∧Below w.heap.size w wr
theorem qrF(l:List Wr)(h60:l.length≤60)(h:∀x∈l,0≤x.1∧x.2.length=32)(k:Nat):(zw l.length++((l.take k).map wB).flatten).length≤3009:=by
 have h1:=qx l.length;have h2:=qnj (l.take k) (fun x hx=>(h x (List.mem_of_mem_take hx)).2);have h3:(l.take k).length≤60:=by simp;omega
 simp only[List.length_append];omega
def okT (t:Bt)(w:World)(e:Ending)(w':World):Prop:=e=.returned (.string (str t))∧Below w.heap.size w w'
theorem jk (a:Option Addr)(c:Nat)(l:List Wr)(w:World)(hT:uY w a l)(h60:l.length≤60)(h:∀x∈l,0≤x.1∧x.2.length=32) :
    Calls prog 165 #[.slice a l.length c] w (okT (zj l) w):=by
 have HT:=QH hT;have HL:=QH (qrF l h60 h);have HX:=QH h;clear hT h;go_enter func165,ntmps165;go_wp2_with fail;refine(ke ⟨#[]⟩ l.length w (by omega) (by decide)).mono ?_;rintro e W1 ⟨rfl,b1⟩;have B1:=QH b1;clear b1;obtain⟨s1,hs1⟩:=QE (str (bl ⟨#[]⟩++zw l.length));rw[hs1];have aV:=QH hs1;clear hs1;go_wp2_with fail;go_loopw [3,12] (fun s i wr=>qfl l w s i wr) (fun _ i _=>l.length-(intOf i).toNat);case atStart=>exact⟨0,Nat.zero_le _,rfl,by rw[← aV.out];simp[bl],B1.out⟩
 case round =>
  obtain⟨k,hk,rfl,rfl,hB⟩:=hrel;have HB:=QH hB;clear hB B1;by_cases hlt:k<l.length
  ·obtain⟨b,o,rfl,hb,q0,q1,qb⟩:=HT.out k hlt;have hx:=HX.out l[k] (List.getElem_mem hlt);have hstep:((l.take (k+1)).map wB).flatten=((l.take k).map wB).flatten++wB l[k]:=by rw[List.take_succ_eq_append_getElem hlt,List.map_append,List.flatten_append];simp
   have HST:=QH hstep;have HLk:=QH (HL.out k);clear hstep;generalize hxx:l[k]=x at *;obtain⟨n,hn⟩:=Int.eq_ofNat_of_zero_le hx.1;have e0:wr.cell? ⟨b,o+k*2,none⟩=some (.int .i64 (n:Int)):=by rw[HB.out.cell (p:=⟨b,o+k*2,none⟩) hb,q0,hn]
   have e1:wr.cell? ⟨b,o+k*2+1,none⟩=some (.string (str x.2)):=by rw[HB.out.cell (p:=⟨b,o+k*2+1,none⟩) hb];exact q1
   have q5P:(n:Int)≤9223372036854775807:=by have:=qb.2;omega
   have hb2:b<wr.heap.size:=Nat.lt_of_lt_of_le hb HB.out.size;obtain⟨S,hS⟩:=QE (str (zw l.length++((l.take k).map wB).flatten));have hSs:S.size≤3009:=by rw[← hS,qQ];exact HLk.out
   rw[hS];have HS:=QH hS;have HX2:=QH hx.2;have HN:=QH hn;have pX:(k:Int)<(l.length:Int):=by omega
   clear q0 q1 qb hS hn hx hxx;go_wp2_with fail;refine(ke S n _ (by omega) (by omega)).mono ?_;rintro e W2 ⟨rfl,b2⟩;have hA:qf (wr.alloc (.cells #[.int .i64 (n:Int),.string (str x.2)] 182)) wr.heap.size _ _:=qf.new wr _ _;have hA2:qf W2 wr.heap.size _ _:=hA.of_block (b2.block _ hA.lt);have q2:=hA2.cell 1;have lt2:=hA2.lt;have B2:=QH (qc (HB.out.alloc HB.out.size _) b2);clear b2 hA hA2;obtain⟨S2,hS2⟩:=QE (str (bl S++zw n));have hl9:=qx n;have q5Q:S2.size≤3020:=by rw[← hS2,qQ,List.length_append,zu];omega
   rw[hS2];have uI:=QH hS2;clear hS2;go_wp2_with fail;refine(qdK S2 (str x.2) _ (by omega) (by rw[qQ,HX2.out];omega)).mono ?_;rintro e W3 ⟨rfl,b3⟩;have B3:=QH (qc B2.out b3);clear b3 B2;obtain⟨S3,hS3⟩:=QE (str (bl S2++mf (bl (str x.2))));rw[hS3];have tZ:=QH hS3;clear hS3;go_wp2_with fail;go_roundw;case rel =>
    refine⟨k+1,by omega,by go_num,?_,B3.out⟩;rw[← tZ.out,← uI.out,← HS.out,HST.out,zi,zi,zi];have:x.1.toNat=n:=by rw[HN.out];rfl
    simp[wB,this]
   case measure=>simp[intOf];omega
  ·obtain rfl:k=l.length:=by omega
   go_wp2_with fail;go_ret;refine⟨?_,HB.out⟩;rw[List.take_length];rfl
end Go.Proofs.YtdagdllomphidaaGreatDoor.jr
namespace Go.Proofs.YtdagdllomphidaaGreatDoor.jr
open _root_.Go.Proofs.Tryz Go Go.RowKit dk wi
theorem qnT:(prog.info? 201).map (fun i=>(i.zero,i.size,i.bytes))=some (some .nilFunc,1,8):=by kernel_rfl
def cU (p:Nat):Value:=.func (.func 131) #[.pointer (some ⟨p,0,none⟩)] #[]
def gI (p:Nat):Value:=.func (.func 132) #[.pointer (some ⟨p,0,none⟩)] #[]
def az (gw gi:Nat):Value:=.func (.func 133) #[] #[.pointer (some ⟨gw,0,none⟩),.pointer (some ⟨gi,0,none⟩)]
def mN (w:World)(B p:Nat):Step→Value→Prop
 | .f,v=>v=gI p
 | .w k x,v=>∃gw gi,v=az gw gi∧B≤gw∧B≤gi∧qf w gw 46 #[cU p]∧qf w gi 182 #[.int .i64 k,.string (str x)]
def aA (w:World)(B p:Nat)(ss:List Step)(vs:List Value):Prop:=ss.length=vs.length∧∀(j:Nat) (s:Step) (v:Value),ss[j]?=some s→vs[j]?=some v→mN w B p s v
def kO (w w':World):Prop:=∀g t cs,t≠201→qf w g t cs→qf w' g t cs
theorem kO.below{w w':World}(h:Below w.heap.size w w'):kO w w':=fun _ _ _ _ hb=>hb.of_block (h.block _ hb.lt)
theorem kO.trans{a b c:World}(h:kO a b)(k:kO b c):kO a c:=fun g t cs ht hb=>k g t cs ht (h g t cs ht hb)
theorem kO.grown{w w':World}{B n:Nat}{v:Value}{xs:List Value}(ho:w.ownsRow B 201 1 v n xs)(h:w.grownBy w' v.ownBlock):kO w w':=fun g t cs ht hb=>by
 refine hb.of_block (h.block g hb.lt ?_);rcases ho.2 with⟨rfl,_⟩|⟨q,cap,cur,rfl,_,hh,_⟩
 ·simp[Value.ownBlock]
 ·simp only[Value.ownBlock,Option.some.injEq,ne_eq];rintro rfl;unfold qf at hb;rw[hb]at hh;simp only[Option.some.injEq,Obj.cells.injEq]at hh;exact ht hh.2.1
theorem mN.keep{w w':World}{B p:Nat}{s:Step}{v:Value}(h:mN w B p s v)(hk:kO w w'):mN w' B p s v:=by
 cases s with
 | f=>exact h
 | w k x =>
  obtain⟨gw,gi,h1,h2,h3,h4,h5⟩:=h;exact⟨gw,gi,h1,h2,h3,hk _ _ _ (by decide) h4,hk _ _ _ (by decide) h5⟩
theorem aA.keep{w w':World}{B p:Nat}{ss:List Step}{vs:List Value}(h:aA w B p ss vs)(hk:kO w w'):aA w' B p ss vs:=⟨h.1,fun j s v hs hv=>(h.2 j s v hs hv).keep hk⟩
theorem aA.snoc{w:World}{B p:Nat}{ss:List Step}{vs:List Value}{s:Step}{v:Value}(h:aA w B p ss vs)(hs:mN w B p s v):aA w B p (ss++[s]) (vs++[v]):=by
 refine⟨by simp[h.1],fun j t u ht hu=>?_⟩;by_cases hj:j<ss.length
 ·rw[List.getElem?_append_left hj]at ht;rw[List.getElem?_append_left (by rw[← h.1];exact hj)]at hu;exact h.2 j t u ht hu
 ·rw[List.getElem?_append_right (by omega)]at ht;rw[List.getElem?_append_right (by rw[← h.1];omega)]at hu;rw[h.1]at ht;cases hq:j-vs.length with
  | zero =>
   rw[hq]at ht hu;simp at ht hu;subst ht hu;exact hs
  | succ m =>
   rw[hq]at ht;simp at ht
def qdL (w:World)(a:Option Addr)(bs:List (List Wr)):Prop :=
 ∀i (h:i<bs.length),∃b o A c,a=some ⟨b,o,none⟩∧b<w.heap.size∧w.cell? ⟨b,o+i,none⟩=some (.slice A bs[i].length c)∧uY w A bs[i]
theorem qbI(bs:List (List Wr))(k:Nat)(h:k<bs.length):qE (bs.take (k+1))=qE (bs.take k)++(jU bs[k]++[.f]):=by
 have key:∀(x y:List (List Wr)),qE (x++y)=qE x++qE y:=by
  intro x y
  induction x with
  | nil=>rfl
  | cons l r ih=>simp[qE,ih]
 rw[List.take_succ_eq_append_getElem h,key];simp[qE]
theorem qkf(l:List Wr)(k:Nat)(h:k<l.length):jU (l.take (k+1))=jU (l.take k)++[.w l[k].1 l[k].2]:=by
 unfold jU;rw[List.take_succ_eq_append_getElem h,List.map_append];rfl
theorem qtO(l:List Wr):(jU l).length=l.length:=by simp[jU]
theorem mO:∀(bs:List (List Wr)),(∀l∈bs,l.length≤1000)→(qE bs).length≤1001*bs.length
 | [],_=>by simp[qE]
 | l::r,h=>by
  have h1:=h l (by simp);have h2:=mO r (fun m hm=>h m (by simp[hm]));simp only[qE,List.length_append,List.length_cons,qtO];omega
def tu (w:World)(p:Nat)(ss:List Step)(v:Value)(wr:World):Prop :=
 ∃vs,wr.ownsRow w.heap.size 201 1 v vs.length vs∧aA wr w.heap.size p ss vs∧qf wr w.heap.size 46 #[cU p]∧Below w.heap.size w wr
def qwe (w:World)(p:Nat)(bs:List (List Wr))(v i:Value)(wr:World):Prop :=
 ∃k:Nat,k≤bs.length∧i=.int .i64 (k:Int)∧tu w p (qE (bs.take k)) v wr
def q0h (w:World)(p:Nat)(pre:List Step)(l:List Wr)(v i:Value)(wr:World):Prop :=
 ∃k:Nat,k≤l.length∧i=.int .i64 (k:Int)∧tu w p (pre++jU (l.take k)) v wr
def qrG (p:Nat)(ss:List Step)(w:World)(e:Ending)(w':World):Prop:=∃v,e=.returned v∧tu w p ss v w'
theorem fS (w:World)(t:TypeId)(v:Value):∀(j:Nat) (u:Value),([v]:List Value)[j]?=some u→(w.alloc (.cells #[v] t)).cell? ((⟨w.heap.size,0,none⟩:Addr).add j)=some u:=by
 intro j u hj
 match j,hj with
 | 0,hj =>
  simp at hj;subst hj;rw[addr_add];exact(qf.new w t #[v]).cell 0
theorem qih(f:Fn)(a b:Array Value):∀u∈([Value.func f a b]:List Value),u.oneCell'=true:=by
 intro u hu;simp at hu;subst hu;rfl
theorem tu.more{w wr w1:World}{p:Nat}{ss:List Step}{v':Value}{vs:List Value}{s:Step}{u:Value}(hs:aA wr w.heap.size p ss vs)(hk:qf wr w.heap.size 46 #[cU p])
    (qtP:kO wr w1) (hu:mN w1 w.heap.size p s u) (hown:w1.ownsRow w.heap.size 201 1 v' (vs.length+1) (vs++[u])) (hB:Below w.heap.size w w1):tu w p (ss++[s]) v' w1 :=
 ⟨vs++[u],by rw[List.length_append];exact hown,(hs.keep qtP).snoc hu,qtP _ _ _ (by decide) hk,hB⟩
theorem aB (p:Nat)(a:Option Addr)(c:Nat)(bs:List (List Wr))(w:World)(hp:p<w.heap.size)(hT:qdL w a bs)(hl:bs.length≤10)(hl2:∀l∈bs,l.length≤1000) :
    Calls prog 88 #[.pointer (some ⟨p,0,none⟩),.slice a bs.length c] w (qrG p (qE bs) w):=by
 obtain⟨i0,hi,hz0,hz1,hz2⟩:=info_parts qnT;have HT:=QH hT;have nk:=QH hl2;clear hT hl2;go_enter func88,ntmps88;go_wp2_with fail;have k0:qf (w.alloc (.cells #[cU p] 46)) w.heap.size _ _:=qf.new w _ _;have b0:Below w.heap.size w (w.alloc (.cells #[cU p] 46)):=(Below.refl w.heap.size w).alloc (Nat.le_refl _) _;go_loopw [7,18] (fun v i wr=>qwe w p bs v i wr) (fun _ i _=>bs.length-(intOf i).toNat);case atStart=>exact⟨0,Nat.zero_le _,rfl,[],World.ownsRow_nil _ _ _ _,⟨rfl,fun j s v h=>by simp[qE]at h⟩,k0,b0⟩
 case round =>
  clear k0 b0;obtain⟨k,hk,rfl,hg⟩:=hrel;have HG:=QH hg;clear hg;by_cases hlt:k<bs.length
  ·obtain⟨b,o,A,cc,rfl,hb,hc,hW⟩:=HT.out k hlt;have hst:=qbI bs k hlt;have hlen:=nk.out bs[k] (List.getElem_mem hlt);generalize bs[k]=l at *;have hc2:wr.cell? ⟨b,o+k,none⟩=some (.slice A l.length cc):=by obtain⟨_,_,_,_,hB⟩:=HG.out;rw[hB.cell (p:=⟨b,o+k,none⟩) hb];exact hc
   have hb2:b<wr.heap.size:=by obtain⟨_,_,_,_,hB⟩:=HG.out;exact Nat.lt_of_lt_of_le hb hB.size
   have pX:(k:Int)<(bs.length:Int):=by omega
   have HW:=QH hW;have HST:=QH hst;clear hc hW hst;go_wp2_with fail;obtain⟨wo,rfl⟩:∃wo:World,wo=wr:=⟨_,rfl⟩;go_loopw [7,24] (fun v i wr=>q0h w p (qE (bs.take k)) l v i wr) (fun _ i _=>l.length-(intOf i).toNat);case atStart=>exact⟨0,Nat.zero_le _,rfl,by simpa[jU]using HG.out⟩
   case round =>
    obtain⟨j,hj,rfl,vs,hown,hsv,hk5,hB⟩:=hrel;have HO:=QH hown;have HS:=QH hsv;have HK:=QH hk5;have HB:=QH hB;clear hown hsv hk5 hB;have hvl:vs.length≤100000:=by
     have h1:=HS.out.1;have h2:=mO (bs.take k) (fun m hm=>nk.out m (List.mem_of_mem_take hm));have h3:(bs.take k).length≤10:=by simp;omega
     have h4:(jU (l.take j)).length≤1000:=by rw[qtO];simp;omega
     rw[List.length_append]at h1;omega
    by_cases hjl:j<l.length
    ·obtain⟨bb,oo,rfl,hbb,q0,q1,qb⟩:=HW.out j hjl;have tq:=qkf l j hjl;generalize l[j]=x at *;have e0:wr.cell? ⟨bb,oo+j*2,none⟩=some (.int .i64 x.1):=by rw[HB.out.cell (p:=⟨bb,oo+j*2,none⟩) hbb];exact q0
     have e1:wr.cell? ⟨bb,oo+j*2+1,none⟩=some (.string (str x.2)):=by rw[HB.out.cell (p:=⟨bb,oo+j*2+1,none⟩) hbb];exact q1
     have q5S:bb<wr.heap.size:=Nat.lt_of_lt_of_le hbb HB.out.size;have qnU:(j:Int)<(l.length:Int):=by omega
     have HWS:=QH tq;have hB1:Below w.heap.size w (wr.alloc (.cells #[.int .i64 x.1,.string (str x.2)] 182)):=HB.out.alloc HB.out.size _;have hB2:Below w.heap.size w ((wr.alloc (.cells #[.int .i64 x.1,.string (str x.2)] 182)).alloc (.cells #[az w.heap.size wr.heap.size] 201)):=hB1.alloc hB1.size _;have hown2:=(HO.out.alloc (.cells #[.int .i64 x.1,.string (str x.2)] 182)).alloc (.cells #[az w.heap.size wr.heap.size] 201);have hnews:=fS (wr.alloc (.cells #[.int .i64 x.1,.string (str x.2)] 182)) 201 (az w.heap.size wr.heap.size);have qnW:(wr.alloc (.cells #[.int .i64 x.1,.string (str x.2)] 182)).heap.size=wr.heap.size+1:=by simp
     rw[qnW]at hnews;have gH:=QH hown2;have dC:=QH hnews;have qB:=QH hB2;have hkp:kO wr ((wr.alloc (.cells #[.int .i64 x.1,.string (str x.2)] 182)).alloc (.cells #[az w.heap.size wr.heap.size] 201)):=kO.below ((zE (Below.refl _ wr) _).alloc (by simp) _);have hgi:qf ((wr.alloc (.cells #[.int .i64 x.1,.string (str x.2)] 182)).alloc (.cells #[az w.heap.size wr.heap.size] 201)) wr.heap.size 182 #[.int .i64 x.1,.string (str x.2)]:=(qf.new wr _ _).of_block (Below.heap_alloc _ _ _ (by simp));have HKP:=QH hkp;have HGI:=QH hgi;clear q0 q1 qb tq hB1 hB2 hown2 hnews qnW hkp hgi;go_wp2_with (at_builtin;refine wpList_append_own _ rfl (.tmp 28) (.tmp 30) 156 rfl w.heap.size 201 i0 .nilFunc 1 8 underlying156 hi hz0 hz1 hz2 rfl (by decide) _ vs.length _ rfl gH.out ⟨wr.heap.size+1,0,none⟩ 1 1 [az w.heap.size wr.heap.size] rfl rfl dC.out (qih _ _ _) ?_ ?_ qB.out.size ?_)
     ·unfold maxLen;omega
     ·omega
     ·intro v' w1 hown1 hgrow _;have qkg:=HKP.out.trans (kO.grown gH.out hgrow);have hb1:=qB.out.grown hgrow qB.out.size (fun j hj=>(gH.out.lt j hj).1);have q0i:mN w1 w.heap.size p (.w x.1 x.2) (az w.heap.size wr.heap.size):=⟨_,_,rfl,Nat.le_refl _,HB.out.size,qkg _ _ _ (by decide) HK.out,kO.grown gH.out hgrow _ _ _ (by decide) HGI.out⟩;have hgm:=tu.more HS.out HK.out qkg q0i hown1 hb1;have HGM:=QH hgm;clear qkg hb1 q0i hgm hown1 hgrow;go_wp2_with fail;go_roundw;case rel=>exact⟨j+1,by omega,by go_num,by rw[HWS.out,← List.append_assoc];exact HGM.out⟩
      case measure=>simp[intOf];omega
    ·obtain rfl:j=l.length:=by omega
     have hB2:Below w.heap.size w (wr.alloc (.cells #[gI p] 201)):=HB.out.alloc HB.out.size _;have hown2:=HO.out.alloc (.cells #[gI p] 201);have hnews:=fS wr 201 (gI p);have gH:=QH hown2;have dC:=QH hnews;have qB:=QH hB2;have HKP:=QH (kO.below (zE (Below.refl _ wr) (.cells #[gI p] 201)));clear hB2 hown2 hnews;go_wp2_with (at_builtin;refine wpList_append_own _ rfl (.tmp 33) (.tmp 35) 156 rfl w.heap.size 201 i0 .nilFunc 1 8 underlying156 hi hz0 hz1 hz2 rfl (by decide) _ vs.length _ rfl gH.out ⟨wr.heap.size,0,none⟩ 1 1 [gI p] rfl rfl dC.out (qih _ _ _) ?_ ?_ qB.out.size ?_)
     ·unfold maxLen;omega
     ·omega
     ·intro v' w1 hown1 hgrow _;have qkg:=HKP.out.trans (kO.grown gH.out hgrow);have hb1:=qB.out.grown hgrow qB.out.size (fun j hj=>(gH.out.lt j hj).1);have hgm:=tu.more (s:=.f) HS.out HK.out qkg rfl hown1 hb1;have HGM:=QH hgm;clear qkg hb1 hgm hown1 hgrow;go_wp2_with fail;go_roundw;case rel=>exact⟨k+1,by omega,by go_num,by rw[HST.out];have:=HGM.out;rw[List.take_length,List.append_assoc]at this;exact this⟩
      case measure=>simp[intOf];omega
  ·obtain rfl:k=bs.length:=by omega
   go_wp2_with fail;go_ret;have:=HG.out;rw[List.take_length]at this;exact⟨_,rfl,this⟩
def qii (w:World)(B p:Nat)(a:Option Addr)(ss:List Step):Prop :=
 ∀(j:Nat) (s:Step),ss[j]?=some s→∃b v,a=some ⟨b,0,none⟩∧B≤b∧b<w.heap.size∧w.cell? ⟨b,j,none⟩=some v∧mN w B p s v
theorem tu.view{w wr:World}{p:Nat}{ss:List Step}{v:Value}(h:tu w p ss v wr):∃a c,v=.slice a ss.length c∧qii wr w.heap.size p a ss:=by
 obtain⟨vs,ho,hs,_,_⟩:=h;rcases ho.2 with⟨rfl,h0⟩|⟨g,cap,cur,rfl,hg,hh,hcc,hm,hcs,xP⟩
 ·have hn:ss=[]:=List.length_eq_zero_iff.1 (by rw[hs.1];exact h0);subst hn;exact⟨none,0,rfl,fun j s h=>by simp at h⟩
 ·refine⟨some ⟨g,0,none⟩,cap,by rw[hs.1],fun j s hj=>?_⟩;have hjl:j<ss.length:=(List.getElem?_eq_some_iff.1 hj).1;have hjv:j<vs.length:=by rw[← hs.1];exact hjl
  have hv:vs[j]?=some vs[j]:=List.getElem?_eq_getElem hjv;refine⟨g,vs[j],rfl,hg,(Array.getElem?_eq_some_iff.1 hh).1,?_,hs.2 j s _ hj hv⟩;have:=cell_of_row wr g j cur 201 (0,0) hh;rw[this];have h2:cur.toList[j]?=some vs[j]:=by
   have h3:(cur.toList.take (vs.length*1))[j]?=some vs[j]:=by rw[xP];exact hv
   rw[List.getElem?_take]at h3;split at h3
   ·exact h3
   ·cases h3
  simpa using h2
section
variable {most:Nat} {w:World} {G:Nat→Prop} {p:Nat} {d:DD}
theorem pY (hI:InG most w G p d)(hG:∀k,w.heap.size≤k→G k)(hm:d.more.length<most)(jh:most≤100000)(k:Int)(x:Bt)(gw gi:Nat)(hw:qf w gw 46 #[cU p])(hi:qf w gi 182 #[.int .i64 k,.string (str x)]) :
    Calls prog 133 #[.pointer (some ⟨gw,0,none⟩),.pointer (some ⟨gi,0,none⟩)] w (pW most G p (d.write k x).2 (.int .i64 (d.write k x).1) w):=by
 have e0:=hw.cell 0;have l0:=hw.lt;have e1:=hi.cell 0;have e2:=hi.cell 1;have l1:=hi.lt;have HI:=QH hI;unfold cU at e0;clear hw hi hI;go_enter func133,ntmps133;go_wp2_with fail;refine(qrD HI.out hG hm jh k (str x) x (zi x) _ _ rfl rfl).mono ?_;rintro e W1 ⟨rfl,i1,b1⟩;have H1:Hid (InG most W1 G p (d.write k x).2∧qy G w W1):=⟨i1,b1⟩;clear i1 b1;go_wp2_with fail;go_ret;exact⟨rfl,H1.out⟩
theorem qg7(d:DD)(s:Step):(jV d s).2.more.length≤d.more.length+1:=by
 cases s with
 | w k v=>exact qfT d k v
 | f =>
  have ho:=(xS d).2.1;unfold jV DD.flush;dsimp only;split
  ·simp
  ·split <;> simp[ho]
def qwf (most:Nat)(w:World)(G:Nat→Prop)(p:Nat)(ss:List Step)(d:DD)(i:Value)(wr:World):Prop :=
 ∃(k:Nat) (e:DD),k≤ss.length∧i=.int .i64 (k:Int)∧InG most wr G p e∧qy G w wr∧ag ss d=ag (ss.drop k) e∧e.more.length≤d.more.length+k
theorem qrH(B:Nat)(ss:List Step)(a:Option Addr)(c:Nat)(hI:InG most w G p d)(hG:∀k,w.heap.size≤k→G k)(q0j:∀k,B≤k→k<w.heap.size→¬ G k)(hs:qii w B p a ss)(hm:d.more.length+ss.length≤most)(jh:most≤100000) :
    Calls prog 87 #[.slice a ss.length c] w (pW most G p (ag ss d).2 (.int .i64 (ag ss d).1) w):=by
 have HS:=QH hs;have HI:=QH hI;have HG:=QH hG;have HD:=QH q0j;clear hs hI hG q0j;go_enter func87,ntmps87;go_wp2_with fail;go_loopw [8] (fun i wr=>qwf most w G p ss d i wr) (fun i _=>ss.length-(intOf i).toNat);case atStart=>exact⟨0,d,Nat.zero_le _,rfl,HI.out,qy.refl _ _,by rw[List.drop_zero],Nat.le_refl _⟩
 case round =>
  obtain⟨k,e,hk,rfl,hi,hb,hrun,hml⟩:=hrel;have H1:=QH hi;have HB:=QH hb;have HR:=QH hrun;have hG1:∀k,wr.heap.size≤k→G k:=fun j hj=>HG.out j (Nat.le_trans hb.size hj);have HG1:=QH hG1;clear hi hb hrun hG1;by_cases hlt:k<ss.length
  ·have hsk:ss[k]?=some ss[k]:=List.getElem?_eq_getElem hlt;obtain⟨b,v,rfl,hBb,hbl,hcell,hv⟩:=HS.out k ss[k] hsk;have qdM:ss.drop k=ss[k]::ss.drop (k+1):=List.drop_eq_getElem_cons hlt;have hsm:=qg7 e ss[k];rw[qdM]at HR;generalize ss[k]=s at *;have hc1:wr.cell? ⟨b,k,none⟩=some v:=by
    rw[World.cell?_of_block (a:=⟨b,k,none⟩) (HB.out.block b hbl (HD.out b hBb hbl))];exact hcell
   have zcy:b<wr.heap.size:=Nat.lt_of_lt_of_le hbl HB.out.size;have pX:(k:Int)<(ss.length:Int):=by omega
   have bP:(∃gw gi,v=az gw gi∧Calls prog 133 #[.pointer (some ⟨gw,0,none⟩),.pointer (some ⟨gi,0,none⟩)] wr (pW most G p (jV e s).2 (.int .i64 (jV e s).1) wr)) ∨
       (v=gI p∧Calls prog 132 #[.pointer (some ⟨p,0,none⟩)] wr (pW most G p (jV e s).2 (.int .i64 (jV e s).1) wr)):=by
    cases s with
    | f=>exact .inr ⟨hv,qrE H1.out HG1.out _ _ rfl rfl⟩
    | w kk x =>
     obtain⟨gw,gi,h1,h2,h3,h4,h5⟩:=hv;exact .inl ⟨gw,gi,h1,pY H1.out HG1.out (by omega) jh kk x gw gi (h4.of_block (HB.out.block gw h4.lt (HD.out gw h2 h4.lt))) (h5.of_block (HB.out.block gi h5.lt (HD.out gi h3 h5.lt)))⟩
   have mq:ag (s::ss.drop (k+1)) e=if (jV e s).1=0 then ag (ss.drop (k+1)) (jV e s).2 else jV e s:=rfl
   rw[mq]at HR;have HC:=QH bP;clear bP mq hv hcell hsk qdM;obtain⟨r,hr⟩:=QE ((jV e s).1);obtain⟨e2,tS⟩:=QE ((jV e s).2);rw[hr,tS]at HC HR;rw[tS]at hsm;have hse:jV e s=(r,e2):=by rw[← hr,← tS]
   rw[hse]at HR;clear hr tS hse;by_cases h0:r=0
   ·subst h0;rw[if_pos rfl]at HR;rcases HC.out with⟨gw,gi,rfl,hcc⟩|⟨rfl,hcc⟩;all_goals
     have HCC:=QH hcc;clear hcc HC;simp only[az,gI]at hc1;go_wp2_with fail;refine HCC.out.mono ?_;rintro x W2 ⟨rfl,i2,b2⟩;have H2:=QH i2;have qB:=QH (HB.out.trans b2 (fun i hi=>.inl hi));clear i2 b2;go_wp2_with fail;go_roundw;case rel=>exact⟨k+1,e2,by omega,by go_num,H2.out,qB.out,HR.out,by omega⟩
     case measure=>simp[intOf];omega
   ·have hne:((r:Int) != 0)=true:=by simpa using h0
    rw[if_neg h0]at HR;rcases HC.out with⟨gw,gi,rfl,hcc⟩|⟨rfl,hcc⟩;all_goals
     have HCC:=QH hcc;clear hcc HC;simp only[az,gI]at hc1;go_wp2_with fail;refine HCC.out.mono ?_;rintro x W2 ⟨rfl,i2,b2⟩;have H2:=QH i2;have qB:=QH (HB.out.trans b2 (fun i hi=>.inl hi));clear i2 b2;go_wp2_with fail;go_ret;rw[HR.out];exact⟨rfl,H2.out,qB.out⟩
  ·obtain rfl:k=ss.length:=by omega
   go_wp2_with fail;go_ret;rw[HR.out,List.drop_length];exact⟨rfl,H1.out,HB.out⟩
end
end Go.Proofs.YtdagdllomphidaaGreatDoor.jr
namespace Go.Proofs.YtdagdllomphidaaGreatDoor.jr
open _root_.Go.Proofs.Tryz Go Go.RowKit dk wi
theorem wX:(prog.info? 3).map (fun i=>(i.zero,i.size,i.bytes))=some (some (.int .i64 0),1,8):=by kernel_rfl
theorem qnX:(prog.info? 182).map (fun i=>(i.zero,i.size,i.bytes))=some (some (.agg #[.int .i64 0,.string ByteArray.empty]),2,24):=by kernel_rfl
section
variable {most:Nat} {w W1:World} {own:Nat→Prop} {p:Nat} {d:DD} {ss:List Step} {v:Value}
theorem lD (h:zG most w own p d)(hg:tu w p ss v W1)(hm:d.more.length+ss.length≤most)(jh:most≤100000) :
    Calls prog 87 #[v] W1 (xA most own p (ag ss d).2 (.int .i64 (ag ss d).1) w):=by
 obtain⟨A,c,rfl,hst⟩:=hg.view;obtain⟨_,_,_,_,hB⟩:=hg;have hI:InG most W1 (fun k=>own k∨W1.heap.size≤k) p d:=⟨own,h.below hB,fun k hk=>.inl hk⟩;refine(qrH w.heap.size ss A c hI (fun k hk=>.inr hk) (fun k h1 h2 h3=>?_) hst hm jh).mono ?_
 ·rcases h3 with h3|h3
  ·have:=h.low k h3;omega
  ·omega
 ·rintro e W2 ⟨rfl,⟨jT,h1,h2⟩,h3⟩;refine⟨rfl,jT,h1,?_,fun k hk=>?_⟩
  ·refine⟨h3.os.trans hB.os,h3.tape.trans hB.tape,h3.output.trans hB.output,Nat.le_trans hB.size h3.size,fun k hk hn=>?_⟩;rw[h3.block k (Nat.lt_of_lt_of_le hk hB.size) (fun g=>?_),hB.block k hk];rcases g with g|g
   ·exact hn g
   ·have:=hB.size;omega
  ·rcases h2 k hk with g|g
   ·exact .inl g
   ·exact .inr (Nat.le_trans hB.size g)
theorem xA.from{w0 w:World}{r:Value}{e:Ending}{w':World}(h:xA most own p d r w e w')(hb:Below w0.heap.size w0 w)(xR:∀k,own k→k<w0.heap.size):xA most own p d r w0 e w':=by
 obtain⟨rfl,jT,h1,h2,h3⟩:=h;refine⟨rfl,jT,h1,⟨h2.os.trans hb.os,h2.tape.trans hb.tape,h2.output.trans hb.output,Nat.le_trans hb.size h2.size,fun k hk hn=>?_⟩,fun k hk=>?_⟩
 ·rw[h2.block k (Nat.lt_of_lt_of_le hk hb.size) hn,hb.block k hk]
 ·rcases h3 k hk with g|g
  ·exact .inl g
  ·exact .inr (Nat.le_trans hb.size g)
end
def zC (w:World)(B:Nat)(v:Value)(zs:List Int):Prop:=w.ownsRow B 3 1 v zs.length (zs.map (Value.int .i64))
def qnY (w:World)(bs:List (List Wr))(v i:Value)(wr:World):Prop :=
 ∃k:Nat,k≤bs.length∧i=.int .i64 (k:Int)∧zC wr w.heap.size v (placesOf (bs.take k))∧Below w.heap.size w wr
def qwg (w:World)(pre:List Int)(l:List Wr)(v i:Value)(wr:World):Prop :=
 ∃k:Nat,k≤l.length∧i=.int .i64 (k:Int)∧zC wr w.heap.size v (pre++(l.take k).map (·.1))∧Below w.heap.size w wr
theorem tv (bs:List (List Wr))(k:Nat)(h:k<bs.length):placesOf (bs.take (k+1))=placesOf (bs.take k)++bs[k].map (·.1):=by
 unfold placesOf;rw[List.take_succ_eq_append_getElem h,List.flatten_append,List.map_append];simp
theorem gJ:∀(bs:List (List Wr)),(∀l∈bs,l.length≤1000)→(placesOf bs).length≤1000*bs.length
 | [],_=>by simp[placesOf]
 | l::r,h=>by
  have h1:=h l (by simp);have h2:=gJ r (fun m hm=>h m (by simp[hm]));simp only[placesOf,List.flatten_cons,List.map_append,List.length_append,List.length_map,List.length_cons]at h2 ⊢;omega
theorem qrI(z:Int):∀u∈([Value.int .i64 z]:List Value),u.oneCell'=true:=by
 intro u hu;simp at hu;subst hu;rfl
def yu (zs:List Int)(w:World)(e:Ending)(w':World):Prop:=∃v,e=.returned v∧zC w' w.heap.size v zs∧Below w.heap.size w w'
theorem zC.view{w:World}{B:Nat}{v:Value}{zs:List Int}(h:zC w B v zs)(hz:∀z∈zs,qD z):∃a c,v=.slice a zs.length c∧qK w a zs:=by
 rcases h.2 with⟨rfl,h0⟩|⟨g,cap,cur,rfl,hg,hh,hcc,hm,hcs,xP⟩
 ·obtain rfl:zs=[]:=List.length_eq_zero_iff.1 h0;exact⟨none,0,rfl,fun i h=>by simp at h⟩
 ·refine⟨some ⟨g,0,none⟩,cap,rfl,fun i hi=>⟨g,0,rfl,(Array.getElem?_eq_some_iff.1 hh).1,?_,(hz _ (List.getElem_mem hi)).1,(hz _ (List.getElem_mem hi)).2⟩⟩;rw[Nat.zero_add,cell_of_row w g i cur 3 (0,0) hh];have h3:(cur.toList.take (zs.length*1))[i]?=some (.int .i64 zs[i]):=by rw[xP];simp[hi]
  rw[List.getElem?_take]at h3;split at h3
  ·simpa using h3
  ·cases h3
theorem uF (a:Option Addr)(c:Nat)(bs:List (List Wr))(w:World)(hT:qdL w a bs)(hl:bs.length≤10)(hl2:∀l∈bs,l.length≤1000) :
    Calls prog 168 #[.slice a bs.length c] w (yu (placesOf bs) w):=by
 obtain⟨i0,hi,hz0,hz1,hz2⟩:=info_parts wX;have HT:=QH hT;have nk:=QH hl2;clear hT hl2;go_enter func168,ntmps168;go_wp2_with fail;go_loopw [3,10] (fun v i wr=>qnY w bs v i wr) (fun _ i _=>bs.length-(intOf i).toNat);case atStart=>exact⟨0,Nat.zero_le _,rfl,World.ownsRow_nil _ _ _ _,Below.refl _ _⟩
 case round =>
  obtain⟨k,hk,rfl,ho0,hB0⟩:=hrel;have HO0:=QH ho0;have xu:=QH hB0;clear ho0 hB0;by_cases hlt:k<bs.length
  ·obtain⟨b,o,A,cc,rfl,hb,hc,hW⟩:=HT.out k hlt;have hst:=tv bs k hlt;have hlen:=nk.out bs[k] (List.getElem_mem hlt);generalize bs[k]=l at *;have hc2:wr.cell? ⟨b,o+k,none⟩=some (.slice A l.length cc):=by rw[xu.out.cell (p:=⟨b,o+k,none⟩) hb];exact hc
   have hb2:b<wr.heap.size:=Nat.lt_of_lt_of_le hb xu.out.size;have pX:(k:Int)<(bs.length:Int):=by omega
   have HW:=QH hW;have HST:=QH hst;clear hc hW hst;go_wp2_with fail;obtain⟨wo,rfl⟩:∃wo:World,wo=wr:=⟨_,rfl⟩;go_loopw [3,16] (fun v i wr=>qwg w (placesOf (bs.take k)) l v i wr) (fun _ i _=>l.length-(intOf i).toNat);case atStart=>exact⟨0,Nat.zero_le _,rfl,by simpa using HO0.out,xu.out⟩
   case round =>
    obtain⟨j,hj,rfl,hown,hB⟩:=hrel;have HO:=QH hown;have HB:=QH hB;clear hown hB;have hvl:(placesOf (bs.take k)++(l.take j).map (·.1)).length≤100000:=by
     have h2:=gJ (bs.take k) (fun m hm=>nk.out m (List.mem_of_mem_take hm));have h3:(bs.take k).length≤10:=by simp;omega
     rw[List.length_append,List.length_map,List.length_take];omega
    by_cases hjl:j<l.length
    ·obtain⟨bb,oo,rfl,hbb,q0,q1,qb⟩:=HW.out j hjl;have tq:(l.take (j+1)).map (·.1)=(l.take j).map (·.1)++[l[j].1]:=by rw[List.take_succ_eq_append_getElem hjl,List.map_append];rfl
     generalize l[j]=x at *;have e0:wr.cell? ⟨bb,oo+j*2,none⟩=some (.int .i64 x.1):=by rw[HB.out.cell (p:=⟨bb,oo+j*2,none⟩) hbb];exact q0
     have e1:wr.cell? ⟨bb,oo+j*2+1,none⟩=some (.string (str x.2)):=by rw[HB.out.cell (p:=⟨bb,oo+j*2+1,none⟩) hbb];exact q1
     have q5S:bb<wr.heap.size:=Nat.lt_of_lt_of_le hbb HB.out.size;have qnU:(j:Int)<(l.length:Int):=by omega
     have HWS:=QH tq;have hB1:Below w.heap.size w (wr.alloc (.cells #[.int .i64 x.1,.string (str x.2)] 182)):=HB.out.alloc HB.out.size _;have hB2:Below w.heap.size w ((wr.alloc (.cells #[.int .i64 x.1,.string (str x.2)] 182)).alloc (.cells #[.int .i64 x.1] 3)):=hB1.alloc hB1.size _;have hown2:=(HO.out.alloc (.cells #[.int .i64 x.1,.string (str x.2)] 182)).alloc (.cells #[.int .i64 x.1] 3);have hnews:=fS (wr.alloc (.cells #[.int .i64 x.1,.string (str x.2)] 182)) 3 (.int .i64 x.1);have qnW:(wr.alloc (.cells #[.int .i64 x.1,.string (str x.2)] 182)).heap.size=wr.heap.size+1:=by simp
     rw[qnW]at hnews;have gH:=QH hown2;have dC:=QH hnews;have qB:=QH hB2;clear q0 q1 qb tq hB1 hB2 hown2 hnews qnW;generalize hpl:placesOf (bs.take k)++(l.take j).map (·.1)=zs at *;go_wp2_with (at_builtin;refine wpList_append_own _ rfl (.tmp 20) (.tmp 23) 57 rfl w.heap.size 3 i0 (.int .i64 0) 1 8 underlying57 hi hz0 hz1 hz2 rfl (by decide) _ zs.length _ rfl gH.out ⟨wr.heap.size+1,0,none⟩ 1 1 [.int .i64 x.1] rfl rfl dC.out (qrI _) ?_ ?_ qB.out.size ?_)
     ·unfold maxLen;omega
     ·omega
     ·intro v' w1 hown1 hgrow _;have hb1:=qB.out.grown hgrow qB.out.size (fun j hj=>(gH.out.lt j hj).1);have ho1:zC w1 w.heap.size v' (zs++[x.1]):=by unfold zC;rw[List.length_append,List.map_append];exact hown1
      have HO1:=QH ho1;have qR:=QH hb1;clear hb1 ho1 hown1 hgrow;go_wp2_with fail;go_roundw;case rel=>exact⟨j+1,by omega,by go_num,by rw[HWS.out,← List.append_assoc,hpl];exact HO1.out,qR.out⟩
      case measure=>simp[intOf];omega
    ·obtain rfl:j=l.length:=by omega
     go_wp2_with fail;go_roundw;case rel=>exact⟨k+1,by omega,by go_num,by rw[HST.out];have:=HO.out;rw[List.take_length]at this;exact this,HB.out⟩
     case measure=>simp[intOf];omega
  ·obtain rfl:k=bs.length:=by omega
   go_wp2_with fail;go_ret;have:=HO0.out;rw[List.take_length]at this;exact⟨_,rfl,this,xu.out⟩
end Go.Proofs.YtdagdllomphidaaGreatDoor.jr
namespace Go.Proofs.YtdagdllomphidaaGreatDoor.jr
open _root_.Go.Proofs.Tryz Go Go.RowKit dk wi
def zT:List Wr→List Value
 | []=>[]
 | x::r=>.int .i64 x.1 :: .string (str x.2)::zT r
def mQ (w:World)(B:Nat)(v:Value)(l:List Wr):Prop:=w.ownsRow B 182 2 v l.length (zT l)
theorem vV:∀(l r:List Wr),zT (l++r)=zT l++zT r
 | [],_=>rfl
 | x::l,r=>by simp[zT,vV l r]
theorem jv:∀l:List Wr,(zT l).length=l.length*2
 | []=>rfl
 | x::l=>by simp[zT,jv l];omega
theorem uZ:∀(l:List Wr) (i:Nat) (h:i<l.length),(zT l)[i*2]?=some (.int .i64 l[i].1)∧(zT l)[i*2+1]?=some (.string (str l[i].2))
 | x::l,0,_=>⟨rfl,rfl⟩
 | x::l,i+1,h=>by
  have:=uZ l i (by simpa using h);rw[show(i+1)*2=i*2+1+1 from by omega];exact this
theorem mQ.view{w:World}{B:Nat}{v:Value}{l:List Wr}(h:mQ w B v l)(hz:∀x∈l,qD x.1):∃a c,v=.slice a l.length c∧uY w a l:=by
 rcases h.2 with⟨rfl,h0⟩|⟨g,cap,cur,rfl,hg,hh,hcc,hm,hcs,xP⟩
 ·obtain rfl:l=[]:=List.length_eq_zero_iff.1 h0;exact⟨none,0,rfl,fun i h=>by simp at h⟩
 ·refine⟨some ⟨g,0,none⟩,cap,rfl,fun i hi=>?_⟩;have key:∀(j:Nat) (u:Value),(zT l)[j]?=some u→w.cell? ⟨g,j,none⟩=some u:=by
   intro j u hu;rw[cell_of_row w g j cur 182 (0,0) hh];rw[← xP,List.getElem?_take]at hu;split at hu
   ·simpa using hu
   ·cases hu
  obtain⟨g0,g1⟩:=uZ l i hi;exact⟨g,0,rfl,(Array.getElem?_eq_some_iff.1 hh).1,by rw[Nat.zero_add];exact key _ _ g0,by rw[Nat.zero_add];exact key _ _ g1,hz _ (List.getElem_mem hi)⟩
theorem fT (x:Wr):∀u∈([Value.int .i64 x.1,.string (str x.2)]:List Value),u.oneCell'=true:=by
 intro u hu;simp at hu;rcases hu with rfl|rfl <;> rfl
theorem fU (w:World)(t:TypeId)(v u:Value):∀(j:Nat) (x:Value),([v,u]:List Value)[j]?=some x→(w.alloc (.cells #[v,u] t)).cell? ((⟨w.heap.size,0,none⟩:Addr).add j)=some x:=by
 intro j x hj
 match j,hj with
 | 0,hj =>
  simp at hj;subst hj;rw[addr_add];exact(qf.new w t #[v,u]).cell 0
 | 1,hj =>
  simp at hj;subst hj;rw[addr_add];exact(qf.new w t #[v,u]).cell 1
theorem mQ.snoc{w1:World}{B:Nat}{v':Value}{l:List Wr}{x:Wr}(h:w1.ownsRow B 182 2 v' (l.length+1) (zT l++[.int .i64 x.1,.string (str x.2)])):mQ w1 B v' (l++[x]):=by
 unfold mQ;rw[List.length_append,vV];exact h
theorem qnZ{w:World}{B C:Nat}{v:Value}{l:List Wr}(h:mQ w B v l)(hc:C≤B):mQ w C v l:=by
 refine⟨h.1,?_⟩;rcases h.2 with hn|⟨g,cap,cur,hv,hb,rest⟩
 ·exact .inl hn
 ·exact .inr ⟨g,cap,cur,hv,Nat.le_trans hc hb,rest⟩
def q5W (l:List Wr)(w:World)(e:Ending)(w':World):Prop:=∃v,e=.returned v∧mQ w' w.heap.size v l∧Below w.heap.size w w'
def qwh (w:World)(o:Nat)(ss:List Bt)(v i:Value)(wr:World):Prop :=
 ∃k:Nat,k≤ss.length∧i=.int .i64 (k:Int)∧mQ wr w.heap.size v (zk o (ss.take k))∧Below w.heap.size w wr
theorem ug (a cnt:Nat)(ha:a<2)(A:Option Addr)(cc:Nat)(ss:List Bt)(w:World)(hT:yV w A ss)(hl:ss.length≤1000) :
    Calls prog 166 #[.agg #[.int .i64 (a:Int),.int .i64 (cnt:Int)],.slice A ss.length cc] w (q5W (lay a ss) w):=by
 obtain⟨i0,hi,hz0,hz1,hz2⟩:=info_parts qnX;have HT:=QH hT;have qkh:=fun(W:World)=>qaz a cnt ha W;unfold lay;have q0k:1+a*72≤73:=by omega
 obtain⟨o1,ho1⟩:=QE (1+a*72);rw[ho1]at q0k;simp only[ho1]at qkh;rw[ho1];have HF:=QH qkh;clear ho1 qkh;have kb:qf (w.alloc (.cells #[.int .i64 (a:Int),.int .i64 (cnt:Int)] 149)) w.heap.size _ _:=qf.new w _ _;clear hT;have k0:=kb.lt;have hb0:Below w.heap.size w (w.alloc (.cells #[.int .i64 (a:Int),.int .i64 (cnt:Int)] 149)):=(Below.refl w.heap.size w).alloc (Nat.le_refl _) _;go_enter func166,ntmps166;go_wp2_with fail;obtain⟨w0,hw0⟩:=QE (w.alloc (.cells #[.int .i64 (a:Int),.int .i64 (cnt:Int)] 149));rw[hw0]at kb k0 hb0;rw[hw0];clear hw0;have KB:=QH kb;have xu:=QH hb0;clear kb hb0;go_loopw [5,10] (fun v i wr=>qwh w0 o1 ss v i wr) (fun _ i _=>ss.length-(intOf i).toNat);case atStart=>exact⟨0,Nat.zero_le _,rfl,World.ownsRow_nil _ _ _ _,Below.refl _ _⟩
 case round =>
  obtain⟨k,hk,rfl,ho,hB⟩:=hrel;have HO:=QH ho;have HB:=QH hB;clear ho hB;by_cases hlt:k<ss.length
  ·obtain⟨b,o,rfl,hb,hc⟩:=HT.out k hlt;have hsn:zk o1 (ss.take (k+1))=zk o1 (ss.take k)++[(((o1+k:Nat):Int),ss[k])]:=by
    rw[List.take_succ_eq_append_getElem hlt,cy];simp only[List.length_take];rw[Nat.min_eq_left (by omega)]
   have dw:(zk o1 (ss.take k)).length=k:=by rw[ze];simp;omega
   generalize ss[k]=x at *;have kV:=QH (xu.out.trans (HB.out.mono xu.out.size));have e0:wr.cell? ⟨b,o+k,none⟩=some (.string (str x)):=by rw[kV.out.cell (p:=⟨b,o+k,none⟩) hb];exact hc
   have hb2:b<wr.heap.size:=Nat.lt_of_lt_of_le hb kV.out.size;have hB2:=KB.out.of_block (HB.out.block _ k0);have q0:=hB2.cell 0;have q1:=hB2.cell 1;have lt2:=hB2.lt;have pX:(k:Int)<(ss.length:Int):=by omega
   have kg:=QH hsn;have bB:=QH dw;clear hc hB2 hsn;go_wp2_with fail;refine(HF.out _).mono ?_;rintro e W1 ⟨rfl,b1⟩;have ho1:W1.ownsRow w0.heap.size 182 2 _ _ _:=yg HO.out (fun j hj=>b1.block j (l5 HO.out j hj));have qR:=QH (HB.out.trans (b1.mono HB.out.size));have hown2:=ho1.alloc (.cells #[.int .i64 ((o1:Int)+(k:Int)),.string (str x)] 182);have hnews:=fU W1 182 (.int .i64 ((o1:Int)+(k:Int))) (.string (str x));have gH:=QH hown2;have dC:=QH hnews;have qB:=QH (qR.out.alloc qR.out.size (.cells #[.int .i64 ((o1:Int)+(k:Int)),.string (str x)] 182));clear b1 ho1 hown2 hnews q0 q1;have hkb:k≤100000:=by omega
   go_wp2_with (at_builtin;refine wpList_append_own _ rfl (.tmp 15) (.tmp 22) 136 rfl w0.heap.size 182 i0 (.agg #[.int .i64 0,.string ByteArray.empty]) 2 24 underlying136 hi hz0 hz1 hz2 rfl (by decide) _ (zk o1 (ss.take k)).length _ rfl gH.out ⟨W1.heap.size,0,none⟩ 1 1 [.int .i64 ((o1:Int)+(k:Int)),.string (str x)] rfl rfl dC.out (fT (((o1:Int)+(k:Int)),x)) ?_ ?_ qB.out.size ?_)
   ·rw[bB.out];unfold maxLen;omega
   ·rw[bB.out];omega
   ·intro v' w1 hown1 hgrow _;have hb1:=qB.out.grown hgrow qB.out.size (fun j hj=>(gH.out.lt j hj).1);have hos:=mQ.snoc (w1:=w1) (B:=w0.heap.size) (v':=v') (l:=zk o1 (ss.take k)) (x:=((o1:Int)+(k:Int),x)) (by rw[bB.out];exact hown1);have HOS:=QH hos;have qY:=QH hb1;clear hb1 hos hown1 hgrow;go_wp2_with fail;go_roundw;case rel=>exact⟨k+1,by omega,by go_num,by rw[kg.out];exact HOS.out,qY.out⟩
    case measure=>simp[intOf];omega
  ·obtain rfl:k=ss.length:=by omega
   go_wp2_with fail;go_ret;have:=HO.out;rw[List.take_length]at this;refine⟨_,rfl,?_,xu.out.trans (HB.out.mono xu.out.size)⟩;exact qnZ this xu.out.size
end Go.Proofs.YtdagdllomphidaaGreatDoor.jr
namespace Go.Proofs.YtdagdllomphidaaGreatDoor.vt.pg
open _root_.Go.Proofs.Tryz Go Go.RowKit ib mt im sp
abbrev Wr:=jr.Wr
theorem qbJ:(prog.info? 182).map (fun i=>(i.zero,i.size,i.bytes))=some (some (.agg #[.int .i64 0,.string ByteArray.empty]),2,24):=by kernel_rfl
def wz (n:Nat):List Value:=jr.zT (List.replicate n (0,[]))
theorem qoa(n:Nat):(wz n).length=n*2:=by unfold wz;rw[jr.jv,List.length_replicate]
theorem qwi(n:Nat):madeCells #[.int .i64 0,.string ByteArray.empty] (n*2)=(wz n).toArray:=by
 apply Array.ext
 ·rw[size_madeCells,List.size_toArray,qoa]
 ·intro j h1 h2;have hj:j<n*2:=by simpa[qoa]using h2
  have hm:j%2<2:=Nat.mod_lt _ (by omega);have hg:=jr.uZ (List.replicate n ((0:Int),([]:List UInt8))) (j/2) (by simp;omega);rw[List.getElem_replicate]at hg;have e2:(wz n).toArray[j]?=some (if j%2=0 then .int .i64 0 else .string (str [])):=by
   rw[List.getElem?_toArray];unfold wz;by_cases h0:j%2=0
   ·rw[if_pos h0];have:=hg.1;rw[show j/2*2=j by omega]at this;exact this
   ·rw[if_neg h0];have:=hg.2;rw[show j/2*2+1=j by omega]at this;exact this
  rw[Array.getElem?_eq_getElem h2]at e2;rw[Option.some.inj e2];obtain⟨q,hq⟩:=QE (j%2);rw[hq]at hm ⊢
  match q,hm with
  | 0,_=>simp[madeCells,hq]
  | 1,_=>simp[madeCells,hq];rfl
theorem qg8{ρ:Operand→Value}{o:Oper}{w:World}(x y:Operand)(n:Nat)(ho:o.op=.makeSlice 136 x y)(hx:ρ x=.int .i64 (n:Int))(hy:ρ y=.int .i64 (n:Int))(h:n≤1000) :
    (execOp ρ o).run prog w=.ok (.value (.slice (some ⟨w.heap.size,0,none⟩) n n)) (w.alloc (.cells (wz n).toArray 182)):=by
 obtain⟨i0,hi,hz0,hz1,hz2⟩:=info_parts qbJ;have hmk:=run_make (P:=prog) w 136 182 i0 (.agg #[.int .i64 0,.string ByteArray.empty]) underlying136 hi hz0 .i64 .i64 (n:Int) (n:Int) (by omega) (Int.le_refl _) (by rw[hz2];omega) (by omega);rw[hz1]at hmk;have:(Instr.makeSlice 136 (.int .i64 (n:Int)) (.int .i64 (n:Int))).run prog w=.ok (.slice (some ⟨w.heap.size,0,none⟩) n n) (w.alloc (.cells (wz n).toArray 182)):=by
  rw[← qwi];simpa[Value.cells]using hmk
 simp[execOp,ho,hx,hy,this,Result.andThen]
theorem cV:∀(l:List Wr) (k:Nat) (_:k<l.length) (x:Wr),((jr.zT l).set (k*2) (.int .i64 x.1)).set (k*2+1) (.string (str x.2))=jr.zT (l.set k x)
 | y::l,0,_,x=>rfl
 | y::l,k+1,hk,x=>by
  have ih:=cV l k (by simpa using hk) x;rw[show(k+1)*2=k*2+1+1 by omega];simp only[jr.zT,List.set_cons_succ];exact congrArg _ (congrArg _ ih)
theorem qrJ{ss:List Bt}{n k:Nat}(hl:ss.length=n)(hk:k<n):(jr.zk 145 (ss.take k)++List.replicate (n-k) ((0:Int),([]:List UInt8))).set k (((145+k:Nat):Int),ss[k]'(by omega))=jr.zk 145 (ss.take (k+1))++List.replicate (n-(k+1)) ((0:Int),([]:List UInt8)):=by
 have eX:(jr.zk 145 (ss.take k)).length=k:=by rw[jr.ze,List.length_take];omega
 rw[List.set_append_right _ _ (by omega),eX,Nat.sub_self,show n-k=(n-(k+1))+1 by omega,List.replicate_succ,List.set_cons_zero,List.take_succ_eq_append_getElem (by omega),jr.cy,List.length_take,Nat.min_eq_left (by omega),List.append_assoc];rfl
def WrR (ss:List Bt)(g:Nat)(w:World)(i:Value)(wr:World):Prop :=
 ∃k:Nat,k≤ss.length∧i=.int .i64 (k:Int)∧qf wr g 182 (jr.zT (jr.zk 145 (ss.take k)++List.replicate (ss.length-k) ((0:Int),([]:List UInt8)))).toArray∧ib.qy (fun j=>j=g) w wr
def q5X (m:Mt)(w:World)(e:Ending)(w':World):Prop:=∃v,e=.returned (.tuple #[v,.int .i64 0])∧jr.mQ w' w.heap.size v (jr.zk 145 (xG m))∧Below w.heap.size w w'
theorem pZ {w:World}{A0 A1 A2:Option Addr}{c0 c1 c2:Nat}{m:Mt}(ht:MtL w A0 A1 A2 c0 c1 c2 m)(hsz:mtS m)(hE:dn m=(zI m,0))(q5Y:(zI m).length≤999)(hT:xK w) :
    Calls prog 73 #[.agg (zq A0 A1 A2 c0 c1 c2 m)] w (q5X m w):=by
 obtain⟨W1,hW1,zK,hb1⟩:=xW w (zq A0 A1 A2 c0 c1 c2 m);have qR:=QH hb1;have he:=mt.pg.qhO (.agg (zq A0 A1 A2 c0 c1 c2 m)) m W1 ⟨A0,A1,A2,c0,c1,c2,rfl,ht.below hb1⟩ hsz;rw[hE]at he;have HE:=QH he;have hPk:∀W,xK W→Calls prog 116 #[.string (str (zI m))] W (qnJ (str (zI m)) W):=fun W h=>fP _ W (by rw[qQ];omega) h;have qax:qL (bl (str (zI m)))=xG m:=by rw[zi];rfl
 obtain⟨S,hS⟩:=QE (str (zI m));rw[hS]at hPk qax;have HPK:=QH hPk;have HSE:=QH qax;have h48:(xG m).length≤48:=by
  unfold xG;rw[yb];unfold nsec;omega
 have HTT:Hid (∀W,Below w.heap.size w W→xK W):=fun W h=>hT.below h hT.1;have q0:=zK.cell 0;have q1:=zK.cell 1;have q2:=zK.cell 2;have q3:=zK.cell 3;have q4:=zK.cell 4;have q5:=zK.cell 5;have q6:=zK.cell 6;have q7:=zK.cell 7;have q8:=zK.cell 8;have mK:=zK.lt;simp only[zq,QA,QB,QC]at q0 q1 q2 q3 q4 q5 q6 q7 q8;unfold qyF at HE;dsimp only at HE;rw[hS]at HE;clear ht zK hb1 he hPk qax hT hS hsz hE q5Y;unfold zq at hW1 HE ⊢;go_enter func73,ntmps73;go_upto_region 1 with fail;try rw[hW1]
 clear hW1;go_wp2_with fail;refine HE.out.mono ?_;rintro e W2 ⟨rfl,hb2⟩;have qB:=QH (qc qR.out hb2);clear hb2 HE q0 q1 q2 q3 q4 q5 q6 q7 q8 mK;go_wp2_with fail;refine(HPK.out W2 (HTT.out W2 qB.out)).mono ?_;rintro e W3 ⟨v,rfl,ho,hb3⟩;rw[HSE.out]at ho;obtain⟨A,c,hv,_,_,hp,_,_⟩:=ho.view;subst hv;have HP:=QH hp;have qY:=QH (qc qB.out hb3);obtain⟨ss,hss⟩:=QE (xG m);have HM:=QH hss;rw[hss]at HP h48 ⊢;clear ho hp hb3 HSE HPK HTT hss;have hb4:=(Below.refl _ W3).alloc (Nat.le_refl _) (.cells (wz ss.length).toArray 182);have hk4:=qf.new W3 182 (wz ss.length).toArray;obtain⟨W4,sW⟩:=QE (W3.alloc (.cells (wz ss.length).toArray 182));rw[sW]at hb4 hk4;have zP:=QH (qc qY.out hb4);have mv:=QH hk4;have HP4:Hid (∀i (h:i<ss.length),∃b o,A=some ⟨b,o,none⟩∧b<W3.heap.size∧W4.cell? ⟨b,o+i,none⟩=some (.string (str ss[i]))):=fun i hi=>by
  obtain⟨b,o,h1,h2,h3⟩:=HP.out i hi;exact⟨b,o,h1,h2,(hb4.cell (p:=⟨b,o+i,none⟩) h2).trans h3⟩
 have q6a:Hid (W3.heap.size≤W4.heap.size):=hb4.size;have HGE:Hid (w.heap.size≤W3.heap.size):=qY.out.size;clear hb4 hk4 HP;go_wp2_with (at_make;refine qg rfl (qg8 _ _ ss.length rfl rfl rfl (by omega)) ?_);try rw[sW]
 clear sW;go_loopw [37] (fun i wr=>WrR ss W3.heap.size W4 i wr) (fun i _=>ss.length-(intOf i).toNat);case atStart=>exact⟨0,Nat.zero_le _,rfl,mv.out,ib.qy.refl _ _⟩
 case round =>
  obtain⟨k,hk,rfl,yC,hB⟩:=hrel;have yL:=QH yC;have HU:=QH hB;have HB:Hid (Below w.heap.size w wr):=zP.out.trans (hB.below (fun i e=>by rw[e];exact HGE.out) zP.out.size);clear yC hB;by_cases hlt:k<ss.length
  ·have jG:(k:Int)<(ss.length:Int):=by omega
   have hk0:¬ (k:Int)<0:=by omega
   obtain⟨b,o,rfl,s1,s2⟩:=HP4.out k hlt;have s0:b<W4.heap.size:=Nat.lt_of_lt_of_le s1 q6a.out;have s3:b<wr.heap.size:=Nat.lt_of_lt_of_le s0 HU.out.size;have s4:=(World.cell?_of_block (a:=⟨b,o+k,none⟩) (HU.out.block b s0 (by show ¬ b=W3.heap.size;omega))).trans s2;have HLS:=QH (qrJ (ss:=ss) rfl hlt);have hlen:(jr.zk 145 (ss.take k)++List.replicate (ss.length-k) ((0:Int),([]:List UInt8))).length=ss.length:=by
    rw[List.length_append,jr.ze,List.length_take,List.length_replicate];omega
   have HVS:=QH (cV (jr.zk 145 (ss.take k)++List.replicate (ss.length-k) ((0:Int),([]:List UInt8))) k (by omega) (((145+k:Nat):Int),ss[k]));rw[HLS.out]at HVS;obtain⟨x,hx⟩:=QE (ss[k]);rw[hx]at HVS s4;obtain⟨g0,g1⟩:=jr.uZ (jr.zk 145 (ss.take k)++List.replicate (ss.length-k) ((0:Int),([]:List UInt8))) k (by omega);have k0:wr.cell? ⟨W3.heap.size,k*2,none⟩=some (.int .i64 ((jr.zk 145 (ss.take k)++List.replicate (ss.length-k) ((0:Int),([]:List UInt8)))[k]'(by omega)).1):=by rw[yL.out.cell];simpa using g0
   have k1:wr.cell? ⟨W3.heap.size,k*2+1,none⟩=some (.string (str ((jr.zk 145 (ss.take k)++List.replicate (ss.length-k) ((0:Int),([]:List UInt8)))[k]'(by omega)).2)):=by rw[yL.out.cell];simpa using g1
   obtain⟨z0,hz0⟩:∃z,wr.cell? ⟨W3.heap.size,k*2,none⟩=some z:=⟨_,k0⟩;obtain⟨z1,hz1⟩:∃z,wr.cell? ⟨W3.heap.size,k*2+1,none⟩=some z:=⟨_,k1⟩;have f0:=yL.out.frozen (k*2);have f1:=yL.out.frozen (k*2+1);have dt:=yL.out.lt;have ny:Hid (qf ((wr.setCell ⟨W3.heap.size,k*2,none⟩ (.int .i64 (145+(k:Int)))).setCell ⟨W3.heap.size,k*2+1,none⟩ (.string (str x))) W3.heap.size 182 (jr.zT (jr.zk 145 (ss.take (k+1))++List.replicate (ss.length-(k+1)) ((0:Int),([]:List UInt8)))).toArray):=by
    have h:=(yL.out.qo (k*2) (.int .i64 (145+(k:Int)))).qo (k*2+1) (.string (str x));rw[List.setIfInBounds_toArray,List.setIfInBounds_toArray]at h;rw[← HVS.out];have e:(((145+k:Nat):Int))=145+(k:Int):=by omega
    dsimp only;rw[e];exact h
   have xQ:Hid (ib.qy (fun j=>j=W3.heap.size) W4 ((wr.setCell ⟨W3.heap.size,k*2,none⟩ (.int .i64 (145+(k:Int)))).setCell ⟨W3.heap.size,k*2+1,none⟩ (.string (str x)))):=(HU.out.setCell ⟨W3.heap.size,k*2,none⟩ _ (.inl rfl)).setCell ⟨W3.heap.size,k*2+1,none⟩ _ (.inl rfl);have hw:IntKind.i64.wrap (145+(k:Int))=145+(k:Int):=by rw[IntWalk.i64_in _ (by omega)]
   clear hx hlen HVS HLS g0 g1 k0 k1 s0 s1 s2;go_wp2_with fail;go_roundw;case rel=>exact⟨k+1,by omega,by go_num,ny.out,xQ.out⟩
   case measure=>simp[intOf];omega
  ·obtain rfl:k=ss.length:=by omega
   have jG:¬ (ss.length:Int)<(ss.length:Int):=by omega
   have yC:=yL.out;rw[List.take_length,Nat.sub_self,List.replicate_zero,List.append_nil]at yC;have HO:Hid (jr.mQ wr w.heap.size (.slice (some ⟨W3.heap.size,0,none⟩) ss.length ss.length) (jr.zk 145 ss)):=by
    refine⟨by rw[jr.jv],.inr ⟨W3.heap.size,ss.length,_,by rw[jr.ze],HGE.out,yC,by rw[jr.ze];exact Nat.le_refl _,by unfold maxLen;omega,?_,?_⟩⟩
    ·rw[List.size_toArray,jr.jv,jr.ze]
    ·rw[jr.ze];have:(jr.zT (jr.zk 145 ss)).length=ss.length*2:=by rw[jr.jv,jr.ze]
     show(jr.zT (jr.zk 145 ss)).take (ss.length*2)=_;rw[← this,List.take_length]
   clear yC;go_wp2_with fail;go_ret2;exact⟨_,rfl,by rw[HM.out];exact HO.out,HB.out⟩
def qob (w:World)(k:FuncId)(b:Value)(h:Wr→Bool)(l:List Wr):Prop:=∀W,Below w.heap.size w W→∀x∈l,Calls prog k #[b,.agg #[.int .i64 x.1,.string (str x.2)]] W (dL (h x) W)
structure wO(w:World)(g n c:Nat)(l:List Wr):Prop where
 ex:∃cur,qf w g 182 cur∧cur.size=c*2∧cur.toList.take (n*2)=jr.zT l
 len:l.length=n
 cap:n≤c
theorem wO.cells{w:World}{g n c:Nat}{l:List Wr}(h:wO w g n c l)(i:Nat)(hi:i<l.length):w.cell? ⟨g,i*2,none⟩=some (.int .i64 l[i].1)∧w.cell? ⟨g,i*2+1,none⟩=some (.string (str l[i].2)):=by
 obtain⟨cur,h1,h2,h3⟩:=h.ex;obtain⟨a,b⟩:=jr.uZ l i hi;exact⟨jg h1 h3 _ _ a,jg h1 h3 _ _ b⟩
theorem wO.lt{w:World}{g n c:Nat}{l:List Wr}(h:wO w g n c l):g<w.heap.size:=by
 obtain⟨cur,h1,_⟩:=h.ex;exact h1.lt
theorem wO.fro{w:World}{g n c:Nat}{l:List Wr}(h:wO w g n c l)(i:Nat):w.frozen? ⟨g,i,none⟩=false:=by
 obtain⟨cur,h1,_⟩:=h.ex;exact h1.frozen i
theorem wO.below{w w':World}{g n c:Nat}{l:List Wr}(h:wO w g n c l)(hb:Below w.heap.size w w'):wO w' g n c l:=by
 obtain⟨cur,h1,h2,h3⟩:=h.ex;exact⟨⟨cur,h1.below hb,h2,h3⟩,h.len,h.cap⟩
theorem wO.set{w:World}{g n c:Nat}{l:List Wr}(h:wO w g n c l)(i:Nat)(hi:i<l.length)(x:Wr):wO ((w.setCell ⟨g,i*2,none⟩ (.int .i64 x.1)).setCell ⟨g,i*2+1,none⟩ (.string (str x.2))) g n c (l.set i x):=by
 obtain⟨cur,h1,h2,h3⟩:=h.ex;refine⟨⟨_,(h1.qo (i*2) _).qo (i*2+1) _,by simpa using h2,?_⟩,by rw[List.length_set];exact h.len,h.cap⟩;rw[Array.toList_setIfInBounds,Array.toList_setIfInBounds,List.take_set,List.take_set,h3];exact cV l i hi x
theorem wO.ows{w:World}{g n c B:Nat}{l:List Wr}(h:wO w g n c l)(hB:B≤g)(hc:c≤maxLen):jr.mQ w B (.slice (some ⟨g,0,none⟩) n c) l:=by
 obtain⟨cur,h1,h2,h3⟩:=h.ex;refine⟨by rw[jr.jv],.inr ⟨g,c,cur,by rw[h.len],hB,h1,by rw[h.len];exact h.cap,hc,h2,by rw[h.len];exact h3⟩⟩
theorem wO.qwj{w:World}{B:Nat}{v:Value}{l:List Wr}(h:jr.mQ w B v l)(h1:0<l.length):∃g c,v=.slice (some ⟨g,0,none⟩) l.length c∧B≤g∧wO w g l.length c l∧c≤maxLen:=by
 rcases h.2 with⟨_,h0⟩|⟨g,cap,cur,hv,hg,hh,hcc,hm,hcs,xP⟩
 ·omega
 ·exact⟨g,cap,hv,hg,⟨⟨cur,hh,hcs,xP⟩,rfl,hcc⟩,hm⟩
def IxW (l:List Wr)(h:Wr→Bool)(w:World)(i:Value)(wr:World):Prop :=
 ∃k:Nat,k≤l.length∧i=.int .i64 (k:Int)∧(∀j (hj:j<l.length),j<k→h l[j]=false)∧Below w.heap.size w wr
def q0l (l:List Wr)(h:Wr→Bool)(w:World)(e:Ending)(w':World):Prop:=Below w.heap.size w w'∧((∃(k:Nat) (hk:k<l.length),e=.returned (.int .i64 (k:Int))∧h l[k]=true∧∀j (hj:j<l.length),j<k→h l[j]=false)∨(e=.returned (.int .i64 (-1))∧∀j (hj:j<l.length),h l[j]=false))
theorem qoc{w0 w:World}{g n c:Nat}{b:Value}{h:Wr→Bool}{l:List Wr}(hR:wO w g n c l)(hb:Below w0.heap.size w0 w)(hC:qob w0 106 b h l)(hl:l.length≤1000) :
    Calls prog 164 #[.slice (some ⟨g,0,none⟩) n c,.func (.func 106) #[b] #[]] w (q0l l h w):=by
 have HR:=QH hR;have xu:=QH hb;have HC:=QH hC;have dw:=hR.len;subst dw;clear hR hb hC;go_enter func164,ntmps164;go_wp2_with fail;go_loopw [8] (fun i wr=>IxW l h w i wr) (fun i _=>l.length-(intOf i).toNat);case atStart=>exact⟨0,Nat.zero_le _,rfl,fun j _ h=>absurd h (by omega),Below.refl _ _⟩
 case round =>
  obtain⟨k,hk,rfl,hno,hB⟩:=hrel;have vr:=QH hno;have HB:=QH hB;clear hno hB;by_cases hlt:k<l.length
  ·have jG:(k:Int)<(l.length:Int):=by omega
   have hk0:¬ (k:Int)<0:=by omega
   have hr:=HR.out.below HB.out;obtain⟨s0,s1⟩:=hr.cells k hlt;have dt:=hr.lt;have gK:=QH (HC.out wr (qc xu.out HB.out) l[k] (List.getElem_mem hlt));have HNX:Hid (h l[k]=false→∀j (hj:j<l.length),j<k+1→h l[j]=false):=fun hne j hj hjk=>by
    by_cases qod:j<k
    ·exact vr.out j hj qod
    ·obtain rfl:j=k:=by omega
     exact hne
   obtain⟨q,hq⟩:=QE (h l[k]);have HQ:Hid (h l[k]=q):=hq;rw[hq]at gK HNX;have HLK:Hid (l[k]=l[k]):=rfl;obtain⟨x,hx⟩:=QE (l[k]);rw[hx]at s0 s1 gK;clear hx HLK;clear hr hq;go_wp2_with fail;refine gK.out.mono ?_;rintro e W1 ⟨rfl,hb1⟩;have qR:=QH (HB.out.trans (hb1.mono HB.out.size));clear hb1;cases q with
   | true =>
    clear HNX gK;go_wp2_with fail;go_ret;exact⟨qR.out,.inl ⟨k,hlt,rfl,HQ.out,vr.out⟩⟩
   | false =>
    have HN:=QH (HNX.out rfl);clear HNX gK;go_wp2_with fail;go_roundw;case rel=>exact⟨k+1,by omega,by go_num,HN.out,qR.out⟩
    case measure=>simp[intOf];omega
  ·have jG:¬ (k:Int)<(l.length:Int):=by omega
   go_wp2_with fail;go_ret;exact⟨HB.out,.inr ⟨rfl,fun j hj=>vr.out j hj (by omega)⟩⟩
theorem qg9(w:World)(ty:TypeId)(g o n c:Nat)(cur:Array Value)(hg:qf w g 182 cur)(hn:0<n)(qnn:o+n*2≤cur.size) :
    ∃zs:List Value,zs.length=n*2∧(Builtin.clear_ #[136] ty #[.slice (some ⟨g,o,none⟩) n c]).run prog w=.ok (.tuple #[]) (w.setRow g (cur.toList.take o++zs++cur.toList.drop (o+zs.length)).toArray):=by
 obtain⟨i0,hi,hz0,hz1,hz2⟩:=info_parts qbJ;obtain⟨m,rfl⟩:∃m,n=m+1:=⟨n-1,by omega⟩;have hz:(zeroValue 182).run prog w=.ok (.agg #[.int .i64 0,.string ByteArray.empty]) w:=by
  simp[zeroValue,typeInfo,hi,hz0]
 refine⟨(Builtin.zeroCells (Value.agg #[.int .i64 0,.string ByteArray.empty]).cells (m+1)).toList,?_,?_⟩
 ·simp[Builtin.zeroCells,Value.cells]
 ·have hst:=run_storeCells_at prog g o 182 (Builtin.zeroCells (Value.agg #[.int .i64 0,.string ByteArray.empty]).cells (m+1)).toList 0 cur w hg (by simp[Builtin.zeroCells,Value.cells];omega) (by
     intro v hv;simp only[Builtin.zeroCells,Value.cells,Array.toList_map,List.mem_map]at hv;obtain⟨i,_,rfl⟩:=hv;have hm:i%2<2:=Nat.mod_lt _ (by omega);show(#[Value.int .i64 0,.string ByteArray.empty][i%2]!).oneCell'=true;obtain⟨q,hq⟩:=QE (i%2);rw[hq]at hm ⊢
     match q,hm with
     | 0,_=>rfl
     | 1,_=>rfl)
  simp[Builtin.clear_,run_underlying underlying136,hz,Result.andThen];simp at hst;rw[hst]
def bQ (h:Wr→Bool)(l:List Wr):List Wr:=l.filter fun x=>!h x
theorem cY {h:Wr→Bool}{l:List Wr}{j:Nat}(hj:j<l.length):bQ h (l.take (j+1))=bQ h (l.take j)++(if h l[j]then[]else[l[j]]):=by
 unfold bQ;rw[List.take_succ_eq_append_getElem hj,List.filter_append];cases hq:h l[j] <;> simp[hq]
theorem r9 {h:Wr→Bool}{l:List Wr}(hn:∀j (hj:j<l.length),h l[j]=false):bQ h l=l:=by
 unfold bQ;rw[List.filter_eq_self];intro x hx;obtain⟨j,hj,rfl⟩:=List.getElem_of_mem hx;rw[hn j hj];rfl
structure DlS(l K:List Wr)(h:Wr→Bool)(i j:Nat):Prop where
 len:K.length=l.length
 lt:i<j
 le:j≤l.length
 kept:K.take i=bQ h (l.take j)
 rest:K.drop j=l.drop j
theorem DlS.at_{l K:List Wr}{h:Wr→Bool}{i j:Nat}(s:DlS l K h i j)(hj:j<l.length)(hk:j<K.length):K[j]=l[j]:=by
 have e:=congrArg (fun x=>x[0]?) s.rest;simp only[List.getElem?_drop,Nat.add_zero]at e;rw[List.getElem?_eq_getElem hj,List.getElem?_eq_getElem hk]at e;exact Option.some.inj e
theorem DlS.q6b{l K:List Wr}{h:Wr→Bool}{i j:Nat}(s:DlS l K h i j)(hj:j<l.length)(hd:h l[j]=true):DlS l K h i (j+1):=by
 refine⟨s.len,by have:=s.lt;omega,by omega,?_,?_⟩
 ·rw[cY hj,hd,s.kept];simp
 ·have:=congrArg (List.drop 1) s.rest
  rwa [List.drop_drop,List.drop_drop]at this
theorem DlS.keep{l K:List Wr}{h:Wr→Bool}{i j:Nat}(s:DlS l K h i j)(hj:j<l.length)(hd:h l[j]=false):DlS l (K.set i l[j]) h (i+1) (j+1):=by
 have hlt:=s.lt;have hle:=s.len;refine⟨by rw[List.length_set];exact s.len,by omega,by omega,?_,?_⟩
 ·rw[cY hj,hd,← s.kept];apply List.ext_getElem?;intro k;simp only[List.getElem?_take,List.getElem?_set,List.getElem?_append,List.length_take];by_cases h1:k<i
  ·rw[if_pos (by omega),if_neg (by omega),if_pos (by omega),if_pos h1]
  ·by_cases h2:k=i
   ·subst h2;rw[if_pos (by omega),if_pos rfl,if_pos (by omega),if_neg (by omega),show k-min k K.length=0 by omega];rfl
   ·rw[if_neg (by omega),if_neg (by omega)];obtain⟨q,hq⟩:∃q,k-min i K.length=q+1:=⟨k-min i K.length-1,by omega⟩;rw[hq];rfl
 ·have:=congrArg (List.drop 1) s.rest;rw[List.drop_drop,List.drop_drop]at this;rw[List.drop_set_of_lt (by omega)];exact this
def DlR (l:List Wr)(h:Wr→Bool)(g c:Nat)(w0:World)(i j:Value)(wr:World):Prop :=
 ∃(a b:Nat) (K:List Wr),i=.int .i64 (a:Int)∧j=.int .i64 (b:Int)∧DlS l K h a b∧wO wr g l.length c K∧Below w0.heap.size w0 wr
def qoe (l:List Wr)(h:Wr→Bool)(w0:World)(e:Ending)(w':World):Prop:=∃v,e=.returned v∧jr.mQ w' w0.heap.size v (bQ h l)∧Below w0.heap.size w0 w'
theorem qrK{w0 w:World}{v b:Value}{h:Wr→Bool}{l:List Wr}(ho:jr.mQ w w0.heap.size v l)(h1:0<l.length)(hl:l.length≤1000)(hb:Below w0.heap.size w0 w)(hC:qob w0 106 b h l) :
    Calls prog 105 #[v,.func (.func 106) #[b] #[]] w (qoe l h w0):=by
 obtain⟨g,c,rfl,hg,hR,hcm⟩:=wO.qwj ho h1;have HI:=QH (qoc hR hb hC hl);have HR:=QH hR;have xu:=QH hb;have HC:=QH hC;have HG:=QH hg;have HCM:=QH hcm;clear ho hg hR hcm hb hC;go_enter func105,ntmps105;go_wp2_with fail;refine HI.out.mono ?_;rintro e W1 ⟨hb1,qdN⟩;have qR:=QH (qc xu.out hb1);have jH:=QH (HR.out.below hb1);clear hb1 HI;rcases qdN with⟨k,hk,rfl,hd,hno⟩|⟨rfl,hno⟩
 case' inr =>
  have vr:=QH (r9 hno);clear hno;go_wp2_with fail;go_ret;exact⟨_,rfl,by rw[vr.out];exact jH.out.ows HG.out HCM.out,qR.out⟩
 have sJ:Hid (DlS l l h k (k+1)):=by
  refine⟨rfl,by omega,by omega,?_,rfl⟩;rw[cY hk,hd,if_pos rfl,List.append_nil];exact(r9 (l:=l.take k) (fun j hj=>by
   have hjk:j<k:=by rw[List.length_take]at hj;omega
   rw[List.getElem_take];exact hno j _ hjk)).symm
 clear hd hno;have hkw:IntKind.i64.wrap ((k:Int)+1)=((k+1:Nat):Int):=by rw[IntWalk.i64_in _ (by omega)];omega
 have hkn:((k:Int) == -1)=false:=beq_false_of_ne (by omega);go_wp2_with fail;go_loopw [5,6] (fun i j wr=>DlR l h g c w0 i j wr) (fun _ j _=>l.length-(intOf j).toNat);case atStart=>exact⟨k,k+1,l,rfl,by go_num,sJ.out,jH.out,qR.out⟩
 case round =>
  obtain⟨a,b',K,rfl,rfl,hs,hr,hB⟩:=hrel;have HS:=QH hs;have HRW:=QH hr;have HB:=QH hB;have hle:=hs.le;have zc2:=hs.lt;have hkl:=hs.len;clear hs hr hB;by_cases hlt:b'<l.length
  ·have hbi:(b':Int)<(l.length:Int):=by omega
   have hb0:¬ (b':Int)<0:=by omega
   have hai:(a:Int)<(l.length:Int):=by omega
   have ha0:¬ (a:Int)<0:=by omega
   have hKb:b'<K.length:=by omega
   obtain⟨s0,s1⟩:=HRW.out.cells b' hKb;have HAT:=QH (HS.out.at_ hlt hKb);have qrM:=QH (HS.out.q6b hlt);have qdO:=QH (HS.out.keep hlt);have dt:=HRW.out.lt;rw[HAT.out]at s0 s1;have gK:Hid (∀W,Below w0.heap.size w0 W→Calls prog 106 #[b,.agg #[.int .i64 l[b'].1,.string (str l[b'].2)]] W (dL (h l[b']) W)):=fun W hW=>HC.out W hW l[b'] (List.getElem_mem hlt);obtain⟨q,hq⟩:=QE (h l[b']);rw[hq]at gK qrM qdO;obtain⟨x,hx⟩:=QE (l[b']);rw[hx]at s0 s1 gK qdO;clear hx hq HAT;have kB:=(Below.refl _ wr).alloc (Nat.le_refl _) (.cells #[.int .i64 x.1,.string (str x.2)] 182);have nP:=qf.new wr 182 #[.int .i64 x.1,.string (str x.2)];obtain⟨W2,hW2⟩:=QE (wr.alloc (.cells #[.int .i64 x.1,.string (str x.2)] 182));rw[hW2]at kB nP;have jI:=QH (HRW.out.below kB);have qB:=QH (qc HB.out kB);have HKX:=QH nP;have v0:=nP.cell 0;have v1:=nP.cell 1;have hvl:=nP.lt;simp only[QA,QB,QC]at v0 v1;clear kB nP;go_upto_region 8 with fail;try rw[hW2]
   clear hW2 s0 s1;go_wp2_with fail;refine(gK.out _ qB.out).mono ?_;rintro e W3 ⟨rfl,hb3⟩;have w6:=QH (jI.out.below hb3);have qY:=QH (qc qB.out hb3);have hk3:=HKX.out.below hb3;have v0:=hk3.cell 0;have v1:=hk3.cell 1;have hvl:=hk3.lt;simp only[QA,QB,QC]at v0 v1;have bL:IntKind.i64.wrap ((b':Int)+1)=((b'+1:Nat):Int):=by rw[IntWalk.i64_in _ (by omega)];omega
   clear hb3 gK jI HKX hk3;cases q with
   | true =>
    have HO:=QH (qrM.out rfl);clear qrM qdO;go_wp2_with fail;go_roundw;case rel=>exact⟨a,b'+1,K,rfl,by go_num,HO.out,w6.out,qY.out⟩
    case measure=>simp[intOf];omega
   | false =>
    have HO:=QH (qdO.out rfl);clear qrM qdO;have haK:a<K.length:=by omega
    obtain⟨t0,t1⟩:=w6.out.cells a haK;obtain⟨z0,hz0⟩:∃z,W3.cell? ⟨g,a*2,none⟩=some z:=⟨_,t0⟩;obtain⟨z1,hz1⟩:∃z,W3.cell? ⟨g,a*2+1,none⟩=some z:=⟨_,t1⟩;have f0:=w6.out.fro (a*2);have f1:=w6.out.fro (a*2+1);have dt:=w6.out.lt;have HR4:=QH (w6.out.set a haK x);have zP:Hid (Below w0.heap.size w0 ((W3.setCell ⟨g,a*2,none⟩ (.int .i64 x.1)).setCell ⟨g,a*2+1,none⟩ (.string (str x.2)))):=(qY.out.setCell (p:=⟨g,a*2,none⟩) HG.out _).setCell (p:=⟨g,a*2+1,none⟩) HG.out _;have haw:IntKind.i64.wrap ((a:Int)+1)=((a+1:Nat):Int):=by rw[IntWalk.i64_in _ (by omega)];omega
    clear t0 t1;go_wp2_with fail;go_roundw;case rel=>exact⟨a+1,b'+1,_,by go_num,by go_num,HO.out,HR4.out,zP.out⟩
    case measure=>simp[intOf];omega
  ·obtain rfl:b'=l.length:=by omega
   have hbi:¬ (l.length:Int)<(l.length:Int):=by omega
   have ha0:(0:Int)≤(a:Int):=by omega
   have hai:(a:Int)≤(l.length:Int):=by omega
   have hac:(a:Int)≤(c:Int):=by have:=HRW.out.cap;omega
   have qdP:=HS.out.kept;rw[List.take_length]at qdP;have HKP:=QH qdP;obtain⟨cur,c1,c2,c3⟩:=HRW.out.ex;have qmg:=HRW.out.cap;have hcl:∀ty,∃W4,(Builtin.clear_ #[136] ty #[.slice (some ⟨g,a*2,none⟩) (l.length-a) (c-a)]).run prog wr=.ok (.tuple #[]) W4∧wO W4 g a c (bQ h l)∧Below w0.heap.size w0 W4:=fun ty=>by
    obtain⟨zs,hzl,hrun⟩:=qg9 wr ty g (a*2) (l.length-a) (c-a) cur c1 (by omega) (by omega);refine⟨_,hrun,⟨⟨_,tU c1,?_,?_⟩,?_,by omega⟩,gj HB.out _ HG.out⟩
    ·simp[hzl];omega
    ·have hcl:cur.toList.length=c*2:=by simpa using c2
     show(cur.toList.take (a*2)++zs++cur.toList.drop (a*2+zs.length)).take (a*2)=_;rw[List.append_assoc,List.take_append_of_le_length (by rw[List.length_take];omega),List.take_take,Nat.min_self];have h5:jr.zT (K.take a)=(jr.zT K).take (a*2):=by
      have e:jr.zT K=jr.zT (K.take a)++jr.zT (K.drop a):=by rw[← jr.vV,List.take_append_drop]
      rw[e,List.take_left' (by rw[jr.jv,List.length_take];omega)]
     rw[← qdP,h5,← c3,List.take_take]
     congr 1
     omega
    ·rw[← qdP,List.length_take];omega
   obtain⟨W4,hc4,hr4,hb4⟩:=hcl 0;have zc4:∀ty,(Builtin.clear_ #[136] ty #[.slice (some ⟨g,a*2,none⟩) (l.length-a) (c-a)]).run prog wr=.ok (.tuple #[]) W4:=fun ty=>hc4;have HR4:=QH hr4;have zP:=QH hb4;have hcc:(l.length:Int)≤(c:Int):=by omega
   clear hc4 hr4 hb4 hcl qdP c1 c2 c3;go_wp2_with fail;go_ret;exact⟨_,rfl,HR4.out.ows HG.out HCM.out,zP.out⟩
end Go.Proofs.YtdagdllomphidaaGreatDoor.vt.pg
namespace Go.Proofs
open _root_.Go.Proofs.Tryz Go.Shelf
def Tryz.qdQ:Go.Shelf.Ren:=⟨fun | 160=>160 | 232=>193 | 231=>192 | 227=>194 | 234=>196 | 233=>195 | 236=>198 | 235=>197 | 228=>214 | 271=>217 | 151=>216 | 197=>215 | 120=>222 | 152=>221 | 260=>220 | 137=>224 | 119=>225 | 224=>226 | 225=>227 | 217=>228 | 266=>229|n=>n,fun | 9=>9 | 4=>4 | 3=>3 | 5=>5 | 117=>274 | 116=>273 | 0=>0 | 124=>277 | 21=>21 | 105=>295 | 46=>224 | 119=>300 | 139=>303 | 138=>302|n=>n,fun | 3=>2 | 4=>3|n=>n⟩
theorem Tryz.qrN:Go.Proofs.Lays.n160 prog Tryz.qdQ:={
 mixed:=by kernel_rfl
 f119:=func225.trans (congrArg some (by kernel_rfl))
 f120:=func222.trans (congrArg some (by kernel_rfl))
 f137:=func224.trans (congrArg some (by kernel_rfl))
 f151:=func216.trans (congrArg some (by kernel_rfl))
 f152:=func221.trans (congrArg some (by kernel_rfl))
 f160:=func160.trans (congrArg some (by kernel_rfl))
 f197:=func215.trans (congrArg some (by kernel_rfl))
 f217:=func228.trans (congrArg some (by kernel_rfl))
 f224:=func226.trans (congrArg some (by kernel_rfl))
 f225:=func227.trans (congrArg some (by kernel_rfl))
 f227:=func194.trans (congrArg some (by kernel_rfl))
 f228:=func214.trans (congrArg some (by kernel_rfl))
 f231:=func192.trans (congrArg some (by kernel_rfl))
 f232:=func193.trans (congrArg some (by kernel_rfl))
 f233:=func195.trans (congrArg some (by kernel_rfl))
 f234:=func196.trans (congrArg some (by kernel_rfl))
 f235:=func197.trans (congrArg some (by kernel_rfl))
 f236:=func198.trans (congrArg some (by kernel_rfl))
 f260:=func220.trans (congrArg some (by kernel_rfl))
 f266:=func229.trans (congrArg some (by kernel_rfl))
 f271:=func217.trans (congrArg some (by kernel_rfl))
 t0:=underlying0
 a0:=isAgg0
 z0:=sizeOf0
 v0:=zeroValue0
 t3:=underlying3
 a3:=isAgg3
 z3:=sizeOf3
 v3:=zeroValue3
 t4:=underlying4
 a4:=isAgg4
 z4:=sizeOf4
 v4:=zeroValue4
 t5:=underlying5
 a5:=isAgg5
 z5:=sizeOf5
 v5:=zeroValue5
 t9:=underlying9
 a9:=isAgg9
 z9:=sizeOf9
 v9:=zeroValue9
 t21:=underlying21
 a21:=isAgg21
 z21:=sizeOf21
 v21:=zeroValue21
 t46:=underlying224
 a46:=isAgg224
 z46:=sizeOf224
 v46:=zeroValue224
 t105:=underlying295
 a105:=isAgg295
 z105:=sizeOf295
 v105:=zeroValue295
 t116:=underlying273
 a116:=isAgg273
 z116:=sizeOf273
 t117:=underlying274
 a117:=isAgg274
 z117:=sizeOf274
 v117:=zeroValue274
 t119:=underlying300
 a119:=isAgg300
 z119:=sizeOf300
 t124:=underlying277
 a124:=isAgg277
 z124:=sizeOf277
 v124:=zeroValue277
 t138:=underlying302
 a138:=isAgg302
 z138:=sizeOf302
 v138:=zeroValue302
 t139:=underlying303
 a139:=isAgg303
 z139:=sizeOf303
 v139:=zeroValue303
 g3:=by kernel_rfl
 g4:=by kernel_rfl }
open Go.RowKit in
theorem Tryz.strings_Trim_one(s:ByteArray)(c:UInt8)(hc:c.toNat<128)(w:World)(hs:s.size≤9223372036854775807) :
    Calls prog 160 #[.string s,.string ⟨#[c]⟩] w fun e w'=>e=.returned (.string ⟨(Lib.trimB s.data.toList c).toArray⟩)∧(w'=w∨w'=w.drew):=Any.strings_Trim_one Tryz.qrN s c hc w hs
end Go.Proofs
namespace Go.Proofs.YtdagdllomphidaaGreatDoor.wi
open _root_.Go.Proofs.Tryz Go.RowKit
theorem qrO(b:Nat)(l:List UInt8)(w:World)(h:zo b l true w) :
    Calls prog 178 #[.pointer (some ⟨b,0,none⟩)] w fun e w'=>e=.returned (.bool false)∧w=w':=by
 go_enter func178,ntmps178;go_wp2_with (go_at_call 204;refine(qmh b l _ h).mono ?_;rintro e w' ⟨rfl,rfl⟩);go_ret;exact⟨rfl,rfl⟩
theorem qof(b:Nat)(l:List UInt8)(w:World)(h:zo b l false w) :
    Calls prog 178 #[.pointer (some ⟨b,0,none⟩)] w fun e w'=>e=.returned (.bool l.isEmpty)∧w=w':=by
 obtain⟨g,o,cap,hb,hr⟩:=h;have h1:w.cell? ⟨b,0,none⟩=some (.slice (some ⟨g,o,none⟩) l.length cap):=by simp[World.cell?,hb]
 have he:((l.length:Int) == 0)=l.isEmpty:=by cases l <;> simp;omega
 have hR:zo b l false w:=⟨g,o,cap,hb,hr⟩;have hlen:l.length≤140737488355328:=hr.2.2;clear hb hr;go_enter func178,ntmps178;go_wp2_with (go_at_call 204;refine(qfo b l _ hR).mono ?_;rintro e w' ⟨rfl,rfl⟩);go_ret;exact⟨rfl,rfl⟩
end Go.Proofs.YtdagdllomphidaaGreatDoor.wi
namespace Go.Proofs.YtdagdllomphidaaGreatDoor.jr
open _root_.Go.Proofs.Tryz Go Go.RowKit dk wi
def vK (t:Bt):Option (Wr × Bt):=match rdNum t with
 | none=>none
 | some (a,t1)=>match jm t1 with
  | none=>none
  | some (v,t2)=>some ((((min a 1024:Nat):Int),v),t2)
theorem fV (n:Nat)(t:Bt):ld (n+1) t=match vK t with|none=>none|some (x,r)=>match ld n r with|none=>none|some (l,q)=>some (x::l,q):=by
 rw[ld];unfold vK;cases rdNum t with
 | none=>rfl
 | some p =>
  obtain⟨a,t1⟩:=p;dsimp only;cases jm t1 with
  | none=>rfl
  | some q=>rfl
theorem aC:∀(k:Nat) (t:Bt),ld (k+1) t=match ld k t with|none=>none|some (l,r)=>match vK r with|none=>none|some (x,q)=>some (l++[x],q)
 | 0,t=>by
  rw[fV];show _=match vK t with|none=>none|some (x,q)=>some ([]++[x],q)
  cases vK t with
  | none=>rfl
  | some p=>rfl
 | k+1,t=>by
  rw[fV];cases h:vK t with
  | none =>
   have h2:ld (k+1) t=none:=by rw[fV,h]
   rw[h2]
  | some p =>
   obtain⟨x,r⟩:=p;have h2:ld (k+1) t=match ld k r with|none=>none|some (l,q)=>some (x::l,q):=by rw[fV,h]
   rw[h2];dsimp only;rw[aC k r];cases ld k r with
   | none=>rfl
   | some p2 =>
    obtain⟨l,q⟩:=p2;dsimp only;cases vK q with
    | none=>rfl
    | some p3=>rfl
theorem ra:∀(n k:Nat) (t:Bt),k≤n→ld k t=none→ld n t=none
 | 0,k,t,h,hk=>by
  obtain rfl:k=0:=by omega
  exact hk
 | n+1,k,t,h,hk=>by
  by_cases e:k=n+1
  ·rw[← e];exact hk
  ·rw[aC,ra n k t (by omega) hk]
theorem nQ:∀(n:Nat) (t:Bt) (l:List Wr) (r:Bt),ld n t=some (l,r)→l.length=n
 | 0,t,l,r,h=>by simp[ld]at h;simp[← h.1]
 | n+1,t,l,r,h=>by
  rw[fV]at h;cases h1:vK t with
  | none=>rw[h1]at h;cases h
  | some p =>
   obtain⟨x,q⟩:=p;rw[h1]at h;dsimp only at h;cases h2:ld n q with
   | none=>rw[h2]at h;cases h
   | some p2 =>
    obtain⟨l2,q2⟩:=p2;rw[h2]at h;simp at h;rw[← h.1];simp[nQ n q l2 q2 h2]
def Fill (cs:Array Value)(n:Nat)(l:List Wr):Prop:=cs.size=n*2∧∀i (h:i<l.length),cs[i*2]?=some (.int .i64 l[i].1)∧cs[i*2+1]?=some (.string (str l[i].2))
theorem qkj{cs:Array Value}{n:Nat}{l:List Wr}(h:Fill cs n l)(hl:l.length<n)(x:Wr):Fill ((cs.setIfInBounds (l.length*2) (.int .i64 x.1)).setIfInBounds (l.length*2+1) (.string (str x.2))) n (l++[x]):=by
 obtain⟨h1,h2⟩:=h;refine⟨by simpa using h1,fun i hi=>?_⟩;by_cases eE:i<l.length
 ·rw[List.getElem_append_left eE];obtain⟨g1,g2⟩:=h2 i eE;constructor
  ·rw[Array.getElem?_setIfInBounds_ne (by omega),Array.getElem?_setIfInBounds_ne (by omega)];exact g1
  ·rw[Array.getElem?_setIfInBounds_ne (by omega),Array.getElem?_setIfInBounds_ne (by omega)];exact g2
 ·have e:i=l.length:=by simp at hi;omega
  subst e;rw[List.getElem_append_right (Nat.le_refl _)];simp only[Nat.sub_self,List.getElem_cons_zero];constructor
  ·rw[Array.getElem?_setIfInBounds_ne (by omega),Array.getElem?_setIfInBounds_self_of_lt (by omega)]
  ·rw[Array.getElem?_setIfInBounds_self_of_lt (by rw[Array.size_setIfInBounds];omega)]
def S0 (n:Nat)(r0:Bt)(rb k:Nat)(cs:Array Value)(wr:World):Prop :=
 (∃l r,ld k r0=some (l,r)∧Fill cs n l∧zo rb r false wr∧∀x∈l,qD x.1)∨(ld n r0=none∧∃m,zo rb m true wr)
def S1 (n:Nat)(r0:Bt)(rb k:Nat)(cs:Array Value)(z:Nat)(wr:World):Prop :=
 (∃l r r1,ld k r0=some (l,r)∧Fill cs n l∧rdNum r=some (z,r1)∧zo rb r1 false wr∧∀x∈l,qD x.1)∨(ld n r0=none∧∃m,zo rb m true wr)
def S2 (n:Nat)(r0:Bt)(rb k:Nat)(cs:Array Value)(z:Nat)(t:Bt)(wr:World):Prop :=
 (∃l r,ld k r0=some (l,r)∧Fill cs n l∧(∀x∈l,qD x.1)∧∃q,ld (k+1) r0=some (l++[(((min z 1024:Nat):Int),t)],q)∧zo rb q false wr)∨(ld n r0=none∧∃m,zo rb m true wr)
def qrP (n:Nat)(r0:Bt)(rb k:Nat)(cs:Array Value)(w:World)(e:Ending)(w':World):Prop :=
 ∃z:Nat,e=.returned (.int .u64 (z:Int))∧z<18446744073709551616∧w.grownBy w' (some rb)∧S1 n r0 rb k cs z w'
def qog (n:Nat)(r0:Bt)(rb k:Nat)(cs:Array Value)(z:Nat)(w:World)(e:Ending)(w':World):Prop :=
 ∃t:Bt,e=.returned (.string (str t))∧w.grownBy w' (some rb)∧S2 n r0 rb k cs z t w'
theorem qkk{n:Nat}{r0:Bt}{rb k:Nat}{cs:Array Value}{w:World}(hk:k<n)(h:S0 n r0 rb k cs w):Calls prog 127 #[.pointer (some ⟨rb,0,none⟩)] w (qrP n r0 rb k cs w):=by
 rcases h with⟨l,r,h1,h2,h3,h4⟩|⟨h1,m,h2⟩
 ·refine(wm rb r w h3).mono ?_;rintro e w' ⟨hg,⟨z,r1,hn,rfl,hr⟩|⟨hn,rfl,hm⟩⟩
  ·exact⟨z,rfl,(dH _ _ _ hn).2,hg,.inl ⟨l,r,r1,h1,h2,hn,hr,h4⟩⟩
  ·refine⟨0,rfl,by decide,hg,.inr ⟨?_,hm⟩⟩;refine ra n (k+1) r0 (by omega) ?_;rw[aC,h1];dsimp only;have:vK r=none:=by unfold vK;rw[hn]
   rw[this]
 ·refine(ot rb m w h2).mono ?_;rintro e w' ⟨rfl,rfl⟩;exact⟨0,rfl,by decide,wW _ _,.inr ⟨h1,m,h2⟩⟩
theorem qgA{n:Nat}{r0:Bt}{rb k:Nat}{cs:Array Value}{z:Nat}{w:World}(hk:k<n)(h:S1 n r0 rb k cs z w):Calls prog 177 #[.pointer (some ⟨rb,0,none⟩)] w (qog n r0 rb k cs z w):=by
 rcases h with⟨l,r,r1,h1,h2,hn,h3,h4⟩|⟨h1,m,h2⟩
 ·refine(qg5 rb r1 w h3).mono ?_;rintro e w' ⟨hg,⟨t,r2,ht,rfl,hr⟩|⟨ht,rfl,hm⟩⟩
  ·refine⟨t,rfl,hg,.inl ⟨l,r,h1,h2,h4,r2,?_,hr⟩⟩;rw[aC,h1];dsimp only;have:vK r=some ((((min z 1024:Nat):Int),t),r2):=by
    unfold vK;rw[hn];dsimp only;rw[ht]
   rw[this]
  ·refine⟨[],rfl,hg,.inr ⟨?_,hm⟩⟩;refine ra n (k+1) r0 (by omega) ?_;rw[aC,h1];dsimp only;have:vK r=none:=by
    unfold vK;rw[hn];dsimp only;rw[ht]
   rw[this]
 ·refine(qkc rb m w h2).mono ?_;rintro e w' ⟨rfl,rfl⟩;exact⟨[],rfl,wW _ _,.inr ⟨h1,m,h2⟩⟩
def qrQ (w:World)(rb g n:Nat)(r0:Bt)(i:Value)(wr:World):Prop :=
 ∃(k:Nat) (cs:Array Value),k≤n∧i=.int .i64 (k:Int)∧qf wr g 182 cs∧cs.size=n*2∧Below w.heap.size w wr∧S0 n r0 rb k cs wr
def rf (r:Option (List Wr))(w:World)(e:Ending)(w':World):Prop :=
 Below w.heap.size w w'∧match r with
  | some l=>∃A c,e=.returned (.tuple #[.slice A l.length c,.bool true])∧uY w' A l
  | none=>∃A n c,e=.returned (.tuple #[.slice A n c,.bool false])
theorem qrR(n:Nat)(h:n≤60)(W:World):(Instr.makeSlice 136 (.int .u64 (n:Int)) (.int .u64 (n:Int))).run prog W=.ok (.slice (some ⟨W.heap.size,0,none⟩) n n) (W.alloc (.cells (madeCells #[.int .i64 0,.string ByteArray.empty] (n*2)) 182)):=by
 obtain⟨i0,hi,hz0,hz1,hz2⟩:=info_parts qnX;have hmk:=run_make (P:=prog) W 136 182 i0 (.agg #[.int .i64 0,.string ByteArray.empty]) underlying136 hi hz0 .u64 .u64 (n:Int) (n:Int) (by omega) (by omega) (by rw[hz2];omega) (by omega);rw[hz1]at hmk;simpa[Value.cells]using hmk
theorem fW {rb g i:Nat}{l:Bt}{x:Bool}{W:World}{cs:Array Value}{u:Value}(h:zo rb l x W)(hB:qf W g 182 cs):zo rb l x (W.setCell ⟨g,i,none⟩ u):=by
 obtain⟨q,o,cap,h1,h2,h3,h4⟩:=h;have n1:rb≠g:=by
  rintro rfl;unfold qf at hB;rw[h1]at hB;simp at hB
 have n2:q≠g:=by
  rintro rfl;obtain⟨cs',fr,hq,_⟩:=h2;unfold qf at hB;rw[hq]at hB;simp at hB
 exact⟨q,o,cap,by rw[Below.heap_setCell W ⟨g,i,none⟩ u rb n1];exact h1,h2.keep (Below.heap_setCell W ⟨g,i,none⟩ u q n2),h3,h4⟩
theorem jd (s:ByteArray)(w:World)(hs:s.size≤140737488355328) :
    Calls prog 130 #[.string s] w (rf (bM (bl s)) w):=by
 obtain⟨res,hres⟩:=QE (bM (bl s));rw[hres];have xy:=QH hres;clear hres;go_enter func130,ntmps130;go_wp2_with fail;refine(qaX s w hs).mono ?_;rintro e W1 ⟨rb,rfl,hrb,hR,b1⟩;have HR:=QH hR;have qR:=QH b1;clear hR b1;go_wp2_with fail;refine(wm rb (bl s) W1 HR.out).mono ?_;rintro e W2 ⟨g2,⟨n,r0,hn,rfl,hR2⟩|⟨hn,rfl,m,hR2⟩⟩
 ·have hres:res=if n<1∨60<n then none else match ld n r0 with|some (l,[])=>some l|_=>none:=by
     have h:=xy.out;unfold bM at h;rw[hn]at h;exact h.symm
  have jI:=QH hR2;have qB:=QH (qR.out.grown g2 qR.out.size (fun j hj=>by simp at hj;omega));clear hR2 g2 HR qR xy hn;by_cases hlo:n<1
  ·have c1:((n:Int)<1):=by omega
   rw[if_pos (.inl hlo)]at hres;subst hres;go_wp2_with fail;go_ret2;exact⟨qB.out,_,_,_,rfl⟩
  ·by_cases hhi:60<n
   ·have c1:¬ ((n:Int)<1):=by omega
    have c2:(60:Int)<(n:Int):=by omega
    rw[if_pos (.inr hhi)]at hres;subst hres;go_wp2_with fail;go_ret2;exact⟨qB.out,_,_,_,rfl⟩
   ·rw[if_neg (by omega)]at hres;have c1:¬ ((n:Int)<1):=by omega
    have c2:¬ (60:Int)<(n:Int):=by omega
    have xy:=QH hres;clear hres;have hmk:=qrR n (by omega);have kb:qf (W2.alloc (.cells (madeCells #[.int .i64 0,.string ByteArray.empty] (n*2)) 182)) W2.heap.size _ _:=qf.new W2 _ _;have hR3:zo rb r0 false (W2.alloc (.cells (madeCells #[.int .i64 0,.string ByteArray.empty] (n*2)) 182)):=jI.out.below ((Below.refl W2.heap.size W2).alloc (Nat.le_refl _) _);have hB3:Below w.heap.size w (W2.alloc (.cells (madeCells #[.int .i64 0,.string ByteArray.empty] (n*2)) 182)):=qB.out.alloc qB.out.size _;have hgg:w.heap.size≤W2.heap.size:=qB.out.size;have hcz:(madeCells #[.int .i64 0,.string ByteArray.empty] (n*2)).size=n*2:=size_madeCells _ _;have HCZ:=QH hcz;clear hcz;go_wp2_with fail;clear hmk;generalize W2.heap.size=g at *;generalize madeCells #[.int .i64 0,.string ByteArray.empty] (n*2)=cs0 at *;generalize W2.alloc (.cells cs0 182)=W3 at *;go_loopw [22] (fun i wr=>qrQ w rb g n r0 i wr) (fun i _=>n-(intOf i).toNat);case atStart=>exact⟨0,cs0,Nat.zero_le _,rfl,kb,HCZ.out,hB3,.inl ⟨[],r0,rfl,⟨HCZ.out,fun i h=>by simp at h⟩,hR3,fun x hx=>by cases hx⟩⟩
    case round =>
     clear kb hR3 hB3 qB jI HCZ;obtain⟨k,cs,hk,rfl,yC,hcs,hB,hst⟩:=hrel;have yL:=QH yC;have HB:=QH hB;have HST:=QH hst;clear yC hB hst;have dt:=yL.out.lt;have q0m:rb≠g:=by
      intro e;have hb2:=yL.out;unfold qf at hb2;rcases HST.out with⟨_,_,_,_,⟨_,_,_,h,_⟩,_⟩|⟨_,_,_,_,_,h,_⟩;all_goals
       rw[e,hb2]at h;simp at h
     by_cases hlt:k<n
     ·have pX:(k:Int)<(n:Int):=by omega
      go_wp2_with fail;refine(qkk hlt HST.out).mono ?_;rintro e Wa ⟨z,rfl,zc5,ga,hs1⟩;have hba:qf Wa g 182 cs:=yL.out.of_block (ga.block g dt (by simpa using Ne.symm q0m));have HBA:=QH hba;have aV:=QH hs1;have qR:=QH (HB.out.grown ga HB.out.size (fun j hj=>by simp at hj;omega));have iA:=hba.lt;obtain⟨q6g,hc0⟩:∃u,cs[k*2]?=some u:=⟨_,Array.getElem?_eq_getElem (by omega)⟩;have ea:Wa.cell? ⟨g,k*2,none⟩=some q6g:=by rw[hba.cell];exact hc0
      have fa:Wa.frozen? ⟨g,k*2,none⟩=false:=hba.frozen _;have q6h:min (z:Int) 1024=((min z 1024:Nat):Int):=by omega
      have hmn:min z 1024≤1024:=Nat.min_le_right _ _;obtain⟨mz,hmz⟩:=QE (min z 1024);rw[hmz]at q6h hmn;have HMZ:=QH hmz;have hmi:(mz:Int)≤1024:=by omega
      clear hba ga hs1 hc0 hmz HB yL HST;go_wp2_with fail;have hbb:=HBA.out.qo (k*2) (.int .i64 (mz:Int));have q0n:S1 n r0 rb k cs z (Wa.setCell ⟨g,k*2,none⟩ (.int .i64 (mz:Int))):=by
       rcases aV.out with⟨l,r,r1,h1,h2,h3,h4,h5⟩|⟨h1,m,h2⟩
       ·exact .inl ⟨l,r,r1,h1,h2,h3,fW h4 HBA.out,h5⟩
       ·exact .inr ⟨h1,m,fW h2 HBA.out⟩
      have HBB:=QH hbb;have q0o:=QH q0n;have qwl:=QH (qR.out.setCell (p:=⟨g,k*2,none⟩) (Nat.le_trans hgg (Nat.le_refl _)) (.int .i64 (mz:Int)));clear hbb q0n ea fa HBA aV qR;refine(qgA hlt q0o.out).mono ?_;rintro e Wc ⟨t,rfl,gc,hs2⟩;have hbc:qf Wc g 182 (cs.setIfInBounds (k*2) (.int .i64 (mz:Int))):=HBB.out.of_block (gc.block g HBB.out.lt (by simpa using Ne.symm q0m));have HBC:=QH hbc;have uI:=QH hs2;have qB:=QH (qwl.out.grown gc qwl.out.size (fun j hj=>by simp at hj;omega));have hlc:=hbc.lt;obtain⟨q6k,hc1⟩:∃u,(cs.setIfInBounds (k*2) (.int .i64 (mz:Int)))[k*2+1]?=some u:=⟨_,Array.getElem?_eq_getElem (by rw[Array.size_setIfInBounds];omega)⟩;have ec:Wc.cell? ⟨g,k*2+1,none⟩=some q6k:=by rw[hbc.cell];exact hc1
      have fc:Wc.frozen? ⟨g,k*2+1,none⟩=false:=hbc.frozen _;clear hbc gc hs2 hc1 HBB q0o qwl;go_wp2_with fail;go_roundw;case rel =>
       refine⟨k+1,_,by omega,by go_num,HBC.out.qo (k*2+1) (.string (str t)),by simp[hcs],qB.out.setCell (p:=⟨g,k*2+1,none⟩) (Nat.le_trans hgg (Nat.le_refl _)) _,?_⟩;rcases uI.out with⟨l,r,h1,h2,h3,q,h4,h5⟩|⟨h1,m,h2⟩
       ·have hl:=nQ k r0 l r h1;subst hl;rw[HMZ.out]at h4;refine .inl ⟨_,q,h4,qkj h2 hlt ((mz:Int),t),fW h5 HBC.out,fun x hx=>?_⟩;rcases List.mem_append.1 hx with hx|hx
        ·exact h3 x hx
        ·obtain rfl:x=_:=by simpa using hx
         unfold qD;dsimp only;omega
       ·exact .inr ⟨h1,m,fW h2 HBC.out⟩
      case measure=>simp[intOf];omega
     ·obtain rfl:k=n:=by omega
      have hres:=xy.out;rcases HST.out with⟨l,r,h1,h2,h3,h4⟩|⟨h1,m,h2⟩
      ·have hl:=nQ k r0 l r h1;rw[h1]at hres;have H3:=QH h3;have H2:=QH h2;have H4:=QH h4;have nR:=QH hres;clear h1 h2 h3 h4 hres xy HST;go_wp2_with (go_at_call 178;refine(qof rb r _ H3.out).mono ?_;rintro e w' ⟨rfl,rfl⟩);go_ret2;refine⟨HB.out,?_⟩;rw[nR.out];cases r with
       | nil =>
        subst hl;refine⟨_,_,rfl,fun i hi=>⟨g,0,rfl,dt,?_,?_,H4.out _ (List.getElem_mem hi)⟩⟩
        ·rw[Nat.zero_add,yL.out.cell];exact(H2.out.2 i hi).1
        ·rw[Nat.zero_add,yL.out.cell];exact(H2.out.2 i hi).2
       | cons x r=>exact⟨_,_,_,rfl⟩
      ·rw[h1]at hres;dsimp only at hres;have H2:=QH h2;have nR:=QH hres;clear h1 h2 hres xy HST;go_wp2_with (go_at_call 178;refine(qrO rb m _ H2.out).mono ?_;rintro e w' ⟨rfl,rfl⟩);go_ret2;refine⟨HB.out,?_⟩;rw[nR.out];exact⟨_,_,_,rfl⟩
 ·have hres:res=none:=by rw[← xy.out];unfold bM;rw[hn]
  subst hres;have qB:=QH (qR.out.grown g2 qR.out.size (fun j hj=>by simp at hj;omega));clear hR2 g2 HR qR;go_wp2_with fail;go_ret2;exact⟨qB.out,_,_,_,rfl⟩
theorem qbK(s:qH)(a k:Nat):zV s a (k+1)=zV s a k++[rd s ((1+a*72+k:Nat):Int)]:=by
 unfold zV;rw[List.range_succ,List.map_append];rfl
theorem mR (s:qH)(a k:Nat):(zV s a k).length=k:=by simp[zV]
def qwm (w:World)(s:qH)(a c:Nat)(v i:Value)(wr:World):Prop :=
 ∃k:Nat,k≤c∧i=.int .i64 (k:Int)∧zS wr w.heap.size v (zV s a k)∧Below w.heap.size w wr
theorem qgB{most:Nat}{w:World}{own:Nat→Prop}{p:Nat}{d:DD}(h:zG most w own p d)(zU:d.on=true)(hn:145<d.n)(a c:Nat)(ha:a<2)(hc:c≤72)(ht:xK w) :
    Calls prog 85 #[.agg #[.int .i64 (a:Int),.int .i64 (c:Int)],.pointer (some ⟨p,0,none⟩)] w (rf (ah d.now a c) w):=by
 obtain⟨i0,hi,hz0,hz1,hz2⟩:=info_parts Tryz.qma;have HD:=QH h;have HT:=QH ht;have hg:=ht.1;have HOK:=QH h.1;have wM:∀k,k<c→d.read ((1+a*72+k:Nat):Int)=(rd d.now ((1+a*72+k:Nat):Int),0):=by
  intro k hk;unfold DD.read;have:d.has ((1+a*72+k:Nat):Int)=true:=by
   have h72:a*72≤72:=by omega
   simp only[DD.has,Bool.and_eq_true,decide_eq_true_eq];omega
  rw[if_neg (by rw[zU];simp),if_neg (by rw[this];simp)];rfl
 have h32:∀k,(rd d.now ((1+a*72+k:Nat):Int)).length=32:=by
  intro k;unfold rd;cases hx:dk.look d.now ((1+a*72+k:Nat):Int)with
  | none=>exact qZ
  | some u=>exact HOK.out.qaf hx
 have H32:=QH h32;have xE:=QH wM;have qkh:=fun(W:World)=>qaz a c ha W;have HF:=QH qkh;obtain⟨res,hres⟩:=QE (ah d.now a c);rw[hres];have xy:=QH hres;have kb:qf (w.alloc (.cells #[.int .i64 (a:Int),.int .i64 (c:Int)] 149)) w.heap.size _ _:=qf.new w _ _;have k0:=kb.lt;have hb0:Below w.heap.size w (w.alloc (.cells #[.int .i64 (a:Int),.int .i64 (c:Int)] 149)):=(Below.refl w.heap.size w).alloc (Nat.le_refl _) _;clear h ht wM h32 qkh hres;go_enter func85,ntmps85;go_wp2_with fail;obtain⟨w0,hw0⟩:=QE (w.alloc (.cells #[.int .i64 (a:Int),.int .i64 (c:Int)] 149));rw[hw0]at kb k0 hb0;rw[hw0];clear hw0;have KB:=QH kb;have xu:=QH hb0;clear kb hb0;go_loopw [6,14] (fun v i wr=>qwm w0 d.now a c v i wr) (fun _ i _=>c-(intOf i).toNat);case atStart=>exact⟨0,Nat.zero_le _,rfl,World.ownsRow_nil _ _ _ _,Below.refl _ _⟩
 case round =>
  obtain⟨k,hk,rfl,ho,hB⟩:=hrel;have HO:=QH ho;have HB:=QH hB;have kV:=QH (xu.out.trans (hB.mono xu.out.size));clear ho hB;by_cases hlt:k<c
  ·have hkb:qf wr w.heap.size _ _:=KB.out.of_block (HB.out.block _ k0);have q0:=hkb.cell 0;have q1:=hkb.cell 1;have lt2:=hkb.lt;have pX:(k:Int)<(c:Int):=by omega
   have hsn:=qbK d.now a k;have hr1:=xE.out k hlt;have zc6:=H32.out k;have dw:=mR d.now a k;clear hkb;generalize rd d.now ((1+a*72+k:Nat):Int)=x at *;have kg:=QH hsn;have jH:=QH hr1;have bB:=QH dw;obtain⟨o1,ho1⟩:=QE (1+a*72);have q0k:o1≤73:=by omega
   have HF1:=HF;rw[ho1]at HF1 jH;have hadd:(o1:Int)+(k:Int)=((o1+k:Nat):Int):=by omega
   have HAD:=QH hadd;clear hsn hr1 ho1 hadd;go_wp2_with fail;refine(HF1.out _).mono ?_;rintro e W1 ⟨rfl,b1⟩;have ho1:=bp HO.out b1;have HO1:=QH ho1;have qR:=QH (HB.out.trans (b1.mono HB.out.size));clear b1 ho1 q0 q1;go_wp2_with fail;rw[HAD.out];have HBX:=QH (xu.out.trans (qR.out.mono xu.out.size));refine(qig (B:=0) ⟨own,HD.out.below HBX.out,fun _ _=>Nat.zero_le _⟩ ((o1+k:Nat):Int) x (str x) rfl 0 jH.out).mono ?_;rintro e W2 ⟨rfl,_,b2⟩;have ho2:=bp HO1.out b2;rw[show zS W2 w0.heap.size _ (zV d.now a k)=W2.ownsRow w0.heap.size 9 1 _ (zV d.now a k).length (yy (zV d.now a k))from rfl]at ho2;have qB:=QH (qR.out.trans (b2.mono qR.out.size));have hown2:=ho2.alloc (.cells #[.string (str x)] 9);have hnews:=fS W2 9 (.string (str x));have gH:=QH hown2;have dC:=QH hnews;have qY:=QH (qB.out.alloc qB.out.size (.cells #[.string (str x)] 9));clear b2 ho2 hown2 hnews HO HO1;have hkb:k≤1000:=by omega
   go_wp2_with (at_builtin;refine wpList_append_own _ rfl (.tmp 28) (.tmp 30) 43 rfl w0.heap.size 9 i0 (.string ByteArray.empty) 1 16 underlying43 hi hz0 hz1 hz2 rfl (by decide) _ (zV d.now a k).length _ rfl gH.out ⟨W2.heap.size,0,none⟩ 1 1 [.string (str x)] rfl rfl dC.out (fun u hu=>by simp at hu;subst hu;rfl) ?_ ?_ qY.out.size ?_)
   ·rw[bB.out];unfold maxLen;omega
   ·rw[bB.out];omega
   ·intro v' w1 hown1 hgrow _;have hb1:=qY.out.grown hgrow qY.out.size (fun j hj=>(gH.out.lt j hj).1);have hos:zS w1 w0.heap.size v' (zV d.now a k++[x]):=by
     unfold zS;rw[fM,List.length_append];rw[bB.out];first|exact hown1|(rw[bB.out]at hown1;exact hown1)
    have HOS:=QH hos;have zP:=QH hb1;clear hb1 hos hown1 hgrow;go_wp2_with fail;go_roundw;case rel=>exact⟨k+1,by omega,by go_num,by rw[kg.out];exact HOS.out,zP.out⟩
    case measure=>simp[intOf];omega
  ·obtain rfl:k=c:=by omega
   obtain⟨A,cc,rfl,_,_,hsa,_,_⟩:=HO.out.view;have dw:=mR d.now a k;have HSA:=QH hsa;have iE:=HT.out.below kV.out hg;have dF:=QH iE;clear hsa iE;have hres:=xy.out;unfold ah at hres;have dr:(zV d.now a k).flatten.length≤100000:=by
    rw[wH _ (fun i hi=>by simp only[zV,List.getElem_map,List.getElem_range];exact H32.out i),dw];omega
   have HFL:=QH dr;clear dr;generalize zV d.now a k=ps at *;have HLP:=QH dw;by_cases hx:∃t,vR ps t
   ·obtain⟨t,htx⟩:=hx;have hun:unB ps=some t:=by
     have hx:∃u,vR ps u:=⟨t,htx⟩;unfold unB;rw[dif_pos hx];exact congrArg some (oY _ _ _ hx.choose_spec htx)
    rw[hun]at hres;have HR:=QH (show bM t=res from hres);have HTX:=QH htx;clear hres hun htx dw;go_wp2_with fail;refine(mL A cc ps t _ HSA.out HTX.out dF.out).mono ?_;rintro e W3 ⟨rfl,b3⟩;have qY:=QH (kV.out.trans (b3.mono kV.out.size));clear b3;go_wp2_with fail;refine(jd (str t) _ (by rw[qQ];have:=HTX.out.1;omega)).mono ?_;rintro e W4 ⟨b4,hq⟩;rw[zi,HR.out]at hq;have zP:=QH (qY.out.trans (b4.mono qY.out.size));clear b4;cases res with
    | some l =>
     obtain⟨A2,c2,rfl,hw⟩:=hq;have HW:=QH hw;clear hw;go_wp2_with fail;go_ret2;exact⟨zP.out,_,_,rfl,HW.out⟩
    | none =>
     obtain⟨A2,n2,c2,rfl⟩:=hq;go_wp2_with fail;go_ret2;exact⟨zP.out,_,_,_,rfl⟩
   ·have hun:unB ps=none:=by
       unfold unB;rw[dif_neg hx]
    rw[hun]at hres;have q0s:none=res:=hres;subst q0s;have HX:=QH hx;clear hres hun hx dw;go_wp2_with fail;refine(mM A cc ps _ HSA.out (by have:=HLP.out;omega) HFL.out (fun t ht=>HX.out ⟨t,ht⟩) dF.out).mono ?_;rintro e W3 ⟨rfl,b3⟩;have qY:=QH (kV.out.trans (b3.mono kV.out.size));clear b3;go_wp2_with fail;go_ret2;exact⟨qY.out,_,_,_,rfl⟩
def qrS (N:Nat)(l:List Wr)(w:World)(i:Value)(wr:World):Prop :=
 ∃k:Nat,k≤l.length∧i=.int .i64 (k:Int)∧yw wr w.heap.size (found [] (l.take k))∧(l.take k).all (okW N)=true∧Below w.heap.size w wr
theorem qgC(l:List Wr)(k:Nat)(h:k<l.length):found [] (l.take (k+1))=ya (found [] (l.take k)) l[k].1:=by
 rw[List.take_succ_eq_append_getElem h];unfold found;rw[List.foldl_append];rfl
theorem qdR{w wr:World}(h:Below w.heap.size w wr)(n:Nat):Below w.heap.size w (wr.drewN n):=⟨h.os,h.tape,h.output,h.size,h.block⟩
theorem qdS{most:Nat}{w:World}{own:Nat→Prop}{p:Nat}{d:DD}(h:zG most w own p d)(a:Option Addr)(c:Nat)(l:List Wr)(hT:uY w a l)(hl:l.length≤1000000) :
    Calls prog 86 #[.pointer (some ⟨p,0,none⟩),.slice a l.length c] w (okB (vS d.n l) w):=by
 obtain⟨h0,m,v,hd⟩:=h;have HD:=QH hd;have HN:=QH h0.n1;have HT:=QH hT;have hmm:=@run_makeMap prog;clear h0 hd hT;go_enter func86,ntmps86;go_wp2_with fail;clear hmm;go_loopw [11] (fun i wr=>qrS d.n l w i wr) (fun i _=>l.length-(intOf i).toNat);case atStart=>exact⟨0,Nat.zero_le _,rfl,yw.made w,rfl,(Below.refl _ w).alloc (Nat.le_refl _) _⟩
 case round =>
  obtain⟨k,hk,rfl,hs,hall,hB⟩:=hrel;have HS:=QH hs;have HB:=QH hB;have HA:=QH hall;clear hs hB hall;by_cases hlt:k<l.length
  ·obtain⟨b,o,rfl,hb,q0,q1,qb⟩:=HT.out k hlt;have hfs:=qgC l k hlt;have q0t:(l.take (k+1)).all (okW d.n)=((l.take k).all (okW d.n)&&okW d.n l[k]):=by rw[List.take_succ_eq_append_getElem hlt,List.all_append,List.all_cons,List.all_nil,Bool.and_true]
   have hin:okW d.n l[k]=false→vS d.n l=false:=fun hh=>by
    unfold vS;rw[Bool.and_eq_false_iff]
    left
    rw[List.all_eq_false];exact⟨l[k],List.getElem_mem hlt,by rw[hh];simp⟩
   generalize hxx:l[k]=x at *;have e0:wr.cell? ⟨b,o+k*2,none⟩=some (.int .i64 x.1):=by rw[HB.out.cell (p:=⟨b,o+k*2,none⟩) hb];exact q0
   have e1:wr.cell? ⟨b,o+k*2+1,none⟩=some (.string (str x.2)):=by rw[HB.out.cell (p:=⟨b,o+k*2+1,none⟩) hb];exact q1
   have hb2:b<wr.heap.size:=Nat.lt_of_lt_of_le hb HB.out.size;have pX:(k:Int)<(l.length:Int):=by omega
   have HF:=QH hfs;have HAS:=QH q0t;have HIN:=QH hin;have HQB:=QH qb;clear q0 q1 hfs q0t hin qb hxx;have d0:wr.cell? ⟨p,0,none⟩=some (.int .i64 (d.n:Int)):=by rw[HB.out.cell (p:=⟨p,0,none⟩) HD.out.1.lt];exact HD.out.1.cell 0
   have hpl:p<wr.heap.size:=Nat.lt_of_lt_of_le HD.out.1.lt HB.out.size;have hdw:∀n,uK ((wr.alloc (.cells #[.int .i64 x.1,.string (str x.2)] 182)).drewN n) own p m v d:=fun n=>by
    have hb':=qdR (HB.out.alloc HB.out.size (.cells #[.int .i64 x.1,.string (str x.2)] 182)) n;exact HD.out.keep hb'.size (fun j hj=>hb'.block j (HD.out.2.2.2.2.2.2 j hj))
   have dw:∀n,Calls prog 45 #[.pointer (some ⟨p,0,none⟩)] ((wr.alloc (.cells #[.int .i64 x.1,.string (str x.2)] 182)).drewN n) fun e w'=>e=.returned (.int .i64 (d.n:Int))∧w'=(wr.alloc (.cells #[.int .i64 x.1,.string (str x.2)] 182)).drewN n:=fun n=>(qbm (hdw n)).mono fun e w' g=>⟨g.1,g.2.symm⟩;have bB:=QH dw;clear hdw dw;by_cases c1:x.1<145
   ·have hf:=QH (HIN.out (by simp[okW];omega));go_wp2_with fail;go_quiet (fail);go_wp2_with fail;go_ret;exact⟨by rw[hf.out];rfl,qdR (HB.out.alloc HB.out.size _) _⟩
   ·have c1':decide (x.1<145)=false:=by simpa using c1
    by_cases c2:(d.n:Int)≤x.1
    ·have hf:=QH (HIN.out (by simp[okW];omega));go_wp2_with fail;go_quiet (first|(go_at_call 45;exact Calls.quiet_of_same (bB.out _)));go_wp2_with fail;go_ret;exact⟨by rw[hf.out];rfl,qdR (HB.out.alloc HB.out.size _) _⟩
    ·have c2':decide ((d.n:Int)≤x.1)=false:=by simpa using c2
     by_cases c3:x.2.length=32
     ·have c3':(((str x.2).size:Int) != 32)=false:=by rw[bne_eq_false_iff_eq,qQ];omega
      have jS:okW d.n x=true:=by simp[okW];omega
      have HOK:=QH jS;clear jS;go_wp2_with fail;go_quiet (first|(go_at_call 45;exact Calls.quiet_of_same (bB.out _)));have hsw:yw ((wr.alloc (.cells #[.int .i64 x.1,.string (str x.2)] 182)).drewN nq) w.heap.size (found [] (l.take k)):=HS.out.of_block (Below.heap_alloc wr _ _ HS.out.lt);have HSW:=QH hsw;have kV:=QH (qdR (HB.out.alloc HB.out.size (.cells #[.int .i64 x.1,.string (str x.2)] 182)) nq);have dr:(found [] (l.take k)).length<maxLen:=by
       have:=qj3 (l.take k) [];simp at this;unfold maxLen;omega
      have HFL:=QH dr;clear hsw dr;go_wp2_with (at_mapUpdate;refine wE rfl _ _ _ rfl rfl HSW.out x.1 rfl rfl HQB.out.1 HQB.out.2 HFL.out ?_;intro w2 hs2 ck;have uI:=QH hs2;have qB:=QH (uL ck);clear hs2 ck);go_roundw;case rel=>exact⟨k+1,by omega,by go_num,by rw[HF.out];exact uI.out,by rw[HAS.out,HA.out,HOK.out];rfl,kV.out.trans (qB.out.below (fun i e=>by subst e;exact Nat.le_refl _) kV.out.size)⟩
      case measure=>simp[intOf];omega
     ·have c3':(((str x.2).size:Int) != 32)=true:=by rw[bne_iff_ne,qQ];omega
      have hf:=QH (HIN.out (by simp[okW];omega));go_wp2_with fail;go_quiet (first|(go_at_call 45;exact Calls.quiet_of_same (bB.out _)));go_wp2_with fail;go_ret;exact⟨by rw[hf.out];rfl,qdR (HB.out.alloc HB.out.size _) _⟩
  ·obtain rfl:k=l.length:=by omega
   have dw:=QH (HS.out);have hres:vS d.n l=((((found [] l).length:Int)) == (l.length:Int)):=by
    have ha:=HA.out;rw[List.take_length]at ha;unfold vS;rw[ha,Bool.true_and,Bool.eq_iff_iff];simp;omega
   have HR:=QH hres;clear hres;go_wp2_with (at_len;refine qg rfl (fh _ rfl rfl HS.out) ?_);go_ret;exact⟨by rw[HR.out];rfl,HB.out⟩
def qoj:Prop:=∀(a c:Nat) (w:World),a<2→c≤72 →
 Calls prog 128 #[.agg #[.int .i64 (a:Int),.int .i64 (c:Int)]] w fun e w'=>e=.returned (.agg #[.int .i64 0,.string (str (kW a c))])∧Below w.heap.size w w'
def rh (r:Option (Nat × Nat))(w:World)(e:Ending)(w':World):Prop :=
 Below w.heap.size w w'∧match r with
  | some (a,c)=>e=.returned (.tuple #[.agg #[.int .i64 (a:Int),.int .i64 (c:Int)],.bool true])
  | none=>∃x y:Int,e=.returned (.tuple #[.agg #[.int .i64 x,.int .i64 y],.bool false])
def qok:Prop:=∀(most:Nat) (w:World) (own:Nat→Prop) (p:Nat) (d:DD),zG most w own p d→d.on=true→0<d.n →
 Calls prog 84 #[.pointer (some ⟨p,0,none⟩)] w (rh (dA (rd d.now 0)) w)
section
variable {most:Nat} {w:World} {own:Nat→Prop} {p:Nat} {d:DD}
theorem qdT{W:World}{A:Option Addr}{c:Nat}{l:List Wr}(h:uY W A l):qdL (W.alloc (.cells #[.slice A l.length c] 136)) (some ⟨W.heap.size,0,none⟩) [l]:=fun i hi=>by
 obtain rfl:i=0:=by simp at hi;exact hi
 exact⟨W.heap.size,0,A,c,rfl,by simp,(qf.new W _ _).cell 0,h.below ((Below.refl W.heap.size W).alloc (Nat.le_refl _) _) (Nat.le_refl _)⟩
theorem qdU{W:World}(k:Int)(x:Bt)(hk:qD k):uY (W.alloc (.cells #[.int .i64 k,.string (str x)] 182)) (some ⟨W.heap.size,0,none⟩) [(k,x)]:=fun i hi=>by
 obtain rfl:i=0:=by simp at hi;exact hi
 exact⟨W.heap.size,0,rfl,by simp,(qf.new W _ _).cell 0,(qf.new W _ _).cell 1,hk⟩
theorem qgD(HW:qoj)(h:zG most w own p d)(hm:d.more.length+2≤most)(jh:most≤100000) :
    Calls prog 117 #[.pointer (some ⟨p,0,none⟩)] w (xA most own p (ui d).2 (.int .i64 (ui d).1) w):=by
 have HD:=QH h;have HP:=QH (bq h);obtain⟨h0,m,v,hd⟩:=h;have HL:=QH (qbm hd);have hpl:=hd.1.lt;have HW':=QH HW;clear h0 hd HW;unfold ui;cases zU:d.on with
 | false =>
  rw[zU]at HP;rw[if_pos rfl];go_enter func117,ntmps117;go_wp2_with (go_at_call 83;refine HP.out.mono ?_;rintro e w' ⟨rfl,rfl⟩);go_ret;exact⟨rfl,own,HD.out,qy.refl _ _,vF.refl _ _⟩
 | true =>
  rw[zU]at HP;rw[if_neg (by simp)];by_cases hn:d.n≤145
  ·rw[if_pos hn];have hn':(d.n:Int)≤145:=by omega
   go_enter func117,ntmps117;go_wp2_with (first|(go_at_call 83;refine HP.out.mono ?_;rintro e w' ⟨rfl,rfl⟩)|(go_at_call 45;refine HL.out.mono ?_;rintro e w' ⟨rfl,rfl⟩));go_ret;exact⟨rfl,own,HD.out,qy.refl _ _,vF.refl _ _⟩
  ·rw[if_neg hn];have hn':¬ (d.n:Int)≤145:=by omega
   go_enter func117,ntmps117;go_wp2_with (first|(go_at_call 83;refine HP.out.mono ?_;rintro e w' ⟨rfl,rfl⟩)|(go_at_call 45;refine HL.out.mono ?_;rintro e w' ⟨rfl,rfl⟩));refine(HW'.out 0 0 _ (by decide) (by decide)).mono ?_;rintro e W1 ⟨rfl,b1⟩;have qR:=QH b1;clear b1;go_wp2_with fail;have hb2:Below w.heap.size w ((W1.alloc (.cells #[.int .i64 0,.string (str (kW 0 0))] 182)).alloc (.cells #[.slice (some ⟨W1.heap.size,0,none⟩) 1 1] 136)):=(zE qR.out _).alloc (zE qR.out _).size _;have hw1:=qdU (W:=W1) 0 (kW 0 0) (by unfold qD;omega);have hbs:=qdT (c:=1) hw1;have hsz:(W1.alloc (.cells #[.int .i64 0,.string (str (kW 0 0))] 182)).heap.size=W1.heap.size+1:=by simp
   rw[hsz]at hbs;have qB:=QH hb2;have HBS:=QH hbs;clear hw1 hbs hsz hb2;refine(aB p _ 1 [[(0,kW 0 0)]] _ (Nat.lt_of_lt_of_le hpl qB.out.size) HBS.out (by decide) (fun l hl=>by simp at hl;subst hl;decide)).mono ?_;rintro e W3 ⟨v,rfl,hg⟩;have HG:=QH hg;clear hg;go_wp2_with fail;refine(lD (HD.out.below qB.out) HG.out (by simpa[qE,jU]using hm) jh).mono ?_;rintro e W4 yc;have HPO:=QH (xA.from yc qB.out HD.out.low);obtain⟨rfl,_⟩:=yc;go_wp2_with fail;go_ret;exact HPO.out
end
end Go.Proofs.YtdagdllomphidaaGreatDoor.jr
