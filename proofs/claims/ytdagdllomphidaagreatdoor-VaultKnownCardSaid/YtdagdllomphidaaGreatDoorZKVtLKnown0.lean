/- The examples of the chapter on vaults, and vaults that are none. -/
import Derived.Test.YtdagdllomphidaaGreatDoorZK11
import Derived.Great.FillDense
import Derived.Test.YtdagdllomphidaaGreatDoorCards
import Derived.Test.YtdagdllomphidaaGreatDoorTie
import Derived.SevenTiedAt
import Derived.ProofKit
import Derived.ShutString
import Derived.SizedLaws
set_option linter.unusedVariables false
set_option linter.unusedSimpArgs false
set_option maxHeartbeats 30000000
set_option maxRecDepth 100000
namespace Go.Proofs.YtdagdllomphidaaGreatDoor.vt
open _root_.Go.Proofs.Tryz Go Go.RowKit ib jr mt im sp
section
variable {IC:ch.IsT} (HI:ch.Impl IC) {q:Nat} {was:ch.CH}
include HI
end
end Go.Proofs.YtdagdllomphidaaGreatDoor.vt
namespace Go.Proofs.YtdagdllomphidaaGreatDoor.vt
open _root_.Go.Proofs.Tryz Go Go.RowKit ib jr mt im sp
section
variable {IV:jw} {IC:ch.IsT} (H:ki IV) (HI:ch.Impl IC) {w w':World} {N B v pd p q:Nat} {c:ch.CH}
include H HI
end
end Go.Proofs.YtdagdllomphidaaGreatDoor.vt
namespace Go.Proofs.YtdagdllomphidaaGreatDoor.vt
open _root_.Go.Proofs.Tryz Go Go.RowKit ib jr mt im sp
theorem qmt{N:Nat}{t:Tg}{d:DD}(h:JJ N t d)(keep:List Bool):RJ N t (d.off.bK keep):=by
 have h1:d.off.bK keep={ d with base:=dk.qK d.base (dk.stay d.more keep),more:=[],on:=true,qi:=0 }:=rfl;have h2:dk.qK d.base (dk.stay d.more keep)=d.base:=by rw[h.more];cases keep <;> rfl
 rw[h1,h2];exact⟨rfl,rfl,h.room,h.rb⟩
section
variable {IV:jw} {IC:ch.IsT} (H:ki IV) (HC:ch.Ops IC) {w w':World} {B v pd p N:Nat} {X:Nat→Prop} {s:Tri}
include H HC
end
end Go.Proofs.YtdagdllomphidaaGreatDoor.vt
namespace Go.Proofs.YtdagdllomphidaaGreatDoor.vt.kn
open _root_.Go.Proofs.Tryz Go Go.RowKit ib jr mt im sp vt
def VW (IV:jw)(w:World)(B:Nat)(X:Nat→Prop)(v pd:Nat)(Q:Tg→Mt→Prop):Prop :=
 ∃t d m o1 o2,VP IV w o1 o2 v pd d m false∧(∀j,o1 j∨o2 j→B≤j∧¬ X j)∧((∀j,X j→j<w.heap.size)∧¬ X gN)∧qM 1 400 t m∧JJ 400 t d∧d.qi=0∧Q t m
def Left (Q:Tg→Mt→Prop)(r0 r:Int)(d':DD)(m':Mt)(l':Bool):Prop:=r=r0∧l'=false∧d'.qi=0∧∃t',JJ 400 t' d'∧qM 1 400 t' m'∧Q t' m'
section
variable {IV:jw} (H:ki IV) {w w':World} {B v pd:Nat} {X:Nat→Prop} {Q Q':Tg→Mt→Prop}
include H
theorem VW.below(h:VW IV w B X v pd Q)(hb:Below w.heap.size w w'):VW IV w' B X v pd Q:=by
 obtain⟨t,d,m,o1,o2,h1,h2,h3,h4⟩:=h;exact⟨t,d,m,o1,o2,h1.keep H (fun j hj=>hb.block j (h1.low H j hj)) hb.size,h2,⟨fun j hj=>Nat.lt_of_lt_of_le (h3.1 j hj) hb.size,h3.2⟩,h4⟩
theorem VW.more(h:VW IV w B X v pd Q)(hb:Below w.heap.size w w'){Y:Nat→Prop}(hY:∀j,Y j→X j∨(w.heap.size≤j∧j<w'.heap.size)):VW IV w' B Y v pd Q:=by
 obtain⟨t,d,m,o1,o2,h1,h2,h3,h4⟩:=h;refine⟨t,d,m,o1,o2,h1.keep H (fun j hj=>hb.block j (h1.low H j hj)) hb.size,fun j hj=>⟨(h2 j hj).1,fun hy=>?_⟩,⟨fun j hj=>?_,fun hy=>?_⟩,h4⟩
 ·rcases hY j hy with h|h
  ·exact(h2 j hj).2 h
  ·have:=h1.low H j (.inl hj);omega
 ·rcases hY j hj with h|h
  ·exact Nat.lt_of_lt_of_le (h3.1 j h) hb.size
  ·exact h.2
 ·rcases hY gN hy with h|h
  ·exact h3.2 h
  ·have:=h1.low H gN (.inr rfl);omega
omit H in
theorem kA (h:VW IV w B X v pd Q)(hB:B≤w.heap.size){f:Nat}{args:Array Value}{r0:Int}{P:Tg→Mt→dT}
    (hc:∀o1 o2 t d m,VP IV w o1 o2 v pd d m false→(∀j,o1 j∨o2 j→¬ X j)→qM 1 400 t m→JJ 400 t d→d.qi=0→Q t m→Calls prog f args w (kz IV o1 o2 v pd (xp 400 t d m (P t m)) w))
    (hs:∀t d m r d' m' l',qM 1 400 t m→JJ 400 t d→d.qi=0→Q t m→xp 400 t d m (P t m) r d' m' l'→Left Q' r0 r d' m' l') :
    Calls prog f args w fun e w'=>e=.returned (.int .i64 r0)∧VW IV w' B X v pd Q'∧Ke B X w w':=by
 obtain⟨t,d,m,o1,o2,h1,h2,h3,h4,h5,h6,h7⟩:=h;refine(hc o1 o2 t d m h1 (fun j hj=>(h2 j hj).2) h4 h5 h6 h7).mono ?_;rintro e w' ⟨r,d',m',l',wP,uL,rfl,hp,hb,hg,hq⟩;obtain⟨rfl,rfl,hf,t',g1,g2,g3⟩:=hs t d m r d' m' l' h4 h5 h6 h7 hq;refine⟨rfl,⟨t',d',m',wP,uL,hp,fun j hj=>?_,⟨fun j hj=>Nat.lt_of_lt_of_le (h3.1 j hj) hb.size,h3.2⟩,g2,g1,hf,g3⟩,hb.mono h2⟩;rcases hg j hj with h|h
 ·exact h2 j h
 ·exact⟨by omega,fun hx=>by have:=h3.1 j hx;omega⟩
end
section
variable {t:Tg} {d d':DD} {m m':Mt} {r:Int} {l':Bool}
theorem tS {P:dT}(hj:JJ 400 t d)(h:qM 1 400 t m)(hf:d.qi=0){Q:Tg→Mt→Prop}(hQ:Q t m)(hc:P.code≠0)(hq:xp 400 t d m P r d' m' l'):Left Q P.code r d' m' l':=by
 rcases hq with⟨_,rfl,rfl,rfl,rfl⟩|⟨h0,_⟩|⟨h0,_⟩
 ·exact⟨rfl,rfl,hf,t,hj,h,hQ⟩
 ·exact absurd h0 hc
 ·exact absurd h0 hc
theorem ud {P:dT}{c:ch.CH}(h:qM 1 400 t m)(hf:d.qi=0){Q:Tg→Mt→Prop}(hc:P.code=0)(hd:Does 1 400 t m P c)(hQ:∀t',zX t' P.m=c→Q t' P.m)(hq:xp 400 t d m P r d' m' l'):Left Q 0 r d' m' l':=by
 rcases hq with⟨h0,_⟩|⟨_,rfl,hj',rfl,rfl,hf',_⟩|⟨_,_,_,_,h0,_⟩
 ·exact absurd hc h0
 ·obtain⟨d1,d2,d3⟩:=hd;exact⟨rfl,rfl,hf' hf,_,hj',h.next d1 d2,hQ _ d3⟩
 ·exact absurd hf h0
theorem qjP(hs:m.qa.length≤20){x:List (Int × Bt)}(hx:x.length≤8):¬ ie 1 400 m x:=by
 unfold ie;omega
end
section
variable {IV:jw} (H:ki IV) {w w':World} {B v pd:Nat} {X:Nat→Prop} {Q Q':Tg→Mt→Prop} {R:DD→Mt→Bool→Prop}
include H
theorem l6 (h:VW IV w B X v pd Q){l:List Gd}(hQ:∀t m,Q t m→(zX t m).list=l):Calls prog 22 #[.pointer (some ⟨v,0,none⟩)] w (ch.sG l w):=by
 obtain⟨t,d,m,o1,o2,h1,h2,h3,h4,h5,h6,h7⟩:=h;have:=H.list h1.is;have e:m.qa.map (·.g)=l:=by
  rw[← hQ t m h7];unfold ch.CH.list zX;rw[List.map_map];rfl
 rw[e]at this;exact this
omit H in
theorem VW.rq(h:VW IV w B X v pd Q){Y:Nat→Prop}(hY:∀j,Y j→X j):VW IV w B Y v pd Q:=by
 obtain⟨t,d,m,o1,o2,h1,h2,h3,h4⟩:=h;exact⟨t,d,m,o1,o2,h1,fun j hj=>⟨(h2 j hj).1,fun hy=>(h2 j hj).2 (hY j hy)⟩,⟨fun j hj=>h3.1 j (hY j hj),fun hy=>h3.2 (hY _ hy)⟩,h4⟩
theorem l7 (h:VW IV w B X v pd Q)(hB:B≤w.heap.size)(g:Gd)(hg:xn g){r0:Int}(hs:∀t d m r d' m' l',qM 1 400 t m→JJ 400 t d→d.qi=0→Q t m→xp 400 t d m (yv m g) r d' m' l'→Left Q' r0 r d' m' l') :
    Calls prog 30 #[.pointer (some ⟨v,0,none⟩),ch.gv g] w fun e w'=>e=.returned (.int .i64 r0)∧VW IV w' B X v pd Q'∧Ke B X w w' :=
 kA h hB (P:=fun _ m=>yv m g) (fun o1 o2 t d m h1 _ hr hj hf _=>H.snap g h1 hj (by omega) hr hg) hs
theorem jo (h:VW IV w B X v pd Q)(hB:B≤w.heap.size)(f:Tf)(hF:TfB f)(A:Option Addr)(c:Nat)(x:List (Int × Bt))(hx:ch.dU w A x)(wN:x.length≤1000)(hA:∀b o,A=some ⟨b,o,none⟩→X b){r0:Int}(hs:∀t d m r d' m' l',qM 1 400 t m→JJ 400 t d→d.qi=0→Q t m→xp 400 t d m (qT 400 m f x) r d' m' l'→Left Q' r0 r d' m' l') :
    Calls prog 24 #[.pointer (some ⟨v,0,none⟩),tkV f none 0 0,.slice A x.length c] w fun e w'=>e=.returned (.int .i64 r0)∧VW IV w' B X v pd Q'∧Ke B X w w' :=
 kA h hB (P:=fun _ m=>qT 400 m f x) (fun o1 o2 t d m h1 hX hr hj hf _=>H.stage f A c x h1 hj (by omega) hr hF hx wN (fun b o e=>⟨fun ho=>hX b (.inl ho) (hA b o e),fun ho=>hX b (.inr ho) (hA b o e)⟩)) hs
theorem qpq(h:VW IV w B X v pd Q)(hB:B≤w.heap.size)(g:Gd)(hg:xn g)(hs:∀t d m r d' m' l',qM 1 400 t m→JJ 400 t d→d.qi=0→Q t m→xp 400 t d m (kh m g) r d' m' l'→Left Q' 0 r d' m' l') :
    Calls prog 31 #[.pointer (some ⟨v,0,none⟩),ch.gv g] w fun e w'=>e=.returned (.int .i64 0)∧VW IV w' B X v pd Q'∧Ke B X w w' :=
 kA h hB (P:=fun _ m=>kh m g) (fun o1 o2 t d m h1 _ hr hj hf _=>H.eW g h1 hj (by omega) hr hg) hs
theorem qiv(h:VW IV w B X v pd Q)(hB:B≤w.heap.size)(hs:∀t d m r d' m' l',qM 1 400 t m→JJ 400 t d→d.qi=0→Q t m→xp 400 t d m (jF m) r d' m' l'→Left Q' 0 r d' m' l') :
    Calls prog 19 #[.pointer (some ⟨v,0,none⟩)] w fun e w'=>e=.returned (.int .i64 0)∧VW IV w' B X v pd Q'∧Ke B X w w' :=
 kA h hB (P:=fun _ m=>jF m) (fun o1 o2 t d m h1 _ hr hj hf _=>H.forget h1 hj (by omega) hr) hs
def VD (IV:jw)(w:World)(B:Nat)(X:Nat→Prop)(v pd:Nat)(Q:DD→Mt→Bool→Prop):Prop :=
 ∃d m l o1 o2,VP IV w o1 o2 v pd d m l∧(∀j,o1 j∨o2 j→B≤j∧¬ X j)∧((∀j,X j→j<w.heap.size)∧¬ X gN)∧Q d m l
theorem VD.below(h:VD IV w B X v pd R)(hb:Below w.heap.size w w'):VD IV w' B X v pd R:=by
 obtain⟨d,m,l,o1,o2,h1,h2,h3,h4⟩:=h;exact⟨d,m,l,o1,o2,h1.keep H (fun j hj=>hb.block j (h1.low H j hj)) hb.size,h2,⟨fun j hj=>Nat.lt_of_lt_of_le (h3.1 j hj) hb.size,h3.2⟩,h4⟩
omit H in
theorem VW.vd(h:VW IV w B X v pd Q):VD IV w B X v pd fun d m l=>l=false∧∃t,qM 1 400 t m∧JJ 400 t d∧d.qi=0∧Q t m:=by
 obtain⟨t,d,m,o1,o2,h1,h2,h3,h4,h5,h6,h7⟩:=h;exact⟨d,m,false,o1,o2,h1,h2,h3,rfl,t,h4,h5,h6,h7⟩
theorem qf8(h:VD IV w B X v pd R)(hB:B≤w.heap.size){f:Nat}{args:Array Value}{F:DD→DD}{r:Value}(hc:∀o2 d m l,dk.zj 1000 w o2 pd d→R d m l→Calls prog f args w (dk.xd 1000 o2 pd (F d) r w)){R':DD→Mt→Bool→Prop}(hR:∀d m l,R d m l→R' (F d) m l) :
    Calls prog f args w fun e w'=>e=.returned r∧VD IV w' B X v pd R'∧Ke B X w w':=by
 obtain⟨d,m,l,o1,o2,h1,h2,h3,h4⟩:=h;refine(hc o2 d m l h1.dk h4).mono ?_;rintro e w' ⟨rfl,uL,k1,k2,k3⟩;have hb:qB o2 w w':=mH k2;have hn:∀j,uL j→o2 j∨w.heap.size≤j:=fun j hj=>k3 j hj;refine⟨rfl,⟨F d,m,l,o1,uL,⟨H.keep h1.is (fun j hj=>hb.block j (H.low h1.is j hj) (h1.dj j hj)) hb.size,k1,fun j hj ho=>?_⟩,fun j hj=>?_,⟨fun j hj=>Nat.lt_of_lt_of_le (h3.1 j hj) hb.size,h3.2⟩,hR d m l h4⟩,hb.mono fun j hj=>⟨(h2 j (.inr hj)).1,(h2 j (.inr hj)).2⟩⟩
 ·rcases hn j ho with h|h
  ·exact h1.dj j hj h
  ·have:=H.low h1.is j hj;omega
 ·rcases hj with hj|hj
  ·exact h2 j (.inl hj)
  ·rcases hn j hj with h|h
   ·exact h2 j (.inr h)
   ·exact⟨by omega,fun hx=>by have:=h3.1 j hx;omega⟩
theorem iB (h:VD IV w B X v pd R)(hB:B≤w.heap.size)(g:Gd)(hg:xn g)(hl:∀d m l,R d m l→l=true∨d.on=false){R':DD→Mt→Bool→Prop}(hR:∀d m l,R d m l→R' d m true) :
    Calls prog 31 #[.pointer (some ⟨v,0,none⟩),ch.gv g] w fun e w'=>e=.returned (.int .i64 6)∧VD IV w' B X v pd R'∧Ke B X w w':=by
 obtain⟨d,m,l,o1,o2,h1,h2,h3,h4⟩:=h;refine(H.qbl g h1 (hl d m l h4) hg).mono ?_;rintro e w' ⟨r,d',m',l',wP,uL,rfl,hp,hb,rI,rfl,rfl,rfl,rfl⟩;refine⟨rfl,⟨_,_,true,wP,uL,hp,fun j hj=>?_,⟨fun j hj=>Nat.lt_of_lt_of_le (h3.1 j hj) hb.size,h3.2⟩,hR _ _ l h4⟩,hb.mono h2⟩;rcases rI j hj with h|h
 ·exact h2 j h
 ·exact⟨by omega,fun hx=>by have:=h3.1 j hx;omega⟩
theorem qpr(h:VD IV w B X v pd fun d m _=>∃t,qM 1 400 t m∧RJ 400 t d∧d.qi=0∧Q t m)(hB:B≤w.heap.size):Calls prog 12 #[.pointer (some ⟨pd,0,none⟩)] w
      fun e w'=>∃v',e=.returned (.tuple #[.pointer (some ⟨v',0,none⟩),.int .i64 0])∧VW IV w' B X v' pd Q∧Ke B X w w':=by
 obtain⟨d,m,l,o1,o2,h1,h2,h3,t,h4,h5,h6,h7⟩:=h;refine(H.iV h1.dk (H.tab h1.is) (h1.dj gN (.inr rfl)) h5 h6 h4).mono ?_;rintro e w' ⟨v',d',q1,q2,rfl,hv,hj',hf',xZ,g1,g2⟩;refine⟨v',rfl,⟨t,d',m,q1,q2,hv,fun j hj=>?_,⟨fun j hj=>Nat.lt_of_lt_of_le (h3.1 j hj) xZ.size,h3.2⟩,h4,hj',hf',h7⟩,xZ.mono fun j hj=>⟨(h2 j (.inr hj)).1,(h2 j (.inr hj)).2⟩⟩;have hnew:w.heap.size≤j→B≤j∧¬ X j:=fun h=>⟨by omega,fun hx=>by have:=h3.1 j hx;omega⟩;rcases hj with hj|hj
 ·exact hnew (g1 j hj)
 ·rcases g2 j hj with h|h
  ·exact h2 j (.inr h)
  ·exact hnew h
theorem aq (h:VW IV w B X v pd Q)(b:Int)(hb:yf b)(bF:b<1∨8<b):Calls prog 28 #[.pointer (some ⟨pd,0,none⟩),.int .i64 b] w (ch.yE 2 w):=by
 obtain⟨t,d,m,o1,o2,h1,h2,h3,h4,h5,h6,h7⟩:=h;exact H.aQ b h1.dk h5.more hb (by omega)
end
def gs (k:Nat):List (Gd × Bool):=(List.range k).map fun i=>((1,i+1),false)
def GS (k:Nat)(_:Tg)(m:Mt):Prop:=m.qa.map (fun s=>(s.g,s.hid))=gs k∧m.live.length=1
theorem qvy(k:Nat):(gs k).length=k:=by simp[gs]
theorem qf9(k:Nat):gs (k+1)=gs k++[((1,k+1),false)]:=by simp[gs,List.range_succ]
section
variable {t:Tg} {d d':DD} {m m':Mt} {r:Int} {l':Bool} {k:Nat}
theorem GS.len(h:GS k t m):m.qa.length=k:=by
 have:=congrArg List.length h.1;rw[List.length_map,qvy]at this;exact this
theorem GS.last(h:GS (k+1) t m):qH m=(1,k+1):=by
 have h1:=congrArg List.getLast? h.1;rw[qf9,List.getLast?_concat,List.getLast?_map]at h1;unfold qH;cases hl:m.qa.getLast? with
 | none=>rw[hl]at h1;cases h1
 | some s =>
  rw[hl]at h1;simp only[Option.map_some,Option.some.injEq,Prod.mk.injEq]at h1;exact h1.1
theorem GS.qqF(h:GS 0 t m):qH m=(0,0):=by
 have:=h.len;unfold qH;rw[List.length_eq_zero_iff.1 this];rfl
theorem GS.first(h:GS (k+1) t m):∃s,m.qa[0]?=some s∧s.g=(1,1)∧s.hid=false:=by
 have h1:=congrArg (fun l=>l[0]?) h.1;simp only[List.getElem?_map]at h1;have h2:(gs (k+1))[0]?=some ((1,1),false):=by simp[gs]
 rw[h2]at h1;cases hs:m.qa[0]? with
 | none=>rw[hs]at h1;cases h1
 | some s =>
  rw[hs]at h1;simp only[Option.map_some,Option.some.injEq,Prod.mk.injEq]at h1;exact⟨s,rfl,h1⟩
theorem tV (hj:JJ 400 t d)(h:qM 1 400 t m)(hf:d.qi=0)(hQ:GS k t m)(f:Tf)(x:List (Int × Bt)){e:Int}(he:zF 1 k (qH m) f x=e)(h0:e≠0)(hq:xp 400 t d m (qT 400 m f x) r d' m' l'):Left (GS k) e r d' m' l':=by
 have he':zF m.live.length m.qa.length (qH m) f x=e:=by rw[hQ.2,hQ.len];exact he
 have hc:(qT 400 m f x).code=e:=by
  unfold qT;rw[if_pos (by rw[he'];exact h0),he']
 have:=tS hj h hf hQ (by rw[hc];exact h0) hq;rw[hc]at this;exact this
theorem qmu(_:JJ 400 t d)(h:qM 1 400 t m)(hf:d.qi=0)(hQ:GS 0 t m)(hq:xp 400 t d m (qT 400 m ⟨(0,0),(1,1),0,0⟩ []) r d' m' l'):Left (GS 1) 0 r d' m' l':=by
 have he:zF m.live.length m.qa.length (qH m) ⟨(0,0),(1,1),0,0⟩ []=0:=by rw[hQ.2,hQ.len,hQ.qqF];decide
 rcases vU h ⟨(0,0),(1,1),0,0⟩ ⟨by decide,by decide⟩ []with⟨_,hf,_⟩|⟨h1,h2⟩
 ·exact absurd hf (qjP (by rw[hQ.len];decide) (by simp))
 ·rw[he]at h1;refine ud h hf h1 ((h2 h1).whole rfl).1 (fun t' _=>?_) hq;have h3:=((h2 h1).whole rfl).1.ok.len;refine⟨?_,h3⟩;have hp:(qw 400 m []).2=0:=by
   unfold qT at h1;rw[if_neg (by rw[he];simp)]at h1;split at h1
   ·rename_i hh;exact absurd h1 hh
   ·rename_i hh;exact Classical.byContradiction hh
  unfold qT;rw[if_neg (by rw[he];simp),if_neg (by rw[hp];simp)];dsimp only;rw[if_pos rfl];dsimp only;rw[List.map_append,hQ.1];rfl
theorem qps(_:JJ 400 t d)(h:qM 1 400 t m)(hf:d.qi=0)(hQ:GS (k+1) t m)(hk:k+1<20)(hq:xp 400 t d m (yv m (1,k+2)) r d' m' l'):Left (GS (k+2)) 0 r d' m' l':=by
 have ha:mt.above (1,k+2) (qH m)=true:=by
  rw[hQ.last];unfold mt.above;simp
 have hv:yv m (1,k+2)=⟨0,{ m with qa:=m.qa++[⟨(1,k+2),m.live,false⟩],tok:=zL },[]⟩:=by
  unfold yv;rw[if_neg (by rw[ha];simp),if_neg (by rw[hQ.len];omega)]
 have hc:(yv m (1,k+2)).code=0:=by rw[hv]
 obtain⟨h1,h2,_⟩:=fj h (1,k+2) ⟨by show 1<18446744073709551616;decide,by show k+2<18446744073709551616;omega⟩;refine ud h hf hc (h2 hc) (fun t' _=>?_) hq;rw[hv];refine⟨?_,hQ.2⟩;dsimp only;rw[List.map_append,hQ.1,qf9 (k+1)];rfl
theorem qe2(hj:JJ 400 t d)(h:qM 1 400 t m)(hf:d.qi=0)(hQ:GS 20 t m)(hq:xp 400 t d m (yv m (1,21)) r d' m' l'):Left (GS 20) 3 r d' m' l':=by
 have ha:mt.above (1,21) (qH m)=true:=by rw[GS.last (k:=19) hQ];decide
 have hv:(yv m (1,21)).code=3:=by
  unfold yv;rw[if_neg (by rw[ha];simp),if_pos (by rw[hQ.len];decide)]
 have:=tS hj h hf hQ (by rw[hv];decide) hq;rw[hv]at this;exact this
theorem qiw(_:JJ 400 t d)(h:qM 1 400 t m)(hf:d.qi=0)(hQ:GS k t m)(hq:xp 400 t d m (jF m) r d' m' l'):Left (GS k) 0 r d' m' l' :=
 ud h hf rfl (gU h) (fun _ _=>hQ) hq
theorem qpt(_:JJ 400 t d)(h:qM 1 400 t m)(hf:d.qi=0)(hQ:GS (k+1) t m)(hq:xp 400 t d m (kh m (1,1)) r d' m' l'):Left (fun _ _=>True) 0 r d' m' l':=by
 obtain⟨s,hs,hg,hh⟩:=hQ.first;have hfd:bZ m (1,1)=some 0:=by
  unfold bZ;cases hm:m.qa with
  | nil=>rw[hm]at hs;cases hs
  | cons a l =>
   rw[hm]at hs;cases hs;rw[List.findIdx?_cons,if_pos (by simp[hg])]
 have hc:(kh m (1,1)).code=0:=by
  unfold kh;rw[hfd];dsimp only;rw[hs];dsimp only;rw[if_neg (by rw[hh];simp)]
 obtain⟨h1,h2,_⟩:=pN h (1,1);exact ud h hf hc (h2 hc) (fun _ _=>trivial) hq
theorem qpu(hQ:GS k t m):(zX t m).list=(gs k).map (·.1):=by
 rw[← hQ.1];unfold ch.CH.list zX;rw[List.map_map,List.map_map];rfl
end
end Go.Proofs.YtdagdllomphidaaGreatDoor.vt.kn
namespace Go.Proofs.YtdagdllomphidaaGreatDoor.vt.kn
open _root_.Go.Proofs.Tryz Go Go.RowKit Go.Sort Go.Great ib jr mt im sp vt
def qe3:List Tf:=[⟨(0,0),(1,1),2,2⟩,⟨(0,0),(1,1),0,1⟩,⟨(0,0),(1,1),1,0⟩,⟨(0,0),(1,1),-1,-1⟩,⟨(1,1),(1,2),1,1⟩,⟨(0,0),(0,0),1,1⟩]
def tkT (f:Tf):Value:=tkV f none 0 0
def qe4:Array Value:=((qe3.map tkT).flatMap fun v=>v.cells.toList).toArray
theorem qfA:qe4 = #[.int .u64 0,.int .u64 0,.int .u64 1,.int .u64 1,.int .i64 2,.int .i64 2,.slice none 0 0,.int .u64 0,.int .u64 0,.int .u64 1,.int .u64 1,.int .i64 0,.int .i64 1,.slice none 0 0,.int .u64 0,.int .u64 0,.int .u64 1,.int .u64 1,.int .i64 1,.int .i64 0,.slice none 0 0,.int .u64 0,.int .u64 0,.int .u64 1,.int .u64 1,.int .i64 (-1),.int .i64 (-1),.slice none 0 0,.int .u64 1,.int .u64 1,.int .u64 1,.int .u64 2,.int .i64 1,.int .i64 1,.slice none 0 0,.int .u64 0,.int .u64 0,.int .u64 0,.int .u64 0,.int .i64 1,.int .i64 1,.slice none 0 0]:=rfl
theorem qmv:∀f∈qe3,zF 1 0 (0,0) f []=2:=by decide +kernel
theorem qpv:∀f∈qe3,TfB f:=by
 intro f hf;simp only[qe3,List.mem_cons,List.not_mem_nil,or_false]at hf;rcases hf with rfl|rfl|rfl|rfl|rfl|rfl <;> exact⟨⟨by decide,by decide⟩,⟨by decide,by decide⟩,by unfold yf;dsimp only;omega,by unfold yf;dsimp only;omega⟩
theorem qmw{W:World}{g k:Nat}{x:Tf}(h:qg W g 59 qe4)(hx:qe3[k]?=some x):∀j,j<7→W.cell? ⟨g,k*7+j,none⟩=(tkT x).cells[j]? :=by
 intro j hj;unfold qe4 at h;rw[h.cell,List.getElem?_toArray,flat_get (s:=7) (by decide) _ (fun v hv=>by obtain⟨y,_,rfl⟩:=List.mem_map.1 hv;rfl)];rw[show(k*7+j)/7=k from by omega,show(k*7+j)%7=j from by omega,List.getElem?_map,hx];rfl
theorem rj (d:DD)(keep:List Bool)(h:d.qi=0):(d.bK keep).qi=0:=by
 unfold dk.DD.bK;split
 ·exact h
 ·exact h
theorem qpw{IV:jw}(H:ki IV){w:World}{B v pd:Nat}{X:Nat→Prop}(h:VW IV w B X v pd (GS 20)):Calls prog 22 #[.pointer (some ⟨v,0,none⟩)] w fun e w'=>∃A c,e=.returned (.slice A 20 c)∧Below w.heap.size w w':=by
 refine(l6 H h (l:=(gs 20).map (·.1)) (fun t m hQ=>qpu hQ)).mono ?_;rintro e w' ⟨A,c,rfl,_,_,hb⟩;exact⟨A,c,rfl,hb⟩
def Sm (os:Nat→Prop)(ps:Nat)(w:World):Prop:=dk.zj 1000 w os ps (dk.DD.new 192 400)
theorem Sm.below{os:Nat→Prop}{ps:Nat}{w w':World}(h:Sm os ps w)(hb:Below w.heap.size w w'):Sm os ps w' :=
 dk.zj.keep h hb.size (fun j hj=>hb.block j (uE h j hj))
theorem Sm.ke{os X:Nat→Prop}{ps B:Nat}{w w':World}(h:Sm os ps w)(hk:Ke B X w w')(hX:∀j,os j→X j):Sm os ps w' :=
 dk.zj.keep h hk.size (fun j hj=>hk.block (uE h j hj) (.inl (hX j hj)))
def q6a (IV:jw)(w:World)(os:Nat→Prop)(ps gb v pd:Nat)(i:Value)(wr:World):Prop:=∃k:Nat,k≤6∧i=.int .i64 (k:Int)∧VW IV wr w.heap.size (fun j=>os j∨j=gb) v pd (GS 0)∧Below w.heap.size w wr∧qg wr gb 59 qe4∧Sm os ps wr
def SnR (IV:jw)(w:World)(os:Nat→Prop)(ps v pd:Nat)(i:Value)(wr:World):Prop:=∃k:Nat,k≤19∧i=.int .u64 ((k+2:Nat):Int)∧VW IV wr w.heap.size os v pd (GS (k+1))∧Below w.heap.size w wr∧Sm os ps wr
theorem iL {IV:jw}(H:ki IV)(HW:∀w,xC w→Calls prog 8 #[] w (qcu w))(w:World)(ht:xC w):Calls prog 7 #[] w (qcu w):=by
 have wK:=QH ht;clear ht;have qvh:Hid (∀W,Calls prog 18 #[.int .u8 97] W (okS la W)):=QH fun W=>ch.dv 97 W;have vD:Hid (∀W,Calls prog 23 #[.int .u64 1,.int .u64 1] W fun x w'=>x=.returned (.agg #[.int .u64 1,.int .u64 1])∧Below W.heap.size W w'):=QH fun W=>ch.xD 1 1 W;have qe0:Hid (∀W,Calls prog 23 #[.int .u64 1,.int .u64 2] W fun x w'=>x=.returned (.agg #[.int .u64 1,.int .u64 2])∧Below W.heap.size W w'):=QH fun W=>ch.xD 1 2 W;have q0M:Hid (∀W,Calls prog 23 #[.int .u64 1,.int .u64 20] W fun x w'=>x=.returned (.agg #[.int .u64 1,.int .u64 20])∧Below W.heap.size W w'):=QH fun W=>ch.xD 1 20 W;have qqG:Hid (∀W,Calls prog 23 #[.int .u64 1,.int .u64 21] W fun x w'=>x=.returned (.agg #[.int .u64 1,.int .u64 21])∧Below W.heap.size W w'):=QH fun W=>ch.xD 1 21 W;go_enter func7,ntmps7;go_wp2_with fail;refine(dk.gu 1000 192 400 (by decide) (by decide) (by decide) (by decide) w).mono ?_;rintro e W1 ⟨ps,os,rfl,hd,hb1,ho⟩;have eJ:Hid (Sm os ps W1):=QH hd;have zk:=QH hb1;have HL1:Hid (∀j,os j→j<W1.heap.size):=QH (fun j hj=>uE hd j hj);have sT:Hid (∀j,os j→w.heap.size≤j):=QH ho;clear hd hb1 ho;go_wp2_with fail;refine(qmk H 1 (by decide) (by decide) W1 (x9 wK.out zk.out (zG wK.out))).mono ?_;rintro e W2 ⟨v,pd,t,d,o1,o2,rfl,hv,hj,hr,hf,hb,ho⟩;have uk:=QH (eJ.out.below hb);have qG:=QH (q9 zk.out hb);have HV2:Hid (VW IV W2 w.heap.size os v pd (GS 0)):=QH ⟨t,d,m0 1,o1,o2,hv,fun j hj=>⟨Nat.le_trans zk.out.size (ho j hj),fun hx=>by
  have h1:=ho j hj;have h2:=HL1.out j hx;omega⟩,⟨fun j hj=>Nat.lt_of_lt_of_le (HL1.out j hj) hb.size,fun h=>by have h1:=sT.out _ h;have h2:=zG wK.out;omega⟩,hr,hj,hf,⟨rfl,rfl⟩⟩
 clear hv hj hr hf hb ho zk eJ HL1 sT;go_wp2_with fail;refine(vD.out _).mono ?_;rintro e W3 ⟨rfl,hb⟩;have HV3:=QH (HV2.out.below H hb);have zf:=QH (q9 qG.out hb);have rR:=QH (uk.out.below hb);clear hb HV2 qG uk;go_wp2_with fail;refine(vD.out _).mono ?_;rintro e W4 ⟨rfl,hb⟩;have HV4:=QH (HV3.out.below H hb);have zU:=QH (q9 zf.out hb);have pj:=QH (rR.out.below hb);clear hb HV3 zf rR;go_wp2_with fail;refine(vD.out _).mono ?_;rintro e W5 ⟨rfl,hb⟩;have HV5:=QH (HV4.out.below H hb);have jt:=QH (q9 zU.out hb);have rW:=QH (pj.out.below hb);clear hb HV4 zU pj;go_wp2_with fail;refine(vD.out _).mono ?_;rintro e W6 ⟨rfl,hb⟩;have HV6:=QH (HV5.out.below H hb);have vL:=QH (q9 jt.out hb);have HS6:=QH (rW.out.below hb);clear hb HV5 jt rW;go_wp2_with fail;refine(vD.out _).mono ?_;rintro e W7 ⟨rfl,hb⟩;have HV7:=QH (HV6.out.below H hb);have HB7:=QH (q9 vL.out hb);have HS7:=QH (HS6.out.below hb);clear hb HV6 vL HS6;go_wp2_with fail;refine(qe0.out _).mono ?_;rintro e W8 ⟨rfl,hb⟩;have HV8:=QH (HV7.out.below H hb);have HB8:=QH (q9 HB7.out hb);have HS8:=QH (HS7.out.below hb);clear hb HV7 HB7 HS7;have HBT:=QH ((Below.refl W8.heap.size W8).alloc (Nat.le_refl _) (.cells qe4 59));have zw:=QH (qg.new W8 59 qe4);have HV9:Hid (VW IV (W8.alloc (.cells qe4 59)) w.heap.size (fun j=>os j∨j=W8.heap.size) v pd (GS 0)):=QH (HV8.out.more H HBT.out (fun j hj=>hj.elim (fun h=>.inl h) (fun hj=>.inr ⟨by rw[hj];exact Nat.le_refl _,by rw[hj];simp⟩)));have HS9:=QH (HS8.out.below HBT.out);have HB9:=QH (q9 HB8.out HBT.out);go_wp2_with fail;rw[qfA]at HV9 zw HS9 HB9;obtain⟨W9,hW9⟩:=QE (W8.alloc (.cells #[.int .u64 0,.int .u64 0,.int .u64 1,.int .u64 1,.int .i64 2,.int .i64 2,.slice none 0 0,.int .u64 0,.int .u64 0,.int .u64 1,.int .u64 1,.int .i64 0,.int .i64 1,.slice none 0 0,.int .u64 0,.int .u64 0,.int .u64 1,.int .u64 1,.int .i64 1,.int .i64 0,.slice none 0 0,.int .u64 0,.int .u64 0,.int .u64 1,.int .u64 1,.int .i64 (-1),.int .i64 (-1),.slice none 0 0,.int .u64 1,.int .u64 1,.int .u64 1,.int .u64 2,.int .i64 1,.int .i64 1,.slice none 0 0,.int .u64 0,.int .u64 0,.int .u64 0,.int .u64 0,.int .i64 1,.int .i64 1,.slice none 0 0] 59));obtain⟨gb,hgb⟩:=QE W8.heap.size;rw[hgb]at HV9 zw ⊢;rw[hW9]at HV9 zw HS9 HB9 ⊢;rw[← qfA]at zw;clear hW9 hgb HBT HV8 HB8 HS8;go_loopw [6] (fun i wr=>q6a IV w os ps gb v pd i wr) (fun i _=>6-(intOf i).toNat);case atStart=>exact⟨0,by omega,rfl,HV9.out,HB9.out,zw.out,HS9.out⟩
 case round =>
  clear HV9 HB9 zw HS9;obtain⟨k,hk,rfl,hv,hb,ht,hs⟩:=hrel;have nO:=QH hv;have ru:=QH hb;have HT:=QH ht;have qfB:=QH hs;clear hv hb ht hs;by_cases hlt:k<6
  ·have jY:(k:Int)<6:=by omega
   obtain⟨x,hx⟩:∃x,qe3[k]?=some x:=⟨_,List.getElem?_eq_getElem (show k<qe3.length from hlt)⟩;have hxm:=List.mem_of_getElem? hx;have hcell:=qmw HT.out hx;have t0:=hcell 0 (by decide);have t1:=hcell 1 (by decide);have t2:=hcell 2 (by decide);have t3:=hcell 3 (by decide);have t4:=hcell 4 (by decide);have t5:=hcell 5 (by decide);have t6:=hcell 6 (by decide);simp only[tkT,tkV,Value.cells,QA,QB,QC,Nat.add_zero]at t0 t1 t2 t3 t4 t5 t6;have hlb:=HT.out.lt;have hst:=jo H nO.out ru.out.size x (qpv x hxm) none 0 [] (ch.dU.nil _ _) (by simp) (fun b o e=>by cases e) (Q':=GS 0) (r0:=2) (fun t d m r d' m' l' h1 h2 h3 h4 h5=>tV h2 h1 h3 h4 x [] (by rw[h4.qqF];exact qmv x hxm) (by decide) h5);have HST:=QH hst;clear hst hcell;go_wp2_with fail;refine HST.out.mono ?_;rintro e q6b ⟨rfl,hv,hk2⟩;have qfC:=QH hv;have ry:=QH (ru.out.trans (hk2.below ru.out.size));have qfD:=QH (qfB.out.ke hk2 (fun j hj=>.inl hj));have HT1:=QH (HT.out.of_block (hk2.block hlb (.inl (.inr rfl))));clear hv hk2 HST nO ru qfB t0 t1 t2 t3 t4 t5 t6 hlb HT;go_wp2_with fail;go_roundw;case rel=>exact⟨k+1,by omega,by go_num,qfC.out,ry.out,HT1.out,qfD.out⟩
   case measure=>simp[intOf];omega
  ·have jY:¬ (k:Int)<6:=by omega
   have qmx:=QH (nO.out.rq (Y:=os) (fun j hj=>.inl hj));clear nO;have nO:=QH qmx.out;clear qmx;clear HT hk hlt;go_wp2_with fail;refine(vD.out _).mono ?_;rintro e q6b ⟨rfl,hb⟩;have qfC:=QH (nO.out.below H hb);have ry:=QH (q9 ru.out hb);have qfD:=QH (qfB.out.below hb);clear hb nO ru qfB;go_wp2_with fail;refine(jo H qfC.out ry.out.size ⟨(0,0),(1,1),0,0⟩ ⟨⟨by decide,by decide⟩,⟨by decide,by decide⟩,by unfold yf;dsimp only;omega,by unfold yf;dsimp only;omega⟩ none 0 [] (ch.dU.nil _ _) (by simp) (fun b o e=>by cases e) (Q':=GS 1) (r0:=0) (fun t d m r d' m' l' h1 h2 h3 h4 h5=>qmu h2 h1 h3 h4 h5)).mono ?_;rintro e zcs ⟨rfl,hv,hk⟩;have qqH:=QH hv;have qqI:=QH (ry.out.trans (hk.below ry.out.size));have qqJ:=QH (qfD.out.ke hk (fun j hj=>hj));clear hv hk qfC ry qfD;go_wp2_with fail;refine(vD.out _).mono ?_;rintro e zct ⟨rfl,hb⟩;have qqK:=QH (qqH.out.below H hb);have qqL:=QH (q9 qqI.out hb);have qqM:=QH (qqJ.out.below hb);clear hb qqH qqI qqJ;go_wp2_with fail;refine(qe0.out _).mono ?_;rintro e qix ⟨rfl,hb⟩;have qqN:=QH (qqK.out.below H hb);have qqO:=QH (q9 qqL.out hb);have qqP:=QH (qqM.out.below hb);clear hb qqK qqL qqM;go_wp2_with fail;have HBP:=QH ((Below.refl qix.heap.size qix).alloc (Nat.le_refl _) (.cells #[.int .i64 1,.int .u8 97] 73));have HPT:Hid (ch.PtL (qix.alloc (.cells #[.int .i64 1,.int .u8 97] 73)) (some ⟨qix.heap.size,0,none⟩) [((1:Int),(97:UInt8))]):=QH (ch.l5 qix 1 97 (by unfold yf;omega));have dW:=QH (ch.uv (some ⟨qix.heap.size,0,none⟩) 1 [((1:Int),(97:UInt8))] _ HPT.out (by simp));have HCO:ch.dw [((1:Int),(97:UInt8))]=[((1:Int),la)]:=rfl;rw[HCO]at dW;obtain⟨q0N,qmy⟩:=QE la;rw[qmy]at dW;have qqQ:=QH qmy;clear HCO qmy;refine dW.out.mono ?_;rintro e q0O ⟨v1,rfl,ho1,hb1⟩;obtain⟨qvz,q6c,hv1,hl1,vZ⟩:=ho1.qfz (by intro y hy;simp at hy;subst hy;unfold yf;dsimp only;omega);subst hv1;have qqR:Hid (ch.dU q0O qvz [((1:Int),q0N)]):=QH hl1;have js:=QH (q9 HBP.out hb1);have qqS:Hid (VW IV q0O w.heap.size (fun j=>os j∨∃o,qvz=some ⟨j,o,none⟩) v pd (GS 1)):=QH (qqN.out.more H js.out (fun j hj=>by
    rcases hj with hj|⟨o,hj⟩
    ·exact .inl hj
    ·exact .inr ⟨Nat.le_trans HBP.out.size (vZ j o hj).1,(vZ j o hj).2⟩))
   have qfE:=QH (q9 qqO.out js.out);have qqT:=QH (qqP.out.below js.out);clear ho1 hl1 vZ hb1 js HBP HPT dW qqN qqO qqP;go_wp2_with fail;refine(jo H qqS.out qfE.out.size ⟨(1,1),(1,2),1,1⟩ ⟨⟨by decide,by decide⟩,⟨by decide,by decide⟩,by unfold yf;dsimp only;omega,by unfold yf;dsimp only;omega⟩ qvz q6c [((1:Int),q0N)] qqR.out (by simp) (fun b o e=>.inr ⟨o,e⟩) (Q':=GS 1) (r0:=2) (fun t d m r d' m' l' h1 h2 h3 h4 h5=>tV h2 h1 h3 h4 _ _ (by rw[GS.last (k:=0) h4,← qqQ.out];decide +kernel) (by decide) h5)).mono ?_;rintro e zcu ⟨rfl,hv,hk⟩;have qcd:=QH hv;have qqU:=QH (qfE.out.trans (hk.below qfE.out.size));have qqV:=QH (qqT.out.ke hk (fun j hj=>.inl hj));clear hv hk qqS qfE qqT;clear qqR qqQ;have qmz:=QH (qcd.out.rq (Y:=os) (fun j hj=>.inl hj));clear qcd;have qcd:=QH qmz.out;clear qmz;go_wp2_with fail;refine(vD.out _).mono ?_;rintro e zcv ⟨rfl,hb⟩;have qqW:=QH (qcd.out.below H hb);have qqX:=QH (q9 qqU.out hb);have qqY:=QH (qqV.out.below hb);clear hb qcd qqU qqV;go_wp2_with fail;refine(qe0.out _).mono ?_;rintro e qiy ⟨rfl,hb⟩;have qqZ:=QH (qqW.out.below H hb);have qra:=QH (q9 qqX.out hb);have qrb:=QH (qqY.out.below hb);clear hb qqW qqX qqY;go_wp2_with fail;have HBP:=QH ((Below.refl qiy.heap.size qiy).alloc (Nat.le_refl _) (.cells #[.int .i64 0,.int .u8 255] 73));have HPT:Hid (ch.PtL (qiy.alloc (.cells #[.int .i64 0,.int .u8 255] 73)) (some ⟨qiy.heap.size,0,none⟩) [((0:Int),(255:UInt8))]):=QH (ch.l5 qiy 0 255 (by unfold yf;omega));have dW:=QH (ch.uv (some ⟨qiy.heap.size,0,none⟩) 1 [((0:Int),(255:UInt8))] _ HPT.out (by simp));have HCO:ch.dw [((0:Int),(255:UInt8))]=[((0:Int),eG 255)]:=rfl;rw[HCO]at dW;obtain⟨q0P,qm0⟩:=QE (eG 255);rw[qm0]at dW;have qrc:=QH qm0;clear HCO qm0;refine dW.out.mono ?_;rintro e q0Q ⟨v1,rfl,ho1,hb1⟩;obtain⟨qv0,q6d,hv1,hl1,vZ⟩:=ho1.qfz (by intro y hy;simp at hy;subst hy;unfold yf;dsimp only;omega);subst hv1;have qrd:Hid (ch.dU q0Q qv0 [((0:Int),q0P)]):=QH hl1;have js:=QH (q9 HBP.out hb1);have qre:Hid (VW IV q0Q w.heap.size (fun j=>os j∨∃o,qv0=some ⟨j,o,none⟩) v pd (GS 1)):=QH (qqZ.out.more H js.out (fun j hj=>by
    rcases hj with hj|⟨o,hj⟩
    ·exact .inl hj
    ·exact .inr ⟨Nat.le_trans HBP.out.size (vZ j o hj).1,(vZ j o hj).2⟩))
   have qfF:=QH (q9 qra.out js.out);have qrf:=QH (qrb.out.below js.out);clear ho1 hl1 vZ hb1 js HBP HPT dW qqZ qra qrb;go_wp2_with fail;refine(jo H qre.out qfF.out.size ⟨(1,1),(1,2),1,1⟩ ⟨⟨by decide,by decide⟩,⟨by decide,by decide⟩,by unfold yf;dsimp only;omega,by unfold yf;dsimp only;omega⟩ qv0 q6d [((0:Int),q0P)] qrd.out (by simp) (fun b o e=>.inr ⟨o,e⟩) (Q':=GS 1) (r0:=2) (fun t d m r d' m' l' h1 h2 h3 h4 h5=>tV h2 h1 h3 h4 _ _ (by rw[GS.last (k:=0) h4,← qrc.out];decide +kernel) (by decide) h5)).mono ?_;rintro e zcw ⟨rfl,hv,hk⟩;have qce:=QH hv;have qfG:=QH (qfF.out.trans (hk.below qfF.out.size));have qrg:=QH (qrf.out.ke hk (fun j hj=>.inl hj));clear hv hk qre qfF qrf;clear qrd qrc;have qm1:=QH (qce.out.rq (Y:=os) (fun j hj=>.inl hj));clear qce;have qce:=QH qm1.out;clear qm1;go_wp2_with fail;refine(qiv H qce.out qfG.out.size (Q':=GS 1) (fun t d m r d' m' l' h1 h2 h3 h4 h5=>qiw h2 h1 h3 h4 h5)).mono ?_;rintro e zcx ⟨rfl,hv,hk⟩;have qrh:=QH hv;have qri:=QH (qfG.out.trans (hk.below qfG.out.size));have qrj:=QH (qrg.out.ke hk (fun j hj=>hj));clear hv hk qce qfG qrg;go_wp2_with fail;go_loopw [11] (fun i wr=>SnR IV w os ps v pd i wr) (fun i _=>21-(intOf i).toNat);case atStart=>exact⟨0,by omega,rfl,qrh.out,qri.out,qrj.out⟩
   case round =>
    clear qrh qri qrj;obtain⟨k,hk,rfl,hv,hb,hs⟩:=hrel;have qfH:=QH hv;have qcf:=QH hb;have qcg:=QH hs;clear hv hb hs;by_cases hlt:k<19
    ·have jY:((k+2:Nat):Int)≤20:=by omega
     have quO:(k:Int)+2≤20:=by omega
     go_wp2_with fail;refine(ch.xD 1 (k+2) _).mono ?_;rintro e zcy ⟨rfl,hb⟩;have qrk:=QH (qfH.out.below H hb);have qfI:=QH (q9 qcf.out hb);have qrl:=QH (qcg.out.below hb);clear hb qfH qcf qcg;have hst:=l7 H qrk.out qfI.out.size (1,k+2) ⟨by show 1<18446744073709551616;decide,by show k+2<18446744073709551616;omega⟩ (Q':=GS (k+2)) (r0:=0) (fun t d m r d' m' l' h1 h2 h3 h4 h5=>qps h2 h1 h3 h4 (by omega) h5);have HST:=QH hst;clear hst;go_wp2_with fail;refine HST.out.mono ?_;rintro e zcz ⟨rfl,hv,hk2⟩;have q0R:=QH hv;have q0S:=QH (qfI.out.trans (hk2.below qfI.out.size));have q0T:=QH (qrl.out.ke hk2 (fun j hj=>hj));clear hv hk2 HST qrk qfI qrl;go_wp2_with fail;go_roundw;case rel=>exact⟨k+1,by omega,by go_num,q0R.out,q0S.out,q0T.out⟩
     case measure=>simp[intOf];omega
    ·have jY:¬ ((k+2:Nat):Int)≤20:=by omega
     have quO:¬ (k:Int)+2≤20:=by omega
     obtain rfl:k=19:=by omega
     have qm2:Hid (VW IV wr w.heap.size os v pd (GS 20)):=QH qfH.out;obtain⟨zc0,qrm⟩:=QE wr;rw[qrm]at qm2 qcf qcg ⊢;have qrn:=QH qcf.out;have qro:=QH qcg.out;clear qrm qfH qcf qcg hk hlt;go_wp2_with fail;refine(qqG.out _).mono ?_;rintro e zc1 ⟨rfl,hb⟩;have qrp:=QH (qm2.out.below H hb);have qfJ:=QH (q9 qrn.out hb);have qrq:=QH (qro.out.below hb);clear hb qm2 qrn qro;go_wp2_with fail;refine(l7 H qrp.out qfJ.out.size (1,21) ⟨by decide,by decide⟩ (Q':=GS 20) (r0:=3) (fun t d m r d' m' l' h1 h2 h3 h4 h5=>qe2 h2 h1 h3 h4 h5)).mono ?_;rintro e zc2 ⟨rfl,hv,hk⟩;have qrr:=QH hv;have qrs:=QH (qfJ.out.trans (hk.below qfJ.out.size));have qrt:=QH (qrq.out.ke hk (fun j hj=>hj));clear hv hk qrp qfJ qrq;go_wp2_with fail;refine(q0M.out _).mono ?_;rintro e zc3 ⟨rfl,hb⟩;have qru:=QH (qrr.out.below H hb);have qrv:=QH (q9 qrs.out hb);have qrw:=QH (qrt.out.below hb);clear hb qrr qrs qrt;go_wp2_with fail;refine(qqG.out _).mono ?_;rintro e zc4 ⟨rfl,hb⟩;have qrx:=QH (qru.out.below H hb);have qfK:=QH (q9 qrv.out hb);have qry:=QH (qrw.out.below hb);clear hb qru qrv qrw;go_wp2_with fail;refine(jo H qrx.out qfK.out.size ⟨(1,20),(1,21),1,1⟩ ⟨⟨by decide,by decide⟩,⟨by decide,by decide⟩,by unfold yf;dsimp only;omega,by unfold yf;dsimp only;omega⟩ none 0 [] (ch.dU.nil _ _) (by simp) (fun b o e=>by cases e) (Q':=GS 20) (r0:=3) (fun t d m r d' m' l' h1 h2 h3 h4 h5=>tV h2 h1 h3 h4 _ _ (by rw[GS.last (k:=19) h4];decide +kernel) (by decide) h5)).mono ?_;rintro e zc5 ⟨rfl,hv,hk⟩;have qrz:=QH hv;have qfL:=QH (qfK.out.trans (hk.below qfK.out.size));have qr0:=QH (qry.out.ke hk (fun j hj=>hj));clear hv hk qrx qfK qry;go_wp2_with fail;have HVD:=QH qrz.out.vd;clear qrz;refine(qf8 H HVD.out qfL.out.size (F:=dk.DD.off) (r:=.tuple #[]) (R':=fun d m _=>d.on=false∧d.qi=0∧∃t,qM 1 400 t m∧(∀keep,RJ 400 t (d.bK keep))∧GS 20 t m) (fun o2 d m l hd _=>dk.qeT hd) (fun d m l ⟨_,t,h1,h2,_,h4⟩=>⟨rfl,rfl,t,h1,fun keep=>qmt h2 keep,h4⟩)).mono ?_;rintro e zc6 ⟨rfl,hv,hk⟩;have qr1:=QH hv;have qr2:=QH (qfL.out.trans (hk.below qfL.out.size));have qr3:=QH (qr0.out.ke hk (fun j hj=>hj));clear hv hk HVD qfL qr0;go_wp2_with fail;refine(vD.out _).mono ?_;rintro e zc7 ⟨rfl,hb⟩;have qr4:=QH (qr1.out.below H hb);have qfM:=QH (q9 qr2.out hb);have qr5:=QH (qr3.out.below hb);clear hb qr1 qr2 qr3;go_wp2_with fail;refine(iB H qr4.out qfM.out.size (1,1) ⟨by decide,by decide⟩ (fun d m l h=>.inr h.1) (R':=fun d m l=>l=true∧d.on=false∧d.qi=0∧∃t,qM 1 400 t m∧(∀keep,RJ 400 t (d.bK keep))∧GS 20 t m) (fun d m l h=>⟨rfl,h⟩)).mono ?_;rintro e zc8 ⟨rfl,hv,hk⟩;have qr6:=QH hv;have qfN:=QH (qfM.out.trans (hk.below qfM.out.size));have qr7:=QH (qr5.out.ke hk (fun j hj=>hj));clear hv hk qr4 qfM qr5;go_wp2_with fail;refine(qf8 H qr6.out qfN.out.size (F:=fun d=>d.bK []) (r:=.tuple #[]) (R':=fun d m l=>l=true∧∃t,qM 1 400 t m∧RJ 400 t d∧d.qi=0∧GS 20 t m) (fun o2 d m l hd h=>dk.qkQ hd (by decide) h.2.1 none 0 [] (fun i hi=>absurd hi (by simp)) (fun b o e=>by cases e)) (fun d m l ⟨h0,_,h1,t,h2,h3,h4⟩=>⟨h0,t,h2,h3 [],rj d [] h1,h4⟩)).mono ?_;rintro e zc9 ⟨rfl,hv,hk⟩;have qr8:=QH hv;have qr9:=QH (qfN.out.trans (hk.below qfN.out.size));have qrA:=QH (qr7.out.ke hk (fun j hj=>hj));clear hv hk qr6 qfN qr7;go_wp2_with fail;refine(vD.out _).mono ?_;rintro e zcA ⟨rfl,hb⟩;have qrB:=QH (qr8.out.below H hb);have qfO:=QH (q9 qr9.out hb);have qrC:=QH (qrA.out.below hb);clear hb qr8 qr9 qrA;go_wp2_with fail;refine(iB H qrB.out qfO.out.size (1,1) ⟨by decide,by decide⟩ (fun d m l h=>.inl h.1) (R':=fun d m _=>∃t,qM 1 400 t m∧RJ 400 t d∧d.qi=0∧GS 20 t m) (fun d m l h=>h.2)).mono ?_;rintro e zcB ⟨rfl,hv,hk⟩;have qrD:=QH hv;have qfP:=QH (qfO.out.trans (hk.below qfO.out.size));have qrE:=QH (qrC.out.ke hk (fun j hj=>hj));clear hv hk qrB qfO qrC;go_wp2_with fail;refine(qpr H qrD.out qfP.out.size).mono ?_;rintro e zcC ⟨vn,rfl,hv,hk⟩;have qrF:=QH hv;have qrG:=QH (qfP.out.trans (hk.below qfP.out.size));have qrH:=QH (qrE.out.ke hk (fun j hj=>hj));clear hv hk qrD qfP qrE;go_wp2_with fail;refine(H.qkx _).mono ?_;rintro e zcD ⟨zcE,zcF,rfl,_,_,hb⟩;have qrI:=QH (qrF.out.below H hb);have qrJ:=QH (q9 qrG.out hb);have qrK:=QH (qrH.out.below hb);dsimp only;try dsimp only[List.length_cons,List.length_nil,Nat.reduceAdd,Nat.zero_add]
     clear hb qrF qrG qrH;go_wp2_with fail;refine(vD.out _).mono ?_;rintro e zcG ⟨rfl,hb⟩;have qrL:=QH (qrI.out.below H hb);have qrM:=QH (q9 qrJ.out hb);have qrN:=QH (qrK.out.below hb);clear hb qrI qrJ qrK;go_wp2_with fail;refine(H.qkz (1,1) _ ⟨by decide,by decide⟩).mono ?_;rintro e zcH ⟨zcI,zcJ,rfl,_,_,hb⟩;have qrO:=QH (qrL.out.below H hb);have qrP:=QH (q9 qrM.out hb);have qrQ:=QH (qrN.out.below hb);dsimp only;try dsimp only[List.length_cons,List.length_nil,Nat.reduceAdd,Nat.zero_add]
     clear hb qrL qrM qrN;go_wp2_with fail;refine(H.mE 0 _ (by unfold yf;omega)).mono ?_;rintro e zcK ⟨zcL,zcM,rfl,_,_,hb⟩;have qrR:=QH (qrO.out.below H hb);have qrS:=QH (q9 qrP.out hb);have qrT:=QH (qrQ.out.below hb);dsimp only;try dsimp only[List.length_cons,List.length_nil,Nat.reduceAdd,Nat.zero_add]
     clear hb qrO qrP qrQ;go_wp2_with fail;refine(H.qbj _).mono ?_;rintro e zcN ⟨rfl,hb⟩;have qrU:=QH (qrR.out.below H hb);have qrV:=QH (q9 qrS.out hb);have qrW:=QH (qrT.out.below hb);clear hb qrR qrS qrT;go_wp2_with fail;refine(H.qk4 _).mono ?_;rintro e qe5 ⟨qpx,qpy,rfl,_,_,hb⟩;have qrX:=QH (qrU.out.below H hb);have qrY:=QH (q9 qrV.out hb);have qrZ:=QH (qrW.out.below hb);unfold tkV tf zL;dsimp only[List.length_cons,List.length_nil,Nat.reduceAdd,Nat.zero_add];clear hb qrU qrV qrW;have HBT:=QH ((Below.refl qe5.heap.size qe5).alloc (Nat.le_refl _) (.cells #[.int .u64 0,.int .u64 0,.int .u64 0,.int .u64 0,.int .i64 0,.int .i64 0,.slice qpx 0 qpy] 59));have zw:=QH (qg.new qe5 59 #[.int .u64 0,.int .u64 0,.int .u64 0,.int .u64 0,.int .i64 0,.int .i64 0,.slice qpx 0 qpy]);have qfQ:Hid (VW IV (qe5.alloc (.cells #[.int .u64 0,.int .u64 0,.int .u64 0,.int .u64 0,.int .i64 0,.int .i64 0,.slice qpx 0 qpy] 59)) w.heap.size (fun j=>os j∨j=qe5.heap.size) vn pd (GS 20)):=QH (qrX.out.more H HBT.out (fun j hj=>hj.elim (fun h=>.inl h) (fun hj=>.inr ⟨by rw[hj];exact Nat.le_refl _,by rw[hj];simp⟩)));have qm3:=QH (qrZ.out.below HBT.out);have qfR:=QH (q9 qrY.out HBT.out);go_wp2_with fail;obtain⟨zcO,qsa⟩:=QE (qe5.alloc (.cells #[.int .u64 0,.int .u64 0,.int .u64 0,.int .u64 0,.int .i64 0,.int .i64 0,.slice qpx 0 qpy] 59));obtain⟨TB,hTB⟩:=QE qe5.heap.size;rw[hTB]at qfQ zw ⊢;rw[qsa]at qfQ zw qm3 qfR ⊢;clear qsa hTB HBT qrX qrY qrZ;refine(HW _ (x9 wK.out qfR.out (zG wK.out))).mono ?_;rintro e zcP ⟨rfl,hb⟩;have qm4:=QH (qfQ.out.below H hb);have qsb:=QH (q9 qfR.out hb);have qsc:=QH (qm3.out.below hb);have qU:=QH (zw.out.below hb);clear zw;have zw:=QH qU.out;clear qU;clear hb qfQ qfR qm3;go_wp2_with fail;refine(qpw H qm4.out).mono ?_;rintro e zcQ ⟨zcR,zcS,rfl,hb⟩;have qsd:=QH (qm4.out.below H hb);have qse:=QH (q9 qsb.out hb);have qsf:=QH (qsc.out.below hb);have qU:=QH (zw.out.below hb);clear zw;have zw:=QH qU.out;clear qU;clear hb qm4 qsb qsc;go_wp2_with fail;refine(vD.out _).mono ?_;rintro e zcT ⟨rfl,hb⟩;have qsg:=QH (qsd.out.below H hb);have qfS:=QH (q9 qse.out hb);have qsh:=QH (qsf.out.below hb);have qU:=QH (zw.out.below hb);clear zw;have zw:=QH qU.out;clear qU;clear hb qsd qse qsf;go_wp2_with fail;refine(qpq H qsg.out qfS.out.size (1,1) ⟨by decide,by decide⟩ (Q':=fun _ _=>True) (fun t d m r d' m' l' h1 h2 h3 h4 h5=>qpt (k:=19) h2 h1 h3 h4 h5)).mono ?_;rintro e zcU ⟨rfl,hv,hk⟩;have qsi:=QH hv;have qsj:=QH (qfS.out.trans (hk.below qfS.out.size));have qm5:=QH (qsh.out.ke hk (fun j hj=>.inl hj));have qU:=QH (zw.out.of_block (hk.block zw.out.lt (.inl (.inr rfl))));clear zw;have zw:=QH qU.out;clear qU;clear hv hk qsg qfS qsh;go_wp2_with fail;refine(H.aQ 2 qm5.out rfl (by unfold yf;omega) (.inr (.inr (by decide)))).mono ?_;rintro e zcV ⟨rfl,hb⟩;have qm6:=QH (qsi.out.below H hb);have qsk:=QH (q9 qsj.out hb);have qsl:=QH (qm5.out.below hb);have qU:=QH (zw.out.below hb);clear zw;have zw:=QH qU.out;clear qU;clear hb qsi qsj qm5;go_wp2_with fail;refine(aq H qm6.out 0 (by unfold yf;omega) (.inl (by decide))).mono ?_;rintro e zcW ⟨rfl,hb⟩;have qm7:=QH (qm6.out.below H hb);have qsm:=QH (q9 qsk.out hb);have qsn:=QH (qsl.out.below hb);have qU:=QH (zw.out.below hb);clear zw;have zw:=QH qU.out;clear qU;clear hb qm6 qsk qsl;go_wp2_with fail;refine(aq H qm7.out 9 (by unfold yf;omega) (.inr (by decide))).mono ?_;rintro e zcX ⟨rfl,hb⟩;have qso:=QH (qm7.out.below H hb);have qsp:=QH (q9 qsm.out hb);have qsq:=QH (qsn.out.below hb);have qU:=QH (zw.out.below hb);clear zw;have zw:=QH qU.out;clear qU;clear hb qm7 qsm qsn;go_wp2_with fail;refine(H.mG 1 _ (by unfold yf;omega)).mono ?_;rintro e zcY ⟨rfl,hb⟩;have qsr:=QH (qso.out.below H hb);have qss:=QH (q9 qsp.out hb);have qst:=QH (qsq.out.below hb);have qU:=QH (zw.out.below hb);clear zw;have zw:=QH qU.out;clear qU;clear hb qso qsp qsq;go_wp2_with fail;refine(qvh.out _).mono ?_;rintro e zcZ ⟨rfl,hb⟩;have qsu:=QH (qsr.out.below H hb);have qsv:=QH (q9 qss.out hb);have qsw:=QH (qst.out.below hb);have qU:=QH (zw.out.below hb);clear zw;have zw:=QH qU.out;clear qU;clear hb qsr qss qst;go_wp2_with fail;refine(H.qdz 0 la _ (by unfold yf;omega)).mono ?_;rintro e zda ⟨rfl,hb⟩;have qsx:=QH (qsu.out.below H hb);have qsy:=QH (q9 qsv.out hb);have qsz:=QH (qsw.out.below hb);have qU:=QH (zw.out.below hb);clear zw;have zw:=QH qU.out;clear qU;clear hb qsu qsv qsw;go_wp2_with fail;refine(vD.out _).mono ?_;rintro e zdb ⟨rfl,hb⟩;have qs0:=QH (qsx.out.below H hb);have qs1:=QH (q9 qsy.out hb);have qs2:=QH (qsz.out.below hb);have qU:=QH (zw.out.below hb);clear zw;have zw:=QH qU.out;clear qU;clear hb qsx qsy qsz;go_wp2_with fail;refine(H.qku (1,1) _ ⟨by decide,by decide⟩).mono ?_;rintro e zdc ⟨rfl,hb⟩;have qs3:=QH (qs0.out.below H hb);have qs4:=QH (q9 qs1.out hb);have qs5:=QH (qs2.out.below hb);have qU:=QH (zw.out.below hb);clear zw;have zw:=QH qU.out;clear qU;clear hb qs0 qs1 qs2;go_wp2_with fail;refine(H.qkv 0 _ (by unfold yf;omega)).mono ?_;rintro e zdd ⟨rfl,hb⟩;have qs6:=QH (qs3.out.below H hb);have qs7:=QH (q9 qs4.out hb);have qs8:=QH (qs5.out.below hb);have qU:=QH (zw.out.below hb);clear zw;have zw:=QH qU.out;clear qU;clear hb qs3 qs4 qs5;go_wp2_with fail;refine(vD.out _).mono ?_;rintro e zde ⟨rfl,hb⟩;have qs9:=QH (qs6.out.below H hb);have qsA:=QH (q9 qs7.out hb);have qsB:=QH (qs8.out.below hb);have qU:=QH (zw.out.below hb);clear zw;have zw:=QH qU.out;clear qU;clear hb qs6 qs7 qs8;go_wp2_with fail;refine(H.qkw (1,1) _ ⟨by decide,by decide⟩).mono ?_;rintro e zdf ⟨rfl,hb⟩;have qsC:=QH (qs9.out.below H hb);have qsD:=QH (q9 qsA.out hb);have qsE:=QH (qsB.out.below hb);have qU:=QH (zw.out.below hb);clear zw;have zw:=QH qU.out;clear qU;clear hb qs9 qsA qsB;go_wp2_with fail;refine(H.qk5 ⟨(0,0),(0,0),0,0⟩ _ ⟨⟨by decide,by decide⟩,⟨by decide,by decide⟩,by unfold yf;dsimp only;omega,by unfold yf;dsimp only;omega⟩).mono ?_;rintro e zdg ⟨rfl,hb⟩;have qsF:=QH (qsC.out.below H hb);have qsG:=QH (q9 qsD.out hb);have qsH:=QH (qsE.out.below hb);have qU:=QH (zw.out.below hb);clear zw;have zw:=QH qU.out;clear qU;clear hb qsC qsD qsE;go_wp2_with fail;refine(H.qff _).mono ?_;rintro e zdh ⟨rfl,hb⟩;have qsI:=QH (qsF.out.below H hb);have qsJ:=QH (q9 qsG.out hb);have qsK:=QH (qsH.out.below hb);have qU:=QH (zw.out.below hb);clear zw;have zw:=QH qU.out;clear qU;clear hb qsF qsG qsH;go_wp2_with fail;refine(H.qfe _).mono ?_;rintro e zdi ⟨rfl,hb⟩;have qsL:=QH (qsI.out.below H hb);have qsM:=QH (q9 qsJ.out hb);have qsN:=QH (qsK.out.below hb);have qU:=QH (zw.out.below hb);clear zw;have zw:=QH qU.out;clear qU;clear hb qsI qsJ qsK;go_wp2_with fail;refine(H.qky _).mono ?_;rintro e zdj ⟨zdk,zdl,rfl,_,_,hb⟩;have q8s:=QH (qsL.out.below H hb);have q0U:=QH (q9 qsM.out hb);have q8t:=QH (qsN.out.below hb);have qU:=QH (zw.out.below hb);clear zw;have zw:=QH qU.out;clear qU;dsimp only;try dsimp only[List.length_cons,List.length_nil,Nat.reduceAdd,Nat.zero_add]
     clear hb qsL qsM qsN;have zl:=zw.out.lt;have z6:=zw.out.cell 6;simp only[QA,QB,QC]at z6;go_wp2_with fail;go_ret;exact⟨rfl,q0U.out⟩
end Go.Proofs.YtdagdllomphidaaGreatDoor.vt.kn
namespace Go.Proofs.YtdagdllomphidaaGreatDoor.vaultKnown
open _root_.Go.Proofs.Tryz Go.ChangeShapes Go.WideShapes Go.ChangeAt Go.RowKit
open Go.ChangeMaps (open_string shut_string)
open _root_.Go.Proofs.Tryz ib vt vt.kn
theorem own:ownKnob prog.godebug=none:=by kernel_rfl
theorem qm8(os:Os)(args:Array Value):laidMet prog Rows.vaultKnownRow.laid ((wb os).forCall (fun _ _=>0) ⟨#[],args,[]⟩).memory :=
 laidMet_of_run3 8 (by kernel_rfl) (by kernel_rfl) (by kernel_rfl)
theorem witness(os:Os){H:Type}(enc:TypeId × Value→H) :
    (OpenSpec.ofChange Rows.vaultKnownSpec).preRow enc prog Tryz.f7 Rows.vaultKnownRow.domain false Rows.vaultKnownRow.laid ((wb os).forCall (fun _ _=>0) ⟨#[],#[],[]⟩).memory #[]:=by
 have hw:(DataW.whole enc prog ((wb os).forCall (fun _ _=>0) ⟨#[],#[],[]⟩).memory Tryz.f7.params.toList (OpenSpec.ofChange Rows.vaultKnownSpec).vars false (#[]:Array Value).toList 8).map (fun x=>(x.1,x.2.1)) =
     some ([],[]):=by kernel_rfl
 obtain⟨⟨x1,x2,x3⟩,hx,hx1⟩:=Option.map_eq_some_iff.1 hw;simp only[Prod.mk.injEq]at hx1;obtain⟨rfl,rfl⟩:=hx1;exact OpenSpec.preRow_of_cond 8 hx (by kernel_rfl) (fun k hk=>by cases hk) (by kernel_rfl) (qm8 os _)
theorem lifted(os:Os)(started:os.Started)(H:Type)(enc:TypeId × Value→H)(F:Stop.Interp) :
    ReturnsInHanded {} Tryz.checked os 7 .any ((OpenSpec.ofChange Rows.vaultKnownSpec).preRow enc prog Tryz.f7 Rows.vaultKnownRow.domain false Rows.vaultKnownRow.laid) (((OpenSpec.ofChange Rows.vaultKnownSpec).at F).post enc prog Tryz.f7 false true false false):=by
 refine returnsInHanded_of_row (C:=Tryz.checked) (s:=OpenSpec.ofChange Rows.vaultKnownSpec) own started (by kernel_rfl) func7
  (witness_row_at (enc:=enc) (C:=Tryz.checked) false (wb os) #[] rfl (by kernel_rfl) (by kernel_rfl) (by kernel_rfl) (witness os enc)) ?_
 intro W base args ds gs before q0V hW _ _ q6e hL _ _;have ht:xC W:=tU (laidMet.tail hL) (by kernel_rfl);have hW':=hW;obtain⟨p,q,hA0,hV,rfl,hfz,hnd⟩:=hW;have hA:DataW.TrodAll enc prog W 0 (fun _=>true) true Tryz.f7.params.toList args.toList ds p:=hA0;rw[Tryz.params7]at hA;obtain⟨q8u,rfl,rfl⟩:=trodAll_nil hA;obtain rfl:args = #[]:=by cases args;simp_all
 obtain⟨rfl,rfl⟩:=trodVars_none hV;clear hA0 q0V q6e;refine(iL qqA (qis qqA) W ht).mono fun e W' ⟨he,hg⟩=>?_;subst he;exact⟨_,rfl,_,_,_,[],[],[],hW',trodAll_mk1 (shut_bool underlying4 _),trodAll_mk0,rfl,hg.frame _,fun h=>by cases h⟩
theorem over:Rows.VaultKnownSaid :=
 OpenClaim.holds_of_cond 7 Tryz.f7 rfl rfl rfl rfl rfl rfl rfl ⟨rfl,rfl,rfl,rfl,rfl⟩ rfl rfl rfl rfl rfl (by kernel_rfl) func7 (by kernel_rfl)
  (of_decide_eq_true (by kernel_rfl)) (by unfold Func.isWrapper;first|(rw[if_pos (by decide +kernel)];kernel_rfl)|(rw[if_neg (by decide +kernel)];exact⟨rfl,rfl⟩))
  (fun os started H enc _ F=>by rw[OpenClaim.pre_eq_preRow];exact lifted os started H enc F)
theorem proved:Rows.VaultKnownCardSaid :=
 Claim7.holds_tied_plain_at .later [] [.data,.data,.pinned] true Rows.vaultKnownCard.stood.harness true
  over (fun _ h=>by cases h) (by kernel_rfl) (fun _ h=>by cases h) vaultKnown_row_tie rfl ⟨rfl,rfl⟩ (by kernel_rfl) rfl
  (fun f fn hf hfn=>by
   obtain rfl:f=7:=Option.some.inj ((show prog.funcNamed Rows.vaultKnownRow.func=some 7 by kernel_rfl).symm.trans hf) |>.symm;obtain rfl:fn=Tryz.f7:=(Option.some.inj (func7.symm.trans hfn)).symm;exact⟨by kernel_rfl,fun j t ht=>by
    rw[Tryz.params7]at ht;simp at ht⟩)
  (by kernel_rfl)
#print axioms proved
end Go.Proofs.YtdagdllomphidaaGreatDoor.vaultKnown
