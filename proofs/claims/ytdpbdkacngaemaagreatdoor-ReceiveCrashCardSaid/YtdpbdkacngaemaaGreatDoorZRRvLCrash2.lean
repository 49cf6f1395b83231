/- ReceiveCrash, of every input: the frame. -/
import Derived.Test.YtdpbdkacngaemaaGreatDoorZRRvLCrash1
import Derived.Test.YtdpbdkacngaemaaGreatDoorCards
import Derived.Test.YtdpbdkacngaemaaGreatDoorTie
import Derived.SevenTiedAt
import Derived.ProofKit
import Derived.ShutString
import Derived.SizedLaws
import Derived.ChangeOld
import Derived.SliceStrings
set_option linter.unusedVariables false
set_option linter.unusedSimpArgs false
set_option maxHeartbeats 30000000
set_option maxRecDepth 100000
namespace Go.Proofs.YtdpbdkacngaemaaGreatDoor.rv
open _root_.Go.Proofs.Tryz Go Go.RowKit ib mt st
open vt (yv js VP DD Ke gN)
def kF (b:Nat)(g:Gd)(t:vt.Tf)(p:Pa):Nat→Int
 | 0=>xE p
 | 1=>if p.base=g then 0 else 9
 | 2=>if within b p then 0 else 2
 | _=>if p.fr=jV t p then 0 else 10
def mJ (b:Nat)(g:Gd)(t:vt.Tf)(p:Pa):Int:=jA (kF b g t p) 4
theorem quL(m:Mt)(p:Pa):lg m p=mJ m.live.length (vt.qI m) (vt.tf m.tok) p:=rfl
def ml:vt.Tf:=⟨(0,0),(0,0),0,0⟩
structure WkF(m:Mt)(g:Gd)(n:Nat)(f:vt.Tf):Prop where
 len:m.live.length=4
 last:vt.qI m=g
 n:m.qc.length=n
 tok:vt.tf m.tok=f
section
variable {N:Nat} {t:vt.Tg} {d d':DD} {m m':Mt} {r:Int} {l':Bool} {g:Gd} {n:Nat} {f:vt.Tf} {p:Pa}
theorem q2T(h:WkF m g n f){c:Int}(ha:mJ 4 g f p=c)(hc:c≠0)(hq:qhl N t d m p r d' m' l'):r=c∧d'=d∧m'=m∧l'=false:=by
 have hk:lg m p=c:=by rw[quL,h.len,h.last,h.tok];exact ha
 rcases hq with⟨_,h1,h2,h3,h4⟩|⟨h0,_⟩
 ·exact⟨by rw[h1,hk],h2,h3,h4⟩
 ·rw[hk]at h0;exact absurd h0 hc
def WkN (t t':vt.Tg)(m m':Mt)(g:Gd)(n:Nat)(p:Pa):Prop :=
 if (jW p).next=(jW p).all then WkF m' p.target (n+1) ml∧vt.uk t' m'=⟨vt.xX (vt.volume t (vt.zP m (jW p))) p.zU,(vt.uk t m).qc++[⟨p.target,vt.xX (vt.volume t (vt.zP m (jW p))) p.zU,false⟩]⟩
 else WkF m' g n (jW p)∧vt.uk t' m'=vt.uk t m∧vt.volume t' m'.tok.qu=vt.xX (vt.volume t (vt.zP m (jW p))) p.zU
theorem q2U(h:WkF m g n f)(hR:vt.xK 4 N t m)(hN:377≤N)(hj:jr.JJ N t d)(hf:d.qz=0)(ha:mJ 4 g f p=0)(he:vt.zO 4 n g (jW p) p.zU=0)(hg:xF p.target)(hx:p.zU.length≤8)(hq:qhl N t d m p r d' m' l') :
    r=0∧l'=false∧d'.qz=0∧∃t',jr.JJ N t' d'∧vt.xK 4 N t' m'∧WkN t t' m m' g n p:=by
 have hk:lg m p=0:=by rw[quL,h.len,h.last,h.tok];exact ha
 have he':vt.zO m.live.length m.qc.length (vt.qI m) (jW p) p.zU=0:=by rw[h.len,h.n,h.last];exact he
 rcases hq with⟨h0,_⟩|⟨_,hq⟩
 ·exact absurd hk h0
 ·rcases vt.cD hR (jW p) hg p.zU with⟨_,hvf,_⟩|⟨h1,h2⟩
  ·have:=hvf.far hR.ok hx;omega
  ·rw[he']at h1;have hd:=h2 h1;generalize vt.xp N m (jW p) p.zU=P at *;rcases hq with⟨h0,_⟩|⟨_,rfl,hj',rfl,rfl,hf',_⟩|⟨_,_,_,_,hf',_⟩
   ·exact absurd h1 h0
   ·refine⟨rfl,rfl,hf' hf,_,hj',?_⟩;unfold WkN;by_cases hw:(jW p).next=(jW p).all
    ·rw[if_pos hw];obtain⟨⟨d1,d2,d3⟩,qhp⟩:=hd.whole hw;refine⟨hR.next d1 d2,⟨d1.len,?_,?_,by rw[qhp];rfl⟩,d3⟩
     ·rw[← vt.fk (jr.over t (vt.qO t P.m P.ws)),d3,ch.qj2];rfl
     ·have e:(vt.uk (jr.over t (vt.qO t P.m P.ws)) P.m).qc.length=P.m.qc.length:=by simp[vt.uk]
      have e2:(vt.uk t m).qc.length=m.qc.length:=by simp[vt.uk]
      rw[← e,d3,List.length_append,e2,h.n];rfl
    ·rw[if_neg hw];obtain⟨⟨d1,d2,d3⟩,qhp,qte⟩:=hd.part hw;refine⟨hR.next d1 d2,⟨d1.len,?_,?_,qhp⟩,d3,qte⟩
     ·rw[← vt.fk (jr.over t (vt.qO t P.m P.ws)),d3,vt.fk,h.last]
     ·have e:(vt.uk (jr.over t (vt.qO t P.m P.ws)) P.m).qc.length=P.m.qc.length:=by simp[vt.uk]
      have e2:(vt.uk t m).qc.length=m.qc.length:=by simp[vt.uk]
      rw[← e,d3,e2,h.n]
   ·exact absurd hf hf'
end
def l3:List Ch:=[(0,rep 97 32),(1,rep 98 32),(3,rep 99 32)]
def pW:Pa:=mI (0,0) (1,1) l3 0
def qW:Pa:=mI (0,0) (1,1) l3 2
def f1:vt.Tf:=⟨(0,0),(1,1),2,3⟩
theorem qxM:sO (0,0) (1,1) l3 0=(pW,0):=by decide +kernel
theorem qxN:sO (0,0) (1,1) l3 2=(qW,0):=by decide +kernel
theorem q7Z:mJ 4 (0,0) ml qW=10:=by decide +kernel
theorem q8a:mJ 4 (0,0) ml pW=0:=by decide +kernel
theorem q8b:mJ 4 (0,0) f1 pW=10:=by decide +kernel
theorem q8c:mJ 4 (0,0) f1 qW=0:=by decide +kernel
theorem q8d:mJ 4 (1,1) ml qW=9:=by decide +kernel
theorem q8e:vt.zO 4 0 (0,0) (jW pW) pW.zU=0:=by decide +kernel
theorem q8f:vt.zO 4 0 (0,0) (jW qW) qW.zU=0:=by decide +kernel
def Wk (IV:yv)(w:World)(B:Nat)(X:Nat→Prop)(v pd:Nat)(g:Gd)(n:Nat)(f:vt.Tf):Prop :=
 ∃t d m,V2 IV w B X v pd d m false∧vt.xK 4 500 t m∧jr.JJ 500 t d∧d.qz=0∧WkF m g n f
section
variable {IV:yv} (H:js IV) {w w':World} {B v pd n:Nat} {X Y:Nat→Prop} {g:Gd} {f:vt.Tf}
include H
theorem Wk.below(h:Wk IV w B X v pd g n f)(hb:Below w.heap.size w w'):Wk IV w' B X v pd g n f:=by
 obtain⟨t,d,m,h1,h2⟩:=h;exact⟨t,d,m,h1.below H hb,h2⟩
theorem Wk.more(h:Wk IV w B X v pd g n f)(hb:Below w.heap.size w w')(hY:∀j,Y j→X j∨(w.heap.size≤j∧j<w'.heap.size)):Wk IV w' B Y v pd g n f:=by
 obtain⟨t,d,m,h1,h2⟩:=h;exact⟨t,d,m,h1.more H hb hY,h2⟩
theorem Wk.turn{S:Nat→Prop}(h:Wk IV w B X v pd g n f)(hb:qB S w w')(hS:∀j,S j→X j∨w.heap.size≤j)(hY:∀j,Y j→X j∨(w.heap.size≤j∧j<w'.heap.size)):Wk IV w' B Y v pd g n f:=by
 obtain⟨t,d,m,h1,h2⟩:=h;exact⟨t,d,m,h1.turn H hb hS hY,h2⟩
theorem cP (h:Wk IV w B X v pd g n f)(hB:B≤w.heap.size)(A:Option Addr)(cp:Nat)(p:Pa)(hp:cV w A cp p)(hs:p.zU.length≤1000)(hA:∀b o,A=some ⟨b,o,none⟩→X b){c:Int}(ha:mJ 4 g f p=c)(hc:c≠0) :
    Calls prog 25 #[pt v,.agg (jL p A cp)] w fun e w'=>e=.returned (.int .i64 c)∧Wk IV w' B X v pd g n f∧Ke B X w w':=by
 obtain⟨t,d,m,h1,h2,h3,h4,h5⟩:=h;refine(nj H h1 hB A cp p h3 (by omega) h2 hp hs hA).mono ?_;rintro e w' ⟨r,d',m',l',rfl,hv,hk,hq⟩;obtain⟨rfl,rfl,rfl,rfl⟩:=q2T h5 ha hc hq;exact⟨rfl,⟨t,_,_,hv,h2,h3,h4,h5⟩,hk⟩
theorem rJ (h:Wk IV w B X v pd g n f)(hB:B≤w.heap.size)(A:Option Addr)(cp:Nat)(p:Pa)(hp:cV w A cp p)(hx:p.zU.length≤8)(hA:∀b o,A=some ⟨b,o,none⟩→X b)(ha:mJ 4 g f p=0)(he:vt.zO 4 n g (jW p) p.zU=0){g':Gd}{n':Nat}{f':vt.Tf}(hn:if (jW p).next=(jW p).all then p.target=g'∧n+1=n'∧ml=f' else g=g'∧n=n'∧jW p=f') :
    Calls prog 25 #[pt v,.agg (jL p A cp)] w fun e w'=>e=.returned (.int .i64 0)∧Wk IV w' B X v pd g' n' f'∧Ke B X w w':=by
 obtain⟨t,d,m,h1,h2,h3,h4,h5⟩:=h;refine(nj H h1 hB A cp p h3 (by omega) h2 hp (by omega) hA).mono ?_;rintro e w' ⟨r,d',m',l',rfl,hv,hk,hq⟩;obtain⟨rfl,rfl,hf',t',hj',hr',hw⟩:=q2U h5 h2 (by decide) h3 h4 ha he hp.target hx hq;refine⟨rfl,⟨t',d',m',hv,hr',hj',hf',?_⟩,hk⟩;unfold WkN at hw;split at hw
 ·rename_i hif;rw[if_pos hif]at hn;obtain⟨rfl,rfl,rfl⟩:=hn;exact hw.1
 ·rename_i hif;rw[if_neg hif]at hn;obtain⟨rfl,rfl,rfl⟩:=hn;exact hw.1
theorem qi4(h:Wk IV w B X v pd g n f)(hn:n≤1000):Calls prog 27 #[pt v] w fun e w'=>e=.returned (rH n g f.target f.next)∧Below w.heap.size w w':=by
 obtain⟨t,d,m,⟨o1,o2,hv,_⟩,h2,h3,h4,h5⟩:=h;have hg:(m.qc.map (·.g)).length=n:=by rw[List.length_map,h5.n]
 have h:=rI (gs:=m.qc.map (·.g)) (t:=m.tok) (p:=pt v) (w:=w) (by omega) (fun W hb=>H.list (ze H hv hb).is) (fun W hb=>H.token (ze H hv hb).is);have e1:m.tok.target=f.target:=by rw[← h5.tok];rfl
 have e2:m.tok.next=f.next:=by rw[← h5.tok];rfl
 rw[hg,vH,h5.last,e1,e2]at h;exact h
end
end Go.Proofs.YtdpbdkacngaemaaGreatDoor.rv
namespace Go.Proofs.YtdpbdkacngaemaaGreatDoor.rv
open _root_.Go.Proofs.Tryz Go Go.RowKit ib ch
def CG (vo:Value)(bb bo k n c:Nat)(x1:Int)(x2:Nat)(S:ByteArray):Nat→Value→World→Prop
 | 0,v,_=>v=vo
 | 1,v,_=>v=.slice (some ⟨bb,bo,none⟩) n c
 | 2,v,_=>v=.int .i64 (k:Int)
 | 3,v,_=>v=.pointer (some ⟨bb,bo+k*2,none⟩)
 | 4,v,_=>v=.pointer (some ⟨bb,bo+k*2,none⟩)
 | 5,v,_=>v=.int .i64 x1
 | 6,v,_=>v=.slice (some ⟨bb,bo,none⟩) n c
 | 7,v,_=>v=.int .i64 (k:Int)
 | 8,v,_=>v=.pointer (some ⟨bb,bo+k*2,none⟩)
 | 9,v,_=>v=.pointer (some ⟨bb,bo+k*2+1,none⟩)
 | 10,v,_=>v=.int .u8 (x2:Int)
 | 11,v,_=>v=.string S
 | 12,v,_=>v=.agg #[.int .i64 x1,.string S]
 | 13,v,w=>∃g,v=.slice (some ⟨g,0,none⟩) 1 1∧qd w g 122 #[.int .i64 x1,.string S]
 | _,_,_=>True
theorem qtx(vo:Value)(bb bo k n c:Nat)(x1:Int)(x2:Nat)(S:ByteArray)(i:Nat)(v:Value)(w w':World)(hi:i<14)(h:CG vo bb bo k n c x1 x2 S i v w)(hb:Below w.heap.size w w'):CG vo bb bo k n c x1 x2 S i v w':=by
 match i,hi,h with
 | 0,_,h | 1,_,h | 2,_,h | 3,_,h | 4,_,h | 5,_,h | 6,_,h | 7,_,h | 8,_,h | 9,_,h | 10,_,h | 11,_,h | 12,_,h=>exact h
 | 13,_,⟨g,h1,h2⟩=>exact⟨g,h1,h2.below hb⟩
def q2V (zs:List (Int × UInt8))(w:World)(v i:Value)(wr:World):Prop :=
 ∃k:Nat,k≤zs.length∧k≤5∧i=.int .i64 (k:Int)∧xL wr w.heap.size v (cN (zs.take k))∧Below w.heap.size w wr
theorem qlo(zs:List (Int × UInt8))(k:Nat)(h:k<zs.length)(h5:k<5):cN (zs.take (k+1))=cN (zs.take k)++[(zs[k].1,rep zs[k].2 32)]:=by
 unfold cN;rw[List.take_take,List.take_take,Nat.min_eq_right (by omega),Nat.min_eq_right (by omega),List.take_succ_eq_append_getElem h,List.map_append];rfl
theorem qpW(zs:List (Int × UInt8))(k:Nat)(h:k≤zs.length)(h5:k≤5):(cN (zs.take k)).length=k:=by
 unfold cN;rw[List.take_take,List.length_map,List.length_take];omega
theorem qlp(zs:List (Int × UInt8))(k:Nat)(h:k≤zs.length)(h5:k≤5)(he:¬ (k<zs.length∧k<5)):cN (zs.take k)=cN zs:=by
 unfold cN;rw[List.take_take]
 congr 1
 by_cases h:k=zs.length
 ·subst h;rw[← List.take_take,List.take_length]
 ·have:k=5:=by omega
  subst this;rw[Nat.min_self]
theorem qez{zs:List (Int × UInt8)}(h:∀x∈zs,kC x.1):∀x∈cN zs,kC x.1:=by
 intro x hx;obtain⟨y,hy,rfl⟩:=List.mem_map.1 hx;exact h y (List.mem_of_mem_take hy)
theorem qe0(A:Option Addr)(cp:Nat)(zs:List (Int × UInt8))(w:World)(hT:PtL w A zs)(hl:zs.length≤9223372036854775807) :
    Calls prog 24 #[.slice A zs.length cp] w (q1r (cN zs) w):=by
 obtain⟨i0,hi,hz0,hz1,hz2⟩:=info_parts jU;have HT:=QH hT;have HZB:Hid (∀x∈zs,kC x.1):=fun x hx=>by
  obtain⟨i,hi,rfl⟩:=List.getElem_of_mem hx;obtain⟨_,_,_,_,_,_,h⟩:=hT i hi;exact h
 clear hT;go_enter func24,ntmps24;go_wp2_with fail;go_loopw [3,4] (fun v i wr=>q2V zs w v i wr) (fun _ i _=>6-(intOf i).toNat);case atStart=>exact⟨0,Nat.zero_le _,Nat.zero_le _,rfl,World.ownsRow_nil _ _ _ _,Below.refl _ _⟩
 case round =>
  obtain⟨k,hk,hk5,rfl,ho,hB⟩:=hrel;have HO:=QH ho;have HB:=QH hB;clear ho hB;by_cases hgo:k<zs.length∧k<5
  ·obtain⟨hlt,qtn⟩:=hgo;obtain⟨bb,bo,rfl,hbb,c0,c1,cb⟩:=HT.out k hlt;have jC:=QH (qlo zs k hlt qtn);have gK:=QH (qpW zs k hk hk5);obtain⟨A5,c5,hv5,_⟩:=HO.out.view (fun y hy=>qez (zs:=zs.take k) (fun z hz=>HZB.out z (List.mem_of_mem_take hz)) y hy);rw[gK.out]at hv5;subst hv5;have q0:wr.cell? ⟨bb,bo+k*2,none⟩=some (.int .i64 zs[k].1):=by rw[HB.out.cell (p:=⟨bb,bo+k*2,none⟩) hbb];exact c0
   have q1:wr.cell? ⟨bb,bo+k*2+1,none⟩=some (.int .u8 (zs[k].2.toNat:Int)):=by rw[HB.out.cell (p:=⟨bb,bo+k*2+1,none⟩) hbb];exact c1
   have uK:bb<wr.heap.size:=Nat.lt_of_lt_of_le hbb HB.out.size;have qb2:(k:Int)<(zs.length:Int):=by omega
   have zfp:(k:Int)<5:=by omega
   clear c0 c1 cb;generalize zs[k]=x at *;have Q0:=QH q0;have Q1:=QH q1;clear q0 q1;have hcz:=x.2.toNat_lt;obtain⟨S,hS⟩:=QE (str (rep x.2 32));have HD:=QH (fun W=>qes x.2 W);have HS:=QH hS;clear hS;go_wp2_with fail;refine qV (by kernel_rfl) 14 [15,16,17,18,19,20,21,22,23,24,25,26,27,28] (by kernel_rfl) (CG (.slice A5 k c5) bb bo k zs.length cp x.1 x.2.toNat S) (qtx _ _ _ _ _ _ _ _ _) ?_ ?_
   ·intro i o vs ρ W hi ho hρ hfn hb hG;have t3:ρ (.tmp 3)=.slice A5 k c5:=hρ.out 3 rfl;have t0:ρ (.tmp 0)=.slice (some ⟨bb,bo,none⟩) zs.length cp:=hρ.out 0 rfl;have t4:ρ (.tmp 4)=.int .i64 (k:Int):=hρ.out 4 rfl;have s1:=hρ.at_ 16 1 rfl;have s2:=hρ.at_ 17 2 rfl;have s3:=hρ.at_ 18 3 rfl;have s4:=hρ.at_ 19 4 rfl;have s5:=hρ.at_ 20 5 rfl;have s6:=hρ.at_ 21 6 rfl;have s7:=hρ.at_ 22 7 rfl;have s8:=hρ.at_ 23 8 rfl;have s9:=hρ.at_ 24 9 rfl;have s10:=hρ.at_ 25 10 rfl;have s11:=hρ.at_ 26 11 rfl;have s12:=hρ.at_ 27 12 rfl;have hc:=hρ.const;have q0:W.cell? ⟨bb,bo+k*2,none⟩=some (.int .i64 x.1):=by rw[hb.cell (p:=⟨bb,bo+k*2,none⟩) uK];exact Q0.out
    have q1:W.cell? ⟨bb,bo+k*2+1,none⟩=some (.int .u8 (x.2.toNat:Int)):=by rw[hb.cell (p:=⟨bb,bo+k*2+1,none⟩) uK];exact Q1.out
    rcases i with _|_|_|_|_|_|_|_|_|_|_|_|_|_|i;all_goals (first|omega|skip)
    all_goals simp only[QA,QB,QC,Option.some.injEq]at ho
    all_goals subst ho
    ·exact q9 (w':=W) (by unfold execOp;simp only[t3];go_simp) ⟨Below.refl _ _,rfl⟩
    ·exact q9 (w':=W) (by unfold execOp;simp only[t0];go_simp) ⟨Below.refl _ _,rfl⟩
    ·exact q9 (w':=W) (by unfold execOp;simp only[t4];go_simp) ⟨Below.refl _ _,rfl⟩
    ·have g1:vs 1=_:=hG 1 (by kernel_rfl);have g2:vs 2=_:=hG 2 (by kernel_rfl);exact q9 (w':=W) (by unfold execOp;simp only[s1,g1,s2,g2];go_simp) ⟨Below.refl _ _,rfl⟩
    ·have g3:vs 3=_:=hG 3 (by kernel_rfl);exact q9 (w':=W) (by unfold execOp;simp only[s3,g3];go_simp) ⟨Below.refl _ _,rfl⟩
    ·have g4:vs 4=_:=hG 4 (by kernel_rfl);exact q9 (w':=W) (by unfold execOp;simp only[s4,g4];go_simp) ⟨Below.refl _ _,rfl⟩
    ·exact q9 (w':=W) (by unfold execOp;simp only[t0];go_simp) ⟨Below.refl _ _,rfl⟩
    ·exact q9 (w':=W) (by unfold execOp;simp only[t4];go_simp) ⟨Below.refl _ _,rfl⟩
    ·have g6:vs 6=_:=hG 6 (by kernel_rfl);have g7:vs 7=_:=hG 7 (by kernel_rfl);exact q9 (w':=W) (by unfold execOp;simp only[s6,g6,s7,g7];go_simp) ⟨Below.refl _ _,rfl⟩
    ·have g8:vs 8=_:=hG 8 (by kernel_rfl);exact q9 (w':=W) (by unfold execOp;simp only[s8,g8];go_simp) ⟨Below.refl _ _,rfl⟩
    ·have g9:vs 9=_:=hG 9 (by kernel_rfl);exact q9 (w':=W) (by unfold execOp;simp only[s9,g9];go_simp) ⟨Below.refl _ _,rfl⟩
    ·have g10:vs 10=_:=hG 10 (by kernel_rfl);refine qj (f:=14) (args:=#[.int .u8 (x.2.toNat:Int)]) (w':=W) (by unfold execOp;simp only[hc,hfn,s10,g10];go_simp) ((HD.out W).mono ?_);rintro e W' ⟨rfl,hb'⟩;exact⟨_,rfl,hb',by rw[HS.out];rfl⟩
    ·have g5:vs 5=_:=hG 5 (by kernel_rfl);have g11:vs 11=_:=hG 11 (by kernel_rfl);exact q9 (w':=W) (by unfold execOp;simp only[s5,g5,s11,g11];go_simp) ⟨Below.refl _ _,rfl⟩
    ·have g12:vs 12=_:=hG 12 (by kernel_rfl);refine q9 (w':=W.alloc (.cells #[.int .i64 x.1,.string S] 122)) (v:=.slice (some ⟨W.heap.size,0,none⟩) 1 1) (by unfold execOp;simp only[s12,g12];go_simp) ⟨(Below.refl _ W).alloc (Nat.le_refl _) _,W.heap.size,rfl,qd.new _ _ _⟩
   ·intro vs W hb hG;have g0:vs 0=_:=hG 0 (by decide);obtain⟨g,g13,zy⟩:=hG 13 (by decide);have B2:=QH (qa HB.out hb);have ue:Hid (W.ownsRow w.heap.size 122 2 (.slice A5 k c5) k (xq (cN (zs.take k)))):=by
     have ho:=HO.out;unfold xL at ho;rw[gK.out]at ho;refine⟨ho.1,?_⟩;rcases ho.2 with h2|⟨g',cap,cur,h1,h2,h3,h4⟩
     ·exact .inl h2
     ·exact .inr ⟨g',cap,cur,h1,h2,(hb.block g' (Array.getElem?_eq_some_iff.1 h3).1).trans h3,h4⟩
    have au:Hid (∀(j:Nat) (u:Value),([.int .i64 x.1,.string S]:List Value)[j]?=some u→W.cell? ((⟨g,0,none⟩:Addr).add j)=some u):=by
     intro j u hj
     match j,hj with
     | 0,hj =>
      simp at hj;subst hj;rw[addr_add];exact zy.cell 0
     | 1,hj =>
      simp at hj;subst hj;rw[addr_add];exact zy.cell 1
    simp only[qX,qK,if_true];rw[g0,g13];generalize vs 1=y1;generalize vs 2=y2;generalize vs 3=y3;generalize vs 4=y4;generalize vs 5=y5;generalize vs 6=y6;generalize vs 7=y7;generalize vs 8=y8;generalize vs 9=y9;generalize vs 10=y10;generalize vs 11=y11;generalize vs 12=y12;clear hG g0 g13 zy;simp only[Act.put,List.setIfInBounds_toArray,List.set_cons_succ,List.set_cons_zero];refine qM (i:=14) (by kernel_rfl) rfl rfl ?_;have qkK:∀u∈([Value.int .i64 x.1,.string S]:List Value),u.oneCell'=true:=by
     rw[← HS.out];exact qb4 (x.1,rep x.2 32)
    refine wp_append_own W (.tmp 15) (.tmp 28) 39 rfl w.heap.size 122 i0 (.agg #[.int .i64 0,.string ByteArray.empty]) 2 24 underlying39 hi hz0 hz1 hz2 rfl (by decide) _ k _ rfl ue.out ⟨g,0,none⟩ 1 1 [.int .i64 x.1,.string S] rfl rfl au.out qkK (by unfold maxLen;omega) (by omega) B2.out.size ?_;intro v' w1 hown hgrow _;have zB:=QH (B2.out.grown hgrow B2.out.size (fun j hj=>(ue.out.lt j hj).1));have HOS:Hid (xL w1 w.heap.size v' (cN (zs.take (k+1)))):=by
     unfold Hid;rw[jC.out];refine xL.snoc (x:=(x.1,rep x.2 32)) ?_;rw[gK.out,HS.out];exact hown
    obtain⟨A6,c6,hv6,_⟩:=HOS.out.view (fun y hy=>qez (zs:=zs.take (k+1)) (fun z hz=>HZB.out z (List.mem_of_mem_take hz)) y hy);clear hown hgrow hb;subst hv6;go_simp;refine qM (i:=15) (by kernel_rfl) rfl rfl ?_;go_simp;refine⟨by kernel_rfl,?_⟩;go_wp2_with fail;go_roundw;case rel=>exact⟨k+1,by omega,by omega,by go_num,HOS.out,zB.out⟩
    case measure=>simp[intOf];omega
  ·have HE:=QH (qlp zs k hk hk5 hgo);by_cases iV:(k:Int)<(zs.length:Int)
   ·have zX:¬ ((k:Int)<5):=by omega
    go_wp2_with fail;go_ret;exact⟨_,rfl,by rw[← HE.out];exact HO.out,HB.out⟩
   ·go_wp2_with fail;go_ret;exact⟨_,rfl,by rw[← HE.out];exact HO.out,HB.out⟩
end Go.Proofs.YtdpbdkacngaemaaGreatDoor.rv
namespace Go.Proofs.YtdpbdkacngaemaaGreatDoor.rv
open _root_.Go.Proofs.Tryz Go Go.RowKit Go.Sort ib mt st
open vt (yv js VP DD Ke gN)
theorem qlq(W:World):PtL (W.alloc (.cells #[.int .i64 0,.int .u8 97,.int .i64 1,.int .u8 98,.int .i64 3,.int .u8 99] 79)) (some ⟨W.heap.size,0,none⟩) [(0,97),(1,98),(3,99)]:=by
 intro i hi;have mr:i<3:=by simpa using hi
 match i,mr with
 | 0,_=>exact⟨W.heap.size,0,rfl,by simp,(qd.new W _ _).cell 0,(qd.new W _ _).cell 1,by show kC 0;unfold kC;decide⟩
 | 1,_=>exact⟨W.heap.size,0,rfl,by simp,(qd.new W _ _).cell 2,(qd.new W _ _).cell 3,by show kC 1;unfold kC;decide⟩
 | 2,_=>exact⟨W.heap.size,0,rfl,by simp,(qd.new W _ _).cell 4,(qd.new W _ _).cell 5,by show kC 3;unfold kC;decide⟩
theorem q2W:cN [(0,97),(1,98),(3,99)]=l3:=rfl
theorem q8h:∀x∈l3,kC x.1:=by
 have h:∀x∈l3,decide (-9223372036854775808≤x.1)&&decide (x.1≤9223372036854775807)=true:=by decide +kernel
 exact fun x hx=>by have:=h x hx;unfold kC;simpa using this
theorem q2X:∀x∈l3,x.2.length≤1000000:=by decide +kernel
def W3S (IV:yv)(V:World)(B:Nat)(X:Nat→Prop)(vp pd:Nat)(g1:Gd)(n1:Nat)(f1:vt.Tf)(g2:Gd)(n2:Nat)(f2:vt.Tf)(q:Bool)(W:World):Prop :=
 Ke B X V W∧B≤W.heap.size∧if q=true then Wk IV W B X vp pd g2 n2 f2 else Wk IV W B X vp pd g1 n1 f1
section
variable {IV:yv} (H:js IV) {V W W':World} {B vp pd n1 n2 cq:Nat} {X:Nat→Prop} {g1 g2:Gd} {f1 f2:vt.Tf} {q:Bool} {Aq:Option Addr}
include H
theorem fT (h:W3S IV V B X vp pd g1 n1 f1 g2 n2 f2 q W)(hb:Below W.heap.size W W'):W3S IV V B X vp pd g1 n1 f1 g2 n2 f2 q W':=by
 obtain⟨h1,h2,h3⟩:=h;refine⟨h1.trans (Ke.of_below hb),Nat.le_trans h2 hb.size,?_⟩;cases q
 ·exact Wk.below H h3 hb
 ·exact Wk.below H h3 hb
omit H in
theorem gI {p:Pa}(hk:Ke B X V W)(h:cV V Aq cq p)(hA:∀b o,Aq=some ⟨b,o,none⟩→X b):cV W Aq cq p:=fR h hk.size fun b o e hb=>hk.block hb (.inl (hA b o e))
theorem q2Y(h:W3S IV V B X vp pd (0,0) 0 rv.f1 (1,1) 1 ml false W)(hp:cV V Aq cq qW)(hA:∀b o,Aq=some ⟨b,o,none⟩→X b)(ha:mJ 4 (0,0) rv.f1 qW=0)(he:vt.zO 4 0 (0,0) (jW qW) qW.zU=0) :
    Calls prog 25 #[pt vp,.agg (jL qW Aq cq)] W fun e w'=>e=.returned (.int .i64 0)∧W3S IV V B X vp pd (0,0) 0 rv.f1 (1,1) 1 ml true w':=by
 obtain⟨h1,h2,h3⟩:=h;refine(rJ H h3 h2 Aq cq qW (gI h1 hp hA) (by decide) hA ha he (g':=(1,1)) (n':=1) (f':=ml) (by rw[if_pos (by decide)];exact⟨rfl,rfl,rfl⟩)).mono ?_;rintro e w' ⟨rfl,hw,hk⟩;exact⟨rfl,h1.trans hk,Nat.le_trans h2 hk.size,hw⟩
theorem q2Z{c:Int}(h:W3S IV V B X vp pd g1 n1 f1 g1 n1 f1 false W)(hp:cV V Aq cq qW)(hA:∀b o,Aq=some ⟨b,o,none⟩→X b)(ha:mJ 4 g1 f1 qW=c)(hc:c≠0) :
    Calls prog 25 #[pt vp,.agg (jL qW Aq cq)] W fun e w'=>e=.returned (.int .i64 c)∧W3S IV V B X vp pd g1 n1 f1 g1 n1 f1 true w':=by
 obtain⟨h1,h2,h3⟩:=h;refine(cP H h3 h2 Aq cq qW (gI h1 hp hA) (by decide) hA ha hc).mono ?_;rintro e w' ⟨rfl,hw,hk⟩;exact⟨rfl,h1.trans hk,Nat.le_trans h2 hk.size,hw⟩
end
def il (vp cq:Nat)(Aq:Option Addr):Nat→Value→World→Prop
 | 0,v,_=>v=.int .i64 0
 | 1,v,_=>v=.bool false
 | 2,v,_=>v=.bool false
 | 3,v,_=>v=.agg #[.int .u64 0,.int .u64 0]
 | 4,v,_=>v=.agg #[.int .u64 0,.int .u64 0]
 | 5,v,_=>v=.bool false
 | 6,v,_=>v=.bool false
 | 7,v,_=>v=.bool false
 | 8,v,_=>v=.agg #[.int .u64 1,.int .u64 1]
 | 9,v,_=>v=.agg #[.int .u64 1,.int .u64 1]
 | 10,v,_=>v=.bool false
 | 11,v,_=>v=.bool false
 | 12,v,_=>v=.bool false
 | 13,v,_=>v=.int .i64 2
 | 14,v,_=>v=.bool false
 | 15,v,_=>v=.bool false
 | 16,v,_=>v=.bool false
 | 17,v,_=>v=pt vp
 | 18,v,_=>v=.agg #[.int .u64 0,.int .u64 0,.int .u64 1,.int .u64 1,.int .i64 2,.int .i64 3,.slice Aq 1 cq]
 | 19,v,_=>v=.int .i64 0
 | 20,v,_=>v=.bool false
 | 21,v,_=>v=.bool false
 | _,_,_=>True
theorem qpX(vp cq:Nat)(Aq:Option Addr)(i:Nat)(x:Value)(w w':World)(hi:i<22)(h:il vp cq Aq i x w)(_:(fun(_ _:World)=>True) w w'):il vp cq Aq i x w':=by
 match i,hi,h with
 | 0,_,h | 1,_,h | 2,_,h | 3,_,h | 4,_,h | 5,_,h | 6,_,h | 7,_,h | 8,_,h | 9,_,h | 10,_,h | 11,_,h | 12,_,h | 13,_,h | 14,_,h | 15,_,h | 16,_,h | 17,_,h | 18,_,h | 19,_,h | 20,_,h | 21,_,h=>exact h
 | j+22,hi,_=>exact absurd hi (by omega)
def fU (vp cq:Nat)(Aq:Option Addr):Nat→Value→World→Prop
 | 0,v,_=>v=.int .i64 1
 | 1,v,_=>v=.bool true
 | 2,v,_=>v=.bool true
 | 3,v,_=>v=.agg #[.int .u64 1,.int .u64 1]
 | 4,v,_=>v=.agg #[.int .u64 1,.int .u64 1]
 | 5,v,_=>v=.bool true
 | 6,v,_=>v=.bool true
 | 7,v,_=>v=.bool true
 | 8,v,_=>v=.agg #[.int .u64 0,.int .u64 0]
 | 9,v,_=>v=.agg #[.int .u64 0,.int .u64 0]
 | 10,v,_=>v=.bool true
 | 11,v,_=>v=.bool true
 | 12,v,_=>v=.bool true
 | 13,v,_=>v=.int .i64 0
 | 14,v,_=>v=.bool true
 | 15,v,_=>v=.bool true
 | 16,v,_=>v=.bool true
 | 17,v,_=>v=pt vp
 | 18,v,_=>v=.agg #[.int .u64 0,.int .u64 0,.int .u64 1,.int .u64 1,.int .i64 2,.int .i64 3,.slice Aq 1 cq]
 | 19,v,_=>v=.int .i64 9
 | 20,v,_=>v=.bool true
 | 21,v,_=>v=.bool true
 | 22,v,_=>v=.bool true
 | _,_,_=>True
theorem qpY(vp cq:Nat)(Aq:Option Addr)(i:Nat)(x:Value)(w w':World)(hi:i<23)(h:fU vp cq Aq i x w)(_:(fun(_ _:World)=>True) w w'):fU vp cq Aq i x w':=by
 match i,hi,h with
 | 0,_,h | 1,_,h | 2,_,h | 3,_,h | 4,_,h | 5,_,h | 6,_,h | 7,_,h | 8,_,h | 9,_,h | 10,_,h | 11,_,h | 12,_,h | 13,_,h | 14,_,h | 15,_,h | 16,_,h | 17,_,h | 18,_,h | 19,_,h | 20,_,h | 21,_,h | 22,_,h=>exact h
 | j+23,hi,_=>exact absurd hi (by omega)
theorem qlr{IV:yv}(H:js IV)(w:World)(ht:xY w):Calls prog 32 #[] w (qa6 w):=by
 have rM:Hid (gN<w.heap.size):=vt.xI ht;have HMD:=QH (qev H 4 (by decide) (by decide) w ht);clear ht;go_enter func32,ntmps32;go_wp2_with fail;refine HMD.out.mono ?_;rintro e W1 ⟨vp,pd,t,d,o1,o2,rfl,hv,hj,hr,hf,hb,ho⟩;have sg:Hid (Wk IV W1 w.heap.size (fun _=>False) vp pd (0,0) 0 ml):=⟨t,d,_,⟨o1,o2,hv,fun j hj=>⟨ho j hj,id⟩,fun j h=>h.elim,rM.out,id⟩,hr,hj,hf,⟨rfl,rfl,rfl,rfl⟩⟩;have qT:=QH hb;clear hv hj hr hf hb ho HMD;have hb2:=(Below.refl W1.heap.size W1).alloc (Nat.le_refl _) (.cells #[.int .i64 0,.int .u8 97,.int .i64 1,.int .u8 98,.int .i64 3,.int .u8 99] 79);have hpl:=qlq W1;obtain⟨W2,hW2⟩:=QE (W1.alloc (.cells #[.int .i64 0,.int .u8 97,.int .i64 1,.int .u8 98,.int .i64 3,.int .u8 99] 79));rw[hW2]at hb2 hpl;obtain⟨gl,jX⟩:=QE W1.heap.size;rw[jX]at hpl;have HCG:=QH (qe0 (some ⟨gl,0,none⟩) 3 [(0,97),(1,98),(3,99)] W2 hpl (by decide));rw[q2W]at HCG;have q3b:=QH hb2;have HW2:=QH hW2;have HGL:=QH jX;clear hb2 hpl hW2 jX;go_upto_region 4 with fail;go_wp2_with fail;try rw[HW2.out]
 try rw[HGL.out]
 refine HCG.out.mono ?_;rintro e W3 ⟨vl,rfl,hoc,hb⟩;obtain⟨Al,cl,rfl,hcl,-,qaH⟩:=ch.pg.xL.quC hoc q8h;rw[show l3.length=3 from rfl]at qaH ⊢;have kK:=QH hcl;have HCP:=QH qaH;have q3c:=QH (qa q3b.out hb);clear hoc hcl qaH hb HCG HW2 HGL q3b;go_wp2_with fail;refine(xy 0 0 W3).mono ?_;rintro e W4 ⟨rfl,hb⟩;have q3d:=QH (qa q3c.out hb)
 replace kK:=QH (kK.out.below hb)
 clear q3c hb;go_wp2_with fail;refine(xy 1 1 W4).mono ?_;rintro e W5 ⟨rfl,hb⟩;have qkA:=QH (qa q3d.out hb)
 replace kK:=QH (kK.out.below hb)
 clear q3d hb;have dv:=QH (st.mX (0,0) (1,1) Al cl l3 0 W5 ⟨by decide,by decide⟩ ⟨by decide,by decide⟩ kK.out (by decide) HCP.out.1 HCP.out.2 q2X (by unfold kC;decide));rw[qxM,show l3.length=3 from rfl]at dv;go_wp2_with fail;refine dv.out.mono ?_;rintro e W6 ⟨Ap,cp,rfl,hp,hn,hb⟩;dsimp only at hp ⊢;rw[show jL pW Ap cp = #[.int .u64 0,.int .u64 0,.int .u64 1,.int .u64 1,.int .i64 0,.int .i64 3,.slice Ap 2 cp]from rfl];have lZ:=QH hp;have hs2:=qkA.out.size;have qxO:=QH (qa qkA.out hb)
 replace kK:=QH (kK.out.below hb)
 clear qkA hb hp dv;have cb:=(Below.refl W6.heap.size W6).alloc (Nat.le_refl _) (.cells #[.int .u64 0,.int .u64 0,.int .u64 1,.int .u64 1,.int .i64 0,.int .i64 3,.slice Ap 2 cp] 41);have kb:=qd.new W6 41 #[.int .u64 0,.int .u64 0,.int .u64 1,.int .u64 1,.int .i64 0,.int .i64 3,.slice Ap 2 cp];obtain⟨W7,hWn⟩:=QE (W6.alloc (.cells #[.int .u64 0,.int .u64 0,.int .u64 1,.int .u64 1,.int .i64 0,.int .i64 3,.slice Ap 2 cp] 41));rw[hWn]at cb kb;obtain⟨g4,hg⟩:=QE W6.heap.size;have HG4:Hid (W1.heap.size≤g4):=by have:=qxO.out.size;unfold Hid;omega
 rw[hg]at kb;have HN4:Hid (∀b o,Ap=some ⟨b,o,none⟩→W1.heap.size≤b∧b<g4):=fun b o e=>by
  have h1:=hn b o e;omega
 clear hn hs2;have B4:=QH kb
 replace lZ:=QH (lZ.out.below cb)
 have q3e:=QH (qa qxO.out cb)
 replace kK:=QH (kK.out.below cb)
 have HWn:=QH hWn;have HGn:=QH hg;clear qxO cb kb hWn hg;go_upto_region 6 with fail;try rw[HWn.out]
 try rw[HGn.out]
 clear HWn HGn;go_wp2_with fail;refine(xy 0 0 W7).mono ?_;rintro e W8 ⟨rfl,hb⟩;have qkB:=QH (qa q3e.out hb)
 replace kK:=QH (kK.out.below hb)
 replace lZ:=QH (lZ.out.below hb)
 replace B4:=QH (B4.out.below hb)
 clear q3e hb;go_wp2_with fail;refine(xy 1 1 W8).mono ?_;rintro e W9 ⟨rfl,hb⟩;have qxP:=QH (qa qkB.out hb)
 replace kK:=QH (kK.out.below hb)
 replace lZ:=QH (lZ.out.below hb)
 replace B4:=QH (B4.out.below hb)
 clear qkB hb;have dv:=QH (st.mX (0,0) (1,1) Al cl l3 2 W9 ⟨by decide,by decide⟩ ⟨by decide,by decide⟩ kK.out (by decide) HCP.out.1 HCP.out.2 q2X (by unfold kC;decide));rw[qxN,show l3.length=3 from rfl]at dv;go_wp2_with fail;refine dv.out.mono ?_;rintro e W10 ⟨Aq,cq,rfl,hp,hn,hb⟩;dsimp only at hp ⊢;rw[show jL qW Aq cq = #[.int .u64 0,.int .u64 0,.int .u64 1,.int .u64 1,.int .i64 2,.int .i64 3,.slice Aq 1 cq]from rfl];have HP6:=QH hp;have hs2:=qxP.out.size;have qpZ:=QH (qa qxP.out hb)
 replace kK:=QH (kK.out.below hb)
 replace lZ:=QH (lZ.out.below hb)
 replace B4:=QH (B4.out.below hb)
 clear qxP hb hp dv;have cb:=(Below.refl W10.heap.size W10).alloc (Nat.le_refl _) (.cells #[.int .u64 0,.int .u64 0,.int .u64 1,.int .u64 1,.int .i64 2,.int .i64 3,.slice Aq 1 cq] 41);have kb:=qd.new W10 41 #[.int .u64 0,.int .u64 0,.int .u64 1,.int .u64 1,.int .i64 2,.int .i64 3,.slice Aq 1 cq];obtain⟨W11,hWn⟩:=QE (W10.alloc (.cells #[.int .u64 0,.int .u64 0,.int .u64 1,.int .u64 1,.int .i64 2,.int .i64 3,.slice Aq 1 cq] 41));rw[hWn]at cb kb;obtain⟨g6,hg⟩:=QE W10.heap.size;have HG6:Hid (W1.heap.size≤g6):=by have:=qpZ.out.size;unfold Hid;omega
 rw[hg]at kb;have HN6:Hid (∀b o,Aq=some ⟨b,o,none⟩→W1.heap.size≤b∧b<g6):=fun b o e=>by
  have h1:=hn b o e;omega
 clear hn hs2;have B6:=QH kb
 replace HP6:=QH (HP6.out.below cb)
 have qe1:=QH (qa qpZ.out cb)
 replace kK:=QH (kK.out.below cb)
 replace lZ:=QH (lZ.out.below cb)
 replace B4:=QH (B4.out.below cb)
 have HWn:=QH hWn;have HGn:=QH hg;clear qpZ cb kb hWn hg;go_upto_region 7 with fail;try rw[HWn.out]
 try rw[HGn.out]
 clear HWn HGn;obtain⟨X0,hX⟩:∃X0:Nat→Prop,X0=fun j=>W1.heap.size≤j∧j<W11.heap.size:=⟨_,rfl⟩;have HW:Hid (Wk IV W11 w.heap.size X0 vp pd (0,0) 0 ml):=by
  unfold Hid;rw[hX];exact Wk.more H sg.out qe1.out (fun j hj=>.inr hj)
 have HXA:Hid (X0 g4∧X0 g6∧(∀b o,Ap=some ⟨b,o,none⟩→X0 b)∧∀b o,Aq=some ⟨b,o,none⟩→X0 b):=by
  unfold Hid;rw[hX];have h1:=qe1.out.size;have h4:=B4.out.lt;have h6:=B6.out.lt;have hp:=fun(b o:Nat) (e:Ap=some ⟨b,o,none⟩)=>HN4.out b o e;have hq:=fun(b o:Nat) (e:Aq=some ⟨b,o,none⟩)=>HN6.out b o e;exact⟨⟨HG4.out,h4⟩,⟨HG6.out,h6⟩,fun b o e=>⟨(hp b o e).1,by have:=(hp b o e).2;omega⟩,fun b o e=>⟨(hq b o e).1,by have:=(hq b o e).2;omega⟩⟩
 have yy:Hid (w.heap.size≤W11.heap.size):=Nat.le_trans qT.out.size qe1.out.size;have dt:Hid (Below w.heap.size w W11):=qT.out.trans (qe1.out.mono qT.out.size);clear hX HN4 HG4 HG6 sg qT kK HCP qe1;have xh:=B4.out;have x0:=xh.cell 0;have x1:=xh.cell 1;have x2:=xh.cell 2;have x3:=xh.cell 3;have x4:=xh.cell 4;have x5:=xh.cell 5;have x6:=xh.cell 6;have xl:=xh.lt;simp only[QA,QB,QC]at x0 x1 x2 x3 x4 x5 x6;clear xh;have yh:=B6.out;have y0:=yh.cell 0;have y1:=yh.cell 1;have y2:=yh.cell 2;have y3:=yh.cell 3;have y4:=yh.cell 4;have y5:=yh.cell 5;have y6:=yh.cell 6;have yl:=yh.lt;simp only[QA,QB,QC]at y0 y1 y2 y3 y4 y5 y6;clear yh;have ua:=QH (cP H HW.out yy.out Aq cq qW HP6.out (by decide) HXA.out.2.2.2 q7Z (by decide));rw[show jL qW Aq cq = #[.int .u64 0,.int .u64 0,.int .u64 1,.int .u64 1,.int .i64 2,.int .i64 3,.slice Aq 1 cq]from rfl]at ua;go_wp2_with fail;refine ua.out.mono ?_;rintro e W12 ⟨rfl,hw,hk⟩
 replace HW:=QH hw
 replace B4:=QH (B4.out.of_block (hk.block B4.out.lt (.inl HXA.out.1)))
 replace B6:=QH (B6.out.of_block (hk.block B6.out.lt (.inl HXA.out.2.1)))
 replace lZ:=QH (gI hk lZ.out HXA.out.2.2.1)
 replace HP6:=QH (gI hk HP6.out HXA.out.2.2.2)
 replace dt:=QH (dt.out.trans (hk.below yy.out))
 replace yy:=QH (Nat.le_trans yy.out hk.size)
 clear hw hk ua x0 x1 x2 x3 x4 x5 x6 xl y0 y1 y2 y3 y4 y5 y6 yl;have xh:=B4.out;have x0:=xh.cell 0;have x1:=xh.cell 1;have x2:=xh.cell 2;have x3:=xh.cell 3;have x4:=xh.cell 4;have x5:=xh.cell 5;have x6:=xh.cell 6;have xl:=xh.lt;simp only[QA,QB,QC]at x0 x1 x2 x3 x4 x5 x6;clear xh;have yh:=B6.out;have y0:=yh.cell 0;have y1:=yh.cell 1;have y2:=yh.cell 2;have y3:=yh.cell 3;have y4:=yh.cell 4;have y5:=yh.cell 5;have y6:=yh.cell 6;have yl:=yh.lt;simp only[QA,QB,QC]at y0 y1 y2 y3 y4 y5 y6;clear yh;have ua:=QH (rJ H HW.out yy.out Ap cp pW lZ.out (by decide) HXA.out.2.2.1 q8a q8e (g':=(0,0)) (n':=0) (f':=f1) (by rw[if_neg (by decide)];exact⟨rfl,rfl,rfl⟩));rw[show jL pW Ap cp = #[.int .u64 0,.int .u64 0,.int .u64 1,.int .u64 1,.int .i64 0,.int .i64 3,.slice Ap 2 cp]from rfl]at ua;go_wp2_with fail;refine ua.out.mono ?_;rintro e W13 ⟨rfl,hw,hk⟩
 replace HW:=QH hw
 replace B4:=QH (B4.out.of_block (hk.block B4.out.lt (.inl HXA.out.1)))
 replace B6:=QH (B6.out.of_block (hk.block B6.out.lt (.inl HXA.out.2.1)))
 replace lZ:=QH (gI hk lZ.out HXA.out.2.2.1)
 replace HP6:=QH (gI hk HP6.out HXA.out.2.2.2)
 replace dt:=QH (dt.out.trans (hk.below yy.out))
 replace yy:=QH (Nat.le_trans yy.out hk.size)
 clear hw hk ua x0 x1 x2 x3 x4 x5 x6 xl y0 y1 y2 y3 y4 y5 y6 yl;have xh:=B4.out;have x0:=xh.cell 0;have x1:=xh.cell 1;have x2:=xh.cell 2;have x3:=xh.cell 3;have x4:=xh.cell 4;have x5:=xh.cell 5;have x6:=xh.cell 6;have xl:=xh.lt;simp only[QA,QB,QC]at x0 x1 x2 x3 x4 x5 x6;clear xh;have yh:=B6.out;have y0:=yh.cell 0;have y1:=yh.cell 1;have y2:=yh.cell 2;have y3:=yh.cell 3;have y4:=yh.cell 4;have y5:=yh.cell 5;have y6:=yh.cell 6;have yl:=yh.lt;simp only[QA,QB,QC]at y0 y1 y2 y3 y4 y5 y6;clear yh;have ua:=QH (cP H HW.out yy.out Ap cp pW lZ.out (by decide) HXA.out.2.2.1 q8b (by decide));rw[show jL pW Ap cp = #[.int .u64 0,.int .u64 0,.int .u64 1,.int .u64 1,.int .i64 0,.int .i64 3,.slice Ap 2 cp]from rfl]at ua;go_wp2_with fail;refine ua.out.mono ?_;rintro e W14 ⟨rfl,hw,hk⟩
 replace HW:=QH hw
 replace B4:=QH (B4.out.of_block (hk.block B4.out.lt (.inl HXA.out.1)))
 replace B6:=QH (B6.out.of_block (hk.block B6.out.lt (.inl HXA.out.2.1)))
 replace lZ:=QH (gI hk lZ.out HXA.out.2.2.1)
 replace HP6:=QH (gI hk HP6.out HXA.out.2.2.2)
 replace dt:=QH (dt.out.trans (hk.below yy.out))
 replace yy:=QH (Nat.le_trans yy.out hk.size)
 clear hw hk ua x0 x1 x2 x3 x4 x5 x6 xl y0 y1 y2 y3 y4 y5 y6 yl;have xh:=B4.out;have x0:=xh.cell 0;have x1:=xh.cell 1;have x2:=xh.cell 2;have x3:=xh.cell 3;have x4:=xh.cell 4;have x5:=xh.cell 5;have x6:=xh.cell 6;have xl:=xh.lt;simp only[QA,QB,QC]at x0 x1 x2 x3 x4 x5 x6;clear xh;have yh:=B6.out;have y0:=yh.cell 0;have y1:=yh.cell 1;have y2:=yh.cell 2;have y3:=yh.cell 3;have y4:=yh.cell 4;have y5:=yh.cell 5;have y6:=yh.cell 6;have yl:=yh.lt;simp only[QA,QB,QC]at y0 y1 y2 y3 y4 y5 y6;clear yh;clear x0 x1 x2 x3 x4 x5 x6 xl;clear y0 y1 y2 y3 y4 y5 y6 yl;clear lZ B4;have HAS:=QH (qi4 H HW.out (by decide));rw[show rH 0 (0,0) f1.target f1.next=.tuple #[.int .i64 0,.agg #[.int .u64 0,.int .u64 0],.agg #[.int .u64 1,.int .u64 1],.int .i64 2]from rfl]at HAS;go_wp2_with fail;refine HAS.out.mono ?_;rintro e W15 ⟨rfl,hb⟩;dsimp only
 replace HW:=QH (Wk.below H HW.out hb)
 replace B6:=QH (B6.out.below hb)
 replace HP6:=QH (HP6.out.below hb)
 have qqa:=QH (qa dt.out hb);clear dt yy HAS hb;have cb1:=(Below.refl W15.heap.size W15).alloc (Nat.le_refl _) (.cells #[.int .u64 0,.int .u64 0] 38);have kb1:=qd.new W15 38 #[.int .u64 0,.int .u64 0];obtain⟨W16,qty⟩:=QE (W15.alloc (.cells #[.int .u64 0,.int .u64 0] 38));have q3g:W16.heap.size=W15.heap.size+1:=by rw[← qty];simp
 rw[qty]at cb1 kb1;have cb2:=(Below.refl W16.heap.size W16).alloc (Nat.le_refl _) (.cells #[.int .u64 1,.int .u64 1] 38);have kb2:=qd.new W16 38 #[.int .u64 1,.int .u64 1];obtain⟨V0,hV0⟩:=QE (W16.alloc (.cells #[.int .u64 1,.int .u64 1] 38));rw[hV0]at cb2 kb2;rw[q3g]at kb2;obtain⟨g9,hg9⟩:=QE W15.heap.size;rw[hg9]at kb1 kb2;obtain⟨g10,qoI⟩:=QE (g9+1);rw[qoI]at kb2;have HBV:=QH (qa cb1 cb2);have B9:=QH (kb1.below cb2);have B10:=QH kb2;have HG9:Hid (W15.heap.size≤g9∧W15.heap.size≤g10∧g9≠g10∧g10≠g6∧g9≠g6):=by have:=B6.out.lt;unfold Hid;omega
 have q3h:=QH qty;have nH:=QH hV0;have Hg9:=QH hg9;have q3i:=QH qoI;clear cb1 kb1 cb2 kb2 q3g qty hV0 hg9 qoI;have HQN:Hid (∀b o,Aq=some ⟨b,o,none⟩→b≠g9∧b≠g10):=fun b o e=>by
  have h1:=HN6.out b o e;have h2:=B6.out.lt;have h3:=HG9.out;omega
 have HLO:Hid (w.heap.size≤g9∧w.heap.size≤g10):=by have h1:=qqa.out.size;have h3:=HG9.out;unfold Hid;omega
 obtain⟨X,hX⟩:∃X:Nat→Prop,X=fun j=>X0 j∨j=g9∨j=g10:=⟨_,rfl⟩
 replace HW:=QH (Wk.more H HW.out HBV.out (Y:=X) (fun j hj=>by
  rw[hX]at hj;rcases hj with h|h|h
  ·exact .inl h
  ·exact .inr ⟨by have:=HG9.out;omega,by rw[h];exact B9.out.lt⟩
  ·exact .inr ⟨by have:=HG9.out;omega,by rw[h];exact B10.out.lt⟩))
 replace B6:=QH (B6.out.below HBV.out)
 have HPQ:=QH (HP6.out.below HBV.out);have qtz:=QH (qa qqa.out HBV.out);have HX:Hid (X g9∧X g10∧X g6∧∀b o,Aq=some ⟨b,o,none⟩→X b):=by
  unfold Hid;rw[hX];exact⟨.inr (.inl rfl),.inr (.inr rfl),.inl HXA.out.2.1,fun b o e=>.inl (HXA.out.2.2.2 b o e)⟩
 clear HP6 qqa HBV HXA hX HN6;have HS0:Hid (W3S IV V0 w.heap.size X vp pd (0,0) 0 f1 (1,1) 1 ml false V0.drew):=⟨Ke.of_below (Below.refl _ _).drew,qtz.out.size,Wk.below H HW.out (Below.refl _ _).drew⟩;clear HW;go_upto_region 10 with fail;try rw[q3h.out]
 try rw[nH.out]
 try rw[Hg9.out]
 try rw[q3i.out]
 clear q3h nH Hg9 q3i;refine jm (by kernel_rfl) [68,69,70,71,72,73,74,75,76,77,78,79,80,81,82,83,84,85,86,87,88,89] (by kernel_rfl) (fun L vs W=>W3S IV V0 w.heap.size X vp pd (0,0) 0 f1 (1,1) 1 ml (L 19) W∧∀i,L i=true→i<22→il vp cq Aq i (vs i) W) ⟨HS0.out,fun i hi=>by cases hi⟩ ?_ ?_ ?_
 ·intro i o L vs ρ W ho dc qw hρ hgd hI;obtain⟨hS,rK⟩:=hI;have hG:∀j,L j=true→il vp cq Aq j (vs j) W:=fun j hj=>by
   by_cases dM:j<22
   ·exact rK j hj dM
   ·match j,dM with
    | j+22,_=>exact trivial
  have qfg:i<22:=(Array.getElem?_eq_some_iff.1 ho).1;have hc:=hρ.const;have hfn:=hρ.fn;have next:∀v W',(fun(_ _:World)=>True) W W'→W3S IV V0 w.heap.size X vp pd (0,0) 0 f1 (1,1) 1 ml (qP L i 19) W'→il vp cq Aq i v W'→W3S IV V0 w.heap.size X vp pd (0,0) 0 f1 (1,1) 1 ml (qP L i 19) W'∧∀j,qP L i j=true→j<22→il vp cq Aq j (zE vs i v j) W':=fun v W' h1 h0 h2=>by
   refine⟨h0,fun j hj dM=>?_⟩;by_cases gZ:j=i
   ·subst gZ;simpa[zE]using h2
   ·simp only[qP,if_neg gZ]at hj;simpa[zE,gZ]using qpX vp cq Aq j _ W W' dM (rK j hj dM) h1
  have k9:=B9.out.of_block (hS.1.block B9.out.lt (.inl HX.out.1));have cT:=B10.out.of_block (hS.1.block B10.out.lt (.inl HX.out.2.1));have k6:=B6.out.of_block (hS.1.block B6.out.lt (.inl HX.out.2.2.1));have y0:=k9.cell 0;have y1:=k9.cell 1;have yl:=k9.lt;have z0:=cT.cell 0;have z1:=cT.cell 1;have zl:=cT.lt;have x0:=k6.cell 0;have x1:=k6.cell 1;have x2:=k6.cell 2;have x3:=k6.cell 3;have x4:=k6.cell 4;have x5:=k6.cell 5;have x6:=k6.cell 6;have xl:=k6.lt;simp only[QA,QB,QC]at y0 y1 z0 z1 x0 x1 x2 x3 x4 x5 x6;rcases i with _|_|_|_|_|_|_|_|_|_|_|_|_|_|_|_|_|_|_|_|_|_|i;all_goals (first|omega|skip)
  all_goals simp only[QA,QB,QC,Option.some.injEq]at ho
  all_goals subst ho
  ·have o8:ρ (.tmp 8)=.int .i64 0:=hρ.out 8 rfl;exact q9 (w':=W) (by unfold execOp;simp only[o8,hc];go_simp) (next _ _ trivial (by simpa only[qP,Nat.reduceEqDiff,if_false,if_true,reduceIte]using hS) rfl)
  ·have g68:il vp cq Aq 0 (vs 0) W:=hG 0 (qw 0 (by kernel_rfl));have s68:ρ (.tmp 68)=.int .i64 0:=(hρ.at_ 68 0 rfl).trans g68;exact q9 (w':=W) (by unfold execOp;simp only[s68,hc];go_simp) (next _ _ trivial (by simpa only[qP,Nat.reduceEqDiff,if_false,if_true,reduceIte]using hS) rfl)
  ·have g69:il vp cq Aq 1 (vs 1) W:=hG 1 (qw 1 (by kernel_rfl));have s69:ρ (.tmp 69)=.bool false:=(hρ.at_ 69 1 rfl).trans g69;exact q9 (w':=W) (by unfold execOp;simp only[s69,hc];go_simp) (next _ _ trivial (by simpa only[qP,Nat.reduceEqDiff,if_false,if_true,reduceIte]using hS) rfl)
  ·have o9:ρ (.tmp 9)=pt g9:=hρ.out 9 rfl;exact q9 (w':=W) (by unfold execOp;simp only[o9,hc];go_simp) (next _ _ trivial (by simpa only[qP,Nat.reduceEqDiff,if_false,if_true,reduceIte]using hS) rfl)
  ·refine qj (f:=40) (args:=#[.int .u64 0,.int .u64 0]) (w':=W) (by unfold execOp;simp only[hfn,];go_simp) (((xy 0 0 W)).mono ?_);rintro x W' ⟨rfl,hb'⟩;exact⟨_,rfl,next _ _ trivial (by have h0:=fT H hS hb';simpa only[qP,Nat.reduceEqDiff,if_false,if_true,reduceIte]using h0) rfl⟩
  ·have g71:il vp cq Aq 3 (vs 3) W:=hG 3 (qw 3 (by kernel_rfl));have s71:ρ (.tmp 71)=.agg #[.int .u64 0,.int .u64 0]:=(hρ.at_ 71 3 rfl).trans g71;have g72:il vp cq Aq 4 (vs 4) W:=hG 4 (qw 4 (by kernel_rfl));have s72:ρ (.tmp 72)=.agg #[.int .u64 0,.int .u64 0]:=(hρ.at_ 72 4 rfl).trans g72;exact q9 (w':=W) (by unfold execOp;simp only[s71,s72,hc];go_simp) (next _ _ trivial (by simpa only[qP,Nat.reduceEqDiff,if_false,if_true,reduceIte]using hS) rfl)
  ·have g70:il vp cq Aq 2 (vs 2) W:=hG 2 (qw 2 (by kernel_rfl));have s70:ρ (.tmp 70)=.bool false:=(hρ.at_ 70 2 rfl).trans g70;have g73:il vp cq Aq 5 (vs 5) W:=hG 5 (qw 5 (by kernel_rfl));have s73:ρ (.tmp 73)=.bool false:=(hρ.at_ 73 5 rfl).trans g73;exact q9 (w':=W) (by unfold execOp;simp only[s70,s73,hc];go_simp) (next _ _ trivial (by simpa only[qP,Nat.reduceEqDiff,if_false,if_true,reduceIte]using hS) rfl)
  ·have g74:il vp cq Aq 6 (vs 6) W:=hG 6 (qw 6 (by kernel_rfl));have s74:ρ (.tmp 74)=.bool false:=(hρ.at_ 74 6 rfl).trans g74;exact q9 (w':=W) (by unfold execOp;simp only[s74,hc];go_simp) (next _ _ trivial (by simpa only[qP,Nat.reduceEqDiff,if_false,if_true,reduceIte]using hS) rfl)
  ·have o10:ρ (.tmp 10)=pt g10:=hρ.out 10 rfl;exact q9 (w':=W) (by unfold execOp;simp only[o10,hc];go_simp) (next _ _ trivial (by simpa only[qP,Nat.reduceEqDiff,if_false,if_true,reduceIte]using hS) rfl)
  ·refine qj (f:=40) (args:=#[.int .u64 1,.int .u64 1]) (w':=W) (by unfold execOp;simp only[hfn,];go_simp) (((xy 1 1 W)).mono ?_);rintro x W' ⟨rfl,hb'⟩;exact⟨_,rfl,next _ _ trivial (by have h0:=fT H hS hb';simpa only[qP,Nat.reduceEqDiff,if_false,if_true,reduceIte]using h0) rfl⟩
  ·have g76:il vp cq Aq 8 (vs 8) W:=hG 8 (qw 8 (by kernel_rfl));have s76:ρ (.tmp 76)=.agg #[.int .u64 1,.int .u64 1]:=(hρ.at_ 76 8 rfl).trans g76;have g77:il vp cq Aq 9 (vs 9) W:=hG 9 (qw 9 (by kernel_rfl));have s77:ρ (.tmp 77)=.agg #[.int .u64 1,.int .u64 1]:=(hρ.at_ 77 9 rfl).trans g77;exact q9 (w':=W) (by unfold execOp;simp only[s76,s77,hc];go_simp) (next _ _ trivial (by simpa only[qP,Nat.reduceEqDiff,if_false,if_true,reduceIte]using hS) rfl)
  ·have g75:il vp cq Aq 7 (vs 7) W:=hG 7 (qw 7 (by kernel_rfl));have s75:ρ (.tmp 75)=.bool false:=(hρ.at_ 75 7 rfl).trans g75;have g78:il vp cq Aq 10 (vs 10) W:=hG 10 (qw 10 (by kernel_rfl));have s78:ρ (.tmp 78)=.bool false:=(hρ.at_ 78 10 rfl).trans g78;exact q9 (w':=W) (by unfold execOp;simp only[s75,s78,hc];go_simp) (next _ _ trivial (by simpa only[qP,Nat.reduceEqDiff,if_false,if_true,reduceIte]using hS) rfl)
  ·have g79:il vp cq Aq 11 (vs 11) W:=hG 11 (qw 11 (by kernel_rfl));have s79:ρ (.tmp 79)=.bool false:=(hρ.at_ 79 11 rfl).trans g79;exact q9 (w':=W) (by unfold execOp;simp only[s79,hc];go_simp) (next _ _ trivial (by simpa only[qP,Nat.reduceEqDiff,if_false,if_true,reduceIte]using hS) rfl)
  ·have o11:ρ (.tmp 11)=.int .i64 2:=hρ.out 11 rfl;exact q9 (w':=W) (by unfold execOp;simp only[o11,hc];go_simp) (next _ _ trivial (by simpa only[qP,Nat.reduceEqDiff,if_false,if_true,reduceIte]using hS) rfl)
  ·have g81:il vp cq Aq 13 (vs 13) W:=hG 13 (qw 13 (by kernel_rfl));have s81:ρ (.tmp 81)=.int .i64 2:=(hρ.at_ 81 13 rfl).trans g81;exact q9 (w':=W) (by unfold execOp;simp only[s81,hc];go_simp) (next _ _ trivial (by simpa only[qP,Nat.reduceEqDiff,if_false,if_true,reduceIte]using hS) rfl)
  ·have g80:il vp cq Aq 12 (vs 12) W:=hG 12 (qw 12 (by kernel_rfl));have s80:ρ (.tmp 80)=.bool false:=(hρ.at_ 80 12 rfl).trans g80;have g82:il vp cq Aq 14 (vs 14) W:=hG 14 (qw 14 (by kernel_rfl));have s82:ρ (.tmp 82)=.bool false:=(hρ.at_ 82 14 rfl).trans g82;exact q9 (w':=W) (by unfold execOp;simp only[s80,s82,hc];go_simp) (next _ _ trivial (by simpa only[qP,Nat.reduceEqDiff,if_false,if_true,reduceIte]using hS) rfl)
  ·have g83:il vp cq Aq 15 (vs 15) W:=hG 15 (qw 15 (by kernel_rfl));have s83:ρ (.tmp 83)=.bool false:=(hρ.at_ 83 15 rfl).trans g83;exact q9 (w':=W) (by unfold execOp;simp only[s83,hc];go_simp) (next _ _ trivial (by simpa only[qP,Nat.reduceEqDiff,if_false,if_true,reduceIte]using hS) rfl)
  ·have o2:ρ (.tmp 2)=pt vp:=hρ.out 2 rfl;exact q9 (w':=W) (by unfold execOp;simp only[o2,hc];go_simp) (next _ _ trivial (by simpa only[qP,Nat.reduceEqDiff,if_false,if_true,reduceIte]using hS) rfl)
  ·have o6:ρ (.tmp 6)=pt g6:=hρ.out 6 rfl;exact q9 (w':=W) (by unfold execOp;simp only[o6,hc];go_simp) (next _ _ trivial (by simpa only[qP,Nat.reduceEqDiff,if_false,if_true,reduceIte]using hS) rfl)
  ·have g85:il vp cq Aq 17 (vs 17) W:=hG 17 (qw 17 (by kernel_rfl));have s85:ρ (.tmp 85)=pt vp:=(hρ.at_ 85 17 rfl).trans g85;have g86:il vp cq Aq 18 (vs 18) W:=hG 18 (qw 18 (by kernel_rfl));have s86:ρ (.tmp 86)=.agg #[.int .u64 0,.int .u64 0,.int .u64 1,.int .u64 1,.int .i64 2,.int .i64 3,.slice Aq 1 cq]:=(hρ.at_ 86 18 rfl).trans g86;rw[dc]at hS;refine qj (f:=25) (args:=#[pt vp,.agg #[.int .u64 0,.int .u64 0,.int .u64 1,.int .u64 1,.int .i64 2,.int .i64 3,.slice Aq 1 cq]]) (w':=W) (by unfold execOp;simp only[hfn,s85,s86];go_simp) ((q2Y H hS HPQ.out HX.out.2.2.2 q8c q8f).mono ?_);rintro x W' ⟨rfl,h1⟩;exact⟨_,rfl,next _ _ trivial (by simpa only[qP,if_true,reduceIte]using h1) rfl⟩
  ·have g87:il vp cq Aq 19 (vs 19) W:=hG 19 (qw 19 (by kernel_rfl));have s87:ρ (.tmp 87)=.int .i64 0:=(hρ.at_ 87 19 rfl).trans g87;exact q9 (w':=W) (by unfold execOp;simp only[s87,hc];go_simp) (next _ _ trivial (by simpa only[qP,Nat.reduceEqDiff,if_false,if_true,reduceIte]using hS) rfl)
  ·have g84:il vp cq Aq 16 (vs 16) W:=hG 16 (qw 16 (by kernel_rfl));have s84:ρ (.tmp 84)=.bool false:=(hρ.at_ 84 16 rfl).trans g84;have g88:il vp cq Aq 20 (vs 20) W:=hG 20 (qw 20 (by kernel_rfl));have s88:ρ (.tmp 88)=.bool false:=(hρ.at_ 88 20 rfl).trans g88;exact q9 (w':=W) (by unfold execOp;simp only[s84,s88,hc];go_simp) (next _ _ trivial (by simpa only[qP,Nat.reduceEqDiff,if_false,if_true,reduceIte]using hS) rfl)
 ·intro i o L vs W j want ho dc qw hg hv hI;obtain⟨hS,rK⟩:=hI;have hG:∀j,L j=true→il vp cq Aq j (vs j) W:=fun j hj=>by
   by_cases dM:j<22
   ·exact rK j hj dM
   ·match j,dM with
    | j+22,_=>exact trivial
  have qfg:i<22:=(Array.getElem?_eq_some_iff.1 ho).1;rcases i with _|_|_|_|_|_|_|_|_|_|_|_|_|_|_|_|_|_|_|_|_|_|i;all_goals (first|omega|skip)
  all_goals simp only[QA,QB,QC,Option.some.injEq]at ho
  all_goals subst ho
  all_goals simp only[reduceCtorEq,Option.some.injEq,Prod.mk.injEq]at hg
  ·obtain⟨rfl,rfl⟩:=hg;exact(hv (hG 2 (qw 2 (by kernel_rfl)))).elim
  ·obtain⟨rfl,rfl⟩:=hg;exact(hv (hG 2 (qw 2 (by kernel_rfl)))).elim
  ·obtain⟨rfl,rfl⟩:=hg;exact(hv (hG 2 (qw 2 (by kernel_rfl)))).elim
  ·obtain⟨rfl,rfl⟩:=hg;exact(hv (hG 7 (qw 7 (by kernel_rfl)))).elim
  ·obtain⟨rfl,rfl⟩:=hg;exact(hv (hG 7 (qw 7 (by kernel_rfl)))).elim
  ·obtain⟨rfl,rfl⟩:=hg;exact(hv (hG 7 (qw 7 (by kernel_rfl)))).elim
  ·obtain⟨rfl,rfl⟩:=hg;exact(hv (hG 12 (qw 12 (by kernel_rfl)))).elim
  ·obtain⟨rfl,rfl⟩:=hg;exact(hv (hG 12 (qw 12 (by kernel_rfl)))).elim
  ·obtain⟨rfl,rfl⟩:=hg;exact(hv (hG 16 (qw 16 (by kernel_rfl)))).elim
  ·obtain⟨rfl,rfl⟩:=hg;exact(hv (hG 16 (qw 16 (by kernel_rfl)))).elim
  ·obtain⟨rfl,rfl⟩:=hg;exact(hv (hG 16 (qw 16 (by kernel_rfl)))).elim
  ·obtain⟨rfl,rfl⟩:=hg;exact(hv (hG 16 (qw 16 (by kernel_rfl)))).elim
 intro vs W17 hI;obtain⟨hS,hG⟩:=hI;have g21:vs 21=.bool false:=hG 21 (by kernel_rfl) (by decide);have HS:=QH (hS:W3S IV V0 w.heap.size X vp pd (0,0) 0 f1 (1,1) 1 ml true W17);clear hS hG;simp only[qX,qK,if_true];rw[g21];generalize vs 0=y0;generalize vs 1=y1;generalize vs 2=y2;generalize vs 3=y3;generalize vs 4=y4;generalize vs 5=y5;generalize vs 6=y6;generalize vs 7=y7;generalize vs 8=y8;generalize vs 9=y9;generalize vs 10=y10;generalize vs 11=y11;generalize vs 12=y12;generalize vs 13=y13;generalize vs 14=y14;generalize vs 15=y15;generalize vs 16=y16;generalize vs 17=y17;generalize vs 18=y18;generalize vs 19=y19;generalize vs 20=y20;clear g21;simp only[Act.put,List.setIfInBounds_toArray,List.set_cons_succ,List.set_cons_zero];have HW:Hid (Wk IV W17 w.heap.size X vp pd (1,1) 1 ml):=HS.out.2.2
 replace B9:=QH (B9.out.of_block (HS.out.1.block B9.out.lt (.inl HX.out.1)))
 replace B10:=QH (B10.out.of_block (HS.out.1.block B10.out.lt (.inl HX.out.2.1)))
 replace B6:=QH (B6.out.of_block (HS.out.1.block B6.out.lt (.inl HX.out.2.2.1)))
 replace HPQ:=QH (gI HS.out.1 HPQ.out HX.out.2.2.2)
 have dt:=QH (qtz.out.trans (HS.out.1.below qtz.out.size));clear HS HS0 qtz;have HAS:=QH (qi4 H HW.out (by decide));rw[show rH 1 (1,1) ml.target ml.next=.tuple #[.int .i64 1,.agg #[.int .u64 1,.int .u64 1],.agg #[.int .u64 0,.int .u64 0],.int .i64 0]from rfl]at HAS;go_wp2_with fail;refine HAS.out.mono ?_;rintro e W18 ⟨rfl,hb⟩;dsimp only
 replace HW:=QH (Wk.below H HW.out hb)
 replace B6:=QH (B6.out.below hb)
 replace HPQ:=QH (HPQ.out.below hb)
 have h9:=B9.out.below hb;have h10:=B10.out.below hb
 replace dt:=QH (qa dt.out hb)
 clear HAS hb;have hb9:=(qB.refl (fun j=>j=g9∨j=g10) W18).setCell ⟨g9,0,none⟩ (.int .u64 1) (.inl (.inl rfl)) |>.setCell ⟨g9,1,none⟩ (.int .u64 1) (.inl (.inl rfl)) |>.setCell ⟨g10,0,none⟩ (.int .u64 0) (.inl (.inr rfl)) |>.setCell ⟨g10,1,none⟩ (.int .u64 0) (.inl (.inr rfl))
 have k9:qd ((((W18.setCell ⟨g9,0,none⟩ (.int .u64 1)).setCell ⟨g9,1,none⟩ (.int .u64 1)).setCell ⟨g10,0,none⟩ (.int .u64 0)).setCell ⟨g10,1,none⟩ (.int .u64 0)) g9 38 #[.int .u64 1,.int .u64 1]:=by
  have:=(h9.qo 0 (.int .u64 1)).qo 1 (.int .u64 1);refine qd.of_block (w:=(W18.setCell ⟨g9,0,none⟩ (.int .u64 1)).setCell ⟨g9,1,none⟩ (.int .u64 1)) (by simpa using this) ?_;rw[qy _ _ _ _ _ HG9.out.2.2.1,qy _ _ _ _ _ HG9.out.2.2.1]
 have cT:qd ((((W18.setCell ⟨g9,0,none⟩ (.int .u64 1)).setCell ⟨g9,1,none⟩ (.int .u64 1)).setCell ⟨g10,0,none⟩ (.int .u64 0)).setCell ⟨g10,1,none⟩ (.int .u64 0)) g10 38 #[.int .u64 0,.int .u64 0]:=by
  have h:=h10.of_block (w':=(W18.setCell ⟨g9,0,none⟩ (.int .u64 1)).setCell ⟨g9,1,none⟩ (.int .u64 1)) (by rw[qy _ _ _ _ _ (Ne.symm HG9.out.2.2.1),qy _ _ _ _ _ (Ne.symm HG9.out.2.2.1)]);have:=(h.qo 0 (.int .u64 0)).qo 1 (.int .u64 0);simpa using this
 have y0:=h9.cell 0;have y1:=h9.cell 1;have yf0:=h9.frozen 0;have yf1:=h9.frozen 1;have yl:=h9.lt;have z0:=h10.cell 0;have z1:=h10.cell 1;have zf0:=h10.frozen 0;have zf1:=h10.frozen 1;have zl:=h10.lt;have hne:¬ g9=g10:=HG9.out.2.2.1;have q8m:¬ g10=g9:=fun e=>HG9.out.2.2.1 e.symm;simp only[QA,QB,QC]at y0 y1 z0 z1;obtain⟨V1,hV1⟩:=QE ((((W18.setCell ⟨g9,0,none⟩ (.int .u64 1)).setCell ⟨g9,1,none⟩ (.int .u64 1)).setCell ⟨g10,0,none⟩ (.int .u64 0)).setCell ⟨g10,1,none⟩ (.int .u64 0));rw[hV1]at hb9 k9 cT;have HBT:=QH hb9
 replace B9:=QH k9
 replace B10:=QH cT
 have HV1:=QH hV1;clear hb9 h9 h10 k9 cT hV1
 replace HW:=QH (Wk.turn H (Y:=X) HW.out HBT.out (fun j hj=>by rcases hj with rfl|rfl;exact .inl HX.out.1;exact .inl HX.out.2.1) (fun j hj=>.inl hj))
 replace B6:=QH (B6.out.of_block (HBT.out.block g6 B6.out.lt (fun e=>by have:=HG9.out;omega)))
 replace HPQ:=QH (fR HPQ.out HBT.out.size (fun b o e hl=>HBT.out.block b hl (fun h=>by have:=HQN.out b o e;omega)))
 have qxQ:Hid (Below w.heap.size w V1):=dt.out.trans (HBT.out.below (fun j hj=>by have:=HLO.out;rcases hj with rfl|rfl <;> omega) dt.out.size);have dO:Hid (W3S IV V1 w.heap.size X vp pd (1,1) 1 ml (1,1) 1 ml false V1.drew):=⟨Ke.of_below (Below.refl _ _).drew,qxQ.out.size,Wk.below H HW.out (Below.refl _ _).drew⟩;clear HW dt HBT;go_upto_region 13 with fail;try rw[HV1.out]
 clear HV1 y0 y1 yf0 yf1 yl z0 z1 zf0 zf1 zl hne q8m;refine jm (by kernel_rfl) [97,98,99,100,101,102,103,104,105,106,107,108,109,110,111,112,113,114,115,116,117,118,0] (by kernel_rfl) (fun L vs W=>W3S IV V1 w.heap.size X vp pd (1,1) 1 ml (1,1) 1 ml (L 19) W∧∀i,L i=true→i<23→fU vp cq Aq i (vs i) W) ⟨dO.out,fun i hi=>by cases hi⟩ ?_ ?_ ?_
 ·intro i o L vs ρ W ho dc qw hρ hgd hI;obtain⟨hS,rK⟩:=hI;have hG:∀j,L j=true→fU vp cq Aq j (vs j) W:=fun j hj=>by
   by_cases dM:j<23
   ·exact rK j hj dM
   ·match j,dM with
    | j+23,_=>exact trivial
  have qfg:i<23:=(Array.getElem?_eq_some_iff.1 ho).1;have hc:=hρ.const;have hfn:=hρ.fn;have next:∀v W',(fun(_ _:World)=>True) W W'→W3S IV V1 w.heap.size X vp pd (1,1) 1 ml (1,1) 1 ml (qP L i 19) W'→fU vp cq Aq i v W'→W3S IV V1 w.heap.size X vp pd (1,1) 1 ml (1,1) 1 ml (qP L i 19) W'∧∀j,qP L i j=true→j<23→fU vp cq Aq j (zE vs i v j) W':=fun v W' h1 h0 h2=>by
   refine⟨h0,fun j hj dM=>?_⟩;by_cases gZ:j=i
   ·subst gZ;simpa[zE]using h2
   ·simp only[qP,if_neg gZ]at hj;simpa[zE,gZ]using qpY vp cq Aq j _ W W' dM (rK j hj dM) h1
  have k9:=B9.out.of_block (hS.1.block B9.out.lt (.inl HX.out.1));have cT:=B10.out.of_block (hS.1.block B10.out.lt (.inl HX.out.2.1));have k6:=B6.out.of_block (hS.1.block B6.out.lt (.inl HX.out.2.2.1));have y0:=k9.cell 0;have y1:=k9.cell 1;have yl:=k9.lt;have z0:=cT.cell 0;have z1:=cT.cell 1;have zl:=cT.lt;have x0:=k6.cell 0;have x1:=k6.cell 1;have x2:=k6.cell 2;have x3:=k6.cell 3;have x4:=k6.cell 4;have x5:=k6.cell 5;have x6:=k6.cell 6;have xl:=k6.lt;simp only[QA,QB,QC]at y0 y1 z0 z1 x0 x1 x2 x3 x4 x5 x6;rcases i with _|_|_|_|_|_|_|_|_|_|_|_|_|_|_|_|_|_|_|_|_|_|_|i;all_goals (first|omega|skip)
  all_goals simp only[QA,QB,QC,Option.some.injEq]at ho
  all_goals subst ho
  ·have o8:ρ (.tmp 8)=.int .i64 1:=hρ.out 8 rfl;exact q9 (w':=W) (by unfold execOp;simp only[o8,hc];go_simp) (next _ _ trivial (by simpa only[qP,Nat.reduceEqDiff,if_false,if_true,reduceIte]using hS) rfl)
  ·have g97:fU vp cq Aq 0 (vs 0) W:=hG 0 (qw 0 (by kernel_rfl));have s97:ρ (.tmp 97)=.int .i64 1:=(hρ.at_ 97 0 rfl).trans g97;exact q9 (w':=W) (by unfold execOp;simp only[s97,hc];go_simp) (next _ _ trivial (by simpa only[qP,Nat.reduceEqDiff,if_false,if_true,reduceIte]using hS) rfl)
  ·have g98:fU vp cq Aq 1 (vs 1) W:=hG 1 (qw 1 (by kernel_rfl));have s98:ρ (.tmp 98)=.bool true:=(hρ.at_ 98 1 rfl).trans g98;exact q9 (w':=W) (by unfold execOp;simp only[s98,hc];go_simp) (next _ _ trivial (by simpa only[qP,Nat.reduceEqDiff,if_false,if_true,reduceIte]using hS) rfl)
  ·have o9:ρ (.tmp 9)=pt g9:=hρ.out 9 rfl;exact q9 (w':=W) (by unfold execOp;simp only[o9,hc];go_simp) (next _ _ trivial (by simpa only[qP,Nat.reduceEqDiff,if_false,if_true,reduceIte]using hS) rfl)
  ·refine qj (f:=40) (args:=#[.int .u64 1,.int .u64 1]) (w':=W) (by unfold execOp;simp only[hfn,];go_simp) (((xy 1 1 W)).mono ?_);rintro x W' ⟨rfl,hb'⟩;exact⟨_,rfl,next _ _ trivial (by have h0:=fT H hS hb';simpa only[qP,Nat.reduceEqDiff,if_false,if_true,reduceIte]using h0) rfl⟩
  ·have q8n:fU vp cq Aq 3 (vs 3) W:=hG 3 (qw 3 (by kernel_rfl));have q8o:ρ (.tmp 100)=.agg #[.int .u64 1,.int .u64 1]:=(hρ.at_ 100 3 rfl).trans q8n;have q8p:fU vp cq Aq 4 (vs 4) W:=hG 4 (qw 4 (by kernel_rfl));have q8q:ρ (.tmp 101)=.agg #[.int .u64 1,.int .u64 1]:=(hρ.at_ 101 4 rfl).trans q8p;exact q9 (w':=W) (by unfold execOp;simp only[q8o,q8q,hc];go_simp) (next _ _ trivial (by simpa only[qP,Nat.reduceEqDiff,if_false,if_true,reduceIte]using hS) rfl)
  ·have g99:fU vp cq Aq 2 (vs 2) W:=hG 2 (qw 2 (by kernel_rfl));have s99:ρ (.tmp 99)=.bool true:=(hρ.at_ 99 2 rfl).trans g99;have q8r:fU vp cq Aq 5 (vs 5) W:=hG 5 (qw 5 (by kernel_rfl));have q8s:ρ (.tmp 102)=.bool true:=(hρ.at_ 102 5 rfl).trans q8r;exact q9 (w':=W) (by unfold execOp;simp only[s99,q8s,hc];go_simp) (next _ _ trivial (by simpa only[qP,Nat.reduceEqDiff,if_false,if_true,reduceIte]using hS) rfl)
  ·have q8t:fU vp cq Aq 6 (vs 6) W:=hG 6 (qw 6 (by kernel_rfl));have q8u:ρ (.tmp 103)=.bool true:=(hρ.at_ 103 6 rfl).trans q8t;exact q9 (w':=W) (by unfold execOp;simp only[q8u,hc];go_simp) (next _ _ trivial (by simpa only[qP,Nat.reduceEqDiff,if_false,if_true,reduceIte]using hS) rfl)
  ·have o10:ρ (.tmp 10)=pt g10:=hρ.out 10 rfl;exact q9 (w':=W) (by unfold execOp;simp only[o10,hc];go_simp) (next _ _ trivial (by simpa only[qP,Nat.reduceEqDiff,if_false,if_true,reduceIte]using hS) rfl)
  ·refine qj (f:=40) (args:=#[.int .u64 0,.int .u64 0]) (w':=W) (by unfold execOp;simp only[hfn,];go_simp) (((xy 0 0 W)).mono ?_);rintro x W' ⟨rfl,hb'⟩;exact⟨_,rfl,next _ _ trivial (by have h0:=fT H hS hb';simpa only[qP,Nat.reduceEqDiff,if_false,if_true,reduceIte]using h0) rfl⟩
  ·have q8v:fU vp cq Aq 8 (vs 8) W:=hG 8 (qw 8 (by kernel_rfl));have q8w:ρ (.tmp 105)=.agg #[.int .u64 0,.int .u64 0]:=(hρ.at_ 105 8 rfl).trans q8v;have q8x:fU vp cq Aq 9 (vs 9) W:=hG 9 (qw 9 (by kernel_rfl));have q8y:ρ (.tmp 106)=.agg #[.int .u64 0,.int .u64 0]:=(hρ.at_ 106 9 rfl).trans q8x;exact q9 (w':=W) (by unfold execOp;simp only[q8w,q8y,hc];go_simp) (next _ _ trivial (by simpa only[qP,Nat.reduceEqDiff,if_false,if_true,reduceIte]using hS) rfl)
  ·have q8z:fU vp cq Aq 7 (vs 7) W:=hG 7 (qw 7 (by kernel_rfl));have q80:ρ (.tmp 104)=.bool true:=(hρ.at_ 104 7 rfl).trans q8z;have q81:fU vp cq Aq 10 (vs 10) W:=hG 10 (qw 10 (by kernel_rfl));have q82:ρ (.tmp 107)=.bool true:=(hρ.at_ 107 10 rfl).trans q81;exact q9 (w':=W) (by unfold execOp;simp only[q80,q82,hc];go_simp) (next _ _ trivial (by simpa only[qP,Nat.reduceEqDiff,if_false,if_true,reduceIte]using hS) rfl)
  ·have q83:fU vp cq Aq 11 (vs 11) W:=hG 11 (qw 11 (by kernel_rfl));have q84:ρ (.tmp 108)=.bool true:=(hρ.at_ 108 11 rfl).trans q83;exact q9 (w':=W) (by unfold execOp;simp only[q84,hc];go_simp) (next _ _ trivial (by simpa only[qP,Nat.reduceEqDiff,if_false,if_true,reduceIte]using hS) rfl)
  ·have o11:ρ (.tmp 11)=.int .i64 0:=hρ.out 11 rfl;exact q9 (w':=W) (by unfold execOp;simp only[o11,hc];go_simp) (next _ _ trivial (by simpa only[qP,Nat.reduceEqDiff,if_false,if_true,reduceIte]using hS) rfl)
  ·have q85:fU vp cq Aq 13 (vs 13) W:=hG 13 (qw 13 (by kernel_rfl));have q86:ρ (.tmp 110)=.int .i64 0:=(hρ.at_ 110 13 rfl).trans q85;exact q9 (w':=W) (by unfold execOp;simp only[q86,hc];go_simp) (next _ _ trivial (by simpa only[qP,Nat.reduceEqDiff,if_false,if_true,reduceIte]using hS) rfl)
  ·have q87:fU vp cq Aq 12 (vs 12) W:=hG 12 (qw 12 (by kernel_rfl));have q88:ρ (.tmp 109)=.bool true:=(hρ.at_ 109 12 rfl).trans q87;have q89:fU vp cq Aq 14 (vs 14) W:=hG 14 (qw 14 (by kernel_rfl));have q8A:ρ (.tmp 111)=.bool true:=(hρ.at_ 111 14 rfl).trans q89;exact q9 (w':=W) (by unfold execOp;simp only[q88,q8A,hc];go_simp) (next _ _ trivial (by simpa only[qP,Nat.reduceEqDiff,if_false,if_true,reduceIte]using hS) rfl)
  ·have q8B:fU vp cq Aq 15 (vs 15) W:=hG 15 (qw 15 (by kernel_rfl));have q8C:ρ (.tmp 112)=.bool true:=(hρ.at_ 112 15 rfl).trans q8B;exact q9 (w':=W) (by unfold execOp;simp only[q8C,hc];go_simp) (next _ _ trivial (by simpa only[qP,Nat.reduceEqDiff,if_false,if_true,reduceIte]using hS) rfl)
  ·have o2:ρ (.tmp 2)=pt vp:=hρ.out 2 rfl;exact q9 (w':=W) (by unfold execOp;simp only[o2,hc];go_simp) (next _ _ trivial (by simpa only[qP,Nat.reduceEqDiff,if_false,if_true,reduceIte]using hS) rfl)
  ·have o6:ρ (.tmp 6)=pt g6:=hρ.out 6 rfl;exact q9 (w':=W) (by unfold execOp;simp only[o6,hc];go_simp) (next _ _ trivial (by simpa only[qP,Nat.reduceEqDiff,if_false,if_true,reduceIte]using hS) rfl)
  ·have q8D:fU vp cq Aq 17 (vs 17) W:=hG 17 (qw 17 (by kernel_rfl));have q8E:ρ (.tmp 114)=pt vp:=(hρ.at_ 114 17 rfl).trans q8D;have q8F:fU vp cq Aq 18 (vs 18) W:=hG 18 (qw 18 (by kernel_rfl));have q8G:ρ (.tmp 115)=.agg #[.int .u64 0,.int .u64 0,.int .u64 1,.int .u64 1,.int .i64 2,.int .i64 3,.slice Aq 1 cq]:=(hρ.at_ 115 18 rfl).trans q8F;rw[dc]at hS;refine qj (f:=25) (args:=#[pt vp,.agg #[.int .u64 0,.int .u64 0,.int .u64 1,.int .u64 1,.int .i64 2,.int .i64 3,.slice Aq 1 cq]]) (w':=W) (by unfold execOp;simp only[hfn,q8E,q8G];go_simp) ((q2Z H hS HPQ.out HX.out.2.2.2 q8d (by decide)).mono ?_);rintro x W' ⟨rfl,h1⟩;exact⟨_,rfl,next _ _ trivial (by simpa only[qP,if_true,reduceIte]using h1) rfl⟩
  ·have q8H:fU vp cq Aq 19 (vs 19) W:=hG 19 (qw 19 (by kernel_rfl));have q8I:ρ (.tmp 116)=.int .i64 9:=(hρ.at_ 116 19 rfl).trans q8H;exact q9 (w':=W) (by unfold execOp;simp only[q8I,hc];go_simp) (next _ _ trivial (by simpa only[qP,Nat.reduceEqDiff,if_false,if_true,reduceIte]using hS) rfl)
  ·have q8J:fU vp cq Aq 16 (vs 16) W:=hG 16 (qw 16 (by kernel_rfl));have q8K:ρ (.tmp 113)=.bool true:=(hρ.at_ 113 16 rfl).trans q8J;have q8L:fU vp cq Aq 20 (vs 20) W:=hG 20 (qw 20 (by kernel_rfl));have q8M:ρ (.tmp 117)=.bool true:=(hρ.at_ 117 20 rfl).trans q8L;exact q9 (w':=W) (by unfold execOp;simp only[q8K,q8M,hc];go_simp) (next _ _ trivial (by simpa only[qP,Nat.reduceEqDiff,if_false,if_true,reduceIte]using hS) rfl)
  ·have q8N:fU vp cq Aq 21 (vs 21) W:=hG 21 (qw 21 (by kernel_rfl));have q8O:ρ (.tmp 118)=.bool true:=(hρ.at_ 118 21 rfl).trans q8N;exact q9 (w':=W) (by unfold execOp;simp only[q8O,hc];go_simp) (next _ _ trivial (by simpa only[qP,Nat.reduceEqDiff,if_false,if_true,reduceIte]using hS) rfl)
 ·intro i o L vs W j want ho dc qw hg hv hI;obtain⟨hS,rK⟩:=hI;have hG:∀j,L j=true→fU vp cq Aq j (vs j) W:=fun j hj=>by
   by_cases dM:j<23
   ·exact rK j hj dM
   ·match j,dM with
    | j+23,_=>exact trivial
  have qfg:i<23:=(Array.getElem?_eq_some_iff.1 ho).1;rcases i with _|_|_|_|_|_|_|_|_|_|_|_|_|_|_|_|_|_|_|_|_|_|_|i;all_goals (first|omega|skip)
  all_goals simp only[QA,QB,QC,Option.some.injEq]at ho
  all_goals subst ho
  all_goals simp only[reduceCtorEq,Option.some.injEq,Prod.mk.injEq]at hg
  ·obtain⟨rfl,rfl⟩:=hg;exact(hv (hG 2 (qw 2 (by kernel_rfl)))).elim
  ·obtain⟨rfl,rfl⟩:=hg;exact(hv (hG 2 (qw 2 (by kernel_rfl)))).elim
  ·obtain⟨rfl,rfl⟩:=hg;exact(hv (hG 2 (qw 2 (by kernel_rfl)))).elim
  ·obtain⟨rfl,rfl⟩:=hg;exact(hv (hG 7 (qw 7 (by kernel_rfl)))).elim
  ·obtain⟨rfl,rfl⟩:=hg;exact(hv (hG 7 (qw 7 (by kernel_rfl)))).elim
  ·obtain⟨rfl,rfl⟩:=hg;exact(hv (hG 7 (qw 7 (by kernel_rfl)))).elim
  ·obtain⟨rfl,rfl⟩:=hg;exact(hv (hG 12 (qw 12 (by kernel_rfl)))).elim
  ·obtain⟨rfl,rfl⟩:=hg;exact(hv (hG 12 (qw 12 (by kernel_rfl)))).elim
  ·obtain⟨rfl,rfl⟩:=hg;exact(hv (hG 16 (qw 16 (by kernel_rfl)))).elim
  ·obtain⟨rfl,rfl⟩:=hg;exact(hv (hG 16 (qw 16 (by kernel_rfl)))).elim
  ·obtain⟨rfl,rfl⟩:=hg;exact(hv (hG 16 (qw 16 (by kernel_rfl)))).elim
  ·obtain⟨rfl,rfl⟩:=hg;exact(hv (hG 16 (qw 16 (by kernel_rfl)))).elim
 intro vs WE hI;obtain⟨hS,hG⟩:=hI;have g22:vs 22=.bool true:=hG 22 (by kernel_rfl) (by decide);have bH:Hid (Below w.heap.size w WE):=qxQ.out.trans (hS.1.below qxQ.out.size);clear hS hG;simp only[qX,qK,if_true];rw[g22];generalize vs 0=y0;generalize vs 1=y1;generalize vs 2=y2;generalize vs 3=y3;generalize vs 4=y4;generalize vs 5=y5;generalize vs 6=y6;generalize vs 7=y7;generalize vs 8=y8;generalize vs 9=y9;generalize vs 10=y10;generalize vs 11=y11;generalize vs 12=y12;generalize vs 13=y13;generalize vs 14=y14;generalize vs 15=y15;generalize vs 16=y16;generalize vs 17=y17;generalize vs 18=y18;generalize vs 19=y19;generalize vs 20=y20;generalize vs 21=y21;clear g22;simp only[Act.put,List.setIfInBounds_toArray,List.set_cons_succ,List.set_cons_zero];go_wp2_with fail;go_ret;exact⟨rfl,bH.out⟩
end Go.Proofs.YtdpbdkacngaemaaGreatDoor.rv
namespace Go.Proofs.YtdpbdkacngaemaaGreatDoor.dk
open _root_.Go.Proofs.Tryz Go Go.RowKit Go.ChangeShapes Go.WideShapes Go.Deep
section
variable {H:Type} {enc:TypeId × Value→H} {w:World} {held:Bool} {a:Option Addr} {l c:Nat} {d:DataW H} {pl:List MemPlace}
end
end Go.Proofs.YtdpbdkacngaemaaGreatDoor.dk
namespace Go.Proofs.YtdpbdkacngaemaaGreatDoor.rv
open _root_.Go.Proofs.Tryz Go Go.RowKit Go.Sort ib mt st
open vt (yv js VP DD Ke gN)
def q3j (IV:yv)(IC:ch.rS)(lv:Nat→List Bt)(M B pc pd:Nat)(w:World)(vv iv:Value)(wr:World):Prop :=
 ∃(i k j v:Nat) (X:Nat→Prop),vv=pt v∧iv=.int .i64 (i:Int)∧left M k j≤32∧(i≤40∨i+left M k j≤72)∧Fs IV lv M wr B X v pd k j∧Snd IC lv M wr B pc∧Below w.heap.size w wr∧B≤wr.heap.size
theorem fV {IV:yv}{IC:ch.rS}(H:js IV)(HC:ch.Impl IC)(HCG:q2R IC)(A0:Option Addr)(c0:Nat)(zZ:List (List (Int × UInt8)))(Ao:Option Addr)(co:Nat)(os:List UInt8)(Ab:Option Addr)(cb:Nat)(bs:List Bool)(w:World)(hl:zZ.length≤9223372036854775807)(hT:qxB w A0 zZ)(hol:os.length≤9223372036854775807)(hO:dk.q2F w Ao os)(hbl:bs.length≤9223372036854775807)(hK:dk.vB w Ab bs)(ht:xY w) :
    Calls prog 5 #[.slice A0 zZ.length c0,.slice Ao os.length co,.slice Ab bs.length cb] w (qa6 w):=by
 have hKL:∀b o,Ab=some ⟨b,o,none⟩→0<bs.length→b<w.heap.size:=fun b o e h=>by
  obtain⟨b',o',h1,h2,-⟩:=hK 0 h;rw[h1]at e;injection e with e
  injection e with e
  rw[← e];exact h2
 have HKL:=QH hKL;have HKB:Hid (∀W,Below w.heap.size w W→dk.vB W Ab bs):=fun W hb=>qhu hK hKL hb;have HT:=QH hT;have HO:=QH hO;have HOL:=QH hol;have dt:=QH hbl;have dv:=QH ht;have HWK:=QH (qlr H w ht);have HG:=QH (vt.xI ht);clear hT hO ht hol hbl hK hKL;go_enter func5,ntmps5;go_wp2_with fail;refine HWK.out.mono ?_;rintro e W1 ⟨rfl,hb⟩;have qT:=QH hb;have HSR:=QH (qhq HC A0 c0 zZ W1 hl (fun i h=>by
  obtain⟨b,o,A,c,h1,h2,h3,h4,h5⟩:=HT.out i h;exact⟨b,o,A,c,h1,Nat.lt_of_lt_of_le h2 hb.size,by rw[hb.cell (p:=⟨b,o+i,none⟩) h2];exact h3,h4.below hb,h5⟩))
 clear hb HWK;go_wp2_with fail;refine HSR.out.mono ?_;rintro e W2 ⟨pc,o3,rfl,hsr,hb,-⟩;have qC:=QH (qa qT.out hb);have kT:Hid (Snd IC (lvZ zZ) (srN zZ) W2 W2.heap.size pc):=⟨o3,hsr,fun j hj=>HC.low hsr j hj⟩;have HM8:Hid (srN zZ≤8):=by unfold Hid srN;omega
 have HLV:=QH (qxA zZ);generalize lvZ zZ=lv at *;generalize srN zZ=M at *;have HMD:=QH (qev H 8 (by decide) (by decide) W2 (vt.yP dv.out qC.out HG.out));clear hsr hb HSR qT;go_wp2_with fail;refine HMD.out.mono ?_;rintro e W3 ⟨v0,pd,t,d,o1,o2,rfl,hv,hj,hr,hf,hb,ho⟩;have hG2:gN<W2.heap.size:=Nat.lt_of_lt_of_le HG.out qC.out.size;have HF3:Hid (Fs IV lv M W3 W2.heap.size (fun _=>False) v0 pd 0 0):=⟨t,d,_,⟨o1,o2,hv,fun j hj=>⟨ho j hj,id⟩,fun j h=>h.elim,hG2,id⟩,hr,hj,hf,qxI HLV.out t M⟩;have mO:=QH (kT.out.keep HC.toOps hb);have zB:=QH (qa qC.out hb);have HM3:Hid (W2.heap.size≤W3.heap.size):=hb.size;have HLW:Hid (w.heap.size≤W2.heap.size):=qC.out.size;have HLF:Hid (left M 0 0≤32):=by have:=HM8.out;unfold Hid left;omega
 obtain⟨B,hB⟩:=QE W2.heap.size;rw[hB]at HF3 mO HM3 HLW;clear hv hj hr hf hb ho hG2 HMD kT qC hB;go_wp2_with fail;go_loopw [9,10] (fun vv iv wr=>q3j IV IC lv M B pc pd w vv iv wr) (fun _ i _=>90-(intOf i).toNat);case atStart=>exact⟨0,0,0,v0,fun _=>False,rfl,rfl,HLF.out,.inl (by decide),HF3.out,mO.out,zB.out,HM3.out⟩
 case round =>
  clear HF3 mO zB HM3 HLF;obtain⟨i,k,j,v,X,rfl,rfl,rQ,gP,fF,hsn,uK,hmb⟩:=hrel;have HFS:=QH fF;have jC:=QH hsn;have yy:=QH uK;have HMB:=QH hmb;have lT:=QH rQ;have HIL:=QH gP;have zgq:(i:Int)<90:=by omega
  clear fF hsn uK hmb rQ gP;by_cases hk:k<M
  ·have ia:=QH (qtp H HC.toOps HCG HLV.out HFS.out jC.out hk HM8.out);go_wp2_with fail;refine ia.out.mono ?_;rintro e W1 ⟨A,c,rfl,hp,hnw,hb⟩;have fF:=Fs.more H (Y:=fun q=>X q∨∃o,A=some ⟨q,o,none⟩) HFS.out hb (fun q hq=>by
    rcases hq with h|⟨o,h⟩
    ·exact .inl h
    ·exact .inr (hnw q o h))
   have hsn:=jC.out.keep HC.toOps (hb.mono HMB.out);have hb1:=qa yy.out hb;have hm1:B≤W1.heap.size:=Nat.le_trans HMB.out hb.size;obtain⟨x0,x1,x2,x3,x4,x5,n6,hPC⟩:∃(x0 x1 x2 x3 x4 x5:Int) (n6:Nat),jL (lp lv k j) A c = #[.int .u64 x0,.int .u64 x1,.int .u64 x2,.int .u64 x3,.int .i64 x4,.int .i64 x5,.slice A n6 c]:=⟨_,_,_,_,_,_,_,rfl⟩;have HPC:=QH hPC;rw[hPC];clear hPC ia;have cb:=(Below.refl W1.heap.size W1).alloc (Nat.le_refl _) (.cells #[.int .u64 x0,.int .u64 x1,.int .u64 x2,.int .u64 x3,.int .i64 x4,.int .i64 x5,.slice A n6 c] 41);have kb:=qd.new W1 41 #[.int .u64 x0,.int .u64 x1,.int .u64 x2,.int .u64 x3,.int .i64 x4,.int .i64 x5,.slice A n6 c];obtain⟨W2',hWn⟩:=QE (W1.alloc (.cells #[.int .u64 x0,.int .u64 x1,.int .u64 x2,.int .u64 x3,.int .i64 x4,.int .i64 x5,.slice A n6 c] 41));rw[hWn]at cb kb;have hs2:W2'.heap.size=W1.heap.size+1:=by rw[← hWn];simp
   obtain⟨gp,hg⟩:=QE W1.heap.size;rw[hg]at kb hs2;have HWn:=QH hWn;have HGn:=QH hg;have q3k:=Fs.more H (Y:=fun q=>(X q∨∃o,A=some ⟨q,o,none⟩)∨q=gp) fF cb (fun q hq=>by
    rcases hq with h|h
    ·exact .inl h
    ·exact .inr ⟨by omega,by omega⟩)
   have qe2:=QH q3k;have qo2:=QH (hsn.keep HC.toOps (cb.mono hm1));have ij:=QH (hp.below cb);have qC:=QH (qa hb1 cb);have bI:Hid (B≤W2'.heap.size):=Nat.le_trans hm1 cb.size;have uR:=QH kb;have HGX:Hid ((fun q=>(X q∨∃o,A=some ⟨q,o,none⟩)∨q=gp) gp):=.inr rfl;have HAX:Hid (∀b o,A=some ⟨b,o,none⟩→(fun q=>(X q∨∃o,A=some ⟨q,o,none⟩)∨q=gp) b):=fun b o e=>.inl (.inr ⟨o,e⟩);obtain⟨Y,hY⟩:∃Y:Nat→Prop,Y=fun q=>(X q∨∃o,A=some ⟨q,o,none⟩)∨q=gp:=⟨_,rfl⟩;rw[← hY]at qe2 HGX HAX;clear hWn hg cb kb hs2 fF q3k hsn hp hnw hb hb1 hm1 hY HFS jC yy HMB;go_upto_region 11 with fail;try rw[HWn.out]
   try rw[HGn.out]
   clear HWn HGn;by_cases hio:i<os.length
   ·have q8U:(i:Int)<(os.length:Int):=by omega
    by_cases h40:i<40
    ·have q8V:(i:Int)<40:=by omega
     obtain⟨bo,oo,rfl,hlo,hoc⟩:=HO.out i hio;have q0:W2'.cell? ⟨bo,oo+i,none⟩=some (.int .u8 (os[i].toNat:Int)):=by rw[qC.out.cell (p:=⟨bo,oo+i,none⟩) hlo];exact hoc
     have ql:=Nat.lt_of_lt_of_le hlo qC.out.size;have hz:=os[i].toNat_lt;obtain⟨z,hzz⟩:=QE (os[i].toNat);rw[hzz]at q0 hz;clear hoc hzz hlo;have HAR:=QH (qxK H qe2.out bI.out);have H2S:=QH qo2.out;have H2B:=QH qC.out;have H2M:=QH bI.out;go_upto_region 13 with fail;go_wp2_with fail;refine(HAR.out _ (by omega)).mono ?_;rintro e V1 ⟨rfl,hfp,uY⟩;have H1P:=QH hfp;have zy:=uY.below H2M.out;have H1S:=QH (H2S.out.keep HC.toOps zy);have H1B:=QH (H2B.out.trans (zy.mono HLW.out));have H1M:Hid (B≤V1.heap.size):=Nat.le_trans H2M.out uY.size;have fW:=QH (uR.out.of_block (uY.block uR.out.lt (.inl HGX.out)));have HPV:=QH (fR ij.out uY.size (fun b o e hl=>uY.block hl (.inl (HAX.out b o e))));have ua:=QH (qtu H HLV.out H1P.out hk HM8.out H1M.out A c HPV.out HAX.out);rw[HPC.out]at ua;clear hfp uY zy HAR q0 ql hz H2S H2B H2M;go_upto_region 14 with fail;have r0:=fW.out.cell 0;have r1:=fW.out.cell 1;have r2:=fW.out.cell 2;have r3:=fW.out.cell 3;have r4:=fW.out.cell 4;have r5:=fW.out.cell 5;have r6:=fW.out.cell 6;have rl:=fW.out.lt;simp only[QA,QB,QC]at r0 r1 r2 r3 r4 r5 r6;go_wp2_with fail;refine ua.out.mono ?_;rintro e V2 ⟨r,rfl,hor,uY⟩;have zy:=uY.below H1M.out;have H3S:=QH (H1S.out.keep HC.toOps zy);have H3B:=QH (H1B.out.trans (zy.mono HLW.out));have H3M:Hid (B≤V2.heap.size):=Nat.le_trans H1M.out uY.size;clear uY zy ua fW H1P H1S H1B H1M HPV;clear r0 r1 r2 r3 r4 r5 r6 rl;rcases hor with⟨rfl,hfp⟩|⟨rfl,hfg⟩
     ·have H3P:=QH hfp;clear hfp;have HON:=QH (qpV H3P.out);go_wp2_with fail;refine HON.out.mono ?_;rintro e Vx ⟨rfl,hww⟩;subst hww;have HAR:=QH (qbZ H H3P.out H3M.out);clear HON;go_wp2_with fail;refine HAR.out.mono ?_;rintro e Vy ⟨rfl,fF,uY⟩;have zy:=uY.below H3M.out;have ZS:=QH (H3S.out.keep HC.toOps zy);have ZB:=QH (H3B.out.trans (zy.mono HLW.out));have ZM:Hid (B≤Vy.heap.size):=Nat.le_trans H3M.out uY.size;have ZF:=QH fF;have HLE:=nk HLV.out qe2.out hk;clear fF uY zy HAR H3P H3S H3B H3M;go_wp2_with fail;go_roundw;case rel =>
       have h1:=HIL.out;have h2:=lT.out;exact⟨i+1,_,_,v,_,rfl,by go_num,by omega,by omega,ZF.out,ZS.out,ZB.out,ZM.out⟩
      case measure=>simp[intOf];omega
     ·have HOF:=QH (qxL H hfg H3M.out);clear hfg;go_wp2_with fail;refine HOF.out.mono ?_;rintro e V3 ⟨rfl,hfg,uY⟩;have zy:=uY.below H3M.out;have H4S:=QH (H3S.out.keep HC.toOps zy);have H4B:=QH (H3B.out.trans (zy.mono HLW.out));have H4M:Hid (B≤V3.heap.size):=Nat.le_trans H3M.out uY.size;have HWA:=QH (qtv H hfg H4M.out Ab cb bs (HKB.out _ H4B.out) (fun b o e h=>Nat.lt_of_lt_of_le (HKL.out b o e h) HLW.out));clear hfg uY zy HOF H3S H3B H3M;go_wp2_with fail;refine HWA.out.mono ?_;rintro e V4 ⟨k1,j1,rfl,hfw,hor,uY⟩;have zy:=uY.below H4M.out;have H5S:=QH (H4S.out.keep HC.toOps zy);have H5B:=QH (H4B.out.trans (zy.mono HLW.out));have H5M:Hid (B≤V4.heap.size):=Nat.le_trans H4M.out uY.size;have HOP:=QH (qtw H hfw H5M.out);clear hfw uY zy HWA H4S H4B H4M;go_wp2_with fail;refine HOP.out.mono ?_;rintro e V5 ⟨v5,rfl,fF,uY⟩;have zy:=uY.below H5M.out;have H6S:=QH (H5S.out.keep HC.toOps zy);have H6B:=QH (H5B.out.trans (zy.mono HLW.out));have H6M:Hid (B≤V5.heap.size):=Nat.le_trans H5M.out uY.size;have H6F:=QH fF;have HAL:=QH (qey H HC.toOps HLV.out H6F.out H6S.out HM8.out);clear fF uY zy HOP H5S H5B H5M;go_wp2_with fail;refine HAL.out.mono ?_;rintro e V6 ⟨rfl,hb⟩;have ZF:=QH (Fs.below H H6F.out hb);have ZS:=QH (H6S.out.keep HC.toOps (hb.mono H6M.out));have ZB:=QH (qa H6B.out hb);have ZM:Hid (B≤V6.heap.size):=Nat.le_trans H6M.out hb.size;have HLE:=nk HLV.out qe2.out hk;have HLF:left M k1 j1≤left M k j:=by
       rcases hor with⟨rfl,rfl⟩|⟨rfl,rfl⟩
       ·exact Nat.le_refl _
       ·omega
      clear hb hor HAL H6F H6S H6B H6M;go_wp2_with fail;go_roundw;case rel =>
       have h1:=HIL.out;have h2:=lT.out;exact⟨i+1,k1,j1,v5,_,rfl,by go_num,by omega,by omega,ZF.out,ZS.out,ZB.out,ZM.out⟩
      case measure=>simp[intOf];omega
    ·have q8V:¬ (i:Int)<40:=by omega
     have H2S:=QH qo2.out;have H2B:=QH qC.out;have H2M:=QH bI.out;go_upto_region 14 with fail;have ua:=QH (qi3 H HLV.out qe2.out hk HM8.out bI.out A c ij.out HAX.out);rw[HPC.out]at ua;have fW:=uR;have r0:=fW.out.cell 0;have r1:=fW.out.cell 1;have r2:=fW.out.cell 2;have r3:=fW.out.cell 3;have r4:=fW.out.cell 4;have r5:=fW.out.cell 5;have r6:=fW.out.cell 6;have rl:=fW.out.lt;simp only[QA,QB,QC]at r0 r1 r2 r3 r4 r5 r6;go_wp2_with fail;refine ua.out.mono ?_;rintro e V1 ⟨rfl,fF,uY⟩;have H1P:=QH (Fs.fp fF);have zy:=uY.below H2M.out;have H1S:=QH (H2S.out.keep HC.toOps zy);have H1B:=QH (H2B.out.trans (zy.mono HLW.out));have H1M:Hid (B≤V1.heap.size):=Nat.le_trans H2M.out uY.size;clear fF uY zy ua fW;clear r0 r1 r2 r3 r4 r5 r6 rl;have HON:=QH (qpV H1P.out);go_wp2_with fail;refine HON.out.mono ?_;rintro e Vx ⟨rfl,hww⟩;subst hww;have HAR:=QH (qbZ H H1P.out H1M.out);clear HON;go_wp2_with fail;refine HAR.out.mono ?_;rintro e Vy ⟨rfl,fF,uY⟩;have zy:=uY.below H1M.out;have ZS:=QH (H1S.out.keep HC.toOps zy);have ZB:=QH (H1B.out.trans (zy.mono HLW.out));have ZM:Hid (B≤Vy.heap.size):=Nat.le_trans H1M.out uY.size;have ZF:=QH fF;have HLE:=nk HLV.out qe2.out hk;clear fF uY zy HAR H1P H1S H1B H1M;go_wp2_with fail;go_roundw;case rel =>
      have h1:=HIL.out;have h2:=lT.out;exact⟨i+1,_,_,v,_,rfl,by go_num,by omega,by omega,ZF.out,ZS.out,ZB.out,ZM.out⟩
     case measure=>simp[intOf];omega
   ·have q8U:¬ (i:Int)<(os.length:Int):=by omega
    have H2S:=QH qo2.out;have H2B:=QH qC.out;have H2M:=QH bI.out;go_upto_region 14 with fail;have ua:=QH (qi3 H HLV.out qe2.out hk HM8.out bI.out A c ij.out HAX.out);rw[HPC.out]at ua;have fW:=uR;have r0:=fW.out.cell 0;have r1:=fW.out.cell 1;have r2:=fW.out.cell 2;have r3:=fW.out.cell 3;have r4:=fW.out.cell 4;have r5:=fW.out.cell 5;have r6:=fW.out.cell 6;have rl:=fW.out.lt;simp only[QA,QB,QC]at r0 r1 r2 r3 r4 r5 r6;go_wp2_with fail;refine ua.out.mono ?_;rintro e V1 ⟨rfl,fF,uY⟩;have H1P:=QH (Fs.fp fF);have zy:=uY.below H2M.out;have H1S:=QH (H2S.out.keep HC.toOps zy);have H1B:=QH (H2B.out.trans (zy.mono HLW.out));have H1M:Hid (B≤V1.heap.size):=Nat.le_trans H2M.out uY.size;clear fF uY zy ua fW;clear r0 r1 r2 r3 r4 r5 r6 rl;have HON:=QH (qpV H1P.out);go_wp2_with fail;refine HON.out.mono ?_;rintro e Vx ⟨rfl,hww⟩;subst hww;have HAR:=QH (qbZ H H1P.out H1M.out);clear HON;go_wp2_with fail;refine HAR.out.mono ?_;rintro e Vy ⟨rfl,fF,uY⟩;have zy:=uY.below H1M.out;have ZS:=QH (H1S.out.keep HC.toOps zy);have ZB:=QH (H1B.out.trans (zy.mono HLW.out));have ZM:Hid (B≤Vy.heap.size):=Nat.le_trans H1M.out uY.size;have ZF:=QH fF;have HLE:=nk HLV.out qe2.out hk;clear fF uY zy HAR H1P H1S H1B H1M;go_wp2_with fail;go_roundw;case rel =>
     have h1:=HIL.out;have h2:=lT.out;exact⟨i+1,_,_,v,_,rfl,by go_num,by omega,by omega,ZF.out,ZS.out,ZB.out,ZM.out⟩
    case measure=>simp[intOf];omega
  ·have hkM:k=M:=by have:=HFS.out.kM;omega
   have ia:=QH (qtq H HC.toOps HFS.out jC.out hk HM8.out);unfold NxN pZ at ia;go_wp2_with fail;refine ia.out.mono ?_;rintro e U1 ⟨rfl,hb⟩;have cb:=(Below.refl U1.heap.size U1).alloc (Nat.le_refl _) (.cells #[.int .u64 0,.int .u64 0,.int .u64 0,.int .u64 0,.int .i64 0,.int .i64 0,.slice none 0 0] 41);obtain⟨U2,hU2⟩:=QE (U1.alloc (.cells #[.int .u64 0,.int .u64 0,.int .u64 0,.int .u64 0,.int .i64 0,.int .i64 0,.slice none 0 0] 41));rw[hU2]at cb;have HU2:=QH hU2;have hbb:=qa hb cb;have HF2:=QH (Fs.below H HFS.out hbb);have kT:=QH (jC.out.keep HC.toOps (hbb.mono HMB.out));have qC:=QH (qa yy.out hbb);have bI:Hid (B≤U2.heap.size):=Nat.le_trans HMB.out hbb.size;clear hb cb hU2 hbb ia HFS jC yy HMB;go_upto_region 11 with fail;try rw[HU2.out]
   clear HU2;have HL1:=QH (qtr H HF2.out);go_wp2_with fail;refine HL1.out.mono ?_;rintro e U3 ⟨A3,c3,rfl,-,-,hb⟩;have HF3:=QH (Fs.below H HF2.out hb);have mO:=QH (kT.out.keep HC.toOps (hb.mono bI.out));have q9c:Hid (B≤U3.heap.size):=Nat.le_trans bI.out hb.size;have zB:=QH (qa qC.out hb);have ie:=QH (qts HC.toOps mO.out);have hl3:((List.range k).map ch.kH).length=k:=by simp
   rw[hl3];clear hb HL1 HF2 kT qC bI hl3;go_wp2_with fail;refine ie.out.mono ?_;rintro e U4 ⟨A4,c4,rfl,-,-,hb⟩;rw[yS];have hMM:((k:Int) == (M:Int))=true:=by rw[hkM];simp
   have HF4:=QH (Fs.below H HF3.out hb);have mQ:=QH (mO.out.keep HC.toOps (hb.mono q9c.out));have zT:=QH (qa zB.out hb);have HAL:=QH (qey H HC.toOps HLV.out HF4.out mQ.out HM8.out);clear hb ie HF3 mO zB;go_wp2_with fail;refine HAL.out.mono ?_;rintro e U5 ⟨rfl,hb⟩;have jJ:=QH (qa zT.out hb);clear hb HAL HF4 mQ zT;go_wp2_with fail;go_ret;exact⟨rfl,jJ.out⟩
end Go.Proofs.YtdpbdkacngaemaaGreatDoor.rv
namespace Go.Proofs.YtdpbdkacngaemaaGreatDoor.receiveCrash
open _root_.Go.Proofs.Tryz Go.ChangeShapes Go.WideShapes Go.ChangeAt Go.RowKit
open Go.ChangeMaps (open_string shut_string)
open _root_.Go.Proofs.Tryz ib vt rv dk
theorem own:ownKnob prog.godebug=none:=by kernel_rfl
theorem laidOut:laidOutB prog=true:=by kernel_rfl
theorem qqd(os:Os)(args:Array Value):laidMet prog Rows.receiveCrashRow.laid ((gG os).forCall (fun _ _=>0) ⟨#[],args,[]⟩).memory :=
 laidMet_of_run3 8 (by kernel_rfl) (by kernel_rfl) (by kernel_rfl)
theorem witness(os:Os){H:Type}(enc:TypeId × Value→H) :
    (OpenSpec.ofChange Rows.receiveCrashSpec).preRow enc prog Tryz.f5 Rows.receiveCrashRow.domain false Rows.receiveCrashRow.laid ((gG os).forCall (fun _ _=>0) ⟨#[],#[.slice none 0 0,.slice none 0 0,.slice none 0 0],[]⟩).memory #[.slice none 0 0,.slice none 0 0,.slice none 0 0]:=by
 have hw:(DataW.whole enc prog ((gG os).forCall (fun _ _=>0) ⟨#[],#[.slice none 0 0,.slice none 0 0,.slice none 0 0],[]⟩).memory Tryz.f5.params.toList (OpenSpec.ofChange Rows.receiveCrashSpec).vars false (#[.slice none 0 0,.slice none 0 0,.slice none 0 0]:Array Value).toList 8).map (fun x=>(x.1,x.2.1)) =
     some ([.nil,.nil,.nil],[]):=by kernel_rfl
 obtain⟨⟨x1,x2,x3⟩,hx,hx1⟩:=Option.map_eq_some_iff.1 hw;simp only[Prod.mk.injEq]at hx1;obtain⟨rfl,rfl⟩:=hx1;exact OpenSpec.preRow_of_cond 8 hx (by kernel_rfl) (fun k hk=>by cases hk) (by kernel_rfl) (qqd os _)
theorem lifted(os:Os)(started:os.Started)(H:Type)(enc:TypeId × Value→H)(F:Stop.Interp) :
    ReturnsInHanded {} Tryz.checked os 5 .any ((OpenSpec.ofChange Rows.receiveCrashSpec).preRow enc prog Tryz.f5 Rows.receiveCrashRow.domain false Rows.receiveCrashRow.laid) (((OpenSpec.ofChange Rows.receiveCrashSpec).at F).post enc prog Tryz.f5 false true false false):=by
 refine returnsInHanded_of_row (C:=Tryz.checked) (s:=OpenSpec.ofChange Rows.receiveCrashSpec) own started (by kernel_rfl) func5
  (witness_row_at (enc:=enc) (C:=Tryz.checked) false (gG os) #[.slice none 0 0,.slice none 0 0,.slice none 0 0] rfl (by kernel_rfl) (by kernel_rfl) (by kernel_rfl) (witness os enc)) ?_
 intro W base args ds gs before quQ hW _ _ q9d hL _ _;have ht:xY W:=qbN (laidMet.tail hL) (by kernel_rfl);have hval:∀(j:Nat) t v,Tryz.f5.params[j]?=some t→args[j]?=some v→Value.okWide prog W .any base t v:=quQ;have hW':=hW;obtain⟨p,q,hA0,hV,rfl,hfz,hnd⟩:=hW;have hA:DataW.TrodAll enc prog W 0 (fun _=>true) true Tryz.f5.params.toList args.toList ds p:=hA0;rw[Tryz.params5]at hA hval;obtain⟨v0,vs0,d0,ds0,p0,q0,zbC,rfl,rfl,h0,r0⟩:=trodAll_cons hA;obtain⟨v1,vs1,d1,ds1,p1,q1,rfl,rfl,rfl,h1,r1⟩:=trodAll_cons r0;obtain⟨v2,vs2,d2,ds2,p2,q2,rfl,rfl,rfl,h2,r2⟩:=trodAll_cons r1;obtain⟨rfl,rfl,rfl⟩:=trodAll_nil r2;obtain rfl:args = #[v0,v1,v2]:=by cases args;simp_all
 obtain⟨rfl,rfl⟩:=trodVars_none hV;obtain⟨a0,l0,c0,rfl⟩:=okWide_slice underlying63 (hval 0 63 v0 rfl rfl);have k0:=h0;have lt0:∀x∈p0,x.block<W.heap.size:=by obtain⟨m,hm⟩:=k0;exact DataW.trod_lt m _ _ _ hm
 obtain⟨zs0,q9e,hl0,hT0⟩:=qpE k0;subst q9e;obtain⟨a1,l1,c1,rfl⟩:=okWide_slice underlying64 (hval 1 64 v1 rfl rfl);have k1:=h1;have lt1:∀x∈p1,x.block<W.heap.size:=by obtain⟨m,hm⟩:=k1;exact DataW.trod_lt m _ _ _ hm
 obtain⟨zs1,q9f,hl1,hT1⟩:=qxD k1;subst q9f;obtain⟨a2,l2,c2,rfl⟩:=okWide_slice underlying43 (hval 2 43 v2 rfl rfl);have k2:=h2;have lt2:∀x∈p2,x.block<W.heap.size:=by obtain⟨m,hm⟩:=k2;exact DataW.trod_lt m _ _ _ hm
 obtain⟨zs2,q9g,hl2,hT2⟩:=qpF k2;subst q9g;clear hA0 quQ q9d;simp only[List.append_nil]at hW';refine(fV vt.qp2 ch.pg.qp2 (fun k h _=>ch.pg.qbM h k) a0 c0 zs0 a1 c1 zs1 a2 c2 zs2 W hl0 hT0 hl1 hT1 hl2 hT2 ht).mono fun e W' ⟨he,hg⟩=>?_;subst he;exact⟨_,rfl,_,_,_,[],_,[],hW',trodAll_mk1 (shut_bool underlying4 _),(trodAll_cons_mk (Below.trod laidOut (by kernel_rfl) (of_decide_eq_true (by kernel_rfl)) k0 hg lt0) (trodAll_cons_mk (Below.trod laidOut (by kernel_rfl) (of_decide_eq_true (by kernel_rfl)) k1 hg lt1) (trodAll_cons_mk (Below.trod laidOut (by kernel_rfl) (of_decide_eq_true (by kernel_rfl)) k2 hg lt2) trodAll_mk0))),rfl,hg.frame _,fun h=>by cases h⟩
theorem over:Rows.ReceiveCrashSaid :=
 OpenClaim.holds_of_cond 5 Tryz.f5 rfl rfl rfl rfl rfl rfl rfl ⟨rfl,rfl,rfl,rfl,rfl⟩ rfl rfl rfl rfl rfl (by kernel_rfl) func5 (by kernel_rfl)
  (of_decide_eq_true (by kernel_rfl)) (by unfold Func.isWrapper;first|(rw[if_pos (by decide +kernel)];kernel_rfl)|(rw[if_neg (by decide +kernel)];exact⟨rfl,rfl⟩))
  (fun os started H enc _ F=>by rw[OpenClaim.pre_eq_preRow];exact lifted os started H enc F)
theorem proved:Rows.ReceiveCrashCardSaid :=
 Claim7.holds_tied_plain_at .later [] [.data,.data,.pinned] true Rows.receiveCrashCard.stood.harness true
  over (fun _ h=>by cases h) (by kernel_rfl) (fun _ h=>by cases h) receiveCrash_row_tie rfl ⟨rfl,rfl⟩ (by kernel_rfl) rfl
  (fun f fn hf hfn=>by
   obtain rfl:f=5:=Option.some.inj ((show prog.funcNamed Rows.receiveCrashRow.func=some 5 by kernel_rfl).symm.trans hf) |>.symm;obtain rfl:fn=Tryz.f5:=(Option.some.inj (func5.symm.trans hfn)).symm;exact⟨by kernel_rfl,fun j t ht=>by
    rw[Tryz.params5]at ht;rcases j with _|j
    ·have:t=63:=by simpa using ht.symm
     subst this;exact(show prog.wantsStandIn 63=false by kernel_rfl)
    rcases j with _|j
    ·have:t=64:=by simpa using ht.symm
     subst this;exact(show prog.wantsStandIn 64=false by kernel_rfl)
    rcases j with _|j
    ·have:t=43:=by simpa using ht.symm
     subst this;exact(show prog.wantsStandIn 43=false by kernel_rfl)
    simp at ht⟩)
  (by kernel_rfl)
#print axioms proved
end Go.Proofs.YtdpbdkacngaemaaGreatDoor.receiveCrash
