/- VtPlace, ImMath, VtOps, VtDoes, VtStage, Chgs, ChHyp, CSum, VtHyp, VtTrio, VgMem, Parts, VgCop, VgRow, VgDec. -/
import Derived.Test.YtdagdllomphidaaGreatDoorZC3
import Derived.Laws.IdiomCopy
import Derived.Lib.SlBuf
set_option linter.unusedVariables false
set_option linter.unusedSimpArgs false
set_option maxHeartbeats 30000000
set_option maxRecDepth 100000
namespace Go.Proofs.YtdagdllomphidaaGreatDoor.vt
open _root_.Go.Proofs.Tryz Go Go.RowKit jr mt im sp
def qrX (n:Int)(l:List Int):Prop:=∀z∈l,z=0∨(193≤z∧z<n)
theorem qiy(cs:List Int)(k:Nat)(M:Nat)(hb:bnd M cs)(hM:M≤1000000000)(hk:k<cs.length):(bump cs k).getD k 0=cs.getD k 0+1:=by
 have hg:0≤cs.getD k 0∧cs.getD k 0≤(M:Int):=by
  have:cs.getD k 0=cs[k]:=by simp[List.getD,hk]
  rw[this];exact hb _ (List.getElem_mem hk)
 have hw:wrap64 (cs.getD k 0+1)=cs.getD k 0+1:=by unfold wrap64;omega
 unfold bump;rw[hw];generalize cs.getD k 0+1=v;simp[List.getD,hk]
theorem qlY{cs:List Int}{k M:Nat}(hb:bnd M cs)(hM:M≤1000000000):bnd (M+1) (bump cs k):=by
 intro z hz;unfold bump at hz;rcases List.mem_or_eq_of_mem_set hz with h|h
 ·have:=hb z h;omega
 ·have hg:0≤cs.getD k 0∧cs.getD k 0≤(M:Int):=by
     by_cases hk:k<cs.length
     ·have:cs.getD k 0=cs[k]:=by simp[List.getD,hk]
      rw[this];exact hb _ (List.getElem_mem hk)
     ·have:cs.getD k 0=0:=by simp[List.getD,List.getElem?_eq_none (show cs.length≤k by omega)]
      rw[this];omega
  have hw:wrap64 (cs.getD k 0+1)=cs.getD k 0+1:=by unfold wrap64;omega
  rw[hw]at h;omega
theorem ir {n:Int}:∀(l cs:List Int) (M:Nat),qrX n l→bnd M cs→(cs.length:Int)=n→M+l.length≤1000000000 →
    ∃cs',kJ n cs l=some cs'∧cs'.length=cs.length∧(∀j,cs.getD j 0≤cs'.getD j 0)∧(∀z∈l,z≠0→cs.getD z.toNat 0+1≤cs'.getD z.toNat 0)∧yg cs≤yg cs'+l.length
 | [],cs,M,_,_,_,_=>⟨cs,rfl,rfl,fun _=>Int.le_refl _,fun z h=>absurd h (by simp),by simp⟩
 | z::r,cs,M,hg,hb,hn,hM=>by
  rw[List.length_cons]at hM;rw[aA];by_cases hz:z=0
  ·rw[if_pos hz];obtain⟨cs',h1,h2,h3,h4,h5⟩:=ir r cs M (fun y hy=>hg y (by simp[hy])) hb hn (by omega);refine⟨cs',h1,h2,h3,fun y hy h0=>?_,by rw[List.length_cons];omega⟩;rcases List.mem_cons.1 hy with e|hy
   ·exact absurd (e.trans hz) h0
   ·exact h4 y hy h0
  ·have hr:193≤z∧z<n:=by
      rcases hg z (by simp)with h|h
      ·exact absurd h hz
      ·exact h
   rw[if_neg hz,if_neg (by omega)];have hk:z.toNat<cs.length:=by omega
   obtain⟨cs',h1,h2,h3,h4,h5⟩:=ir r (bump cs z.toNat) (M+1) (fun y hy=>hg y (by simp[hy])) (qlY hb (by omega)) (by rw[eD];exact hn) (by omega);have hbz:=qiy cs z.toNat M hb (by omega) hk;have qrY:∀j,cs.getD j 0≤(bump cs z.toNat).getD j 0:=fun j=>by
    by_cases e:j=z.toNat
    ·rw[e,hbz];omega
    ·rw[bI cs _ j e];exact Int.le_refl _
   refine⟨cs',h1,by rw[h2,eD],fun j=>Int.le_trans (qrY j) (h3 j),fun y hy h0=>?_,?_⟩
   ·rcases List.mem_cons.1 hy with rfl|hy
    ·have:=h3 y.toNat;omega
    ·have:=qrY y.toNat;have:=h4 y hy h0;omega
   ·have hf:yg cs≤yg (bump cs z.toNat)+1:=by
       unfold yg;rw[eD];by_cases h0:cs.getD z.toNat 0=0
       ·have:=oa cs z.toNat hk (by omega) h0 cs.length;split at this <;> omega
       ·have e:∀i,(qR (bump cs z.toNat) i).length=(qR cs i).length:=by
           intro i
           induction i with
           | zero=>rfl
           | succ i ih =>
            rw[yC,yC,ih];by_cases ei:i=z.toNat
            ·subst ei;rw[hbz];have hg0:0≤cs.getD z.toNat 0:=by
              have:cs.getD z.toNat 0=cs[z.toNat]:=by simp[List.getD,hk]
              rw[this];exact(hb _ (List.getElem_mem hk)).1
             rw[if_neg (by omega),if_neg (by omega)]
            ·rw[bI cs _ i ei]
        rw[e];omega
    rw[List.length_cons];omega
theorem qc2(N:Nat):∀i,193≤i→i≤N→(qR (List.replicate N 0) i).length=i-193:=by
 intro i
 induction i with
 | zero=>intro h;omega
 | succ i ih =>
  intro h hN;rw[yC];have h0:(List.replicate N (0:Int)).getD i 0=0:=by simp[List.getD,show i<N by omega]
  by_cases hi:193≤i
  ·rw[ih hi (by omega),if_pos ⟨hi,h0⟩];omega
  ·rw[yJ _ i (by omega),if_neg (fun h=>hi h.1)];simp;omega
section
variable {b N:Nat} {t:Tg} {m:Mt}
theorem qc3(h:yt b N m):qrX (N:Int) (xa m).flatten:=by
 intro z hz;obtain⟨l,hl,hz⟩:=List.mem_flatten.1 hz;unfold xa at hl;rcases List.mem_cons.1 hl with rfl|hl
 ·exact h.live.2.1 z hz
 ·rcases List.mem_cons.1 hl with rfl|hl
  ·rcases h.tok with ht|ht
   ·rw[ht]at hz;simp[zI]at hz
   ·exact ht.2.2.2.2.2.2.1 z hz
  ·obtain⟨s,hs,rfl⟩:=List.mem_map.1 hl;exact(h.uj s hs).2.1 z hz
theorem qfd(h:yt b N m):(xa m).flatten.length≤b*(m.qa.length+2):=by
 have h1:m.live.length=b:=h.len;have h2:m.tok.ql.length≤b:=by
  rcases h.tok with ht|ht
  ·rw[ht];simp[zI]
  ·have:=ht.2.2.2.2.2.1;omega
 have h3:∀l:List Sp,(∀s∈l,jk b N s.ql)→(l.map (·.ql)).flatten.length=b*l.length:=by
  intro l
  induction l with
  | nil=>simp
  | cons s l ih =>
   intro hl;have:=ih (fun x hx=>hl x (by simp[hx]));have:=(hl s (by simp)).1;rw[List.map_cons,List.flatten_cons,List.length_append,List.length_cons,Nat.mul_succ];omega
 have:=h3 m.qa h.uj;have e:b*(m.qa.length+2)=b*m.qa.length+(b+b):=by rw[Nat.mul_add];omega
 unfold xa;simp only[List.flatten_cons,List.length_append];omega
theorem ou (h:yt b N m):b*(m.qa.length+2)≤176:=by
 have:=Nat.mul_le_mul h.b8 (Nat.add_le_add_right h.few 2);omega
theorem bK (h:yt b N m)(hN:N≤1024):∃cs,yI (xa m) (N:Int)=(cs,0)∧cs.length=N∧(∀z,held m z→z≠0→1≤cs.getD z.toNat 0)∧(N-193)≤yg cs+b*(m.qa.length+2):=by
 have hg:=qc3 h;have hl:=qfd h;have hl6:=ou h;obtain⟨cs,h1,h2,h3,h4,h5⟩:=ir (xa m).flatten (List.replicate N 0) 0 hg (fun z hz=>by rw[List.eq_of_mem_replicate hz];omega) (by simp) (by omega);refine⟨cs,?_,by rw[h2,List.length_replicate],fun z hz h0=>?_,?_⟩
 ·unfold yI;rw[if_neg (by omega),Int.toNat_natCast,h1]
 ·obtain⟨l,hl,hz⟩:=hz;have:=h4 z (List.mem_flatten.2 ⟨l,hl,hz⟩) h0;have h0:(List.replicate N (0:Int)).getD z.toNat 0=0:=by
   by_cases hk:z.toNat<N
   ·simp[List.getD,hk]
   ·simp[List.getD,hk]
  omega
 ·have:N-193≤yg (List.replicate N (0:Int)):=by
     unfold yg;rw[List.length_replicate];by_cases qxZ:193≤N
     ·rw[qc2 N N qxZ (Nat.le_refl _)];exact Nat.le_refl _
     ·omega
  omega
theorem vW (k:Int)(s:Bt)(r:List (Int × Bt)):full ((k,s)::r)=full r+if s=zb then 0 else 1:=by
 unfold full;by_cases h:s=zb <;> simp[h]
theorem iv:∀(x:List (Int × Bt)) (fr:List Int),full x≤fr.length →
    (qd fr x).1.length=x.length∧(qd fr x).2.map (·.1)=fr.take (full x)∧(∀y∈(qd fr x).2,∃c∈x,y.2=c.2) ∧
     (∀i (hi:i<x.length) (ha:i<(qd fr x).1.length),(x[i].2=zb∧(qd fr x).1[i]=0)∨(x[i].2≠zb∧((qd fr x).1[i],x[i].2)∈(qd fr x).2))
 | [],fr,_=>⟨rfl,by simp[qd,full],by simp[qd],fun i hi=>by simp at hi⟩
 | (k,s)::r,fr,h=>by
  rw[vW]at h;by_cases hs:s=zb
  ·rw[if_pos hs]at h;obtain⟨h1,h2,h3,h4⟩:=iv r fr (by omega);have e:qd fr ((k,s)::r)=(0::(qd fr r).1,(qd fr r).2):=by
    cases fr <;> simp[qd,hs]
   rw[e,vW,if_pos hs,Nat.add_zero];refine⟨by simp[h1],h2,fun y hy=>?_,fun i hi ha=>?_⟩
   ·obtain⟨c,hc,he⟩:=h3 y hy;exact⟨c,by simp[hc],he⟩
   ·cases i with
    | zero=>exact .inl ⟨hs,rfl⟩
    | succ i=>exact h4 i (by simpa using hi) (by simpa using ha)
  ·rw[if_neg hs]at h;cases fr with
   | nil=>simp at h
   | cons f fr =>
    obtain⟨h1,h2,h3,h4⟩:=iv r fr (by simp at h;omega);have e:qd (f::fr) ((k,s)::r)=(f::(qd fr r).1,(f,s)::(qd fr r).2):=by
     simp[qd,hs]
    rw[e,vW,if_neg hs];refine⟨by simp[h1],by simp[h2],fun y hy=>?_,fun i hi ha=>?_⟩
    ·rcases List.mem_cons.1 hy with rfl|hy
     ·exact⟨(k,s),by simp,rfl⟩
     ·obtain⟨c,hc,he⟩:=h3 y hy;exact⟨c,by simp[hc],he⟩
    ·cases i with
     | zero=>exact .inr ⟨hs,by simp⟩
     | succ i =>
      rcases h4 i (by simpa using hi) (by simpa using ha)with h5|h5
      ·exact .inl h5
      ·exact .inr ⟨h5.1,by simp;exact .inr h5.2⟩
theorem aC:∀(x:List (Int × Bt)) (fr:List Int),∀a∈(qd fr x).1,a=0∨a∈fr
 | [],fr,a,h=>by simp[qd]at h
 | (k,s)::r,fr,a,h=>by
  by_cases hs:s=zb
  ·have e:qd fr ((k,s)::r)=(0::(qd fr r).1,(qd fr r).2):=by
      cases fr <;> simp[qd,hs]
   rw[e]at h;rcases List.mem_cons.1 h with h|h
   ·exact .inl h
   ·exact aC r fr a h
  ·cases fr with
   | nil =>
    have e:qd [] ((k,s)::r)=(0::(qd [] r).1,(qd [] r).2):=by simp[qd]
    rw[e]at h;rcases List.mem_cons.1 h with h|h
    ·exact .inl h
    ·exact aC r [] a h
   | cons f fr =>
    have e:qd (f::fr) ((k,s)::r)=(f::(qd fr r).1,(f,s)::(qd fr r).2):=by simp[qd,hs]
    rw[e]at h;rcases List.mem_cons.1 h with h|h
    ·exact .inr (by simp[h])
    ·rcases aC r fr a h with h|h
     ·exact .inl h
     ·exact .inr (by simp[h])
theorem ve:∀(x:List (Int × Bt)) (fr:List Int),fr.Nodup→∀i j,i<j→j<(qd fr x).1.length→pl (qd fr x).1 i=pl (qd fr x).1 j→pl (qd fr x).1 i=0
 | [],fr,_,i,j,_,hj,_=>by simp[qd]at hj
 | (k,s)::r,fr,hn,i,j,hij,hj,he=>by
  have zero:∀(A:List Int) (hA:∀i j,i<j→j<A.length→pl A i=pl A j→pl A i=0),j<(0::A).length→pl (0::A) i=pl (0::A) j→pl (0::A) i=0:=by
   intro A hA hj he;cases i with
   | zero=>rfl
   | succ i =>
    cases j with
    | zero=>omega
    | succ j=>exact hA i j (by omega) (by simpa using hj) (by simpa[pl]using he)
  by_cases hs:s=zb
  ·have e:qd fr ((k,s)::r)=(0::(qd fr r).1,(qd fr r).2):=by
      cases fr <;> simp[qd,hs]
   rw[e]at hj he ⊢;exact zero _ (ve r fr hn) hj he
  ·cases fr with
   | nil =>
    have e:qd [] ((k,s)::r)=(0::(qd [] r).1,(qd [] r).2):=by simp[qd]
    rw[e]at hj he ⊢;exact zero _ (ve r [] hn) hj he
   | cons f fr =>
    have e:qd (f::fr) ((k,s)::r)=(f::(qd fr r).1,(f,s)::(qd fr r).2):=by simp[qd,hs]
    rw[e]at hj he ⊢;rw[List.nodup_cons]at hn;cases j with
    | zero=>omega
    | succ j =>
     have hj':j<(qd fr r).1.length:=by simpa using hj
     cases i with
     | zero =>
      have hm:=aC r fr (qd fr r).1[j] (List.getElem_mem hj');have he':f=(qd fr r).1[j]:=by
       have:=he;unfold pl at this;simpa[List.getD,hj']using this
      rcases hm with h|h
      ·show f=0;rw[he',h]
      ·exact absurd (he' ▸ h) hn.1
     | succ i=>exact ve r fr hn.2 i j (by omega) hj' (by simpa[pl]using he)
theorem qa6(x:List (Int × Bt)):full x≤x.length:=List.length_filter_le _ _
def eI (b N:Nat)(m:Mt)(x:List (Int × Bt)):Prop:=N<193+b*(m.qa.length+2)+x.length
theorem eI.far(h:yt b N m){x:List (Int × Bt)}(hf:eI b N m x)(hx:x.length≤8):N<377:=by
 have:=ou h;unfold eI at hf;omega
structure ix(N:Nat)(m:Mt)(x:List (Int × Bt))(at_:List Int)(ws:List Wr):Prop where
 len:at_.length=x.length
 wok:gV N m ws
 each:∀i (hi:i<x.length) (ha:i<at_.length),(x[i].2=zb∧at_[i]=0)∨(x[i].2≠zb∧(at_[i],x[i].2)∈ws)
 fresh:∀i j,i<j→j<at_.length→pl at_ i=pl at_ j→pl at_ i=0
theorem yV (h:yt b N m)(hN:N≤1024)(x:List (Int × Bt))(hx:x.length≤8)(h32:∀c∈x,c.2.length=32) :
    ((qu N m x).2=7∧eI b N m x)∨((qu N m x).2=0∧ix N m x (qu N m x).1.1 (qu N m x).1.2):=by
 obtain⟨cs,h1,h2,h3,h4⟩:=bK h hN;have hf:=qa6 x;have hst:yY cs (full x:Int)=if (yg cs:Int)<(full x:Int)then([],7)else((qR cs cs.length).take (full x),0):=by
  unfold yY;rw[if_neg (by omega),Int.toNat_natCast]
 unfold qu;rw[h1];dsimp only;rw[hst];by_cases hfull:(yg cs:Int)<(full x:Int)
 ·rw[if_pos hfull]
  left
  exact⟨by simp,by unfold eI;omega⟩
 ·rw[if_neg hfull]
  right
  simp only[if_true];refine⟨trivial,?_⟩;have hlen:full x≤((qR cs cs.length).take (full x)).length:=by
   rw[List.length_take];unfold yg at hfull;omega
  obtain⟨p1,p2,p3,p4⟩:=iv x _ hlen;have hmem:∀y∈(qd ((qR cs cs.length).take (full x)) x).2,y.1∈qR cs cs.length:=fun y hy=>by
   have:y.1∈(qd ((qR cs cs.length).take (full x)) x).2.map (·.1):=List.mem_map_of_mem hy;rw[p2]at this;exact List.mem_of_mem_take (List.mem_of_mem_take this)
  have hnd:((qd ((qR cs cs.length).take (full x)) x).2.map (·.1)).Nodup:=by
   rw[p2];have hr:=o9 cs cs.length;have:(qR cs cs.length).Nodup:=hr.imp (fun h=>by omega);exact(this.sublist (List.take_sublist _ _)).sublist (List.take_sublist _ _)
  have q9S:(qd ((qR cs cs.length).take (full x)) x).2.length=full x:=by
   have:=congrArg List.length p2;rw[List.length_map,List.length_take,List.length_take]at this;unfold yg at hfull;omega
  have q3D:gV N m (qd ((qR cs cs.length).take (full x)) x).2:=by
   refine⟨by omega,hnd,fun y hy=>?_,fun y hy hh=>?_,fun y hy=>?_⟩
   ·obtain⟨j,e,g1,g2,_⟩:=iq.1 (hmem y hy);omega
   ·obtain⟨j,e,g1,g2,g3⟩:=iq.1 (hmem y hy);have:=h3 y.1 hh (by omega);rw[e,Int.toNat_natCast]at this;omega
   ·obtain⟨c,hc,e⟩:=p3 y hy;rw[e];exact h32 c hc
  have hfn:((qR cs cs.length).take (full x)).Nodup:=by
   have hr:=o9 cs cs.length;have:(qR cs cs.length).Nodup:=hr.imp (fun h=>by omega);exact this.sublist (List.take_sublist _ _)
  exact⟨p1,q3D,p4,ve x _ hfn⟩
end
end Go.Proofs.YtdagdllomphidaaGreatDoor.vt
namespace Go.Proofs.YtdagdllomphidaaGreatDoor.im
open _root_.Go.Proofs.Tryz Go Go.RowKit
theorem qlZ{l:List Int}{j:Nat}(hj:j<l.length)(s:Int)(i:Nat):pl (l.set j s) i=if i=j then s else pl l i:=by
 unfold pl;rw[List.getD_eq_getElem?_getD,List.getD_eq_getElem?_getD,List.getElem?_set];by_cases e:j=i
 ·subst e;rw[if_pos rfl,if_pos hj,if_pos rfl];rfl
 ·rw[if_neg e,if_neg (fun h=>e h.symm)]
end Go.Proofs.YtdagdllomphidaaGreatDoor.im
namespace Go.Proofs.YtdagdllomphidaaGreatDoor.vt
open _root_.Go.Proofs.Tryz Go Go.RowKit jr mt im sp
def jW:List Bt→List (Int × Bt)→List Bt
 | l,[]=>l
 | l,(k,s)::r=>jW (l.set k.toNat s) r
theorem qfe(t:Tg)(l:List Int)(k:Nat)(a:Int):volume t (l.set k a)=(volume t l).set k (cn t a):=by
 unfold volume;rw[List.map_set]
theorem xZ (t:Tg)(l:List Int):(volume t l).length=l.length:=by simp[volume]
theorem jX (l a:List Int):zu l [] a=l:=by simp[zu]
theorem bL (l:List Int)(y:Int × Bt)(r:List (Int × Bt)):zu l (y::r) []=l:=by simp[zu]
theorem jv (l:List Int)(k:Int)(s:Bt)(r:List (Int × Bt))(a:Int)(at_:List Int):zu l ((k,s)::r) (a::at_)=zu (l.set k.toNat a) r at_:=by simp[zu]
theorem bM (t:Tg):∀(x:List (Int × Bt)) (at_:List Int) (l:List Int),at_.length=x.length→(∀i (hi:i<x.length) (ha:i<at_.length),cn t at_[i]=x[i].2)→volume t (zu l x at_)=jW (volume t l) x
 | [],_,_,_,_=>by rw[jX];rfl
 | (k,s)::r,[],l,h,_=>by simp at h
 | (k,s)::r,a::at_,l,h,hv=>by
  have h0:=hv 0 (by simp) (by simp);have ih:=bM t r at_ (l.set k.toNat a) (by simpa using h) (fun i hi ha=>hv (i+1) (by simpa using hi) (by simpa using ha));show volume t (zu l ((k,s)::r) (a::at_))=jW ((volume t l).set k.toNat s) r;rw[jv,ih,qfe]
  congr 2
theorem bN:∀(x:List (Int × Bt)) (at_:List Int) (l:List Int),(zu l x at_).length=l.length
 | [],_,_=>by rw[jX]
 | (_,_)::_,[],_=>by rw[bL]
 | (k,s)::r,a::at_,l=>by
  rw[jv,bN r at_,List.length_set]
theorem qma{l:List Int}{i:Nat}(h:i<l.length):pl l i∈l:=by rw[cE h];exact List.getElem_mem h
theorem jk.qo{b N:Nat}{l:List Int}(h:jk b N l)(k:Nat)(a:Int)(ha:a=0∨(193≤a∧a<(N:Int)∧a ∉ l)):jk b N (l.set k a):=by
 refine⟨by rw[List.length_set];exact h.1,fun z hz=>?_,fun i j hij hj e=>?_⟩
 ·rcases List.mem_or_eq_of_mem_set hz with hz|rfl
  ·exact h.2.1 z hz
  ·rcases ha with h|h
   ·exact .inl h
   ·exact .inr ⟨h.1,h.2.1⟩
 ·rw[List.length_set]at hj;by_cases hk:k<l.length
  ·rw[qlZ hk]at e ⊢;rw[qlZ hk]at e;by_cases h1:i=k
   ·rw[if_pos h1]at e ⊢;rw[if_neg (by omega)]at e;rcases ha with h|h
    ·exact h
    ·exact absurd (e ▸ qma hj) h.2.2
   ·rw[if_neg h1]at e ⊢;by_cases h2:j=k
    ·rw[if_pos h2]at e;rcases ha with h|h
     ·rw[e,h]
     ·exact absurd (e ▸ qma (by omega)) h.2.2
    ·rw[if_neg h2]at e;exact h.2.2 i j hij hj e
  ·rw[List.set_eq_of_length_le (by omega)]at e ⊢;exact h.2.2 i j hij hj e
theorem sV {b N:Nat}:∀(x:List (Int × Bt)) (at_:List Int) (l:List Int),jk b N l→(∀a∈at_,a=0∨(193≤a∧a<(N:Int)∧a ∉ l))→(∀i j,i<j→j<at_.length→pl at_ i=pl at_ j→pl at_ i=0)→jk b N (zu l x at_)
 | [],_,_,h,_,_=>by rw[jX];exact h
 | (_,_)::_,[],_,h,_,_=>by rw[bL];exact h
 | (k,s)::r,a::at_,l,h,ha,hf=>by
  rw[jv];refine sV r at_ (l.set k.toNat a) (h.qo k.toNat a (ha a (by simp))) (fun a' ha'=>?_) (fun i j hij hj e=>?_)
  ·rcases ha a' (by simp[ha'])with h0|h0
   ·exact .inl h0
   ·by_cases e:a'=a
    ·left
     obtain⟨j,hj,e2⟩:=List.getElem_of_mem ha';have:=hf 0 (j+1) (by omega) (by simpa using hj) (by
      show a=pl (a::at_) (j+1);rw[cE (by simpa using hj)];simp[e2,e])
     rw[e];exact this
    ·refine .inr ⟨h0.1,h0.2.1,fun hm=>?_⟩;rcases List.mem_or_eq_of_mem_set hm with hm|hm
     ·exact h0.2.2 hm
     ·exact e hm
  ·exact hf (i+1) (j+1) (by omega) (by simpa using hj) e
theorem ov {b:Nat}:∀(x:List (Int × Bt)) (p:Int) (l:List Bt),l.length=b→ch.vB l p x=if zL b p x=true then some (jW l x)else none
 | [],p,l,_=>rfl
 | (k,s)::r,p,l,h=>by
  have ih:=ov (b:=b) r k (l.set k.toNat s) (by rw[List.length_set];exact h);unfold ch.vB zL;by_cases hb:k≤p∨(l.length:Int)≤k∨s.length≠32
  ·rw[if_pos hb,if_neg];simp only[Bool.and_eq_true,decide_eq_true_eq,not_and];intro h1 h2;omega
  ·rw[if_neg hb,ih];have e:(decide (p<k)&&decide (k<(b:Int))&&decide (s.length=32)&&zL b k r)=zL b k r:=by
    have h1:p<k:=by omega
    have h2:k<(b:Int):=by omega
    have h3:s.length=32:=by omega
    simp[h1,h2,h3]
   rw[e];rfl
theorem ku {b:Nat}:∀ {x:List (Int × Bt)} {p:Int},zL b p x=true→∀c∈x,c.2.length=32∧p<c.1∧c.1<(b:Int)
 | (k,s)::r,p,h,c,hc=>by
  unfold zL at h;simp only[Bool.and_eq_true,decide_eq_true_eq]at h;obtain⟨⟨⟨h1,h2⟩,h3⟩,h4⟩:=h;rcases List.mem_cons.1 hc with rfl|hc
  ·exact⟨h3,h1,h2⟩
  ·have:=ku h4 c hc;exact⟨this.1,by omega,this.2.2⟩
theorem iy {b:Nat}:∀ {x:List (Int × Bt)} {p:Int},zL b p x=true → -1≤p→p<(b:Int)→(x.length:Int)≤(b:Int)-1-p
 | [],p,_,_,h=>by simp;omega
 | (k,s)::r,p,h,h0,hb=>by
  unfold zL at h;simp only[Bool.and_eq_true,decide_eq_true_eq]at h;obtain⟨⟨⟨h1,h2⟩,h3⟩,h4⟩:=h;have:=iy h4 (by omega) h2;rw[List.length_cons];omega
section
variable {b N:Nat} {t:Tg} {m:Mt}
theorem oy (t:Tg)(m:Mt):(zA t m).last=qB m:=by
 unfold zA ch.CH.last qB;dsimp only;rw[List.getLast?_map];cases m.qa.getLast? <;> rfl
theorem oz (t:Tg)(m:Mt):(zA t m).base=volume t (xN m):=by
 unfold zA ch.CH.base xN;dsimp only;rw[List.getLast?_map];cases m.qa.getLast? with
 | none =>
  show ch.vV (volume t m.live).length=_;rw[xZ];unfold ch.vV volume;rw[List.map_replicate];rfl
 | some s=>rfl
theorem dP (h:yt b N m):jk b N (xN m):=by
 unfold xN;split
 ·have hl:=h.len;refine⟨by rw[List.length_replicate];exact hl,fun z hz=>.inl (List.eq_of_mem_replicate hz),fun i j hij hj _=>?_⟩;rw[List.length_replicate]at hj;rw[cE (by rw[List.length_replicate];omega),List.getElem_replicate]
 ·rename_i s hs;exact h.uj s (List.mem_of_getLast? hs)
theorem oA (z:Int)(hz:z∈xN m):z=0∨held m z:=by
 unfold xN at hz;split at hz
 ·exact .inl (List.eq_of_mem_replicate hz)
 ·rename_i s hs;exact .inr ⟨s.ql,qgO (List.mem_of_getLast? hs),hz⟩
theorem qrZ(h:yt b N m):zZ (qB m):=by
 unfold qB;split
 ·exact ng
 ·rename_i s hs;exact h.fA.qa s (List.mem_of_getLast? hs)
theorem oB {g:Gd}:∀(l:List Gd) (p:Gd),uC p l→mt.above g (l.getLast?.getD p)=true→uC p (l++[g])
 | [],p,_,h=>⟨h,trivial⟩
 | x::l,p,h,hg=>by
  refine⟨h.1,oB l x h.2 ?_⟩;cases l with
  | nil=>exact hg
  | cons y l=>rw[List.getLast?_cons_cons]at hg;rw[List.getLast?_cons]at hg ⊢;exact hg
theorem oC:∀(l:List Gd) (p:Gd) (n:Nat),uC p l→uC p (l.take n)
 | [],p,n,_=>by simp[uC]
 | x::l,p,0,_=>trivial
 | x::l,p,n+1,h=>⟨h.1,oC l x n h.2⟩
theorem iz (m:Mt):(m.qa.map (·.g)).getLast?.getD (0,0)=qB m:=by
 unfold qB;rw[List.getLast?_map];cases m.qa.getLast? <;> rfl
theorem qff{m:Mt}(h:mB m)(sn:List Sp)(l:List Int)(hs:∀s∈sn,zZ s.g):mB ⟨l,sn,zI⟩:=⟨hs,ng,ng⟩
theorem yt.push(h:yt b N m)(g:Gd)(hg:zZ g)(l ql:List Int)(hl:jk b N l)(hi:jk b N ql)(ha:mt.above g (qB m)=true)(hf:m.qa.length<20):yt b N ⟨l,m.qa++[⟨g,ql,false⟩],zI⟩:=by
 refine⟨h.b1,h.b8,hl,?_,fun s hs=>?_,?_,.inl rfl,qff h.fA _ _ fun s hs=>?_⟩
 ·show(m.qa++[_]).length≤20;rw[List.length_append,List.length_singleton];omega
 ·rcases List.mem_append.1 hs with hs|hs
  ·exact h.uj s hs
  ·obtain rfl:s=_:=by simpa using hs
   exact hi
 ·show uC (0,0) ((m.qa++[(⟨g,ql,false⟩:Sp)]).map (fun s=>s.g));rw[List.map_append];exact oB _ _ h.qcz (by rw[iz];exact ha)
 ·rcases List.mem_append.1 hs with hs|hs
  ·exact h.fA.qa s hs
  ·obtain rfl:s=_:=by simpa using hs
   exact hg
theorem gV.nil(N:Nat)(m:Mt):gV N m []:=⟨by simp,by simp,fun x hx=>absurd hx (by simp),fun x hx=>absurd hx (by simp),fun x hx=>absurd hx (by simp)⟩
structure Does(b N:Nat)(t:Tg)(m:Mt)(P:eF)(c:ch.CH):Prop where
 ok:yt b N P.m
 ws:gV N m P.ws
 zA:zA (over t (qA t P.m P.ws)) P.m=c
theorem oD {m':Mt}{x:List (Int × Bt)}{at_:List Int}{ws:List Wr}(h:qT b N t m)(ho:yt b N m')(hp:ix N m x at_ ws):∀i (hi:i<x.length) (ha:i<at_.length),cn (over t (qA t m' ws)) at_[i]=x[i].2:=by
 intro i hi ha;unfold cn;rcases hp.each i hi ha with⟨h1,h2⟩|⟨h1,h2⟩
 ·rw[if_pos h2,h1]
 ·have hr:=hp.wok.range _ h2;dsimp only at hr;rw[if_neg (by omega)];exact qfb h ho hp.wok _ h2
theorem sW {l:List Int}{x:List (Int × Bt)}{at_:List Int}{ws:List Wr}(hp:ix N m x at_ ws)(hl:jk b N l)(hh:∀z∈l,z=0∨held m z):jk b N (zu l x at_):=by
 refine sV x at_ l hl (fun a ha=>?_) hp.fresh;obtain⟨i,hi,rfl⟩:=List.getElem_of_mem ha;rcases hp.each i (by rw[← hp.len];exact hi) hi with⟨_,h2⟩|⟨_,h2⟩
 ·exact .inl h2
 ·have hr:=hp.wok.range _ h2;refine .inr ⟨hr.1,hr.2,fun hm=>?_⟩;rcases hh _ hm with h0|h0
  ·have hr1:=hr.1;dsimp only at hr1;omega
  ·exact hp.wok.free _ h2 h0
end
end Go.Proofs.YtdagdllomphidaaGreatDoor.vt
namespace Go.Proofs.YtdagdllomphidaaGreatDoor.vt
open _root_.Go.Proofs.Tryz Go Go.RowKit jr mt im sp
section
variable {b N:Nat} {t:Tg} {m:Mt}
theorem jl {m':Mt}{ws:List Wr}(h:qT b N t m)(ho:yt b N m')(hw:gV N m ws):m.qa.map (eG (over t (qA t m' ws)))=m.qa.map (eG t):=by
 have:=qlX h ho hw;unfold zA at this;exact(ch.CH.mk.inj this).2
theorem vX {m':Mt}{ws:List Wr}(h:qT b N t m)(ho:yt b N m')(hw:gV N m ws):volume (over t (qA t m' ws)) m.live=volume t m.live:=ot h ho hw (qa5 m) h.ok.live
theorem bO (h:qT b N t m)(k:Int)(s:Bt) :
    ((zn N m k s).code=7∧eI b N m [(k,s)])∨((zn N m k s).code=((zA t m).write k s).2∧((zn N m k s).code=0→Does b N t m (zn N m k s) ((zA t m).write k s).1)∧((zn N m k s).code≠0→((zA t m).write k s).1=zA t m)):=by
 have hl:(zA t m).live.length=m.live.length:=xZ t m.live;by_cases hb:k<0∨(m.live.length:Int)≤k∨s.length≠32
 ·right
  have e1:zn N m k s=⟨2,m,[]⟩:=by unfold zn;rw[if_pos hb]
  have e2:(zA t m).write k s=(zA t m,2):=by unfold ch.CH.write;rw[hl,if_pos hb]
  rw[e1,e2];exact⟨rfl,fun h=>absurd h (by simp),fun _=>rfl⟩
 ·have e2:(zA t m).write k s=(⟨(zA t m).live.set k.toNat s,(zA t m).qa⟩,0):=by unfold ch.CH.write;rw[hl,if_neg hb]
  rcases yV h.ok h.N1 [(k,s)] (by simp) (fun c hc=>by simp at hc;subst hc;exact Classical.byContradiction fun h=>hb (.inr (.inr h)))with⟨h7,hN⟩|⟨h0,hp⟩
  ·left
   unfold zn;rw[if_neg hb,h7];exact⟨rfl,hN⟩
  ·right
   have e1:zn N m k s=⟨0,{ m with live:=zu m.live [(k,s)] (qu N m [(k,s)]).1.1 },(qu N m [(k,s)]).1.2⟩:=by
    unfold zn;rw[if_neg hb,if_pos h0]
   generalize (qu N m [(k,s)]).1.1=at_ at *;generalize (qu N m [(k,s)]).1.2=ws at *;rw[e1,e2];refine⟨rfl,fun _=>?_,fun h=>absurd rfl h⟩;have jL:yt b N { m with live:=zu m.live [(k,s)] at_ }:=by
    have ho:=h.ok;refine⟨ho.b1,ho.b8,sW hp ho.live (fun z hz=>.inr ⟨m.live,qa5 m,hz⟩),ho.few,ho.uj,ho.qcz,ho.tok,⟨ho.fA.qa,ho.fA.base,ho.fA.target⟩⟩
   refine⟨jL,hp.wok,?_⟩;unfold zA;dsimp only
   congr 1
   ·rw[bM _ [(k,s)] at_ m.live hp.len (oD h jL hp),vX h jL hp.wok];rfl
   ·exact jl h jL hp.wok
theorem iA (h:qT b N t m)(g:Gd)(hg:zZ g) :
    (jP m g).code=((zA t m).snap g).2∧((jP m g).code=0→Does b N t m (jP m g) ((zA t m).snap g).1)∧((jP m g).code≠0→((zA t m).snap g).1=zA t m):=by
 have hl:(zA t m).qa.length=m.qa.length:=by simp[zA]
 have hm:(zA t m).may g=if mt.above g (qB m)=true then(if 20≤m.qa.length then 3 else 0)else 2:=by
  unfold ch.CH.may;rw[oy,hl];rfl
 unfold jP ch.CH.snap;rw[hm];by_cases ha:mt.above g (qB m)=true
 ·rw[if_neg (by rw[ha];decide),if_pos ha];by_cases hf:20≤m.qa.length
  ·rw[if_pos hf,if_pos hf];exact⟨rfl,fun h=>absurd h (by simp),fun _=>rfl⟩
  ·rw[if_neg hf,if_neg hf];refine⟨rfl,fun _=>?_,fun h=>absurd rfl h⟩;have jL:yt b N { m with qa:=m.qa++[⟨g,m.live,false⟩],tok:=zI }:=h.ok.push g hg m.live m.live h.ok.live h.ok.live ha (by omega);refine⟨jL,gV.nil N m,?_⟩;have h1:=vX h jL (gV.nil N m);have h2:=jl h jL (gV.nil N m);show zA (over t (qA t _ [])) _=_;generalize over t (qA t { m with qa:=m.qa++[⟨g,m.live,false⟩],tok:=zI } [])=t' at *;unfold zA;dsimp only;rw[List.map_append,h1,h2,if_pos rfl];simp only[List.map_cons,List.map_nil,eG,h1]
 ·rw[if_pos (by simpa using ha),if_neg ha];exact⟨rfl,fun h=>absurd h (by simp),fun _=>rfl⟩
theorem yt.take(h:yt b N m)(n:Nat)(l:List Int)(hl:jk b N l):yt b N ⟨l,m.qa.take n,zI⟩:=by
 refine⟨h.b1,h.b8,hl,?_,fun s hs=>h.uj s (List.mem_of_mem_take hs),?_,.inl rfl,qff h.fA _ _ fun s hs=>h.fA.qa s (List.mem_of_mem_take hs)⟩
 ·show(m.qa.take n).length≤20;have:=h.few;rw[List.length_take];omega
 ·show uC (0,0) ((m.qa.take n).map (·.g));rw[List.map_take];exact oC _ _ n h.qcz
theorem iB (h:qT b N t m)(n:Int) :
    (ju m n).code=((zA t m).roll n).2∧((ju m n).code=0→Does b N t m (ju m n) ((zA t m).roll n).1)∧((ju m n).code≠0→((zA t m).roll n).1=zA t m):=by
 have hl:(zA t m).qa.length=m.qa.length:=by simp[zA]
 unfold ju ch.CH.roll;rw[hl];by_cases hb:n<0∨(m.qa.length:Int)<n
 ·rw[if_pos hb,if_pos hb];exact⟨rfl,fun h=>absurd h (by simp),fun _=>rfl⟩
 ·rw[if_neg hb,if_neg hb];refine⟨rfl,fun _=>?_,fun h=>absurd rfl h⟩;have vH:jk b N (xN { m with qa:=m.qa.take n.toNat }):=dP (m:={ m with qa:=m.qa.take n.toNat,tok:=zI }) (h.ok.take n.toNat m.live h.ok.live);have jL:yt b N ⟨xN { m with qa:=m.qa.take n.toNat },m.qa.take n.toNat,zI⟩:=h.ok.take n.toNat _ vH;refine⟨jL,gV.nil N m,?_⟩;have h2:=jl h jL (gV.nil N m);have nv:volume (over t (qA t ⟨xN { m with qa:=m.qa.take n.toNat },m.qa.take n.toNat,zI⟩ [])) (xN { m with qa:=m.qa.take n.toNat })=volume t (xN { m with qa:=m.qa.take n.toNat }):=by
   have hm:=oA (m:={ m with qa:=m.qa.take n.toNat });unfold volume;apply List.map_congr_left;intro z hz;unfold cn;split
   ·rfl
   ·rename_i h0;rcases hm z hz with h1|⟨l,hl,hzl⟩
    ·exact absurd h1 h0
    ·rcases vH.2.1 z hz with h1|h1
     ·exact absurd h1 h0
     ·refine dO h jL (gV.nil N m) z ⟨l,?_,hzl⟩ h1.1;unfold xa at hl ⊢;simp only[List.mem_cons,List.mem_map]at hl ⊢;rcases hl with h|h|⟨s,hs,e⟩
      ·exact .inl h
      ·exact .inr (.inl h)
      ·exact .inr (.inr ⟨s,List.mem_of_mem_take hs,e⟩)
  show zA (over t (qA t _ [])) _=_;generalize over t (qA t ⟨xN { m with qa:=m.qa.take n.toNat },m.qa.take n.toNat,zI⟩ [])=t' at *;have hb2:=oz t { m with qa:=m.qa.take n.toNat };unfold zA at hb2 ⊢;dsimp only at hb2 ⊢;rw[nv,List.map_take,h2,← hb2];simp only[List.map_take]
theorem qc4(t:Tg)(m:Mt)(g:Gd):(zA t m).find g=od m g:=by
 unfold ch.CH.find od zA;dsimp only;rw[List.findIdx?_map];rfl
theorem sX {l:List Sp}{i:Nat}{s:Sp}(h:s∈xH l i):∃r∈l,s.g=r.g∧s.ql=r.ql:=by
 unfold xH at h;obtain⟨j,hj,e⟩:=List.getElem_of_mem h;rw[List.length_modify]at hj;rw[List.getElem_modify]at e;refine⟨l[j],List.getElem_mem hj,?_⟩;rw[← e];split <;> exact⟨rfl,rfl⟩
theorem qgP(l:List Sp)(i:Nat):(xH l i).map (·.g)=l.map (·.g):=by
 apply List.ext_getElem
 ·simp[xH]
 ·intro j h1 h2;simp only[xH,List.getElem_map,List.getElem_modify];split <;> rfl
theorem qiz(t:Tg)(l:List Sp)(i:Nat):(xH l i).map (eG t)=ch.xE (l.map (eG t)) i:=by
 apply List.ext_getElem
 ·simp[xH,ch.xE]
 ·intro j h1 h2;simp only[xH,ch.xE,List.getElem_map,List.getElem_modify];split <;> rfl
theorem qa7(m:Mt)(i:Nat):qB { m with qa:=xH m.qa i }=qB m:=by
 rw[← iz,← iz];dsimp only;rw[qgP]
theorem yt.kV(h:yt b N m)(i:Nat):yt b N { m with qa:=xH m.qa i }:=by
 refine⟨h.b1,h.b8,h.live,?_,fun s hs=>?_,?_,?_,⟨fun s hs=>?_,h.fA.base,h.fA.target⟩⟩
 ·show(xH m.qa i).length≤20;unfold xH;rw[List.length_modify];exact h.few
 ·obtain⟨r,hr,_,e⟩:=sX hs;rw[e];exact h.uj r hr
 ·show uC (0,0) ((xH m.qa i).map (·.g));rw[qgP];exact h.qcz
 ·rw[qa7];exact h.tok
 ·obtain⟨r,hr,e,_⟩:=sX hs;rw[e];exact h.fA.qa r hr
theorem sY (h:qT b N t m)(g:Gd) :
    (uB m g).code=((zA t m).kV g).2∧((uB m g).code=0→Does b N t m (uB m g) ((zA t m).kV g).1)∧((uB m g).code≠0→((zA t m).kV g).1=zA t m):=by
 unfold uB ch.CH.kV;rw[qc4];cases hf:od m g with
 | none=>exact⟨rfl,fun h=>absurd h (by simp),fun _=>rfl⟩
 | some i =>
  dsimp only;have e:(zA t m).qa[i]?=(m.qa[i]?).map (eG t):=by simp[zA]
  rw[e];cases hs:m.qa[i]? with
  | none=>exact⟨rfl,fun h=>absurd h (by simp),fun _=>rfl⟩
  | some s =>
   simp only[Option.map_some];have eh:(eG t s).hid=s.hid:=rfl;rw[eh];cases hh:s.hid with
   | true=>exact⟨rfl,fun h=>absurd h (by simp),fun _=>rfl⟩
   | false =>
    refine⟨rfl,fun _=>?_,fun h=>absurd rfl h⟩;have jL:=h.ok.kV i;refine⟨jL,gV.nil N m,?_⟩;have h1:=vX h jL (gV.nil N m);have h2:=jl h jL (gV.nil N m);show zA (over t (qA t { m with qa:=xH m.qa i } [])) { m with qa:=xH m.qa i }=⟨(zA t m).live,ch.xE (zA t m).qa i⟩;generalize over t (qA t { m with qa:=xH m.qa i } [])=t' at *;unfold zA;dsimp only;rw[h1,qiz,h2]
end
end Go.Proofs.YtdagdllomphidaaGreatDoor.vt
namespace Go.Proofs.YtdagdllomphidaaGreatDoor.vt
open _root_.Go.Proofs.Tryz Go Go.RowKit jr mt im sp
section
variable {b N:Nat} {t:Tg} {m:Mt}
def zC (m:Mt)(f:Tf):List Int:=if m.tok.base=f.base∧m.tok.target=f.target∧m.tok.all=f.all then m.tok.ql else xN m
structure qtY(b N:Nat)(t:Tg)(m:Mt)(f:Tf)(x:List (Int × Bt))(P:eF):Prop where
 whole:f.next=f.all→Does b N t m P ⟨jW (volume t (zC m f)) x,(zA t m).qa++[⟨f.target,jW (volume t (zC m f)) x,false⟩]⟩∧P.m.tok=zI
 part:f.next≠f.all→Does b N t m P (zA t m)∧tf P.m.tok=f∧volume (over t (qA t P.m P.ws)) P.m.tok.ql=jW (volume t (zC m f)) x
theorem oF {n:Nat}{last:Gd}{f:Tf}{x:List (Int × Bt)}(h:zM b n last f x=0) :
    f.base=last∧mt.above f.target last=true∧0≤f.next∧f.next≤f.all∧f.all≤(b:Int)∧(f.next=0↔f.all=0)∧zL b (-1) x=true∧(f.next=f.all→n<20):=by
 unfold zM at h;split at h
 ·cases h
 ·rename_i h1;split at h
  ·cases h
  ·rename_i h2;split at h
   ·cases h
   ·rename_i h3;have h2':zL b (-1) x=true:=by simpa using h2
    refine⟨Classical.byContradiction fun e=>h1 (.inl e),?_,by omega,by omega,by omega,Classical.byContradiction fun e=>h1 (by simp[e]),h2',fun e=>by omega⟩;cases ha:mt.above f.target last with
    | true=>rfl
    | false=>exact absurd (.inr (.inl ha)) h1
theorem wO (h:qT b N t m)(f:Tf)(hg:zZ f.target)(x:List (Int × Bt)) :
    ((ze N m f x).code=7∧eI b N m x∧zM m.live.length m.qa.length (qB m) f x=0)∨((ze N m f x).code=zM m.live.length m.qa.length (qB m) f x∧((ze N m f x).code=0→qtY b N t m f x (ze N m f x))):=by
 have hlen:=h.ok.len;by_cases he:zM m.live.length m.qa.length (qB m) f x=0
 ·obtain⟨e1,e2,e3,e4,e5,e6,e7,e8⟩:=oF he;rw[hlen]at e5 e7;have hb1:=h.ok.b1;have hb8:=h.ok.b8;have aw:x.length≤8:=by
   have:=iy e7 (by omega) (by omega);omega
  rcases yV h.ok h.N1 x aw (fun c hc=>(ku e7 c hc).1)with⟨h7,hN⟩|⟨h0,hp⟩
  ·left
   unfold ze;rw[if_neg (by rw[he];simp),if_pos (by rw[h7];decide),h7];exact⟨rfl,hN,he⟩
  ·right
   rw[he];have mA:jk b N (zC m f)∧∀z∈zC m f,z=0∨held m z:=by
    unfold zC;split
    ·rename_i hm;rcases h.ok.tok with ht|ht
     ·exfalso;rw[ht]at hm;have:f.target=(0,0):=hm.2.1.symm;rw[this]at e2;unfold mt.above at e2;simp at e2
     ·exact⟨ht.2.2.2.2.2,fun z hz=>.inr ⟨_,qtX m,hz⟩⟩
    ·exact⟨dP h.ok,fun z hz=>oA z hz⟩
   have hsv:∀ {m':Mt} (ho:yt b N m'),volume (over t (qA t m' (qu N m x).1.2)) (zC m f)=volume t (zC m f):=fun {m'} ho=>by
    unfold volume;apply List.map_congr_left;intro z hz;unfold cn;split
    ·rfl
    ·rename_i hz0;rcases mA.2 z hz with h1|h1
     ·exact absurd h1 hz0
     ·rcases mA.1.2.1 z hz with h2|h2
      ·exact absurd h2 hz0
      ·exact dO h ho hp.wok z h1 h2.1
   have qi1:jk b N (zu (zC m f) x (qu N m x).1.1):=sW hp mA.1 mA.2;have hiv:∀ {m':Mt} (ho:yt b N m'),volume (over t (qA t m' (qu N m x).1.2)) (zu (zC m f) x (qu N m x).1.1)=jW (volume t (zC m f)) x:=fun {m'} ho=>by
    rw[bM _ x _ _ hp.len (oD h ho hp),hsv ho]
   unfold ze;rw[if_neg (by rw[he];simp),if_neg (by rw[h0];simp)];have qtZ:(if m.tok.base=f.base∧m.tok.target=f.target∧m.tok.all=f.all then m.tok.ql else xN m)=zC m f:=rfl;rw[qtZ];dsimp only;generalize zu (zC m f) x (qu N m x).1.1=ql at *;generalize (qu N m x).1.2=ws at *;have rO:=hp.wok;by_cases hn:f.next=f.all
   ·rw[if_pos hn];refine⟨rfl,fun _=>⟨fun _=>?_,fun h=>absurd hn h⟩⟩;have jL:yt b N ⟨ql,m.qa++[⟨f.target,ql,false⟩],zI⟩:=h.ok.push f.target hg ql ql qi1 qi1 e2 (e8 hn);have h2:=jl h jL rO;have h3:=hiv jL;refine⟨⟨jL,rO,?_⟩,rfl⟩;dsimp only;generalize over t (qA t ⟨ql,m.qa++[⟨f.target,ql,false⟩],zI⟩ ws)=t' at *;unfold zA;dsimp only;rw[h3,List.map_append,h2];simp only[List.map_cons,List.map_nil,eG,h3]
   ·rw[if_neg hn];refine⟨rfl,fun _=>⟨fun h=>absurd h hn,fun _=>?_⟩⟩;have jL:yt b N { m with tok:=⟨f.base,f.target,f.next,f.all,ql⟩ }:=by
     have ho:=h.ok;refine⟨ho.b1,ho.b8,ho.live,ho.few,ho.uj,ho.qcz,.inr ⟨e1,?_,?_,?_,e5,qi1⟩,⟨ho.fA.qa,?_,hg⟩⟩
     ·show mt.above f.target f.base=true;rw[e1];exact e2
     ·show 1≤f.next;have:f.next≠0:=fun hz=>hn (by rw[hz,e6.1 hz]);omega
     ·show f.next<f.all;omega
     ·show zZ f.base;rw[e1];exact qrZ ho
    refine⟨⟨jL,rO,?_⟩,rfl,hiv jL⟩;have h1:=vX h jL rO;have h2:=jl h jL rO;dsimp only;generalize over t (qA t { m with tok:=⟨f.base,f.target,f.next,f.all,ql⟩ } ws)=t' at *;unfold zA;dsimp only;rw[h1,h2]
 ·right
  unfold ze;rw[if_pos he];exact⟨rfl,fun h=>absurd h he⟩
theorem lK (h:qT b N t m):Does b N t m (wN m) (zA t m):=by
 have jL:yt b N { m with tok:=zI }:=by
  have ho:=h.ok;exact⟨ho.b1,ho.b8,ho.live,ho.few,ho.uj,ho.qcz,.inl rfl,qff ho.fA _ _ ho.fA.qa⟩
 refine⟨jL,gV.nil N m,?_⟩;have h1:=vX h jL (gV.nil N m);have h2:=jl h jL (gV.nil N m);show zA (over t (qA t { m with tok:=zI } [])) { m with tok:=zI }=zA t m;generalize over t (qA t { m with tok:=zI } [])=t' at *;unfold zA;dsimp only;rw[h1,h2]
theorem qi2(c:ch.CH)(g:Gd)(x:List (Int × Bt))(hx:zL c.live.length (-1) x=true)(hb:c.base.length=c.live.length) :
    c.add g x=if c.may g=0 then(⟨jW c.base x,c.qa++[⟨g,jW c.base x,false⟩]⟩,0)else(c,c.may g):=by
 unfold ch.CH.add;rw[ov x (-1) c.base hb,if_pos hx]
theorem qc5(u v:Bt)(hu:u.length≤8192)(k:Nat)(hk:k<(qL u).length):¬ vz ((qL u).take k) v:=by
 rintro⟨hv,e⟩;have hl:=congrArg List.length e;rw[List.length_take,Nat.min_eq_left (by omega),xU v]at hl;have zJ:1≤k:=by rw[hl];exact ew _
 have h1:=congrArg List.flatten e;rw[yG]at h1;have h2:(qL u).flatten=((qL u).take k).flatten++((qL u).drop k).flatten:=by rw[← List.flatten_append,List.take_append_drop]
 rw[yG,h1]at h2;have h3:=kT u;have h4:=kT v;have h5:=yX v;have h6:(yA u).take 2=(yA v).take 2:=by
  rw[h2,List.take_append_of_le_length (by have:=ew v.length;omega)]
 rw[h3,h4]at h6;have:=qct _ _ (by omega) (by omega) h6;rw[xU u,this]at hk;omega
end
end Go.Proofs.YtdagdllomphidaaGreatDoor.vt
namespace Go.Proofs.YtdagdllomphidaaGreatDoor.ch
open _root_.Go.Proofs.Tryz Go Go.RowKit ib
def zZ (g:Gd):Prop:=g.1<18446744073709551616∧g.2<18446744073709551616
def gv (g:Gd):Value:=.agg #[.int .u64 (g.1:Int),.int .u64 (g.2:Int)]
def aD (w:World)(A:Option Addr)(x:List (Int × Bt)):Prop :=
 ∀i (h:i<x.length),∃b o,A=some ⟨b,o,none⟩∧b<w.heap.size∧w.cell? ⟨b,o+i*2,none⟩=some (.int .i64 x[i].1)∧w.cell? ⟨b,o+i*2+1,none⟩=some (.string (str x[i].2))∧yS x[i].1
theorem aD.below{w w':World}{A:Option Addr}{x:List (Int × Bt)}(h:aD w A x)(hb:Below w.heap.size w w'):aD w' A x:=by
 intro i hi;obtain⟨b,o,h1,h2,h3,h4,h5⟩:=h i hi;exact⟨b,o,h1,Nat.lt_of_lt_of_le h2 hb.size,by rw[hb.cell (p:=⟨b,o+i*2,none⟩) h2];exact h3,by rw[hb.cell (p:=⟨b,o+i*2+1,none⟩) h2];exact h4,h5⟩
theorem aD.nil(w:World)(A:Option Addr):aD w A []:=fun i h=>absurd h (by simp)
def qi3 (r:List Bt)(w:World)(e:Ending)(w':World):Prop:=∃A cc,e=.returned (.slice A r.length cc)∧TxL w' A r∧ui w w' A∧Below w.heap.size w w'
def jQ (r:List Bt × Int)(w:World)(e:Ending)(w':World):Prop:=∃A cc,e=.returned (.tuple #[.slice A r.1.length cc,.int .i64 r.2])∧TxL w' A r.1∧ui w w' A∧Below w.heap.size w w'
def aX (r:List (Int × Bt) × Int)(w:World)(e:Ending)(w':World):Prop:=∃A cc,e=.returned (.tuple #[.slice A r.1.length cc,.int .i64 r.2])∧aD w' A r.1∧ui w w' A∧Below w.heap.size w w'
def GdL (w:World)(A:Option Addr)(x:List Gd):Prop :=
 ∀i (h:i<x.length),∃b o,A=some ⟨b,o,none⟩∧b<w.heap.size∧w.cell? ⟨b,o+i*2,none⟩=some (.int .u64 (x[i].1:Int))∧w.cell? ⟨b,o+i*2+1,none⟩=some (.int .u64 (x[i].2:Int))∧zZ x[i]
theorem GdL.below{w w':World}{A:Option Addr}{x:List Gd}(h:GdL w A x)(hb:Below w.heap.size w w'):GdL w' A x:=by
 intro i hi;obtain⟨b,o,h1,h2,h3,h4,h5⟩:=h i hi;exact⟨b,o,h1,Nat.lt_of_lt_of_le h2 hb.size,by rw[hb.cell (p:=⟨b,o+i*2,none⟩) h2];exact h3,by rw[hb.cell (p:=⟨b,o+i*2+1,none⟩) h2];exact h4,h5⟩
def iC (r:List Gd)(w:World)(e:Ending)(w':World):Prop:=∃A cc,e=.returned (.slice A r.length cc)∧GdL w' A r∧ui w w' A∧Below w.heap.size w w'
def lL:=(Nat→Prop)→World→Nat→CH→Prop
def Aft (Is:lL)(own:Nat→Prop)(p:Nat)(r:CH × Int)(w:World)(e:Ending)(w':World):Prop :=
 e=.returned (.int .i64 r.2)∧∃jM,Is jM w' p r.1∧qx own w w'∧∀j,jM j→own j∨w.heap.size≤j
def xP (r:Int)(w:World)(e:Ending)(w':World):Prop:=e=.returned (.int .i64 r)∧Below w.heap.size w w'
structure Ops(Is:lL):Prop where
 low:∀ {own w p d},Is own w p d→∀j,own j→j<w.heap.size
 ok:∀ {own w p d},Is own w p d→d.ok
 keep:∀ {own w w' p d},Is own w p d→(∀j,own j→w'.heap[j]?=w.heap[j]?)→w.heap.size≤w'.heap.size→Is own w' p d
 write:∀ {own w p d} (k:Int) (s:Bt),Is own w p d→yS k→Calls prog 37 #[.pointer (some ⟨p,0,none⟩),.int .i64 k,.string (str s)] w (Aft Is own p (d.write k s) w)
 snap:∀ {own w p d} (g:Gd),Is own w p d→zZ g→Calls prog 38 #[.pointer (some ⟨p,0,none⟩),gv g] w (Aft Is own p (d.snap g) w)
 add:∀ {own w p d} (g:Gd) (A:Option Addr) (c:Nat) (x:List (Int × Bt)),Is own w p d→zZ g→aD w A x→x.length≤1000→(∀b o,A=some ⟨b,o,none⟩→¬ own b) →
  Calls prog 26 #[.pointer (some ⟨p,0,none⟩),gv g,.slice A x.length c] w (Aft Is own p (d.add g x) w)
 roll:∀ {own w p d} (k:Int),Is own w p d→yS k→Calls prog 39 #[.pointer (some ⟨p,0,none⟩),.int .i64 k] w (Aft Is own p (d.roll k) w)
 kV:∀ {own w p d} (g:Gd),Is own w p d→zZ g→Calls prog 40 #[.pointer (some ⟨p,0,none⟩),gv g] w (Aft Is own p (d.kV g) w)
 live:∀ {own w p d},Is own w p d→Calls prog 48 #[.pointer (some ⟨p,0,none⟩)] w (qi3 d.live w)
 list:∀ {own w p d},Is own w p d→Calls prog 49 #[.pointer (some ⟨p,0,none⟩)] w (iC d.list w)
 read:∀ {own w p d} (g:Gd),Is own w p d→zZ g→Calls prog 50 #[.pointer (some ⟨p,0,none⟩),gv g] w (jQ (d.read g) w)
 changes:∀ {own w p d} (k:Int),Is own w p d→yS k→Calls prog 51 #[.pointer (some ⟨p,0,none⟩),.int .i64 k] w (aX (d.changes k) w)
 at_:∀ {own w p d},Is own w p d→own p
structure Impl(Is:lL):Prop extends Ops Is where
 oG:∀(b:Int) (w:World),yS b→b<1∨8<b→Calls prog 10 #[.int .i64 b] w fun e w'=>e=.returned (.pointer none)∧Below w.heap.size w w'
 ux:∀(n:Nat) (w:World),1≤n→n≤8→Calls prog 10 #[.int .i64 (n:Int)] w fun e w'=>∃p own,e=.returned (.pointer (some ⟨p,0,none⟩))∧Is own w' p (kO n)∧Below w.heap.size w w'∧∀j,own j→w.heap.size≤j
 copy:∀ {own w p d},Is own w p d→Calls prog 14 #[.pointer (some ⟨p,0,none⟩)] w fun e w'=>∃q jM,e=.returned (.pointer (some ⟨q,0,none⟩))∧Is jM w' q d∧Below w.heap.size w w'∧∀j,jM j→(own j∧j≠p)∨w.heap.size≤j
 qua:∀ {own w p d} (k:Int) (s:Bt),Is own w p d→yS k→Calls prog 37 #[.pointer (some ⟨p,0,none⟩),.int .i64 k,.string (str s)] w fun e w'=>Aft Is own p (d.write k s) w e w'∧qx (fun j=>j=p) w w'
 qya:∀ {own w p d} (k:Int),Is own w p d→yS k→Calls prog 39 #[.pointer (some ⟨p,0,none⟩),.int .i64 k] w fun e w'=>Aft Is own p (d.roll k) w e w'∧qx (fun j=>j=p) w w'
 qyb:∀ {own w p d} (g:Gd),Is own w p d→zZ g→Calls prog 38 #[.pointer (some ⟨p,0,none⟩),gv g] w fun e w'=>Aft Is own p (d.snap g) w e w'∧qx (fun j=>j=p) w w'
 q3E:∀ {own w p d} (g:Gd) (A:Option Addr) (c:Nat) (x:List (Int × Bt)),Is own w p d→zZ g→aD w A x→x.length≤1000 →
  Calls prog 26 #[.pointer (some ⟨p,0,none⟩),gv g,.slice A x.length c] w fun e w'=>Aft Is own p (d.add g x) w e w'∧qx (fun j=>j=p) w w'
 qyc:∀ {own w p d} (g:Gd),Is own w p d→zZ g→Calls prog 40 #[.pointer (some ⟨p,0,none⟩),gv g] w fun e w'=>Aft Is own p (d.kV g) w e w'∧qx (fun j=>j=p) w w'
 qfg:∀(k:Int) (s:Bt) (w:World),yS k→Calls prog 37 #[.pointer none,.int .i64 k,.string (str s)] w (xP 1 w)
 qmc:∀(g:Gd) (w:World),zZ g→Calls prog 38 #[.pointer none,gv g] w (xP 1 w)
 q3F:∀(g:Gd) (A:Option Addr) (c:Nat) (x:List (Int × Bt)) (w:World),zZ g→aD w A x→x.length≤1000→Calls prog 26 #[.pointer none,gv g,.slice A x.length c] w (xP 1 w)
 qmd:∀(k:Int) (w:World),yS k→Calls prog 39 #[.pointer none,.int .i64 k] w (xP 1 w)
 qme:∀(g:Gd) (w:World),zZ g→Calls prog 40 #[.pointer none,gv g] w (xP 1 w)
 qmf:∀(w:World),Calls prog 48 #[.pointer none] w (qi3 [] w)
 qmg:∀(w:World),Calls prog 49 #[.pointer none] w (iC [] w)
 qmh:∀(g:Gd) (w:World),zZ g→Calls prog 50 #[.pointer none,gv g] w (jQ ([],1) w)
 oH:∀(k:Int) (w:World),yS k→Calls prog 51 #[.pointer none,.int .i64 k] w (aX ([],1) w)
 qyd:∀(w:World),Calls prog 14 #[.pointer none] w fun e w'=>e=.returned (.pointer none)∧Below w.heap.size w w'
def Ch (Is:lL)(w:World)(B p:Nat)(d:CH):Prop:=∃own,Is own w p d∧∀j,own j→B≤j
section
variable {Is:lL} (H:Impl Is) {w w':World} {B p:Nat} {d:CH}
include H
theorem Ch.below(h:Ch Is w B p d)(hb:Below w.heap.size w w'):Ch Is w' B p d:=by
 obtain⟨own,h1,h2⟩:=h;exact⟨own,H.keep h1 (fun j hj=>hb.block j (H.low h1 j hj)) hb.size,h2⟩
def ChU (Is:lL)(w:World)(B E p:Nat)(d:CH):Prop:=∃own,Is own w p d∧∀j,own j→B≤j∧j<E
theorem ChU.below{E:Nat}(h:ChU Is w B E p d)(hb:Below w.heap.size w w'):ChU Is w' B E p d:=by
 obtain⟨own,h1,h2⟩:=h;exact⟨own,H.keep h1 (fun j hj=>hb.block j (H.low h1 j hj)) hb.size,h2⟩
omit H in
theorem ChU.ch{E:Nat}(h:ChU Is w B E p d):Ch Is w B p d:=by
 obtain⟨own,h1,h2⟩:=h;exact⟨own,h1,fun j hj=>(h2 j hj).1⟩
end
end Go.Proofs.YtdagdllomphidaaGreatDoor.ch
namespace Go.Proofs.YtdagdllomphidaaGreatDoor
open _root_.Go.Proofs.Tryz Go.RowKit
def xJ (w:World):Prop:=0<w.heap.size∧∀i,i<16→w.cell? ⟨0,i,none⟩=some (.int .u32 ((et.getD i 0:Nat):Int))
theorem xJ.below{w w':World}{B:Nat}(h:xJ w)(hb:Below B w w')(hB:0<B):xJ w' :=
 ⟨Nat.lt_of_lt_of_le h.1 hb.size,fun i hi=>by rw[hb.cell (p:=⟨0,i,none⟩) hB];exact h.2 i hi⟩
def qmi (b m:Nat)(w:World)(e:Ending)(w':World):Prop :=
 e=.returned (.tuple #[])∧Below b w w'∧w'.cell? ⟨b,0,none⟩=some (.int .u32 (m:Int))∧w'.frozen? ⟨b,0,none⟩=false
theorem qpK(i:Nat)(h:i<16):et.getD i 0<4294967296:=by
 have:∀i:Nat,i<16→et.getD i 0<4294967296:=by decide
 exact this i h
theorem qfh(n f:Nat)(hf:f<256):bits .and .u8 (bits .xor .u8 ((n:Int)%256) (f:Int)) 15=(((n%256^^^f)%16:Nat):Int):=by
 have e:(n:Int)%256=((n%256:Nat):Int):=by omega
 have hx:n%256^^^f<256:=Nat.xor_lt_two_pow (n:=8) (by omega) (by omega);rw[e,u8_xor_nat _ _ (by omega) hf,show(15:Int)=((15:Nat):Int)from rfl,u8_and_nat _ _ hx (by omega),nat_mask4]
theorem qmj(n f:Nat)(hn:n<4294967296):bits .xor .u32 ((n:Int)/16) ((et.getD ((n%256^^^f)%16) 0:Nat):Int)=((yf n f:Nat):Int):=by
 have e:(n:Int)/16=((n/16:Nat):Int):=by omega
 rw[e,u32_xor_nat _ _ (by omega) (qpK _ (Nat.mod_lt _ (by omega)))];rfl
theorem qc6(b n f:Nat)(w:World)(hn:n<4294967296)(hf:f<256)(ht:xJ w)
    (hc:w.cell? ⟨b,0,none⟩=some (.int .u32 (n:Int))) (hz:w.frozen? ⟨b,0,none⟩=false) :
    Calls prog 203 #[.int .u8 (f:Int),.pointer (some ⟨b,0,none⟩)] w (qmi b (yf n f) w):=by
 have hi:=qfh n f hf;have hx:=qmj n f hn;have hl:(n%256^^^f)%16<16:=Nat.mod_lt _ (by omega);have hg:=ht.2 _ hl;generalize yf n f=m at *;generalize (n%256^^^f)%16=i at *;generalize et.getD i 0=t at *;have nv:(i:Int)<16:=by omega
 have HT:=QH ht;clear ht;go_enter func203,ntmps203;go_wp2;go_region;all_goals
  go_end0
  exact⟨rfl,((Below.refl b w).setCell (p:=⟨b,0,none⟩) (Nat.le_refl b) _).drew,by go_simp,by go_simp⟩
theorem qpL(b n f:Nat)(w:World)(hn:n<4294967296)(hf:f<256)(ht:xJ w)
    (hc:w.cell? ⟨b,0,none⟩=some (.int .u32 (n:Int))) (hz:w.frozen? ⟨b,0,none⟩=false) :
    Calls prog 203 #[.int .u8 ((f:Int)/16),.pointer (some ⟨b,0,none⟩)] w (qmi b (yf n (f/16)) w):=by
 have h:=qc6 b n (f/16) w hn (by omega) ht hc hz
 rwa [show((f/16:Nat):Int)=(f:Int)/16 from by omega]at h
def qpM (s:ByteArray)(w:World)(i:Value)(wr:World):Prop :=
 ∃k:Nat,k≤s.size∧i=.int .i64 (k:Int)∧Below w.heap.size w wr∧w.heap.size<wr.heap.size∧wr.cell? ⟨w.heap.size,0,none⟩=some (.int .u32 (rL 4294967295 ((bl s).take k):Int))∧wr.frozen? ⟨w.heap.size,0,none⟩=false
theorem qfi(s:ByteArray)(k:Nat)(h:k<s.size):(bl s).take (k+1)=(bl s).take k++[s[k]]:=by
 unfold bl;rw[List.take_succ_eq_append_getElem (by simpa using h)];rfl
def qub (n:Nat)(w:World)(e:Ending)(w':World):Prop:=e=.returned (.int .u32 (n:Int))∧Below w.heap.size w w'
theorem qmk(s:ByteArray)(w:World)(hs:s.size≤9223372036854775807)(ht:xJ w) :
    Calls prog 171 #[.string s] w (qub (wI (bl s)) w):=by
 have HT:=QH ht;have hgw:=ht.1;clear ht;go_enter func171,ntmps171;go_wp2;have b0:Below w.heap.size w (w.alloc (.cells #[.int .u32 4294967295] 250)):=(Below.refl _ _).alloc (Nat.le_refl _) _;go_loopw [9] (fun i wr=>qpM s w i wr) (fun i _=>s.size-(intOf i).toNat);case atStart=>exact⟨0,Nat.zero_le _,rfl,b0,by simp,by go_simp;rfl,by go_simp⟩
 case round =>
  obtain⟨k,hk,rfl,hB,hS,hC,hF⟩:=hrel;have hn:=qay ((bl s).take k) 4294967295 (by omega);by_cases hlt:k<s.size
  ·have hT1:=HT.out.below hB hgw;have hb:=s[k].toNat_lt;have hsn:=qfi s k hlt;have hst:vS (rL 4294967295 ((bl s).take k)) s[k]=rL 4294967295 ((bl s).take (k+1)):=by rw[hsn,qii]
   rw[← halves]at hst;have hn1:=qcp (rL 4294967295 ((bl s).take k)) s[k].toNat hn;have Hst:=QH hst;clear hsn hst;go_wp2_with (go_at_call 203;refine(qc6 w.heap.size _ s[k].toNat _ hn (by omega) hT1 hC hF).mono ?_);rintro e W1 ⟨rfl,b1,c1,f1⟩;have hT2:=hT1.below b1 hgw;have hB1:=hB.trans b1;have hS1:=b1.size;clear hB b1 hC hF hT1;go_wp2_with (go_at_call 203;refine(qpL w.heap.size _ s[k].toNat _ hn1 (by omega) hT2 c1 f1).mono ?_);rintro e W2 ⟨rfl,b2,c2,f2⟩;have hB2:=hB1.trans b2;have hS2:=b2.size;rw[Hst.out]at c2;clear hB1 b2 c1 f1 hT2;go_wp2;go_roundw;case rel=>exact⟨k+1,by omega,by go_num,hB2,by omega,c2,f2⟩
   case measure=>simp[intOf];omega
  ·have uV:k=s.size:=by omega
   subst uV;rw[List.take_of_length_le (by rw[zk];omega)]at hC hn;have hx:bits .xor .u32 IntKind.u32.max (rL 4294967295 (bl s):Int)=(wI (bl s):Int):=by
    rw[show IntKind.u32.max=((4294967295:Nat):Int)from rfl,u32_xor_nat _ _ (by omega) hn,Nat.xor_comm];rfl
   go_wp2;go_ret;exact⟨rfl,hB⟩
end Go.Proofs.YtdagdllomphidaaGreatDoor
namespace Go.Proofs.YtdagdllomphidaaGreatDoor.vt
open _root_.Go.Proofs.Tryz Go Go.RowKit jr mt im sp
abbrev yZ:=(Nat→Prop)→World→Nat→Nat→Mt→Bool→Prop
abbrev DD:=dk.DD
def gN:Nat:=0
theorem zK {w:World}(h:xJ w):gN<w.heap.size:=h.1
theorem xo {w w':World}{B:Nat}(h:xJ w)(hb:Below B w w')(hB:gN<B):xJ w':=h.below hb hB
theorem vY {w w':World}(h:xJ w)(hs:w.heap.size≤w'.heap.size)(hb:w'.heap[gN]?=w.heap[gN]?):xJ w' :=
 ⟨Nat.lt_of_lt_of_le h.1 hs,fun i hi=>by rw[← h.2 i hi];exact World.cell?_of_block (w:=w) hb⟩
structure VP(Is:yZ)(w:World)(o1 o2:Nat→Prop)(v pd:Nat)(d:DD)(m:Mt)(lost:Bool):Prop where
 is:Is o1 w v pd m lost
 dk:dk.zx 1000 w o2 pd d
 dj:∀j,o1 j∨j=gN→¬ o2 j
def kK (Is:yZ)(o1 o2:Nat→Prop)(v pd:Nat)(Q:Int→DD→Mt→Bool→Prop)(w:World)(e:Ending)(w':World):Prop :=
 ∃r d' m' lost aF gO,e=.returned (.int .i64 r)∧VP Is w' aF gO v pd d' m' lost∧ib.qx (fun j=>o1 j∨o2 j) w w'∧(∀j,aF j∨gO j→(o1 j∨o2 j)∨w.heap.size≤j)∧Q r d' m' lost
def yn (N:Nat)(t:Tg)(d:DD)(m:Mt)(P:eF)(r:Int)(d':DD)(m':Mt)(lost:Bool):Prop :=
 (P.code≠0∧r=P.code∧d'=d∧m'=m∧lost=false) ∨
 (P.code=0∧r=0∧JJ N (over t (qA t P.m P.ws)) d'∧m'=P.m∧lost=false∧(d.qp=0→d'.qp=0)∧0≤d'.qp) ∨
 (P.code=0∧r=6∧qtW (fun e=>RJ N t e∨RJ N (over t (qA t P.m P.ws)) e) d'∧lost=true∧d.qp≠0∧d'.qp=0)
def oI (d:DD)(m:Mt)(r:Int)(d':DD)(m':Mt)(lost:Bool):Prop:=r=6∧d'=d∧m'=m∧lost=true
def tkV (f:Tf)(A:Option Addr)(n c:Nat):Value:=.agg #[.int .u64 (f.base.1:Int),.int .u64 (f.base.2:Int),.int .u64 (f.target.1:Int),.int .u64 (f.target.2:Int),.int .i64 f.next,.int .i64 f.all,.slice A n c]
structure TfB(f:Tf):Prop where
 base:zZ f.base
 target:zZ f.target
 next:ib.yS f.next
 all:ib.yS f.all
def qpN (w:World)(A:Option Addr)(l:List Int):Prop:=∀i (h:i<l.length),∃b o,A=some ⟨b,o,none⟩∧b<w.heap.size∧w.cell? ⟨b,o+i,none⟩=some (.int .i64 l[i])
def cG (t:Tk)(w:World)(e:Ending)(w':World):Prop:=∃A cc,e=.returned (tkV (tf t) A t.ql.length cc)∧qpN w' A t.ql∧ib.ui w w' A∧Below w.heap.size w w'
def m0 (b:Nat):Mt:=⟨List.replicate b 0,[],zI⟩
structure j9(Is:yZ):Prop where
 tab:∀ {o w v pd m l},Is o w v pd m l→xJ w
 low:∀ {o w v pd m l},Is o w v pd m l→∀j,o j∨j=gN→j<w.heap.size
 keep:∀ {o w w' v pd m l},Is o w v pd m l→(∀j,o j∨j=gN→w'.heap[j]?=w.heap[j]?)→w.heap.size≤w'.heap.size→Is o w' v pd m l
 fA:∀ {o w v pd m l},Is o w v pd m l→mB m
 qfj:∀(b:Int) (w:World),ib.yS b→Calls prog 28 #[.pointer none,.int .i64 b] w (ch.xP 1 w)
 qfk:∀ {o w pd d} (b:Int),dk.zx 1000 w o pd d→d.more=[]→ib.yS b→b<1∨8<b∨d.n<193→Calls prog 28 #[.pointer (some ⟨pd,0,none⟩),.int .i64 b] w (ch.xP 2 w)
 iD:∀ {o w pd} (b N:Nat) (room:Int),dk.zx 1000 w o pd (dk.DD.new N room)→xJ w→¬ o gN→1≤b→b≤8→193≤N→N≤1024→(N:Int)≤room →
  Calls prog 28 #[.pointer (some ⟨pd,0,none⟩),.int .i64 (b:Int)] w fun e w'=>e=.returned (.int .i64 0)∧∃t d' o',dk.zx 1000 w' o' pd d'∧JJ N t d'∧qT b N t (m0 b)∧d'.qp=0∧ib.qx o w w'∧∀j,o' j→o j∨w.heap.size≤j
 qml:∀(w:World),Calls prog 12 #[.pointer none] w fun e w'=>e=.returned (.tuple #[.pointer none,.int .i64 1])∧Below w.heap.size w w'
 qc7:∀ {o w pd} (N:Nat) (room:Int),dk.zx 1000 w o pd (dk.DD.new N room)→xJ w→145<N→N≤1024→Calls prog 12 #[.pointer (some ⟨pd,0,none⟩)] w fun e w'=>e=.returned (.tuple #[.pointer none,.int .i64 8])∧Below w.heap.size w w'
 mQ:∀ {o w pd d N t b m},dk.zx 1000 w o pd d→xJ w→¬ o gN→RJ N t d→d.qp=0→qT b N t m →
  Calls prog 12 #[.pointer (some ⟨pd,0,none⟩)] w fun e w'=>∃v d' aF gO,e=.returned (.tuple #[.pointer (some ⟨v,0,none⟩),.int .i64 0])∧VP Is w' aF gO v pd d' m false∧JJ N t d'∧d'.qp=0∧ib.qx o w w'∧(∀j,aF j→w.heap.size≤j)∧∀j,gO j→o j∨w.heap.size≤j
 blocks:∀ {o w v pd m l},Is o w v pd m l→Calls prog 35 #[.pointer (some ⟨v,0,none⟩)] w fun e w'=>e=.returned (.int .i64 (m.live.length:Int))∧Below w.heap.size w w'
 list:∀ {o w v pd m l},Is o w v pd m l→Calls prog 22 #[.pointer (some ⟨v,0,none⟩)] w (ch.iC (m.qa.map (·.g)) w)
 token:∀ {o w v pd m l},Is o w v pd m l→Calls prog 25 #[.pointer (some ⟨v,0,none⟩)] w (cG m.tok w)
 live:∀ {o1 o2 w v pd d m N t b},VP Is w o1 o2 v pd d m false→JJ N t d→qT b N t m→Calls prog 16 #[.pointer (some ⟨v,0,none⟩)] w (ch.jQ (volume t m.live,0) w)
 read:∀ {o1 o2 w v pd d m N t b} (g:Gd),VP Is w o1 o2 v pd d m false→JJ N t d→qT b N t m→zZ g→Calls prog 32 #[.pointer (some ⟨v,0,none⟩),ch.gv g] w (ch.jQ ((zA t m).read g) w)
 changes:∀ {o1 o2 w v pd d m N t b} (k:Int),VP Is w o1 o2 v pd d m false→JJ N t d→qT b N t m→ib.yS k→Calls prog 33 #[.pointer (some ⟨v,0,none⟩),.int .i64 k] w (ch.aX ((zA t m).changes k) w)
 write:∀ {o1 o2 w v pd d m N t b} (k:Int) (s:Bt),VP Is w o1 o2 v pd d m false→JJ N t d→0≤d.qp→qT b N t m→ib.yS k →
  Calls prog 17 #[.pointer (some ⟨v,0,none⟩),.int .i64 k,.string (str s)] w (kK Is o1 o2 v pd (yn N t d m (zn N m k s)) w)
 snap:∀ {o1 o2 w v pd d m N t b} (g:Gd),VP Is w o1 o2 v pd d m false→JJ N t d→0≤d.qp→qT b N t m→zZ g →
  Calls prog 30 #[.pointer (some ⟨v,0,none⟩),ch.gv g] w (kK Is o1 o2 v pd (yn N t d m (jP m g)) w)
 roll:∀ {o1 o2 w v pd d m N t b} (n:Int),VP Is w o1 o2 v pd d m false→JJ N t d→0≤d.qp→qT b N t m→ib.yS n →
  Calls prog 34 #[.pointer (some ⟨v,0,none⟩),.int .i64 n] w (kK Is o1 o2 v pd (yn N t d m (ju m n)) w)
 kV:∀ {o1 o2 w v pd d m N t b} (g:Gd),VP Is w o1 o2 v pd d m false→JJ N t d→0≤d.qp→qT b N t m→zZ g →
  Calls prog 31 #[.pointer (some ⟨v,0,none⟩),ch.gv g] w (kK Is o1 o2 v pd (yn N t d m (uB m g)) w)
 stage:∀ {o1 o2 w v pd d m N t b} (f:Tf) (A:Option Addr) (c:Nat) (x:List (Int × Bt)),VP Is w o1 o2 v pd d m false→JJ N t d→0≤d.qp→qT b N t m→TfB f→ch.aD w A x→x.length≤1000→(∀b o,A=some ⟨b,o,none⟩→¬ o1 b∧¬ o2 b) →
  Calls prog 24 #[.pointer (some ⟨v,0,none⟩),tkV f none 0 0,.slice A x.length c] w (kK Is o1 o2 v pd (yn N t d m (ze N m f x)) w)
 forget:∀ {o1 o2 w v pd d m N t b},VP Is w o1 o2 v pd d m false→JJ N t d→0≤d.qp→qT b N t m →
  Calls prog 19 #[.pointer (some ⟨v,0,none⟩)] w (kK Is o1 o2 v pd (yn N t d m (wN m)) w)
 qmm:∀ {o1 o2 w v pd d m l},VP Is w o1 o2 v pd d m l→l=true∨d.on=false→Calls prog 16 #[.pointer (some ⟨v,0,none⟩)] w fun e w'=>e=.returned (.tuple #[.slice none 0 0,.int .i64 6])∧∃aF,VP Is w' aF o2 v pd d m true∧ib.qx o1 w w'∧∀j,aF j→o1 j∨w.heap.size≤j
 ij:∀ {o1 o2 w v pd d m l} (k:Int) (s:Bt),VP Is w o1 o2 v pd d m l→l=true∨d.on=false→ib.yS k→Calls prog 17 #[.pointer (some ⟨v,0,none⟩),.int .i64 k,.string (str s)] w (kK Is o1 o2 v pd (oI d m) w)
 qmn:∀ {o1 o2 w v pd d m l} (g:Gd),VP Is w o1 o2 v pd d m l→l=true∨d.on=false→zZ g→Calls prog 31 #[.pointer (some ⟨v,0,none⟩),ch.gv g] w (kK Is o1 o2 v pd (oI d m) w)
 qfl:∀ {o1 o2 w v pd d m l},VP Is w o1 o2 v pd d m l→l=true∨d.on=false→Calls prog 19 #[.pointer (some ⟨v,0,none⟩)] w (kK Is o1 o2 v pd (oI d m) w)
 qpO:∀(w:World),Calls prog 35 #[.pointer none] w fun e w'=>e=.returned (.int .i64 0)∧Below w.heap.size w w'
 qmg:∀(w:World),Calls prog 22 #[.pointer none] w (ch.iC [] w)
 quc:∀(w:World),Calls prog 25 #[.pointer none] w (cG zI w)
 qmf:∀(w:World),Calls prog 16 #[.pointer none] w (ch.jQ ([],1) w)
 qmh:∀(g:Gd) (w:World),zZ g→Calls prog 32 #[.pointer none,ch.gv g] w (ch.jQ ([],1) w)
 oH:∀(k:Int) (w:World),ib.yS k→Calls prog 33 #[.pointer none,.int .i64 k] w (ch.aX ([],1) w)
 qfg:∀(k:Int) (s:Bt) (w:World),ib.yS k→Calls prog 17 #[.pointer none,.int .i64 k,.string (str s)] w (ch.xP 1 w)
 qmc:∀(g:Gd) (w:World),zZ g→Calls prog 30 #[.pointer none,ch.gv g] w (ch.xP 1 w)
 qmd:∀(n:Int) (w:World),ib.yS n→Calls prog 34 #[.pointer none,.int .i64 n] w (ch.xP 1 w)
 qme:∀(g:Gd) (w:World),zZ g→Calls prog 31 #[.pointer none,ch.gv g] w (ch.xP 1 w)
 qud:∀(f:Tf) (w:World),TfB f→Calls prog 24 #[.pointer none,tkV f none 0 0,.slice none 0 0] w (ch.xP 1 w)
 qpP:∀(w:World),Calls prog 19 #[.pointer none] w (ch.xP 1 w)
end Go.Proofs.YtdagdllomphidaaGreatDoor.vt
namespace Go.Proofs.YtdagdllomphidaaGreatDoor.vt
open _root_.Go.Proofs.Tryz Go Go.RowKit ib jr mt im sp
theorem qa9{S:Nat→Prop}{w w':World}(h:dk.qx S w w'):qx S w w':=⟨h.os,h.tape,h.output,h.size,h.block⟩
def Ke (B:Nat)(X:Nat→Prop)(w w':World):Prop:=qx (fun j=>B≤j∧¬ X j) w w'
theorem Ke.below{B:Nat}{X:Nat→Prop}{w w':World}(h:Ke B X w w')(hm:B≤w.heap.size):Below B w w':=qx.below h (fun _ hi=>hi.1) hm
theorem Ke.of_below{B:Nat}{X:Nat→Prop}{w w':World}(h:Below w.heap.size w w'):Ke B X w w':=qx.of_below h
theorem Ke.refl(B:Nat)(X:Nat→Prop)(w:World):Ke B X w w:=qx.refl _ _
theorem Ke.trans{B:Nat}{X:Nat→Prop}{a b c:World}(h:Ke B X a b)(k:Ke B X b c):Ke B X a c:=qx.trans h k (fun _ hi=>.inl hi)
theorem Ke.block{B:Nat}{X:Nat→Prop}{w w':World}(h:Ke B X w w'){j:Nat}(hj:j<w.heap.size)(hx:X j∨j<B):w'.heap[j]?=w.heap[j]? :=qx.block h j hj (fun hs=>by rcases hx with h|h;exact hs.2 h;omega)
theorem Ke.mono{B:Nat}{X Y:Nat→Prop}{w w':World}(h:Ke B X w w')(hy:∀j,Y j→X j):Ke B Y w w':=qx.mono h fun j hj=>⟨hj.1,fun y=>hj.2 (hy j y)⟩
structure Tri where
 d:DD
 m:Mt
 c:ch.CH
 lost:Bool
def V3 (IV:yZ)(IC:ch.lL)(w:World)(B:Nat)(X:Nat→Prop)(v pd p:Nat)(s:Tri):Prop :=
 ∃o1 o2 o3,VP IV w o1 o2 v pd s.d s.m s.lost∧IC o3 w p s.c∧(∀j,o1 j∨o2 j→B≤j∧¬ o3 j∧¬ X j)∧(∀j,o3 j→B≤j∧¬ X j)∧(∀j,X j→j<w.heap.size)∧gN<B∧¬ X gN
section
variable {IV:yZ} {IC:ch.lL} (H:j9 IV) (HC:ch.Ops IC) {w w':World} {B v pd p:Nat} {X:Nat→Prop} {s:Tri}
theorem bP {o:Nat→Prop}{d:DD}(h:dk.zx 1000 w o pd d):∀j,o j→j<w.heap.size:=by
 obtain⟨_,m,u,h1⟩:=h;exact h1.2.2.2.2.2.2
include H in
theorem VP.keep{o1 o2:Nat→Prop}{d:DD}{m:Mt}{l:Bool}(h:VP IV w o1 o2 v pd d m l)(hb:∀j,(o1 j∨o2 j)∨j=gN→w'.heap[j]?=w.heap[j]?)(hs:w.heap.size≤w'.heap.size):VP IV w' o1 o2 v pd d m l :=
 ⟨H.keep h.is (fun j hj=>hb j (hj.elim (fun h=>.inl (.inl h)) .inr)) hs,h.dk.keep hs (fun j hj=>hb j (.inl (.inr hj))),h.dj⟩
include H in
theorem VP.low{o1 o2:Nat→Prop}{d:DD}{m:Mt}{l:Bool}(h:VP IV w o1 o2 v pd d m l):∀j,(o1 j∨o2 j)∨j=gN→j<w.heap.size:=fun j hj=>by
 rcases hj with(hj|hj)|hj
 ·exact H.low h.is j (.inl hj)
 ·exact bP h.dk j hj
 ·exact H.low h.is j (.inr hj)
include H HC
theorem V3.below(h:V3 IV IC w B X v pd p s)(hb:Below w.heap.size w w'):V3 IV IC w' B X v pd p s:=by
 obtain⟨o1,o2,o3,h1,h2,h3,h4,h5⟩:=h;exact⟨o1,o2,o3,h1.keep H (fun j hj=>hb.block j (h1.low H j hj)) hb.size,HC.keep h2 (fun j hj=>hb.block j (HC.low h2 j hj)) hb.size,h3,h4,fun j hj=>Nat.lt_of_lt_of_le (h5.1 j hj) hb.size,h5.2⟩
omit H in
theorem vZ (h:V3 IV IC w B X v pd p s)(hB:B≤w.heap.size){f:Nat}{args:Array Value}{Q:Int→DD→Mt→Bool→Prop}(hc:∀o1 o2,VP IV w o1 o2 v pd s.d s.m s.lost→(∀j,o1 j∨o2 j→B≤j∧¬ X j)→Calls prog f args w (kK IV o1 o2 v pd Q w)) :
    Calls prog f args w fun e w'=>∃r d' m' l',e=.returned (.int .i64 r)∧V3 IV IC w' B X v pd p ⟨d',m',s.c,l'⟩∧Ke B X w w'∧Q r d' m' l':=by
 obtain⟨o1,o2,o3,h1,h2,h3,h4,h5⟩:=h;refine(hc o1 o2 h1 fun j hj=>⟨(h3 j hj).1,(h3 j hj).2.2⟩).mono ?_;rintro e w' ⟨r,d',m',l',aF,gO,he,hp,hb,hg,hq⟩;refine⟨r,d',m',l',he,⟨aF,gO,o3,hp,HC.keep h2 (fun j hj=>hb.block j (HC.low h2 j hj) (fun ho=>(h3 j ho).2.1 hj)) hb.size,fun j hj=>?_,h4,fun j hj=>Nat.lt_of_lt_of_le (h5.1 j hj) hb.size,h5.2⟩,hb.mono (fun j hj=>⟨(h3 j hj).1,(h3 j hj).2.2⟩),hq⟩;rcases hg j hj with h|h
 ·exact h3 j h
 ·exact⟨by omega,fun ho=>by have:=HC.low h2 j ho;omega,fun hx=>by have:=h5.1 j hx;omega⟩
omit HC in
theorem w6 (h:V3 IV IC w B X v pd p s)(hB:B≤w.heap.size){f:Nat}{args:Array Value}{r:ch.CH × Int}(hc:∀o3,IC o3 w p s.c→(∀j,o3 j→B≤j∧¬ X j)→Calls prog f args w (ch.Aft IC o3 p r w)) :
    Calls prog f args w fun e w'=>e=.returned (.int .i64 r.2)∧V3 IV IC w' B X v pd p ⟨s.d,s.m,r.1,s.lost⟩∧Ke B X w w':=by
 obtain⟨o1,o2,o3,h1,h2,h3,h4,h5⟩:=h;refine(hc o3 h2 h4).mono ?_;rintro e w' ⟨he,o3',hp,hb,hg⟩;refine⟨he,⟨o1,o2,o3',h1.keep H (fun j hj=>hb.block j (h1.low H j hj) (fun ho=>hj.elim (fun hj=>(h3 j hj).2.1 ho) (fun hj=>by have:=(h4 j ho).1;have:=h5.2.1;omega))) hb.size,hp,fun j hj=>⟨(h3 j hj).1,fun ho=>?_,(h3 j hj).2.2⟩,fun j hj=>?_,fun j hj=>Nat.lt_of_lt_of_le (h5.1 j hj) hb.size,h5.2⟩,hb.mono (fun j hj=>h4 j hj)⟩
 ·rcases hg j ho with h|h
  ·exact(h3 j hj).2.1 h
  ·have:=h1.low H j (.inl hj);omega
 ·rcases hg j hj with h|h
  ·exact h4 j h
  ·exact⟨by omega,fun hx=>by have:=h5.1 j hx;omega⟩
theorem V3.more(h:V3 IV IC w B X v pd p s)(hb:Below w.heap.size w w'){Y:Nat→Prop}(hY:∀j,Y j→X j∨(w.heap.size≤j∧j<w'.heap.size)):V3 IV IC w' B Y v pd p s:=by
 obtain⟨o1,o2,o3,h1,h2,h3,h4,h5⟩:=h;refine⟨o1,o2,o3,h1.keep H (fun j hj=>hb.block j (h1.low H j hj)) hb.size,HC.keep h2 (fun j hj=>hb.block j (HC.low h2 j hj)) hb.size,fun j hj=>⟨(h3 j hj).1,(h3 j hj).2.1,fun hy=>?_⟩,fun j hj=>⟨(h4 j hj).1,fun hy=>?_⟩,fun j hj=>?_,h5.2.1,fun hy=>?_⟩
 ·rcases hY j hy with h|h
  ·exact(h3 j hj).2.2 h
  ·have:=h1.low H j (.inl hj);omega
 ·rcases hY j hy with h|h
  ·exact(h4 j hj).2 h
  ·have:=HC.low h2 j hj;omega
 ·rcases hY j hj with h|h
  ·exact Nat.lt_of_lt_of_le (h5.1 j h) hb.size
  ·exact h.2
 ·rcases hY gN hy with h|h
  ·exact h5.2.2 h
  ·have:=h1.low H gN (.inr rfl);omega
theorem V3.turn(h:V3 IV IC w B X v pd p s)(hb:qx X w w'):V3 IV IC w' B X v pd p s:=by
 obtain⟨o1,o2,o3,h1,h2,h3,h4,h5⟩:=h;exact⟨o1,o2,o3,h1.keep H (fun j hj=>hb.block j (h1.low H j hj) (hj.elim (fun hj=>(h3 j hj).2.2) (fun hj=>by rw[hj];exact h5.2.2))) hb.size,HC.keep h2 (fun j hj=>hb.block j (HC.low h2 j hj) (h4 j hj).2) hb.size,h3,h4,fun j hj=>Nat.lt_of_lt_of_le (h5.1 j hj) hb.size,h5.2⟩
omit H HC in
theorem V3.eJ(h:V3 IV IC w B X v pd p s){Y:Nat→Prop}(hY:∀j,Y j→X j):V3 IV IC w B Y v pd p s:=by
 obtain⟨o1,o2,o3,h1,h2,h3,h4,h5⟩:=h;exact⟨o1,o2,o3,h1,h2,fun j hj=>⟨(h3 j hj).1,(h3 j hj).2.1,fun hy=>(h3 j hj).2.2 (hY j hy)⟩,fun j hj=>⟨(h4 j hj).1,fun hy=>(h4 j hj).2 (hY j hy)⟩,fun j hj=>h5.1 j (hY j hj),h5.2.1,fun hy=>h5.2.2 (hY _ hy)⟩
end
structure DoP where
 k:Nat
 n:Nat
 z:UInt8
def sB (z:UInt8):Bt:=ib.gG (UInt8.ofNat (z.toNat%200))
def jH (N:Nat)(m:Mt)(x:DoP)(next:Nat):eF :=
 if x.k%6=0∨x.k%6=1 then zn N m ((x.n:Int)%9) (sB x.z)
 else if x.k%6=2 then jP m (1,next)
 else if x.k%6=3 then ju m ((x.n:Int)%6)
 else if x.k%6=4 then uB m (1,x.n%8)
 else ze N m ⟨qB m,(1,next),1,1⟩ [(((x.n:Int)%8),sB x.z)]
def xp (c:ch.CH)(x:DoP)(next:Nat):ch.CH × Int :=
 if x.k%6=0∨x.k%6=1 then c.write ((x.n:Int)%9) (sB x.z)
 else if x.k%6=2 then c.snap (1,next)
 else if x.k%6=3 then c.roll ((x.n:Int)%6)
 else if x.k%6=4 then c.kV (1,x.n%8)
 else c.add (1,next) [(((x.n:Int)%8),sB x.z)]
end Go.Proofs.YtdagdllomphidaaGreatDoor.vt
namespace Go.Proofs.YtdagdllomphidaaGreatDoor.vt.pg
open _root_.Go.Proofs.Tryz Go Go.RowKit ib jr mt im sp
def InS (G:Nat→Prop)(A:Option Addr):Prop:=∀b o s,A=some ⟨b,o,s⟩→G b
theorem InS.none(G:Nat→Prop):InS G none:=fun _ _ _ h=>by cases h
theorem InS.mono{G G':Nat→Prop}{A:Option Addr}(h:InS G A)(hg:∀j,G j→G' j):InS G' A:=fun b o s e=>hg b (h b o s e)
def uD (G:Nat→Prop)(w w':World):Prop:=w.heap.size≤w'.heap.size∧∀j,G j→j<w.heap.size→w'.heap[j]?=w.heap[j]?
theorem uD.of_below{G:Nat→Prop}{w w':World}(h:Below w.heap.size w w'):uD G w w':=⟨h.size,fun j _ hj=>h.block j hj⟩
theorem uD.nu{G S:Nat→Prop}{w w':World}(h:ib.qx S w w')(hs:∀j,G j→¬ S j):uD G w w':=⟨h.size,fun j hg hj=>h.block j hj (hs j hg)⟩
structure dQ(G:Nat→Prop)(w:World)(A:Option Addr)(l:List Int)(c:Nat):Prop where
 at_:yE w A l c
 in_:0<l.length→InS G A
theorem qi6{G:Nat→Prop}{w w':World}{A:Option Addr}{l:List Int}(h:ib.qJ w A l)(hi:0<l.length→InS G A)(hs:uD G w w'):ib.qJ w' A l:=by
 intro i hi';obtain⟨b,o,h1,h2,h3,h4⟩:=h i hi';refine⟨b,o,h1,Nat.lt_of_lt_of_le h2 hs.1,?_,h4⟩;rw[World.cell?_of_block (a:=⟨b,o+i,none⟩) (hs.2 b (hi (by omega) b o none h1) h2)];exact h3
theorem dQ.stay{G:Nat→Prop}{w w':World}{A:Option Addr}{l:List Int}{c:Nat}(h:dQ G w A l c)(hs:uD G w w'):dQ G w' A l c :=
 ⟨⟨qi6 h.at_.ints h.in_ hs,h.at_.cap,h.at_.nil⟩,h.in_⟩
theorem dQ.mono{G G':Nat→Prop}{w:World}{A:Option Addr}{l:List Int}{c:Nat}(h:dQ G w A l c)(hg:∀j,G j→G' j):dQ G' w A l c:=⟨h.at_,fun hl=>(h.in_ hl).mono hg⟩
theorem dQ.none(G:Nat→Prop)(w:World):dQ G w none [] 0:=⟨yE.none w,fun _=>InS.none G⟩
theorem dQ.que{G:Nat→Prop}{w0 w w':World}{A:Option Addr}{l:List Int}{c:Nat}(h:ib.New w w' A l c)(hg:∀j,w.heap.size≤j→j<w'.heap.size→G j)(hn:∀b o s,A=some ⟨b,o,s⟩→s=Option.none):dQ G w' A l c :=
 ⟨h.sl,fun _ b o s e=>by
  obtain rfl:=hn b o s e;have:=h.new b o e;exact hg b this.1 this.2⟩
structure fF(G:Nat→Prop)(w:World)(A:Option Addr)(xs:List Sp):Prop where
 at_:∀i (h:i<xs.length),∃b o B c,A=some ⟨b,o,none⟩∧b<w.heap.size∧w.cell? ⟨b,o+i*4,none⟩=some (.int .u64 (xs[i].g.1:Int))∧w.cell? ⟨b,o+i*4+1,none⟩=some (.int .u64 (xs[i].g.2:Int)) ∧
  w.cell? ⟨b,o+i*4+2,none⟩=some (.slice B xs[i].ql.length c)∧w.cell? ⟨b,o+i*4+3,none⟩=some (.bool xs[i].hid)∧dQ G w B xs[i].ql c∧zZ xs[i].g
 in_:0<xs.length→InS G A
theorem fF.stay{G:Nat→Prop}{w w':World}{A:Option Addr}{xs:List Sp}(h:fF G w A xs)(hs:uD G w w'):fF G w' A xs:=by
 refine⟨fun i hi=>?_,h.in_⟩;obtain⟨b,o,B,c,h1,h2,h3,h4,h5,h6,h7,h8⟩:=h.at_ i hi;have hb:=hs.2 b (h.in_ (by omega) b o none h1) h2;exact⟨b,o,B,c,h1,Nat.lt_of_lt_of_le h2 hs.1,by rw[World.cell?_of_block (a:=⟨b,o+i*4,none⟩) hb];exact h3,by rw[World.cell?_of_block (a:=⟨b,o+i*4+1,none⟩) hb];exact h4,
  by rw[World.cell?_of_block (a:=⟨b,o+i*4+2,none⟩) hb];exact h5,by rw[World.cell?_of_block (a:=⟨b,o+i*4+3,none⟩) hb];exact h6,h7.stay hs,h8⟩
theorem fF.mono{G G':Nat→Prop}{w:World}{A:Option Addr}{xs:List Sp}(h:fF G w A xs)(hg:∀j,G j→G' j):fF G' w A xs:=by
 refine⟨fun i hi=>?_,fun hl=>(h.in_ hl).mono hg⟩;obtain⟨b,o,B,c,h1,h2,h3,h4,h5,h6,h7,h8⟩:=h.at_ i hi;exact⟨b,o,B,c,h1,h2,h3,h4,h5,h6,h7.mono hg,h8⟩
theorem fF.sns{G:Nat→Prop}{w:World}{A:Option Addr}{xs:List Sp}(h:fF G w A xs):jF w A xs:=by
 intro i hi;obtain⟨b,o,B,c,h1,h2,h3,h4,h5,h6,h7,h8⟩:=h.at_ i hi;exact⟨b,o,B,c,h1,h2,h3,h4,h5,h6,h7.at_,h8⟩
theorem fF.nil(G:Nat→Prop)(w:World):fF G w none []:=⟨fun i h=>absurd h (by simp),fun _=>InS.none G⟩
theorem fF.take{G:Nat→Prop}{w:World}{A:Option Addr}{xs:List Sp}(h:fF G w A xs)(n:Nat):fF G w A (xs.take n):=by
 refine⟨fun i hi=>?_,fun hl=>h.in_ (by rw[List.length_take]at hl;omega)⟩;have hl:i<xs.length:=by rw[List.length_take]at hi;omega
 have e:(xs.take n)[i]=xs[i]:=by simp
 rw[e];exact h.at_ i hl
structure kx(G:Nat→Prop)(w:World)(A0 A1 A2:Option Addr)(c0 c1 c2:Nat)(m:Mt):Prop where
 live:dQ G w A0 m.live c0
 qa:fF G w A1 m.qa
 room:m.qa.length≤c1∧(A1=none→m.qa.length=0∧c1=0)
 ql:dQ G w A2 m.tok.ql c2
 base:zZ m.tok.base
 target:zZ m.tok.target
 next:qC m.tok.next
 all:qC m.tok.all
section
variable {G G':Nat→Prop} {w w':World} {A0 A1 A2:Option Addr} {c0 c1 c2:Nat} {m:Mt}
theorem kx.stay(h:kx G w A0 A1 A2 c0 c1 c2 m)(hs:uD G w w'):kx G w' A0 A1 A2 c0 c1 c2 m :=
 ⟨h.live.stay hs,h.qa.stay hs,h.room,h.ql.stay hs,h.base,h.target,h.next,h.all⟩
theorem kx.mono(h:kx G w A0 A1 A2 c0 c1 c2 m)(hg:∀j,G j→G' j):kx G' w A0 A1 A2 c0 c1 c2 m :=
 ⟨h.live.mono hg,h.qa.mono hg,h.room,h.ql.mono hg,h.base,h.target,h.next,h.all⟩
theorem kx.below(h:kx G w A0 A1 A2 c0 c1 c2 m)(hb:Below w.heap.size w w'):kx G w' A0 A1 A2 c0 c1 c2 m:=h.stay (uD.of_below hb)
theorem dQ.bound{A:Option Addr}{l:List Int}{c:Nat}(h:dQ G w A l c):dQ (fun j=>G j∧j<w.heap.size) w A l c :=
 ⟨h.at_,fun hl b o s e=>⟨h.in_ hl b o s e,by
  obtain⟨b',o',e',h2,_⟩:=h.at_.ints 0 hl;rw[e]at e';injection e' with e'
  injection e' with e1
  rw[e1];exact h2⟩⟩
theorem fF.bound{A:Option Addr}{xs:List Sp}(h:fF G w A xs):fF (fun j=>G j∧j<w.heap.size) w A xs:=by
 refine⟨fun i hi=>?_,fun hl b o s e=>⟨h.in_ hl b o s e,?_⟩⟩
 ·obtain⟨b,o,B,c,h1,h2,h3,h4,h5,h6,h7,h8⟩:=h.at_ i hi;exact⟨b,o,B,c,h1,h2,h3,h4,h5,h6,h7.bound,h8⟩
 ·obtain⟨b',o',B,c,e',h2,_⟩:=h.at_ 0 hl;rw[e]at e';injection e' with e'
  injection e' with e1
  rw[e1];exact h2
theorem kx.bound(h:kx G w A0 A1 A2 c0 c1 c2 m):kx (fun j=>G j∧j<w.heap.size) w A0 A1 A2 c0 c1 c2 m:=⟨h.live.bound,h.qa.bound,h.room,h.ql.bound,h.base,h.target,h.next,h.all⟩
theorem kx.mt(h:kx G w A0 A1 A2 c0 c1 c2 m):MtL w A0 A1 A2 c0 c1 c2 m:=⟨h.live.at_,h.qa.sns,h.room,h.ql.at_,h.base,h.target,h.next,h.all⟩
end
def vC (A0 A1 A2:Option Addr)(c0 c1 c2:Nat)(m:Mt)(pd:Nat)(lost:Bool):Array Value:=#[.slice A0 m.live.length c0,.slice A1 m.qa.length c1,.int .u64 (m.tok.base.1:Int),.int .u64 (m.tok.base.2:Int),.int .u64 (m.tok.target.1:Int),.int .u64 (m.tok.target.2:Int),.int .i64 m.tok.next,.int .i64 m.tok.all,.slice A2 m.tok.ql.length c2,.pointer (some ⟨pd,0,none⟩),.bool lost]
structure qaA(o:Nat→Prop)(w:World)(v pd:Nat)(m:Mt)(lost:Bool)(A0 A1 A2:Option Addr)(c0 c1 c2:Nat):Prop where
 blk:qf w v 101 (vC A0 A1 A2 c0 c1 c2 m pd lost)
 tab:kx (fun j=>o j∧j≠v) w A0 A1 A2 c0 c1 c2 m
 sz:mtS m
 ct:xJ w
 own:o v
 low:∀j,o j→j<w.heap.size
 gv:gN≠v
 tk:m.tok.target=(0,0)→m.tok=zI
def jB:yZ:=fun o w v pd m lost=>∃A0 A1 A2 c0 c1 c2,qaA o w v pd m lost A0 A1 A2 c0 c1 c2
section
variable {o:Nat→Prop} {w w':World} {v pd:Nat} {m:Mt} {lost:Bool} {A0 A1 A2:Option Addr} {c0 c1 c2:Nat}
theorem qaA.stay(h:qaA o w v pd m lost A0 A1 A2 c0 c1 c2)(hb:∀j,o j∨j=gN→w'.heap[j]?=w.heap[j]?)(hs:w.heap.size≤w'.heap.size):qaA o w' v pd m lost A0 A1 A2 c0 c1 c2 :=
 ⟨h.blk.of_block (hb v (.inl h.own)),h.tab.stay ⟨hs,fun j hj _=>hb j (.inl hj.1)⟩,h.sz,vY h.ct hs (hb gN (.inr rfl)),h.own,fun j hj=>Nat.lt_of_lt_of_le (h.low j hj) hs,h.gv,h.tk⟩
theorem qaA.below(h:qaA o w v pd m lost A0 A1 A2 c0 c1 c2)(hb:Below w.heap.size w w'):qaA o w' v pd m lost A0 A1 A2 c0 c1 c2 :=
 h.stay (fun j hj=>hb.block j (by
  rcases hj with hj|rfl
  ·exact h.low j hj
  ·exact zK h.ct)) hb.size
theorem jB.below(h:jB o w v pd m lost)(hb:Below w.heap.size w w'):jB o w' v pd m lost:=by
 obtain⟨A0,A1,A2,c0,c1,c2,h1⟩:=h;exact⟨A0,A1,A2,c0,c1,c2,h1.below hb⟩
theorem qmo(h:jB o w v pd m lost)(hb:∀j,o j∨j=gN→w'.heap[j]?=w.heap[j]?)(hs:w.heap.size≤w'.heap.size):jB o w' v pd m lost:=by
 obtain⟨A0,A1,A2,c0,c1,c2,h1⟩:=h;exact⟨A0,A1,A2,c0,c1,c2,h1.stay hb hs⟩
theorem qaB(h:jB o w v pd m lost):∀j,o j∨j=gN→j<w.heap.size:=by
 obtain⟨A0,A1,A2,c0,c1,c2,h1⟩:=h;intro j hj;rcases hj with hj|rfl
 ·exact h1.low j hj
 ·exact zK h1.ct
theorem qpQ(h:jB o w v pd m lost):xJ w:=by
 obtain⟨A0,A1,A2,c0,c1,c2,h1⟩:=h;exact h1.ct
theorem qpR(h:jB o w v pd m lost):mB m:=by
 obtain⟨A0,A1,A2,c0,c1,c2,h1⟩:=h;exact h1.tab.mt.mB
theorem qQ {o1 o2:Nat→Prop}{d:DD}(h:VP jB w o1 o2 v pd d m lost)(hb:Below w.heap.size w w'):VP jB w' o1 o2 v pd d m lost :=
 ⟨h.is.below hb,h.dk.keep hb.size (fun j hj=>hb.block j (bP h.dk j hj)),h.dj⟩
structure quf(w:World)(v:Nat)(A0 A1 A2:Option Addr)(c0 c1 c2:Nat)(m:Mt)(pd:Nat)(lost:Bool):Prop where
 lt:v<w.heap.size
 k0:w.cell? ⟨v,0,none⟩=some (.slice A0 m.live.length c0)
 k1:w.cell? ⟨v,1,none⟩=some (.slice A1 m.qa.length c1)
 k2:w.cell? ⟨v,2,none⟩=some (.int .u64 (m.tok.base.1:Int))
 k3:w.cell? ⟨v,3,none⟩=some (.int .u64 (m.tok.base.2:Int))
 k4:w.cell? ⟨v,4,none⟩=some (.int .u64 (m.tok.target.1:Int))
 k5:w.cell? ⟨v,5,none⟩=some (.int .u64 (m.tok.target.2:Int))
 k6:w.cell? ⟨v,6,none⟩=some (.int .i64 m.tok.next)
 k7:w.cell? ⟨v,7,none⟩=some (.int .i64 m.tok.all)
 k8:w.cell? ⟨v,8,none⟩=some (.slice A2 m.tok.ql.length c2)
 k9:w.cell? ⟨v,9,none⟩=some (.pointer (some ⟨pd,0,none⟩))
 bQ:w.cell? ⟨v,10,none⟩=some (.bool lost)
theorem qaA.cells(h:qaA o w v pd m lost A0 A1 A2 c0 c1 c2):quf w v A0 A1 A2 c0 c1 c2 m pd lost :=
 ⟨h.blk.lt,h.blk.cell 0,h.blk.cell 1,h.blk.cell 2,h.blk.cell 3,h.blk.cell 4,h.blk.cell 5,h.blk.cell 6,h.blk.cell 7,h.blk.cell 8,h.blk.cell 9,h.blk.cell 10⟩
end
end Go.Proofs.YtdagdllomphidaaGreatDoor.vt.pg
namespace Go.Proofs.YtdagdllomphidaaGreatDoor.ib
open _root_.Go.Proofs.Tryz Go Go.RowKit
theorem qc9(o:Nat):∀(l:List Value) (k:Nat) (acc:Array Value),o+k+l.length≤acc.size →
    (l.zipIdx k).foldl (fun a x=>a.setIfInBounds (o+x.2) x.1) acc=(acc.toList.take (o+k)++l++acc.toList.drop (o+k+l.length)).toArray
 | [],k,acc,_=>by simp
 | x::l,k,acc,h=>by
  have hk:o+k<acc.size:=by simp at h;omega
  have uV:o+k<acc.toList.length:=by simpa using hk
  rw[List.zipIdx_cons,List.foldl_cons,qc9 o l (k+1) _ (by simp at h ⊢;omega)]
  congr 1
  simp only[Array.toList_setIfInBounds,List.length_cons];rw[List.drop_set_of_lt (by omega),show o+(k+1)+l.length=o+k+(l.length+1)by omega,show o+(k+1)=o+k+1 by omega];have e:(acc.toList.set (o+k) x).take (o+k+1)=acc.toList.take (o+k)++[x]:=by
   rw[List.take_succ_eq_append_getElem (by simpa using hk)];simp only[List.getElem_set_self,List.take_set];rw[List.set_eq_of_length_le (by simp;omega)]
  rw[e];simp
theorem iE (place:Nat→Option (Nat × Nat))(acc:Array Value)(i off size:Nat)(cs:Array Value)(rest:List (Nat × Value))(hp:place i=some (off,size))(hs:cs.size=size)(hb:off+size≤acc.size) :
    Instr.fill place acc ((i,.agg cs)::rest)=Instr.fill place (acc.toList.take off++cs.toList++acc.toList.drop (off+size)).toArray rest:=by
 have hl:cs.toList.length=size:=by simpa using hs
 have hf:=qc9 off cs.toList 0 acc (by simp;omega);have hc:(decide (cs.size≠size) || decide (off+cs.size>acc.size))=false:=by simp[hs];omega
 have e:Instr.fill place acc ((i,.agg cs)::rest)=if (decide (cs.size≠size) || decide (off+cs.size>acc.size))=true then none else Instr.fill place (cs.zipIdx.foldl (fun a x=>a.setIfInBounds (off+x.2) x.1) acc) rest:=by
  rw[Instr.fill,hp];rfl
 rw[e,hc];simp only[Bool.false_eq_true,if_false]
 congr 1
 rw[← Array.foldl_toList,Array.toList_zipIdx];rw[hl,Nat.add_zero]at hf;exact hf
theorem yF {P:Program}(w:World)(g o:Nat)(t ty:TypeId)(cs:Array Value)(xs:List Value)(fr:Nat × Nat)(d:TypeDesc)(hg:w.heap[g]?=some (.cells cs t fr))
    (hu:P.underlying ty=some d) (hd:(match d with | .struct _ | .array _ _=>true|_=>false)=true) (hi:(P.info? ty).map (·.size)=some xs.length) (hx:∀j u,xs[j]?=some u→cs[o+j]?=some u) :
    (loadVar ty ⟨g,o,none⟩).run P w=.ok (.agg xs.toArray) w:=by
 have hl:(loadCells ⟨g,o,none⟩ xs.length).run P w=.ok xs.toArray w :=
  run_loadCells_list (P:=P) w ⟨g,o,none⟩ xs (fun j v hv=>by
   rw[addr_add,cell_of_row w g (o+j) cs t fr hg];exact hx j v hv)
 cases hq:P.info? ty with
 | none=>simp[hq]at hi
 | some i =>
  have hs:i.size=xs.length:=by simpa[hq]using hi
  have hagg:(isAgg ty).run P w=.ok true w:=by
   unfold isAgg;rw[Sem.run_bind,run_underlying hu w];cases d <;> simp_all
  simp[loadVar,Sem.run_bind,hagg,sizeOf,typeInfo,hq,hs,hl]
theorem qH {ρ:Operand→Value}{o:Oper}{P:Program}{w:World}(ty:TypeId)(x:Operand)(ho:o.op=.load ty x)(g i:Nat)(hx:ρ x=.pointer (some ⟨g,i,none⟩))(t:TypeId)(cs:Array Value)(xs:List Value)(fr:Nat × Nat)(d:TypeDesc)
    (hg:w.heap[g]?=some (.cells cs t fr)) (hu:P.underlying ty=some d) (hd:(match d with | .struct _ | .array _ _=>true|_=>false)=true) (hi:(P.info? ty).map (·.size)=some xs.length) (hc:∀j u,xs[j]?=some u→cs[i+j]?=some u) :
    (execOp ρ o).run P w=.ok (.value (.agg xs.toArray)) w:=by
 simp only[execOp,ho,hx,Instr.loadAt,Instr.sureAddr,Sem.run_bind,Sem.run_pure,Result.andThen_ok,yF w g i t ty cs xs fr d hg hu hd hi hc]
theorem jG {P:Program}(w:World)(g o:Nat)(t ty:TypeId)(cur:Array Value)(xs:List Value)(hg:w.heap[g]?=some (.cells cur t (0,0)))(hi:(P.info? ty).map (·.size)=some xs.length)(hl:o+xs.length≤cur.size)(h1:∀v∈xs,v.oneCell'=true) :
    (storeVar ty ⟨g,o,none⟩ (.agg xs.toArray)).run P w=.ok () (w.setRow g (cur.toList.take o++xs++cur.toList.drop (o+xs.length)).toArray):=by
 have:=run_storeCells_at P g o t xs 0 cur w hg (by simpa using hl) h1;cases hq:P.info? ty with
 | none=>simp[hq]at hi
 | some i =>
  have hs:i.size=xs.length:=by simpa[hq]using hi
  simp only[Nat.add_zero]at this;simp[storeVar,sizeOf,typeInfo,hq,Value.cells,hs,this]
theorem jd {ρ:Operand→Value}{o:Oper}{P:Program}(w:World)(ty:TypeId)(x y:Operand)(ho:o.op=.store ty x y)(g i:Nat)(hx:ρ x=.pointer (some ⟨g,i,none⟩))(xs:List Value)(hy:ρ y=.agg xs.toArray)(t:TypeId)(cur:Array Value)
    (hg:qf w g t cur) (hi:(P.info? ty).map (·.size)=some xs.length) (hl:i+xs.length≤cur.size) (h1:∀v∈xs,v.oneCell'=true) :
    (execOp ρ o).run P w=.ok .skip (w.setRow g (cur.toList.take i++xs++cur.toList.drop (i+xs.length)).toArray):=by
 have hr:=jG (P:=P) w g i t ty cur xs hg hi hl h1;have h2:(Instr.storeAt ty (.pointer (some ⟨g,i,none⟩)) (.agg xs.toArray)).run P w=.ok () (w.setRow g (cur.toList.take i++xs++cur.toList.drop (i+xs.length)).toArray):=by
  simp only[Instr.storeAt,Instr.sureAddr,Sem.run_bind,Sem.run_pure,Result.andThen];exact hr
 simp[execOp,ho,hx,hy,h2,Result.andThen]
theorem zr {ρ:Operand→Value}{o:Oper}{P:Program}(w:World)(t:TypeId)(c c':Array Value)(x y:Operand)(ho:o.op=.store t x y)(hx:ρ x=.pointer (some ⟨w.heap.size,0,none⟩))(hy:ρ y=.agg c')
    (hi:(P.info? t).map (·.size)=some c'.size) (hoc:c.size=c'.size) (h1:c'.all (·.oneCell')=true) :
    (execOp ρ o).run P (w.alloc (.cells c t))=.ok .skip (w.alloc (.cells c' t)):=by
 have hr:=run_storeAt_new (P:=P) w t c c' hi hoc h1;simp[execOp,ho,hx,hy,hr,Result.andThen]
theorem jw {l:List Value}(h:∀v∈l,v.oneCell'=true):l.toArray.all (·.oneCell')=true:=by
 rw[Array.all_eq_true'];intro u hu;exact h u (by simpa using hu)
theorem jY {ρ:Operand→Value}{o:Oper}{P:Program}{w:World}(t:TypeId)(i:TypeInfo)(z:Array Value)(ho:o.op=.alloc t)(hi:P.info? t=some i)(hz:i.zero=some (.agg z)) :
    (execOp ρ o).run P w=.ok (.value (.pointer (some ⟨w.heap.size,0,none⟩))) (w.alloc (.cells z t)):=by
 have hz:∀w,(zeroValue t).run P w=.ok (.agg z) w:=fun w=>by simp[zeroValue,typeInfo,hi,hz]
 simp[execOp,ho,Instr.alloc,hz,Result.andThen,go_sem,Value.cells]
theorem eK {ρ:Operand→Value}{o:Oper}{P:Program}{w:World}(t:TypeId)(x:Operand)(cs:Array Value)(ho:o.op=.box t x)(hx:ρ x=.agg cs)(hs:(P.info? t).map (·.size)=some cs.size)(h1:cs.all (·.oneCell')=true) :
    (execOp ρ o).run P w=.ok (.value (.pointer (some ⟨w.heap.size,0,none⟩))) (w.alloc (.cells cs t)):=by
 simp[execOp,ho,hx,Instr.box,Result.andThen,go_sem,Value.cells]
theorem qmp{ρ:Operand→Value}{o:Oper}{P:Program}{w:World}(st t:TypeId)(x:Operand)(cs:Array Value)(size:Nat)(ho:o.op=.buildSlice st 1 #[(0,x)])(hx:ρ x=.agg cs)
    (hu:P.underlying st=some (.slice t)) (i:TypeInfo) (z:Value) (hi:P.info? t=some i) (hz:i.zero=some z) (hs:i.size=size) (h0:0<size) (hm:size≤2 ^ 24) (hc:cs.size=size) :
    (execOp ρ o).run P w=.ok (.value (.slice (some ⟨w.heap.size,0,none⟩) 1 1)) (w.alloc (.cells cs t)):=by
 have hr:=run_buildSlice (P:=P) w st t 1 #[(0,.agg cs)] cs i z hu hi hz (by rw[hs];omega) (by rw[hs];omega) (by
  rw[hs,iE _ _ 0 0 size cs [] (by simp) hc (by simp)];simp[Instr.fill];rw[List.drop_eq_nil_of_le (by simp)];simp)
 simp[execOp,ho,hx,hr,Result.andThen]
theorem oJ {ρ:Operand→Value}{o:Oper}{P:Program}(w:World)(x y:Operand)(bt st ut:TypeId)(s:ByteArray)(g i n c:Nat)(t:TypeId)(cur:Array Value)(iu:TypeInfo)(ho:o.op=.call { callee:=.builtin .copy,args:=#[x,y],argTypes:=#[bt,st] })
    (hx:ρ x=.slice (some ⟨g,i,none⟩) n c) (hy:ρ y=.string s) (hs:s.size=n) (hg:qf w g t cur) (hl:i+n≤cur.size) (hu:P.underlying bt=some (.slice ut)) (hi:P.info? ut=some iu) (hz:iu.size=1) :
    (execOp ρ o).run P w=.ok (.value (.int .i64 (n:Int))) (w.setRow g (cur.toList.take i++Lib.byteCells (bl s)++cur.toList.drop (i+n)).toArray):=by
 have hlen:(bl s).length=n:=by rw[zk,hs]
 have hst:=run_storeCells_at P g i t (Lib.byteCells (bl s)) 0 cur w hg (by rw[Lib.byteCells_length,hlen];simpa using hl) (Lib.byteCells_one _);rw[Lib.byteCells_length,hlen]at hst;simp only[Nat.add_zero]at hst;have aV:List.take n (List.map (fun b:UInt8=>Value.int IntKind.u8 (b.toNat:Int)) s.data.toList)=Lib.byteCells (bl s):=by
  rw[List.take_of_length_le]
  ·rfl
  ·simp only[List.length_map];have:s.data.toList.length=n:=hlen;omega
 have hc:(Builtin.copy_ #[bt,st] o.type #[.slice (some ⟨g,i,none⟩) n c,.string s]).run P w=.ok (.int .i64 (n:Int)) (w.setRow g (cur.toList.take i++Lib.byteCells (bl s)++cur.toList.drop (i+n)).toArray):=by
  simp[Builtin.copy_,run_underlying hu,Builtin.lenOf,Builtin.firstCells,sizeOf,typeInfo,hi,hz,hs];rw[aV,hst];simp[Result.andThen];rfl
 simp[execOp,ho,resolve,invoke,builtin,hx,hy,hc,Result.andThen]
theorem mD {P:Program}(w:World)(t ty e:TypeId)(i:TypeInfo)(z:Value)(size bytes:Nat)(ht:P.underlying t=some (.slice e))(hi:P.info? e=some i)(hz:i.zero=some z)(hsize:i.size=size)(hby:i.bytes=bytes)
    (A:Option Addr) (n:Nat) (xs:List Value) (aw:xs.length=n*size) (hA:A=none→n=0) (holds:∀b,A=some b→∀j u,xs[j]?=some u→w.cell? (b.add j)=some u)
    (a:Addr) (m c:Nat) (news:List Value) (hl:news.length=m*size) (hnews:∀j u,news[j]?=some u→w.cell? (a.add j)=some u) (h0:0<m)
    (h63:n+m≤maxLen) (hbytes:(n+m)*bytes≤140737488355328) :
    ∃cap cur w',(Builtin.append_ #[t,t] ty #[.slice A n n,.slice (some a) m c]).run P w=.ok (.slice (some ⟨w.heap.size,0,none⟩) (n+m) cap) w'∧Below w.heap.size w w'∧qf w' w.heap.size e cur ∧
     cur.toList.take ((n+m)*size)=xs++news∧n+m≤cap∧cap≤maxLen∧w'.heap.size=w.heap.size+1:=by
 subst hsize;subst hby;have q3H:n+m≤9223372036854775807:=by simp only[maxLen]at h63;omega
 have hlen:(xs++news).length=(n+m)*i.size:=by rw[List.length_append,aw,hl,Nat.add_mul]
 have vI:∀cs,Below w.heap.size w (w.drew.alloc (.cells cs e)):=fun cs=>⟨rfl,rfl,rfl,by simp,fun k hk=>heap_alloc_old w.drew _ hk⟩;cases A with
 | none =>
  obtain rfl:=hA rfl;have hx:xs=[]:=List.eq_nil_of_length_eq_zero (by simpa using aw);subst hx;have hr:=run_append_nil (P:=P) w t ty e i z ht hi hz a m c news hl hnews h0 (by omega) (by have hb:=hbytes;simp only[Nat.zero_add]at hb;omega);rw[Nat.zero_add,List.nil_append];refine⟨_,_,_,hr,vI _,heap_alloc_new w.drew _,?_,grownCap_ge _ _ _ _,grownCap_le_maxLen _ _ _ _ (by omega),by simp⟩;simp only[Array.toList_append];rw[← hl];exact List.take_left
 | some b =>
  have hr:=run_append_grow (P:=P) w t ty e i z ht hi hz b n n xs aw (holds b rfl) a m c news hl hnews (by omega) (by omega) (growslice_fits (by omega) hbytes);refine⟨_,_,_,hr,vI _,heap_alloc_new w.drew _,?_,grownCap_ge _ _ _ _,grownCap_le_maxLen _ _ _ _ h63,by simp⟩;simp only[Array.toList_append,List.append_assoc];rw[← List.append_assoc,← hlen];exact List.take_left
theorem uE {P:Program}{o:Oper}{a:Act}{w:World}{K:Act→World→Prop}{Q:Exit→Act→World→Prop}(s x:Operand)(t:TypeId)
    (ho:o.op=.call { callee:=.builtin .append,args:=#[s,x],argTypes:=#[t,t] })
    (e:TypeId) (i:TypeInfo) (z:Value) (size bytes:Nat) (ht:P.underlying t=some (.slice e)) (hi:P.info? e=some i) (hz:i.zero=some z)
    (hsize:i.size=size) (hby:i.bytes=bytes) (A:Option Addr) (n:Nat) (xs:List Value) (hs:a.eval s=.slice A n n)
    (aw:xs.length=n*size) (hA:A=none→n=0) (holds:∀b,A=some b→∀j u,xs[j]?=some u→w.cell? (b.add j)=some u)
    (ad:Addr) (m c:Nat) (news:List Value) (hx:a.eval x=.slice (some ad) m c) (hl:news.length=m*size) (hnews:∀j u,news[j]?=some u→w.cell? (ad.add j)=some u) (h0:0<m)
    (h63:n+m≤maxLen) (hbytes:(n+m)*bytes≤140737488355328)
    (h:∀cap cur w',Below w.heap.size w w'→qf w' w.heap.size e cur→cur.toList.take ((n+m)*size)=xs++news→n+m≤cap→cap≤maxLen→w'.heap.size=w.heap.size+1→K (a.put o.dst (.slice (some ⟨w.heap.size,0,none⟩) (n+m) cap)) w'):o.wp P a w K Q:=by
 obtain⟨cap,cur,w',hrun,h2,h3,h4,h5,h6,h7⟩:=mD (P:=P) w t o.type e i z size bytes ht hi hz hsize hby A n xs aw hA holds ad m c news hl hnews h0 h63 hbytes;unfold Oper.wp;simp[execOp,ho,resolve,invoke,builtin,hs,hx,hrun,Result.andThen];exact h cap cur w' h2 h3 h4 h5 h6 h7
theorem uF {P:Program}{ops:Array Oper}{rest:List Oper}{o:Oper}{a:Act}{w:World}{Q:Exit→Act→World→Prop}(hg:o.guard=none)(s x:Operand)(t:TypeId)
    (ho:o.op=.call { callee:=.builtin .append,args:=#[s,x],argTypes:=#[t,t] })
    (e:TypeId) (i:TypeInfo) (z:Value) (size bytes:Nat) (ht:P.underlying t=some (.slice e)) (hi:P.info? e=some i) (hz:i.zero=some z)
    (hsize:i.size=size) (hby:i.bytes=bytes) (A:Option Addr) (n:Nat) (xs:List Value) (hs:a.eval s=.slice A n n)
    (aw:xs.length=n*size) (hA:A=none→n=0) (holds:∀b,A=some b→∀j u,xs[j]?=some u→w.cell? (b.add j)=some u)
    (ad:Addr) (m c:Nat) (news:List Value) (hx:a.eval x=.slice (some ad) m c) (hl:news.length=m*size) (hnews:∀j u,news[j]?=some u→w.cell? (ad.add j)=some u) (h0:0<m)
    (h63:n+m≤maxLen) (hbytes:(n+m)*bytes≤140737488355328)
    (h:∀cap cur w',Below w.heap.size w w'→qf w' w.heap.size e cur→cur.toList.take ((n+m)*size)=xs++news→n+m≤cap→cap≤maxLen→w'.heap.size=w.heap.size+1→wpList P ops Q rest (a.put o.dst (.slice (some ⟨w.heap.size,0,none⟩) (n+m) cap)) w'):wpList P ops Q (o::rest) a w :=
 wpList_plain hg fun K' hK'=>uE s x t ho e i z size bytes ht hi hz hsize hby A n xs hs aw hA holds ad m c news hx hl hnews h0 h63 hbytes fun cap cur w' h1 h2 h3 h4 h5 h6=>hK' _ _ (h cap cur w' h1 h2 h3 h4 h5 h6)
theorem zq {fn:Func}{p:Tmp}{ty:TypeId}(h:fn.results = #[.cell p ty])(tmps:Array Value)(P:Program)(w:World)(a:Addr)(v:Value)
    (hp:tmps.getD p undef=.pointer (some a)) (h1:(loadVar ty a).run P w=.ok v w):(results fn tmps).run P w=.ok v w:=by
 simp only[results,h];simp only[Array.getD_eq_getD_getElem?]at hp;simp[Sem.run_bind,Result.andThen,asAddr,hp,h1]
theorem uG {w:World}{g:Nat}{t:TypeId}{cur c:Array Value}(h:qf w g t cur):qf (w.setRow g c) g t c:=by
 unfold qf at h ⊢;unfold World.setRow;rw[Array.getElem?_modify,if_pos rfl,h];rfl
theorem qfm{w:World}{g k:Nat}{c:Array Value}(h:k≠g):(w.setRow g c).heap[k]?=w.heap[k]? :=by
 unfold World.setRow;simp only[Array.getElem?_modify];rw[if_neg (Ne.symm h)]
theorem setRow_size(w:World)(g:Nat)(c:Array Value):(w.setRow g c).heap.size=w.heap.size:=by
 unfold World.setRow;simp
theorem uH (w:World)(g:Nat)(c:Array Value):qx (fun k=>k=g) w (w.setRow g c) :=
 ⟨rfl,rfl,rfl,by rw[setRow_size];exact Nat.le_refl _,fun k _ hn=>qfm hn⟩
end Go.Proofs.YtdagdllomphidaaGreatDoor.ib
namespace Go.Proofs.YtdagdllomphidaaGreatDoor.vt.pg
open _root_.Go.Proofs.Tryz Go Go.RowKit ib mt im sp
theorem bR {ρ:Operand→Value}{o:Oper}{w:World}(x y:Operand)(n:Nat)(ho:o.op=.makeSlice 57 x y)(hx:ρ x=.int .i64 (n:Int))(hy:ρ y=.int .i64 (n:Int))(h:n≤1000) :
    (execOp ρ o).run prog w=.ok (.value (.slice (some ⟨w.heap.size,0,none⟩) n n)) (w.alloc (.cells (qh (List.replicate n 0)) 3)):=by
 have:=sj (n:Int) (by omega) (by omega) w;simp only[Int.toNat_natCast]at this;simp[execOp,ho,hx,hy,this,Result.andThen]
theorem qsa:(prog.info? 3).map (·.size)=some 1:=by kernel_rfl
def qug (l:List Int)(w:World)(e:Ending)(w':World):Prop:=e=.returned (.slice (some ⟨w.heap.size,0,none⟩) l.length l.length)∧qf w' w.heap.size 3 (qh l)∧Below w.heap.size w w'
theorem qi7{w:World}{A:Option Addr}{l:List Int}{c:Nat}(h:yE w A l c)(h0:l.length≠0):∃b o,A=some ⟨b,o,none⟩:=by
 obtain⟨b,o,h1,_⟩:=h.ints 0 (by omega);exact⟨b,o,h1⟩
theorem wP (A:Option Addr)(c:Nat)(l:List Int)(w:World)(h:yE w A l c)(hl:l.length≤1000):Calls prog 67 #[.slice A l.length c] w (qug l w):=by
 have hb:=(Below.refl w.heap.size w).alloc (Nat.le_refl _) (.cells (qh (List.replicate l.length 0)) 3);have hk:=qf.new w 3 (qh (List.replicate l.length 0));have hh:=h.below hb;obtain⟨W1,hW1⟩:=QE (w.alloc (.cells (qh (List.replicate l.length 0)) 3));rw[hW1]at hb hk hh;have qyf:∃W2,(Builtin.copy_ #[57,57] 3 #[.slice (some ⟨w.heap.size,0,none⟩) l.length l.length,.slice A l.length c]).run prog W1=.ok (.int .i64 (l.length:Int)) W2∧qf W2 w.heap.size 3 (qh l)∧Below w.heap.size w W2:=by
  by_cases h0:l.length=0
  ·refine⟨W1,?_,?_,hb⟩
   ·have:=run_copy_none (P:=prog) W1 57 57 3 3 (some ⟨w.heap.size,0,none⟩) A l.length l.length l.length c underlying57 qsa (by rw[h0];rfl);rw[this,h0];rfl
   ·obtain rfl:l=[]:=List.length_eq_zero_iff.1 h0;exact hk
  ·obtain⟨b,o,rfl⟩:=qi7 h h0;have:=run_copy_row prog W1 57 57 3 3 w.heap.size 0 l.length l.length ⟨b,o,none⟩ l.length c (qh (List.replicate l.length 0)) 3 (l.map (Value.int .i64)) underlying57 qsa hk (by simp) (fun j v hj=>by
    have hjl:j<l.length:=by
     have:=(List.getElem?_eq_some_iff.1 hj).1;simpa using this
    obtain⟨b',o',e,h1,h2,_⟩:=hh.ints j hjl;simp only[Option.some.injEq,Addr.mk.injEq,and_true]at e;obtain⟨rfl,rfl⟩:=e;rw[addr_add,h2];simpa[hjl]using hj) (by simp[qh]) (fun v hv=>by
    obtain⟨z,_,rfl⟩:=List.mem_map.1 hv;rfl)
   have e:((qh (List.replicate l.length 0)).toList.take 0++l.map (Value.int .i64)++(qh (List.replicate l.length 0)).toList.drop (0+(l.map (Value.int .i64)).length)).toArray=qh l:=by
    simp[qh]
   rw[e]at this;refine⟨_,?_,setRow_heap W1 w.heap.size (qh (List.replicate l.length 0)) (qh l) 3 (0,0) hk,?_⟩
   ·rw[this];simp[goInt]
   ·exact wE hb _ (Nat.le_refl _)
 obtain⟨W2,hc,hk2,hb2⟩:=qyf;have jR:=QH hk2;have qy:=QH hb2;clear h hb hk hh hk2 hb2;go_enter func67,ntmps67;go_wp2_with (at_make;refine qg rfl (bR _ _ l.length rfl rfl rfl (by omega)) ?_);go_ret;exact⟨rfl,jR.out,qy.out⟩
theorem qug.sl{l:List Int}{w w':World}{e:Ending}(h:qug l w e w')(hz:∀z∈l,qC z)(G:Nat→Prop)(hG:G w.heap.size):dQ G w' (some ⟨w.heap.size,0,none⟩) l l.length :=
 ⟨⟨qf.nums h.2.1 hz,Nat.le_refl _,fun h=>by cases h⟩,fun _ b o s e=>by
  simp only[Option.some.injEq,Addr.mk.injEq]at e;rw[← e.1];exact hG⟩
def SnI (G:Nat→Prop)(w:World)(x:cj):Prop:=∃B c,x.2=.slice B x.1.ql.length c∧dQ G w B x.1.ql c∧zZ x.1.g
theorem SnI.stay{G:Nat→Prop}{w w':World}{x:cj}(h:SnI G w x)(hs:uD G w w'):SnI G w' x:=by
 obtain⟨B,c,h1,h2,h3⟩:=h;exact⟨B,c,h1,h2.stay hs,h3⟩
theorem qmq:∀(l:List cj) (j:Nat) (u:Value),(qY l)[j]?=some u→∃i k,∃h:i<l.length,k<4∧j=i*4+k∧(ck l[i])[k]?=some u:=by
 intro l j u h;have hj:j<l.length*4:=by
  have:=(List.getElem?_eq_some_iff.1 h).1;rw[yh]at this;exact this
 have hi:j/4<l.length:=by omega
 have hk:j%4<4:=Nat.mod_lt _ (by omega);refine⟨j/4,j%4,hi,hk,by omega,?_⟩;rw[← xw l (j/4) hi (j%4) hk,show j/4*4+j%4=j by omega];exact h
theorem fF.row{G:Nat→Prop}{w:World}{A:Option Addr}{sn:List Sp}(h:fF G w A sn):∃xs:List cj,xs.map (·.1)=sn∧(∀x∈xs,SnI G w x) ∧
    ∀j u,(qY xs)[j]?=some u→∃b o,A=some ⟨b,o,none⟩∧b<w.heap.size∧w.cell? ⟨b,o+j,none⟩=some u:=by
 obtain⟨vs,hl,hv⟩:=dc (p:=fun i (v:Value)=>∃(hi:i<sn.length),SnI G w (sn[i],v)∧∀k u,k<4→(ck (sn[i],v))[k]?=some u→∃b o,A=some ⟨b,o,none⟩∧b<w.heap.size∧w.cell? ⟨b,o+i*4+k,none⟩=some u) sn.length (fun i hi=>by
  obtain⟨b,o,B,c,h1,h2,h3,h4,h5,h6,h7,h8⟩:=h.at_ i hi;refine⟨.slice B sn[i].ql.length c,hi,⟨B,c,rfl,h7,h8⟩,fun k u hk hu=>⟨b,o,h1,h2,?_⟩⟩
  match k,hk with
  | 0,_=>simp[ck]at hu;subst hu;exact h3
  | 1,_=>simp[ck]at hu;subst hu;exact h4
  | 2,_=>simp[ck]at hu;subst hu;exact h5
  | 3,_=>simp[ck]at hu;subst hu;exact h6)
 refine⟨sn.zip vs,?_,fun x hx=>?_,fun j u hj=>?_⟩
 ·rw[List.map_fst_zip (by omega)]
 ·obtain⟨i,hi,rfl⟩:=List.getElem_of_mem hx;have hi':i<vs.length:=by simp at hi;omega
  obtain⟨_,h1,_⟩:=hv i hi';simpa using h1
 ·obtain⟨i,k,hi,hk,rfl,hu⟩:=qmq _ _ _ hj;have hi':i<vs.length:=by simp at hi;omega
  obtain⟨_,_,h2⟩:=hv i hi';obtain⟨b,o,h3,h4,h5⟩:=h2 k u hk (by simpa using hu);exact⟨b,o,h3,h4,by rw[← Nat.add_assoc];exact h5⟩
theorem fF.qfn{G:Nat→Prop}{w:World}{g:Nat}{xs:List cj}(hg:G g)(hl:g<w.heap.size)(hc:∀j u,(qY xs)[j]?=some u→w.cell? ⟨g,j,none⟩=some u)(hx:∀x∈xs,SnI G w x):fF G w (some ⟨g,0,none⟩) (xs.map (·.1)):=by
 refine⟨fun i hi=>?_,fun _ b o s e=>by
  simp only[Option.some.injEq,Addr.mk.injEq]at e;rw[← e.1];exact hg⟩
 have hix:i<xs.length:=by simpa using hi
 have e:(xs.map (·.1))[i]=xs[i].1:=by simp
 rw[e];obtain⟨B,c,h1,h2,h3⟩:=hx _ (List.getElem_mem hix);refine⟨g,0,B,c,rfl,hl,?_,?_,?_,?_,h2,h3⟩
 ·rw[Nat.zero_add];have:=hc (i*4+0) _ (xw xs i hix 0 (by omega));exact this
 ·rw[Nat.zero_add];exact hc (i*4+1) _ (xw xs i hix 1 (by omega))
 ·rw[Nat.zero_add,← h1];exact hc (i*4+2) _ (xw xs i hix 2 (by omega))
 ·rw[Nat.zero_add];exact hc (i*4+3) _ (xw xs i hix 3 (by omega))
theorem ja {w:World}{g n:Nat}{t:TypeId}{cur:Array Value}{l:List Value}(h:qf w g t cur)(ht:cur.toList.take n=l):∀j u,l[j]?=some u→w.cell? ⟨g,j,none⟩=some u:=by
 intro j u hu;rw[h.cell j];rw[← ht,List.getElem?_take]at hu;split at hu
 ·simpa using hu
 ·cases hu
theorem wQ {t:TypeId}{n:Nat}(h:(prog.info? t).map (·.size)=some n)(w:World):(sizeOf t).run prog w=.ok n w:=by
 cases hq:prog.info? t with
 | none=>simp[hq]at h
 | some i =>
  simp[hq]at h;simp[sizeOf,typeInfo,hq,h]
theorem qcA{ρ:Operand→Value}{o:Oper}{w:World}(ho:o.op=.buildSlice 91 0 #[]) :
    (execOp ρ o).run prog w=.ok (.value (.slice (some ⟨w.heap.size,0,none⟩) 0 0)) (w.alloc (.cells #[] 145)):=by
 obtain⟨i0,hi,hz0,hz1,hz2⟩:=info_parts qah;have hs:(prog.info? 145).map (·.size)=some 4:=by rw[hi];simp[hz1]
 have hz:=wQ (t:=145) hs w;have hr:(Instr.buildSlice 91 0 #[]).run prog w=.ok (.slice (some ⟨w.heap.size,0,none⟩) 0 0) (w.alloc (.cells #[] 145)):=by
  simp[Instr.buildSlice,run_underlying underlying91,hz,Instr.fill,newRow,Result.andThen];rw[show Array.map (fun _:Nat=>(default:Value)) (Array.range 0) = #[]from Array.ext (by simp) (fun i _ h2=>by simp at h2)]
 simp[execOp,ho,hr,Result.andThen]
theorem qcB(d:Nat)(a:Addr)(n c:Nat)(w:World):(Op.equalIn (d+1) 91 (.slice (some a) n c) (.slice none 0 0)).run prog w=.ok false w:=by
 simp[Op.equalIn,run_underlying underlying91]
theorem qi8(a:Addr)(n c:Nat)(w:World):(binOp .eql 91 (.slice (some a) n c) (.slice none 0 0)).run prog w=.ok (.bool false) w:=by
 have h:(Op.equalIn 10000 91 (.slice (some a) n c) (.slice none 0 0)).run prog w=.ok false w:=qcB 9999 a n c w;simp only[binOp];simp[Op.equal,Op.maxDepth,h,Result.andThen]
def q3I (G:Nat→Prop)(sn:List Sp)(w:World)(e:Ending)(w':World):Prop:=∃g c xs cur,e=.returned (.slice (some ⟨g,0,none⟩) sn.length c)∧w.heap.size≤g∧qf w' g 145 cur∧cur.toList.take (sn.length*4)=qY xs∧xs.map (·.1)=sn∧(∀x∈xs,SnI G w x)∧sn.length≤c∧Below w.heap.size w w'
theorem bS {G:Nat→Prop}{w:World}{A:Option Addr}{c:Nat}{sn:List Sp}(h:fF G w A sn)(h1:0<sn.length)(aY:sn.length≤100):Calls prog 123 #[.slice A sn.length c] w (q3I G sn w):=by
 obtain⟨i0,hi,hz0,hz1,hz2⟩:=info_parts qah;obtain⟨g,o,_,_,rfl,_⟩:=h.at_ 0 h1;have hb1:=(Below.refl w.heap.size w).alloc (Nat.le_refl _) (.cells #[] 145);obtain⟨xs,hm,hx,hc⟩:=h.row;have gI:(qY xs).length=sn.length*4:=by rw[yh,← hm,List.length_map]
 have HLEN:=QH gI;have HCE:Hid (∀j u,(qY xs)[j]?=some u→(w.alloc (.cells #[] 145)).cell? ((⟨g,o,none⟩:Addr).add j)=some u):=fun j u hj=>by
  obtain⟨b',o',e,h2,h3⟩:=hc j u hj;simp only[Option.some.injEq,Addr.mk.injEq,and_true]at e;obtain⟨rfl,rfl⟩:=e;rw[addr_add];exact(hb1.cell (p:=⟨g,o+j,none⟩) h2).trans h3
 have HX:=QH hx;have HM:=QH hm;have HB:=QH hb1;have HSI:Hid ((w.alloc (.cells #[] 145)).heap.size=w.heap.size+1):=by unfold Hid;simp
 have heq:(binOp .eql 91 (.slice (some ⟨g,o,none⟩) sn.length c) (.slice none 0 0)).run prog w=.ok (.bool false) w:=qi8 _ _ _ w;clear hx hb1 h hm hc gI;go_enter func123,ntmps123;go_wp2_with (first|(refine qg rfl (qcA rfl) ?_)|(at_builtin;refine uF rfl (.tmp 5) (.tmp 6) 91 rfl 145 i0 _ 4 48 underlying91 hi hz0 hz1 hz2 (some ⟨w.heap.size,0,none⟩) 0 [] rfl rfl (fun h=>by cases h) (fun b _ j u hu=>by simp at hu) ⟨g,o,none⟩ sn.length c (qY xs) rfl HLEN.out HCE.out h1 (by unfold maxLen;omega) (by omega) ?_));intro cap qms w1 hb2 hk2 bB hc1 hc2 hsz;have qy:=QH (HB.out.trans (hb2.mono (by simp)));have jR:=QH hk2;have dw:Hid (qms.toList.take (sn.length*4)=qY xs):=by
  unfold Hid;simpa using bB
 have HC1:Hid (sn.length≤cap):=by unfold Hid;omega
 clear hb2 hk2 bB hc1 hc2 hsz HCE HB HLEN;go_wp2_with fail;go_ret;exact⟨w.heap.size+1,cap,xs,qms,rfl,Nat.le_succ _,jR.out,dw.out,HM.out,HX.out,HC1.out,qy.out⟩
end Go.Proofs.YtdagdllomphidaaGreatDoor.vt.pg
namespace Go.Proofs.YtdagdllomphidaaGreatDoor.vt.pg
open _root_.Go.Proofs.Tryz Go Go.RowKit ib wi im mt mt.pg
theorem qyg{w:World}{B:Nat}{A:Option Addr}{n c:Nat}{zs:List Int}(h:zv w B (.slice A n c) zs):InS (fun j=>B≤j) A:=by
 rcases h.2 with⟨e,h0⟩|⟨g,cap,cur,e,hg,hh,hcc,hm,hcs,xI⟩
 ·cases e;exact InS.none _
 ·cases e;intro b o s e;cases e;exact hg
theorem qfo{w:World}{B:Nat}{A:Option Addr}{n c:Nat}{zs:List Int}(h:zv w B (.slice A n c) zs)(hz:∀z∈zs,qC z):dQ (fun j=>B≤j) w A zs c:=by
 obtain⟨A',c',e,h1⟩:=qgx h hz;have h2:=qyg h;cases e;exact⟨h1,fun _=>h2⟩
theorem qyh{w:World}{B:Nat}{A:Option Addr}{n c:Nat}{xs:List cj}(h:gH w B (.slice A n c) xs)(hz:∀x∈xs,∀z∈x.1.ql,qC z)(hg:∀x∈xs,zZ x.1.g) :
    fF (fun j=>B≤j) w A (xs.map (·.1))∧((xs.map (·.1)).length≤c∧(A=none→(xs.map (·.1)).length=0∧c=0)):=by
 obtain⟨A',c',e,h1,h2⟩:=h.view hz hg;simp only[Value.slice.injEq]at e;obtain⟨rfl,hn,rfl⟩:=e;refine⟨?_,h2⟩;rcases h.1.2 with⟨e,h0⟩|⟨g,cap,cur,e,sq,hh,hcc,hm,hcs,xI⟩
 ·simp only[Value.slice.injEq]at e;obtain⟨rfl,_,rfl⟩:=e;obtain rfl:xs=[]:=List.length_eq_zero_iff.1 h0;exact fF.nil _ _
 ·simp only[Value.slice.injEq]at e;obtain⟨rfl,_,rfl⟩:=e;refine fF.qfn sq (Array.getElem?_eq_some_iff.1 hh).1 (fun j u hu=>?_) (fun x hx=>?_)
  ·rw[cell_of_row w g j cur 145 (0,0) hh];rw[← xI,List.getElem?_take]at hu;split at hu
   ·simpa using hu
   ·cases hu
  ·have hi:=h.2 x hx;obtain⟨A1,c1,e1⟩:=yT hi;rw[e1]at hi;exact⟨A1,c1,e1,qfo hi (hz x hx),hg x hx⟩
theorem qfp{w:World}{B:Nat}{A0 A1 A2:Option Addr}{n0 n1 n2 c0 c1 c2:Nat}{m:Mt}(h:Own w B (.slice A0 n0 c0) (.slice A1 n1 c1) (.slice A2 n2 c2) m):kx (fun j=>B≤j) w A0 A1 A2 c0 c1 c2 m:=by
 have i64:∀ {z:Int},0≤z∧z≤1048576→qC z:=fun h=>by unfold qC;omega
 obtain⟨xs,a,b,c,d⟩:=h.at_;obtain⟨hf,ht⟩:=h.ok;rw[← d]at hf;have hsn:∀x∈xs,yl x.1.ql∧zZ x.1.g:=fun x hx=>⟨(hf.sn _ (List.mem_map_of_mem hx)).1,(hf.sn _ (List.mem_map_of_mem hx)).2.1⟩;have hb:=qyh b (fun x hx z hz=>i64 ((hsn x hx).1 z hz)) (fun x hx=>(hsn x hx).2);rw[d]at hb;exact⟨qfo a (fun z hz=>i64 (hf.live z hz)),hb.1,hb.2,qfo c (fun z hz=>i64 (ht.ql z hz)),ht.base,ht.target,ht.next,ht.all⟩
def qyi (m:Mt)(w:World)(e:Ending)(w':World):Prop:=∃A0 A1 A2 c0 c1 c2,e=.returned (.tuple #[.agg (zj A0 A1 A2 c0 c1 c2 m),.int .i64 0])∧kx (fun j=>w.heap.size≤j) w' A0 A1 A2 c0 c1 c2 m∧Below w.heap.size w w'
theorem qpS(s:ByteArray)(w:World)(hs:s.size≤100000)(M:Mt)(hD:nb (bl s)=(M,0)):Calls prog 43 #[.string s] w (qyi M w):=by
 have HDI:Hid (gB (mP (some (bl s)))=(bl s,0)∧mP (some (bl s))=M):=by
  have h:=qte (bl s);rw[hD]at h;unfold Hid;split at h
  ·rename_i h1;exact⟨h1,(Prod.mk.inj h).1.symm⟩
  ·cases (Prod.mk.inj h).2
 have hb0:=(Below.refl w.heap.size w).alloc (Nat.le_refl _) (.cells (mZ (.slice none 0 0) (.slice none 0 0)) 93);have hA0:=qf.new w 93 (mZ (.slice none 0 0) (.slice none 0 0));obtain⟨W0,hW0⟩:=QE (w.alloc (.cells (mZ (.slice none 0 0) (.slice none 0 0)) 93));rw[hW0]at hb0 hA0;have xn:=QH hb0;have ym:=QH hA0;have fU:=QH hs;have HN:=QH (qae s W0 (by omega));clear hb0 hA0 hs hD;unfold mZ at hW0;go_enter func43,ntmps43;go_upto_region 1 with fail;try rw[hW0]
 clear hW0;go_wp2_with fail;refine HN.out.mono ?_;rintro e W1 ⟨c,rfl,hc,wa,hb1⟩;have hps:PS W1 c (some (bl s)):=wa;have lz:=QH hps;have qP:=QH (qc xn.out hb1);have fP:=QH (ym.out.below hb1);have kS:Hid (w.heap.size≤W1.heap.size):=qP.out.size;have HC:Hid (w.heap.size≤c∧w.heap.size<W1.heap.size):=⟨Nat.le_trans xn.out.size hc,fP.out.lt⟩;clear hc wa hb1 hps xn ym HN;go_wp2_with fail;refine(mt.pg.yV lz.out).mono ?_;rintro e W2 ⟨v0,v1,v2,rfl,ho,ru⟩;have qy:Hid (Below w.heap.size w W2):=qP.out.trans (ru.below (fun j hj=>by unfold Tc at hj;rw[hj];exact HC.out.1) qP.out.size);obtain⟨y,hy⟩:=lz.out.blk;have ai:=QH (fP.out.of_block (ru.block _ fP.out.lt (uk fP.out hy (by decide))));have HSM:Hid (mtS (mP (some (bl s)))):=qtC ho.ok.1 ho.ok.2;obtain⟨m,hm⟩:=QE (mP (some (bl s)));rw[hm]at ho HDI HSM ⊢;have wR:=QH ho;obtain⟨xs,o0,o1,o2,o3⟩:=ho.at_;obtain⟨A0,c0,hv0⟩:=yT o0;obtain⟨A1,c1,hv1⟩:=yT o1.1;obtain⟨A2,c2,hv2⟩:=yT o2;have hlx:xs.length=m.qa.length:=by rw[← o3,List.length_map]
 rw[hlx]at hv1;subst hv0 hv1 hv2;clear ho o0 o1 o2 o3 hlx hy hm ru lz qP fP;have hb3:=(Below.refl W2.heap.size W2).alloc (Nat.le_refl _) (.cells (mC (.slice A0 m.live.length c0) (.slice A1 m.qa.length c1) (.slice A2 m.tok.ql.length c2) m.tok) 93);have hM3:=qf.new W2 93 (mC (.slice A0 m.live.length c0) (.slice A1 m.qa.length c1) (.slice A2 m.tok.ql.length c2) m.tok);obtain⟨W3,hW3⟩:=QE (W2.alloc (.cells (mC (.slice A0 m.live.length c0) (.slice A1 m.qa.length c1) (.slice A2 m.tok.ql.length c2) m.tok) 93));rw[hW3]at hb3 hM3;have qV:=QH (qc qy.out hb3);have bw:=QH (ai.out.below hb3);have rz:=QH (wR.out.kp (r:=1000000) (Kp.of_below hb3) (by decide) (by decide));obtain⟨gm,hgm⟩:=QE W2.heap.size;rw[hgm]at hM3;have HM3:=QH hM3;unfold mC at hW3 ⊢;clear hb3 qy ai wR;go_upto_region 2 with fail;try rw[hW3]
 try rw[hgm]
 clear hW3 hgm;have m0:=hM3.cell 0;have m1:=hM3.cell 1;have m2:=hM3.cell 2;have m3:=hM3.cell 3;have m4:=hM3.cell 4;have m5:=hM3.cell 5;have m6:=hM3.cell 6;have m7:=hM3.cell 7;have m8:=hM3.cell 8;simp only[mC,QA,QB,QC]at m0 m1 m2 m3 m4 m5 m6 m7 m8;have hlm:=hM3.lt;have HE:=QH (qgE _ m W3 rz.out.mt HSM.out);unfold mC at HE;clear hM3;go_wp2_with fail;refine HE.out.mono ?_;rintro e W4 ⟨rfl,hb4⟩;have zO:=QH (qc qV.out hb4);have fT:=QH (bw.out.below hb4);have HO4:=QH (rz.out.kp (r:=1000000) (Kp.of_below hb4) (by decide) (by decide));have hM4:=HM3.out.below hb4;clear hb4 HE qV bw rz HM3 m0 m1 m2 m3 m4 m5 m6 m7 m8 hlm;have a0:=fT.out.cell 0;have a1:=fT.out.cell 1;have a2:=fT.out.cell 2;have a3:=fT.out.cell 3;have a4:=fT.out.cell 4;have a5:=fT.out.cell 5;have a6:=fT.out.cell 6;have a7:=fT.out.cell 7;have a8:=fT.out.cell 8;have m0:=hM4.cell 0;have m1:=hM4.cell 1;have m2:=hM4.cell 2;have m3:=hM4.cell 3;have m4:=hM4.cell 4;have m5:=hM4.cell 5;have m6:=hM4.cell 6;have m7:=hM4.cell 7;have m8:=hM4.cell 8;simp only[mC,mZ,QA,QB,QC]at m0 m1 m2 m3 m4 m5 m6 m7 m8 a0 a1 a2 a3 a4 a5 a6 a7 a8;have f0:=fT.out.frozen 0;have f1:=fT.out.frozen 1;have f2:=fT.out.frozen 2;have f3:=fT.out.frozen 3;have f4:=fT.out.frozen 4;have f5:=fT.out.frozen 5;have f6:=fT.out.frozen 6;have f7:=fT.out.frozen 7;have f8:=fT.out.frozen 8;have hlm:=hM4.lt;have fC:=fT.out.lt;clear hM4;have hres:qf W4 w.heap.size 93 (mC nlS nlS nlS zI):=fT.out;obtain⟨hE,rfl⟩:=HDI.out;have HF1:Hid (qf (xG W4 w.heap.size (.slice A0 m.live.length c0) (.slice A1 m.qa.length c1) (.slice A2 m.tok.ql.length c2) m.tok) w.heap.size 93 (zj A0 A1 A2 c0 c1 c2 m)∧kx (fun j=>w.heap.size≤j) (xG W4 w.heap.size (.slice A0 m.live.length c0) (.slice A1 m.qa.length c1) (.slice A2 m.tok.ql.length c2) m.tok) A0 A1 A2 c0 c1 c2 m∧Below w.heap.size w (xG W4 w.heap.size (.slice A0 m.live.length c0) (.slice A1 m.qa.length c1) (.slice A2 m.tok.ql.length c2) m.tok)) :=
  ⟨sJ hres,(qfp (HO4.out.kp (qbY hres) (by decide) (by decide))).mono (fun j hj=>Nat.le_trans kS.out hj),dx zO.out (Nat.le_refl _)⟩
 clear hres HDI HO4;obtain⟨r1,hr1⟩:=QE ((gB m).1);obtain⟨r2,hr2⟩:=QE ((gB m).2);rw[hE]at hr1 hr2;dsimp only at hr1 hr2;rw[hE];subst hr2;dsimp only;have hq:((str (bl s)).toList == s.toList)=true:=by rw[fJ];simp
 have HQ:=QH hq;clear hq hE;obtain⟨S1,hS1⟩:=QE (str (bl s));rw[hS1]at HQ ⊢;clear hS1 hr1;have hq:(S1.toList == s.toList)=true:=HQ.out;go_wp2_with fail;show bodyPost _ _ _ _ _ (xG W4 w.heap.size (.slice A0 m.live.length c0) (.slice A1 m.qa.length c1) (.slice A2 m.tok.ql.length c2) m.tok);obtain⟨WE,hWE⟩:=QE (xG W4 w.heap.size (.slice A0 m.live.length c0) (.slice A1 m.qa.length c1) (.slice A2 m.tok.ql.length c2) m.tok);have hf:=HF1.out;rw[hWE]at hf ⊢;have hl:=qg7 (v0:=.slice A0 m.live.length c0) (v1:=.slice A1 m.qa.length c1) (v2:=.slice A2 m.tok.ql.length c2) (t:=m.tok) hf.1;refine bodyPost_ret (v:=.tuple #[.agg (zj A0 A1 A2 c0 c1 c2 m),.int .i64 0]) ?_ rfl ⟨A0,A1,A2,c0,c1,c2,rfl,hf.2.1,hf.2.2⟩;exact fV results43 _ _ _ ⟨w.heap.size,0,none⟩ _ _ (by simp) (by simp) hl
end Go.Proofs.YtdagdllomphidaaGreatDoor.vt.pg
