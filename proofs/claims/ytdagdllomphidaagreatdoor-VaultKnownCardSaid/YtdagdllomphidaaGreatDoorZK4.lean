/- VtPlace, ImMath, VtOps, VtDoes, VtStage, Chgs, ChHyp, CSum, VtHyp, VtTrio, VgMem, Parts, VgCop, VgRow, VgDec, SlotsT. -/
import Derived.Test.YtdagdllomphidaaGreatDoorZK3
import Derived.Laws.IdiomCopy
import Derived.Lib.SlBuf
set_option linter.unusedVariables false
set_option linter.unusedSimpArgs false
set_option maxHeartbeats 30000000
set_option maxRecDepth 100000
namespace Go.Proofs.YtdagdllomphidaaGreatDoor.vt
open _root_.Go.Proofs.Tryz Go Go.RowKit jr mt im sp
def qpP (n:Int)(l:List Int):Prop:=∀z∈l,z=0∨(193≤z∧z<n)
theorem qgY(cs:List Int)(k:Nat)(M:Nat)(hb:bnd M cs)(hM:M≤1000000000)(hk:k<cs.length):(bump cs k).getD k 0=cs.getD k 0+1:=by
 have hg:0≤cs.getD k 0∧cs.getD k 0≤(M:Int):=by
  have:cs.getD k 0=cs[k]:=by simp[List.getD,hk]
  rw[this];exact hb _ (List.getElem_mem hk)
 have hw:wrap64 (cs.getD k 0+1)=cs.getD k 0+1:=by unfold wrap64;omega
 unfold bump;rw[hw];generalize cs.getD k 0+1=v;simp[List.getD,hk]
theorem qkp{cs:List Int}{k M:Nat}(hb:bnd M cs)(hM:M≤1000000000):bnd (M+1) (bump cs k):=by
 intro z hz;unfold bump at hz;rcases List.mem_or_eq_of_mem_set hz with h|h
 ·have:=hb z h;omega
 ·have hg:0≤cs.getD k 0∧cs.getD k 0≤(M:Int):=by
     by_cases hk:k<cs.length
     ·have:cs.getD k 0=cs[k]:=by simp[List.getD,hk]
      rw[this];exact hb _ (List.getElem_mem hk)
     ·have:cs.getD k 0=0:=by simp[List.getD,List.getElem?_eq_none (show cs.length≤k by omega)]
      rw[this];omega
  have hw:wrap64 (cs.getD k 0+1)=cs.getD k 0+1:=by unfold wrap64;omega
  rw[hw]at h;omega
theorem eX {n:Int}:∀(l cs:List Int) (M:Nat),qpP n l→bnd M cs→(cs.length:Int)=n→M+l.length≤1000000000 →
    ∃cs',jU n cs l=some cs'∧cs'.length=cs.length∧(∀j,cs.getD j 0≤cs'.getD j 0)∧(∀z∈l,z≠0→cs.getD z.toNat 0+1≤cs'.getD z.toNat 0)∧xY cs≤xY cs'+l.length
 | [],cs,M,_,_,_,_=>⟨cs,rfl,rfl,fun _=>Int.le_refl _,fun z h=>absurd h (by simp),by simp⟩
 | z::r,cs,M,hg,hb,hn,hM=>by
  rw[List.length_cons]at hM;rw[dL];by_cases hz:z=0
  ·rw[if_pos hz];obtain⟨cs',h1,h2,h3,h4,h5⟩:=eX r cs M (fun y hy=>hg y (by simp[hy])) hb hn (by omega);refine⟨cs',h1,h2,h3,fun y hy h0=>?_,by rw[List.length_cons];omega⟩;rcases List.mem_cons.1 hy with e|hy
   ·exact absurd (e.trans hz) h0
   ·exact h4 y hy h0
  ·have hr:193≤z∧z<n:=by
      rcases hg z (by simp)with h|h
      ·exact absurd h hz
      ·exact h
   rw[if_neg hz,if_neg (by omega)];have hk:z.toNat<cs.length:=by omega
   obtain⟨cs',h1,h2,h3,h4,h5⟩:=eX r (bump cs z.toNat) (M+1) (fun y hy=>hg y (by simp[hy])) (qkp hb (by omega)) (by rw[bX];exact hn) (by omega);have hbz:=qgY cs z.toNat M hb (by omega) hk;have qpQ:∀j,cs.getD j 0≤(bump cs z.toNat).getD j 0:=fun j=>by
    by_cases e:j=z.toNat
    ·rw[e,hbz];omega
    ·rw[aK cs _ j e];exact Int.le_refl _
   refine⟨cs',h1,by rw[h2,bX],fun j=>Int.le_trans (qpQ j) (h3 j),fun y hy h0=>?_,?_⟩
   ·rcases List.mem_cons.1 hy with rfl|hy
    ·have:=h3 y.toNat;omega
    ·have:=qpQ y.toNat;have:=h4 y hy h0;omega
   ·have hf:xY cs≤xY (bump cs z.toNat)+1:=by
       unfold xY;rw[bX];by_cases h0:cs.getD z.toNat 0=0
       ·have:=mi cs z.toNat hk (by omega) h0 cs.length;split at this <;> omega
       ·have e:∀i,(qR (bump cs z.toNat) i).length=(qR cs i).length:=by
           intro i
           induction i with
           | zero=>rfl
           | succ i ih =>
            rw[yu,yu,ih];by_cases ei:i=z.toNat
            ·subst ei;rw[hbz];have hg0:0≤cs.getD z.toNat 0:=by
              have:cs.getD z.toNat 0=cs[z.toNat]:=by simp[List.getD,hk]
              rw[this];exact(hb _ (List.getElem_mem hk)).1
             rw[if_neg (by omega),if_neg (by omega)]
            ·rw[aK cs _ i ei]
        rw[e];omega
    rw[List.length_cons];omega
theorem qbd(N:Nat):∀i,193≤i→i≤N→(qR (List.replicate N 0) i).length=i-193:=by
 intro i
 induction i with
 | zero=>intro h;omega
 | succ i ih =>
  intro h hN;rw[yu];have h0:(List.replicate N (0:Int)).getD i 0=0:=by simp[List.getD,show i<N by omega]
  by_cases hi:193≤i
  ·rw[ih hi (by omega),if_pos ⟨hi,h0⟩];omega
  ·rw[yB _ i (by omega),if_neg (fun h=>hi h.1)];simp;omega
section
variable {b N:Nat} {t:Tg} {m:Mt}
theorem qbe(h:yD b N m):qpP (N:Int) (xe m).flatten:=by
 intro z hz;obtain⟨l,hl,hz⟩:=List.mem_flatten.1 hz;unfold xe at hl;rcases List.mem_cons.1 hl with rfl|hl
 ·exact h.live.2.1 z hz
 ·rcases List.mem_cons.1 hl with rfl|hl
  ·rcases h.tok with ht|ht
   ·rw[ht]at hz;simp[zL]at hz
   ·exact ht.2.2.2.2.2.2.1 z hz
  ·obtain⟨s,hs,rfl⟩:=List.mem_map.1 hl;exact(h.uf s hs).2.1 z hz
theorem qdv(h:yD b N m):(xe m).flatten.length≤b*(m.qa.length+2):=by
 have h1:m.live.length=b:=h.len;have h2:m.tok.qj.length≤b:=by
  rcases h.tok with ht|ht
  ·rw[ht];simp[zL]
  ·have:=ht.2.2.2.2.2.1;omega
 have h3:∀l:List Sp,(∀s∈l,yX b N s.qj)→(l.map (·.qj)).flatten.length=b*l.length:=by
  intro l
  induction l with
  | nil=>simp
  | cons s l ih =>
   intro hl;have:=ih (fun x hx=>hl x (by simp[hx]));have:=(hl s (by simp)).1;rw[List.map_cons,List.flatten_cons,List.length_append,List.length_cons,Nat.mul_succ];omega
 have:=h3 m.qa h.uf;have e:b*(m.qa.length+2)=b*m.qa.length+(b+b):=by rw[Nat.mul_add];omega
 unfold xe;simp only[List.flatten_cons,List.length_append];omega
theorem qdw(h:yD b N m):b*(m.qa.length+2)≤176:=by
 have:=Nat.mul_le_mul h.b8 (Nat.add_le_add_right h.few 2);omega
theorem aM (h:yD b N m)(hN:N≤1024):∃cs,yA (xe m) (N:Int)=(cs,0)∧cs.length=N∧(∀z,held m z→z≠0→1≤cs.getD z.toNat 0)∧(N-193)≤xY cs+b*(m.qa.length+2):=by
 have hg:=qbe h;have hl:=qdv h;have hl6:=qdw h;obtain⟨cs,h1,h2,h3,h4,h5⟩:=eX (xe m).flatten (List.replicate N 0) 0 hg (fun z hz=>by rw[List.eq_of_mem_replicate hz];omega) (by simp) (by omega);refine⟨cs,?_,by rw[h2,List.length_replicate],fun z hz h0=>?_,?_⟩
 ·unfold yA;rw[if_neg (by omega),Int.toNat_natCast,h1]
 ·obtain⟨l,hl,hz⟩:=hz;have:=h4 z (List.mem_flatten.2 ⟨l,hl,hz⟩) h0;have h0:(List.replicate N (0:Int)).getD z.toNat 0=0:=by
   by_cases hk:z.toNat<N
   ·simp[List.getD,hk]
   ·simp[List.getD,hk]
  omega
 ·have:N-193≤xY (List.replicate N (0:Int)):=by
     unfold xY;rw[List.length_replicate];by_cases qxA:193≤N
     ·rw[qbd N N qxA (Nat.le_refl _)];exact Nat.le_refl _
     ·omega
  omega
theorem vg (k:Int)(s:Bt)(r:List (Int × Bt)):full ((k,s)::r)=full r+if s=zb then 0 else 1:=by
 unfold full;by_cases h:s=zb <;> simp[h]
theorem eY:∀(x:List (Int × Bt)) (fr:List Int),full x≤fr.length →
    (qd fr x).1.length=x.length∧(qd fr x).2.map (·.1)=fr.take (full x)∧(∀y∈(qd fr x).2,∃c∈x,y.2=c.2) ∧
     (∀i (hi:i<x.length) (ha:i<(qd fr x).1.length),(x[i].2=zb∧(qd fr x).1[i]=0)∨(x[i].2≠zb∧((qd fr x).1[i],x[i].2)∈(qd fr x).2))
 | [],fr,_=>⟨rfl,by simp[qd,full],by simp[qd],fun i hi=>by simp at hi⟩
 | (k,s)::r,fr,h=>by
  rw[vg]at h;by_cases hs:s=zb
  ·rw[if_pos hs]at h;obtain⟨h1,h2,h3,h4⟩:=eY r fr (by omega);have e:qd fr ((k,s)::r)=(0::(qd fr r).1,(qd fr r).2):=by
    cases fr <;> simp[qd,hs]
   rw[e,vg,if_pos hs,Nat.add_zero];refine⟨by simp[h1],h2,fun y hy=>?_,fun i hi ha=>?_⟩
   ·obtain⟨c,hc,he⟩:=h3 y hy;exact⟨c,by simp[hc],he⟩
   ·cases i with
    | zero=>exact .inl ⟨hs,rfl⟩
    | succ i=>exact h4 i (by simpa using hi) (by simpa using ha)
  ·rw[if_neg hs]at h;cases fr with
   | nil=>simp at h
   | cons f fr =>
    obtain⟨h1,h2,h3,h4⟩:=eY r fr (by simp at h;omega);have e:qd (f::fr) ((k,s)::r)=(f::(qd fr r).1,(f,s)::(qd fr r).2):=by
     simp[qd,hs]
    rw[e,vg,if_neg hs];refine⟨by simp[h1],by simp[h2],fun y hy=>?_,fun i hi ha=>?_⟩
    ·rcases List.mem_cons.1 hy with rfl|hy
     ·exact⟨(k,s),by simp,rfl⟩
     ·obtain⟨c,hc,he⟩:=h3 y hy;exact⟨c,by simp[hc],he⟩
    ·cases i with
     | zero=>exact .inr ⟨hs,by simp⟩
     | succ i =>
      rcases h4 i (by simpa using hi) (by simpa using ha)with h5|h5
      ·exact .inl h5
      ·exact .inr ⟨h5.1,by simp;exact .inr h5.2⟩
theorem dN:∀(x:List (Int × Bt)) (fr:List Int),∀a∈(qd fr x).1,a=0∨a∈fr
 | [],fr,a,h=>by simp[qd]at h
 | (k,s)::r,fr,a,h=>by
  by_cases hs:s=zb
  ·have e:qd fr ((k,s)::r)=(0::(qd fr r).1,(qd fr r).2):=by
      cases fr <;> simp[qd,hs]
   rw[e]at h;rcases List.mem_cons.1 h with h|h
   ·exact .inl h
   ·exact dN r fr a h
  ·cases fr with
   | nil =>
    have e:qd [] ((k,s)::r)=(0::(qd [] r).1,(qd [] r).2):=by simp[qd]
    rw[e]at h;rcases List.mem_cons.1 h with h|h
    ·exact .inl h
    ·exact dN r [] a h
   | cons f fr =>
    have e:qd (f::fr) ((k,s)::r)=(f::(qd fr r).1,(f,s)::(qd fr r).2):=by simp[qd,hs]
    rw[e]at h;rcases List.mem_cons.1 h with h|h
    ·exact .inr (by simp[h])
    ·rcases dN r fr a h with h|h
     ·exact .inl h
     ·exact .inr (by simp[h])
theorem ur:∀(x:List (Int × Bt)) (fr:List Int),fr.Nodup→∀i j,i<j→j<(qd fr x).1.length→pl (qd fr x).1 i=pl (qd fr x).1 j→pl (qd fr x).1 i=0
 | [],fr,_,i,j,_,hj,_=>by simp[qd]at hj
 | (k,s)::r,fr,hn,i,j,hij,hj,he=>by
  have zero:∀(A:List Int) (hA:∀i j,i<j→j<A.length→pl A i=pl A j→pl A i=0),j<(0::A).length→pl (0::A) i=pl (0::A) j→pl (0::A) i=0:=by
   intro A hA hj he;cases i with
   | zero=>rfl
   | succ i =>
    cases j with
    | zero=>omega
    | succ j=>exact hA i j (by omega) (by simpa using hj) (by simpa[pl]using he)
  by_cases hs:s=zb
  ·have e:qd fr ((k,s)::r)=(0::(qd fr r).1,(qd fr r).2):=by
      cases fr <;> simp[qd,hs]
   rw[e]at hj he ⊢;exact zero _ (ur r fr hn) hj he
  ·cases fr with
   | nil =>
    have e:qd [] ((k,s)::r)=(0::(qd [] r).1,(qd [] r).2):=by simp[qd]
    rw[e]at hj he ⊢;exact zero _ (ur r [] hn) hj he
   | cons f fr =>
    have e:qd (f::fr) ((k,s)::r)=(f::(qd fr r).1,(f,s)::(qd fr r).2):=by simp[qd,hs]
    rw[e]at hj he ⊢;rw[List.nodup_cons]at hn;cases j with
    | zero=>omega
    | succ j =>
     have hj':j<(qd fr r).1.length:=by simpa using hj
     cases i with
     | zero =>
      have hm:=dN r fr (qd fr r).1[j] (List.getElem_mem hj');have he':f=(qd fr r).1[j]:=by
       have:=he;unfold pl at this;simpa[List.getD,hj']using this
      rcases hm with h|h
      ·show f=0;rw[he',h]
      ·exact absurd (he' ▸ h) hn.1
     | succ i=>exact ur r fr hn.2 i j (by omega) hj' (by simpa[pl]using he)
theorem sD (x:List (Int × Bt)):full x≤x.length:=List.length_filter_le _ _
def ie (b N:Nat)(m:Mt)(x:List (Int × Bt)):Prop:=N<193+b*(m.qa.length+2)+x.length
structure eZ(N:Nat)(m:Mt)(x:List (Int × Bt))(at_:List Int)(ws:List Wr):Prop where
 len:at_.length=x.length
 wok:wO N m ws
 each:∀i (hi:i<x.length) (ha:i<at_.length),(x[i].2=zb∧at_[i]=0)∨(x[i].2≠zb∧(at_[i],x[i].2)∈ws)
 fresh:∀i j,i<j→j<at_.length→pl at_ i=pl at_ j→pl at_ i=0
theorem yM (h:yD b N m)(hN:N≤1024)(x:List (Int × Bt))(hx:x.length≤8)(h32:∀c∈x,c.2.length=32) :
    ((qw N m x).2=7∧ie b N m x)∨((qw N m x).2=0∧eZ N m x (qw N m x).1.1 (qw N m x).1.2):=by
 obtain⟨cs,h1,h2,h3,h4⟩:=aM h hN;have hf:=sD x;have hst:yP cs (full x:Int)=if (xY cs:Int)<(full x:Int)then([],7)else((qR cs cs.length).take (full x),0):=by
  unfold yP;rw[if_neg (by omega),Int.toNat_natCast]
 unfold qw;rw[h1];dsimp only;rw[hst];by_cases hfull:(xY cs:Int)<(full x:Int)
 ·rw[if_pos hfull]
  left
  exact⟨by simp,by unfold ie;omega⟩
 ·rw[if_neg hfull]
  right
  simp only[if_true];refine⟨trivial,?_⟩;have hlen:full x≤((qR cs cs.length).take (full x)).length:=by
   rw[List.length_take];unfold xY at hfull;omega
  obtain⟨p1,p2,p3,p4⟩:=eY x _ hlen;have hmem:∀y∈(qd ((qR cs cs.length).take (full x)) x).2,y.1∈qR cs cs.length:=fun y hy=>by
   have:y.1∈(qd ((qR cs cs.length).take (full x)) x).2.map (·.1):=List.mem_map_of_mem hy;rw[p2]at this;exact List.mem_of_mem_take (List.mem_of_mem_take this)
  have hnd:((qd ((qR cs cs.length).take (full x)) x).2.map (·.1)).Nodup:=by
   rw[p2];have hr:=mh cs cs.length;have:(qR cs cs.length).Nodup:=hr.imp (fun h=>by omega);exact(this.sublist (List.take_sublist _ _)).sublist (List.take_sublist _ _)
  have q8Y:(qd ((qR cs cs.length).take (full x)) x).2.length=full x:=by
   have:=congrArg List.length p2;rw[List.length_map,List.length_take,List.length_take]at this;unfold xY at hfull;omega
  have q2W:wO N m (qd ((qR cs cs.length).take (full x)) x).2:=by
   refine⟨by omega,hnd,fun y hy=>?_,fun y hy hh=>?_,fun y hy=>?_⟩
   ·obtain⟨j,e,g1,g2,_⟩:=eV.1 (hmem y hy);omega
   ·obtain⟨j,e,g1,g2,g3⟩:=eV.1 (hmem y hy);have:=h3 y.1 hh (by omega);rw[e,Int.toNat_natCast]at this;omega
   ·obtain⟨c,hc,e⟩:=p3 y hy;rw[e];exact h32 c hc
  have hfn:((qR cs cs.length).take (full x)).Nodup:=by
   have hr:=mh cs cs.length;have:(qR cs cs.length).Nodup:=hr.imp (fun h=>by omega);exact this.sublist (List.take_sublist _ _)
  exact⟨p1,q2W,p4,ur x _ hfn⟩
end
end Go.Proofs.YtdagdllomphidaaGreatDoor.vt
namespace Go.Proofs.YtdagdllomphidaaGreatDoor.im
open _root_.Go.Proofs.Tryz Go Go.RowKit
theorem qkq{l:List Int}{j:Nat}(hj:j<l.length)(s:Int)(i:Nat):pl (l.set j s) i=if i=j then s else pl l i:=by
 unfold pl;rw[List.getD_eq_getElem?_getD,List.getD_eq_getElem?_getD,List.getElem?_set];by_cases e:j=i
 ·subst e;rw[if_pos rfl,if_pos hj,if_pos rfl];rfl
 ·rw[if_neg e,if_neg (fun h=>e h.symm)]
end Go.Proofs.YtdagdllomphidaaGreatDoor.im
namespace Go.Proofs.YtdagdllomphidaaGreatDoor.vt
open _root_.Go.Proofs.Tryz Go Go.RowKit jr mt im sp
def uD:List Bt→List (Int × Bt)→List Bt
 | l,[]=>l
 | l,(k,s)::r=>uD (l.set k.toNat s) r
theorem qdx(t:Tg)(l:List Int)(k:Nat)(a:Int):qy t (l.set k a)=(qy t l).set k (bj t a):=by
 unfold qy;rw[List.map_set]
theorem kU (t:Tg)(l:List Int):(qy t l).length=l.length:=by simp[qy]
theorem jB (l a:List Int):zt l [] a=l:=by simp[zt]
theorem aN (l:List Int)(y:Int × Bt)(r:List (Int × Bt)):zt l (y::r) []=l:=by simp[zt]
theorem jf (l:List Int)(k:Int)(s:Bt)(r:List (Int × Bt))(a:Int)(at_:List Int):zt l ((k,s)::r) (a::at_)=zt (l.set k.toNat a) r at_:=by simp[zt]
theorem aO (t:Tg):∀(x:List (Int × Bt)) (at_:List Int) (l:List Int),at_.length=x.length→(∀i (hi:i<x.length) (ha:i<at_.length),bj t at_[i]=x[i].2)→qy t (zt l x at_)=uD (qy t l) x
 | [],_,_,_,_=>by rw[jB];rfl
 | (k,s)::r,[],l,h,_=>by simp at h
 | (k,s)::r,a::at_,l,h,hv=>by
  have h0:=hv 0 (by simp) (by simp);have ih:=aO t r at_ (l.set k.toNat a) (by simpa using h) (fun i hi ha=>hv (i+1) (by simpa using hi) (by simpa using ha));show qy t (zt l ((k,s)::r) (a::at_))=uD ((qy t l).set k.toNat s) r;rw[jf,ih,qdx]
  congr 2
theorem aP:∀(x:List (Int × Bt)) (at_:List Int) (l:List Int),(zt l x at_).length=l.length
 | [],_,_=>by rw[jB]
 | (_,_)::_,[],_=>by rw[aN]
 | (k,s)::r,a::at_,l=>by
  rw[jf,aP r at_,List.length_set]
theorem qkr{l:List Int}{i:Nat}(h:i<l.length):pl l i∈l:=by rw[bn h];exact List.getElem_mem h
theorem yX.qo{b N:Nat}{l:List Int}(h:yX b N l)(k:Nat)(a:Int)(ha:a=0∨(193≤a∧a<(N:Int)∧a ∉ l)):yX b N (l.set k a):=by
 refine⟨by rw[List.length_set];exact h.1,fun z hz=>?_,fun i j hij hj e=>?_⟩
 ·rcases List.mem_or_eq_of_mem_set hz with hz|rfl
  ·exact h.2.1 z hz
  ·rcases ha with h|h
   ·exact .inl h
   ·exact .inr ⟨h.1,h.2.1⟩
 ·rw[List.length_set]at hj;by_cases hk:k<l.length
  ·rw[qkq hk]at e ⊢;rw[qkq hk]at e;by_cases h1:i=k
   ·rw[if_pos h1]at e ⊢;rw[if_neg (by omega)]at e;rcases ha with h|h
    ·exact h
    ·exact absurd (e ▸ qkr hj) h.2.2
   ·rw[if_neg h1]at e ⊢;by_cases h2:j=k
    ·rw[if_pos h2]at e;rcases ha with h|h
     ·rw[e,h]
     ·exact absurd (e ▸ qkr (by omega)) h.2.2
    ·rw[if_neg h2]at e;exact h.2.2 i j hij hj e
  ·rw[List.set_eq_of_length_le (by omega)]at e ⊢;exact h.2.2 i j hij hj e
theorem pJ {b N:Nat}:∀(x:List (Int × Bt)) (at_:List Int) (l:List Int),yX b N l→(∀a∈at_,a=0∨(193≤a∧a<(N:Int)∧a ∉ l))→(∀i j,i<j→j<at_.length→pl at_ i=pl at_ j→pl at_ i=0)→yX b N (zt l x at_)
 | [],_,_,h,_,_=>by rw[jB];exact h
 | (_,_)::_,[],_,h,_,_=>by rw[aN];exact h
 | (k,s)::r,a::at_,l,h,ha,hf=>by
  rw[jf];refine pJ r at_ (l.set k.toNat a) (h.qo k.toNat a (ha a (by simp))) (fun a' ha'=>?_) (fun i j hij hj e=>?_)
  ·rcases ha a' (by simp[ha'])with h0|h0
   ·exact .inl h0
   ·by_cases e:a'=a
    ·left
     obtain⟨j,hj,e2⟩:=List.getElem_of_mem ha';have:=hf 0 (j+1) (by omega) (by simpa using hj) (by
      show a=pl (a::at_) (j+1);rw[bn (by simpa using hj)];simp[e2,e])
     rw[e];exact this
    ·refine .inr ⟨h0.1,h0.2.1,fun hm=>?_⟩;rcases List.mem_or_eq_of_mem_set hm with hm|hm
     ·exact h0.2.2 hm
     ·exact e hm
  ·exact hf (i+1) (j+1) (by omega) (by simpa using hj) e
theorem jJ {b:Nat}:∀ {x:List (Int × Bt)} {p:Int},xx b p x=true→∀c∈x,c.2.length=32∧p<c.1∧c.1<(b:Int)
 | (k,s)::r,p,h,c,hc=>by
  unfold xx at h;simp only[Bool.and_eq_true,decide_eq_true_eq]at h;obtain⟨⟨⟨h1,h2⟩,h3⟩,h4⟩:=h;rcases List.mem_cons.1 hc with rfl|hc
  ·exact⟨h3,h1,h2⟩
  ·have:=jJ h4 c hc;exact⟨this.1,by omega,this.2.2⟩
theorem fg {b:Nat}:∀ {x:List (Int × Bt)} {p:Int},xx b p x=true → -1≤p→p<(b:Int)→(x.length:Int)≤(b:Int)-1-p
 | [],p,_,_,h=>by simp;omega
 | (k,s)::r,p,h,h0,hb=>by
  unfold xx at h;simp only[Bool.and_eq_true,decide_eq_true_eq]at h;obtain⟨⟨⟨h1,h2⟩,h3⟩,h4⟩:=h;have:=fg h4 (by omega) h2;rw[List.length_cons];omega
section
variable {b N:Nat} {t:Tg} {m:Mt}
theorem qbf(t:Tg)(m:Mt):(zX t m).last=qH m:=by
 unfold zX ch.CH.last qH;dsimp only;rw[List.getLast?_map];cases m.qa.getLast? <;> rfl
theorem qks(t:Tg)(m:Mt):(zX t m).base=qy t (xO m):=by
 unfold zX ch.CH.base xO;dsimp only;rw[List.getLast?_map];cases m.qa.getLast? with
 | none =>
  show ch.gK (qy t m.live).length=_;rw[kU];unfold ch.gK qy;rw[List.map_replicate];rfl
 | some s=>rfl
theorem cj (h:yD b N m):yX b N (xO m):=by
 unfold xO;split
 ·have hl:=h.len;refine⟨by rw[List.length_replicate];exact hl,fun z hz=>.inl (List.eq_of_mem_replicate hz),fun i j hij hj _=>?_⟩;rw[List.length_replicate]at hj;rw[bn (by rw[List.length_replicate];omega),List.getElem_replicate]
 ·rename_i s hs;exact h.uf s (List.mem_of_getLast? hs)
theorem mq (z:Int)(hz:z∈xO m):z=0∨held m z:=by
 unfold xO at hz;split at hz
 ·exact .inl (List.eq_of_mem_replicate hz)
 ·rename_i s hs;exact .inr ⟨s.qj,qfc (List.mem_of_getLast? hs),hz⟩
theorem qxB(h:yD b N m):xn (qH m):=by
 unfold qH;split
 ·exact lg
 ·rename_i s hs;exact h.nP.qa s (List.mem_of_getLast? hs)
theorem mr {g:Gd}:∀(l:List Gd) (p:Gd),kT p l→mt.above g (l.getLast?.getD p)=true→kT p (l++[g])
 | [],p,_,h=>⟨h,trivial⟩
 | x::l,p,h,hg=>by
  refine⟨h.1,mr l x h.2 ?_⟩;cases l with
  | nil=>exact hg
  | cons y l=>rw[List.getLast?_cons_cons]at hg;rw[List.getLast?_cons]at hg ⊢;exact hg
theorem mv:∀(l:List Gd) (p:Gd) (n:Nat),kT p l→kT p (l.take n)
 | [],p,n,_=>by simp[kT]
 | x::l,p,0,_=>trivial
 | x::l,p,n+1,h=>⟨h.1,mv l x n h.2⟩
theorem fh (m:Mt):(m.qa.map (·.g)).getLast?.getD (0,0)=qH m:=by
 unfold qH;rw[List.getLast?_map];cases m.qa.getLast? <;> rfl
theorem qdy{m:Mt}(h:mB m)(sn:List Sp)(l:List Int)(hs:∀s∈sn,xn s.g):mB ⟨l,sn,zL⟩:=⟨hs,lg,lg⟩
theorem yD.push(h:yD b N m)(g:Gd)(hg:xn g)(l qj:List Int)(hl:yX b N l)(hi:yX b N qj)(ha:mt.above g (qH m)=true)(hf:m.qa.length<20):yD b N ⟨l,m.qa++[⟨g,qj,false⟩],zL⟩:=by
 refine⟨h.b1,h.b8,hl,?_,fun s hs=>?_,?_,.inl rfl,qdy h.nP _ _ fun s hs=>?_⟩
 ·show(m.qa++[_]).length≤20;rw[List.length_append,List.length_singleton];omega
 ·rcases List.mem_append.1 hs with hs|hs
  ·exact h.uf s hs
  ·obtain rfl:s=_:=by simpa using hs
   exact hi
 ·show kT (0,0) ((m.qa++[(⟨g,qj,false⟩:Sp)]).map (fun s=>s.g));rw[List.map_append];exact mr _ _ h.qba (by rw[fh];exact ha)
 ·rcases List.mem_append.1 hs with hs|hs
  ·exact h.nP.qa s hs
  ·obtain rfl:s=_:=by simpa using hs
   exact hg
theorem wO.nil(N:Nat)(m:Mt):wO N m []:=⟨by simp,by simp,fun x hx=>absurd hx (by simp),fun x hx=>absurd hx (by simp),fun x hx=>absurd hx (by simp)⟩
structure Does(b N:Nat)(t:Tg)(m:Mt)(P:dT)(c:ch.CH):Prop where
 ok:yD b N P.m
 ws:wO N m P.ws
 zX:zX (over t (qC t P.m P.ws)) P.m=c
theorem my {m':Mt}{x:List (Int × Bt)}{at_:List Int}{ws:List Wr}(h:qM b N t m)(ho:yD b N m')(hp:eZ N m x at_ ws):∀i (hi:i<x.length) (ha:i<at_.length),bj (over t (qC t m' ws)) at_[i]=x[i].2:=by
 intro i hi ha;unfold bj;rcases hp.each i hi ha with⟨h1,h2⟩|⟨h1,h2⟩
 ·rw[if_pos h2,h1]
 ·have hr:=hp.wok.range _ h2;dsimp only at hr;rw[if_neg (by omega)];exact qdt h ho hp.wok _ h2
theorem pK {l:List Int}{x:List (Int × Bt)}{at_:List Int}{ws:List Wr}(hp:eZ N m x at_ ws)(hl:yX b N l)(hh:∀z∈l,z=0∨held m z):yX b N (zt l x at_):=by
 refine pJ x at_ l hl (fun a ha=>?_) hp.fresh;obtain⟨i,hi,rfl⟩:=List.getElem_of_mem ha;rcases hp.each i (by rw[← hp.len];exact hi) hi with⟨_,h2⟩|⟨_,h2⟩
 ·exact .inl h2
 ·have hr:=hp.wok.range _ h2;refine .inr ⟨hr.1,hr.2,fun hm=>?_⟩;rcases hh _ hm with h0|h0
  ·have hr1:=hr.1;dsimp only at hr1;omega
  ·exact hp.wok.free _ h2 h0
end
end Go.Proofs.YtdagdllomphidaaGreatDoor.vt
namespace Go.Proofs.YtdagdllomphidaaGreatDoor.vt
open _root_.Go.Proofs.Tryz Go Go.RowKit jr mt im sp
section
variable {b N:Nat} {t:Tg} {m:Mt}
theorem yY {m':Mt}{ws:List Wr}(h:qM b N t m)(ho:yD b N m')(hw:wO N m ws):m.qa.map (cd (over t (qC t m' ws)))=m.qa.map (cd t):=by
 have:=qko h ho hw;unfold zX at this;exact(ch.CH.mk.inj this).2
theorem vh {m':Mt}{ws:List Wr}(h:qM b N t m)(ho:yD b N m')(hw:wO N m ws):qy (over t (qC t m' ws)) m.live=qy t m.live:=mo h ho hw (sB m) h.ok.live
theorem mA (h:qM b N t m)(k:Int)(s:Bt) :
    ((zZ N m k s).code=7∧ie b N m [(k,s)])∨((zZ N m k s).code=((zX t m).write k s).2∧((zZ N m k s).code=0→Does b N t m (zZ N m k s) ((zX t m).write k s).1)∧((zZ N m k s).code≠0→((zX t m).write k s).1=zX t m)):=by
 have hl:(zX t m).live.length=m.live.length:=kU t m.live;by_cases hb:k<0∨(m.live.length:Int)≤k∨s.length≠32
 ·right
  have e1:zZ N m k s=⟨2,m,[]⟩:=by unfold zZ;rw[if_pos hb]
  have e2:(zX t m).write k s=(zX t m,2):=by unfold ch.CH.write;rw[hl,if_pos hb]
  rw[e1,e2];exact⟨rfl,fun h=>absurd h (by simp),fun _=>rfl⟩
 ·have e2:(zX t m).write k s=(⟨(zX t m).live.set k.toNat s,(zX t m).qa⟩,0):=by unfold ch.CH.write;rw[hl,if_neg hb]
  rcases yM h.ok h.N1 [(k,s)] (by simp) (fun c hc=>by simp at hc;subst hc;exact Classical.byContradiction fun h=>hb (.inr (.inr h)))with⟨h7,hN⟩|⟨h0,hp⟩
  ·left
   unfold zZ;rw[if_neg hb,h7];exact⟨rfl,hN⟩
  ·right
   have e1:zZ N m k s=⟨0,{ m with live:=zt m.live [(k,s)] (qw N m [(k,s)]).1.1 },(qw N m [(k,s)]).1.2⟩:=by
    unfold zZ;rw[if_neg hb,if_pos h0]
   generalize (qw N m [(k,s)]).1.1=at_ at *;generalize (qw N m [(k,s)]).1.2=ws at *;rw[e1,e2];refine⟨rfl,fun _=>?_,fun h=>absurd rfl h⟩;have jq:yD b N { m with live:=zt m.live [(k,s)] at_ }:=by
    have ho:=h.ok;refine⟨ho.b1,ho.b8,pK hp ho.live (fun z hz=>.inr ⟨m.live,sB m,hz⟩),ho.few,ho.uf,ho.qba,ho.tok,⟨ho.nP.qa,ho.nP.base,ho.nP.target⟩⟩
   refine⟨jq,hp.wok,?_⟩;unfold zX;dsimp only
   congr 1
   ·rw[aO _ [(k,s)] at_ m.live hp.len (my h jq hp),vh h jq hp.wok];rfl
   ·exact yY h jq hp.wok
theorem fj (h:qM b N t m)(g:Gd)(hg:xn g) :
    (yv m g).code=((zX t m).snap g).2∧((yv m g).code=0→Does b N t m (yv m g) ((zX t m).snap g).1)∧((yv m g).code≠0→((zX t m).snap g).1=zX t m):=by
 have hl:(zX t m).qa.length=m.qa.length:=by simp[zX]
 have hm:(zX t m).may g=if mt.above g (qH m)=true then(if 20≤m.qa.length then 3 else 0)else 2:=by
  unfold ch.CH.may;rw[qbf,hl];rfl
 unfold yv ch.CH.snap;rw[hm];by_cases ha:mt.above g (qH m)=true
 ·rw[if_neg (by rw[ha];decide),if_pos ha];by_cases hf:20≤m.qa.length
  ·rw[if_pos hf,if_pos hf];exact⟨rfl,fun h=>absurd h (by simp),fun _=>rfl⟩
  ·rw[if_neg hf,if_neg hf];refine⟨rfl,fun _=>?_,fun h=>absurd rfl h⟩;have jq:yD b N { m with qa:=m.qa++[⟨g,m.live,false⟩],tok:=zL }:=h.ok.push g hg m.live m.live h.ok.live h.ok.live ha (by omega);refine⟨jq,wO.nil N m,?_⟩;have h1:=vh h jq (wO.nil N m);have h2:=yY h jq (wO.nil N m);show zX (over t (qC t _ [])) _=_;generalize over t (qC t { m with qa:=m.qa++[⟨g,m.live,false⟩],tok:=zL } [])=t' at *;unfold zX;dsimp only;rw[List.map_append,h1,h2,if_pos rfl];simp only[List.map_cons,List.map_nil,cd,h1]
 ·rw[if_pos (by simpa using ha),if_neg ha];exact⟨rfl,fun h=>absurd h (by simp),fun _=>rfl⟩
theorem yD.take(h:yD b N m)(n:Nat)(l:List Int)(hl:yX b N l):yD b N ⟨l,m.qa.take n,zL⟩:=by
 refine⟨h.b1,h.b8,hl,?_,fun s hs=>h.uf s (List.mem_of_mem_take hs),?_,.inl rfl,qdy h.nP _ _ fun s hs=>h.nP.qa s (List.mem_of_mem_take hs)⟩
 ·show(m.qa.take n).length≤20;have:=h.few;rw[List.length_take];omega
 ·show kT (0,0) ((m.qa.take n).map (·.g));rw[List.map_take];exact mv _ _ n h.qba
theorem pL (h:qM b N t m)(n:Int) :
    (kg m n).code=((zX t m).roll n).2∧((kg m n).code=0→Does b N t m (kg m n) ((zX t m).roll n).1)∧((kg m n).code≠0→((zX t m).roll n).1=zX t m):=by
 have hl:(zX t m).qa.length=m.qa.length:=by simp[zX]
 unfold kg ch.CH.roll;rw[hl];by_cases hb:n<0∨(m.qa.length:Int)<n
 ·rw[if_pos hb,if_pos hb];exact⟨rfl,fun h=>absurd h (by simp),fun _=>rfl⟩
 ·rw[if_neg hb,if_neg hb];refine⟨rfl,fun _=>?_,fun h=>absurd rfl h⟩;have uM:yX b N (xO { m with qa:=m.qa.take n.toNat }):=cj (m:={ m with qa:=m.qa.take n.toNat,tok:=zL }) (h.ok.take n.toNat m.live h.ok.live);have jq:yD b N ⟨xO { m with qa:=m.qa.take n.toNat },m.qa.take n.toNat,zL⟩:=h.ok.take n.toNat _ uM;refine⟨jq,wO.nil N m,?_⟩;have h2:=yY h jq (wO.nil N m);have hli:qy (over t (qC t ⟨xO { m with qa:=m.qa.take n.toNat },m.qa.take n.toNat,zL⟩ [])) (xO { m with qa:=m.qa.take n.toNat })=qy t (xO { m with qa:=m.qa.take n.toNat }):=by
   have hm:=mq (m:={ m with qa:=m.qa.take n.toNat });unfold qy;apply List.map_congr_left;intro z hz;unfold bj;split
   ·rfl
   ·rename_i h0;rcases hm z hz with h1|⟨l,hl,hzl⟩
    ·exact absurd h1 h0
    ·rcases uM.2.1 z hz with h1|h1
     ·exact absurd h1 h0
     ·refine gT h jq (wO.nil N m) z ⟨l,?_,hzl⟩ h1.1;unfold xe at hl ⊢;simp only[List.mem_cons,List.mem_map]at hl ⊢;rcases hl with h|h|⟨s,hs,e⟩
      ·exact .inl h
      ·exact .inr (.inl h)
      ·exact .inr (.inr ⟨s,List.mem_of_mem_take hs,e⟩)
  show zX (over t (qC t _ [])) _=_;generalize over t (qC t ⟨xO { m with qa:=m.qa.take n.toNat },m.qa.take n.toNat,zL⟩ [])=t' at *;have hb2:=qks t { m with qa:=m.qa.take n.toNat };unfold zX at hb2 ⊢;dsimp only at hb2 ⊢;rw[hli,List.map_take,h2,← hb2];simp only[List.map_take]
theorem qbg(t:Tg)(m:Mt)(g:Gd):(zX t m).find g=bZ m g:=by
 unfold ch.CH.find bZ zX;dsimp only;rw[List.findIdx?_map];rfl
theorem pM {l:List Sp}{i:Nat}{s:Sp}(h:s∈xA l i):∃r∈l,s.g=r.g∧s.qj=r.qj:=by
 unfold xA at h;obtain⟨j,hj,e⟩:=List.getElem_of_mem h;rw[List.length_modify]at hj;rw[List.getElem_modify]at e;refine⟨l[j],List.getElem_mem hj,?_⟩;rw[← e];split <;> exact⟨rfl,rfl⟩
theorem qfd(l:List Sp)(i:Nat):(xA l i).map (·.g)=l.map (·.g):=by
 apply List.ext_getElem
 ·simp[xA]
 ·intro j h1 h2;simp only[xA,List.getElem_map,List.getElem_modify];split <;> rfl
theorem qgZ(t:Tg)(l:List Sp)(i:Nat):(xA l i).map (cd t)=ch.yV (l.map (cd t)) i:=by
 apply List.ext_getElem
 ·simp[xA,ch.yV]
 ·intro j h1 h2;simp only[xA,ch.yV,List.getElem_map,List.getElem_modify];split <;> rfl
theorem sF (m:Mt)(i:Nat):qH { m with qa:=xA m.qa i }=qH m:=by
 rw[← fh,← fh];dsimp only;rw[qfd]
theorem yD.eW(h:yD b N m)(i:Nat):yD b N { m with qa:=xA m.qa i }:=by
 refine⟨h.b1,h.b8,h.live,?_,fun s hs=>?_,?_,?_,⟨fun s hs=>?_,h.nP.base,h.nP.target⟩⟩
 ·show(xA m.qa i).length≤20;unfold xA;rw[List.length_modify];exact h.few
 ·obtain⟨r,hr,_,e⟩:=pM hs;rw[e];exact h.uf r hr
 ·show kT (0,0) ((xA m.qa i).map (·.g));rw[qfd];exact h.qba
 ·rw[sF];exact h.tok
 ·obtain⟨r,hr,e,_⟩:=pM hs;rw[e];exact h.nP.qa r hr
theorem pN (h:qM b N t m)(g:Gd) :
    (kh m g).code=((zX t m).eW g).2∧((kh m g).code=0→Does b N t m (kh m g) ((zX t m).eW g).1)∧((kh m g).code≠0→((zX t m).eW g).1=zX t m):=by
 unfold kh ch.CH.eW;rw[qbg];cases hf:bZ m g with
 | none=>exact⟨rfl,fun h=>absurd h (by simp),fun _=>rfl⟩
 | some i =>
  dsimp only;have e:(zX t m).qa[i]?=(m.qa[i]?).map (cd t):=by simp[zX]
  rw[e];cases hs:m.qa[i]? with
  | none=>exact⟨rfl,fun h=>absurd h (by simp),fun _=>rfl⟩
  | some s =>
   simp only[Option.map_some];have eh:(cd t s).hid=s.hid:=rfl;rw[eh];cases hh:s.hid with
   | true=>exact⟨rfl,fun h=>absurd h (by simp),fun _=>rfl⟩
   | false =>
    refine⟨rfl,fun _=>?_,fun h=>absurd rfl h⟩;have jq:=h.ok.eW i;refine⟨jq,wO.nil N m,?_⟩;have h1:=vh h jq (wO.nil N m);have h2:=yY h jq (wO.nil N m);show zX (over t (qC t { m with qa:=xA m.qa i } [])) { m with qa:=xA m.qa i }=⟨(zX t m).live,ch.yV (zX t m).qa i⟩;generalize over t (qC t { m with qa:=xA m.qa i } [])=t' at *;unfold zX;dsimp only;rw[h1,qgZ,h2]
end
end Go.Proofs.YtdagdllomphidaaGreatDoor.vt
namespace Go.Proofs.YtdagdllomphidaaGreatDoor.vt
open _root_.Go.Proofs.Tryz Go Go.RowKit jr mt im sp
section
variable {b N:Nat} {t:Tg} {m:Mt}
def zI (m:Mt)(f:Tf):List Int:=if m.tok.base=f.base∧m.tok.target=f.target∧m.tok.all=f.all then m.tok.qj else xO m
structure qtN(b N:Nat)(t:Tg)(m:Mt)(f:Tf)(x:List (Int × Bt))(P:dT):Prop where
 whole:f.next=f.all→Does b N t m P ⟨uD (qy t (zI m f)) x,(zX t m).qa++[⟨f.target,uD (qy t (zI m f)) x,false⟩]⟩∧P.m.tok=zL
 part:f.next≠f.all→Does b N t m P (zX t m)∧tf P.m.tok=f∧qy (over t (qC t P.m P.ws)) P.m.tok.qj=uD (qy t (zI m f)) x
theorem mD {n:Nat}{last:Gd}{f:Tf}{x:List (Int × Bt)}(h:zF b n last f x=0) :
    f.base=last∧mt.above f.target last=true∧0≤f.next∧f.next≤f.all∧f.all≤(b:Int)∧(f.next=0↔f.all=0)∧xx b (-1) x=true∧(f.next=f.all→n<20):=by
 unfold zF at h;split at h
 ·cases h
 ·rename_i h1;split at h
  ·cases h
  ·rename_i h2;split at h
   ·cases h
   ·rename_i h3;have h2':xx b (-1) x=true:=by simpa using h2
    refine⟨Classical.byContradiction fun e=>h1 (.inl e),?_,by omega,by omega,by omega,Classical.byContradiction fun e=>h1 (by simp[e]),h2',fun e=>by omega⟩;cases ha:mt.above f.target last with
    | true=>rfl
    | false=>exact absurd (.inr (.inl ha)) h1
theorem vU (h:qM b N t m)(f:Tf)(hg:xn f.target)(x:List (Int × Bt)) :
    ((qT N m f x).code=7∧ie b N m x∧zF m.live.length m.qa.length (qH m) f x=0)∨((qT N m f x).code=zF m.live.length m.qa.length (qH m) f x∧((qT N m f x).code=0→qtN b N t m f x (qT N m f x))):=by
 have hlen:=h.ok.len;by_cases he:zF m.live.length m.qa.length (qH m) f x=0
 ·obtain⟨e1,e2,e3,e4,e5,e6,e7,e8⟩:=mD he;rw[hlen]at e5 e7;have hb1:=h.ok.b1;have hb8:=h.ok.b8;have wN:x.length≤8:=by
   have:=fg e7 (by omega) (by omega);omega
  rcases yM h.ok h.N1 x wN (fun c hc=>(jJ e7 c hc).1)with⟨h7,hN⟩|⟨h0,hp⟩
  ·left
   unfold qT;rw[if_neg (by rw[he];simp),if_pos (by rw[h7];decide),h7];exact⟨rfl,hN,he⟩
  ·right
   rw[he];have ou:yX b N (zI m f)∧∀z∈zI m f,z=0∨held m z:=by
    unfold zI;split
    ·rename_i hm;rcases h.ok.tok with ht|ht
     ·exfalso;rw[ht]at hm;have:f.target=(0,0):=hm.2.1.symm;rw[this]at e2;unfold mt.above at e2;simp at e2
     ·exact⟨ht.2.2.2.2.2,fun z hz=>.inr ⟨_,qtM m,hz⟩⟩
    ·exact⟨cj h.ok,fun z hz=>mq z hz⟩
   have hsv:∀ {m':Mt} (ho:yD b N m'),qy (over t (qC t m' (qw N m x).1.2)) (zI m f)=qy t (zI m f):=fun {m'} ho=>by
    unfold qy;apply List.map_congr_left;intro z hz;unfold bj;split
    ·rfl
    ·rename_i hz0;rcases ou.2 z hz with h1|h1
     ·exact absurd h1 hz0
     ·rcases ou.1.2.1 z hz with h2|h2
      ·exact absurd h2 hz0
      ·exact gT h ho hp.wok z h1 h2.1
   have qhb:yX b N (zt (zI m f) x (qw N m x).1.1):=pK hp ou.1 ou.2;have hiv:∀ {m':Mt} (ho:yD b N m'),qy (over t (qC t m' (qw N m x).1.2)) (zt (zI m f) x (qw N m x).1.1)=uD (qy t (zI m f)) x:=fun {m'} ho=>by
    rw[aO _ x _ _ hp.len (my h ho hp),hsv ho]
   unfold qT;rw[if_neg (by rw[he];simp),if_neg (by rw[h0];simp)];have qtO:(if m.tok.base=f.base∧m.tok.target=f.target∧m.tok.all=f.all then m.tok.qj else xO m)=zI m f:=rfl;rw[qtO];dsimp only;generalize zt (zI m f) x (qw N m x).1.1=qj at *;generalize (qw N m x).1.2=ws at *;have ov:=hp.wok;by_cases hn:f.next=f.all
   ·rw[if_pos hn];refine⟨rfl,fun _=>⟨fun _=>?_,fun h=>absurd hn h⟩⟩;have jq:yD b N ⟨qj,m.qa++[⟨f.target,qj,false⟩],zL⟩:=h.ok.push f.target hg qj qj qhb qhb e2 (e8 hn);have h2:=yY h jq ov;have h3:=hiv jq;refine⟨⟨jq,ov,?_⟩,rfl⟩;dsimp only;generalize over t (qC t ⟨qj,m.qa++[⟨f.target,qj,false⟩],zL⟩ ws)=t' at *;unfold zX;dsimp only;rw[h3,List.map_append,h2];simp only[List.map_cons,List.map_nil,cd,h3]
   ·rw[if_neg hn];refine⟨rfl,fun _=>⟨fun h=>absurd h hn,fun _=>?_⟩⟩;have jq:yD b N { m with tok:=⟨f.base,f.target,f.next,f.all,qj⟩ }:=by
     have ho:=h.ok;refine⟨ho.b1,ho.b8,ho.live,ho.few,ho.uf,ho.qba,.inr ⟨e1,?_,?_,?_,e5,qhb⟩,⟨ho.nP.qa,?_,hg⟩⟩
     ·show mt.above f.target f.base=true;rw[e1];exact e2
     ·show 1≤f.next;have:f.next≠0:=fun hz=>hn (by rw[hz,e6.1 hz]);omega
     ·show f.next<f.all;omega
     ·show xn f.base;rw[e1];exact qxB ho
    refine⟨⟨jq,ov,?_⟩,rfl,hiv jq⟩;have h1:=vh h jq ov;have h2:=yY h jq ov;dsimp only;generalize over t (qC t { m with tok:=⟨f.base,f.target,f.next,f.all,qj⟩ } ws)=t' at *;unfold zX;dsimp only;rw[h1,h2]
 ·right
  unfold qT;rw[if_pos he];exact⟨rfl,fun h=>absurd h he⟩
theorem gU (h:qM b N t m):Does b N t m (jF m) (zX t m):=by
 have jq:yD b N { m with tok:=zL }:=by
  have ho:=h.ok;exact⟨ho.b1,ho.b8,ho.live,ho.few,ho.uf,ho.qba,.inl rfl,qdy ho.nP _ _ ho.nP.qa⟩
 refine⟨jq,wO.nil N m,?_⟩;have h1:=vh h jq (wO.nil N m);have h2:=yY h jq (wO.nil N m);show zX (over t (qC t { m with tok:=zL } [])) { m with tok:=zL }=zX t m;generalize over t (qC t { m with tok:=zL } [])=t' at *;unfold zX;dsimp only;rw[h1,h2]
theorem qbh(u v:Bt)(hu:u.length≤8192)(k:Nat)(hk:k<(qL u).length):¬ uB ((qL u).take k) v:=by
 rintro⟨hv,e⟩;have hl:=congrArg List.length e;rw[List.length_take,Nat.min_eq_left (by omega),xN v]at hl;have zN:1≤k:=by rw[hl];exact bS _
 have h1:=congrArg List.flatten e;rw[yy]at h1;have h2:(qL u).flatten=((qL u).take k).flatten++((qL u).drop k).flatten:=by rw[← List.flatten_append,List.take_append_drop]
 rw[yy,h1]at h2;have h3:=ku u;have h4:=ku v;have h5:=yO v;have h6:(yr u).take 2=(yr v).take 2:=by
  rw[h2,List.take_append_of_le_length (by have:=bS v.length;omega)]
 rw[h3,h4]at h6;have:=qaV _ _ (by omega) (by omega) h6;rw[xN u,this]at hk;omega
end
end Go.Proofs.YtdagdllomphidaaGreatDoor.vt
namespace Go.Proofs.YtdagdllomphidaaGreatDoor.ch
open _root_.Go.Proofs.Tryz Go Go.RowKit ib
def xn (g:Gd):Prop:=g.1<18446744073709551616∧g.2<18446744073709551616
def gv (g:Gd):Value:=.agg #[.int .u64 (g.1:Int),.int .u64 (g.2:Int)]
def dU (w:World)(A:Option Addr)(x:List (Int × Bt)):Prop :=
 ∀i (h:i<x.length),∃b o,A=some ⟨b,o,none⟩∧b<w.heap.size∧w.cell? ⟨b,o+i*2,none⟩=some (.int .i64 x[i].1)∧w.cell? ⟨b,o+i*2+1,none⟩=some (.string (str x[i].2))∧yf x[i].1
theorem dU.below{w w':World}{A:Option Addr}{x:List (Int × Bt)}(h:dU w A x)(hb:Below w.heap.size w w'):dU w' A x:=by
 intro i hi;obtain⟨b,o,h1,h2,h3,h4,h5⟩:=h i hi;exact⟨b,o,h1,Nat.lt_of_lt_of_le h2 hb.size,by rw[hb.cell (p:=⟨b,o+i*2,none⟩) h2];exact h3,by rw[hb.cell (p:=⟨b,o+i*2+1,none⟩) h2];exact h4,h5⟩
theorem dU.nil(w:World)(A:Option Addr):dU w A []:=fun i h=>absurd h (by simp)
def qxC (r:List Bt)(w:World)(e:Ending)(w':World):Prop:=∃A cc,e=.returned (.slice A r.length cc)∧TxL w' A r∧ay w w' A∧Below w.heap.size w w'
def vk (r:List Bt × Int)(w:World)(e:Ending)(w':World):Prop:=∃A cc,e=.returned (.tuple #[.slice A r.1.length cc,.int .i64 r.2])∧TxL w' A r.1∧ay w w' A∧Below w.heap.size w w'
def pO (r:List (Int × Bt) × Int)(w:World)(e:Ending)(w':World):Prop:=∃A cc,e=.returned (.tuple #[.slice A r.1.length cc,.int .i64 r.2])∧dU w' A r.1∧ay w w' A∧Below w.heap.size w w'
def GdL (w:World)(A:Option Addr)(x:List Gd):Prop :=
 ∀i (h:i<x.length),∃b o,A=some ⟨b,o,none⟩∧b<w.heap.size∧w.cell? ⟨b,o+i*2,none⟩=some (.int .u64 (x[i].1:Int))∧w.cell? ⟨b,o+i*2+1,none⟩=some (.int .u64 (x[i].2:Int))∧xn x[i]
theorem GdL.below{w w':World}{A:Option Addr}{x:List Gd}(h:GdL w A x)(hb:Below w.heap.size w w'):GdL w' A x:=by
 intro i hi;obtain⟨b,o,h1,h2,h3,h4,h5⟩:=h i hi;exact⟨b,o,h1,Nat.lt_of_lt_of_le h2 hb.size,by rw[hb.cell (p:=⟨b,o+i*2,none⟩) h2];exact h3,by rw[hb.cell (p:=⟨b,o+i*2+1,none⟩) h2];exact h4,h5⟩
def sG (r:List Gd)(w:World)(e:Ending)(w':World):Prop:=∃A cc,e=.returned (.slice A r.length cc)∧GdL w' A r∧ay w w' A∧Below w.heap.size w w'
def IsT:=(Nat→Prop)→World→Nat→CH→Prop
def Aft (Is:IsT)(own:Nat→Prop)(p:Nat)(r:CH × Int)(w:World)(e:Ending)(w':World):Prop :=
 e=.returned (.int .i64 r.2)∧∃vN,Is vN w' p r.1∧qB own w w'∧∀j,vN j→own j∨w.heap.size≤j
def yE (r:Int)(w:World)(e:Ending)(w':World):Prop:=e=.returned (.int .i64 r)∧Below w.heap.size w w'
structure Ops(Is:IsT):Prop where
 low:∀ {own w p d},Is own w p d→∀j,own j→j<w.heap.size
 ok:∀ {own w p d},Is own w p d→d.ok
 keep:∀ {own w w' p d},Is own w p d→(∀j,own j→w'.heap[j]?=w.heap[j]?)→w.heap.size≤w'.heap.size→Is own w' p d
 write:∀ {own w p d} (k:Int) (s:Bt),Is own w p d→yf k→Calls prog 37 #[.pointer (some ⟨p,0,none⟩),.int .i64 k,.string (str s)] w (Aft Is own p (d.write k s) w)
 snap:∀ {own w p d} (g:Gd),Is own w p d→xn g→Calls prog 38 #[.pointer (some ⟨p,0,none⟩),gv g] w (Aft Is own p (d.snap g) w)
 add:∀ {own w p d} (g:Gd) (A:Option Addr) (c:Nat) (x:List (Int × Bt)),Is own w p d→xn g→dU w A x→x.length≤1000→(∀b o,A=some ⟨b,o,none⟩→¬ own b) →
  Calls prog 26 #[.pointer (some ⟨p,0,none⟩),gv g,.slice A x.length c] w (Aft Is own p (d.add g x) w)
 roll:∀ {own w p d} (k:Int),Is own w p d→yf k→Calls prog 39 #[.pointer (some ⟨p,0,none⟩),.int .i64 k] w (Aft Is own p (d.roll k) w)
 eW:∀ {own w p d} (g:Gd),Is own w p d→xn g→Calls prog 40 #[.pointer (some ⟨p,0,none⟩),gv g] w (Aft Is own p (d.eW g) w)
 live:∀ {own w p d},Is own w p d→Calls prog 48 #[.pointer (some ⟨p,0,none⟩)] w (qxC d.live w)
 list:∀ {own w p d},Is own w p d→Calls prog 49 #[.pointer (some ⟨p,0,none⟩)] w (sG d.list w)
 read:∀ {own w p d} (g:Gd),Is own w p d→xn g→Calls prog 50 #[.pointer (some ⟨p,0,none⟩),gv g] w (vk (d.read g) w)
 changes:∀ {own w p d} (k:Int),Is own w p d→yf k→Calls prog 51 #[.pointer (some ⟨p,0,none⟩),.int .i64 k] w (pO (d.changes k) w)
 at_:∀ {own w p d},Is own w p d→own p
structure Impl(Is:IsT):Prop extends Ops Is where
 qaI:∀(b:Int) (w:World),yf b→b<1∨8<b→Calls prog 10 #[.int .i64 b] w fun e w'=>e=.returned (.pointer none)∧Below w.heap.size w w'
 gu:∀(n:Nat) (w:World),1≤n→n≤8→Calls prog 10 #[.int .i64 (n:Int)] w fun e w'=>∃p own,e=.returned (.pointer (some ⟨p,0,none⟩))∧Is own w' p (wm n)∧Below w.heap.size w w'∧∀j,own j→w.heap.size≤j
 copy:∀ {own w p d},Is own w p d→Calls prog 14 #[.pointer (some ⟨p,0,none⟩)] w fun e w'=>∃q vN,e=.returned (.pointer (some ⟨q,0,none⟩))∧Is vN w' q d∧Below w.heap.size w w'∧∀j,vN j→(own j∧j≠p)∨w.heap.size≤j
 q2X:∀ {own w p d} (k:Int) (s:Bt),Is own w p d→yf k→Calls prog 37 #[.pointer (some ⟨p,0,none⟩),.int .i64 k,.string (str s)] w fun e w'=>Aft Is own p (d.write k s) w e w'∧qB (fun j=>j=p) w w'
 q6B:∀ {own w p d} (k:Int),Is own w p d→yf k→Calls prog 39 #[.pointer (some ⟨p,0,none⟩),.int .i64 k] w fun e w'=>Aft Is own p (d.roll k) w e w'∧qB (fun j=>j=p) w w'
 q6C:∀ {own w p d} (g:Gd),Is own w p d→xn g→Calls prog 38 #[.pointer (some ⟨p,0,none⟩),gv g] w fun e w'=>Aft Is own p (d.snap g) w e w'∧qB (fun j=>j=p) w w'
 q8Z:∀ {own w p d} (g:Gd) (A:Option Addr) (c:Nat) (x:List (Int × Bt)),Is own w p d→xn g→dU w A x→x.length≤1000 →
  Calls prog 26 #[.pointer (some ⟨p,0,none⟩),gv g,.slice A x.length c] w fun e w'=>Aft Is own p (d.add g x) w e w'∧qB (fun j=>j=p) w w'
 q6D:∀ {own w p d} (g:Gd),Is own w p d→xn g→Calls prog 40 #[.pointer (some ⟨p,0,none⟩),gv g] w fun e w'=>Aft Is own p (d.eW g) w e w'∧qB (fun j=>j=p) w w'
 qdz:∀(k:Int) (s:Bt) (w:World),yf k→Calls prog 37 #[.pointer none,.int .i64 k,.string (str s)] w (yE 1 w)
 qku:∀(g:Gd) (w:World),xn g→Calls prog 38 #[.pointer none,gv g] w (yE 1 w)
 q9a:∀(g:Gd) (A:Option Addr) (c:Nat) (x:List (Int × Bt)) (w:World),xn g→dU w A x→x.length≤1000→Calls prog 26 #[.pointer none,gv g,.slice A x.length c] w (yE 1 w)
 qkv:∀(k:Int) (w:World),yf k→Calls prog 39 #[.pointer none,.int .i64 k] w (yE 1 w)
 qkw:∀(g:Gd) (w:World),xn g→Calls prog 40 #[.pointer none,gv g] w (yE 1 w)
 qkx:∀(w:World),Calls prog 48 #[.pointer none] w (qxC [] w)
 qky:∀(w:World),Calls prog 49 #[.pointer none] w (sG [] w)
 qkz:∀(g:Gd) (w:World),xn g→Calls prog 50 #[.pointer none,gv g] w (vk ([],1) w)
 mE:∀(k:Int) (w:World),yf k→Calls prog 51 #[.pointer none,.int .i64 k] w (pO ([],1) w)
 q6E:∀(w:World),Calls prog 14 #[.pointer none] w fun e w'=>e=.returned (.pointer none)∧Below w.heap.size w w'
def Ch (Is:IsT)(w:World)(B p:Nat)(d:CH):Prop:=∃own,Is own w p d∧∀j,own j→B≤j
section
variable {Is:IsT} (H:Impl Is) {w w':World} {B p:Nat} {d:CH}
include H
theorem Ch.below(h:Ch Is w B p d)(hb:Below w.heap.size w w'):Ch Is w' B p d:=by
 obtain⟨own,h1,h2⟩:=h;exact⟨own,H.keep h1 (fun j hj=>hb.block j (H.low h1 j hj)) hb.size,h2⟩
def ChU (Is:IsT)(w:World)(B E p:Nat)(d:CH):Prop:=∃own,Is own w p d∧∀j,own j→B≤j∧j<E
theorem ChU.below{E:Nat}(h:ChU Is w B E p d)(hb:Below w.heap.size w w'):ChU Is w' B E p d:=by
 obtain⟨own,h1,h2⟩:=h;exact⟨own,H.keep h1 (fun j hj=>hb.block j (H.low h1 j hj)) hb.size,h2⟩
omit H in
theorem ChU.ch{E:Nat}(h:ChU Is w B E p d):Ch Is w B p d:=by
 obtain⟨own,h1,h2⟩:=h;exact⟨own,h1,fun j hj=>(h2 j hj).1⟩
end
end Go.Proofs.YtdagdllomphidaaGreatDoor.ch
namespace Go.Proofs.YtdagdllomphidaaGreatDoor
open _root_.Go.Proofs.Tryz Go.RowKit
def xC (w:World):Prop:=0<w.heap.size∧∀i,i<16→w.cell? ⟨0,i,none⟩=some (.int .u32 ((bQ.getD i 0:Nat):Int))
theorem xC.below{w w':World}{B:Nat}(h:xC w)(hb:Below B w w')(hB:0<B):xC w' :=
 ⟨Nat.lt_of_lt_of_le h.1 hb.size,fun i hi=>by rw[hb.cell (p:=⟨0,i,none⟩) hB];exact h.2 i hi⟩
def qk0 (b m:Nat)(w:World)(e:Ending)(w':World):Prop :=
 e=.returned (.tuple #[])∧Below b w w'∧w'.cell? ⟨b,0,none⟩=some (.int .u32 (m:Int))∧w'.frozen? ⟨b,0,none⟩=false
theorem qnS(i:Nat)(h:i<16):bQ.getD i 0<4294967296:=by
 have:∀i:Nat,i<16→bQ.getD i 0<4294967296:=by decide
 exact this i h
theorem qd0(n f:Nat)(hf:f<256):bits .and .u8 (bits .xor .u8 ((n:Int)%256) (f:Int)) 15=(((n%256^^^f)%16:Nat):Int):=by
 have e:(n:Int)%256=((n%256:Nat):Int):=by omega
 have hx:n%256^^^f<256:=Nat.xor_lt_two_pow (n:=8) (by omega) (by omega);rw[e,u8_xor_nat _ _ (by omega) hf,show(15:Int)=((15:Nat):Int)from rfl,u8_and_nat _ _ hx (by omega),nat_mask4]
theorem qk1(n f:Nat)(hn:n<4294967296):bits .xor .u32 ((n:Int)/16) ((bQ.getD ((n%256^^^f)%16) 0:Nat):Int)=((xX n f:Nat):Int):=by
 have e:(n:Int)/16=((n/16:Nat):Int):=by omega
 rw[e,u32_xor_nat _ _ (by omega) (qnS _ (Nat.mod_lt _ (by omega)))];rfl
theorem qbi(b n f:Nat)(w:World)(hn:n<4294967296)(hf:f<256)(ht:xC w)
    (hc:w.cell? ⟨b,0,none⟩=some (.int .u32 (n:Int))) (hz:w.frozen? ⟨b,0,none⟩=false) :
    Calls prog 203 #[.int .u8 (f:Int),.pointer (some ⟨b,0,none⟩)] w (qk0 b (xX n f) w):=by
 have hi:=qd0 n f hf;have hx:=qk1 n f hn;have hl:(n%256^^^f)%16<16:=Nat.mod_lt _ (by omega);have hg:=ht.2 _ hl;generalize xX n f=m at *;generalize (n%256^^^f)%16=i at *;generalize bQ.getD i 0=t at *;have hli:(i:Int)<16:=by omega
 have HT:=QH ht;clear ht;go_enter func203,ntmps203;go_wp2;go_region;all_goals
  go_end0
  exact⟨rfl,((Below.refl b w).setCell (p:=⟨b,0,none⟩) (Nat.le_refl b) _).drew,by go_simp,by go_simp⟩
theorem qnT(b n f:Nat)(w:World)(hn:n<4294967296)(hf:f<256)(ht:xC w)
    (hc:w.cell? ⟨b,0,none⟩=some (.int .u32 (n:Int))) (hz:w.frozen? ⟨b,0,none⟩=false) :
    Calls prog 203 #[.int .u8 ((f:Int)/16),.pointer (some ⟨b,0,none⟩)] w (qk0 b (xX n (f/16)) w):=by
 have h:=qbi b n (f/16) w hn (by omega) ht hc hz
 rwa [show((f/16:Nat):Int)=(f:Int)/16 from by omega]at h
def qnU (s:ByteArray)(w:World)(i:Value)(wr:World):Prop :=
 ∃k:Nat,k≤s.size∧i=.int .i64 (k:Int)∧Below w.heap.size w wr∧w.heap.size<wr.heap.size∧wr.cell? ⟨w.heap.size,0,none⟩=some (.int .u32 (oh 4294967295 ((bl s).take k):Int))∧wr.frozen? ⟨w.heap.size,0,none⟩=false
theorem qd1(s:ByteArray)(k:Nat)(h:k<s.size):(bl s).take (k+1)=(bl s).take k++[s[k]]:=by
 unfold bl;rw[List.take_succ_eq_append_getElem (by simpa using h)];rfl
def qtP (n:Nat)(w:World)(e:Ending)(w':World):Prop:=e=.returned (.int .u32 (n:Int))∧Below w.heap.size w w'
theorem qk2(s:ByteArray)(w:World)(hs:s.size≤9223372036854775807)(ht:xC w) :
    Calls prog 171 #[.string s] w (qtP (vP (bl s)) w):=by
 have HT:=QH ht;have hgw:=ht.1;clear ht;go_enter func171,ntmps171;go_wp2;have b0:Below w.heap.size w (w.alloc (.cells #[.int .u32 4294967295] 250)):=(Below.refl _ _).alloc (Nat.le_refl _) _;go_loopw [9] (fun i wr=>qnU s w i wr) (fun i _=>s.size-(intOf i).toNat);case atStart=>exact⟨0,Nat.zero_le _,rfl,b0,by simp,by go_simp;rfl,by go_simp⟩
 case round =>
  obtain⟨k,hk,rfl,hB,hS,hC,hF⟩:=hrel;have hn:=sq ((bl s).take k) 4294967295 (by omega);by_cases hlt:k<s.size
  ·have hT1:=HT.out.below hB hgw;have hb:=s[k].toNat_lt;have hsn:=qd1 s k hlt;have hst:uY (oh 4294967295 ((bl s).take k)) s[k]=oh 4294967295 ((bl s).take (k+1)):=by rw[hsn,qgI]
   rw[← halves]at hst;have hn1:=qaR (oh 4294967295 ((bl s).take k)) s[k].toNat hn;have Hst:=QH hst;clear hsn hst;go_wp2_with (go_at_call 203;refine(qbi w.heap.size _ s[k].toNat _ hn (by omega) hT1 hC hF).mono ?_);rintro e W1 ⟨rfl,b1,c1,f1⟩;have hT2:=hT1.below b1 hgw;have hB1:=hB.trans b1;have hS1:=b1.size;clear hB b1 hC hF hT1;go_wp2_with (go_at_call 203;refine(qnT w.heap.size _ s[k].toNat _ hn1 (by omega) hT2 c1 f1).mono ?_);rintro e W2 ⟨rfl,b2,c2,f2⟩;have hB2:=hB1.trans b2;have sH:=b2.size;rw[Hst.out]at c2;clear hB1 b2 c1 f1 hT2;go_wp2;go_roundw;case rel=>exact⟨k+1,by omega,by go_num,hB2,by omega,c2,f2⟩
   case measure=>simp[intOf];omega
  ·have ee:k=s.size:=by omega
   subst ee;rw[List.take_of_length_le (by rw[zq];omega)]at hC hn;have hx:bits .xor .u32 IntKind.u32.max (oh 4294967295 (bl s):Int)=(vP (bl s):Int):=by
    rw[show IntKind.u32.max=((4294967295:Nat):Int)from rfl,u32_xor_nat _ _ (by omega) hn,Nat.xor_comm];rfl
   go_wp2;go_ret;exact⟨rfl,hB⟩
end Go.Proofs.YtdagdllomphidaaGreatDoor
namespace Go.Proofs.YtdagdllomphidaaGreatDoor.vt
open _root_.Go.Proofs.Tryz Go Go.RowKit jr mt im sp
abbrev jw:=(Nat→Prop)→World→Nat→Nat→Mt→Bool→Prop
abbrev DD:=dk.DD
def gN:Nat:=0
theorem zG {w:World}(h:xC w):gN<w.heap.size:=h.1
theorem x9 {w w':World}{B:Nat}(h:xC w)(hb:Below B w w')(hB:gN<B):xC w':=h.below hb hB
theorem vq {w w':World}(h:xC w)(hs:w.heap.size≤w'.heap.size)(hb:w'.heap[gN]?=w.heap[gN]?):xC w' :=
 ⟨Nat.lt_of_lt_of_le h.1 hs,fun i hi=>by rw[← h.2 i hi];exact World.cell?_of_block (w:=w) hb⟩
structure VP(Is:jw)(w:World)(o1 o2:Nat→Prop)(v pd:Nat)(d:DD)(m:Mt)(lost:Bool):Prop where
 is:Is o1 w v pd m lost
 dk:dk.zj 1000 w o2 pd d
 dj:∀j,o1 j∨j=gN→¬ o2 j
def kz (Is:jw)(o1 o2:Nat→Prop)(v pd:Nat)(Q:Int→DD→Mt→Bool→Prop)(w:World)(e:Ending)(w':World):Prop :=
 ∃r d' m' lost wP uL,e=.returned (.int .i64 r)∧VP Is w' wP uL v pd d' m' lost∧ib.qB (fun j=>o1 j∨o2 j) w w'∧(∀j,wP j∨uL j→(o1 j∨o2 j)∨w.heap.size≤j)∧Q r d' m' lost
def xp (N:Nat)(t:Tg)(d:DD)(m:Mt)(P:dT)(r:Int)(d':DD)(m':Mt)(lost:Bool):Prop :=
 (P.code≠0∧r=P.code∧d'=d∧m'=m∧lost=false) ∨
 (P.code=0∧r=0∧JJ N (over t (qC t P.m P.ws)) d'∧m'=P.m∧lost=false∧(d.qi=0→d'.qi=0)∧0≤d'.qi) ∨
 (P.code=0∧r=6∧qtL (fun e=>RJ N t e∨RJ N (over t (qC t P.m P.ws)) e) d'∧lost=true∧d.qi≠0∧d'.qi=0)
def mF (d:DD)(m:Mt)(r:Int)(d':DD)(m':Mt)(lost:Bool):Prop:=r=6∧d'=d∧m'=m∧lost=true
def tkV (f:Tf)(A:Option Addr)(n c:Nat):Value:=.agg #[.int .u64 (f.base.1:Int),.int .u64 (f.base.2:Int),.int .u64 (f.target.1:Int),.int .u64 (f.target.2:Int),.int .i64 f.next,.int .i64 f.all,.slice A n c]
structure TfB(f:Tf):Prop where
 base:xn f.base
 target:xn f.target
 next:ib.yf f.next
 all:ib.yf f.all
def qnV (w:World)(A:Option Addr)(l:List Int):Prop:=∀i (h:i<l.length),∃b o,A=some ⟨b,o,none⟩∧b<w.heap.size∧w.cell? ⟨b,o+i,none⟩=some (.int .i64 l[i])
def bp (t:Tk)(w:World)(e:Ending)(w':World):Prop:=∃A cc,e=.returned (tkV (tf t) A t.qj.length cc)∧qnV w' A t.qj∧ib.ay w w' A∧Below w.heap.size w w'
def m0 (b:Nat):Mt:=⟨List.replicate b 0,[],zL⟩
structure ki(Is:jw):Prop where
 tab:∀ {o w v pd m l},Is o w v pd m l→xC w
 low:∀ {o w v pd m l},Is o w v pd m l→∀j,o j∨j=gN→j<w.heap.size
 keep:∀ {o w w' v pd m l},Is o w v pd m l→(∀j,o j∨j=gN→w'.heap[j]?=w.heap[j]?)→w.heap.size≤w'.heap.size→Is o w' v pd m l
 nP:∀ {o w v pd m l},Is o w v pd m l→mB m
 mG:∀(b:Int) (w:World),ib.yf b→Calls prog 28 #[.pointer none,.int .i64 b] w (ch.yE 1 w)
 aQ:∀ {o w pd d} (b:Int),dk.zj 1000 w o pd d→d.more=[]→ib.yf b→b<1∨8<b∨d.n<193→Calls prog 28 #[.pointer (some ⟨pd,0,none⟩),.int .i64 b] w (ch.yE 2 w)
 fk:∀ {o w pd} (b N:Nat) (room:Int),dk.zj 1000 w o pd (dk.DD.new N room)→xC w→¬ o gN→1≤b→b≤8→193≤N→N≤1024→(N:Int)≤room →
  Calls prog 28 #[.pointer (some ⟨pd,0,none⟩),.int .i64 (b:Int)] w fun e w'=>e=.returned (.int .i64 0)∧∃t d' o',dk.zj 1000 w' o' pd d'∧JJ N t d'∧qM b N t (m0 b)∧d'.qi=0∧ib.qB o w w'∧∀j,o' j→o j∨w.heap.size≤j
 qbj:∀(w:World),Calls prog 12 #[.pointer none] w fun e w'=>e=.returned (.tuple #[.pointer none,.int .i64 1])∧Below w.heap.size w w'
 qbk:∀ {o w pd} (N:Nat) (room:Int),dk.zj 1000 w o pd (dk.DD.new N room)→xC w→145<N→N≤1024→Calls prog 12 #[.pointer (some ⟨pd,0,none⟩)] w fun e w'=>e=.returned (.tuple #[.pointer none,.int .i64 8])∧Below w.heap.size w w'
 iV:∀ {o w pd d N t b m},dk.zj 1000 w o pd d→xC w→¬ o gN→RJ N t d→d.qi=0→qM b N t m →
  Calls prog 12 #[.pointer (some ⟨pd,0,none⟩)] w fun e w'=>∃v d' wP uL,e=.returned (.tuple #[.pointer (some ⟨v,0,none⟩),.int .i64 0])∧VP Is w' wP uL v pd d' m false∧JJ N t d'∧d'.qi=0∧ib.qB o w w'∧(∀j,wP j→w.heap.size≤j)∧∀j,uL j→o j∨w.heap.size≤j
 blocks:∀ {o w v pd m l},Is o w v pd m l→Calls prog 35 #[.pointer (some ⟨v,0,none⟩)] w fun e w'=>e=.returned (.int .i64 (m.live.length:Int))∧Below w.heap.size w w'
 list:∀ {o w v pd m l},Is o w v pd m l→Calls prog 22 #[.pointer (some ⟨v,0,none⟩)] w (ch.sG (m.qa.map (·.g)) w)
 token:∀ {o w v pd m l},Is o w v pd m l→Calls prog 25 #[.pointer (some ⟨v,0,none⟩)] w (bp m.tok w)
 live:∀ {o1 o2 w v pd d m N t b},VP Is w o1 o2 v pd d m false→JJ N t d→qM b N t m→Calls prog 16 #[.pointer (some ⟨v,0,none⟩)] w (ch.vk (qy t m.live,0) w)
 read:∀ {o1 o2 w v pd d m N t b} (g:Gd),VP Is w o1 o2 v pd d m false→JJ N t d→qM b N t m→xn g→Calls prog 32 #[.pointer (some ⟨v,0,none⟩),ch.gv g] w (ch.vk ((zX t m).read g) w)
 changes:∀ {o1 o2 w v pd d m N t b} (k:Int),VP Is w o1 o2 v pd d m false→JJ N t d→qM b N t m→ib.yf k→Calls prog 33 #[.pointer (some ⟨v,0,none⟩),.int .i64 k] w (ch.pO ((zX t m).changes k) w)
 write:∀ {o1 o2 w v pd d m N t b} (k:Int) (s:Bt),VP Is w o1 o2 v pd d m false→JJ N t d→0≤d.qi→qM b N t m→ib.yf k →
  Calls prog 17 #[.pointer (some ⟨v,0,none⟩),.int .i64 k,.string (str s)] w (kz Is o1 o2 v pd (xp N t d m (zZ N m k s)) w)
 snap:∀ {o1 o2 w v pd d m N t b} (g:Gd),VP Is w o1 o2 v pd d m false→JJ N t d→0≤d.qi→qM b N t m→xn g →
  Calls prog 30 #[.pointer (some ⟨v,0,none⟩),ch.gv g] w (kz Is o1 o2 v pd (xp N t d m (yv m g)) w)
 roll:∀ {o1 o2 w v pd d m N t b} (n:Int),VP Is w o1 o2 v pd d m false→JJ N t d→0≤d.qi→qM b N t m→ib.yf n →
  Calls prog 34 #[.pointer (some ⟨v,0,none⟩),.int .i64 n] w (kz Is o1 o2 v pd (xp N t d m (kg m n)) w)
 eW:∀ {o1 o2 w v pd d m N t b} (g:Gd),VP Is w o1 o2 v pd d m false→JJ N t d→0≤d.qi→qM b N t m→xn g →
  Calls prog 31 #[.pointer (some ⟨v,0,none⟩),ch.gv g] w (kz Is o1 o2 v pd (xp N t d m (kh m g)) w)
 stage:∀ {o1 o2 w v pd d m N t b} (f:Tf) (A:Option Addr) (c:Nat) (x:List (Int × Bt)),VP Is w o1 o2 v pd d m false→JJ N t d→0≤d.qi→qM b N t m→TfB f→ch.dU w A x→x.length≤1000→(∀b o,A=some ⟨b,o,none⟩→¬ o1 b∧¬ o2 b) →
  Calls prog 24 #[.pointer (some ⟨v,0,none⟩),tkV f none 0 0,.slice A x.length c] w (kz Is o1 o2 v pd (xp N t d m (qT N m f x)) w)
 forget:∀ {o1 o2 w v pd d m N t b},VP Is w o1 o2 v pd d m false→JJ N t d→0≤d.qi→qM b N t m →
  Calls prog 19 #[.pointer (some ⟨v,0,none⟩)] w (kz Is o1 o2 v pd (xp N t d m (jF m)) w)
 qk3:∀ {o1 o2 w v pd d m l},VP Is w o1 o2 v pd d m l→l=true∨d.on=false→Calls prog 16 #[.pointer (some ⟨v,0,none⟩)] w fun e w'=>e=.returned (.tuple #[.slice none 0 0,.int .i64 6])∧∃wP,VP Is w' wP o2 v pd d m true∧ib.qB o1 w w'∧∀j,wP j→o1 j∨w.heap.size≤j
 eR:∀ {o1 o2 w v pd d m l} (k:Int) (s:Bt),VP Is w o1 o2 v pd d m l→l=true∨d.on=false→ib.yf k→Calls prog 17 #[.pointer (some ⟨v,0,none⟩),.int .i64 k,.string (str s)] w (kz Is o1 o2 v pd (mF d m) w)
 qbl:∀ {o1 o2 w v pd d m l} (g:Gd),VP Is w o1 o2 v pd d m l→l=true∨d.on=false→xn g→Calls prog 31 #[.pointer (some ⟨v,0,none⟩),ch.gv g] w (kz Is o1 o2 v pd (mF d m) w)
 qd2:∀ {o1 o2 w v pd d m l},VP Is w o1 o2 v pd d m l→l=true∨d.on=false→Calls prog 19 #[.pointer (some ⟨v,0,none⟩)] w (kz Is o1 o2 v pd (mF d m) w)
 qfe:∀(w:World),Calls prog 35 #[.pointer none] w fun e w'=>e=.returned (.int .i64 0)∧Below w.heap.size w w'
 qky:∀(w:World),Calls prog 22 #[.pointer none] w (ch.sG [] w)
 qk4:∀(w:World),Calls prog 25 #[.pointer none] w (bp zL w)
 qkx:∀(w:World),Calls prog 16 #[.pointer none] w (ch.vk ([],1) w)
 qkz:∀(g:Gd) (w:World),xn g→Calls prog 32 #[.pointer none,ch.gv g] w (ch.vk ([],1) w)
 mE:∀(k:Int) (w:World),ib.yf k→Calls prog 33 #[.pointer none,.int .i64 k] w (ch.pO ([],1) w)
 qdz:∀(k:Int) (s:Bt) (w:World),ib.yf k→Calls prog 17 #[.pointer none,.int .i64 k,.string (str s)] w (ch.yE 1 w)
 qku:∀(g:Gd) (w:World),xn g→Calls prog 30 #[.pointer none,ch.gv g] w (ch.yE 1 w)
 qkv:∀(n:Int) (w:World),ib.yf n→Calls prog 34 #[.pointer none,.int .i64 n] w (ch.yE 1 w)
 qkw:∀(g:Gd) (w:World),xn g→Calls prog 31 #[.pointer none,ch.gv g] w (ch.yE 1 w)
 qk5:∀(f:Tf) (w:World),TfB f→Calls prog 24 #[.pointer none,tkV f none 0 0,.slice none 0 0] w (ch.yE 1 w)
 qff:∀(w:World),Calls prog 19 #[.pointer none] w (ch.yE 1 w)
end Go.Proofs.YtdagdllomphidaaGreatDoor.vt
namespace Go.Proofs.YtdagdllomphidaaGreatDoor.vt
open _root_.Go.Proofs.Tryz Go Go.RowKit ib jr mt im sp
theorem mH {S:Nat→Prop}{w w':World}(h:dk.qB S w w'):qB S w w':=⟨h.os,h.tape,h.output,h.size,h.block⟩
def Ke (B:Nat)(X:Nat→Prop)(w w':World):Prop:=qB (fun j=>B≤j∧¬ X j) w w'
theorem Ke.below{B:Nat}{X:Nat→Prop}{w w':World}(h:Ke B X w w')(hm:B≤w.heap.size):Below B w w':=qB.below h (fun _ hi=>hi.1) hm
theorem Ke.of_below{B:Nat}{X:Nat→Prop}{w w':World}(h:Below w.heap.size w w'):Ke B X w w':=qB.of_below h
theorem Ke.refl(B:Nat)(X:Nat→Prop)(w:World):Ke B X w w:=qB.refl _ _
theorem Ke.trans{B:Nat}{X:Nat→Prop}{a b c:World}(h:Ke B X a b)(k:Ke B X b c):Ke B X a c:=qB.trans h k (fun _ hi=>.inl hi)
theorem Ke.block{B:Nat}{X:Nat→Prop}{w w':World}(h:Ke B X w w'){j:Nat}(hj:j<w.heap.size)(hx:X j∨j<B):w'.heap[j]?=w.heap[j]? :=qB.block h j hj (fun hs=>by rcases hx with h|h;exact hs.2 h;omega)
theorem Ke.mono{B:Nat}{X Y:Nat→Prop}{w w':World}(h:Ke B X w w')(hy:∀j,Y j→X j):Ke B Y w w':=qB.mono h fun j hj=>⟨hj.1,fun y=>hj.2 (hy j y)⟩
structure Tri where
 d:DD
 m:Mt
 c:ch.CH
 lost:Bool
def V3 (IV:jw)(IC:ch.IsT)(w:World)(B:Nat)(X:Nat→Prop)(v pd p:Nat)(s:Tri):Prop :=
 ∃o1 o2 o3,VP IV w o1 o2 v pd s.d s.m s.lost∧IC o3 w p s.c∧(∀j,o1 j∨o2 j→B≤j∧¬ o3 j∧¬ X j)∧(∀j,o3 j→B≤j∧¬ X j)∧(∀j,X j→j<w.heap.size)∧gN<B∧¬ X gN
section
variable {IV:jw} {IC:ch.IsT} (H:ki IV) (HC:ch.Ops IC) {w w':World} {B v pd p:Nat} {X:Nat→Prop} {s:Tri}
theorem uE {o:Nat→Prop}{d:DD}(h:dk.zj 1000 w o pd d):∀j,o j→j<w.heap.size:=by
 obtain⟨_,m,u,h1⟩:=h;exact h1.2.2.2.2.2.2
include H in
theorem VP.keep{o1 o2:Nat→Prop}{d:DD}{m:Mt}{l:Bool}(h:VP IV w o1 o2 v pd d m l)(hb:∀j,(o1 j∨o2 j)∨j=gN→w'.heap[j]?=w.heap[j]?)(hs:w.heap.size≤w'.heap.size):VP IV w' o1 o2 v pd d m l :=
 ⟨H.keep h.is (fun j hj=>hb j (hj.elim (fun h=>.inl (.inl h)) .inr)) hs,h.dk.keep hs (fun j hj=>hb j (.inl (.inr hj))),h.dj⟩
include H in
theorem VP.low{o1 o2:Nat→Prop}{d:DD}{m:Mt}{l:Bool}(h:VP IV w o1 o2 v pd d m l):∀j,(o1 j∨o2 j)∨j=gN→j<w.heap.size:=fun j hj=>by
 rcases hj with(hj|hj)|hj
 ·exact H.low h.is j (.inl hj)
 ·exact uE h.dk j hj
 ·exact H.low h.is j (.inr hj)
include H HC
theorem V3.below(h:V3 IV IC w B X v pd p s)(hb:Below w.heap.size w w'):V3 IV IC w' B X v pd p s:=by
 obtain⟨o1,o2,o3,h1,h2,h3,h4,h5⟩:=h;exact⟨o1,o2,o3,h1.keep H (fun j hj=>hb.block j (h1.low H j hj)) hb.size,HC.keep h2 (fun j hj=>hb.block j (HC.low h2 j hj)) hb.size,h3,h4,fun j hj=>Nat.lt_of_lt_of_le (h5.1 j hj) hb.size,h5.2⟩
theorem V3.more(h:V3 IV IC w B X v pd p s)(hb:Below w.heap.size w w'){Y:Nat→Prop}(hY:∀j,Y j→X j∨(w.heap.size≤j∧j<w'.heap.size)):V3 IV IC w' B Y v pd p s:=by
 obtain⟨o1,o2,o3,h1,h2,h3,h4,h5⟩:=h;refine⟨o1,o2,o3,h1.keep H (fun j hj=>hb.block j (h1.low H j hj)) hb.size,HC.keep h2 (fun j hj=>hb.block j (HC.low h2 j hj)) hb.size,fun j hj=>⟨(h3 j hj).1,(h3 j hj).2.1,fun hy=>?_⟩,fun j hj=>⟨(h4 j hj).1,fun hy=>?_⟩,fun j hj=>?_,h5.2.1,fun hy=>?_⟩
 ·rcases hY j hy with h|h
  ·exact(h3 j hj).2.2 h
  ·have:=h1.low H j (.inl hj);omega
 ·rcases hY j hy with h|h
  ·exact(h4 j hj).2 h
  ·have:=HC.low h2 j hj;omega
 ·rcases hY j hj with h|h
  ·exact Nat.lt_of_lt_of_le (h5.1 j h) hb.size
  ·exact h.2
 ·rcases hY gN hy with h|h
  ·exact h5.2.2 h
  ·have:=h1.low H gN (.inr rfl);omega
end
end Go.Proofs.YtdagdllomphidaaGreatDoor.vt
namespace Go.Proofs.YtdagdllomphidaaGreatDoor.vt.pg
open _root_.Go.Proofs.Tryz Go Go.RowKit ib jr mt im sp
def InS (G:Nat→Prop)(A:Option Addr):Prop:=∀b o s,A=some ⟨b,o,s⟩→G b
theorem InS.none(G:Nat→Prop):InS G none:=fun _ _ _ h=>by cases h
theorem InS.mono{G G':Nat→Prop}{A:Option Addr}(h:InS G A)(hg:∀j,G j→G' j):InS G' A:=fun b o s e=>hg b (h b o s e)
def kV (G:Nat→Prop)(w w':World):Prop:=w.heap.size≤w'.heap.size∧∀j,G j→j<w.heap.size→w'.heap[j]?=w.heap[j]?
theorem kV.of_below{G:Nat→Prop}{w w':World}(h:Below w.heap.size w w'):kV G w w':=⟨h.size,fun j _ hj=>h.block j hj⟩
theorem kV.lu{G S:Nat→Prop}{w w':World}(h:ib.qB S w w')(hs:∀j,G j→¬ S j):kV G w w':=⟨h.size,fun j hg hj=>h.block j hj (hs j hg)⟩
structure gV(G:Nat→Prop)(w:World)(A:Option Addr)(l:List Int)(c:Nat):Prop where
 at_:yx w A l c
 in_:0<l.length→InS G A
theorem qhc{G:Nat→Prop}{w w':World}{A:Option Addr}{l:List Int}(h:ib.qJ w A l)(hi:0<l.length→InS G A)(hs:kV G w w'):ib.qJ w' A l:=by
 intro i hi';obtain⟨b,o,h1,h2,h3,h4⟩:=h i hi';refine⟨b,o,h1,Nat.lt_of_lt_of_le h2 hs.1,?_,h4⟩;rw[World.cell?_of_block (a:=⟨b,o+i,none⟩) (hs.2 b (hi (by omega) b o none h1) h2)];exact h3
theorem gV.stay{G:Nat→Prop}{w w':World}{A:Option Addr}{l:List Int}{c:Nat}(h:gV G w A l c)(hs:kV G w w'):gV G w' A l c :=
 ⟨⟨qhc h.at_.ints h.in_ hs,h.at_.cap,h.at_.nil⟩,h.in_⟩
theorem gV.mono{G G':Nat→Prop}{w:World}{A:Option Addr}{l:List Int}{c:Nat}(h:gV G w A l c)(hg:∀j,G j→G' j):gV G' w A l c:=⟨h.at_,fun hl=>(h.in_ hl).mono hg⟩
theorem gV.none(G:Nat→Prop)(w:World):gV G w none [] 0:=⟨yx.none w,fun _=>InS.none G⟩
theorem gV.qtQ{G:Nat→Prop}{w0 w w':World}{A:Option Addr}{l:List Int}{c:Nat}(h:ib.New w w' A l c)(hg:∀j,w.heap.size≤j→j<w'.heap.size→G j)(hn:∀b o s,A=some ⟨b,o,s⟩→s=Option.none):gV G w' A l c :=
 ⟨h.sl,fun _ b o s e=>by
  obtain rfl:=hn b o s e;have:=h.new b o e;exact hg b this.1 this.2⟩
structure eu(G:Nat→Prop)(w:World)(A:Option Addr)(xs:List Sp):Prop where
 at_:∀i (h:i<xs.length),∃b o B c,A=some ⟨b,o,none⟩∧b<w.heap.size∧w.cell? ⟨b,o+i*4,none⟩=some (.int .u64 (xs[i].g.1:Int))∧w.cell? ⟨b,o+i*4+1,none⟩=some (.int .u64 (xs[i].g.2:Int)) ∧
  w.cell? ⟨b,o+i*4+2,none⟩=some (.slice B xs[i].qj.length c)∧w.cell? ⟨b,o+i*4+3,none⟩=some (.bool xs[i].hid)∧gV G w B xs[i].qj c∧xn xs[i].g
 in_:0<xs.length→InS G A
theorem eu.stay{G:Nat→Prop}{w w':World}{A:Option Addr}{xs:List Sp}(h:eu G w A xs)(hs:kV G w w'):eu G w' A xs:=by
 refine⟨fun i hi=>?_,h.in_⟩;obtain⟨b,o,B,c,h1,h2,h3,h4,h5,h6,h7,h8⟩:=h.at_ i hi;have hb:=hs.2 b (h.in_ (by omega) b o none h1) h2;exact⟨b,o,B,c,h1,Nat.lt_of_lt_of_le h2 hs.1,by rw[World.cell?_of_block (a:=⟨b,o+i*4,none⟩) hb];exact h3,by rw[World.cell?_of_block (a:=⟨b,o+i*4+1,none⟩) hb];exact h4,
  by rw[World.cell?_of_block (a:=⟨b,o+i*4+2,none⟩) hb];exact h5,by rw[World.cell?_of_block (a:=⟨b,o+i*4+3,none⟩) hb];exact h6,h7.stay hs,h8⟩
theorem eu.mono{G G':Nat→Prop}{w:World}{A:Option Addr}{xs:List Sp}(h:eu G w A xs)(hg:∀j,G j→G' j):eu G' w A xs:=by
 refine⟨fun i hi=>?_,fun hl=>(h.in_ hl).mono hg⟩;obtain⟨b,o,B,c,h1,h2,h3,h4,h5,h6,h7,h8⟩:=h.at_ i hi;exact⟨b,o,B,c,h1,h2,h3,h4,h5,h6,h7.mono hg,h8⟩
theorem eu.sns{G:Nat→Prop}{w:World}{A:Option Addr}{xs:List Sp}(h:eu G w A xs):ji w A xs:=by
 intro i hi;obtain⟨b,o,B,c,h1,h2,h3,h4,h5,h6,h7,h8⟩:=h.at_ i hi;exact⟨b,o,B,c,h1,h2,h3,h4,h5,h6,h7.at_,h8⟩
theorem eu.nil(G:Nat→Prop)(w:World):eu G w none []:=⟨fun i h=>absurd h (by simp),fun _=>InS.none G⟩
theorem eu.take{G:Nat→Prop}{w:World}{A:Option Addr}{xs:List Sp}(h:eu G w A xs)(n:Nat):eu G w A (xs.take n):=by
 refine⟨fun i hi=>?_,fun hl=>h.in_ (by rw[List.length_take]at hl;omega)⟩;have hl:i<xs.length:=by rw[List.length_take]at hi;omega
 have e:(xs.take n)[i]=xs[i]:=by simp
 rw[e];exact h.at_ i hl
structure jK(G:Nat→Prop)(w:World)(A0 A1 A2:Option Addr)(c0 c1 c2:Nat)(m:Mt):Prop where
 live:gV G w A0 m.live c0
 qa:eu G w A1 m.qa
 room:m.qa.length≤c1∧(A1=none→m.qa.length=0∧c1=0)
 qj:gV G w A2 m.tok.qj c2
 base:xn m.tok.base
 target:xn m.tok.target
 next:qD m.tok.next
 all:qD m.tok.all
section
variable {G G':Nat→Prop} {w w':World} {A0 A1 A2:Option Addr} {c0 c1 c2:Nat} {m:Mt}
theorem jK.stay(h:jK G w A0 A1 A2 c0 c1 c2 m)(hs:kV G w w'):jK G w' A0 A1 A2 c0 c1 c2 m :=
 ⟨h.live.stay hs,h.qa.stay hs,h.room,h.qj.stay hs,h.base,h.target,h.next,h.all⟩
theorem jK.mono(h:jK G w A0 A1 A2 c0 c1 c2 m)(hg:∀j,G j→G' j):jK G' w A0 A1 A2 c0 c1 c2 m :=
 ⟨h.live.mono hg,h.qa.mono hg,h.room,h.qj.mono hg,h.base,h.target,h.next,h.all⟩
theorem jK.below(h:jK G w A0 A1 A2 c0 c1 c2 m)(hb:Below w.heap.size w w'):jK G w' A0 A1 A2 c0 c1 c2 m:=h.stay (kV.of_below hb)
theorem gV.bound{A:Option Addr}{l:List Int}{c:Nat}(h:gV G w A l c):gV (fun j=>G j∧j<w.heap.size) w A l c :=
 ⟨h.at_,fun hl b o s e=>⟨h.in_ hl b o s e,by
  obtain⟨b',o',e',h2,_⟩:=h.at_.ints 0 hl;rw[e]at e';injection e' with e'
  injection e' with e1
  rw[e1];exact h2⟩⟩
theorem eu.bound{A:Option Addr}{xs:List Sp}(h:eu G w A xs):eu (fun j=>G j∧j<w.heap.size) w A xs:=by
 refine⟨fun i hi=>?_,fun hl b o s e=>⟨h.in_ hl b o s e,?_⟩⟩
 ·obtain⟨b,o,B,c,h1,h2,h3,h4,h5,h6,h7,h8⟩:=h.at_ i hi;exact⟨b,o,B,c,h1,h2,h3,h4,h5,h6,h7.bound,h8⟩
 ·obtain⟨b',o',B,c,e',h2,_⟩:=h.at_ 0 hl;rw[e]at e';injection e' with e'
  injection e' with e1
  rw[e1];exact h2
theorem jK.bound(h:jK G w A0 A1 A2 c0 c1 c2 m):jK (fun j=>G j∧j<w.heap.size) w A0 A1 A2 c0 c1 c2 m:=⟨h.live.bound,h.qa.bound,h.room,h.qj.bound,h.base,h.target,h.next,h.all⟩
theorem jK.mt(h:jK G w A0 A1 A2 c0 c1 c2 m):MtL w A0 A1 A2 c0 c1 c2 m:=⟨h.live.at_,h.qa.sns,h.room,h.qj.at_,h.base,h.target,h.next,h.all⟩
end
def vC (A0 A1 A2:Option Addr)(c0 c1 c2:Nat)(m:Mt)(pd:Nat)(lost:Bool):Array Value:=#[.slice A0 m.live.length c0,.slice A1 m.qa.length c1,.int .u64 (m.tok.base.1:Int),.int .u64 (m.tok.base.2:Int),.int .u64 (m.tok.target.1:Int),.int .u64 (m.tok.target.2:Int),.int .i64 m.tok.next,.int .i64 m.tok.all,.slice A2 m.tok.qj.length c2,.pointer (some ⟨pd,0,none⟩),.bool lost]
structure sI(o:Nat→Prop)(w:World)(v pd:Nat)(m:Mt)(lost:Bool)(A0 A1 A2:Option Addr)(c0 c1 c2:Nat):Prop where
 blk:qg w v 101 (vC A0 A1 A2 c0 c1 c2 m pd lost)
 tab:jK (fun j=>o j∧j≠v) w A0 A1 A2 c0 c1 c2 m
 sz:mtS m
 ct:xC w
 own:o v
 low:∀j,o j→j<w.heap.size
 gv:gN≠v
 tk:m.tok.target=(0,0)→m.tok=zL
def jg:jw:=fun o w v pd m lost=>∃A0 A1 A2 c0 c1 c2,sI o w v pd m lost A0 A1 A2 c0 c1 c2
section
variable {o:Nat→Prop} {w w':World} {v pd:Nat} {m:Mt} {lost:Bool} {A0 A1 A2:Option Addr} {c0 c1 c2:Nat}
theorem sI.stay(h:sI o w v pd m lost A0 A1 A2 c0 c1 c2)(hb:∀j,o j∨j=gN→w'.heap[j]?=w.heap[j]?)(hs:w.heap.size≤w'.heap.size):sI o w' v pd m lost A0 A1 A2 c0 c1 c2 :=
 ⟨h.blk.of_block (hb v (.inl h.own)),h.tab.stay ⟨hs,fun j hj _=>hb j (.inl hj.1)⟩,h.sz,vq h.ct hs (hb gN (.inr rfl)),h.own,fun j hj=>Nat.lt_of_lt_of_le (h.low j hj) hs,h.gv,h.tk⟩
theorem sI.below(h:sI o w v pd m lost A0 A1 A2 c0 c1 c2)(hb:Below w.heap.size w w'):sI o w' v pd m lost A0 A1 A2 c0 c1 c2 :=
 h.stay (fun j hj=>hb.block j (by
  rcases hj with hj|rfl
  ·exact h.low j hj
  ·exact zG h.ct)) hb.size
theorem jg.below(h:jg o w v pd m lost)(hb:Below w.heap.size w w'):jg o w' v pd m lost:=by
 obtain⟨A0,A1,A2,c0,c1,c2,h1⟩:=h;exact⟨A0,A1,A2,c0,c1,c2,h1.below hb⟩
theorem qk6(h:jg o w v pd m lost)(hb:∀j,o j∨j=gN→w'.heap[j]?=w.heap[j]?)(hs:w.heap.size≤w'.heap.size):jg o w' v pd m lost:=by
 obtain⟨A0,A1,A2,c0,c1,c2,h1⟩:=h;exact⟨A0,A1,A2,c0,c1,c2,h1.stay hb hs⟩
theorem sJ (h:jg o w v pd m lost):∀j,o j∨j=gN→j<w.heap.size:=by
 obtain⟨A0,A1,A2,c0,c1,c2,h1⟩:=h;intro j hj;rcases hj with hj|rfl
 ·exact h1.low j hj
 ·exact zG h1.ct
theorem qnW(h:jg o w v pd m lost):xC w:=by
 obtain⟨A0,A1,A2,c0,c1,c2,h1⟩:=h;exact h1.ct
theorem qnX(h:jg o w v pd m lost):mB m:=by
 obtain⟨A0,A1,A2,c0,c1,c2,h1⟩:=h;exact h1.tab.mt.mB
theorem qN {o1 o2:Nat→Prop}{d:DD}(h:VP jg w o1 o2 v pd d m lost)(hb:Below w.heap.size w w'):VP jg w' o1 o2 v pd d m lost :=
 ⟨h.is.below hb,h.dk.keep hb.size (fun j hj=>hb.block j (uE h.dk j hj)),h.dj⟩
structure qtR(w:World)(v:Nat)(A0 A1 A2:Option Addr)(c0 c1 c2:Nat)(m:Mt)(pd:Nat)(lost:Bool):Prop where
 lt:v<w.heap.size
 k0:w.cell? ⟨v,0,none⟩=some (.slice A0 m.live.length c0)
 k1:w.cell? ⟨v,1,none⟩=some (.slice A1 m.qa.length c1)
 k2:w.cell? ⟨v,2,none⟩=some (.int .u64 (m.tok.base.1:Int))
 k3:w.cell? ⟨v,3,none⟩=some (.int .u64 (m.tok.base.2:Int))
 k4:w.cell? ⟨v,4,none⟩=some (.int .u64 (m.tok.target.1:Int))
 k5:w.cell? ⟨v,5,none⟩=some (.int .u64 (m.tok.target.2:Int))
 k6:w.cell? ⟨v,6,none⟩=some (.int .i64 m.tok.next)
 k7:w.cell? ⟨v,7,none⟩=some (.int .i64 m.tok.all)
 k8:w.cell? ⟨v,8,none⟩=some (.slice A2 m.tok.qj.length c2)
 k9:w.cell? ⟨v,9,none⟩=some (.pointer (some ⟨pd,0,none⟩))
 aR:w.cell? ⟨v,10,none⟩=some (.bool lost)
theorem sI.cells(h:sI o w v pd m lost A0 A1 A2 c0 c1 c2):qtR w v A0 A1 A2 c0 c1 c2 m pd lost :=
 ⟨h.blk.lt,h.blk.cell 0,h.blk.cell 1,h.blk.cell 2,h.blk.cell 3,h.blk.cell 4,h.blk.cell 5,h.blk.cell 6,h.blk.cell 7,h.blk.cell 8,h.blk.cell 9,h.blk.cell 10⟩
end
end Go.Proofs.YtdagdllomphidaaGreatDoor.vt.pg
namespace Go.Proofs.YtdagdllomphidaaGreatDoor.ib
open _root_.Go.Proofs.Tryz Go Go.RowKit
theorem uV {P:Program}(w:World)(g o:Nat)(t ty:TypeId)(cs:Array Value)(xs:List Value)(fr:Nat × Nat)(d:TypeDesc)(hg:w.heap[g]?=some (.cells cs t fr))
    (hu:P.underlying ty=some d) (hd:(match d with | .struct _ | .array _ _=>true|_=>false)=true) (hi:(P.info? ty).map (·.size)=some xs.length) (hx:∀j u,xs[j]?=some u→cs[o+j]?=some u) :
    (loadVar ty ⟨g,o,none⟩).run P w=.ok (.agg xs.toArray) w:=by
 have hl:(loadCells ⟨g,o,none⟩ xs.length).run P w=.ok xs.toArray w :=
  run_loadCells_list (P:=P) w ⟨g,o,none⟩ xs (fun j v hv=>by
   rw[addr_add,cell_of_row w g (o+j) cs t fr hg];exact hx j v hv)
 cases hq:P.info? ty with
 | none=>simp[hq]at hi
 | some i =>
  have hs:i.size=xs.length:=by simpa[hq]using hi
  have hagg:(isAgg ty).run P w=.ok true w:=by
   unfold isAgg;rw[Sem.run_bind,run_underlying hu w];cases d <;> simp_all
  simp[loadVar,Sem.run_bind,hagg,sizeOf,typeInfo,hq,hs,hl]
theorem zr {ρ:Operand→Value}{o:Oper}{P:Program}(w:World)(t:TypeId)(c c':Array Value)(x y:Operand)(ho:o.op=.store t x y)(hx:ρ x=.pointer (some ⟨w.heap.size,0,none⟩))(hy:ρ y=.agg c')
    (hi:(P.info? t).map (·.size)=some c'.size) (hoc:c.size=c'.size) (h1:c'.all (·.oneCell')=true) :
    (execOp ρ o).run P (w.alloc (.cells c t))=.ok .skip (w.alloc (.cells c' t)):=by
 have hr:=run_storeAt_new (P:=P) w t c c' hi hoc h1;simp[execOp,ho,hx,hy,hr,Result.andThen]
theorem qhd{l:List Value}(h:∀v∈l,v.oneCell'=true):l.toArray.all (·.oneCell')=true:=by
 rw[Array.all_eq_true'];intro u hu;exact h u (by simpa using hu)
theorem qk7{ρ:Operand→Value}{o:Oper}{P:Program}{w:World}(t:TypeId)(x:Operand)(cs:Array Value)(ho:o.op=.box t x)(hx:ρ x=.agg cs)(hs:(P.info? t).map (·.size)=some cs.size)(h1:cs.all (·.oneCell')=true) :
    (execOp ρ o).run P w=.ok (.value (.pointer (some ⟨w.heap.size,0,none⟩))) (w.alloc (.cells cs t)):=by
 simp[execOp,ho,hx,Instr.box,Result.andThen,go_sem,Value.cells]
theorem iJ {P:Program}(w:World)(t ty e:TypeId)(i:TypeInfo)(z:Value)(size bytes:Nat)(ht:P.underlying t=some (.slice e))(hi:P.info? e=some i)(hz:i.zero=some z)(hsize:i.size=size)(hby:i.bytes=bytes)
    (A:Option Addr) (n:Nat) (xs:List Value) (wN:xs.length=n*size) (hA:A=none→n=0) (holds:∀b,A=some b→∀j u,xs[j]?=some u→w.cell? (b.add j)=some u)
    (a:Addr) (m c:Nat) (news:List Value) (hl:news.length=m*size) (hnews:∀j u,news[j]?=some u→w.cell? (a.add j)=some u) (h0:0<m)
    (h63:n+m≤maxLen) (hbytes:(n+m)*bytes≤140737488355328) :
    ∃cap cur w',(Builtin.append_ #[t,t] ty #[.slice A n n,.slice (some a) m c]).run P w=.ok (.slice (some ⟨w.heap.size,0,none⟩) (n+m) cap) w'∧Below w.heap.size w w'∧qg w' w.heap.size e cur ∧
     cur.toList.take ((n+m)*size)=xs++news∧n+m≤cap∧cap≤maxLen∧w'.heap.size=w.heap.size+1:=by
 subst hsize;subst hby;have q2Z:n+m≤9223372036854775807:=by simp only[maxLen]at h63;omega
 have hlen:(xs++news).length=(n+m)*i.size:=by rw[List.length_append,wN,hl,Nat.add_mul]
 have nW:∀cs,Below w.heap.size w (w.drew.alloc (.cells cs e)):=fun cs=>⟨rfl,rfl,rfl,by simp,fun k hk=>heap_alloc_old w.drew _ hk⟩;cases A with
 | none =>
  obtain rfl:=hA rfl;have hx:xs=[]:=List.eq_nil_of_length_eq_zero (by simpa using wN);subst hx;have hr:=run_append_nil (P:=P) w t ty e i z ht hi hz a m c news hl hnews h0 (by omega) (by have hb:=hbytes;simp only[Nat.zero_add]at hb;omega);rw[Nat.zero_add,List.nil_append];refine⟨_,_,_,hr,nW _,heap_alloc_new w.drew _,?_,grownCap_ge _ _ _ _,grownCap_le_maxLen _ _ _ _ (by omega),by simp⟩;simp only[Array.toList_append];rw[← hl];exact List.take_left
 | some b =>
  have hr:=run_append_grow (P:=P) w t ty e i z ht hi hz b n n xs wN (holds b rfl) a m c news hl hnews (by omega) (by omega) (growslice_fits (by omega) hbytes);refine⟨_,_,_,hr,nW _,heap_alloc_new w.drew _,?_,grownCap_ge _ _ _ _,grownCap_le_maxLen _ _ _ _ h63,by simp⟩;simp only[Array.toList_append,List.append_assoc];rw[← List.append_assoc,← hlen];exact List.take_left
theorem gW {P:Program}{o:Oper}{a:Act}{w:World}{K:Act→World→Prop}{Q:Exit→Act→World→Prop}(s x:Operand)(t:TypeId)
    (ho:o.op=.call { callee:=.builtin .append,args:=#[s,x],argTypes:=#[t,t] })
    (e:TypeId) (i:TypeInfo) (z:Value) (size bytes:Nat) (ht:P.underlying t=some (.slice e)) (hi:P.info? e=some i) (hz:i.zero=some z)
    (hsize:i.size=size) (hby:i.bytes=bytes) (A:Option Addr) (n:Nat) (xs:List Value) (hs:a.eval s=.slice A n n)
    (wN:xs.length=n*size) (hA:A=none→n=0) (holds:∀b,A=some b→∀j u,xs[j]?=some u→w.cell? (b.add j)=some u)
    (ad:Addr) (m c:Nat) (news:List Value) (hx:a.eval x=.slice (some ad) m c) (hl:news.length=m*size) (hnews:∀j u,news[j]?=some u→w.cell? (ad.add j)=some u) (h0:0<m)
    (h63:n+m≤maxLen) (hbytes:(n+m)*bytes≤140737488355328)
    (h:∀cap cur w',Below w.heap.size w w'→qg w' w.heap.size e cur→cur.toList.take ((n+m)*size)=xs++news→n+m≤cap→cap≤maxLen→w'.heap.size=w.heap.size+1→K (a.put o.dst (.slice (some ⟨w.heap.size,0,none⟩) (n+m) cap)) w'):o.wp P a w K Q:=by
 obtain⟨cap,cur,w',hrun,h2,h3,h4,h5,h6,h7⟩:=iJ (P:=P) w t o.type e i z size bytes ht hi hz hsize hby A n xs wN hA holds ad m c news hl hnews h0 h63 hbytes;unfold Oper.wp;simp[execOp,ho,resolve,invoke,builtin,hs,hx,hrun,Result.andThen];exact h cap cur w' h2 h3 h4 h5 h6 h7
theorem aS {P:Program}{ops:Array Oper}{rest:List Oper}{o:Oper}{a:Act}{w:World}{Q:Exit→Act→World→Prop}(hg:o.guard=none)(s x:Operand)(t:TypeId)
    (ho:o.op=.call { callee:=.builtin .append,args:=#[s,x],argTypes:=#[t,t] })
    (e:TypeId) (i:TypeInfo) (z:Value) (size bytes:Nat) (ht:P.underlying t=some (.slice e)) (hi:P.info? e=some i) (hz:i.zero=some z)
    (hsize:i.size=size) (hby:i.bytes=bytes) (A:Option Addr) (n:Nat) (xs:List Value) (hs:a.eval s=.slice A n n)
    (wN:xs.length=n*size) (hA:A=none→n=0) (holds:∀b,A=some b→∀j u,xs[j]?=some u→w.cell? (b.add j)=some u)
    (ad:Addr) (m c:Nat) (news:List Value) (hx:a.eval x=.slice (some ad) m c) (hl:news.length=m*size) (hnews:∀j u,news[j]?=some u→w.cell? (ad.add j)=some u) (h0:0<m)
    (h63:n+m≤maxLen) (hbytes:(n+m)*bytes≤140737488355328)
    (h:∀cap cur w',Below w.heap.size w w'→qg w' w.heap.size e cur→cur.toList.take ((n+m)*size)=xs++news→n+m≤cap→cap≤maxLen→w'.heap.size=w.heap.size+1→wpList P ops Q rest (a.put o.dst (.slice (some ⟨w.heap.size,0,none⟩) (n+m) cap)) w'):wpList P ops Q (o::rest) a w :=
 wpList_plain hg fun K' hK'=>gW s x t ho e i z size bytes ht hi hz hsize hby A n xs hs wN hA holds ad m c news hx hl hnews h0 h63 hbytes fun cap cur w' h1 h2 h3 h4 h5 h6=>hK' _ _ (h cap cur w' h1 h2 h3 h4 h5 h6)
theorem setRow_size(w:World)(g:Nat)(c:Array Value):(w.setRow g c).heap.size=w.heap.size:=by
 unfold World.setRow;simp
end Go.Proofs.YtdagdllomphidaaGreatDoor.ib
namespace Go.Proofs.YtdagdllomphidaaGreatDoor.vt.pg
open _root_.Go.Proofs.Tryz Go Go.RowKit ib mt im sp
theorem aT {ρ:Operand→Value}{o:Oper}{w:World}(x y:Operand)(n:Nat)(ho:o.op=.makeSlice 57 x y)(hx:ρ x=.int .i64 (n:Int))(hy:ρ y=.int .i64 (n:Int))(h:n≤1000) :
    (execOp ρ o).run prog w=.ok (.value (.slice (some ⟨w.heap.size,0,none⟩) n n)) (w.alloc (.cells (qh (List.replicate n 0)) 3)):=by
 have:=oO (n:Int) (by omega) (by omega) w;simp only[Int.toNat_natCast]at this;simp[execOp,ho,hx,hy,this,Result.andThen]
theorem qpR:(prog.info? 3).map (·.size)=some 1:=by kernel_rfl
def qtS (l:List Int)(w:World)(e:Ending)(w':World):Prop:=e=.returned (.slice (some ⟨w.heap.size,0,none⟩) l.length l.length)∧qg w' w.heap.size 3 (qh l)∧Below w.heap.size w w'
theorem qhe{w:World}{A:Option Addr}{l:List Int}{c:Nat}(h:yx w A l c)(h0:l.length≠0):∃b o,A=some ⟨b,o,none⟩:=by
 obtain⟨b,o,h1,_⟩:=h.ints 0 (by omega);exact⟨b,o,h1⟩
theorem vV (A:Option Addr)(c:Nat)(l:List Int)(w:World)(h:yx w A l c)(hl:l.length≤1000):Calls prog 67 #[.slice A l.length c] w (qtS l w):=by
 have hb:=(Below.refl w.heap.size w).alloc (Nat.le_refl _) (.cells (qh (List.replicate l.length 0)) 3);have hk:=qg.new w 3 (qh (List.replicate l.length 0));have hh:=h.below hb;obtain⟨W1,hW1⟩:=QE (w.alloc (.cells (qh (List.replicate l.length 0)) 3));rw[hW1]at hb hk hh;have qxG:∃W2,(Builtin.copy_ #[57,57] 3 #[.slice (some ⟨w.heap.size,0,none⟩) l.length l.length,.slice A l.length c]).run prog W1=.ok (.int .i64 (l.length:Int)) W2∧qg W2 w.heap.size 3 (qh l)∧Below w.heap.size w W2:=by
  by_cases h0:l.length=0
  ·refine⟨W1,?_,?_,hb⟩
   ·have:=run_copy_none (P:=prog) W1 57 57 3 3 (some ⟨w.heap.size,0,none⟩) A l.length l.length l.length c underlying57 qpR (by rw[h0];rfl);rw[this,h0];rfl
   ·obtain rfl:l=[]:=List.length_eq_zero_iff.1 h0;exact hk
  ·obtain⟨b,o,rfl⟩:=qhe h h0;have:=run_copy_row prog W1 57 57 3 3 w.heap.size 0 l.length l.length ⟨b,o,none⟩ l.length c (qh (List.replicate l.length 0)) 3 (l.map (Value.int .i64)) underlying57 qpR hk (by simp) (fun j v hj=>by
    have hjl:j<l.length:=by
     have:=(List.getElem?_eq_some_iff.1 hj).1;simpa using this
    obtain⟨b',o',e,h1,h2,_⟩:=hh.ints j hjl;simp only[Option.some.injEq,Addr.mk.injEq,and_true]at e;obtain⟨rfl,rfl⟩:=e;rw[addr_add,h2];simpa[hjl]using hj) (by simp[qh]) (fun v hv=>by
    obtain⟨z,_,rfl⟩:=List.mem_map.1 hv;rfl)
   have e:((qh (List.replicate l.length 0)).toList.take 0++l.map (Value.int .i64)++(qh (List.replicate l.length 0)).toList.drop (0+(l.map (Value.int .i64)).length)).toArray=qh l:=by
    simp[qh]
   rw[e]at this;refine⟨_,?_,setRow_heap W1 w.heap.size (qh (List.replicate l.length 0)) (qh l) 3 (0,0) hk,?_⟩
   ·rw[this];simp[goInt]
   ·exact vJ hb _ (Nat.le_refl _)
 obtain⟨W2,hc,hk2,hb2⟩:=qxG;have wJ:=QH hk2;have qG:=QH hb2;clear h hb hk hh hk2 hb2;go_enter func67,ntmps67;go_wp2_with (at_make;refine ql rfl (aT _ _ l.length rfl rfl rfl (by omega)) ?_);go_ret;exact⟨rfl,wJ.out,qG.out⟩
theorem qtS.sl{l:List Int}{w w':World}{e:Ending}(h:qtS l w e w')(hz:∀z∈l,qD z)(G:Nat→Prop)(hG:G w.heap.size):gV G w' (some ⟨w.heap.size,0,none⟩) l l.length :=
 ⟨⟨qg.nums h.2.1 hz,Nat.le_refl _,fun h=>by cases h⟩,fun _ b o s e=>by
  simp only[Option.some.injEq,Addr.mk.injEq]at e;rw[← e.1];exact hG⟩
def SnI (G:Nat→Prop)(w:World)(x:bg):Prop:=∃B c,x.2=.slice B x.1.qj.length c∧gV G w B x.1.qj c∧xn x.1.g
theorem SnI.stay{G:Nat→Prop}{w w':World}{x:bg}(h:SnI G w x)(hs:kV G w w'):SnI G w' x:=by
 obtain⟨B,c,h1,h2,h3⟩:=h;exact⟨B,c,h1,h2.stay hs,h3⟩
theorem qk8:∀(l:List bg) (j:Nat) (u:Value),(qW l)[j]?=some u→∃i k,∃h:i<l.length,k<4∧j=i*4+k∧(bh l[i])[k]?=some u:=by
 intro l j u h;have hj:j<l.length*4:=by
  have:=(List.getElem?_eq_some_iff.1 h).1;rw[ya]at this;exact this
 have hi:j/4<l.length:=by omega
 have hk:j%4<4:=Nat.mod_lt _ (by omega);refine⟨j/4,j%4,hi,hk,by omega,?_⟩;rw[← xr l (j/4) hi (j%4) hk,show j/4*4+j%4=j by omega];exact h
theorem eu.row{G:Nat→Prop}{w:World}{A:Option Addr}{sn:List Sp}(h:eu G w A sn):∃xs:List bg,xs.map (·.1)=sn∧(∀x∈xs,SnI G w x) ∧
    ∀j u,(qW xs)[j]?=some u→∃b o,A=some ⟨b,o,none⟩∧b<w.heap.size∧w.cell? ⟨b,o+j,none⟩=some u:=by
 obtain⟨vs,hl,hv⟩:=fQ (p:=fun i (v:Value)=>∃(hi:i<sn.length),SnI G w (sn[i],v)∧∀k u,k<4→(bh (sn[i],v))[k]?=some u→∃b o,A=some ⟨b,o,none⟩∧b<w.heap.size∧w.cell? ⟨b,o+i*4+k,none⟩=some u) sn.length (fun i hi=>by
  obtain⟨b,o,B,c,h1,h2,h3,h4,h5,h6,h7,h8⟩:=h.at_ i hi;refine⟨.slice B sn[i].qj.length c,hi,⟨B,c,rfl,h7,h8⟩,fun k u hk hu=>⟨b,o,h1,h2,?_⟩⟩
  match k,hk with
  | 0,_=>simp[bh]at hu;subst hu;exact h3
  | 1,_=>simp[bh]at hu;subst hu;exact h4
  | 2,_=>simp[bh]at hu;subst hu;exact h5
  | 3,_=>simp[bh]at hu;subst hu;exact h6)
 refine⟨sn.zip vs,?_,fun x hx=>?_,fun j u hj=>?_⟩
 ·rw[List.map_fst_zip (by omega)]
 ·obtain⟨i,hi,rfl⟩:=List.getElem_of_mem hx;have hi':i<vs.length:=by simp at hi;omega
  obtain⟨_,h1,_⟩:=hv i hi';simpa using h1
 ·obtain⟨i,k,hi,hk,rfl,hu⟩:=qk8 _ _ _ hj;have hi':i<vs.length:=by simp at hi;omega
  obtain⟨_,_,h2⟩:=hv i hi';obtain⟨b,o,h3,h4,h5⟩:=h2 k u hk (by simpa using hu);exact⟨b,o,h3,h4,by rw[← Nat.add_assoc];exact h5⟩
theorem eu.qd3{G:Nat→Prop}{w:World}{g:Nat}{xs:List bg}(hg:G g)(hl:g<w.heap.size)(hc:∀j u,(qW xs)[j]?=some u→w.cell? ⟨g,j,none⟩=some u)(hx:∀x∈xs,SnI G w x):eu G w (some ⟨g,0,none⟩) (xs.map (·.1)):=by
 refine⟨fun i hi=>?_,fun _ b o s e=>by
  simp only[Option.some.injEq,Addr.mk.injEq]at e;rw[← e.1];exact hg⟩
 have hix:i<xs.length:=by simpa using hi
 have e:(xs.map (·.1))[i]=xs[i].1:=by simp
 rw[e];obtain⟨B,c,h1,h2,h3⟩:=hx _ (List.getElem_mem hix);refine⟨g,0,B,c,rfl,hl,?_,?_,?_,?_,h2,h3⟩
 ·rw[Nat.zero_add];have:=hc (i*4+0) _ (xr xs i hix 0 (by omega));exact this
 ·rw[Nat.zero_add];exact hc (i*4+1) _ (xr xs i hix 1 (by omega))
 ·rw[Nat.zero_add,← h1];exact hc (i*4+2) _ (xr xs i hix 2 (by omega))
 ·rw[Nat.zero_add];exact hc (i*4+3) _ (xr xs i hix 3 (by omega))
theorem yQ {w:World}{g n:Nat}{t:TypeId}{cur:Array Value}{l:List Value}(h:qg w g t cur)(ht:cur.toList.take n=l):∀j u,l[j]?=some u→w.cell? ⟨g,j,none⟩=some u:=by
 intro j u hu;rw[h.cell j];rw[← ht,List.getElem?_take]at hu;split at hu
 ·simpa using hu
 ·cases hu
theorem qnY{t:TypeId}{n:Nat}(h:(prog.info? t).map (·.size)=some n)(w:World):(sizeOf t).run prog w=.ok n w:=by
 cases hq:prog.info? t with
 | none=>simp[hq]at h
 | some i =>
  simp[hq]at h;simp[sizeOf,typeInfo,hq,h]
theorem qbm{ρ:Operand→Value}{o:Oper}{w:World}(ho:o.op=.buildSlice 91 0 #[]) :
    (execOp ρ o).run prog w=.ok (.value (.slice (some ⟨w.heap.size,0,none⟩) 0 0)) (w.alloc (.cells #[] 145)):=by
 obtain⟨i0,hi,hz0,hz1,hz2⟩:=info_parts rM;have hs:(prog.info? 145).map (·.size)=some 4:=by rw[hi];simp[hz1]
 have hz:=qnY (t:=145) hs w;have hr:(Instr.buildSlice 91 0 #[]).run prog w=.ok (.slice (some ⟨w.heap.size,0,none⟩) 0 0) (w.alloc (.cells #[] 145)):=by
  simp[Instr.buildSlice,run_underlying underlying91,hz,Instr.fill,newRow,Result.andThen];rw[show Array.map (fun _:Nat=>(default:Value)) (Array.range 0) = #[]from Array.ext (by simp) (fun i _ h2=>by simp at h2)]
 simp[execOp,ho,hr,Result.andThen]
theorem qbn(d:Nat)(a:Addr)(n c:Nat)(w:World):(Op.equalIn (d+1) 91 (.slice (some a) n c) (.slice none 0 0)).run prog w=.ok false w:=by
 simp[Op.equalIn,run_underlying underlying91]
theorem qhf(a:Addr)(n c:Nat)(w:World):(binOp .eql 91 (.slice (some a) n c) (.slice none 0 0)).run prog w=.ok (.bool false) w:=by
 have h:(Op.equalIn 10000 91 (.slice (some a) n c) (.slice none 0 0)).run prog w=.ok false w:=qbn 9999 a n c w;simp only[binOp];simp[Op.equal,Op.maxDepth,h,Result.andThen]
def q3a (G:Nat→Prop)(sn:List Sp)(w:World)(e:Ending)(w':World):Prop:=∃g c xs cur,e=.returned (.slice (some ⟨g,0,none⟩) sn.length c)∧w.heap.size≤g∧qg w' g 145 cur∧cur.toList.take (sn.length*4)=qW xs∧xs.map (·.1)=sn∧(∀x∈xs,SnI G w x)∧sn.length≤c∧Below w.heap.size w w'
theorem aU {G:Nat→Prop}{w:World}{A:Option Addr}{c:Nat}{sn:List Sp}(h:eu G w A sn)(h1:0<sn.length)(nS:sn.length≤100):Calls prog 123 #[.slice A sn.length c] w (q3a G sn w):=by
 obtain⟨i0,hi,hz0,hz1,hz2⟩:=info_parts rM;obtain⟨g,o,_,_,rfl,_⟩:=h.at_ 0 h1;have hb1:=(Below.refl w.heap.size w).alloc (Nat.le_refl _) (.cells #[] 145);obtain⟨xs,hm,hx,hc⟩:=h.row;have dB:(qW xs).length=sn.length*4:=by rw[ya,← hm,List.length_map]
 have HLEN:=QH dB;have HCE:Hid (∀j u,(qW xs)[j]?=some u→(w.alloc (.cells #[] 145)).cell? ((⟨g,o,none⟩:Addr).add j)=some u):=fun j u hj=>by
  obtain⟨b',o',e,h2,h3⟩:=hc j u hj;simp only[Option.some.injEq,Addr.mk.injEq,and_true]at e;obtain⟨rfl,rfl⟩:=e;rw[addr_add];exact(hb1.cell (p:=⟨g,o+j,none⟩) h2).trans h3
 have HX:=QH hx;have HM:=QH hm;have HB:=QH hb1;have HSI:Hid ((w.alloc (.cells #[] 145)).heap.size=w.heap.size+1):=by unfold Hid;simp
 have heq:(binOp .eql 91 (.slice (some ⟨g,o,none⟩) sn.length c) (.slice none 0 0)).run prog w=.ok (.bool false) w:=qhf _ _ _ w;clear hx hb1 h hm hc dB;go_enter func123,ntmps123;go_wp2_with (first|(refine ql rfl (qbm rfl) ?_)|(at_builtin;refine aS rfl (.tmp 5) (.tmp 6) 91 rfl 145 i0 _ 4 48 underlying91 hi hz0 hz1 hz2 (some ⟨w.heap.size,0,none⟩) 0 [] rfl rfl (fun h=>by cases h) (fun b _ j u hu=>by simp at hu) ⟨g,o,none⟩ sn.length c (qW xs) rfl HLEN.out HCE.out h1 (by unfold maxLen;omega) (by omega) ?_));intro cap qxI w1 hb2 hk2 lM hc1 hc2 hsz;have qG:=QH (HB.out.trans (hb2.mono (by simp)));have wJ:=QH hk2;have tW:Hid (qxI.toList.take (sn.length*4)=qW xs):=by
  unfold Hid;simpa using lM
 have HC1:Hid (sn.length≤cap):=by unfold Hid;omega
 clear hb2 hk2 lM hc1 hc2 hsz HCE HB HLEN;go_wp2_with fail;go_ret;exact⟨w.heap.size+1,cap,xs,qxI,rfl,Nat.le_succ _,wJ.out,tW.out,HM.out,HX.out,HC1.out,qG.out⟩
end Go.Proofs.YtdagdllomphidaaGreatDoor.vt.pg
namespace Go.Proofs.YtdagdllomphidaaGreatDoor.vt.pg
open _root_.Go.Proofs.Tryz Go Go.RowKit ib wi im mt mt.pg
theorem qxJ{w:World}{B:Nat}{A:Option Addr}{n c:Nat}{zs:List Int}(h:zu w B (.slice A n c) zs):InS (fun j=>B≤j) A:=by
 rcases h.2 with⟨e,h0⟩|⟨g,cap,cur,e,hg,hh,hcc,hm,hcs,xt⟩
 ·cases e;exact InS.none _
 ·cases e;intro b o s e;cases e;exact hg
theorem qd4{w:World}{B:Nat}{A:Option Addr}{n c:Nat}{zs:List Int}(h:zu w B (.slice A n c) zs)(hz:∀z∈zs,qD z):gV (fun j=>B≤j) w A zs c:=by
 obtain⟨A',c',e,h1⟩:=qeB h hz;have h2:=qxJ h;cases e;exact⟨h1,fun _=>h2⟩
theorem qxK{w:World}{B:Nat}{A:Option Addr}{n c:Nat}{xs:List bg}(h:wE w B (.slice A n c) xs)(hz:∀x∈xs,∀z∈x.1.qj,qD z)(hg:∀x∈xs,xn x.1.g) :
    eu (fun j=>B≤j) w A (xs.map (·.1))∧((xs.map (·.1)).length≤c∧(A=none→(xs.map (·.1)).length=0∧c=0)):=by
 obtain⟨A',c',e,h1,h2⟩:=h.view hz hg;simp only[Value.slice.injEq]at e;obtain⟨rfl,hn,rfl⟩:=e;refine⟨?_,h2⟩;rcases h.1.2 with⟨e,h0⟩|⟨g,cap,cur,e,hgB,hh,hcc,hm,hcs,xt⟩
 ·simp only[Value.slice.injEq]at e;obtain⟨rfl,_,rfl⟩:=e;obtain rfl:xs=[]:=List.length_eq_zero_iff.1 h0;exact eu.nil _ _
 ·simp only[Value.slice.injEq]at e;obtain⟨rfl,_,rfl⟩:=e;refine eu.qd3 hgB (Array.getElem?_eq_some_iff.1 hh).1 (fun j u hu=>?_) (fun x hx=>?_)
  ·rw[cell_of_row w g j cur 145 (0,0) hh];rw[← xt,List.getElem?_take]at hu;split at hu
   ·simpa using hu
   ·cases hu
  ·have hi:=h.2 x hx;obtain⟨A1,c1,e1⟩:=xV hi;rw[e1]at hi;exact⟨A1,c1,e1,qd4 hi (hz x hx),hg x hx⟩
theorem qd5{w:World}{B:Nat}{A0 A1 A2:Option Addr}{n0 n1 n2 c0 c1 c2:Nat}{m:Mt}(h:Own w B (.slice A0 n0 c0) (.slice A1 n1 c1) (.slice A2 n2 c2) m):jK (fun j=>B≤j) w A0 A1 A2 c0 c1 c2 m:=by
 have i64:∀ {z:Int},0≤z∧z≤1048576→qD z:=fun h=>by unfold qD;omega
 obtain⟨xs,a,b,c,d⟩:=h.at_;obtain⟨hf,ht⟩:=h.ok;rw[← d]at hf;have hsn:∀x∈xs,ye x.1.qj∧xn x.1.g:=fun x hx=>⟨(hf.sn _ (List.mem_map_of_mem hx)).1,(hf.sn _ (List.mem_map_of_mem hx)).2.1⟩;have hb:=qxK b (fun x hx z hz=>i64 ((hsn x hx).1 z hz)) (fun x hx=>(hsn x hx).2);rw[d]at hb;exact⟨qd4 a (fun z hz=>i64 (hf.live z hz)),hb.1,hb.2,qd4 c (fun z hz=>i64 (ht.qj z hz)),ht.base,ht.target,ht.next,ht.all⟩
def qxL (m:Mt)(w:World)(e:Ending)(w':World):Prop:=∃A0 A1 A2 c0 c1 c2,e=.returned (.tuple #[.agg (zi A0 A1 A2 c0 c1 c2 m),.int .i64 0])∧jK (fun j=>w.heap.size≤j) w' A0 A1 A2 c0 c1 c2 m∧Below w.heap.size w w'
theorem qnZ(s:ByteArray)(w:World)(hs:s.size≤100000)(M:Mt)(hD:l9 (bl s)=(M,0)):Calls prog 43 #[.string s] w (qxL M w):=by
 have HDI:Hid (wy (mP (some (bl s)))=(bl s,0)∧mP (some (bl s))=M):=by
  have h:=qsT (bl s);rw[hD]at h;unfold Hid;split at h
  ·rename_i h1;exact⟨h1,(Prod.mk.inj h).1.symm⟩
  ·cases (Prod.mk.inj h).2
 have hb0:=(Below.refl w.heap.size w).alloc (Nat.le_refl _) (.cells (mZ (.slice none 0 0) (.slice none 0 0)) 93);have hA0:=qg.new w 93 (mZ (.slice none 0 0) (.slice none 0 0));obtain⟨W0,hW0⟩:=QE (w.alloc (.cells (mZ (.slice none 0 0) (.slice none 0 0)) 93));rw[hW0]at hb0 hA0;have uj:=QH hb0;have oP:=QH hA0;have eM:=QH hs;have HN:=QH (rJ s W0 (by omega));clear hb0 hA0 hs hD;unfold mZ at hW0;go_enter func43,ntmps43;go_upto_region 1 with fail;try rw[hW0]
 clear hW0;go_wp2_with fail;refine HN.out.mono ?_;rintro e W1 ⟨c,rfl,hc,ck,hb1⟩;have hps:PS W1 c (some (bl s)):=ck;have nQ:=QH hps;have zk:=QH (q9 uj.out hb1);have fS:=QH (oP.out.below hb1);have jZ:Hid (w.heap.size≤W1.heap.size):=zk.out.size;have HC:Hid (w.heap.size≤c∧w.heap.size<W1.heap.size):=⟨Nat.le_trans uj.out.size hc,fS.out.lt⟩;clear hc ck hb1 hps uj oP HN;go_wp2_with fail;refine(mt.pg.yM nQ.out).mono ?_;rintro e W2 ⟨v0,v1,v2,rfl,ho,hbt⟩;have qG:Hid (Below w.heap.size w W2):=zk.out.trans (hbt.below (fun j hj=>by unfold Tc at hj;rw[hj];exact HC.out.1) zk.out.size);obtain⟨y,hy⟩:=nQ.out.blk;have dC:=QH (fS.out.of_block (hbt.block _ fS.out.lt (wW fS.out hy (by decide))));have HSM:Hid (mtS (mP (some (bl s)))):=qt1 ho.ok.1 ho.ok.2;obtain⟨m,hm⟩:=QE (mP (some (bl s)));rw[hm]at ho HDI HSM ⊢;have uF:=QH ho;obtain⟨xs,o0,o1,o2,o3⟩:=ho.at_;obtain⟨A0,c0,hv0⟩:=xV o0;obtain⟨A1,c1,hv1⟩:=xV o1.1;obtain⟨A2,c2,hv2⟩:=xV o2;have hlx:xs.length=m.qa.length:=by rw[← o3,List.length_map]
 rw[hlx]at hv1;subst hv0 hv1 hv2;clear ho o0 o1 o2 o3 hlx hy hm hbt nQ zk fS;have hb3:=(Below.refl W2.heap.size W2).alloc (Nat.le_refl _) (.cells (mC (.slice A0 m.live.length c0) (.slice A1 m.qa.length c1) (.slice A2 m.tok.qj.length c2) m.tok) 93);have hM3:=qg.new W2 93 (mC (.slice A0 m.live.length c0) (.slice A1 m.qa.length c1) (.slice A2 m.tok.qj.length c2) m.tok);obtain⟨W3,hW3⟩:=QE (W2.alloc (.cells (mC (.slice A0 m.live.length c0) (.slice A1 m.qa.length c1) (.slice A2 m.tok.qj.length c2) m.tok) 93));rw[hW3]at hb3 hM3;have zf:=QH (q9 qG.out hb3);have fT:=QH (dC.out.below hb3);have HO3:=QH (uF.out.kp (r:=1000000) (Kp.of_below hb3) (by decide) (by decide));obtain⟨gm,hgm⟩:=QE W2.heap.size;rw[hgm]at hM3;have HM3:=QH hM3;unfold mC at hW3 ⊢;clear hb3 qG dC uF;go_upto_region 2 with fail;try rw[hW3]
 try rw[hgm]
 clear hW3 hgm;have m0:=hM3.cell 0;have m1:=hM3.cell 1;have m2:=hM3.cell 2;have m3:=hM3.cell 3;have m4:=hM3.cell 4;have m5:=hM3.cell 5;have m6:=hM3.cell 6;have m7:=hM3.cell 7;have m8:=hM3.cell 8;simp only[mC,QA,QB,QC]at m0 m1 m2 m3 m4 m5 m6 m7 m8;have hlm:=hM3.lt;have HE:=QH (qeP _ m W3 HO3.out.mt HSM.out);unfold mC at HE;clear hM3;go_wp2_with fail;refine HE.out.mono ?_;rintro e W4 ⟨rfl,hb4⟩;have zU:=QH (q9 zf.out hb4);have iF:=QH (fT.out.below hb4);have sK:=QH (HO3.out.kp (r:=1000000) (Kp.of_below hb4) (by decide) (by decide));have hM4:=HM3.out.below hb4;clear hb4 HE zf fT HO3 HM3 m0 m1 m2 m3 m4 m5 m6 m7 m8 hlm;have a0:=iF.out.cell 0;have a1:=iF.out.cell 1;have a2:=iF.out.cell 2;have a3:=iF.out.cell 3;have a4:=iF.out.cell 4;have a5:=iF.out.cell 5;have a6:=iF.out.cell 6;have a7:=iF.out.cell 7;have a8:=iF.out.cell 8;have m0:=hM4.cell 0;have m1:=hM4.cell 1;have m2:=hM4.cell 2;have m3:=hM4.cell 3;have m4:=hM4.cell 4;have m5:=hM4.cell 5;have m6:=hM4.cell 6;have m7:=hM4.cell 7;have m8:=hM4.cell 8;simp only[mC,mZ,QA,QB,QC]at m0 m1 m2 m3 m4 m5 m6 m7 m8 a0 a1 a2 a3 a4 a5 a6 a7 a8;have f0:=iF.out.frozen 0;have f1:=iF.out.frozen 1;have f2:=iF.out.frozen 2;have f3:=iF.out.frozen 3;have f4:=iF.out.frozen 4;have f5:=iF.out.frozen 5;have f6:=iF.out.frozen 6;have f7:=iF.out.frozen 7;have f8:=iF.out.frozen 8;have hlm:=hM4.lt;have ep:=iF.out.lt;clear hM4;have hres:qg W4 w.heap.size 93 (mC nlS nlS nlS zL):=iF.out;obtain⟨hE,rfl⟩:=HDI.out;have HF1:Hid (qg (xz W4 w.heap.size (.slice A0 m.live.length c0) (.slice A1 m.qa.length c1) (.slice A2 m.tok.qj.length c2) m.tok) w.heap.size 93 (zi A0 A1 A2 c0 c1 c2 m)∧jK (fun j=>w.heap.size≤j) (xz W4 w.heap.size (.slice A0 m.live.length c0) (.slice A1 m.qa.length c1) (.slice A2 m.tok.qj.length c2) m.tok) A0 A1 A2 c0 c1 c2 m∧Below w.heap.size w (xz W4 w.heap.size (.slice A0 m.live.length c0) (.slice A1 m.qa.length c1) (.slice A2 m.tok.qj.length c2) m.tok)) :=
  ⟨pq hres,(qd5 (sK.out.kp (qa5 hres) (by decide) (by decide))).mono (fun j hj=>Nat.le_trans jZ.out hj),gq zU.out (Nat.le_refl _)⟩
 clear hres HDI sK;obtain⟨r1,hr1⟩:=QE ((wy m).1);obtain⟨r2,hr2⟩:=QE ((wy m).2);rw[hE]at hr1 hr2;dsimp only at hr1 hr2;rw[hE];subst hr2;dsimp only;have hq:((str (bl s)).toList == s.toList)=true:=by rw[eB];simp
 have HQ:=QH hq;clear hq hE;obtain⟨S1,hS1⟩:=QE (str (bl s));rw[hS1]at HQ ⊢;clear hS1 hr1;have hq:(S1.toList == s.toList)=true:=HQ.out;go_wp2_with fail;show bodyPost _ _ _ _ _ (xz W4 w.heap.size (.slice A0 m.live.length c0) (.slice A1 m.qa.length c1) (.slice A2 m.tok.qj.length c2) m.tok);obtain⟨WE,hWE⟩:=QE (xz W4 w.heap.size (.slice A0 m.live.length c0) (.slice A1 m.qa.length c1) (.slice A2 m.tok.qj.length c2) m.tok);have hf:=HF1.out;rw[hWE]at hf ⊢;have hl:=qeK (v0:=.slice A0 m.live.length c0) (v1:=.slice A1 m.qa.length c1) (v2:=.slice A2 m.tok.qj.length c2) (t:=m.tok) hf.1;refine bodyPost_ret (v:=.tuple #[.agg (zi A0 A1 A2 c0 c1 c2 m),.int .i64 0]) ?_ rfl ⟨A0,A1,A2,c0,c1,c2,rfl,hf.2.1,hf.2.2⟩;exact eN results43 _ _ _ ⟨w.heap.size,0,none⟩ _ _ (by simp) (by simp) hl
end Go.Proofs.YtdagdllomphidaaGreatDoor.vt.pg
namespace Go.Proofs.YtdagdllomphidaaGreatDoor
open _root_.Go.Proofs.Tryz Go Go.RowKit
section
variable {P:Program} {ops:Array Oper} {Q:Exit→Act→World→Prop}
def sL (ops:Array Oper)(m:Nat)(ds:List Tmp)(size:Nat)(fs:List Nat):Bool :=
 decide (m≤ops.size)&&decide (ds.length=m)&&decide ds.Nodup&&ds.all (fun d=>decide (d<size)) &&
 (List.range m).all (fun i=>match ops[i]? with
  | some o=>o.guard.isNone&&o.dst == ds[i]? && (match o.op with | .select .. => false|_=>true) &&
   o.after.all (fun e=>!Region.binds .any e || decide (e.on<i)) &&
   o.op.operands.toList.all (fun x=>match x with
    | .tmp t=>match ds.idxOf? t with
     | some j=>zE ops i j
     | none=>true
    | _=>true)
  | none=>false) &&
 (List.range ops.size).all (fun j=>decide (j<m) || (match ops[j]? with
  | some o=>(o.after.any fun e=>Region.binds .any e&&decide (m≤e.on)) || (List.range m).all (fun i=>fs.contains i || zE ops j i || (List.range m).any (fun k=>zE ops k i))
  | none=>false))
structure qbp(ops:Array Oper)(m:Nat)(ds:List Tmp)(size:Nat)(fs:List Nat):Prop where
 le:m≤ops.size
 len:ds.length=m
 nodup:ds.Nodup
 small:∀d∈ds,d<size
 each:∀i,i<m→∃o,ops[i]?=some o∧o.guard=none∧o.dst=ds[i]? ∧ (∀cs b,o.op ≠ .select cs b)∧(∀e∈o.after,Region.binds .any e=true→e.on<i) ∧
  (∀t j,Operand.tmp t∈o.op.operands→ds.idxOf? t=some j→zE ops i j=true)
 tail:∀j o,m≤j→ops[j]?=some o→(∃e∈o.after,Region.binds .any e=true∧m≤e.on)∨(∀i,i<m→i∈fs∨zE ops j i=true∨∃k,k<m∧zE ops k i=true)
theorem qhg{m:Nat}{ds:List Tmp}{size:Nat}{fs:List Nat}(h:sL ops m ds size fs=true):qbp ops m ds size fs:=by
 unfold sL at h;simp only[Bool.and_eq_true,decide_eq_true_eq,List.all_eq_true,List.mem_range]at h;obtain⟨⟨⟨⟨⟨h1,h2⟩,h3⟩,h4⟩,h5⟩,h6⟩:=h;refine⟨h1,h2,h3,h4,fun i hi=>?_,fun j o hj ho=>?_⟩
 ·have h:=h5 i hi;cases ho:ops[i]? with
  | none=>simp[ho]at h
  | some o =>
   simp only[ho,Bool.and_eq_true]at h;obtain⟨⟨⟨⟨g1,g2⟩,g3⟩,g4⟩,g5⟩:=h;refine⟨o,rfl,by simpa using g1,by simpa using g2,fun cs b hs=>by simp[hs]at g3,fun e he hb=>?_,fun t j ht hj=>?_⟩
   ·have:=Array.all_eq_true_iff_forall_mem.1 g4 e he;simpa[hb]using this
   ·have:=List.all_eq_true.1 g5 (.tmp t) (by simpa using ht);simpa[hj]using this
 ·have hlt:j<ops.size:=(Array.getElem?_eq_some_iff.1 ho).1;have h:=h6 j hlt;simp only[ho,Bool.or_eq_true,decide_eq_true_eq]at h;rcases h with h|h|h
  ·omega
  ·obtain⟨e,he,hb⟩:=Array.any_eq_true'.1 h;simp only[Bool.and_eq_true,decide_eq_true_eq]at hb;exact .inl ⟨e,he,hb.1,hb.2⟩
  ·refine .inr fun i hi=>?_;have:=List.all_eq_true.1 h i (by simpa using hi);simp only[Bool.or_eq_true,List.any_eq_true,List.mem_range]at this;rcases this with(h|h)|h
   ·exact .inl (by simpa using h)
   ·exact .inr (.inl h)
   ·exact .inr (.inr h)
variable {a0:Act} {w0:World} {m:Nat} {ds:List Tmp} {G:Nat→Value→World→Prop}
theorem mI {fs:List Nat}(ok:qbp ops m ds a0.tmps.size fs)
    (mono:∀i v w w',i<m→G i v w→Below w.heap.size w w'→G i v w')
    (step:∀i o vs w,i<m→ops[i]?=some o→Below w0.heap.size w0 w→(∀j,zE ops i j=true→G j (vs j) w) →
     jA P (fun v w'=>Below w.heap.size w w'∧G i v w') ((execOp (valOf a0 ds vs) o).run P w))
    (fin:∀vs w',Below w0.heap.size w0 w'→(∀i,i<m→G i (vs i) w')→wpAny P .any ops Q (ops.size-m) (xu ops.size m) (zJ vs ds a0) w') :
    ∀(r:Nat) (listed:Array Bool) (vs:Nat→Value) (a:Act) (w:World),qnm ops a0 w0 m ds G listed vs a w→(∀i∈fs,listed.getD i false=true)→xc m listed=r→wpAny P .any ops Q (ops.size-m+r) listed a w
 | 0,listed,vs,a,w,hI,hF,hr=>by
  have hall:=gh hr;have hl:listed=xu ops.size m:=by
   apply Array.ext
   ·simp[xu,hI.size]
   ·intro i h1 h2;have e:listed.getD i false=listed[i]:=by simp[h1]
    by_cases hi:i<m
    ·have:=hall i hi;rw[e]at this;simp[xu,this,hi]
    ·have:=hI.tail i (by omega);rw[e]at this;simp[xu,this,hi]
  have ha:a=zJ vs ds a0:=by
   rw[hI.act];exact xR _ _ _ _ ds 0 a0 fun j _ hj=>⟨hall j (by rw[← ok.len];omega),fun _=>rfl⟩
  rw[hl,ha,Nat.add_zero];exact fin vs w hI.ext fun i hi=>hI.good i hi (hall i hi)
 | r+1,listed,vs,a,w,hI,hF,hr=>by
  refine⟨fun h0=>?_,fun i hi=>?_⟩
  ·
   exfalso;have hex:∃i,i<m∧listed.getD i false=false:=by
    apply Classical.byContradiction;intro hn;have:xc m listed=0:=by
     unfold xc;rw[List.countP_eq_zero];intro i hi;have hi':=List.mem_range.1 hi;cases hb:listed.getD i false
     ·exact absurd ⟨i,hi',hb⟩ hn
     ·simp
    omega
   have key:∀n i,i<n→i<m→listed.getD i false=false→False:=by
    intro n
    induction n with
    | zero=>intro i h;omega
    | succ n ih =>
     intro i hin vE hf;obtain⟨o,ho,_,_,_,xE,_⟩:=ok.each i vE;have hs:i<listed.size:=by rw[hI.size];exact Nat.lt_of_lt_of_le vE ok.le
     have:i∈Region.ready .any ops listed:=by
      rw[mem_ready];refine⟨by rw[zY hs];exact hf,o,ho,fun e he hb=>?_⟩;cases hb':listed.getD e.on false
      ·exact(ih e.on (by have:=xE e he hb;omega) (by have:=xE e he hb;omega) hb').elim
      ·rfl
     rw[h0]at this;cases this
   obtain⟨i,vE,hf⟩:=hex;exact key (i+1) i (by omega) vE hf
  ·obtain⟨hun,o,ho,hall⟩:=mem_ready.1 hi;have hio:i<ops.size:=(Array.getElem?_eq_some_iff.1 ho).1;have hs:i<listed.size:=by rw[hI.size];exact hio
   have hf:listed.getD i false=false:=by rw[← zY hs];exact hun
   by_cases vE:i<m
   ·obtain⟨o',ho',hgd,qcF,qgj,xE,qgk⟩:=ok.each i vE;obtain rfl:o=o':=Option.some.inj (ho.symm.trans ho');unfold wpOp;simp only[ho];have hw:Region.wanted o (yielded ops a.tmps)=true:=by simp[Region.wanted,hgd]
    rw[if_pos hw]
    left
    have hρ:execOp a.eval o=execOp (valOf a0 ds vs) o:=by
     refine execOp_congr o qgj fun x hx=>?_;rw[hI.act];cases x with
     | tmp t =>
      cases hj:ds.idxOf? t with
      | none =>
       rw[yT hj];exact kO _ _ t ds 0 a0 (by rw[List.idxOf?_eq_none_iff]at hj;exact hj)
      | some j =>
       rw[yU hj];have hdj:ds[j]?=some t:=by
        have:=List.of_findIdx?_eq_some (p:=(· == t)) (xs:=ds) (i:=j) (by simpa[List.idxOf?]using hj);cases hd:ds[j]? with
        | none=>simp[hd]at this
        | some d=>simp[hd]at this;rw[this]
       obtain⟨e,he,hb,rfl⟩:=xy ho (qgk t j hx hj);have:=uR (fun i=>listed.getD i false) vs t ds 0 e.on a0 ok.nodup hdj (by simpa using hall e he hb) (ok.small t (List.mem_of_getElem? hdj));simpa using this
     | const v=>simp only[valOf];rfl
     | global g=>simp only[valOf];rfl
     | func f=>simp only[valOf];rfl
    have hst:=step i o vs w vE ho hI.ext fun j hj=>by
     obtain⟨e,he,hb,rfl⟩:=xy ho hj;exact hI.good e.on (by have:=xE e he hb;omega) (hall e he hb)
    rw[← hρ]at hst;refine vH hst fun v w' ⟨nW,hG⟩=>?_;have hdi:∃d,ds[i]?=some d:=⟨ds[i]'(by rw[ok.len];exact vE),List.getElem?_eq_getElem _⟩;obtain⟨d,hd⟩:=hdi;refine mI ok mono step fin r (listed.setIfInBounds i true) (yG vs i v) (a.put o.dst v) w' ⟨?_,?_,?_,?_,?_,?_⟩ (fun k hk=>getD_set_true (hF k hk)) ?_
    ·simp[hI.size]
    ·intro j hj;rw[getD_set_ne false (by omega)];exact hI.tail j hj
    ·intro j oj hoj hl e he hb;by_cases dY:j=i
     ·subst dY;obtain rfl:o=oj:=Option.some.inj (ho.symm.trans hoj);exact getD_set_true (hall e he hb)
     ·rw[getD_set_ne false (Ne.symm dY)]at hl;exact getD_set_true (hI.closed j oj hoj hl e he hb)
    ·exact qax hI.ext nW
    ·intro j hj hl;by_cases dY:j=i
     ·subst dY;simpa[yG]using hG
     ·rw[getD_set_ne false (Ne.symm dY)]at hl;have:=mono j _ w w' hj (hI.good j hj hl) nW;simpa[yG,dY]using this
    ·rw[qcF,hd,hI.act];have:=kN (fun i=>listed.getD i false) vs i v ds 0 a0 d ok.nodup (Nat.zero_le _) (by simpa using hd) hf;rw[this,jI hs]
    ·have:=vI vE hs hf;omega
   ·exfalso;have hex:∃k,k<m∧listed.getD k false=false:=by
     apply Classical.byContradiction;intro hn;have:xc m listed=0:=by
      unfold xc;rw[List.countP_eq_zero];intro k hk;cases hb:listed.getD k false
      ·exact absurd ⟨k,List.mem_range.1 hk,hb⟩ hn
      ·simp
     omega
    rcases ok.tail i o (by omega) ho with⟨e,he,hb,hme⟩|qtc
    ·have h1:=hall e he hb;rw[hI.tail e.on hme]at h1;cases h1
    ·have key:∀n k,m-k≤n→k<m→listed.getD k false=true:=by
        intro n
        induction n with
        | zero=>intro k h1 h2;omega
        | succ n ih =>
         intro k h1 h2;rcases qtc k h2 with h|h|⟨k',ee,h⟩
         ·exact hF k h
         ·obtain⟨e,he,hb,rfl⟩:=xy ho h;exact hall e he hb
         ·obtain⟨ok',qjx,_,_,_,xE,_⟩:=ok.each k' ee;obtain⟨e,he,hb,rfl⟩:=xy qjx h;have hlt:=xE e he hb;exact hI.closed k' ok' qjx (ih k' (by omega) ee) e he hb
     obtain⟨k,hk,hkf⟩:=hex;rw[key m k (by omega) hk]at hkf;cases hkf
theorem cm {id:Nat}{a:Act}{w:World}(hm:P.follows .mixedOrders=true)(m:Nat)(ds:List Tmp)(jq:sL ops m ds a.tmps.size [0]=true)(G:Nat→Value→World→Prop)
    (o0:Oper) (v0:Value) (ho0:ops[0]?=some o0) (h0m:0<m) (hs:Region.noSelect ops=true) (hf:Region.free .any ops (Array.replicate ops.size false) 0=true) (hr:(Region.ready .any ops (Array.replicate ops.size false)).contains 0=true)
    (hQ:∀c a w,Q (.panic c) (a.put o0.dst v0) w→Q (.panic c) a w) (hy:Yields P ops o0 v0 a) (hG0:∀W,G 0 v0 W)
    (mono:∀i v w w',i<m→G i v w→Below w.heap.size w w'→G i v w')
    (step:∀i o vs ρ w',i<m→ops[i]?=some o→Reads a ds vs ρ→(∀f,ρ (.func f)=a.eval (.func f))→Below w.heap.size w w'→(∀j,zE ops i j=true→G j (vs j) w') →
     jA P (fun v w''=>Below w'.heap.size w' w''∧G i v w'') ((execOp ρ o).run P w'))
    (fin:∀vs w',Below w.heap.size w w'→(∀i,i<m→G i (vs i) w')→wpAny P .any ops Q (ops.size-m) (xu ops.size m) (zJ vs ds a) w') :
    (Code.region id ops true).wp P Q a w:=by
 have ok:=qhg jq;have hd:Below w.heap.size w { w with drawn:=w.drawn+1 }:=⟨rfl,rfl,rfl,Nat.le_refl _,fun _ _=>rfl⟩;refine wp_region_any hm ?_;have hc:xc m (Array.replicate ops.size false)=m:=by
  have:=List.countP_eq_length (l:=List.range m) (p:=fun i=>!(Array.replicate ops.size false).getD i false) |>.2 fun i _=>by rw[zS];rfl
  unfold xc;rw[this,List.length_range]
 have ha:a=qP (fun i=>(Array.replicate ops.size false).getD i false) (fun _=>undef) ds 0 a:=by
  have:qP (fun i=>(Array.replicate ops.size false).getD i false) (fun _=>undef) ds 0 a=qP (fun _=>false) (fun _=>undef) ds 0 a:=xR _ _ _ _ ds 0 a fun j _ _=>⟨zS _ j,fun _=>rfl⟩;rw[this];exact(ui ds 0 a).symm
 have hsz:0<(Array.replicate ops.size false).size:=by
  have:=ok.le;simp;omega
 have hc2:=vI (listed:=Array.replicate ops.size false) h0m hsz (zS _ 0);obtain⟨o',ho',hgd,qcF,qgj,xE,qgk⟩:=ok.each 0 h0m;obtain rfl:o0=o':=Option.some.inj (ho0.symm.trans ho');have hdi:∃d,ds[0]?=some d:=⟨ds[0]'(by rw[ok.len];exact h0m),List.getElem?_eq_getElem _⟩;obtain⟨d,hdd⟩:=hdi;have hI:qnm ops a w m ds G ((Array.replicate ops.size false).setIfInBounds 0 true) (yG (fun _=>undef) 0 v0) (a.put o0.dst v0) { w with drawn:=w.drawn+1 }:={
  size:=by simp
  tail:=fun j hj=>by
   rw[getD_set_ne false (by omega)];exact zS _ j
  closed:=fun i o hio h e he hb=>by
   by_cases hi:i=0
   ·subst hi;obtain rfl:o0=o:=Option.some.inj (ho0.symm.trans hio);have:=xE e he hb;omega
   ·rw[getD_set_ne false (Ne.symm hi),zS]at h;cases h
  ext:=hd
  good:=fun i _ h=>by
   by_cases hi:i=0
   ·subst hi;simpa[yG]using hG0 _
   ·rw[getD_set_ne false (Ne.symm hi),zS]at h;cases h
  act:=by
   have:=kN (fun i=>(Array.replicate ops.size false).getD i false) (fun _=>undef) 0 v0 ds 0 a d ok.nodup (Nat.zero_le _) (by simpa using hdd) (zS _ 0);rw[qcF,hdd]
   conv=>lhs;rw[ha]
   rw[this,jI hsz] }
 have h1:=mI (Q:=Q) (fs:=[0]) ok mono (fun i o vs w' hi ho hb hG=>step i o vs (valOf a ds vs) w' hi ho ⟨fun _ _ h=>yU h,fun _ h=>yT h,fun _=>rfl⟩ (fun _=>rfl) hb hG) fin (m-1) _ _ _ _ hI (fun i hi=>by
  obtain rfl:i=0:=by simpa using hi
  simp;have:=ok.le;omega) (by omega)
 have e:ops.size=(ops.size-m+(m-1))+1:=by
  have:=ok.le;omega
 have h2:=wpAny_take (P:=P) (md:=.any) (ops:=ops) (Q:=Q) (fuel:=ops.size-m+(m-1)) ho0 hs hf hr hQ hy h1;rw[← e]at h2;exact h2
end
end Go.Proofs.YtdagdllomphidaaGreatDoor
