/- VtPlace, ImMath, VtOps, VtDoes, VtStage, Chgs, ChHyp, CSum, VtHyp, VtTrio. -/
import Derived.Test.YtdpbdkacngaemaaGreatDoorZK9
set_option linter.unusedVariables false
set_option linter.unusedSimpArgs false
set_option maxHeartbeats 30000000
set_option maxRecDepth 100000
namespace Go.Proofs.YtdpbdkacngaemaaGreatDoor.vt
open _root_.Go.Proofs.Tryz Go Go.RowKit jr mt im sp
def qpq (n:Int)(l:List Int):Prop:=∀z∈l,z=0∨(193≤z∧z<n)
theorem qgx(cs:List Int)(k:Nat)(M:Nat)(hb:bnd M cs)(hM:M≤1000000000)(hk:k<cs.length):(bump cs k).getD k 0=cs.getD k 0+1:=by
 have hg:0≤cs.getD k 0∧cs.getD k 0≤(M:Int):=by
  have:cs.getD k 0=cs[k]:=by simp[List.getD,hk]
  rw[this];exact hb _ (List.getElem_mem hk)
 have hw:wrap64 (cs.getD k 0+1)=cs.getD k 0+1:=by unfold wrap64;omega
 unfold bump;rw[hw];generalize cs.getD k 0+1=v;simp[List.getD,hk]
theorem qjI{cs:List Int}{k M:Nat}(hb:bnd M cs)(hM:M≤1000000000):bnd (M+1) (bump cs k):=by
 intro z hz;unfold bump at hz;rcases List.mem_or_eq_of_mem_set hz with h|h
 ·have:=hb z h;omega
 ·have hg:0≤cs.getD k 0∧cs.getD k 0≤(M:Int):=by
     by_cases hk:k<cs.length
     ·have:cs.getD k 0=cs[k]:=by simp[List.getD,hk]
      rw[this];exact hb _ (List.getElem_mem hk)
     ·have:cs.getD k 0=0:=by simp[List.getD,List.getElem?_eq_none (show cs.length≤k by omega)]
      rw[this];omega
  have hw:wrap64 (cs.getD k 0+1)=cs.getD k 0+1:=by unfold wrap64;omega
  rw[hw]at h;omega
theorem eC {n:Int}:∀(l cs:List Int) (M:Nat),qpq n l→bnd M cs→(cs.length:Int)=n→M+l.length≤1000000000 →
    ∃cs',jV n cs l=some cs'∧cs'.length=cs.length∧(∀j,cs.getD j 0≤cs'.getD j 0)∧(∀z∈l,z≠0→cs.getD z.toNat 0+1≤cs'.getD z.toNat 0)∧xW cs≤xW cs'+l.length
 | [],cs,M,_,_,_,_=>⟨cs,rfl,rfl,fun _=>Int.le_refl _,fun z h=>absurd h (by simp),by simp⟩
 | z::r,cs,M,hg,hb,hn,hM=>by
  rw[List.length_cons]at hM;rw[dA];by_cases hz:z=0
  ·rw[if_pos hz];obtain⟨cs',h1,h2,h3,h4,h5⟩:=eC r cs M (fun y hy=>hg y (by simp[hy])) hb hn (by omega);refine⟨cs',h1,h2,h3,fun y hy h0=>?_,by rw[List.length_cons];omega⟩;rcases List.mem_cons.1 hy with e|hy
   ·exact absurd (e.trans hz) h0
   ·exact h4 y hy h0
  ·have hr:193≤z∧z<n:=by
      rcases hg z (by simp)with h|h
      ·exact absurd h hz
      ·exact h
   rw[if_neg hz,if_neg (by omega)];have hk:z.toNat<cs.length:=by omega
   obtain⟨cs',h1,h2,h3,h4,h5⟩:=eC r (bump cs z.toNat) (M+1) (fun y hy=>hg y (by simp[hy])) (qjI hb (by omega)) (by rw[bI];exact hn) (by omega);have hbz:=qgx cs z.toNat M hb (by omega) hk;have qpr:∀j,cs.getD j 0≤(bump cs z.toNat).getD j 0:=fun j=>by
    by_cases e:j=z.toNat
    ·rw[e,hbz];omega
    ·rw[aA cs _ j e];exact Int.le_refl _
   refine⟨cs',h1,by rw[h2,bI],fun j=>Int.le_trans (qpr j) (h3 j),fun y hy h0=>?_,?_⟩
   ·rcases List.mem_cons.1 hy with rfl|hy
    ·have:=h3 y.toNat;omega
    ·have:=qpr y.toNat;have:=h4 y hy h0;omega
   ·have hf:xW cs≤xW (bump cs z.toNat)+1:=by
       unfold xW;rw[bI];by_cases h0:cs.getD z.toNat 0=0
       ·have:=lW cs z.toNat hk (by omega) h0 cs.length;split at this <;> omega
       ·have e:∀i,(qP (bump cs z.toNat) i).length=(qP cs i).length:=by
           intro i
           induction i with
           | zero=>rfl
           | succ i ih =>
            rw[yy,yy,ih];by_cases ei:i=z.toNat
            ·subst ei;rw[hbz];have hg0:0≤cs.getD z.toNat 0:=by
              have:cs.getD z.toNat 0=cs[z.toNat]:=by simp[List.getD,hk]
              rw[this];exact(hb _ (List.getElem_mem hk)).1
             rw[if_neg (by omega),if_neg (by omega)]
            ·rw[aA cs _ i ei]
        rw[e];omega
    rw[List.length_cons];omega
theorem qaX(N:Nat):∀i,193≤i→i≤N→(qP (List.replicate N 0) i).length=i-193:=by
 intro i
 induction i with
 | zero=>intro h;omega
 | succ i ih =>
  intro h hN;rw[yy];have h0:(List.replicate N (0:Int)).getD i 0=0:=by simp[List.getD,show i<N by omega]
  by_cases hi:193≤i
  ·rw[ih hi (by omega),if_pos ⟨hi,h0⟩];omega
  ·rw[yH _ i (by omega),if_neg (fun h=>hi h.1)];simp;omega
section
variable {b N:Nat} {t:Tg} {m:Mt}
theorem qaY(h:jm b N m):qpq (N:Int) (xg m).flatten:=by
 intro z hz;obtain⟨l,hl,hz⟩:=List.mem_flatten.1 hz;unfold xg at hl;rcases List.mem_cons.1 hl with rfl|hl
 ·exact h.live.2.1 z hz
 ·rcases List.mem_cons.1 hl with rfl|hl
  ·rcases h.tok with ht|ht
   ·rw[ht]at hz;simp[yg]at hz
   ·exact ht.2.2.2.2.2.2.1 z hz
  ·obtain⟨s,hs,rfl⟩:=List.mem_map.1 hl;exact(h.wM s hs).2.1 z hz
theorem qdl(h:jm b N m):(xg m).flatten.length≤b*(m.qd.length+2):=by
 have h1:m.live.length=b:=h.len;have h2:m.tok.qp.length≤b:=by
  rcases h.tok with ht|ht
  ·rw[ht];simp[yg]
  ·have:=ht.2.2.2.2.2.1;omega
 have h3:∀l:List Sp,(∀s∈l,jk b N s.qp)→(l.map (·.qp)).flatten.length=b*l.length:=by
  intro l
  induction l with
  | nil=>simp
  | cons s l ih =>
   intro hl;have:=ih (fun x hx=>hl x (by simp[hx]));have:=(hl s (by simp)).1;rw[List.map_cons,List.flatten_cons,List.length_append,List.length_cons,Nat.mul_succ];omega
 have:=h3 m.qd h.wM;have e:b*(m.qd.length+2)=b*m.qd.length+(b+b):=by rw[Nat.mul_add];omega
 unfold xg;simp only[List.flatten_cons,List.length_append];omega
theorem mf (h:jm b N m):b*(m.qd.length+2)≤176:=by
 have:=Nat.mul_le_mul h.b8 (Nat.add_le_add_right h.few 2);omega
theorem aD (h:jm b N m)(hN:N≤1024):∃cs,yG (xg m) (N:Int)=(cs,0)∧cs.length=N∧(∀z,held m z→z≠0→1≤cs.getD z.toNat 0)∧(N-193)≤xW cs+b*(m.qd.length+2):=by
 have hg:=qaY h;have hl:=qdl h;have hl6:=mf h;obtain⟨cs,h1,h2,h3,h4,h5⟩:=eC (xg m).flatten (List.replicate N 0) 0 hg (fun z hz=>by rw[List.eq_of_mem_replicate hz];omega) (by simp) (by omega);refine⟨cs,?_,by rw[h2,List.length_replicate],fun z hz h0=>?_,?_⟩
 ·unfold yG;rw[if_neg (by omega),Int.toNat_natCast,h1]
 ·obtain⟨l,hl,hz⟩:=hz;have:=h4 z (List.mem_flatten.2 ⟨l,hl,hz⟩) h0;have h0:(List.replicate N (0:Int)).getD z.toNat 0=0:=by
   by_cases hk:z.toNat<N
   ·simp[List.getD,hk]
   ·simp[List.getD,hk]
  omega
 ·have:N-193≤xW (List.replicate N (0:Int)):=by
     unfold xW;rw[List.length_replicate];by_cases qv2:193≤N
     ·rw[qaX N N qv2 (Nat.le_refl _)];exact Nat.le_refl _
     ·omega
  omega
theorem vk (k:Int)(s:Bt)(r:List (Int × Bt)):full ((k,s)::r)=full r+if s=zb then 0 else 1:=by
 unfold full;by_cases h:s=zb <;> simp[h]
theorem eD:∀(x:List (Int × Bt)) (fr:List Int),full x≤fr.length →
    (qg fr x).1.length=x.length∧(qg fr x).2.map (·.1)=fr.take (full x)∧(∀y∈(qg fr x).2,∃c∈x,y.2=c.2) ∧
     (∀i (hi:i<x.length) (ha:i<(qg fr x).1.length),(x[i].2=zb∧(qg fr x).1[i]=0)∨(x[i].2≠zb∧((qg fr x).1[i],x[i].2)∈(qg fr x).2))
 | [],fr,_=>⟨rfl,by simp[qg,full],by simp[qg],fun i hi=>by simp at hi⟩
 | (k,s)::r,fr,h=>by
  rw[vk]at h;by_cases hs:s=zb
  ·rw[if_pos hs]at h;obtain⟨h1,h2,h3,h4⟩:=eD r fr (by omega);have e:qg fr ((k,s)::r)=(0::(qg fr r).1,(qg fr r).2):=by
    cases fr <;> simp[qg,hs]
   rw[e,vk,if_pos hs,Nat.add_zero];refine⟨by simp[h1],h2,fun y hy=>?_,fun i hi ha=>?_⟩
   ·obtain⟨c,hc,he⟩:=h3 y hy;exact⟨c,by simp[hc],he⟩
   ·cases i with
    | zero=>exact .inl ⟨hs,rfl⟩
    | succ i=>exact h4 i (by simpa using hi) (by simpa using ha)
  ·rw[if_neg hs]at h;cases fr with
   | nil=>simp at h
   | cons f fr =>
    obtain⟨h1,h2,h3,h4⟩:=eD r fr (by simp at h;omega);have e:qg (f::fr) ((k,s)::r)=(f::(qg fr r).1,(f,s)::(qg fr r).2):=by
     simp[qg,hs]
    rw[e,vk,if_neg hs];refine⟨by simp[h1],by simp[h2],fun y hy=>?_,fun i hi ha=>?_⟩
    ·rcases List.mem_cons.1 hy with rfl|hy
     ·exact⟨(k,s),by simp,rfl⟩
     ·obtain⟨c,hc,he⟩:=h3 y hy;exact⟨c,by simp[hc],he⟩
    ·cases i with
     | zero=>exact .inr ⟨hs,by simp⟩
     | succ i =>
      rcases h4 i (by simpa using hi) (by simpa using ha)with h5|h5
      ·exact .inl h5
      ·exact .inr ⟨h5.1,by simp;exact .inr h5.2⟩
theorem dC:∀(x:List (Int × Bt)) (fr:List Int),∀a∈(qg fr x).1,a=0∨a∈fr
 | [],fr,a,h=>by simp[qg]at h
 | (k,s)::r,fr,a,h=>by
  by_cases hs:s=zb
  ·have e:qg fr ((k,s)::r)=(0::(qg fr r).1,(qg fr r).2):=by
      cases fr <;> simp[qg,hs]
   rw[e]at h;rcases List.mem_cons.1 h with h|h
   ·exact .inl h
   ·exact dC r fr a h
  ·cases fr with
   | nil =>
    have e:qg [] ((k,s)::r)=(0::(qg [] r).1,(qg [] r).2):=by simp[qg]
    rw[e]at h;rcases List.mem_cons.1 h with h|h
    ·exact .inl h
    ·exact dC r [] a h
   | cons f fr =>
    have e:qg (f::fr) ((k,s)::r)=(f::(qg fr r).1,(f,s)::(qg fr r).2):=by simp[qg,hs]
    rw[e]at h;rcases List.mem_cons.1 h with h|h
    ·exact .inr (by simp[h])
    ·rcases dC r fr a h with h|h
     ·exact .inl h
     ·exact .inr (by simp[h])
theorem uu:∀(x:List (Int × Bt)) (fr:List Int),fr.Nodup→∀i j,i<j→j<(qg fr x).1.length→pl (qg fr x).1 i=pl (qg fr x).1 j→pl (qg fr x).1 i=0
 | [],fr,_,i,j,_,hj,_=>by simp[qg]at hj
 | (k,s)::r,fr,hn,i,j,hij,hj,he=>by
  have zero:∀(A:List Int) (hA:∀i j,i<j→j<A.length→pl A i=pl A j→pl A i=0),j<(0::A).length→pl (0::A) i=pl (0::A) j→pl (0::A) i=0:=by
   intro A hA hj he;cases i with
   | zero=>rfl
   | succ i =>
    cases j with
    | zero=>omega
    | succ j=>exact hA i j (by omega) (by simpa using hj) (by simpa[pl]using he)
  by_cases hs:s=zb
  ·have e:qg fr ((k,s)::r)=(0::(qg fr r).1,(qg fr r).2):=by
      cases fr <;> simp[qg,hs]
   rw[e]at hj he ⊢;exact zero _ (uu r fr hn) hj he
  ·cases fr with
   | nil =>
    have e:qg [] ((k,s)::r)=(0::(qg [] r).1,(qg [] r).2):=by simp[qg]
    rw[e]at hj he ⊢;exact zero _ (uu r [] hn) hj he
   | cons f fr =>
    have e:qg (f::fr) ((k,s)::r)=(f::(qg fr r).1,(f,s)::(qg fr r).2):=by simp[qg,hs]
    rw[e]at hj he ⊢;rw[List.nodup_cons]at hn;cases j with
    | zero=>omega
    | succ j =>
     have hj':j<(qg fr r).1.length:=by simpa using hj
     cases i with
     | zero =>
      have hm:=dC r fr (qg fr r).1[j] (List.getElem_mem hj');have he':f=(qg fr r).1[j]:=by
       have:=he;unfold pl at this;simpa[List.getD,hj']using this
      rcases hm with h|h
      ·show f=0;rw[he',h]
      ·exact absurd (he' ▸ h) hn.1
     | succ i=>exact uu r fr hn.2 i j (by omega) hj' (by simpa[pl]using he)
theorem sB (x:List (Int × Bt)):full x≤x.length:=List.length_filter_le _ _
def pF (b N:Nat)(m:Mt)(x:List (Int × Bt)):Prop:=N<193+b*(m.qd.length+2)+x.length
theorem pF.far(h:jm b N m){x:List (Int × Bt)}(hf:pF b N m x)(hx:x.length≤8):N<377:=by
 have:=mf h;unfold pF at hf;omega
structure mg(N:Nat)(m:Mt)(x:List (Int × Bt))(at_:List Int)(ws:List Wr):Prop where
 len:at_.length=x.length
 wok:sA N m ws
 each:∀i (hi:i<x.length) (ha:i<at_.length),(x[i].2=zb∧at_[i]=0)∨(x[i].2≠zb∧(at_[i],x[i].2)∈ws)
 fresh:∀i j,i<j→j<at_.length→pl at_ i=pl at_ j→pl at_ i=0
theorem jL (h:jm b N m)(hN:N≤1024)(x:List (Int × Bt))(hx:x.length≤8)(h32:∀c∈x,c.2.length=32) :
    ((qL N m x).2=7∧pF b N m x)∨((qL N m x).2=0∧mg N m x (qL N m x).1.1 (qL N m x).1.2):=by
 obtain⟨cs,h1,h2,h3,h4⟩:=aD h hN;have hf:=sB x;have hst:yS cs (full x:Int)=if (xW cs:Int)<(full x:Int)then([],7)else((qP cs cs.length).take (full x),0):=by
  unfold yS;rw[if_neg (by omega),Int.toNat_natCast]
 unfold qL;rw[h1];dsimp only;rw[hst];by_cases hfull:(xW cs:Int)<(full x:Int)
 ·rw[if_pos hfull]
  left
  exact⟨by simp,by unfold pF;omega⟩
 ·rw[if_neg hfull]
  right
  simp only[if_true];refine⟨trivial,?_⟩;have hlen:full x≤((qP cs cs.length).take (full x)).length:=by
   rw[List.length_take];unfold xW at hfull;omega
  obtain⟨p1,p2,p3,p4⟩:=eD x _ hlen;have hmem:∀y∈(qg ((qP cs cs.length).take (full x)) x).2,y.1∈qP cs cs.length:=fun y hy=>by
   have:y.1∈(qg ((qP cs cs.length).take (full x)) x).2.map (·.1):=List.mem_map_of_mem hy;rw[p2]at this;exact List.mem_of_mem_take (List.mem_of_mem_take this)
  have hnd:((qg ((qP cs cs.length).take (full x)) x).2.map (·.1)).Nodup:=by
   rw[p2];have hr:=lV cs cs.length;have:(qP cs cs.length).Nodup:=hr.imp (fun h=>by omega);exact(this.sublist (List.take_sublist _ _)).sublist (List.take_sublist _ _)
  have q9E:(qg ((qP cs cs.length).take (full x)) x).2.length=full x:=by
   have:=congrArg List.length p2;rw[List.length_map,List.length_take,List.length_take]at this;unfold xW at hfull;omega
  have q0i:sA N m (qg ((qP cs cs.length).take (full x)) x).2:=by
   refine⟨by omega,hnd,fun y hy=>?_,fun y hy hh=>?_,fun y hy=>?_⟩
   ·obtain⟨j,e,g1,g2,_⟩:=eB.1 (hmem y hy);omega
   ·obtain⟨j,e,g1,g2,g3⟩:=eB.1 (hmem y hy);have:=h3 y.1 hh (by omega);rw[e,Int.toNat_natCast]at this;omega
   ·obtain⟨c,hc,e⟩:=p3 y hy;rw[e];exact h32 c hc
  have hfn:((qP cs cs.length).take (full x)).Nodup:=by
   have hr:=lV cs cs.length;have:(qP cs cs.length).Nodup:=hr.imp (fun h=>by omega);exact this.sublist (List.take_sublist _ _)
  exact⟨p1,q0i,p4,uu x _ hfn⟩
end
end Go.Proofs.YtdpbdkacngaemaaGreatDoor.vt
namespace Go.Proofs.YtdpbdkacngaemaaGreatDoor.im
open _root_.Go.Proofs.Tryz Go Go.RowKit
theorem qjJ{l:List Int}{j:Nat}(hj:j<l.length)(s:Int)(i:Nat):pl (l.set j s) i=if i=j then s else pl l i:=by
 unfold pl;rw[List.getD_eq_getElem?_getD,List.getD_eq_getElem?_getD,List.getElem?_set];by_cases e:j=i
 ·subst e;rw[if_pos rfl,if_pos hj,if_pos rfl];rfl
 ·rw[if_neg e,if_neg (fun h=>e h.symm)]
end Go.Proofs.YtdpbdkacngaemaaGreatDoor.im
namespace Go.Proofs.YtdpbdkacngaemaaGreatDoor.vt
open _root_.Go.Proofs.Tryz Go Go.RowKit jr mt im sp
def jD:List Bt→List (Int × Bt)→List Bt
 | l,[]=>l
 | l,(k,s)::r=>jD (l.set k.toNat s) r
theorem qdm(t:Tg)(l:List Int)(k:Nat)(a:Int):qD t (l.set k a)=(qD t l).set k (bj t a):=by
 unfold qD;rw[List.map_set]
theorem qdn(t:Tg)(l:List Int):(qD t l).length=l.length:=by simp[qD]
theorem vQ (l a:List Int):zU l [] a=l:=by simp[zU]
theorem aF (l:List Int)(y:Int × Bt)(r:List (Int × Bt)):zU l (y::r) []=l:=by simp[zU]
theorem uv (l:List Int)(k:Int)(s:Bt)(r:List (Int × Bt))(a:Int)(at_:List Int):zU l ((k,s)::r) (a::at_)=zU (l.set k.toNat a) r at_:=by simp[zU]
theorem mh (t:Tg):∀(x:List (Int × Bt)) (at_:List Int) (l:List Int),at_.length=x.length→(∀i (hi:i<x.length) (ha:i<at_.length),bj t at_[i]=x[i].2)→qD t (zU l x at_)=jD (qD t l) x
 | [],_,_,_,_=>by rw[vQ];rfl
 | (k,s)::r,[],l,h,_=>by simp at h
 | (k,s)::r,a::at_,l,h,hv=>by
  have h0:=hv 0 (by simp) (by simp);have ih:=mh t r at_ (l.set k.toNat a) (by simpa using h) (fun i hi ha=>hv (i+1) (by simpa using hi) (by simpa using ha));show qD t (zU l ((k,s)::r) (a::at_))=jD ((qD t l).set k.toNat s) r;rw[uv,ih,qdm]
  congr 2
theorem mi:∀(x:List (Int × Bt)) (at_:List Int) (l:List Int),(zU l x at_).length=l.length
 | [],_,_=>by rw[vQ]
 | (_,_)::_,[],_=>by rw[aF]
 | (k,s)::r,a::at_,l=>by
  rw[uv,mi r at_,List.length_set]
theorem qjK{l:List Int}{i:Nat}(h:i<l.length):pl l i∈l:=by rw[aO h];exact List.getElem_mem h
theorem jk.qu{b N:Nat}{l:List Int}(h:jk b N l)(k:Nat)(a:Int)(ha:a=0∨(193≤a∧a<(N:Int)∧a ∉ l)):jk b N (l.set k a):=by
 refine⟨by rw[List.length_set];exact h.1,fun z hz=>?_,fun i j hij hj e=>?_⟩
 ·rcases List.mem_or_eq_of_mem_set hz with hz|rfl
  ·exact h.2.1 z hz
  ·rcases ha with h|h
   ·exact .inl h
   ·exact .inr ⟨h.1,h.2.1⟩
 ·rw[List.length_set]at hj;by_cases hk:k<l.length
  ·rw[qjJ hk]at e ⊢;rw[qjJ hk]at e;by_cases h1:i=k
   ·rw[if_pos h1]at e ⊢;rw[if_neg (by omega)]at e;rcases ha with h|h
    ·exact h
    ·exact absurd (e ▸ qjK hj) h.2.2
   ·rw[if_neg h1]at e ⊢;by_cases h2:j=k
    ·rw[if_pos h2]at e;rcases ha with h|h
     ·rw[e,h]
     ·exact absurd (e ▸ qjK (by omega)) h.2.2
    ·rw[if_neg h2]at e;exact h.2.2 i j hij hj e
  ·rw[List.set_eq_of_length_le (by omega)]at e ⊢;exact h.2.2 i j hij hj e
theorem pG {b N:Nat}:∀(x:List (Int × Bt)) (at_:List Int) (l:List Int),jk b N l→(∀a∈at_,a=0∨(193≤a∧a<(N:Int)∧a ∉ l))→(∀i j,i<j→j<at_.length→pl at_ i=pl at_ j→pl at_ i=0)→jk b N (zU l x at_)
 | [],_,_,h,_,_=>by rw[vQ];exact h
 | (_,_)::_,[],_,h,_,_=>by rw[aF];exact h
 | (k,s)::r,a::at_,l,h,ha,hf=>by
  rw[uv];refine pG r at_ (l.set k.toNat a) (h.qu k.toNat a (ha a (by simp))) (fun a' ha'=>?_) (fun i j hij hj e=>?_)
  ·rcases ha a' (by simp[ha'])with h0|h0
   ·exact .inl h0
   ·by_cases e:a'=a
    ·left
     obtain⟨j,hj,e2⟩:=List.getElem_of_mem ha';have:=hf 0 (j+1) (by omega) (by simpa using hj) (by
      show a=pl (a::at_) (j+1);rw[aO (by simpa using hj)];simp[e2,e])
     rw[e];exact this
    ·refine .inr ⟨h0.1,h0.2.1,fun hm=>?_⟩;rcases List.mem_or_eq_of_mem_set hm with hm|hm
     ·exact h0.2.2 hm
     ·exact e hm
  ·exact hf (i+1) (j+1) (by omega) (by simpa using hj) e
theorem mj {b:Nat}:∀(x:List (Int × Bt)) (p:Int) (l:List Bt),l.length=b→ch.aB l p x=if xw b p x=true then some (jD l x)else none
 | [],p,l,_=>rfl
 | (k,s)::r,p,l,h=>by
  have ih:=mj (b:=b) r k (l.set k.toNat s) (by rw[List.length_set];exact h);unfold ch.aB xw;by_cases hb:k≤p∨(l.length:Int)≤k∨s.length≠32
  ·rw[if_pos hb,if_neg];simp only[Bool.and_eq_true,decide_eq_true_eq,not_and];intro h1 h2;omega
  ·rw[if_neg hb,ih];have e:(decide (p<k)&&decide (k<(b:Int))&&decide (s.length=32)&&xw b k r)=xw b k r:=by
    have h1:p<k:=by omega
    have h2:k<(b:Int):=by omega
    have h3:s.length=32:=by omega
    simp[h1,h2,h3]
   rw[e];rfl
theorem gH {b:Nat}:∀ {x:List (Int × Bt)} {p:Int},xw b p x=true→∀c∈x,c.2.length=32∧p<c.1∧c.1<(b:Int)
 | (k,s)::r,p,h,c,hc=>by
  unfold xw at h;simp only[Bool.and_eq_true,decide_eq_true_eq]at h;obtain⟨⟨⟨h1,h2⟩,h3⟩,h4⟩:=h;rcases List.mem_cons.1 hc with rfl|hc
  ·exact⟨h3,h1,h2⟩
  ·have:=gH h4 c hc;exact⟨this.1,by omega,this.2.2⟩
theorem eE {b:Nat}:∀ {x:List (Int × Bt)} {p:Int},xw b p x=true → -1≤p→p<(b:Int)→(x.length:Int)≤(b:Int)-1-p
 | [],p,_,_,h=>by simp;omega
 | (k,s)::r,p,h,h0,hb=>by
  unfold xw at h;simp only[Bool.and_eq_true,decide_eq_true_eq]at h;obtain⟨⟨⟨h1,h2⟩,h3⟩,h4⟩:=h;have:=eE h4 (by omega) h2;rw[List.length_cons];omega
section
variable {b N:Nat} {t:Tg} {m:Mt}
theorem bL (t:Tg)(m:Mt):(jM t m).last=qI m:=by
 unfold jM ch.CH.last qI;dsimp only;rw[List.getLast?_map];cases m.qd.getLast? <;> rfl
theorem qjL(t:Tg)(m:Mt):(jM t m).base=qD t (kR m):=by
 unfold jM ch.CH.base kR;dsimp only;rw[List.getLast?_map];cases m.qd.getLast? with
 | none =>
  show ch.dM (qD t m.live).length=_;rw[qdn];unfold ch.dM qD;rw[List.map_replicate];rfl
 | some s=>rfl
theorem qaZ(h:jm b N m):jk b N (kR m):=by
 unfold kR;split
 ·have hl:=h.len;refine⟨by rw[List.length_replicate];exact hl,fun z hz=>.inl (List.eq_of_mem_replicate hz),fun i j hij hj _=>?_⟩;rw[List.length_replicate]at hj;rw[aO (by rw[List.length_replicate];omega),List.getElem_replicate]
 ·rename_i s hs;exact h.wM s (List.mem_of_getLast? hs)
theorem qdo(z:Int)(hz:z∈kR m):z=0∨held m z:=by
 unfold kR at hz;split at hz
 ·exact .inl (List.eq_of_mem_replicate hz)
 ·rename_i s hs;exact .inr ⟨s.qp,qeO (List.mem_of_getLast? hs),hz⟩
theorem qv3(h:jm b N m):zV (qI m):=by
 unfold qI;split
 ·exact aQ
 ·rename_i s hs;exact h.gds.qd s (List.mem_of_getLast? hs)
theorem ml {g:Gd}:∀(l:List Gd) (p:Gd),kS p l→mt.above g (l.getLast?.getD p)=true→kS p (l++[g])
 | [],p,_,h=>⟨h,trivial⟩
 | x::l,p,h,hg=>by
  refine⟨h.1,ml l x h.2 ?_⟩;cases l with
  | nil=>exact hg
  | cons y l=>rw[List.getLast?_cons_cons]at hg;rw[List.getLast?_cons]at hg ⊢;exact hg
theorem mn:∀(l:List Gd) (p:Gd) (n:Nat),kS p l→kS p (l.take n)
 | [],p,n,_=>by simp[kS]
 | x::l,p,0,_=>trivial
 | x::l,p,n+1,h=>⟨h.1,mn l x n h.2⟩
theorem eF (m:Mt):(m.qd.map (·.g)).getLast?.getD (0,0)=qI m:=by
 unfold qI;rw[List.getLast?_map];cases m.qd.getLast? <;> rfl
theorem qjM{m:Mt}(h:mB m)(sn:List Sp)(l:List Int)(hs:∀s∈sn,zV s.g):mB ⟨l,sn,yg⟩:=⟨hs,aQ,aQ⟩
theorem jm.push(h:jm b N m)(g:Gd)(hg:zV g)(l qp:List Int)(hl:jk b N l)(hi:jk b N qp)(ha:mt.above g (qI m)=true)(hf:m.qd.length<20):jm b N ⟨l,m.qd++[⟨g,qp,false⟩],yg⟩:=by
 refine⟨h.b1,h.b8,hl,?_,fun s hs=>?_,?_,.inl rfl,qjM h.gds _ _ fun s hs=>?_⟩
 ·show(m.qd++[_]).length≤20;rw[List.length_append,List.length_singleton];omega
 ·rcases List.mem_append.1 hs with hs|hs
  ·exact h.wM s hs
  ·obtain rfl:s=_:=by simpa using hs
   exact hi
 ·show kS (0,0) ((m.qd++[(⟨g,qp,false⟩:Sp)]).map (fun s=>s.g));rw[List.map_append];exact ml _ _ h.qgw (by rw[eF];exact ha)
 ·rcases List.mem_append.1 hs with hs|hs
  ·exact h.gds.qd s hs
  ·obtain rfl:s=_:=by simpa using hs
   exact hg
theorem sA.nil(N:Nat)(m:Mt):sA N m []:=⟨by simp,by simp,fun x hx=>absurd hx (by simp),fun x hx=>absurd hx (by simp),fun x hx=>absurd hx (by simp)⟩
structure Does(b N:Nat)(t:Tg)(m:Mt)(P:qgv)(c:ch.CH):Prop where
 ok:jm b N P.m
 ws:sA N m P.ws
 jM:jM (over t (qK t P.m P.ws)) P.m=c
theorem qdp{m':Mt}{x:List (Int × Bt)}{at_:List Int}{ws:List Wr}(h:yz b N t m)(ho:jm b N m')(hp:mg N m x at_ ws):∀i (hi:i<x.length) (ha:i<at_.length),bj (over t (qK t m' ws)) at_[i]=x[i].2:=by
 intro i hi ha;unfold bj;rcases hp.each i hi ha with⟨h1,h2⟩|⟨h1,h2⟩
 ·rw[if_pos h2,h1]
 ·have hr:=hp.wok.range _ h2;dsimp only at hr;rw[if_neg (by omega)];exact qdj h ho hp.wok _ h2
theorem qgy{l:List Int}{x:List (Int × Bt)}{at_:List Int}{ws:List Wr}(hp:mg N m x at_ ws)(hl:jk b N l)(hh:∀z∈l,z=0∨held m z):jk b N (zU l x at_):=by
 refine pG x at_ l hl (fun a ha=>?_) hp.fresh;obtain⟨i,hi,rfl⟩:=List.getElem_of_mem ha;rcases hp.each i (by rw[← hp.len];exact hi) hi with⟨_,h2⟩|⟨_,h2⟩
 ·exact .inl h2
 ·have hr:=hp.wok.range _ h2;refine .inr ⟨hr.1,hr.2,fun hm=>?_⟩;rcases hh _ hm with h0|h0
  ·have hr1:=hr.1;dsimp only at hr1;omega
  ·exact hp.wok.free _ h2 h0
end
end Go.Proofs.YtdpbdkacngaemaaGreatDoor.vt
namespace Go.Proofs.YtdpbdkacngaemaaGreatDoor.vt
open _root_.Go.Proofs.Tryz Go Go.RowKit jr mt im sp
section
variable {b N:Nat} {t:Tg} {m:Mt}
theorem mo {m':Mt}{ws:List Wr}(h:yz b N t m)(ho:jm b N m')(hw:sA N m ws):m.qd.map (qaU (over t (qK t m' ws)))=m.qd.map (qaU t):=by
 have:=qjH h ho hw;unfold jM at this;exact(ch.CH.mk.inj this).2
theorem qgz{m':Mt}{ws:List Wr}(h:yz b N t m)(ho:jm b N m')(hw:sA N m ws):qD (over t (qK t m' ws)) m.live=qD t m.live:=ma h ho hw (qeN m) h.ok.live
theorem jm.take(h:jm b N m)(n:Nat)(l:List Int)(hl:jk b N l):jm b N ⟨l,m.qd.take n,yg⟩:=by
 refine⟨h.b1,h.b8,hl,?_,fun s hs=>h.wM s (List.mem_of_mem_take hs),?_,.inl rfl,qjM h.gds _ _ fun s hs=>h.gds.qd s (List.mem_of_mem_take hs)⟩
 ·show(m.qd.take n).length≤20;have:=h.few;rw[List.length_take];omega
 ·show kS (0,0) ((m.qd.take n).map (·.g));rw[List.map_take];exact mn _ _ n h.qgw
theorem qjN(t:Tg)(m:Mt)(g:Gd):(jM t m).find g=pE m g:=by
 unfold ch.CH.find pE jM;dsimp only;rw[List.findIdx?_map];rfl
theorem pH {l:List Sp}{i:Nat}{s:Sp}(h:s∈wh l i):∃r∈l,s.g=r.g∧s.qp=r.qp:=by
 unfold wh at h;obtain⟨j,hj,e⟩:=List.getElem_of_mem h;rw[List.length_modify]at hj;rw[List.getElem_modify]at e;refine⟨l[j],List.getElem_mem hj,?_⟩;rw[← e];split <;> exact⟨rfl,rfl⟩
theorem qeP(l:List Sp)(i:Nat):(wh l i).map (·.g)=l.map (·.g):=by
 apply List.ext_getElem
 ·simp[wh]
 ·intro j h1 h2;simp only[wh,List.getElem_map,List.getElem_modify];split <;> rfl
theorem sD (m:Mt)(i:Nat):qI { m with qd:=wh m.qd i }=qI m:=by
 rw[← eF,← eF];dsimp only;rw[qeP]
theorem jm.qv1(h:jm b N m)(i:Nat):jm b N { m with qd:=wh m.qd i }:=by
 refine⟨h.b1,h.b8,h.live,?_,fun s hs=>?_,?_,?_,⟨fun s hs=>?_,h.gds.base,h.gds.target⟩⟩
 ·show(wh m.qd i).length≤20;unfold wh;rw[List.length_modify];exact h.few
 ·obtain⟨r,hr,_,e⟩:=pH hs;rw[e];exact h.wM r hr
 ·show kS (0,0) ((wh m.qd i).map (·.g));rw[qeP];exact h.qgw
 ·rw[sD];exact h.tok
 ·obtain⟨r,hr,e,_⟩:=pH hs;rw[e];exact h.gds.qd r hr
end
end Go.Proofs.YtdpbdkacngaemaaGreatDoor.vt
namespace Go.Proofs.YtdpbdkacngaemaaGreatDoor.vt
open _root_.Go.Proofs.Tryz Go Go.RowKit jr mt im sp
section
variable {b N:Nat} {t:Tg} {m:Mt}
def zo (m:Mt)(f:Tf):List Int:=if m.tok.base=f.base∧m.tok.target=f.target∧m.tok.all=f.all then m.tok.qp else kR m
structure qrj(b N:Nat)(t:Tg)(m:Mt)(f:Tf)(x:List (Int × Bt))(P:qgv):Prop where
 whole:f.next=f.all→Does b N t m P ⟨jD (qD t (zo m f)) x,(jM t m).qd++[⟨f.target,jD (qD t (zo m f)) x,false⟩]⟩∧P.m.tok=yg
 part:f.next≠f.all→Does b N t m P (jM t m)∧tf P.m.tok=f∧qD (over t (qK t P.m P.ws)) P.m.tok.qp=jD (qD t (zo m f)) x
theorem mq {n:Nat}{last:Gd}{f:Tf}{x:List (Int × Bt)}(h:zm b n last f x=0) :
    f.base=last∧mt.above f.target last=true∧0≤f.next∧f.next≤f.all∧f.all≤(b:Int)∧(f.next=0↔f.all=0)∧xw b (-1) x=true∧(f.next=f.all→n<20):=by
 unfold zm at h;split at h
 ·cases h
 ·rename_i h1;split at h
  ·cases h
  ·rename_i h2;split at h
   ·cases h
   ·rename_i h3;have h2':xw b (-1) x=true:=by simpa using h2
    refine⟨Classical.byContradiction fun e=>h1 (.inl e),?_,by omega,by omega,by omega,Classical.byContradiction fun e=>h1 (by simp[e]),h2',fun e=>by omega⟩;cases ha:mt.above f.target last with
    | true=>rfl
    | false=>exact absurd (.inr (.inl ha)) h1
theorem mr (h:yz b N t m)(f:Tf)(hg:zV f.target)(x:List (Int × Bt)) :
    ((xA N m f x).code=7∧pF b N m x∧zm m.live.length m.qd.length (qI m) f x=0)∨((xA N m f x).code=zm m.live.length m.qd.length (qI m) f x∧((xA N m f x).code=0→qrj b N t m f x (xA N m f x))):=by
 have hlen:=h.ok.len;by_cases he:zm m.live.length m.qd.length (qI m) f x=0
 ·obtain⟨e1,e2,e3,e4,e5,e6,e7,e8⟩:=mq he;rw[hlen]at e5 e7;have hb1:=h.ok.b1;have hb8:=h.ok.b8;have fG:x.length≤8:=by
   have:=eE e7 (by omega) (by omega);omega
  rcases jL h.ok h.N1 x fG (fun c hc=>(gH e7 c hc).1)with⟨h7,hN⟩|⟨h0,hp⟩
  ·left
   unfold xA;rw[if_neg (by rw[he];simp),if_pos (by rw[h7];decide),h7];exact⟨rfl,hN,he⟩
  ·right
   rw[he];have qba:jk b N (zo m f)∧∀z∈zo m f,z=0∨held m z:=by
    unfold zo;split
    ·rename_i hm;rcases h.ok.tok with ht|ht
     ·exfalso;rw[ht]at hm;have:f.target=(0,0):=hm.2.1.symm;rw[this]at e2;unfold mt.above at e2;simp at e2
     ·exact⟨ht.2.2.2.2.2,fun z hz=>.inr ⟨_,qrh m,hz⟩⟩
    ·exact⟨qaZ h.ok,fun z hz=>qdo z hz⟩
   have hsv:∀ {m':Mt} (ho:jm b N m'),qD (over t (qK t m' (qL N m x).1.2)) (zo m f)=qD t (zo m f):=fun {m'} ho=>by
    unfold qD;apply List.map_congr_left;intro z hz;unfold bj;split
    ·rfl
    ·rename_i hz0;rcases qba.2 z hz with h1|h1
     ·exact absurd h1 hz0
     ·rcases qba.1.2.1 z hz with h2|h2
      ·exact absurd h2 hz0
      ·exact fP h ho hp.wok z h1 h2.1
   have qg0:jk b N (zU (zo m f) x (qL N m x).1.1):=qgy hp qba.1 qba.2;have hiv:∀ {m':Mt} (ho:jm b N m'),qD (over t (qK t m' (qL N m x).1.2)) (zU (zo m f) x (qL N m x).1.1)=jD (qD t (zo m f)) x:=fun {m'} ho=>by
    rw[mh _ x _ _ hp.len (qdp h ho hp),hsv ho]
   unfold xA;rw[if_neg (by rw[he];simp),if_neg (by rw[h0];simp)];have q0j:(if m.tok.base=f.base∧m.tok.target=f.target∧m.tok.all=f.all then m.tok.qp else kR m)=zo m f:=rfl;rw[q0j];dsimp only;generalize zU (zo m f) x (qL N m x).1.1=qp at *;generalize (qL N m x).1.2=ws at *;have ou:=hp.wok;by_cases hn:f.next=f.all
   ·rw[if_pos hn];refine⟨rfl,fun _=>⟨fun _=>?_,fun h=>absurd hn h⟩⟩;have vD:jm b N ⟨qp,m.qd++[⟨f.target,qp,false⟩],yg⟩:=h.ok.push f.target hg qp qp qg0 qg0 e2 (e8 hn);have h2:=mo h vD ou;have h3:=hiv vD;refine⟨⟨vD,ou,?_⟩,rfl⟩;dsimp only;generalize over t (qK t ⟨qp,m.qd++[⟨f.target,qp,false⟩],yg⟩ ws)=t' at *;unfold jM;dsimp only;rw[h3,List.map_append,h2];simp only[List.map_cons,List.map_nil,qaU,h3]
   ·rw[if_neg hn];refine⟨rfl,fun _=>⟨fun h=>absurd h hn,fun _=>?_⟩⟩;have vD:jm b N { m with tok:=⟨f.base,f.target,f.next,f.all,qp⟩ }:=by
     have ho:=h.ok;refine⟨ho.b1,ho.b8,ho.live,ho.few,ho.wM,ho.qgw,.inr ⟨e1,?_,?_,?_,e5,qg0⟩,⟨ho.gds.qd,?_,hg⟩⟩
     ·show mt.above f.target f.base=true;rw[e1];exact e2
     ·show 1≤f.next;have:f.next≠0:=fun hz=>hn (by rw[hz,e6.1 hz]);omega
     ·show f.next<f.all;omega
     ·show zV f.base;rw[e1];exact qv3 ho
    refine⟨⟨vD,ou,?_⟩,rfl,hiv vD⟩;have h1:=qgz h vD ou;have h2:=mo h vD ou;dsimp only;generalize over t (qK t { m with tok:=⟨f.base,f.target,f.next,f.all,qp⟩ } ws)=t' at *;unfold jM;dsimp only;rw[h1,h2]
 ·right
  unfold xA;rw[if_pos he];exact⟨rfl,fun h=>absurd h he⟩
theorem qbb(u v:Bt)(hu:u.length≤8192)(k:Nat)(hk:k<(qJ u).length):¬ uF ((qJ u).take k) v:=by
 rintro⟨hv,e⟩;have hl:=congrArg List.length e;rw[List.length_take,Nat.min_eq_left (by omega),xP v]at hl;have zQ:1≤k:=by rw[hl];exact bD _
 have h1:=congrArg List.flatten e;rw[yE]at h1;have h2:(qJ u).flatten=((qJ u).take k).flatten++((qJ u).drop k).flatten:=by rw[← List.flatten_append,List.take_append_drop]
 rw[yE,h1]at h2;have h3:=ki u;have h4:=ki v;have h5:=yR v;have h6:(yw u).take 2=(yw v).take 2:=by
  rw[h2,List.take_append_of_le_length (by have:=bD v.length;omega)]
 rw[h3,h4]at h6;have:=qaQ _ _ (by omega) (by omega) h6;rw[xP u,this]at hk;omega
end
end Go.Proofs.YtdpbdkacngaemaaGreatDoor.vt
namespace Go.Proofs.YtdpbdkacngaemaaGreatDoor.ch
open _root_.Go.Proofs.Tryz Go Go.RowKit ib
def zV (g:Gd):Prop:=g.1<18446744073709551616∧g.2<18446744073709551616
def gv (g:Gd):Value:=.agg #[.int .u64 (g.1:Int),.int .u64 (g.2:Int)]
def kX (w:World)(A:Option Addr)(x:List (Int × Bt)):Prop :=
 ∀i (h:i<x.length),∃b o,A=some ⟨b,o,none⟩∧b<w.heap.size∧w.cell? ⟨b,o+i*2,none⟩=some (.int .i64 x[i].1)∧w.cell? ⟨b,o+i*2+1,none⟩=some (.string (str x[i].2))∧zJ x[i].1
theorem kX.below{w w':World}{A:Option Addr}{x:List (Int × Bt)}(h:kX w A x)(hb:Below w.heap.size w w'):kX w' A x:=by
 intro i hi;obtain⟨b,o,h1,h2,h3,h4,h5⟩:=h i hi;exact⟨b,o,h1,Nat.lt_of_lt_of_le h2 hb.size,by rw[hb.cell (p:=⟨b,o+i*2,none⟩) h2];exact h3,by rw[hb.cell (p:=⟨b,o+i*2+1,none⟩) h2];exact h4,h5⟩
theorem kX.nil(w:World)(A:Option Addr):kX w A []:=fun i h=>absurd h (by simp)
def qbc (r:List Bt × Int)(w:World)(e:Ending)(w':World):Prop:=∃A cc,e=.returned (.tuple #[.slice A r.1.length cc,.int .i64 r.2])∧TxL w' A r.1∧ir w w' A∧Below w.heap.size w w'
def GdL (w:World)(A:Option Addr)(x:List Gd):Prop :=
 ∀i (h:i<x.length),∃b o,A=some ⟨b,o,none⟩∧b<w.heap.size∧w.cell? ⟨b,o+i*2,none⟩=some (.int .u64 (x[i].1:Int))∧w.cell? ⟨b,o+i*2+1,none⟩=some (.int .u64 (x[i].2:Int))∧zV x[i]
theorem GdL.below{w w':World}{A:Option Addr}{x:List Gd}(h:GdL w A x)(hb:Below w.heap.size w w'):GdL w' A x:=by
 intro i hi;obtain⟨b,o,h1,h2,h3,h4,h5⟩:=h i hi;exact⟨b,o,h1,Nat.lt_of_lt_of_le h2 hb.size,by rw[hb.cell (p:=⟨b,o+i*2,none⟩) h2];exact h3,by rw[hb.cell (p:=⟨b,o+i*2+1,none⟩) h2];exact h4,h5⟩
def qbd (r:List Gd)(w:World)(e:Ending)(w':World):Prop:=∃A cc,e=.returned (.slice A r.length cc)∧GdL w' A r∧ir w w' A∧Below w.heap.size w w'
def IsT:=(Nat→Prop)→World→Nat→CH→Prop
def Aft (Is:IsT)(own:Nat→Prop)(p:Nat)(r:CH × Int)(w:World)(e:Ending)(w':World):Prop :=
 e=.returned (.int .i64 r.2)∧∃dK,Is dK w' p r.1∧qB own w w'∧∀j,dK j→own j∨w.heap.size≤j
structure Ops(Is:IsT):Prop where
 low:∀ {own w p d},Is own w p d→∀j,own j→j<w.heap.size
 ok:∀ {own w p d},Is own w p d→d.ok
 keep:∀ {own w w' p d},Is own w p d→(∀j,own j→w'.heap[j]?=w.heap[j]?)→w.heap.size≤w'.heap.size→Is own w' p d
 write:∀ {own w p d} (k:Int) (s:Bt),Is own w p d→zJ k→Calls prog 164 #[.pointer (some ⟨p,0,none⟩),.int .i64 k,.string (str s)] w (Aft Is own p (d.write k s) w)
 snap:∀ {own w p d} (g:Gd),Is own w p d→zV g→Calls prog 93 #[.pointer (some ⟨p,0,none⟩),gv g] w (Aft Is own p (d.snap g) w)
 list:∀ {own w p d},Is own w p d→Calls prog 38 #[.pointer (some ⟨p,0,none⟩)] w (qbd d.list w)
 read:∀ {own w p d} (g:Gd),Is own w p d→zV g→Calls prog 95 #[.pointer (some ⟨p,0,none⟩),gv g] w (qbc (d.read g) w)
structure Impl(Is:IsT):Prop extends Ops Is where
 lF:∀(n:Nat) (w:World),1≤n→n≤8→Calls prog 91 #[.int .i64 (n:Int)] w fun e w'=>∃p own,e=.returned (.pointer (some ⟨p,0,none⟩))∧Is own w' p (dV n)∧Below w.heap.size w w'∧∀j,own j→w.heap.size≤j
def Ch (Is:IsT)(w:World)(B p:Nat)(d:CH):Prop:=∃own,Is own w p d∧∀j,own j→B≤j
section
variable {Is:IsT} (H:Impl Is) {w w':World} {B p:Nat} {d:CH}
include H
theorem Ch.below(h:Ch Is w B p d)(hb:Below w.heap.size w w'):Ch Is w' B p d:=by
 obtain⟨own,h1,h2⟩:=h;exact⟨own,H.keep h1 (fun j hj=>hb.block j (H.low h1 j hj)) hb.size,h2⟩
def ChU (Is:IsT)(w:World)(B E p:Nat)(d:CH):Prop:=∃own,Is own w p d∧∀j,own j→B≤j∧j<E
theorem ChU.below{E:Nat}(h:ChU Is w B E p d)(hb:Below w.heap.size w w'):ChU Is w' B E p d:=by
 obtain⟨own,h1,h2⟩:=h;exact⟨own,H.keep h1 (fun j hj=>hb.block j (H.low h1 j hj)) hb.size,h2⟩
omit H in
theorem ChU.ch{E:Nat}(h:ChU Is w B E p d):Ch Is w B p d:=by
 obtain⟨own,h1,h2⟩:=h;exact⟨own,h1,fun j hj=>(h2 j hj).1⟩
end
end Go.Proofs.YtdpbdkacngaemaaGreatDoor.ch
namespace Go.Proofs.YtdpbdkacngaemaaGreatDoor
open _root_.Go.Proofs.Tryz Go.RowKit
def xK (w:World):Prop:=0<w.heap.size∧∀i,i<16→w.cell? ⟨0,i,none⟩=some (.int .u32 ((bA.getD i 0:Nat):Int))
theorem xK.below{w w':World}{B:Nat}(h:xK w)(hb:Below B w w')(hB:0<B):xK w' :=
 ⟨Nat.lt_of_lt_of_le h.1 hb.size,fun i hi=>by rw[hb.cell (p:=⟨0,i,none⟩) hB];exact h.2 i hi⟩
def qjQ (b m:Nat)(w:World)(e:Ending)(w':World):Prop :=
 e=.returned (.tuple #[])∧Below b w w'∧w'.cell? ⟨b,0,none⟩=some (.int .u32 (m:Int))∧w'.frozen? ⟨b,0,none⟩=false
theorem qnx(i:Nat)(h:i<16):bA.getD i 0<4294967296:=by
 have:∀i:Nat,i<16→bA.getD i 0<4294967296:=by decide
 exact this i h
theorem qdq(n f:Nat)(hf:f<256):bits .and .u8 (bits .xor .u8 ((n:Int)%256) (f:Int)) 15=(((n%256^^^f)%16:Nat):Int):=by
 have e:(n:Int)%256=((n%256:Nat):Int):=by omega
 have hx:n%256^^^f<256:=Nat.xor_lt_two_pow (n:=8) (by omega) (by omega);rw[e,u8_xor_nat _ _ (by omega) hf,show(15:Int)=((15:Nat):Int)from rfl,u8_and_nat _ _ hx (by omega),nat_mask4]
theorem qjR(n f:Nat)(hn:n<4294967296):bits .xor .u32 ((n:Int)/16) ((bA.getD ((n%256^^^f)%16) 0:Nat):Int)=((xV n f:Nat):Int):=by
 have e:(n:Int)/16=((n/16:Nat):Int):=by omega
 rw[e,u32_xor_nat _ _ (by omega) (qnx _ (Nat.mod_lt _ (by omega)))];rfl
theorem qbe(b n f:Nat)(w:World)(hn:n<4294967296)(hf:f<256)(ht:xK w)
    (hc:w.cell? ⟨b,0,none⟩=some (.int .u32 (n:Int))) (hz:w.frozen? ⟨b,0,none⟩=false) :
    Calls prog 249 #[.int .u8 (f:Int),.pointer (some ⟨b,0,none⟩)] w (qjQ b (xV n f) w):=by
 have hi:=qdq n f hf;have hx:=qjR n f hn;have hl:(n%256^^^f)%16<16:=Nat.mod_lt _ (by omega);have hg:=ht.2 _ hl;generalize xV n f=m at *;generalize (n%256^^^f)%16=i at *;generalize bA.getD i 0=t at *;have cE:(i:Int)<16:=by omega
 have HT:=QH ht;clear ht;go_enter func249,ntmps249;go_wp2;go_region;all_goals
  go_end0
  exact⟨rfl,((Below.refl b w).setCell (p:=⟨b,0,none⟩) (Nat.le_refl b) _).drew,by go_simp,by go_simp⟩
theorem qny(b n f:Nat)(w:World)(hn:n<4294967296)(hf:f<256)(ht:xK w)
    (hc:w.cell? ⟨b,0,none⟩=some (.int .u32 (n:Int))) (hz:w.frozen? ⟨b,0,none⟩=false) :
    Calls prog 249 #[.int .u8 ((f:Int)/16),.pointer (some ⟨b,0,none⟩)] w (qjQ b (xV n (f/16)) w):=by
 have h:=qbe b n (f/16) w hn (by omega) ht hc hz
 rwa [show((f/16:Nat):Int)=(f:Int)/16 from by omega]at h
def qnz (s:ByteArray)(w:World)(i:Value)(wr:World):Prop :=
 ∃k:Nat,k≤s.size∧i=.int .i64 (k:Int)∧Below w.heap.size w wr∧w.heap.size<wr.heap.size∧wr.cell? ⟨w.heap.size,0,none⟩=some (.int .u32 (oh 4294967295 ((bl s).take k):Int))∧wr.frozen? ⟨w.heap.size,0,none⟩=false
theorem qdr(s:ByteArray)(k:Nat)(h:k<s.size):(bl s).take (k+1)=(bl s).take k++[s[k]]:=by
 unfold bl;rw[List.take_succ_eq_append_getElem (by simpa using h)];rfl
def qrk (n:Nat)(w:World)(e:Ending)(w':World):Prop:=e=.returned (.int .u32 (n:Int))∧Below w.heap.size w w'
theorem qjS(s:ByteArray)(w:World)(hs:s.size≤9223372036854775807)(ht:xK w) :
    Calls prog 176 #[.string s] w (qrk (uE (bl s)) w):=by
 have HT:=QH ht;have hgw:=ht.1;clear ht;go_enter func176,ntmps176;go_wp2;have b0:Below w.heap.size w (w.alloc (.cells #[.int .u32 4294967295] 244)):=(Below.refl _ _).alloc (Nat.le_refl _) _;go_loopw [9] (fun i wr=>qnz s w i wr) (fun i _=>s.size-(intOf i).toNat);case atStart=>exact⟨0,Nat.zero_le _,rfl,b0,by simp,by go_simp;rfl,by go_simp⟩
 case round =>
  obtain⟨k,hk,rfl,hB,hS,hC,hF⟩:=hrel;have hn:=si ((bl s).take k) 4294967295 (by omega);by_cases hlt:k<s.size
  ·have hT1:=HT.out.below hB hgw;have hb:=s[k].toNat_lt;have hsn:=qdr s k hlt;have hst:ve (oh 4294967295 ((bl s).take k)) s[k]=oh 4294967295 ((bl s).take (k+1)):=by rw[hsn,qgf]
   rw[← halves]at hst;have hn1:=qaL (oh 4294967295 ((bl s).take k)) s[k].toNat hn;have Hst:=QH hst;clear hsn hst;go_wp2_with (go_at_call 249;refine(qbe w.heap.size _ s[k].toNat _ hn (by omega) hT1 hC hF).mono ?_);rintro e W1 ⟨rfl,b1,c1,f1⟩;have hT2:=hT1.below b1 hgw;have hB1:=hB.trans b1;have hS1:=b1.size;clear hB b1 hC hF hT1;go_wp2_with (go_at_call 249;refine(qny w.heap.size _ s[k].toNat _ hn1 (by omega) hT2 c1 f1).mono ?_);rintro e W2 ⟨rfl,b2,c2,f2⟩;have hB2:=hB1.trans b2;have hS2:=b2.size;rw[Hst.out]at c2;clear hB1 b2 c1 f1 hT2;go_wp2;go_roundw;case rel=>exact⟨k+1,by omega,by go_num,hB2,by omega,c2,f2⟩
   case measure=>simp[intOf];omega
  ·have gZ:k=s.size:=by omega
   subst gZ;rw[List.take_of_length_le (by rw[zg];omega)]at hC hn;have hx:bits .xor .u32 IntKind.u32.max (oh 4294967295 (bl s):Int)=(uE (bl s):Int):=by
    rw[show IntKind.u32.max=((4294967295:Nat):Int)from rfl,u32_xor_nat _ _ (by omega) hn,Nat.xor_comm];rfl
   go_wp2;go_ret;exact⟨rfl,hB⟩
end Go.Proofs.YtdpbdkacngaemaaGreatDoor
namespace Go.Proofs.YtdpbdkacngaemaaGreatDoor.vt
open _root_.Go.Proofs.Tryz Go Go.RowKit jr mt im sp
abbrev jq:=(Nat→Prop)→World→Nat→Nat→Mt→Bool→Prop
abbrev DD:=dk.DD
def gN:Nat:=0
theorem xx {w:World}(h:xK w):gN<w.heap.size:=h.1
theorem yA {w w':World}{B:Nat}(h:xK w)(hb:Below B w w')(hB:gN<B):xK w':=h.below hb hB
theorem vn {w w':World}(h:xK w)(hs:w.heap.size≤w'.heap.size)(hb:w'.heap[gN]?=w.heap[gN]?):xK w' :=
 ⟨Nat.lt_of_lt_of_le h.1 hs,fun i hi=>by rw[← h.2 i hi];exact World.cell?_of_block (w:=w) hb⟩
structure VP(Is:jq)(w:World)(o1 o2:Nat→Prop)(v pd:Nat)(d:DD)(m:Mt)(lost:Bool):Prop where
 is:Is o1 w v pd m lost
 dk:dk.zH 1000 w o2 pd d
 dj:∀j,o1 j∨j=gN→¬ o2 j
def sF (Is:jq)(o1 o2:Nat→Prop)(v pd:Nat)(Q:Int→DD→Mt→Bool→Prop)(w:World)(e:Ending)(w':World):Prop :=
 ∃r d' m' lost ov eG,e=.returned (.int .i64 r)∧VP Is w' ov eG v pd d' m' lost∧ib.qB (fun j=>o1 j∨o2 j) w w'∧(∀j,ov j∨eG j→(o1 j∨o2 j)∨w.heap.size≤j)∧Q r d' m' lost
def qg1 (N:Nat)(t:Tg)(d:DD)(m:Mt)(P:qgv)(r:Int)(d':DD)(m':Mt)(lost:Bool):Prop :=
 (P.code≠0∧r=P.code∧d'=d∧m'=m∧lost=false) ∨
 (P.code=0∧r=0∧JJ N (over t (qK t P.m P.ws)) d'∧m'=P.m∧lost=false∧(d.qz=0→d'.qz=0)∧0≤d'.qz) ∨
 (P.code=0∧r=6∧qrg (fun e=>RJ N t e∨RJ N (over t (qK t P.m P.ws)) e) d'∧lost=true∧d.qz≠0∧d'.qz=0)
def tkV (f:Tf)(A:Option Addr)(n c:Nat):Value:=.agg #[.int .u64 (f.base.1:Int),.int .u64 (f.base.2:Int),.int .u64 (f.target.1:Int),.int .u64 (f.target.2:Int),.int .i64 f.next,.int .i64 f.all,.slice A n c]
structure TfB(f:Tf):Prop where
 base:zV f.base
 target:zV f.target
 next:ib.zJ f.next
 all:ib.zJ f.all
def qv6 (w:World)(A:Option Addr)(l:List Int):Prop:=∀i (h:i<l.length),∃b o,A=some ⟨b,o,none⟩∧b<w.heap.size∧w.cell? ⟨b,o+i,none⟩=some (.int .i64 l[i])
def aP (t:Tk)(w:World)(e:Ending)(w':World):Prop:=∃A cc,e=.returned (tkV (tf t) A t.qp.length cc)∧qv6 w' A t.qp∧ib.ir w w' A∧Below w.heap.size w w'
def m0 (b:Nat):Mt:=⟨List.replicate b 0,[],yg⟩
structure ju(Is:jq):Prop where
 tab:∀ {o w v pd m l},Is o w v pd m l→xK w
 low:∀ {o w v pd m l},Is o w v pd m l→∀j,o j∨j=gN→j<w.heap.size
 keep:∀ {o w w' v pd m l},Is o w v pd m l→(∀j,o j∨j=gN→w'.heap[j]?=w.heap[j]?)→w.heap.size≤w'.heap.size→Is o w' v pd m l
 gds:∀ {o w v pd m l},Is o w v pd m l→mB m
 pI:∀ {o w pd} (b N:Nat) (room:Int),dk.zH 1000 w o pd (dk.DD.new N room)→xK w→¬ o gN→1≤b→b≤8→193≤N→N≤1024→(N:Int)≤room →
  Calls prog 9 #[.pointer (some ⟨pd,0,none⟩),.int .i64 (b:Int)] w fun e w'=>e=.returned (.int .i64 0)∧∃t d' o',dk.zH 1000 w' o' pd d'∧JJ N t d'∧yz b N t (m0 b)∧d'.qz=0∧ib.qB o w w'∧∀j,o' j→o j∨w.heap.size≤j
 qeQ:∀ {o w pd d N t b m},dk.zH 1000 w o pd d→xK w→¬ o gN→RJ N t d→d.qz=0→yz b N t m →
  Calls prog 11 #[.pointer (some ⟨pd,0,none⟩)] w fun e w'=>∃v d' ov eG,e=.returned (.tuple #[.pointer (some ⟨v,0,none⟩),.int .i64 0])∧VP Is w' ov eG v pd d' m false∧JJ N t d'∧d'.qz=0∧ib.qB o w w'∧(∀j,ov j→w.heap.size≤j)∧∀j,eG j→o j∨w.heap.size≤j
 blocks:∀ {o w v pd m l},Is o w v pd m l→Calls prog 77 #[.pointer (some ⟨v,0,none⟩)] w fun e w'=>e=.returned (.int .i64 (m.live.length:Int))∧Below w.heap.size w w'
 list:∀ {o w v pd m l},Is o w v pd m l→Calls prog 37 #[.pointer (some ⟨v,0,none⟩)] w (ch.qbd (m.qd.map (·.g)) w)
 token:∀ {o w v pd m l},Is o w v pd m l→Calls prog 41 #[.pointer (some ⟨v,0,none⟩)] w (aP m.tok w)
 read:∀ {o1 o2 w v pd d m N t b} (g:Gd),VP Is w o1 o2 v pd d m false→JJ N t d→yz b N t m→zV g→Calls prog 42 #[.pointer (some ⟨v,0,none⟩),ch.gv g] w (ch.qbc ((jM t m).read g) w)
 stage:∀ {o1 o2 w v pd d m N t b} (f:Tf) (A:Option Addr) (c:Nat) (x:List (Int × Bt)),VP Is w o1 o2 v pd d m false→JJ N t d→0≤d.qz→yz b N t m→TfB f→ch.kX w A x→x.length≤1000→(∀b o,A=some ⟨b,o,none⟩→¬ o1 b∧¬ o2 b) →
  Calls prog 84 #[.pointer (some ⟨v,0,none⟩),tkV f none 0 0,.slice A x.length c] w (sF Is o1 o2 v pd (qg1 N t d m (xA N m f x)) w)
 qeR:∀(w:World),Calls prog 77 #[.pointer none] w fun e w'=>e=.returned (.int .i64 0)∧Below w.heap.size w w'
 qps:∀(w:World),Calls prog 37 #[.pointer none] w (ch.qbd [] w)
 qjT:∀(w:World),Calls prog 41 #[.pointer none] w (aP yg w)
end Go.Proofs.YtdpbdkacngaemaaGreatDoor.vt
namespace Go.Proofs.YtdpbdkacngaemaaGreatDoor.vt
open _root_.Go.Proofs.Tryz Go Go.RowKit ib jr mt im sp
theorem sG {S:Nat→Prop}{w w':World}(h:dk.qB S w w'):qB S w w':=⟨h.os,h.tape,h.output,h.size,h.block⟩
def Ke (B:Nat)(X:Nat→Prop)(w w':World):Prop:=qB (fun j=>B≤j∧¬ X j) w w'
theorem Ke.below{B:Nat}{X:Nat→Prop}{w w':World}(h:Ke B X w w')(hm:B≤w.heap.size):Below B w w':=qB.below h (fun _ hi=>hi.1) hm
theorem Ke.of_below{B:Nat}{X:Nat→Prop}{w w':World}(h:Below w.heap.size w w'):Ke B X w w':=qB.of_below h
theorem Ke.refl(B:Nat)(X:Nat→Prop)(w:World):Ke B X w w:=qB.refl _ _
theorem Ke.trans{B:Nat}{X:Nat→Prop}{a b c:World}(h:Ke B X a b)(k:Ke B X b c):Ke B X a c:=qB.trans h k (fun _ hi=>.inl hi)
theorem Ke.block{B:Nat}{X:Nat→Prop}{w w':World}(h:Ke B X w w'){j:Nat}(hj:j<w.heap.size)(hx:X j∨j<B):w'.heap[j]?=w.heap[j]? :=qB.block h j hj (fun hs=>by rcases hx with h|h;exact hs.2 h;omega)
theorem Ke.mono{B:Nat}{X Y:Nat→Prop}{w w':World}(h:Ke B X w w')(hy:∀j,Y j→X j):Ke B Y w w':=qB.mono h fun j hj=>⟨hj.1,fun y=>hj.2 (hy j y)⟩
structure Tri where
 d:DD
 m:Mt
 c:ch.CH
 lost:Bool
def V3 (IV:jq)(IC:ch.IsT)(w:World)(B:Nat)(X:Nat→Prop)(v pd p:Nat)(s:Tri):Prop :=
 ∃o1 o2 o3,VP IV w o1 o2 v pd s.d s.m s.lost∧IC o3 w p s.c∧(∀j,o1 j∨o2 j→B≤j∧¬ o3 j∧¬ X j)∧(∀j,o3 j→B≤j∧¬ X j)∧(∀j,X j→j<w.heap.size)∧gN<B∧¬ X gN
section
variable {IV:jq} {IC:ch.IsT} (H:ju IV) (HC:ch.Ops IC) {w w':World} {B v pd p:Nat} {X:Nat→Prop} {s:Tri}
theorem eH {o:Nat→Prop}{d:DD}(h:dk.zH 1000 w o pd d):∀j,o j→j<w.heap.size:=by
 obtain⟨_,m,u,h1⟩:=h;exact h1.2.2.2.2.2.2
include H in
theorem VP.keep{o1 o2:Nat→Prop}{d:DD}{m:Mt}{l:Bool}(h:VP IV w o1 o2 v pd d m l)(hb:∀j,(o1 j∨o2 j)∨j=gN→w'.heap[j]?=w.heap[j]?)(hs:w.heap.size≤w'.heap.size):VP IV w' o1 o2 v pd d m l :=
 ⟨H.keep h.is (fun j hj=>hb j (hj.elim (fun h=>.inl (.inl h)) .inr)) hs,h.dk.keep hs (fun j hj=>hb j (.inl (.inr hj))),h.dj⟩
include H in
theorem VP.low{o1 o2:Nat→Prop}{d:DD}{m:Mt}{l:Bool}(h:VP IV w o1 o2 v pd d m l):∀j,(o1 j∨o2 j)∨j=gN→j<w.heap.size:=fun j hj=>by
 rcases hj with(hj|hj)|hj
 ·exact H.low h.is j (.inl hj)
 ·exact eH h.dk j hj
 ·exact H.low h.is j (.inr hj)
include H HC
theorem V3.below(h:V3 IV IC w B X v pd p s)(hb:Below w.heap.size w w'):V3 IV IC w' B X v pd p s:=by
 obtain⟨o1,o2,o3,h1,h2,h3,h4,h5⟩:=h;exact⟨o1,o2,o3,h1.keep H (fun j hj=>hb.block j (h1.low H j hj)) hb.size,HC.keep h2 (fun j hj=>hb.block j (HC.low h2 j hj)) hb.size,h3,h4,fun j hj=>Nat.lt_of_lt_of_le (h5.1 j hj) hb.size,h5.2⟩
theorem V3.more(h:V3 IV IC w B X v pd p s)(hb:Below w.heap.size w w'){Y:Nat→Prop}(hY:∀j,Y j→X j∨(w.heap.size≤j∧j<w'.heap.size)):V3 IV IC w' B Y v pd p s:=by
 obtain⟨o1,o2,o3,h1,h2,h3,h4,h5⟩:=h;refine⟨o1,o2,o3,h1.keep H (fun j hj=>hb.block j (h1.low H j hj)) hb.size,HC.keep h2 (fun j hj=>hb.block j (HC.low h2 j hj)) hb.size,fun j hj=>⟨(h3 j hj).1,(h3 j hj).2.1,fun hy=>?_⟩,fun j hj=>⟨(h4 j hj).1,fun hy=>?_⟩,fun j hj=>?_,h5.2.1,fun hy=>?_⟩
 ·rcases hY j hy with h|h
  ·exact(h3 j hj).2.2 h
  ·have:=h1.low H j (.inl hj);omega
 ·rcases hY j hy with h|h
  ·exact(h4 j hj).2 h
  ·have:=HC.low h2 j hj;omega
 ·rcases hY j hj with h|h
  ·exact Nat.lt_of_lt_of_le (h5.1 j h) hb.size
  ·exact h.2
 ·rcases hY gN hy with h|h
  ·exact h5.2.2 h
  ·have:=h1.low H gN (.inr rfl);omega
theorem V3.turn(h:V3 IV IC w B X v pd p s)(hb:qB X w w'):V3 IV IC w' B X v pd p s:=by
 obtain⟨o1,o2,o3,h1,h2,h3,h4,h5⟩:=h;exact⟨o1,o2,o3,h1.keep H (fun j hj=>hb.block j (h1.low H j hj) (hj.elim (fun hj=>(h3 j hj).2.2) (fun hj=>by rw[hj];exact h5.2.2))) hb.size,HC.keep h2 (fun j hj=>hb.block j (HC.low h2 j hj) (h4 j hj).2) hb.size,h3,h4,fun j hj=>Nat.lt_of_lt_of_le (h5.1 j hj) hb.size,h5.2⟩
end
end Go.Proofs.YtdpbdkacngaemaaGreatDoor.vt
