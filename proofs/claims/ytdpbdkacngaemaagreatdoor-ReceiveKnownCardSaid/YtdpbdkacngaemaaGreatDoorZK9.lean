/- JSafe2, SpPure, SpMath, ChPure, VtPure, VtTab, VtMath. -/
import Derived.Test.YtdpbdkacngaemaaGreatDoorZK8
set_option linter.unusedVariables false
set_option linter.unusedSimpArgs false
set_option maxHeartbeats 30000000
set_option maxRecDepth 100000
namespace Go.Proofs.YtdpbdkacngaemaaGreatDoor.jr
open _root_.Go.Proofs.Tryz dk wi
def over:(Int→Bt)→List Wr→Int→Bt
 | t,[]=>t
 | t,x::r=>over (fun k=>if k=x.1 then x.2 else t k) r
theorem vO:∀(l:List Wr) (t u:Int→Bt),(∀k,145≤k→t k=u k)→∀k,145≤k→over t l k=over u l k
 | [],_,_,h=>h
 | x::l,t,u,h=>vO l _ _ fun k hk=>by
  split
  ·rfl
  ·exact h k hk
theorem iL:∀(l:List Wr) (b:qE),(∀x∈l,0≤x.1∧x.1<(b.length:Int))→∀k,rd (qQ b (nat l)) k=over (rd b) l k
 | [],_,_,_=>rfl
 | x::l,b,h,k=>by
  obtain⟨h0,h1⟩:=h x (by simp);have ih:=iL l (dk.put b x.1.toNat x.2) (fun y hy=>by rw[dk.put,List.length_set];exact h y (by simp[hy])) k;have e:qQ b (nat (x::l))=qQ (dk.put b x.1.toNat x.2) (nat l):=rfl;rw[e,ih];have e2:rd (dk.put b x.1.toNat x.2)=fun k=>if k=x.1 then x.2 else rd b k:=by
   funext j
   obtain⟨n,hn⟩:=Int.eq_ofNat_of_zero_le h0;unfold rd dk.put;by_cases hj:j=x.1
   ·rw[if_pos hj,hj,hn,Int.toNat_natCast,zy _ _ _ (by omega)];rfl
   ·rw[if_neg hj,zO _ _ _ _ (by omega)]
  rw[e2];rfl
theorem yx (n:Nat)(h:n<65536):(zk n).length≤3:=by
 have e:zv n=xe 2 n:=by
  unfold zv;rw[yj 7 n (by omega),yj 6 n (by omega),yj 5 n (by omega),yj 4 n (by omega),yj 3 n (by omega),yj 2 n (by omega)]
 have:=cM 2 n;simp[zk,e];omega
theorem qjD(x:Wr)(h:x.2.length=32)(h0:x.1<65536):(wB x).length≤37:=by
 have h1:=yx x.1.toNat (by omega);have h2:(zk 32).length=2:=by decide
 simp only[wB,dP,List.length_append,h,h2];omega
theorem vP (l:List Wr)(nL:l.length≤60)(h:∀x∈l,x.1<65536∧x.2.length=32):(ze l).length≤2223:=by
 have key:∀l:List Wr,(∀x∈l,x.1<65536∧x.2.length=32)→((l.map wB).flatten).length≤37*l.length:=by
  intro l
  induction l with
  | nil=>intro _;simp
  | cons x l ih =>
   intro h;have:=qjD x (h x (by simp)).2 (h x (by simp)).1;have:=ih (fun y hy=>h y (by simp[hy]));simp only[List.map_cons,List.flatten_cons,List.length_append,List.length_cons];omega
 have h1:=key l h;have h2:=yx l.length (by omega);simp only[ze,List.length_append];omega
theorem ax (l:List Wr)(nL:l.length≤60)(h:∀x∈l,x.1<65536∧x.2.length=32):1≤(qJ (ze l)).length∧(qJ (ze l)).length≤72:=by
 have:=vP l nL h;have:=bD (ze l).length;rw[xP];refine⟨this,?_⟩;unfold nsec;omega
theorem jf:∀(ss:List Bt) (o:Nat) (x:Wr),x∈zf o ss→∃i,i<ss.length∧x.1=((o+i:Nat):Int)∧ss[i]?=some x.2
 | [],_,_,h=>by cases h
 | s::r,o,x,h=>by
  rcases List.mem_cons.1 h with rfl|h
  ·exact⟨0,by simp,by simp,rfl⟩
  ·obtain⟨i,h1,h2,h3⟩:=jf r (o+1) x h;exact⟨i+1,by simpa using h1,by rw[h2];omega,by simpa using h3⟩
theorem lR:∀(ss:List Bt) (o:Nat) (b:qE),o+ss.length≤b.length→∀i (h:i<ss.length),dk.look (qQ b (nat (zf o ss))) ((o+i:Nat):Int)=some ss[i]
 | [],_,_,_,i,h=>absurd h (by simp)
 | s::r,o,b,hb,i,h=>by
  simp only[List.length_cons]at hb h;have e:qQ b (nat (zf o (s::r)))=qQ (dk.put b o s) (nat (zf (o+1) r)):=by
   show qQ (dk.put b (o:Int).toNat s) _=_;rw[Int.toNat_natCast];rfl
  rw[e];cases i with
  | zero =>
   rw[xd _ _ _ (fun x hx=>?_)]
   ·unfold dk.put;rw[Nat.add_zero,zy _ _ _ (by omega)];rfl
   ·obtain⟨y,hy,rfl⟩:=vM hx;obtain⟨i,_,h2,_⟩:=jf r (o+1) y hy;dsimp only;omega
  | succ i =>
   have:=lR r (o+1) (dk.put b o s) (by rw[dk.put,List.length_set];omega) i (by omega);rw[show o+(i+1)=o+1+i from by omega,this];rfl
theorem qX:∀(ss:List Bt) (o:Nat),(zf o ss).length=ss.length
 | [],_=>rfl
 | s::r,o=>by simp[zf,qX r]
theorem ay:∀(ss:List Bt) (o:Nat) (s:Bt),zf o (ss++[s])=zf o ss++[(((o+ss.length:Nat):Int),s)]
 | [],o,s=>by simp[zf]
 | t::r,o,s=>by
  have:=ay r (o+1) s;simp only[List.cons_append,zf,this,List.length_cons];rw[show o+1+r.length=o+(r.length+1)from by omega]
theorem lS (s:qE):∀(l acc:List Int),acc.Nodup→(∀x∈acc,0≤x∧x<(s.length:Int)∧(dk.look s x).isSome=false)→(∀x∈l,0≤x∧x<(s.length:Int)) →
    (fresh s acc l).Nodup∧∀x∈fresh s acc l,0≤x∧x<(s.length:Int)∧(dk.look s x).isSome=false
 | [],acc,h1,h2,_=>⟨h1,h2⟩
 | x::r,acc,h1,h2,h3=>by
  unfold fresh;split
  ·exact lS s r acc h1 h2 (fun y hy=>h3 y (by simp[hy]))
  ·rename_i hn;simp only[Bool.or_eq_true,not_or,List.contains_iff_mem]at hn;refine lS s r (acc++[x]) ?_ (fun y hy=>?_) (fun y hy=>h3 y (by simp[hy]))
   ·rw[List.nodup_append];refine⟨h1,by simp,fun a ha b hb=>?_⟩;obtain rfl:b=x:=by simpa using hb
    rintro rfl;exact hn.2 ha
   ·rcases List.mem_append.1 hy with hy|hy
    ·exact h2 y hy
    ·obtain rfl:y=x:=by simpa using hy
     have:=h3 y (by simp);exact⟨this.1,this.2,by simpa using hn.1⟩
theorem pD:∀(acc:List Int) (s:qE),acc.Nodup→(∀x∈acc,0≤x∧x<(s.length:Int)∧(dk.look s x).isSome=false)→cnt s+acc.length≤s.length
 | [],s,_,_=>rW s
 | x::r,s,h1,h2=>by
  obtain⟨g0,g1,g2⟩:=h2 x (by simp);obtain⟨n,rfl⟩:=Int.eq_ofNat_of_zero_le g0;rw[List.nodup_cons]at h1;have hc:=vK s n [] (by omega);rw[g2]at hc;simp only[Bool.false_eq_true,if_false]at hc;have ih:=pD r (s.set n (some [])) h1.2 (fun y hy=>by
   obtain⟨k0,k1,k2⟩:=h2 y (by simp[hy]);refine⟨k0,by rw[List.length_set];exact k1,?_⟩;rw[zO _ _ _ _ (fun e=>h1.1 (by rw[← e];exact hy))];exact k2)
  rw[List.length_set,hc]at ih;simp only[List.length_cons];omega
theorem qgo(d:DD)(l:List Int)(hr:(d.n:Int)≤d.room)(hl:∀x∈l,0≤x∧x<(d.n:Int)):d.fits l=true:=by
 have hn:=d.yY;obtain⟨h1,h2⟩:=lS d.now l [] List.nodup_nil (by simp) (fun x hx=>by rw[hn];exact hl x hx);have h3:=pD _ _ h1 h2;unfold DD.fits DD.used;rw[Bool.and_eq_true,Bool.or_eq_true];refine⟨List.all_eq_true.2 fun x hx=>?_,.inr ?_⟩
 ·have:=hl x hx;simp[DD.has,this.1,this.2]
 ·rw[decide_eq_true_eq];rw[hn]at h3;omega
def lT (N:Nat)(l:List Wr):Int:=if l.length=0 then 0 else if 60<l.length then 3 else if uG N l=false then 2 else 0
theorem qgp{N:Nat}{l:List Wr}(h:lT N l=0)(h0:l.length≠0):l.length≤60∧uG N l=true:=by
 unfold lT at h;rw[if_neg h0]at h;by_cases h1:60<l.length
 ·rw[if_pos h1]at h;cases h
 ·rw[if_neg h1]at h;by_cases h2:uG N l=false
  ·rw[if_pos h2]at h;cases h
  ·exact⟨by omega,by simpa using h2⟩
theorem qdf{d:DD}{l:List Wr}(zW:d.on=true)(h:lT d.n l≠0∨l.length=0):zS d l=(lT d.n l,d):=by
 unfold zS;rw[if_neg (by rw[zW];simp)];by_cases h0:l.length=0
 ·rw[if_pos h0];unfold lT;rw[if_pos h0]
 ·rw[if_neg h0];rcases h with h|h
  ·unfold lT at h ⊢;rw[if_neg h0]at h ⊢;by_cases h1:60<l.length
   ·rw[if_pos h1,if_pos h1]
   ·rw[if_neg h1]at h;rw[if_neg h1,if_neg h1];by_cases h2:uG d.n l=false
    ·rw[if_pos h2,if_pos h2]
    ·rw[if_neg h2]at h;exact absurd rfl h
  ·exact absurd h h0
section
variable {N:Nat} {tgt:Int→Bt} {b:qE} {l:List Wr}
theorem qnu(hN:145<N)(fM:N≤1024)(h1:b.length=N)(h2:∀v,some v∈b→v.length=32)(a:Nat)(ha:a<2)(nL:l.length≤60)(h0:1≤l.length)(hp:uG N l=true) :
    ∃b2,b2=qQ b (nat (lay (1-a) (qJ (ze l))++[(0,jR (1-a) (qJ (ze l)).length)]))∧b2.length=N∧(∀v,some v∈b2→v.length=32) ∧
     dL (rd b2 0)=some (1-a,(qJ (ze l)).length)∧uq N b2 (1-a) (qJ (ze l)).length l∧∀k,145≤k→rd (qQ b2 (nat l)) k=over (rd b) l k:=by
 have hall:=gz hp;have hsm:∀x∈l,x.1<65536∧x.2.length=32:=fun x hx=>by have:=hall x hx;exact⟨by omega,this.2.2⟩
 obtain⟨s1,s72⟩:=ax l nL hsm;have qvw:=vP l nL hsm;obtain⟨f1,f2,_⟩:=kP (show 1-a<2 by omega) s72;have qnv:∀x∈nat (lay (1-a) (qJ (ze l))),∃i,i<(qJ (ze l)).length∧x.1=1+(1-a)*72+i∧x.2.length=32:=by
  intro x hx;obtain⟨y,hy,rfl⟩:=vM hx;obtain⟨i,g1,g2,g3⟩:=jf _ _ _ hy;refine⟨i,g1,by dsimp only;omega,?_⟩;have:=dy (ze l) i g1;rw[List.getElem?_eq_getElem g1]at g3;injection g3 with g3
  rw[← g3];exact this
 have e:nat (lay (1-a) (qJ (ze l))++[(0,jR (1-a) (qJ (ze l)).length)])=nat (lay (1-a) (qJ (ze l)))++[(0,jR (1-a) (qJ (ze l)).length)]:=by simp[nat]
 have xm:∀x∈nat (lay (1-a) (qJ (ze l))++[(0,jR (1-a) (qJ (ze l)).length)]),x.1<145∧x.2.length=32:=by
  rw[e];intro x hx;rcases List.mem_append.1 hx with hx|hx
  ·obtain⟨i,g1,g2,g3⟩:=qnv x hx;have:(1-a)*72≤72:=by omega
   exact⟨by omega,g3⟩
  ·obtain rfl:x=_:=by simpa using hx
   exact⟨by dsimp only;omega,f1⟩
 have hlen:(qQ b (nat (lay (1-a) (qJ (ze l))))).length=N:=by rw[xa];exact h1
 have hb2:(qQ b (nat (lay (1-a) (qJ (ze l))++[(0,jR (1-a) (qJ (ze l)).length)]))).length=N:=by rw[xa];exact h1
 refine⟨_,rfl,hb2,wT h2 (fun x hx=>(xm x hx).2),?_,.inr ⟨by omega,?_,hp⟩,fun k hk=>?_⟩
 ·rw[e,ed];unfold rd dk.put;rw[show((0:Int))=((0:Nat):Int)from rfl,zy _ _ _ (by omega)];exact f2
 ·have hs:zL (qQ b (nat (lay (1-a) (qJ (ze l))++[(0,jR (1-a) (qJ (ze l)).length)]))) (1-a) (qJ (ze l)).length=qJ (ze l):=by
     refine List.ext_getElem (by simp[zL]) fun i g1 g2=>?_;simp only[zL,List.getElem_map,List.getElem_range];rw[e,ed];unfold rd dk.put;rw[zO _ _ _ _ (by omega)]
     have:=lR (qJ (ze l)) (1+(1-a)*72) b (by have:(1-a)*72≤72:=by omega
                                             omega) i g2
     unfold lay;rw[this];rfl
  unfold gu;rw[hs,qj9 _ (by omega)];exact qgj l h0 nL (fun x hx=>by have:=hall x hx;exact⟨by omega,by omega,this.2.2⟩)
 ·rw[iL l _ (fun x hx=>by have:=hall x hx;rw[hb2];exact⟨by omega,this.2.1⟩)];exact vO l _ _ (fun j hj=>je _ _ _ fun x hx=>by have:=(xm x hx).1;omega) k hk
theorem lU {d:DD}(hN:145<N)(fM:N≤1024)(h:JJ N tgt d)(hf:0≤d.qz)(qvx:lT N l=0) :
    ((zS d l).1=0∧JJ N (over tgt l) (zS d l).2∧(d.qz=0→(zS d l).2.qz=0)∧0≤(zS d l).2.qz) ∨
    ((zS d l).1=6∧qrg (fun e=>RJ N tgt e∨RJ N (over tgt l) e) (zS d l).2∧d.qz≠0∧(zS d l).2.qz=0):=by
 have hJ:=h;obtain⟨⟨zW,hmo,hro,h1,h2,a,c,l0,hh,hg,ht⟩,his⟩:=h;have qjC:d.now=d.base:=by unfold DD.now;rw[hmo];rfl
 have hn:d.n=N:=h1;by_cases h0:l.length=0
 ·left
  have e:=qdf (l:=l) zW (.inr h0);rw[hn,qvx]at e;rw[e];obtain rfl:l=[]:=List.length_eq_zero_iff.1 h0;exact⟨rfl,hJ,fun h=>h,hf⟩
 obtain⟨nL,hp⟩:=qgp qvx h0;have hall:=gz hp;have hsm:∀x∈l,x.1<65536∧x.2.length=32:=fun x hx=>by have:=hall x hx;exact⟨by omega,this.2.2⟩
 obtain⟨s1,s72⟩:=ax l nL hsm;have qvw:=vP l nL hsm;obtain⟨ha,hc,_⟩:=kx hh;obtain⟨f1,_,_⟩:=kP (show 1-a<2 by omega) s72;obtain⟨b2,e2,q1,q2,q3,q4,q5⟩:=qnu hN fM h1 h2 a ha nL (by omega) hp;have hov:∀k,145≤k→over (rd d.base) l k=over tgt l k:=vO l _ _ his;have hgw:∀m∈yF a l,∀x∈m,0≤x.1∧x.1<(N:Int)∧x.2.length=32:=by
  intro m hm x hx;unfold yF at hm;simp only[List.mem_cons,List.not_mem_nil,or_false]at hm;rcases hm with rfl|rfl|rfl
  ·obtain⟨i,g1,g2,g3⟩:=jf _ _ _ hx;have:=dy (ze l) i g1;rw[List.getElem?_eq_getElem g1]at g3;injection g3 with g3
   have:(1-a)*72≤72:=by omega
   exact⟨by omega,by omega,by rw[← g3];assumption⟩
  ·obtain rfl:x=_:=by simpa using hx
   exact⟨by dsimp only;omega,by dsimp only;omega,f1⟩
  ·have:=hall x hx;exact⟨by omega,this.2⟩
 have qjE:d.fits (placesOf (yF a l))=true:=by
  refine qgo d _ (by rw[hn];exact hro) fun x hx=>?_;obtain⟨y,hy,rfl⟩:=List.mem_map.1 hx;obtain⟨m,hm,hy⟩:=List.mem_flatten.1 hy;have:=hgw m hm y hy;rw[hn];exact⟨this.1,this.2.1⟩
 have e:zS d l=gq (qC (yF a l)) d:=by
  unfold zS;rw[if_neg (by rw[zW];simp),if_neg h0,if_neg (by omega),hn,if_neg (by rw[hp];simp),qjC,hh];dsimp only;rw[if_neg (by omega),if_neg (by rw[qjE];simp)]
 rw[e];have tQ:∀s∈qC (yF a l),fL d.n s:=by rw[hn];exact vN hgw
 have qv0:nat (yF a l).flatten=nat (lay (1-a) (qJ (ze l))++[(0,jR (1-a) (qJ (ze l)).length)])++nat l:=by
  simp[yF,nat]
 by_cases hfu:d.qz=0∨((qC (yF a l)).length:Int)<d.qz
 ·left
  rw[bF _ d zW hf (by rw[hn];exact hro) tQ hfu,hmo,dz,qv0,jd,← e2];have hw:=RB.whole (tgt:=over tgt l) q1 q2 q3 q4 (fun k hk=>by rw[q5 k hk];exact hov k hk);refine⟨rfl,⟨⟨rfl,rfl,hro,hw.1⟩,hw.2⟩,fun h0=>?_,?_⟩
  ·show less d.qz _=0;unfold less;rw[if_pos h0]
  ·show 0≤less d.qz _;unfold less;split <;> omega
 ·right
  have hf0:d.qz≠0:=fun h=>hfu (.inl h);rw[lO _ d zW (by rw[hn];exact hro) tQ (by omega) (by omega),hmo];obtain⟨pre,q,post,j,e1,hq,e3⟩:=lQ (yF a l) (d.qz-1).toNat d.base (by omega);rw[e3];refine⟨rfl,⟨rfl,fun keep=>?_⟩,hf0,rfl⟩;rw[qeL];have old:∀y:List (Nat × Bt),(∀x∈y,x∈nat (lay (1-a) (qJ (ze l))))→RJ N tgt (mk d (qQ d.base y,[]) true 0):=by
   intro y hy;have hk:∀x∈y,∃i,i<(qJ (ze l)).length∧x.1=1+(1-a)*72+i∧x.2.length=32:=by
    intro x hx;obtain⟨z,hz,rfl⟩:=vM (hy x hx);obtain⟨i,g1,g2,g3⟩:=jf _ _ _ hz;have:=dy (ze l) i g1;rw[List.getElem?_eq_getElem g1]at g3;injection g3 with g3
    exact⟨i,g1,by dsimp only;omega,by rw[← g3];assumption⟩
   refine⟨rfl,rfl,hro,by rw[← h1];exact xa _ _,wT h2 (fun x hx=>(hk x hx).choose_spec.2.2),a,c,l0,?_,bH hg y (fun x hx i hi=>?_),fun k gZ=>?_⟩
   ·show dL (rd (qQ d.base y) 0)=_;rw[je _ _ _ (fun x hx=>?_)]
    ·exact hh
    ·obtain⟨i,_,g2,_⟩:=hk x hx;omega
   ·obtain⟨i',g1,g2,_⟩:=hk x hx;have:a=0∨a=1:=by omega
    rcases this with rfl|rfl <;> omega
   ·rw[← ht k gZ];show rd (qQ (qQ d.base y) (nat l0)) k=_;have hin:∀x∈l0,0≤x.1∧x.1<(d.base.length:Int):=fun x hx=>by have:=bG hg x hx;rw[h1];exact⟨by omega,this.2.1⟩
    rw[iL l0 _ (fun x hx=>by rw[xa];exact hin x hx),iL l0 _ hin];refine vO l0 _ _ (fun m hm=>je _ _ _ fun x hx=>?_) k gZ;obtain⟨i,g1,g2,_⟩:=hk x hx;have:(1-a)*72≤72:=by omega
    omega
  have new:∀y:List (Nat × Bt),(∀x∈y,x∈nat l)→RJ N (over tgt l) (mk d (qQ b2 y,[]) true 0):=fun y hy =>
   ⟨rfl,rfl,hro,RB.part (tgt:=over tgt l) q1 q2 q3 q4 (fun k hk=>by rw[q5 k hk];exact hov k hk) y hy⟩
  have qaT:∀(m:List Wr) (x:Nat × Bt),x∈stay (nat (m.take j)) keep→x∈nat m:=fun m x hx=>by
   obtain⟨z,hz,rfl⟩:=vM (lz _ _ _ hx);exact List.mem_map.2 ⟨z,List.mem_of_mem_take hz,rfl⟩
  have hnil:∀q:List (List Wr),q=[]→stay (nat (q.flatten.take j)) keep=[]:=fun q hq=>by subst hq;simp[nat,stay]
  show RJ N tgt (mk d (qQ (qQ d.base (nat pre.flatten)) (stay (nat (q.flatten.take j)) keep),[]) true 0)∨RJ N (over tgt l) (mk d (qQ (qQ d.base (nat pre.flatten)) (stay (nat (q.flatten.take j)) keep),[]) true 0);unfold yF at e1
  match pre,e1 with
  | [],e1 =>
   left
   have hq':q=[]∨q=[lay (1-a) (qJ (ze l))]:=by
    rcases hq with hq|⟨y,rfl⟩
    ·exact .inl hq
    ·simp at e1;exact .inr (by rw[e1.1])
   refine old _ fun x hx=>?_;rcases hq' with rfl|rfl
   ·rw[hnil [] rfl]at hx;cases hx
   ·have:=qaT _ x hx;simpa using this
  | [p1],e1 =>
   have hp1:p1=lay (1-a) (qJ (ze l)):=by simp at e1;exact e1.1.symm
   subst hp1;have hq':q=[]∨q=[[(0,jR (1-a) (qJ (ze l)).length)]]:=by
    rcases hq with hq|⟨y,rfl⟩
    ·exact .inl hq
    ·simp at e1;exact .inr (by rw[e1.1])
   have hst:stay (nat (q.flatten.take j)) keep=[]∨stay (nat (q.flatten.take j)) keep=nat [(0,jR (1-a) (qJ (ze l)).length)]:=by
    rcases hq' with rfl|rfl
    ·exact .inl (hnil [] rfl)
    ·match j with
     | 0=>exact .inl (by simp[nat,stay])
     | j+1 =>
      match keep with
      | []=>exact .inl (qjt _)
      | true::_=>exact .inr (by simp[nat,stay])
      | false::_=>exact .inl (by simp[nat,stay])
   rcases hst with hst|hst
   ·left
    rw[hst];have:=old (nat (lay (1-a) (qJ (ze l)))) (fun x hx=>hx);simpa[qQ]using this
   ·right
    rw[hst];have:=new [] (fun x hx=>by cases hx);rw[e2,show nat (lay (1-a) (qJ (ze l))++[(0,jR (1-a) (qJ (ze l)).length)])=nat (lay (1-a) (qJ (ze l)))++nat [(0,jR (1-a) (qJ (ze l)).length)]from List.map_append,jd]at this;simpa[qQ]using this
  | [p1,p2],e1 =>
   right
   have hp1:p1=lay (1-a) (qJ (ze l))∧p2=[(0,jR (1-a) (qJ (ze l)).length)]:=by simp at e1;exact⟨e1.1.symm,e1.2.1.symm⟩
   obtain⟨rfl,rfl⟩:=hp1;have hq':q=[]∨q=[l]:=by
    rcases hq with hq|⟨y,rfl⟩
    ·exact .inl hq
    ·simp at e1;exact .inr (by rw[e1.1])
   have e5:qQ d.base (nat [lay (1-a) (qJ (ze l)),[(0,jR (1-a) (qJ (ze l)).length)]].flatten)=b2:=by rw[e2];simp
   rw[e5];refine new _ fun x hx=>?_;rcases hq' with rfl|rfl
   ·rw[hnil [] rfl]at hx;cases hx
   ·have:=qaT _ x hx;simpa using this
  | [p1,p2,p3],e1 =>
   right
   have hp1:p1=lay (1-a) (qJ (ze l))∧p2=[(0,jR (1-a) (qJ (ze l)).length)]∧p3=l∧q=[]:=by
    simp at e1;exact⟨e1.1.symm,e1.2.1.symm,e1.2.2.1.symm,e1.2.2.2.1⟩
   obtain⟨rfl,rfl,rfl,rfl⟩:=hp1;rw[hnil [] rfl];have e5:qQ d.base (nat [lay (1-a) (qJ (ze p3)),[(0,jR (1-a) (qJ (ze p3)).length)],p3].flatten)=qQ b2 (nat p3):=by rw[e2,← jd];simp[nat]
   rw[e5];have:=new (nat p3) (fun x hx=>hx);simpa[qQ]using this
  | p1::p2::p3::p4::r,e1=>simp at e1
end
end Go.Proofs.YtdpbdkacngaemaaGreatDoor.jr
namespace Go.Proofs.YtdpbdkacngaemaaGreatDoor.sp
open _root_.Go.Proofs.Tryz Go Go.RowKit
def bump (cs:List Int)(k:Nat):List Int:=cs.set k (wrap64 (cs.getD k 0+1))
def jV (n:Int):List Int→List Int→Option (List Int)
 | cs,[]=>some cs
 | cs,k::r=>if k=0 then jV n cs r else if k<193∨n≤k then none else jV n (bump cs k.toNat) r
def yG (jW:List (List Int))(n:Int):List Int × Int :=
 if n<0∨1024<n then([],2)else match jV n (List.replicate n.toNat 0) jW.flatten with
  | none=>([],2)
  | some cs=>(cs,0)
def qP (cs:List Int)(i:Nat):List Int:=((List.range i).filter fun j=>decide (193≤j)&&decide (cs.getD j 0=0)).map fun(j:Nat)=>(j:Int)
def xW (cs:List Int):Nat:=(qP cs cs.length).length
def yS (cs:List Int)(n:Int):List Int × Int :=
 if n<0 then([],2)else if (xW cs:Int)<n then([],7)else((qP cs cs.length).take n.toNat,0)
theorem bI (cs:List Int)(k:Nat):(bump cs k).length=cs.length:=by simp[bump]
theorem bJ {n:Int}:∀ {l cs cs':List Int},jV n cs l=some cs'→cs'.length=cs.length
 | [],cs,cs',h=>by simp only[jV,Option.some.injEq]at h;rw[h]
 | k::r,cs,cs',h=>by
  unfold jV at h;split at h
  ·exact bJ h
  ·split at h
   ·cases h
   ·rw[bJ h,bI]
theorem dA (n:Int)(cs:List Int)(k:Int)(r:List Int):jV n cs (k::r)=if k=0 then jV n cs r else if k<193∨n≤k then none else jV n (bump cs k.toNat) r:=rfl
theorem ur {n:Int}:∀(a b cs:List Int),jV n cs (a++b)=(jV n cs a).bind fun c=>jV n c b
 | [],b,cs=>rfl
 | k::r,b,cs=>by
  show jV n cs (k::(r++b))=_;rw[dA,dA];split
  ·exact ur r b cs
  ·split
   ·rfl
   ·exact ur r b _
theorem qgq{n:Int}{a cs c:List Int}(h:jV n cs a=some c)(k:Int):jV n cs (a++[k])=if k=0 then some c else if k<193∨n≤k then none else some (bump c k.toNat):=by
 rw[ur,h];rfl
theorem qgr{n:Int}{a cs:List Int}(h:jV n cs a=none)(b:List Int):jV n cs (a++b)=none:=by
 rw[ur,h];rfl
theorem qdg(cs:List Int):qP cs 0=[]:=rfl
theorem yH (cs:List Int)(i:Nat)(h:i≤193):qP cs i=[]:=by
 unfold qP;rw[List.map_eq_nil_iff,List.filter_eq_nil_iff];intro j hj;rw[List.mem_range]at hj;simp;omega
theorem az (cs:List Int)(i:Nat):qP cs (i+1)=qP cs i++(if 193≤i∧cs.getD i 0=0 then[(i:Int)]else[]):=by
 unfold qP;rw[List.range_succ,List.filter_append,List.map_append]
 congr 1
 by_cases h1:193≤i
 ·by_cases h2:cs.getD i 0=0
  ·rw[if_pos ⟨h1,h2⟩,List.filter_cons_of_pos (by rw[decide_eq_true h1,decide_eq_true h2];rfl)];rfl
  ·rw[if_neg (fun h=>h2 h.2),List.filter_cons_of_neg (by rw[decide_eq_false h2,Bool.and_false];decide)];rfl
 ·rw[if_neg (fun h=>h1 h.1),List.filter_cons_of_neg (by rw[decide_eq_false h1,Bool.false_and];decide)];rfl
theorem qgs(cs:List Int)(i:Nat):(qP cs i).length≤i:=by
 unfold qP;rw[List.length_map];exact Nat.le_trans (List.length_filter_le _ _) (by simp)
theorem eA (cs:List Int):∀(i j:Nat),i≤j→∃r,qP cs j=qP cs i++r
 | i,0,h=>by
  obtain rfl:i=0:=by omega
  exact⟨[],by simp⟩
 | i,j+1,h=>by
  by_cases e:i=j+1
  ·subst e;exact⟨[],by simp⟩
  ·obtain⟨r,hr⟩:=eA cs i j (by omega);exact⟨r++_,by rw[az,hr,List.append_assoc]⟩
theorem eB {cs:List Int}{i:Nat}{z:Int}:z∈qP cs i ↔ ∃j:Nat,z=(j:Int)∧j<i∧193≤j∧cs.getD j 0=0:=by
 unfold qP;simp only[List.mem_map,List.mem_filter,List.mem_range,Bool.and_eq_true,decide_eq_true_eq];constructor
 ·rintro⟨j,⟨h1,h2,h3⟩,rfl⟩;exact⟨j,rfl,h1,h2,h3⟩
 ·rintro⟨j,rfl,h1,h2,h3⟩;exact⟨j,⟨h1,h2,h3⟩,rfl⟩
theorem lV (cs:List Int)(i:Nat):(qP cs i).Pairwise (· < ·):=by
 unfold qP;rw[List.pairwise_map];refine List.Pairwise.imp (R:=fun(a b:Nat)=>a<b) (fun h=>by omega) ?_;exact(List.pairwise_lt_range).filter _
theorem qgt(cs:List Int)(k:Nat)(h:k<cs.length)(h0:cs.getD k 0=0):(bump cs k).getD k 0=1:=by
 unfold bump;rw[h0];simp[List.getD,h];first
  | rfl
  | (unfold wrap64;omega)
theorem aA (cs:List Int)(k j:Nat)(h:j≠k):(bump cs k).getD j 0=cs.getD j 0:=by
 unfold bump;simp[List.getD,List.getElem?_set_ne (Ne.symm h)]
theorem yy (cs:List Int)(i:Nat):(qP cs (i+1)).length=(qP cs i).length+if 193≤i∧cs.getD i 0=0 then 1 else 0:=by
 rw[az,List.length_append];split <;> rfl
theorem lW (cs:List Int)(k:Nat)(h:k<cs.length)(h1:193≤k)(h0:cs.getD k 0=0):∀i,(qP (bump cs k) i).length+(if k<i then 1 else 0)=(qP cs i).length
 | 0=>by simp[qdg]
 | i+1=>by
  have ih:=lW cs k h h1 h0 i;rw[yy,yy];by_cases e:i=k
  ·subst e;rw[qgt cs i h h0,h0];split at ih <;> split <;> split <;> split <;> omega
  ·rw[aA cs k i e];split at ih <;> split <;> split <;> omega
def bnd (M:Nat)(cs:List Int):Prop:=∀z∈cs,0≤z∧z≤(M:Int)
end Go.Proofs.YtdpbdkacngaemaaGreatDoor.sp
namespace Go.Proofs.YtdpbdkacngaemaaGreatDoor.ch
open _root_.Go.Proofs.Tryz Go Go.RowKit ib
abbrev Gd:=Nat × Nat
structure Sn where
 g:Gd
 bs:List Bt
 hid:Bool
structure CH where
 live:List Bt
 qd:List Sn
def above (a b:Gd):Bool:=decide (b.1<a.1) || (decide (a.1=b.1)&&decide (b.2<a.2))
def CH.last(c:CH):Gd:=match c.qd.getLast? with
 | none=>(0,0)
 | some s=>s.g
def dM (n:Nat):List Bt:=List.replicate n zz
def CH.base(c:CH):List Bt:=match c.qd.getLast? with
 | none=>dM c.live.length
 | some s=>s.bs
def dV (n:Nat):CH:=⟨dM n,[]⟩
def CH.may (c:CH)(g:Gd):Int:=if above g c.last then(if 20≤c.qd.length then 3 else 0)else 2
def CH.write(c:CH)(k:Int)(s:Bt):CH × Int:=if k<0∨(c.live.length:Int)≤k∨s.length≠32 then(c,2)else(⟨c.live.set k.toNat s,c.qd⟩,0)
def CH.snap(c:CH)(g:Gd):CH × Int:=if c.may g=0 then(⟨c.live,c.qd++[⟨g,c.live,false⟩]⟩,0)else(c,c.may g)
def aB:List Bt→Int→List (Int × Bt)→Option (List Bt)
 | l,_,[]=>some l
 | l,p,(k,s)::r=>if k≤p∨(l.length:Int)≤k∨s.length≠32 then none else aB (l.set k.toNat s) k r
def CH.add (c:CH)(g:Gd)(x:List (Int × Bt)):CH × Int :=
 if c.may g=0 then(match aB c.base (-1) x with
  | none=>(c,2)
  | some l=>(⟨l,c.qd++[⟨g,l,false⟩]⟩,0))else(c,c.may g)
def CH.find(c:CH)(g:Gd):Option Nat:=c.qd.findIdx? fun s=>decide (s.g=g)
def kQ (l:List Sn)(i:Nat):List Sn:=l.modify i fun s=>{ s with hid:=true }
def CH.qv1 (c:CH)(g:Gd):CH × Int:=match c.find g with
 | none=>(c,5)
 | some i=>match c.qd[i]? with
  | none=>(c,5)
  | some s=>if s.hid then(c,14)else(⟨c.live,kQ c.qd i⟩,0)
def CH.list(c:CH):List Gd:=c.qd.map (·.g)
def CH.read(c:CH)(g:Gd):List Bt × Int:=match c.find g with
 | none=>([],5)
 | some i=>match c.qd[i]? with
  | none=>([],5)
  | some s=>if s.hid then([],14)else(s.bs,0)
def qpp (p q:List Bt):List (Int × Bt):=(List.range q.length).filterMap fun i=>if q.getD i []=p.getD i []then none else some ((i:Int),q.getD i [])
def gA (n:Nat)(l:List Bt):Prop:=l.length=n∧∀v∈l,v.length=32
structure CH.ok(c:CH):Prop where
 live:gA c.live.length c.live
 n1:1≤c.live.length
 n8:c.live.length≤8
 qd:∀s∈c.qd,gA c.live.length s.bs
 few:c.qd.length≤20
 gds:∀s∈c.qd,s.g.1<18446744073709551616∧s.g.2<18446744073709551616
theorem qnw(n:Nat):gA n (dM n):=⟨by simp[dM],fun v hv=>by rw[List.eq_of_mem_replicate hv];exact zh⟩
theorem qgu(l:List Bt)(ss:List Sn)(s:Sn):(⟨l,ss++[s]⟩:CH).last=s.g:=by
 unfold CH.last;simp
end Go.Proofs.YtdpbdkacngaemaaGreatDoor.ch
namespace Go.Proofs.YtdpbdkacngaemaaGreatDoor.vt
open _root_.Go.Proofs.Tryz Go Go.RowKit jr mt im sp
abbrev Bt:=List UInt8
abbrev Tg:=Int→Bt
def zb:Bt:=List.replicate 32 0
def bj (t:Tg)(k:Int):Bt:=if k=0 then zb else t k
def qD (t:Tg)(qp:List Int):List Bt:=qp.map (bj t)
def xg (m:Mt):List (List Int):=m.live::m.tok.qp::m.qd.map (·.qp)
def held (m:Mt)(z:Int):Prop:=∃l∈xg m,z∈l
def qg:List Int→List (Int × Bt)→List Int × List Wr
 | _,[]=>([],[])
 | fr,(_,s)::r=>if s=zb then(0::(qg fr r).1,(qg fr r).2)else match fr with
  | []=>(0::(qg [] r).1,(qg [] r).2)
  | f::fr=>(f::(qg fr r).1,(f,s)::(qg fr r).2)
def full (x:List (Int × Bt)):Nat:=(x.filter fun c=>decide (c.2≠zb)).length
def qL (N:Nat)(m:Mt)(x:List (Int × Bt)):(List Int × List Wr) × Int :=
 if (yS (yG (xg m) N).1 (full x)).2=0 then(qg (yS (yG (xg m) N).1 (full x)).1 x,0)else(([],[]),(yS (yG (xg m) N).1 (full x)).2)
def xD (m:Mt):List Bt:=qJ (zq m)
def x9 (t:Tg):Nat→List Bt→List Wr
 | _,[]=>[]
 | o,s::r=>(if t (o:Int)=s then[]else[((o:Int),s)])++x9 t (o+1) r
def qeM (t:Tg)(m:Mt):List Wr:=x9 t 145 (xD m)
def qK (t:Tg)(m:Mt)(ws:List Wr):List Wr:=qeM t m++ws
structure qgv where
 code:Int
 m:Mt
 ws:List Wr
def qI (m:Mt):Gd:=match m.qd.getLast? with
 | none=>(0,0)
 | some s=>s.g
def kR (m:Mt):List Int:=match m.qd.getLast? with
 | none=>List.replicate m.live.length 0
 | some s=>s.qp
def zU:List Int→List (Int × Bt)→List Int→List Int
 | l,[],_=>l
 | l,_::_,[]=>l
 | l,(k,_)::r,a::at_=>zU (l.set k.toNat a) r at_
def pE (m:Mt)(g:Gd):Option Nat:=m.qd.findIdx? fun s=>decide (s.g=g)
def wh (l:List Sp)(i:Nat):List Sp:=l.modify i fun s=>{ s with hid:=true }
def qjF (m:Mt)(g:Gd):qgv:=match pE m g with
 | none=>⟨5,m,[]⟩
 | some i=>match m.qd[i]? with
  | none=>⟨5,m,[]⟩
  | some s=>if s.hid then⟨14,m,[]⟩else⟨0,{ m with qd:=wh m.qd i },[]⟩
def xw (b:Nat):Int→List (Int × Bt)→Bool
 | _,[]=>true
 | p,(k,s)::r=>decide (p<k)&&decide (k<(b:Int))&&decide (s.length=32)&&xw b k r
structure Tf where
 base:Gd
 target:Gd
 next:Int
 all:Int
def tf (t:Tk):Tf:=⟨t.base,t.target,t.next,t.all⟩
def zm (b:Nat)(n:Nat)(last:Gd)(t:Tf)(x:List (Int × Bt)):Int :=
 if t.base≠last∨mt.above t.target last=false∨t.all<0∨(b:Int)<t.all∨t.next<0∨t.all<t.next∨¬ (t.next=0↔t.all=0)then 2
 else if xw b (-1) x=false then 2
 else if t.next=t.all∧20≤n then 3 else 0
def xA (N:Nat)(m:Mt)(t:Tf)(x:List (Int × Bt)):qgv :=
 if zm m.live.length m.qd.length (qI m) t x≠0 then⟨zm m.live.length m.qd.length (qI m) t x,m,[]⟩
 else if (qL N m x).2≠0 then⟨(qL N m x).2,m,[]⟩
 else
  let qp:=zU (if m.tok.base=t.base∧m.tok.target=t.target∧m.tok.all=t.all then m.tok.qp else kR m) x (qL N m x).1.1
  if t.next=t.all then⟨0,⟨qp,m.qd++[⟨t.target,qp,false⟩],yg⟩,(qL N m x).1.2⟩
  else⟨0,{ m with tok:=⟨t.base,t.target,t.next,t.all,qp⟩ },(qL N m x).1.2⟩
def qaU (t:Tg)(s:Sp):ch.Sn:=⟨s.g,qD t s.qp,s.hid⟩
def jM (t:Tg)(m:Mt):ch.CH:=⟨qD t m.live,m.qd.map (qaU t)⟩
def jk (b N:Nat)(l:List Int):Prop:=l.length=b∧(∀z∈l,z=0∨(193≤z∧z<(N:Int)))∧∀i j,i<j→j<l.length→pl l i=pl l j→pl l i=0
def kS:Gd→List Gd→Prop
 | _,[]=>True
 | p,g::r=>mt.above g p=true∧kS g r
structure jm(b N:Nat)(m:Mt):Prop where
 b1:1≤b
 b8:b≤8
 live:jk b N m.live
 few:m.qd.length≤20
 wM:∀s∈m.qd,jk b N s.qp
 qgw:kS (0,0) (m.qd.map (·.g))
 tok:m.tok=yg∨(m.tok.base=qI m∧mt.above m.tok.target m.tok.base=true∧1≤m.tok.next∧m.tok.next<m.tok.all∧m.tok.all≤(b:Int)∧jk b N m.tok.qp)
 gds:mB m
theorem qjG{l:List Int}(h:∀i j,i<j→j<l.length→pl l i=pl l j→pl l i=0):yi l l.length=false:=by
 cases hd:yi l l.length with
 | false=>rfl
 | true =>
  exfalso;unfold yi at hd;obtain⟨i,hi,h2⟩:=List.any_eq_true.1 hd;have hi:=List.mem_range.1 hi;simp only[Bool.and_eq_true,decide_eq_true_eq]at h2;obtain⟨h0,h3⟩:=h2;unfold wH at h3;obtain⟨j,hj,h4⟩:=List.any_eq_true.1 h3;have hj:=List.mem_range.1 hj;simp only[decide_eq_true_eq]at h4;have:=h j i hj hi h4.symm;exact h0 (h4.trans this)
theorem jk.check{b N:Nat}{l:List Int}(h:jk b N l)(h1:1≤b)(h8:b≤8):zA l (b:Int) (N:Int)=0:=by
 obtain⟨hl,hz,hd⟩:=h;unfold zA;rw[if_neg (by omega),if_neg,if_neg (by rw[qjG hd];decide)];rw[Bool.not_eq_true,List.any_eq_false];intro z hzm;unfold wu;rcases hz z hzm with rfl|⟨ha,hb⟩
 ·simp
 ·simp;omega
theorem jk.mono{b N M:Nat}{l:List Int}(h:jk b N l)(hNM:N≤M):jk b M l:=⟨h.1,fun z hz=>by rcases h.2.1 z hz with h|h;exact .inl h;exact .inr (by omega),h.2.2⟩
theorem jm.mono{b N M:Nat}{m:Mt}(h:jm b N m)(hNM:N≤M):jm b M m :=
 ⟨h.b1,h.b8,h.live.mono hNM,h.few,fun s hs=>(h.wM s hs).mono hNM,h.qgw,by
  rcases h.tok with h|⟨h1,h2,h3,h4,h5,h6⟩
  ·exact .inl h
  ·exact .inr ⟨h1,h2,h3,h4,h5,h6.mono hNM⟩,h.gds⟩
theorem lX {b N:Nat}(h1:1≤b)(h8:b≤8):∀(l:List Sp) (p:Gd),(∀s∈l,jk b N s.qp)→kS p (l.map (·.g))→xN (b:Int) (N:Int) p l=(0,match l.getLast? with
    | none=>p
    | some s=>s.g)
 | [],p,_,_=>rfl
 | s::r,p,hi,hr=>by
  obtain⟨ha,hr2⟩:=hr;have ih:=lX h1 h8 r s.g (fun x hx=>hi x (by simp[hx])) hr2;unfold xN;rw[if_pos ha,if_pos ((hi s (by simp)).check h1 h8),ih];cases r with
  | nil=>rfl
  | cons y r=>rw[List.getLast?_cons_cons];rfl
theorem jm.check{b N:Nat}{m:Mt}(h:jm b N m):xf m (b:Int) (N:Int)=0:=by
 have hs:=lX h.b1 h.b8 m.qd (0,0) h.wM h.qgw;have h4:=h.few;unfold xf;rw[h.live.check h.b1 h.b8,if_neg (by simp),if_neg (by omega),hs];dsimp only;rw[if_neg (by simp)];have e:(match m.qd.getLast? with
  | none=>((0,0):Gd)
  | some s=>s.g)=qI m:=rfl
 rw[e];rcases h.tok with ht|⟨t1,t2,t3,t4,t5,t6⟩
 ·rw[ht];rfl
 ·unfold kz;have hne:m.tok.target≠(0,0):=by
   intro e0;rw[e0]at t2;unfold mt.above at t2;simp at t2
  rw[if_neg hne];have hb:wJ m.tok (qI m) (b:Int)=false:=by
   unfold wJ;rw[← t1,t2];simp;omega
  rw[hb];simp only[Bool.false_eq_true,if_false];exact t6.check h.b1 h.b8
theorem jm.len{b N:Nat}{m:Mt}(h:jm b N m):m.live.length=b:=h.live.1
theorem aC {z:Int}(h:z<65536):(xz z).length≤3:=yx _ (by omega)
theorem fN:∀ {l:List Int},(∀z∈l,z<65536)→(zi l).length≤3*l.length
 | [],_=>by simp[zi]
 | z::l,h=>by
  have ih:=fN (l:=l) (fun y hy=>h y (by simp[hy]));have h1:=aC (h z (by simp));show(xz z++zi l).length≤_;rw[List.length_append,List.length_cons];omega
theorem jk.small{b N:Nat}{l:List Int}(h:jk b N l)(hN:N≤1024)(h8:b≤8):(zi l).length≤24:=by
 have:=fN (l:=l) (fun z hz=>by rcases h.2.1 z hz with h|h <;> omega);have:=h.1;omega
theorem lY {b N:Nat}(hN:N≤1024)(h8:b≤8):∀ {l:List Sp},(∀s∈l,jk b N s.qp)→(yP l).length≤45*l.length
 | [],_=>by simp[yP]
 | s::l,h=>by
  have ih:=lY hN h8 (l:=l) (fun y hy=>h y (by simp[hy]));have h1:=(h s (by simp)).small hN h8;have g1:=jr.qy s.g.1;have g2:=jr.qy s.g.2;have g3:=yx (if s.hid then 1 else 0) (by split <;> omega);show(spB s++yP l).length≤_;rw[List.length_append,List.length_cons];unfold spB jn;simp only[List.length_append];omega
theorem jm.size{b N:Nat}{m:Mt}(h:jm b N m)(hN:N≤1024):(zq m).length≤999:=by
 have h1:=h.live.small hN h.b8;have h2:=lY hN h.b8 h.wM;have h3:=yx m.live.length (by have:=h.len;have:=h.b8;omega);have h4:=yx m.qd.length (by have:=h.few;omega);have h5:(tkB m.tok).length≤69:=by
  rcases h.tok with ht|⟨t1,t2,t3,t4,t5,t6⟩
  ·rw[ht];decide
  ·unfold tkB;split
   ·have:=yx 0 (by omega);omega
   ·have g1:=jr.qy m.tok.base.1;have g2:=jr.qy m.tok.base.2;have g3:=jr.qy m.tok.target.1;have g4:=jr.qy m.tok.target.2;have g5:=yx 1 (by omega);have hb:=h.b8;have g6:=aC (z:=m.tok.next) (by omega);have g7:=aC (z:=m.tok.all) (by omega);have g8:=t6.small hN h.b8;unfold jn;simp only[List.length_append];omega
 have h6:=h.few;unfold zq;simp only[List.length_append];omega
theorem jm.enc{b N:Nat}{m:Mt}(h:jm b N m)(hN:N≤1024):wx m=(zq m,0):=by
 have hs:=h.size hN;have hc:xf m (b:Int) (1024:Int)=0:=(h.mono hN).check;have hl:=h.len;unfold wx;rw[hl,hc,if_neg (by simp),if_neg];show ¬ 48<nsec (zq m).length;unfold nsec;omega
theorem jm.back{b N:Nat}{m:Mt}(h:jm b N m)(hN:N≤1024):iX (zq m)=(m,0):=qaa h.gds (h.enc hN)
theorem xJ {b N:Nat}{m:Mt}(h:jm b N m)(hN:N≤1024):1≤(xD m).length∧(xD m).length≤48:=by
 have hs:=h.size hN;unfold xD;rw[xP];unfold nsec;omega
theorem qaV(m:Mt):∀s∈xD m,s.length=32:=by
 intro s hs;obtain⟨i,hi,rfl⟩:=List.getElem_of_mem hs;exact dy _ i hi
theorem fO:∀(a b:List Wr) (t:Tg),over t (a++b)=over (over t a) b
 | [],_,_=>rfl
 | x::a,b,t=>fO a b _
theorem gB:∀(l:List Wr) (t:Tg) (k:Int),(∀x∈l,x.1≠k)→over t l k=t k
 | [],_,_,_=>rfl
 | x::l,t,k,h=>by
  show over (fun j=>if j=x.1 then x.2 else t j) l k=t k;rw[gB l _ k (fun y hy=>h y (by simp[hy]))];exact if_neg (Ne.symm (h x (by simp)))
theorem iM:∀(l:List Wr) (t:Tg) (x:Wr),x∈l→(l.map (·.1)).Nodup→over t l x.1=x.2
 | y::l,t,x,h,hn=>by
  rw[List.map_cons,List.nodup_cons]at hn;show over (fun j=>if j=y.1 then y.2 else t j) l x.1=x.2;rcases List.mem_cons.1 h with rfl|h
  ·rw[gB l _ _ (fun z hz e=>hn.1 (by rw[← e];exact List.mem_map_of_mem hz))];exact if_pos rfl
  ·exact iM l _ x h hn.2
theorem ky {t:Tg}:∀ {ss:List Bt} {o:Nat} {x:Wr},x∈x9 t o ss→∃i,∃h:i<ss.length,x.1=((o+i:Nat):Int)∧x.2=ss[i]
 | [],o,x,h=>by simp[x9]at h
 | s::r,o,x,h=>by
  unfold x9 at h;rcases List.mem_append.1 h with h|h
  ·split at h
   ·simp at h
   ·obtain rfl:x=((o:Int),s):=by simpa using h
    exact⟨0,by simp,rfl,rfl⟩
  ·obtain⟨i,hi,h1,h2⟩:=ky h;exact⟨i+1,by simpa using hi,by rw[h1];congr 1;omega,by simpa using h2⟩
theorem gD {t:Tg}:∀(ss:List Bt) (o:Nat),((x9 t o ss).map (·.1)).Nodup
 | [],o=>by simp[x9]
 | s::r,o=>by
  unfold x9;rw[List.map_append,List.nodup_append];refine⟨by split <;> simp,gD r (o+1),fun a ha b hb=>?_⟩;split at ha
  ·simp at ha
  ·obtain rfl:a=(o:Int):=by simpa using ha
   obtain⟨x,hx,rfl⟩:=List.mem_map.1 hb;obtain⟨i,_,h1,_⟩:=ky hx;omega
theorem dB {t:Tg}:∀(ss:List Bt) (o:Nat),(x9 t o ss).length≤ss.length
 | [],o=>by simp[x9]
 | s::r,o=>by
  have ih:=dB (t:=t) r (o+1);unfold x9;rw[List.length_append,List.length_cons];split <;> simp <;> omega
theorem qdh{t:Tg}(ss:List Bt)(o:Nat)(i:Nat)(h:i<ss.length):over t (x9 t o ss) ((o+i:Nat):Int)=ss[i]:=by
 by_cases hm:∃x∈x9 t o ss,x.1=((o+i:Nat):Int)
 ·obtain⟨x,hx,he⟩:=hm;obtain⟨j,hj,h1,h2⟩:=ky hx;have:=iM _ t x hx (gD ss o);rw[he]at this;rw[this,h2];have:j=i:=by omega
  subst this;rfl
 ·rw[gB _ _ _ (fun x hx e=>hm ⟨x,hx,e⟩)];have key:∀(ss:List Bt) (o i:Nat) (h:i<ss.length),(¬ ∃x∈x9 t o ss,x.1=((o+i:Nat):Int))→t ((o+i:Nat):Int)=ss[i]:=by
   intro ss
   induction ss with
   | nil=>intro o i h;simp at h
   | cons s r ih =>
    intro o i h hn;cases i with
    | zero =>
     apply Classical.byContradiction;intro hne;refine hn ⟨((o:Int),s),?_,by simp⟩;unfold x9;rw[if_neg (by simpa using hne)];simp
    | succ i =>
     have:=ih (o+1) i (by simpa using h) (fun⟨x,hx,e⟩=>hn ⟨x,by unfold x9;exact List.mem_append_right _ hx,by rw[e];congr 1;omega⟩);rw[show o+(i+1)=o+1+i by omega,this];rfl
  exact key ss o i h hm
structure yz(b N:Nat)(t:Tg)(m:Mt):Prop where
 ok:jm b N m
 N0:193≤N
 N1:N≤1024
 home:∀i (h:i<(xD m).length),t ((145+i:Nat):Int)=(xD m)[i]
 len:∀k,145≤k→(t k).length=32
structure sA(N:Nat)(m:Mt)(ws:List Wr):Prop where
 few:ws.length≤8
 nodup:(ws.map (·.1)).Nodup
 range:∀x∈ws,193≤x.1∧x.1<(N:Int)
 free:∀x∈ws,¬ held m x.1
 len:∀x∈ws,x.2.length=32
section
variable {b N:Nat} {t:Tg} {m m':Mt} {ws:List Wr}
theorem bK (h:yz b N t m)(ho:jm b N m')(hw:sA N m ws):((qK t m' ws).map (·.1)).Nodup:=by
 have h48:=(xJ ho h.N1).2;unfold qK qeM;rw[List.map_append,List.nodup_append];refine⟨gD _ _,hw.nodup,fun a ha c hc=>?_⟩;obtain⟨x,hx,rfl⟩:=List.mem_map.1 ha;obtain⟨y,hy,rfl⟩:=List.mem_map.1 hc;obtain⟨i,hi,h1,_⟩:=ky hx;have:=(hw.range y hy).1;omega
theorem gF (h:yz b N t m)(ho:jm b N m')(hw:sA N m ws):∀x∈qK t m' ws,145≤x.1∧x.1<(N:Int)∧x.2.length=32:=by
 intro x hx;have h48:=(xJ ho h.N1).2;have hN:=h.N0;rcases List.mem_append.1 hx with hx|hx
 ·obtain⟨i,hi,h1,h2⟩:=ky hx;refine⟨by omega,by omega,?_⟩;rw[h2];exact qaV m' _ (List.getElem_mem hi)
 ·have:=hw.range x hx;exact⟨by omega,this.2,hw.len x hx⟩
theorem gG:∀(l:List Wr) (acc:List Int),(acc++l.map (·.1)).Nodup→found acc l=acc++l.map (·.1)
 | [],acc,_=>by simp[found]
 | x::l,acc,h=>by
  have hx:acc.contains x.1=false:=by
   rw[List.map_cons,List.nodup_append]at h;rw[Bool.eq_false_iff];intro hc;rw[List.contains_iff_mem]at hc;exact h.2.2 x.1 hc x.1 (by simp) rfl
  have e:Go.Proofs.YtdpbdkacngaemaaGreatDoor.dk.xO acc x.1=acc++[x.1]:=by
   unfold Go.Proofs.YtdpbdkacngaemaaGreatDoor.dk.xO;rw[hx];rfl
  have ih:=gG l (acc++[x.1]) (by simpa using h);show found (Go.Proofs.YtdpbdkacngaemaaGreatDoor.dk.xO acc x.1) l=_;rw[e,ih];simp
theorem qdi(h:yz b N t m)(ho:jm b N m')(hw:sA N m ws):lT N (qK t m' ws)=0:=by
 have h48:=(xJ ho h.N1).2;have hl:(qK t m' ws).length≤60:=by
  have:=dB (t:=t) (xD m') 145;have:=hw.few;unfold qK qeM;rw[List.length_append];omega
 have hp:uG N (qK t m' ws)=true:=by
  unfold uG;have hf:=gG (qK t m' ws) [] (by simpa using bK h ho hw);rw[hf];simp only[List.nil_append,List.length_map,decide_true,Bool.and_true,List.all_eq_true];intro x hx;obtain⟨h1,h2,h3⟩:=gF h ho hw x hx;unfold okW;simp;exact⟨⟨h1,h2⟩,h3⟩
 unfold lT;split
 ·rfl
 ·rw[if_neg (by omega),hp];simp
theorem qaW(h:yz b N t m)(ho:jm b N m')(hw:sA N m ws)(i:Nat)(hi:i<(xD m').length):over t (qK t m' ws) ((145+i:Nat):Int)=(xD m')[i]:=by
 have h48:=(xJ ho h.N1).2;unfold qK;rw[fO,gB ws _ _ (fun x hx e=>by have:=(hw.range x hx).1;omega)];exact qdh (xD m') 145 i hi
theorem fP (h:yz b N t m)(ho:jm b N m')(hw:sA N m ws)(z:Int)(hz:held m z)(qv2:193≤z):over t (qK t m' ws) z=t z:=by
 have h48:=(xJ ho h.N1).2;refine gB _ _ _ fun x hx e=>?_;rcases List.mem_append.1 hx with hx|hx
 ·obtain⟨i,hi,h1,_⟩:=ky hx;omega
 ·exact hw.free x hx (e ▸ hz)
theorem qdj(h:yz b N t m)(ho:jm b N m')(hw:sA N m ws)(x:Wr)(hx:x∈ws):over t (qK t m' ws) x.1=x.2 :=
 iM _ t x (List.mem_append_right _ hx) (bK h ho hw)
theorem lZ:∀(l:List Wr) (t:Tg),(∀k,145≤k→(t k).length=32)→(∀x∈l,x.2.length=32)→∀k,145≤k→(over t l k).length=32
 | [],_,h,_=>h
 | x::l,t,h,hl=>lZ l _ (fun k hk=>by
  show(if k=x.1 then x.2 else t k).length=32;split
  ·exact hl x (by simp)
  ·exact h k hk) (fun y hy=>hl y (by simp[hy]))
theorem yz.next(h:yz b N t m)(ho:jm b N m')(hw:sA N m ws):yz b N (over t (qK t m' ws)) m' :=
 ⟨ho,h.N0,h.N1,qaW h ho hw,lZ _ _ h.len fun x hx=>(gF h ho hw x hx).2.2⟩
theorem ma (h:yz b N t m)(ho:jm b N m')(hw:sA N m ws){l:List Int}(hl:l∈xg m)(hk:jk b N l):qD (over t (qK t m' ws)) l=qD t l:=by
 unfold qD;apply List.map_congr_left;intro z hz;unfold bj;split
 ·rfl
 ·rename_i h0;rcases hk.2.1 z hz with h1|h1
  ·exact absurd h1 h0
  ·exact fP h ho hw z ⟨l,hl,hz⟩ h1.1
theorem qeN(m:Mt):m.live∈xg m:=by simp[xg]
theorem qrh(m:Mt):m.tok.qp∈xg m:=by simp[xg]
theorem qeO{m:Mt}{s:Sp}(h:s∈m.qd):s.qp∈xg m:=by
 unfold xg;exact List.mem_cons_of_mem _ (List.mem_cons_of_mem _ (List.mem_map_of_mem h))
theorem qjH(h:yz b N t m)(ho:jm b N m')(hw:sA N m ws):jM (over t (qK t m' ws)) m=jM t m:=by
 unfold jM;rw[ma h ho hw (qeN m) h.ok.live]
 congr 1
 apply List.map_congr_left;intro s hs;unfold qaU;rw[ma h ho hw (qeO hs) (h.ok.wM s hs)]
end
end Go.Proofs.YtdpbdkacngaemaaGreatDoor.vt
