/- VtMath, VtPlace, ImMath, VtOps, VtDoes, VtStage, Chgs, ChHyp, CSum, VtHyp, VtTrio, VgMem, Parts, VgCop, VgRow, VgDec, SlotsT, VgEff. -/
import Derived.Test.YtdpbdkacngaemaaGreatDoorZF3
import Derived.Laws.IdiomCopy
import Derived.Lib.SlBuf
set_option linter.unusedVariables false
set_option linter.unusedSimpArgs false
set_option maxHeartbeats 30000000
set_option maxRecDepth 100000
namespace Go.Proofs.YtdpbdkacngaemaaGreatDoor.vt
open _root_.Go.Proofs.Tryz Go Go.RowKit jr mt im sp
theorem lX:∀(a b:List Wr) (t:Tg),over t (a++b)=over (over t a) b
 | [],_,_=>rfl
 | x::a,b,t=>lX a b _
theorem dZ:∀(l:List Wr) (t:Tg) (k:Int),(∀x∈l,x.1≠k)→over t l k=t k
 | [],_,_,_=>rfl
 | x::l,t,k,h=>by
  show over (fun j=>if j=x.1 then x.2 else t j) l k=t k;rw[dZ l _ k (fun y hy=>h y (by simp[hy]))];exact if_neg (Ne.symm (h x (by simp)))
theorem ni:∀(l:List Wr) (t:Tg) (x:Wr),x∈l→(l.map (·.1)).Nodup→over t l x.1=x.2
 | y::l,t,x,h,hn=>by
  rw[List.map_cons,List.nodup_cons]at hn;show over (fun j=>if j=y.1 then y.2 else t j) l x.1=x.2;rcases List.mem_cons.1 h with rfl|h
  ·rw[dZ l _ _ (fun z hz e=>hn.1 (by rw[← e];exact List.mem_map_of_mem hz))];exact if_pos rfl
  ·exact ni l _ x h hn.2
theorem uv {t:Tg}:∀ {ss:List Bt} {o:Nat} {x:Wr},x∈xd t o ss→∃i,∃h:i<ss.length,x.1=((o+i:Nat):Int)∧x.2=ss[i]
 | [],o,x,h=>by simp[xd]at h
 | s::r,o,x,h=>by
  unfold xd at h;rcases List.mem_append.1 h with h|h
  ·split at h
   ·simp at h
   ·obtain rfl:x=((o:Int),s):=by simpa using h
    exact⟨0,by simp,rfl,rfl⟩
  ·obtain⟨i,hi,h1,h2⟩:=uv h;exact⟨i+1,by simpa using hi,by rw[h1];congr 1;omega,by simpa using h2⟩
theorem aa {t:Tg}:∀(ss:List Bt) (o:Nat),((xd t o ss).map (·.1)).Nodup
 | [],o=>by simp[xd]
 | s::r,o=>by
  unfold xd;rw[List.map_append,List.nodup_append];refine⟨by split <;> simp,aa r (o+1),fun a ha b hb=>?_⟩;split at ha
  ·simp at ha
  ·obtain rfl:a=(o:Int):=by simpa using ha
   obtain⟨x,hx,rfl⟩:=List.mem_map.1 hb;obtain⟨i,_,h1,_⟩:=uv hx;omega
theorem aT {t:Tg}:∀(ss:List Bt) (o:Nat),(xd t o ss).length≤ss.length
 | [],o=>by simp[xd]
 | s::r,o=>by
  have ih:=aT (t:=t) r (o+1);unfold xd;rw[List.length_append,List.length_cons];split <;> simp <;> omega
theorem qfO{t:Tg}(ss:List Bt)(o:Nat)(i:Nat)(h:i<ss.length):over t (xd t o ss) ((o+i:Nat):Int)=ss[i]:=by
 by_cases hm:∃x∈xd t o ss,x.1=((o+i:Nat):Int)
 ·obtain⟨x,hx,he⟩:=hm;obtain⟨j,hj,h1,h2⟩:=uv hx;have:=ni _ t x hx (aa ss o);rw[he]at this;rw[this,h2];have:j=i:=by omega
  subst this;rfl
 ·rw[dZ _ _ _ (fun x hx e=>hm ⟨x,hx,e⟩)];have key:∀(ss:List Bt) (o i:Nat) (h:i<ss.length),(¬ ∃x∈xd t o ss,x.1=((o+i:Nat):Int))→t ((o+i:Nat):Int)=ss[i]:=by
   intro ss
   induction ss with
   | nil=>intro o i h;simp at h
   | cons s r ih =>
    intro o i h hn;cases i with
    | zero =>
     apply Classical.byContradiction;intro hne;refine hn ⟨((o:Int),s),?_,by simp⟩;unfold xd;rw[if_neg (by simpa using hne)];simp
    | succ i =>
     have:=ih (o+1) i (by simpa using h) (fun⟨x,hx,e⟩=>hn ⟨x,by unfold xd;exact List.mem_append_right _ hx,by rw[e];congr 1;omega⟩);rw[show o+(i+1)=o+1+i by omega,this];rfl
  exact key ss o i h hm
structure yb(b N:Nat)(t:Tg)(m:Mt):Prop where
 ok:jI b N m
 N0:193≤N
 N1:N≤1024
 home:∀i (h:i<(xO m).length),t ((145+i:Nat):Int)=(xO m)[i]
 len:∀k,145≤k→(t k).length=32
structure tZ(N:Nat)(m:Mt)(ws:List Wr):Prop where
 few:ws.length≤8
 nodup:(ws.map (·.1)).Nodup
 range:∀x∈ws,193≤x.1∧x.1<(N:Int)
 free:∀x∈ws,¬ held m x.1
 len:∀x∈ws,x.2.length=32
section
variable {b N:Nat} {t:Tg} {m m':Mt} {ws:List Wr}
theorem fy (h:yb b N t m)(ho:jI b N m')(hw:tZ N m ws):((qL t m' ws).map (·.1)).Nodup:=by
 have h48:=(xW ho h.N1).2;unfold qL qhL;rw[List.map_append,List.nodup_append];refine⟨aa _ _,hw.nodup,fun a ha c hc=>?_⟩;obtain⟨x,hx,rfl⟩:=List.mem_map.1 ha;obtain⟨y,hy,rfl⟩:=List.mem_map.1 hc;obtain⟨i,hi,h1,_⟩:=uv hx;have:=(hw.range y hy).1;omega
theorem ae (h:yb b N t m)(ho:jI b N m')(hw:tZ N m ws):∀x∈qL t m' ws,145≤x.1∧x.1<(N:Int)∧x.2.length=32:=by
 intro x hx;have h48:=(xW ho h.N1).2;have hN:=h.N0;rcases List.mem_append.1 hx with hx|hx
 ·obtain⟨i,hi,h1,h2⟩:=uv hx;refine⟨by omega,by omega,?_⟩;rw[h2];exact qdd m' _ (List.getElem_mem hi)
 ·have:=hw.range x hx;exact⟨by omega,this.2,hw.len x hx⟩
theorem af:∀(l:List Wr) (acc:List Int),(acc++l.map (·.1)).Nodup→found acc l=acc++l.map (·.1)
 | [],acc,_=>by simp[found]
 | x::l,acc,h=>by
  have hx:acc.contains x.1=false:=by
   rw[List.map_cons,List.nodup_append]at h;rw[Bool.eq_false_iff];intro hc;rw[List.contains_iff_mem]at hc;exact h.2.2 x.1 hc x.1 (by simp) rfl
  have e:Go.Proofs.YtdpbdkacngaemaaGreatDoor.dk.ye acc x.1=acc++[x.1]:=by
   unfold Go.Proofs.YtdpbdkacngaemaaGreatDoor.dk.ye;rw[hx];rfl
  have ih:=af l (acc++[x.1]) (by simpa using h);show found (Go.Proofs.YtdpbdkacngaemaaGreatDoor.dk.ye acc x.1) l=_;rw[e,ih];simp
theorem qfP(h:yb b N t m)(ho:jI b N m')(hw:tZ N m ws):oH N (qL t m' ws)=0:=by
 have h48:=(xW ho h.N1).2;have hl:(qL t m' ws).length≤60:=by
  have:=aT (t:=t) (xO m') 145;have:=hw.few;unfold qL qhL;rw[List.length_append];omega
 have hp:vO N (qL t m' ws)=true:=by
  unfold vO;have hf:=af (qL t m' ws) [] (by simpa using fy h ho hw);rw[hf];simp only[List.nil_append,List.length_map,decide_true,Bool.and_true,List.all_eq_true];intro x hx;obtain⟨h1,h2,h3⟩:=ae h ho hw x hx;unfold okW;simp;exact⟨⟨h1,h2⟩,h3⟩
 unfold oH;split
 ·rfl
 ·rw[if_neg (by omega),hp];simp
theorem qde(h:yb b N t m)(ho:jI b N m')(hw:tZ N m ws)(i:Nat)(hi:i<(xO m').length):over t (qL t m' ws) ((145+i:Nat):Int)=(xO m')[i]:=by
 have h48:=(xW ho h.N1).2;unfold qL;rw[lX,dZ ws _ _ (fun x hx e=>by have:=(hw.range x hx).1;omega)];exact qfO (xO m') 145 i hi
theorem lY (h:yb b N t m)(ho:jI b N m')(hw:tZ N m ws)(z:Int)(hz:held m z)(qz7:193≤z):over t (qL t m' ws) z=t z:=by
 have h48:=(xW ho h.N1).2;refine dZ _ _ _ fun x hx e=>?_;rcases List.mem_append.1 hx with hx|hx
 ·obtain⟨i,hi,h1,_⟩:=uv hx;omega
 ·exact hw.free x hx (e ▸ hz)
theorem qfQ(h:yb b N t m)(ho:jI b N m')(hw:tZ N m ws)(x:Wr)(hx:x∈ws):over t (qL t m' ws) x.1=x.2 :=
 ni _ t x (List.mem_append_right _ hx) (fy h ho hw)
theorem oN:∀(l:List Wr) (t:Tg),(∀k,145≤k→(t k).length=32)→(∀x∈l,x.2.length=32)→∀k,145≤k→(over t l k).length=32
 | [],_,h,_=>h
 | x::l,t,h,hl=>oN l _ (fun k hk=>by
  show(if k=x.1 then x.2 else t k).length=32;split
  ·exact hl x (by simp)
  ·exact h k hk) (fun y hy=>hl y (by simp[hy]))
theorem yb.next(h:yb b N t m)(ho:jI b N m')(hw:tZ N m ws):yb b N (over t (qL t m' ws)) m' :=
 ⟨ho,h.N0,h.N1,qde h ho hw,oN _ _ h.len fun x hx=>(ae h ho hw x hx).2.2⟩
theorem oO (h:yb b N t m)(ho:jI b N m')(hw:tZ N m ws){l:List Int}(hl:l∈xq m)(hk:jO b N l):volume (over t (qL t m' ws)) l=volume t l:=by
 unfold volume;apply List.map_congr_left;intro z hz;unfold eL;split
 ·rfl
 ·rename_i h0;rcases hk.2.1 z hz with h1|h1
  ·exact absurd h1 h0
  ·exact lY h ho hw z ⟨l,hl,hz⟩ h1.1
theorem qhM(m:Mt):m.live∈xq m:=by simp[xq]
theorem qvs(m:Mt):m.tok.qp∈xq m:=by simp[xq]
theorem qhN{m:Mt}{s:Sp}(h:s∈m.qc):s.qp∈xq m:=by
 unfold xq;exact List.mem_cons_of_mem _ (List.mem_cons_of_mem _ (List.mem_map_of_mem h))
theorem qnt(h:yb b N t m)(ho:jI b N m')(hw:tZ N m ws):uh (over t (qL t m' ws)) m=uh t m:=by
 unfold uh;rw[oO h ho hw (qhM m) h.ok.live]
 congr 1
 apply List.map_congr_left;intro s hs;unfold qbi;rw[oO h ho hw (qhN hs) (h.ok.dC s hs)]
end
end Go.Proofs.YtdpbdkacngaemaaGreatDoor.vt
namespace Go.Proofs.YtdpbdkacngaemaaGreatDoor.vt
open _root_.Go.Proofs.Tryz Go Go.RowKit jr mt im sp
def qtz (n:Int)(l:List Int):Prop:=∀z∈l,z=0∨(193≤z∧z<n)
theorem qjy(cs:List Int)(k:Nat)(M:Nat)(hb:bnd M cs)(hM:M≤1000000000)(hk:k<cs.length):(bump cs k).getD k 0=cs.getD k 0+1:=by
 have hg:0≤cs.getD k 0∧cs.getD k 0≤(M:Int):=by
  have:cs.getD k 0=cs[k]:=by simp[List.getD,hk]
  rw[this];exact hb _ (List.getElem_mem hk)
 have hw:wrap64 (cs.getD k 0+1)=cs.getD k 0+1:=by unfold wrap64;omega
 unfold bump;rw[hw];generalize cs.getD k 0+1=v;simp[List.getD,hk]
theorem qnu{cs:List Int}{k M:Nat}(hb:bnd M cs)(hM:M≤1000000000):bnd (M+1) (bump cs k):=by
 intro z hz;unfold bump at hz;rcases List.mem_or_eq_of_mem_set hz with h|h
 ·have:=hb z h;omega
 ·have hg:0≤cs.getD k 0∧cs.getD k 0≤(M:Int):=by
     by_cases hk:k<cs.length
     ·have:cs.getD k 0=cs[k]:=by simp[List.getD,hk]
      rw[this];exact hb _ (List.getElem_mem hk)
     ·have:cs.getD k 0=0:=by simp[List.getD,List.getElem?_eq_none (show cs.length≤k by omega)]
      rw[this];omega
  have hw:wrap64 (cs.getD k 0+1)=cs.getD k 0+1:=by unfold wrap64;omega
  rw[hw]at h;omega
theorem iQ {n:Int}:∀(l cs:List Int) (M:Nat),qtz n l→bnd M cs→(cs.length:Int)=n→M+l.length≤1000000000 →
    ∃cs',kV n cs l=some cs'∧cs'.length=cs.length∧(∀j,cs.getD j 0≤cs'.getD j 0)∧(∀z∈l,z≠0→cs.getD z.toNat 0+1≤cs'.getD z.toNat 0)∧yr cs≤yr cs'+l.length
 | [],cs,M,_,_,_,_=>⟨cs,rfl,rfl,fun _=>Int.le_refl _,fun z h=>absurd h (by simp),by simp⟩
 | z::r,cs,M,hg,hb,hn,hM=>by
  rw[List.length_cons]at hM;rw[aS];by_cases hz:z=0
  ·rw[if_pos hz];obtain⟨cs',h1,h2,h3,h4,h5⟩:=iQ r cs M (fun y hy=>hg y (by simp[hy])) hb hn (by omega);refine⟨cs',h1,h2,h3,fun y hy h0=>?_,by rw[List.length_cons];omega⟩;rcases List.mem_cons.1 hy with e|hy
   ·exact absurd (e.trans hz) h0
   ·exact h4 y hy h0
  ·have hr:193≤z∧z<n:=by
      rcases hg z (by simp)with h|h
      ·exact absurd h hz
      ·exact h
   rw[if_neg hz,if_neg (by omega)];have hk:z.toNat<cs.length:=by omega
   obtain⟨cs',h1,h2,h3,h4,h5⟩:=iQ r (bump cs z.toNat) (M+1) (fun y hy=>hg y (by simp[hy])) (qnu hb (by omega)) (by rw[fu];exact hn) (by omega);have hbz:=qjy cs z.toNat M hb (by omega) hk;have qt0:∀j,cs.getD j 0≤(bump cs z.toNat).getD j 0:=fun j=>by
    by_cases e:j=z.toNat
    ·rw[e,hbz];omega
    ·rw[cB cs _ j e];exact Int.le_refl _
   refine⟨cs',h1,by rw[h2,fu],fun j=>Int.le_trans (qt0 j) (h3 j),fun y hy h0=>?_,?_⟩
   ·rcases List.mem_cons.1 hy with rfl|hy
    ·have:=h3 y.toNat;omega
    ·have:=qt0 y.toNat;have:=h4 y hy h0;omega
   ·have hf:yr cs≤yr (bump cs z.toNat)+1:=by
       unfold yr;rw[fu];by_cases h0:cs.getD z.toNat 0=0
       ·have:=oK cs z.toNat hk (by omega) h0 cs.length;split at this <;> omega
       ·have e:∀i,(qV (bump cs z.toNat) i).length=(qV cs i).length:=by
           intro i
           induction i with
           | zero=>rfl
           | succ i ih =>
            rw[yM,yM,ih];by_cases ei:i=z.toNat
            ·subst ei;rw[hbz];have hg0:0≤cs.getD z.toNat 0:=by
              have:cs.getD z.toNat 0=cs[z.toNat]:=by simp[List.getD,hk]
              rw[this];exact(hb _ (List.getElem_mem hk)).1
             rw[if_neg (by omega),if_neg (by omega)]
            ·rw[cB cs _ i ei]
        rw[e];omega
    rw[List.length_cons];omega
theorem qdf(N:Nat):∀i,193≤i→i≤N→(qV (List.replicate N 0) i).length=i-193:=by
 intro i
 induction i with
 | zero=>intro h;omega
 | succ i ih =>
  intro h hN;rw[yM];have h0:(List.replicate N (0:Int)).getD i 0=0:=by simp[List.getD,show i<N by omega]
  by_cases hi:193≤i
  ·rw[ih hi (by omega),if_pos ⟨hi,h0⟩];omega
  ·rw[yY _ i (by omega),if_neg (fun h=>hi h.1)];simp;omega
section
variable {b N:Nat} {t:Tg} {m:Mt}
theorem qdg(h:jI b N m):qtz (N:Int) (xq m).flatten:=by
 intro z hz;obtain⟨l,hl,hz⟩:=List.mem_flatten.1 hz;unfold xq at hl;rcases List.mem_cons.1 hl with rfl|hl
 ·exact h.live.2.1 z hz
 ·rcases List.mem_cons.1 hl with rfl|hl
  ·rcases h.tok with ht|ht
   ·rw[ht]at hz;simp[yB]at hz
   ·exact ht.2.2.2.2.2.2.1 z hz
  ·obtain⟨s,hs,rfl⟩:=List.mem_map.1 hl;exact(h.dC s hs).2.1 z hz
theorem qfS(h:jI b N m):(xq m).flatten.length≤b*(m.qc.length+2):=by
 have h1:m.live.length=b:=h.len;have h2:m.tok.qp.length≤b:=by
  rcases h.tok with ht|ht
  ·rw[ht];simp[yB]
  ·have:=ht.2.2.2.2.2.1;omega
 have h3:∀l:List Sp,(∀s∈l,jO b N s.qp)→(l.map (·.qp)).flatten.length=b*l.length:=by
  intro l
  induction l with
  | nil=>simp
  | cons s l ih =>
   intro hl;have:=ih (fun x hx=>hl x (by simp[hx]));have:=(hl s (by simp)).1;rw[List.map_cons,List.flatten_cons,List.length_append,List.length_cons,Nat.mul_succ];omega
 have:=h3 m.qc h.dC;have e:b*(m.qc.length+2)=b*m.qc.length+(b+b):=by rw[Nat.mul_add];omega
 unfold xq;simp only[List.flatten_cons,List.length_append];omega
theorem oP (h:jI b N m):b*(m.qc.length+2)≤176:=by
 have:=Nat.mul_le_mul h.b8 (Nat.add_le_add_right h.few 2);omega
theorem cH (h:jI b N m)(hN:N≤1024):∃cs,yX (xq m) (N:Int)=(cs,0)∧cs.length=N∧(∀z,held m z→z≠0→1≤cs.getD z.toNat 0)∧(N-193)≤yr cs+b*(m.qc.length+2):=by
 have hg:=qdg h;have hl:=qfS h;have hl6:=oP h;obtain⟨cs,h1,h2,h3,h4,h5⟩:=iQ (xq m).flatten (List.replicate N 0) 0 hg (fun z hz=>by rw[List.eq_of_mem_replicate hz];omega) (by simp) (by omega);refine⟨cs,?_,by rw[h2,List.length_replicate],fun z hz h0=>?_,?_⟩
 ·unfold yX;rw[if_neg (by omega),Int.toNat_natCast,h1]
 ·obtain⟨l,hl,hz⟩:=hz;have:=h4 z (List.mem_flatten.2 ⟨l,hl,hz⟩) h0;have h0:(List.replicate N (0:Int)).getD z.toNat 0=0:=by
   by_cases hk:z.toNat<N
   ·simp[List.getD,hk]
   ·simp[List.getD,hk]
  omega
 ·have:N-193≤yr (List.replicate N (0:Int)):=by
     unfold yr;rw[List.length_replicate];by_cases qz7:193≤N
     ·rw[qdf N N qz7 (Nat.le_refl _)];exact Nat.le_refl _
     ·omega
  omega
theorem wD (k:Int)(s:Bt)(r:List (Int × Bt)):full ((k,s)::r)=full r+if s=zb then 0 else 1:=by
 unfold full;by_cases h:s=zb <;> simp[h]
theorem iR:∀(x:List (Int × Bt)) (fr:List Int),full x≤fr.length →
    (qd fr x).1.length=x.length∧(qd fr x).2.map (·.1)=fr.take (full x)∧(∀y∈(qd fr x).2,∃c∈x,y.2=c.2) ∧
     (∀i (hi:i<x.length) (ha:i<(qd fr x).1.length),(x[i].2=zb∧(qd fr x).1[i]=0)∨(x[i].2≠zb∧((qd fr x).1[i],x[i].2)∈(qd fr x).2))
 | [],fr,_=>⟨rfl,by simp[qd,full],by simp[qd],fun i hi=>by simp at hi⟩
 | (k,s)::r,fr,h=>by
  rw[wD]at h;by_cases hs:s=zb
  ·rw[if_pos hs]at h;obtain⟨h1,h2,h3,h4⟩:=iR r fr (by omega);have e:qd fr ((k,s)::r)=(0::(qd fr r).1,(qd fr r).2):=by
    cases fr <;> simp[qd,hs]
   rw[e,wD,if_pos hs,Nat.add_zero];refine⟨by simp[h1],h2,fun y hy=>?_,fun i hi ha=>?_⟩
   ·obtain⟨c,hc,he⟩:=h3 y hy;exact⟨c,by simp[hc],he⟩
   ·cases i with
    | zero=>exact .inl ⟨hs,rfl⟩
    | succ i=>exact h4 i (by simpa using hi) (by simpa using ha)
  ·rw[if_neg hs]at h;cases fr with
   | nil=>simp at h
   | cons f fr =>
    obtain⟨h1,h2,h3,h4⟩:=iR r fr (by simp at h;omega);have e:qd (f::fr) ((k,s)::r)=(f::(qd fr r).1,(f,s)::(qd fr r).2):=by
     simp[qd,hs]
    rw[e,wD,if_neg hs];refine⟨by simp[h1],by simp[h2],fun y hy=>?_,fun i hi ha=>?_⟩
    ·rcases List.mem_cons.1 hy with rfl|hy
     ·exact⟨(k,s),by simp,rfl⟩
     ·obtain⟨c,hc,he⟩:=h3 y hy;exact⟨c,by simp[hc],he⟩
    ·cases i with
     | zero=>exact .inr ⟨hs,by simp⟩
     | succ i =>
      rcases h4 i (by simpa using hi) (by simpa using ha)with h5|h5
      ·exact .inl h5
      ·exact .inr ⟨h5.1,by simp;exact .inr h5.2⟩
theorem aU:∀(x:List (Int × Bt)) (fr:List Int),∀a∈(qd fr x).1,a=0∨a∈fr
 | [],fr,a,h=>by simp[qd]at h
 | (k,s)::r,fr,a,h=>by
  by_cases hs:s=zb
  ·have e:qd fr ((k,s)::r)=(0::(qd fr r).1,(qd fr r).2):=by
      cases fr <;> simp[qd,hs]
   rw[e]at h;rcases List.mem_cons.1 h with h|h
   ·exact .inl h
   ·exact aU r fr a h
  ·cases fr with
   | nil =>
    have e:qd [] ((k,s)::r)=(0::(qd [] r).1,(qd [] r).2):=by simp[qd]
    rw[e]at h;rcases List.mem_cons.1 h with h|h
    ·exact .inl h
    ·exact aU r [] a h
   | cons f fr =>
    have e:qd (f::fr) ((k,s)::r)=(f::(qd fr r).1,(f,s)::(qd fr r).2):=by simp[qd,hs]
    rw[e]at h;rcases List.mem_cons.1 h with h|h
    ·exact .inr (by simp[h])
    ·rcases aU r fr a h with h|h
     ·exact .inl h
     ·exact .inr (by simp[h])
theorem vr:∀(x:List (Int × Bt)) (fr:List Int),fr.Nodup→∀i j,i<j→j<(qd fr x).1.length→pl (qd fr x).1 i=pl (qd fr x).1 j→pl (qd fr x).1 i=0
 | [],fr,_,i,j,_,hj,_=>by simp[qd]at hj
 | (k,s)::r,fr,hn,i,j,hij,hj,he=>by
  have zero:∀(A:List Int) (hA:∀i j,i<j→j<A.length→pl A i=pl A j→pl A i=0),j<(0::A).length→pl (0::A) i=pl (0::A) j→pl (0::A) i=0:=by
   intro A hA hj he;cases i with
   | zero=>rfl
   | succ i =>
    cases j with
    | zero=>omega
    | succ j=>exact hA i j (by omega) (by simpa using hj) (by simpa[pl]using he)
  by_cases hs:s=zb
  ·have e:qd fr ((k,s)::r)=(0::(qd fr r).1,(qd fr r).2):=by
      cases fr <;> simp[qd,hs]
   rw[e]at hj he ⊢;exact zero _ (vr r fr hn) hj he
  ·cases fr with
   | nil =>
    have e:qd [] ((k,s)::r)=(0::(qd [] r).1,(qd [] r).2):=by simp[qd]
    rw[e]at hj he ⊢;exact zero _ (vr r [] hn) hj he
   | cons f fr =>
    have e:qd (f::fr) ((k,s)::r)=(f::(qd fr r).1,(f,s)::(qd fr r).2):=by simp[qd,hs]
    rw[e]at hj he ⊢;rw[List.nodup_cons]at hn;cases j with
    | zero=>omega
    | succ j =>
     have hj':j<(qd fr r).1.length:=by simpa using hj
     cases i with
     | zero =>
      have hm:=aU r fr (qd fr r).1[j] (List.getElem_mem hj');have he':f=(qd fr r).1[j]:=by
       have:=he;unfold pl at this;simpa[List.getD,hj']using this
      rcases hm with h|h
      ·show f=0;rw[he',h]
      ·exact absurd (he' ▸ h) hn.1
     | succ i=>exact vr r fr hn.2 i j (by omega) hj' (by simpa[pl]using he)
theorem qbj(x:List (Int × Bt)):full x≤x.length:=List.length_filter_le _ _
def qaa (b N:Nat)(m:Mt)(x:List (Int × Bt)):Prop:=N<193+b*(m.qc.length+2)+x.length
theorem qaa.far(h:jI b N m){x:List (Int × Bt)}(hf:qaa b N m x)(hx:x.length≤8):N<377:=by
 have:=oP h;unfold qaa at hf;omega
structure oQ(N:Nat)(m:Mt)(x:List (Int × Bt))(at_:List Int)(ws:List Wr):Prop where
 len:at_.length=x.length
 wok:tZ N m ws
 each:∀i (hi:i<x.length) (ha:i<at_.length),(x[i].2=zb∧at_[i]=0)∨(x[i].2≠zb∧(at_[i],x[i].2)∈ws)
 fresh:∀i j,i<j→j<at_.length→pl at_ i=pl at_ j→pl at_ i=0
theorem kL (h:jI b N m)(hN:N≤1024)(x:List (Int × Bt))(hx:x.length≤8)(h32:∀c∈x,c.2.length=32) :
    ((qP N m x).2=7∧qaa b N m x)∨((qP N m x).2=0∧oQ N m x (qP N m x).1.1 (qP N m x).1.2):=by
 obtain⟨cs,h1,h2,h3,h4⟩:=cH h hN;have hf:=qbj x;have hst:jn cs (full x:Int)=if (yr cs:Int)<(full x:Int)then([],7)else((qV cs cs.length).take (full x),0):=by
  unfold jn;rw[if_neg (by omega),Int.toNat_natCast]
 unfold qP;rw[h1];dsimp only;rw[hst];by_cases hfull:(yr cs:Int)<(full x:Int)
 ·rw[if_pos hfull]
  left
  exact⟨by simp,by unfold qaa;omega⟩
 ·rw[if_neg hfull]
  right
  simp only[if_true];refine⟨trivial,?_⟩;have hlen:full x≤((qV cs cs.length).take (full x)).length:=by
   rw[List.length_take];unfold yr at hfull;omega
  obtain⟨p1,p2,p3,p4⟩:=iR x _ hlen;have hmem:∀y∈(qd ((qV cs cs.length).take (full x)) x).2,y.1∈qV cs cs.length:=fun y hy=>by
   have:y.1∈(qd ((qV cs cs.length).take (full x)) x).2.map (·.1):=List.mem_map_of_mem hy;rw[p2]at this;exact List.mem_of_mem_take (List.mem_of_mem_take this)
  have hnd:((qd ((qV cs cs.length).take (full x)) x).2.map (·.1)).Nodup:=by
   rw[p2];have hr:=oJ cs cs.length;have:(qV cs cs.length).Nodup:=hr.imp (fun h=>by omega);exact(this.sublist (List.take_sublist _ _)).sublist (List.take_sublist _ _)
  have zaR:(qd ((qV cs cs.length).take (full x)) x).2.length=full x:=by
   have:=congrArg List.length p2;rw[List.length_map,List.length_take,List.length_take]at this;unfold yr at hfull;omega
  have q41:tZ N m (qd ((qV cs cs.length).take (full x)) x).2:=by
   refine⟨by omega,hnd,fun y hy=>?_,fun y hy hh=>?_,fun y hy=>?_⟩
   ·obtain⟨j,e,g1,g2,_⟩:=iP.1 (hmem y hy);omega
   ·obtain⟨j,e,g1,g2,g3⟩:=iP.1 (hmem y hy);have:=h3 y.1 hh (by omega);rw[e,Int.toNat_natCast]at this;omega
   ·obtain⟨c,hc,e⟩:=p3 y hy;rw[e];exact h32 c hc
  have hfn:((qV cs cs.length).take (full x)).Nodup:=by
   have hr:=oJ cs cs.length;have:(qV cs cs.length).Nodup:=hr.imp (fun h=>by omega);exact this.sublist (List.take_sublist _ _)
  exact⟨p1,q41,p4,vr x _ hfn⟩
end
end Go.Proofs.YtdpbdkacngaemaaGreatDoor.vt
namespace Go.Proofs.YtdpbdkacngaemaaGreatDoor.im
open _root_.Go.Proofs.Tryz Go Go.RowKit
theorem qnv{l:List Int}{j:Nat}(hj:j<l.length)(s:Int)(i:Nat):pl (l.set j s) i=if i=j then s else pl l i:=by
 unfold pl;rw[List.getD_eq_getElem?_getD,List.getD_eq_getElem?_getD,List.getElem?_set];by_cases e:j=i
 ·subst e;rw[if_pos rfl,if_pos hj,if_pos rfl];rfl
 ·rw[if_neg e,if_neg (fun h=>e h.symm)]
end Go.Proofs.YtdpbdkacngaemaaGreatDoor.im
namespace Go.Proofs.YtdpbdkacngaemaaGreatDoor.vt
open _root_.Go.Proofs.Tryz Go Go.RowKit jr mt im sp
def xX:List Bt→List (Int × Bt)→List Bt
 | l,[]=>l
 | l,(k,s)::r=>xX (l.set k.toNat s) r
theorem qfT(t:Tg)(l:List Int)(k:Nat)(a:Int):volume t (l.set k a)=(volume t l).set k (eL t a):=by
 unfold volume;rw[List.map_set]
theorem qfU(t:Tg)(l:List Int):(volume t l).length=l.length:=by simp[volume]
theorem gj (l a:List Int):x9 l [] a=l:=by simp[x9]
theorem cI (l:List Int)(y:Int × Bt)(r:List (Int × Bt)):x9 l (y::r) []=l:=by simp[x9]
theorem vu (l:List Int)(k:Int)(s:Bt)(r:List (Int × Bt))(a:Int)(at_:List Int):x9 l ((k,s)::r) (a::at_)=x9 (l.set k.toNat a) r at_:=by simp[x9]
theorem oT (t:Tg):∀(x:List (Int × Bt)) (at_:List Int) (l:List Int),at_.length=x.length→(∀i (hi:i<x.length) (ha:i<at_.length),eL t at_[i]=x[i].2)→volume t (x9 l x at_)=xX (volume t l) x
 | [],_,_,_,_=>by rw[gj];rfl
 | (k,s)::r,[],l,h,_=>by simp at h
 | (k,s)::r,a::at_,l,h,hv=>by
  have h0:=hv 0 (by simp) (by simp);have ih:=oT t r at_ (l.set k.toNat a) (by simpa using h) (fun i hi ha=>hv (i+1) (by simpa using hi) (by simpa using ha));show volume t (x9 l ((k,s)::r) (a::at_))=xX ((volume t l).set k.toNat s) r;rw[vu,ih,qfT]
  congr 2
theorem oU:∀(x:List (Int × Bt)) (at_:List Int) (l:List Int),(x9 l x at_).length=l.length
 | [],_,_=>by rw[gj]
 | (_,_)::_,[],_=>by rw[cI]
 | (k,s)::r,a::at_,l=>by
  rw[vu,oU r at_,List.length_set]
theorem qnw{l:List Int}{i:Nat}(h:i<l.length):pl l i∈l:=by rw[eu h];exact List.getElem_mem h
theorem jO.qg{b N:Nat}{l:List Int}(h:jO b N l)(k:Nat)(a:Int)(ha:a=0∨(193≤a∧a<(N:Int)∧a ∉ l)):jO b N (l.set k a):=by
 refine⟨by rw[List.length_set];exact h.1,fun z hz=>?_,fun i j hij hj e=>?_⟩
 ·rcases List.mem_or_eq_of_mem_set hz with hz|rfl
  ·exact h.2.1 z hz
  ·rcases ha with h|h
   ·exact .inl h
   ·exact .inr ⟨h.1,h.2.1⟩
 ·rw[List.length_set]at hj;by_cases hk:k<l.length
  ·rw[qnv hk]at e ⊢;rw[qnv hk]at e;by_cases h1:i=k
   ·rw[if_pos h1]at e ⊢;rw[if_neg (by omega)]at e;rcases ha with h|h
    ·exact h
    ·exact absurd (e ▸ qnw hj) h.2.2
   ·rw[if_neg h1]at e ⊢;by_cases h2:j=k
    ·rw[if_pos h2]at e;rcases ha with h|h
     ·rw[e,h]
     ·exact absurd (e ▸ qnw (by omega)) h.2.2
    ·rw[if_neg h2]at e;exact h.2.2 i j hij hj e
  ·rw[List.set_eq_of_length_le (by omega)]at e ⊢;exact h.2.2 i j hij hj e
theorem qab{b N:Nat}:∀(x:List (Int × Bt)) (at_:List Int) (l:List Int),jO b N l→(∀a∈at_,a=0∨(193≤a∧a<(N:Int)∧a ∉ l))→(∀i j,i<j→j<at_.length→pl at_ i=pl at_ j→pl at_ i=0)→jO b N (x9 l x at_)
 | [],_,_,h,_,_=>by rw[gj];exact h
 | (_,_)::_,[],_,h,_,_=>by rw[cI];exact h
 | (k,s)::r,a::at_,l,h,ha,hf=>by
  rw[vu];refine qab r at_ (l.set k.toNat a) (h.qg k.toNat a (ha a (by simp))) (fun a' ha'=>?_) (fun i j hij hj e=>?_)
  ·rcases ha a' (by simp[ha'])with h0|h0
   ·exact .inl h0
   ·by_cases e:a'=a
    ·left
     obtain⟨j,hj,e2⟩:=List.getElem_of_mem ha';have:=hf 0 (j+1) (by omega) (by simpa using hj) (by
      show a=pl (a::at_) (j+1);rw[eu (by simpa using hj)];simp[e2,e])
     rw[e];exact this
    ·refine .inr ⟨h0.1,h0.2.1,fun hm=>?_⟩;rcases List.mem_or_eq_of_mem_set hm with hm|hm
     ·exact h0.2.2 hm
     ·exact e hm
  ·exact hf (i+1) (j+1) (by omega) (by simpa using hj) e
theorem oV {b:Nat}:∀(x:List (Int × Bt)) (p:Int) (l:List Bt),l.length=b→ch.cD l p x=if xw b p x=true then some (xX l x)else none
 | [],p,l,_=>rfl
 | (k,s)::r,p,l,h=>by
  have ih:=oV (b:=b) r k (l.set k.toNat s) (by rw[List.length_set];exact h);unfold ch.cD xw;by_cases hb:k≤p∨(l.length:Int)≤k∨s.length≠32
  ·rw[if_pos hb,if_neg];simp only[Bool.and_eq_true,decide_eq_true_eq,not_and];intro h1 h2;omega
  ·rw[if_neg hb,ih];have e:(decide (p<k)&&decide (k<(b:Int))&&decide (s.length=32)&&xw b k r)=xw b k r:=by
    have h1:p<k:=by omega
    have h2:k<(b:Int):=by omega
    have h3:s.length=32:=by omega
    simp[h1,h2,h3]
   rw[e];rfl
theorem wE {b:Nat}:∀ {x:List (Int × Bt)} {p:Int},xw b p x=true→∀c∈x,c.2.length=32∧p<c.1∧c.1<(b:Int)
 | (k,s)::r,p,h,c,hc=>by
  unfold xw at h;simp only[Bool.and_eq_true,decide_eq_true_eq]at h;obtain⟨⟨⟨h1,h2⟩,h3⟩,h4⟩:=h;rcases List.mem_cons.1 hc with rfl|hc
  ·exact⟨h3,h1,h2⟩
  ·have:=wE h4 c hc;exact⟨this.1,by omega,this.2.2⟩
theorem iT {b:Nat}:∀ {x:List (Int × Bt)} {p:Int},xw b p x=true → -1≤p→p<(b:Int)→(x.length:Int)≤(b:Int)-1-p
 | [],p,_,_,h=>by simp;omega
 | (k,s)::r,p,h,h0,hb=>by
  unfold xw at h;simp only[Bool.and_eq_true,decide_eq_true_eq]at h;obtain⟨⟨⟨h1,h2⟩,h3⟩,h4⟩:=h;have:=iT h4 (by omega) h2;rw[List.length_cons];omega
section
variable {b N:Nat} {t:Tg} {m:Mt}
theorem fz (t:Tg)(m:Mt):(uh t m).last=qE m:=by
 unfold uh ch.CH.last qE;dsimp only;rw[List.getLast?_map];cases m.qc.getLast? <;> rfl
theorem qnx(t:Tg)(m:Mt):(uh t m).base=volume t (uN m):=by
 unfold uh ch.CH.base uN;dsimp only;rw[List.getLast?_map];cases m.qc.getLast? with
 | none =>
  show ch.uM (volume t m.live).length=_;rw[qfU];unfold ch.uM volume;rw[List.map_replicate];rfl
 | some s=>rfl
theorem qdh(h:jI b N m):jO b N (uN m):=by
 unfold uN;split
 ·have hl:=h.len;refine⟨by rw[List.length_replicate];exact hl,fun z hz=>.inl (List.eq_of_mem_replicate hz),fun i j hij hj _=>?_⟩;rw[List.length_replicate]at hj;rw[eu (by rw[List.length_replicate];omega),List.getElem_replicate]
 ·rename_i s hs;exact h.dC s (List.mem_of_getLast? hs)
theorem qfV(z:Int)(hz:z∈uN m):z=0∨held m z:=by
 unfold uN at hz;split at hz
 ·exact .inl (List.eq_of_mem_replicate hz)
 ·rename_i s hs;exact .inr ⟨s.qp,qhN (List.mem_of_getLast? hs),hz⟩
theorem qz8(h:jI b N m):xB (qE m):=by
 unfold qE;split
 ·exact bU
 ·rename_i s hs;exact h.tx.qc s (List.mem_of_getLast? hs)
theorem oW {g:Gd}:∀(l:List Gd) (p:Gd),uO p l→mt.above g (l.getLast?.getD p)=true→uO p (l++[g])
 | [],p,_,h=>⟨h,trivial⟩
 | x::l,p,h,hg=>by
  refine⟨h.1,oW l x h.2 ?_⟩;cases l with
  | nil=>exact hg
  | cons y l=>rw[List.getLast?_cons_cons]at hg;rw[List.getLast?_cons]at hg ⊢;exact hg
theorem oX:∀(l:List Gd) (p:Gd) (n:Nat),uO p l→uO p (l.take n)
 | [],p,n,_=>by simp[uO]
 | x::l,p,0,_=>trivial
 | x::l,p,n+1,h=>⟨h.1,oX l x n h.2⟩
theorem iU (m:Mt):(m.qc.map (·.g)).getLast?.getD (0,0)=qE m:=by
 unfold qE;rw[List.getLast?_map];cases m.qc.getLast? <;> rfl
theorem qny{m:Mt}(h:mB m)(sn:List Sp)(l:List Int)(hs:∀s∈sn,xB s.g):mB ⟨l,sn,yB⟩:=⟨hs,bU,bU⟩
theorem jI.push(h:jI b N m)(g:Gd)(hg:xB g)(l qp:List Int)(hl:jO b N l)(hi:jO b N qp)(ha:mt.above g (qE m)=true)(hf:m.qc.length<20):jI b N ⟨l,m.qc++[⟨g,qp,false⟩],yB⟩:=by
 refine⟨h.b1,h.b8,hl,?_,fun s hs=>?_,?_,.inl rfl,qny h.tx _ _ fun s hs=>?_⟩
 ·show(m.qc++[_]).length≤20;rw[List.length_append,List.length_singleton];omega
 ·rcases List.mem_append.1 hs with hs|hs
  ·exact h.dC s hs
  ·obtain rfl:s=_:=by simpa using hs
   exact hi
 ·show uO (0,0) ((m.qc++[(⟨g,qp,false⟩:Sp)]).map (fun s=>s.g));rw[List.map_append];exact oW _ _ h.qjx (by rw[iU];exact ha)
 ·rcases List.mem_append.1 hs with hs|hs
  ·exact h.tx.qc s hs
  ·obtain rfl:s=_:=by simpa using hs
   exact hg
theorem tZ.nil(N:Nat)(m:Mt):tZ N m []:=⟨by simp,by simp,fun x hx=>absurd hx (by simp),fun x hx=>absurd hx (by simp),fun x hx=>absurd hx (by simp)⟩
structure Does(b N:Nat)(t:Tg)(m:Mt)(P:qfN)(c:ch.CH):Prop where
 ok:jI b N P.m
 ws:tZ N m P.ws
 uh:uh (over t (qL t P.m P.ws)) P.m=c
theorem qfW{m':Mt}{x:List (Int × Bt)}{at_:List Int}{ws:List Wr}(h:yb b N t m)(ho:jI b N m')(hp:oQ N m x at_ ws):∀i (hi:i<x.length) (ha:i<at_.length),eL (over t (qL t m' ws)) at_[i]=x[i].2:=by
 intro i hi ha;unfold eL;rcases hp.each i hi ha with⟨h1,h2⟩|⟨h1,h2⟩
 ·rw[if_pos h2,h1]
 ·have hr:=hp.wok.range _ h2;dsimp only at hr;rw[if_neg (by omega)];exact qfQ h ho hp.wok _ h2
theorem qjz{l:List Int}{x:List (Int × Bt)}{at_:List Int}{ws:List Wr}(hp:oQ N m x at_ ws)(hl:jO b N l)(hh:∀z∈l,z=0∨held m z):jO b N (x9 l x at_):=by
 refine qab x at_ l hl (fun a ha=>?_) hp.fresh;obtain⟨i,hi,rfl⟩:=List.getElem_of_mem ha;rcases hp.each i (by rw[← hp.len];exact hi) hi with⟨_,h2⟩|⟨_,h2⟩
 ·exact .inl h2
 ·have hr:=hp.wok.range _ h2;refine .inr ⟨hr.1,hr.2,fun hm=>?_⟩;rcases hh _ hm with h0|h0
  ·have hr1:=hr.1;dsimp only at hr1;omega
  ·exact hp.wok.free _ h2 h0
end
end Go.Proofs.YtdpbdkacngaemaaGreatDoor.vt
namespace Go.Proofs.YtdpbdkacngaemaaGreatDoor.vt
open _root_.Go.Proofs.Tryz Go Go.RowKit jr mt im sp
section
variable {b N:Nat} {t:Tg} {m:Mt}
theorem oY {m':Mt}{ws:List Wr}(h:yb b N t m)(ho:jI b N m')(hw:tZ N m ws):m.qc.map (qbi (over t (qL t m' ws)))=m.qc.map (qbi t):=by
 have:=qnt h ho hw;unfold uh at this;exact(ch.CH.mk.inj this).2
theorem qj0{m':Mt}{ws:List Wr}(h:yb b N t m)(ho:jI b N m')(hw:tZ N m ws):volume (over t (qL t m' ws)) m.live=volume t m.live:=oO h ho hw (qhM m) h.ok.live
theorem jI.take(h:jI b N m)(n:Nat)(l:List Int)(hl:jO b N l):jI b N ⟨l,m.qc.take n,yB⟩:=by
 refine⟨h.b1,h.b8,hl,?_,fun s hs=>h.dC s (List.mem_of_mem_take hs),?_,.inl rfl,qny h.tx _ _ fun s hs=>h.tx.qc s (List.mem_of_mem_take hs)⟩
 ·show(m.qc.take n).length≤20;have:=h.few;rw[List.length_take];omega
 ·show uO (0,0) ((m.qc.take n).map (·.g));rw[List.map_take];exact oX _ _ n h.qjx
theorem qnz(t:Tg)(m:Mt)(g:Gd):(uh t m).find g=tY m g:=by
 unfold ch.CH.find tY uh;dsimp only;rw[List.findIdx?_map];rfl
theorem qac{l:List Sp}{i:Nat}{s:Sp}(h:s∈gO l i):∃r∈l,s.g=r.g∧s.qp=r.qp:=by
 unfold gO at h;obtain⟨j,hj,e⟩:=List.getElem_of_mem h;rw[List.length_modify]at hj;rw[List.getElem_modify]at e;refine⟨l[j],List.getElem_mem hj,?_⟩;rw[← e];split <;> exact⟨rfl,rfl⟩
theorem qhO(l:List Sp)(i:Nat):(gO l i).map (·.g)=l.map (·.g):=by
 apply List.ext_getElem
 ·simp[gO]
 ·intro j h1 h2;simp only[gO,List.getElem_map,List.getElem_modify];split <;> rfl
theorem qbk(m:Mt)(i:Nat):qE { m with qc:=gO m.qc i }=qE m:=by
 rw[← iU,← iU];dsimp only;rw[qhO]
theorem jI.qno(h:jI b N m)(i:Nat):jI b N { m with qc:=gO m.qc i }:=by
 refine⟨h.b1,h.b8,h.live,?_,fun s hs=>?_,?_,?_,⟨fun s hs=>?_,h.tx.base,h.tx.target⟩⟩
 ·show(gO m.qc i).length≤20;unfold gO;rw[List.length_modify];exact h.few
 ·obtain⟨r,hr,_,e⟩:=qac hs;rw[e];exact h.dC r hr
 ·show uO (0,0) ((gO m.qc i).map (·.g));rw[qhO];exact h.qjx
 ·rw[qbk];exact h.tok
 ·obtain⟨r,hr,e,_⟩:=qac hs;rw[e];exact h.tx.qc r hr
end
end Go.Proofs.YtdpbdkacngaemaaGreatDoor.vt
namespace Go.Proofs.YtdpbdkacngaemaaGreatDoor.vt
open _root_.Go.Proofs.Tryz Go Go.RowKit jr mt im sp
section
variable {b N:Nat} {t:Tg} {m:Mt}
def zL (m:Mt)(f:Tf):List Int:=if m.tok.base=f.base∧m.tok.target=f.target∧m.tok.all=f.all then m.tok.qp else uN m
structure qvu(b N:Nat)(t:Tg)(m:Mt)(f:Tf)(x:List (Int × Bt))(P:qfN):Prop where
 whole:f.next=f.all→Does b N t m P ⟨xX (volume t (zL m f)) x,(uh t m).qc++[⟨f.target,xX (volume t (zL m f)) x,false⟩]⟩∧P.m.tok=yB
 part:f.next≠f.all→Does b N t m P (uh t m)∧tf P.m.tok=f∧volume (over t (qL t P.m P.ws)) P.m.tok.qp=xX (volume t (zL m f)) x
theorem oZ {n:Nat}{last:Gd}{f:Tf}{x:List (Int × Bt)}(h:zK b n last f x=0) :
    f.base=last∧mt.above f.target last=true∧0≤f.next∧f.next≤f.all∧f.all≤(b:Int)∧(f.next=0↔f.all=0)∧xw b (-1) x=true∧(f.next=f.all→n<20):=by
 unfold zK at h;split at h
 ·cases h
 ·rename_i h1;split at h
  ·cases h
  ·rename_i h2;split at h
   ·cases h
   ·rename_i h3;have h2':xw b (-1) x=true:=by simpa using h2
    refine⟨Classical.byContradiction fun e=>h1 (.inl e),?_,by omega,by omega,by omega,Classical.byContradiction fun e=>h1 (by simp[e]),h2',fun e=>by omega⟩;cases ha:mt.above f.target last with
    | true=>rfl
    | false=>exact absurd (.inr (.inl ha)) h1
theorem cJ (h:yb b N t m)(f:Tf)(hg:xB f.target)(x:List (Int × Bt)) :
    ((xr N m f x).code=7∧qaa b N m x∧zK m.live.length m.qc.length (qE m) f x=0)∨((xr N m f x).code=zK m.live.length m.qc.length (qE m) f x∧((xr N m f x).code=0→qvu b N t m f x (xr N m f x))):=by
 have hlen:=h.ok.len;by_cases he:zK m.live.length m.qc.length (qE m) f x=0
 ·obtain⟨e1,e2,e3,e4,e5,e6,e7,e8⟩:=oZ he;rw[hlen]at e5 e7;have hb1:=h.ok.b1;have hb8:=h.ok.b8;have cZ:x.length≤8:=by
   have:=iT e7 (by omega) (by omega);omega
  rcases kL h.ok h.N1 x cZ (fun c hc=>(wE e7 c hc).1)with⟨h7,hN⟩|⟨h0,hp⟩
  ·left
   unfold xr;rw[if_neg (by rw[he];simp),if_pos (by rw[h7];decide),h7];exact⟨rfl,hN,he⟩
  ·right
   rw[he];have p7:jO b N (zL m f)∧∀z∈zL m f,z=0∨held m z:=by
    unfold zL;split
    ·rename_i hm;rcases h.ok.tok with ht|ht
     ·exfalso;rw[ht]at hm;have:f.target=(0,0):=hm.2.1.symm;rw[this]at e2;unfold mt.above at e2;simp at e2
     ·exact⟨ht.2.2.2.2.2,fun z hz=>.inr ⟨_,qvs m,hz⟩⟩
    ·exact⟨qdh h.ok,fun z hz=>qfV z hz⟩
   have hsv:∀ {m':Mt} (ho:jI b N m'),volume (over t (qL t m' (qP N m x).1.2)) (zL m f)=volume t (zL m f):=fun {m'} ho=>by
    unfold volume;apply List.map_congr_left;intro z hz;unfold eL;split
    ·rfl
    ·rename_i hz0;rcases p7.2 z hz with h1|h1
     ·exact absurd h1 hz0
     ·rcases p7.1.2.1 z hz with h2|h2
      ·exact absurd h2 hz0
      ·exact lY h ho hp.wok z h1 h2.1
   have qj1:jO b N (x9 (zL m f) x (qP N m x).1.1):=qjz hp p7.1 p7.2;have hiv:∀ {m':Mt} (ho:jI b N m'),volume (over t (qL t m' (qP N m x).1.2)) (x9 (zL m f) x (qP N m x).1.1)=xX (volume t (zL m f)) x:=fun {m'} ho=>by
    rw[oT _ x _ _ hp.len (qfW h ho hp),hsv ho]
   unfold xr;rw[if_neg (by rw[he];simp),if_neg (by rw[h0];simp)];have q42:(if m.tok.base=f.base∧m.tok.target=f.target∧m.tok.all=f.all then m.tok.qp else uN m)=zL m f:=rfl;rw[q42];dsimp only;generalize x9 (zL m f) x (qP N m x).1.1=qp at *;generalize (qP N m x).1.2=ws at *;have sJ:=hp.wok;by_cases hn:f.next=f.all
   ·rw[if_pos hn];refine⟨rfl,fun _=>⟨fun _=>?_,fun h=>absurd hn h⟩⟩;have hok:jI b N ⟨qp,m.qc++[⟨f.target,qp,false⟩],yB⟩:=h.ok.push f.target hg qp qp qj1 qj1 e2 (e8 hn);have h2:=oY h hok sJ;have h3:=hiv hok;refine⟨⟨hok,sJ,?_⟩,rfl⟩;dsimp only;generalize over t (qL t ⟨qp,m.qc++[⟨f.target,qp,false⟩],yB⟩ ws)=t' at *;unfold uh;dsimp only;rw[h3,List.map_append,h2];simp only[List.map_cons,List.map_nil,qbi,h3]
   ·rw[if_neg hn];refine⟨rfl,fun _=>⟨fun h=>absurd h hn,fun _=>?_⟩⟩;have hok:jI b N { m with tok:=⟨f.base,f.target,f.next,f.all,qp⟩ }:=by
     have ho:=h.ok;refine⟨ho.b1,ho.b8,ho.live,ho.few,ho.dC,ho.qjx,.inr ⟨e1,?_,?_,?_,e5,qj1⟩,⟨ho.tx.qc,?_,hg⟩⟩
     ·show mt.above f.target f.base=true;rw[e1];exact e2
     ·show 1≤f.next;have:f.next≠0:=fun hz=>hn (by rw[hz,e6.1 hz]);omega
     ·show f.next<f.all;omega
     ·show xB f.base;rw[e1];exact qz8 ho
    refine⟨⟨hok,sJ,?_⟩,rfl,hiv hok⟩;have h1:=qj0 h hok sJ;have h2:=oY h hok sJ;dsimp only;generalize over t (qL t { m with tok:=⟨f.base,f.target,f.next,f.all,qp⟩ } ws)=t' at *;unfold uh;dsimp only;rw[h1,h2]
 ·right
  unfold xr;rw[if_pos he];exact⟨rfl,fun h=>absurd h he⟩
theorem qdi(u v:Bt)(hu:u.length≤8192)(k:Nat)(hk:k<(qK u).length):¬ vN ((qK u).take k) v:=by
 rintro⟨hv,e⟩;have hl:=congrArg List.length e;rw[List.length_take,Nat.min_eq_left (by omega),yf v]at hl;have zt:1≤k:=by rw[hl];exact fg _
 have h1:=congrArg List.flatten e;rw[yU]at h1;have h2:(qK u).flatten=((qK u).take k).flatten++((qK u).drop k).flatten:=by rw[← List.flatten_append,List.take_append_drop]
 rw[yU,h1]at h2;have h3:=ug u;have h4:=ug v;have h5:=jm v;have h6:(yK u).take 2=(yK v).take 2:=by
  rw[h2,List.take_append_of_le_length (by have:=fg v.length;omega)]
 rw[h3,h4]at h6;have:=qcZ _ _ (by omega) (by omega) h6;rw[yf u,this]at hk;omega
end
end Go.Proofs.YtdpbdkacngaemaaGreatDoor.vt
namespace Go.Proofs.YtdpbdkacngaemaaGreatDoor.ch
open _root_.Go.Proofs.Tryz Go Go.RowKit ib
def xB (g:Gd):Prop:=g.1<18446744073709551616∧g.2<18446744073709551616
def gv (g:Gd):Value:=.agg #[.int .u64 (g.1:Int),.int .u64 (g.2:Int)]
def kR (w:World)(A:Option Addr)(x:List (Int × Bt)):Prop :=
 ∀i (h:i<x.length),∃b o,A=some ⟨b,o,none⟩∧b<w.heap.size∧w.cell? ⟨b,o+i*2,none⟩=some (.int .i64 x[i].1)∧w.cell? ⟨b,o+i*2+1,none⟩=some (.string (str x[i].2))∧kA x[i].1
theorem kR.below{w w':World}{A:Option Addr}{x:List (Int × Bt)}(h:kR w A x)(hb:Below w.heap.size w w'):kR w' A x:=by
 intro i hi;obtain⟨b,o,h1,h2,h3,h4,h5⟩:=h i hi;exact⟨b,o,h1,Nat.lt_of_lt_of_le h2 hb.size,by rw[hb.cell (p:=⟨b,o+i*2,none⟩) h2];exact h3,by rw[hb.cell (p:=⟨b,o+i*2+1,none⟩) h2];exact h4,h5⟩
theorem kR.nil(w:World)(A:Option Addr):kR w A []:=fun i h=>absurd h (by simp)
def q43 (r:List Bt)(w:World)(e:Ending)(w':World):Prop:=∃A cc,e=.returned (.slice A r.length cc)∧TxL w' A r∧wa w w' A∧Below w.heap.size w w'
def p8 (r:List Bt × Int)(w:World)(e:Ending)(w':World):Prop:=∃A cc,e=.returned (.tuple #[.slice A r.1.length cc,.int .i64 r.2])∧TxL w' A r.1∧wa w w' A∧Below w.heap.size w w'
def GdL (w:World)(A:Option Addr)(x:List Gd):Prop :=
 ∀i (h:i<x.length),∃b o,A=some ⟨b,o,none⟩∧b<w.heap.size∧w.cell? ⟨b,o+i*2,none⟩=some (.int .u64 (x[i].1:Int))∧w.cell? ⟨b,o+i*2+1,none⟩=some (.int .u64 (x[i].2:Int))∧xB x[i]
theorem GdL.below{w w':World}{A:Option Addr}{x:List Gd}(h:GdL w A x)(hb:Below w.heap.size w w'):GdL w' A x:=by
 intro i hi;obtain⟨b,o,h1,h2,h3,h4,h5⟩:=h i hi;exact⟨b,o,h1,Nat.lt_of_lt_of_le h2 hb.size,by rw[hb.cell (p:=⟨b,o+i*2,none⟩) h2];exact h3,by rw[hb.cell (p:=⟨b,o+i*2+1,none⟩) h2];exact h4,h5⟩
def p9 (r:List Gd)(w:World)(e:Ending)(w':World):Prop:=∃A cc,e=.returned (.slice A r.length cc)∧GdL w' A r∧wa w w' A∧Below w.heap.size w w'
def rX:=(Nat→Prop)→World→Nat→CH→Prop
def Aft (Is:rX)(own:Nat→Prop)(p:Nat)(r:CH × Int)(w:World)(e:Ending)(w':World):Prop :=
 e=.returned (.int .i64 r.2)∧∃yI,Is yI w' p r.1∧qz own w w'∧∀j,yI j→own j∨w.heap.size≤j
structure Ops(Is:rX):Prop where
 low:∀ {own w p d},Is own w p d→∀j,own j→j<w.heap.size
 ok:∀ {own w p d},Is own w p d→d.ok
 keep:∀ {own w w' p d},Is own w p d→(∀j,own j→w'.heap[j]?=w.heap[j]?)→w.heap.size≤w'.heap.size→Is own w' p d
 write:∀ {own w p d} (k:Int) (s:Bt),Is own w p d→kA k→Calls prog 164 #[.pointer (some ⟨p,0,none⟩),.int .i64 k,.string (str s)] w (Aft Is own p (d.write k s) w)
 snap:∀ {own w p d} (g:Gd),Is own w p d→xB g→Calls prog 93 #[.pointer (some ⟨p,0,none⟩),gv g] w (Aft Is own p (d.snap g) w)
 list:∀ {own w p d},Is own w p d→Calls prog 38 #[.pointer (some ⟨p,0,none⟩)] w (p9 d.list w)
 read:∀ {own w p d} (g:Gd),Is own w p d→xB g→Calls prog 95 #[.pointer (some ⟨p,0,none⟩),gv g] w (p8 (d.read g) w)
structure Impl(Is:rX):Prop extends Ops Is where
 wk:∀(n:Nat) (w:World),1≤n→n≤8→Calls prog 91 #[.int .i64 (n:Int)] w fun e w'=>∃p own,e=.returned (.pointer (some ⟨p,0,none⟩))∧Is own w' p (bJ n)∧Below w.heap.size w w'∧∀j,own j→w.heap.size≤j
def Ch (Is:rX)(w:World)(B p:Nat)(d:CH):Prop:=∃own,Is own w p d∧∀j,own j→B≤j
section
variable {Is:rX} (H:Impl Is) {w w':World} {B p:Nat} {d:CH}
include H
theorem Ch.below(h:Ch Is w B p d)(hb:Below w.heap.size w w'):Ch Is w' B p d:=by
 obtain⟨own,h1,h2⟩:=h;exact⟨own,H.keep h1 (fun j hj=>hb.block j (H.low h1 j hj)) hb.size,h2⟩
def ChU (Is:rX)(w:World)(B E p:Nat)(d:CH):Prop:=∃own,Is own w p d∧∀j,own j→B≤j∧j<E
theorem ChU.below{E:Nat}(h:ChU Is w B E p d)(hb:Below w.heap.size w w'):ChU Is w' B E p d:=by
 obtain⟨own,h1,h2⟩:=h;exact⟨own,H.keep h1 (fun j hj=>hb.block j (H.low h1 j hj)) hb.size,h2⟩
omit H in
theorem ChU.ch{E:Nat}(h:ChU Is w B E p d):Ch Is w B p d:=by
 obtain⟨own,h1,h2⟩:=h;exact⟨own,h1,fun j hj=>(h2 j hj).1⟩
end
end Go.Proofs.YtdpbdkacngaemaaGreatDoor.ch
namespace Go.Proofs.YtdpbdkacngaemaaGreatDoor
open _root_.Go.Proofs.Tryz Go.RowKit
def xY (w:World):Prop:=0<w.heap.size∧∀i,i<16→w.cell? ⟨0,i,none⟩=some (.int .u32 ((eV.getD i 0:Nat):Int))
theorem xY.below{w w':World}{B:Nat}(h:xY w)(hb:Below B w w')(hB:0<B):xY w' :=
 ⟨Nat.lt_of_lt_of_le h.1 hb.size,fun i hi=>by rw[hb.cell (p:=⟨0,i,none⟩) hB];exact h.2 i hi⟩
def qn1 (b m:Nat)(w:World)(e:Ending)(w':World):Prop :=
 e=.returned (.tuple #[])∧Below b w w'∧w'.cell? ⟨b,0,none⟩=some (.int .u32 (m:Int))∧w'.frozen? ⟨b,0,none⟩=false
theorem qry(i:Nat)(h:i<16):eV.getD i 0<4294967296:=by
 have:∀i:Nat,i<16→eV.getD i 0<4294967296:=by decide
 exact this i h
theorem qfY(n f:Nat)(hf:f<256):bits .and .u8 (bits .xor .u8 ((n:Int)%256) (f:Int)) 15=(((n%256^^^f)%16:Nat):Int):=by
 have e:(n:Int)%256=((n%256:Nat):Int):=by omega
 have hx:n%256^^^f<256:=Nat.xor_lt_two_pow (n:=8) (by omega) (by omega);rw[e,u8_xor_nat _ _ (by omega) hf,show(15:Int)=((15:Nat):Int)from rfl,u8_and_nat _ _ hx (by omega),nat_mask4]
theorem qn2(n f:Nat)(hn:n<4294967296):bits .xor .u32 ((n:Int)/16) ((eV.getD ((n%256^^^f)%16) 0:Nat):Int)=((yq n f:Nat):Int):=by
 have e:(n:Int)/16=((n/16:Nat):Int):=by omega
 rw[e,u32_xor_nat _ _ (by omega) (qry _ (Nat.mod_lt _ (by omega)))];rfl
theorem qdj(b n f:Nat)(w:World)(hn:n<4294967296)(hf:f<256)(ht:xY w)
    (hc:w.cell? ⟨b,0,none⟩=some (.int .u32 (n:Int))) (hz:w.frozen? ⟨b,0,none⟩=false) :
    Calls prog 249 #[.int .u8 (f:Int),.pointer (some ⟨b,0,none⟩)] w (qn1 b (yq n f) w):=by
 have hi:=qfY n f hf;have hx:=qn2 n f hn;have hl:(n%256^^^f)%16<16:=Nat.mod_lt _ (by omega);have hg:=ht.2 _ hl;generalize yq n f=m at *;generalize (n%256^^^f)%16=i at *;generalize eV.getD i 0=t at *;have gZ:(i:Int)<16:=by omega
 have HT:=QH ht;clear ht;go_enter func249,ntmps249;go_wp2;go_region;all_goals
  go_end0
  exact⟨rfl,((Below.refl b w).setCell (p:=⟨b,0,none⟩) (Nat.le_refl b) _).drew,by go_simp,by go_simp⟩
theorem qrz(b n f:Nat)(w:World)(hn:n<4294967296)(hf:f<256)(ht:xY w)
    (hc:w.cell? ⟨b,0,none⟩=some (.int .u32 (n:Int))) (hz:w.frozen? ⟨b,0,none⟩=false) :
    Calls prog 249 #[.int .u8 ((f:Int)/16),.pointer (some ⟨b,0,none⟩)] w (qn1 b (yq n (f/16)) w):=by
 have h:=qdj b n (f/16) w hn (by omega) ht hc hz
 rwa [show((f/16:Nat):Int)=(f:Int)/16 from by omega]at h
def qr0 (s:ByteArray)(w:World)(i:Value)(wr:World):Prop :=
 ∃k:Nat,k≤s.size∧i=.int .i64 (k:Int)∧Below w.heap.size w wr∧w.heap.size<wr.heap.size∧wr.cell? ⟨w.heap.size,0,none⟩=some (.int .u32 (sG 4294967295 ((bl s).take k):Int))∧wr.frozen? ⟨w.heap.size,0,none⟩=false
theorem qfZ(s:ByteArray)(k:Nat)(h:k<s.size):(bl s).take (k+1)=(bl s).take k++[s[k]]:=by
 unfold bl;rw[List.take_succ_eq_append_getElem (by simpa using h)];rfl
def qvv (n:Nat)(w:World)(e:Ending)(w':World):Prop:=e=.returned (.int .u32 (n:Int))∧Below w.heap.size w w'
theorem qn3(s:ByteArray)(w:World)(hs:s.size≤9223372036854775807)(ht:xY w) :
    Calls prog 176 #[.string s] w (qvv (vM (bl s)) w):=by
 have HT:=QH ht;have hgw:=ht.1;clear ht;go_enter func176,ntmps176;go_wp2;have b0:Below w.heap.size w (w.alloc (.cells #[.int .u32 4294967295] 244)):=(Below.refl _ _).alloc (Nat.le_refl _) _;go_loopw [9] (fun i wr=>qr0 s w i wr) (fun i _=>s.size-(intOf i).toNat);case atStart=>exact⟨0,Nat.zero_le _,rfl,b0,by simp,by go_simp;rfl,by go_simp⟩
 case round =>
  obtain⟨k,hk,rfl,hB,hS,hC,hF⟩:=hrel;have hn:=qba ((bl s).take k) 4294967295 (by omega);by_cases hlt:k<s.size
  ·have hT1:=HT.out.below hB hgw;have hb:=s[k].toNat_lt;have hsn:=qfZ s k hlt;have hst:wx (sG 4294967295 ((bl s).take k)) s[k]=sG 4294967295 ((bl s).take (k+1)):=by rw[hsn,qjh]
   rw[← halves]at hst;have hn1:=qcU (sG 4294967295 ((bl s).take k)) s[k].toNat hn;have Hst:=QH hst;clear hsn hst;go_wp2_with (go_at_call 249;refine(qdj w.heap.size _ s[k].toNat _ hn (by omega) hT1 hC hF).mono ?_);rintro e W1 ⟨rfl,b1,c1,f1⟩;have hT2:=hT1.below b1 hgw;have hB1:=hB.trans b1;have hS1:=b1.size;clear hB b1 hC hF hT1;go_wp2_with (go_at_call 249;refine(qrz w.heap.size _ s[k].toNat _ hn1 (by omega) hT2 c1 f1).mono ?_);rintro e W2 ⟨rfl,b2,c2,f2⟩;have hB2:=hB1.trans b2;have hS2:=b2.size;rw[Hst.out]at c2;clear hB1 b2 c1 f1 hT2;go_wp2;go_roundw;case rel=>exact⟨k+1,by omega,by go_num,hB2,by omega,c2,f2⟩
   case measure=>simp[intOf];omega
  ·have dA:k=s.size:=by omega
   subst dA;rw[List.take_of_length_le (by rw[zj];omega)]at hC hn;have hx:bits .xor .u32 IntKind.u32.max (sG 4294967295 (bl s):Int)=(vM (bl s):Int):=by
    rw[show IntKind.u32.max=((4294967295:Nat):Int)from rfl,u32_xor_nat _ _ (by omega) hn,Nat.xor_comm];rfl
   go_wp2;go_ret;exact⟨rfl,hB⟩
end Go.Proofs.YtdpbdkacngaemaaGreatDoor
namespace Go.Proofs.YtdpbdkacngaemaaGreatDoor.vt
open _root_.Go.Proofs.Tryz Go Go.RowKit jr mt im sp
abbrev jw:=(Nat→Prop)→World→Nat→Nat→Mt→Bool→Prop
abbrev DD:=dk.DD
def gN:Nat:=0
theorem xG {w:World}(h:xY w):gN<w.heap.size:=h.1
theorem yN {w w':World}{B:Nat}(h:xY w)(hb:Below B w w')(hB:gN<B):xY w':=h.below hb hB
theorem wF {w w':World}(h:xY w)(hs:w.heap.size≤w'.heap.size)(hb:w'.heap[gN]?=w.heap[gN]?):xY w' :=
 ⟨Nat.lt_of_lt_of_le h.1 hs,fun i hi=>by rw[← h.2 i hi];exact World.cell?_of_block (w:=w) hb⟩
structure VP(Is:jw)(w:World)(o1 o2:Nat→Prop)(v pd:Nat)(d:DD)(m:Mt)(lost:Bool):Prop where
 is:Is o1 w v pd m lost
 dk:dk.zP 1000 w o2 pd d
 dj:∀j,o1 j∨j=gN→¬ o2 j
def qbl (Is:jw)(o1 o2:Nat→Prop)(v pd:Nat)(Q:Int→DD→Mt→Bool→Prop)(w:World)(e:Ending)(w':World):Prop :=
 ∃r d' m' lost sK iV,e=.returned (.int .i64 r)∧VP Is w' sK iV v pd d' m' lost∧ib.qz (fun j=>o1 j∨o2 j) w w'∧(∀j,sK j∨iV j→(o1 j∨o2 j)∨w.heap.size≤j)∧Q r d' m' lost
def qj3 (N:Nat)(t:Tg)(d:DD)(m:Mt)(P:qfN)(r:Int)(d':DD)(m':Mt)(lost:Bool):Prop :=
 (P.code≠0∧r=P.code∧d'=d∧m'=m∧lost=false) ∨
 (P.code=0∧r=0∧JJ N (over t (qL t P.m P.ws)) d'∧m'=P.m∧lost=false∧(d.qy=0→d'.qy=0)∧0≤d'.qy) ∨
 (P.code=0∧r=6∧qvr (fun e=>RJ N t e∨RJ N (over t (qL t P.m P.ws)) e) d'∧lost=true∧d.qy≠0∧d'.qy=0)
def tkV (f:Tf)(A:Option Addr)(n c:Nat):Value:=.agg #[.int .u64 (f.base.1:Int),.int .u64 (f.base.2:Int),.int .u64 (f.target.1:Int),.int .u64 (f.target.2:Int),.int .i64 f.next,.int .i64 f.all,.slice A n c]
structure TfB(f:Tf):Prop where
 base:xB f.base
 target:xB f.target
 next:ib.kA f.next
 all:ib.kA f.all
def qzC (w:World)(A:Option Addr)(l:List Int):Prop:=∀i (h:i<l.length),∃b o,A=some ⟨b,o,none⟩∧b<w.heap.size∧w.cell? ⟨b,o+i,none⟩=some (.int .i64 l[i])
def ew (t:Tk)(w:World)(e:Ending)(w':World):Prop:=∃A cc,e=.returned (tkV (tf t) A t.qp.length cc)∧qzC w' A t.qp∧ib.wa w w' A∧Below w.heap.size w w'
def m0 (b:Nat):Mt:=⟨List.replicate b 0,[],yB⟩
structure jP(Is:jw):Prop where
 tab:∀ {o w v pd m l},Is o w v pd m l→xY w
 low:∀ {o w v pd m l},Is o w v pd m l→∀j,o j∨j=gN→j<w.heap.size
 keep:∀ {o w w' v pd m l},Is o w v pd m l→(∀j,o j∨j=gN→w'.heap[j]?=w.heap[j]?)→w.heap.size≤w'.heap.size→Is o w' v pd m l
 tx:∀ {o w v pd m l},Is o w v pd m l→mB m
 qad:∀ {o w pd} (b N:Nat) (room:Int),dk.zP 1000 w o pd (dk.DD.new N room)→xY w→¬ o gN→1≤b→b≤8→193≤N→N≤1024→(N:Int)≤room →
  Calls prog 9 #[.pointer (some ⟨pd,0,none⟩),.int .i64 (b:Int)] w fun e w'=>e=.returned (.int .i64 0)∧∃t d' o',dk.zP 1000 w' o' pd d'∧JJ N t d'∧yb b N t (m0 b)∧d'.qy=0∧ib.qz o w w'∧∀j,o' j→o j∨w.heap.size≤j
 qbm:∀ {o w pd d N t b m},dk.zP 1000 w o pd d→xY w→¬ o gN→RJ N t d→d.qy=0→yb b N t m →
  Calls prog 11 #[.pointer (some ⟨pd,0,none⟩)] w fun e w'=>∃v d' sK iV,e=.returned (.tuple #[.pointer (some ⟨v,0,none⟩),.int .i64 0])∧VP Is w' sK iV v pd d' m false∧JJ N t d'∧d'.qy=0∧ib.qz o w w'∧(∀j,sK j→w.heap.size≤j)∧∀j,iV j→o j∨w.heap.size≤j
 blocks:∀ {o w v pd m l},Is o w v pd m l→Calls prog 77 #[.pointer (some ⟨v,0,none⟩)] w fun e w'=>e=.returned (.int .i64 (m.live.length:Int))∧Below w.heap.size w w'
 list:∀ {o w v pd m l},Is o w v pd m l→Calls prog 37 #[.pointer (some ⟨v,0,none⟩)] w (ch.p9 (m.qc.map (·.g)) w)
 token:∀ {o w v pd m l},Is o w v pd m l→Calls prog 41 #[.pointer (some ⟨v,0,none⟩)] w (ew m.tok w)
 read:∀ {o1 o2 w v pd d m N t b} (g:Gd),VP Is w o1 o2 v pd d m false→JJ N t d→yb b N t m→xB g→Calls prog 42 #[.pointer (some ⟨v,0,none⟩),ch.gv g] w (ch.p8 ((uh t m).read g) w)
 stage:∀ {o1 o2 w v pd d m N t b} (f:Tf) (A:Option Addr) (c:Nat) (x:List (Int × Bt)),VP Is w o1 o2 v pd d m false→JJ N t d→0≤d.qy→yb b N t m→TfB f→ch.kR w A x→x.length≤1000→(∀b o,A=some ⟨b,o,none⟩→¬ o1 b∧¬ o2 b) →
  Calls prog 84 #[.pointer (some ⟨v,0,none⟩),tkV f none 0 0,.slice A x.length c] w (qbl Is o1 o2 v pd (qj3 N t d m (xr N m f x)) w)
 qr1:∀(w:World),Calls prog 77 #[.pointer none] w fun e w'=>e=.returned (.int .i64 0)∧Below w.heap.size w w'
 qzD:∀(w:World),Calls prog 37 #[.pointer none] w (ch.p9 [] w)
 qvw:∀(w:World),Calls prog 41 #[.pointer none] w (ew yB w)
end Go.Proofs.YtdpbdkacngaemaaGreatDoor.vt
namespace Go.Proofs.YtdpbdkacngaemaaGreatDoor.vt
open _root_.Go.Proofs.Tryz Go Go.RowKit ib jr mt im sp
theorem qbn{S:Nat→Prop}{w w':World}(h:dk.qz S w w'):qz S w w':=⟨h.os,h.tape,h.output,h.size,h.block⟩
def Ke (B:Nat)(X:Nat→Prop)(w w':World):Prop:=qz (fun j=>B≤j∧¬ X j) w w'
theorem Ke.below{B:Nat}{X:Nat→Prop}{w w':World}(h:Ke B X w w')(hm:B≤w.heap.size):Below B w w':=qz.below h (fun _ hi=>hi.1) hm
theorem Ke.of_below{B:Nat}{X:Nat→Prop}{w w':World}(h:Below w.heap.size w w'):Ke B X w w':=qz.of_below h
theorem Ke.refl(B:Nat)(X:Nat→Prop)(w:World):Ke B X w w:=qz.refl _ _
theorem Ke.trans{B:Nat}{X:Nat→Prop}{a b c:World}(h:Ke B X a b)(k:Ke B X b c):Ke B X a c:=qz.trans h k (fun _ hi=>.inl hi)
theorem Ke.block{B:Nat}{X:Nat→Prop}{w w':World}(h:Ke B X w w'){j:Nat}(hj:j<w.heap.size)(hx:X j∨j<B):w'.heap[j]?=w.heap[j]? :=qz.block h j hj (fun hs=>by rcases hx with h|h;exact hs.2 h;omega)
theorem Ke.mono{B:Nat}{X Y:Nat→Prop}{w w':World}(h:Ke B X w w')(hy:∀j,Y j→X j):Ke B Y w w':=qz.mono h fun j hj=>⟨hj.1,fun y=>hj.2 (hy j y)⟩
structure Tri where
 d:DD
 m:Mt
 c:ch.CH
 lost:Bool
def V3 (IV:jw)(IC:ch.rX)(w:World)(B:Nat)(X:Nat→Prop)(v pd p:Nat)(s:Tri):Prop :=
 ∃o1 o2 o3,VP IV w o1 o2 v pd s.d s.m s.lost∧IC o3 w p s.c∧(∀j,o1 j∨o2 j→B≤j∧¬ o3 j∧¬ X j)∧(∀j,o3 j→B≤j∧¬ X j)∧(∀j,X j→j<w.heap.size)∧gN<B∧¬ X gN
section
variable {IV:jw} {IC:ch.rX} (H:jP IV) (HC:ch.Ops IC) {w w':World} {B v pd p:Nat} {X:Nat→Prop} {s:Tri}
theorem iW {o:Nat→Prop}{d:DD}(h:dk.zP 1000 w o pd d):∀j,o j→j<w.heap.size:=by
 obtain⟨_,m,u,h1⟩:=h;exact h1.2.2.2.2.2.2
include H in
theorem VP.keep{o1 o2:Nat→Prop}{d:DD}{m:Mt}{l:Bool}(h:VP IV w o1 o2 v pd d m l)(hb:∀j,(o1 j∨o2 j)∨j=gN→w'.heap[j]?=w.heap[j]?)(hs:w.heap.size≤w'.heap.size):VP IV w' o1 o2 v pd d m l :=
 ⟨H.keep h.is (fun j hj=>hb j (hj.elim (fun h=>.inl (.inl h)) .inr)) hs,h.dk.keep hs (fun j hj=>hb j (.inl (.inr hj))),h.dj⟩
include H in
theorem VP.low{o1 o2:Nat→Prop}{d:DD}{m:Mt}{l:Bool}(h:VP IV w o1 o2 v pd d m l):∀j,(o1 j∨o2 j)∨j=gN→j<w.heap.size:=fun j hj=>by
 rcases hj with(hj|hj)|hj
 ·exact H.low h.is j (.inl hj)
 ·exact iW h.dk j hj
 ·exact H.low h.is j (.inr hj)
include H HC
theorem V3.below(h:V3 IV IC w B X v pd p s)(hb:Below w.heap.size w w'):V3 IV IC w' B X v pd p s:=by
 obtain⟨o1,o2,o3,h1,h2,h3,h4,h5⟩:=h;exact⟨o1,o2,o3,h1.keep H (fun j hj=>hb.block j (h1.low H j hj)) hb.size,HC.keep h2 (fun j hj=>hb.block j (HC.low h2 j hj)) hb.size,h3,h4,fun j hj=>Nat.lt_of_lt_of_le (h5.1 j hj) hb.size,h5.2⟩
theorem V3.more(h:V3 IV IC w B X v pd p s)(hb:Below w.heap.size w w'){Y:Nat→Prop}(hY:∀j,Y j→X j∨(w.heap.size≤j∧j<w'.heap.size)):V3 IV IC w' B Y v pd p s:=by
 obtain⟨o1,o2,o3,h1,h2,h3,h4,h5⟩:=h;refine⟨o1,o2,o3,h1.keep H (fun j hj=>hb.block j (h1.low H j hj)) hb.size,HC.keep h2 (fun j hj=>hb.block j (HC.low h2 j hj)) hb.size,fun j hj=>⟨(h3 j hj).1,(h3 j hj).2.1,fun hy=>?_⟩,fun j hj=>⟨(h4 j hj).1,fun hy=>?_⟩,fun j hj=>?_,h5.2.1,fun hy=>?_⟩
 ·rcases hY j hy with h|h
  ·exact(h3 j hj).2.2 h
  ·have:=h1.low H j (.inl hj);omega
 ·rcases hY j hy with h|h
  ·exact(h4 j hj).2 h
  ·have:=HC.low h2 j hj;omega
 ·rcases hY j hj with h|h
  ·exact Nat.lt_of_lt_of_le (h5.1 j h) hb.size
  ·exact h.2
 ·rcases hY gN hy with h|h
  ·exact h5.2.2 h
  ·have:=h1.low H gN (.inr rfl);omega
theorem V3.turn(h:V3 IV IC w B X v pd p s)(hb:qz X w w'):V3 IV IC w' B X v pd p s:=by
 obtain⟨o1,o2,o3,h1,h2,h3,h4,h5⟩:=h;exact⟨o1,o2,o3,h1.keep H (fun j hj=>hb.block j (h1.low H j hj) (hj.elim (fun hj=>(h3 j hj).2.2) (fun hj=>by rw[hj];exact h5.2.2))) hb.size,HC.keep h2 (fun j hj=>hb.block j (HC.low h2 j hj) (h4 j hj).2) hb.size,h3,h4,fun j hj=>Nat.lt_of_lt_of_le (h5.1 j hj) hb.size,h5.2⟩
end
end Go.Proofs.YtdpbdkacngaemaaGreatDoor.vt
namespace Go.Proofs.YtdpbdkacngaemaaGreatDoor.vt.pg
open _root_.Go.Proofs.Tryz Go Go.RowKit ib jr mt im sp
def InS (G:Nat→Prop)(A:Option Addr):Prop:=∀b o s,A=some ⟨b,o,s⟩→G b
theorem InS.none(G:Nat→Prop):InS G none:=fun _ _ _ h=>by cases h
theorem InS.mono{G G':Nat→Prop}{A:Option Addr}(h:InS G A)(hg:∀j,G j→G' j):InS G' A:=fun b o s e=>hg b (h b o s e)
def wG (G:Nat→Prop)(w w':World):Prop:=w.heap.size≤w'.heap.size∧∀j,G j→j<w.heap.size→w'.heap[j]?=w.heap[j]?
theorem wG.of_below{G:Nat→Prop}{w w':World}(h:Below w.heap.size w w'):wG G w w':=⟨h.size,fun j _ hj=>h.block j hj⟩
theorem wG.nP{G S:Nat→Prop}{w w':World}(h:ib.qz S w w')(hs:∀j,G j→¬ S j):wG G w w':=⟨h.size,fun j hg hj=>h.block j hj (hs j hg)⟩
structure bu(G:Nat→Prop)(w:World)(A:Option Addr)(l:List Int)(c:Nat):Prop where
 at_:js w A l c
 in_:0<l.length→InS G A
theorem qj4{G:Nat→Prop}{w w':World}{A:Option Addr}{l:List Int}(h:ib.qI w A l)(hi:0<l.length→InS G A)(hs:wG G w w'):ib.qI w' A l:=by
 intro i hi';obtain⟨b,o,h1,h2,h3,h4⟩:=h i hi';refine⟨b,o,h1,Nat.lt_of_lt_of_le h2 hs.1,?_,h4⟩;rw[World.cell?_of_block (a:=⟨b,o+i,none⟩) (hs.2 b (hi (by omega) b o none h1) h2)];exact h3
theorem bu.stay{G:Nat→Prop}{w w':World}{A:Option Addr}{l:List Int}{c:Nat}(h:bu G w A l c)(hs:wG G w w'):bu G w' A l c :=
 ⟨⟨qj4 h.at_.ints h.in_ hs,h.at_.cap,h.at_.nil⟩,h.in_⟩
theorem bu.mono{G G':Nat→Prop}{w:World}{A:Option Addr}{l:List Int}{c:Nat}(h:bu G w A l c)(hg:∀j,G j→G' j):bu G' w A l c:=⟨h.at_,fun hl=>(h.in_ hl).mono hg⟩
theorem bu.none(G:Nat→Prop)(w:World):bu G w none [] 0:=⟨js.none w,fun _=>InS.none G⟩
theorem bu.qvx{G:Nat→Prop}{w0 w w':World}{A:Option Addr}{l:List Int}{c:Nat}(h:ib.New w w' A l c)(hg:∀j,w.heap.size≤j→j<w'.heap.size→G j)(hn:∀b o s,A=some ⟨b,o,s⟩→s=Option.none):bu G w' A l c :=
 ⟨h.sl,fun _ b o s e=>by
  obtain rfl:=hn b o s e;have:=h.new b o e;exact hg b this.1 this.2⟩
structure lZ(G:Nat→Prop)(w:World)(A:Option Addr)(xs:List Sp):Prop where
 at_:∀i (h:i<xs.length),∃b o B c,A=some ⟨b,o,none⟩∧b<w.heap.size∧w.cell? ⟨b,o+i*4,none⟩=some (.int .u64 (xs[i].g.1:Int))∧w.cell? ⟨b,o+i*4+1,none⟩=some (.int .u64 (xs[i].g.2:Int)) ∧
  w.cell? ⟨b,o+i*4+2,none⟩=some (.slice B xs[i].qp.length c)∧w.cell? ⟨b,o+i*4+3,none⟩=some (.bool xs[i].hid)∧bu G w B xs[i].qp c∧xB xs[i].g
 in_:0<xs.length→InS G A
theorem lZ.stay{G:Nat→Prop}{w w':World}{A:Option Addr}{xs:List Sp}(h:lZ G w A xs)(hs:wG G w w'):lZ G w' A xs:=by
 refine⟨fun i hi=>?_,h.in_⟩;obtain⟨b,o,B,c,h1,h2,h3,h4,h5,h6,h7,h8⟩:=h.at_ i hi;have hb:=hs.2 b (h.in_ (by omega) b o none h1) h2;exact⟨b,o,B,c,h1,Nat.lt_of_lt_of_le h2 hs.1,by rw[World.cell?_of_block (a:=⟨b,o+i*4,none⟩) hb];exact h3,by rw[World.cell?_of_block (a:=⟨b,o+i*4+1,none⟩) hb];exact h4,
  by rw[World.cell?_of_block (a:=⟨b,o+i*4+2,none⟩) hb];exact h5,by rw[World.cell?_of_block (a:=⟨b,o+i*4+3,none⟩) hb];exact h6,h7.stay hs,h8⟩
theorem lZ.mono{G G':Nat→Prop}{w:World}{A:Option Addr}{xs:List Sp}(h:lZ G w A xs)(hg:∀j,G j→G' j):lZ G' w A xs:=by
 refine⟨fun i hi=>?_,fun hl=>(h.in_ hl).mono hg⟩;obtain⟨b,o,B,c,h1,h2,h3,h4,h5,h6,h7,h8⟩:=h.at_ i hi;exact⟨b,o,B,c,h1,h2,h3,h4,h5,h6,h7.mono hg,h8⟩
theorem lZ.sns{G:Nat→Prop}{w:World}{A:Option Addr}{xs:List Sp}(h:lZ G w A xs):jL w A xs:=by
 intro i hi;obtain⟨b,o,B,c,h1,h2,h3,h4,h5,h6,h7,h8⟩:=h.at_ i hi;exact⟨b,o,B,c,h1,h2,h3,h4,h5,h6,h7.at_,h8⟩
theorem lZ.nil(G:Nat→Prop)(w:World):lZ G w none []:=⟨fun i h=>absurd h (by simp),fun _=>InS.none G⟩
theorem lZ.take{G:Nat→Prop}{w:World}{A:Option Addr}{xs:List Sp}(h:lZ G w A xs)(n:Nat):lZ G w A (xs.take n):=by
 refine⟨fun i hi=>?_,fun hl=>h.in_ (by rw[List.length_take]at hl;omega)⟩;have hl:i<xs.length:=by rw[List.length_take]at hi;omega
 have e:(xs.take n)[i]=xs[i]:=by simp
 rw[e];exact h.at_ i hl
structure ui(G:Nat→Prop)(w:World)(A0 A1 A2:Option Addr)(c0 c1 c2:Nat)(m:Mt):Prop where
 live:bu G w A0 m.live c0
 qc:lZ G w A1 m.qc
 room:m.qc.length≤c1∧(A1=none→m.qc.length=0∧c1=0)
 qp:bu G w A2 m.tok.qp c2
 base:xB m.tok.base
 target:xB m.tok.target
 next:qD m.tok.next
 all:qD m.tok.all
section
variable {G G':Nat→Prop} {w w':World} {A0 A1 A2:Option Addr} {c0 c1 c2:Nat} {m:Mt}
theorem ui.stay(h:ui G w A0 A1 A2 c0 c1 c2 m)(hs:wG G w w'):ui G w' A0 A1 A2 c0 c1 c2 m :=
 ⟨h.live.stay hs,h.qc.stay hs,h.room,h.qp.stay hs,h.base,h.target,h.next,h.all⟩
theorem ui.mono(h:ui G w A0 A1 A2 c0 c1 c2 m)(hg:∀j,G j→G' j):ui G' w A0 A1 A2 c0 c1 c2 m :=
 ⟨h.live.mono hg,h.qc.mono hg,h.room,h.qp.mono hg,h.base,h.target,h.next,h.all⟩
theorem ui.below(h:ui G w A0 A1 A2 c0 c1 c2 m)(hb:Below w.heap.size w w'):ui G w' A0 A1 A2 c0 c1 c2 m:=h.stay (wG.of_below hb)
theorem bu.bound{A:Option Addr}{l:List Int}{c:Nat}(h:bu G w A l c):bu (fun j=>G j∧j<w.heap.size) w A l c :=
 ⟨h.at_,fun hl b o s e=>⟨h.in_ hl b o s e,by
  obtain⟨b',o',e',h2,_⟩:=h.at_.ints 0 hl;rw[e]at e';injection e' with e'
  injection e' with e1
  rw[e1];exact h2⟩⟩
theorem lZ.bound{A:Option Addr}{xs:List Sp}(h:lZ G w A xs):lZ (fun j=>G j∧j<w.heap.size) w A xs:=by
 refine⟨fun i hi=>?_,fun hl b o s e=>⟨h.in_ hl b o s e,?_⟩⟩
 ·obtain⟨b,o,B,c,h1,h2,h3,h4,h5,h6,h7,h8⟩:=h.at_ i hi;exact⟨b,o,B,c,h1,h2,h3,h4,h5,h6,h7.bound,h8⟩
 ·obtain⟨b',o',B,c,e',h2,_⟩:=h.at_ 0 hl;rw[e]at e';injection e' with e'
  injection e' with e1
  rw[e1];exact h2
theorem ui.bound(h:ui G w A0 A1 A2 c0 c1 c2 m):ui (fun j=>G j∧j<w.heap.size) w A0 A1 A2 c0 c1 c2 m:=⟨h.live.bound,h.qc.bound,h.room,h.qp.bound,h.base,h.target,h.next,h.all⟩
theorem ui.mt(h:ui G w A0 A1 A2 c0 c1 c2 m):MtL w A0 A1 A2 c0 c1 c2 m:=⟨h.live.at_,h.qc.sns,h.room,h.qp.at_,h.base,h.target,h.next,h.all⟩
end
def vC (A0 A1 A2:Option Addr)(c0 c1 c2:Nat)(m:Mt)(pd:Nat)(lost:Bool):Array Value:=#[.slice A0 m.live.length c0,.slice A1 m.qc.length c1,.int .u64 (m.tok.base.1:Int),.int .u64 (m.tok.base.2:Int),.int .u64 (m.tok.target.1:Int),.int .u64 (m.tok.target.2:Int),.int .i64 m.tok.next,.int .i64 m.tok.all,.slice A2 m.tok.qp.length c2,.pointer (some ⟨pd,0,none⟩),.bool lost]
structure qbo(o:Nat→Prop)(w:World)(v pd:Nat)(m:Mt)(lost:Bool)(A0 A1 A2:Option Addr)(c0 c1 c2:Nat):Prop where
 blk:qf w v 115 (vC A0 A1 A2 c0 c1 c2 m pd lost)
 tab:ui (fun j=>o j∧j≠v) w A0 A1 A2 c0 c1 c2 m
 sz:mtS m
 ct:xY w
 own:o v
 low:∀j,o j→j<w.heap.size
 gv:gN≠v
 tk:m.tok.target=(0,0)→m.tok=yB
def ag:jw:=fun o w v pd m lost=>∃A0 A1 A2 c0 c1 c2,qbo o w v pd m lost A0 A1 A2 c0 c1 c2
section
variable {o:Nat→Prop} {w w':World} {v pd:Nat} {m:Mt} {lost:Bool} {A0 A1 A2:Option Addr} {c0 c1 c2:Nat}
theorem qbo.stay(h:qbo o w v pd m lost A0 A1 A2 c0 c1 c2)(hb:∀j,o j∨j=gN→w'.heap[j]?=w.heap[j]?)(hs:w.heap.size≤w'.heap.size):qbo o w' v pd m lost A0 A1 A2 c0 c1 c2 :=
 ⟨h.blk.of_block (hb v (.inl h.own)),h.tab.stay ⟨hs,fun j hj _=>hb j (.inl hj.1)⟩,h.sz,wF h.ct hs (hb gN (.inr rfl)),h.own,fun j hj=>Nat.lt_of_lt_of_le (h.low j hj) hs,h.gv,h.tk⟩
theorem qbo.below(h:qbo o w v pd m lost A0 A1 A2 c0 c1 c2)(hb:Below w.heap.size w w'):qbo o w' v pd m lost A0 A1 A2 c0 c1 c2 :=
 h.stay (fun j hj=>hb.block j (by
  rcases hj with hj|rfl
  ·exact h.low j hj
  ·exact xG h.ct)) hb.size
theorem ag.below(h:ag o w v pd m lost)(hb:Below w.heap.size w w'):ag o w' v pd m lost:=by
 obtain⟨A0,A1,A2,c0,c1,c2,h1⟩:=h;exact⟨A0,A1,A2,c0,c1,c2,h1.below hb⟩
theorem qn4(h:ag o w v pd m lost)(hb:∀j,o j∨j=gN→w'.heap[j]?=w.heap[j]?)(hs:w.heap.size≤w'.heap.size):ag o w' v pd m lost:=by
 obtain⟨A0,A1,A2,c0,c1,c2,h1⟩:=h;exact⟨A0,A1,A2,c0,c1,c2,h1.stay hb hs⟩
theorem qbp(h:ag o w v pd m lost):∀j,o j∨j=gN→j<w.heap.size:=by
 obtain⟨A0,A1,A2,c0,c1,c2,h1⟩:=h;intro j hj;rcases hj with hj|rfl
 ·exact h1.low j hj
 ·exact xG h1.ct
theorem qr2(h:ag o w v pd m lost):xY w:=by
 obtain⟨A0,A1,A2,c0,c1,c2,h1⟩:=h;exact h1.ct
theorem qr3(h:ag o w v pd m lost):mB m:=by
 obtain⟨A0,A1,A2,c0,c1,c2,h1⟩:=h;exact h1.tab.mt.mB
theorem qZ {o1 o2:Nat→Prop}{d:DD}(h:VP ag w o1 o2 v pd d m lost)(hb:Below w.heap.size w w'):VP ag w' o1 o2 v pd d m lost :=
 ⟨h.is.below hb,h.dk.keep hb.size (fun j hj=>hb.block j (iW h.dk j hj)),h.dj⟩
structure qvy(w:World)(v:Nat)(A0 A1 A2:Option Addr)(c0 c1 c2:Nat)(m:Mt)(pd:Nat)(lost:Bool):Prop where
 lt:v<w.heap.size
 k0:w.cell? ⟨v,0,none⟩=some (.slice A0 m.live.length c0)
 k1:w.cell? ⟨v,1,none⟩=some (.slice A1 m.qc.length c1)
 k2:w.cell? ⟨v,2,none⟩=some (.int .u64 (m.tok.base.1:Int))
 k3:w.cell? ⟨v,3,none⟩=some (.int .u64 (m.tok.base.2:Int))
 k4:w.cell? ⟨v,4,none⟩=some (.int .u64 (m.tok.target.1:Int))
 k5:w.cell? ⟨v,5,none⟩=some (.int .u64 (m.tok.target.2:Int))
 k6:w.cell? ⟨v,6,none⟩=some (.int .i64 m.tok.next)
 k7:w.cell? ⟨v,7,none⟩=some (.int .i64 m.tok.all)
 k8:w.cell? ⟨v,8,none⟩=some (.slice A2 m.tok.qp.length c2)
 k9:w.cell? ⟨v,9,none⟩=some (.pointer (some ⟨pd,0,none⟩))
 ee:w.cell? ⟨v,10,none⟩=some (.bool lost)
theorem qbo.cells(h:qbo o w v pd m lost A0 A1 A2 c0 c1 c2):qvy w v A0 A1 A2 c0 c1 c2 m pd lost :=
 ⟨h.blk.lt,h.blk.cell 0,h.blk.cell 1,h.blk.cell 2,h.blk.cell 3,h.blk.cell 4,h.blk.cell 5,h.blk.cell 6,h.blk.cell 7,h.blk.cell 8,h.blk.cell 9,h.blk.cell 10⟩
end
end Go.Proofs.YtdpbdkacngaemaaGreatDoor.vt.pg
namespace Go.Proofs.YtdpbdkacngaemaaGreatDoor.ib
open _root_.Go.Proofs.Tryz Go Go.RowKit
theorem qdk(o:Nat):∀(l:List Value) (k:Nat) (acc:Array Value),o+k+l.length≤acc.size →
    (l.zipIdx k).foldl (fun a x=>a.setIfInBounds (o+x.2) x.1) acc=(acc.toList.take (o+k)++l++acc.toList.drop (o+k+l.length)).toArray
 | [],k,acc,_=>by simp
 | x::l,k,acc,h=>by
  have hk:o+k<acc.size:=by simp at h;omega
  have dA:o+k<acc.toList.length:=by simpa using hk
  rw[List.zipIdx_cons,List.foldl_cons,qdk o l (k+1) _ (by simp at h ⊢;omega)]
  congr 1
  simp only[Array.toList_setIfInBounds,List.length_cons];rw[List.drop_set_of_lt (by omega),show o+(k+1)+l.length=o+k+(l.length+1)by omega,show o+(k+1)=o+k+1 by omega];have e:(acc.toList.set (o+k) x).take (o+k+1)=acc.toList.take (o+k)++[x]:=by
   rw[List.take_succ_eq_append_getElem (by simpa using hk)];simp only[List.getElem_set_self,List.take_set];rw[List.set_eq_of_length_le (by simp;omega)]
  rw[e];simp
theorem iX (place:Nat→Option (Nat × Nat))(acc:Array Value)(i off size:Nat)(cs:Array Value)(rest:List (Nat × Value))(hp:place i=some (off,size))(hs:cs.size=size)(hb:off+size≤acc.size) :
    Instr.fill place acc ((i,.agg cs)::rest)=Instr.fill place (acc.toList.take off++cs.toList++acc.toList.drop (off+size)).toArray rest:=by
 have hl:cs.toList.length=size:=by simpa using hs
 have hf:=qdk off cs.toList 0 acc (by simp;omega);have hc:(decide (cs.size≠size) || decide (off+cs.size>acc.size))=false:=by simp[hs];omega
 have e:Instr.fill place acc ((i,.agg cs)::rest)=if (decide (cs.size≠size) || decide (off+cs.size>acc.size))=true then none else Instr.fill place (cs.zipIdx.foldl (fun a x=>a.setIfInBounds (off+x.2) x.1) acc) rest:=by
  rw[Instr.fill,hp];rfl
 rw[e,hc];simp only[Bool.false_eq_true,if_false]
 congr 1
 rw[← Array.foldl_toList,Array.toList_zipIdx];rw[hl,Nat.add_zero]at hf;exact hf
theorem yT {P:Program}(w:World)(g o:Nat)(t ty:TypeId)(cs:Array Value)(xs:List Value)(fr:Nat × Nat)(d:TypeDesc)(hg:w.heap[g]?=some (.cells cs t fr))
    (hu:P.underlying ty=some d) (hd:(match d with | .struct _ | .array _ _=>true|_=>false)=true) (hi:(P.info? ty).map (·.size)=some xs.length) (hx:∀j u,xs[j]?=some u→cs[o+j]?=some u) :
    (loadVar ty ⟨g,o,none⟩).run P w=.ok (.agg xs.toArray) w:=by
 have hl:(loadCells ⟨g,o,none⟩ xs.length).run P w=.ok xs.toArray w :=
  run_loadCells_list (P:=P) w ⟨g,o,none⟩ xs (fun j v hv=>by
   rw[addr_add,cell_of_row w g (o+j) cs t fr hg];exact hx j v hv)
 cases hq:P.info? ty with
 | none=>simp[hq]at hi
 | some i =>
  have hs:i.size=xs.length:=by simpa[hq]using hi
  have hagg:(isAgg ty).run P w=.ok true w:=by
   unfold isAgg;rw[Sem.run_bind,run_underlying hu w];cases d <;> simp_all
  simp[loadVar,Sem.run_bind,hagg,sizeOf,typeInfo,hq,hs,hl]
theorem qU {ρ:Operand→Value}{o:Oper}{P:Program}{w:World}(ty:TypeId)(x:Operand)(ho:o.op=.load ty x)(g i:Nat)(hx:ρ x=.pointer (some ⟨g,i,none⟩))(t:TypeId)(cs:Array Value)(xs:List Value)(fr:Nat × Nat)(d:TypeDesc)
    (hg:w.heap[g]?=some (.cells cs t fr)) (hu:P.underlying ty=some d) (hd:(match d with | .struct _ | .array _ _=>true|_=>false)=true) (hi:(P.info? ty).map (·.size)=some xs.length) (hc:∀j u,xs[j]?=some u→cs[i+j]?=some u) :
    (execOp ρ o).run P w=.ok (.value (.agg xs.toArray)) w:=by
 simp only[execOp,ho,hx,Instr.loadAt,Instr.sureAddr,Sem.run_bind,Sem.run_pure,Result.andThen_ok,yT w g i t ty cs xs fr d hg hu hd hi hc]
theorem jN {P:Program}(w:World)(g o:Nat)(t ty:TypeId)(cur:Array Value)(xs:List Value)(hg:w.heap[g]?=some (.cells cur t (0,0)))(hi:(P.info? ty).map (·.size)=some xs.length)(hl:o+xs.length≤cur.size)(h1:∀v∈xs,v.oneCell'=true) :
    (storeVar ty ⟨g,o,none⟩ (.agg xs.toArray)).run P w=.ok () (w.setRow g (cur.toList.take o++xs++cur.toList.drop (o+xs.length)).toArray):=by
 have:=run_storeCells_at P g o t xs 0 cur w hg (by simpa using hl) h1;cases hq:P.info? ty with
 | none=>simp[hq]at hi
 | some i =>
  have hs:i.size=xs.length:=by simpa[hq]using hi
  simp only[Nat.add_zero]at this;simp[storeVar,sizeOf,typeInfo,hq,Value.cells,hs,this]
theorem mN {ρ:Operand→Value}{o:Oper}{P:Program}(w:World)(ty:TypeId)(x y:Operand)(ho:o.op=.store ty x y)(g i:Nat)(hx:ρ x=.pointer (some ⟨g,i,none⟩))(xs:List Value)(hy:ρ y=.agg xs.toArray)(t:TypeId)(cur:Array Value)
    (hg:qf w g t cur) (hi:(P.info? ty).map (·.size)=some xs.length) (hl:i+xs.length≤cur.size) (h1:∀v∈xs,v.oneCell'=true) :
    (execOp ρ o).run P w=.ok .skip (w.setRow g (cur.toList.take i++xs++cur.toList.drop (i+xs.length)).toArray):=by
 have hr:=jN (P:=P) w g i t ty cur xs hg hi hl h1;have h2:(Instr.storeAt ty (.pointer (some ⟨g,i,none⟩)) (.agg xs.toArray)).run P w=.ok () (w.setRow g (cur.toList.take i++xs++cur.toList.drop (i+xs.length)).toArray):=by
  simp only[Instr.storeAt,Instr.sureAddr,Sem.run_bind,Sem.run_pure,Result.andThen];exact hr
 simp[execOp,ho,hx,hy,h2,Result.andThen]
theorem zJ {ρ:Operand→Value}{o:Oper}{P:Program}(w:World)(t:TypeId)(c c':Array Value)(x y:Operand)(ho:o.op=.store t x y)(hx:ρ x=.pointer (some ⟨w.heap.size,0,none⟩))(hy:ρ y=.agg c')
    (hi:(P.info? t).map (·.size)=some c'.size) (hoc:c.size=c'.size) (h1:c'.all (·.oneCell')=true) :
    (execOp ρ o).run P (w.alloc (.cells c t))=.ok .skip (w.alloc (.cells c' t)):=by
 have hr:=run_storeAt_new (P:=P) w t c c' hi hoc h1;simp[execOp,ho,hx,hy,hr,Result.andThen]
theorem kr {l:List Value}(h:∀v∈l,v.oneCell'=true):l.toArray.all (·.oneCell')=true:=by
 rw[Array.all_eq_true'];intro u hu;exact h u (by simpa using hu)
theorem gq {ρ:Operand→Value}{o:Oper}{P:Program}{w:World}(t:TypeId)(i:TypeInfo)(z:Array Value)(ho:o.op=.alloc t)(hi:P.info? t=some i)(hz:i.zero=some (.agg z)) :
    (execOp ρ o).run P w=.ok (.value (.pointer (some ⟨w.heap.size,0,none⟩))) (w.alloc (.cells z t)):=by
 have hz:∀w,(zeroValue t).run P w=.ok (.agg z) w:=fun w=>by simp[zeroValue,typeInfo,hi,hz]
 simp[execOp,ho,Instr.alloc,hz,Result.andThen,go_sem,Value.cells]
theorem fA {ρ:Operand→Value}{o:Oper}{P:Program}{w:World}(t:TypeId)(x:Operand)(cs:Array Value)(ho:o.op=.box t x)(hx:ρ x=.agg cs)(hs:(P.info? t).map (·.size)=some cs.size)(h1:cs.all (·.oneCell')=true) :
    (execOp ρ o).run P w=.ok (.value (.pointer (some ⟨w.heap.size,0,none⟩))) (w.alloc (.cells cs t)):=by
 simp[execOp,ho,hx,Instr.box,Result.andThen,go_sem,Value.cells]
theorem qn5{ρ:Operand→Value}{o:Oper}{P:Program}{w:World}(st t:TypeId)(x:Operand)(cs:Array Value)(size:Nat)(ho:o.op=.buildSlice st 1 #[(0,x)])(hx:ρ x=.agg cs)
    (hu:P.underlying st=some (.slice t)) (i:TypeInfo) (z:Value) (hi:P.info? t=some i) (hz:i.zero=some z) (hs:i.size=size) (h0:0<size) (hm:size≤2 ^ 24) (hc:cs.size=size) :
    (execOp ρ o).run P w=.ok (.value (.slice (some ⟨w.heap.size,0,none⟩) 1 1)) (w.alloc (.cells cs t)):=by
 have hr:=run_buildSlice (P:=P) w st t 1 #[(0,.agg cs)] cs i z hu hi hz (by rw[hs];omega) (by rw[hs];omega) (by
  rw[hs,iX _ _ 0 0 size cs [] (by simp) hc (by simp)];simp[Instr.fill];rw[List.drop_eq_nil_of_le (by simp)];simp)
 simp[execOp,ho,hx,hr,Result.andThen]
theorem pj {ρ:Operand→Value}{o:Oper}{P:Program}(w:World)(x y:Operand)(bt st ut:TypeId)(s:ByteArray)(g i n c:Nat)(t:TypeId)(cur:Array Value)(iu:TypeInfo)(ho:o.op=.call { callee:=.builtin .copy,args:=#[x,y],argTypes:=#[bt,st] })
    (hx:ρ x=.slice (some ⟨g,i,none⟩) n c) (hy:ρ y=.string s) (hs:s.size=n) (hg:qf w g t cur) (hl:i+n≤cur.size) (hu:P.underlying bt=some (.slice ut)) (hi:P.info? ut=some iu) (hz:iu.size=1) :
    (execOp ρ o).run P w=.ok (.value (.int .i64 (n:Int))) (w.setRow g (cur.toList.take i++Lib.byteCells (bl s)++cur.toList.drop (i+n)).toArray):=by
 have hlen:(bl s).length=n:=by rw[zj,hs]
 have hst:=run_storeCells_at P g i t (Lib.byteCells (bl s)) 0 cur w hg (by rw[Lib.byteCells_length,hlen];simpa using hl) (Lib.byteCells_one _);rw[Lib.byteCells_length,hlen]at hst;simp only[Nat.add_zero]at hst;have rV:List.take n (List.map (fun b:UInt8=>Value.int IntKind.u8 (b.toNat:Int)) s.data.toList)=Lib.byteCells (bl s):=by
  rw[List.take_of_length_le]
  ·rfl
  ·simp only[List.length_map];have:s.data.toList.length=n:=hlen;omega
 have hc:(Builtin.copy_ #[bt,st] o.type #[.slice (some ⟨g,i,none⟩) n c,.string s]).run P w=.ok (.int .i64 (n:Int)) (w.setRow g (cur.toList.take i++Lib.byteCells (bl s)++cur.toList.drop (i+n)).toArray):=by
  simp[Builtin.copy_,run_underlying hu,Builtin.lenOf,Builtin.firstCells,sizeOf,typeInfo,hi,hz,hs];rw[rV,hst];simp[Result.andThen];rfl
 simp[execOp,ho,resolve,invoke,builtin,hx,hy,hc,Result.andThen]
theorem mO {P:Program}(w:World)(t ty e:TypeId)(i:TypeInfo)(z:Value)(size bytes:Nat)(ht:P.underlying t=some (.slice e))(hi:P.info? e=some i)(hz:i.zero=some z)(hsize:i.size=size)(hby:i.bytes=bytes)
    (A:Option Addr) (n:Nat) (xs:List Value) (cZ:xs.length=n*size) (hA:A=none→n=0) (holds:∀b,A=some b→∀j u,xs[j]?=some u→w.cell? (b.add j)=some u)
    (a:Addr) (m c:Nat) (news:List Value) (hl:news.length=m*size) (hnews:∀j u,news[j]?=some u→w.cell? (a.add j)=some u) (h0:0<m)
    (h63:n+m≤maxLen) (hbytes:(n+m)*bytes≤140737488355328) :
    ∃cap cur w',(Builtin.append_ #[t,t] ty #[.slice A n n,.slice (some a) m c]).run P w=.ok (.slice (some ⟨w.heap.size,0,none⟩) (n+m) cap) w'∧Below w.heap.size w w'∧qf w' w.heap.size e cur ∧
     cur.toList.take ((n+m)*size)=xs++news∧n+m≤cap∧cap≤maxLen∧w'.heap.size=w.heap.size+1:=by
 subst hsize;subst hby;have q44:n+m≤9223372036854775807:=by simp only[maxLen]at h63;omega
 have hlen:(xs++news).length=(n+m)*i.size:=by rw[List.length_append,cZ,hl,Nat.add_mul]
 have bj:∀cs,Below w.heap.size w (w.drew.alloc (.cells cs e)):=fun cs=>⟨rfl,rfl,rfl,by simp,fun k hk=>heap_alloc_old w.drew _ hk⟩;cases A with
 | none =>
  obtain rfl:=hA rfl;have hx:xs=[]:=List.eq_nil_of_length_eq_zero (by simpa using cZ);subst hx;have hr:=run_append_nil (P:=P) w t ty e i z ht hi hz a m c news hl hnews h0 (by omega) (by have hb:=hbytes;simp only[Nat.zero_add]at hb;omega);rw[Nat.zero_add,List.nil_append];refine⟨_,_,_,hr,bj _,heap_alloc_new w.drew _,?_,grownCap_ge _ _ _ _,grownCap_le_maxLen _ _ _ _ (by omega),by simp⟩;simp only[Array.toList_append];rw[← hl];exact List.take_left
 | some b =>
  have hr:=run_append_grow (P:=P) w t ty e i z ht hi hz b n n xs cZ (holds b rfl) a m c news hl hnews (by omega) (by omega) (growslice_fits (by omega) hbytes);refine⟨_,_,_,hr,bj _,heap_alloc_new w.drew _,?_,grownCap_ge _ _ _ _,grownCap_le_maxLen _ _ _ _ h63,by simp⟩;simp only[Array.toList_append,List.append_assoc];rw[← List.append_assoc,← hlen];exact List.take_left
theorem ah {P:Program}{o:Oper}{a:Act}{w:World}{K:Act→World→Prop}{Q:Exit→Act→World→Prop}(s x:Operand)(t:TypeId)
    (ho:o.op=.call { callee:=.builtin .append,args:=#[s,x],argTypes:=#[t,t] })
    (e:TypeId) (i:TypeInfo) (z:Value) (size bytes:Nat) (ht:P.underlying t=some (.slice e)) (hi:P.info? e=some i) (hz:i.zero=some z)
    (hsize:i.size=size) (hby:i.bytes=bytes) (A:Option Addr) (n:Nat) (xs:List Value) (hs:a.eval s=.slice A n n)
    (cZ:xs.length=n*size) (hA:A=none→n=0) (holds:∀b,A=some b→∀j u,xs[j]?=some u→w.cell? (b.add j)=some u)
    (ad:Addr) (m c:Nat) (news:List Value) (hx:a.eval x=.slice (some ad) m c) (hl:news.length=m*size) (hnews:∀j u,news[j]?=some u→w.cell? (ad.add j)=some u) (h0:0<m)
    (h63:n+m≤maxLen) (hbytes:(n+m)*bytes≤140737488355328)
    (h:∀cap cur w',Below w.heap.size w w'→qf w' w.heap.size e cur→cur.toList.take ((n+m)*size)=xs++news→n+m≤cap→cap≤maxLen→w'.heap.size=w.heap.size+1→K (a.put o.dst (.slice (some ⟨w.heap.size,0,none⟩) (n+m) cap)) w'):o.wp P a w K Q:=by
 obtain⟨cap,cur,w',hrun,h2,h3,h4,h5,h6,h7⟩:=mO (P:=P) w t o.type e i z size bytes ht hi hz hsize hby A n xs cZ hA holds ad m c news hl hnews h0 h63 hbytes;unfold Oper.wp;simp[execOp,ho,resolve,invoke,builtin,hs,hx,hrun,Result.andThen];exact h cap cur w' h2 h3 h4 h5 h6 h7
theorem zf {fn:Func}{p:Tmp}{ty:TypeId}(h:fn.results = #[.cell p ty])(tmps:Array Value)(P:Program)(w:World)(a:Addr)(v:Value)
    (hp:tmps.getD p undef=.pointer (some a)) (h1:(loadVar ty a).run P w=.ok v w):(results fn tmps).run P w=.ok v w:=by
 simp only[results,h];simp only[Array.getD_eq_getD_getElem?]at hp;simp[Sem.run_bind,Result.andThen,asAddr,hp,h1]
theorem pk {w:World}{g:Nat}{t:TypeId}{cur c:Array Value}(h:qf w g t cur):qf (w.setRow g c) g t c:=by
 unfold qf at h ⊢;unfold World.setRow;rw[Array.getElem?_modify,if_pos rfl,h];rfl
theorem qga{w:World}{g k:Nat}{c:Array Value}(h:k≠g):(w.setRow g c).heap[k]?=w.heap[k]? :=by
 unfold World.setRow;simp only[Array.getElem?_modify];rw[if_neg (Ne.symm h)]
theorem setRow_size(w:World)(g:Nat)(c:Array Value):(w.setRow g c).heap.size=w.heap.size:=by
 unfold World.setRow;simp
theorem po (w:World)(g:Nat)(c:Array Value):qz (fun k=>k=g) w (w.setRow g c) :=
 ⟨rfl,rfl,rfl,by rw[setRow_size];exact Nat.le_refl _,fun k _ hn=>qga hn⟩
end Go.Proofs.YtdpbdkacngaemaaGreatDoor.ib
namespace Go.Proofs.YtdpbdkacngaemaaGreatDoor.vt.pg
open _root_.Go.Proofs.Tryz Go Go.RowKit ib mt im sp
theorem cK {ρ:Operand→Value}{o:Oper}{w:World}(x y:Operand)(n:Nat)(ho:o.op=.makeSlice 80 x y)(hx:ρ x=.int .i64 (n:Int))(hy:ρ y=.int .i64 (n:Int))(h:n≤1000) :
    (execOp ρ o).run prog w=.ok (.value (.slice (some ⟨w.heap.size,0,none⟩) n n)) (w.alloc (.cells (qh (List.replicate n 0)) 3)):=by
 have:=tv (n:Int) (by omega) (by omega) w;simp only[Int.toNat_natCast]at this;simp[execOp,ho,hx,hy,this,Result.andThen]
theorem qt2:(prog.info? 3).map (·.size)=some 1:=by kernel_rfl
def qvz (l:List Int)(w:World)(e:Ending)(w':World):Prop:=e=.returned (.slice (some ⟨w.heap.size,0,none⟩) l.length l.length)∧qf w' w.heap.size 3 (qh l)∧Below w.heap.size w w'
theorem qj5{w:World}{A:Option Addr}{l:List Int}{c:Nat}(h:js w A l c)(h0:l.length≠0):∃b o,A=some ⟨b,o,none⟩:=by
 obtain⟨b,o,h1,_⟩:=h.ints 0 (by omega);exact⟨b,o,h1⟩
theorem gu (A:Option Addr)(c:Nat)(l:List Int)(w:World)(h:js w A l c)(hl:l.length≤1000):Calls prog 98 #[.slice A l.length c] w (qvz l w):=by
 have hb:=(Below.refl w.heap.size w).alloc (Nat.le_refl _) (.cells (qh (List.replicate l.length 0)) 3);have hk:=qf.new w 3 (qh (List.replicate l.length 0));have hh:=h.below hb;obtain⟨W1,hW1⟩:=QE (w.alloc (.cells (qh (List.replicate l.length 0)) 3));rw[hW1]at hb hk hh;have qzE:∃W2,(Builtin.copy_ #[80,80] 3 #[.slice (some ⟨w.heap.size,0,none⟩) l.length l.length,.slice A l.length c]).run prog W1=.ok (.int .i64 (l.length:Int)) W2∧qf W2 w.heap.size 3 (qh l)∧Below w.heap.size w W2:=by
  by_cases h0:l.length=0
  ·refine⟨W1,?_,?_,hb⟩
   ·have:=run_copy_none (P:=prog) W1 80 80 3 3 (some ⟨w.heap.size,0,none⟩) A l.length l.length l.length c underlying80 qt2 (by rw[h0];rfl);rw[this,h0];rfl
   ·obtain rfl:l=[]:=List.length_eq_zero_iff.1 h0;exact hk
  ·obtain⟨b,o,rfl⟩:=qj5 h h0;have:=run_copy_row prog W1 80 80 3 3 w.heap.size 0 l.length l.length ⟨b,o,none⟩ l.length c (qh (List.replicate l.length 0)) 3 (l.map (Value.int .i64)) underlying80 qt2 hk (by simp) (fun j v hj=>by
    have hjl:j<l.length:=by
     have:=(List.getElem?_eq_some_iff.1 hj).1;simpa using this
    obtain⟨b',o',e,h1,h2,_⟩:=hh.ints j hjl;simp only[Option.some.injEq,Addr.mk.injEq,and_true]at e;obtain⟨rfl,rfl⟩:=e;rw[addr_add,h2];simpa[hjl]using hj) (by simp[qh]) (fun v hv=>by
    obtain⟨z,_,rfl⟩:=List.mem_map.1 hv;rfl)
   have e:((qh (List.replicate l.length 0)).toList.take 0++l.map (Value.int .i64)++(qh (List.replicate l.length 0)).toList.drop (0+(l.map (Value.int .i64)).length)).toArray=qh l:=by
    simp[qh]
   rw[e]at this;refine⟨_,?_,setRow_heap W1 w.heap.size (qh (List.replicate l.length 0)) (qh l) 3 (0,0) hk,?_⟩
   ·rw[this];simp[goInt]
   ·exact wS hb _ (Nat.le_refl _)
 obtain⟨W2,hc,hk2,hb2⟩:=qzE;have jV:=QH hk2;have qA:=QH hb2;clear h hb hk hh hk2 hb2;go_enter func98,ntmps98;go_wp2_with (at_make;refine qi rfl (cK _ _ l.length rfl rfl rfl (by omega)) ?_);go_ret;exact⟨rfl,jV.out,qA.out⟩
theorem qvz.sl{l:List Int}{w w':World}{e:Ending}(h:qvz l w e w')(hz:∀z∈l,qD z)(G:Nat→Prop)(hG:G w.heap.size):bu G w' (some ⟨w.heap.size,0,none⟩) l l.length :=
 ⟨⟨qf.nums h.2.1 hz,Nat.le_refl _,fun h=>by cases h⟩,fun _ b o s e=>by
  simp only[Option.some.injEq,Addr.mk.injEq]at e;rw[← e.1];exact hG⟩
def SnI (G:Nat→Prop)(w:World)(x:eH):Prop:=∃B c,x.2=.slice B x.1.qp.length c∧bu G w B x.1.qp c∧xB x.1.g
theorem SnI.stay{G:Nat→Prop}{w w':World}{x:eH}(h:SnI G w x)(hs:wG G w w'):SnI G w' x:=by
 obtain⟨B,c,h1,h2,h3⟩:=h;exact⟨B,c,h1,h2.stay hs,h3⟩
theorem qn6:∀(l:List eH) (j:Nat) (u:Value),(zD l)[j]?=some u→∃i k,∃h:i<l.length,k<4∧j=i*4+k∧(iA l[i])[k]?=some u:=by
 intro l j u h;have hj:j<l.length*4:=by
  have:=(List.getElem?_eq_some_iff.1 h).1;rw[yS]at this;exact this
 have hi:j/4<l.length:=by omega
 have hk:j%4<4:=Nat.mod_lt _ (by omega);refine⟨j/4,j%4,hi,hk,by omega,?_⟩;rw[← xR l (j/4) hi (j%4) hk,show j/4*4+j%4=j by omega];exact h
theorem lZ.row{G:Nat→Prop}{w:World}{A:Option Addr}{sn:List Sp}(h:lZ G w A sn):∃xs:List eH,xs.map (·.1)=sn∧(∀x∈xs,SnI G w x) ∧
    ∀j u,(zD xs)[j]?=some u→∃b o,A=some ⟨b,o,none⟩∧b<w.heap.size∧w.cell? ⟨b,o+j,none⟩=some u:=by
 obtain⟨vs,hl,hv⟩:=xD (p:=fun i (v:Value)=>∃(hi:i<sn.length),SnI G w (sn[i],v)∧∀k u,k<4→(iA (sn[i],v))[k]?=some u→∃b o,A=some ⟨b,o,none⟩∧b<w.heap.size∧w.cell? ⟨b,o+i*4+k,none⟩=some u) sn.length (fun i hi=>by
  obtain⟨b,o,B,c,h1,h2,h3,h4,h5,h6,h7,h8⟩:=h.at_ i hi;refine⟨.slice B sn[i].qp.length c,hi,⟨B,c,rfl,h7,h8⟩,fun k u hk hu=>⟨b,o,h1,h2,?_⟩⟩
  match k,hk with
  | 0,_=>simp[iA]at hu;subst hu;exact h3
  | 1,_=>simp[iA]at hu;subst hu;exact h4
  | 2,_=>simp[iA]at hu;subst hu;exact h5
  | 3,_=>simp[iA]at hu;subst hu;exact h6)
 refine⟨sn.zip vs,?_,fun x hx=>?_,fun j u hj=>?_⟩
 ·rw[List.map_fst_zip (by omega)]
 ·obtain⟨i,hi,rfl⟩:=List.getElem_of_mem hx;have hi':i<vs.length:=by simp at hi;omega
  obtain⟨_,h1,_⟩:=hv i hi';simpa using h1
 ·obtain⟨i,k,hi,hk,rfl,hu⟩:=qn6 _ _ _ hj;have hi':i<vs.length:=by simp at hi;omega
  obtain⟨_,_,h2⟩:=hv i hi';obtain⟨b,o,h3,h4,h5⟩:=h2 k u hk (by simpa using hu);exact⟨b,o,h3,h4,by rw[← Nat.add_assoc];exact h5⟩
theorem lZ.qn7{G:Nat→Prop}{w:World}{g:Nat}{xs:List eH}(hg:G g)(hl:g<w.heap.size)(hc:∀j u,(zD xs)[j]?=some u→w.cell? ⟨g,j,none⟩=some u)(hx:∀x∈xs,SnI G w x):lZ G w (some ⟨g,0,none⟩) (xs.map (·.1)):=by
 refine⟨fun i hi=>?_,fun _ b o s e=>by
  simp only[Option.some.injEq,Addr.mk.injEq]at e;rw[← e.1];exact hg⟩
 have hix:i<xs.length:=by simpa using hi
 have e:(xs.map (·.1))[i]=xs[i].1:=by simp
 rw[e];obtain⟨B,c,h1,h2,h3⟩:=hx _ (List.getElem_mem hix);refine⟨g,0,B,c,rfl,hl,?_,?_,?_,?_,h2,h3⟩
 ·rw[Nat.zero_add];have:=hc (i*4+0) _ (xR xs i hix 0 (by omega));exact this
 ·rw[Nat.zero_add];exact hc (i*4+1) _ (xR xs i hix 1 (by omega))
 ·rw[Nat.zero_add,← h1];exact hc (i*4+2) _ (xR xs i hix 2 (by omega))
 ·rw[Nat.zero_add];exact hc (i*4+3) _ (xR xs i hix 3 (by omega))
theorem vP {w:World}{g n:Nat}{t:TypeId}{cur:Array Value}{l:List Value}(h:qf w g t cur)(ht:cur.toList.take n=l):∀j u,l[j]?=some u→w.cell? ⟨g,j,none⟩=some u:=by
 intro j u hu;rw[h.cell j];rw[← ht,List.getElem?_take]at hu;split at hu
 ·simpa using hu
 ·cases hu
end Go.Proofs.YtdpbdkacngaemaaGreatDoor.vt.pg
namespace Go.Proofs.YtdpbdkacngaemaaGreatDoor.vt.pg
open _root_.Go.Proofs.Tryz Go Go.RowKit ib wi im mt mt.pg
theorem qzF{w:World}{B:Nat}{A:Option Addr}{n c:Nat}{zs:List Int}(h:zg w B (.slice A n c) zs):InS (fun j=>B≤j) A:=by
 rcases h.2 with⟨e,h0⟩|⟨g,cap,cur,e,hg,hh,hcc,hm,hcs,xC⟩
 ·cases e;exact InS.none _
 ·cases e;intro b o s e;cases e;exact hg
theorem qgb{w:World}{B:Nat}{A:Option Addr}{n c:Nat}{zs:List Int}(h:zg w B (.slice A n c) zs)(hz:∀z∈zs,qD z):bu (fun j=>B≤j) w A zs c:=by
 obtain⟨A',c',e,h1⟩:=qhw h hz;have h2:=qzF h;cases e;exact⟨h1,fun _=>h2⟩
theorem qzG{w:World}{B:Nat}{A:Option Addr}{n c:Nat}{xs:List eH}(h:wQ w B (.slice A n c) xs)(hz:∀x∈xs,∀z∈x.1.qp,qD z)(hg:∀x∈xs,xB x.1.g) :
    lZ (fun j=>B≤j) w A (xs.map (·.1))∧((xs.map (·.1)).length≤c∧(A=none→(xs.map (·.1)).length=0∧c=0)):=by
 obtain⟨A',c',e,h1,h2⟩:=h.view hz hg;simp only[Value.slice.injEq]at e;obtain⟨rfl,hn,rfl⟩:=e;refine⟨?_,h2⟩;rcases h.1.2 with⟨e,h0⟩|⟨g,cap,cur,e,bW,hh,hcc,hm,hcs,xC⟩
 ·simp only[Value.slice.injEq]at e;obtain⟨rfl,_,rfl⟩:=e;obtain rfl:xs=[]:=List.length_eq_zero_iff.1 h0;exact lZ.nil _ _
 ·simp only[Value.slice.injEq]at e;obtain⟨rfl,_,rfl⟩:=e;refine lZ.qn7 bW (Array.getElem?_eq_some_iff.1 hh).1 (fun j u hu=>?_) (fun x hx=>?_)
  ·rw[cell_of_row w g j cur 141 (0,0) hh];rw[← xC,List.getElem?_take]at hu;split at hu
   ·simpa using hu
   ·cases hu
  ·have hi:=h.2 x hx;obtain⟨A1,c1,e1⟩:=xQ hi;rw[e1]at hi;exact⟨A1,c1,e1,qgb hi (hz x hx),hg x hx⟩
theorem qgc{w:World}{B:Nat}{A0 A1 A2:Option Addr}{n0 n1 n2 c0 c1 c2:Nat}{m:Mt}(h:Own w B (.slice A0 n0 c0) (.slice A1 n1 c1) (.slice A2 n2 c2) m):ui (fun j=>B≤j) w A0 A1 A2 c0 c1 c2 m:=by
 have i64:∀ {z:Int},0≤z∧z≤1048576→qD z:=fun h=>by unfold qD;omega
 obtain⟨xs,a,b,c,d⟩:=h.at_;obtain⟨hf,ht⟩:=h.ok;rw[← d]at hf;have hsn:∀x∈xs,yv x.1.qp∧xB x.1.g:=fun x hx=>⟨(hf.sn _ (List.mem_map_of_mem hx)).1,(hf.sn _ (List.mem_map_of_mem hx)).2.1⟩;have hb:=qzG b (fun x hx z hz=>i64 ((hsn x hx).1 z hz)) (fun x hx=>(hsn x hx).2);rw[d]at hb;exact⟨qgb a (fun z hz=>i64 (hf.live z hz)),hb.1,hb.2,qgb c (fun z hz=>i64 (ht.qp z hz)),ht.base,ht.target,ht.next,ht.all⟩
def qzH (m:Mt)(w:World)(e:Ending)(w':World):Prop:=∃A0 A1 A2 c0 c1 c2,e=.returned (.tuple #[.agg (zF A0 A1 A2 c0 c1 c2 m),.int .i64 0])∧ui (fun j=>w.heap.size≤j) w' A0 A1 A2 c0 c1 c2 m∧Below w.heap.size w w'
theorem qr4(s:ByteArray)(w:World)(hs:s.size≤100000)(M:Mt)(hD:nE (bl s)=(M,0)):Calls prog 52 #[.string s] w (qzH M w):=by
 have HDI:Hid (gU (mP (some (bl s)))=(bl s,0)∧mP (some (bl s))=M):=by
  have h:=qu4 (bl s);rw[hD]at h;unfold Hid;split at h
  ·rename_i h1;exact⟨h1,(Prod.mk.inj h).1.symm⟩
  ·cases (Prod.mk.inj h).2
 have hb0:=(Below.refl w.heap.size w).alloc (Nat.le_refl _) (.cells (mZ (.slice none 0 0) (.slice none 0 0)) 103);have hA0:=qf.new w 103 (mZ (.slice none 0 0) (.slice none 0 0));obtain⟨W0,hW0⟩:=QE (w.alloc (.cells (mZ (.slice none 0 0) (.slice none 0 0)) 103));rw[hW0]at hb0 hA0;have jt:=QH hb0;have mE:=QH hA0;have tO:=QH hs;have HN:=QH (qaE s W0 (by omega));clear hb0 hA0 hs hD;unfold mZ at hW0;go_enter func52,ntmps52;go_upto_region 1 with fail;try rw[hW0]
 clear hW0;go_wp2_with fail;refine HN.out.mono ?_;rintro e W1 ⟨c,rfl,hc,bw,hb1⟩;have hps:PS W1 c (some (bl s)):=bw;have rT:=QH hps;have qO:=QH (qa jt.out hb1);have ia:=QH (mE.out.below hb1);have ja:Hid (w.heap.size≤W1.heap.size):=qO.out.size;have HC:Hid (w.heap.size≤c∧w.heap.size<W1.heap.size):=⟨Nat.le_trans jt.out.size hc,ia.out.lt⟩;clear hc bw hb1 hps jt mE HN;go_wp2_with fail;refine(mt.pg.kL rT.out).mono ?_;rintro e W2 ⟨v0,v1,v2,rfl,ho,xJ⟩;have qA:Hid (Below w.heap.size w W2):=qO.out.trans (xJ.below (fun j hj=>by unfold Tc at hj;rw[hj];exact HC.out.1) qO.out.size);obtain⟨y,hy⟩:=rT.out.blk;have wb:=QH (ia.out.of_block (xJ.block _ ia.out.lt (uE ia.out hy (by decide))));have HSM:Hid (mtS (mP (some (bl s)))):=qvb ho.ok.1 ho.ok.2;obtain⟨m,hm⟩:=QE (mP (some (bl s)));rw[hm]at ho HDI HSM ⊢;have vX:=QH ho;obtain⟨xs,o0,o1,o2,o3⟩:=ho.at_;obtain⟨A0,c0,hv0⟩:=xQ o0;obtain⟨A1,c1,hv1⟩:=xQ o1.1;obtain⟨A2,c2,hv2⟩:=xQ o2;have hlx:xs.length=m.qc.length:=by rw[← o3,List.length_map]
 rw[hlx]at hv1;subst hv0 hv1 hv2;clear ho o0 o1 o2 o3 hlx hy hm xJ rT qO ia;have hb3:=(Below.refl W2.heap.size W2).alloc (Nat.le_refl _) (.cells (mC (.slice A0 m.live.length c0) (.slice A1 m.qc.length c1) (.slice A2 m.tok.qp.length c2) m.tok) 103);have hM3:=qf.new W2 103 (mC (.slice A0 m.live.length c0) (.slice A1 m.qc.length c1) (.slice A2 m.tok.qp.length c2) m.tok);obtain⟨W3,hW3⟩:=QE (W2.alloc (.cells (mC (.slice A0 m.live.length c0) (.slice A1 m.qc.length c1) (.slice A2 m.tok.qp.length c2) m.tok) 103));rw[hW3]at hb3 hM3;have zv:=QH (qa qA.out hb3);have lL:=QH (wb.out.below hb3);have HO3:=QH (vX.out.kp (r:=1000000) (Kp.of_below hb3) (by decide) (by decide));obtain⟨gm,hgm⟩:=QE W2.heap.size;rw[hgm]at hM3;have HM3:=QH hM3;unfold mC at hW3 ⊢;clear hb3 qA wb vX;go_upto_region 2 with fail;try rw[hW3]
 try rw[hgm]
 clear hW3 hgm;have m0:=hM3.cell 0;have m1:=hM3.cell 1;have m2:=hM3.cell 2;have m3:=hM3.cell 3;have m4:=hM3.cell 4;have m5:=hM3.cell 5;have m6:=hM3.cell 6;have m7:=hM3.cell 7;have m8:=hM3.cell 8;simp only[mC,QA,QB,QC]at m0 m1 m2 m3 m4 m5 m6 m7 m8;have hlm:=hM3.lt;have HE:=QH (qh9 _ m W3 HO3.out.mt HSM.out);unfold mC at HE;clear hM3;go_wp2_with fail;refine HE.out.mono ?_;rintro e W4 ⟨rfl,hb4⟩;have zx:=QH (qa zv.out hb4);have mI:=QH (lL.out.below hb4);have HO4:=QH (HO3.out.kp (r:=1000000) (Kp.of_below hb4) (by decide) (by decide));have hM4:=HM3.out.below hb4;clear hb4 HE zv lL HO3 HM3 m0 m1 m2 m3 m4 m5 m6 m7 m8 hlm;have a0:=mI.out.cell 0;have a1:=mI.out.cell 1;have a2:=mI.out.cell 2;have a3:=mI.out.cell 3;have a4:=mI.out.cell 4;have a5:=mI.out.cell 5;have a6:=mI.out.cell 6;have a7:=mI.out.cell 7;have a8:=mI.out.cell 8;have m0:=hM4.cell 0;have m1:=hM4.cell 1;have m2:=hM4.cell 2;have m3:=hM4.cell 3;have m4:=hM4.cell 4;have m5:=hM4.cell 5;have m6:=hM4.cell 6;have m7:=hM4.cell 7;have m8:=hM4.cell 8;simp only[mC,mZ,QA,QB,QC]at m0 m1 m2 m3 m4 m5 m6 m7 m8 a0 a1 a2 a3 a4 a5 a6 a7 a8;have f0:=mI.out.frozen 0;have f1:=mI.out.frozen 1;have f2:=mI.out.frozen 2;have f3:=mI.out.frozen 3;have f4:=mI.out.frozen 4;have f5:=mI.out.frozen 5;have f6:=mI.out.frozen 6;have f7:=mI.out.frozen 7;have f8:=mI.out.frozen 8;have hlm:=hM4.lt;have bn:=mI.out.lt;clear hM4;have hres:qf W4 w.heap.size 103 (mC cd cd cd yB):=mI.out;obtain⟨hE,rfl⟩:=HDI.out;have HF1:Hid (qf (xN W4 w.heap.size (.slice A0 m.live.length c0) (.slice A1 m.qc.length c1) (.slice A2 m.tok.qp.length c2) m.tok) w.heap.size 103 (zF A0 A1 A2 c0 c1 c2 m)∧ui (fun j=>w.heap.size≤j) (xN W4 w.heap.size (.slice A0 m.live.length c0) (.slice A1 m.qc.length c1) (.slice A2 m.tok.qp.length c2) m.tok) A0 A1 A2 c0 c1 c2 m∧Below w.heap.size w (xN W4 w.heap.size (.slice A0 m.live.length c0) (.slice A1 m.qc.length c1) (.slice A2 m.tok.qp.length c2) m.tok)) :=
  ⟨tK hres,(qgc (HO4.out.kp (qcC hres) (by decide) (by decide))).mono (fun j hj=>Nat.le_trans ja.out hj),dK zx.out (Nat.le_refl _)⟩
 clear hres HDI HO4;obtain⟨r1,hr1⟩:=QE ((gU m).1);obtain⟨r2,hr2⟩:=QE ((gU m).2);rw[hE]at hr1 hr2;dsimp only at hr1 hr2;rw[hE];subst hr2;dsimp only;have hq:((str (bl s)).toList == s.toList)=true:=by rw[il];simp
 have HQ:=QH hq;clear hq hE;obtain⟨S1,hS1⟩:=QE (str (bl s));rw[hS1]at HQ ⊢;clear hS1 hr1;have hq:(S1.toList == s.toList)=true:=HQ.out;go_wp2_with fail;show bodyPost _ _ _ _ _ (xN W4 w.heap.size (.slice A0 m.live.length c0) (.slice A1 m.qc.length c1) (.slice A2 m.tok.qp.length c2) m.tok);obtain⟨WE,nd⟩:=QE (xN W4 w.heap.size (.slice A0 m.live.length c0) (.slice A1 m.qc.length c1) (.slice A2 m.tok.qp.length c2) m.tok);have hf:=HF1.out;rw[nd]at hf ⊢;have hl:=qh8 (v0:=.slice A0 m.live.length c0) (v1:=.slice A1 m.qc.length c1) (v2:=.slice A2 m.tok.qp.length c2) (t:=m.tok) hf.1;refine bodyPost_ret (v:=.tuple #[.agg (zF A0 A1 A2 c0 c1 c2 m),.int .i64 0]) ?_ rfl ⟨A0,A1,A2,c0,c1,c2,rfl,hf.2.1,hf.2.2⟩;exact xT results52 _ _ _ ⟨w.heap.size,0,none⟩ _ _ (by simp) (by simp) hl
end Go.Proofs.YtdpbdkacngaemaaGreatDoor.vt.pg
namespace Go.Proofs.YtdpbdkacngaemaaGreatDoor
open _root_.Go.Proofs.Tryz Go Go.RowKit
section
variable {P:Program} {ops:Array Oper} {Q:Exit→Act→World→Prop}
def qbs (ops:Array Oper)(m:Nat)(ds:List Tmp)(size:Nat)(fs:List Nat):Bool :=
 decide (m≤ops.size)&&decide (ds.length=m)&&decide ds.Nodup&&ds.all (fun d=>decide (d<size)) &&
 (List.range m).all (fun i=>match ops[i]? with
  | some o=>o.guard.isNone&&o.dst == ds[i]? && (match o.op with | .select .. => false|_=>true) &&
   o.after.all (fun e=>!Region.binds .any e || decide (e.on<i)) &&
   o.op.operands.toList.all (fun x=>match x with
    | .tmp t=>match ds.idxOf? t with
     | some j=>za ops i j
     | none=>true
    | _=>true)
  | none=>false) &&
 (List.range ops.size).all (fun j=>decide (j<m) || (match ops[j]? with
  | some o=>(o.after.any fun e=>Region.binds .any e&&decide (m≤e.on)) || (List.range m).all (fun i=>fs.contains i || za ops j i || (List.range m).any (fun k=>za ops k i))
  | none=>false))
structure qdl(ops:Array Oper)(m:Nat)(ds:List Tmp)(size:Nat)(fs:List Nat):Prop where
 le:m≤ops.size
 len:ds.length=m
 nodup:ds.Nodup
 small:∀d∈ds,d<size
 each:∀i,i<m→∃o,ops[i]?=some o∧o.guard=none∧o.dst=ds[i]? ∧ (∀cs b,o.op ≠ .select cs b)∧(∀e∈o.after,Region.binds .any e=true→e.on<i) ∧
  (∀t j,Operand.tmp t∈o.op.operands→ds.idxOf? t=some j→za ops i j=true)
 tail:∀j o,m≤j→ops[j]?=some o→(∃e∈o.after,Region.binds .any e=true∧m≤e.on)∨(∀i,i<m→i∈fs∨za ops j i=true∨∃k,k<m∧za ops k i=true)
theorem qj6{m:Nat}{ds:List Tmp}{size:Nat}{fs:List Nat}(h:qbs ops m ds size fs=true):qdl ops m ds size fs:=by
 unfold qbs at h;simp only[Bool.and_eq_true,decide_eq_true_eq,List.all_eq_true,List.mem_range]at h;obtain⟨⟨⟨⟨⟨h1,h2⟩,h3⟩,h4⟩,h5⟩,h6⟩:=h;refine⟨h1,h2,h3,h4,fun i hi=>?_,fun j o hj ho=>?_⟩
 ·have h:=h5 i hi;cases ho:ops[i]? with
  | none=>simp[ho]at h
  | some o =>
   simp only[ho,Bool.and_eq_true]at h;obtain⟨⟨⟨⟨g1,g2⟩,g3⟩,g4⟩,g5⟩:=h;refine⟨o,rfl,by simpa using g1,by simpa using g2,fun cs b hs=>by simp[hs]at g3,fun e he hb=>?_,fun t j ht hj=>?_⟩
   ·have:=Array.all_eq_true_iff_forall_mem.1 g4 e he;simpa[hb]using this
   ·have:=List.all_eq_true.1 g5 (.tmp t) (by simpa using ht);simpa[hj]using this
 ·have hlt:j<ops.size:=(Array.getElem?_eq_some_iff.1 ho).1;have h:=h6 j hlt;simp only[ho,Bool.or_eq_true,decide_eq_true_eq]at h;rcases h with h|h|h
  ·omega
  ·obtain⟨e,he,hb⟩:=Array.any_eq_true'.1 h;simp only[Bool.and_eq_true,decide_eq_true_eq]at hb;exact .inl ⟨e,he,hb.1,hb.2⟩
  ·refine .inr fun i hi=>?_;have:=List.all_eq_true.1 h i (by simpa using hi);simp only[Bool.or_eq_true,List.any_eq_true,List.mem_range]at this;rcases this with(h|h)|h
   ·exact .inl (by simpa using h)
   ·exact .inr (.inl h)
   ·exact .inr (.inr h)
variable {a0:Act} {w0:World} {m:Nat} {ds:List Tmp} {G:Nat→Value→World→Prop}
theorem pq {fs:List Nat}(ok:qdl ops m ds a0.tmps.size fs)
    (mono:∀i v w w',i<m→G i v w→Below w.heap.size w w'→G i v w')
    (step:∀i o vs w,i<m→ops[i]?=some o→Below w0.heap.size w0 w→(∀j,za ops i j=true→G j (vs j) w) →
     kh P (fun v w'=>Below w.heap.size w w'∧G i v w') ((execOp (valOf a0 ds vs) o).run P w))
    (fin:∀vs w',Below w0.heap.size w0 w'→(∀i,i<m→G i (vs i) w')→wpAny P .any ops Q (ops.size-m) (xF ops.size m) (qR vs ds a0) w') :
    ∀(r:Nat) (listed:Array Bool) (vs:Nat→Value) (a:Act) (w:World),qqG ops a0 w0 m ds G listed vs a w→(∀i∈fs,listed.getD i false=true)→zI m listed=r→wpAny P .any ops Q (ops.size-m+r) listed a w
 | 0,listed,vs,a,w,hI,hF,hr=>by
  have hall:=vd hr;have hl:listed=xF ops.size m:=by
   apply Array.ext
   ·simp[xF,hI.size]
   ·intro i h1 h2;have e:listed.getD i false=listed[i]:=by simp[h1]
    by_cases hi:i<m
    ·have:=hall i hi;rw[e]at this;simp[xF,this,hi]
    ·have:=hI.tail i (by omega);rw[e]at this;simp[xF,this,hi]
  have ha:a=qR vs ds a0:=by
   rw[hI.act];exact xE _ _ _ _ ds 0 a0 fun j _ hj=>⟨hall j (by rw[← ok.len];omega),fun _=>rfl⟩
  rw[hl,ha,Nat.add_zero];exact fin vs w hI.ext fun i hi=>hI.good i hi (hall i hi)
 | r+1,listed,vs,a,w,hI,hF,hr=>by
  refine⟨fun h0=>?_,fun i hi=>?_⟩
  ·
   exfalso;have hex:∃i,i<m∧listed.getD i false=false:=by
    apply Classical.byContradiction;intro hn;have:zI m listed=0:=by
     unfold zI;rw[List.countP_eq_zero];intro i hi;have hi':=List.mem_range.1 hi;cases hb:listed.getD i false
     ·exact absurd ⟨i,hi',hb⟩ hn
     ·simp
    omega
   have key:∀n i,i<n→i<m→listed.getD i false=false→False:=by
    intro n
    induction n with
    | zero=>intro i h;omega
    | succ n ih =>
     intro i hin vJ hf;obtain⟨o,ho,_,_,_,xu,_⟩:=ok.each i vJ;have hs:i<listed.size:=by rw[hI.size];exact Nat.lt_of_lt_of_le vJ ok.le
     have:i∈Region.ready .any ops listed:=by
      rw[mem_ready];refine⟨by rw[zk hs];exact hf,o,ho,fun e he hb=>?_⟩;cases hb':listed.getD e.on false
      ·exact(ih e.on (by have:=xu e he hb;omega) (by have:=xu e he hb;omega) hb').elim
      ·rfl
     rw[h0]at this;cases this
   obtain⟨i,vJ,hf⟩:=hex;exact key (i+1) i (by omega) vJ hf
  ·obtain⟨sq,o,ho,hall⟩:=mem_ready.1 hi;have hio:i<ops.size:=(Array.getElem?_eq_some_iff.1 ho).1;have hs:i<listed.size:=by rw[hI.size];exact hio
   have hf:listed.getD i false=false:=by rw[← zk hs];exact sq
   by_cases vJ:i<m
   ·obtain⟨o',ho',hgd,qaJ,qc5,xu,qaK⟩:=ok.each i vJ;obtain rfl:o=o':=Option.some.inj (ho.symm.trans ho');unfold wpOp;simp only[ho];have hw:Region.wanted o (yielded ops a.tmps)=true:=by simp[Region.wanted,hgd]
    rw[if_pos hw]
    left
    have hρ:execOp a.eval o=execOp (valOf a0 ds vs) o:=by
     refine execOp_congr o qc5 fun x hx=>?_;rw[hI.act];cases x with
     | tmp t =>
      cases hj:ds.idxOf? t with
      | none =>
       rw[yi hj];exact kj _ _ t ds 0 a0 (by rw[List.idxOf?_eq_none_iff]at hj;exact hj)
      | some j =>
       rw[yj hj];have hdj:ds[j]?=some t:=by
        have:=List.of_findIdx?_eq_some (p:=(· == t)) (xs:=ds) (i:=j) (by simpa[List.idxOf?]using hj);cases hd:ds[j]? with
        | none=>simp[hd]at this
        | some d=>simp[hd]at this;rw[this]
       obtain⟨e,he,hb,rfl⟩:=zZ ho (qaK t j hx hj);have:=ur (fun i=>listed.getD i false) vs t ds 0 e.on a0 ok.nodup hdj (by simpa using hall e he hb) (ok.small t (List.mem_of_getElem? hdj));simpa using this
     | const v=>simp only[valOf];rfl
     | global g=>simp only[valOf];rfl
     | func f=>simp only[valOf];rfl
    have hst:=step i o vs w vJ ho hI.ext fun j hj=>by
     obtain⟨e,he,hb,rfl⟩:=zZ ho hj;exact hI.good e.on (by have:=xu e he hb;omega) (hall e he hb)
    rw[← hρ]at hst;refine wR hst fun v w' ⟨bj,hG⟩=>?_;have hdi:∃d,ds[i]?=some d:=⟨ds[i]'(by rw[ok.len];exact vJ),List.getElem?_eq_getElem _⟩;obtain⟨d,hd⟩:=hdi;refine pq ok mono step fin r (listed.setIfInBounds i true) (zB vs i v) (a.put o.dst v) w' ⟨?_,?_,?_,?_,?_,?_⟩ (fun k hk=>getD_set_true (hF k hk)) ?_
    ·simp[hI.size]
    ·intro j hj;rw[getD_set_ne false (by omega)];exact hI.tail j hj
    ·intro j oj hoj hl e he hb;by_cases gX:j=i
     ·subst gX;obtain rfl:o=oj:=Option.some.inj (ho.symm.trans hoj);exact getD_set_true (hall e he hb)
     ·rw[getD_set_ne false (Ne.symm gX)]at hl;exact getD_set_true (hI.closed j oj hoj hl e he hb)
    ·exact qc3 hI.ext bj
    ·intro j hj hl;by_cases gX:j=i
     ·subst gX;simpa[zB]using hG
     ·rw[getD_set_ne false (Ne.symm gX)]at hl;have:=mono j _ w w' hj (hI.good j hj hl) bj;simpa[zB,gX]using this
    ·rw[qaJ,hd,hI.act];have:=ki (fun i=>listed.getD i false) vs i v ds 0 a0 d ok.nodup (Nat.zero_le _) (by simpa using hd) hf;rw[this,yF hs]
    ·have:=uH vJ hs hf;omega
   ·exfalso;have hex:∃k,k<m∧listed.getD k false=false:=by
     apply Classical.byContradiction;intro hn;have:zI m listed=0:=by
      unfold zI;rw[List.countP_eq_zero];intro k hk;cases hb:listed.getD k false
      ·exact absurd ⟨k,List.mem_range.1 hk,hb⟩ hn
      ·simp
     omega
    rcases ok.tail i o (by omega) ho with⟨e,he,hb,hme⟩|quG
    ·have h1:=hall e he hb;rw[hI.tail e.on hme]at h1;cases h1
    ·have key:∀n k,m-k≤n→k<m→listed.getD k false=true:=by
        intro n
        induction n with
        | zero=>intro k h1 h2;omega
        | succ n ih =>
         intro k h1 h2;rcases quG k h2 with h|h|⟨k',dA,h⟩
         ·exact hF k h
         ·obtain⟨e,he,hb,rfl⟩:=zZ ho h;exact hall e he hb
         ·obtain⟨ok',qmu,_,_,_,xu,_⟩:=ok.each k' dA;obtain⟨e,he,hb,rfl⟩:=zZ qmu h;have hlt:=xu e he hb;exact hI.closed k' ok' qmu (ih k' (by omega) dA) e he hb
     obtain⟨k,hk,hkf⟩:=hex;rw[key m k (by omega) hk]at hkf;cases hkf
theorem vw {id:Nat}{a:Act}{w:World}(hm:P.follows .mixedOrders=true)(m:Nat)(ds:List Tmp)(hok:qbs ops m ds a.tmps.size [0]=true)(G:Nat→Value→World→Prop)
    (o0:Oper) (v0:Value) (ho0:ops[0]?=some o0) (h0m:0<m) (hs:Region.noSelect ops=true) (hf:Region.free .any ops (Array.replicate ops.size false) 0=true) (hr:(Region.ready .any ops (Array.replicate ops.size false)).contains 0=true)
    (hQ:∀c a w,Q (.panic c) (a.put o0.dst v0) w→Q (.panic c) a w) (hy:Yields P ops o0 v0 a) (hG0:∀W,G 0 v0 W)
    (mono:∀i v w w',i<m→G i v w→Below w.heap.size w w'→G i v w')
    (step:∀i o vs ρ w',i<m→ops[i]?=some o→Reads a ds vs ρ→(∀f,ρ (.func f)=a.eval (.func f))→Below w.heap.size w w'→(∀j,za ops i j=true→G j (vs j) w') →
     kh P (fun v w''=>Below w'.heap.size w' w''∧G i v w'') ((execOp ρ o).run P w'))
    (fin:∀vs w',Below w.heap.size w w'→(∀i,i<m→G i (vs i) w')→wpAny P .any ops Q (ops.size-m) (xF ops.size m) (qR vs ds a) w') :
    (Code.region id ops true).wp P Q a w:=by
 have ok:=qj6 hok;have hd:Below w.heap.size w { w with drawn:=w.drawn+1 }:=⟨rfl,rfl,rfl,Nat.le_refl _,fun _ _=>rfl⟩;refine wp_region_any hm ?_;have hc:zI m (Array.replicate ops.size false)=m:=by
  have:=List.countP_eq_length (l:=List.range m) (p:=fun i=>!(Array.replicate ops.size false).getD i false) |>.2 fun i _=>by rw[zO];rfl
  unfold zI;rw[this,List.length_range]
 have ha:a=qG (fun i=>(Array.replicate ops.size false).getD i false) (fun _=>undef) ds 0 a:=by
  have:qG (fun i=>(Array.replicate ops.size false).getD i false) (fun _=>undef) ds 0 a=qG (fun _=>false) (fun _=>undef) ds 0 a:=xE _ _ _ _ ds 0 a fun j _ _=>⟨zO _ j,fun _=>rfl⟩;rw[this];exact(kK ds 0 a).symm
 have hsz:0<(Array.replicate ops.size false).size:=by
  have:=ok.le;simp;omega
 have hc2:=uH (listed:=Array.replicate ops.size false) h0m hsz (zO _ 0);obtain⟨o',ho',hgd,qaJ,qc5,xu,qaK⟩:=ok.each 0 h0m;obtain rfl:o0=o':=Option.some.inj (ho0.symm.trans ho');have hdi:∃d,ds[0]?=some d:=⟨ds[0]'(by rw[ok.len];exact h0m),List.getElem?_eq_getElem _⟩;obtain⟨d,hdd⟩:=hdi;have hI:qqG ops a w m ds G ((Array.replicate ops.size false).setIfInBounds 0 true) (zB (fun _=>undef) 0 v0) (a.put o0.dst v0) { w with drawn:=w.drawn+1 }:={
  size:=by simp
  tail:=fun j hj=>by
   rw[getD_set_ne false (by omega)];exact zO _ j
  closed:=fun i o hio h e he hb=>by
   by_cases hi:i=0
   ·subst hi;obtain rfl:o0=o:=Option.some.inj (ho0.symm.trans hio);have:=xu e he hb;omega
   ·rw[getD_set_ne false (Ne.symm hi),zO]at h;cases h
  ext:=hd
  good:=fun i _ h=>by
   by_cases hi:i=0
   ·subst hi;simpa[zB]using hG0 _
   ·rw[getD_set_ne false (Ne.symm hi),zO]at h;cases h
  act:=by
   have:=ki (fun i=>(Array.replicate ops.size false).getD i false) (fun _=>undef) 0 v0 ds 0 a d ok.nodup (Nat.zero_le _) (by simpa using hdd) (zO _ 0);rw[qaJ,hdd]
   conv=>lhs;rw[ha]
   rw[this,yF hsz] }
 have h1:=pq (Q:=Q) (fs:=[0]) ok mono (fun i o vs w' hi ho hb hG=>step i o vs (valOf a ds vs) w' hi ho ⟨fun _ _ h=>yj h,fun _ h=>yi h,fun _=>rfl⟩ (fun _=>rfl) hb hG) fin (m-1) _ _ _ _ hI (fun i hi=>by
  obtain rfl:i=0:=by simpa using hi
  simp;have:=ok.le;omega) (by omega)
 have e:ops.size=(ops.size-m+(m-1))+1:=by
  have:=ok.le;omega
 have h2:=wpAny_take (P:=P) (md:=.any) (ops:=ops) (Q:=Q) (fuel:=ops.size-m+(m-1)) ho0 hs hf hr hQ hy h1;rw[← e]at h2;exact h2
end
end Go.Proofs.YtdpbdkacngaemaaGreatDoor
namespace Go.Proofs.YtdpbdkacngaemaaGreatDoor.vt.pg
open _root_.Go.Proofs.Tryz Go Go.RowKit ib mt im sp
abbrev pt (g:Nat):Value:=.pointer (some ⟨g,0,none⟩)
structure Nx(G:Nat→Prop)(w:World)(g:Nat)(m:Mt):Prop where
 ex:∃A0 A1 A2 c0 c1 c2,qf w g 96 (zF A0 A1 A2 c0 c1 c2 m)∧ui (fun j=>G j∧j≠g) w A0 A1 A2 c0 c1 c2 m
def qr6 (G:Nat→Prop)(g:Nat)(m':Mt)(w:World)(e:Ending)(w':World):Prop:=e=.returned (.tuple #[])∧Nx G w' g m'∧ib.qz (fun j=>j=g) w w'
def wH (G:Nat→Prop)(W0:World)(f:Value)(m m':Mt):Prop:=∃k uP,f=.func (.func k) #[] uP∧(∀(a:Array Value) (W:World),Sem.run prog (callFunc k a) W=Result.ok (Next.enter k a) W) ∧
 ∀W g,Below W0.heap.size W0 W→W0.heap.size≤g→Nx G W g m→Calls prog k (#[pt g]++uP) W (qr6 G g m' W)
theorem wH.below{G:Nat→Prop}{w w':World}{f:Value}{m m':Mt}(h:wH G w f m m')(hb:Below w.heap.size w w'):wH G w' f m m':=by
 obtain⟨k,uP,h1,h2,h3⟩:=h;exact⟨k,uP,h1,h2,fun W g h4 h5 h6=>h3 W g (qa hb h4) (Nat.le_trans hb.size h5) h6⟩
theorem ai {G:Nat→Prop}{w:World}{g k:Nat}{u:Value}(hg:∀j,G j→j≠g):wG G w (w.setCell ⟨g,k,none⟩ u) :=
 ⟨by simp[World.setCell],fun j hj _=>qw _ _ _ _ _ (hg j hj)⟩
theorem qr7(w:World)(g k:Nat)(u:Value):ib.qz (fun j=>j=g) w (w.setCell ⟨g,k,none⟩ u):=(ib.qz.refl _ w).setCell ⟨g,k,none⟩ u (.inl rfl)
theorem Nx.drew{G:Nat→Prop}{w:World}{g:Nat}{m:Mt}(h:Nx G w g m):Nx G w.drew g m:=by
 obtain⟨A0,A1,A2,c0,c1,c2,hk,ht⟩:=h.ex;exact⟨A0,A1,A2,c0,c1,c2,hk,ht.stay ⟨Nat.le_refl _,fun j _ _=>rfl⟩⟩
theorem qv0{w:World}(t:TypeId)(v:Value):(w.alloc (.cells #[v] t)).cell? ⟨w.heap.size,0,none⟩=some v:=(qf.new w t #[v]).cell 0
theorem qge{G:Nat→Prop}{w:World}{g pb:Nat}{m:Mt}{A:Option Addr}{c:Nat}{l:List Int}(hN:Nx G w g m)(hp:w.cell? ⟨pb,0,none⟩=some (.slice A l.length c))(hpb:pb<w.heap.size)(hl:bu G w A l c)(h1:l.length≤1000)(hG:G w.heap.size) :
    Calls prog 142 #[pt g,pt pb] w (qr6 G g { m with live:=l } w):=by
 obtain⟨A0,A1,A2,c0,c1,c2,hk,ht⟩:=hN.ex;have HC:=QH (gu A c l w hl.at_ h1);have HK:=QH hk;have HT:=QH ht;have HZ:=QH (hl.at_.ints.mem);have HG:=QH hG;clear hN hk ht hl h1 hG;go_enter func142,ntmps142;go_wp2_with fail;refine HC.out.mono ?_;rintro e W1 eo;obtain rfl:=eo.1;have hb:=eo.2.2;have zt:=HK.out.below hb;have jG:=HK.out.lt;have hs:=eo.sl HZ.out (fun j=>G j∧j≠g) ⟨HG.out,by omega⟩;have ht1:=HT.out.below hb;have HN2:Hid (Nx G (W1.setCell ⟨g,0,none⟩ (.slice (some ⟨w.heap.size,0,none⟩) l.length l.length)) g { m with live:=l }) :=
  ⟨_,A1,A2,_,c1,c2,by have:=zt.qg 0 (.slice (some ⟨w.heap.size,0,none⟩) l.length l.length);simpa[zF]using this,(ui.mk (m:={ m with live:=l }) hs ht1.qc ht1.room ht1.qp ht1.base ht1.target ht1.next ht1.all).stay (ai fun j hj=>hj.2)⟩
 have qA:Hid (ib.qz (fun j=>j=g) w (W1.setCell ⟨g,0,none⟩ (.slice (some ⟨w.heap.size,0,none⟩) l.length l.length))):=(ib.qz.of_below hb).setCell _ _ (.inl rfl);have k0:=zt.cell 0;have f0:=zt.frozen 0;have zaV:=zt.lt;simp only[zF,List.getElem?_toArray,List.getElem?_cons_zero]at k0;clear eo hb zt hs ht1 HC HK HT;go_wp2_with fail
 go_end0
 exact⟨rfl,HN2.out,qA.out⟩
def MkP (G:Nat→Prop)(R:Mt→Mt→Prop)(w:World)(e:Ending)(w':World):Prop:=∃f,e=.returned f∧(∀m m',R m m'→wH G w' f m m')∧Below w.heap.size w w'
theorem qj7{G:Nat→Prop}{w:World}{A:Option Addr}{c:Nat}{l:List Int}(hl:bu G w A l c)(h1:l.length≤1000)(hG:∀j,w.heap.size≤j→G j) :
    Calls prog 64 #[.slice A l.length c] w (MkP G (fun m m'=>m'={ m with live:=l }) w):=by
 have HB:=QH ((Below.refl w.heap.size w).alloc (Nat.le_refl _) (.cells #[.slice A l.length c] 80));have HL:=QH hl;have HG:=QH hG;clear hl hG;go_enter func64,ntmps64;go_wp2_with fail;go_ret;refine⟨_,rfl,fun m m' hR=>?_,HB.out⟩;subst hR;refine⟨_,_,rfl,fun a W=>by go_simp,fun W g hb hg hN=>?_⟩;have hbb:=qa HB.out hb;have hlt:w.heap.size<(w.alloc (.cells #[.slice A l.length c] 80)).heap.size:=by simp
 exact qge hN ((hb.cell (p:=⟨w.heap.size,0,none⟩) hlt).trans (qv0 _ _)) (Nat.lt_of_lt_of_le hlt hb.size) (HL.out.stay (wG.of_below hbb)) h1 (HG.out _ hbb.size)
end Go.Proofs.YtdpbdkacngaemaaGreatDoor.vt.pg
