/- VtPure, VtTab, VtMath, VtPlace, ImMath, VtOps, VtDoes, VtStage, Chgs, ChHyp, CSum, VtHyp, VtTrio, VgMem, Parts, VgCop, VgRow, VgDec. -/
import Derived.Test.YtdpbdkacngaemaaGreatDoorZR3
import Derived.Laws.IdiomCopy
import Derived.Lib.SlBuf
set_option linter.unusedVariables false
set_option linter.unusedSimpArgs false
set_option maxHeartbeats 30000000
set_option maxRecDepth 100000
namespace Go.Proofs.YtdpbdkacngaemaaGreatDoor.vt
open _root_.Go.Proofs.Tryz Go Go.RowKit jr mt im sp
abbrev Bt:=List UInt8
abbrev Tg:=Int→Bt
def zb:Bt:=List.replicate 32 0
def eE (t:Tg)(k:Int):Bt:=if k=0 then zb else t k
def volume (t:Tg)(qu:List Int):List Bt:=qu.map (eE t)
def xz (m:Mt):List (List Int):=m.live::m.tok.qu::m.qc.map (·.qu)
def held (m:Mt)(z:Int):Prop:=∃l∈xz m,z∈l
def qf:List Int→List (Int × Bt)→List Int × List Wr
 | _,[]=>([],[])
 | fr,(_,s)::r=>if s=zb then(0::(qf fr r).1,(qf fr r).2)else match fr with
  | []=>(0::(qf [] r).1,(qf [] r).2)
  | f::fr=>(f::(qf fr r).1,(f,s)::(qf fr r).2)
def full (x:List (Int × Bt)):Nat:=(x.filter fun c=>decide (c.2≠zb)).length
def qU (N:Nat)(m:Mt)(x:List (Int × Bt)):(List Int × List Wr) × Int :=
 if (jq (yZ (xz m) N).1 (full x)).2=0 then(qf (jq (yZ (xz m) N).1 (full x)).1 x,0)else(([],[]),(jq (yZ (xz m) N).1 (full x)).2)
def xP (m:Mt):List Bt:=qN (zD m)
def xo (t:Tg):Nat→List Bt→List Wr
 | _,[]=>[]
 | o,s::r=>(if t (o:Int)=s then[]else[((o:Int),s)])++xo t (o+1) r
def qhP (t:Tg)(m:Mt):List Wr:=xo t 145 (xP m)
def qO (t:Tg)(m:Mt)(ws:List Wr):List Wr:=qhP t m++ws
structure qfO where
 code:Int
 m:Mt
 ws:List Wr
def qI (m:Mt):Gd:=match m.qc.getLast? with
 | none=>(0,0)
 | some s=>s.g
def uP (m:Mt):List Int:=match m.qc.getLast? with
 | none=>List.replicate m.live.length 0
 | some s=>s.qu
def xm:List Int→List (Int × Bt)→List Int→List Int
 | l,[],_=>l
 | l,_::_,[]=>l
 | l,(k,_)::r,a::at_=>xm (l.set k.toNat a) r at_
def tX (m:Mt)(g:Gd):Option Nat:=m.qc.findIdx? fun s=>decide (s.g=g)
def gS (l:List Sp)(i:Nat):List Sp:=l.modify i fun s=>{ s with hid:=true }
def qnt (m:Mt)(g:Gd):qfO:=match tX m g with
 | none=>⟨5,m,[]⟩
 | some i=>match m.qc[i]? with
  | none=>⟨5,m,[]⟩
  | some s=>if s.hid then⟨14,m,[]⟩else⟨0,{ m with qc:=gS m.qc i },[]⟩
def xC (b:Nat):Int→List (Int × Bt)→Bool
 | _,[]=>true
 | p,(k,s)::r=>decide (p<k)&&decide (k<(b:Int))&&decide (s.length=32)&&xC b k r
structure Tf where
 base:Gd
 target:Gd
 next:Int
 all:Int
def tf (t:Tk):Tf:=⟨t.base,t.target,t.next,t.all⟩
def zO (b:Nat)(n:Nat)(last:Gd)(t:Tf)(x:List (Int × Bt)):Int :=
 if t.base≠last∨mt.above t.target last=false∨t.all<0∨(b:Int)<t.all∨t.next<0∨t.all<t.next∨¬ (t.next=0↔t.all=0)then 2
 else if xC b (-1) x=false then 2
 else if t.next=t.all∧20≤n then 3 else 0
def xp (N:Nat)(m:Mt)(t:Tf)(x:List (Int × Bt)):qfO :=
 if zO m.live.length m.qc.length (qI m) t x≠0 then⟨zO m.live.length m.qc.length (qI m) t x,m,[]⟩
 else if (qU N m x).2≠0 then⟨(qU N m x).2,m,[]⟩
 else
  let qu:=xm (if m.tok.base=t.base∧m.tok.target=t.target∧m.tok.all=t.all then m.tok.qu else uP m) x (qU N m x).1.1
  if t.next=t.all then⟨0,⟨qu,m.qc++[⟨t.target,qu,false⟩],yB⟩,(qU N m x).1.2⟩
  else⟨0,{ m with tok:=⟨t.base,t.target,t.next,t.all,qu⟩ },(qU N m x).1.2⟩
def qbh (t:Tg)(s:Sp):ch.Sn:=⟨s.g,volume t s.qu,s.hid⟩
def uk (t:Tg)(m:Mt):ch.CH:=⟨volume t m.live,m.qc.map (qbh t)⟩
def jT (b N:Nat)(l:List Int):Prop:=l.length=b∧(∀z∈l,z=0∨(193≤z∧z<(N:Int)))∧∀i j,i<j→j<l.length→pl l i=pl l j→pl l i=0
def uQ:Gd→List Gd→Prop
 | _,[]=>True
 | p,g::r=>mt.above g p=true∧uQ g r
structure jK(b N:Nat)(m:Mt):Prop where
 b1:1≤b
 b8:b≤8
 live:jT b N m.live
 few:m.qc.length≤20
 dG:∀s∈m.qc,jT b N s.qu
 qj3:uQ (0,0) (m.qc.map (·.g))
 tok:m.tok=yB∨(m.tok.base=qI m∧mt.above m.tok.target m.tok.base=true∧1≤m.tok.next∧m.tok.next<m.tok.all∧m.tok.all≤(b:Int)∧jT b N m.tok.qu)
 sZ:mB m
theorem qnu{l:List Int}(h:∀i j,i<j→j<l.length→pl l i=pl l j→pl l i=0):yz l l.length=false:=by
 cases hd:yz l l.length with
 | false=>rfl
 | true =>
  exfalso;unfold yz at hd;obtain⟨i,hi,h2⟩:=List.any_eq_true.1 hd;have hi:=List.mem_range.1 hi;simp only[Bool.and_eq_true,decide_eq_true_eq]at h2;obtain⟨h0,h3⟩:=h2;unfold dA at h3;obtain⟨j,hj,h4⟩:=List.any_eq_true.1 h3;have hj:=List.mem_range.1 hj;simp only[decide_eq_true_eq]at h4;have:=h j i hj hi h4.symm;exact h0 (h4.trans this)
theorem jT.check{b N:Nat}{l:List Int}(h:jT b N l)(h1:1≤b)(h8:b≤8):zM l (b:Int) (N:Int)=0:=by
 obtain⟨hl,hz,hd⟩:=h;unfold zM;rw[if_neg (by omega),if_neg,if_neg (by rw[qnu hd];decide)];rw[Bool.not_eq_true,List.any_eq_false];intro z hzm;unfold gV;rcases hz z hzm with rfl|⟨ha,hb⟩
 ·simp
 ·simp;omega
theorem jT.mono{b N M:Nat}{l:List Int}(h:jT b N l)(hNM:N≤M):jT b M l:=⟨h.1,fun z hz=>by rcases h.2.1 z hz with h|h;exact .inl h;exact .inr (by omega),h.2.2⟩
theorem jK.mono{b N M:Nat}{m:Mt}(h:jK b N m)(hNM:N≤M):jK b M m :=
 ⟨h.b1,h.b8,h.live.mono hNM,h.few,fun s hs=>(h.dG s hs).mono hNM,h.qj3,by
  rcases h.tok with h|⟨h1,h2,h3,h4,h5,h6⟩
  ·exact .inl h
  ·exact .inr ⟨h1,h2,h3,h4,h5,h6.mono hNM⟩,h.sZ⟩
theorem oF {b N:Nat}(h1:1≤b)(h8:b≤8):∀(l:List Sp) (p:Gd),(∀s∈l,jT b N s.qu)→uQ p (l.map (·.g))→yc (b:Int) (N:Int) p l=(0,match l.getLast? with
    | none=>p
    | some s=>s.g)
 | [],p,_,_=>rfl
 | s::r,p,hi,hr=>by
  obtain⟨ha,hr2⟩:=hr;have ih:=oF h1 h8 r s.g (fun x hx=>hi x (by simp[hx])) hr2;unfold yc;rw[if_pos ha,if_pos ((hi s (by simp)).check h1 h8),ih];cases r with
  | nil=>rfl
  | cons y r=>rw[List.getLast?_cons_cons];rfl
theorem jK.check{b N:Nat}{m:Mt}(h:jK b N m):xx m (b:Int) (N:Int)=0:=by
 have hs:=oF h.b1 h.b8 m.qc (0,0) h.dG h.qj3;have h4:=h.few;unfold xx;rw[h.live.check h.b1 h.b8,if_neg (by simp),if_neg (by omega),hs];dsimp only;rw[if_neg (by simp)];have e:(match m.qc.getLast? with
  | none=>((0,0):Gd)
  | some s=>s.g)=qI m:=rfl
 rw[e];rcases h.tok with ht|⟨t1,t2,t3,t4,t5,t6⟩
 ·rw[ht];rfl
 ·unfold uz;have hne:m.tok.target≠(0,0):=by
   intro e0;rw[e0]at t2;unfold mt.above at t2;simp at t2
  rw[if_neg hne];have hb:dC m.tok (qI m) (b:Int)=false:=by
   unfold dC;rw[← t1,t2];simp;omega
  rw[hb];simp only[Bool.false_eq_true,if_false];exact t6.check h.b1 h.b8
theorem jK.len{b N:Nat}{m:Mt}(h:jK b N m):m.live.length=b:=h.live.1
theorem cy {z:Int}(h:z<65536):(xJ z).length≤3:=yN _ (by omega)
theorem lN:∀ {l:List Int},(∀z∈l,z<65536)→(zv l).length≤3*l.length
 | [],_=>by simp[zv]
 | z::l,h=>by
  have ih:=lN (l:=l) (fun y hy=>h y (by simp[hy]));have h1:=cy (h z (by simp));show(xJ z++zv l).length≤_;rw[List.length_append,List.length_cons];omega
theorem jT.small{b N:Nat}{l:List Int}(h:jT b N l)(hN:N≤1024)(h8:b≤8):(zv l).length≤24:=by
 have:=lN (l:=l) (fun z hz=>by rcases h.2.1 z hz with h|h <;> omega);have:=h.1;omega
theorem oG {b N:Nat}(hN:N≤1024)(h8:b≤8):∀ {l:List Sp},(∀s∈l,jT b N s.qu)→(ji l).length≤45*l.length
 | [],_=>by simp[ji]
 | s::l,h=>by
  have ih:=oG hN h8 (l:=l) (fun y hy=>h y (by simp[hy]));have h1:=(h s (by simp)).small hN h8;have g1:=jr.qA s.g.1;have g2:=jr.qA s.g.2;have g3:=yN (if s.hid then 1 else 0) (by split <;> omega);show(spB s++ji l).length≤_;rw[List.length_append,List.length_cons];unfold spB jY;simp only[List.length_append];omega
theorem jK.size{b N:Nat}{m:Mt}(h:jK b N m)(hN:N≤1024):(zD m).length≤999:=by
 have h1:=h.live.small hN h.b8;have h2:=oG hN h.b8 h.dG;have h3:=yN m.live.length (by have:=h.len;have:=h.b8;omega);have h4:=yN m.qc.length (by have:=h.few;omega);have h5:(tkB m.tok).length≤69:=by
  rcases h.tok with ht|⟨t1,t2,t3,t4,t5,t6⟩
  ·rw[ht];decide
  ·unfold tkB;split
   ·have:=yN 0 (by omega);omega
   ·have g1:=jr.qA m.tok.base.1;have g2:=jr.qA m.tok.base.2;have g3:=jr.qA m.tok.target.1;have g4:=jr.qA m.tok.target.2;have g5:=yN 1 (by omega);have hb:=h.b8;have g6:=cy (z:=m.tok.next) (by omega);have g7:=cy (z:=m.tok.all) (by omega);have g8:=t6.small hN h.b8;unfold jY;simp only[List.length_append];omega
 have h6:=h.few;unfold zD;simp only[List.length_append];omega
theorem jK.enc{b N:Nat}{m:Mt}(h:jK b N m)(hN:N≤1024):gW m=(zD m,0):=by
 have hs:=h.size hN;have hc:xx m (b:Int) (1024:Int)=0:=(h.mono hN).check;have hl:=h.len;unfold gW;rw[hl,hc,if_neg (by simp),if_neg];show ¬ 48<nsec (zD m).length;unfold nsec;omega
theorem jK.back{b N:Nat}{m:Mt}(h:jK b N m)(hN:N≤1024):nt (zD m)=(m,0):=qcj h.sZ (h.enc hN)
theorem xW {b N:Nat}{m:Mt}(h:jK b N m)(hN:N≤1024):1≤(xP m).length∧(xP m).length≤48:=by
 have hs:=h.size hN;unfold xP;rw[yf];unfold nsec;omega
theorem qdc(m:Mt):∀s∈xP m,s.length=32:=by
 intro s hs;obtain⟨i,hi,rfl⟩:=List.getElem_of_mem hs;exact aX _ i hi
theorem lO:∀(a b:List Wr) (t:Tg),over t (a++b)=over (over t a) b
 | [],_,_=>rfl
 | x::a,b,t=>lO a b _
theorem ag:∀(l:List Wr) (t:Tg) (k:Int),(∀x∈l,x.1≠k)→over t l k=t k
 | [],_,_,_=>rfl
 | x::l,t,k,h=>by
  show over (fun j=>if j=x.1 then x.2 else t j) l k=t k;rw[ag l _ k (fun y hy=>h y (by simp[hy]))];exact if_neg (Ne.symm (h x (by simp)))
theorem mW:∀(l:List Wr) (t:Tg) (x:Wr),x∈l→(l.map (·.1)).Nodup→over t l x.1=x.2
 | y::l,t,x,h,hn=>by
  rw[List.map_cons,List.nodup_cons]at hn;show over (fun j=>if j=y.1 then y.2 else t j) l x.1=x.2;rcases List.mem_cons.1 h with rfl|h
  ·rw[ag l _ _ (fun z hz e=>hn.1 (by rw[← e];exact List.mem_map_of_mem hz))];exact if_pos rfl
  ·exact mW l _ x h hn.2
theorem ux {t:Tg}:∀ {ss:List Bt} {o:Nat} {x:Wr},x∈xo t o ss→∃i,∃h:i<ss.length,x.1=((o+i:Nat):Int)∧x.2=ss[i]
 | [],o,x,h=>by simp[xo]at h
 | s::r,o,x,h=>by
  unfold xo at h;rcases List.mem_append.1 h with h|h
  ·split at h
   ·simp at h
   ·obtain rfl:x=((o:Int),s):=by simpa using h
    exact⟨0,by simp,rfl,rfl⟩
  ·obtain⟨i,hi,h1,h2⟩:=ux h;exact⟨i+1,by simpa using hi,by rw[h1];congr 1;omega,by simpa using h2⟩
theorem ah {t:Tg}:∀(ss:List Bt) (o:Nat),((xo t o ss).map (·.1)).Nodup
 | [],o=>by simp[xo]
 | s::r,o=>by
  unfold xo;rw[List.map_append,List.nodup_append];refine⟨by split <;> simp,ah r (o+1),fun a ha b hb=>?_⟩;split at ha
  ·simp at ha
  ·obtain rfl:a=(o:Int):=by simpa using ha
   obtain⟨x,hx,rfl⟩:=List.mem_map.1 hb;obtain⟨i,_,h1,_⟩:=ux hx;omega
theorem bf {t:Tg}:∀(ss:List Bt) (o:Nat),(xo t o ss).length≤ss.length
 | [],o=>by simp[xo]
 | s::r,o=>by
  have ih:=bf (t:=t) r (o+1);unfold xo;rw[List.length_append,List.length_cons];split <;> simp <;> omega
theorem qfP{t:Tg}(ss:List Bt)(o:Nat)(i:Nat)(h:i<ss.length):over t (xo t o ss) ((o+i:Nat):Int)=ss[i]:=by
 by_cases hm:∃x∈xo t o ss,x.1=((o+i:Nat):Int)
 ·obtain⟨x,hx,he⟩:=hm;obtain⟨j,hj,h1,h2⟩:=ux hx;have:=mW _ t x hx (ah ss o);rw[he]at this;rw[this,h2];have:j=i:=by omega
  subst this;rfl
 ·rw[ag _ _ _ (fun x hx e=>hm ⟨x,hx,e⟩)];have key:∀(ss:List Bt) (o i:Nat) (h:i<ss.length),(¬ ∃x∈xo t o ss,x.1=((o+i:Nat):Int))→t ((o+i:Nat):Int)=ss[i]:=by
   intro ss
   induction ss with
   | nil=>intro o i h;simp at h
   | cons s r ih =>
    intro o i h hn;cases i with
    | zero =>
     apply Classical.byContradiction;intro hne;refine hn ⟨((o:Int),s),?_,by simp⟩;unfold xo;rw[if_neg (by simpa using hne)];simp
    | succ i =>
     have:=ih (o+1) i (by simpa using h) (fun⟨x,hx,e⟩=>hn ⟨x,by unfold xo;exact List.mem_append_right _ hx,by rw[e];congr 1;omega⟩);rw[show o+(i+1)=o+1+i by omega,this];rfl
  exact key ss o i h hm
structure xK(b N:Nat)(t:Tg)(m:Mt):Prop where
 ok:jK b N m
 N0:193≤N
 N1:N≤1024
 home:∀i (h:i<(xP m).length),t ((145+i:Nat):Int)=(xP m)[i]
 len:∀k,145≤k→(t k).length=32
structure tY(N:Nat)(m:Mt)(ws:List Wr):Prop where
 few:ws.length≤8
 nodup:(ws.map (·.1)).Nodup
 range:∀x∈ws,193≤x.1∧x.1<(N:Int)
 free:∀x∈ws,¬ held m x.1
 len:∀x∈ws,x.2.length=32
section
variable {b N:Nat} {t:Tg} {m m':Mt} {ws:List Wr}
theorem fj (h:xK b N t m)(ho:jK b N m')(hw:tY N m ws):((qO t m' ws).map (·.1)).Nodup:=by
 have h48:=(xW ho h.N1).2;unfold qO qhP;rw[List.map_append,List.nodup_append];refine⟨ah _ _,hw.nodup,fun a ha c hc=>?_⟩;obtain⟨x,hx,rfl⟩:=List.mem_map.1 ha;obtain⟨y,hy,rfl⟩:=List.mem_map.1 hc;obtain⟨i,hi,h1,_⟩:=ux hx;have:=(hw.range y hy).1;omega
theorem ai (h:xK b N t m)(ho:jK b N m')(hw:tY N m ws):∀x∈qO t m' ws,145≤x.1∧x.1<(N:Int)∧x.2.length=32:=by
 intro x hx;have h48:=(xW ho h.N1).2;have hN:=h.N0;rcases List.mem_append.1 hx with hx|hx
 ·obtain⟨i,hi,h1,h2⟩:=ux hx;refine⟨by omega,by omega,?_⟩;rw[h2];exact qdc m' _ (List.getElem_mem hi)
 ·have:=hw.range x hx;exact⟨by omega,this.2,hw.len x hx⟩
theorem aj:∀(l:List Wr) (acc:List Int),(acc++l.map (·.1)).Nodup→found acc l=acc++l.map (·.1)
 | [],acc,_=>by simp[found]
 | x::l,acc,h=>by
  have hx:acc.contains x.1=false:=by
   rw[List.map_cons,List.nodup_append]at h;rw[Bool.eq_false_iff];intro hc;rw[List.contains_iff_mem]at hc;exact h.2.2 x.1 hc x.1 (by simp) rfl
  have e:Go.Proofs.YtdpbdkacngaemaaGreatDoor.dk.ye acc x.1=acc++[x.1]:=by
   unfold Go.Proofs.YtdpbdkacngaemaaGreatDoor.dk.ye;rw[hx];rfl
  have ih:=aj l (acc++[x.1]) (by simpa using h);show found (Go.Proofs.YtdpbdkacngaemaaGreatDoor.dk.ye acc x.1) l=_;rw[e,ih];simp
theorem qfQ(h:xK b N t m)(ho:jK b N m')(hw:tY N m ws):oA N (qO t m' ws)=0:=by
 have h48:=(xW ho h.N1).2;have hl:(qO t m' ws).length≤60:=by
  have:=bf (t:=t) (xP m') 145;have:=hw.few;unfold qO qhP;rw[List.length_append];omega
 have hp:vQ N (qO t m' ws)=true:=by
  unfold vQ;have hf:=aj (qO t m' ws) [] (by simpa using fj h ho hw);rw[hf];simp only[List.nil_append,List.length_map,decide_true,Bool.and_true,List.all_eq_true];intro x hx;obtain⟨h1,h2,h3⟩:=ai h ho hw x hx;unfold okW;simp;exact⟨⟨h1,h2⟩,h3⟩
 unfold oA;split
 ·rfl
 ·rw[if_neg (by omega),hp];simp
theorem qdd(h:xK b N t m)(ho:jK b N m')(hw:tY N m ws)(i:Nat)(hi:i<(xP m').length):over t (qO t m' ws) ((145+i:Nat):Int)=(xP m')[i]:=by
 have h48:=(xW ho h.N1).2;unfold qO;rw[lO,ag ws _ _ (fun x hx e=>by have:=(hw.range x hx).1;omega)];exact qfP (xP m') 145 i hi
theorem lQ (h:xK b N t m)(ho:jK b N m')(hw:tY N m ws)(z:Int)(hz:held m z)(q0k:193≤z):over t (qO t m' ws) z=t z:=by
 have h48:=(xW ho h.N1).2;refine ag _ _ _ fun x hx e=>?_;rcases List.mem_append.1 hx with hx|hx
 ·obtain⟨i,hi,h1,_⟩:=ux hx;omega
 ·exact hw.free x hx (e ▸ hz)
theorem qfR(h:xK b N t m)(ho:jK b N m')(hw:tY N m ws)(x:Wr)(hx:x∈ws):over t (qO t m' ws) x.1=x.2 :=
 mW _ t x (List.mem_append_right _ hx) (fj h ho hw)
theorem oH:∀(l:List Wr) (t:Tg),(∀k,145≤k→(t k).length=32)→(∀x∈l,x.2.length=32)→∀k,145≤k→(over t l k).length=32
 | [],_,h,_=>h
 | x::l,t,h,hl=>oH l _ (fun k hk=>by
  show(if k=x.1 then x.2 else t k).length=32;split
  ·exact hl x (by simp)
  ·exact h k hk) (fun y hy=>hl y (by simp[hy]))
theorem xK.next(h:xK b N t m)(ho:jK b N m')(hw:tY N m ws):xK b N (over t (qO t m' ws)) m' :=
 ⟨ho,h.N0,h.N1,qdd h ho hw,oH _ _ h.len fun x hx=>(ai h ho hw x hx).2.2⟩
theorem oI (h:xK b N t m)(ho:jK b N m')(hw:tY N m ws){l:List Int}(hl:l∈xz m)(hk:jT b N l):volume (over t (qO t m' ws)) l=volume t l:=by
 unfold volume;apply List.map_congr_left;intro z hz;unfold eE;split
 ·rfl
 ·rename_i h0;rcases hk.2.1 z hz with h1|h1
  ·exact absurd h1 h0
  ·exact lQ h ho hw z ⟨l,hl,hz⟩ h1.1
theorem qhQ(m:Mt):m.live∈xz m:=by simp[xz]
theorem qvM(m:Mt):m.tok.qu∈xz m:=by simp[xz]
theorem qhR{m:Mt}{s:Sp}(h:s∈m.qc):s.qu∈xz m:=by
 unfold xz;exact List.mem_cons_of_mem _ (List.mem_cons_of_mem _ (List.mem_map_of_mem h))
theorem qnv(h:xK b N t m)(ho:jK b N m')(hw:tY N m ws):uk (over t (qO t m' ws)) m=uk t m:=by
 unfold uk;rw[oI h ho hw (qhQ m) h.ok.live]
 congr 1
 apply List.map_congr_left;intro s hs;unfold qbh;rw[oI h ho hw (qhR hs) (h.ok.dG s hs)]
end
end Go.Proofs.YtdpbdkacngaemaaGreatDoor.vt
namespace Go.Proofs.YtdpbdkacngaemaaGreatDoor.vt
open _root_.Go.Proofs.Tryz Go Go.RowKit jr mt im sp
def qtL (n:Int)(l:List Int):Prop:=∀z∈l,z=0∨(193≤z∧z<n)
theorem qj4(cs:List Int)(k:Nat)(M:Nat)(hb:bnd M cs)(hM:M≤1000000000)(hk:k<cs.length):(bump cs k).getD k 0=cs.getD k 0+1:=by
 have hg:0≤cs.getD k 0∧cs.getD k 0≤(M:Int):=by
  have:cs.getD k 0=cs[k]:=by simp[List.getD,hk]
  rw[this];exact hb _ (List.getElem_mem hk)
 have hw:wrap64 (cs.getD k 0+1)=cs.getD k 0+1:=by unfold wrap64;omega
 unfold bump;rw[hw];generalize cs.getD k 0+1=v;simp[List.getD,hk]
theorem qnw{cs:List Int}{k M:Nat}(hb:bnd M cs)(hM:M≤1000000000):bnd (M+1) (bump cs k):=by
 intro z hz;unfold bump at hz;rcases List.mem_or_eq_of_mem_set hz with h|h
 ·have:=hb z h;omega
 ·have hg:0≤cs.getD k 0∧cs.getD k 0≤(M:Int):=by
     by_cases hk:k<cs.length
     ·have:cs.getD k 0=cs[k]:=by simp[List.getD,hk]
      rw[this];exact hb _ (List.getElem_mem hk)
     ·have:cs.getD k 0=0:=by simp[List.getD,List.getElem?_eq_none (show cs.length≤k by omega)]
      rw[this];omega
  have hw:wrap64 (cs.getD k 0+1)=cs.getD k 0+1:=by unfold wrap64;omega
  rw[hw]at h;omega
theorem iO {n:Int}:∀(l cs:List Int) (M:Nat),qtL n l→bnd M cs→(cs.length:Int)=n→M+l.length≤1000000000 →
    ∃cs',kV n cs l=some cs'∧cs'.length=cs.length∧(∀j,cs.getD j 0≤cs'.getD j 0)∧(∀z∈l,z≠0→cs.getD z.toNat 0+1≤cs'.getD z.toNat 0)∧yo cs≤yo cs'+l.length
 | [],cs,M,_,_,_,_=>⟨cs,rfl,rfl,fun _=>Int.le_refl _,fun z h=>absurd h (by simp),by simp⟩
 | z::r,cs,M,hg,hb,hn,hM=>by
  rw[List.length_cons]at hM;rw[aZ];by_cases hz:z=0
  ·rw[if_pos hz];obtain⟨cs',h1,h2,h3,h4,h5⟩:=iO r cs M (fun y hy=>hg y (by simp[hy])) hb hn (by omega);refine⟨cs',h1,h2,h3,fun y hy h0=>?_,by rw[List.length_cons];omega⟩;rcases List.mem_cons.1 hy with e|hy
   ·exact absurd (e.trans hz) h0
   ·exact h4 y hy h0
  ·have hr:193≤z∧z<n:=by
      rcases hg z (by simp)with h|h
      ·exact absurd h hz
      ·exact h
   rw[if_neg hz,if_neg (by omega)];have hk:z.toNat<cs.length:=by omega
   obtain⟨cs',h1,h2,h3,h4,h5⟩:=iO r (bump cs z.toNat) (M+1) (fun y hy=>hg y (by simp[hy])) (qnw hb (by omega)) (by rw[fg];exact hn) (by omega);have hbz:=qj4 cs z.toNat M hb (by omega) hk;have qtM:∀j,cs.getD j 0≤(bump cs z.toNat).getD j 0:=fun j=>by
    by_cases e:j=z.toNat
    ·rw[e,hbz];omega
    ·rw[cm cs _ j e];exact Int.le_refl _
   refine⟨cs',h1,by rw[h2,fg],fun j=>Int.le_trans (qtM j) (h3 j),fun y hy h0=>?_,?_⟩
   ·rcases List.mem_cons.1 hy with rfl|hy
    ·have:=h3 y.toNat;omega
    ·have:=qtM y.toNat;have:=h4 y hy h0;omega
   ·have hf:yo cs≤yo (bump cs z.toNat)+1:=by
       unfold yo;rw[fg];by_cases h0:cs.getD z.toNat 0=0
       ·have:=oD cs z.toNat hk (by omega) h0 cs.length;split at this <;> omega
       ·have e:∀i,(za (bump cs z.toNat) i).length=(za cs i).length:=by
           intro i
           induction i with
           | zero=>rfl
           | succ i ih =>
            rw[yO,yO,ih];by_cases ei:i=z.toNat
            ·subst ei;rw[hbz];have hg0:0≤cs.getD z.toNat 0:=by
              have:cs.getD z.toNat 0=cs[z.toNat]:=by simp[List.getD,hk]
              rw[this];exact(hb _ (List.getElem_mem hk)).1
             rw[if_neg (by omega),if_neg (by omega)]
            ·rw[cm cs _ i ei]
        rw[e];omega
    rw[List.length_cons];omega
theorem qde(N:Nat):∀i,193≤i→i≤N→(za (List.replicate N 0) i).length=i-193:=by
 intro i
 induction i with
 | zero=>intro h;omega
 | succ i ih =>
  intro h hN;rw[yO];have h0:(List.replicate N (0:Int)).getD i 0=0:=by simp[List.getD,show i<N by omega]
  by_cases hi:193≤i
  ·rw[ih hi (by omega),if_pos ⟨hi,h0⟩];omega
  ·rw[j9 _ i (by omega),if_neg (fun h=>hi h.1)];simp;omega
section
variable {b N:Nat} {t:Tg} {m:Mt}
theorem qdf(h:jK b N m):qtL (N:Int) (xz m).flatten:=by
 intro z hz;obtain⟨l,hl,hz⟩:=List.mem_flatten.1 hz;unfold xz at hl;rcases List.mem_cons.1 hl with rfl|hl
 ·exact h.live.2.1 z hz
 ·rcases List.mem_cons.1 hl with rfl|hl
  ·rcases h.tok with ht|ht
   ·rw[ht]at hz;simp[yB]at hz
   ·exact ht.2.2.2.2.2.2.1 z hz
  ·obtain⟨s,hs,rfl⟩:=List.mem_map.1 hl;exact(h.dG s hs).2.1 z hz
theorem qfT(h:jK b N m):(xz m).flatten.length≤b*(m.qc.length+2):=by
 have h1:m.live.length=b:=h.len;have h2:m.tok.qu.length≤b:=by
  rcases h.tok with ht|ht
  ·rw[ht];simp[yB]
  ·have:=ht.2.2.2.2.2.1;omega
 have h3:∀l:List Sp,(∀s∈l,jT b N s.qu)→(l.map (·.qu)).flatten.length=b*l.length:=by
  intro l
  induction l with
  | nil=>simp
  | cons s l ih =>
   intro hl;have:=ih (fun x hx=>hl x (by simp[hx]));have:=(hl s (by simp)).1;rw[List.map_cons,List.flatten_cons,List.length_append,List.length_cons,Nat.mul_succ];omega
 have:=h3 m.qc h.dG;have e:b*(m.qc.length+2)=b*m.qc.length+(b+b):=by rw[Nat.mul_add];omega
 unfold xz;simp only[List.flatten_cons,List.length_append];omega
theorem oJ (h:jK b N m):b*(m.qc.length+2)≤176:=by
 have:=Nat.mul_le_mul h.b8 (Nat.add_le_add_right h.few 2);omega
theorem cz (h:jK b N m)(hN:N≤1024):∃cs,yZ (xz m) (N:Int)=(cs,0)∧cs.length=N∧(∀z,held m z→z≠0→1≤cs.getD z.toNat 0)∧(N-193)≤yo cs+b*(m.qc.length+2):=by
 have hg:=qdf h;have hl:=qfT h;have hl6:=oJ h;obtain⟨cs,h1,h2,h3,h4,h5⟩:=iO (xz m).flatten (List.replicate N 0) 0 hg (fun z hz=>by rw[List.eq_of_mem_replicate hz];omega) (by simp) (by omega);refine⟨cs,?_,by rw[h2,List.length_replicate],fun z hz h0=>?_,?_⟩
 ·unfold yZ;rw[if_neg (by omega),Int.toNat_natCast,h1]
 ·obtain⟨l,hl,hz⟩:=hz;have:=h4 z (List.mem_flatten.2 ⟨l,hl,hz⟩) h0;have h0:(List.replicate N (0:Int)).getD z.toNat 0=0:=by
   by_cases hk:z.toNat<N
   ·simp[List.getD,hk]
   ·simp[List.getD,hk]
  omega
 ·have:N-193≤yo (List.replicate N (0:Int)):=by
     unfold yo;rw[List.length_replicate];by_cases q0k:193≤N
     ·rw[qde N N q0k (Nat.le_refl _)];exact Nat.le_refl _
     ·omega
  omega
theorem wF (k:Int)(s:Bt)(r:List (Int × Bt)):full ((k,s)::r)=full r+if s=zb then 0 else 1:=by
 unfold full;by_cases h:s=zb <;> simp[h]
theorem iP:∀(x:List (Int × Bt)) (fr:List Int),full x≤fr.length →
    (qf fr x).1.length=x.length∧(qf fr x).2.map (·.1)=fr.take (full x)∧(∀y∈(qf fr x).2,∃c∈x,y.2=c.2) ∧
     (∀i (hi:i<x.length) (ha:i<(qf fr x).1.length),(x[i].2=zb∧(qf fr x).1[i]=0)∨(x[i].2≠zb∧((qf fr x).1[i],x[i].2)∈(qf fr x).2))
 | [],fr,_=>⟨rfl,by simp[qf,full],by simp[qf],fun i hi=>by simp at hi⟩
 | (k,s)::r,fr,h=>by
  rw[wF]at h;by_cases hs:s=zb
  ·rw[if_pos hs]at h;obtain⟨h1,h2,h3,h4⟩:=iP r fr (by omega);have e:qf fr ((k,s)::r)=(0::(qf fr r).1,(qf fr r).2):=by
    cases fr <;> simp[qf,hs]
   rw[e,wF,if_pos hs,Nat.add_zero];refine⟨by simp[h1],h2,fun y hy=>?_,fun i hi ha=>?_⟩
   ·obtain⟨c,hc,he⟩:=h3 y hy;exact⟨c,by simp[hc],he⟩
   ·cases i with
    | zero=>exact .inl ⟨hs,rfl⟩
    | succ i=>exact h4 i (by simpa using hi) (by simpa using ha)
  ·rw[if_neg hs]at h;cases fr with
   | nil=>simp at h
   | cons f fr =>
    obtain⟨h1,h2,h3,h4⟩:=iP r fr (by simp at h;omega);have e:qf (f::fr) ((k,s)::r)=(f::(qf fr r).1,(f,s)::(qf fr r).2):=by
     simp[qf,hs]
    rw[e,wF,if_neg hs];refine⟨by simp[h1],by simp[h2],fun y hy=>?_,fun i hi ha=>?_⟩
    ·rcases List.mem_cons.1 hy with rfl|hy
     ·exact⟨(k,s),by simp,rfl⟩
     ·obtain⟨c,hc,he⟩:=h3 y hy;exact⟨c,by simp[hc],he⟩
    ·cases i with
     | zero=>exact .inr ⟨hs,by simp⟩
     | succ i =>
      rcases h4 i (by simpa using hi) (by simpa using ha)with h5|h5
      ·exact .inl h5
      ·exact .inr ⟨h5.1,by simp;exact .inr h5.2⟩
theorem bg:∀(x:List (Int × Bt)) (fr:List Int),∀a∈(qf fr x).1,a=0∨a∈fr
 | [],fr,a,h=>by simp[qf]at h
 | (k,s)::r,fr,a,h=>by
  by_cases hs:s=zb
  ·have e:qf fr ((k,s)::r)=(0::(qf fr r).1,(qf fr r).2):=by
      cases fr <;> simp[qf,hs]
   rw[e]at h;rcases List.mem_cons.1 h with h|h
   ·exact .inl h
   ·exact bg r fr a h
  ·cases fr with
   | nil =>
    have e:qf [] ((k,s)::r)=(0::(qf [] r).1,(qf [] r).2):=by simp[qf]
    rw[e]at h;rcases List.mem_cons.1 h with h|h
    ·exact .inl h
    ·exact bg r [] a h
   | cons f fr =>
    have e:qf (f::fr) ((k,s)::r)=(f::(qf fr r).1,(f,s)::(qf fr r).2):=by simp[qf,hs]
    rw[e]at h;rcases List.mem_cons.1 h with h|h
    ·exact .inr (by simp[h])
    ·rcases bg r fr a h with h|h
     ·exact .inl h
     ·exact .inr (by simp[h])
theorem vw:∀(x:List (Int × Bt)) (fr:List Int),fr.Nodup→∀i j,i<j→j<(qf fr x).1.length→pl (qf fr x).1 i=pl (qf fr x).1 j→pl (qf fr x).1 i=0
 | [],fr,_,i,j,_,hj,_=>by simp[qf]at hj
 | (k,s)::r,fr,hn,i,j,hij,hj,he=>by
  have zero:∀(A:List Int) (hA:∀i j,i<j→j<A.length→pl A i=pl A j→pl A i=0),j<(0::A).length→pl (0::A) i=pl (0::A) j→pl (0::A) i=0:=by
   intro A hA hj he;cases i with
   | zero=>rfl
   | succ i =>
    cases j with
    | zero=>omega
    | succ j=>exact hA i j (by omega) (by simpa using hj) (by simpa[pl]using he)
  by_cases hs:s=zb
  ·have e:qf fr ((k,s)::r)=(0::(qf fr r).1,(qf fr r).2):=by
      cases fr <;> simp[qf,hs]
   rw[e]at hj he ⊢;exact zero _ (vw r fr hn) hj he
  ·cases fr with
   | nil =>
    have e:qf [] ((k,s)::r)=(0::(qf [] r).1,(qf [] r).2):=by simp[qf]
    rw[e]at hj he ⊢;exact zero _ (vw r [] hn) hj he
   | cons f fr =>
    have e:qf (f::fr) ((k,s)::r)=(f::(qf fr r).1,(f,s)::(qf fr r).2):=by simp[qf,hs]
    rw[e]at hj he ⊢;rw[List.nodup_cons]at hn;cases j with
    | zero=>omega
    | succ j =>
     have hj':j<(qf fr r).1.length:=by simpa using hj
     cases i with
     | zero =>
      have hm:=bg r fr (qf fr r).1[j] (List.getElem_mem hj');have he':f=(qf fr r).1[j]:=by
       have:=he;unfold pl at this;simpa[List.getD,hj']using this
      rcases hm with h|h
      ·show f=0;rw[he',h]
      ·exact absurd (he' ▸ h) hn.1
     | succ i=>exact vw r fr hn.2 i j (by omega) hj' (by simpa[pl]using he)
theorem qbi(x:List (Int × Bt)):full x≤x.length:=List.length_filter_le _ _
def tZ (b N:Nat)(m:Mt)(x:List (Int × Bt)):Prop:=N<193+b*(m.qc.length+2)+x.length
theorem tZ.far(h:jK b N m){x:List (Int × Bt)}(hf:tZ b N m x)(hx:x.length≤8):N<377:=by
 have:=oJ h;unfold tZ at hf;omega
structure oK(N:Nat)(m:Mt)(x:List (Int × Bt))(at_:List Int)(ws:List Wr):Prop where
 len:at_.length=x.length
 wok:tY N m ws
 each:∀i (hi:i<x.length) (ha:i<at_.length),(x[i].2=zb∧at_[i]=0)∨(x[i].2≠zb∧(at_[i],x[i].2)∈ws)
 fresh:∀i j,i<j→j<at_.length→pl at_ i=pl at_ j→pl at_ i=0
theorem kN (h:jK b N m)(hN:N≤1024)(x:List (Int × Bt))(hx:x.length≤8)(h32:∀c∈x,c.2.length=32) :
    ((qU N m x).2=7∧tZ b N m x)∨((qU N m x).2=0∧oK N m x (qU N m x).1.1 (qU N m x).1.2):=by
 obtain⟨cs,h1,h2,h3,h4⟩:=cz h hN;have hf:=qbi x;have hst:jq cs (full x:Int)=if (yo cs:Int)<(full x:Int)then([],7)else((za cs cs.length).take (full x),0):=by
  unfold jq;rw[if_neg (by omega),Int.toNat_natCast]
 unfold qU;rw[h1];dsimp only;rw[hst];by_cases hfull:(yo cs:Int)<(full x:Int)
 ·rw[if_pos hfull]
  left
  exact⟨by simp,by unfold tZ;omega⟩
 ·rw[if_neg hfull]
  right
  simp only[if_true];refine⟨trivial,?_⟩;have hlen:full x≤((za cs cs.length).take (full x)).length:=by
   rw[List.length_take];unfold yo at hfull;omega
  obtain⟨p1,p2,p3,p4⟩:=iP x _ hlen;have hmem:∀y∈(qf ((za cs cs.length).take (full x)) x).2,y.1∈za cs cs.length:=fun y hy=>by
   have:y.1∈(qf ((za cs cs.length).take (full x)) x).2.map (·.1):=List.mem_map_of_mem hy;rw[p2]at this;exact List.mem_of_mem_take (List.mem_of_mem_take this)
  have hnd:((qf ((za cs cs.length).take (full x)) x).2.map (·.1)).Nodup:=by
   rw[p2];have hr:=oC cs cs.length;have:(za cs cs.length).Nodup:=hr.imp (fun h=>by omega);exact(this.sublist (List.take_sublist _ _)).sublist (List.take_sublist _ _)
  have zcn:(qf ((za cs cs.length).take (full x)) x).2.length=full x:=by
   have:=congrArg List.length p2;rw[List.length_map,List.length_take,List.length_take]at this;unfold yo at hfull;omega
  have q5q:tY N m (qf ((za cs cs.length).take (full x)) x).2:=by
   refine⟨by omega,hnd,fun y hy=>?_,fun y hy hh=>?_,fun y hy=>?_⟩
   ·obtain⟨j,e,g1,g2,_⟩:=iN.1 (hmem y hy);omega
   ·obtain⟨j,e,g1,g2,g3⟩:=iN.1 (hmem y hy);have:=h3 y.1 hh (by omega);rw[e,Int.toNat_natCast]at this;omega
   ·obtain⟨c,hc,e⟩:=p3 y hy;rw[e];exact h32 c hc
  have hfn:((za cs cs.length).take (full x)).Nodup:=by
   have hr:=oC cs cs.length;have:(za cs cs.length).Nodup:=hr.imp (fun h=>by omega);exact this.sublist (List.take_sublist _ _)
  exact⟨p1,q5q,p4,vw x _ hfn⟩
end
end Go.Proofs.YtdpbdkacngaemaaGreatDoor.vt
namespace Go.Proofs.YtdpbdkacngaemaaGreatDoor.im
open _root_.Go.Proofs.Tryz Go Go.RowKit
theorem qnx{l:List Int}{j:Nat}(hj:j<l.length)(s:Int)(i:Nat):pl (l.set j s) i=if i=j then s else pl l i:=by
 unfold pl;rw[List.getD_eq_getElem?_getD,List.getD_eq_getElem?_getD,List.getElem?_set];by_cases e:j=i
 ·subst e;rw[if_pos rfl,if_pos hj,if_pos rfl];rfl
 ·rw[if_neg e,if_neg (fun h=>e h.symm)]
end Go.Proofs.YtdpbdkacngaemaaGreatDoor.im
namespace Go.Proofs.YtdpbdkacngaemaaGreatDoor.vt
open _root_.Go.Proofs.Tryz Go Go.RowKit jr mt im sp
def xX:List Bt→List (Int × Bt)→List Bt
 | l,[]=>l
 | l,(k,s)::r=>xX (l.set k.toNat s) r
theorem qfU(t:Tg)(l:List Int)(k:Nat)(a:Int):volume t (l.set k a)=(volume t l).set k (eE t a):=by
 unfold volume;rw[List.map_set]
theorem qfV(t:Tg)(l:List Int):(volume t l).length=l.length:=by simp[volume]
theorem gq (l a:List Int):xm l [] a=l:=by simp[xm]
theorem cB (l:List Int)(y:Int × Bt)(r:List (Int × Bt)):xm l (y::r) []=l:=by simp[xm]
theorem vz (l:List Int)(k:Int)(s:Bt)(r:List (Int × Bt))(a:Int)(at_:List Int):xm l ((k,s)::r) (a::at_)=xm (l.set k.toNat a) r at_:=by simp[xm]
theorem oL (t:Tg):∀(x:List (Int × Bt)) (at_:List Int) (l:List Int),at_.length=x.length→(∀i (hi:i<x.length) (ha:i<at_.length),eE t at_[i]=x[i].2)→volume t (xm l x at_)=xX (volume t l) x
 | [],_,_,_,_=>by rw[gq];rfl
 | (k,s)::r,[],l,h,_=>by simp at h
 | (k,s)::r,a::at_,l,h,hv=>by
  have h0:=hv 0 (by simp) (by simp);have ih:=oL t r at_ (l.set k.toNat a) (by simpa using h) (fun i hi ha=>hv (i+1) (by simpa using hi) (by simpa using ha));show volume t (xm l ((k,s)::r) (a::at_))=xX ((volume t l).set k.toNat s) r;rw[vz,ih,qfU]
  congr 2
theorem oM:∀(x:List (Int × Bt)) (at_:List Int) (l:List Int),(xm l x at_).length=l.length
 | [],_,_=>by rw[gq]
 | (_,_)::_,[],_=>by rw[cB]
 | (k,s)::r,a::at_,l=>by
  rw[vz,oM r at_,List.length_set]
theorem qny{l:List Int}{i:Nat}(h:i<l.length):pl l i∈l:=by rw[cX h];exact List.getElem_mem h
theorem jT.qo{b N:Nat}{l:List Int}(h:jT b N l)(k:Nat)(a:Int)(ha:a=0∨(193≤a∧a<(N:Int)∧a ∉ l)):jT b N (l.set k a):=by
 refine⟨by rw[List.length_set];exact h.1,fun z hz=>?_,fun i j hij hj e=>?_⟩
 ·rcases List.mem_or_eq_of_mem_set hz with hz|rfl
  ·exact h.2.1 z hz
  ·rcases ha with h|h
   ·exact .inl h
   ·exact .inr ⟨h.1,h.2.1⟩
 ·rw[List.length_set]at hj;by_cases hk:k<l.length
  ·rw[qnx hk]at e ⊢;rw[qnx hk]at e;by_cases h1:i=k
   ·rw[if_pos h1]at e ⊢;rw[if_neg (by omega)]at e;rcases ha with h|h
    ·exact h
    ·exact absurd (e ▸ qny hj) h.2.2
   ·rw[if_neg h1]at e ⊢;by_cases h2:j=k
    ·rw[if_pos h2]at e;rcases ha with h|h
     ·rw[e,h]
     ·exact absurd (e ▸ qny (by omega)) h.2.2
    ·rw[if_neg h2]at e;exact h.2.2 i j hij hj e
  ·rw[List.set_eq_of_length_le (by omega)]at e ⊢;exact h.2.2 i j hij hj e
theorem qaa{b N:Nat}:∀(x:List (Int × Bt)) (at_:List Int) (l:List Int),jT b N l→(∀a∈at_,a=0∨(193≤a∧a<(N:Int)∧a ∉ l))→(∀i j,i<j→j<at_.length→pl at_ i=pl at_ j→pl at_ i=0)→jT b N (xm l x at_)
 | [],_,_,h,_,_=>by rw[gq];exact h
 | (_,_)::_,[],_,h,_,_=>by rw[cB];exact h
 | (k,s)::r,a::at_,l,h,ha,hf=>by
  rw[vz];refine qaa r at_ (l.set k.toNat a) (h.qo k.toNat a (ha a (by simp))) (fun a' ha'=>?_) (fun i j hij hj e=>?_)
  ·rcases ha a' (by simp[ha'])with h0|h0
   ·exact .inl h0
   ·by_cases e:a'=a
    ·left
     obtain⟨j,hj,e2⟩:=List.getElem_of_mem ha';have:=hf 0 (j+1) (by omega) (by simpa using hj) (by
      show a=pl (a::at_) (j+1);rw[cX (by simpa using hj)];simp[e2,e])
     rw[e];exact this
    ·refine .inr ⟨h0.1,h0.2.1,fun hm=>?_⟩;rcases List.mem_or_eq_of_mem_set hm with hm|hm
     ·exact h0.2.2 hm
     ·exact e hm
  ·exact hf (i+1) (j+1) (by omega) (by simpa using hj) e
theorem oN {b:Nat}:∀(x:List (Int × Bt)) (p:Int) (l:List Bt),l.length=b→ch.cu l p x=if xC b p x=true then some (xX l x)else none
 | [],p,l,_=>rfl
 | (k,s)::r,p,l,h=>by
  have ih:=oN (b:=b) r k (l.set k.toNat s) (by rw[List.length_set];exact h);unfold ch.cu xC;by_cases hb:k≤p∨(l.length:Int)≤k∨s.length≠32
  ·rw[if_pos hb,if_neg];simp only[Bool.and_eq_true,decide_eq_true_eq,not_and];intro h1 h2;omega
  ·rw[if_neg hb,ih];have e:(decide (p<k)&&decide (k<(b:Int))&&decide (s.length=32)&&xC b k r)=xC b k r:=by
    have h1:p<k:=by omega
    have h2:k<(b:Int):=by omega
    have h3:s.length=32:=by omega
    simp[h1,h2,h3]
   rw[e];rfl
theorem wG {b:Nat}:∀ {x:List (Int × Bt)} {p:Int},xC b p x=true→∀c∈x,c.2.length=32∧p<c.1∧c.1<(b:Int)
 | (k,s)::r,p,h,c,hc=>by
  unfold xC at h;simp only[Bool.and_eq_true,decide_eq_true_eq]at h;obtain⟨⟨⟨h1,h2⟩,h3⟩,h4⟩:=h;rcases List.mem_cons.1 hc with rfl|hc
  ·exact⟨h3,h1,h2⟩
  ·have:=wG h4 c hc;exact⟨this.1,by omega,this.2.2⟩
theorem iQ {b:Nat}:∀ {x:List (Int × Bt)} {p:Int},xC b p x=true → -1≤p→p<(b:Int)→(x.length:Int)≤(b:Int)-1-p
 | [],p,_,_,h=>by simp;omega
 | (k,s)::r,p,h,h0,hb=>by
  unfold xC at h;simp only[Bool.and_eq_true,decide_eq_true_eq]at h;obtain⟨⟨⟨h1,h2⟩,h3⟩,h4⟩:=h;have:=iQ h4 (by omega) h2;rw[List.length_cons];omega
section
variable {b N:Nat} {t:Tg} {m:Mt}
theorem fk (t:Tg)(m:Mt):(uk t m).last=qI m:=by
 unfold uk ch.CH.last qI;dsimp only;rw[List.getLast?_map];cases m.qc.getLast? <;> rfl
theorem qnz(t:Tg)(m:Mt):(uk t m).base=volume t (uP m):=by
 unfold uk ch.CH.base uP;dsimp only;rw[List.getLast?_map];cases m.qc.getLast? with
 | none =>
  show ch.uO (volume t m.live).length=_;rw[qfV];unfold ch.uO volume;rw[List.map_replicate];rfl
 | some s=>rfl
theorem qdg(h:jK b N m):jT b N (uP m):=by
 unfold uP;split
 ·have hl:=h.len;refine⟨by rw[List.length_replicate];exact hl,fun z hz=>.inl (List.eq_of_mem_replicate hz),fun i j hij hj _=>?_⟩;rw[List.length_replicate]at hj;rw[cX (by rw[List.length_replicate];omega),List.getElem_replicate]
 ·rename_i s hs;exact h.dG s (List.mem_of_getLast? hs)
theorem qfW(z:Int)(hz:z∈uP m):z=0∨held m z:=by
 unfold uP at hz;split at hz
 ·exact .inl (List.eq_of_mem_replicate hz)
 ·rename_i s hs;exact .inr ⟨s.qu,qhR (List.mem_of_getLast? hs),hz⟩
theorem q0l(h:jK b N m):xF (qI m):=by
 unfold qI;split
 ·exact bS
 ·rename_i s hs;exact h.sZ.qc s (List.mem_of_getLast? hs)
theorem oO {g:Gd}:∀(l:List Gd) (p:Gd),uQ p l→mt.above g (l.getLast?.getD p)=true→uQ p (l++[g])
 | [],p,_,h=>⟨h,trivial⟩
 | x::l,p,h,hg=>by
  refine⟨h.1,oO l x h.2 ?_⟩;cases l with
  | nil=>exact hg
  | cons y l=>rw[List.getLast?_cons_cons]at hg;rw[List.getLast?_cons]at hg ⊢;exact hg
theorem oP:∀(l:List Gd) (p:Gd) (n:Nat),uQ p l→uQ p (l.take n)
 | [],p,n,_=>by simp[uQ]
 | x::l,p,0,_=>trivial
 | x::l,p,n+1,h=>⟨h.1,oP l x n h.2⟩
theorem iR (m:Mt):(m.qc.map (·.g)).getLast?.getD (0,0)=qI m:=by
 unfold qI;rw[List.getLast?_map];cases m.qc.getLast? <;> rfl
theorem qn0{m:Mt}(h:mB m)(sn:List Sp)(l:List Int)(hs:∀s∈sn,xF s.g):mB ⟨l,sn,yB⟩:=⟨hs,bS,bS⟩
theorem jK.push(h:jK b N m)(g:Gd)(hg:xF g)(l qu:List Int)(hl:jT b N l)(hi:jT b N qu)(ha:mt.above g (qI m)=true)(hf:m.qc.length<20):jK b N ⟨l,m.qc++[⟨g,qu,false⟩],yB⟩:=by
 refine⟨h.b1,h.b8,hl,?_,fun s hs=>?_,?_,.inl rfl,qn0 h.sZ _ _ fun s hs=>?_⟩
 ·show(m.qc++[_]).length≤20;rw[List.length_append,List.length_singleton];omega
 ·rcases List.mem_append.1 hs with hs|hs
  ·exact h.dG s hs
  ·obtain rfl:s=_:=by simpa using hs
   exact hi
 ·show uQ (0,0) ((m.qc++[(⟨g,qu,false⟩:Sp)]).map (fun s=>s.g));rw[List.map_append];exact oO _ _ h.qj3 (by rw[iR];exact ha)
 ·rcases List.mem_append.1 hs with hs|hs
  ·exact h.sZ.qc s hs
  ·obtain rfl:s=_:=by simpa using hs
   exact hg
theorem tY.nil(N:Nat)(m:Mt):tY N m []:=⟨by simp,by simp,fun x hx=>absurd hx (by simp),fun x hx=>absurd hx (by simp),fun x hx=>absurd hx (by simp)⟩
structure Does(b N:Nat)(t:Tg)(m:Mt)(P:qfO)(c:ch.CH):Prop where
 ok:jK b N P.m
 ws:tY N m P.ws
 uk:uk (over t (qO t P.m P.ws)) P.m=c
theorem qfX{m':Mt}{x:List (Int × Bt)}{at_:List Int}{ws:List Wr}(h:xK b N t m)(ho:jK b N m')(hp:oK N m x at_ ws):∀i (hi:i<x.length) (ha:i<at_.length),eE (over t (qO t m' ws)) at_[i]=x[i].2:=by
 intro i hi ha;unfold eE;rcases hp.each i hi ha with⟨h1,h2⟩|⟨h1,h2⟩
 ·rw[if_pos h2,h1]
 ·have hr:=hp.wok.range _ h2;dsimp only at hr;rw[if_neg (by omega)];exact qfR h ho hp.wok _ h2
theorem qj5{l:List Int}{x:List (Int × Bt)}{at_:List Int}{ws:List Wr}(hp:oK N m x at_ ws)(hl:jT b N l)(hh:∀z∈l,z=0∨held m z):jT b N (xm l x at_):=by
 refine qaa x at_ l hl (fun a ha=>?_) hp.fresh;obtain⟨i,hi,rfl⟩:=List.getElem_of_mem ha;rcases hp.each i (by rw[← hp.len];exact hi) hi with⟨_,h2⟩|⟨_,h2⟩
 ·exact .inl h2
 ·have hr:=hp.wok.range _ h2;refine .inr ⟨hr.1,hr.2,fun hm=>?_⟩;rcases hh _ hm with h0|h0
  ·have hr1:=hr.1;dsimp only at hr1;omega
  ·exact hp.wok.free _ h2 h0
end
end Go.Proofs.YtdpbdkacngaemaaGreatDoor.vt
namespace Go.Proofs.YtdpbdkacngaemaaGreatDoor.vt
open _root_.Go.Proofs.Tryz Go Go.RowKit jr mt im sp
section
variable {b N:Nat} {t:Tg} {m:Mt}
theorem oQ {m':Mt}{ws:List Wr}(h:xK b N t m)(ho:jK b N m')(hw:tY N m ws):m.qc.map (qbh (over t (qO t m' ws)))=m.qc.map (qbh t):=by
 have:=qnv h ho hw;unfold uk at this;exact(ch.CH.mk.inj this).2
theorem qj6{m':Mt}{ws:List Wr}(h:xK b N t m)(ho:jK b N m')(hw:tY N m ws):volume (over t (qO t m' ws)) m.live=volume t m.live:=oI h ho hw (qhQ m) h.ok.live
theorem jK.take(h:jK b N m)(n:Nat)(l:List Int)(hl:jT b N l):jK b N ⟨l,m.qc.take n,yB⟩:=by
 refine⟨h.b1,h.b8,hl,?_,fun s hs=>h.dG s (List.mem_of_mem_take hs),?_,.inl rfl,qn0 h.sZ _ _ fun s hs=>h.sZ.qc s (List.mem_of_mem_take hs)⟩
 ·show(m.qc.take n).length≤20;have:=h.few;rw[List.length_take];omega
 ·show uQ (0,0) ((m.qc.take n).map (·.g));rw[List.map_take];exact oP _ _ n h.qj3
theorem qn1(t:Tg)(m:Mt)(g:Gd):(uk t m).find g=tX m g:=by
 unfold ch.CH.find tX uk;dsimp only;rw[List.findIdx?_map];rfl
theorem qab{l:List Sp}{i:Nat}{s:Sp}(h:s∈gS l i):∃r∈l,s.g=r.g∧s.qu=r.qu:=by
 unfold gS at h;obtain⟨j,hj,e⟩:=List.getElem_of_mem h;rw[List.length_modify]at hj;rw[List.getElem_modify]at e;refine⟨l[j],List.getElem_mem hj,?_⟩;rw[← e];split <;> exact⟨rfl,rfl⟩
theorem qhS(l:List Sp)(i:Nat):(gS l i).map (·.g)=l.map (·.g):=by
 apply List.ext_getElem
 ·simp[gS]
 ·intro j h1 h2;simp only[gS,List.getElem_map,List.getElem_modify];split <;> rfl
theorem qbj(m:Mt)(i:Nat):qI { m with qc:=gS m.qc i }=qI m:=by
 rw[← iR,← iR];dsimp only;rw[qhS]
theorem jK.qnq(h:jK b N m)(i:Nat):jK b N { m with qc:=gS m.qc i }:=by
 refine⟨h.b1,h.b8,h.live,?_,fun s hs=>?_,?_,?_,⟨fun s hs=>?_,h.sZ.base,h.sZ.target⟩⟩
 ·show(gS m.qc i).length≤20;unfold gS;rw[List.length_modify];exact h.few
 ·obtain⟨r,hr,_,e⟩:=qab hs;rw[e];exact h.dG r hr
 ·show uQ (0,0) ((gS m.qc i).map (·.g));rw[qhS];exact h.qj3
 ·rw[qbj];exact h.tok
 ·obtain⟨r,hr,e,_⟩:=qab hs;rw[e];exact h.sZ.qc r hr
end
end Go.Proofs.YtdpbdkacngaemaaGreatDoor.vt
namespace Go.Proofs.YtdpbdkacngaemaaGreatDoor.vt
open _root_.Go.Proofs.Tryz Go Go.RowKit jr mt im sp
section
variable {b N:Nat} {t:Tg} {m:Mt}
def zP (m:Mt)(f:Tf):List Int:=if m.tok.base=f.base∧m.tok.target=f.target∧m.tok.all=f.all then m.tok.qu else uP m
structure qvO(b N:Nat)(t:Tg)(m:Mt)(f:Tf)(x:List (Int × Bt))(P:qfO):Prop where
 whole:f.next=f.all→Does b N t m P ⟨xX (volume t (zP m f)) x,(uk t m).qc++[⟨f.target,xX (volume t (zP m f)) x,false⟩]⟩∧P.m.tok=yB
 part:f.next≠f.all→Does b N t m P (uk t m)∧tf P.m.tok=f∧volume (over t (qO t P.m P.ws)) P.m.tok.qu=xX (volume t (zP m f)) x
theorem oT {n:Nat}{last:Gd}{f:Tf}{x:List (Int × Bt)}(h:zO b n last f x=0) :
    f.base=last∧mt.above f.target last=true∧0≤f.next∧f.next≤f.all∧f.all≤(b:Int)∧(f.next=0↔f.all=0)∧xC b (-1) x=true∧(f.next=f.all→n<20):=by
 unfold zO at h;split at h
 ·cases h
 ·rename_i h1;split at h
  ·cases h
  ·rename_i h2;split at h
   ·cases h
   ·rename_i h3;have h2':xC b (-1) x=true:=by simpa using h2
    refine⟨Classical.byContradiction fun e=>h1 (.inl e),?_,by omega,by omega,by omega,Classical.byContradiction fun e=>h1 (by simp[e]),h2',fun e=>by omega⟩;cases ha:mt.above f.target last with
    | true=>rfl
    | false=>exact absurd (.inr (.inl ha)) h1
theorem cD (h:xK b N t m)(f:Tf)(hg:xF f.target)(x:List (Int × Bt)) :
    ((xp N m f x).code=7∧tZ b N m x∧zO m.live.length m.qc.length (qI m) f x=0)∨((xp N m f x).code=zO m.live.length m.qc.length (qI m) f x∧((xp N m f x).code=0→qvO b N t m f x (xp N m f x))):=by
 have hlen:=h.ok.len;by_cases he:zO m.live.length m.qc.length (qI m) f x=0
 ·obtain⟨e1,e2,e3,e4,e5,e6,e7,e8⟩:=oT he;rw[hlen]at e5 e7;have hb1:=h.ok.b1;have hb8:=h.ok.b8;have eH:x.length≤8:=by
   have:=iQ e7 (by omega) (by omega);omega
  rcases kN h.ok h.N1 x eH (fun c hc=>(wG e7 c hc).1)with⟨h7,hN⟩|⟨h0,hp⟩
  ·left
   unfold xp;rw[if_neg (by rw[he];simp),if_pos (by rw[h7];decide),h7];exact⟨rfl,hN,he⟩
  ·right
   rw[he];have oU:jT b N (zP m f)∧∀z∈zP m f,z=0∨held m z:=by
    unfold zP;split
    ·rename_i hm;rcases h.ok.tok with ht|ht
     ·exfalso;rw[ht]at hm;have:f.target=(0,0):=hm.2.1.symm;rw[this]at e2;unfold mt.above at e2;simp at e2
     ·exact⟨ht.2.2.2.2.2,fun z hz=>.inr ⟨_,qvM m,hz⟩⟩
    ·exact⟨qdg h.ok,fun z hz=>qfW z hz⟩
   have hsv:∀ {m':Mt} (ho:jK b N m'),volume (over t (qO t m' (qU N m x).1.2)) (zP m f)=volume t (zP m f):=fun {m'} ho=>by
    unfold volume;apply List.map_congr_left;intro z hz;unfold eE;split
    ·rfl
    ·rename_i hz0;rcases oU.2 z hz with h1|h1
     ·exact absurd h1 hz0
     ·rcases oU.1.2.1 z hz with h2|h2
      ·exact absurd h2 hz0
      ·exact lQ h ho hp.wok z h1 h2.1
   have qj7:jT b N (xm (zP m f) x (qU N m x).1.1):=qj5 hp oU.1 oU.2;have hiv:∀ {m':Mt} (ho:jK b N m'),volume (over t (qO t m' (qU N m x).1.2)) (xm (zP m f) x (qU N m x).1.1)=xX (volume t (zP m f)) x:=fun {m'} ho=>by
    rw[oL _ x _ _ hp.len (qfX h ho hp),hsv ho]
   unfold xp;rw[if_neg (by rw[he];simp),if_neg (by rw[h0];simp)];have q5r:(if m.tok.base=f.base∧m.tok.target=f.target∧m.tok.all=f.all then m.tok.qu else uP m)=zP m f:=rfl;rw[q5r];dsimp only;generalize xm (zP m f) x (qU N m x).1.1=qu at *;generalize (qU N m x).1.2=ws at *;have sB:=hp.wok;by_cases hn:f.next=f.all
   ·rw[if_pos hn];refine⟨rfl,fun _=>⟨fun _=>?_,fun h=>absurd hn h⟩⟩;have hok:jK b N ⟨qu,m.qc++[⟨f.target,qu,false⟩],yB⟩:=h.ok.push f.target hg qu qu qj7 qj7 e2 (e8 hn);have h2:=oQ h hok sB;have h3:=hiv hok;refine⟨⟨hok,sB,?_⟩,rfl⟩;dsimp only;generalize over t (qO t ⟨qu,m.qc++[⟨f.target,qu,false⟩],yB⟩ ws)=t' at *;unfold uk;dsimp only;rw[h3,List.map_append,h2];simp only[List.map_cons,List.map_nil,qbh,h3]
   ·rw[if_neg hn];refine⟨rfl,fun _=>⟨fun h=>absurd h hn,fun _=>?_⟩⟩;have hok:jK b N { m with tok:=⟨f.base,f.target,f.next,f.all,qu⟩ }:=by
     have ho:=h.ok;refine⟨ho.b1,ho.b8,ho.live,ho.few,ho.dG,ho.qj3,.inr ⟨e1,?_,?_,?_,e5,qj7⟩,⟨ho.sZ.qc,?_,hg⟩⟩
     ·show mt.above f.target f.base=true;rw[e1];exact e2
     ·show 1≤f.next;have:f.next≠0:=fun hz=>hn (by rw[hz,e6.1 hz]);omega
     ·show f.next<f.all;omega
     ·show xF f.base;rw[e1];exact q0l ho
    refine⟨⟨hok,sB,?_⟩,rfl,hiv hok⟩;have h1:=qj6 h hok sB;have h2:=oQ h hok sB;dsimp only;generalize over t (qO t { m with tok:=⟨f.base,f.target,f.next,f.all,qu⟩ } ws)=t' at *;unfold uk;dsimp only;rw[h1,h2]
 ·right
  unfold xp;rw[if_pos he];exact⟨rfl,fun h=>absurd h he⟩
theorem qdh(u v:Bt)(hu:u.length≤8192)(k:Nat)(hk:k<(qN u).length):¬ vP ((qN u).take k) v:=by
 rintro⟨hv,e⟩;have hl:=congrArg List.length e;rw[List.length_take,Nat.min_eq_left (by omega),yf v]at hl;have zX:1≤k:=by rw[hl];exact eT _
 have h1:=congrArg List.flatten e;rw[yX]at h1;have h2:(qN u).flatten=((qN u).take k).flatten++((qN u).drop k).flatten:=by rw[← List.flatten_append,List.take_append_drop]
 rw[yX,h1]at h2;have h3:=uj u;have h4:=uj v;have h5:=jo v;have h6:(yM u).take 2=(yM v).take 2:=by
  rw[h2,List.take_append_of_le_length (by have:=eT v.length;omega)]
 rw[h3,h4]at h6;have:=qcY _ _ (by omega) (by omega) h6;rw[yf u,this]at hk;omega
end
end Go.Proofs.YtdpbdkacngaemaaGreatDoor.vt
namespace Go.Proofs.YtdpbdkacngaemaaGreatDoor.ch
open _root_.Go.Proofs.Tryz Go Go.RowKit ib
def xF (g:Gd):Prop:=g.1<18446744073709551616∧g.2<18446744073709551616
def gv (g:Gd):Value:=.agg #[.int .u64 (g.1:Int),.int .u64 (g.2:Int)]
def kR (w:World)(A:Option Addr)(x:List (Int × Bt)):Prop :=
 ∀i (h:i<x.length),∃b o,A=some ⟨b,o,none⟩∧b<w.heap.size∧w.cell? ⟨b,o+i*2,none⟩=some (.int .i64 x[i].1)∧w.cell? ⟨b,o+i*2+1,none⟩=some (.string (str x[i].2))∧kC x[i].1
theorem kR.below{w w':World}{A:Option Addr}{x:List (Int × Bt)}(h:kR w A x)(hb:Below w.heap.size w w'):kR w' A x:=by
 intro i hi;obtain⟨b,o,h1,h2,h3,h4,h5⟩:=h i hi;exact⟨b,o,h1,Nat.lt_of_lt_of_le h2 hb.size,by rw[hb.cell (p:=⟨b,o+i*2,none⟩) h2];exact h3,by rw[hb.cell (p:=⟨b,o+i*2+1,none⟩) h2];exact h4,h5⟩
theorem kR.nil(w:World)(A:Option Addr):kR w A []:=fun i h=>absurd h (by simp)
def q5s (r:List Bt)(w:World)(e:Ending)(w':World):Prop:=∃A cc,e=.returned (.slice A r.length cc)∧TxL w' A r∧wb w w' A∧Below w.heap.size w w'
def oV (r:List Bt × Int)(w:World)(e:Ending)(w':World):Prop:=∃A cc,e=.returned (.tuple #[.slice A r.1.length cc,.int .i64 r.2])∧TxL w' A r.1∧wb w w' A∧Below w.heap.size w w'
def GdL (w:World)(A:Option Addr)(x:List Gd):Prop :=
 ∀i (h:i<x.length),∃b o,A=some ⟨b,o,none⟩∧b<w.heap.size∧w.cell? ⟨b,o+i*2,none⟩=some (.int .u64 (x[i].1:Int))∧w.cell? ⟨b,o+i*2+1,none⟩=some (.int .u64 (x[i].2:Int))∧xF x[i]
theorem GdL.below{w w':World}{A:Option Addr}{x:List Gd}(h:GdL w A x)(hb:Below w.heap.size w w'):GdL w' A x:=by
 intro i hi;obtain⟨b,o,h1,h2,h3,h4,h5⟩:=h i hi;exact⟨b,o,h1,Nat.lt_of_lt_of_le h2 hb.size,by rw[hb.cell (p:=⟨b,o+i*2,none⟩) h2];exact h3,by rw[hb.cell (p:=⟨b,o+i*2+1,none⟩) h2];exact h4,h5⟩
def oW (r:List Gd)(w:World)(e:Ending)(w':World):Prop:=∃A cc,e=.returned (.slice A r.length cc)∧GdL w' A r∧wb w w' A∧Below w.heap.size w w'
def rS:=(Nat→Prop)→World→Nat→CH→Prop
def Aft (Is:rS)(own:Nat→Prop)(p:Nat)(r:CH × Int)(w:World)(e:Ending)(w':World):Prop :=
 e=.returned (.int .i64 r.2)∧∃yK,Is yK w' p r.1∧qB own w w'∧∀j,yK j→own j∨w.heap.size≤j
structure Ops(Is:rS):Prop where
 low:∀ {own w p d},Is own w p d→∀j,own j→j<w.heap.size
 ok:∀ {own w p d},Is own w p d→d.ok
 keep:∀ {own w w' p d},Is own w p d→(∀j,own j→w'.heap[j]?=w.heap[j]?)→w.heap.size≤w'.heap.size→Is own w' p d
 write:∀ {own w p d} (k:Int) (s:Bt),Is own w p d→kC k→Calls prog 164 #[.pointer (some ⟨p,0,none⟩),.int .i64 k,.string (str s)] w (Aft Is own p (d.write k s) w)
 snap:∀ {own w p d} (g:Gd),Is own w p d→xF g→Calls prog 93 #[.pointer (some ⟨p,0,none⟩),gv g] w (Aft Is own p (d.snap g) w)
 list:∀ {own w p d},Is own w p d→Calls prog 38 #[.pointer (some ⟨p,0,none⟩)] w (oW d.list w)
 read:∀ {own w p d} (g:Gd),Is own w p d→xF g→Calls prog 95 #[.pointer (some ⟨p,0,none⟩),gv g] w (oV (d.read g) w)
structure Impl(Is:rS):Prop extends Ops Is where
 wq:∀(n:Nat) (w:World),1≤n→n≤8→Calls prog 91 #[.int .i64 (n:Int)] w fun e w'=>∃p own,e=.returned (.pointer (some ⟨p,0,none⟩))∧Is own w' p (bK n)∧Below w.heap.size w w'∧∀j,own j→w.heap.size≤j
def Ch (Is:rS)(w:World)(B p:Nat)(d:CH):Prop:=∃own,Is own w p d∧∀j,own j→B≤j
section
variable {Is:rS} (H:Impl Is) {w w':World} {B p:Nat} {d:CH}
include H
theorem Ch.below(h:Ch Is w B p d)(hb:Below w.heap.size w w'):Ch Is w' B p d:=by
 obtain⟨own,h1,h2⟩:=h;exact⟨own,H.keep h1 (fun j hj=>hb.block j (H.low h1 j hj)) hb.size,h2⟩
def ChU (Is:rS)(w:World)(B E p:Nat)(d:CH):Prop:=∃own,Is own w p d∧∀j,own j→B≤j∧j<E
theorem ChU.below{E:Nat}(h:ChU Is w B E p d)(hb:Below w.heap.size w w'):ChU Is w' B E p d:=by
 obtain⟨own,h1,h2⟩:=h;exact⟨own,H.keep h1 (fun j hj=>hb.block j (H.low h1 j hj)) hb.size,h2⟩
omit H in
theorem ChU.ch{E:Nat}(h:ChU Is w B E p d):Ch Is w B p d:=by
 obtain⟨own,h1,h2⟩:=h;exact⟨own,h1,fun j hj=>(h2 j hj).1⟩
end
end Go.Proofs.YtdpbdkacngaemaaGreatDoor.ch
namespace Go.Proofs.YtdpbdkacngaemaaGreatDoor
open _root_.Go.Proofs.Tryz Go.RowKit
def xY (w:World):Prop:=0<w.heap.size∧∀i,i<16→w.cell? ⟨0,i,none⟩=some (.int .u32 ((eP.getD i 0:Nat):Int))
theorem xY.below{w w':World}{B:Nat}(h:xY w)(hb:Below B w w')(hB:0<B):xY w' :=
 ⟨Nat.lt_of_lt_of_le h.1 hb.size,fun i hi=>by rw[hb.cell (p:=⟨0,i,none⟩) hB];exact h.2 i hi⟩
def qn3 (b m:Nat)(w:World)(e:Ending)(w':World):Prop :=
 e=.returned (.tuple #[])∧Below b w w'∧w'.cell? ⟨b,0,none⟩=some (.int .u32 (m:Int))∧w'.frozen? ⟨b,0,none⟩=false
theorem qrB(i:Nat)(h:i<16):eP.getD i 0<4294967296:=by
 have:∀i:Nat,i<16→eP.getD i 0<4294967296:=by decide
 exact this i h
theorem qfZ(n f:Nat)(hf:f<256):bits .and .u8 (bits .xor .u8 ((n:Int)%256) (f:Int)) 15=(((n%256^^^f)%16:Nat):Int):=by
 have e:(n:Int)%256=((n%256:Nat):Int):=by omega
 have hx:n%256^^^f<256:=Nat.xor_lt_two_pow (n:=8) (by omega) (by omega);rw[e,u8_xor_nat _ _ (by omega) hf,show(15:Int)=((15:Nat):Int)from rfl,u8_and_nat _ _ hx (by omega),nat_mask4]
theorem qn4(n f:Nat)(hn:n<4294967296):bits .xor .u32 ((n:Int)/16) ((eP.getD ((n%256^^^f)%16) 0:Nat):Int)=((yn n f:Nat):Int):=by
 have e:(n:Int)/16=((n/16:Nat):Int):=by omega
 rw[e,u32_xor_nat _ _ (by omega) (qrB _ (Nat.mod_lt _ (by omega)))];rfl
theorem qdi(b n f:Nat)(w:World)(hn:n<4294967296)(hf:f<256)(ht:xY w)
    (hc:w.cell? ⟨b,0,none⟩=some (.int .u32 (n:Int))) (hz:w.frozen? ⟨b,0,none⟩=false) :
    Calls prog 249 #[.int .u8 (f:Int),.pointer (some ⟨b,0,none⟩)] w (qn3 b (yn n f) w):=by
 have hi:=qfZ n f hf;have hx:=qn4 n f hn;have hl:(n%256^^^f)%16<16:=Nat.mod_lt _ (by omega);have hg:=ht.2 _ hl;generalize yn n f=m at *;generalize (n%256^^^f)%16=i at *;generalize eP.getD i 0=t at *;have dc:(i:Int)<16:=by omega
 have HT:=QH ht;clear ht;go_enter func249,ntmps249;go_wp2;go_region;all_goals
  go_end0
  exact⟨rfl,((Below.refl b w).setCell (p:=⟨b,0,none⟩) (Nat.le_refl b) _).drew,by go_simp,by go_simp⟩
theorem qrC(b n f:Nat)(w:World)(hn:n<4294967296)(hf:f<256)(ht:xY w)
    (hc:w.cell? ⟨b,0,none⟩=some (.int .u32 (n:Int))) (hz:w.frozen? ⟨b,0,none⟩=false) :
    Calls prog 249 #[.int .u8 ((f:Int)/16),.pointer (some ⟨b,0,none⟩)] w (qn3 b (yn n (f/16)) w):=by
 have h:=qdi b n (f/16) w hn (by omega) ht hc hz
 rwa [show((f/16:Nat):Int)=(f:Int)/16 from by omega]at h
def qrD (s:ByteArray)(w:World)(i:Value)(wr:World):Prop :=
 ∃k:Nat,k≤s.size∧i=.int .i64 (k:Int)∧Below w.heap.size w wr∧w.heap.size<wr.heap.size∧wr.cell? ⟨w.heap.size,0,none⟩=some (.int .u32 (sw 4294967295 ((bl s).take k):Int))∧wr.frozen? ⟨w.heap.size,0,none⟩=false
theorem qga(s:ByteArray)(k:Nat)(h:k<s.size):(bl s).take (k+1)=(bl s).take k++[s[k]]:=by
 unfold bl;rw[List.take_succ_eq_append_getElem (by simpa using h)];rfl
def qvP (n:Nat)(w:World)(e:Ending)(w':World):Prop:=e=.returned (.int .u32 (n:Int))∧Below w.heap.size w w'
theorem qn5(s:ByteArray)(w:World)(hs:s.size≤9223372036854775807)(ht:xY w) :
    Calls prog 176 #[.string s] w (qvP (vO (bl s)) w):=by
 have HT:=QH ht;have hgw:=ht.1;clear ht;go_enter func176,ntmps176;go_wp2;have b0:Below w.heap.size w (w.alloc (.cells #[.int .u32 4294967295] 244)):=(Below.refl _ _).alloc (Nat.le_refl _) _;go_loopw [9] (fun i wr=>qrD s w i wr) (fun i _=>s.size-(intOf i).toNat);case atStart=>exact⟨0,Nat.zero_le _,rfl,b0,by simp,by go_simp;rfl,by go_simp⟩
 case round =>
  obtain⟨k,hk,rfl,hB,hS,hC,hF⟩:=hrel;have hn:=qaZ ((bl s).take k) 4294967295 (by omega);by_cases hlt:k<s.size
  ·have hT1:=HT.out.below hB hgw;have hb:=s[k].toNat_lt;have hsn:=qga s k hlt;have hst:wA (sw 4294967295 ((bl s).take k)) s[k]=sw 4294967295 ((bl s).take (k+1)):=by rw[hsn,qjn]
   rw[← halves]at hst;have hn1:=qcT (sw 4294967295 ((bl s).take k)) s[k].toNat hn;have Hst:=QH hst;clear hsn hst;go_wp2_with (go_at_call 249;refine(qdi w.heap.size _ s[k].toNat _ hn (by omega) hT1 hC hF).mono ?_);rintro e W1 ⟨rfl,b1,c1,f1⟩;have hT2:=hT1.below b1 hgw;have hB1:=hB.trans b1;have hS1:=b1.size;clear hB b1 hC hF hT1;go_wp2_with (go_at_call 249;refine(qrC w.heap.size _ s[k].toNat _ hn1 (by omega) hT2 c1 f1).mono ?_);rintro e W2 ⟨rfl,b2,c2,f2⟩;have hB2:=hB1.trans b2;have hS2:=b2.size;rw[Hst.out]at c2;clear hB1 b2 c1 f1 hT2;go_wp2;go_roundw;case rel=>exact⟨k+1,by omega,by go_num,hB2,by omega,c2,f2⟩
   case measure=>simp[intOf];omega
  ·have dE:k=s.size:=by omega
   subst dE;rw[List.take_of_length_le (by rw[zn];omega)]at hC hn;have hx:bits .xor .u32 IntKind.u32.max (sw 4294967295 (bl s):Int)=(vO (bl s):Int):=by
    rw[show IntKind.u32.max=((4294967295:Nat):Int)from rfl,u32_xor_nat _ _ (by omega) hn,Nat.xor_comm];rfl
   go_wp2;go_ret;exact⟨rfl,hB⟩
end Go.Proofs.YtdpbdkacngaemaaGreatDoor
namespace Go.Proofs.YtdpbdkacngaemaaGreatDoor.vt
open _root_.Go.Proofs.Tryz Go Go.RowKit jr mt im sp
abbrev yv:=(Nat→Prop)→World→Nat→Nat→Mt→Bool→Prop
abbrev DD:=dk.DD
def gN:Nat:=0
theorem xI {w:World}(h:xY w):gN<w.heap.size:=h.1
theorem yP {w w':World}{B:Nat}(h:xY w)(hb:Below B w w')(hB:gN<B):xY w':=h.below hb hB
theorem wH {w w':World}(h:xY w)(hs:w.heap.size≤w'.heap.size)(hb:w'.heap[gN]?=w.heap[gN]?):xY w' :=
 ⟨Nat.lt_of_lt_of_le h.1 hs,fun i hi=>by rw[← h.2 i hi];exact World.cell?_of_block (w:=w) hb⟩
structure VP(Is:yv)(w:World)(o1 o2:Nat→Prop)(v pd:Nat)(d:DD)(m:Mt)(lost:Bool):Prop where
 is:Is o1 w v pd m lost
 dk:dk.zK 1000 w o2 pd d
 dj:∀j,o1 j∨j=gN→¬ o2 j
def qbk (Is:yv)(o1 o2:Nat→Prop)(v pd:Nat)(Q:Int→DD→Mt→Bool→Prop)(w:World)(e:Ending)(w':World):Prop :=
 ∃r d' m' lost sD cS,e=.returned (.int .i64 r)∧VP Is w' sD cS v pd d' m' lost∧ib.qB (fun j=>o1 j∨o2 j) w w'∧(∀j,sD j∨cS j→(o1 j∨o2 j)∨w.heap.size≤j)∧Q r d' m' lost
def qj9 (N:Nat)(t:Tg)(d:DD)(m:Mt)(P:qfO)(r:Int)(d':DD)(m':Mt)(lost:Bool):Prop :=
 (P.code≠0∧r=P.code∧d'=d∧m'=m∧lost=false) ∨
 (P.code=0∧r=0∧JJ N (over t (qO t P.m P.ws)) d'∧m'=P.m∧lost=false∧(d.qz=0→d'.qz=0)∧0≤d'.qz) ∨
 (P.code=0∧r=6∧qvL (fun e=>RJ N t e∨RJ N (over t (qO t P.m P.ws)) e) d'∧lost=true∧d.qz≠0∧d'.qz=0)
def tkV (f:Tf)(A:Option Addr)(n c:Nat):Value:=.agg #[.int .u64 (f.base.1:Int),.int .u64 (f.base.2:Int),.int .u64 (f.target.1:Int),.int .u64 (f.target.2:Int),.int .i64 f.next,.int .i64 f.all,.slice A n c]
structure TfB(f:Tf):Prop where
 base:xF f.base
 target:xF f.target
 next:ib.kC f.next
 all:ib.kC f.all
def q0p (w:World)(A:Option Addr)(l:List Int):Prop:=∀i (h:i<l.length),∃b o,A=some ⟨b,o,none⟩∧b<w.heap.size∧w.cell? ⟨b,o+i,none⟩=some (.int .i64 l[i])
def cY (t:Tk)(w:World)(e:Ending)(w':World):Prop:=∃A cc,e=.returned (tkV (tf t) A t.qu.length cc)∧q0p w' A t.qu∧ib.wb w w' A∧Below w.heap.size w w'
def m0 (b:Nat):Mt:=⟨List.replicate b 0,[],yB⟩
structure js(Is:yv):Prop where
 tab:∀ {o w v pd m l},Is o w v pd m l→xY w
 low:∀ {o w v pd m l},Is o w v pd m l→∀j,o j∨j=gN→j<w.heap.size
 keep:∀ {o w w' v pd m l},Is o w v pd m l→(∀j,o j∨j=gN→w'.heap[j]?=w.heap[j]?)→w.heap.size≤w'.heap.size→Is o w' v pd m l
 sZ:∀ {o w v pd m l},Is o w v pd m l→mB m
 qac:∀ {o w pd} (b N:Nat) (room:Int),dk.zK 1000 w o pd (dk.DD.new N room)→xY w→¬ o gN→1≤b→b≤8→193≤N→N≤1024→(N:Int)≤room →
  Calls prog 9 #[.pointer (some ⟨pd,0,none⟩),.int .i64 (b:Int)] w fun e w'=>e=.returned (.int .i64 0)∧∃t d' o',dk.zK 1000 w' o' pd d'∧JJ N t d'∧xK b N t (m0 b)∧d'.qz=0∧ib.qB o w w'∧∀j,o' j→o j∨w.heap.size≤j
 qbl:∀ {o w pd d N t b m},dk.zK 1000 w o pd d→xY w→¬ o gN→RJ N t d→d.qz=0→xK b N t m →
  Calls prog 11 #[.pointer (some ⟨pd,0,none⟩)] w fun e w'=>∃v d' sD cS,e=.returned (.tuple #[.pointer (some ⟨v,0,none⟩),.int .i64 0])∧VP Is w' sD cS v pd d' m false∧JJ N t d'∧d'.qz=0∧ib.qB o w w'∧(∀j,sD j→w.heap.size≤j)∧∀j,cS j→o j∨w.heap.size≤j
 blocks:∀ {o w v pd m l},Is o w v pd m l→Calls prog 77 #[.pointer (some ⟨v,0,none⟩)] w fun e w'=>e=.returned (.int .i64 (m.live.length:Int))∧Below w.heap.size w w'
 list:∀ {o w v pd m l},Is o w v pd m l→Calls prog 37 #[.pointer (some ⟨v,0,none⟩)] w (ch.oW (m.qc.map (·.g)) w)
 token:∀ {o w v pd m l},Is o w v pd m l→Calls prog 41 #[.pointer (some ⟨v,0,none⟩)] w (cY m.tok w)
 read:∀ {o1 o2 w v pd d m N t b} (g:Gd),VP Is w o1 o2 v pd d m false→JJ N t d→xK b N t m→xF g→Calls prog 42 #[.pointer (some ⟨v,0,none⟩),ch.gv g] w (ch.oV ((uk t m).read g) w)
 stage:∀ {o1 o2 w v pd d m N t b} (f:Tf) (A:Option Addr) (c:Nat) (x:List (Int × Bt)),VP Is w o1 o2 v pd d m false→JJ N t d→0≤d.qz→xK b N t m→TfB f→ch.kR w A x→x.length≤1000→(∀b o,A=some ⟨b,o,none⟩→¬ o1 b∧¬ o2 b) →
  Calls prog 84 #[.pointer (some ⟨v,0,none⟩),tkV f none 0 0,.slice A x.length c] w (qbk Is o1 o2 v pd (qj9 N t d m (xp N m f x)) w)
 qrE:∀(w:World),Calls prog 77 #[.pointer none] w fun e w'=>e=.returned (.int .i64 0)∧Below w.heap.size w w'
 q0q:∀(w:World),Calls prog 37 #[.pointer none] w (ch.oW [] w)
 qvQ:∀(w:World),Calls prog 41 #[.pointer none] w (cY yB w)
end Go.Proofs.YtdpbdkacngaemaaGreatDoor.vt
namespace Go.Proofs.YtdpbdkacngaemaaGreatDoor.vt
open _root_.Go.Proofs.Tryz Go Go.RowKit ib jr mt im sp
theorem oX {S:Nat→Prop}{w w':World}(h:dk.qB S w w'):qB S w w':=⟨h.os,h.tape,h.output,h.size,h.block⟩
def Ke (B:Nat)(X:Nat→Prop)(w w':World):Prop:=qB (fun j=>B≤j∧¬ X j) w w'
theorem Ke.below{B:Nat}{X:Nat→Prop}{w w':World}(h:Ke B X w w')(hm:B≤w.heap.size):Below B w w':=qB.below h (fun _ hi=>hi.1) hm
theorem Ke.of_below{B:Nat}{X:Nat→Prop}{w w':World}(h:Below w.heap.size w w'):Ke B X w w':=qB.of_below h
theorem Ke.refl(B:Nat)(X:Nat→Prop)(w:World):Ke B X w w:=qB.refl _ _
theorem Ke.trans{B:Nat}{X:Nat→Prop}{a b c:World}(h:Ke B X a b)(k:Ke B X b c):Ke B X a c:=qB.trans h k (fun _ hi=>.inl hi)
theorem Ke.block{B:Nat}{X:Nat→Prop}{w w':World}(h:Ke B X w w'){j:Nat}(hj:j<w.heap.size)(hx:X j∨j<B):w'.heap[j]?=w.heap[j]? :=qB.block h j hj (fun hs=>by rcases hx with h|h;exact hs.2 h;omega)
theorem Ke.mono{B:Nat}{X Y:Nat→Prop}{w w':World}(h:Ke B X w w')(hy:∀j,Y j→X j):Ke B Y w w':=qB.mono h fun j hj=>⟨hj.1,fun y=>hj.2 (hy j y)⟩
structure Tri where
 d:DD
 m:Mt
 c:ch.CH
 lost:Bool
def V3 (IV:yv)(IC:ch.rS)(w:World)(B:Nat)(X:Nat→Prop)(v pd p:Nat)(s:Tri):Prop :=
 ∃o1 o2 o3,VP IV w o1 o2 v pd s.d s.m s.lost∧IC o3 w p s.c∧(∀j,o1 j∨o2 j→B≤j∧¬ o3 j∧¬ X j)∧(∀j,o3 j→B≤j∧¬ X j)∧(∀j,X j→j<w.heap.size)∧gN<B∧¬ X gN
section
variable {IV:yv} {IC:ch.rS} (H:js IV) (HC:ch.Ops IC) {w w':World} {B v pd p:Nat} {X:Nat→Prop} {s:Tri}
theorem iT {o:Nat→Prop}{d:DD}(h:dk.zK 1000 w o pd d):∀j,o j→j<w.heap.size:=by
 obtain⟨_,m,u,h1⟩:=h;exact h1.2.2.2.2.2.2
include H in
theorem VP.keep{o1 o2:Nat→Prop}{d:DD}{m:Mt}{l:Bool}(h:VP IV w o1 o2 v pd d m l)(hb:∀j,(o1 j∨o2 j)∨j=gN→w'.heap[j]?=w.heap[j]?)(hs:w.heap.size≤w'.heap.size):VP IV w' o1 o2 v pd d m l :=
 ⟨H.keep h.is (fun j hj=>hb j (hj.elim (fun h=>.inl (.inl h)) .inr)) hs,h.dk.keep hs (fun j hj=>hb j (.inl (.inr hj))),h.dj⟩
include H in
theorem VP.low{o1 o2:Nat→Prop}{d:DD}{m:Mt}{l:Bool}(h:VP IV w o1 o2 v pd d m l):∀j,(o1 j∨o2 j)∨j=gN→j<w.heap.size:=fun j hj=>by
 rcases hj with(hj|hj)|hj
 ·exact H.low h.is j (.inl hj)
 ·exact iT h.dk j hj
 ·exact H.low h.is j (.inr hj)
include H HC
theorem V3.below(h:V3 IV IC w B X v pd p s)(hb:Below w.heap.size w w'):V3 IV IC w' B X v pd p s:=by
 obtain⟨o1,o2,o3,h1,h2,h3,h4,h5⟩:=h;exact⟨o1,o2,o3,h1.keep H (fun j hj=>hb.block j (h1.low H j hj)) hb.size,HC.keep h2 (fun j hj=>hb.block j (HC.low h2 j hj)) hb.size,h3,h4,fun j hj=>Nat.lt_of_lt_of_le (h5.1 j hj) hb.size,h5.2⟩
theorem V3.more(h:V3 IV IC w B X v pd p s)(hb:Below w.heap.size w w'){Y:Nat→Prop}(hY:∀j,Y j→X j∨(w.heap.size≤j∧j<w'.heap.size)):V3 IV IC w' B Y v pd p s:=by
 obtain⟨o1,o2,o3,h1,h2,h3,h4,h5⟩:=h;refine⟨o1,o2,o3,h1.keep H (fun j hj=>hb.block j (h1.low H j hj)) hb.size,HC.keep h2 (fun j hj=>hb.block j (HC.low h2 j hj)) hb.size,fun j hj=>⟨(h3 j hj).1,(h3 j hj).2.1,fun hy=>?_⟩,fun j hj=>⟨(h4 j hj).1,fun hy=>?_⟩,fun j hj=>?_,h5.2.1,fun hy=>?_⟩
 ·rcases hY j hy with h|h
  ·exact(h3 j hj).2.2 h
  ·have:=h1.low H j (.inl hj);omega
 ·rcases hY j hy with h|h
  ·exact(h4 j hj).2 h
  ·have:=HC.low h2 j hj;omega
 ·rcases hY j hj with h|h
  ·exact Nat.lt_of_lt_of_le (h5.1 j h) hb.size
  ·exact h.2
 ·rcases hY gN hy with h|h
  ·exact h5.2.2 h
  ·have:=h1.low H gN (.inr rfl);omega
theorem V3.turn(h:V3 IV IC w B X v pd p s)(hb:qB X w w'):V3 IV IC w' B X v pd p s:=by
 obtain⟨o1,o2,o3,h1,h2,h3,h4,h5⟩:=h;exact⟨o1,o2,o3,h1.keep H (fun j hj=>hb.block j (h1.low H j hj) (hj.elim (fun hj=>(h3 j hj).2.2) (fun hj=>by rw[hj];exact h5.2.2))) hb.size,HC.keep h2 (fun j hj=>hb.block j (HC.low h2 j hj) (h4 j hj).2) hb.size,h3,h4,fun j hj=>Nat.lt_of_lt_of_le (h5.1 j hj) hb.size,h5.2⟩
end
end Go.Proofs.YtdpbdkacngaemaaGreatDoor.vt
namespace Go.Proofs.YtdpbdkacngaemaaGreatDoor.vt.pg
open _root_.Go.Proofs.Tryz Go Go.RowKit ib jr mt im sp
def InS (G:Nat→Prop)(A:Option Addr):Prop:=∀b o s,A=some ⟨b,o,s⟩→G b
theorem InS.none(G:Nat→Prop):InS G none:=fun _ _ _ h=>by cases h
theorem InS.mono{G G':Nat→Prop}{A:Option Addr}(h:InS G A)(hg:∀j,G j→G' j):InS G' A:=fun b o s e=>hg b (h b o s e)
def wI (G:Nat→Prop)(w w':World):Prop:=w.heap.size≤w'.heap.size∧∀j,G j→j<w.heap.size→w'.heap[j]?=w.heap[j]?
theorem wI.of_below{G:Nat→Prop}{w w':World}(h:Below w.heap.size w w'):wI G w w':=⟨h.size,fun j _ hj=>h.block j hj⟩
theorem wI.nG{G S:Nat→Prop}{w w':World}(h:ib.qB S w w')(hs:∀j,G j→¬ S j):wI G w w':=⟨h.size,fun j hg hj=>h.block j hj (hs j hg)⟩
structure bw(G:Nat→Prop)(w:World)(A:Option Addr)(l:List Int)(c:Nat):Prop where
 at_:jv w A l c
 in_:0<l.length→InS G A
theorem qjA{G:Nat→Prop}{w w':World}{A:Option Addr}{l:List Int}(h:ib.qL w A l)(hi:0<l.length→InS G A)(hs:wI G w w'):ib.qL w' A l:=by
 intro i hi';obtain⟨b,o,h1,h2,h3,h4⟩:=h i hi';refine⟨b,o,h1,Nat.lt_of_lt_of_le h2 hs.1,?_,h4⟩;rw[World.cell?_of_block (a:=⟨b,o+i,none⟩) (hs.2 b (hi (by omega) b o none h1) h2)];exact h3
theorem bw.stay{G:Nat→Prop}{w w':World}{A:Option Addr}{l:List Int}{c:Nat}(h:bw G w A l c)(hs:wI G w w'):bw G w' A l c :=
 ⟨⟨qjA h.at_.ints h.in_ hs,h.at_.cap,h.at_.nil⟩,h.in_⟩
theorem bw.mono{G G':Nat→Prop}{w:World}{A:Option Addr}{l:List Int}{c:Nat}(h:bw G w A l c)(hg:∀j,G j→G' j):bw G' w A l c:=⟨h.at_,fun hl=>(h.in_ hl).mono hg⟩
theorem bw.none(G:Nat→Prop)(w:World):bw G w none [] 0:=⟨jv.none w,fun _=>InS.none G⟩
theorem bw.qvR{G:Nat→Prop}{w0 w w':World}{A:Option Addr}{l:List Int}{c:Nat}(h:ib.New w w' A l c)(hg:∀j,w.heap.size≤j→j<w'.heap.size→G j)(hn:∀b o s,A=some ⟨b,o,s⟩→s=Option.none):bw G w' A l c :=
 ⟨h.sl,fun _ b o s e=>by
  obtain rfl:=hn b o s e;have:=h.new b o e;exact hg b this.1 this.2⟩
structure lR(G:Nat→Prop)(w:World)(A:Option Addr)(xs:List Sp):Prop where
 at_:∀i (h:i<xs.length),∃b o B c,A=some ⟨b,o,none⟩∧b<w.heap.size∧w.cell? ⟨b,o+i*4,none⟩=some (.int .u64 (xs[i].g.1:Int))∧w.cell? ⟨b,o+i*4+1,none⟩=some (.int .u64 (xs[i].g.2:Int)) ∧
  w.cell? ⟨b,o+i*4+2,none⟩=some (.slice B xs[i].qu.length c)∧w.cell? ⟨b,o+i*4+3,none⟩=some (.bool xs[i].hid)∧bw G w B xs[i].qu c∧xF xs[i].g
 in_:0<xs.length→InS G A
theorem lR.stay{G:Nat→Prop}{w w':World}{A:Option Addr}{xs:List Sp}(h:lR G w A xs)(hs:wI G w w'):lR G w' A xs:=by
 refine⟨fun i hi=>?_,h.in_⟩;obtain⟨b,o,B,c,h1,h2,h3,h4,h5,h6,h7,h8⟩:=h.at_ i hi;have hb:=hs.2 b (h.in_ (by omega) b o none h1) h2;exact⟨b,o,B,c,h1,Nat.lt_of_lt_of_le h2 hs.1,by rw[World.cell?_of_block (a:=⟨b,o+i*4,none⟩) hb];exact h3,by rw[World.cell?_of_block (a:=⟨b,o+i*4+1,none⟩) hb];exact h4,
  by rw[World.cell?_of_block (a:=⟨b,o+i*4+2,none⟩) hb];exact h5,by rw[World.cell?_of_block (a:=⟨b,o+i*4+3,none⟩) hb];exact h6,h7.stay hs,h8⟩
theorem lR.mono{G G':Nat→Prop}{w:World}{A:Option Addr}{xs:List Sp}(h:lR G w A xs)(hg:∀j,G j→G' j):lR G' w A xs:=by
 refine⟨fun i hi=>?_,fun hl=>(h.in_ hl).mono hg⟩;obtain⟨b,o,B,c,h1,h2,h3,h4,h5,h6,h7,h8⟩:=h.at_ i hi;exact⟨b,o,B,c,h1,h2,h3,h4,h5,h6,h7.mono hg,h8⟩
theorem lR.sns{G:Nat→Prop}{w:World}{A:Option Addr}{xs:List Sp}(h:lR G w A xs):jN w A xs:=by
 intro i hi;obtain⟨b,o,B,c,h1,h2,h3,h4,h5,h6,h7,h8⟩:=h.at_ i hi;exact⟨b,o,B,c,h1,h2,h3,h4,h5,h6,h7.at_,h8⟩
theorem lR.nil(G:Nat→Prop)(w:World):lR G w none []:=⟨fun i h=>absurd h (by simp),fun _=>InS.none G⟩
theorem lR.take{G:Nat→Prop}{w:World}{A:Option Addr}{xs:List Sp}(h:lR G w A xs)(n:Nat):lR G w A (xs.take n):=by
 refine⟨fun i hi=>?_,fun hl=>h.in_ (by rw[List.length_take]at hl;omega)⟩;have hl:i<xs.length:=by rw[List.length_take]at hi;omega
 have e:(xs.take n)[i]=xs[i]:=by simp
 rw[e];exact h.at_ i hl
structure um(G:Nat→Prop)(w:World)(A0 A1 A2:Option Addr)(c0 c1 c2:Nat)(m:Mt):Prop where
 live:bw G w A0 m.live c0
 qc:lR G w A1 m.qc
 room:m.qc.length≤c1∧(A1=none→m.qc.length=0∧c1=0)
 qu:bw G w A2 m.tok.qu c2
 base:xF m.tok.base
 target:xF m.tok.target
 next:qG m.tok.next
 all:qG m.tok.all
section
variable {G G':Nat→Prop} {w w':World} {A0 A1 A2:Option Addr} {c0 c1 c2:Nat} {m:Mt}
theorem um.stay(h:um G w A0 A1 A2 c0 c1 c2 m)(hs:wI G w w'):um G w' A0 A1 A2 c0 c1 c2 m :=
 ⟨h.live.stay hs,h.qc.stay hs,h.room,h.qu.stay hs,h.base,h.target,h.next,h.all⟩
theorem um.mono(h:um G w A0 A1 A2 c0 c1 c2 m)(hg:∀j,G j→G' j):um G' w A0 A1 A2 c0 c1 c2 m :=
 ⟨h.live.mono hg,h.qc.mono hg,h.room,h.qu.mono hg,h.base,h.target,h.next,h.all⟩
theorem um.below(h:um G w A0 A1 A2 c0 c1 c2 m)(hb:Below w.heap.size w w'):um G w' A0 A1 A2 c0 c1 c2 m:=h.stay (wI.of_below hb)
theorem bw.bound{A:Option Addr}{l:List Int}{c:Nat}(h:bw G w A l c):bw (fun j=>G j∧j<w.heap.size) w A l c :=
 ⟨h.at_,fun hl b o s e=>⟨h.in_ hl b o s e,by
  obtain⟨b',o',e',h2,_⟩:=h.at_.ints 0 hl;rw[e]at e';injection e' with e'
  injection e' with e1
  rw[e1];exact h2⟩⟩
theorem lR.bound{A:Option Addr}{xs:List Sp}(h:lR G w A xs):lR (fun j=>G j∧j<w.heap.size) w A xs:=by
 refine⟨fun i hi=>?_,fun hl b o s e=>⟨h.in_ hl b o s e,?_⟩⟩
 ·obtain⟨b,o,B,c,h1,h2,h3,h4,h5,h6,h7,h8⟩:=h.at_ i hi;exact⟨b,o,B,c,h1,h2,h3,h4,h5,h6,h7.bound,h8⟩
 ·obtain⟨b',o',B,c,e',h2,_⟩:=h.at_ 0 hl;rw[e]at e';injection e' with e'
  injection e' with e1
  rw[e1];exact h2
theorem um.bound(h:um G w A0 A1 A2 c0 c1 c2 m):um (fun j=>G j∧j<w.heap.size) w A0 A1 A2 c0 c1 c2 m:=⟨h.live.bound,h.qc.bound,h.room,h.qu.bound,h.base,h.target,h.next,h.all⟩
theorem um.mt(h:um G w A0 A1 A2 c0 c1 c2 m):MtL w A0 A1 A2 c0 c1 c2 m:=⟨h.live.at_,h.qc.sns,h.room,h.qu.at_,h.base,h.target,h.next,h.all⟩
end
def vC (A0 A1 A2:Option Addr)(c0 c1 c2:Nat)(m:Mt)(pd:Nat)(lost:Bool):Array Value:=#[.slice A0 m.live.length c0,.slice A1 m.qc.length c1,.int .u64 (m.tok.base.1:Int),.int .u64 (m.tok.base.2:Int),.int .u64 (m.tok.target.1:Int),.int .u64 (m.tok.target.2:Int),.int .i64 m.tok.next,.int .i64 m.tok.all,.slice A2 m.tok.qu.length c2,.pointer (some ⟨pd,0,none⟩),.bool lost]
structure qbm(o:Nat→Prop)(w:World)(v pd:Nat)(m:Mt)(lost:Bool)(A0 A1 A2:Option Addr)(c0 c1 c2:Nat):Prop where
 blk:qd w v 115 (vC A0 A1 A2 c0 c1 c2 m pd lost)
 tab:um (fun j=>o j∧j≠v) w A0 A1 A2 c0 c1 c2 m
 sz:mtS m
 ct:xY w
 own:o v
 low:∀j,o j→j<w.heap.size
 gv:gN≠v
 tk:m.tok.target=(0,0)→m.tok=yB
def ak:yv:=fun o w v pd m lost=>∃A0 A1 A2 c0 c1 c2,qbm o w v pd m lost A0 A1 A2 c0 c1 c2
section
variable {o:Nat→Prop} {w w':World} {v pd:Nat} {m:Mt} {lost:Bool} {A0 A1 A2:Option Addr} {c0 c1 c2:Nat}
theorem qbm.stay(h:qbm o w v pd m lost A0 A1 A2 c0 c1 c2)(hb:∀j,o j∨j=gN→w'.heap[j]?=w.heap[j]?)(hs:w.heap.size≤w'.heap.size):qbm o w' v pd m lost A0 A1 A2 c0 c1 c2 :=
 ⟨h.blk.of_block (hb v (.inl h.own)),h.tab.stay ⟨hs,fun j hj _=>hb j (.inl hj.1)⟩,h.sz,wH h.ct hs (hb gN (.inr rfl)),h.own,fun j hj=>Nat.lt_of_lt_of_le (h.low j hj) hs,h.gv,h.tk⟩
theorem qbm.below(h:qbm o w v pd m lost A0 A1 A2 c0 c1 c2)(hb:Below w.heap.size w w'):qbm o w' v pd m lost A0 A1 A2 c0 c1 c2 :=
 h.stay (fun j hj=>hb.block j (by
  rcases hj with hj|rfl
  ·exact h.low j hj
  ·exact xI h.ct)) hb.size
theorem ak.below(h:ak o w v pd m lost)(hb:Below w.heap.size w w'):ak o w' v pd m lost:=by
 obtain⟨A0,A1,A2,c0,c1,c2,h1⟩:=h;exact⟨A0,A1,A2,c0,c1,c2,h1.below hb⟩
theorem qn6(h:ak o w v pd m lost)(hb:∀j,o j∨j=gN→w'.heap[j]?=w.heap[j]?)(hs:w.heap.size≤w'.heap.size):ak o w' v pd m lost:=by
 obtain⟨A0,A1,A2,c0,c1,c2,h1⟩:=h;exact⟨A0,A1,A2,c0,c1,c2,h1.stay hb hs⟩
theorem qbn(h:ak o w v pd m lost):∀j,o j∨j=gN→j<w.heap.size:=by
 obtain⟨A0,A1,A2,c0,c1,c2,h1⟩:=h;intro j hj;rcases hj with hj|rfl
 ·exact h1.low j hj
 ·exact xI h1.ct
theorem qrF(h:ak o w v pd m lost):xY w:=by
 obtain⟨A0,A1,A2,c0,c1,c2,h1⟩:=h;exact h1.ct
theorem qrG(h:ak o w v pd m lost):mB m:=by
 obtain⟨A0,A1,A2,c0,c1,c2,h1⟩:=h;exact h1.tab.mt.mB
theorem ze {o1 o2:Nat→Prop}{d:DD}(h:VP ak w o1 o2 v pd d m lost)(hb:Below w.heap.size w w'):VP ak w' o1 o2 v pd d m lost :=
 ⟨h.is.below hb,h.dk.keep hb.size (fun j hj=>hb.block j (iT h.dk j hj)),h.dj⟩
structure qvS(w:World)(v:Nat)(A0 A1 A2:Option Addr)(c0 c1 c2:Nat)(m:Mt)(pd:Nat)(lost:Bool):Prop where
 lt:v<w.heap.size
 k0:w.cell? ⟨v,0,none⟩=some (.slice A0 m.live.length c0)
 k1:w.cell? ⟨v,1,none⟩=some (.slice A1 m.qc.length c1)
 k2:w.cell? ⟨v,2,none⟩=some (.int .u64 (m.tok.base.1:Int))
 k3:w.cell? ⟨v,3,none⟩=some (.int .u64 (m.tok.base.2:Int))
 k4:w.cell? ⟨v,4,none⟩=some (.int .u64 (m.tok.target.1:Int))
 k5:w.cell? ⟨v,5,none⟩=some (.int .u64 (m.tok.target.2:Int))
 k6:w.cell? ⟨v,6,none⟩=some (.int .i64 m.tok.next)
 k7:w.cell? ⟨v,7,none⟩=some (.int .i64 m.tok.all)
 k8:w.cell? ⟨v,8,none⟩=some (.slice A2 m.tok.qu.length c2)
 k9:w.cell? ⟨v,9,none⟩=some (.pointer (some ⟨pd,0,none⟩))
 cT:w.cell? ⟨v,10,none⟩=some (.bool lost)
theorem qbm.cells(h:qbm o w v pd m lost A0 A1 A2 c0 c1 c2):qvS w v A0 A1 A2 c0 c1 c2 m pd lost :=
 ⟨h.blk.lt,h.blk.cell 0,h.blk.cell 1,h.blk.cell 2,h.blk.cell 3,h.blk.cell 4,h.blk.cell 5,h.blk.cell 6,h.blk.cell 7,h.blk.cell 8,h.blk.cell 9,h.blk.cell 10⟩
end
end Go.Proofs.YtdpbdkacngaemaaGreatDoor.vt.pg
namespace Go.Proofs.YtdpbdkacngaemaaGreatDoor.ib
open _root_.Go.Proofs.Tryz Go Go.RowKit
theorem qdj(o:Nat):∀(l:List Value) (k:Nat) (acc:Array Value),o+k+l.length≤acc.size →
    (l.zipIdx k).foldl (fun a x=>a.setIfInBounds (o+x.2) x.1) acc=(acc.toList.take (o+k)++l++acc.toList.drop (o+k+l.length)).toArray
 | [],k,acc,_=>by simp
 | x::l,k,acc,h=>by
  have hk:o+k<acc.size:=by simp at h;omega
  have dE:o+k<acc.toList.length:=by simpa using hk
  rw[List.zipIdx_cons,List.foldl_cons,qdj o l (k+1) _ (by simp at h ⊢;omega)]
  congr 1
  simp only[Array.toList_setIfInBounds,List.length_cons];rw[List.drop_set_of_lt (by omega),show o+(k+1)+l.length=o+k+(l.length+1)by omega,show o+(k+1)=o+k+1 by omega];have e:(acc.toList.set (o+k) x).take (o+k+1)=acc.toList.take (o+k)++[x]:=by
   rw[List.take_succ_eq_append_getElem (by simpa using hk)];simp only[List.getElem_set_self,List.take_set];rw[List.set_eq_of_length_le (by simp;omega)]
  rw[e];simp
theorem iU (place:Nat→Option (Nat × Nat))(acc:Array Value)(i off size:Nat)(cs:Array Value)(rest:List (Nat × Value))(hp:place i=some (off,size))(hs:cs.size=size)(hb:off+size≤acc.size) :
    Instr.fill place acc ((i,.agg cs)::rest)=Instr.fill place (acc.toList.take off++cs.toList++acc.toList.drop (off+size)).toArray rest:=by
 have hl:cs.toList.length=size:=by simpa using hs
 have hf:=qdj off cs.toList 0 acc (by simp;omega);have hc:(decide (cs.size≠size) || decide (off+cs.size>acc.size))=false:=by simp[hs];omega
 have e:Instr.fill place acc ((i,.agg cs)::rest)=if (decide (cs.size≠size) || decide (off+cs.size>acc.size))=true then none else Instr.fill place (cs.zipIdx.foldl (fun a x=>a.setIfInBounds (off+x.2) x.1) acc) rest:=by
  rw[Instr.fill,hp];rfl
 rw[e,hc];simp only[Bool.false_eq_true,if_false]
 congr 1
 rw[← Array.foldl_toList,Array.toList_zipIdx];rw[hl,Nat.add_zero]at hf;exact hf
theorem yV {P:Program}(w:World)(g o:Nat)(t ty:TypeId)(cs:Array Value)(xs:List Value)(fr:Nat × Nat)(d:TypeDesc)(hg:w.heap[g]?=some (.cells cs t fr))
    (hu:P.underlying ty=some d) (hd:(match d with | .struct _ | .array _ _=>true|_=>false)=true) (hi:(P.info? ty).map (·.size)=some xs.length) (hx:∀j u,xs[j]?=some u→cs[o+j]?=some u) :
    (loadVar ty ⟨g,o,none⟩).run P w=.ok (.agg xs.toArray) w:=by
 have hl:(loadCells ⟨g,o,none⟩ xs.length).run P w=.ok xs.toArray w :=
  run_loadCells_list (P:=P) w ⟨g,o,none⟩ xs (fun j v hv=>by
   rw[addr_add,cell_of_row w g (o+j) cs t fr hg];exact hx j v hv)
 cases hq:P.info? ty with
 | none=>simp[hq]at hi
 | some i =>
  have hs:i.size=xs.length:=by simpa[hq]using hi
  have hagg:(isAgg ty).run P w=.ok true w:=by
   unfold isAgg;rw[Sem.run_bind,run_underlying hu w];cases d <;> simp_all
  simp[loadVar,Sem.run_bind,hagg,sizeOf,typeInfo,hq,hs,hl]
theorem qF {ρ:Operand→Value}{o:Oper}{P:Program}{w:World}(ty:TypeId)(x:Operand)(ho:o.op=.load ty x)(g i:Nat)(hx:ρ x=.pointer (some ⟨g,i,none⟩))(t:TypeId)(cs:Array Value)(xs:List Value)(fr:Nat × Nat)(d:TypeDesc)
    (hg:w.heap[g]?=some (.cells cs t fr)) (hu:P.underlying ty=some d) (hd:(match d with | .struct _ | .array _ _=>true|_=>false)=true) (hi:(P.info? ty).map (·.size)=some xs.length) (hc:∀j u,xs[j]?=some u→cs[i+j]?=some u) :
    (execOp ρ o).run P w=.ok (.value (.agg xs.toArray)) w:=by
 simp only[execOp,ho,hx,Instr.loadAt,Instr.sureAddr,Sem.run_bind,Sem.run_pure,Result.andThen_ok,yV w g i t ty cs xs fr d hg hu hd hi hc]
theorem jS {P:Program}(w:World)(g o:Nat)(t ty:TypeId)(cur:Array Value)(xs:List Value)(hg:w.heap[g]?=some (.cells cur t (0,0)))(hi:(P.info? ty).map (·.size)=some xs.length)(hl:o+xs.length≤cur.size)(h1:∀v∈xs,v.oneCell'=true) :
    (storeVar ty ⟨g,o,none⟩ (.agg xs.toArray)).run P w=.ok () (w.setRow g (cur.toList.take o++xs++cur.toList.drop (o+xs.length)).toArray):=by
 have:=run_storeCells_at P g o t xs 0 cur w hg (by simpa using hl) h1;cases hq:P.info? ty with
 | none=>simp[hq]at hi
 | some i =>
  have hs:i.size=xs.length:=by simpa[hq]using hi
  simp only[Nat.add_zero]at this;simp[storeVar,sizeOf,typeInfo,hq,Value.cells,hs,this]
theorem mF {ρ:Operand→Value}{o:Oper}{P:Program}(w:World)(ty:TypeId)(x y:Operand)(ho:o.op=.store ty x y)(g i:Nat)(hx:ρ x=.pointer (some ⟨g,i,none⟩))(xs:List Value)(hy:ρ y=.agg xs.toArray)(t:TypeId)(cur:Array Value)
    (hg:qd w g t cur) (hi:(P.info? ty).map (·.size)=some xs.length) (hl:i+xs.length≤cur.size) (h1:∀v∈xs,v.oneCell'=true) :
    (execOp ρ o).run P w=.ok .skip (w.setRow g (cur.toList.take i++xs++cur.toList.drop (i+xs.length)).toArray):=by
 have hr:=jS (P:=P) w g i t ty cur xs hg hi hl h1;have h2:(Instr.storeAt ty (.pointer (some ⟨g,i,none⟩)) (.agg xs.toArray)).run P w=.ok () (w.setRow g (cur.toList.take i++xs++cur.toList.drop (i+xs.length)).toArray):=by
  simp only[Instr.storeAt,Instr.sureAddr,Sem.run_bind,Sem.run_pure,Result.andThen];exact hr
 simp[execOp,ho,hx,hy,h2,Result.andThen]
theorem qZ {ρ:Operand→Value}{o:Oper}{P:Program}(w:World)(t:TypeId)(c c':Array Value)(x y:Operand)(ho:o.op=.store t x y)(hx:ρ x=.pointer (some ⟨w.heap.size,0,none⟩))(hy:ρ y=.agg c')
    (hi:(P.info? t).map (·.size)=some c'.size) (hoc:c.size=c'.size) (h1:c'.all (·.oneCell')=true) :
    (execOp ρ o).run P (w.alloc (.cells c t))=.ok .skip (w.alloc (.cells c' t)):=by
 have hr:=run_storeAt_new (P:=P) w t c c' hi hoc h1;simp[execOp,ho,hx,hy,hr,Result.andThen]
theorem ku {l:List Value}(h:∀v∈l,v.oneCell'=true):l.toArray.all (·.oneCell')=true:=by
 rw[Array.all_eq_true'];intro u hu;exact h u (by simpa using hu)
theorem gu {ρ:Operand→Value}{o:Oper}{P:Program}{w:World}(t:TypeId)(i:TypeInfo)(z:Array Value)(ho:o.op=.alloc t)(hi:P.info? t=some i)(hz:i.zero=some (.agg z)) :
    (execOp ρ o).run P w=.ok (.value (.pointer (some ⟨w.heap.size,0,none⟩))) (w.alloc (.cells z t)):=by
 have hz:∀w,(zeroValue t).run P w=.ok (.agg z) w:=fun w=>by simp[zeroValue,typeInfo,hi,hz]
 simp[execOp,ho,Instr.alloc,hz,Result.andThen,go_sem,Value.cells]
theorem fu {ρ:Operand→Value}{o:Oper}{P:Program}{w:World}(t:TypeId)(x:Operand)(cs:Array Value)(ho:o.op=.box t x)(hx:ρ x=.agg cs)(hs:(P.info? t).map (·.size)=some cs.size)(h1:cs.all (·.oneCell')=true) :
    (execOp ρ o).run P w=.ok (.value (.pointer (some ⟨w.heap.size,0,none⟩))) (w.alloc (.cells cs t)):=by
 simp[execOp,ho,hx,Instr.box,Result.andThen,go_sem,Value.cells]
theorem qn7{ρ:Operand→Value}{o:Oper}{P:Program}{w:World}(st t:TypeId)(x:Operand)(cs:Array Value)(size:Nat)(ho:o.op=.buildSlice st 1 #[(0,x)])(hx:ρ x=.agg cs)
    (hu:P.underlying st=some (.slice t)) (i:TypeInfo) (z:Value) (hi:P.info? t=some i) (hz:i.zero=some z) (hs:i.size=size) (h0:0<size) (hm:size≤2 ^ 24) (hc:cs.size=size) :
    (execOp ρ o).run P w=.ok (.value (.slice (some ⟨w.heap.size,0,none⟩) 1 1)) (w.alloc (.cells cs t)):=by
 have hr:=run_buildSlice (P:=P) w st t 1 #[(0,.agg cs)] cs i z hu hi hz (by rw[hs];omega) (by rw[hs];omega) (by
  rw[hs,iU _ _ 0 0 size cs [] (by simp) hc (by simp)];simp[Instr.fill];rw[List.drop_eq_nil_of_le (by simp)];simp)
 simp[execOp,ho,hx,hr,Result.andThen]
theorem oY {ρ:Operand→Value}{o:Oper}{P:Program}(w:World)(x y:Operand)(bt st ut:TypeId)(s:ByteArray)(g i n c:Nat)(t:TypeId)(cur:Array Value)(iu:TypeInfo)(ho:o.op=.call { callee:=.builtin .copy,args:=#[x,y],argTypes:=#[bt,st] })
    (hx:ρ x=.slice (some ⟨g,i,none⟩) n c) (hy:ρ y=.string s) (hs:s.size=n) (hg:qd w g t cur) (hl:i+n≤cur.size) (hu:P.underlying bt=some (.slice ut)) (hi:P.info? ut=some iu) (hz:iu.size=1) :
    (execOp ρ o).run P w=.ok (.value (.int .i64 (n:Int))) (w.setRow g (cur.toList.take i++Lib.byteCells (bl s)++cur.toList.drop (i+n)).toArray):=by
 have hlen:(bl s).length=n:=by rw[zn,hs]
 have hst:=run_storeCells_at P g i t (Lib.byteCells (bl s)) 0 cur w hg (by rw[Lib.byteCells_length,hlen];simpa using hl) (Lib.byteCells_one _);rw[Lib.byteCells_length,hlen]at hst;simp only[Nat.add_zero]at hst;have iH:List.take n (List.map (fun b:UInt8=>Value.int IntKind.u8 (b.toNat:Int)) s.data.toList)=Lib.byteCells (bl s):=by
  rw[List.take_of_length_le]
  ·rfl
  ·simp only[List.length_map];have:s.data.toList.length=n:=hlen;omega
 have hc:(Builtin.copy_ #[bt,st] o.type #[.slice (some ⟨g,i,none⟩) n c,.string s]).run P w=.ok (.int .i64 (n:Int)) (w.setRow g (cur.toList.take i++Lib.byteCells (bl s)++cur.toList.drop (i+n)).toArray):=by
  simp[Builtin.copy_,run_underlying hu,Builtin.lenOf,Builtin.firstCells,sizeOf,typeInfo,hi,hz,hs];rw[iH,hst];simp[Result.andThen];rfl
 simp[execOp,ho,resolve,invoke,builtin,hx,hy,hc,Result.andThen]
theorem mG {P:Program}(w:World)(t ty e:TypeId)(i:TypeInfo)(z:Value)(size bytes:Nat)(ht:P.underlying t=some (.slice e))(hi:P.info? e=some i)(hz:i.zero=some z)(hsize:i.size=size)(hby:i.bytes=bytes)
    (A:Option Addr) (n:Nat) (xs:List Value) (eH:xs.length=n*size) (hA:A=none→n=0) (holds:∀b,A=some b→∀j u,xs[j]?=some u→w.cell? (b.add j)=some u)
    (a:Addr) (m c:Nat) (news:List Value) (hl:news.length=m*size) (hnews:∀j u,news[j]?=some u→w.cell? (a.add j)=some u) (h0:0<m)
    (h63:n+m≤maxLen) (hbytes:(n+m)*bytes≤140737488355328) :
    ∃cap cur w',(Builtin.append_ #[t,t] ty #[.slice A n n,.slice (some a) m c]).run P w=.ok (.slice (some ⟨w.heap.size,0,none⟩) (n+m) cap) w'∧Below w.heap.size w w'∧qd w' w.heap.size e cur ∧
     cur.toList.take ((n+m)*size)=xs++news∧n+m≤cap∧cap≤maxLen∧w'.heap.size=w.heap.size+1:=by
 subst hsize;subst hby;have q5t:n+m≤9223372036854775807:=by simp only[maxLen]at h63;omega
 have hlen:(xs++news).length=(n+m)*i.size:=by rw[List.length_append,eH,hl,Nat.add_mul]
 have bq:∀cs,Below w.heap.size w (w.drew.alloc (.cells cs e)):=fun cs=>⟨rfl,rfl,rfl,by simp,fun k hk=>heap_alloc_old w.drew _ hk⟩;cases A with
 | none =>
  obtain rfl:=hA rfl;have hx:xs=[]:=List.eq_nil_of_length_eq_zero (by simpa using eH);subst hx;have hr:=run_append_nil (P:=P) w t ty e i z ht hi hz a m c news hl hnews h0 (by omega) (by have hb:=hbytes;simp only[Nat.zero_add]at hb;omega);rw[Nat.zero_add,List.nil_append];refine⟨_,_,_,hr,bq _,heap_alloc_new w.drew _,?_,grownCap_ge _ _ _ _,grownCap_le_maxLen _ _ _ _ (by omega),by simp⟩;simp only[Array.toList_append];rw[← hl];exact List.take_left
 | some b =>
  have hr:=run_append_grow (P:=P) w t ty e i z ht hi hz b n n xs eH (holds b rfl) a m c news hl hnews (by omega) (by omega) (growslice_fits (by omega) hbytes);refine⟨_,_,_,hr,bq _,heap_alloc_new w.drew _,?_,grownCap_ge _ _ _ _,grownCap_le_maxLen _ _ _ _ h63,by simp⟩;simp only[Array.toList_append,List.append_assoc];rw[← List.append_assoc,← hlen];exact List.take_left
theorem aq {P:Program}{o:Oper}{a:Act}{w:World}{K:Act→World→Prop}{Q:Exit→Act→World→Prop}(s x:Operand)(t:TypeId)
    (ho:o.op=.call { callee:=.builtin .append,args:=#[s,x],argTypes:=#[t,t] })
    (e:TypeId) (i:TypeInfo) (z:Value) (size bytes:Nat) (ht:P.underlying t=some (.slice e)) (hi:P.info? e=some i) (hz:i.zero=some z)
    (hsize:i.size=size) (hby:i.bytes=bytes) (A:Option Addr) (n:Nat) (xs:List Value) (hs:a.eval s=.slice A n n)
    (eH:xs.length=n*size) (hA:A=none→n=0) (holds:∀b,A=some b→∀j u,xs[j]?=some u→w.cell? (b.add j)=some u)
    (ad:Addr) (m c:Nat) (news:List Value) (hx:a.eval x=.slice (some ad) m c) (hl:news.length=m*size) (hnews:∀j u,news[j]?=some u→w.cell? (ad.add j)=some u) (h0:0<m)
    (h63:n+m≤maxLen) (hbytes:(n+m)*bytes≤140737488355328)
    (h:∀cap cur w',Below w.heap.size w w'→qd w' w.heap.size e cur→cur.toList.take ((n+m)*size)=xs++news→n+m≤cap→cap≤maxLen→w'.heap.size=w.heap.size+1→K (a.put o.dst (.slice (some ⟨w.heap.size,0,none⟩) (n+m) cap)) w'):o.wp P a w K Q:=by
 obtain⟨cap,cur,w',hrun,h2,h3,h4,h5,h6,h7⟩:=mG (P:=P) w t o.type e i z size bytes ht hi hz hsize hby A n xs eH hA holds ad m c news hl hnews h0 h63 hbytes;unfold Oper.wp;simp[execOp,ho,resolve,invoke,builtin,hs,hx,hrun,Result.andThen];exact h cap cur w' h2 h3 h4 h5 h6 h7
theorem zh {fn:Func}{p:Tmp}{ty:TypeId}(h:fn.results = #[.cell p ty])(tmps:Array Value)(P:Program)(w:World)(a:Addr)(v:Value)
    (hp:tmps.getD p undef=.pointer (some a)) (h1:(loadVar ty a).run P w=.ok v w):(results fn tmps).run P w=.ok v w:=by
 simp only[results,h];simp only[Array.getD_eq_getD_getElem?]at hp;simp[Sem.run_bind,Result.andThen,asAddr,hp,h1]
theorem oZ {w:World}{g:Nat}{t:TypeId}{cur c:Array Value}(h:qd w g t cur):qd (w.setRow g c) g t c:=by
 unfold qd at h ⊢;unfold World.setRow;rw[Array.getElem?_modify,if_pos rfl,h];rfl
theorem qgb{w:World}{g k:Nat}{c:Array Value}(h:k≠g):(w.setRow g c).heap[k]?=w.heap[k]? :=by
 unfold World.setRow;simp only[Array.getElem?_modify];rw[if_neg (Ne.symm h)]
theorem setRow_size(w:World)(g:Nat)(c:Array Value):(w.setRow g c).heap.size=w.heap.size:=by
 unfold World.setRow;simp
theorem p7 (w:World)(g:Nat)(c:Array Value):qB (fun k=>k=g) w (w.setRow g c) :=
 ⟨rfl,rfl,rfl,by rw[setRow_size];exact Nat.le_refl _,fun k _ hn=>qgb hn⟩
end Go.Proofs.YtdpbdkacngaemaaGreatDoor.ib
namespace Go.Proofs.YtdpbdkacngaemaaGreatDoor.vt.pg
open _root_.Go.Proofs.Tryz Go Go.RowKit ib mt im sp
theorem cE {ρ:Operand→Value}{o:Oper}{w:World}(x y:Operand)(n:Nat)(ho:o.op=.makeSlice 80 x y)(hx:ρ x=.int .i64 (n:Int))(hy:ρ y=.int .i64 (n:Int))(h:n≤1000) :
    (execOp ρ o).run prog w=.ok (.value (.slice (some ⟨w.heap.size,0,none⟩) n n)) (w.alloc (.cells (qi (List.replicate n 0)) 3)):=by
 have:=sY (n:Int) (by omega) (by omega) w;simp only[Int.toNat_natCast]at this;simp[execOp,ho,hx,hy,this,Result.andThen]
theorem qtO:(prog.info? 3).map (·.size)=some 1:=by kernel_rfl
def qvT (l:List Int)(w:World)(e:Ending)(w':World):Prop:=e=.returned (.slice (some ⟨w.heap.size,0,none⟩) l.length l.length)∧qd w' w.heap.size 3 (qi l)∧Below w.heap.size w w'
theorem qjB{w:World}{A:Option Addr}{l:List Int}{c:Nat}(h:jv w A l c)(h0:l.length≠0):∃b o,A=some ⟨b,o,none⟩:=by
 obtain⟨b,o,h1,_⟩:=h.ints 0 (by omega);exact⟨b,o,h1⟩
theorem gy (A:Option Addr)(c:Nat)(l:List Int)(w:World)(h:jv w A l c)(hl:l.length≤1000):Calls prog 98 #[.slice A l.length c] w (qvT l w):=by
 have hb:=(Below.refl w.heap.size w).alloc (Nat.le_refl _) (.cells (qi (List.replicate l.length 0)) 3);have hk:=qd.new w 3 (qi (List.replicate l.length 0));have hh:=h.below hb;obtain⟨W1,hW1⟩:=QE (w.alloc (.cells (qi (List.replicate l.length 0)) 3));rw[hW1]at hb hk hh;have q0r:∃W2,(Builtin.copy_ #[80,80] 3 #[.slice (some ⟨w.heap.size,0,none⟩) l.length l.length,.slice A l.length c]).run prog W1=.ok (.int .i64 (l.length:Int)) W2∧qd W2 w.heap.size 3 (qi l)∧Below w.heap.size w W2:=by
  by_cases h0:l.length=0
  ·refine⟨W1,?_,?_,hb⟩
   ·have:=run_copy_none (P:=prog) W1 80 80 3 3 (some ⟨w.heap.size,0,none⟩) A l.length l.length l.length c underlying80 qtO (by rw[h0];rfl);rw[this,h0];rfl
   ·obtain rfl:l=[]:=List.length_eq_zero_iff.1 h0;exact hk
  ·obtain⟨b,o,rfl⟩:=qjB h h0;have:=run_copy_row prog W1 80 80 3 3 w.heap.size 0 l.length l.length ⟨b,o,none⟩ l.length c (qi (List.replicate l.length 0)) 3 (l.map (Value.int .i64)) underlying80 qtO hk (by simp) (fun j v hj=>by
    have hjl:j<l.length:=by
     have:=(List.getElem?_eq_some_iff.1 hj).1;simpa using this
    obtain⟨b',o',e,h1,h2,_⟩:=hh.ints j hjl;simp only[Option.some.injEq,Addr.mk.injEq,and_true]at e;obtain⟨rfl,rfl⟩:=e;rw[addr_add,h2];simpa[hjl]using hj) (by simp[qi]) (fun v hv=>by
    obtain⟨z,_,rfl⟩:=List.mem_map.1 hv;rfl)
   have e:((qi (List.replicate l.length 0)).toList.take 0++l.map (Value.int .i64)++(qi (List.replicate l.length 0)).toList.drop (0+(l.map (Value.int .i64)).length)).toArray=qi l:=by
    simp[qi]
   rw[e]at this;refine⟨_,?_,setRow_heap W1 w.heap.size (qi (List.replicate l.length 0)) (qi l) 3 (0,0) hk,?_⟩
   ·rw[this];simp[goInt]
   ·exact wU hb _ (Nat.le_refl _)
 obtain⟨W2,hc,hk2,hb2⟩:=q0r;have uR:=QH hk2;have qC:=QH hb2;clear h hb hk hh hk2 hb2;go_enter func98,ntmps98;go_wp2_with (at_make;refine qh rfl (cE _ _ l.length rfl rfl rfl (by omega)) ?_);go_ret;exact⟨rfl,uR.out,qC.out⟩
theorem qvT.sl{l:List Int}{w w':World}{e:Ending}(h:qvT l w e w')(hz:∀z∈l,qG z)(G:Nat→Prop)(hG:G w.heap.size):bw G w' (some ⟨w.heap.size,0,none⟩) l l.length :=
 ⟨⟨qd.nums h.2.1 hz,Nat.le_refl _,fun h=>by cases h⟩,fun _ b o s e=>by
  simp only[Option.some.injEq,Addr.mk.injEq]at e;rw[← e.1];exact hG⟩
def SnI (G:Nat→Prop)(w:World)(x:eA):Prop:=∃B c,x.2=.slice B x.1.qu.length c∧bw G w B x.1.qu c∧xF x.1.g
theorem SnI.stay{G:Nat→Prop}{w w':World}{x:eA}(h:SnI G w x)(hs:wI G w w'):SnI G w' x:=by
 obtain⟨B,c,h1,h2,h3⟩:=h;exact⟨B,c,h1,h2.stay hs,h3⟩
theorem qn8:∀(l:List eA) (j:Nat) (u:Value),(zG l)[j]?=some u→∃i k,∃h:i<l.length,k<4∧j=i*4+k∧(iB l[i])[k]?=some u:=by
 intro l j u h;have hj:j<l.length*4:=by
  have:=(List.getElem?_eq_some_iff.1 h).1;rw[yU]at this;exact this
 have hi:j/4<l.length:=by omega
 have hk:j%4<4:=Nat.mod_lt _ (by omega);refine⟨j/4,j%4,hi,hk,by omega,?_⟩;rw[← xR l (j/4) hi (j%4) hk,show j/4*4+j%4=j by omega];exact h
theorem lR.row{G:Nat→Prop}{w:World}{A:Option Addr}{sn:List Sp}(h:lR G w A sn):∃xs:List eA,xs.map (·.1)=sn∧(∀x∈xs,SnI G w x) ∧
    ∀j u,(zG xs)[j]?=some u→∃b o,A=some ⟨b,o,none⟩∧b<w.heap.size∧w.cell? ⟨b,o+j,none⟩=some u:=by
 obtain⟨vs,hl,hv⟩:=xr (p:=fun i (v:Value)=>∃(hi:i<sn.length),SnI G w (sn[i],v)∧∀k u,k<4→(iB (sn[i],v))[k]?=some u→∃b o,A=some ⟨b,o,none⟩∧b<w.heap.size∧w.cell? ⟨b,o+i*4+k,none⟩=some u) sn.length (fun i hi=>by
  obtain⟨b,o,B,c,h1,h2,h3,h4,h5,h6,h7,h8⟩:=h.at_ i hi;refine⟨.slice B sn[i].qu.length c,hi,⟨B,c,rfl,h7,h8⟩,fun k u hk hu=>⟨b,o,h1,h2,?_⟩⟩
  match k,hk with
  | 0,_=>simp[iB]at hu;subst hu;exact h3
  | 1,_=>simp[iB]at hu;subst hu;exact h4
  | 2,_=>simp[iB]at hu;subst hu;exact h5
  | 3,_=>simp[iB]at hu;subst hu;exact h6)
 refine⟨sn.zip vs,?_,fun x hx=>?_,fun j u hj=>?_⟩
 ·rw[List.map_fst_zip (by omega)]
 ·obtain⟨i,hi,rfl⟩:=List.getElem_of_mem hx;have hi':i<vs.length:=by simp at hi;omega
  obtain⟨_,h1,_⟩:=hv i hi';simpa using h1
 ·obtain⟨i,k,hi,hk,rfl,hu⟩:=qn8 _ _ _ hj;have hi':i<vs.length:=by simp at hi;omega
  obtain⟨_,_,h2⟩:=hv i hi';obtain⟨b,o,h3,h4,h5⟩:=h2 k u hk (by simpa using hu);exact⟨b,o,h3,h4,by rw[← Nat.add_assoc];exact h5⟩
theorem lR.qn9{G:Nat→Prop}{w:World}{g:Nat}{xs:List eA}(hg:G g)(hl:g<w.heap.size)(hc:∀j u,(zG xs)[j]?=some u→w.cell? ⟨g,j,none⟩=some u)(hx:∀x∈xs,SnI G w x):lR G w (some ⟨g,0,none⟩) (xs.map (·.1)):=by
 refine⟨fun i hi=>?_,fun _ b o s e=>by
  simp only[Option.some.injEq,Addr.mk.injEq]at e;rw[← e.1];exact hg⟩
 have hix:i<xs.length:=by simpa using hi
 have e:(xs.map (·.1))[i]=xs[i].1:=by simp
 rw[e];obtain⟨B,c,h1,h2,h3⟩:=hx _ (List.getElem_mem hix);refine⟨g,0,B,c,rfl,hl,?_,?_,?_,?_,h2,h3⟩
 ·rw[Nat.zero_add];have:=hc (i*4+0) _ (xR xs i hix 0 (by omega));exact this
 ·rw[Nat.zero_add];exact hc (i*4+1) _ (xR xs i hix 1 (by omega))
 ·rw[Nat.zero_add,← h1];exact hc (i*4+2) _ (xR xs i hix 2 (by omega))
 ·rw[Nat.zero_add];exact hc (i*4+3) _ (xR xs i hix 3 (by omega))
theorem vR {w:World}{g n:Nat}{t:TypeId}{cur:Array Value}{l:List Value}(h:qd w g t cur)(ht:cur.toList.take n=l):∀j u,l[j]?=some u→w.cell? ⟨g,j,none⟩=some u:=by
 intro j u hu;rw[h.cell j];rw[← ht,List.getElem?_take]at hu;split at hu
 ·simpa using hu
 ·cases hu
end Go.Proofs.YtdpbdkacngaemaaGreatDoor.vt.pg
namespace Go.Proofs.YtdpbdkacngaemaaGreatDoor.vt.pg
open _root_.Go.Proofs.Tryz Go Go.RowKit ib wi im mt mt.pg
theorem q0s{w:World}{B:Nat}{A:Option Addr}{n c:Nat}{zs:List Int}(h:zj w B (.slice A n c) zs):InS (fun j=>B≤j) A:=by
 rcases h.2 with⟨e,h0⟩|⟨g,cap,cur,e,hg,hh,hcc,hm,hcs,xg⟩
 ·cases e;exact InS.none _
 ·cases e;intro b o s e;cases e;exact hg
theorem qgc{w:World}{B:Nat}{A:Option Addr}{n c:Nat}{zs:List Int}(h:zj w B (.slice A n c) zs)(hz:∀z∈zs,qG z):bw (fun j=>B≤j) w A zs c:=by
 obtain⟨A',c',e,h1⟩:=qhz h hz;have h2:=q0s h;cases e;exact⟨h1,fun _=>h2⟩
theorem q0t{w:World}{B:Nat}{A:Option Addr}{n c:Nat}{xs:List eA}(h:wS w B (.slice A n c) xs)(hz:∀x∈xs,∀z∈x.1.qu,qG z)(hg:∀x∈xs,xF x.1.g) :
    lR (fun j=>B≤j) w A (xs.map (·.1))∧((xs.map (·.1)).length≤c∧(A=none→(xs.map (·.1)).length=0∧c=0)):=by
 obtain⟨A',c',e,h1,h2⟩:=h.view hz hg;simp only[Value.slice.injEq]at e;obtain⟨rfl,hn,rfl⟩:=e;refine⟨?_,h2⟩;rcases h.1.2 with⟨e,h0⟩|⟨g,cap,cur,e,hgB,hh,hcc,hm,hcs,xg⟩
 ·simp only[Value.slice.injEq]at e;obtain⟨rfl,_,rfl⟩:=e;obtain rfl:xs=[]:=List.length_eq_zero_iff.1 h0;exact lR.nil _ _
 ·simp only[Value.slice.injEq]at e;obtain⟨rfl,_,rfl⟩:=e;refine lR.qn9 hgB (Array.getElem?_eq_some_iff.1 hh).1 (fun j u hu=>?_) (fun x hx=>?_)
  ·rw[cell_of_row w g j cur 141 (0,0) hh];rw[← xg,List.getElem?_take]at hu;split at hu
   ·simpa using hu
   ·cases hu
  ·have hi:=h.2 x hx;obtain⟨A1,c1,e1⟩:=xQ hi;rw[e1]at hi;exact⟨A1,c1,e1,qgc hi (hz x hx),hg x hx⟩
theorem qgd{w:World}{B:Nat}{A0 A1 A2:Option Addr}{n0 n1 n2 c0 c1 c2:Nat}{m:Mt}(h:Own w B (.slice A0 n0 c0) (.slice A1 n1 c1) (.slice A2 n2 c2) m):um (fun j=>B≤j) w A0 A1 A2 c0 c1 c2 m:=by
 have i64:∀ {z:Int},0≤z∧z≤1048576→qG z:=fun h=>by unfold qG;omega
 obtain⟨xs,a,b,c,d⟩:=h.at_;obtain⟨hf,ht⟩:=h.ok;rw[← d]at hf;have hsn:∀x∈xs,yu x.1.qu∧xF x.1.g:=fun x hx=>⟨(hf.sn _ (List.mem_map_of_mem hx)).1,(hf.sn _ (List.mem_map_of_mem hx)).2.1⟩;have hb:=q0t b (fun x hx z hz=>i64 ((hsn x hx).1 z hz)) (fun x hx=>(hsn x hx).2);rw[d]at hb;exact⟨qgc a (fun z hz=>i64 (hf.live z hz)),hb.1,hb.2,qgc c (fun z hz=>i64 (ht.qu z hz)),ht.base,ht.target,ht.next,ht.all⟩
def q0u (m:Mt)(w:World)(e:Ending)(w':World):Prop:=∃A0 A1 A2 c0 c1 c2,e=.returned (.tuple #[.agg (zJ A0 A1 A2 c0 c1 c2 m),.int .i64 0])∧um (fun j=>w.heap.size≤j) w' A0 A1 A2 c0 c1 c2 m∧Below w.heap.size w w'
theorem qrH(s:ByteArray)(w:World)(hs:s.size≤100000)(M:Mt)(hD:nt (bl s)=(M,0)):Calls prog 52 #[.string s] w (q0u M w):=by
 have HDI:Hid (gW (mP (some (bl s)))=(bl s,0)∧mP (some (bl s))=M):=by
  have h:=quX (bl s);rw[hD]at h;unfold Hid;split at h
  ·rename_i h1;exact⟨h1,(Prod.mk.inj h).1.symm⟩
  ·cases (Prod.mk.inj h).2
 have hb0:=(Below.refl w.heap.size w).alloc (Nat.le_refl _) (.cells (mZ (.slice none 0 0) (.slice none 0 0)) 103);have hA0:=qd.new w 103 (mZ (.slice none 0 0) (.slice none 0 0));obtain⟨W0,hW0⟩:=QE (w.alloc (.cells (mZ (.slice none 0 0) (.slice none 0 0)) 103));rw[hW0]at hb0 hA0;have jw:=QH hb0;have mo:=QH hA0;have tK:=QH hs;have HN:=QH (qaG s W0 (by omega));clear hb0 hA0 hs hD;unfold mZ at hW0;go_enter func52,ntmps52;go_upto_region 1 with fail;try rw[hW0]
 clear hW0;go_wp2_with fail;refine HN.out.mono ?_;rintro e W1 ⟨c,rfl,hc,bz,hb1⟩;have hps:PS W1 c (some (bl s)):=bz;have rO:=QH hps;have qT:=QH (qa jw.out hb1);have fY:=QH (mo.out.below hb1);have yy:Hid (w.heap.size≤W1.heap.size):=qT.out.size;have HC:Hid (w.heap.size≤c∧w.heap.size<W1.heap.size):=⟨Nat.le_trans jw.out.size hc,fY.out.lt⟩;clear hc bz hb1 hps jw mo HN;go_wp2_with fail;refine(mt.pg.kN rO.out).mono ?_;rintro e W2 ⟨v0,v1,v2,rfl,ho,hbt⟩;have qC:Hid (Below w.heap.size w W2):=qT.out.trans (hbt.below (fun j hj=>by unfold Tc at hj;rw[hj];exact HC.out.1) qT.out.size);obtain⟨y,hy⟩:=rO.out.blk;have wh:=QH (fY.out.of_block (hbt.block _ fY.out.lt (uG fY.out hy (by decide))));have HSM:Hid (mtS (mP (some (bl s)))):=qv4 ho.ok.1 ho.ok.2;obtain⟨m,hm⟩:=QE (mP (some (bl s)));rw[hm]at ho HDI HSM ⊢;have ue:=QH ho;obtain⟨xs,o0,o1,o2,o3⟩:=ho.at_;obtain⟨A0,c0,hv0⟩:=xQ o0;obtain⟨A1,c1,hv1⟩:=xQ o1.1;obtain⟨A2,c2,hv2⟩:=xQ o2;have hlx:xs.length=m.qc.length:=by rw[← o3,List.length_map]
 rw[hlx]at hv1;subst hv0 hv1 hv2;clear ho o0 o1 o2 o3 hlx hy hm hbt rO qT fY;have hb3:=(Below.refl W2.heap.size W2).alloc (Nat.le_refl _) (.cells (mC (.slice A0 m.live.length c0) (.slice A1 m.qc.length c1) (.slice A2 m.tok.qu.length c2) m.tok) 103);have hM3:=qd.new W2 103 (mC (.slice A0 m.live.length c0) (.slice A1 m.qc.length c1) (.slice A2 m.tok.qu.length c2) m.tok);obtain⟨W3,hW3⟩:=QE (W2.alloc (.cells (mC (.slice A0 m.live.length c0) (.slice A1 m.qc.length c1) (.slice A2 m.tok.qu.length c2) m.tok) 103));rw[hW3]at hb3 hM3;have zB:=QH (qa qC.out hb3);have lD:=QH (wh.out.below hb3);have HO3:=QH (ue.out.kp (r:=1000000) (Kp.of_below hb3) (by decide) (by decide));obtain⟨gm,hgm⟩:=QE W2.heap.size;rw[hgm]at hM3;have HM3:=QH hM3;unfold mC at hW3 ⊢;clear hb3 qC wh ue;go_upto_region 2 with fail;try rw[hW3]
 try rw[hgm]
 clear hW3 hgm;have m0:=hM3.cell 0;have m1:=hM3.cell 1;have m2:=hM3.cell 2;have m3:=hM3.cell 3;have m4:=hM3.cell 4;have m5:=hM3.cell 5;have m6:=hM3.cell 6;have m7:=hM3.cell 7;have m8:=hM3.cell 8;simp only[mC,QA,QB,QC]at m0 m1 m2 m3 m4 m5 m6 m7 m8;have hlm:=hM3.lt;have HE:=QH (qhE _ m W3 HO3.out.mt HSM.out);unfold mC at HE;clear hM3;go_wp2_with fail;refine HE.out.mono ?_;rintro e W4 ⟨rfl,hb4⟩;have zT:=QH (qa zB.out hb4);have my:=QH (lD.out.below hb4);have HO4:=QH (HO3.out.kp (r:=1000000) (Kp.of_below hb4) (by decide) (by decide));have hM4:=HM3.out.below hb4;clear hb4 HE zB lD HO3 HM3 m0 m1 m2 m3 m4 m5 m6 m7 m8 hlm;have a0:=my.out.cell 0;have a1:=my.out.cell 1;have a2:=my.out.cell 2;have a3:=my.out.cell 3;have a4:=my.out.cell 4;have a5:=my.out.cell 5;have a6:=my.out.cell 6;have a7:=my.out.cell 7;have a8:=my.out.cell 8;have m0:=hM4.cell 0;have m1:=hM4.cell 1;have m2:=hM4.cell 2;have m3:=hM4.cell 3;have m4:=hM4.cell 4;have m5:=hM4.cell 5;have m6:=hM4.cell 6;have m7:=hM4.cell 7;have m8:=hM4.cell 8;simp only[mC,mZ,QA,QB,QC]at m0 m1 m2 m3 m4 m5 m6 m7 m8 a0 a1 a2 a3 a4 a5 a6 a7 a8;have f0:=my.out.frozen 0;have f1:=my.out.frozen 1;have f2:=my.out.frozen 2;have f3:=my.out.frozen 3;have f4:=my.out.frozen 4;have f5:=my.out.frozen 5;have f6:=my.out.frozen 6;have f7:=my.out.frozen 7;have f8:=my.out.frozen 8;have hlm:=hM4.lt;have br:=my.out.lt;clear hM4;have hres:qd W4 w.heap.size 103 (mC bV bV bV yB):=my.out;obtain⟨hE,rfl⟩:=HDI.out;have HF1:Hid (qd (xO W4 w.heap.size (.slice A0 m.live.length c0) (.slice A1 m.qc.length c1) (.slice A2 m.tok.qu.length c2) m.tok) w.heap.size 103 (zJ A0 A1 A2 c0 c1 c2 m)∧um (fun j=>w.heap.size≤j) (xO W4 w.heap.size (.slice A0 m.live.length c0) (.slice A1 m.qc.length c1) (.slice A2 m.tok.qu.length c2) m.tok) A0 A1 A2 c0 c1 c2 m∧Below w.heap.size w (xO W4 w.heap.size (.slice A0 m.live.length c0) (.slice A1 m.qc.length c1) (.slice A2 m.tok.qu.length c2) m.tok)) :=
  ⟨tF hres,(qgd (HO4.out.kp (qc5 hres) (by decide) (by decide))).mono (fun j hj=>Nat.le_trans yy.out hj),dP zT.out (Nat.le_refl _)⟩
 clear hres HDI HO4;obtain⟨r1,hr1⟩:=QE ((gW m).1);obtain⟨r2,hr2⟩:=QE ((gW m).2);rw[hE]at hr1 hr2;dsimp only at hr1 hr2;rw[hE];subst hr2;dsimp only;have hq:((str (bl s)).toList == s.toList)=true:=by rw[iq];simp
 have HQ:=QH hq;clear hq hE;obtain⟨S1,hS1⟩:=QE (str (bl s));rw[hS1]at HQ ⊢;clear hS1 hr1;have hq:(S1.toList == s.toList)=true:=HQ.out;go_wp2_with fail;show bodyPost _ _ _ _ _ (xO W4 w.heap.size (.slice A0 m.live.length c0) (.slice A1 m.qc.length c1) (.slice A2 m.tok.qu.length c2) m.tok);obtain⟨WE,mR⟩:=QE (xO W4 w.heap.size (.slice A0 m.live.length c0) (.slice A1 m.qc.length c1) (.slice A2 m.tok.qu.length c2) m.tok);have hf:=HF1.out;rw[mR]at hf ⊢;have hl:=qhA (v0:=.slice A0 m.live.length c0) (v1:=.slice A1 m.qc.length c1) (v2:=.slice A2 m.tok.qu.length c2) (t:=m.tok) hf.1;refine bodyPost_ret (v:=.tuple #[.agg (zJ A0 A1 A2 c0 c1 c2 m),.int .i64 0]) ?_ rfl ⟨A0,A1,A2,c0,c1,c2,rfl,hf.2.1,hf.2.2⟩;exact xT results52 _ _ _ ⟨w.heap.size,0,none⟩ _ _ (by simp) (by simp) hl
end Go.Proofs.YtdpbdkacngaemaaGreatDoor.vt.pg
