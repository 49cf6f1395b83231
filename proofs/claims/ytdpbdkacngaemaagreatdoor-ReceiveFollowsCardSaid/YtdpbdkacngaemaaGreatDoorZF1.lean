/- MgRd, MgList, MgEq, Slots, SlotsI, SlotsF, MgAb, ImVol, ImVol2, ImChk, MgTk, MgTok, MgSnap. -/
import Derived.Test.YtdpbdkacngaemaaGreatDoorZF0
import Derived.Orders
import Derived.ChangeKeysEq
import Derived.Maps.OwnSet
import Derived.Deep.DeepCutAuto
set_option linter.unusedVariables false
set_option linter.unusedSimpArgs false
set_option maxHeartbeats 30000000
set_option maxRecDepth 100000
namespace Go.Proofs.YtdpbdkacngaemaaGreatDoor.mt.pg
open _root_.Go.Proofs.Tryz Go Go.RowKit ib wi im mt
def PS (w:World)(c:Nat)(s:St):Prop:=match s with
 | none=>∃l,zr c l true w
 | some l=>zr c l false w
theorem PS.blk{w:World}{c:Nat}{s:St}(h:PS w c s):∃x,qf w c 274 x:=by
 unfold PS at h;split at h
 ·obtain⟨l,g,o,cap,h1,_⟩:=h;exact⟨_,h1⟩
 ·obtain⟨g,o,cap,h1,_⟩:=h;exact⟨_,h1⟩
theorem PS.lt{w:World}{c:Nat}{s:St}(h:PS w c s):c<w.heap.size:=by
 obtain⟨x,hx⟩:=h.blk;exact hx.lt
theorem PS.below{w w':World}{c:Nat}{s:St}(h:PS w c s)(hb:Below w.heap.size w w'):PS w' c s:=by
 unfold PS at h ⊢;split at h
 ·obtain⟨l,h⟩:=h;exact⟨l,h.below hb⟩
 ·exact h.below hb
theorem qmo{w:World}{c x:Nat}{l:List UInt8}{bad:Bool}{t:TypeId}{cs:Array Value}(h:zr c l bad w)(hx:qf w x t cs)(h1:t≠274)(h2:t≠5)(k:Nat)(v:Value):zr c l bad (w.setCell ⟨x,k,none⟩ v):=by
 obtain⟨g,o,cap,hb,hr,h3,h4⟩:=h;have hc:c≠x:=fun e=>by
  subst e;unfold qf at hx;rw[hb]at hx;simp only[Option.some.injEq,Obj.cells.injEq]at hx;exact h1 hx.2.1.symm
 have hg:g≠x:=fun e=>by
  subst e;obtain⟨cs',fr,hg,_⟩:=hr;unfold qf at hx;rw[hg]at hx;simp only[Option.some.injEq,Obj.cells.injEq]at hx;exact h2 hx.2.1.symm
 exact⟨g,o,cap,(Below.heap_setCell _ _ _ _ hc).trans hb,hr.keep (Below.heap_setCell _ _ _ _ hg),h3,h4⟩
theorem PS.set{w:World}{c x:Nat}{s:St}{t:TypeId}{cs:Array Value}(h:PS w c s)(hx:qf w x t cs)(h1:t≠274)(h2:t≠5)(k:Nat)(v:Value):PS (w.setCell ⟨x,k,none⟩ v) c s:=by
 unfold PS at h ⊢;split at h
 ·obtain⟨l,h⟩:=h;exact⟨l,qmo h hx h1 h2 k v⟩
 ·exact qmo h hx h1 h2 k v
structure Rd(w:World)(c:Nat)(s:St)(w':World):Prop where
 but:qz (Tc c) w w'
 ps:PS w' c s
theorem Rd.kp{w w':World}{c:Nat}{s s':St}(h:PS w c s)(hr:Rd w c s' w'):Kp 274 w w':=by
 obtain⟨x,hx⟩:=h.blk;exact Kp.nP hr.but hx
theorem Rd.trans{a w w':World}{c:Nat}{s s':St}(h:Rd a c s w)(k:Rd w c s' w'):Rd a c s' w':=⟨h.but.trans k.but fun i hi=>.inl hi,k.ps⟩
theorem Rd.new{a w w':World}{c:Nat}{s:St}(h:Rd a c s w)(hb:Below w.heap.size w w'):Rd a c s w':=⟨h.but.trans (qz.of_below (S:=Tc c) hb) fun i hi=>.inl hi,h.ps.below hb⟩
theorem Rd.set{a w:World}{c x:Nat}{s:St}{t:TypeId}{cs:Array Value}(h:Rd a c s w)(hx:qf w x t cs)(hn:a.heap.size≤x)(h1:t≠274)(h2:t≠5)(k:Nat)(v:Value):Rd a c s (w.setCell ⟨x,k,none⟩ v) :=
 ⟨h.but.setCell _ _ (.inr hn),h.ps.set hx h1 h2 k v⟩
theorem Rd.blk{w w':World}{c x:Nat}{s:St}{t:TypeId}{cs:Array Value}(h:Rd w c s w')(hx:qf w x t cs)(hp:∃y,qf w c 274 y)(hn:t≠274):qf w' x t cs:=by
 obtain⟨y,hy⟩:=hp;exact hx.of_block (h.but.block _ hx.lt (uE hx hy hn))
def qfe (c:Nat)(s:St)(w:World)(e:Ending)(w':World):Prop:=e=.returned (.int .u64 ((zX s).1:Int))∧Rd w c (zX s).2 w'
theorem dF {w:World}{c:Nat}{s:St}(h:PS w c s):Calls prog 191 #[.pointer (some ⟨c,0,none⟩)] w (qfe c s w):=by
 unfold PS at h;split at h
 ·obtain⟨l,h1⟩:=h;refine(nL c l w h1).mono ?_;rintro e w' ⟨rfl,rfl⟩;exact⟨rfl,qz.refl _ _,l,h1⟩
 ·rename_i l;refine(vZ c l w h).mono ?_;rintro e w' ⟨hg,⟨n,r,hn,rfl,hr⟩|⟨hn,rfl,m,hm⟩⟩
  ·have hq:zX (some l)=(n,some r):=by unfold zX;simp only[hn]
   unfold qfe;rw[hq];exact⟨rfl,jA hg,hr⟩
  ·have hq:zX (some l)=(0,none):=by unfold zX;simp only[hn]
   unfold qfe;rw[hq];exact⟨rfl,jA hg,m,hm⟩
def qy7 (k c:Nat)(s:St)(w:World)(e:Ending)(w':World):Prop:=e=.returned (.int .i64 ((kP k s).1:Int))∧Rd w c (kP k s).2 w'
theorem dG {w:World}{c:Nat}{s:St}(h:PS w c s)(k:Nat)(K:Int)(hK:K=(k:Int))(hk:k≤2000):Calls prog 200 #[.pointer (some ⟨c,0,none⟩),.int .i64 K] w (qy7 k c s w):=by
 subst hK;have HN:=QH (dF h);have hm:min ((zX s).1:Int) ((k:Int)+1)=((kP k s).1:Int):=by
  unfold kP;dsimp only;omega
 have hm2:(if ((k:Int)+1:Int)<((zX s).1:Int)then((k:Int)+1:Int)else((zX s).1:Int))=((kP k s).1:Int):=by
  unfold kP;dsimp only;split <;> omega
 have hsm:=iy k s;obtain⟨n,hn⟩:=QE ((zX s).1);have hl:=qa9 s;rw[hn]at hm hm2 hl;have HNN:=QH hn;obtain⟨r,hr⟩:=QE ((kP k s).1);rw[hr]at hm hm2 hsm;have cY:=QH hr;clear hn hr h;go_enter func200,ntmps200;go_wp2_with fail;refine HN.out.mono ?_;rintro e W ⟨rfl,hq⟩;rw[HNN.out];have HQ:=QH hq;clear hq;go_wp2_with fail;go_ret;exact⟨by rw[cY.out];rfl,HQ.out⟩
abbrev ptr (b:Nat):Value:=.pointer (some ⟨b,0,none⟩)
theorem qqB{w:World}{rb c:Nat}{s:St}(h:PS w c s)(hr:qf w rb 198 #[ptr c]):Calls prog 203 #[ptr rb] w (qy7 1024 c s w):=by
 have HU:=QH (dG h 1024 1024 rfl (by omega));have c0:=hr.cell 0;simp only[List.getElem?_toArray,List.getElem?_cons_zero]at c0;have hlt:=hr.lt;clear h hr;go_enter func203,ntmps203;go_wp2_with fail;refine HU.out.mono ?_;rintro e W ⟨rfl,hq⟩;have HQ:=QH hq;clear hq c0;go_wp2_with fail;go_ret;exact⟨rfl,HQ.out⟩
theorem qmp{l:List Int}{n k:Nat}(hl:l.length=k)(hk:k<n)(z:Int):(l++List.replicate (n-k) 0).set k z=(l++[z])++List.replicate (n-(k+1)) 0:=by
 rw[List.set_append_right _ _ (by omega),hl,Nat.sub_self,show n-k=(n-(k+1))+1 by omega,List.replicate_succ,List.set_cons_zero,List.append_assoc];rfl
def qti (n c:Nat)(s:St)(w:World)(e:Ending)(w':World):Prop:=∃g,e=.returned (.slice (some ⟨g,0,none⟩) n n)∧w.heap.size≤g∧qf w' g 3 (qh (gV n s).1)∧Rd w c (gV n s).2 w'
def qy9 (n c g:Nat)(s:St)(w:World)(i:Value)(wr:World):Prop :=
 ∃k:Nat,k≤n∧i=.int .i64 (k:Int)∧qf wr g 3 (qh ((gV k s).1++List.replicate (n-k) 0))∧Rd w c (gV k s).2 wr
theorem dH {w:World}{rb c:Nat}{s:St}(n:Nat)(hn:n≤1000)(h:PS w c s)(hr:qf w rb 198 #[ptr c]) :
    Calls prog 202 #[.int .i64 (n:Int),.func (.func 203) #[] #[ptr rb]] w (qti n c s w):=by
 have hmk:∀W,(Instr.makeSlice 80 (.int .i64 (n:Int)) (.int .i64 (n:Int))).run prog W=.ok (.slice (some ⟨W.heap.size,0,none⟩) n n) (W.alloc (.cells (qh (List.replicate n 0)) 3)):=fun W=>by
  have:=tv (n:Int) (by omega) (by omega) W
  rwa [Int.toNat_natCast]at this
 have HP:=QH h;have HR:=QH hr;clear h hr;go_enter func202,ntmps202;go_wp2_with fail;have hb:=(Below.refl w.heap.size w).alloc (Nat.le_refl _) (.cells (qh (List.replicate n 0)) 3);have HG:=QH (qf.new w 3 (qh (List.replicate n 0)));have dv:Hid (Rd w c s (w.alloc (.cells (qh (List.replicate n 0)) 3))):=⟨qz.of_below hb,HP.out.below hb⟩;obtain⟨W0,hW0⟩:=QE (w.alloc (.cells (qh (List.replicate n 0)) 3));rw[hW0]at HG dv;try rw[hW0]
 clear hb hW0 hmk;obtain⟨g,hg⟩:=QE w.heap.size;have gH:=QH (Nat.le_of_eq hg);rw[hg]at HG;try rw[hg]
 clear hg;go_loopw [6,11] (fun _ i wr=>qy9 n c g s w i wr) (fun _ i _=>n-(intOf i).toNat);case atStart=>exact⟨0,Nat.zero_le _,rfl,by simpa[gV]using HG.out,dv.out⟩
 case round =>
  obtain⟨k,hk,rfl,hG,hR⟩:=hrel;have HGK:=QH hG;have HRK:=QH hR;clear hG hR;by_cases hlt:k<n
  ·have yt:(k:Int)<(n:Int):=by omega
   have HRB:=QH (HRK.out.blk HR.out HP.out.blk (by decide));go_wp2_with fail;refine(qqB HRK.out.ps HRB.out).mono ?_;rintro e W ⟨rfl,hq⟩;have gI:=ud k s;have xP:=QH (qcq k s);have hGW:=hq.blk HGK.out HRK.out.ps.blk (by decide);have HGW:=QH hGW;have HQ:=QH (HRK.out.trans hq);have f0:=hGW.frozen k;have hlg:=hGW.lt;obtain⟨u,hu⟩:∃u,W.cell? ⟨g,k,none⟩=some u:=by
    rw[hGW.cell k,uo _ k (by rw[List.length_append,gI,List.length_replicate];omega)];exact⟨_,rfl⟩
   have gY:=QH (fun z=>qmp (n:=n) gI hlt z);have vI:=QH gI;obtain⟨z,hz⟩:=QE ((kP 1024 (gV k s).2).1:Nat);rw[hz];have HZ:=QH hz;clear hq hGW gI hz HGK HRK HRB;go_wp2_with fail;go_roundw;case rel =>
    have mF:=HGW.out.qg k (.int .i64 (z:Int));rw[nM,gY.out]at mF;have hRd:=HQ.out.set HGW.out gH.out (by decide) (by decide) k (.int .i64 (z:Int));refine⟨k+1,by omega,by go_num,?_,?_⟩
    ·rw[xP.out,HZ.out];exact mF
    ·rw[xP.out];exact hRd
   case measure=>simp[intOf];omega
  ·have yt:¬ (k:Int)<(n:Int):=by omega
   obtain rfl:k=n:=by omega
   have hG:=HGK.out;rw[Nat.sub_self,List.replicate_zero,List.append_nil]at hG;have HG2:=QH hG;clear hG;go_wp2_with fail;go_ret;exact⟨g,rfl,gH.out,HG2.out,HRK.out⟩
theorem uG {w:World}{kb rb c b:Nat}{s:St}(hb:b≤100)(h:PS w c s)(hk:qf w kb 3 #[.int .i64 (b:Int)])(hr:qf w rb 198 #[ptr c]) :
    Calls prog 201 #[ptr kb,ptr rb] w (qti b c s w):=by
 have HL:=QH (dH b (by omega) h hr);have c0:=hk.cell 0;simp only[List.getElem?_toArray,List.getElem?_cons_zero]at c0;have hlt:=hk.lt;clear h hr hk;go_enter func201,ntmps201;go_wp2_with fail;refine HL.out.mono ?_;rintro e W ⟨g,rfl,hq⟩;have HQ:=QH hq;clear hq c0;go_wp2_with fail;go_ret;exact⟨g,rfl,HQ.out⟩
def quE (c:Nat)(s:St)(w:World)(e:Ending)(w':World):Prop:=e=.returned (gv (kS s).1)∧Rd w c (kS s).2 w'
theorem xp {w:World}{c:Nat}{s:St}(h:PS w c s):Calls prog 206 #[ptr c] w (quE c s w):=by
 have hb0:=(Below.refl w.heap.size w).alloc (Nat.le_refl _) (.cells #[.int .u64 0,.int .u64 0] 38);have fZ:Hid (Rd w c s (w.alloc (.cells #[.int .u64 0,.int .u64 0] 38))):=⟨qz.of_below hb0,h.below hb0⟩;have mE:=QH (qf.new w 38 #[.int .u64 0,.int .u64 0]);obtain⟨w0,hw0⟩:=QE (w.alloc (.cells #[.int .u64 0,.int .u64 0] 38));rw[hw0]at fZ mE;clear h hb0;go_enter func206,ntmps206;go_wp2_with fail;try rw[hw0]
 clear hw0;refine(dF fZ.out.ps).mono ?_;rintro e W1 ⟨rfl,hq1⟩;have ia:=QH (hq1.blk mE.out fZ.out.ps.blk (by decide));have uq:=QH (fZ.out.trans hq1);clear hq1 mE fZ;obtain⟨x,hx⟩:=QE ((zX s).1:Nat);rw[hx];have HX:=QH hx;clear hx;go_wp2_with fail;refine(dF uq.out.ps).mono ?_;rintro e W2 ⟨rfl,sj⟩;have wb:=QH (sj.blk ia.out uq.out.ps.blk (by decide));have jM:=QH (uq.out.trans sj);obtain⟨y,hy⟩:=QE ((zX (zX s).2).1:Nat);rw[hy];have HY:=QH hy;have q0:=wb.out.cell 0;have q1:=wb.out.cell 1;simp only[QA,QB,QC]at q0 q1;have f0:=wb.out.frozen 0;have f1:=wb.out.frozen 1;have hlA:=wb.out.lt;clear hy sj ia uq;go_wp2_with fail;have hA3:=wb.out.qg 0 (.int .u64 (x:Int));have lL:=QH (hA3.qg 1 (.int .u64 (y:Int)));have q0:=lL.out.cell 0;have q1:=lL.out.cell 1;simp at q0 q1;have HG:Hid (gv (kS s).1=.agg #[.int .u64 (x:Int),.int .u64 (y:Int)]):=by unfold Hid gv kS;dsimp only;rw[HX.out,HY.out]
 have cY:=QH ((jM.out.set wb.out (Nat.le_refl _) (by decide) (by decide) 0 (.int .u64 (x:Int))).set hA3 (Nat.le_refl _) (by decide) (by decide) 1 (.int .u64 (y:Int)));refine bodyPost_ret (v:=.agg #[.int .u64 (x:Int),.int .u64 (y:Int)]) (by simp[results,results206,go_sem,q0,q1]) rfl ?_;exact⟨by rw[HG.out],cY.out⟩
end Go.Proofs.YtdpbdkacngaemaaGreatDoor.mt.pg
namespace Go.Proofs.YtdpbdkacngaemaaGreatDoor.mt.pg
open _root_.Go.Proofs.Tryz Go Go.RowKit ib mt
def ju (a b:Nat):Int:=if a<b then -1 else if b<a then 1 else 0
def same (r:Value)(w:World)(e:Ending)(w':World):Prop:=e=.returned r∧w'=w
theorem qhx(a:Nat)(w:World):Calls prog 258 #[.int .u64 (a:Int)] w (same (.bool false) w):=by
 have hq:((a:Int) != (a:Int))=false:=by simp
 go_enter func258,ntmps258;go_wp2_with fail;go_ret;exact⟨by simp,rfl⟩
theorem mY (a b:Nat)(w:World):Calls prog 212 #[.int .u64 (a:Int),.int .u64 (b:Int)] w (same (.int .i64 (ju a b)) w):=by
 have HA:=QH (qhx a w);have HB:=QH (qhx b w);by_cases h1:a<b
 ·have h1i:(a:Int)<(b:Int):=by omega
  have HR:Hid (ju a b = -1):=by unfold Hid ju;rw[if_pos h1]
  clear h1;go_enter func212,ntmps212;go_wp2_with fail;refine HA.out.mono ?_;rintro e _ ⟨rfl,rfl⟩;go_wp2_with fail;refine HB.out.mono ?_;rintro e _ ⟨rfl,rfl⟩;go_wp2_with fail;go_ret;exact⟨by rw[HR.out];rfl,rfl⟩
 by_cases h2:b<a
 ·have h1i:¬ (a:Int)<(b:Int):=by omega
  have h2i:(b:Int)<(a:Int):=by omega
  have HR:Hid (ju a b=1):=by unfold Hid ju;rw[if_neg h1,if_pos h2]
  clear h1 h2;go_enter func212,ntmps212;go_wp2_with fail;refine HA.out.mono ?_;rintro e _ ⟨rfl,rfl⟩;go_wp2_with fail;refine HB.out.mono ?_;rintro e _ ⟨rfl,rfl⟩;go_wp2_with fail;go_ret;exact⟨by rw[HR.out];rfl,rfl⟩
 ·have h1i:¬ (a:Int)<(b:Int):=by omega
  have h2i:¬ (b:Int)<(a:Int):=by omega
  have HR:Hid (ju a b=0):=by unfold Hid ju;rw[if_neg h1,if_neg h2]
  clear h1 h2;go_enter func212,ntmps212;go_wp2_with fail;refine HA.out.mono ?_;rintro e _ ⟨rfl,rfl⟩;go_wp2_with fail;refine HB.out.mono ?_;rintro e _ ⟨rfl,rfl⟩;go_wp2_with fail;go_ret;exact⟨by rw[HR.out];rfl,rfl⟩
theorem qiC{p q:List Int}(k:Nat)(h1:k<p.length)(h2:k<q.length)(h:p.take k=q.take k)(e:p[k]=q[k]):p.take (k+1)=q.take (k+1):=by
 rw[List.take_succ_eq_append_getElem h1,List.take_succ_eq_append_getElem h2,h,e]
def qyB (p q:List Int)(w:World)(i:Value)(wr:World):Prop :=
 ∃k:Nat,k≤p.length∧i=.int .i64 (k:Int)∧p.take k=q.take k∧Below w.heap.size w wr
theorem aI (A B:Option Addr)(c d:Nat)(p q:List Int)(w:World)(hp:qI w A p)(hq:qI w B q)(hl:p.length≤1000000000) :
    Calls prog 284 #[.slice A p.length c,.slice B q.length d] w (uC (decide (p=q)) w):=by
 have HP:=QH hp;have HQ:=QH hq;clear hp hq;by_cases hlen:p.length=q.length
 ·go_enter func284,ntmps284;go_wp2;go_loopw [13] (fun i wr=>qyB p q w i wr) (fun i _=>p.length-(intOf i).toNat);case atStart=>exact⟨0,Nat.zero_le _,rfl,rfl,Below.refl _ _⟩
  case round =>
   obtain⟨k,hk,rfl,ht,hB⟩:=hrel;have Ht:=QH ht;clear ht;by_cases hlt:k<p.length
   ·have hlq:k<q.length:=by omega
    obtain⟨b1,o1,rfl,hb1,hc1,hz1⟩:=HP.out k hlt;obtain⟨b2,o2,rfl,hb2,hc2,hz2⟩:=HQ.out k hlq;have qff:wr.cell? ⟨b1,o1+k,none⟩=some (.int .i64 p[k]):=by rw[hB.cell (p:=⟨b1,o1+k,none⟩) hb1];exact hc1
    have qaI:wr.cell? ⟨b2,o2+k,none⟩=some (.int .i64 q[k]):=by rw[hB.cell (p:=⟨b2,o2+k,none⟩) hb2];exact hc2
    have q3T:b1<wr.heap.size:=Nat.lt_of_lt_of_le hb1 hB.size;have q3U:b2<wr.heap.size:=Nat.lt_of_lt_of_le hb2 hB.size;have hi1:(k:Int)<(p.length:Int):=by omega
    have hi2:(k:Int)<(q.length:Int):=by omega
    clear hc1 hc2 hz1 hz2;by_cases he:p[k]=q[k]
    ·have hsn:=QH (qiC k hlt hlq Ht.out he);have qqE:wr.cell? ⟨b2,o2+k,none⟩=some (.int .i64 p[k]):=by rw[he];exact qaI
     clear he qaI;obtain⟨x,hx⟩:=QE (p[k]);rw[hx]at qff qqE;have hxx:(x != x)=false:=by simp
     clear hx;go_wp2;go_quiet (fail);have hB2:=below_drewN hB nq;go_wp2;go_roundw;case rel=>exact⟨k+1,by omega,by go_num,hsn.out,hB2⟩
     case measure=>simp[intOf];omega
    ·have hne:decide (p=q)=false:=by
        simp only[decide_eq_false_iff_not];rintro rfl;exact he rfl
     have Hne:=QH hne;obtain⟨x,hx⟩:=QE (p[k]);obtain⟨y,hy⟩:=QE (q[k]);rw[hx,hy]at he;rw[hx]at qff;rw[hy]at qaI;have hxy:(x != y)=true:=by simpa using he
     clear he hne hx hy;go_wp2;go_quiet (fail);have hB2:=below_drewN hB nq;go_wp2;go_ret;exact⟨by rw[Hne.out];rfl,hB2⟩
   ·have dA:k=p.length:=by omega
    have heq:decide (p=q)=true:=by
     have:=Ht.out;rw[List.take_of_length_le (by omega),List.take_of_length_le (by omega)]at this;simpa using this
    have Heq:=QH heq;clear heq;go_wp2;go_ret;exact⟨by rw[Heq.out];rfl,hB⟩
 ·have hne:decide (p=q)=false:=by
     simp only[decide_eq_false_iff_not];rintro rfl;exact hlen rfl
  have gZ:¬ (p.length:Int)=(q.length:Int):=by omega
  have Hne:=QH hne;clear hne;go_enter func284,ntmps284;go_wp2;go_ret;exact⟨by rw[Hne.out];rfl,Below.refl _ _⟩
def qyD (x y:Int)(w:World)(i:Value)(wr:World):Prop:=∃k:Nat,k≤2∧i=.int .i64 (k:Int)∧(1≤k→x=0)∧(2≤k→y=0)∧wr=w
theorem qmr(A:Addr)(c:Nat)(x y:Int)(w:World)(hp:qI w (some A) [x,y]) :
    Calls prog 211 #[.slice (some A) 2 c] w (same (.int .i64 (if x≠0 then x else y)) w):=by
 obtain⟨b0,o0,hA,hb0,hc0,hz0⟩:=hp 0 (by simp);obtain⟨b1,o1,n4,hb1,hc1,hz1⟩:=hp 1 (by simp);obtain rfl:=Option.some.inj hA;simp only[Option.some.injEq,Addr.mk.injEq,and_true]at n4;obtain⟨rfl,rfl⟩:=n4;simp only[List.getElem_cons_zero,List.getElem_cons_succ]at hc0 hc1 hz0 hz1;clear hA hp;obtain⟨res,hres⟩:=QE (if x≠0 then x else y);rw[hres];have HR:=QH hres;clear hres hz0 hz1;rw[Nat.add_zero]at hc0;have HC0:=QH hc0;have HC1:=QH hc1;clear hc0 hc1;go_enter func211,ntmps211;go_wp2_with fail;go_loopw [5,8] (fun _ i wr=>qyD x y w i wr) (fun _ i _=>2-(intOf i).toNat);case atStart=>exact⟨0,by omega,rfl,fun h=>absurd h (by omega),fun h=>absurd h (by omega),rfl⟩
 case round =>
  obtain⟨k,hk,rfl,h1,h2,rfl⟩:=hrel;by_cases hk2:k<2
  ·have yt:(k:Int)<2:=by omega
   obtain⟨v,hv,hc,hn⟩:∃v,(v≠0→res=v)∧wr.cell? ⟨b0,o0+k,none⟩=some (.int .i64 v)∧(v=0→(1≤k+1→x=0)∧(2≤k+1→y=0)):=by
    match k,hk2 with
    | 0,_=>exact⟨x,fun h=>by rw[← HR.out,if_pos h],HC0.out,fun h=>⟨fun _=>h,fun h=>absurd h (by omega)⟩⟩
    | 1,_=>exact⟨y,fun h=>by rw[← HR.out,if_neg (by simp[h1 (by omega)])],HC1.out,fun h=>⟨fun _=>h1 (by omega),fun _=>h⟩⟩
   have HV:=QH hv;have HN:=QH hn;clear hv hn h1 h2;by_cases hv0:v=0
   ·subst hv0;go_wp2_with fail;go_roundw;case rel=>exact⟨k+1,by omega,by go_num,(HN.out rfl).1,(HN.out rfl).2,rfl⟩
    case measure=>simp[intOf];omega
   ·have hvb:(v != 0)=true:=by simpa using hv0
    have nQ:=QH (HV.out hv0);clear hv0;go_wp2_with fail;go_ret;exact⟨by rw[nQ.out];rfl,rfl⟩
  ·have yt:¬ (k:Int)<2:=by omega
   have hr:res=0:=by rw[← HR.out,if_neg (by simp[h1 (by omega)]),h2 (by omega)]
   have fZ:=QH hr;clear hr h1 h2;go_wp2_with fail;go_ret;exact⟨by rw[fZ.out];rfl,rfl⟩
theorem tC (a b:Gd):above a b=decide (0<(if ju a.1 b.1≠0 then ju a.1 b.1 else ju a.2 b.2)):=by
 obtain⟨a1,a2⟩:=a;obtain⟨b1,b2⟩:=b;unfold above ju;rw[Bool.eq_iff_iff];simp only[Bool.or_eq_true,Bool.and_eq_true,decide_eq_true_eq];by_cases h1:a1<b1
 ·simp[h1];omega
 ·by_cases h2:b1<a1
  ·simp[h1,h2]
  ·by_cases h3:a2<b2
   ·simp[h1,h2,h3];omega
   ·by_cases h4:b2<a2
    ·simp[h1,h2,h3,h4];omega
    ·simp[h1,h2,h3,h4]
end Go.Proofs.YtdpbdkacngaemaaGreatDoor.mt.pg
namespace Go.Proofs.YtdpbdkacngaemaaGreatDoor
open _root_.Go.Proofs.Tryz Go Go.RowKit
section
variable {P:Program} {ops:Array Oper} {Q:Exit→Act→World→Prop}
def kh (P:Program)(K:Value→World→Prop):Result Next→Prop
 | .ok (.value v) w'=>K v w'
 | .ok (.enter f args) w'=>Calls P f args w' fun e w''=>∃v,e=.returned v∧K v w''
 | _=>False
theorem wR {o:Oper}{a:Act}{w:World}{K:Value→World→Prop}{next:Act→World→Prop}(h:kh P K ((execOp a.eval o).run P w))(hn:∀v w',K v w'→next (a.put o.dst v) w'):o.wp P a w next Q:=by
 unfold Oper.wp;generalize (execOp a.eval o).run P w=r at *;cases r with
 | ok n w' =>
  cases n <;> simp only[kh]at h <;> simp only[Oper.upon];case value v=>exact hn _ _ h
  case enter f args =>
   refine h.mono fun e w'' he=>?_;obtain⟨v,rfl,hk⟩:=he;exact hn _ _ hk
 | halt x w'=>simp only[kh]at h
def qG (L:Nat→Bool)(vs:Nat→Value):List Tmp→Nat→Act→Act
 | [],_,a=>a
 | d::ds,k,a=>qG L vs ds (k+1) (if L k then a.put (some d) (vs k)else a)
def qR (vs:Nat→Value)(ds:List Tmp)(a:Act):Act:=qG (fun _=>true) vs ds 0 a
def qM (L:Nat→Bool)(i:Nat):Nat→Bool:=fun j=>if j=i then true else L j
def zB (vs:Nat→Value)(i:Nat)(v:Value):Nat→Value:=fun j=>if j=i then v else vs j
theorem xE (L L':Nat→Bool)(vs vs':Nat→Value):∀(ds:List Tmp) (k:Nat) (a:Act),(∀j,k≤j→j<k+ds.length→L j=L' j∧(L j=true→vs j=vs' j))→qG L vs ds k a=qG L' vs' ds k a
 | [],_,_,_=>rfl
 | d::ds,k,a,h=>by
  have h0:=h k (Nat.le_refl _) (by simp);simp only[qG];rw[h0.1];have e:(if L' k=true then a.put (some d) (vs k)else a)=(if L' k=true then a.put (some d) (vs' k)else a):=by
   by_cases hk:L' k=true
   ·rw[if_pos hk,if_pos hk,h0.2 (h0.1.trans hk)]
   ·rw[if_neg hk,if_neg hk]
  rw[e];exact xE L L' vs vs' ds (k+1) _ fun j h1 h2=>h j (by omega) (by simp;omega)
theorem aJ (a:Act)(d e:Tmp)(v u:Value)(h:d≠e):(a.put (some d) v).put (some e) u=(a.put (some e) u).put (some d) v :=
 Act.put_comm a v u fun x hx=>by cases hx;intro hy;cases hy;exact h rfl
theorem nR (L:Nat→Bool)(vs:Nat→Value)(e:Tmp)(u:Value):∀(ds:List Tmp) (k:Nat) (a:Act),e ∉ ds→(qG L vs ds k a).put (some e) u=qG L vs ds k (a.put (some e) u)
 | [],_,_,_=>rfl
 | d::ds,k,a,h=>by
  have hd:d≠e:=fun x=>h (by simp[x]);have hds:e ∉ ds:=fun x=>h (by simp[x]);simp only[qG];rw[nR L vs e u ds (k+1) _ hds]
  congr 1
  by_cases hk:L k=true
  ·rw[if_pos hk,if_pos hk,aJ a d e _ _ hd]
  ·rw[if_neg hk,if_neg hk]
theorem ki (L:Nat→Bool)(vs:Nat→Value)(i:Nat)(v:Value):∀(ds:List Tmp) (k:Nat) (a:Act) (d:Tmp),ds.Nodup→k≤i→ds[i-k]?=some d→L i=false→(qG L vs ds k a).put (some d) v=qG (qM L i) (zB vs i v) ds k a
 | [],k,a,d,_,_,h,_=>by simp at h
 | e::ds,k,a,d,hn,hk,h,hL=>by
  rw[List.nodup_cons]at hn;by_cases yt:k=i
  ·subst yt;simp only[Nat.sub_self,List.getElem?_cons_zero,Option.some.injEq]at h;subst h;simp only[qG];rw[nR L vs e v ds (k+1) _ hn.1,hL];have e1:qM L k k=true:=by simp[qM]
   have e2:zB vs k v k=v:=by simp[zB]
   rw[e1,e2,if_pos rfl];simp only[Bool.false_eq_true,if_false];exact xE _ _ _ _ ds (k+1) _ fun j h1 _=>by
    have:j≠k:=by omega
    simp[qM,zB,this]
  ·have hlt:i-k=(i-(k+1))+1:=by omega
   rw[hlt,List.getElem?_cons_succ]at h;have ih:=ki L vs i v ds (k+1) (if L k then a.put (some e) (vs k)else a) d hn.2 (by omega) h hL;simp only[qG];rw[ih];have e1:qM L i k=L k:=by simp[qM,yt]
   have e2:zB vs i v k=vs k:=by simp[zB,yt]
   rw[e1,e2]
theorem lM (L:Nat→Bool)(vs:Nat→Value):∀(ds:List Tmp) (k:Nat) (a:Act),(qG L vs ds k a).tmps.size=a.tmps.size
 | [],_,_=>rfl
 | d::ds,k,a=>by
  simp only[qG];rw[lM L vs ds];split <;> simp[Act.put]
theorem qc2(a:Act)(d t:Tmp)(v:Value)(h:d≠t):(a.put (some d) v).eval (.tmp t)=a.eval (.tmp t) :=
 Act.eval_put fun e he hx=>by cases he;cases hx;exact h rfl
theorem kj (L:Nat→Bool)(vs:Nat→Value)(t:Tmp):∀(ds:List Tmp) (k:Nat) (a:Act),t ∉ ds→(qG L vs ds k a).eval (.tmp t)=a.eval (.tmp t)
 | [],_,_,_=>rfl
 | d::ds,k,a,h=>by
  have hd:d≠t:=fun x=>h (by simp[x]);have hds:t ∉ ds:=fun x=>h (by simp[x]);simp only[qG];rw[kj L vs t ds (k+1) _ hds];split
  ·exact qc2 a d t _ hd
  ·rfl
theorem ur (L:Nat→Bool)(vs:Nat→Value)(t:Tmp):∀(ds:List Tmp) (k j:Nat) (a:Act),ds.Nodup→ds[j]?=some t→L (k+j)=true→t<a.tmps.size→(qG L vs ds k a).eval (.tmp t)=vs (k+j)
 | [],_,_,_,_,h,_,_=>by simp at h
 | d::ds,k,j,a,hn,h,hL,hs=>by
  rw[List.nodup_cons]at hn;cases j with
  | zero =>
   simp only[List.getElem?_cons_zero,Option.some.injEq]at h;subst h;simp only[qG];rw[kj L vs d ds (k+1) _ hn.1,if_pos (by simpa using hL)];simp[Act.eval,Act.put,hs]
  | succ j =>
   rw[List.getElem?_cons_succ]at h;simp only[qG];have:=ur L vs t ds (k+1) j (if L k then a.put (some d) (vs k)else a) hn.2 h (by rw[show k+1+j=k+(j+1)from by omega];exact hL) (by split <;> simp[Act.put,hs]);rw[this]
   congr 1
   omega
def valOf (a0:Act)(ds:List Tmp)(vs:Nat→Value):Operand→Value
 | .tmp t=>match ds.idxOf? t with
  | some j=>vs j
  | none=>a0.eval (.tmp t)
 | x=>a0.eval x
theorem yi {a0:Act}{ds:List Tmp}{vs:Nat→Value}{t:Tmp}(h:ds.idxOf? t=none):valOf a0 ds vs (.tmp t)=a0.eval (.tmp t):=by
 unfold valOf;simp only[h]
theorem yj {a0:Act}{ds:List Tmp}{vs:Nat→Value}{t:Tmp}{j:Nat}(h:ds.idxOf? t=some j):valOf a0 ds vs (.tmp t)=vs j:=by
 unfold valOf;simp only[h]
theorem zO (n i:Nat):(Array.replicate n false).getD i false=false:=by
 by_cases h:i<n <;> simp[h]
def za (ops:Array Oper)(i j:Nat):Bool:=match ops[i]? with
 | some o=>o.after.any fun e=>Region.binds .any e&&e.on == j
 | none=>false
def nS (ops:Array Oper)(m:Nat)(ds:List Tmp)(size:Nat):Bool :=
 decide (m≤ops.size)&&decide (ds.length=m)&&decide ds.Nodup&&ds.all (fun d=>decide (d<size)) &&
 (List.range m).all (fun i=>match ops[i]? with
  | some o=>o.guard.isNone&&o.dst == ds[i]? && (match o.op with | .select .. => false|_=>true) &&
   o.after.all (fun e=>!Region.binds .any e || decide (e.on<i)) &&
   o.op.operands.toList.all (fun x=>match x with
    | .tmp t=>match ds.idxOf? t with
     | some j=>za ops i j
     | none=>true
    | _=>true)
  | none=>false) &&
 (List.range ops.size).all (fun j=>decide (j<m) || (match ops[j]? with
  | some o=>(o.after.any fun e=>Region.binds .any e&&decide (m≤e.on)) || (List.range m).all (fun i=>za ops j i || (List.range m).any (fun k=>za ops k i))
  | none=>false))
structure qhy(ops:Array Oper)(m:Nat)(ds:List Tmp)(size:Nat):Prop where
 le:m≤ops.size
 len:ds.length=m
 nodup:ds.Nodup
 small:∀d∈ds,d<size
 each:∀i,i<m→∃o,ops[i]?=some o∧o.guard=none∧o.dst=ds[i]? ∧ (∀cs b,o.op ≠ .select cs b)∧(∀e∈o.after,Region.binds .any e=true→e.on<i) ∧
  (∀t j,Operand.tmp t∈o.op.operands→ds.idxOf? t=some j→za ops i j=true)
 tail:∀j o,m≤j→ops[j]?=some o→(∃e∈o.after,Region.binds .any e=true∧m≤e.on)∨(∀i,i<m→za ops j i=true∨∃k,k<m∧za ops k i=true)
theorem qms{m:Nat}{ds:List Tmp}{size:Nat}(h:nS ops m ds size=true):qhy ops m ds size:=by
 unfold nS at h;simp only[Bool.and_eq_true,decide_eq_true_eq,List.all_eq_true,List.mem_range]at h;obtain⟨⟨⟨⟨⟨h1,h2⟩,h3⟩,h4⟩,h5⟩,h6⟩:=h;refine⟨h1,h2,h3,h4,fun i hi=>?_,fun j o hj ho=>?_⟩
 ·have h:=h5 i hi;cases ho:ops[i]? with
  | none=>simp[ho]at h
  | some o =>
   simp only[ho,Bool.and_eq_true]at h;obtain⟨⟨⟨⟨g1,g2⟩,g3⟩,g4⟩,g5⟩:=h;refine⟨o,rfl,by simpa using g1,by simpa using g2,fun cs b hs=>by simp[hs]at g3,fun e he hb=>?_,fun t j ht hj=>?_⟩
   ·have:=Array.all_eq_true_iff_forall_mem.1 g4 e he;simpa[hb]using this
   ·have:=List.all_eq_true.1 g5 (.tmp t) (by simpa using ht);simpa[hj]using this
 ·have hlt:j<ops.size:=(Array.getElem?_eq_some_iff.1 ho).1;have h:=h6 j hlt;simp only[ho,Bool.or_eq_true,decide_eq_true_eq]at h;rcases h with h|h|h
  ·omega
  ·obtain⟨e,he,hb⟩:=Array.any_eq_true'.1 h;simp only[Bool.and_eq_true,decide_eq_true_eq]at hb;exact .inl ⟨e,he,hb.1,hb.2⟩
  ·refine .inr fun i hi=>?_;have:=List.all_eq_true.1 h i (by simpa using hi);simp only[Bool.or_eq_true,List.any_eq_true,List.mem_range]at this;exact this
theorem zZ {i j:Nat}{o:Oper}(ho:ops[i]?=some o)(h:za ops i j=true):∃e∈o.after,Region.binds .any e=true∧e.on=j:=by
 unfold za at h;simp only[ho]at h;obtain⟨e,he,hb⟩:=Array.any_eq_true'.1 h;simp only[Bool.and_eq_true,beq_iff_eq]at hb;exact⟨e,he,hb.1,hb.2⟩
def xF (n m:Nat):Array Bool:=(Array.range n).map fun i=>decide (i<m)
structure qqG(ops:Array Oper)(a0:Act)(w0:World)(m:Nat)(ds:List Tmp)(G:Nat→Value→World→Prop)(listed:Array Bool)(vs:Nat→Value)(a:Act)(w:World):Prop where
 size:listed.size=ops.size
 tail:∀j,m≤j→listed.getD j false=false
 closed:∀i o,ops[i]?=some o→listed.getD i false=true→∀e∈o.after,Region.binds .any e=true→listed.getD e.on false=true
 ext:Below w0.heap.size w0 w
 good:∀i,i<m→listed.getD i false=true→G i (vs i) w
 act:a=qG (fun i=>listed.getD i false) vs ds 0 a0
def zI (m:Nat)(listed:Array Bool):Nat:=(List.range m).countP fun i=>!listed.getD i false
theorem uH {m i:Nat}{listed:Array Bool}(hi:i<m)(hs:i<listed.size)(h:listed.getD i false=false):zI m listed=zI m (listed.setIfInBounds i true)+1:=by
 unfold zI
 induction m with
 | zero=>omega
 | succ m ih =>
  rw[List.range_succ,List.countP_append,List.countP_append];simp only[List.countP_singleton];by_cases e:i=m
  ·subst e;have h1:(listed.setIfInBounds i true).getD i false=true:=by simp[hs]
   rw[h,h1];have h2:List.countP (fun j=>!listed.getD j false) (List.range i)=List.countP (fun j=>!(listed.setIfInBounds i true).getD j false) (List.range i):=by
    apply List.countP_congr;intro j hj;rw[getD_set_ne false (by have:=List.mem_range.1 hj;omega)]
   rw[h2];rfl
  ·have:=ih (by omega);rw[this,getD_set_ne false e];omega
theorem vd {m:Nat}{listed:Array Bool}(h:zI m listed=0):∀i,i<m→listed.getD i false=true:=by
 intro i hi;unfold zI at h;rw[List.countP_eq_zero]at h;have:=h i (List.mem_range.2 hi);simpa using this
theorem zk {listed:Array Bool}{i:Nat}(hs:i<listed.size):listed.getD i true=listed.getD i false:=by simp[hs]
theorem yF {listed:Array Bool}{i:Nat}(hs:i<listed.size):qM (fun j=>listed.getD j false) i=fun j=>(listed.setIfInBounds i true).getD j false:=by
 funext j
 unfold qM;by_cases e:j=i
 ·subst e;simp[hs]
 ·rw[if_neg e,getD_set_ne false (Ne.symm e)]
variable {a0:Act} {w0:World} {m:Nat} {ds:List Tmp} {G:Nat→Value→World→Prop}
theorem qc3{w0 w w':World}(h:Below w0.heap.size w0 w)(g:Below w.heap.size w w'):Below w0.heap.size w0 w':=h.trans (g.mono h.size)
theorem qc4(ok:qhy ops m ds a0.tmps.size)
    (mono:∀i v w w',i<m→G i v w→Below w.heap.size w w'→G i v w')
    (step:∀i o vs w,i<m→ops[i]?=some o→Below w0.heap.size w0 w→(∀j,za ops i j=true→G j (vs j) w) →
     kh P (fun v w'=>Below w.heap.size w w'∧G i v w') ((execOp (valOf a0 ds vs) o).run P w))
    (fin:∀vs w',Below w0.heap.size w0 w'→(∀i,i<m→G i (vs i) w')→wpAny P .any ops Q (ops.size-m) (xF ops.size m) (qR vs ds a0) w') :
    ∀(r:Nat) (listed:Array Bool) (vs:Nat→Value) (a:Act) (w:World),qqG ops a0 w0 m ds G listed vs a w→zI m listed=r→wpAny P .any ops Q (ops.size-m+r) listed a w
 | 0,listed,vs,a,w,hI,hr=>by
  have hall:=vd hr;have hl:listed=xF ops.size m:=by
   apply Array.ext
   ·simp[xF,hI.size]
   ·intro i h1 h2;have e:listed.getD i false=listed[i]:=by simp[h1]
    by_cases hi:i<m
    ·have:=hall i hi;rw[e]at this;simp[xF,this,hi]
    ·have:=hI.tail i (by omega);rw[e]at this;simp[xF,this,hi]
  have ha:a=qR vs ds a0:=by
   rw[hI.act];exact xE _ _ _ _ ds 0 a0 fun j _ hj=>⟨hall j (by rw[← ok.len];omega),fun _=>rfl⟩
  rw[hl,ha,Nat.add_zero];exact fin vs w hI.ext fun i hi=>hI.good i hi (hall i hi)
 | r+1,listed,vs,a,w,hI,hr=>by
  refine⟨fun h0=>?_,fun i hi=>?_⟩
  ·
   exfalso;have hex:∃i,i<m∧listed.getD i false=false:=by
    apply Classical.byContradiction;intro hn;have:zI m listed=0:=by
     unfold zI;rw[List.countP_eq_zero];intro i hi;have hi':=List.mem_range.1 hi;cases hb:listed.getD i false
     ·exact absurd ⟨i,hi',hb⟩ hn
     ·simp
    omega
   have key:∀n i,i<n→i<m→listed.getD i false=false→False:=by
    intro n
    induction n with
    | zero=>intro i h;omega
    | succ n ih =>
     intro i hin vJ hf;obtain⟨o,ho,_,_,_,xu,_⟩:=ok.each i vJ;have hs:i<listed.size:=by rw[hI.size];exact Nat.lt_of_lt_of_le vJ ok.le
     have:i∈Region.ready .any ops listed:=by
      rw[mem_ready];refine⟨by rw[zk hs];exact hf,o,ho,fun e he hb=>?_⟩;cases hb':listed.getD e.on false
      ·exact(ih e.on (by have:=xu e he hb;omega) (by have:=xu e he hb;omega) hb').elim
      ·rfl
     rw[h0]at this;cases this
   obtain⟨i,vJ,hf⟩:=hex;exact key (i+1) i (by omega) vJ hf
  ·obtain⟨sq,o,ho,hall⟩:=mem_ready.1 hi;have hio:i<ops.size:=(Array.getElem?_eq_some_iff.1 ho).1;have hs:i<listed.size:=by rw[hI.size];exact hio
   have hf:listed.getD i false=false:=by rw[← zk hs];exact sq
   by_cases vJ:i<m
   ·obtain⟨o',ho',hgd,qaJ,qc5,xu,qaK⟩:=ok.each i vJ;obtain rfl:o=o':=Option.some.inj (ho.symm.trans ho');unfold wpOp;simp only[ho];have hw:Region.wanted o (yielded ops a.tmps)=true:=by simp[Region.wanted,hgd]
    rw[if_pos hw]
    left
    have hρ:execOp a.eval o=execOp (valOf a0 ds vs) o:=by
     refine execOp_congr o qc5 fun x hx=>?_;rw[hI.act];cases x with
     | tmp t =>
      cases hj:ds.idxOf? t with
      | none =>
       rw[yi hj];exact kj _ _ t ds 0 a0 (by rw[List.idxOf?_eq_none_iff]at hj;exact hj)
      | some j =>
       rw[yj hj];have hdj:ds[j]?=some t:=by
        have:=List.of_findIdx?_eq_some (p:=(· == t)) (xs:=ds) (i:=j) (by simpa[List.idxOf?]using hj);cases hd:ds[j]? with
        | none=>simp[hd]at this
        | some d=>simp[hd]at this;rw[this]
       obtain⟨e,he,hb,rfl⟩:=zZ ho (qaK t j hx hj);have:=ur (fun i=>listed.getD i false) vs t ds 0 e.on a0 ok.nodup hdj (by simpa using hall e he hb) (ok.small t (List.mem_of_getElem? hdj));simpa using this
     | const v=>simp only[valOf];rfl
     | global g=>simp only[valOf];rfl
     | func f=>simp only[valOf];rfl
    have hst:=step i o vs w vJ ho hI.ext fun j hj=>by
     obtain⟨e,he,hb,rfl⟩:=zZ ho hj;exact hI.good e.on (by have:=xu e he hb;omega) (hall e he hb)
    rw[← hρ]at hst;refine wR hst fun v w' ⟨bj,hG⟩=>?_;have hdi:∃d,ds[i]?=some d:=⟨ds[i]'(by rw[ok.len];exact vJ),List.getElem?_eq_getElem _⟩;obtain⟨d,hd⟩:=hdi;refine qc4 ok mono step fin r (listed.setIfInBounds i true) (zB vs i v) (a.put o.dst v) w' ⟨?_,?_,?_,?_,?_,?_⟩ ?_
    ·simp[hI.size]
    ·intro j hj;rw[getD_set_ne false (by omega)];exact hI.tail j hj
    ·intro j oj hoj hl e he hb;by_cases gX:j=i
     ·subst gX;obtain rfl:o=oj:=Option.some.inj (ho.symm.trans hoj);exact getD_set_true (hall e he hb)
     ·rw[getD_set_ne false (Ne.symm gX)]at hl;exact getD_set_true (hI.closed j oj hoj hl e he hb)
    ·exact qc3 hI.ext bj
    ·intro j hj hl;by_cases gX:j=i
     ·subst gX;simpa[zB]using hG
     ·rw[getD_set_ne false (Ne.symm gX)]at hl;have:=mono j _ w w' hj (hI.good j hj hl) bj;simpa[zB,gX]using this
    ·rw[qaJ,hd,hI.act];have:=ki (fun i=>listed.getD i false) vs i v ds 0 a0 d ok.nodup (Nat.zero_le _) (by simpa using hd) hf;rw[this,yF hs]
    ·have:=uH vJ hs hf;omega
   ·exfalso;have hex:∃k,k<m∧listed.getD k false=false:=by
     apply Classical.byContradiction;intro hn;have:zI m listed=0:=by
      unfold zI;rw[List.countP_eq_zero];intro k hk;cases hb:listed.getD k false
      ·exact absurd ⟨k,List.mem_range.1 hk,hb⟩ hn
      ·simp
     omega
    rcases ok.tail i o (by omega) ho with⟨e,he,hb,hme⟩|quG
    ·have h1:=hall e he hb;rw[hI.tail e.on hme]at h1;cases h1
    ·have key:∀n k,m-k≤n→k<m→listed.getD k false=true:=by
        intro n
        induction n with
        | zero=>intro k h1 h2;omega
        | succ n ih =>
         intro k h1 h2;rcases quG k h2 with h|⟨k',dA,h⟩
         ·obtain⟨e,he,hb,rfl⟩:=zZ ho h;exact hall e he hb
         ·obtain⟨ok',qmu,_,_,_,xu,_⟩:=ok.each k' dA;obtain⟨e,he,hb,rfl⟩:=zZ qmu h;have hlt:=xu e he hb;exact hI.closed k' ok' qmu (ih k' (by omega) dA) e he hb
     obtain⟨k,hk,hkf⟩:=hex;rw[key m k (by omega) hk]at hkf;cases hkf
theorem kK:∀(ds:List Tmp) (k:Nat) (a:Act),qG (fun _=>false) (fun _=>undef) ds k a=a
 | [],_,_=>rfl
 | d::ds,k,a=>by simp only[qG,Bool.false_eq_true,if_false];exact kK ds (k+1) a
theorem gJ {id:Nat}{a:Act}{w:World}(hm:P.follows .mixedOrders=true)(m:Nat)(ds:List Tmp)(hok:nS ops m ds a.tmps.size=true)(G:Nat→Value→World→Prop)
    (mono:∀i v w w',i<m→G i v w→Below w.heap.size w w'→G i v w')
    (step:∀i o vs w',i<m→ops[i]?=some o→Below w.heap.size w w'→(∀j,za ops i j=true→G j (vs j) w') →
     kh P (fun v w''=>Below w'.heap.size w' w''∧G i v w'') ((execOp (valOf a ds vs) o).run P w'))
    (fin:∀vs w',Below w.heap.size w w'→(∀i,i<m→G i (vs i) w')→wpAny P .any ops Q (ops.size-m) (xF ops.size m) (qR vs ds a) w') :
    (Code.region id ops true).wp P Q a w:=by
 have ok:=qms hok;have hd:Below w.heap.size w { w with drawn:=w.drawn+1 }:=⟨rfl,rfl,rfl,Nat.le_refl _,fun _ _=>rfl⟩;refine wp_region_any hm ?_;have h0:zI m (Array.replicate ops.size false)=m:=by
  have:=List.countP_eq_length (l:=List.range m) (p:=fun i=>!(Array.replicate ops.size false).getD i false) |>.2 fun i _=>by rw[zO];rfl
  unfold zI;rw[this,List.length_range]
 have ha:a=qG (fun i=>(Array.replicate ops.size false).getD i false) (fun _=>undef) ds 0 a:=by
  have:qG (fun i=>(Array.replicate ops.size false).getD i false) (fun _=>undef) ds 0 a=qG (fun _=>false) (fun _=>undef) ds 0 a:=xE _ _ _ _ ds 0 a fun j _ _=>⟨zO _ j,fun _=>rfl⟩;rw[this];exact(kK ds 0 a).symm
 have hI:qqG ops a w m ds G (Array.replicate ops.size false) (fun _=>undef) a { w with drawn:=w.drawn+1 }:={
  size:=by simp
  tail:=fun j _=>zO _ j
  closed:=fun i o _ h=>by rw[zO]at h;cases h
  ext:=hd
  good:=fun i _ h=>by rw[zO]at h;cases h
  act:=ha }
 have h1:=qc4 (Q:=Q) ok mono step fin m _ _ a _ hI h0;have e:ops.size-m+m=ops.size:=Nat.sub_add_cancel ok.le;rw[e]at h1;exact h1
structure Reads(a:Act)(ds:List Tmp)(vs:Nat→Value)(ρ:Operand→Value):Prop where
 at_:∀t j,ds.idxOf? t=some j→ρ (.tmp t)=vs j
 out:∀t,ds.idxOf? t=none→ρ (.tmp t)=a.eval (.tmp t)
 const:∀v,ρ (.const v)=v
theorem eJ {id:Nat}{a:Act}{w:World}(hm:P.follows .mixedOrders=true)(m:Nat)(ds:List Tmp)(hok:nS ops m ds a.tmps.size=true)(G:Nat→Value→World→Prop)
    (mono:∀i v w w',i<m→G i v w→Below w.heap.size w w'→G i v w')
    (step:∀i o vs ρ w',i<m→ops[i]?=some o→Reads a ds vs ρ→Below w.heap.size w w'→(∀j,za ops i j=true→G j (vs j) w') →
     kh P (fun v w''=>Below w'.heap.size w' w''∧G i v w'') ((execOp ρ o).run P w'))
    (fin:∀vs w',Below w.heap.size w w'→(∀i,i<m→G i (vs i) w')→wpAny P .any ops Q (ops.size-m) (xF ops.size m) (qR vs ds a) w') :
    (Code.region id ops true).wp P Q a w :=
 gJ hm m ds hok G mono (fun i o vs w' hi ho hb hG=>step i o vs (valOf a ds vs) w' hi ho ⟨fun _ _ h=>yj h,fun _ h=>yi h,fun _=>rfl⟩ hb hG) fin
theorem qJ {md:Region.Mode}{i:Nat}{o:Oper}{fuel:Nat}{listed:Array Bool}{a:Act}{w:World}(hr:Region.ready md ops listed=[i])(ho:ops[i]?=some o)(hg:o.guard=none)
    (h:o.wp P a w (wpAny P md ops Q fuel (listed.setIfInBounds i true)) Q):wpAny P md ops Q (fuel+1) listed a w:=by
 refine wpAny_all hr (by simp) fun j hj=>?_;obtain rfl:j=i:=by simpa using hj
 unfold wpOp;simp only[ho];have hw:Region.wanted o (yielded ops a.tmps)=true:=by simp[Region.wanted,hg]
 rw[if_pos hw];exact .inl h
theorem yG {o:Oper}{a:Act}{w w':World}{v:Value}{next:Act→World→Prop}(h:(execOp a.eval o).run P w=.ok (.value v) w')(hn:next (a.put o.dst v) w'):o.wp P a w next Q:=by
 unfold Oper.wp;rw[h];exact hn
theorem q9 {o:Oper}{ρ:Operand→Value}{w w':World}{v:Value}{K:Value→World→Prop}(h:(execOp ρ o).run P w=.ok (.value v) w')(hk:K v w'):kh P K ((execOp ρ o).run P w):=by
 rw[h];exact hk
end
end Go.Proofs.YtdpbdkacngaemaaGreatDoor
namespace Go.Proofs.YtdpbdkacngaemaaGreatDoor
open _root_.Go.Proofs.Tryz Go Go.RowKit
section
variable {P:Program} {ops:Array Oper} {Q:Exit→Act→World→Prop}
def qaM (ops:Array Oper)(ds:List Tmp)(size:Nat):Bool :=
 decide (ds.length=ops.size)&&decide ds.Nodup&&ds.all (fun d=>decide (d<size)) &&
 (List.range ops.size).all (fun i=>match ops[i]? with
  | some o=>o.dst == ds[i]? && (match o.op with | .select .. => false|_=>true) &&
   o.after.all (fun e=>!Region.binds .any e || decide (e.on<i)) &&
   (match o.guard with|none=>true|some g=>za ops i g.1) &&
   o.op.operands.toList.all (fun x=>match x with
    | .tmp t=>match ds.idxOf? t with
     | some j=>za ops i j
     | none=>true
    | _=>true)
  | none=>false)
structure qmv(ops:Array Oper)(ds:List Tmp)(size:Nat):Prop where
 len:ds.length=ops.size
 nodup:ds.Nodup
 small:∀d∈ds,d<size
 each:∀i,i<ops.size→∃o,ops[i]?=some o∧o.dst=ds[i]? ∧ (∀cs b,o.op ≠ .select cs b)∧(∀e∈o.after,Region.binds .any e=true→e.on<i) ∧
  (∀j want,o.guard=some (j,want)→za ops i j=true)∧(∀t j,Operand.tmp t∈o.op.operands→ds.idxOf? t=some j→za ops i j=true)
theorem qiG{ds:List Tmp}{size:Nat}(h:qaM ops ds size=true):qmv ops ds size:=by
 unfold qaM at h;simp only[Bool.and_eq_true,decide_eq_true_eq,List.all_eq_true,List.mem_range]at h;obtain⟨⟨⟨h2,h3⟩,h4⟩,h5⟩:=h;refine⟨h2,h3,h4,fun i hi=>?_⟩;have h:=h5 i hi;cases ho:ops[i]? with
 | none=>simp[ho]at h
 | some o =>
  simp only[ho,Bool.and_eq_true]at h;obtain⟨⟨⟨⟨g2,g3⟩,g4⟩,g1⟩,g5⟩:=h;refine⟨o,rfl,by simpa using g2,fun cs b hs=>by simp[hs]at g3,fun e he hb=>?_,fun j want hg=>?_,fun t j ht hj=>?_⟩
  ·have:=Array.all_eq_true_iff_forall_mem.1 g4 e he;simpa[hb]using this
  ·simpa[hg]using g1
  ·have:=List.all_eq_true.1 g5 (.tmp t) (by simpa using ht);simpa[hj]using this
structure qaN(a:Act)(ds:List Tmp)(vs:Nat→Value)(ρ:Operand→Value):Prop where
 at_:∀t j,ds.idxOf? t=some j→ρ (.tmp t)=vs j
 out:∀t,ds.idxOf? t=none→ρ (.tmp t)=a.eval (.tmp t)
 const:∀v,ρ (.const v)=v
 fn:∀f,ρ (.func f)=a.eval (.func f)
structure q3X(ops:Array Oper)(a0:Act)(ds:List Tmp)(I:(Nat→Bool)→(Nat→Value)→World→Prop)(listed:Array Bool)(vs:Nat→Value)(a:Act)(w:World):Prop where
 size:listed.size=ops.size
 act:a=qG (fun i=>listed.getD i false) vs ds 0 a0
 inv:I (fun i=>listed.getD i false) vs w
variable {a0:Act} {ds:List Tmp} {I:(Nat→Bool)→(Nat→Value)→World→Prop}
theorem qqH{t:Tmp}{j:Nat}(hj:ds.idxOf? t=some j):ds[j]?=some t:=by
 have:=List.of_findIdx?_eq_some (p:=(· == t)) (xs:=ds) (i:=j) (by simpa[List.idxOf?]using hj);cases hd:ds[j]? with
 | none=>simp[hd]at this
 | some d=>simp[hd]at this;rw[this]
theorem qmw(ok:qmv ops ds a0.tmps.size)
    (step:∀i o L vs ρ w,ops[i]?=some o→L i=false→(∀j,za ops i j=true→L j=true)→qaN a0 ds vs ρ→(∀j want,o.guard=some (j,want)→vs j=.bool want)→I L vs w →
     kh P (fun v w'=>I (qM L i) (zB vs i v) w') ((execOp ρ o).run P w))
    (skip:∀i o L vs w j want,ops[i]?=some o→L i=false→(∀j,za ops i j=true→L j=true)→o.guard=some (j,want)→vs j ≠ .bool want→I L vs w→I (qM L i) (zB vs i undef) w)
    (fin:∀vs w',I (fun j=>decide (j<ops.size)) vs w'→Q .normal (qR vs ds a0) w') :
    ∀(r:Nat) (listed:Array Bool) (vs:Nat→Value) (a:Act) (w:World),q3X ops a0 ds I listed vs a w→zI ops.size listed=r→wpAny P .any ops Q r listed a w
 | 0,listed,vs,a,w,hI,hr=>by
  have hall:=vd hr;have hn:Region.ready .any ops listed=[]:=by
   apply List.eq_nil_iff_forall_not_mem.2;intro i hi;obtain⟨sq,o,ho,_⟩:=mem_ready.1 hi;have hio:i<ops.size:=(Array.getElem?_eq_some_iff.1 ho).1;have:=hall i hio;rw[zk (by rw[hI.size];exact hio)]at sq;rw[this]at sq;cases sq
  have ha:a=qR vs ds a0:=by
   rw[hI.act];exact xE _ _ _ _ ds 0 a0 fun j _ hj=>⟨hall j (by rw[← ok.len];omega),fun _=>rfl⟩
  have hL:(fun i=>listed.getD i false)=fun j=>decide (j<ops.size):=by
   funext j
   by_cases hj:j<ops.size
   ·rw[hall j hj,decide_eq_true hj]
   ·rw[decide_eq_false hj];simp[Array.getD,hI.size,hj]
  rw[ha];have h2:=hI.inv;rw[hL]at h2;exact wpAny_done hn (fin vs w h2) 0
 | r+1,listed,vs,a,w,hI,hr=>by
  refine⟨fun h0=>?_,fun i hi=>?_⟩
  ·exfalso;have hex:∃i,i<ops.size∧listed.getD i false=false:=by
    apply Classical.byContradiction;intro hn;have:zI ops.size listed=0:=by
     unfold zI;rw[List.countP_eq_zero];intro i hi;have hi':=List.mem_range.1 hi;cases hb:listed.getD i false
     ·exact absurd ⟨i,hi',hb⟩ hn
     ·simp
    omega
   have key:∀n i,i<n→i<ops.size→listed.getD i false=false→False:=by
    intro n
    induction n with
    | zero=>intro i h;omega
    | succ n ih =>
     intro i hin vJ hf;obtain⟨o,ho,_,_,xu,_⟩:=ok.each i vJ;have hs:i<listed.size:=by rw[hI.size];exact vJ
     have:i∈Region.ready .any ops listed:=by
      rw[mem_ready];refine⟨by rw[zk hs];exact hf,o,ho,fun e he hb=>?_⟩;cases hb':listed.getD e.on false
      ·exact(ih e.on (by have:=xu e he hb;omega) (by have:=xu e he hb;omega) hb').elim
      ·rfl
     rw[h0]at this;cases this
   obtain⟨i,vJ,hf⟩:=hex;exact key (i+1) i (by omega) vJ hf
  ·obtain⟨sq,o,ho,hall⟩:=mem_ready.1 hi;have vJ:i<ops.size:=(Array.getElem?_eq_some_iff.1 ho).1;have hs:i<listed.size:=by rw[hI.size];exact vJ
   have hf:listed.getD i false=false:=by rw[← zk hs];exact sq
   obtain⟨o',ho',qaJ,qc5,xu,quH,qaK⟩:=ok.each i vJ;obtain rfl:o=o':=Option.some.inj (ho.symm.trans ho');have hdi:∃d,ds[i]?=some d:=⟨ds[i]'(by rw[ok.len];exact vJ),List.getElem?_eq_getElem _⟩;obtain⟨d,hd⟩:=hdi;have qu:∀j,za ops i j=true→listed.getD j false=true:=fun j hj=>by
    obtain⟨e,he,hb,rfl⟩:=zZ ho hj;exact hall e he hb
   have qc6:∀t j,ds[j]?=some t→listed.getD j false=true→a.eval (.tmp t)=vs j:=fun t j hdj hl=>by
    rw[hI.act];have:=ur (fun i=>listed.getD i false) vs t ds 0 j a0 ok.nodup hdj (by simpa using hl) (ok.small t (List.mem_of_getElem? hdj));simpa using this
   have qc7:∀v w',I (qM (fun i=>listed.getD i false) i) (zB vs i v) w'→wpAny P .any ops Q r (listed.setIfInBounds i true) (a.put o.dst v) w':=by
    intro v w' h;refine qmw ok step skip fin r (listed.setIfInBounds i true) (zB vs i v) (a.put o.dst v) w' ⟨by simp[hI.size],?_,?_⟩ ?_
    ·rw[qaJ,hd,hI.act];have:=ki (fun i=>listed.getD i false) vs i v ds 0 a0 d ok.nodup (Nat.zero_le _) (by simpa using hd) hf;rw[this,yF hs]
    ·rw[← yF hs];exact h
    ·have:=uH vJ hs hf;omega
   have nT:∀j want,o.guard=some (j,want)→yielded ops a.tmps j=(match vs j with | .bool b=>some b|_=>none):=by
    intro j want hg;have hj:=quH j want hg;obtain⟨e,he,hb,he2⟩:=zZ ho hj;have gX:j<i:=by rw[← he2];exact xu e he hb
    obtain⟨oj,hoj,hdj,_⟩:=ok.each j (by omega);have qiH:ds[j]?=some (ds[j]'(by rw[ok.len];omega)):=List.getElem?_eq_getElem _;generalize ds[j]'(by rw[ok.len];omega)=t at qiH;have hr:=qc6 t j qiH (qu j hj);unfold yielded;rw[hoj];simp only[Option.bind_some,hdj,qiH];have he:a.eval (.tmp t)=a.tmps.getD t undef:=rfl;rw[he]at hr;cases hx:a.tmps[t]? with
    | none =>
     have:a.tmps.getD t undef=undef:=by simp[Array.getD_eq_getD_getElem?,hx]
     rw[← hr,this];rfl
    | some x =>
     have:a.tmps.getD t undef=x:=by simp[Array.getD_eq_getD_getElem?,hx]
     rw[← hr,this];cases x <;> rfl
   unfold wpOp;simp only[ho];by_cases hw:Region.wanted o (yielded ops a.tmps)=true
   ·rw[if_pos hw]
    left
    have hρ:execOp a.eval o=execOp (valOf a0 ds vs) o:=by
     refine execOp_congr o qc5 fun x hx=>?_;cases x with
     | tmp t =>
      cases hj:ds.idxOf? t with
      | none =>
       rw[yi hj,hI.act];exact kj _ _ t ds 0 a0 (by rw[List.idxOf?_eq_none_iff]at hj;exact hj)
      | some j =>
       rw[yj hj];exact qc6 t j (qqH hj) (qu j (qaK t j hx hj))
     | const v=>simp only[valOf];rfl
     | global g=>simp only[valOf];rfl
     | func f=>simp only[valOf];rfl
    have hst:=step i o (fun i=>listed.getD i false) vs (valOf a0 ds vs) w ho hf qu ⟨fun _ _ h=>yj h,fun _ h=>yi h,fun _=>rfl,fun _=>rfl⟩ (fun j want hg=>by
     have hy:=nT j want hg;unfold Region.wanted at hw;rw[hg]at hw;simp only[hy]at hw;cases hv:vs j <;> rw[hv]at hw <;> simp at hw;rw[hw]) hI.inv
    rw[← hρ]at hst;exact wR hst fun v w' h=>qc7 v w' h
   ·rw[if_neg hw];cases hg:o.guard with
    | none=>exact absurd (by simp[Region.wanted,hg]) hw
    | some g =>
     obtain⟨j,want⟩:=g;refine qc7 undef w (skip i o _ vs w j want ho hf qu hg (fun hv=>hw ?_) hI.inv);have hy:=nT j want hg;unfold Region.wanted;rw[hg];simp only[hy,hv];simp
theorem jk {id:Nat}{a:Act}{w:World}(hm:P.follows .mixedOrders=true)(ds:List Tmp)(hok:qaM ops ds a.tmps.size=true)(I:(Nat→Bool)→(Nat→Value)→World→Prop)
    (start:I (fun _=>false) (fun _=>undef) w.drew)
    (step:∀i o L vs ρ w,ops[i]?=some o→L i=false→(∀j,za ops i j=true→L j=true)→qaN a ds vs ρ→(∀j want,o.guard=some (j,want)→vs j=.bool want)→I L vs w →
     kh P (fun v w'=>I (qM L i) (zB vs i v) w') ((execOp ρ o).run P w))
    (skip:∀i o L vs w j want,ops[i]?=some o→L i=false→(∀j,za ops i j=true→L j=true)→o.guard=some (j,want)→vs j ≠ .bool want→I L vs w→I (qM L i) (zB vs i undef) w)
    (fin:∀vs w',I (fun j=>decide (j<ops.size)) vs w'→Q .normal (qR vs ds a) w') :
    (Code.region id ops true).wp P Q a w:=by
 have ok:=qiG hok;refine wp_region_any hm ?_;have h0:zI ops.size (Array.replicate ops.size false)=ops.size:=by
  have:=List.countP_eq_length (l:=List.range ops.size) (p:=fun i=>!(Array.replicate ops.size false).getD i false) |>.2 fun i _=>by rw[zO];rfl
  unfold zI;rw[this,List.length_range]
 have hf:(fun i=>(Array.replicate ops.size false).getD i false)=fun _=>false:=by
  funext i
  exact zO _ i
 refine qmw ok step skip fin ops.size (Array.replicate ops.size false) (fun _=>undef) a _ ⟨by simp,?_,?_⟩ h0
 ·rw[hf];exact(kK ds 0 a).symm
 ·rw[hf];exact start
end
theorem bE (L:Nat→Bool)(vs:Nat→Value):∀(ds:List Tmp) (k:Nat) (a:Act),(qG L vs ds k a).defers=a.defers
 | [],_,_=>rfl
 | d::ds,k,a=>by
  simp only[qG];rw[bE L vs ds];split <;> rfl
theorem bF {P:Program}{fn:Func}{R:Ending→World→Prop}{a:Act}{ds:List Tmp}{vs:Nat→Value}{w:World}{t:Tmp}{v:Value}(j:Nat)(hres:fn.results = #[.tmp t])
    (hB:(decide ds.Nodup&&decide (ds[j]?=some t))=true) (hs:decide (t<a.tmps.size)=true) (hd:a.defers=[]) (hv:vs j=v) (hR:R (.returned v) w):bodyPost P fn R .ret (qR vs ds a) w:=by
 simp only[Bool.and_eq_true,decide_eq_true_eq]at hB hs;refine bodyPost_ret (v:=v) ?_ ((bE _ _ _ _ _).trans hd) hR;rw[results_tmp hres]
 congr 1
 have:=ur (fun _=>true) vs t ds 0 j a hB.1 hB.2 rfl hs;rw[Nat.zero_add,hv]at this;exact this
end Go.Proofs.YtdpbdkacngaemaaGreatDoor
namespace Go.Proofs.YtdpbdkacngaemaaGreatDoor
open _root_.Go.Proofs.Tryz Go Go.RowKit
theorem qj {P:Program}{o:Oper}{ρ:Operand→Value}{w w':World}{f:FuncId}{args:Array Value}{K:Value→World→Prop}(h:(execOp ρ o).run P w=.ok (.enter f args) w')(hk:Calls P f args w' fun e w''=>∃v,e=.returned v∧K v w''):kh P K ((execOp ρ o).run P w):=by
 rw[h];exact hk
theorem qQ {P:Program}{ops:Array Oper}{Q:Exit→Act→World→Prop}{id:Nat}{a:Act}{w:World}(hm:P.follows .mixedOrders=true)(m:Nat)(ds:List Tmp)(hok:nS ops m ds a.tmps.size=true)(G:Nat→Value→World→Prop)
    (mono:∀i v w w',i<m→G i v w→Below w.heap.size w w'→G i v w')
    (step:∀i o vs ρ w',i<m→ops[i]?=some o→Reads a ds vs ρ→(∀f,ρ (.func f)=a.eval (.func f))→Below w.heap.size w w'→(∀j,za ops i j=true→G j (vs j) w') →
     kh P (fun v w''=>Below w'.heap.size w' w''∧G i v w'') ((execOp ρ o).run P w'))
    (fin:∀vs w',Below w.heap.size w w'→(∀i,i<m→G i (vs i) w')→wpAny P .any ops Q (ops.size-m) (xF ops.size m) (qR vs ds a) w') :
    (Code.region id ops true).wp P Q a w :=
 gJ hm m ds hok G mono (fun i o vs w' hi ho hb hG=>step i o vs (valOf a ds vs) w' hi ho ⟨fun _ _ h=>yj h,fun _ h=>yi h,fun _=>rfl⟩ (fun _=>rfl) hb hG) fin
end Go.Proofs.YtdpbdkacngaemaaGreatDoor
namespace Go.Proofs.YtdpbdkacngaemaaGreatDoor.mt.pg
open _root_.Go.Proofs.Tryz Go Go.RowKit ib wi mt
def gK (g0 g1 a1 a2 b1 b2:Nat)(x y z:Int):Nat→Value→World→Prop
 | 0,v,_=>v=.pointer (some ⟨g0,0,none⟩)
 | 1,v,_=>v=.int .u64 (a1:Int)
 | 2,v,_=>v=.pointer (some ⟨g1,0,none⟩)
 | 3,v,_=>v=.int .u64 (b1:Int)
 | 4,v,_=>v=.int .i64 (x)
 | 5,v,_=>v=.pointer (some ⟨g0,1,none⟩)
 | 6,v,_=>v=.int .u64 (a2:Int)
 | 7,v,_=>v=.pointer (some ⟨g1,1,none⟩)
 | 8,v,_=>v=.int .u64 (b2:Int)
 | 9,v,_=>v=.int .i64 (y)
 | 10,v,W=>∃B,v=.slice (some ⟨B,0,none⟩) 2 2∧qI W (some ⟨B,0,none⟩) [x,y]
 | 11,v,_=>v=.int .i64 z
 | 12,v,_=>v=.bool (decide (0<z))
 | 13,v,_=>v=.bool (decide (0<z))
 | _,_,_=>True
theorem qc8(g0 g1 a1 a2 b1 b2:Nat)(x y z:Int)(i:Nat)(v:Value)(w w':World)(hi:i<14)(h:gK g0 g1 a1 a2 b1 b2 x y z i v w)(hb:Below w.heap.size w w'):gK g0 g1 a1 a2 b1 b2 x y z i v w':=by
 match i,hi,h with
 | 0,_,h | 1,_,h | 2,_,h | 3,_,h | 4,_,h | 5,_,h | 6,_,h | 7,_,h | 8,_,h | 9,_,h | 11,_,h | 12,_,h | 13,_,h=>exact h
 | 10,_,⟨B,hv,h2⟩=>exact⟨B,hv,h2.below hb⟩
 | j+14,hi,_=>exact absurd hi (by omega)
theorem eK (a b:Nat):qD (ju a b):=by unfold ju qD;split <;> (try split) <;> omega
theorem km (a b:Gd)(w:World):Calls prog 127 #[gv a,gv b] w (uC (above a b) w):=by
 have HR:Hid (decide (0<(if ju a.1 b.1≠0 then ju a.1 b.1 else ju a.2 b.2))=above a b):=(tC a b).symm;obtain⟨r,hr⟩:=QE (above a b);rw[hr]at HR ⊢;clear hr;obtain⟨a1,a2⟩:=a;obtain⟨b1,b2⟩:=b;dsimp only at HR;show Calls prog 127 #[.agg #[.int .u64 (a1:Int),.int .u64 (a2:Int)],.agg #[.int .u64 (b1:Int),.int .u64 (b2:Int)]] w _;have HC1:Hid (∀W,Calls prog 212 #[.int .u64 (a1:Int),.int .u64 (b1:Int)] W (same (.int .i64 (ju a1 b1)) W)):=fun W=>mY a1 b1 W;have HC2:Hid (∀W,Calls prog 212 #[.int .u64 (a2:Int),.int .u64 (b2:Int)] W (same (.int .i64 (ju a2 b2)) W)):=fun W=>mY a2 b2 W;have hz:∀z∈[ju a1 b1,ju a2 b2],qD z:=by
  intro z hz;simp only[List.mem_cons,List.not_mem_nil,or_false]at hz;rcases hz with rfl|rfl
  ·exact eK _ _
  ·exact eK _ _
 generalize ju a1 b1=x at *;generalize ju a2 b2=y at *;have HC3:Hid (∀W B,qI W (some ⟨B,0,none⟩) [x,y]→Calls prog 211 #[.slice (some ⟨B,0,none⟩) 2 2] W (same (.int .i64 (if x≠0 then x else y)) W)):=fun W B h=>qmr ⟨B,0,none⟩ 2 x y W h;generalize (if x≠0 then x else y)=z at *;have hb1:=(Below.refl w.heap.size w).alloc (Nat.le_refl _) (.cells #[.int .u64 (a1:Int),.int .u64 (a2:Int)] 38);have ha1:=qf.new w 38 #[.int .u64 (a1:Int),.int .u64 (a2:Int)];obtain⟨W1,hW1⟩:=QE (w.alloc (.cells #[.int .u64 (a1:Int),.int .u64 (a2:Int)] 38));rw[hW1]at hb1 ha1;have hbb:=(Below.refl _ W1).alloc (Nat.le_refl _) (.cells #[.int .u64 (b1:Int),.int .u64 (b2:Int)] 38);have HB:=QH (qa hb1 hbb);have mE:=QH (ha1.below hbb);have jt:=QH (qf.new W1 38 #[.int .u64 (b1:Int),.int .u64 (b2:Int)]);obtain⟨w0,hw0⟩:=QE (W1.alloc (.cells #[.int .u64 (b1:Int),.int .u64 (b2:Int)] 38));rw[hw0]at HB mE jt;obtain⟨g0,hg0⟩:=QE w.heap.size;obtain⟨g1,hg1⟩:=QE W1.heap.size;clear hb1 ha1 hbb;have HZ:=QH hz;clear hz;go_enter func127,ntmps127;go_wp2_with fail;try rw[hw0]
 try rw[hg0]
 try rw[hg1]
 rw[hg0]at mE;rw[hg1]at jt;clear hw0 hW1;have hz:=HZ.out;refine jk (by kernel_rfl) [5,6,7,8,9,10,11,12,13,14,15,16,17,4] (by kernel_rfl) (fun L vs W=>Below w0.heap.size w0 W∧∀i,L i=true→i<14→gK g0 g1 a1 a2 b1 b2 x y z i (vs i) W) ⟨(Below.refl _ _).drew,fun i hi=>by cases hi⟩ ?_ ?_ ?_
 ·intro i o L vs ρ W ho gZ qu hρ hgd hI;obtain⟨hb,rQ⟩:=hI;have hG:∀j,L j=true→gK g0 g1 a1 a2 b1 b2 x y z j (vs j) W:=fun j hj=>by
   by_cases dI:j<14
   ·exact rQ j hj dI
   ·match j,dI with
    | j+14,_=>exact trivial
  have qfg:i<14:=(Array.getElem?_eq_some_iff.1 ho).1;have hc:=hρ.const;have hfn:=hρ.fn;have next:∀v W',Below W.heap.size W W'→gK g0 g1 a1 a2 b1 b2 x y z i v W'→Below w0.heap.size w0 W'∧∀j,qM L i j=true→j<14→gK g0 g1 a1 a2 b1 b2 x y z j (zB vs i v j) W':=fun v W' h1 h2=>by
   refine⟨qa hb h1,fun j hj dI=>?_⟩;by_cases gX:j=i
   ·subst gX;simpa[zB]using h2
   ·simp only[qM,if_neg gX]at hj;simpa[zB,gX]using qc8 g0 g1 a1 a2 b1 b2 x y z j _ W W' dI (rQ j hj dI) h1
  have hA:=mE.out.below hb;have hB:=jt.out.below hb;have hlt:=hA.lt;have q4a:=hB.lt;have c0:=hA.cell 0;have c1:=hA.cell 1;have d0:=hB.cell 0;have d1:=hB.cell 1;simp only[QA,QB,QC]at c0 c1 d0 d1;rcases i with _|_|_|_|_|_|_|_|_|_|_|_|_|_|i;all_goals (first|omega|skip)
  all_goals simp only[QA,QB,QC,Option.some.injEq]at ho
  all_goals subst ho
  ·have o2:ρ (.tmp 2)=.pointer (some ⟨g0,0,none⟩):=hρ.out 2 rfl;exact q9 (w':=W) (by unfold execOp;simp only[o2,hc];go_simp) (next _ _ (Below.refl _ _) rfl)
  ·have g5:gK g0 g1 a1 a2 b1 b2 x y z 0 (vs 0) W:=hG 0 (qu 0 (by kernel_rfl));have s5:ρ (.tmp 5)=.pointer (some ⟨g0,0,none⟩):=(hρ.at_ 5 0 rfl).trans g5;exact q9 (w':=W) (by unfold execOp;simp only[s5,hc];go_simp) (next _ _ (Below.refl _ _) rfl)
  ·have o3:ρ (.tmp 3)=.pointer (some ⟨g1,0,none⟩):=hρ.out 3 rfl;exact q9 (w':=W) (by unfold execOp;simp only[o3,hc];go_simp) (next _ _ (Below.refl _ _) rfl)
  ·have g7:gK g0 g1 a1 a2 b1 b2 x y z 2 (vs 2) W:=hG 2 (qu 2 (by kernel_rfl));have s7:ρ (.tmp 7)=.pointer (some ⟨g1,0,none⟩):=(hρ.at_ 7 2 rfl).trans g7;exact q9 (w':=W) (by unfold execOp;simp only[s7,hc];go_simp) (next _ _ (Below.refl _ _) rfl)
  ·have g6:gK g0 g1 a1 a2 b1 b2 x y z 1 (vs 1) W:=hG 1 (qu 1 (by kernel_rfl));have s6:ρ (.tmp 6)=.int .u64 (a1:Int):=(hρ.at_ 6 1 rfl).trans g6;have g8:gK g0 g1 a1 a2 b1 b2 x y z 3 (vs 3) W:=hG 3 (qu 3 (by kernel_rfl));have s8:ρ (.tmp 8)=.int .u64 (b1:Int):=(hρ.at_ 8 3 rfl).trans g8;refine qj (f:=212) (args:=#[.int .u64 (a1:Int),.int .u64 (b1:Int)]) (w':=W) (by unfold execOp;simp only[hfn,s6,s8];go_simp) ((HC1.out W).mono ?_);rintro x W' ⟨rfl,rfl⟩;exact⟨_,rfl,next _ _ (Below.refl _ _) rfl⟩
  ·have o2:ρ (.tmp 2)=.pointer (some ⟨g0,0,none⟩):=hρ.out 2 rfl;exact q9 (w':=W) (by unfold execOp;simp only[o2,hc];go_simp) (next _ _ (Below.refl _ _) rfl)
  ·have g10:gK g0 g1 a1 a2 b1 b2 x y z 5 (vs 5) W:=hG 5 (qu 5 (by kernel_rfl));have s10:ρ (.tmp 10)=.pointer (some ⟨g0,1,none⟩):=(hρ.at_ 10 5 rfl).trans g10;exact q9 (w':=W) (by unfold execOp;simp only[s10,hc];go_simp) (next _ _ (Below.refl _ _) rfl)
  ·have o3:ρ (.tmp 3)=.pointer (some ⟨g1,0,none⟩):=hρ.out 3 rfl;exact q9 (w':=W) (by unfold execOp;simp only[o3,hc];go_simp) (next _ _ (Below.refl _ _) rfl)
  ·have g12:gK g0 g1 a1 a2 b1 b2 x y z 7 (vs 7) W:=hG 7 (qu 7 (by kernel_rfl));have s12:ρ (.tmp 12)=.pointer (some ⟨g1,1,none⟩):=(hρ.at_ 12 7 rfl).trans g12;exact q9 (w':=W) (by unfold execOp;simp only[s12,hc];go_simp) (next _ _ (Below.refl _ _) rfl)
  ·have g11:gK g0 g1 a1 a2 b1 b2 x y z 6 (vs 6) W:=hG 6 (qu 6 (by kernel_rfl));have s11:ρ (.tmp 11)=.int .u64 (a2:Int):=(hρ.at_ 11 6 rfl).trans g11;have g13:gK g0 g1 a1 a2 b1 b2 x y z 8 (vs 8) W:=hG 8 (qu 8 (by kernel_rfl));have tD:ρ (.tmp 13)=.int .u64 (b2:Int):=(hρ.at_ 13 8 rfl).trans g13;refine qj (f:=212) (args:=#[.int .u64 (a2:Int),.int .u64 (b2:Int)]) (w':=W) (by unfold execOp;simp only[hfn,s11,tD];go_simp) ((HC2.out W).mono ?_);rintro x W' ⟨rfl,rfl⟩;exact⟨_,rfl,next _ _ (Below.refl _ _) rfl⟩
  ·have g9:gK g0 g1 a1 a2 b1 b2 x y z 4 (vs 4) W:=hG 4 (qu 4 (by kernel_rfl));have s9:ρ (.tmp 9)=.int .i64 (x):=(hρ.at_ 9 4 rfl).trans g9;have g14:gK g0 g1 a1 a2 b1 b2 x y z 9 (vs 9) W:=hG 9 (qu 9 (by kernel_rfl));have s14:ρ (.tmp 14)=.int .i64 (y):=(hρ.at_ 14 9 rfl).trans g14;exact q9 (v:=.slice (some ⟨W.heap.size,0,none⟩) 2 2) (w':=W.alloc (.cells (qh [x,y]) 3)) (by unfold execOp;simp only[s9,s14,qh];go_simp) (next _ _ ((Below.refl _ W).alloc (Nat.le_refl _) _) ⟨W.heap.size,rfl,dB W _ hz⟩)
  ·obtain⟨B15,g15,qmy⟩:gK g0 g1 a1 a2 b1 b2 x y z 10 (vs 10) W:=hG 10 (qu 10 (by kernel_rfl));have s15:ρ (.tmp 15)=.slice (some ⟨B15,0,none⟩) 2 2:=(hρ.at_ 15 10 rfl).trans g15;refine qj (f:=211) (args:=#[.slice (some ⟨B15,0,none⟩) 2 2]) (w':=W) (by unfold execOp;simp only[hfn,s15];go_simp) ((HC3.out W B15 qmy).mono ?_);rintro x W' ⟨rfl,rfl⟩;exact⟨_,rfl,next _ _ (Below.refl _ _) rfl⟩
  ·have g16:gK g0 g1 a1 a2 b1 b2 x y z 11 (vs 11) W:=hG 11 (qu 11 (by kernel_rfl));have s16:ρ (.tmp 16)=.int .i64 z:=(hρ.at_ 16 11 rfl).trans g16;exact q9 (w':=W) (by unfold execOp;simp only[s16,hc];go_simp) (next _ _ (Below.refl _ _) rfl)
  ·have g17:gK g0 g1 a1 a2 b1 b2 x y z 12 (vs 12) W:=hG 12 (qu 12 (by kernel_rfl));have s17:ρ (.tmp 17)=.bool (decide (0<z)):=(hρ.at_ 17 12 rfl).trans g17;exact q9 (w':=W) (by unfold execOp;simp only[s17,hc];go_simp) (next _ _ (Below.refl _ _) rfl)
 ·intro i o L vs W j want ho gZ qu hg hv hI;obtain⟨hb,rQ⟩:=hI;have hG:∀j,L j=true→gK g0 g1 a1 a2 b1 b2 x y z j (vs j) W:=fun j hj=>by
   by_cases dI:j<14
   ·exact rQ j hj dI
   ·match j,dI with
    | j+14,_=>exact trivial
  have qfg:i<14:=(Array.getElem?_eq_some_iff.1 ho).1;rcases i with _|_|_|_|_|_|_|_|_|_|_|_|_|_|i;all_goals (first|omega|skip)
  all_goals simp only[QA,QB,QC,Option.some.injEq]at ho
  all_goals subst ho
  all_goals simp only[reduceCtorEq,Option.some.injEq,Prod.mk.injEq]at hg
 ·intro vs W hI;have g7:vs 13=.bool (decide (0<z)):=hI.2 13 (by decide) (by decide);have hbW:=QH (qa HB.out hI.1);clear hI;go_wp2_with fail;refine bF 13 rfl (by decide +kernel) (by kernel_rfl) rfl g7 ⟨by rw[HR.out],hbW.out⟩
end Go.Proofs.YtdpbdkacngaemaaGreatDoor.mt.pg
namespace Go.Proofs.YtdpbdkacngaemaaGreatDoor.im
open _root_.Go.Proofs.Tryz Go Go.RowKit ib
def dc (l:List Int)(f k:Nat):List Int:=(List.range 8).map fun j=>if j<k then pl l (f+j)else 0
def eL (l:List Int)(f:Nat):List Int:=dc l f 8
theorem qc9(l:List Int)(f k:Nat):(dc l f k).length=8:=by simp[dc]
theorem aK (l:List Int)(f:Nat):(eL l f).length=8:=qc9 l f 8
theorem qiI(l:List Int)(f:Nat):dc l f 0=List.replicate 8 0:=by
 apply List.ext_getElem
 ·simp[dc]
 ·intro i h1 h2;rw[List.getElem_replicate];simp only[dc,List.getElem_map,Nat.not_lt_zero,if_false]
theorem qmz(l:List Int)(f k:Nat):(dc l f k).set k (pl l (f+k))=dc l f (k+1):=by
 apply List.ext_getElem
 ·simp[dc]
 ·intro i h1 h2;rw[List.getElem_set];by_cases h:k=i
  ·subst h;simp[dc]
  ·rw[if_neg h];simp only[dc,List.getElem_map,List.getElem_range];by_cases h3:i<k
   ·rw[if_pos h3,if_pos (by omega)]
   ·rw[if_neg h3,if_neg (by omega)]
theorem qm0{l:List Int}{f k:Nat}(h:l.length≤f+k):dc l f (k+1)=dc l f k:=by
 apply List.ext_getElem
 ·simp[dc]
 ·intro i h1 h2;simp only[dc,List.getElem_map,List.getElem_range];by_cases h3:i<k
  ·rw[if_pos h3,if_pos (by omega)]
  ·by_cases h4:i=k
   ·rw[if_neg h3,if_pos (by omega),iq (by omega)]
   ·rw[if_neg h3,if_neg (by omega)]
theorem n9 (l:List Int)(f k:Nat)(h:k<(eL l f).length):(eL l f)[k]=pl l (f+k):=by
 have h8:k<8:=by rw[aK]at h;exact h
 simp only[eL,dc,List.getElem_map,List.getElem_range,if_pos h8]
theorem qm1{l:List Int}(h:∀z∈l,qD z)(i:Nat):qD (pl l i):=by
 by_cases hi:i<l.length
 ·rw[eu hi];exact h _ (List.getElem_mem hi)
 ·rw[iq (by omega)];unfold qD;omega
theorem qiJ{l:List Int}(h:∀z∈l,qD z)(f:Nat):∀z∈eL l f,qD z:=by
 intro z hz;obtain⟨i,hi,rfl⟩:=List.getElem_of_mem hz;rw[n9];exact qm1 h _
theorem qh0:(prog.info? 276).map (·.size)=some 8:=by kernel_rfl
theorem qfl(V:List Int):(qh V).all (·.oneCell')=true:=by
 rw[Array.all_eq_true'];intro u hu;simp only[qh,List.mem_toArray,List.mem_map]at hu;obtain⟨z,_,rfl⟩:=hu;rfl
theorem eM {w:World}{g:Nat}{V:List Int}(h:qf w g 276 (qh V))(hl:V.length=8):(loadVar 276 ⟨g,0,none⟩).run prog w=.ok (.agg (qh V)) w :=
 run_loadVar_row w g 276 276 _ (0,0) _ h underlying276 rfl (by rw[kH,hl];exact qh0)
theorem vK {ρ:Operand→Value}{o:Oper}{w:World}{g:Nat}{V:List Int}(x:Operand)(ho:o.op=.load 276 x)(hx:ρ x=.pointer (some ⟨g,0,none⟩))(h:qf w g 276 (qh V))(hl:V.length=8) :
    (execOp ρ o).run prog w=.ok (.value (.agg (qh V))) w:=by
 simp only[execOp,ho,hx,Instr.loadAt,Instr.sureAddr,Sem.run_bind,Sem.run_pure,Result.andThen_ok,eM h hl]
theorem dJ {ρ:Operand→Value}{o:Oper}{w:World}{g:Nat}{V U:List Int}(x y:Operand)(ho:o.op=.store 276 x y)(hx:ρ x=.pointer (some ⟨g,0,none⟩))(hy:ρ y=.agg (qh U))(h:qf w g 276 (qh V))(hl:V.length=8)(hu:U.length=8) :
    (execOp ρ o).run prog w=.ok .skip (w.setRow g (qh U)):=by
 simp only[execOp,ho,hx,hy,Instr.storeAt,Instr.sureAddr,Sem.run_bind,Sem.run_pure,Result.andThen_ok,run_storeVar_row w g 276 276 _ _ h (by rw[kH,hu];exact qh0) (by rw[kH,kH,hl,hu]) (qfl U)]
theorem tE {w:World}{g:Nat}{t:TypeId}{c c':Array Value}(h:qf w g t c):qf (w.setRow g c') g t c':=by
 unfold qf at *;simp[World.setRow,Array.getElem?_modify,h]
theorem setRow_other(w:World){g k:Nat}(c:Array Value)(h:k≠g):(w.setRow g c).heap[k]?=w.heap[k]? :=by
 have h':¬ g=k:=fun e=>h e.symm;simp[World.setRow,Array.getElem?_modify,h']
theorem setRow_size(w:World)(g:Nat)(c:Array Value):(w.setRow g c).heap.size=w.heap.size:=by simp[World.setRow]
theorem wS {B:Nat}{w w':World}(h:Below B w w'){g:Nat}(c:Array Value)(hg:B≤g):Below B w (w'.setRow g c) :=
 ⟨h.os,h.tape,h.output,by rw[setRow_size];exact h.size,fun k hk=>by rw[setRow_other _ _ (by omega)];exact h.block k hk⟩
def q4b (V:List Int)(w:World)(e:Ending)(w':World):Prop:=e=.returned (.agg (qh V))∧Below w.heap.size w w'
def quJ (l:List Int)(f b:Nat)(w:World)(i:Value)(wr:World):Prop :=
 ∃k:Nat,k≤8∧i=.int .i64 (k:Int)∧qf wr b 276 (qh (dc l f k))∧qf wr w.heap.size 276 (qh (List.replicate 8 0))∧Below w.heap.size w wr
theorem zf {fn:Func}{p:Tmp}{ty:TypeId}(h:fn.results = #[.cell p ty])(tmps:Array Value)(P:Program)(w:World)(a:Addr)(v1:Value)
    (hp:tmps.getD p undef=.pointer (some a)) (h1:(loadVar ty a).run P w=.ok v1 w):(results fn tmps).run P w=.ok v1 w:=by
 simp only[results,h];simp only[Array.getD_eq_getD_getElem?]at hp;simp[Sem.run_bind,Result.andThen,asAddr,hp,h1]
theorem qaO(A:Option Addr)(c:Nat)(l:List Int)(f:Nat)(w:World)(hp:qI w A l)(hl:l.length≤1000)(hf:f≤2000) :
    Calls prog 208 #[.slice A l.length c,.int .i64 (f:Int)] w (q4b (eL l f) w):=by
 have HP:=QH hp;have hsz:(w.alloc (.cells (qh (List.replicate 8 0)) 276)).heap.size=w.heap.size+1:=by simp
 have k0:qf ((w.alloc (.cells (qh (List.replicate 8 0)) 276)).alloc (.cells (qh (List.replicate 8 0)) 276)) (w.heap.size+1) 276 (qh (dc l f 0)):=by
  rw[qiI,← hsz];exact qf.new _ _ _
 have k1:qf ((w.alloc (.cells (qh (List.replicate 8 0)) 276)).alloc (.cells (qh (List.replicate 8 0)) 276)) w.heap.size 276 (qh (List.replicate 8 0)):=by
  refine(qf.new w 276 _).of_block (Below.heap_alloc _ _ _ (by rw[hsz];omega))
 have b0:Below w.heap.size w ((w.alloc (.cells (qh (List.replicate 8 0)) 276)).alloc (.cells (qh (List.replicate 8 0)) 276)):=((Below.refl _ w).alloc (Nat.le_refl _) _).alloc (by simp) _;have K0:=QH k0;have K1:=QH k1;have B0:=QH b0;clear hp k0 k1 b0 hsz;go_enter func208,ntmps208;go_wp2_with fail;go_loopw [7] (fun i wr=>quJ l f (w.heap.size+1) w i wr) (fun i _=>8-(intOf i).toNat);case atStart=>exact⟨0,by omega,rfl,K0.out,K1.out,B0.out⟩
 case round =>
  clear K0 K1 B0;obtain⟨k,hk,rfl,hb,hz,hw⟩:=hrel;have HB:=QH hb;have HZ:=QH hz;have HW:=QH hw;clear hb hz hw;by_cases h8:k<8
  ·have h8i:(k:Int)<8:=by omega
   by_cases hin:f+k<l.length
   ·have q4c:(f:Int)+(k:Int)<(l.length:Int):=by omega
    obtain⟨b,o,rfl,hbl,hc,hz⟩:=HP.out (f+k) hin;have e0:wr.cell? ⟨b,o+(f+k),none⟩=some (.int .i64 l[f+k]):=by rw[HW.out.cell (p:=⟨b,o+(f+k),none⟩) hbl];exact hc
    have l0:b<wr.heap.size:=Nat.lt_of_lt_of_le hbl HW.out.size;have q0:=HB.out.frozen k;obtain⟨old,q1⟩:∃u,wr.cell? ⟨w.heap.size+1,k,none⟩=some u:=by
     rw[HB.out.cell k,uo _ k (by rw[qc9];exact h8)];exact⟨_,rfl⟩
    have l1:=HB.out.lt;have qA:=QH (fun v=>HB.out.qg k (.int .i64 v));have HS:=QH (qmz l f k);rw[eu hin]at HS;clear hc hz hbl;generalize l[f+k]=x at *;go_wp2_with fail;go_roundw;case rel =>
     refine⟨k+1,by omega,by go_num,?_,HZ.out.of_block (Below.heap_setCell _ _ _ _ (by simp)),HW.out.setCell (p:=⟨w.heap.size+1,k,none⟩) (Nat.le_succ _) _⟩;have:=qA.out x;rw[nM,HS.out]at this;exact this
    case measure=>simp[intOf];omega
   ·have q4c:¬ (f:Int)+(k:Int)<(l.length:Int):=by omega
    have HO:=QH (qm0 (l:=l) (f:=f) (k:=k) (by omega));go_wp2_with fail;go_roundw;case rel=>exact⟨k+1,by omega,by go_num,by rw[HO.out];exact HB.out,HZ.out,HW.out⟩
    case measure=>simp[intOf];omega
  ·have h8i:¬ (k:Int)<8:=by omega
   obtain rfl:k=8:=by omega
   have HV:=QH (aK l f);have qA:Hid (qf wr (w.heap.size+1) 276 (qh (eL l f))):=HB.out;clear HB;obtain⟨V,hV⟩:=QE (eL l f);rw[hV]at HV qA ⊢;have HR:=QH (tE (c':=qh V) HZ.out);have HW2:=QH (wS HW.out (qh V) (Nat.le_refl _));go_wp2_with (first|(refine qi rfl (vK (.tmp 5) rfl rfl qA.out HV.out) ?_)|(refine wpList_skip rfl (dJ (.tmp 4) (.tmp 25) rfl rfl rfl HZ.out (by decide) HV.out) ?_));exact bodyPost_ret (zf rfl _ _ _ ⟨w.heap.size,0,none⟩ _ rfl (eM HR.out HV.out)) rfl ⟨rfl,HW2.out⟩
def quK (V:List Int)(n:Int)(w:World)(i:Value)(wr:World):Prop:=∃k:Nat,k≤8∧i=.int .i64 (k:Int)∧(V.take k).any (gS n)=false∧qf wr w.heap.size 276 (qh V)∧Below w.heap.size w wr
theorem qaP(V:List Int)(hv:V.length=8)(n:Int)(w:World):Calls prog 209 #[.agg (qh V),.int .i64 n] w (uC (!V.any (gS n)) w):=by
 obtain⟨res,hres⟩:=QE (V.any (gS n));rw[hres];have xj:=QH hres;have HV:=QH hv;clear hv hres;have K0:=QH (qf.new w 276 (qh V));have B0:=QH ((Below.refl w.heap.size w).alloc (Nat.le_refl _) (.cells (qh V) 276));go_enter func209,ntmps209;go_wp2_with fail;go_loopw [7] (fun i wr=>quK V n w i wr) (fun i _=>8-(intOf i).toNat);case atStart=>exact⟨0,by omega,rfl,by simp,K0.out,B0.out⟩
 case round =>
  clear K0 B0;obtain⟨k,hk,rfl,ha,hb,hw⟩:=hrel;have HA:=QH ha;have HB:=QH hb;have HW:=QH hw;clear ha hb hw;by_cases h8:k<8
  ·have h8i:(k:Int)<8:=by omega
   have hkv:k<V.length:=by rw[HV.out];exact h8
   have HS:=QH (qlI hkv (gS n));have HT:=QH (fun h=>quz (p:=gS n) hkv h);have e0:wr.cell? ⟨w.heap.size,k,none⟩=some (.int .i64 V[k]):=by rw[HB.out.cell k];exact uo _ _ _
   have l0:=HB.out.lt;generalize V[k]=x at *;clear hkv;by_cases hx:x=0
   ·subst hx;have kT:Hid ((V.take (k+1)).any (gS n)=false):=by unfold Hid;rw[HS.out,HA.out];rfl
    go_wp2_with fail;go_roundw;case rel=>exact⟨k+1,by omega,by go_num,kT.out,HB.out,HW.out⟩
    case measure=>simp[intOf];omega
   ·have hxb:(x != 0)=true:=by simpa using hx
    by_cases dh:x<193∨n≤x
    ·have hbp:gS n x=true:=by
        unfold gS;rw[decide_eq_true hx,Bool.true_and];rcases dh with h|h
        ·rw[decide_eq_true h,Bool.true_or]
        ·rw[decide_eq_true h,Bool.or_true]
     have hr:res=true:=by rw[← xj.out,HT.out hbp]
     subst hr;by_cases xu:x<193
     ·go_wp2_with fail;go_ret;exact⟨rfl,HW.out⟩
     ·have hge:n≤x:=by omega
      go_wp2_with fail;go_ret;exact⟨rfl,HW.out⟩
    ·have xu:¬ x<193:=fun h=>dh (.inl h);have hge:¬ n≤x:=fun h=>dh (.inr h);have kT:Hid ((V.take (k+1)).any (gS n)=false):=by
      unfold Hid;rw[HS.out,HA.out];unfold gS;rw[decide_eq_false xu,decide_eq_false hge,Bool.or_false,Bool.and_false,Bool.or_false]
     go_wp2_with fail;go_roundw;case rel=>exact⟨k+1,by omega,by go_num,kT.out,HB.out,HW.out⟩
     case measure=>simp[intOf];omega
  ·have h8i:¬ (k:Int)<8:=by omega
   have hr:res=false:=by
    have:=HA.out;rw[List.take_of_length_le (by rw[HV.out];omega),xj.out]at this;exact this
   subst hr;go_wp2_with fail;go_ret;exact⟨rfl,HW.out⟩
abbrev D1:=DataW Unit
def tF:Value→Option (D1 × List MemPlace)
 | .int k a=>some (.lit (.int k a),[])
 | _=>none
theorem qiK{x:Value}{a:Int}{ps:List MemPlace}(h:tF x=some (.lit (.int .i64 a),ps)):x=.int .i64 a:=by
 cases x <;> simp[tF]at h;obtain⟨⟨rfl,rfl⟩,_⟩:=h;rfl
def xx (w:World)(m s:Nat)(f:Int→Int):Prop :=
 ∃D:D1,w.ownsMap prog 3 tF m (Maps.size D) D∧(∀k:Int,D.atKey (.int .i64 k) (.lit (.int .i64 0))=.lit (.int .i64 (f k)))∧Maps.size D≤s
theorem qfm{w:World}{b n:Nat}{D:D1}{P:Program}{k:TypeId}{R:Value→Option (D1 × List MemPlace)}(h:w.ownsMap P k R b n D):w.ownsMap P k R b (Maps.size D) D:=by
 obtain⟨es,clock,hb,F,_,rfl⟩:=h;exact⟨es,clock,hb,F,by simp[Maps.size,length_sorted],rfl⟩
theorem xx.lt{w:World}{m s:Nat}{f:Int→Int}(h:xx w m s f):m<w.heap.size:=by
 obtain⟨D,h1,_⟩:=h;exact h1.lt
theorem xx.made(w:World):xx (w.alloc (.map #[] 0)) w.heap.size 0 (fun _=>0) :=
 ⟨.map [],World.ownsMap_made w prog 3 tF,fun _=>rfl,by simp[Maps.size]⟩
theorem xx.congr{w:World}{m s:Nat}{f g:Int→Int}(h:xx w m s f)(e:∀z,f z=g z):xx w m s g:=by
 obtain⟨D,h1,h2,h3⟩:=h;exact⟨D,h1,fun k=>by rw[h2,e],h3⟩
theorem xx.more{w:World}{m s s':Nat}{f:Int→Int}(h:xx w m s f)(e:s≤s'):xx w m s' f:=by
 obtain⟨D,h1,h2,h3⟩:=h;exact⟨D,h1,h2,Nat.le_trans h3 e⟩
abbrev qfn:Go.Maps.Keyed prog 3:=Go.Maps.int_keyed underlying3
theorem iwf(k:Int)(h:qD k):(Lit.int .i64 k).wf=true:=WalkArith.wf_i64 (by unfold qD at h;omega)
theorem xx.find{w:World}{m s:Nat}{f:Int→Int}(h:xx w m s f)(k:Int)(hk:qD k) :
    (Instr.lookup 316 (.map (some m)) (.int .i64 k) false).run prog w=.ok (.int .i64 (f k)) w:=by
 obtain⟨D,hown,ha,_⟩:=h;have hkey:=Go.Maps.keyOf_int_mk (P:=prog) (k:=3) underlying3 (iwf k hk);obtain⟨i0,hi,hz0,-,-⟩:=info_parts wN;have hz:(zeroValue 3).run prog w=.ok (.int .i64 0) w:=by simp[zeroValue,typeInfo,hi,hz0]
 obtain⟨v2,ps2,lN,hv2⟩:=hown.lookup qfn underlying316 hz (rfl:tF (.int .i64 0)=some (.lit (.int .i64 0),[])) hkey;rw[ha]at hv2;rw[qiK hv2]at lN;exact lN
theorem qqJ(k:Int):WideAt.IsKeyLit (Lit.int .i64 k):=trivial
theorem qqK{a b:Int}(h:a≠b):(Lit.int .i64 a)≠Lit.int .i64 b:=fun e=>h (by injection e)
theorem xx.store{w:World}{m s:Nat}{f:Int→Int}(h:xx w m s f)(k v:Int)(hk:qD k)(hs:s≤1000) :
    ∃w',(Instr.mapUpdate 316 (.map (some m)) (.int .i64 k) (.int .i64 v)).run prog w=.ok () w'∧xx w' m (s+1) (fun z=>if z=k then v else f z)∧w.mapTurned w' m:=by
 obtain⟨D,hown,ha,hc⟩:=h;have hkey:=Go.Maps.keyOf_int_mk (P:=prog) (k:=3) underlying3 (iwf k hk);have hti:=hown.tidy qfn;obtain⟨w',hrun,r1,r2⟩:=hown.store qfn underlying316 (by unfold maxLen;omega) hkey (rfl:tF (.int .i64 v)=some (.lit (.int .i64 v),[]));refine⟨w',hrun,⟨_,qfm r1,?_,?_⟩,r2⟩
 ·intro j;dsimp only;by_cases e:j=k
  ·subst e;rw[if_pos rfl];exact Maps.atKey_put_same hti.isMap (qqJ _) _ _
  ·rw[if_neg e,Maps.atKey_put_other (qqK e)];exact ha j
 ·rw[Maps.size_put hti];split <;> omega
theorem aM {ρ:Operand→Value}{o:Oper}{w:World}{b s:Nat}{f:Int→Int}(x y:Operand)(ho:o.op=.lookup 316 x y false)(hx:ρ x=.map (some b))(h:xx w b s f)
    (k:Int) (hy:ρ y=.int .i64 k) (hk:qD k):(execOp ρ o).run prog w=.ok (.value (.int .i64 (f k))) w:=by
 simp[execOp,ho,hx,hy,h.find k hk,Result.andThen]
theorem ve {ops:Array Oper}{rest:List Oper}{o:Oper}{a:Act}{w:World}{Q:Exit→Act→World→Prop}{b s:Nat}{f:Int→Int}(hg:o.guard=none)(x y z:Operand)(ho:o.op=.mapUpdate 316 x y z)(hx:a.eval x=.map (some b))(h:xx w b s f)
    (k v:Int) (hy:a.eval y=.int .i64 k) (hz:a.eval z=.int .i64 v) (hk:qD k) (hs:s≤1000)
    (hK:∀w',xx w' b (s+1) (fun z=>if z=k then v else f z)→w.mapTurned w' b→wpList prog ops Q rest (a.put o.dst undef) w'):wpList prog ops Q (o::rest) a w:=by
 refine wpList_plain hg fun K' hK'=>?_;obtain⟨w',hrun,r1,r2⟩:=h.store k v hk hs;unfold Oper.wp;simp[execOp,ho,hx,hy,hz,hrun,Result.andThen];exact hK' _ _ (hK w' r1 r2)
theorem eN {m:Nat}{w w' w2:World}(h:Below w.heap.size w w')(ht:w'.mapTurned w2 m)(hm:w.heap.size≤m):Below w.heap.size w w2 :=
 h.grown ht.grown h.size (fun k e=>by injection e with e;omega)
def qcA (V:List Int)(k:Nat)(z:Int):Bool:=(List.range k).any fun j=>decide (z=pl V j)
def hf (V:List Int)(k:Nat)(z:Int):Int:=if (decide (z≠0)&&qcA V k z)=true then 1 else 0
theorem nU (V:List Int)(k:Nat)(z:Int):qcA V (k+1) z=(qcA V k z || decide (z=pl V k)):=by
 unfold qcA;rw[List.range_succ,List.any_append,List.any_cons,List.any_nil,Bool.or_false]
theorem qqL(V:List Int)(z:Int):hf V 0 z=0:=by
 unfold hf qcA;simp
theorem qqM{V:List Int}{k:Nat}(h:pl V k=0)(z:Int):hf V k z=hf V (k+1) z:=by
 unfold hf;rw[nU,h];by_cases hz:z=0
 ·subst hz;rfl
 ·rw[decide_eq_false hz,Bool.or_false]
theorem quM{V:List Int}{k:Nat}(h:pl V k≠0)(z:Int):(if z=pl V k then 1 else hf V k z)=hf V (k+1) z:=by
 unfold hf;rw[nU];by_cases hz:z=pl V k
 ·rw[if_pos hz,decide_eq_true hz,Bool.or_true,Bool.and_true,decide_eq_true (by rw[hz];exact h),if_pos rfl]
 ·rw[if_neg hz,decide_eq_false hz,Bool.or_false]
theorem qyG{V:List Int}{k:Nat}(h:pl V k≠0):hf V k (pl V k)=if dw V k k=true then 1 else 0:=by
 unfold hf;rw[decide_eq_true h,Bool.true_and];rfl
theorem quN{V:List Int}{k m:Nat}(h:pl V k≠0)(hd:dw V k k=true)(hk:k<m):yz V m=true:=by
 unfold dw at hd;rw[List.any_eq_true]at hd;obtain⟨j,hj,he⟩:=hd;exact qeJ hk (List.mem_range.1 hj) h (of_decide_eq_true he)
def qm2 (V:List Int)(w:World)(i:Value)(wr:World):Prop :=
 ∃k:Nat,k≤8∧i=.int .i64 (k:Int)∧yz V k=false∧qf wr w.heap.size 276 (qh V)∧xx wr (w.heap.size+1) k (hf V k)∧Below w.heap.size w wr
theorem sr (V:List Int)(hv:V.length=8)(hz:∀z∈V,qD z)(w:World):Calls prog 210 #[.agg (qh V)] w (uC (yz V 8) w):=by
 obtain⟨res,hres⟩:=QE (yz V 8);rw[hres];have xj:=QH hres;have HV:=QH hv;have HZ:=QH hz;clear hv hres hz;have hsz:(w.alloc (.cells (qh V) 276)).heap.size=w.heap.size+1:=by simp
 have k0:qf ((w.alloc (.cells (qh V) 276)).alloc (.map #[] 0)) w.heap.size 276 (qh V):=(qf.new w 276 (qh V)).of_block (Below.heap_alloc _ _ _ (by rw[hsz];omega));have k1:xx ((w.alloc (.cells (qh V) 276)).alloc (.map #[] 0)) (w.heap.size+1) 0 (hf V 0):=by
  have:=xx.made (w.alloc (.cells (qh V) 276));rw[hsz]at this;exact this.congr fun z=>(qqL V z).symm
 have b0:Below w.heap.size w ((w.alloc (.cells (qh V) 276)).alloc (.map #[] 0)):=((Below.refl w.heap.size w).alloc (Nat.le_refl _) _).alloc (by simp) _;have K0:=QH k0;have K1:=QH k1;have B0:=QH b0;clear hsz k0 k1 b0;have hmm:=@run_makeMap prog;go_enter func210,ntmps210;go_wp2_with fail;go_loopw [7] (fun i wr=>qm2 V w i wr) (fun i _=>8-(intOf i).toNat);case atStart=>exact⟨0,by omega,rfl,rfl,K0.out,K1.out,B0.out⟩
 case round =>
  clear K0 K1 B0;obtain⟨k,hk,rfl,ha,hb,hh,hw⟩:=hrel;have HA:=QH ha;have HB:=QH hb;have HH:=QH hh;have HW:=QH hw;clear ha hb hh hw;by_cases h8:k<8
  ·have h8i:(k:Int)<8:=by omega
   have hkv:k<V.length:=by rw[HV.out];exact h8
   have eO:pl V k=V[k]:=eu hkv;have e0:wr.cell? ⟨w.heap.size,k,none⟩=some (.int .i64 V[k]):=by rw[HB.out.cell k];exact uo _ _ _
   have HX:Hid (qD V[k]):=HZ.out _ (List.getElem_mem hkv);have l0:=HB.out.lt;have HP:=QH eO;clear eO;generalize V[k]=x at *;clear hkv;by_cases hx:x=0
   ·subst hx;have kT:Hid (yz V (k+1)=false):=by unfold Hid;rw[bS,HA.out,HP.out];rfl
    have HN:Hid (xx wr (w.heap.size+1) (k+1) (hf V (k+1))):=(HH.out.congr (qqM HP.out)).more (Nat.le_succ _);go_wp2_with fail;go_roundw;case rel=>exact⟨k+1,by omega,by go_num,kT.out,HB.out,HN.out,HW.out⟩
    case measure=>simp[intOf];omega
   ·have hxb:(x == 0)=false:=by simpa using hx
    have hpn:pl V k≠0:=by rw[HP.out];exact hx
    have HI:=QH (qyG hpn);by_cases hd:dw V k k=true
    ·have hr:res=true:=by rw[← xj.out,quN hpn hd h8]
     subst hr;have hf1:hf V k x=1:=by rw[← HP.out,HI.out,if_pos hd]
     have HF:=QH hf1;clear hf1 hd hpn;go_wp2_with (first|(at_lookup;refine qi rfl (aM _ _ rfl rfl HH.out x rfl HX.out) ?_;rw[HF.out])|(refine ve rfl (.tmp 15) (.tmp 16) (.tmp 18) rfl rfl HH.out x 2 rfl rfl HX.out (by omega) ?_;intro W hW hT;have su:=QH hW;have HT1:=QH hT;clear hW hT)|(at_lookup;refine qi rfl (aM _ _ rfl rfl su.out x rfl HX.out) ?_;rw[if_pos rfl]));go_ret;exact⟨rfl,eN HW.out HT1.out (Nat.le_succ _)⟩
    ·have hf1:hf V k x=0:=by rw[← HP.out,HI.out,if_neg hd]
     have HF:=QH hf1;have kT:Hid (yz V (k+1)=false):=by
      unfold Hid;rw[bS,HA.out,Bool.not_eq_true _ |>.mp hd,Bool.and_false,Bool.or_false]
     have HN:=QH (quM hpn);rw[HP.out]at HN;clear hf1 hd hpn;go_wp2_with (first|(at_lookup;refine qi rfl (aM _ _ rfl rfl HH.out x rfl HX.out) ?_;rw[HF.out])|(refine ve rfl (.tmp 15) (.tmp 16) (.tmp 18) rfl rfl HH.out x 1 rfl rfl HX.out (by omega) ?_;intro W hW hT;have su:=QH hW;have HT1:=QH hT;clear hW hT)|(at_lookup;refine qi rfl (aM _ _ rfl rfl su.out x rfl HX.out) ?_;rw[if_pos rfl]));go_roundw;case rel=>exact⟨k+1,by omega,by go_num,kT.out,HB.out.of_block (HT1.out.grown.block _ HB.out.lt (by simp)),su.out.congr HN.out,eN HW.out HT1.out (Nat.le_succ _)⟩
     case measure=>simp[intOf];omega
  ·have h8i:¬ (k:Int)<8:=by omega
   have hr:res=false:=by
    have:=HA.out;rw[show k=8 by omega,xj.out]at this;exact this
   subst hr;go_wp2_with fail;go_ret;exact⟨rfl,HW.out⟩
theorem qm3(l:List Int)(h:l.length≤8)(j:Nat):pl (eL l 0) j=pl l j:=by
 by_cases hj:j<8
 ·rw[eu (by rw[aK];exact hj),n9,Nat.zero_add]
 ·rw[iq (by rw[aK];omega),iq (by omega)]
theorem qqN(l:List Int)(h:l.length≤8)(n:Int):(eL l 0).any (gS n)=l.any (gS n):=by
 rw[Bool.eq_iff_iff,List.any_eq_true,List.any_eq_true];constructor
 ·rintro⟨z,hz,hb⟩;obtain⟨i,hi,rfl⟩:=List.getElem_of_mem hz;rw[n9,Nat.zero_add]at hb;by_cases hl:i<l.length
  ·rw[eu hl]at hb;exact⟨_,List.getElem_mem hl,hb⟩
  ·rw[iq (by omega)]at hb;cases hb
 ·rintro⟨z,hz,hb⟩;obtain⟨i,hi,rfl⟩:=List.getElem_of_mem hz;have h8:i<(eL l 0).length:=by rw[aK];omega
  refine⟨_,List.getElem_mem h8,?_⟩;rw[n9,Nat.zero_add,eu hi];exact hb
theorem qqO(l:List Int)(h:l.length≤8):yz (eL l 0) 8=yz l l.length:=by
 have e:∀i k,dw (eL l 0) i k=dw l i k:=by
  intro i k;unfold dw;simp only[qm3 l h]
 have e2:∀k,yz (eL l 0) k=yz l k:=by
  intro k;unfold yz;simp only[qm3 l h,e]
 rw[e2];have e3:∀m,yz l (l.length+m)=yz l l.length:=by
  intro m
  induction m with
  | zero=>rfl
  | succ m ih =>
   rw[← Nat.add_assoc,bS,ih,iq (by omega)];simp
 have:=e3 (8-l.length);rw[show l.length+(8-l.length)=8 by omega]at this;exact this
theorem qqP{w W:World}(hb:Below w.heap.size w W)(V:List Int)(hv:V.length=8) :
    qf (W.alloc (.cells #[.int .i64 0,.int .i64 0,.int .i64 0,.int .i64 0,.int .i64 0,.int .i64 0,.int .i64 0,.int .i64 0] 276)) W.heap.size 276 (qh (List.replicate 8 0)) ∧
    (W.alloc (.cells #[.int .i64 0,.int .i64 0,.int .i64 0,.int .i64 0,.int .i64 0,.int .i64 0,.int .i64 0,.int .i64 0] 276)).setRow W.heap.size (qh V)=W.alloc (.cells (qh V) 276) ∧
    qf (W.alloc (.cells (qh V) 276)) W.heap.size 276 (qh V)∧Below w.heap.size w (W.alloc (.cells (qh V) 276)) :=
 ⟨qf.new _ _ _,World.setRow_alloc_new _ _ _ _,qf.new _ _ _,hb.alloc hb.size _⟩
theorem bX (A:Option Addr)(c:Nat)(l:List Int)(b n:Int)(w:World)(hs:js w A l c)(hl:l.length≤1000)(hb:qD b)(hn:qD n) :
    Calls prog 126 #[.slice A l.length c,.int .i64 b,.int .i64 n] w (bV (zH l b n) w):=by
 have HP:=QH hs.ints;have HM:=QH hs.ints.mem;obtain⟨res,hres⟩:=QE (zH l b n);rw[hres];unfold zH at hres;clear hs;by_cases h0:b<1
 ·rw[if_pos (.inl h0)]at hres;subst hres;go_enter func126,ntmps126;go_wp2_with fail;go_ret;exact⟨rfl,Below.refl _ _⟩
 by_cases h1:8<b
 ·rw[if_pos (.inr (.inl h1))]at hres;subst hres;go_enter func126,ntmps126;go_wp2_with fail;go_ret;exact⟨rfl,Below.refl _ _⟩
 by_cases h2:(l.length:Int)=b
 ·rw[if_neg (by omega)]at hres;have hlb:((l.length:Int) != b)=false:=by rw[h2];simp
  have h8:l.length≤8:=by omega
  rw[← qqN l h8 n,← qqO l h8]at hres;have xj:=QH hres;have HV:=QH (aK l 0);have HB:=QH (qiJ HM.out 0);have HC:=QH (qaO A c l 0 w HP.out hl (by omega));obtain⟨V,hV⟩:=QE (eL l 0);rw[hV]at xj HV HB HC;clear hres h2 hV;go_enter func126,ntmps126;go_wp2_with fail;refine HC.out.mono ?_;rintro e W ⟨rfl,hw⟩;obtain⟨k0,k1,k2,k3⟩:=qqP hw V HV.out;have K0:=QH k0;have K1:=QH k1;have K2:=QH k2;have K3:=QH k3;clear k0 k1 k2 k3 hw;go_wp2_with (first|(refine wpList_skip rfl (dJ (.tmp 7) (.tmp 21) rfl rfl rfl K0.out (by decide) HV.out) ?_;rw[K1.out])|(refine qi rfl (vK (.tmp 7) rfl rfl K2.out HV.out) ?_));obtain⟨W2,hW2⟩:=QE (W.alloc (.cells (qh V) 276));rw[hW2]at K2 K3 ⊢;refine(qaP V HV.out n W2).mono ?_;rintro e W3 ⟨rfl,hb3⟩;have zv:=QH (qa K3.out hb3);have K4:=QH (K2.out.below hb3);clear hb3;cases dh:V.any (gS n)
  ·have hres:=xj.out;rw[dh,if_neg (by decide)]at hres;have tG:=QH hres;clear hres dh hW2;go_wp2_with (refine qi rfl (vK (.tmp 7) rfl rfl K4.out HV.out) ?_);refine(sr V HV.out HB.out W3).mono ?_;rintro e W4 ⟨rfl,hb4⟩;have zx:=QH (qa zv.out hb4);clear hb4;cases hd:yz V 8
   ·have hres:=tG.out;rw[hd,if_neg (by decide)]at hres;subst hres;clear hd;go_wp2_with fail;go_ret;exact⟨rfl,zx.out⟩
   ·have hres:=tG.out;rw[hd,if_pos rfl]at hres;subst hres;clear hd;go_wp2_with fail;go_ret;exact⟨rfl,zx.out⟩
  ·have hres:=xj.out;rw[dh,if_pos rfl]at hres;subst hres;clear dh hW2;go_wp2_with fail;go_ret;exact⟨rfl,zv.out⟩
 ·rw[if_pos (.inr (.inr h2))]at hres;subst hres;have hlb:((l.length:Int) != b)=true:=by simpa using h2
  clear h2;go_enter func126,ntmps126;go_wp2_with fail;go_ret;exact⟨rfl,Below.refl _ _⟩
end Go.Proofs.YtdpbdkacngaemaaGreatDoor.im
namespace Go.Proofs.YtdpbdkacngaemaaGreatDoor.mt.pg
open _root_.Go.Proofs.Tryz Go Go.RowKit ib wi im mt
def snC (x:Sp)(A:Option Addr)(c:Nat):Array Value:=#[.int .u64 (x.g.1:Int),.int .u64 (x.g.2:Int),.slice A x.qp.length c,.bool x.hid]
def dm (x:Tk)(A:Option Addr)(c:Nat):Array Value:=#[.int .u64 (x.base.1:Int),.int .u64 (x.base.2:Int),.int .u64 (x.target.1:Int),.int .u64 (x.target.2:Int),.int .i64 x.next,.int .i64 x.all,.slice A x.qp.length c]
theorem qyI(x y:Tk):x=y↔x.base=y.base∧x.target=y.target∧x.next=y.next∧x.all=y.all∧x.qp=y.qp:=by cases x;cases y;simp
theorem lO {x y:Gd}(h:x≠y):(¬ x.1=y.1)∨(x.1=y.1∧¬ x.2=y.2):=by
 by_cases e1:x.1=y.1
 ·exact .inr ⟨e1,fun e2=>h (Prod.ext e1 e2)⟩
 ·exact .inl e1
theorem qiL(w:World)(t:TypeId)(X Y:Array Value)(W:World)(hW:(w.alloc (.cells X t)).alloc (.cells Y t)=W):qf W w.heap.size t X∧qf W (w.heap.size+1) t Y∧Below w.heap.size w W:=by
 subst hW;have h1:=(Below.refl _ w).alloc (Nat.le_refl _) (.cells X t);have h2:=(Below.refl _ (w.alloc (.cells X t))).alloc (Nat.le_refl _) (.cells Y t);have h3:=qf.new (w.alloc (.cells X t)) t Y;rw[show(w.alloc (.cells X t)).heap.size=w.heap.size+1 from by simp]at h3;exact⟨(qf.new w t X).below h2,h3,qa h1 h2⟩
theorem sw (x y:Tk)(A B:Option Addr)(c d:Nat)(w:World)(hx:js w A x.qp c)(hy:js w B y.qp d)(hl:x.qp.length≤1000) :
    Calls prog 259 #[.agg (dm x A c),.agg (dm y B d)] w (uC (decide (x=y)) w):=by
 obtain⟨W,hW⟩:=QE ((w.alloc (.cells (dm x A c) 82)).alloc (.cells (dm y B d) 82));have htw:=qiL w 82 (dm x A c) (dm y B d) W hW;obtain⟨hA,hB,hb⟩:=htw;have HXI:=QH (hx.below hb);have HYI:=QH (hy.below hb);have HB:=QH hb;have HL:=QH hl;clear hx hy hl hb;have x0:=hA.cell 0;have x1:=hA.cell 1;have x2:=hA.cell 2;have x3:=hA.cell 3;have x4:=hA.cell 4;have x5:=hA.cell 5;have x6:=hA.cell 6;have y0:=hB.cell 0;have y1:=hB.cell 1;have y2:=hB.cell 2;have y3:=hB.cell 3;have y4:=hB.cell 4;have y5:=hB.cell 5;have y6:=hB.cell 6;have bn:=hA.lt;have hlb:=hB.lt;clear hA hB;unfold dm at hW ⊢;simp only[dm,QA,QB,QC]at x0 x1 x2 x3 x4 x5 x6 y0 y1 y2 y3 y4 y5 y6;obtain⟨res,hres⟩:=QE (decide (x=y));rw[hres];have jH:Hid (res=true↔x.base=y.base∧x.target=y.target∧x.next=y.next∧x.all=y.all∧x.qp=y.qp):=by unfold Hid;rw[← hres,decide_eq_true_iff,qyI]
 have jT:Hid (¬ (x.base=y.base∧x.target=y.target∧x.next=y.next∧x.all=y.all∧x.qp=y.qp)→res=false):=fun hn=>by
  cases hr:res with
  | false=>rfl
  | true=>exact absurd (jH.out.1 hr) hn
 clear hres;go_enter func259,ntmps259;go_upto_region 1 with fail;try rw[hW]
 clear hW;by_cases hg:x.base=y.base
 case' neg =>
  have hr:=jT.out (fun e=>hg e.1);have HR:=QH hr;have hgn:=lO hg;clear hr hg;rcases hgn with hgn|⟨hgn,qyJ⟩
  ·go_wp2_with fail;go_ret;exact⟨by rw[HR.out];rfl,HB.out⟩
  ·go_wp2_with fail;go_ret;exact⟨by rw[HR.out];rfl,HB.out⟩
 rw[← hg]at y0 y1;have HG0:=QH hg;clear hg;by_cases hg:x.target=y.target
 case' neg =>
  have hr:=jT.out (fun e=>hg e.2.1);have HR:=QH hr;have hgn:=lO hg;clear hr hg;rcases hgn with hgn|⟨hgn,qyJ⟩
  ·go_wp2_with fail;go_ret;exact⟨by rw[HR.out];rfl,HB.out⟩
  ·go_wp2_with fail;go_ret;exact⟨by rw[HR.out];rfl,HB.out⟩
 rw[← hg]at y2 y3;have HG2:=QH hg;clear hg;by_cases hg:x.next=y.next
 case' neg =>
  have hr:=jT.out (fun e=>hg e.2.2.1);have HR:=QH hr;clear hr;go_wp2_with fail;go_ret;exact⟨by rw[HR.out];rfl,HB.out⟩
 rw[← hg]at y4;have HG4:=QH hg;clear hg;by_cases hg:x.all=y.all
 case' neg =>
  have hr:=jT.out (fun e=>hg e.2.2.2.1);have HR:=QH hr;clear hr;go_wp2_with fail;go_ret;exact⟨by rw[HR.out];rfl,HB.out⟩
 rw[← hg]at y5;have HG5:=QH hg;clear hg;go_wp2_with fail;refine(aI A B c d x.qp y.qp W HXI.out.ints HYI.out.ints (by have:=HL.out;omega)).mono ?_;rintro e W9 ⟨rfl,hb9⟩;have HB9:=QH (qa HB.out hb9);have hr:decide (x.qp=y.qp)=res:=by
  cases hr:res with
  | true=>exact decide_eq_true (jH.out.1 hr).2.2.2.2
  | false =>
   rw[decide_eq_false_iff_not];intro h;rw[jH.out.2 ⟨HG0.out,HG2.out,HG4.out,HG5.out,h⟩]at hr;cases hr
 rw[hr];clear hr hb9;go_wp2_with fail;go_ret;exact⟨rfl,HB9.out⟩
structure Env(w:World)(kb rb c b:Nat):Prop where
 k:qf w kb 3 #[.int .i64 (b:Int)]
 r:qf w rb 198 #[ptr c]
theorem Env.rd{w w':World}{kb rb c b:Nat}{s:St}(h:Env w kb rb c b)(hp:∃y,qf w c 274 y)(hr:Rd w c s w'):Env w' kb rb c b:=⟨hr.blk h.k hp (by decide),hr.blk h.r hp (by decide)⟩
theorem Env.below{w w':World}{kb rb c b:Nat}(h:Env w kb rb c b)(hb:Below w.heap.size w w'):Env w' kb rb c b:=⟨h.k.below hb,h.r.below hb⟩
theorem Rd.env{w0 w:World}{kb rb c b:Nat}{s0 s:St}(h:Rd w0 c s w)(hp:PS w0 c s0)(he:Env w0 kb rb c b):Env w kb rb c b:=he.rd hp.blk h
theorem qm4{w:World}{B g:Nat}{zs:List Int}(h:qf w g 3 (qh zs))(hg:B≤g)(hl:zs.length≤1000):zg w B (.slice (some ⟨g,0,none⟩) zs.length zs.length) zs:=by
 refine⟨by simp,.inr ⟨g,zs.length,qh zs,rfl,hg,h,Nat.le_refl _,by unfold maxLen;omega,by rw[kH,Nat.mul_one],?_⟩⟩;rw[Nat.mul_one];unfold qh;rw[List.take_of_length_le (by simp)]
abbrev plF (kb rb:Nat):Value:=.func (.func 201) #[] #[ptr kb,ptr rb]
def tkZ:Array Value:=#[.int .u64 0,.int .u64 0,.int .u64 0,.int .u64 0,.int .i64 0,.int .i64 0,.slice none 0 0]
def qyN (b c:Nat)(s:St)(w:World)(e:Ending)(w':World):Prop:=∃g,e=.returned (.agg (dm (sg b s).1 (some ⟨g,0,none⟩) b))∧w.heap.size≤g∧qf w' g 3 (qh (sg b s).1.qp)∧Rd w c (sg b s).2 w'
theorem iB {w:World}{kb rb c b:Nat}{s:St}(hb:b≤100)(h:PS w c s)(he:Env w kb rb c b):Calls prog 207 #[ptr c,plF kb rb] w (qyN b c s w):=by
 have HP0:=QH h;have HE0:=QH he;have hb1:=(Below.refl w.heap.size w).alloc (Nat.le_refl _) (.cells tkZ 82);have hr1:Rd w c s (w.alloc (.cells tkZ 82)):=⟨qz.of_below hb1,h.below hb1⟩;have ha1:=qf.new w 82 tkZ;obtain⟨W1,hW1⟩:=QE (w.alloc (.cells tkZ 82));rw[hW1]at hr1 ha1 hb1;have hb2:=(Below.refl W1.heap.size W1).alloc (Nat.le_refl _) (.cells tkZ 82);have hr2:=hr1.new hb2;have ha2:=qf.new W1 82 tkZ;obtain⟨W2,hW2⟩:=QE (W1.alloc (.cells tkZ 82));rw[hW2]at hr2 ha2 hb2;have jM:=QH hr2;have wb:=QH (ha1.below hb2);have HT2:=QH ha2;have nV:Hid (w.heap.size<W1.heap.size):=ha1.lt;obtain⟨gt,hgt⟩:=QE W1.heap.size;rw[hgt]at HT2 nV;clear h he hb1 hr1 ha1 hb2 hr2 ha2;unfold tkZ at hW1 hW2;go_enter func207,ntmps207;go_upto_region 2 with fail;try rw[hW1]
 try rw[hW2]
 try rw[hgt]
 clear hW1 hW2 hgt;go_wp2_with fail;refine(xp jM.out.ps).mono ?_;rintro e W3 ⟨rfl,hq⟩;have iC:=QH (jM.out.trans hq);have lL:=QH (hq.blk wb.out jM.out.ps.blk (by decide));have nW:=QH (hq.blk HT2.out jM.out.ps.blk (by decide));clear hq jM wb HT2;obtain⟨x,hx⟩:=QE ((kS s).1);rw[hx];have HX:=QH hx;obtain⟨s1,hs1⟩:=QE ((kS s).2);rw[hs1]at iC;have bY:=QH hs1;clear hx hs1;unfold gv;have q0:=nW.out.cell 0;have q1:=nW.out.cell 1;simp only[tkZ,QA,QB,QC]at q0 q1;have f0:=nW.out.frozen 0;have f1:=nW.out.frozen 1;have hlt:=nW.out.lt;have hgn:Hid (w.heap.size≤gt):=Nat.le_of_lt nV.out;have ht4:=nW.out.qg 0 (.int .u64 (x.1:Int));have hr4:=iC.out.set nW.out hgn.out (by decide) (by decide) 0 (.int .u64 (x.1:Int));have ht5:=ht4.qg 1 (.int .u64 (x.2:Int));have aN:=hr4.set ht4 hgn.out (by decide) (by decide) 1 (.int .u64 (x.2:Int));have HA5:=QH ((lL.out.of_block (qw W3 gt 0 (.int .u64 (x.1:Int)) w.heap.size (by have:=nV.out;omega))).of_block (qw (W3.setCell ⟨gt,0,none⟩ (.int .u64 (x.1:Int))) gt 1 (.int .u64 (x.2:Int)) w.heap.size (by have:=nV.out;omega)));have yo:=QH ht5;have uU:=QH aN;obtain⟨W5,ic⟩:=QE ((W3.setCell ⟨gt,0,none⟩ (.int .u64 (x.1:Int))).setCell ⟨gt,1,none⟩ (.int .u64 (x.2:Int)));rw[ic]at HA5 yo uU;clear ht4 hr4 ht5 aN iC nW lL;go_upto_region 3 with fail;try rw[ic]
 clear ic q0 q1 f0 f1 hlt;go_wp2_with fail;refine(xp uU.out.ps).mono ?_;rintro e W6 ⟨rfl,hq⟩;have HR6:=QH (uU.out.trans hq);have HA6:=QH (hq.blk HA5.out uU.out.ps.blk (by decide));have iD:=QH (hq.blk yo.out uU.out.ps.blk (by decide));clear hq uU HA5 yo;obtain⟨y,hy⟩:=QE ((kS s1).1);rw[hy];have HY:=QH hy;obtain⟨s2,hs2⟩:=QE ((kS s1).2);rw[hs2]at HR6;have kT:=QH hs2;clear hy hs2;unfold gv;have q2:=iD.out.cell 2;have q3:=iD.out.cell 3;simp[tkZ]at q2 q3;have f2:=iD.out.frozen 2;have f3:=iD.out.frozen 3;have hlt:=iD.out.lt;have ht7:=iD.out.qg 2 (.int .u64 (y.1:Int));have hr7:=HR6.out.set iD.out hgn.out (by decide) (by decide) 2 (.int .u64 (y.1:Int));have ht8:=ht7.qg 3 (.int .u64 (y.2:Int));have hr8:=hr7.set ht7 hgn.out (by decide) (by decide) 3 (.int .u64 (y.2:Int));have HA8:=QH ((HA6.out.of_block (qw W6 gt 2 (.int .u64 (y.1:Int)) w.heap.size (by have:=nV.out;omega))).of_block (qw (W6.setCell ⟨gt,2,none⟩ (.int .u64 (y.1:Int))) gt 3 (.int .u64 (y.2:Int)) w.heap.size (by have:=nV.out;omega)));have HT8:=QH ht8;have HR8:=QH hr8;obtain⟨W8,rR⟩:=QE ((W6.setCell ⟨gt,2,none⟩ (.int .u64 (y.1:Int))).setCell ⟨gt,3,none⟩ (.int .u64 (y.2:Int)));rw[rR]at HA8 HT8 HR8;clear ht7 hr7 ht8 hr8 HR6 iD HA6;go_upto_region 4 with fail;try rw[rR]
 clear rR q2 q3 f2 f3 hlt;go_wp2_with fail;refine(dG HR8.out.ps 8 8 rfl (by omega)).mono ?_;rintro e W9 ⟨rfl,hq⟩;have HR9:=QH (HR8.out.trans hq);have HA9:=QH (hq.blk HA8.out HR8.out.ps.blk (by decide));have HT9:=QH (hq.blk HT8.out HR8.out.ps.blk (by decide));clear hq HR8 HA8 HT8;obtain⟨nx,hnx⟩:=QE ((kP 8 s2).1);rw[hnx];have kU:=QH hnx;obtain⟨s3,hs3⟩:=QE ((kP 8 s2).2);rw[hs3]at HR9;have na:=QH hs3;clear hnx hs3;have q4:=HT9.out.cell 4;simp[tkZ]at q4;have f4:=HT9.out.frozen 4;have hlt:=HT9.out.lt;have sx:=QH (HT9.out.qg 4 (.int .i64 (nx:Int)));have qiN:=QH (HR9.out.set HT9.out hgn.out (by decide) (by decide) 4 (.int .i64 (nx:Int)));have quQ:=QH (HA9.out.of_block (qw W9 gt 4 (.int .i64 (nx:Int)) w.heap.size (by have:=nV.out;omega)));obtain⟨W10,quR⟩:=QE (W9.setCell ⟨gt,4,none⟩ (.int .i64 (nx:Int)));rw[quR]at quQ sx qiN;clear HR9 HT9 HA9;go_upto_region 5 with fail;try rw[quR]
 clear quR q4 f4 hlt;go_wp2_with fail;refine(dG qiN.out.ps 8 8 rfl (by omega)).mono ?_;rintro e W11 ⟨rfl,hq⟩;have quS:=QH (qiN.out.trans hq);have qyQ:=QH (hq.blk quQ.out qiN.out.ps.blk (by decide));have iE:=QH (hq.blk sx.out qiN.out.ps.blk (by decide));clear hq qiN quQ sx;obtain⟨al,lQ⟩:=QE ((kP 8 s3).1);rw[lQ];have bZ:=QH lQ;obtain⟨s4,hs4⟩:=QE ((kP 8 s3).2);rw[hs4]at quS;have nb:=QH hs4;clear lQ hs4;have q5:=iE.out.cell 5;simp[tkZ]at q5;have f5:=iE.out.frozen 5;have hlt:=iE.out.lt;have vL:=QH (iE.out.qg 5 (.int .i64 (al:Int)));have qfo:=QH (quS.out.set iE.out hgn.out (by decide) (by decide) 5 (.int .i64 (al:Int)));have quT:=QH (qyQ.out.of_block (qw W11 gt 5 (.int .i64 (al:Int)) w.heap.size (by have:=nV.out;omega)));obtain⟨W12,quU⟩:=QE (W11.setCell ⟨gt,5,none⟩ (.int .i64 (al:Int)));rw[quU]at quT vL qfo;clear quS iE qyQ;go_upto_region 6 with fail;try rw[quU]
 clear quU q5 f5 hlt;have qyR:=QH (qfo.out.env HP0.out HE0.out);go_wp2_with fail;refine(uG hb qfo.out.ps qyR.out.k qyR.out.r).mono ?_;rintro e W13 ⟨g,rfl,hg,bW,hq⟩;have qm7:=QH (qfo.out.trans hq);have qm8:=QH (hq.blk quT.out qfo.out.ps.blk (by decide));have ue:=QH (hq.blk vL.out qfo.out.ps.blk (by decide));have HGL:Hid (gt<g):=Nat.lt_of_lt_of_le vL.out.lt hg;have qm9:=QH bW;clear hq qfo quT vL hg bW;have q6:=ue.out.cell 6;simp[tkZ]at q6;have f6:=ue.out.frozen 6;have hlt:=ue.out.lt;have qfp:=ue.out.qg 6 (.slice (some ⟨g,0,none⟩) b b);simp only[tkZ,List.setIfInBounds_toArray,List.set_cons_succ,List.set_cons_zero]at qfp;have dn:=QH qfp;have qfq:=QH (qm7.out.set ue.out hgn.out (by decide) (by decide) 6 (.slice (some ⟨g,0,none⟩) b b));have jc:=QH (qm8.out.of_block (qw W13 gt 6 (.slice (some ⟨g,0,none⟩) b b) w.heap.size (by have:=nV.out;omega)));have qfr:=QH (qm9.out.of_block (qw W13 gt 6 (.slice (some ⟨g,0,none⟩) b b) g (by have:=HGL.out;omega)));obtain⟨W14,mG⟩:=QE (W13.setCell ⟨gt,6,none⟩ (.slice (some ⟨g,0,none⟩) b b));rw[mG]at jc dn qfq qfr;clear qm7 ue qm8 qm9 qfp;go_upto_region 7 with fail;try rw[mG]
 clear mG q6 f6 hlt;have t0:=dn.out.cell 0;have t1:=dn.out.cell 1;have t2:=dn.out.cell 2;have t3:=dn.out.cell 3;have t4:=dn.out.cell 4;have t5:=dn.out.cell 5;have t6:=dn.out.cell 6;have a0:=jc.out.cell 0;have a1:=jc.out.cell 1;have a2:=jc.out.cell 2;have a3:=jc.out.cell 3;have a4:=jc.out.cell 4;have a5:=jc.out.cell 5;have a6:=jc.out.cell 6;simp only[tkZ,QA,QB,QC]at t0 t1 t2 t3 t4 t5 t6 a0 a1 a2 a3 a4 a5 a6;have f0:=jc.out.frozen 0;have f1:=jc.out.frozen 1;have f2:=jc.out.frozen 2;have f3:=jc.out.frozen 3;have f4:=jc.out.frozen 4;have f5:=jc.out.frozen 5;have f6:=jc.out.frozen 6;have hlt:=dn.out.lt;have bn:=jc.out.lt;have u1:=jc.out.qg 0 (.int .u64 (x.1:Int));have r1:=qfq.out.set jc.out (Nat.le_refl _) (by decide) (by decide) 0 (.int .u64 (x.1:Int));have u2:=u1.qg 1 (.int .u64 (x.2:Int));have r2:=r1.set u1 (Nat.le_refl _) (by decide) (by decide) 1 (.int .u64 (x.2:Int));have u3:=u2.qg 2 (.int .u64 (y.1:Int));have r3:=r2.set u2 (Nat.le_refl _) (by decide) (by decide) 2 (.int .u64 (y.1:Int));have u4:=u3.qg 3 (.int .u64 (y.2:Int));have r4:=r3.set u3 (Nat.le_refl _) (by decide) (by decide) 3 (.int .u64 (y.2:Int));have u5:=u4.qg 4 (.int .i64 (nx:Int));have r5:=r4.set u4 (Nat.le_refl _) (by decide) (by decide) 4 (.int .i64 (nx:Int));have u6:=u5.qg 5 (.int .i64 (al:Int));have r6:=r5.set u5 (Nat.le_refl _) (by decide) (by decide) 5 (.int .i64 (al:Int));have u7:=u6.qg 6 (.slice (some ⟨g,0,none⟩) b b);have r7:=r6.set u6 (Nat.le_refl _) (by decide) (by decide) 6 (.slice (some ⟨g,0,none⟩) b b);simp only[tkZ,List.setIfInBounds_toArray,List.set_cons_succ,List.set_cons_zero]at u7;have HU7:=QH u7;have HR7:=QH r7;have oth:∀(k:Nat) (v:Value) (W:World),qf W g 3 (qh (gV b s4).1)→qf (W.setCell ⟨w.heap.size,k,none⟩ v) g 3 (qh (gV b s4).1):=fun k v W h=>h.of_block (qw W w.heap.size k v g (by have:=HGL.out;have:=nV.out;omega));have qmA:=QH (oth 6 (.slice (some ⟨g,0,none⟩) b b) _ (oth 5 (.int .i64 (al:Int)) _ (oth 4 (.int .i64 (nx:Int)) _ (oth 3 (.int .u64 (y.2:Int)) _ (oth 2 (.int .u64 (y.1:Int)) _ (oth 1 (.int .u64 (x.2:Int)) _ (oth 0 (.int .u64 (x.1:Int)) _ qfr.out)))))));obtain⟨W15,qmB⟩:=QE (((((((W14.setCell ⟨w.heap.size,0,none⟩ (.int .u64 (x.1:Int))).setCell ⟨w.heap.size,1,none⟩ (.int .u64 (x.2:Int))).setCell ⟨w.heap.size,2,none⟩ (.int .u64 (y.1:Int))).setCell ⟨w.heap.size,3,none⟩ (.int .u64 (y.2:Int))).setCell ⟨w.heap.size,4,none⟩ (.int .i64 (nx:Int))).setCell ⟨w.heap.size,5,none⟩ (.int .i64 (al:Int))).setCell ⟨w.heap.size,6,none⟩ (.slice (some ⟨g,0,none⟩) b b));rw[qmB]at HU7 HR7 qmA;clear u1 u2 u3 u4 u5 u6 u7 r1 r2 r3 r4 r5 r6 r7 oth jc dn qfq qfr;go_wp2_with fail;try rw[qmB]
 have q0:=HU7.out.cell 0;have q1:=HU7.out.cell 1;have q2:=HU7.out.cell 2;have q3:=HU7.out.cell 3;have q4:=HU7.out.cell 4;have q5:=HU7.out.cell 5;have q6:=HU7.out.cell 6;simp only[QA,QB,QC]at q0 q1 q2 q3 q4 q5 q6;have HEQ:Hid (dm (sg b s).1 (some ⟨g,0,none⟩) b = #[.int .u64 (x.1:Int),.int .u64 (x.2:Int),.int .u64 (y.1:Int),.int .u64 (y.2:Int),.int .i64 (nx:Int),.int .i64 (al:Int),.slice (some ⟨g,0,none⟩) b b]∧(sg b s).1.qp=(gV b s4).1∧(sg b s).2=(gV b s4).2):=by
  unfold Hid sg dm;dsimp only;rw[HX.out,bY.out,HY.out,kT.out,kU.out,na.out,bZ.out,nb.out,ud];exact⟨rfl,rfl,rfl⟩
 refine bodyPost_ret (v:=.agg #[.int .u64 (x.1:Int),.int .u64 (x.2:Int),.int .u64 (y.1:Int),.int .u64 (y.2:Int),.int .i64 (nx:Int),.int .i64 (al:Int),.slice (some ⟨g,0,none⟩) b b]) (by simp[results,results207,go_sem,q0,q1,q2,q3,q4,q5,q6]) rfl ?_;refine⟨g,by rw[HEQ.out.1],by have:=HGL.out;have:=nV.out;omega,?_,?_⟩
 ·rw[HEQ.out.2.1];exact qmA.out
 ·rw[HEQ.out.2.2];exact HR7.out
def snZ:Array Value:=#[.int .u64 0,.int .u64 0,.slice none 0 0,.bool false]
structure iF(w:World)(kb rb pb c b:Nat):Prop where
 e:Env w kb rb c b
 p:qf w pb 211 #[plF kb rb]
theorem iF.rd{w w':World}{kb rb pb c b:Nat}{s:St}(h:iF w kb rb pb c b)(hp:∃y,qf w c 274 y)(hr:Rd w c s w'):iF w' kb rb pb c b:=⟨h.e.rd hp hr,hr.blk h.p hp (by decide)⟩
theorem iF.below{w w':World}{kb rb pb c b:Nat}(h:iF w kb rb pb c b)(hb:Below w.heap.size w w'):iF w' kb rb pb c b:=⟨h.e.below hb,h.p.below hb⟩
def qyS (b c:Nat)(s:St)(w:World)(e:Ending)(w':World):Prop:=∃g,e=.returned (.agg (snC (nH b s).1 (some ⟨g,0,none⟩) b))∧w.heap.size≤g∧qf w' g 3 (qh (nH b s).1.qp)∧Rd w c (nH b s).2 w'
theorem qmC{w:World}{kb rb pb c b:Nat}{s:St}(hb:b≤100)(h:PS w c s)(he:iF w kb rb pb c b):Calls prog 205 #[ptr rb,ptr pb] w (qyS b c s w):=by
 have HP0:=QH h;have HE0:=QH he;have hb1:=(Below.refl w.heap.size w).alloc (Nat.le_refl _) (.cells snZ 141);have hr1:Rd w c s (w.alloc (.cells snZ 141)):=⟨qz.of_below hb1,h.below hb1⟩;have ha1:=qf.new w 141 snZ;obtain⟨W1,hW1⟩:=QE (w.alloc (.cells snZ 141));rw[hW1]at hr1 ha1 hb1;have hb2:=(Below.refl W1.heap.size W1).alloc (Nat.le_refl _) (.cells snZ 141);have hr2:=hr1.new hb2;have ha2:=qf.new W1 141 snZ;have he2:=(he.below hb1).below hb2;obtain⟨W2,hW2⟩:=QE (W1.alloc (.cells snZ 141));rw[hW2]at hr2 ha2 hb2 he2;have jM:=QH hr2;have wb:=QH (ha1.below hb2);have HT2:=QH ha2;have nV:Hid (w.heap.size<W1.heap.size):=ha1.lt;obtain⟨gt,hgt⟩:=QE W1.heap.size;rw[hgt]at HT2 nV;have r0:=he2.e.r.cell 0;simp only[QA,QB,QC]at r0;have hlr:=he2.e.r.lt;clear h he hb1 hr1 ha1 hb2 hr2 ha2 he2;unfold snZ at hW1 hW2;go_enter func205,ntmps205;go_upto_region 2 with fail;try rw[hW1]
 try rw[hW2]
 try rw[hgt]
 clear hW1 hW2 hgt;go_wp2_with fail;refine(xp jM.out.ps).mono ?_;rintro e W3 ⟨rfl,hq⟩;have iC:=QH (jM.out.trans hq);have lL:=QH (hq.blk wb.out jM.out.ps.blk (by decide));have nW:=QH (hq.blk HT2.out jM.out.ps.blk (by decide));clear hq jM wb HT2 r0 hlr;obtain⟨x,hx⟩:=QE ((kS s).1);rw[hx];have HX:=QH hx;obtain⟨s1,hs1⟩:=QE ((kS s).2);rw[hs1]at iC;have bY:=QH hs1;clear hx hs1;unfold gv;have q0:=nW.out.cell 0;have q1:=nW.out.cell 1;simp only[snZ,QA,QB,QC]at q0 q1;have f0:=nW.out.frozen 0;have f1:=nW.out.frozen 1;have hlt:=nW.out.lt;have hgn:Hid (w.heap.size≤gt):=Nat.le_of_lt nV.out;have ht4:=nW.out.qg 0 (.int .u64 (x.1:Int));have hr4:=iC.out.set nW.out hgn.out (by decide) (by decide) 0 (.int .u64 (x.1:Int));have ht5:=ht4.qg 1 (.int .u64 (x.2:Int));have aN:=hr4.set ht4 hgn.out (by decide) (by decide) 1 (.int .u64 (x.2:Int));have HA5:=QH ((lL.out.of_block (qw W3 gt 0 (.int .u64 (x.1:Int)) w.heap.size (by have:=nV.out;omega))).of_block (qw (W3.setCell ⟨gt,0,none⟩ (.int .u64 (x.1:Int))) gt 1 (.int .u64 (x.2:Int)) w.heap.size (by have:=nV.out;omega)));have yo:=QH ht5;have uU:=QH aN;obtain⟨W5,ic⟩:=QE ((W3.setCell ⟨gt,0,none⟩ (.int .u64 (x.1:Int))).setCell ⟨gt,1,none⟩ (.int .u64 (x.2:Int)));rw[ic]at HA5 yo uU;clear ht4 hr4 ht5 aN iC nW lL;go_upto_region 3 with fail;try rw[ic]
 clear ic q0 q1 f0 f1 hlt;have he5:=HE0.out.rd HP0.out.blk uU.out;have r0:=he5.e.r.cell 0;simp only[QA,QB,QC]at r0;have hlr:=he5.e.r.lt;clear he5;go_wp2_with fail;refine(dF uU.out.ps).mono ?_;rintro e W6 ⟨rfl,hq⟩;have HR6:=QH (uU.out.trans hq);have HA6:=QH (hq.blk HA5.out uU.out.ps.blk (by decide));have iD:=QH (hq.blk yo.out uU.out.ps.blk (by decide));clear hq uU HA5 yo r0 hlr;obtain⟨y,hy⟩:=QE ((zX s1).1);rw[hy];have HY:=QH hy;obtain⟨s2,hs2⟩:=QE ((zX s1).2);rw[hs2]at HR6;have kT:=QH hs2;clear hy hs2;obtain⟨hd,hhd⟩:=QE (decide (y=1));have hyq:((y:Int) == 1)=hd:=by
  rw[← hhd,Bool.eq_iff_iff];simp;omega
 have HHD:=QH hhd;clear hhd;have q3:=iD.out.cell 3;simp[snZ]at q3;have f3:=iD.out.frozen 3;have hlt:=iD.out.lt;have HT7:=QH (iD.out.qg 3 (.bool hd));have HR7:=QH (HR6.out.set iD.out hgn.out (by decide) (by decide) 3 (.bool hd));have HA7:=QH (HA6.out.of_block (qw W6 gt 3 (.bool hd) w.heap.size (by have:=nV.out;omega)));obtain⟨W7,hW7⟩:=QE (W6.setCell ⟨gt,3,none⟩ (.bool hd));rw[hW7]at HA7 HT7 HR7;clear HR6 iD HA6;go_upto_region 4 with fail;try rw[hW7]
 clear hW7 q3 f3 hlt hyq;have HE7:=QH (HE0.out.rd HP0.out.blk HR7.out);have p0:=HE7.out.p.cell 0;simp only[QA,QB,QC]at p0;have hlp:=HE7.out.p.lt;go_wp2_with fail;refine(uG hb HR7.out.ps HE7.out.e.k HE7.out.e.r).mono ?_;rintro e W13 ⟨g,rfl,hg,bW,hq⟩;have qm7:=QH (HR7.out.trans hq);have qm8:=QH (hq.blk HA7.out HR7.out.ps.blk (by decide));have ue:=QH (hq.blk HT7.out HR7.out.ps.blk (by decide));have HGL:Hid (gt<g):=Nat.lt_of_lt_of_le HT7.out.lt hg;have qm9:=QH bW;clear hq HR7 HA7 HT7 hg bW p0 hlp;have q2:=ue.out.cell 2;simp[snZ]at q2;have f2:=ue.out.frozen 2;have hlt:=ue.out.lt;have qfp:=ue.out.qg 2 (.slice (some ⟨g,0,none⟩) b b);simp only[snZ,List.setIfInBounds_toArray,List.set_cons_succ,List.set_cons_zero]at qfp;have dn:=QH qfp;have qfq:=QH (qm7.out.set ue.out hgn.out (by decide) (by decide) 2 (.slice (some ⟨g,0,none⟩) b b));have jc:=QH (qm8.out.of_block (qw W13 gt 2 (.slice (some ⟨g,0,none⟩) b b) w.heap.size (by have:=nV.out;omega)));have qfr:=QH (qm9.out.of_block (qw W13 gt 2 (.slice (some ⟨g,0,none⟩) b b) g (by have:=HGL.out;omega)));obtain⟨W14,mG⟩:=QE (W13.setCell ⟨gt,2,none⟩ (.slice (some ⟨g,0,none⟩) b b));rw[mG]at jc dn qfq qfr;clear qm7 ue qm8 qm9 qfp;go_upto_region 5 with fail;try rw[mG]
 clear mG q2 f2 hlt;have t0:=dn.out.cell 0;have t1:=dn.out.cell 1;have t2:=dn.out.cell 2;have t3:=dn.out.cell 3;have a0:=jc.out.cell 0;have a1:=jc.out.cell 1;have a2:=jc.out.cell 2;have a3:=jc.out.cell 3;simp only[snZ,QA,QB,QC]at t0 t1 t2 t3 a0 a1 a2 a3;have f0:=jc.out.frozen 0;have f1:=jc.out.frozen 1;have f2:=jc.out.frozen 2;have f3:=jc.out.frozen 3;have hlt:=dn.out.lt;have bn:=jc.out.lt;have u1:=jc.out.qg 0 (.int .u64 (x.1:Int));have r1:=qfq.out.set jc.out (Nat.le_refl _) (by decide) (by decide) 0 (.int .u64 (x.1:Int));have u2:=u1.qg 1 (.int .u64 (x.2:Int));have r2:=r1.set u1 (Nat.le_refl _) (by decide) (by decide) 1 (.int .u64 (x.2:Int));have u3:=u2.qg 2 (.slice (some ⟨g,0,none⟩) b b);have r3:=r2.set u2 (Nat.le_refl _) (by decide) (by decide) 2 (.slice (some ⟨g,0,none⟩) b b);have u4:=u3.qg 3 (.bool hd);have r4:=r3.set u3 (Nat.le_refl _) (by decide) (by decide) 3 (.bool hd);simp only[snZ,List.setIfInBounds_toArray,List.set_cons_succ,List.set_cons_zero]at u4;have HU7:=QH u4;have qyT:=QH r4;have oth:∀(k:Nat) (v:Value) (W:World),qf W g 3 (qh (gV b s2).1)→qf (W.setCell ⟨w.heap.size,k,none⟩ v) g 3 (qh (gV b s2).1):=fun k v W h=>h.of_block (qw W w.heap.size k v g (by have:=HGL.out;have:=nV.out;omega));have qmA:=QH (oth 3 (.bool hd) _ (oth 2 (.slice (some ⟨g,0,none⟩) b b) _ (oth 1 (.int .u64 (x.2:Int)) _ (oth 0 (.int .u64 (x.1:Int)) _ qfr.out))));obtain⟨W15,qmB⟩:=QE ((((W14.setCell ⟨w.heap.size,0,none⟩ (.int .u64 (x.1:Int))).setCell ⟨w.heap.size,1,none⟩ (.int .u64 (x.2:Int))).setCell ⟨w.heap.size,2,none⟩ (.slice (some ⟨g,0,none⟩) b b)).setCell ⟨w.heap.size,3,none⟩ (.bool hd));rw[qmB]at HU7 qyT qmA;clear u1 u2 u3 u4 r1 r2 r3 r4 oth jc dn qfq qfr;go_wp2_with fail;try rw[qmB]
 have q0:=HU7.out.cell 0;have q1:=HU7.out.cell 1;have q2:=HU7.out.cell 2;have q3:=HU7.out.cell 3;simp only[QA,QB,QC]at q0 q1 q2 q3;have HEQ:Hid (snC (nH b s).1 (some ⟨g,0,none⟩) b = #[.int .u64 (x.1:Int),.int .u64 (x.2:Int),.slice (some ⟨g,0,none⟩) b b,.bool hd]∧(nH b s).1.qp=(gV b s2).1∧(nH b s).2=(gV b s2).2):=by
  unfold Hid nH snC;dsimp only;rw[HX.out,bY.out,HY.out,kT.out,HHD.out,ud];exact⟨rfl,rfl,rfl⟩
 refine bodyPost_ret (v:=.agg #[.int .u64 (x.1:Int),.int .u64 (x.2:Int),.slice (some ⟨g,0,none⟩) b b,.bool hd]) (by simp[results,results205,go_sem,q0,q1,q2,q3]) rfl ?_;refine⟨g,by rw[HEQ.out.1],by have:=HGL.out;have:=nV.out;omega,?_,?_⟩
 ·rw[HEQ.out.2.1];exact qmA.out
 ·rw[HEQ.out.2.2];exact qyT.out
end Go.Proofs.YtdpbdkacngaemaaGreatDoor.mt.pg
