/- JHead, VgChg, VgGds, VgTb3, VgTb2, VgTb4, VgApi1, VgPlc, VgWri, VgHF. -/
import Derived.Test.YtdagdllomphidaaGreatDoorZR8
set_option linter.unusedVariables false
set_option linter.unusedSimpArgs false
set_option maxHeartbeats 30000000
set_option maxRecDepth 100000
namespace Go.Proofs.YtdagdllomphidaaGreatDoor.jr
open _root_.Go.Proofs.Tryz Go Go.RowKit dk wi
theorem qo8(a b:List UInt8):str a++str b=str (a++b):=by
 apply ByteArray.ext;apply Array.ext';simp[str]
theorem qo9(l:List UInt8)(n:Nat)(h:l=[0]):Lib.repeatL l n=List.replicate n 0:=by
 subst h
 induction n with
 | zero=>rfl
 | succ n ih=>rw[List.replicate_succ,← ih];rfl
theorem qiy:qok:=by
 intro a c w ha hc;have e1:(a:Int)+1=((a+1:Nat):Int):=by omega
 have E1:=QH e1;have ha1:(a:Int)≤1:=by omega
 have hc1:(c:Int)≤72:=by omega
 clear e1;go_enter func128,ntmps128;go_wp2_with fail;rw[E1.out];have hA:qg ((w.alloc (.cells #[.int .i64 (a:Int),.int .i64 (c:Int)] 149)).alloc (.cells #[.int .i64 0,.string ⟨#[]⟩] 182)) w.heap.size 149 #[.int .i64 (a:Int),.int .i64 (c:Int)]:=by
  have k:=qg.new w 149 #[.int .i64 (a:Int),.int .i64 (c:Int)];exact k.of_block (((Below.refl _ (w.alloc (.cells #[.int .i64 (a:Int),.int .i64 (c:Int)] 149))).alloc (Nat.le_refl _) _).block _ k.lt)
 have hA2:qg ((w.alloc (.cells #[.int .i64 (a:Int),.int .i64 (c:Int)] 149)).alloc (.cells #[.int .i64 0,.string ⟨#[]⟩] 182)) (w.heap.size+1) 182 #[.int .i64 0,.string ⟨#[]⟩]:=by
  have:=qg.new (w.alloc (.cells #[.int .i64 (a:Int),.int .i64 (c:Int)] 149)) 182 #[.int .i64 0,.string ⟨#[]⟩];simpa using this
 have hB0:Below w.heap.size w ((w.alloc (.cells #[.int .i64 (a:Int),.int .i64 (c:Int)] 149)).alloc (.cells #[.int .i64 0,.string ⟨#[]⟩] 182)):=((Below.refl w.heap.size w).alloc (Nat.le_refl _) _).alloc (by simp) _;refine(kj ⟨#[]⟩ (a+1) _ (by omega) (by decide)).mono ?_;rintro e W1 ⟨rfl,b1⟩;have HA:=QH (hA.of_block (b1.block _ hA.lt));have aV:=QH (hA2.of_block (b1.block _ hA2.lt));have HB:=QH (qc hB0 b1);have q1:=HA.out.cell 1;have lt1:=HA.out.lt;obtain⟨S1,hS1⟩:=QE (str (bl ⟨#[]⟩++zx (a+1)));have hl1:=qA (a+1);have zds:S1.size≤9:=by
  rw[← hS1,qT,List.length_append];have:(bl ⟨#[]⟩).length=0:=rfl;omega
 rw[hS1];have gZ:=QH hS1;clear hA hA2 hB0 b1 hS1;go_wp2_with fail;refine(kj S1 c _ (by omega) (by omega)).mono ?_;rintro e W2 ⟨rfl,b2⟩;have HC:=QH (aV.out.of_block (b2.block _ aV.out.lt));have qC:=QH (qc HB.out b2);have lt2:=HC.out.lt;have q2:=HC.out.frozen 0;obtain⟨S2,hS2⟩:=QE (str (bl S1++zx c));have hl2:=qA c;have q5Y:S2.size≤18:=by rw[← hS2,qT,List.length_append,zr];omega
 have zdt:(S2.size:Int)≤18:=by omega
 rw[hS2];have uK:=QH hS2;clear hS2 b2 q1 lt1;go_wp2_with fail;have en:(32:Int)-(S2.size:Int)=((32-S2.size:Nat):Int):=by omega
 rw[en];refine(Tryz.strings_Repeat ⟨#[0]⟩ (32-S2.size) _ (by omega) (by have:(⟨#[0]⟩:ByteArray).size=1:=rfl;rw[this];omega)).mono ?_;rintro e W3 ⟨rfl,b3⟩;obtain⟨R,hR⟩:=QE ((⟨(Lib.repeatL (⟨#[0]⟩:ByteArray).data.toList (32-S2.size)).toArray⟩:ByteArray):ByteArray);rw[hR];have hRs:R.size=32-S2.size:=by
  rw[← hR,qo9 _ _ rfl];show(List.replicate (32-S2.size) (0:UInt8)).toArray.size=_;rw[List.size_toArray,List.length_replicate]
 have HR:=QH hR;have HD:=QH (HC.out.of_block (b3.block _ lt2));have qZ:=QH (qc qC.out b3);have lt3:=HD.out.lt;have q3:=HD.out.frozen 0;have q4:=HD.out.frozen 1;have q5:=HD.out.cell 0;have q6:=HD.out.cell 1;clear b3 hR q2 lt2;go_wp2_with fail;have hE:=(HD.out.ql 0 (.int .i64 0)).ql 1 (.string (S2++R));have q7:=hE.cell 0;have q8:=hE.cell 1;have hout:str (kW a c)=S2++R:=by
  have hz:S2.size=(zx (a+1)).length+(zx c).length:=by
   rw[← uK.out,qT,List.length_append,zr,← gZ.out,qT,List.length_append];have:(bl ⟨#[]⟩).length=0:=rfl;omega
  have h2:S2=str (zx (a+1)++zx c):=by rw[← uK.out,← gZ.out,zh];rfl
  have h3:R=str (List.replicate (32-(zx (a+1)).length-(zx c).length) 0):=by
   rw[← HR.out,qo9 _ _ rfl,hz,Nat.sub_add_eq];rfl
  rw[h2,h3,qo8];rfl
 have HO:=QH hout;clear hout hE
 (try simp only[Exit.inBlock,Exit.then])
 refine bodyPost_ret (v:=.agg #[.int .i64 0,.string (S2++R)]) (by simp[results,results128,go_sem,q7,q8]) rfl ⟨by rw[HO.out],(qZ.out.setCell (p:=⟨w.heap.size+1,0,none⟩) (Nat.le_succ _) _).setCell (p:=⟨w.heap.size+1,1,none⟩) (Nat.le_succ _) _⟩
def m1 (s:Bt):Nat:=match rdNum s with|none=>0|some (m,_)=>m
def c1 (s:Bt):Nat:=match rdNum s with|none=>0|some (_,r)=>match rdNum r with|none=>0|some (c,_)=>c
theorem qaA{a c:Nat}(ha:a<2)(hc:c≤72):m1 (kW a c)=a+1∧c1 (kW a c)=c:=by
 unfold m1 c1 kW;rw[List.append_assoc,ur (a+1) (by omega)];dsimp only;rw[ur c (by omega)];exact⟨rfl,rfl⟩
theorem qsm(s:Bt):dD s=if m1 s<1∨2<m1 s∨72<c1 s then none else if kW (m1 s-1) (c1 s)=s then some (m1 s-1,c1 s)else none:=by
 by_cases h:m1 s<1∨2<m1 s∨72<c1 s
 ·rw[if_pos h];cases hx:dD s with
  | none=>rfl
  | some p =>
   obtain⟨a,c⟩:=p;obtain⟨ha,hc,rfl⟩:=uv hx;have:=qaA ha hc;omega
 ·rw[if_neg h];by_cases he:kW (m1 s-1) (c1 s)=s
  ·rw[if_pos he];have:=(uP (a:=m1 s-1) (c:=c1 s) (by omega) (by omega)).2.1;rw[he]at this;exact this
  ·rw[if_neg he];cases hx:dD s with
   | none=>rfl
   | some p =>
    obtain⟨a,c⟩:=p;obtain⟨ha,hc,rfl⟩:=uv hx;have:=qaA ha hc;rw[this.1,this.2]at he;exact absurd rfl he
def q1j (rb:Nat)(s:Bt)(w:World)(e:Ending)(w':World):Prop :=
 e=.returned (.int .u64 (m1 s:Int))∧m1 s<18446744073709551616∧w.grownBy w' (some rb)∧((∃m r,rdNum s=some (m,r)∧zo rb r false w')∨(rdNum s=none∧∃m,zo rb m true w'))
def q1k (rb:Nat)(s:Bt)(w:World)(e:Ending)(w':World):Prop :=
 e=.returned (.int .u64 (c1 s:Int))∧c1 s<18446744073709551616∧w.grownBy w' (some rb)
theorem q1l{rb:Nat}{s:Bt}{w:World}(h:zo rb s false w):Calls prog 127 #[.pointer (some ⟨rb,0,none⟩)] w (q1j rb s w):=by
 refine(wh rb s w h).mono ?_;rintro e w' ⟨hg,⟨z,r1,hn,rfl,hr⟩|⟨hn,rfl,hm⟩⟩
 ·have e1:m1 s=z:=by unfold m1;rw[hn]
  exact⟨by rw[e1],by rw[e1];exact(dM _ _ _ hn).2,hg,.inl ⟨z,r1,hn,hr⟩⟩
 ·have e1:m1 s=0:=by unfold m1;rw[hn]
  exact⟨by rw[e1];rfl,by rw[e1];decide,hg,.inr ⟨hn,hm⟩⟩
theorem q1m{rb:Nat}{s:Bt}{w:World}(h:(∃m r,rdNum s=some (m,r)∧zo rb r false w)∨(rdNum s=none∧∃m,zo rb m true w)):Calls prog 127 #[.pointer (some ⟨rb,0,none⟩)] w (q1k rb s w):=by
 rcases h with⟨m,r,hs,h⟩|⟨hs,m,h⟩
 ·refine(wh rb r w h).mono ?_;rintro e w' ⟨hg,⟨z,r1,hn,rfl,hr⟩|⟨hn,rfl,hm⟩⟩
  ·have e1:c1 s=z:=by unfold c1;rw[hs];dsimp only;rw[hn]
   exact⟨by rw[e1],by rw[e1];exact(dM _ _ _ hn).2,hg⟩
  ·have e1:c1 s=0:=by unfold c1;rw[hs];dsimp only;rw[hn]
   exact⟨by rw[e1];rfl,by rw[e1];decide,hg⟩
 ·refine(oh rb m w h).mono ?_;rintro e w' ⟨rfl,rfl⟩;have e1:c1 s=0:=by unfold c1;rw[hs]
  exact⟨by rw[e1];rfl,by rw[e1];decide,wX _ _⟩
theorem qiz:qol:=by
 intro most w own p d h zS hn;have wM:d.read 0=(rd d.now 0,0):=by
  unfold DD.read;have:d.has 0=true:=by
   simp only[DD.has,Bool.and_eq_true,decide_eq_true_eq];omega
  rw[if_neg (by rw[zS];simp),if_neg (by rw[this];simp)];rfl
 have h32:(rd d.now 0).length=32:=by
  unfold rd;cases hx:dk.look d.now 0 with
  | none=>exact qJ
  | some u=>exact h.1.qah hx
 generalize rd d.now 0=x at *;obtain⟨res,hres⟩:=QE (dD x);rw[hres];rw[qsm]at hres;have xB:=QH hres;have HD:=QH h;have xF:=QH wM;have H32:=QH h32;have hb0:Below w.heap.size w (w.alloc (.cells #[.int .i64 0,.int .i64 0] 149)):=(Below.refl w.heap.size w).alloc (Nat.le_refl _) _;have hk0:qg (w.alloc (.cells #[.int .i64 0,.int .i64 0] 149)) w.heap.size _ _:=qg.new w _ _;have xz:=QH hb0;have HK0:=QH hk0;clear h wM h32 hres hb0 hk0;go_enter func84,ntmps84;go_wp2_with fail;refine(qij (B:=0) ⟨own,HD.out.below xz.out,fun _ _=>Nat.zero_le _⟩ 0 x (str x) rfl 0 xF.out).mono ?_;rintro e W1 ⟨rfl,_,b1⟩;have eI:=QH (HK0.out.of_block (b1.block _ HK0.out.lt));have qV:=QH (qc xz.out b1);obtain⟨X,hX⟩:=QE (str x);rw[hX];have HX:=QH hX;clear b1 hX;go_wp2_with fail;refine(qaY X W1 (by rw[← HX.out,qT,H32.out];decide)).mono ?_;rintro e W2 ⟨rb,rfl,hrb,hR,b2⟩;have jK:=QH hR;have kh:=QH (eI.out.of_block (b2.block _ eI.out.lt));have qC:=QH (qc qV.out b2);have hne:rb≠w.heap.size:=by have:=eI.out.lt;omega
 clear b2 hR;go_wp2_with fail;have hRx:zo rb x false W2:=by
  have:=jK.out;rw[← HX.out,zh]at this;exact this
 refine(q1l hRx).mono ?_;rintro e W3 ⟨rfl,q6J,g3,hst⟩;have HST:=QH hst;have l6:=QH (kh.out.of_block (g3.block _ kh.out.lt (by simpa using Ne.symm hne)));have qZ:=QH (qC.out.grown g3 qC.out.size (fun j hj=>by simp at hj;have:=qV.out.size;omega));clear hRx hst g3;go_wp2_with fail;refine(q1m HST.out).mono ?_;rintro e W4 ⟨rfl,q6K,g4⟩;have mv:=QH (l6.out.of_block (g4.block _ l6.out.lt (by simpa using Ne.symm hne)));have x9:=QH (qZ.out.grown g4 qZ.out.size (fun j hj=>by simp at hj;have:=qV.out.size;omega));clear g4;obtain⟨m,hm⟩:=QE (m1 x);obtain⟨c,hc⟩:=QE (c1 x);have hres:=xB.out;rw[hm,hc]at hres;rw[hm]at q6J;rw[hc]at q6K;rw[hm,hc];clear xB hm hc eI kh l6 qV qC qZ HST;have lt4:=mv.out.lt;have f0:=mv.out.frozen 0;have f1:=mv.out.frozen 1;have q0:=mv.out.cell 0;have q1:=mv.out.cell 1;have hno:∀W,Below w.heap.size w W→res=none→rk res w (.returned (.tuple #[.agg #[.int .i64 0,.int .i64 0],.bool false])) W:=by
  intro W hb hr;subst hr;exact⟨hb,0,0,rfl⟩
 have vr:=QH hno;clear hno;by_cases hlo:m<1
 ·have c1:((m:Int)<1):=by omega
  rw[if_pos (.inl hlo)]at hres;have nQ:=QH hres;clear hres;go_wp2_with fail;have hE:=(mv.out.ql 0 (.int .i64 0)).ql 1 (.int .i64 0);have q7:=hE.cell 0;have q8:=hE.cell 1
  (try simp only[Exit.inBlock,Exit.then])
  refine bodyPost_ret (v:=.tuple #[.agg #[.int .i64 0,.int .i64 0],.bool false]) (by simp[results,results84,go_sem,q7,q8]) rfl (vr.out _ ((x9.out.setCell (p:=⟨w.heap.size,0,none⟩) (Nat.le_refl _) _).setCell (p:=⟨w.heap.size,1,none⟩) (Nat.le_refl _) _) nQ.out.symm)
 ·by_cases hhi:2<m
  ·have c1:¬ ((m:Int)<1):=by omega
   have c2:(2:Int)<(m:Int):=by omega
   rw[if_pos (.inr (.inl hhi))]at hres;have nQ:=QH hres;clear hres;go_wp2_with fail;have hE:=(mv.out.ql 0 (.int .i64 0)).ql 1 (.int .i64 0);have q7:=hE.cell 0;have q8:=hE.cell 1
   (try simp only[Exit.inBlock,Exit.then])
   refine bodyPost_ret (v:=.tuple #[.agg #[.int .i64 0,.int .i64 0],.bool false]) (by simp[results,results84,go_sem,q7,q8]) rfl (vr.out _ ((x9.out.setCell (p:=⟨w.heap.size,0,none⟩) (Nat.le_refl _) _).setCell (p:=⟨w.heap.size,1,none⟩) (Nat.le_refl _) _) nQ.out.symm)
  ·by_cases h72:72<c
   ·have c1:¬ ((m:Int)<1):=by omega
    have c2:¬ (2:Int)<(m:Int):=by omega
    have c3:(72:Int)<(c:Int):=by omega
    rw[if_pos (.inr (.inr h72))]at hres;have nQ:=QH hres;clear hres;go_wp2_with fail;have hE:=(mv.out.ql 0 (.int .i64 0)).ql 1 (.int .i64 0);have q7:=hE.cell 0;have q8:=hE.cell 1
    (try simp only[Exit.inBlock,Exit.then])
    refine bodyPost_ret (v:=.tuple #[.agg #[.int .i64 0,.int .i64 0],.bool false]) (by simp[results,results84,go_sem,q7,q8]) rfl (vr.out _ ((x9.out.setCell (p:=⟨w.heap.size,0,none⟩) (Nat.le_refl _) _).setCell (p:=⟨w.heap.size,1,none⟩) (Nat.le_refl _) _) nQ.out.symm)
   ·have c1:¬ ((m:Int)<1):=by omega
    have c2:¬ (2:Int)<(m:Int):=by omega
    have c3:¬ (72:Int)<(c:Int):=by omega
    rw[if_neg (by omega)]at hres;obtain⟨k,rfl⟩:∃k,m=k+1:=⟨m-1,by omega⟩;have e1:((k+1:Nat):Int)-1=(k:Int):=by omega
    rw[Nat.add_sub_cancel]at hres;have nQ:=QH hres;have E1:=QH e1;have hk2:k<2:=by omega
    have q6L:c≤72:=by omega
    clear hres e1;go_wp2_with fail;have kb5:qg (W4.alloc (.cells #[.int .i64 (k:Int),.int .i64 (c:Int)] 149)) W4.heap.size _ _:=qg.new W4 _ _;have hb5:Below w.heap.size w (W4.alloc (.cells #[.int .i64 (k:Int),.int .i64 (c:Int)] 149)):=x9.out.alloc x9.out.size _;have hk5:qg (W4.alloc (.cells #[.int .i64 (k:Int),.int .i64 (c:Int)] 149)) w.heap.size 149 #[.int .i64 0,.int .i64 0]:=mv.out.of_block (((Below.refl W4.heap.size W4).alloc (Nat.le_refl _) _).block _ lt4);have KB5:=QH kb5;have jX:=QH hb5;have nB:=QH hk5;clear kb5 hb5 hk5 q0 q1 f0 f1 lt4;refine(qiy k c _ hk2 q6L).mono ?_;rintro e W6 ⟨rfl,b6⟩;have kb6:qg W6 W4.heap.size _ _:=KB5.out.of_block (b6.block _ KB5.out.lt);have vn:qg W6 w.heap.size 149 #[.int .i64 0,.int .i64 0]:=nB.out.of_block (b6.block _ nB.out.lt);have dH:=QH (qc jX.out b6);have HK6:=QH vn;have r0:=kb6.cell 0;have r1:=kb6.cell 1;have lt6:=vn.lt;have zdu:=kb6.lt;have q0:=vn.cell 0;have q1:=vn.cell 1;have f0:=vn.frozen 0;have f1:=vn.frozen 1;clear kb6 vn b6 KB5 jX nB x9 mv;have dw:∀(Z:ByteArray) (W:World),(Instr.field 182 (.agg #[.int .i64 0,.string Z]) 1).run prog W=.ok (.string Z) W:=fun Z W=>by simp[Instr.field,go_sem,asAgg]
    obtain⟨Y,hY⟩:=QE (str (kW k c));rw[hY];have HY:=QH hY;clear hY;by_cases heq:kW k c=x
    ·have hsome:res=some (k,c):=by rw[← nQ.out,if_pos heq]
     have hYX:Y=X:=by rw[← HY.out,← HX.out,heq]
     have hq:(Y.toList == X.toList)=true:=by rw[hYX];simp
     have HS:=QH hsome;clear hsome hYX nQ heq;go_wp2_with fail;have hE:=(HK6.out.ql 0 (.int .i64 (k:Int))).ql 1 (.int .i64 (c:Int));have q7:=hE.cell 0;have q8:=hE.cell 1
     (try simp only[Exit.inBlock,Exit.then])
     refine bodyPost_ret (v:=.tuple #[.agg #[.int .i64 (k:Int),.int .i64 (c:Int)],.bool true]) (by simp[results,results84,go_sem,q7,q8]) rfl ?_;rw[HS.out];exact⟨(dH.out.setCell (p:=⟨w.heap.size,0,none⟩) (Nat.le_refl _) _).setCell (p:=⟨w.heap.size,1,none⟩) (Nat.le_refl _) _,rfl⟩
    ·have hnone:res=none:=by rw[← nQ.out,if_neg heq]
     have hYX:Y≠X:=by
      intro h;rw[← HY.out,← HX.out]at h;exact heq (str_inj h)
     have hq:(Y.toList == X.toList)=false:=by
      rw[beq_eq_false_iff_ne];intro h;apply hYX;rw[← iL Y,← iL X];exact congrArg str (by simpa[bl,ByteArray.toList_eq]using h)
     have HS:=QH hnone;clear hnone hYX nQ heq;go_wp2_with fail;have hE:=(HK6.out.ql 0 (.int .i64 0)).ql 1 (.int .i64 0);have q7:=hE.cell 0;have q8:=hE.cell 1
     (try simp only[Exit.inBlock,Exit.then])
     refine bodyPost_ret (v:=.tuple #[.agg #[.int .i64 0,.int .i64 0],.bool false]) (by simp[results,results84,go_sem,q7,q8]) rfl ?_;exact vr.out _ ((dH.out.setCell (p:=⟨w.heap.size,0,none⟩) (Nat.le_refl _) _).setCell (p:=⟨w.heap.size,1,none⟩) (Nat.le_refl _) _) HS.out
end Go.Proofs.YtdagdllomphidaaGreatDoor.jr
namespace Go.Proofs.YtdagdllomphidaaGreatDoor.vt.pg
open _root_.Go.Proofs.Tryz Go Go.RowKit Go.Sort ib mt im sp
theorem iq (t:Tg):∀(ss:List Bt) (o:Nat),bS (fun x=>decide (t x.1=x.2)) (jr.zk o ss)=zZ t o ss
 | [],_=>rfl
 | s::r,o=>by
  have ih:=iq t r (o+1);unfold bS at ih ⊢;unfold jr.zk zZ;rw[List.filter_cons,ih];by_cases h:t (o:Int)=s <;> simp[h]
theorem na {ss:List Bt}{o:Nat}{x:Wr}(h:x∈jr.zk o ss):(o:Int)≤x.1∧x.1<((o+ss.length:Nat):Int):=by
 obtain⟨i,hi,h1,_⟩:=jr.jE ss o x h;omega
def qeh (G:Nat→Prop)(w:World)(A:Option Addr)(n:Nat)(M:Nat→Mt):Prop:=∀i,i<n→∃b o f,A=some ⟨b,o,none⟩∧b<w.heap.size∧w.cell? ⟨b,o+i,none⟩=some f∧uY G w f (M i) (M (i+1))
theorem qeh.below{G:Nat→Prop}{w w':World}{A:Option Addr}{n:Nat}{M:Nat→Mt}(h:qeh G w A n M)(hb:Below w.heap.size w w'):qeh G w' A n M:=fun i hi=>by
 obtain⟨b,o,f,h1,h2,h3,h4⟩:=h i hi;exact⟨b,o,f,h1,Nat.lt_of_lt_of_le h2 hb.size,(hb.cell (p:=⟨b,o+i,none⟩) h2).trans h3,h4.below hb⟩
def EfR (G:Nat→Prop)(g:Nat)(n:Nat)(M:Nat→Mt)(w:World)(i:Value)(wr:World):Prop :=
 ∃k:Nat,k≤n∧i=.int .i64 (k:Int)∧Nx G wr g (M k)∧Below w.heap.size w wr
def BlR (B:Nat)(l:List Wr)(P:List Pl)(w:World)(v i:Value)(wr:World):Prop :=
 ∃k:Nat,k≤P.length∧i=.int .i64 (k:Int)∧jr.mR wr B v (l++rE (P.take k))∧Below w.heap.size w wr
theorem qoA{P:List Pl}{k:Nat}(h:k<P.length):rE (P.take (k+1))=rE (P.take k)++(if P[k].2.1=0 then[]else[(P[k].2.1,P[k].2.2)]):=by
 unfold rE;rw[List.take_succ_eq_append_getElem h,List.filterMap_append]
 congr 1
 by_cases e:P[k].2.1=0 <;> simp[e]
theorem nR {b N:Nat}{m:Mt}(h:yD b N m):mtS m:=by
 refine⟨?_,?_,fun s hs=>?_,?_⟩
 ·have:=h.len;have:=h.b8;omega
 ·have:=h.few;omega
 ·have:=(h.uF s hs).1;have:=h.b8;omega
 ·rcases h.tok with ht|ht
  ·rw[ht];simp[zR]
  ·have:=ht.2.2.2.2.2.1;have:=h.b8;omega
def q1o (S:Nat)(o1 o2:Nat→Prop)(v pd:Nat)(Q:Int→DD→Mt→Bool→Prop)(w:World)(e:Ending)(w':World):Prop :=
 ∃r d' m' lost dJ wW,e=.returned (.int .i64 r)∧VP jL w' dJ wW v pd d' m' lost∧ib.qz (fun j=>o1 j∨o2 j) w w'∧(∀j,dJ j∨wW j→(o1 j∨o2 j)∨S≤j)∧Q r d' m' lost
theorem qgV{o1 o2:Nat→Prop}{w:World}{v pd N S b n:Nat}{d:DD}{m m':Mt}{t:Tg}{ws:List Wr}{M:Nat→Mt}(h:VP jL w o1 o2 v pd d m false)(hJ:jr.JJ N t d)(hf:0≤d.qu)(hR:qW b N t m)(hS:S≤w.heap.size)(xP:∀j,o1 j∨o2 j∨j=gN→j<S)
    (hM0:M 0=m) (hMn:M n=m') (jV:yD b N m') (tv:dI N m ws) {A:Option Addr} {c:Nat} (hE:qeh (fun j=>(o1 j∧j≠v)∨S≤j) w A n M) (hn:n≤10) {B:Option Addr} {cb:Nat} {P:List Pl} (hP:PlL w B P) (hpl:P.length≤100) (hPW:rE P=ws) :
    Calls prog 56 #[pt v,.slice B P.length cb,.slice A n c] w (q1o S o1 o2 v pd (yo N t d m ⟨0,m',ws⟩) w):=by
 obtain⟨iw,wi1,wi2,wi3,wi4⟩:=info_parts qbL;obtain⟨A0,A1,A2,c0,c1,c2,hA⟩:=h.is;have HV:=QH h;have HA:=QH hA;have HJ:=QH hJ;have HR:=QH hR;have HE:=QH hE;have HP:=QH hP;have HOK:=QH jV;have HWS:=QH tv;have HPW:=QH hPW;have HS:=QH hS;have q1q:=QH xP;have HMN:=QH hMn;have HFU:=QH hf;obtain⟨bE,k0,k1,k2,k3,k4,k5,k6,k7,k8,k9,cV⟩:=hA.cells;have kF:=(Below.refl _ w).alloc (Nat.le_refl _) (.cells (zq A0 A1 A2 c0 c1 c2 m) 98);have nO:=qg.new w 98 (zq A0 A1 A2 c0 c1 c2 m);obtain⟨W1,hW1⟩:=QE (w.alloc (.cells (zq A0 A1 A2 c0 c1 c2 m) 98));rw[hW1]at kF nO;obtain⟨g,hg⟩:=QE w.heap.size;have HG:=QH hg;have qV:=QH kF;have HN1:Hid (Nx (fun j=>(o1 j∧j≠v)∨S≤j) W1 g (M 0)):=by
  refine⟨A0,A1,A2,c0,c1,c2,by rw[hM0,← hg];exact nO,?_⟩;rw[hM0];exact(hA.tab.mono (fun j hj=>⟨.inl hj,by have:=hA.low j hj.1;omega⟩)).below kF
 clear h hA hJ hR hE hP jV tv hPW hS xP hMn hM0 kF nO hf;unfold zq at hW1;go_enter func56,ntmps56;go_upto_region 2 with fail;try rw[hW1]
 try rw[hg]
 clear hW1 hg k0 k1 k2 k3 k4 k5 k6 k7 k8 k9 cV bE;go_wp2_with fail;go_loopw [20] (fun i wr=>EfR (fun j=>(o1 j∧j≠v)∨S≤j) g n M w i wr) (fun i _=>n-(intOf i).toNat);case atStart=>exact⟨0,Nat.zero_le _,rfl,HN1.out,qV.out⟩
 case round =>
  obtain⟨k,hk,rfl,hnx,hB⟩:=hrel;have HNX:=QH hnx;have HB:=QH hB;clear hnx hB;by_cases hlt:k<n
  ·have jW:(k:Int)<(n:Int):=by omega
   have hk0:¬ (k:Int)<0:=by omega
   obtain⟨b',o',f,rfl,s1,s2,kf,ky,rfl,hcf,uh⟩:=HE.out k hlt;have q1:=Nat.lt_of_lt_of_le s1 HB.out.size;have q2:=(HB.out.cell (p:=⟨b',o'+k,none⟩) s1).trans s2;have bI:=QH (uh wr g HB.out (by rw[HG.out];exact Nat.le_refl _) HNX.out);clear s1 s2 uh;go_wp2_with fail;refine bI.out.mono ?_;rintro e W2 ⟨rfl,q1r,hbu⟩;have q6N:=QH q1r;have qC:Hid (Below w.heap.size w W2):=HB.out.trans (hbu.below (fun i e=>by rw[e,← HG.out];exact Nat.le_refl _) HB.out.size);clear q1r hbu bI q1 q2;go_wp2_with fail;go_roundw;case rel=>exact⟨k+1,by omega,by go_num,q6N.out,qC.out⟩
   case measure=>simp[intOf];omega
  ·obtain rfl:k=n:=by omega
   obtain⟨wo,hwo⟩:∃x,x=wr:=⟨_,rfl⟩;subst hwo;have jW:¬ (k:Int)<(k:Int):=by omega
   obtain⟨X0,X1,X2,d0,d1,d2,sO,hxt⟩:=HNX.out.ex;rw[HMN.out]at sO hxt;have HXK:=QH sO;have HXT:=QH hxt;have hsz:mtS m':=nR HOK.out;have iX:=QH hsz;have iJ:xL wo:=HA.out.ct.below HB.out HA.out.ct.1;have dK:=QH iJ;have hwr:=rf hxt.mt hsz (HOK.out.enc HR.out.N1) (HOK.out.size HR.out.N1) iJ;have HWR:=QH hwr;have j0:=sO.cell 0;have j1:=sO.cell 1;have j2:=sO.cell 2;have j3:=sO.cell 3;have j4:=sO.cell 4;have j5:=sO.cell 5;have j6:=sO.cell 6;have j7:=sO.cell 7;have j8:=sO.cell 8;have jlt:=sO.lt;simp only[zq,QA,QB,QC]at j0 j1 j2 j3 j4 j5 j6 j7 j8;unfold zq at HWR;clear sO hxt hsz iJ hwr HNX;go_wp2_with fail;refine HWR.out.mono ?_;rintro e W2 ⟨vl,rfl,hol,hb2⟩;have HOL:=QH hol;have qC:=QH hb2;have hts:=xT HOK.out HR.out.N1;have HTS:=QH hts;have HLL:Hid ((jr.zk 145 (xH m')).length=(xH m').length):=by unfold Hid;rw[jr.zg]
   have HTC:Hid (qoc wo 106 (pt v) (fun x=>decide (t x.1=x.2)) (jr.zk 145 (xH m'))):=fun W hW x hx=>by
    have hr:=na hx;have h2:=HTS.out.2;have h3:=HR.out.N0;exact qkp (qX HV.out (qc HB.out hW)) HJ.out x hr.1 (by omega)
   have hdel:=qrI (b:=pt v) hol (by rw[HLL.out];omega) (by rw[HLL.out];omega) hb2 HTC.out;rw[show qof (jr.zk 145 (xH m')) (fun x=>decide (t x.1=x.2)) wo=qof (jr.zk 145 (xH m')) (fun x=>decide (t x.1=x.2)) wo from rfl]at hdel;have q1t:=QH hdel;clear hol hb2 hts hdel HWR j0 j1 j2 j3 j4 j5 j6 j7 j8 jlt;go_wp2_with fail;refine q1t.out.mono ?_;rintro e W3 ⟨v3,rfl,ho3,hb3⟩;rw[iq]at ho3;have sM:=QH ho3;have qZ:=QH hb3;have HLD:=QH (br (t:=t) (xH m') 145);obtain⟨td,htd⟩:=QE (zZ t 145 (xH m'));have HTD:=QH htd;rw[htd]at sM HLD;clear ho3 hb3 htd q1t HTC HOL;go_wp2_with fail;go_loopw [10,41] (fun v i wz=>BlR wo.heap.size td P wo v i wz) (fun _ i _=>P.length-(intOf i).toNat);case atStart=>exact⟨0,Nat.zero_le _,rfl,by simpa[rE]using sM.out,qZ.out⟩
   case round =>
    obtain⟨k,hk,rfl,ho,hB4⟩:=hrel;have HO:=QH ho;have x9:=QH hB4;have kJ:=QH (qc HB.out hB4);clear ho hB4;by_cases hlt:k<P.length
    ·have q6P:(k:Int)<(P.length:Int):=by omega
     have hk0:¬ (k:Int)<0:=by omega
     obtain⟨b',o',rfl,s1,s2,s3,s4⟩:=(HP.out.below kJ.out) k hlt;have HPT:=QH (qoA hlt);have hlen:(rE (P.take k)).length≤100:=by
      have h1:(rE (P.take k)).length≤(P.take k).length:=List.length_filterMap_le _ _;rw[List.length_take]at h1;omega
     obtain⟨x,hx⟩:=QE (P[k]);rw[hx]at HPT s2 s3 s4;clear hx;obtain⟨bk,at_,s⟩:=x;dsimp only at HPT s2 s3 s4;obtain⟨SS,hSS⟩:=QE (str s);have HSS:=QH hSS;rw[hSS]at s4;have kF:=(Below.refl _ wr).alloc (Nat.le_refl _) (.cells #[.int .i64 bk,.int .i64 at_,.string SS] 171);have nO:=qg.new wr 171 #[.int .i64 bk,.int .i64 at_,.string SS];obtain⟨W5,iF⟩:=QE (wr.alloc (.cells #[.int .i64 bk,.int .i64 at_,.string SS] 171));rw[iF]at kF nO;have v1:=nO.cell 1;have v2:=nO.cell 2;have hvl:=nO.lt;simp only[QA,QB,QC]at v1 v2;have jX:=QH (qc x9.out kF);have HO5:Hid (jr.mR W5 wo.heap.size _ (td++rE (P.take k))):=zX HO.out (fun j hj=>kF.block j (HO.out.lt j hj).2);by_cases h0:at_=0
     ·have hz0:(at_ == 0)=true:=by rw[h0];rfl
      have HP0:Hid (td++rE (P.take (k+1))=td++rE (P.take k)):=by unfold Hid;rw[HPT.out,if_pos h0,List.append_nil]
      clear kF nO h0 HPT hSS;go_upto_region 14 with fail;try rw[iF]
      clear iF s1 s2 s3 s4;go_wp2_with fail;go_roundw;case rel=>exact⟨k+1,by omega,by go_num,by rw[HP0.out];exact HO5.out,jX.out⟩
      case measure=>simp[intOf];omega
     ·have hz0:(at_ == 0)=false:=beq_false_of_ne h0;have sX:Hid (td++rE (P.take (k+1))=(td++rE (P.take k))++[(at_,s)]):=by unfold Hid;rw[HPT.out,if_neg h0,List.append_assoc]
      have hby:=(Below.refl _ W5).alloc (Nat.le_refl _) (.cells #[.int .i64 at_,.string SS] 182);have HO6:Hid (jr.mR (W5.alloc (.cells #[.int .i64 at_,.string SS] 182)) wo.heap.size _ (td++rE (P.take k))):=zX HO5.out (fun j hj=>hby.block j (HO5.out.lt j hj).2);have dH:=QH (qc jX.out hby);have bH:Hid (∀j u,([.int .i64 at_,.string SS]:List Value)[j]?=some u→(W5.alloc (.cells #[.int .i64 at_,.string SS] 182)).cell? ((⟨W5.heap.size,0,none⟩:Addr).add j)=some u):=fun j u hu=>by
       rw[addr_add,Nat.zero_add,(qg.new W5 182 #[.int .i64 at_,.string SS]).cell j];simpa using hu
      have e1:∀u∈([.int .i64 at_,.string SS]:List Value),u.oneCell'=true:=by intro u hu;simp at hu;rcases hu with rfl|rfl <;> rfl
      have E1:=QH e1;have q1u:Hid (td.length≤48):=by have h1:=HLD.out;have h2:=HTS.out.2;unfold Hid;omega
      have E2:Hid ((td++rE (P.take k)).length+1≤maxLen):=by have h1:=q1u.out;unfold Hid;rw[List.length_append];unfold maxLen;omega
      have E3:Hid (((td++rE (P.take k)).length+1)*24≤140737488355328):=by have h1:=q1u.out;unfold Hid;rw[List.length_append];omega
      obtain⟨Lw,hLw⟩:=QE (td++rE (P.take k));rw[hLw]at HO6 sX E2 E3;clear kF nO h0 HPT e1 hby hLw HO5 HO hSS hlen;go_upto_region 14 with fail;try rw[iF]
      clear iF s1 s2 s3 s4;go_wp2_with (at_builtin;refine xt rfl (.tmp 48) (.tmp 54) 136 rfl wo.heap.size 182 iw (.agg #[.int .i64 0,.string ByteArray.empty]) 2 24 underlying136 wi1 wi2 wi3 wi4 rfl (by decide) _ _ _ rfl HO6.out ⟨W5.heap.size,0,none⟩ 1 1 [.int .i64 at_,.string SS] rfl rfl bH.out E1.out E2.out E3.out dH.out.size ?_);intro v' w1 hown hgrow _;have HB7:Hid (Below wo.heap.size wo w1):=dH.out.grown hgrow dH.out.size (fun j hj=>(HO6.out.lt j hj).1);have HO7:Hid (jr.mR w1 wo.heap.size v' (Lw++[(at_,s)])):=by
       refine jr.mR.snoc ?_;show w1.ownsRow _ _ _ v' (Lw.length+1) (jr.zW Lw++[.int .i64 at_,.string (str s)]);rw[HSS.out];exact hown
      clear hown hgrow;go_wp2_with fail;go_roundw;case rel=>exact⟨k+1,by omega,by go_num,by rw[sX.out];exact HO7.out,HB7.out⟩
      case measure=>simp[intOf];omega
    ·obtain rfl:k=P.length:=by omega
     have q6P:¬ (P.length:Int)<(P.length:Int):=by omega
     have ho:=HO.out;rw[List.take_length,HPW.out,← HTD.out]at ho;have HOC:Hid (jr.mR wr wo.heap.size _ (qE t m' ws)):=ho;have q1v:=aw HR.out HOK.out HWS.out;obtain⟨AW,cw,hvw,tv⟩:=HOC.out.view (fun x hx=>by have:=q1v x hx;have:=HR.out.N1;unfold jr.qG;omega);have hlw:(qE t m' ws).length≤60:=by
      have h1:=br (t:=t) (xH m') 145;have h2:=HTS.out.2;have h3:=HWS.out.few;unfold qE qdv;rw[List.length_append];omega
     have hv2:=qX HV.out kJ.out;have hN:=hv2.dk.1;have hdn:d.n=N:=HJ.out.rb.1;have qui:d.more=[]:=HJ.out.more;have q1w:=jr.il jr.qiy jr.qiz hv2.dk (by rw[hdn];have:=HR.out.N0;omega) AW cw (qE t m' ws) tv (by omega) (HA.out.ct.below kJ.out HA.out.ct.1) (by rw[qui];decide) (by decide);have qsn:=QH q1w;have lM:=QH (jr.pj (N:=N) (tgt:=t) (l:=qE t m' ws) (d:=d) (by have:=HR.out.N0;omega) HR.out.N1 HJ.out HFU.out (qgd HR.out HOK.out HWS.out));have HV2:=QH hv2;obtain⟨bE,k0,k1,k2,k3,k4,k5,k6,k7,k8,k9,cV⟩:=(HA.out.below kJ.out).cells;obtain⟨nw,hnw⟩:=QE ((qE t m' ws).length);rw[hnw]at hvw qsn;have HVW:=QH hvw;rw[hvw];obtain⟨RC,hRC⟩:=QE (jr.xf d (qE t m' ws));rw[hRC]at qsn lM;clear q1v tv hlw hv2 hN hdn qui q1w hnw hvw hRC ho k0 k1 k2 k3 k4 k5 k6 k7 k8 cV;go_wp2_with fail;refine qsn.out.mono ?_;rintro e W6 ⟨rfl,wW,hd6,kV,hg6⟩;obtain⟨r6,d6⟩:=RC;dsimp only at hd6 lM ⊢;have HD6:=QH hd6;have dH:Hid (ib.qz o2 wr W6):=pN kV;have HG6:Hid (∀j,wW j→o2 j∨wr.heap.size≤j):=hg6;have HDJ:=QH HV.out.dj;have hS:=HS.out;have hgS:S≤g:=by rw[← HG.out];exact hS
     have qwK:Hid (∀j,o2 j→j<S):=fun j hj=>q1q.out j (.inr (.inl hj));have nb:=(HA.out.below kJ.out).stay (w':=W6) (fun j hj=>dH.out.block j (by
      rcases hj with hj|rfl
      ·exact Nat.lt_of_lt_of_le (HA.out.low j hj) kJ.out.size
      ·exact Nat.lt_of_lt_of_le HA.out.ct.1 kJ.out.size) (HDJ.out j hj)) dH.out.size
     have HAW:=QH nb;have sS:qg W6 g 98 (zq X0 X1 X2 d0 d1 d2 m'):=(HXK.out.below x9.out).of_block (dH.out.block g (HXK.out.below x9.out).lt (fun e=>by have:=qwK.out g e;omega));have j0:=sS.cell 0;have j1:=sS.cell 1;have j2:=sS.cell 2;have j3:=sS.cell 3;have j4:=sS.cell 4;have j5:=sS.cell 5;have j6:=sS.cell 6;have j7:=sS.cell 7;have j8:=sS.cell 8;have jlt:=sS.lt;simp only[zq,QA,QB,QC]at j0 j1 j2 j3 j4 j5 j6 j7 j8;obtain⟨bE,k0,k1,k2,k3,k4,k5,k6,k7,k8,k9,cV⟩:=nb.cells;have f0:=nb.blk.frozen 0;have f1:=nb.blk.frozen 1;have f2:=nb.blk.frozen 2;have f3:=nb.blk.frozen 3;have f4:=nb.blk.frozen 4;have f5:=nb.blk.frozen 5;have f6:=nb.blk.frozen 6;have f7:=nb.blk.frozen 7;have f8:=nb.blk.frozen 8;have f10:=nb.blk.frozen 10;have qgX:Hid (ib.qz (fun j=>o1 j∨o2 j) w W6):=(ib.qz.of_below (S:=fun j=>o1 j∨o2 j) kJ.out).trans dH.out (fun j hj=>.inl (.inr hj));have hov:=HA.out.own;have HOV:=QH hov;clear hd6 kV hg6 nb sS hov qsn;rcases lM.out with⟨rfl,hjj,hfz,hf0⟩|⟨rfl,quk,hfn,hfz⟩
     ·have HJJ:=QH hjj;have HFZ:=QH hfz;have HF0:=QH hf0;clear hjj hfz hf0 lM;go_wp2_with fail;show bodyPost _ _ _ _ _ (xN W6 v (.slice X0 m'.live.length d0) (.slice X1 m'.qa.length d1) (.slice X2 m'.tok.qo.length d2) m'.tok);obtain⟨WE,hWE⟩:=QE (xN W6 v (.slice X0 m'.live.length d0) (.slice X1 m'.qa.length d1) (.slice X2 m'.tok.qo.length d2) m'.tok);have tB:ib.qz (fun j=>j=v) W6 WE:=by
       rw[← hWE];have go:∀(k:Nat) (u:Value) {W':World},ib.qz (fun j=>j=v) W6 W'→ib.qz (fun j=>j=v) W6 (W'.setCell ⟨v,k,none⟩ u):=fun k u W' h1=>h1.setCell _ _ (.inl rfl);exact go 8 _ (go 7 _ (go 6 _ (go 5 _ (go 4 _ (go 3 _ (go 2 _ (go 1 _ (go 0 _ (ib.qz.refl _ _)))))))))
      have hvk:qg WE v 101 (vC X0 X1 X2 d0 d1 d2 m' pd false):=by
       rw[← hWE];have h9:=((((((((HAW.out.blk.ql 0 (.slice X0 m'.live.length d0)).ql 1 (.slice X1 m'.qa.length d1)).ql 2 (.int .u64 (m'.tok.base.1:Int))).ql 3 (.int .u64 (m'.tok.base.2:Int))).ql 4 (.int .u64 (m'.tok.target.1:Int))).ql 5 (.int .u64 (m'.tok.target.2:Int))).ql 6 (.int .i64 m'.tok.next)).ql 7 (.int .i64 m'.tok.all)).ql 8 (.slice X2 m'.tok.qo.length d2);simp only[vC,List.setIfInBounds_toArray,List.set_cons_succ,List.set_cons_zero]at h9;exact h9
      have hvS:v<S:=q1q.out v (.inl HOV.out);have hwo:wo.heap.size≤wr.heap.size:=x9.out.size;have hst:uS (fun j=>(((o1 j∧j≠v)∨S≤j)∧j≠g)∧j<wo.heap.size) wo WE:=by
       refine⟨Nat.le_trans hwo (Nat.le_trans dH.out.size tB.size),fun j hj hlt=>?_⟩;have hj2:¬ o2 j:=fun e=>by
        rcases hj.1.1 with h|h
        ·exact HDJ.out j (.inl h.1) e
        ·have:=qwK.out j e;omega
       have hjv:¬ j=v:=by
        rcases hj.1.1 with h|h
        ·exact h.2
        ·omega
       rw[tB.block j (Nat.lt_of_lt_of_le (Nat.lt_of_lt_of_le hlt hwo) dH.out.size) hjv,dH.out.block j (Nat.lt_of_lt_of_le hlt hwo) hj2,x9.out.block j hlt]
      have q1z:xL WE:=wK HAW.out.ct tB.size (tB.block gN HAW.out.ct.1 HAW.out.gv);have hvp:VP jL WE (fun j=>o1 j∨(S≤j∧j<wr.heap.size)) wW v pd d6 m' false:=by
       refine⟨⟨X0,X1,X2,d0,d1,d2,hvk,(HXT.out.bound.stay hst).mono (fun j hj=>?_),iX.out,q1z,.inl HOV.out,fun j hj=>?_,HAW.out.gv,?_⟩,HD6.out.keep tB.size (fun j hj=>tB.block j (cU HD6.out j hj) (fun e=>?_)),fun j hj e=>?_⟩
       ·rcases hj.1.1 with h|h
        ·exact⟨.inl h.1,h.2⟩
        ·exact⟨.inr ⟨h,by have:=hj.2;omega⟩,by omega⟩
       ·rcases hj with h|h
        ·exact Nat.lt_of_lt_of_le (HAW.out.low j h) tB.size
        ·have:=dH.out.size;have:=tB.size;omega
       ·intro htg;rcases HOK.out.tok with h|h
        ·exact h
        ·exfalso;have:=h.2.1;rw[htg]at this;unfold above at this;simp at this
       ·rw[e]at hj;rcases HG6.out v hj with h|h
        ·exact HDJ.out v (.inl HOV.out) h
        ·have:=kJ.out.size;omega
       ·rcases HG6.out j e with h|h
        ·rcases hj with(hj|hj)|hj
         ·exact HDJ.out j (.inl hj) h
         ·have:=qwK.out j h;omega
         ·exact HDJ.out j (.inr hj) h
        ·rcases hj with(hj|hj)|hj
         ·have:=HA.out.low j hj;have:=kJ.out.size;omega
         ·omega
         ·have:=HA.out.ct.1;have:=kJ.out.size;unfold gN at hj;rw[hj]at h;omega
      have hbu:ib.qz (fun j=>o1 j∨o2 j) w WE:=qgX.out.trans tB (fun j hj=>.inl (.inl (by rw[hj];exact HOV.out)));have HVP:=QH hvp;have HBU:=QH hbu;rw[hWE];clear tB hvk hst q1z hvp hbu hWE;refine bodyPost_ret (v:=.int .i64 0) (by simp[results,results56,go_sem]) rfl ⟨0,d6,m',false,_,wW,rfl,HVP.out,HBU.out,fun j hj=>?_,.inr (.inl ⟨rfl,rfl,HJJ.out,rfl,rfl,HFZ.out,HF0.out⟩)⟩;rcases hj with(hj|hj)|hj
      ·exact .inl (.inl hj)
      ·exact .inr hj.1
      ·rcases HG6.out j hj with h|h
       ·exact .inl (.inr h)
       ·have:=kJ.out.size;exact .inr (by omega)
     ·have HGO:=QH quk;have HFN:=QH hfn;have HFZ:=QH hfz;have q10:VP jL W6 o1 wW v pd d6 m false:=⟨⟨A0,A1,A2,c0,c1,c2,HAW.out⟩,HD6.out,fun j hj e=>by
       rcases HG6.out j e with h|h
       ·exact HDJ.out j hj h
       ·rcases hj with hj|hj
        ·have:=HA.out.low j hj;have:=kJ.out.size;omega
        ·have:=HA.out.ct.1;have:=kJ.out.size;unfold gN at hj;rw[hj]at h;omega⟩
      have bV:=QH (q09 q10);clear quk hfn hfz lM q10;go_wp2_with fail;go_ret;refine⟨6,d6,m,true,o1,wW,rfl,bV.out.1,qgX.out.trans bV.out.2 (fun j hj=>.inl (.inl (by rw[hj];exact HOV.out))),fun j hj=>?_,.inr (.inr ⟨rfl,rfl,HGO.out,rfl,HFN.out,HFZ.out⟩)⟩;rcases hj with hj|hj
      ·exact .inl (.inl hj)
      ·rcases HG6.out j hj with h|h
       ·exact .inl (.inr h)
       ·have:=kJ.out.size;exact .inr (by omega)
end Go.Proofs.YtdagdllomphidaaGreatDoor.vt.pg
namespace Go.Proofs.YtdagdllomphidaaGreatDoor.vt.pg
open _root_.Go.Proofs.Tryz Go Go.RowKit ib mt im sp
theorem qgM:(prog.info? 55).map (fun i=>(i.zero,i.size,i.bytes))=some (some (.agg #[.int .u64 0,.int .u64 0]),2,16):=by kernel_rfl
def vZ:List Gd→List Value
 | []=>[]
 | x::r=>.int .u64 (x.1:Int) :: .int .u64 (x.2:Int)::vZ r
theorem bW:∀(l r:List Gd),vZ (l++r)=vZ l++vZ r
 | [],_=>rfl
 | x::l,r=>by simp[vZ,bW l r]
theorem rO:∀(l:List Gd) (i:Nat) (h:i<l.length),(vZ l)[i*2]?=some (.int .u64 (l[i].1:Int))∧(vZ l)[i*2+1]?=some (.int .u64 (l[i].2:Int))
 | x::l,0,_=>⟨rfl,rfl⟩
 | x::l,i+1,h=>by
  have:=rO l i (by simpa using h);rw[show(i+1)*2=i*2+1+1 from by omega];exact this
def qoD (w:World)(B:Nat)(v:Value)(l:List Gd):Prop:=w.ownsRow B 55 2 v l.length (vZ l)
theorem qoD.view{w:World}{B:Nat}{v:Value}{l:List Gd}(h:qoD w B v l)(hz:∀x∈l,xn x):∃a c,v=.slice a l.length c∧ch.GdL w a l∧∀b o,a=some ⟨b,o,none⟩→B≤b∧b<w.heap.size:=by
 rcases h.2 with⟨rfl,h0⟩|⟨g,cap,cur,rfl,hg,hh,hcc,hm,hcs,xo⟩
 ·obtain rfl:l=[]:=List.length_eq_zero_iff.1 h0;exact⟨none,0,rfl,(fun i h=>by simp at h),fun _ _ e=>by cases e⟩
 ·refine⟨some ⟨g,0,none⟩,cap,rfl,fun i hi=>?_,fun b o e=>?_⟩
  ·have key:∀(j:Nat) (u:Value),(vZ l)[j]?=some u→w.cell? ⟨g,j,none⟩=some u:=by
      intro j u hu;rw[cell_of_row w g j cur 55 (0,0) hh];rw[← xo,List.getElem?_take]at hu;split at hu
      ·simpa using hu
      ·cases hu
   obtain⟨g0,g1⟩:=rO l i hi;exact⟨g,0,rfl,(Array.getElem?_eq_some_iff.1 hh).1,by rw[Nat.zero_add];exact key _ _ g0,by rw[Nat.zero_add];exact key _ _ g1,hz _ (List.getElem_mem hi)⟩
  ·simp only[Option.some.injEq,Addr.mk.injEq,and_true]at e;obtain⟨rfl,_⟩:=e;exact⟨hg,(Array.getElem?_eq_some_iff.1 hh).1⟩
def GuR (m:Mt)(w:World)(v i:Value)(wr:World):Prop :=
 ∃k:Nat,k≤m.qa.length∧i=.int .i64 (k:Int)∧qoD wr w.heap.size v ((m.qa.take k).map (·.g))∧Below w.heap.size w wr
theorem qk7{w:World}{A0 A1 A2:Option Addr}{c0 c1 c2:Nat}{m:Mt}(hS:jN w A1 m.qa)(bR:m.qa.length≤1000) :
    Calls prog 63 #[.agg (zq A0 A1 A2 c0 c1 c2 m)] w (ch.lu (m.qa.map (·.g)) w):=by
 obtain⟨i0,hi,hz0,hz1,hz2⟩:=info_parts qgM;obtain⟨W1,hW1,zO,hb1⟩:=xV w (zq A0 A1 A2 c0 c1 c2 m);have HS:=QH hS;have qV:=QH hb1;have q1:=zO.cell 1;have mL:=zO.lt;simp only[zq,QA,QB,QC]at q1;clear hS zO hb1;unfold zq at hW1 ⊢;go_enter func63,ntmps63;go_upto_region 1 with fail;try rw[hW1]
 clear hW1;go_wp2_with fail;go_loopw [3,9] (fun v i wr=>GuR m w v i wr) (fun _ i _=>m.qa.length-(intOf i).toNat);case atStart=>exact⟨0,Nat.zero_le _,rfl,World.ownsRow_nil _ _ _ _,qV.out⟩
 case round =>
  obtain⟨k,hk,rfl,ho,hB⟩:=hrel;have HO:=QH ho;have HB:=QH hB;clear ho hB;by_cases hlt:k<m.qa.length
  ·have jW:(k:Int)<(m.qa.length:Int):=by omega
   have hk0:¬ (k:Int)<0:=by omega
   obtain⟨b,o,B,c,hA,s1,s2,s3,s4,s5,s6,_⟩:=(HS.out.below HB.out) k hlt;have eF:Hid ((m.qa.take (k+1)).map (·.g)=(m.qa.take k).map (·.g)++[m.qa[k].g]):=by unfold Hid;rw[List.take_succ_eq_append_getElem hlt,List.map_append];rfl
   have HLK:Hid (((m.qa.take k).map (·.g)).length=k):=by unfold Hid;rw[List.length_map,List.length_take];omega
   subst hA;obtain⟨n,hn⟩:=QE (m.qa[k].qo.length);obtain⟨gd,hgd⟩:=QE (m.qa[k].g);obtain⟨hd,hhd⟩:=QE (m.qa[k].hid);rw[hn]at s4;rw[hgd]at eF s2 s3;rw[hhd]at s5;clear hn hgd hhd s6;obtain⟨ga,gb⟩:=gd;dsimp only at s2 s3;have kF:=(Below.refl _ wr).alloc (Nat.le_refl _) (.cells #[.int .u64 (ga:Int),.int .u64 (gb:Int),.slice B n c,.bool hd] 145);obtain⟨W3,hW3⟩:=QE (wr.alloc (.cells #[.int .u64 (ga:Int),.int .u64 (gb:Int),.slice B n c,.bool hd] 145));have yE:=qg.new wr 145 #[.int .u64 (ga:Int),.int .u64 (gb:Int),.slice B n c,.bool hd];rw[hW3]at kF yE;have r0:=yE.cell 0;have r1:=yE.cell 1;have hrl:=yE.lt;simp only[QA,QB,QC]at r0 r1;have hby:=(Below.refl _ W3).alloc (Nat.le_refl _) (.cells #[.int .u64 (ga:Int),.int .u64 (gb:Int)] 55);have hbz:=qc kF hby;have HO4:Hid ((W3.alloc (.cells #[.int .u64 (ga:Int),.int .u64 (gb:Int)] 55)).ownsRow w.heap.size 55 2 _ ((m.qa.take k).map (·.g)).length (vZ ((m.qa.take k).map (·.g)))):=zX HO.out (fun j hj=>hbz.block j (HO.out.lt j hj).2);have x9:=QH (qc HB.out hbz);have bH:Hid (∀j u,([.int .u64 (ga:Int),.int .u64 (gb:Int)]:List Value)[j]?=some u→(W3.alloc (.cells #[.int .u64 (ga:Int),.int .u64 (gb:Int)] 55)).cell? ((⟨W3.heap.size,0,none⟩:Addr).add j)=some u):=fun j u hu=>by
    rw[addr_add,Nat.zero_add,(qg.new W3 55 #[.int .u64 (ga:Int),.int .u64 (gb:Int)]).cell j];simpa using hu
   clear kF yE hby hbz;have q6T:k≤1000:=by omega
   have e1:∀u∈([.int .u64 (ga:Int),.int .u64 (gb:Int)]:List Value),u.oneCell'=true:=by intro u hu;simp at hu;rcases hu with rfl|rfl <;> rfl
   have E1:=QH e1;have E2:Hid (((m.qa.take k).map (·.g)).length+1≤maxLen):=by unfold Hid;rw[HLK.out];unfold maxLen;omega
   have E3:Hid ((((m.qa.take k).map (·.g)).length+1)*16≤140737488355328):=by unfold Hid;rw[HLK.out];omega
   clear e1;go_wp2_with (at_builtin;refine xt rfl (.tmp 13) (.tmp 16) 52 rfl w.heap.size 55 i0 (.agg #[.int .u64 0,.int .u64 0]) 2 16 underlying52 hi hz0 hz1 hz2 rfl (by decide) _ _ _ rfl HO4.out ⟨W3.heap.size,0,none⟩ 1 1 [.int .u64 (ga:Int),.int .u64 (gb:Int)] rfl rfl bH.out E1.out E2.out E3.out x9.out.size ?_);intro v' w1 hown hgrow _;have jX:Hid (Below w.heap.size w w1):=x9.out.grown hgrow x9.out.size (fun j hj=>(HO4.out.lt j hj).1);have HO5:Hid (qoD w1 w.heap.size v' ((m.qa.take (k+1)).map (·.g))):=by
    unfold Hid qoD;rw[eF.out,bW,List.length_append,HLK.out,List.map_take];exact hown
   clear hown hgrow;go_wp2_with fail;go_roundw;case rel=>exact⟨k+1,by omega,by go_num,HO5.out,jX.out⟩
   case measure=>simp[intOf];omega
  ·obtain rfl:k=m.qa.length:=by omega
   have jW:¬ (m.qa.length:Int)<(m.qa.length:Int):=by omega
   have ho:=HO.out;rw[List.take_length]at ho;obtain⟨A,c,hv,hx,hn⟩:=ho.view (fun g hg=>by
    obtain⟨s,hs,rfl⟩:=List.mem_map.1 hg;exact HS.out.iC s hs)
   have HX:=QH hx;have HV:=QH hv;have HN:=QH hn;clear ho hx hv hn;go_wp2_with fail;go_ret;exact⟨A,c,by rw[HV.out];rfl,HX.out,HN.out,HB.out⟩
theorem tY {x y:Gd}(h:x≠y):(¬ x.1=y.1)∨(x.1=y.1∧¬ x.2=y.2):=by
 by_cases e1:x.1=y.1
 ·exact .inr ⟨e1,fun e2=>h (Prod.ext e1 e2)⟩
 ·exact .inl e1
def eu (f:Tf)(A:Option Addr)(n c:Nat):Array Value:=#[.int .u64 (f.base.1:Int),.int .u64 (f.base.2:Int),.int .u64 (f.target.1:Int),.int .u64 (f.target.2:Int),.int .i64 f.next,.int .i64 f.all,.slice A n c]
theorem qgY{G:Nat→Prop}{w:World}{A0 A1 A2:Option Addr}{c0 c1 c2:Nat}{m:Mt}(ht:kN G w A0 A1 A2 c0 c1 c2 m)(hsz:mtS m)(hG:∀j,w.heap.size≤j→G j)(f:Tf)(A:Option Addr)(n c:Nat) :
    Calls prog 65 #[.agg (zq A0 A1 A2 c0 c1 c2 m),.agg (eu f A n c)] w (qjR G (zJ m f) w):=by
 obtain⟨W1,hW1,zO,hb1⟩:=xV w (zq A0 A1 A2 c0 c1 c2 m);have hb2:=(Below.refl _ W1).alloc (Nat.le_refl _) (.cells (eu f A n c) 59);have hr2:=qg.new W1 59 (eu f A n c);obtain⟨W2,hW2⟩:=QE (W1.alloc (.cells (eu f A n c) 59));rw[hW2]at hb2 hr2;have qC:=QH (qc hb1 hb2);have hk2:=zO.below hb2;have cu:=ht.below qC.out;have HI2:=QH cu.qo;have HBS:=QH (pU (A0:=A0) (A2:=A2) (c0:=c0) (c1:=c1) (c2:=c2) cu.qa hsz (fun j hj=>hG j (Nat.le_trans qC.out.size hj)) m.qa.length (Nat.le_refl _));rw[qjS]at HBS;have q0:=hk2.cell 0;have q1:=hk2.cell 1;have q2:=hk2.cell 2;have q3:=hk2.cell 3;have q4:=hk2.cell 4;have q5:=hk2.cell 5;have q6:=hk2.cell 6;have q7:=hk2.cell 7;have q8:=hk2.cell 8;have r0:=hr2.cell 0;have r1:=hr2.cell 1;have r2:=hr2.cell 2;have r3:=hr2.cell 3;have r5:=hr2.cell 5;have mL:=hk2.lt;have hrl:=hr2.lt;simp only[zq,eu,QA,QB,QC]at q0 q1 q2 q3 q4 q5 q6 q7 q8 r0 r1 r2 r3 r5;have HY:Hid ((m.tok.base=f.base∧m.tok.target=f.target∧m.tok.all=f.all)→zJ m f=m.tok.qo):=fun h=>by unfold zJ;rw[if_pos h]
 have vr:Hid (¬ (m.tok.base=f.base∧m.tok.target=f.target∧m.tok.all=f.all)→zJ m f=xS m):=fun h=>by unfold zJ;rw[if_neg h]
 obtain⟨R,hR⟩:=QE (zJ m f);rw[hR]at HY vr ⊢;clear ht hG zO hb1 hb2 hr2 hk2 cu hR;unfold zq eu at *;go_enter func65,ntmps65;go_upto_region 1 with fail;try rw[hW1]
 try rw[hW2]
 clear hW1 hW2;have FIN:Hid (∀(e:Ending) (W3:World),qjR G (xS m) W2 e W3→R=xS m→qjR G R w e W3):=fun e W3 h hr=>by
  obtain⟨A',c',h1,h2,h3⟩:=h;rw[hr];exact⟨A',c',h1,h2,qc qC.out h3⟩
 have E1:Hid (m.tok.base=f.base→m.tok.base.1=f.base.1∧m.tok.base.2=f.base.2):=fun h=>⟨by rw[h],by rw[h]⟩;have E2:Hid (m.tok.target=f.target→m.tok.target.1=f.target.1∧m.tok.target.2=f.target.2):=fun h=>⟨by rw[h],by rw[h]⟩;by_cases h1:m.tok.base=f.base
 case' neg =>
  have HR:=QH (vr.out (fun h=>h1 h.1));have hgn:=tY h1;clear h1 HY vr E1 E2;rcases hgn with hg|⟨hg,hg2⟩;all_goals
   go_upto_region 3 with fail;first|clear hg2|skip
   clear hg;first|clear e1 e2|skip
   go_wp2_with fail;refine HBS.out.mono ?_;rintro e W3 ⟨A',c',rfl,hs,hb3⟩;have HF:=QH (FIN.out _ _ ⟨A',c',rfl,hs,hb3⟩ HR.out);clear hs hb3;go_wp2_with fail;go_ret;exact HF.out
 obtain⟨e1,e2⟩:=E1.out h1;by_cases h2:m.tok.target=f.target
 case' neg =>
  have HR:=QH (vr.out (fun h=>h2 h.2.1));have hgn:=tY h2;clear h1 h2 HY vr E1 E2;rcases hgn with hg|⟨hg,hg2⟩;all_goals
   go_upto_region 3 with fail;first|clear hg2|skip
   clear hg;first|clear e1 e2|skip
   go_wp2_with fail;refine HBS.out.mono ?_;rintro e W3 ⟨A',c',rfl,hs,hb3⟩;have HF:=QH (FIN.out _ _ ⟨A',c',rfl,hs,hb3⟩ HR.out);clear hs hb3;go_wp2_with fail;go_ret;exact HF.out
 obtain⟨e3,e4⟩:=E2.out h2;by_cases h3:m.tok.all=f.all
 case' neg =>
  have HR:=QH (vr.out (fun h=>h3 h.2.2));clear h1 h2 HY vr E1 E2;go_upto_region 3 with fail;clear h3 e1 e2 e3 e4;go_wp2_with fail;refine HBS.out.mono ?_;rintro e W3 ⟨A',c',rfl,hs,hb3⟩;have HF:=QH (FIN.out _ _ ⟨A',c',rfl,hs,hb3⟩ HR.out);clear hs hb3;go_wp2_with fail;go_ret;exact HF.out
 have HR:=QH (HY.out ⟨h1,h2,h3⟩);clear h1 h2 HY vr E1 E2;go_wp2_with fail;go_ret;rw[HR.out];exact⟨_,_,rfl,HI2.out,qC.out⟩
theorem qk8{w:World}{gb:Nat}(a b:Nat)(B:Option Addr)(n c:Nat)(hd:Bool)(g:Gd)(hgb:gb<w.heap.size)(q0:w.cell? ⟨gb,0,none⟩=some (.int .u64 (g.1:Int)))(q1:w.cell? ⟨gb,1,none⟩=some (.int .u64 (g.2:Int))) :
    Calls prog 121 #[.agg #[.int .u64 (a:Int),.int .u64 (b:Int),.slice B n c,.bool hd],pt gb] w fun e w'=>e=.returned (.bool (decide ((a,b)=g)))∧Below w.heap.size w w':=by
 obtain⟨g1,g2⟩:=g;have hb0:=(Below.refl w.heap.size w).alloc (Nat.le_refl _) (.cells #[.int .u64 (a:Int),.int .u64 (b:Int),.slice B n c,.bool hd] 145);have p0:=(hb0.cell (p:=⟨gb,0,none⟩) hgb).trans q0;have p1:=(hb0.cell (p:=⟨gb,1,none⟩) hgb).trans q1;have HB:=QH hb0;have hq:decide ((a,b)=(g1,g2))=(((a:Int) == (g1:Int))&&((b:Int) == (g2:Int))):=by
  rw[Bool.eq_iff_iff];simp only[decide_eq_true_eq,Bool.and_eq_true,beq_iff_eq,Prod.mk.injEq];omega
 obtain⟨r,hr⟩:=QE (decide ((a,b)=(g1,g2)));rw[hr]at hq ⊢;dsimp only at p0 p1 q0 q1;generalize (a:Int)=x1 at *;generalize (b:Int)=x2 at *;generalize (g1:Int)=y1 at *;generalize (g2:Int)=y2 at *;obtain⟨b1,hb1⟩:=QE (x1 == y1);obtain⟨b2,hb2⟩:=QE (x2 == y2);rw[hb1,hb2]at hq;subst hq;clear hb0 hr;cases b1 <;> cases b2;all_goals
  go_enter func121,ntmps121;go_wp2_with fail;go_ret;exact⟨rfl,HB.out⟩
def tF (l:List Sp)(g:Gd):Int:=match l.findIdx? fun s=>decide (s.g=g)with
 | none=>-1
 | some i=>(i:Int)
theorem qk9{l:List Sp}{g:Gd}{k:Nat}(hk:k<l.length)(hg:l[k].g=g)(hb:∀j (h:j<l.length),j<k→l[j].g≠g):tF l g=(k:Int):=by
 unfold tF;have:(l.findIdx? fun s=>decide (s.g=g))=some k:=by
  rw[List.findIdx?_eq_some_iff_getElem];exact⟨hk,by simpa using hg,fun j hj=>by simpa using hb j (by omega) hj⟩
 rw[this]
theorem qkA{l:List Sp}{g:Gd}(hb:∀j (h:j<l.length),l[j].g≠g):tF l g = -1:=by
 unfold tF;have:(l.findIdx? fun s=>decide (s.g=g))=none:=by
  rw[List.findIdx?_eq_none_iff];intro s hs;obtain⟨j,hj,rfl⟩:=List.getElem_of_mem hs;simpa using hb j hj
 rw[this]
def IxS (l:List Sp)(g:Gd)(w:World)(i:Value)(wr:World):Prop :=
 ∃k:Nat,k≤l.length∧i=.int .i64 (k:Int)∧(∀j (h:j<l.length),j<k→l[j].g≠g)∧Below w.heap.size w wr
theorem qoE{w:World}{gb:Nat}{A:Option Addr}{c:Nat}{l:List Sp}(hS:jN w A l)(bR:l.length≤1000)(g:Gd)(hgb:gb<w.heap.size)(q0:w.cell? ⟨gb,0,none⟩=some (.int .u64 (g.1:Int)))(q1:w.cell? ⟨gb,1,none⟩=some (.int .u64 (g.2:Int))) :
    Calls prog 120 #[.slice A l.length c,.func (.func 121) #[] #[pt gb]] w fun e w'=>e=.returned (.int .i64 (tF l g))∧Below w.heap.size w w':=by
 have HS:=QH hS;have HQ0:=QH q0;have HQ1:=QH q1;have nQ:=QH (fun k hk hg hb=>qk9 (l:=l) (g:=g) (k:=k) hk hg hb);have HRN:=QH (fun hb=>qkA (l:=l) (g:=g) hb);obtain⟨R,hR⟩:=QE (tF l g);rw[hR]at nQ HRN ⊢;clear hS q0 q1 hR;go_enter func120,ntmps120;go_wp2_with fail;go_loopw [8] (fun i wr=>IxS l g w i wr) (fun i _=>l.length-(intOf i).toNat);case atStart=>exact⟨0,Nat.zero_le _,rfl,fun j _ h=>absurd h (by omega),Below.refl _ _⟩
 case round =>
  obtain⟨k,hk,rfl,hno,hB⟩:=hrel;have vr:=QH hno;have HB:=QH hB;clear hno hB;by_cases hlt:k<l.length
  ·have jW:(k:Int)<(l.length:Int):=by omega
   obtain⟨b,o,B,cc,rfl,s1,s2,s3,s4,s5,_⟩:=(HS.out.below HB.out) k hlt;have HYE:=QH (fun(e:l[k].g=g)=>nQ.out k hlt e vr.out);have HNX:Hid (l[k].g≠g→∀j (h:j<l.length),j<k+1→l[j].g≠g):=fun hne j hj hjk=>by
    by_cases qoe:j<k
    ·exact vr.out j hj qoe
    ·obtain rfl:j=k:=by omega
     exact hne
   obtain⟨ga,gb',hd,n,hgd,hn,hh⟩:∃a b' hd n,l[k].g=(a,b')∧l[k].qo.length=n∧l[k].hid=hd:=⟨_,_,_,_,rfl,rfl,rfl⟩;have bI:=QH (qk8 ga gb' B n cc hd g (w:=wr) (Nat.lt_of_lt_of_le hgb HB.out.size) ((HB.out.cell (p:=⟨gb,0,none⟩) hgb).trans HQ0.out) ((HB.out.cell (p:=⟨gb,1,none⟩) hgb).trans HQ1.out));rw[hgd]at s2 s3 HYE HNX;rw[hn]at s4;rw[hh]at s5;dsimp only at s2 s3;have hk0:¬ (k:Int)<0:=by omega
   clear hgd hn hh;go_wp2_with fail;refine bI.out.mono ?_;rintro e W1 ⟨rfl,hb1⟩;have qV:=QH (HB.out.trans (hb1.mono HB.out.size));clear hb1;by_cases hg:(ga,gb')=g
   ·rw[decide_eq_true hg];have HR:=QH (HYE.out hg);clear hg HYE HNX bI;go_wp2_with fail;go_ret;rw[HR.out];exact⟨rfl,qV.out⟩
   ·rw[decide_eq_false hg];have HN:=QH (HNX.out hg);clear hg HYE HNX bI;go_wp2_with fail;go_roundw;case rel=>exact⟨k+1,by omega,by go_num,HN.out,qV.out⟩
    case measure=>simp[intOf];omega
  ·have jW:¬ (k:Int)<(l.length:Int):=by omega
   have HR:=QH (HRN.out (fun j hj=>vr.out j hj (by omega)));go_wp2_with fail;go_ret;rw[HR.out];exact⟨rfl,HB.out⟩
def kQ (m:Mt)(g:Gd):Int × Int:=match pq m g with
 | none=>(0,5)
 | some i=>match m.qa[i]? with
  | none=>(0,5)
  | some s=>if s.hid then(0,14)else((i:Int),0)
theorem qkB(m:Mt)(g:Gd):(tF m.qa g = -1∧kQ m g=(0,5))∨∃i,∃h:i<m.qa.length,tF m.qa g=((i:Nat):Int)∧kQ m g=if m.qa[i].hid then(0,14)else((i:Int),0):=by
 unfold tF kQ pq;cases hf:m.qa.findIdx? fun s=>decide (s.g=g)with
 | none=>exact .inl ⟨rfl,rfl⟩
 | some i =>
  have hi:=(List.findIdx?_eq_some_iff_getElem.1 hf).1;refine .inr ⟨i,hi,rfl,?_⟩;show(match m.qa[i]? with
   | none=>((0:Int),(5:Int))
   | some s=>if s.hid then(0,14)else((i:Int),0))=_
  rw[List.getElem?_eq_getElem hi]
theorem jT {w:World}{A0 A1 A2:Option Addr}{c0 c1 c2:Nat}{m:Mt}(hS:jN w A1 m.qa)(bR:m.qa.length≤1000)(g:Gd) :
    Calls prog 77 #[.agg (zq A0 A1 A2 c0 c1 c2 m),gv g] w fun e w'=>e=.returned (.tuple #[.int .i64 (kQ m g).1,.int .i64 (kQ m g).2])∧Below w.heap.size w w':=by
 obtain⟨g1,g2⟩:=g;obtain⟨W1,hW1,zO,hb1⟩:=xV w (zq A0 A1 A2 c0 c1 c2 m);have hb2:=(Below.refl _ W1).alloc (Nat.le_refl _) (.cells #[.int .u64 (g1:Int),.int .u64 (g2:Int)] 55);have hr2:=qg.new W1 55 #[.int .u64 (g1:Int),.int .u64 (g2:Int)];obtain⟨W2,hW2⟩:=QE (W1.alloc (.cells #[.int .u64 (g1:Int),.int .u64 (g2:Int)] 55));rw[hW2]at hb2 hr2;have qC:=QH (qc hb1 hb2);have hk2:=zO.below hb2;have kh:=QH hk2;have q1:=hk2.cell 1;have mL:=hk2.lt;simp only[zq,QA,QB,QC]at q1;have HS:=QH (hS.below qC.out);have HI:=QH (qoE (c:=c1) HS.out bR (g1,g2) hr2.lt (hr2.cell 0) (hr2.cell 1));have sL:=QH (qkB m (g1,g2));obtain⟨R,hR⟩:=QE (kQ m (g1,g2));rw[hR]at sL ⊢;obtain⟨X,hX⟩:=QE (tF m.qa (g1,g2));rw[hX]at sL HI;clear hS zO hb1 hb2 hr2 hk2 hR hX;show Calls _ _ #[.agg (zq A0 A1 A2 c0 c1 c2 m),.agg #[.int .u64 (g1:Int),.int .u64 (g2:Int)]] _ _;unfold zq at hW1 ⊢;go_enter func77,ntmps77;go_upto_region 1 with fail;try rw[hW1]
 try rw[hW2]
 clear hW1 hW2;go_wp2_with fail;refine HI.out.mono ?_;rintro e W3 ⟨rfl,hb3⟩;have qZ:=QH (qc qC.out hb3);have HS3:=QH (HS.out.below hb3);have hk3:=kh.out.below hb3;have q1:=hk3.cell 1;have mL:=hk3.lt;simp only[zq,QA,QB,QC]at q1;clear hb3 hk3 HI kh HS;rcases sL.out with⟨rfl,hf⟩|⟨i,bG,rfl,hf⟩
 ·have HF:=QH hf;clear hf sL;go_wp2_with fail;go_ret2;rw[HF.out];exact⟨rfl,qZ.out⟩
 ·have HF:=QH hf;obtain⟨b,o,B,cc,rfl,s1,s2,s3,s4,s5,_⟩:=HS3.out i bG;have hii:(i:Int)<(m.qa.length:Int):=by omega
  have hin:¬ (i:Int)<0:=by omega
  generalize m.qa[i].hid=hd at *;clear hf sL s2 s3 s4;cases hd with
  | true =>
   have HF2:Hid (R=(0,14)):=by unfold Hid;simpa using HF.out
   go_wp2_with fail;go_ret2;rw[HF2.out];exact⟨rfl,qZ.out⟩
  | false =>
   have HF2:Hid (R=((i:Int),0)):=by unfold Hid;simpa using HF.out
   go_wp2_with fail;go_ret2;rw[HF2.out];exact⟨rfl,qZ.out⟩
end Go.Proofs.YtdagdllomphidaaGreatDoor.vt.pg
namespace Go.Proofs.YtdagdllomphidaaGreatDoor.vt.pg
open _root_.Go.Proofs.Tryz Go Go.RowKit Go.Sort ib mt im sp
theorem vY:prog.follows .mixedOrders=true:=by kernel_rfl
def TkR (b:Nat)(x:List (Int × Bt))(w:World)(l i:Value)(wr:World):Prop :=
 ∃(k:Nat) (p:Int),k≤x.length∧i=.int .i64 (k:Int)∧l=.int .i64 (p+1) ∧ -1≤p∧p≤1000∧zT b (-1) x=zT b p (x.drop k)∧Below w.heap.size w wr
theorem qgZ{b:Nat}{p:Int}{x:List (Int × Bt)}{k:Nat}(h:k<x.length):zT b p (x.drop k)=(decide (p<x[k].1)&&decide (x[k].1<(b:Int))&&decide (x[k].2.length=32)&&zT b x[k].1 (x.drop (k+1))):=by
 rw[List.drop_eq_getElem_cons h];rfl
theorem qoF{b:Nat}{p k:Int}{s:Bt}{r:Bool}(h:k<p+1∨(b:Int)≤k∨s.length≠32):(decide (p<k)&&decide (k<(b:Int))&&decide (s.length=32)&&r)=false:=by
 rcases h with h|h|h
 ·rw[decide_eq_false (by omega:¬ p<k)];rfl
 ·rw[decide_eq_false (by omega:¬ k<(b:Int))];simp
 ·rw[decide_eq_false h];simp
theorem qkC{b:Nat}{p k:Int}{s:Bt}{r:Bool}(h1:¬ k<p+1)(h2:¬ (b:Int)≤k)(h3:s.length=32):(decide (p<k)&&decide (k<(b:Int))&&decide (s.length=32)&&r)=r:=by
 rw[decide_eq_true (by omega:p<k),decide_eq_true (by omega:k<(b:Int)),decide_eq_true h3];simp
theorem wS {w:World}{A0 A1 A2:Option Addr}{c0 c1 c2:Nat}{m:Mt}(hb8:m.live.length≤1000){A:Option Addr}{c:Nat}{x:List (Int × Bt)}(hx:ch.bw w A x)(dG:x.length≤1000) :
    Calls prog 54 #[.agg (zq A0 A1 A2 c0 c1 c2 m),.slice A x.length c] w (dP (zT m.live.length (-1) x) w):=by
 obtain⟨W1,hW1,zO,hb1⟩:=xV w (zq A0 A1 A2 c0 c1 c2 m);have eI:=QH zO;have qV:=QH hb1;have HX:=QH (hx.below hb1);obtain⟨R,hR⟩:=QE (zT m.live.length (-1) x);have eD:=QH hR;rw[hR];clear hx zO hb1 hR;unfold zq at hW1 ⊢;go_enter func54,ntmps54;go_upto_region 1 with fail;try rw[hW1]
 clear hW1;go_wp2_with fail;go_loopw [5,10] (fun l i wr=>TkR m.live.length x W1 l i wr) (fun _ i _=>x.length-(intOf i).toNat);case atStart=>exact⟨0,-1,Nat.zero_le _,rfl,rfl,by omega,by omega,rfl,Below.refl _ _⟩
 case round =>
  obtain⟨k,p,hk,rfl,rfl,hp1,hp2,hch,hB⟩:=hrel;have HB:=QH hB;have ew:=QH hch;have sX:=QH hp1;clear hB hch;by_cases hlt:k<x.length
  ·have jW:(k:Int)<(x.length:Int):=by omega
   have hk0:¬ (k:Int)<0:=by omega
   obtain⟨b,o,rfl,s1,s2,s3,s4⟩:=(HX.out.below HB.out) k hlt;have HST:=QH (qgZ (b:=m.live.length) (p:=p) hlt);obtain⟨xk,sO⟩:=QE (x[k].1);obtain⟨sk,hsk⟩:=QE (x[k].2);rw[sO,hsk]at HST;rw[sO]at s2 s4;rw[hsk]at s3;obtain⟨S,hS⟩:=QE (str sk);have hSl:S.size=sk.length:=by rw[← hS,qT]
   rw[hS]at s3;have cn:=QH hSl;obtain⟨L,hL⟩:=QE (p+1);have HLL:=QH hL;rw[hL];have kF:=(Below.refl _ wr).alloc (Nat.le_refl _) (.cells #[.int .i64 xk,.string S] 62);have HBX:=QH (qc HB.out kF);have hq:=eI.out.below HBX.out;have q0:=hq.cell 0;have mL:=hq.lt;simp only[zq,List.getElem?_toArray,List.getElem?_cons_zero]at q0;have HS4:=QH s4;clear sO hsk hS hSl hL hq kF s4 hp1 hp2;have no:xk<p+1∨(m.live.length:Int)≤xk∨sk.length≠32→R=false:=fun h=>by rw[← eD.out,ew.out,HST.out,qoF h]
   have vr:=QH no;clear no;by_cases h1:xk<L
   ·have HF:=QH (vr.out (.inl (by rw[HLL.out];exact h1)));go_wp2_with fail;go_ret;exact⟨by rw[HF.out];rfl,qc qV.out HBX.out⟩
   ·by_cases h2:(m.live.length:Int)≤xk
    ·have HF:=QH (vr.out (.inr (.inl h2)));go_wp2_with fail;go_ret;exact⟨by rw[HF.out];rfl,qc qV.out HBX.out⟩
    ·by_cases h3:(S.size:Int)=32
     ·have h3b:((S.size:Int) != 32)=false:=by rw[h3];rfl
      have h3n:sk.length=32:=by have:=cn.out;omega
      have HYE:Hid (zT m.live.length (-1) x=zT m.live.length xk (x.drop (k+1))):=by unfold Hid;rw[ew.out,HST.out,qkC (by rw[HLL.out];exact h1) h2 h3n]
      have hx1:¬ xk<p+1:=by rw[HLL.out];exact h1
      have hxr : -9223372036854775808≤xk∧xk≤9223372036854775807:=HS4.out;have hw:IntKind.i64.wrap (xk+1)=xk+1:=by rw[IntWalk.i64_in _ (by omega)]
      have HPR:Hid (-1≤xk∧xk≤1000):=by have:=sX.out;unfold Hid;omega
      clear h3 h3n HST ew vr hx1 hxr HLL;go_wp2_with fail;go_roundw;case rel=>exact⟨k+1,xk,by omega,by go_num,rfl,HPR.out.1,HPR.out.2,HYE.out,HBX.out⟩
      case measure=>simp[intOf];omega
     ·have h3b:((S.size:Int) != 32)=true:=by simpa using h3
      have HF:=QH (vr.out (.inr (.inr (by have:=cn.out;omega))));clear h3;go_wp2_with fail;go_ret;exact⟨by rw[HF.out];rfl,qc qV.out HBX.out⟩
  ·have jW:¬ (k:Int)<(x.length:Int):=by omega
   have HF:Hid (R=true):=by unfold Hid;rw[← eD.out,ew.out,List.drop_eq_nil_of_le (by omega)];rfl
   go_wp2_with fail;go_ret;exact⟨by rw[HF.out];rfl,qc qV.out HB.out⟩
theorem rP {w:World}{A0 A1 A2:Option Addr}{c0 c1 c2:Nat}{m:Mt}(hS:jN w A1 m.qa)(bR:m.qa.length≤1000)(g:Gd) :
    Calls prog 76 #[.agg (zq A0 A1 A2 c0 c1 c2 m),gv g] w (qiI (if above g (qF m)=false then 2 else if 20≤m.qa.length then 3 else 0) w):=by
 obtain⟨g1,g2⟩:=g;obtain⟨W1,hW1,zO,hb1⟩:=xV w (zq A0 A1 A2 c0 c1 c2 m);have hb2:=(Below.refl _ W1).alloc (Nat.le_refl _) (.cells #[.int .u64 (g1:Int),.int .u64 (g2:Int)] 55);have hr2:=qg.new W1 55 #[.int .u64 (g1:Int),.int .u64 (g2:Int)];obtain⟨W,hW2⟩:=QE (W1.alloc (.cells #[.int .u64 (g1:Int),.int .u64 (g2:Int)] 55));rw[hW2]at hb2 hr2;have qC:=QH (qc hb1 hb2);have hk2:=zO.below hb2;have HS:=QH (hS.below qC.out);have q0:=hk2.cell 0;have q1:=hk2.cell 1;have q2:=hk2.cell 2;have q3:=hk2.cell 3;have q4:=hk2.cell 4;have q5:=hk2.cell 5;have q6:=hk2.cell 6;have q7:=hk2.cell 7;have q8:=hk2.cell 8;have r0:=hr2.cell 0;have r1:=hr2.cell 1;simp only[zq,QA,QB,QC]at q0 q1 q2 q3 q4 q5 q6 q7 q8 r0 r1;have e0:=fun d os=>cell_regrown q0 d os;have e1:=fun d os=>cell_regrown q1 d os;have e2:=fun d os=>cell_regrown q2 d os;have e3:=fun d os=>cell_regrown q3 d os;have e4:=fun d os=>cell_regrown q4 d os;have e5:=fun d os=>cell_regrown q5 d os;have e6:=fun d os=>cell_regrown q6 d os;have e7:=fun d os=>cell_regrown q7 d os;have e8:=fun d os=>cell_regrown q8 d os;have p0:=fun d os=>cell_regrown r0 d os;have p1:=fun d os=>cell_regrown r1 d os;have cL:∀b os,Calls prog 112 #[.agg (zq A0 A1 A2 c0 c1 c2 m)] (grow (redrawn W b) os) fun e w''=>e=.returned (gv (qF m))∧∃q:Regrown,w''=grow (redrawn W q.d) q.os :=
  fun b os=>Calls.regrown_of (qay (HS.out.below (below_regrown W b os)) bR)
 have cA:∀b os,Calls prog 113 #[gv (g1,g2),gv (qF m)] (grow (redrawn W b) os) fun e w''=>e=.returned (.bool (above (g1,g2) (qF m)))∧∃q:Regrown,w''=grow (redrawn W q.d) q.os :=
  fun b os=>Calls.regrown_of (pR (g1,g2) (qF m) _)
 obtain⟨L,hL⟩:=QE (gv (qF m));rw[hL]at cA cL;generalize above (g1,g2) (qF m)=q at *;have HQ1:=QH q1;clear hS zO hb1 hb2 hr2 hk2 q0 q1 q2 q3 q4 q5 q6 q7 q8 r0 r1 hL;show Calls _ _ #[.agg (zq A0 A1 A2 c0 c1 c2 m),.agg #[.int .u64 (g1:Int),.int .u64 (g2:Int)]] _ _;unfold gv at cA;unfold zq at hW1 cL ⊢;dsimp only at cA;go_enter func76,ntmps76;go_upto_region 1 with fail;try rw[hW1]
 try rw[hW2]
 clear hW1 hW2;refine wp_region_quiet_below vY (by kernel_rfl) ?_;repeat (any_goals (first|go_big_quiet_step (first|exact cL _ _|exact cA _ _)|quiet_step (first|exact cL _ _|exact cA _ _)))
 refine wpQuiet_nil ?_;intro _ hw';obtain⟨⟨dq,osq⟩,hw''⟩:=hw';subst hw'';have q1:=e1 dq osq;have hb:=below_regrown W dq osq;have qZ:=QH (qc qC.out hb);clear hb e0 e1 e2 e3 e4 e5 e6 e7 e8 p0 p1 cL cA qC HS HQ1;generalize grow (redrawn W dq) osq=W3 at *;cases q with
 | false =>
  go_wp2_with fail;go_ret;exact⟨rfl,qZ.out⟩
 | true =>
  by_cases hx:(20:Int)≤(m.qa.length:Int)
  ·go_wp2_with fail;go_ret;exact⟨rfl,qZ.out⟩
  ·go_wp2_with fail;go_ret;exact⟨rfl,qZ.out⟩
theorem jz {o:Nat→Prop}{w:World}{v pd:Nat}{m:Mt}{l:Bool}(h:jL o w v pd m l):Calls prog 35 #[pt v] w fun e w'=>e=.returned (.int .i64 (m.live.length:Int))∧Below w.heap.size w w':=by
 obtain⟨A0,A1,A2,c0,c1,c2,hA⟩:=h;obtain⟨bE,k0,_⟩:=hA.cells;clear hA;go_enter func35,ntmps35;go_wp2_with fail;go_ret;exact⟨rfl,Below.refl _ _⟩
theorem qej(w:World):Calls prog 35 #[.pointer none] w fun e w'=>e=.returned (.int .i64 0)∧Below w.heap.size w w':=by
 go_enter func35,ntmps35;go_wp2_with fail;go_ret;exact⟨rfl,Below.refl _ _⟩
theorem wm {o:Nat→Prop}{w:World}{v pd:Nat}{m:Mt}{l:Bool}(h:jL o w v pd m l):Calls prog 22 #[pt v] w (ch.lu (m.qa.map (·.g)) w):=by
 obtain⟨A0,A1,A2,c0,c1,c2,hA⟩:=h;have HG:=QH (qk7 (A0:=A0) (A2:=A2) (c0:=c0) (c1:=c1) (c2:=c2) hA.tab.mt.qa hA.sz.qa);obtain⟨bE,k0,k1,k2,k3,k4,k5,k6,k7,k8,k9,cV⟩:=hA.cells;unfold zq at HG;clear hA;go_enter func22,ntmps22;go_wp2_with fail;refine HG.out.mono ?_;rintro e W1 ⟨A,cc,rfl,h1,h2,h3⟩;have H1:=QH h1;have H2:=QH h2;have H3:=QH h3;clear h1 h2 h3 HG;go_wp2_with fail;go_ret;exact⟨A,cc,by rw[List.length_map];rfl,H1.out,H2.out,H3.out⟩
theorem lN (w:World):Calls prog 22 #[.pointer none] w (ch.lu [] w):=by
 go_enter func22,ntmps22;go_wp2_with fail;go_ret;exact⟨none,0,rfl,fun i h=>absurd h (by simp),ib.uE.none _ _,Below.refl _ _⟩
section
variable {o1 o2:Nat→Prop} {w:World} {v pd N b:Nat} {d:DD} {m:Mt} {l:Bool} {t:Tg}
theorem rQ (h:VP jL w o1 o2 v pd d m false)(hJ:jr.JJ N t d)(hR:qW b N t m):Calls prog 16 #[pt v] w (ch.kg (volume t m.live,0) w):=by
 obtain⟨A0,A1,A2,c0,c1,c2,hA⟩:=h.is;have HA:=QH hA;have xF:=QH (jS h hJ.on);have HLV:=QH (wT h hJ hA.tab.mt.live hA.sz.live (fun z hz=>hR.ok.live.2.1 z hz));obtain⟨bE,k0,k1,k2,k3,k4,k5,k6,k7,k8,k9,cV⟩:=hA.cells;clear h hJ hR hA;go_enter func16,ntmps16;go_wp2_with fail;refine xF.out.mono ?_;rintro e W1 ⟨rfl,rfl⟩;go_wp2_with fail;refine HLV.out.mono ?_;rintro e W1 ⟨A,cc,rfl,h1,h2,h3⟩;have H1:=QH h1;have H2:=QH h2;have H3:=QH h3;clear h1 h2 h3 HLV xF;go_wp2_with fail;go_ret2;exact⟨A,cc,rfl,H1.out,H2.out,H3.out⟩
theorem qek(h:VP jL w o1 o2 v pd d m l)(hl:l=true∨d.on=false):Calls prog 16 #[pt v] w fun e w'=>e=.returned (.tuple #[.slice none 0 0,.int .i64 6])∧VP jL w' o1 o2 v pd d m true∧ib.qz (fun j=>j=v) w w':=by
 have xF:=QH (bB h hl);clear h hl;go_enter func16,ntmps16;go_wp2_with fail;refine xF.out.mono ?_;rintro e W1 ⟨rfl,h1,h2⟩;have H1:=QH h1;have H2:=QH h2;clear h1 h2 xF;go_wp2_with fail;go_ret2;exact⟨rfl,H1.out,H2.out⟩
end
theorem lO (w:World):Calls prog 16 #[.pointer none] w (ch.kg ([],1) w):=by
 have xF:=QH (yh w);go_enter func16,ntmps16;go_wp2_with fail;refine xF.out.mono ?_;rintro e W1 ⟨rfl,rfl⟩;go_wp2_with fail;go_ret2;exact⟨none,0,rfl,fun i h=>absurd h (by simp),ib.uE.none _ _,Below.refl _ _⟩
theorem nc (t:Tg)(m:Mt)(g:Gd):(∃c,c≠0∧kQ m g=(0,c)∧(zD t m).read g=([],c)∧uQ m g=⟨c,m,[]⟩) ∨
    ∃i,∃h:i<m.qa.length,kQ m g=((i:Int),0)∧(zD t m).read g=(volume t m.qa[i].qo,0)∧uQ m g=⟨0,{ m with qa:=xO m.qa i },[]⟩:=by
 unfold kQ uQ ch.CH.read;rw[qd1];cases hf:pq m g with
 | none=>exact .inl ⟨5,by decide,rfl,rfl,rfl⟩
 | some i =>
  have hi:i<m.qa.length:=(List.findIdx?_eq_some_iff_getElem.1 hf).1;have e:(zD t m).qa[i]?=some (fH t m.qa[i]):=by simp[zD,hi]
  dsimp only;rw[e,List.getElem?_eq_getElem hi];dsimp only;have eh:(fH t m.qa[i]).hid=m.qa[i].hid:=rfl;rw[eh];cases hh:m.qa[i].hid with
  | true=>exact .inl ⟨14,by decide,by simp,by simp,by simp⟩
  | false=>exact .inr ⟨i,hi,by simp,by simp[fH],by simp⟩
theorem qkD{o1 o2:Nat→Prop}{w:World}{v pd N b:Nat}{d:DD}{m:Mt}{t:Tg}(g:Gd)(h:VP jL w o1 o2 v pd d m false)(hJ:jr.JJ N t d)(hR:qW b N t m):Calls prog 32 #[pt v,gv g] w (ch.kg ((zD t m).read g) w):=by
 obtain⟨g1,g2⟩:=g;have hb2:=(Below.refl _ w).alloc (Nat.le_refl _) (.cells #[.int .u64 (g1:Int),.int .u64 (g2:Int)] 55);have hr2:=qg.new w 55 #[.int .u64 (g1:Int),.int .u64 (g2:Int)];obtain⟨W,hW2⟩:=QE (w.alloc (.cells #[.int .u64 (g1:Int),.int .u64 (g2:Int)] 55));rw[hW2]at hb2 hr2;have h2:=qX h hb2;obtain⟨A0,A1,A2,c0,c1,c2,hA⟩:=h2.is;have HA:=QH hA;have HV:=QH h2;have HJ:=QH hJ;have HR:=QH hR;have qC:=QH hb2;have xF:=QH (jS h2 hJ.on);have iX:=QH hA.sz;obtain⟨bE,k0,k1,k2,k3,k4,k5,k6,k7,k8,k9,cV⟩:=hA.cells;have r0:=hr2.cell 0;have r1:=hr2.cell 1;have rlt:=hr2.lt;simp only[Nat.zero_add,QA,QB,QC]at r0 r1;have e0:=fun d os=>cell_regrown k0 d os;have e1:=fun d os=>cell_regrown k1 d os;have e2:=fun d os=>cell_regrown k2 d os;have e3:=fun d os=>cell_regrown k3 d os;have e4:=fun d os=>cell_regrown k4 d os;have e5:=fun d os=>cell_regrown k5 d os;have e6:=fun d os=>cell_regrown k6 d os;have e7:=fun d os=>cell_regrown k7 d os;have e8:=fun d os=>cell_regrown k8 d os;have p0:=fun d os=>cell_regrown r0 d os;have p1:=fun d os=>cell_regrown r1 d os;have cF:∀b os,Calls prog 77 #[.agg (zq A0 A1 A2 c0 c1 c2 m),gv (g1,g2)] (grow (redrawn W b) os) fun e w''=>e=.returned (.tuple #[.int .i64 (kQ m (g1,g2)).1,.int .i64 (kQ m (g1,g2)).2])∧∃q:Regrown,w''=grow (redrawn W q.d) q.os :=
  fun b os=>Calls.regrown_of (jT (HA.out.below (below_regrown W b os)).tab.mt.qa iX.out.qa (g1,g2))
 have HFC:=QH (nc t m (g1,g2));have hE0:∀(c:Int),kQ m (g1,g2)=(0,c)→kQ m (g1,g2)=(0,c):=fun _ h=>h;obtain⟨R,hR'⟩:=QE ((zD t m).read (g1,g2));obtain⟨F,hF⟩:=QE (kQ m (g1,g2));rw[hF,hR']at HFC;rw[hF]at cF;rw[hR'];obtain⟨F1,F2⟩:=F;clear h h2 hJ hR hA hb2 hr2 hR' hF hE0;unfold gv at cF;unfold zq at cF;dsimp only at cF;show Calls _ _ #[pt v,.agg #[.int .u64 (g1:Int),.int .u64 (g2:Int)]] _ _;go_enter func32,ntmps32;go_upto_region 1 with fail;try rw[hW2]
 clear hW2;go_wp2_with fail;refine xF.out.mono ?_;rintro e W1 ⟨rfl,rfl⟩;clear xF;go_upto_region 4 with fail;refine wp_region_quiet_below vY (by kernel_rfl) ?_;repeat (any_goals (first|go_big_quiet_step (first|exact cF _ _)|quiet_step (first|exact cF _ _)))
 refine wpQuiet_nil ?_;intro _ hw';obtain⟨⟨dq,osq⟩,hw''⟩:=hw';subst hw'';have hb:=below_regrown W dq osq;have qZ:=QH (qc qC.out hb);have HV3:=QH (qX HV.out hb);have cj:=QH (HA.out.below hb);clear hb e0 e1 e2 e3 e4 e5 e6 e7 e8 p0 p1 cF HA HV qC bE k0 k1 k2 k3 k4 k5 k6 k7 k8 k9 cV r0 r1 rlt;generalize grow (redrawn W dq) osq=W3 at *;rcases HFC.out with⟨c,hc,hf,wM,_⟩|⟨i,hi,hf,wM,_⟩
 ·obtain⟨rfl,rfl⟩:=Prod.mk.inj hf;have hcb:(F2 != 0)=true:=by simpa using hc
  have xF:=QH wM;clear hc wM hf HFC;go_wp2_with fail;go_ret2;rw[xF.out];exact⟨none,0,rfl,fun i h=>absurd h (by simp),ib.uE.none _ _,qZ.out⟩
 ·obtain⟨rfl,rfl⟩:=Prod.mk.inj hf;have xF:=QH wM;obtain⟨b',o',B,cc,rfl,s1,s2,s3,s4,s5,s6,s7⟩:=cj.out.tab.mt.qa i hi;have iD:=QH (wT HV3.out HJ.out s6 (iX.out.uF _ (List.getElem_mem hi)) (fun z hz=>(HR.out.ok.uF _ (List.getElem_mem hi)).2.1 z hz));obtain⟨bE,k0,k1,k2,k3,k4,k5,k6,k7,k8,k9,cV⟩:=cj.out.cells;have hii:(i:Int)<(m.qa.length:Int):=by omega
  have hin:¬ (i:Int)<0:=by omega
  generalize m.qa[i].qo=im at *;clear wM hf HFC s2 s3 s5 s6 s7 hi;go_wp2_with fail;refine iD.out.mono ?_;rintro e W4 ⟨A,cc',rfl,h1,h2,h3⟩;have H1:=QH h1;have H2:=QH h2;have H3:=QH h3;clear h1 h2 h3 iD;go_wp2_with fail;go_ret2;rw[xF.out];exact⟨A,cc',rfl,H1.out,fun b o e=>⟨Nat.le_trans qZ.out.size (H2.out b o e).1,(H2.out b o e).2⟩,qc qZ.out H3.out⟩
theorem lQ (g:Gd)(w:World):Calls prog 32 #[.pointer none,gv g] w (ch.kg ([],1) w):=by
 have HB:=QH ((Below.refl w.heap.size w).alloc (Nat.le_refl _) (.cells #[.int .u64 (g.1:Int),.int .u64 (g.2:Int)] 55));have xF:Hid (∀W,Calls prog 52 #[.pointer none] W fun e w'=>e=.returned (.int .i64 1)∧W=w'):=fun W=>yh W;unfold gv;go_enter func32,ntmps32;go_wp2_with fail;refine(xF.out _).mono ?_;rintro e W1 ⟨rfl,rfl⟩;go_wp2_with fail;go_ret2;exact⟨none,0,rfl,fun i h=>absurd h (by simp),ib.uE.none _ _,HB.out⟩
end Go.Proofs.YtdagdllomphidaaGreatDoor.vt.pg
namespace Go.Proofs.YtdagdllomphidaaGreatDoor.vt.pg
open _root_.Go.Proofs.Tryz Go Go.RowKit Go.Sort ib mt im sp
def aL (w:World)(g:Nat)(A:Option Addr)(l:List Int):Prop:=∀i (h:i<l.length),∃b o,A=some ⟨b,o,none⟩∧b≠g∧b<w.heap.size∧w.cell? ⟨b,o+i,none⟩=some (.int .i64 l[i])
theorem aL.set{w:World}{g k:Nat}{u:Value}{A:Option Addr}{l:List Int}(h:aL w g A l):aL (w.setCell ⟨g,k,none⟩ u) g A l:=by
 intro i hi;obtain⟨b,o,h1,h2,h3,h4⟩:=h i hi;exact⟨b,o,h1,h2,by simpa[World.setCell]using h3,(World.cell?_of_block (a:=⟨b,o+i,none⟩) (qD _ _ _ _ _ h2)).trans h4⟩
theorem aL.below{w w':World}{g:Nat}{A:Option Addr}{l:List Int}(h:aL w g A l)(hb:Below w.heap.size w w'):aL w' g A l:=by
 intro i hi;obtain⟨b,o,h1,h2,h3,h4⟩:=h i hi;exact⟨b,o,h1,h2,Nat.lt_of_lt_of_le h3 hb.size,(hb.cell (p:=⟨b,o+i,none⟩) h3).trans h4⟩
theorem aL.tail{w:World}{g b o:Nat}{f:Int}{l:List Int}(h:aL w g (some ⟨b,o,none⟩) (f::l)):aL w g (some ⟨b,o+1,none⟩) l:=by
 intro i hi;obtain⟨b',o',h1,h2,h3,h4⟩:=h (i+1) (by simpa using hi);simp only[Option.some.injEq,Addr.mk.injEq,and_true]at h1;obtain⟨rfl,rfl⟩:=h1;refine⟨b,o+1,rfl,h2,h3,?_⟩;rw[show o+1+i=o+(i+1)by omega];exact h4
structure Pk(x:List (Int × Bt))(fr:List Int)(k:Nat)(pre fr':List Int):Prop where
 le:k≤x.length
 len:pre.length=k
 all:(qd fr x).1=pre++(qd fr' (x.drop k)).1
 room:full (x.drop k)≤fr'.length
theorem Pk.start(x:List (Int × Bt))(fr:List Int)(h:full x≤fr.length):Pk x fr 0 [] fr:=⟨Nat.zero_le _,rfl,rfl,h⟩
theorem rR (c:Int × Bt)(r:List (Int × Bt)):full (c::r)=full r+if c.2=zb then 0 else 1:=by obtain⟨a,b⟩:=c;exact wI a b r
theorem qha(fr:List Int)(y:Int × Bt)(r:List (Int × Bt))(h:y.2=zb):qd fr (y::r)=(0::(qd fr r).1,(qd fr r).2):=by
 obtain⟨a,b⟩:=y;dsimp only at h;cases fr <;> simp[qd,h]
theorem qhb(f:Int)(fr:List Int)(y:Int × Bt)(r:List (Int × Bt))(h:¬ y.2=zb):qd (f::fr) (y::r)=(f::(qd fr r).1,(f,y.2)::(qd fr r).2):=by
 obtain⟨a,b⟩:=y;dsimp only at h;simp[qd,h]
theorem Pk.zero{x:List (Int × Bt)}{fr pre fr':List Int}{k:Nat}(h:Pk x fr k pre fr')(hk:k<x.length)(hz:x[k].2=zb):Pk x fr (k+1) (pre++[0]) fr':=by
 obtain⟨h1,h2,h3,h4⟩:=h;rw[List.drop_eq_getElem_cons hk]at h3 h4;rw[qha _ _ _ hz]at h3;rw[rR,if_pos hz]at h4;exact⟨by omega,by simp[h2],by rw[h3];simp,by omega⟩
theorem Pk.more{x:List (Int × Bt)}{fr pre fr':List Int}{k:Nat}(h:Pk x fr k pre fr')(hk:k<x.length)(hz:¬ x[k].2=zb):∃f r,fr'=f::r∧Pk x fr (k+1) (pre++[f]) r:=by
 obtain⟨h1,h2,h3,h4⟩:=h;rw[List.drop_eq_getElem_cons hk]at h3 h4;rw[rR,if_neg hz]at h4;cases fr' with
 | nil=>simp at h4
 | cons f r =>
  rw[qhb _ _ _ _ hz]at h3;exact⟨f,r,rfl,by omega,by simp[h2],by rw[h3];simp,by simp at h4;omega⟩
theorem Pk.stop{x:List (Int × Bt)}{fr pre fr':List Int}(h:Pk x fr x.length pre fr'):(qd fr x).1=pre:=by
 obtain⟨h1,h2,h3,h4⟩:=h;rw[List.drop_length]at h3;simpa[qd]using h3
def Pw (x:List (Int × Bt))(pre:List Int):List Pl:=PL x (pre++List.replicate (x.length-pre.length) 0)
theorem qwN(x:List (Int × Bt)):Pw x []=P0 x:=by
 unfold Pw PL P0;apply List.ext_getElem
 ·simp
 ·intro i h1 h2;simp
theorem rS {x:List (Int × Bt)}{pre:List Int}(h:pre.length≤x.length):(Pw x pre).length=x.length:=by
 unfold Pw PL;rw[List.length_zipWith,List.length_append,List.length_replicate];omega
theorem qoG{x:List (Int × Bt)}{pre:List Int}{k:Nat}(hp:pre.length=k)(hk:k<x.length)(h:k<(Pw x pre).length):(Pw x pre)[k]=(x[k].1,0,x[k].2):=by
 simp only[Pw,PL,List.getElem_zipWith];rw[List.getElem_append_right (by omega),List.getElem_replicate]
theorem qoH{x:List (Int × Bt)}{pre:List Int}{k:Nat}(hp:pre.length=k)(hk:k<x.length)(a:Int):(Pw x pre).set k (x[k].1,a,x[k].2)=Pw x (pre++[a]):=by
 apply List.ext_getElem
 ·rw[List.length_set,rS (by omega),rS (by simp;omega)]
 ·intro i h1 h2;rw[List.getElem_set];have hix:i<x.length:=by rw[rS (by simp;omega)]at h2;exact h2
  by_cases e:k=i
  ·subst e;rw[if_pos rfl];simp only[Pw,PL,List.getElem_zipWith];rw[List.getElem_append_left (by simp;omega),List.getElem_append_right (by omega)];simp[hp]
  ·rw[if_neg e];simp only[Pw,PL,List.getElem_zipWith]
   congr 2
   by_cases h3:i<pre.length
   ·rw[List.getElem_append_left h3,List.getElem_append_left (by simp;omega),List.getElem_append_left h3]
   ·rw[List.getElem_append_right (by omega),List.getElem_append_right (by simp;omega)];simp
theorem qso{x:List (Int × Bt)}{pre:List Int}{k:Nat}(hp:pre.length=k)(hk:k<x.length):Pw x (pre++[0])=Pw x pre:=by
 rw[← qoH hp hk 0];have h:=rS (x:=x) (pre:=pre) (by omega);rw[← qoG hp hk (by omega),List.set_getElem_self]
theorem qwO{x:List (Int × Bt)}{pre:List Int}(h:pre.length=x.length):Pw x pre=PL x pre:=by
 unfold Pw;rw[h,Nat.sub_self,List.replicate_zero,List.append_nil]
def Pl2 (x:List (Int × Bt))(fr:List Int)(B:Nat)(bv:Value)(g:Nat)(w:World)(s i:Value)(wr:World):Prop :=
 ∃(k:Nat) (pre fr':List Int) (A:Option Addr) (c:Nat),i=.int .i64 (k:Int)∧s=.slice A fr'.length c∧fr'.length≤c∧Pk x fr k pre fr'∧aL wr g A fr'∧OPl wr B bv (Pw x pre)∧Below w.heap.size w wr
theorem qaB{cs:List Int}{n:Nat}(h:(jl cs (n:Int)).2=0):n≤(jl cs (n:Int)).1.length:=by
 unfold jl at h ⊢;rw[if_neg (by omega)]at h ⊢;by_cases hf:(yn cs:Int)<(n:Int)
 ·rw[if_pos hf]at h;simp at h
 ·rw[if_neg hf];rw[Int.toNat_natCast];show n≤((qY cs cs.length).take n).length;unfold yn at hf;rw[List.length_take];omega
theorem rT {o1 o2:Nat→Prop}{w:World}{v pd N:Nat}{d:DD}{m:Mt}{l:Bool}{b:Nat}(h:VP jL w o1 o2 v pd d m l)(hn:d.n=N)(jV:yD b N m)(hN:N≤1024){A:Option Addr}{c:Nat}{x:List (Int × Bt)}(hx:ch.bw w A x)(dG:x.length≤8)(h32:∀y∈x,y.2.length=32) :
    Calls prog 55 #[pt v,.slice A x.length c] w (qiq (qw N m x) x w):=by
 obtain⟨i0,hi,hz0,hz1,hz2⟩:=info_parts qw8;have HV:=QH h;have HX:=QH hx;have H32:=QH h32;obtain⟨cs,hcs,hcl,_,_⟩:=cM jV hN;have hfull:=qb1 x;have HCS:=QH hcs;have HNN:=QH hn;clear h hx h32 hcs jV hn;go_enter func55,ntmps55;go_wp2_with fail;go_loopw [6,7,16] (fun v f i wr=>PlR x w v f i wr) (fun _ _ i _=>x.length-(intOf i).toNat);case atStart=>exact⟨0,Nat.zero_le _,rfl,rfl,World.ownsRow_nil _ _ _ _,Below.refl _ _⟩
 case round =>
  obtain⟨k,hk,rfl,rfl,ho,hB⟩:=hrel;have HO:=QH ho;have HB:=QH hB;clear ho hB;by_cases hlt:k<x.length
  ·have jW:(k:Int)<(x.length:Int):=by omega
   have hk0:¬ (k:Int)<0:=by omega
   obtain⟨b',o,rfl,s1,s2,s3,_⟩:=(HX.out.below HB.out) k hlt;have eF:Hid (P0 (x.take (k+1))=P0 (x.take k)++[(x[k].1,0,x[k].2)]):=by unfold Hid P0;rw[List.take_succ_eq_append_getElem hlt,List.map_append];rfl
   have HLK:Hid ((P0 (x.take k)).length=k):=by unfold Hid P0;rw[List.length_map,List.length_take];omega
   have HFT:=QH (qkx hlt);have hft:full (x.take k)≤k:=by have:=qb1 (x.take k);rw[List.length_take]at this;omega
   have HZ:Hid (∀W,Calls prog 101 #[.string (str x[k].2)] W (dP (decide (x[k].2=zb)) W)):=fun W=>mW _ (H32.out _ (List.getElem_mem hlt)) W;obtain⟨y,hy⟩:=QE (x[k]);rw[hy]at eF HFT HZ s2 s3;clear hy;obtain⟨kb,s⟩:=y;dsimp only at eF HFT HZ s2 s3;obtain⟨fl,dw⟩:=QE (full (x.take k));rw[dw]at HFT hft ⊢;obtain⟨S,hS⟩:=QE (str s);have HSS:=QH hS;rw[hS]at s3 HZ;clear dw hS;have kF:=(Below.refl _ wr).alloc (Nat.le_refl _) (.cells #[.int .i64 kb,.string S] 62);obtain⟨W3,hW3⟩:=QE (wr.alloc (.cells #[.int .i64 kb,.string S] 62));have yE:=qg.new wr 62 #[.int .i64 kb,.string S];rw[hW3]at kF yE;have yP:=QH yE;have r0:=yE.cell 0;have r1:=yE.cell 1;have hrl:=yE.lt;simp only[QA,QB,QC]at r0 r1;have hby:=(Below.refl _ W3).alloc (Nat.le_refl _) (.cells #[.int .i64 kb,.int .i64 0,.string S] 171);have hbz:=qc kF hby;have HO4:=QH (HO.out.below hbz);have x9:=QH (qc HB.out hbz);have bH:Hid (∀j u,([.int .i64 kb,.int .i64 0,.string S]:List Value)[j]?=some u→(W3.alloc (.cells #[.int .i64 kb,.int .i64 0,.string S] 171)).cell? ((⟨W3.heap.size,0,none⟩:Addr).add j)=some u):=fun j u hu=>by
    rw[addr_add,Nat.zero_add,(qg.new W3 171 #[.int .i64 kb,.int .i64 0,.string S]).cell j];simpa using hu
   have e1:∀u∈([.int .i64 kb,.int .i64 0,.string S]:List Value),u.oneCell'=true:=by intro u hu;simp at hu;rcases hu with rfl|rfl|rfl <;> rfl
   have E1:=QH e1;have E2:Hid ((P0 (x.take k)).length+1≤maxLen):=by unfold Hid;rw[HLK.out];unfold maxLen;omega
   have E3:Hid (((P0 (x.take k)).length+1)*32≤140737488355328):=by unfold Hid;rw[HLK.out];omega
   have qZ:Hid (Below W3.heap.size W3 (W3.alloc (.cells #[.int .i64 kb,.int .i64 0,.string S] 171))):=hby;have HWW:Hid (w.heap.size≤wr.heap.size):=HB.out.size;have sI:Hid (∀j,(∃v':Value,v'.ownBlock=some j∧OPl wr w.heap.size v' (P0 (x.take k)))→j≠wr.heap.size):=fun j ⟨v',h1,h2⟩ e=>by have:=(h2.lt j h1).2;omega
   clear e1 kF yE hby hbz;go_wp2_with (at_builtin;refine xt rfl (.tmp 20) (.tmp 26) 110 rfl w.heap.size 171 i0 (.agg #[.int .i64 0,.int .i64 0,.string ByteArray.empty]) 3 32 underlying110 hi hz0 hz1 hz2 rfl (by decide) _ _ _ rfl HO4.out ⟨W3.heap.size,0,none⟩ 1 1 [.int .i64 kb,.int .i64 0,.string S] rfl rfl bH.out E1.out E2.out E3.out x9.out.size ?_);intro v' w1 hown hgrow _;have jX:Hid (Below w.heap.size w w1):=x9.out.grown hgrow x9.out.size (fun j hj=>(HO4.out.lt j hj).1);have HO5:Hid (OPl w1 w.heap.size v' (P0 (x.take (k+1)))):=by
    unfold Hid OPl;rw[eF.out,bT,List.length_append,HLK.out];show w1.ownsRow _ _ _ v' (k+1) (jb (P0 (x.take k))++[.int .i64 kb,.int .i64 0,.string (str s)]);rw[HSS.out];have h9:=hown;rw[HLK.out]at h9;exact h9
   have hk5:qg w1 wr.heap.size 62 #[.int .i64 kb,.string S]:=(yP.out.below qZ.out).of_block (hgrow.block _ (yP.out.below qZ.out).lt (fun e=>by
    have:=(HO.out.lt wr.heap.size e.symm).2;omega))
   have r1:=hk5.cell 1;have hrl:=hk5.lt;simp only[QA,QB,QC]at r1;clear hown hgrow hk5;go_wp2_with fail;refine(HZ.out _).mono ?_;rintro e W6 ⟨rfl,kV⟩;have HO6:=QH (HO5.out.below kV);have dH:=QH (qc jX.out kV);have hfw:IntKind.i64.wrap ((fl:Int)+1)=((fl+1:Nat):Int):=by rw[IntWalk.i64_in _ (by omega)];omega
   clear kV r1 hrl HZ;by_cases hz:s=zb
   ·rw[decide_eq_true hz];have HF:Hid (full (x.take (k+1))=fl):=by unfold Hid;rw[HFT.out,if_pos hz,Nat.add_zero]
    clear hz HFT;go_wp2_with fail;go_roundw;case rel=>exact⟨k+1,by omega,by go_num,by rw[HF.out],HO6.out,dH.out⟩
    case measure=>simp[intOf];omega
   ·rw[decide_eq_false hz];have HF:Hid (full (x.take (k+1))=fl+1):=by unfold Hid;rw[HFT.out,if_neg hz]
    clear hz HFT;go_wp2_with fail;go_roundw;case rel=>exact⟨k+1,by omega,by go_num,by rw[HF.out];rfl,HO6.out,dH.out⟩
    case measure=>simp[intOf];omega
  ·obtain rfl:k=x.length:=by omega
   have jW:¬ (x.length:Int)<(x.length:Int):=by omega
   have ho:=HO.out;rw[List.take_length]at ho ⊢;obtain⟨VA,vc,hva,_⟩:=ho.view;have HO1:=QH ho;have hlp:(P0 x).length=x.length:=by unfold P0;rw[List.length_map]
   rw[hlp]at hva;have HVA:=QH hva;obtain⟨bv,tB⟩:∃z,z=z:=⟨(0:Nat),rfl⟩;clear ho hva tB bv;go_upto_region 10 with fail;have hv1:=qX HV.out HB.out;obtain⟨A0,A1,A2,c0,c1,c2,hA⟩:=hv1.is;have HAT:=QH hA;have qoI:=hA.cells;have HVP:=QH hv1;have hvl:=qoI.lt;clear hv1 hA;obtain⟨n1,hn1⟩:=QE ((xq m).length);obtain⟨n2,hn2⟩:=QE cs.length;have HN1:=QH hn1;have HN2:=QH hn2;have h16:n1≤1002:=by rw[← hn1];unfold xq;have:=HAT.out.sz.qa;simp;omega
   refine qQ (by kernel_rfl) 16 [36,37,38,39,40,41,42,43,44,45,46,35,47,48,10,11] (by kernel_rfl) (PcG v pd N (.agg (zq A0 A1 A2 c0 c1 c2 m)) n1 n2 (xq m) cs) (qot _ _ _ _ _ _ _ _) ?_ ?_
   ·intro i o vs ρ W qsp hop hρ hfn hb hG;have t0:ρ (.tmp 0)=pt v:=hρ.out 0 rfl;have hc:=hρ.const;have s36:=hρ.at_ 36 0 rfl;have s37:=hρ.at_ 37 1 rfl;have s38:=hρ.at_ 38 2 rfl;have s39:=hρ.at_ 39 3 rfl;have s40:=hρ.at_ 40 4 rfl;have s41:=hρ.at_ 41 5 rfl;have s42:=hρ.at_ 42 6 rfl;have s43:=hρ.at_ 43 7 rfl;have s44:=hρ.at_ 44 8 rfl;have s45:=hρ.at_ 45 9 rfl;have s46:=hρ.at_ 46 10 rfl;have s35:=hρ.at_ 35 11 rfl;have s47:=hρ.at_ 47 12 rfl;have s48:=hρ.at_ 48 13 rfl;have hat:=HAT.out.below hb;have HVW:=QH (qX HVP.out hb);obtain⟨bE,k0,k1,k2,k3,k4,k5,k6,k7,k8,k9,cV⟩:=hat.cells;rcases i with _|_|_|_|_|_|_|_|_|_|_|_|_|_|_|_|i;all_goals (first|omega|skip)
    all_goals simp only[QA,QB,QC,Option.some.injEq]at hop
    all_goals subst hop
    ·exact q9 (w':=W) (by unfold execOp;simp only[t0];go_simp) ⟨Below.refl _ _,rfl⟩
    ·have g0:vs 0=_:=hG 0 (by kernel_rfl);exact q9 (w':=W) (by unfold execOp;simp only[s36,g0];go_simp) ⟨Below.refl _ _,rfl⟩
    ·have g1:vs 1=_:=hG 1 (by kernel_rfl);exact q9 (w':=W) (by unfold execOp;simp only[s37,g1];go_simp) ⟨Below.refl _ _,rfl⟩
    ·have g2:vs 2=_:=hG 2 (by kernel_rfl);exact q9 (w':=W) (by unfold zq execOp;simp only[s38,g2];go_simp) ⟨Below.refl _ _,rfl⟩
    ·have g3:vs 3=_:=hG 3 (by kernel_rfl);refine qj (f:=103) (args:=#[.agg (zq A0 A1 A2 c0 c1 c2 m)]) (w':=W) (by unfold execOp;simp only[hc,hfn,s39,g3];go_simp) ((qgx hat.tab.mt hat.sz).mono ?_);rintro e W' ⟨A,c',rfl,h1,h2⟩;exact⟨_,rfl,h2,A,c',by rw[HN1.out],h1⟩
    ·exact q9 (w':=W) (by unfold execOp;simp only[t0];go_simp) ⟨Below.refl _ _,rfl⟩
    ·have g5:vs 5=_:=hG 5 (by kernel_rfl);exact q9 (w':=W) (by unfold execOp;simp only[s41,g5];go_simp) ⟨Below.refl _ _,rfl⟩
    ·have g6:vs 6=_:=hG 6 (by kernel_rfl);exact q9 (w':=W) (by unfold execOp;simp only[s42,g6];go_simp) ⟨Below.refl _ _,rfl⟩
    ·have g7:vs 7=_:=hG 7 (by kernel_rfl);exact q9 (w':=W) (by unfold execOp;simp only[s43,g7];go_simp) ⟨Below.refl _ _,rfl⟩
    ·have g8:vs 8=_:=hG 8 (by kernel_rfl);refine qj (f:=45) (args:=#[pt pd]) (w':=W) (by unfold execOp;simp only[hc,hfn,s44,g8];go_simp) ((ia HVW.out.dk).mono ?_);rintro e W' ⟨rfl,rfl⟩;exact⟨_,rfl,Below.refl _ _,by rw[HNN.out];rfl⟩
    ·obtain⟨A,c',g4,h1⟩:=hG 4 (by kernel_rfl);have g9:vs 9=_:=hG 9 (by kernel_rfl);have hcc:=qrX A c' (xq m) (N:Int) W h1 (by have:=HN1.out;omega) (by unfold ib.qG;omega);rw[HN1.out]at hcc;refine qj (f:=102) (args:=#[.slice A n1 c',.int .i64 (N:Int)]) (w':=W) (by unfold execOp;simp only[hc,hfn,s40,g4,s45,g9];go_simp) (hcc.mono ?_);rintro e W' ⟨A',c'',rfl,h2,h3,_⟩;rw[HCS.out]at h2;refine⟨_,rfl,h3,A',c'',?_,h2⟩;rw[HCS.out,HN2.out]
    ·obtain⟨A,c',g10,h1⟩:=hG 10 (by kernel_rfl);exact q9 (w':=W) (by unfold execOp;simp only[s46,g10];go_simp) ⟨Below.refl _ _,A,c',rfl,h1⟩
    ·obtain⟨A,c',g11,h1⟩:=hG 11 (by kernel_rfl);exact q9 (w':=W) (by unfold execOp;simp only[s35,g11];go_simp) ⟨Below.refl _ _,A,c',rfl,h1⟩
    ·obtain⟨A,c',g11,h1⟩:=hG 11 (by kernel_rfl);exact q9 (w':=W) (by unfold execOp;simp only[s35,g11];go_simp) ⟨Below.refl _ _,rfl⟩
    ·obtain⟨A,c',g12,h1⟩:=hG 12 (by kernel_rfl);exact q9 (w':=W) (by unfold execOp;simp only[s47,g12];go_simp) ⟨Below.refl _ _,A,c',rfl,h1⟩
    ·have g13:vs 13=_:=hG 13 (by kernel_rfl);exact q9 (w':=W) (by unfold execOp;simp only[s48,g13];go_simp) ⟨Below.refl _ _,rfl⟩
   ·intro vs W hb hG;obtain⟨A,c',g14,h1⟩:=hG 14 (by decide);have g15:vs 15=_:=hG 15 (by decide);simp only[za,qN,if_true];rw[g14,g15];generalize vs 0=z0;generalize vs 1=z1;generalize vs 2=z2;generalize vs 3=z3;generalize vs 4=z4;generalize vs 5=z5;generalize vs 6=z6;generalize vs 7=z7;generalize vs 8=z8;generalize vs 9=z9;generalize vs 10=z10;generalize vs 11=z11;generalize vs 12=z12;generalize vs 13=z13;have kJ:=QH (qc HB.out hb);have HIW:=QH h1;have HOW:=QH (HO1.out.below hb);clear hG g14 g15 hb h1 HO1 HVP HAT qoI hvl;simp only[Act.put,List.setIfInBounds_toArray,List.set_cons_succ,List.set_cons_zero];refine⟨by kernel_rfl,?_⟩;have wx:=q0K A c' cs ((full x:Nat):Int) W HIW.out (by omega) (by unfold ib.qG;omega);rw[HN2.out]at wx;have eF:=QH wx;have HV1:Hid ((jl cs ((full x:Nat):Int)).2≠0→qw N m x=(([],[]),(jl cs ((full x:Nat):Int)).2)):=fun hne=>by unfold qw;rw[HCS.out];exact if_neg hne
    have np:Hid ((jl cs ((full x:Nat):Int)).2=0→qw N m x=(qd (jl cs ((full x:Nat):Int)).1 x,0)):=fun he=>by unfold qw;rw[HCS.out];exact if_pos he
    have HTL:=QH (fun h=>qaB (cs:=cs) (n:=full x) h);obtain⟨R1,hR1⟩:=QE ((jl cs ((full x:Nat):Int)).1);obtain⟨R2,hR2⟩:=QE ((jl cs ((full x:Nat):Int)).2);have vw:jl cs ((full x:Nat):Int)=(R1,R2):=by rw[← hR1,← hR2]
    rw[vw]at eF;rw[hR1,hR2]at np HTL;rw[hR2]at HV1;obtain⟨V,hV⟩:=QE (qw N m x);rw[hV]at np HV1;have HVE:=QH hV;obtain⟨bv,tB⟩:=QE (Value.slice VA x.length vc);have HBV:=QH tB;have HVV:=QH HVA.out;rw[HVV.out,tB]at HOW ⊢;clear wx hR1 hR2 vw hV tB HCS HVA HVV HIW;go_wp2_with fail;refine eF.out.mono ?_;rintro e W2 ⟨A',cc,rfl,ov,hb2,hnew,qsq⟩;have qC:=QH (qc kJ.out hb2);have uX:=QH (HOW.out.below hb2);clear eF;by_cases h0:R2=0
    case' neg =>
     have hne:(R2 != 0)=true:=by simpa using h0
     have HV:=QH (HV1.out h0);have sI:=QH h0;clear h0 HV1 np HTL ov hb2 hnew qsq;go_wp2_with fail;go_ret2;rw[HVE.out,HV.out];exact⟨qC.out,.inl ⟨sI.out,rfl⟩⟩
    subst h0;have HV:=QH (np.out rfl);have hroom:=HTL.out rfl;clear np HV1 HTL;have qsr:=HBV.out;by_cases hx0:x.length=0
    ·have hPL:PL x (qd R1 x).1=[]:=by rw[List.length_eq_zero_iff.1 hx0];rfl
     have hP0:P0 x=[]:=by rw[List.length_eq_zero_iff.1 hx0];rfl
     have HPL:=QH hPL;have ho2:=uX.out;rw[hP0]at ho2;have HOE:=QH ho2;have q6Z:((x.length:Nat):Int)=0:=by omega
     obtain⟨xl,q7a⟩:=QE ((x.length:Nat):Int);rw[q7a]at q6Z;have hbe:=HBV.out;rw[hx0]at hbe;subst hbe;clear hPL hP0 ho2 HBV ov hb2 hnew qsq uX HOW kJ hroom qsr;go_wp2_with fail;go_loopw [63] (fun i wr=>i=.int .i64 0∧wr=W2) (fun _ _=>0);case atStart=>exact⟨rfl,rfl⟩
     case round =>
      obtain⟨rfl,rfl⟩:=hrel;go_wp2_with fail;go_ret2;refine⟨qC.out,.inr ⟨by rw[HVE.out,HV.out],_,rfl,?_⟩⟩;rw[HVE.out,HV.out];show OPl _ w.heap.size _ (PL x (qd R1 x).1);rw[HPL.out];exact HOE.out
    ·obtain⟨g,hg⟩:∃g,bv=.slice (some ⟨g,0,none⟩) x.length vc:=by
        rcases uX.out.2 with⟨e,h0⟩|⟨g',cap,cur,e,_⟩
        ·have:(P0 x).length=x.length:=by unfold P0;rw[List.length_map]
         omega
        ·rw[← qsr]at e;simp only[Value.slice.injEq]at e;exact⟨g',by rw[← qsr,e.1]⟩
     have hgW:g<W.heap.size:=(HOW.out.lt g (by rw[hg];rfl)).2;have sH:Hid (aL W2 g A' R1):=fun i hi=>by
      obtain⟨b',o',h1,h2,h3,_⟩:=ov i hi;have:=(hnew b' o' h1).1;exact⟨b',o',h1,by omega,h2,h3⟩
     have sM:Hid (OPl W2 w.heap.size bv (Pw x [])):=by unfold Hid;rw[qwN];exact uX.out
     have HK0:=QH (Pk.start x R1 hroom);have HLC:=QH qsq;subst hg;clear qsr HBV ov hb2 hnew qsq uX HOW kJ hroom;go_wp2_with fail;go_loopw [12,13,63] (fun s _ i wr=>Pl2 x R1 w.heap.size (.slice (some ⟨g,0,none⟩) x.length vc) g w s i wr) (fun _ _ i _=>x.length-(intOf i).toNat);case atStart=>exact⟨0,[],R1,A',cc,rfl,rfl,HLC.out,HK0.out,sH.out,sM.out,qC.out⟩
     case round =>
      obtain⟨k,pre,fr',A3,c3,rfl,rfl,qwQ,hpk,qnB,hop,hB⟩:=hrel;have HPK:=QH hpk;have q13:=QH qnB;have HOP:=QH hop;have HB:=QH hB;have nO:=hpk.le;have hpl:=hpk.len;clear hpk qnB hop hB;by_cases hlt:k<x.length
      ·have jW:(k:Int)<(x.length:Int):=by omega
       have hk0:¬ (k:Int)<0:=by omega
       have hkw:k<(Pw x pre).length:=by rw[rS (by omega)];exact hlt
       obtain⟨a3,c4,e3,qel⟩:=HOP.out.view;simp only[Value.slice.injEq]at e3;obtain⟨rfl,q7b,rfl⟩:=e3;clear q7b;obtain⟨b',o',e4,s1,s2,s3,s4⟩:=qel k hkw;simp only[Option.some.injEq,Addr.mk.injEq,and_true]at e4;obtain⟨rfl,rfl⟩:=e4;rw[qoG hpl hlt hkw]at s4;have q7c:=H32.out _ (List.getElem_mem hlt);have HZ:Hid (∀W,Calls prog 101 #[.string (str x[k].2)] W (dP (decide (x[k].2=zb)) W)):=fun W=>mW _ q7c W;have qoJ:=QH (fun hz=>HPK.out.zero hlt hz);have qoK:=QH (fun hz=>HPK.out.more hlt hz);have HPZ:=QH (qso (x:=x) hpl hlt);dsimp only at s4;rw[Nat.zero_add]at s4;obtain⟨S,hS⟩:=QE (str x[k].2);rw[hS]at s4 HZ;clear qel s2 s3 hS;go_wp2_with fail;refine(HZ.out _).mono ?_;rintro e W6 ⟨rfl,kV⟩;have dH:=QH (qc HB.out kV);have qwR:=QH (HOP.out.below kV);have qoL:=QH (q13.out.below kV);clear kV HZ HOP q13 s1 s4;by_cases hz:x[k].2=zb
       ·rw[decide_eq_true hz];have qss:=QH (qoJ.out hz);clear hz qoJ qoK;go_wp2_with fail;go_roundw;case rel=>exact⟨k+1,pre++[0],fr',A3,c3,by go_num,rfl,qwQ,qss.out,qoL.out,by rw[HPZ.out];exact qwR.out,dH.out⟩
        case measure=>simp[intOf];omega
       ·rw[decide_eq_false hz];obtain⟨f,r,hfr,q14⟩:=qoK.out hz;have qss:=QH q14;subst hfr;obtain⟨b3,o3,rfl,n1,n2,n3⟩:=qoL.out 0 (by simp);have HT:=QH qoL.out.tail;obtain⟨qwS,hfz,tR,dx⟩:=qwR.out.set k hkw f;rw[qoG hpl hlt hkw,qoH hpl hlt f]at qwS;have q15:=QH qwS;have HB7:Hid (Below w.heap.size w (W6.setCell ⟨g,k*3+1,none⟩ (.int .i64 f))):=dH.out.setCell (p:=⟨g,k*3+1,none⟩) tR _;obtain⟨a5,c5,e5,qel⟩:=qwR.out.view;simp only[Value.slice.injEq]at e5;obtain⟨rfl,q7d,rfl⟩:=e5;clear q7d;obtain⟨b',o',e4,s1,s2,s3,s4⟩:=qel k hkw;simp only[Option.some.injEq,Addr.mk.injEq,and_true]at e4;obtain⟨rfl,rfl⟩:=e4;rw[Nat.zero_add]at s3;simp only[List.getElem_cons_zero,Nat.add_zero]at n3;have zdT:(0:Int)<((r.length+1:Nat):Int):=by omega
        have zdU:(1:Int)≤((r.length+1:Nat):Int):=by omega
        have hrc:((r.length+1:Nat):Int)≤(c3:Int):=by rw[List.length_cons]at qwQ;omega
        rw[List.length_cons]at qwQ ⊢;clear hz qoJ qoK q14 qwS qel s2 s4;go_wp2_with fail;go_region;go_wp2_with fail;all_goals
         refine⟨?_,by simp[intOf];omega⟩;by_cases hc1:c3=1
         ·have hr0:r.length=0:=by omega
          rw[if_pos hc1];exact⟨k+1,pre++[f],r,_,_,rfl,rfl,by omega,qss.out,(fun i hi=>absurd hi (by omega)),q15.out.below (Below.refl _ _).drew,HB7.out.drew⟩
         ·rw[if_neg hc1];exact⟨k+1,pre++[f],r,_,_,rfl,rfl,by omega,qss.out,HT.out.set.below (Below.refl _ _).drew,q15.out.below (Below.refl _ _).drew,HB7.out.drew⟩
      ·obtain rfl:k=x.length:=by omega
       have jW:¬ (x.length:Int)<(x.length:Int):=by omega
       have HE:=QH HPK.out.stop;have HPA:=QH (qwO (x:=x) hpl);go_wp2_with fail;go_ret2;refine⟨HB.out,.inr ⟨by rw[HVE.out,HV.out],_,rfl,?_⟩⟩;rw[HVE.out,HV.out];show OPl wr w.heap.size _ (PL x (qd R1 x).1);rw[HE.out,← HPA.out];exact HOP.out
section
variable {o1 o2:Nat→Prop} {w w1 w':World} {v pd N b:Nat} {d:DD} {m:Mt} {t:Tg} {Q:Int→DD→Mt→Bool→Prop} {e:Ending}
theorem qwT(hb:Below w.heap.size w w1)(h:q1o w.heap.size o1 o2 v pd Q w1 e w'):ua jL o1 o2 v pd Q w e w':=by
 obtain⟨r,d',m',lost,dJ,wW,h1,h2,h3,h4,h5⟩:=h;exact⟨r,d',m',lost,dJ,wW,h1,h2,(ib.qz.of_below (S:=fun j=>o1 j∨o2 j) hb).trans h3 (fun _ h=>.inl h),h4,h5⟩
theorem jU {l:Bool}{r:Int}(h:VP jL w' o1 o2 v pd d m l)(hb:Below w.heap.size w w')(hq:Q r d m l):ua jL o1 o2 v pd Q w (.returned (.int .i64 r)) w' :=
 ⟨r,d,m,l,o1,o2,rfl,h,ib.qz.of_below hb,fun j hj=>.inl hj,hq⟩
theorem qoN(h:VP jL w o1 o2 v pd d m false):∀j,o1 j∨o2 j∨j=gN→j<w.heap.size:=fun j hj=>by
 rcases hj with hj|hj|hj
 ·exact qb5 h.is j (.inl hj)
 ·exact cU h.dk j hj
 ·exact qb5 h.is j (.inr hj)
end
theorem rU {b N:Nat}{m:Mt}{x:List (Int × Bt)}(jV:yD b N m)(hN:N≤1024)(h0:(qw N m x).2=0):rE (PL x (qw N m x).1.1)=(qw N m x).1.2:=by
 obtain⟨cs,hcs,hcl,_,_⟩:=cM jV hN;unfold qw at h0 ⊢;rw[hcs]at h0 ⊢;dsimp only at h0 ⊢;by_cases hz:(jl cs ((full x:Nat):Int)).2=0
 ·rw[if_pos hz];have hl:=qaB hz;refine lI x _ (fun f hf=>?_) hl;have hst:(jl cs ((full x:Nat):Int)).1=(qY cs cs.length).take (full x):=by
   unfold jl at hz ⊢;rw[if_neg (by omega)]at hz ⊢;by_cases hf:(yn cs:Int)<((full x:Nat):Int)
   ·rw[if_pos hf]at hz;simp at hz
   ·rw[if_neg hf,Int.toNat_natCast]
  rw[hst]at hf;obtain⟨j,e,g1,_,_⟩:=lf.1 (List.mem_of_mem_take hf);omega
 ·rw[if_neg hz]at h0;exact absurd h0 hz
theorem quq{b N:Nat}{m:Mt}{x:List (Int × Bt)}{at_:List Int}{ws:List jr.Wr}(hp:lj N m x at_ ws)(hN:N≤1024)(hc:zT b (-1) x=true):∀p∈PL x at_,0≤p.1∧p.1<(b:Int)∧0≤p.2.1∧qG p.2.1:=by
 intro p hm;obtain⟨i,hi,rfl⟩:=List.getElem_of_mem hm;have hx:i<x.length:=by unfold PL at hi;simp at hi;omega
 have ha:i<at_.length:=by unfold PL at hi;simp at hi;omega
 have e:(PL x at_)[i]=(x[i].1,at_[i],x[i].2):=by simp[PL]
 rw[e];have h1:=kL hc _ (List.getElem_mem hx);refine⟨by show 0≤x[i].1;omega,h1.2.2,?_⟩;show 0≤at_[i]∧qG at_[i];rcases hp.each i hx ha with⟨_,h⟩|⟨_,h⟩
 ·rw[h];exact⟨by omega,by unfold qG;omega⟩
 ·have hr:=hp.wok.range _ h;dsimp only at hr;exact⟨by omega,by unfold qG;omega⟩
theorem qoO{x:List (Int × Bt)}{at_:List Int}(h:at_.length=x.length):(PL x at_).length=x.length:=by unfold PL;rw[List.length_zipWith];omega
theorem uY.form{G:Nat→Prop}{w:World}{f:Value}{m m':Mt}(h:uY G w f m m'):∃k ky,f=.func (.func k) #[] ky:=by
 obtain⟨k,ky,h1,_⟩:=h;exact⟨k,ky,h1⟩
theorem ir {G:Nat→Prop}{w:World}{f:Value}{m m':Mt}{b:Nat}(hk:qg w b 115 #[f])(h:uY G w f m m'):qeh G w (some ⟨b,0,none⟩) 1 (fun i=>if i=0 then m else m'):=fun i hi=>by
 obtain rfl:i=0:=by omega
 exact⟨b,0,f,rfl,hk.lt,hk.cell 0,h⟩
theorem qoP{G:Nat→Prop}{w:World}{f g:Value}{m m1 m2:Mt}{b:Nat}(hk:qg w b 115 #[f,g])(h1:uY G w f m m1)(h2:uY G w g m1 m2):qeh G w (some ⟨b,0,none⟩) 2 (fun i=>if i=0 then m else if i=1 then m1 else m2):=fun i hi=>by
 match i,hi with
 | 0,_=>exact⟨b,0,f,rfl,hk.lt,hk.cell 0,h1⟩
 | 1,_=>exact⟨b,0,g,rfl,hk.lt,hk.cell 1,h2⟩
theorem rV {G:Nat→Prop}{w:World}{f g k:Value}{m m1 m2 m3:Mt}{b:Nat}(hk:qg w b 115 #[f,g,k])(h1:uY G w f m m1)(h2:uY G w g m1 m2)(h3:uY G w k m2 m3):qeh G w (some ⟨b,0,none⟩) 3 (fun i=>if i=0 then m else if i=1 then m1 else if i=2 then m2 else m3):=fun i hi=>by
 match i,hi with
 | 0,_=>exact⟨b,0,f,rfl,hk.lt,hk.cell 0,h1⟩
 | 1,_=>exact⟨b,0,g,rfl,hk.lt,hk.cell 1,h2⟩
 | 2,_=>exact⟨b,0,k,rfl,hk.lt,hk.cell 2,h3⟩
theorem kR {N:Nat}{t:Tg}{d:DD}{m:Mt}{c:Int}(h:c≠0):yo N t d m ⟨c,m,[]⟩ c d m false:=.inl ⟨h,rfl,rfl,rfl,rfl⟩
theorem gT {o1 o2:Nat→Prop}{w w1:World}{v pd N b n:Nat}{d:DD}{m:Mt}{t:Tg}{pn:fG}{M:Nat→Mt}(h:VP jL w o1 o2 v pd d m false)(hb:Below w.heap.size w w1)(hJ:jr.JJ N t d)(hf:0≤d.qu)(hR:qW b N t m)(hc:pn.code=0)(hdo:yD b N pn.m∧dI N m pn.ws)
    (hM0:M 0=m) (hMn:M n=pn.m) {A:Option Addr} {c:Nat} (hE:qeh (fun j=>(o1 j∧j≠v)∨w.heap.size≤j) w1 A n M) (hn:n≤10) {B:Option Addr} {cb:Nat} {P:List Pl} (hP:PlL w1 B P) (hpl:P.length≤100) (hPW:rE P=pn.ws) :
    Calls prog 56 #[pt v,.slice B P.length cb,.slice A n c] w1 (ua jL o1 o2 v pd (yo N t d m pn) w):=by
 have dV:pn=⟨0,pn.m,pn.ws⟩:=by rw[← hc]
 rw[dV];refine(qgV (qX h hb) hJ hf hR hb.size (qoN h) hM0 hMn hdo.1 hdo.2 hE hn hP hpl hPW).mono ?_;rintro e W hx;exact qwT hb hx
theorem qoQ(W:World)(k:Int)(s:Bt)(hk:ib.jd k):ch.bw (W.alloc (.cells #[.int .i64 k,.string (str s)] 62)) (some ⟨W.heap.size,0,none⟩) [(k,s)]:=by
 intro i hi;obtain rfl:i=0:=by simpa using hi
 exact⟨W.heap.size,0,rfl,by simp,(qg.new W _ _).cell 0,(qg.new W _ _).cell 1,hk⟩
theorem qhc{N:Nat}{m:Mt}{k:Int}{s:Bt}(h:zT m.live.length (-1) [(k,s)]=false):zv N m k s=⟨2,m,[]⟩:=by
 unfold zv;rw[if_pos];apply Classical.byContradiction;intro hn;have:zT m.live.length (-1) [(k,s)]=true:=by
  unfold zT zT;simp;omega
 rw[h]at this;cases this
theorem qem{N:Nat}{m:Mt}{k:Int}{s:Bt}(h:zT m.live.length (-1) [(k,s)]=true):zv N m k s=if (qw N m [(k,s)]).2=0 then⟨0,{ m with live:=zB m.live [(k,s)] (qw N m [(k,s)]).1.1 },(qw N m [(k,s)]).1.2⟩else⟨(qw N m [(k,s)]).2,m,[]⟩:=by
 have h1:=kL h (k,s) (by simp);unfold zv;rw[if_neg (by dsimp only at h1;omega)]
theorem lC {o1 o2:Nat→Prop}{w:World}{v pd N b:Nat}{d:DD}{m:Mt}{t:Tg}(k:Int)(s:Bt)(h:VP jL w o1 o2 v pd d m false)(hJ:jr.JJ N t d)(hf:0≤d.qu)(hR:qW b N t m)(hk:ib.jd k) :
    Calls prog 17 #[pt v,.int .i64 k,.string (str s)] w (ua jL o1 o2 v pd (yo N t d m (zv N m k s)) w):=by
 have HV:=QH h;have HJ:=QH hJ;have HR:=QH hR;have HFU:=QH hf;have xF:=QH (jS h hJ.on);have nS:=QH (cQ hR k s);have HLEN:=QH hR.ok.len;have kF:=(Below.refl _ w).alloc (Nat.le_refl _) (.cells #[.int .i64 k,.string (str s)] 62);have hcl:=qoQ w k s hk;obtain⟨S,hS⟩:=QE (str s);rw[hS]at kF hcl;obtain⟨W1,hW1⟩:=QE (w.alloc (.cells #[.int .i64 k,.string S] 62));rw[hW1]at kF hcl;have qV:=QH kF;have bI:=QH hcl;have hV1:=qX h kF;obtain⟨A0,A1,A2,c0,c1,c2,hA⟩:=hV1.is;have iR:=QH hA;have HTA:=QH (wS (A0:=A0) (A1:=A1) (A2:=A2) (c0:=c0) (c1:=c1) (c2:=c2) (c:=1) hA.sz.live hcl (by simp));have qkE:Hid (∀W,Below W1.heap.size W1 W→zT m.live.length (-1) [(k,s)]=true→Calls prog 55 #[pt v,.slice (some ⟨w.heap.size,0,none⟩) 1 1] W (qiq (qw N m [(k,s)]) [(k,s)] W)):=fun W hW hc =>
  rT (qX (qX h kF) hW) hJ.rb.1 hR.ok hR.N1 (hcl.below hW) (by simp) (fun y hy=>(kL hc y hy).1)
 obtain⟨bE,k0,k1,k2,k3,k4,k5,k6,k7,k8,k9,cV⟩:=hA.cells;have HVB:=QH (fun hc=>qhc (N:=N) (m:=m) (k:=k) (s:=s) hc);have HVG:=QH (fun hc=>qem (N:=N) (m:=m) (k:=k) (s:=s) hc);obtain⟨q,hq⟩:=QE (zT m.live.length (-1) [(k,s)]);rw[hq]at HTA HVB HVG qkE;have HQ:=QH hq;obtain⟨PN,lR⟩:=QE (zv N m k s);rw[lR]at HVB HVG nS ⊢;unfold zq at HTA;rw[hS];rw[show([(k,s)]:List (Int × Bt)).length=1 from rfl]at HTA;clear h hJ hR hf hk kF hcl hV1 hA hq lR hS;go_enter func17,ntmps17;go_wp2_with fail;refine xF.out.mono ?_;rintro e W0 ⟨rfl,rfl⟩;clear xF;go_upto_region 5 with fail;try rw[hW1]
 clear hW1;go_wp2_with fail;refine HTA.out.mono ?_;rintro e W2 ⟨rfl,hb2⟩;have qC:=QH (qc qV.out hb2);have sK:=QH (qkE.out W2 hb2);clear HTA qkE;cases q with
 | false =>
  have HPB:=QH (HVB.out rfl);go_wp2_with fail;go_ret;rw[HPB.out];exact jU (qX HV.out qC.out) qC.out (kR (by decide))
 | true =>
  have HPG:=QH (HVG.out rfl);have HPL:=QH (sK.out rfl);clear HVB HVG sK;go_wp2_with fail;refine HPL.out.mono ?_;rintro e W3 ⟨hb3,mU⟩;have qZ:=QH (qc qC.out hb3);clear hb3 hb2 HPL;rcases mU with⟨hne,rfl⟩|⟨h0,pv,rfl,hop⟩
  ·have hcb:((qw N m [(k,s)]).2 != 0)=true:=by simpa using hne
   have HPE:Hid (PN=⟨(qw N m [(k,s)]).2,m,[]⟩):=by unfold Hid;rw[HPG.out,if_neg hne]
   have sI:=QH hne;generalize (qw N m [(k,s)]).2=pc at *;clear hne HPG;go_wp2_with fail;go_ret;rw[HPE.out];exact jU (qX HV.out qZ.out) qZ.out (kR sI.out)
  ·have HPE:Hid (PN=⟨0,{ m with live:=zB m.live [(k,s)] (qw N m [(k,s)]).1.1 },(qw N m [(k,s)]).1.2⟩):=by unfold Hid;rw[HPG.out,if_pos h0]
   have hpw:=rU HR.out.ok HR.out.N1 h0;have hpl:lj N m [(k,s)] (qw N m [(k,s)]).1.1 (qw N m [(k,s)]).1.2:=by
    rcases jh HR.out.ok HR.out.N1 [(k,s)] (by simp) (fun c hc=>(kL HQ.out c hc).1)with⟨h7,_⟩|⟨_,hp⟩
    ·rw[h7]at h0;cases h0
    ·exact hp
   have dV:PN.code=0:=by rw[HPE.out]
   have hdo:yD b N PN.m∧dI N m PN.ws:=by
    rcases nS.out with⟨h7,_⟩|⟨_,hd,_⟩
    ·rw[dV]at h7;cases h7
    ·exact⟨(hd dV).ok,(hd dV).ws⟩
   have qaC:=quq hpl HR.out.N1 HQ.out;have qcb:=qoO hpl.len;obtain⟨BA,bc,hpv,hPL⟩:=hop.view;rw[qcb]at hpv;have hsp:=qbX [(k,s)] (qw N m [(k,s)]).1.1 m.live;generalize (qw N m [(k,s)]).1.1=at_ at *;generalize (qw N m [(k,s)]).1.2=ws at *;have HPW:=QH hpw;have HDK:=QH hdo;have HPL:=QH hPL;have qkF:=QH qcb;have HSP:=QH hsp;have hA3:=iR.out.tab.mono (G':=fun j=>(o1 j∧j≠v)∨w.heap.size≤j) (fun j hj=>.inl hj);have hV3:=qX HV.out qZ.out;have HV3:=QH hV3;obtain⟨X0,X1,X2,d0,d1,d2,hX⟩:=hV3.is;have HX:=QH hX;have dG:m.live.length=b:=HLEN.out;have hput:=jn (G:=fun j=>(o1 j∧j≠v)∨w.heap.size≤j) (hX.tab.mono (fun j hj=>.inl hj)).live (by rw[dG];have:=HR.out.ok.b1;omega) hX.sz.live hPL (cb:=bc) (by rw[dG];have:=qaC;rw[dG]at this;exact this) (by rw[qcb];simp) (fun j hj=>.inr (Nat.le_trans qZ.out.size hj));rw[hsp,qcb]at hput;have qen:=QH hput;obtain⟨bE,k0,k1,k2,k3,k4,k5,k6,k7,k8,k9,cV⟩:=hX.cells;subst hpv;clear h0 hpw hpl dV hdo qaC qcb hPL hsp hA3 hV3 hX dG hput hop HPG;have hce:((0:Int) != 0)=false:=rfl;go_wp2_with fail;refine qen.out.mono ?_;rintro e W4 ⟨AL,cl,rfl,vO,hb4⟩;have HL4:=QH (aA.bound vO);have x9:=QH (qc qZ.out hb4);have q17:=QH (HPL.out.below hb4);have dn:Hid (PN.code=0∧PN.m={ m with live:=zB m.live [(k,s)] at_ }∧PN.ws=ws):=by unfold Hid;rw[HPE.out];exact⟨rfl,rfl,rfl⟩
   have hlv:=lz (G:=fun j=>(o1 j∧j≠v)∨w.heap.size≤j) vO (by rw[cP,HLEN.out];have:=HR.out.ok.b8;omega) (fun j hj=>.inr (Nat.le_trans x9.out.size hj));have HLV:=QH hlv;obtain⟨LL,hLL⟩:=QE ((zB m.live [(k,s)] at_).length);rw[hLL]at HLV ⊢;clear vO hb4 hlv qen;go_wp2_with fail;refine HLV.out.mono ?_;rintro e W5 ⟨f,rfl,lS,hb5⟩;have HEF:=QH (lS m PN.m dn.out.2.1);obtain⟨kf,ky,rfl⟩:=HEF.out.form;have jX:=QH (qc x9.out hb5);have q18:=QH (q17.out.below hb5);clear lS hb5 HLV hLL q17;have kV:=(Below.refl _ W5).alloc (Nat.le_refl _) (.cells #[.func (.func kf) #[] ky] 115);have vn:=qg.new W5 115 #[.func (.func kf) #[] ky];obtain⟨W6,hW6⟩:=QE (W5.alloc (.cells #[.func (.func kf) #[] ky] 115));rw[hW6]at kV vn;have ew:=QH (gT HV.out (qc jX.out kV) HJ.out HFU.out HR.out dn.out.1 HDK.out (c:=1) rfl rfl (ir vn (HEF.out.below kV)) (by omega) (cb:=bc) (q18.out.below kV) (by rw[qkF.out];simp) (HPW.out.trans dn.out.2.2.symm));rw[qkF.out,show([(k,s)]:List (Int × Bt)).length=1 from rfl]at ew;clear kV vn HEF q18;go_wp2_with fail;try rw[hW6]
   refine ew.out.mono ?_;rintro e W7 ⟨r,d',m',lost,dJ,wW,rfl,hh⟩;have HH:=QH hh;clear hh ew;go_wp2_with fail;go_ret;exact⟨r,d',m',lost,dJ,wW,rfl,HH.out⟩
end Go.Proofs.YtdagdllomphidaaGreatDoor.vt.pg
namespace Go.Proofs.YtdagdllomphidaaGreatDoor.vt.pg
open _root_.Go.Proofs.Tryz Go Go.RowKit Go.Sort ib mt im sp
theorem iv (t:Tg):∀(ss:List Bt) (o:Nat),(∀i (h:i<ss.length),t ((o+i:Nat):Int)=ss[i])→zZ t o ss=[]
 | [],_,_=>rfl
 | s::r,o,h=>by
  have h0:=h 0 (by simp);simp only[Nat.add_zero,List.getElem_cons_zero]at h0;unfold zZ;rw[if_pos h0,List.nil_append];refine iv t r (o+1) fun i hi=>?_;have:=h (i+1) (by simpa using hi);rw[List.getElem_cons_succ]at this;rw[show o+1+i=o+(i+1)by omega];exact this
theorem qcc{b N:Nat}{t:Tg}{m:Mt}(h:qW b N t m):qE t m []=[]:=by
 unfold qE qdv;rw[iv t (xH m) 145 h.home];rfl
theorem qeo{b N:Nat}{t:Tg}{d:DD}{m:Mt}(h:qW b N t m)(hJ:jr.JJ N t d)(hf:0≤d.qu)(ht:m.tok=zR):yo N t d m (gG m) 0 d m false:=by
 have e:gG m=⟨0,m,[]⟩:=by
  unfold gG;rw[← ht]
 rw[e];refine .inr (.inl ⟨rfl,rfl,?_,rfl,rfl,id,hf⟩);show jr.JJ N (jr.over t (qE t m [])) d;rw[qcc h];exact hJ
theorem qep:TkB zR:=⟨by simp[xn,zR],by simp[xn,zR],by simp[qG,zR],by simp[qG,zR]⟩
theorem ix (w:World):PlL w none []:=fun i h=>absurd h (by simp)
theorem qhe{o1 o2:Nat→Prop}{w:World}{v pd N b:Nat}{d:DD}{m:Mt}{t:Tg}(h:VP jL w o1 o2 v pd d m false)(hJ:jr.JJ N t d)(hf:0≤d.qu)(hR:qW b N t m) :
    Calls prog 19 #[pt v] w (ua jL o1 o2 v pd (yo N t d m (gG m)) w):=by
 have HV:=QH h;have HJ:=QH hJ;have HR:=QH hR;have HFU:=QH hf;have xF:=QH (jS h hJ.on);obtain⟨A0,A1,A2,c0,c1,c2,hA⟩:=h.is;have eF:=QH hA.tk;obtain⟨bE,k0,k1,k2,k3,k4,k5,k6,k7,k8,k9,cV⟩:=hA.cells;have HTN:=QH (pT (w:=w) (A0:=A0) (A1:=A1) (A2:=A2) (c0:=c0) (c1:=c1) (c2:=c2) m);have HFN:=QH (fun ht=>qeo (m:=m) hR hJ hf ht);have nS:Hid (yD b N { m with tok:=zR }∧dI N m []):=⟨(mK hR).ok,(mK hR).ws⟩;obtain⟨q,hq⟩:=QE (decide (m.tok.target=(0,0)));rw[hq]at HTN;have HQ:=QH hq;obtain⟨PN,lR⟩:=QE (gG m);have dn:Hid (PN.code=0∧PN.m={ m with tok:=zR }∧PN.ws=[]):=by unfold Hid;rw[← lR];exact⟨rfl,rfl,rfl⟩
 rw[lR]at HFN ⊢;unfold zq at HTN;clear h hJ hR hf hA hq lR;go_enter func19,ntmps19;go_wp2_with fail;refine xF.out.mono ?_;rintro e W0 ⟨rfl,rfl⟩;clear xF;go_wp2_with fail;refine HTN.out.mono ?_;rintro e W1 ⟨rfl,hb1⟩;have qV:=QH hb1;clear HTN hb1;cases q with
 | true =>
  have HFO:=QH (HFN.out (eF.out (of_decide_eq_true HQ.out)));clear HFN eF;go_wp2_with fail;go_ret;exact jU (qX HV.out qV.out) qV.out HFO.out
 | false =>
  have hst:=vk (G:=fun j=>(o1 j∧j≠v)∨w.heap.size≤j) (t:=zR) (yQ.none W1) (by decide) qep (fun j hj=>.inr (Nat.le_trans qV.out.size hj));unfold eJ at hst;have HST:=QH hst;clear HFN eF hst;go_wp2_with fail;refine HST.out.mono ?_;rintro e W5 ⟨f,rfl,lS,hb5⟩;have HEF:=QH (lS m PN.m dn.out.2.1);obtain⟨kf,ky,rfl⟩:=HEF.out.form;have jX:=QH (qc qV.out hb5);clear lS hb5 HST;have kV:=(Below.refl _ W5).alloc (Nat.le_refl _) (.cells #[.func (.func kf) #[] ky] 115);have vn:=qg.new W5 115 #[.func (.func kf) #[] ky];obtain⟨W6,hW6⟩:=QE (W5.alloc (.cells #[.func (.func kf) #[] ky] 115));rw[hW6]at kV vn;have ew:=QH (gT HV.out (qc jX.out kV) HJ.out HFU.out HR.out dn.out.1 (by rw[dn.out.2.1,dn.out.2.2];exact nS.out) (c:=1) rfl rfl (ir vn (HEF.out.below kV)) (by omega) (cb:=0) (ix W6) (by simp) (dn.out.2.2.symm));clear kV vn HEF;go_wp2_with fail;try rw[hW6]
  refine ew.out.mono ?_;rintro e W7 ⟨r,d',m',lost,dJ,wW,rfl,hh⟩;have HH:=QH hh;clear hh ew;go_wp2_with fail;go_ret;exact⟨r,d',m',lost,dJ,wW,rfl,HH.out⟩
theorem qoR{o1 o2:Nat→Prop}{w:World}{v pd N b:Nat}{d:DD}{m:Mt}{t:Tg}(g:Gd)(h:VP jL w o1 o2 v pd d m false)(hJ:jr.JJ N t d)(hf:0≤d.qu)(hR:qW b N t m) :
    Calls prog 31 #[pt v,gv g] w (ua jL o1 o2 v pd (yo N t d m (uQ m g)) w):=by
 have nS:=QH (qau hR g);obtain⟨g1,g2⟩:=g;have np:=QH h;have hb2:=(Below.refl _ w).alloc (Nat.le_refl _) (.cells #[.int .u64 (g1:Int),.int .u64 (g2:Int)] 55);have hr2:=qg.new w 55 #[.int .u64 (g1:Int),.int .u64 (g2:Int)];obtain⟨W,hW2⟩:=QE (w.alloc (.cells #[.int .u64 (g1:Int),.int .u64 (g2:Int)] 55));rw[hW2]at hb2 hr2;have h2:=qX h hb2;obtain⟨A0,A1,A2,c0,c1,c2,hA⟩:=h2.is;have HA:=QH hA;have HV:=QH h2;have HJ:=QH hJ;have HR:=QH hR;have HFU:=QH hf;have qC:=QH hb2;have xF:=QH (jS h2 hJ.on);have iX:=QH hA.sz;obtain⟨bE,k0,k1,k2,k3,k4,k5,k6,k7,k8,k9,cV⟩:=hA.cells;have r0:=hr2.cell 0;have r1:=hr2.cell 1;have rlt:=hr2.lt;simp only[Nat.zero_add,QA,QB,QC]at r0 r1;have e0:=fun d os=>cell_regrown k0 d os;have e1:=fun d os=>cell_regrown k1 d os;have e2:=fun d os=>cell_regrown k2 d os;have e3:=fun d os=>cell_regrown k3 d os;have e4:=fun d os=>cell_regrown k4 d os;have e5:=fun d os=>cell_regrown k5 d os;have e6:=fun d os=>cell_regrown k6 d os;have e7:=fun d os=>cell_regrown k7 d os;have e8:=fun d os=>cell_regrown k8 d os;have p0:=fun d os=>cell_regrown r0 d os;have p1:=fun d os=>cell_regrown r1 d os;have cF:∀b os,Calls prog 77 #[.agg (zq A0 A1 A2 c0 c1 c2 m),gv (g1,g2)] (grow (redrawn W b) os) fun e w''=>e=.returned (.tuple #[.int .i64 (kQ m (g1,g2)).1,.int .i64 (kQ m (g1,g2)).2])∧∃q:Regrown,w''=grow (redrawn W q.d) q.os :=
  fun b os=>Calls.regrown_of (jT (HA.out.below (below_regrown W b os)).tab.mt.qa iX.out.qa (g1,g2))
 have HFC:=QH (nc t m (g1,g2));obtain⟨PN,lR⟩:=QE (uQ m (g1,g2));obtain⟨F,hF⟩:=QE (kQ m (g1,g2));rw[hF,lR]at HFC;rw[lR]at nS;rw[hF]at cF;rw[lR];obtain⟨F1,F2⟩:=F;clear h h2 hJ hR hA hb2 hr2 lR hF hf;unfold gv at cF;unfold zq at cF;dsimp only at cF;show Calls _ _ #[pt v,.agg #[.int .u64 (g1:Int),.int .u64 (g2:Int)]] _ _;go_enter func31,ntmps31;go_upto_region 1 with fail;try rw[hW2]
 clear hW2;go_wp2_with fail;refine xF.out.mono ?_;rintro e W1 ⟨rfl,rfl⟩;clear xF;go_upto_region 4 with fail;refine wp_region_quiet_below vY (by kernel_rfl) ?_;repeat (any_goals (first|go_big_quiet_step (first|exact cF _ _)|quiet_step (first|exact cF _ _)))
 refine wpQuiet_nil ?_;intro _ hw';obtain⟨⟨dq,osq⟩,hw''⟩:=hw';subst hw'';have hb:=below_regrown W dq osq;have qZ:=QH (qc qC.out hb);clear hb e0 e1 e2 e3 e4 e5 e6 e7 e8 p0 p1 cF HA HV qC bE k0 k1 k2 k3 k4 k5 k6 k7 k8 k9 cV r0 r1 rlt;generalize grow (redrawn W dq) osq=W3 at *;rcases HFC.out with⟨c,hc,hf,_,dV⟩|⟨i,hi,hf,wM,dV⟩
 ·obtain⟨rfl,rfl⟩:=Prod.mk.inj hf;have hcb:(F2 != 0)=true:=by simpa using hc
  have HPN:=QH dV;have HC:=QH hc;clear hc dV hf HFC;go_wp2_with fail;go_ret;rw[HPN.out];exact jU (qX np.out qZ.out) qZ.out (kR HC.out)
 ·obtain⟨rfl,rfl⟩:=Prod.mk.inj hf;have dn:Hid (PN.code=0∧PN.m={ m with qa:=xO m.qa i }∧PN.ws=[]):=by unfold Hid;rw[dV];exact⟨rfl,rfl,rfl⟩
  have HDK:Hid (yD b N PN.m∧dI N m PN.ws):=⟨(nS.out.2.1 dn.out.1).ok,(nS.out.2.1 dn.out.1).ws⟩;have hst:=qk3 (w:=W3) (G:=fun j=>(o1 j∧j≠v)∨w.heap.size≤j) i (fun j hj=>.inr (Nat.le_trans qZ.out.size hj));have HST:=QH hst;have HI:=QH hi;have hce:((0:Int) != 0)=false:=rfl;clear dV hf HFC hst wM hi nS;go_wp2_with fail;refine HST.out.mono ?_;rintro e W5 ⟨f,rfl,lS,hb5⟩;have HEF:=QH (lS m PN.m ⟨HI.out,by have:=HR.out.ok.few;omega,dn.out.2.1⟩);obtain⟨kf,ky,rfl⟩:=HEF.out.form;have jX:=QH (qc qZ.out hb5);clear lS hb5 HST;have kV:=(Below.refl _ W5).alloc (Nat.le_refl _) (.cells #[.func (.func kf) #[] ky] 115);have vn:=qg.new W5 115 #[.func (.func kf) #[] ky];obtain⟨W6,hW6⟩:=QE (W5.alloc (.cells #[.func (.func kf) #[] ky] 115));rw[hW6]at kV vn;have ew:=QH (gT np.out (qc jX.out kV) HJ.out HFU.out HR.out dn.out.1 HDK.out (c:=1) rfl rfl (ir vn (HEF.out.below kV)) (by omega) (cb:=0) (ix W6) (by simp) (dn.out.2.2.symm));clear kV vn HEF;go_wp2_with fail;try rw[hW6]
  refine ew.out.mono ?_;rintro e W7 ⟨r,d',m',lost,dJ,wW,rfl,hh⟩;have HH:=QH hh;clear hh ew;go_wp2_with fail;go_ret;exact⟨r,d',m',lost,dJ,wW,rfl,HH.out⟩
end Go.Proofs.YtdagdllomphidaaGreatDoor.vt.pg
