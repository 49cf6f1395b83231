/- JHead, VgChg, VgGds, VgTb3. -/
import Derived.Test.YtdpbdkacngaemaaGreatDoorZK18
set_option linter.unusedVariables false
set_option linter.unusedSimpArgs false
set_option maxHeartbeats 30000000
set_option maxRecDepth 100000
namespace Go.Proofs.YtdpbdkacngaemaaGreatDoor.jr
open _root_.Go.Proofs.Tryz Go Go.RowKit dk wi
theorem qkP(a b:List UInt8):str a++str b=str (a++b):=by
 apply ByteArray.ext;apply Array.ext';simp[str]
theorem qkQ(l:List UInt8)(n:Nat)(h:l=[0]):Lib.repeatL l n=List.replicate n 0:=by
 subst h
 induction n with
 | zero=>rfl
 | succ n ih=>rw[List.replicate_succ,← ih];rfl
theorem qfc:qk4:=by
 intro a c w ha hc;have e1:(a:Int)+1=((a+1:Nat):Int):=by omega
 have E1:=QH e1;have ha1:(a:Int)≤1:=by omega
 have hc1:(c:Int)≤72:=by omega
 clear e1;go_enter func179,ntmps179;go_wp2_with fail;rw[E1.out];have hA:qh ((w.alloc (.cells #[.int .i64 (a:Int),.int .i64 (c:Int)] 188)).alloc (.cells #[.int .i64 0,.string ⟨#[]⟩] 105)) w.heap.size 188 #[.int .i64 (a:Int),.int .i64 (c:Int)]:=by
  have k:=qh.new w 188 #[.int .i64 (a:Int),.int .i64 (c:Int)];exact k.of_block (((Below.refl _ (w.alloc (.cells #[.int .i64 (a:Int),.int .i64 (c:Int)] 188))).alloc (Nat.le_refl _) _).block _ k.lt)
 have hA2:qh ((w.alloc (.cells #[.int .i64 (a:Int),.int .i64 (c:Int)] 188)).alloc (.cells #[.int .i64 0,.string ⟨#[]⟩] 105)) (w.heap.size+1) 105 #[.int .i64 0,.string ⟨#[]⟩]:=by
  have:=qh.new (w.alloc (.cells #[.int .i64 (a:Int),.int .i64 (c:Int)] 188)) 105 #[.int .i64 0,.string ⟨#[]⟩];simpa using this
 have hB0:Below w.heap.size w ((w.alloc (.cells #[.int .i64 (a:Int),.int .i64 (c:Int)] 188)).alloc (.cells #[.int .i64 0,.string ⟨#[]⟩] 105)):=((Below.refl w.heap.size w).alloc (Nat.le_refl _) _).alloc (by simp) _;refine(jw ⟨#[]⟩ (a+1) _ (by omega) (by decide)).mono ?_;rintro e W1 ⟨rfl,b1⟩;have HA:=QH (hA.of_block (b1.block _ hA.lt));have uT:=QH (hA2.of_block (b1.block _ hA2.lt));have HB:=QH (qc hB0 b1);have q1:=HA.out.cell 1;have lt1:=HA.out.lt;obtain⟨S1,hS1⟩:=QE (str (bl ⟨#[]⟩++zk (a+1)));have hl1:=qy (a+1);have zba:S1.size≤9:=by
  rw[← hS1,qO,List.length_append];have:(bl ⟨#[]⟩).length=0:=rfl;omega
 rw[hS1];have oY:=QH hS1;clear hA hA2 hB0 b1 hS1;go_wp2_with fail;refine(jw S1 c _ (by omega) (by omega)).mono ?_;rintro e W2 ⟨rfl,b2⟩;have HC:=QH (uT.out.of_block (b2.block _ uT.out.lt));have qG:=QH (qc HB.out b2);have lt2:=HC.out.lt;have q2:=HC.out.frozen 0;obtain⟨S2,hS2⟩:=QE (str (bl S1++zk c));have hl2:=qy c;have q06:S2.size≤18:=by rw[← hS2,qO,List.length_append,zg];omega
 have zbb:(S2.size:Int)≤18:=by omega
 rw[hS2];have kY:=QH hS2;clear hS2 b2 q1 lt1;go_wp2_with fail;have en:(32:Int)-(S2.size:Int)=((32-S2.size:Nat):Int):=by omega
 rw[en];refine(Tryz.strings_Repeat ⟨#[0]⟩ (32-S2.size) _ (by omega) (by have:(⟨#[0]⟩:ByteArray).size=1:=rfl;rw[this];omega)).mono ?_;rintro e W3 ⟨rfl,b3⟩;obtain⟨R,hR⟩:=QE ((⟨(Lib.repeatL (⟨#[0]⟩:ByteArray).data.toList (32-S2.size)).toArray⟩:ByteArray):ByteArray);rw[hR];have hRs:R.size=32-S2.size:=by
  rw[← hR,qkQ _ _ rfl];show(List.replicate (32-S2.size) (0:UInt8)).toArray.size=_;rw[List.size_toArray,List.length_replicate]
 have HR:=QH hR;have HD:=QH (HC.out.of_block (b3.block _ lt2));have zG:=QH (qc qG.out b3);have lt3:=HD.out.lt;have q3:=HD.out.frozen 0;have q4:=HD.out.frozen 1;have q5:=HD.out.cell 0;have q6:=HD.out.cell 1;clear b3 hR q2 lt2;go_wp2_with fail;have hE:=(HD.out.qu 0 (.int .i64 0)).qu 1 (.string (S2++R));have q7:=hE.cell 0;have q8:=hE.cell 1;have hout:str (jR a c)=S2++R:=by
  have hz:S2.size=(zk (a+1)).length+(zk c).length:=by
   rw[← kY.out,qO,List.length_append,zg,← oY.out,qO,List.length_append];have:(bl ⟨#[]⟩).length=0:=rfl;omega
  have h2:S2=str (zk (a+1)++zk c):=by rw[← kY.out,← oY.out,zn];rfl
  have h3:R=str (List.replicate (32-(zk (a+1)).length-(zk c).length) 0):=by
   rw[← HR.out,qkQ _ _ rfl,hz,Nat.sub_add_eq];rfl
  rw[h2,h3,qkP];rfl
 have HO:=QH hout;clear hout hE
 (try simp only[Exit.inBlock,Exit.then])
 refine bodyPost_ret (v:=.agg #[.int .i64 0,.string (S2++R)]) (by simp[results,results179,go_sem,q7,q8]) rfl ⟨by rw[HO.out],(zG.out.setCell (p:=⟨w.heap.size+1,0,none⟩) (Nat.le_succ _) _).setCell (p:=⟨w.heap.size+1,1,none⟩) (Nat.le_succ _) _⟩
def m1 (s:Bt):Nat:=match rdNum s with|none=>0|some (m,_)=>m
def c1 (s:Bt):Nat:=match rdNum s with|none=>0|some (_,r)=>match rdNum r with|none=>0|some (c,_)=>c
theorem pT {a c:Nat}(ha:a<2)(hc:c≤72):m1 (jR a c)=a+1∧c1 (jR a c)=c:=by
 unfold m1 c1 jR;rw[List.append_assoc,kq (a+1) (by omega)];dsimp only;rw[kq c (by omega)];exact⟨rfl,rfl⟩
theorem qol(s:Bt):dL s=if m1 s<1∨2<m1 s∨72<c1 s then none else if jR (m1 s-1) (c1 s)=s then some (m1 s-1,c1 s)else none:=by
 by_cases h:m1 s<1∨2<m1 s∨72<c1 s
 ·rw[if_pos h];cases hx:dL s with
  | none=>rfl
  | some p =>
   obtain⟨a,c⟩:=p;obtain⟨ha,hc,rfl⟩:=kx hx;have:=pT ha hc;omega
 ·rw[if_neg h];by_cases he:jR (m1 s-1) (c1 s)=s
  ·rw[if_pos he];have:=(kP (a:=m1 s-1) (c:=c1 s) (by omega) (by omega)).2.1;rw[he]at this;exact this
  ·rw[if_neg he];cases hx:dL s with
   | none=>rfl
   | some p =>
    obtain⟨a,c⟩:=p;obtain⟨ha,hc,rfl⟩:=kx hx;have:=pT ha hc;rw[this.1,this.2]at he;exact absurd rfl he
def qwK (rb:Nat)(s:Bt)(w:World)(e:Ending)(w':World):Prop :=
 e=.returned (.int .u64 (m1 s:Int))∧m1 s<18446744073709551616∧w.grownBy w' (some rb)∧((∃m r,rdNum s=some (m,r)∧zj rb r false w')∨(rdNum s=none∧∃m,zj rb m true w'))
def qwL (rb:Nat)(s:Bt)(w:World)(e:Ending)(w':World):Prop :=
 e=.returned (.int .u64 (c1 s:Int))∧c1 s<18446744073709551616∧w.grownBy w' (some rb)
theorem qwM{rb:Nat}{s:Bt}{w:World}(h:zj rb s false w):Calls prog 191 #[.pointer (some ⟨rb,0,none⟩)] w (qwK rb s w):=by
 refine(uP rb s w h).mono ?_;rintro e w' ⟨hg,⟨z,r1,hn,rfl,hr⟩|⟨hn,rfl,hm⟩⟩
 ·have e1:m1 s=z:=by unfold m1;rw[hn]
  exact⟨by rw[e1],by rw[e1];exact(wI _ _ _ hn).2,hg,.inl ⟨z,r1,hn,hr⟩⟩
 ·have e1:m1 s=0:=by unfold m1;rw[hn]
  exact⟨by rw[e1];rfl,by rw[e1];decide,hg,.inr ⟨hn,hm⟩⟩
theorem qwN{rb:Nat}{s:Bt}{w:World}(h:(∃m r,rdNum s=some (m,r)∧zj rb r false w)∨(rdNum s=none∧∃m,zj rb m true w)):Calls prog 191 #[.pointer (some ⟨rb,0,none⟩)] w (qwL rb s w):=by
 rcases h with⟨m,r,hs,h⟩|⟨hs,m,h⟩
 ·refine(uP rb r w h).mono ?_;rintro e w' ⟨hg,⟨z,r1,hn,rfl,hr⟩|⟨hn,rfl,hm⟩⟩
  ·have e1:c1 s=z:=by unfold c1;rw[hs];dsimp only;rw[hn]
   exact⟨by rw[e1],by rw[e1];exact(wI _ _ _ hn).2,hg⟩
  ·have e1:c1 s=0:=by unfold c1;rw[hs];dsimp only;rw[hn]
   exact⟨by rw[e1];rfl,by rw[e1];decide,hg⟩
 ·refine(l7 rb m w h).mono ?_;rintro e w' ⟨rfl,rfl⟩;have e1:c1 s=0:=by unfold c1;rw[hs]
  exact⟨by rw[e1];rfl,by rw[e1];decide,jx _ _⟩
theorem qkR:qk5:=by
 intro most w own p d h zW hn;have eI:d.read 0=(rd d.now 0,0):=by
  unfold DD.read;have:d.has 0=true:=by
   simp only[DD.has,Bool.and_eq_true,decide_eq_true_eq];omega
  rw[if_neg (by rw[zW];simp),if_neg (by rw[this];simp)];rfl
 have h32:(rd d.now 0).length=32:=by
  unfold rd;cases hx:dk.look d.now 0 with
  | none=>exact zh
  | some u=>exact h.1.pw hx
 generalize rd d.now 0=x at *;obtain⟨res,hres⟩:=QE (dL x);rw[hres];rw[qol]at hres;have xn:=QH hres;have HD:=QH h;have iG:=QH eI;have H32:=QH h32;have hb0:Below w.heap.size w (w.alloc (.cells #[.int .i64 0,.int .i64 0] 188)):=(Below.refl w.heap.size w).alloc (Nat.le_refl _) _;have hk0:qh (w.alloc (.cells #[.int .i64 0,.int .i64 0] 188)) w.heap.size _ _:=qh.new w _ _;have jT:=QH hb0;have HK0:=QH hk0;clear h eI h32 hres hb0 hk0;go_enter func117,ntmps117;go_wp2_with fail;refine(qeW (B:=0) ⟨own,HD.out.below jT.out,fun _ _=>Nat.zero_le _⟩ 0 x (str x) rfl 0 iG.out).mono ?_;rintro e W1 ⟨rfl,_,b1⟩;have fT:=QH (HK0.out.of_block (b1.block _ HK0.out.lt));have qU:=QH (qc jT.out b1);obtain⟨X,hX⟩:=QE (str x);rw[hX];have HX:=QH hX;clear b1 hX;go_wp2_with fail;refine(rC X W1 (by rw[← HX.out,qO,H32.out];decide)).mono ?_;rintro e W2 ⟨rb,rfl,hrb,hR,b2⟩;have uS:=QH hR;have wj:=QH (fT.out.of_block (b2.block _ fT.out.lt));have qG:=QH (qc qU.out b2);have hne:rb≠w.heap.size:=by have:=fT.out.lt;omega
 clear b2 hR;go_wp2_with fail;have hRx:zj rb x false W2:=by
  have:=uS.out;rw[← HX.out,zn]at this;exact this
 refine(qwM hRx).mono ?_;rintro e W3 ⟨rfl,q1r,g3,hst⟩;have HST:=QH hst;have og:=QH (wj.out.of_block (g3.block _ wj.out.lt (by simpa using Ne.symm hne)));have zG:=QH (qG.out.grown g3 qG.out.size (fun j hj=>by simp at hj;have:=qU.out.size;omega));clear hRx hst g3;go_wp2_with fail;refine(qwN HST.out).mono ?_;rintro e W4 ⟨rfl,q1s,g4⟩;have pj:=QH (og.out.of_block (g4.block _ og.out.lt (by simpa using Ne.symm hne)));have zY:=QH (zG.out.grown g4 zG.out.size (fun j hj=>by simp at hj;have:=qU.out.size;omega));clear g4;obtain⟨m,hm⟩:=QE (m1 x);obtain⟨c,hc⟩:=QE (c1 x);have hres:=xn.out;rw[hm,hc]at hres;rw[hm]at q1r;rw[hc]at q1s;rw[hm,hc];clear xn hm hc fT wj og qU qG zG HST;have lt4:=pj.out.lt;have f0:=pj.out.frozen 0;have f1:=pj.out.frozen 1;have q0:=pj.out.cell 0;have q1:=pj.out.cell 1;have hno:∀W,Below w.heap.size w W→res=none→mM res w (.returned (.tuple #[.agg #[.int .i64 0,.int .i64 0],.bool false])) W:=by
  intro W hb hr;subst hr;exact⟨hb,0,0,rfl⟩
 have jK:=QH hno;clear hno;by_cases hlo:m<1
 ·have c1:((m:Int)<1):=by omega
  rw[if_pos (.inl hlo)]at hres;have oA:=QH hres;clear hres;go_wp2_with fail;have hE:=(pj.out.qu 0 (.int .i64 0)).qu 1 (.int .i64 0);have q7:=hE.cell 0;have q8:=hE.cell 1
  (try simp only[Exit.inBlock,Exit.then])
  refine bodyPost_ret (v:=.tuple #[.agg #[.int .i64 0,.int .i64 0],.bool false]) (by simp[results,results117,go_sem,q7,q8]) rfl (jK.out _ ((zY.out.setCell (p:=⟨w.heap.size,0,none⟩) (Nat.le_refl _) _).setCell (p:=⟨w.heap.size,1,none⟩) (Nat.le_refl _) _) oA.out.symm)
 ·by_cases hhi:2<m
  ·have c1:¬ ((m:Int)<1):=by omega
   have c2:(2:Int)<(m:Int):=by omega
   rw[if_pos (.inr (.inl hhi))]at hres;have oA:=QH hres;clear hres;go_wp2_with fail;have hE:=(pj.out.qu 0 (.int .i64 0)).qu 1 (.int .i64 0);have q7:=hE.cell 0;have q8:=hE.cell 1
   (try simp only[Exit.inBlock,Exit.then])
   refine bodyPost_ret (v:=.tuple #[.agg #[.int .i64 0,.int .i64 0],.bool false]) (by simp[results,results117,go_sem,q7,q8]) rfl (jK.out _ ((zY.out.setCell (p:=⟨w.heap.size,0,none⟩) (Nat.le_refl _) _).setCell (p:=⟨w.heap.size,1,none⟩) (Nat.le_refl _) _) oA.out.symm)
  ·by_cases h72:72<c
   ·have c1:¬ ((m:Int)<1):=by omega
    have c2:¬ (2:Int)<(m:Int):=by omega
    have c3:(72:Int)<(c:Int):=by omega
    rw[if_pos (.inr (.inr h72))]at hres;have oA:=QH hres;clear hres;go_wp2_with fail;have hE:=(pj.out.qu 0 (.int .i64 0)).qu 1 (.int .i64 0);have q7:=hE.cell 0;have q8:=hE.cell 1
    (try simp only[Exit.inBlock,Exit.then])
    refine bodyPost_ret (v:=.tuple #[.agg #[.int .i64 0,.int .i64 0],.bool false]) (by simp[results,results117,go_sem,q7,q8]) rfl (jK.out _ ((zY.out.setCell (p:=⟨w.heap.size,0,none⟩) (Nat.le_refl _) _).setCell (p:=⟨w.heap.size,1,none⟩) (Nat.le_refl _) _) oA.out.symm)
   ·have c1:¬ ((m:Int)<1):=by omega
    have c2:¬ (2:Int)<(m:Int):=by omega
    have c3:¬ (72:Int)<(c:Int):=by omega
    rw[if_neg (by omega)]at hres;obtain⟨k,rfl⟩:∃k,m=k+1:=⟨m-1,by omega⟩;have e1:((k+1:Nat):Int)-1=(k:Int):=by omega
    rw[Nat.add_sub_cancel]at hres;have oA:=QH hres;have E1:=QH e1;have hk2:k<2:=by omega
    have q1t:c≤72:=by omega
    clear hres e1;go_wp2_with fail;have kb5:qh (W4.alloc (.cells #[.int .i64 (k:Int),.int .i64 (c:Int)] 188)) W4.heap.size _ _:=qh.new W4 _ _;have hb5:Below w.heap.size w (W4.alloc (.cells #[.int .i64 (k:Int),.int .i64 (c:Int)] 188)):=zY.out.alloc zY.out.size _;have hk5:qh (W4.alloc (.cells #[.int .i64 (k:Int),.int .i64 (c:Int)] 188)) w.heap.size 188 #[.int .i64 0,.int .i64 0]:=pj.out.of_block (((Below.refl W4.heap.size W4).alloc (Nat.le_refl _) _).block _ lt4);have KB5:=QH kb5;have jU:=QH hb5;have HK5:=QH hk5;clear kb5 hb5 hk5 q0 q1 f0 f1 lt4;refine(qfc k c _ hk2 q1t).mono ?_;rintro e W6 ⟨rfl,b6⟩;have kb6:qh W6 W4.heap.size _ _:=KB5.out.of_block (b6.block _ KB5.out.lt);have nN:qh W6 w.heap.size 188 #[.int .i64 0,.int .i64 0]:=HK5.out.of_block (b6.block _ HK5.out.lt);have dJ:=QH (qc jU.out b6);have HK6:=QH nN;have r0:=kb6.cell 0;have r1:=kb6.cell 1;have lt6:=nN.lt;have zbc:=kb6.lt;have q0:=nN.cell 0;have q1:=nN.cell 1;have f0:=nN.frozen 0;have f1:=nN.frozen 1;clear kb6 nN b6 KB5 jU HK5 zY pj;have wA:∀(Z:ByteArray) (W:World),(Instr.field 105 (.agg #[.int .i64 0,.string Z]) 1).run prog W=.ok (.string Z) W:=fun Z W=>by simp[Instr.field,go_sem,asAgg]
    obtain⟨Y,hY⟩:=QE (str (jR k c));rw[hY];have HY:=QH hY;clear hY;by_cases heq:jR k c=x
    ·have hsome:res=some (k,c):=by rw[← oA.out,if_pos heq]
     have hYX:Y=X:=by rw[← HY.out,← HX.out,heq]
     have hq:(Y.toList == X.toList)=true:=by rw[hYX];simp
     have HS:=QH hsome;clear hsome hYX oA heq;go_wp2_with fail;have hE:=(HK6.out.qu 0 (.int .i64 (k:Int))).qu 1 (.int .i64 (c:Int));have q7:=hE.cell 0;have q8:=hE.cell 1
     (try simp only[Exit.inBlock,Exit.then])
     refine bodyPost_ret (v:=.tuple #[.agg #[.int .i64 (k:Int),.int .i64 (c:Int)],.bool true]) (by simp[results,results117,go_sem,q7,q8]) rfl ?_;rw[HS.out];exact⟨(dJ.out.setCell (p:=⟨w.heap.size,0,none⟩) (Nat.le_refl _) _).setCell (p:=⟨w.heap.size,1,none⟩) (Nat.le_refl _) _,rfl⟩
    ·have hnone:res=none:=by rw[← oA.out,if_neg heq]
     have hYX:Y≠X:=by
      intro h;rw[← HY.out,← HX.out]at h;exact heq (str_inj h)
     have hq:(Y.toList == X.toList)=false:=by
      rw[beq_eq_false_iff_ne];intro h;apply hYX;rw[← cJ Y,← cJ X];exact congrArg str (by simpa[bl,ByteArray.toList_eq]using h)
     have HS:=QH hnone;clear hnone hYX oA heq;go_wp2_with fail;have hE:=(HK6.out.qu 0 (.int .i64 0)).qu 1 (.int .i64 0);have q7:=hE.cell 0;have q8:=hE.cell 1
     (try simp only[Exit.inBlock,Exit.then])
     refine bodyPost_ret (v:=.tuple #[.agg #[.int .i64 0,.int .i64 0],.bool false]) (by simp[results,results117,go_sem,q7,q8]) rfl ?_;exact jK.out _ ((dJ.out.setCell (p:=⟨w.heap.size,0,none⟩) (Nat.le_refl _) _).setCell (p:=⟨w.heap.size,1,none⟩) (Nat.le_refl _) _) HS.out
end Go.Proofs.YtdpbdkacngaemaaGreatDoor.jr
namespace Go.Proofs.YtdpbdkacngaemaaGreatDoor.vt.pg
open _root_.Go.Proofs.Tryz Go Go.RowKit Go.Sort ib mt im sp
theorem cf (t:Tg):∀(ss:List Bt) (o:Nat),dW (fun x=>decide (t x.1=x.2)) (jr.zf o ss)=x9 t o ss
 | [],_=>rfl
 | s::r,o=>by
  have ih:=cf t r (o+1);unfold dW at ih ⊢;unfold jr.zf x9;rw[List.filter_cons,ih];by_cases h:t (o:Int)=s <;> simp[h]
theorem ig {ss:List Bt}{o:Nat}{x:Wr}(h:x∈jr.zf o ss):(o:Int)≤x.1∧x.1<((o+ss.length:Nat):Int):=by
 obtain⟨i,hi,h1,_⟩:=jr.jf ss o x h;omega
def qdQ (G:Nat→Prop)(w:World)(A:Option Addr)(n:Nat)(M:Nat→Mt):Prop:=∀i,i<n→∃b o f,A=some ⟨b,o,none⟩∧b<w.heap.size∧w.cell? ⟨b,o+i,none⟩=some f∧vr G w f (M i) (M (i+1))
theorem qdQ.below{G:Nat→Prop}{w w':World}{A:Option Addr}{n:Nat}{M:Nat→Mt}(h:qdQ G w A n M)(hb:Below w.heap.size w w'):qdQ G w' A n M:=fun i hi=>by
 obtain⟨b,o,f,h1,h2,h3,h4⟩:=h i hi;exact⟨b,o,f,h1,Nat.lt_of_lt_of_le h2 hb.size,(hb.cell (p:=⟨b,o+i,none⟩) h2).trans h3,h4.below hb⟩
def EfR (G:Nat→Prop)(g:Nat)(n:Nat)(M:Nat→Mt)(w:World)(i:Value)(wr:World):Prop :=
 ∃k:Nat,k≤n∧i=.int .i64 (k:Int)∧Nx G wr g (M k)∧Below w.heap.size w wr
def BlR (B:Nat)(l:List Wr)(P:List Pl)(w:World)(v i:Value)(wr:World):Prop :=
 ∃k:Nat,k≤P.length∧i=.int .i64 (k:Int)∧jr.fY wr B v (l++na (P.take k))∧Below w.heap.size w wr
theorem qkS{P:List Pl}{k:Nat}(h:k<P.length):na (P.take (k+1))=na (P.take k)++(if P[k].2.1=0 then[]else[(P[k].2.1,P[k].2.2)]):=by
 unfold na;rw[List.take_succ_eq_append_getElem h,List.filterMap_append]
 congr 1
 by_cases e:P[k].2.1=0 <;> simp[e]
theorem iQ {b N:Nat}{m:Mt}(h:jm b N m):mtS m:=by
 refine⟨?_,?_,fun s hs=>?_,?_⟩
 ·have:=h.len;have:=h.b8;omega
 ·have:=h.few;omega
 ·have:=(h.wM s hs).1;have:=h.b8;omega
 ·rcases h.tok with ht|ht
  ·rw[ht];simp[yg]
  ·have:=ht.2.2.2.2.2.1;have:=h.b8;omega
def qwP (S:Nat)(o1 o2:Nat→Prop)(v pd:Nat)(Q:Int→DD→Mt→Bool→Prop)(w:World)(e:Ending)(w':World):Prop :=
 ∃r d' m' lost ov eG,e=.returned (.int .i64 r)∧VP gI w' ov eG v pd d' m' lost∧ib.qB (fun j=>o1 j∨o2 j) w w'∧(∀j,ov j∨eG j→(o1 j∨o2 j)∨S≤j)∧Q r d' m' lost
theorem qdR{o1 o2:Nat→Prop}{w:World}{v pd N S b n:Nat}{d:DD}{m m':Mt}{t:Tg}{ws:List Wr}{M:Nat→Mt}(h:VP gI w o1 o2 v pd d m false)(hJ:jr.JJ N t d)(hf:0≤d.qz)(hR:yz b N t m)(hS:S≤w.heap.size)(xm:∀j,o1 j∨o2 j∨j=gN→j<S)
    (hM0:M 0=m) (hMn:M n=m') (vD:jm b N m') (ou:sA N m ws) {A:Option Addr} {c:Nat} (hE:qdQ (fun j=>(o1 j∧j≠v)∨S≤j) w A n M) (hn:n≤10) {B:Option Addr} {cb:Nat} {P:List Pl} (hP:PlL w B P) (hpl:P.length≤100) (hPW:na P=ws) :
    Calls prog 63 #[pt v,.slice B P.length cb,.slice A n c] w (qwP S o1 o2 v pd (qg1 N t d m ⟨0,m',ws⟩) w):=by
 obtain⟨iw,wi1,wi2,wi3,wi4⟩:=info_parts sX;obtain⟨A0,A1,A2,c0,c1,c2,hA⟩:=h.is;have HV:=QH h;have HA:=QH hA;have HJ:=QH hJ;have HR:=QH hR;have HE:=QH hE;have HP:=QH hP;have fH:=QH vD;have HWS:=QH ou;have HPW:=QH hPW;have HS:=QH hS;have qwR:=QH xm;have HMN:=QH hMn;have HFU:=QH hf;obtain⟨pU,k0,k1,k2,k3,k4,k5,k6,k7,k8,k9,uO⟩:=hA.cells;have uo:=(Below.refl _ w).alloc (Nat.le_refl _) (.cells (zw A0 A1 A2 c0 c1 c2 m) 96);have iO:=qh.new w 96 (zw A0 A1 A2 c0 c1 c2 m);obtain⟨W1,hW1⟩:=QE (w.alloc (.cells (zw A0 A1 A2 c0 c1 c2 m) 96));rw[hW1]at uo iO;obtain⟨g,hg⟩:=QE w.heap.size;have HG:=QH hg;have qU:=QH uo;have HN1:Hid (Nx (fun j=>(o1 j∧j≠v)∨S≤j) W1 g (M 0)):=by
  refine⟨A0,A1,A2,c0,c1,c2,by rw[hM0,← hg];exact iO,?_⟩;rw[hM0];exact(hA.tab.mono (fun j hj=>⟨.inl hj,by have:=hA.low j hj.1;omega⟩)).below uo
 clear h hA hJ hR hE hP vD ou hPW hS xm hMn hM0 uo iO hf;unfold zw at hW1;go_enter func63,ntmps63;go_upto_region 2 with fail;try rw[hW1]
 try rw[hg]
 clear hW1 hg k0 k1 k2 k3 k4 k5 k6 k7 k8 k9 uO pU;go_wp2_with fail;go_loopw [20] (fun i wr=>EfR (fun j=>(o1 j∧j≠v)∨S≤j) g n M w i wr) (fun i _=>n-(intOf i).toNat);case atStart=>exact⟨0,Nat.zero_le _,rfl,HN1.out,qU.out⟩
 case round =>
  obtain⟨k,hk,rfl,hnx,hB⟩:=hrel;have HNX:=QH hnx;have HB:=QH hB;clear hnx hB;by_cases hlt:k<n
  ·have ja:(k:Int)<(n:Int):=by omega
   have hk0:¬ (k:Int)<0:=by omega
   obtain⟨b',o',f,rfl,s1,s2,kf,kU,rfl,hcf,qbq⟩:=HE.out k hlt;have q1:=Nat.lt_of_lt_of_le s1 HB.out.size;have q2:=(HB.out.cell (p:=⟨b',o'+k,none⟩) s1).trans s2;have yK:=QH (qbq wr g HB.out (by rw[HG.out];exact Nat.le_refl _) HNX.out);clear s1 s2 qbq;go_wp2_with fail;refine yK.out.mono ?_;rintro e W2 ⟨rfl,qwU,hbu⟩;have q1v:=QH qwU;have qG:Hid (Below w.heap.size w W2):=HB.out.trans (hbu.below (fun i e=>by rw[e,← HG.out];exact Nat.le_refl _) HB.out.size);clear qwU hbu yK q1 q2;go_wp2_with fail;go_roundw;case rel=>exact⟨k+1,by omega,by go_num,q1v.out,qG.out⟩
   case measure=>simp[intOf];omega
  ·obtain rfl:k=n:=by omega
   obtain⟨wo,hwo⟩:∃x,x=wr:=⟨_,rfl⟩;subst hwo;have ja:¬ (k:Int)<(k:Int):=by omega
   obtain⟨X0,X1,X2,d0,d1,d2,pJ,hxt⟩:=HNX.out.ex;rw[HMN.out]at pJ hxt;have HXK:=QH pJ;have HXT:=QH hxt;have hsz:mtS m':=iQ fH.out;have po:=QH hsz;have cH:xK wo:=HA.out.ct.below HB.out HA.out.ct.1;have dX:=QH cH;have hwr:=mI hxt.mt hsz (fH.out.enc HR.out.N1) (fH.out.size HR.out.N1) cH;have HWR:=QH hwr;have j0:=pJ.cell 0;have j1:=pJ.cell 1;have j2:=pJ.cell 2;have j3:=pJ.cell 3;have j4:=pJ.cell 4;have j5:=pJ.cell 5;have j6:=pJ.cell 6;have j7:=pJ.cell 7;have j8:=pJ.cell 8;have jlt:=pJ.lt;simp only[zw,QA,QB,QC]at j0 j1 j2 j3 j4 j5 j6 j7 j8;unfold zw at HWR;clear pJ hxt hsz cH hwr HNX;go_wp2_with fail;refine HWR.out.mono ?_;rintro e W2 ⟨vl,rfl,hol,hb2⟩;have HOL:=QH hol;have qG:=QH hb2;have hts:=xJ fH.out HR.out.N1;have HTS:=QH hts;have tW:Hid ((jr.zf 145 (xD m')).length=(xD m').length):=by unfold Hid;rw[jr.qX]
   have HTC:Hid (qky wo 141 (pt v) (fun x=>decide (t x.1=x.2)) (jr.zf 145 (xD m'))):=fun W hW x hx=>by
    have hr:=ig hx;have h2:=HTS.out.2;have h3:=HR.out.N0;exact qgY (qT HV.out (qc HB.out hW)) HJ.out x hr.1 (by omega)
   have hdel:=qnK (b:=pt v) hol (by rw[tW.out];omega) (by rw[tW.out];omega) hb2 HTC.out;rw[show qk0 (jr.zf 145 (xD m')) (fun x=>decide (t x.1=x.2)) wo=qk0 (jr.zf 145 (xD m')) (fun x=>decide (t x.1=x.2)) wo from rfl]at hdel;have qwW:=QH hdel;clear hol hb2 hts hdel HWR j0 j1 j2 j3 j4 j5 j6 j7 j8 jlt;go_wp2_with fail;refine qwW.out.mono ?_;rintro e W3 ⟨v3,rfl,ho3,hb3⟩;rw[cf]at ho3;have HO3:=QH ho3;have zG:=QH hb3;have HLD:=QH (dB (t:=t) (xD m') 145);obtain⟨td,htd⟩:=QE (x9 t 145 (xD m'));have HTD:=QH htd;rw[htd]at HO3 HLD;clear ho3 hb3 htd qwW HTC HOL;go_wp2_with fail;go_loopw [10,41] (fun v i wz=>BlR wo.heap.size td P wo v i wz) (fun _ i _=>P.length-(intOf i).toNat);case atStart=>exact⟨0,Nat.zero_le _,rfl,by simpa[na]using HO3.out,zG.out⟩
   case round =>
    obtain⟨k,hk,rfl,ho,hB4⟩:=hrel;have HO:=QH ho;have zY:=QH hB4;have yX:=QH (qc HB.out hB4);clear ho hB4;by_cases hlt:k<P.length
    ·have q1x:(k:Int)<(P.length:Int):=by omega
     have hk0:¬ (k:Int)<0:=by omega
     obtain⟨b',o',rfl,s1,s2,s3,s4⟩:=(HP.out.below yX.out) k hlt;have HPT:=QH (qkS hlt);have hlen:(na (P.take k)).length≤100:=by
      have h1:(na (P.take k)).length≤(P.take k).length:=List.length_filterMap_le _ _;rw[List.length_take]at h1;omega
     obtain⟨x,hx⟩:=QE (P[k]);rw[hx]at HPT s2 s3 s4;clear hx;obtain⟨bk,at_,s⟩:=x;dsimp only at HPT s2 s3 s4;obtain⟨SS,hSS⟩:=QE (str s);have HSS:=QH hSS;rw[hSS]at s4;have uo:=(Below.refl _ wr).alloc (Nat.le_refl _) (.cells #[.int .i64 bk,.int .i64 at_,.string SS] 214);have iO:=qh.new wr 214 #[.int .i64 bk,.int .i64 at_,.string SS];obtain⟨W5,cG⟩:=QE (wr.alloc (.cells #[.int .i64 bk,.int .i64 at_,.string SS] 214));rw[cG]at uo iO;have v1:=iO.cell 1;have v2:=iO.cell 2;have hvl:=iO.lt;simp only[QA,QB,QC]at v1 v2;have jU:=QH (qc zY.out uo);have HO5:Hid (jr.fY W5 wo.heap.size _ (td++na (P.take k))):=zK HO.out (fun j hj=>uo.block j (HO.out.lt j hj).2);by_cases h0:at_=0
     ·have hz0:(at_ == 0)=true:=by rw[h0];rfl
      have HP0:Hid (td++na (P.take (k+1))=td++na (P.take k)):=by unfold Hid;rw[HPT.out,if_pos h0,List.append_nil]
      clear uo iO h0 HPT hSS;go_upto_region 14 with fail;try rw[cG]
      clear cG s1 s2 s3 s4;go_wp2_with fail;go_roundw;case rel=>exact⟨k+1,by omega,by go_num,by rw[HP0.out];exact HO5.out,jU.out⟩
      case measure=>simp[intOf];omega
     ·have hz0:(at_ == 0)=false:=beq_false_of_ne h0;have rU:Hid (td++na (P.take (k+1))=(td++na (P.take k))++[(at_,s)]):=by unfold Hid;rw[HPT.out,if_neg h0,List.append_assoc]
      have hby:=(Below.refl _ W5).alloc (Nat.le_refl _) (.cells #[.int .i64 at_,.string SS] 105);have HO6:Hid (jr.fY (W5.alloc (.cells #[.int .i64 at_,.string SS] 105)) wo.heap.size _ (td++na (P.take k))):=zK HO5.out (fun j hj=>hby.block j (HO5.out.lt j hj).2);have dJ:=QH (qc jU.out hby);have eJ:Hid (∀j u,([.int .i64 at_,.string SS]:List Value)[j]?=some u→(W5.alloc (.cells #[.int .i64 at_,.string SS] 105)).cell? ((⟨W5.heap.size,0,none⟩:Addr).add j)=some u):=fun j u hu=>by
       rw[addr_add,Nat.zero_add,(qh.new W5 105 #[.int .i64 at_,.string SS]).cell j];simpa using hu
      have e1:∀u∈([.int .i64 at_,.string SS]:List Value),u.oneCell'=true:=by intro u hu;simp at hu;rcases hu with rfl|rfl <;> rfl
      have E1:=QH e1;have qwY:Hid (td.length≤48):=by have h1:=HLD.out;have h2:=HTS.out.2;unfold Hid;omega
      have E2:Hid ((td++na (P.take k)).length+1≤maxLen):=by have h1:=qwY.out;unfold Hid;rw[List.length_append];unfold maxLen;omega
      have E3:Hid (((td++na (P.take k)).length+1)*24≤140737488355328):=by have h1:=qwY.out;unfold Hid;rw[List.length_append];omega
      obtain⟨Lw,hLw⟩:=QE (td++na (P.take k));rw[hLw]at HO6 rU E2 E3;clear uo iO h0 HPT e1 hby hLw HO5 HO hSS hlen;go_upto_region 14 with fail;try rw[cG]
      clear cG s1 s2 s3 s4;go_wp2_with (at_builtin;refine xM rfl (.tmp 48) (.tmp 54) 89 rfl wo.heap.size 105 iw (.agg #[.int .i64 0,.string ByteArray.empty]) 2 24 underlying89 wi1 wi2 wi3 wi4 rfl (by decide) _ _ _ rfl HO6.out ⟨W5.heap.size,0,none⟩ 1 1 [.int .i64 at_,.string SS] rfl rfl eJ.out E1.out E2.out E3.out dJ.out.size ?_);intro v' w1 hown hgrow _;have HB7:Hid (Below wo.heap.size wo w1):=dJ.out.grown hgrow dJ.out.size (fun j hj=>(HO6.out.lt j hj).1);have HO7:Hid (jr.fY w1 wo.heap.size v' (Lw++[(at_,s)])):=by
       refine jr.fY.snoc ?_;show w1.ownsRow _ _ _ v' (Lw.length+1) (jr.zI Lw++[.int .i64 at_,.string (str s)]);rw[HSS.out];exact hown
      clear hown hgrow;go_wp2_with fail;go_roundw;case rel=>exact⟨k+1,by omega,by go_num,by rw[rU.out];exact HO7.out,HB7.out⟩
      case measure=>simp[intOf];omega
    ·obtain rfl:k=P.length:=by omega
     have q1x:¬ (P.length:Int)<(P.length:Int):=by omega
     have ho:=HO.out;rw[List.take_length,HPW.out,← HTD.out]at ho;have HOC:Hid (jr.fY wr wo.heap.size _ (qK t m' ws)):=ho;have qwZ:=gF HR.out fH.out HWS.out;obtain⟨AW,cw,hvw,ou⟩:=HOC.out.view (fun x hx=>by have:=qwZ x hx;have:=HR.out.N1;unfold jr.qA;omega);have hlw:(qK t m' ws).length≤60:=by
      have h1:=dB (t:=t) (xD m') 145;have h2:=HTS.out.2;have h3:=HWS.out.few;unfold qK qeM;rw[List.length_append];omega
     have hv2:=qT HV.out yX.out;have hN:=hv2.dk.1;have hdn:d.n=N:=HJ.out.rb.1;have qpQ:d.more=[]:=HJ.out.more;have qxa:=jr.cd jr.qfc jr.qkR hv2.dk (by rw[hdn];have:=HR.out.N0;omega) AW cw (qK t m' ws) ou (by omega) (HA.out.ct.below yX.out HA.out.ct.1) (by rw[qpQ];decide) (by decide);have qon:=QH qxa;have HCA:=QH (jr.lU (N:=N) (tgt:=t) (l:=qK t m' ws) (d:=d) (by have:=HR.out.N0;omega) HR.out.N1 HJ.out HFU.out (qdi HR.out fH.out HWS.out));have HV2:=QH hv2;obtain⟨pU,k0,k1,k2,k3,k4,k5,k6,k7,k8,k9,uO⟩:=(HA.out.below yX.out).cells;obtain⟨nw,hnw⟩:=QE ((qK t m' ws).length);rw[hnw]at hvw qon;have HVW:=QH hvw;rw[hvw];obtain⟨RC,hRC⟩:=QE (jr.zS d (qK t m' ws));rw[hRC]at qon HCA;clear qwZ ou hlw hv2 hN hdn qpQ qxa hnw hvw hRC ho k0 k1 k2 k3 k4 k5 k6 k7 k8 uO;go_wp2_with fail;refine qon.out.mono ?_;rintro e W6 ⟨rfl,eG,hd6,wG,hg6⟩;obtain⟨r6,d6⟩:=RC;dsimp only at hd6 HCA ⊢;have HD6:=QH hd6;have dJ:Hid (ib.qB o2 wr W6):=sG wG;have HG6:Hid (∀j,eG j→o2 j∨wr.heap.size≤j):=hg6;have HDJ:=QH HV.out.dj;have hS:=HS.out;have hgS:S≤g:=by rw[← HG.out];exact hS
     have qsd:Hid (∀j,o2 j→j<S):=fun j hj=>qwR.out j (.inr (.inl hj));have hAW:=(HA.out.below yX.out).stay (w':=W6) (fun j hj=>dJ.out.block j (by
      rcases hj with hj|rfl
      ·exact Nat.lt_of_lt_of_le (HA.out.low j hj) yX.out.size
      ·exact Nat.lt_of_lt_of_le HA.out.ct.1 yX.out.size) (HDJ.out j hj)) dJ.out.size
     have tS:=QH hAW;have hgk:qh W6 g 96 (zw X0 X1 X2 d0 d1 d2 m'):=(HXK.out.below zY.out).of_block (dJ.out.block g (HXK.out.below zY.out).lt (fun e=>by have:=qsd.out g e;omega));have j0:=hgk.cell 0;have j1:=hgk.cell 1;have j2:=hgk.cell 2;have j3:=hgk.cell 3;have j4:=hgk.cell 4;have j5:=hgk.cell 5;have j6:=hgk.cell 6;have j7:=hgk.cell 7;have j8:=hgk.cell 8;have jlt:=hgk.lt;simp only[zw,QA,QB,QC]at j0 j1 j2 j3 j4 j5 j6 j7 j8;obtain⟨pU,k0,k1,k2,k3,k4,k5,k6,k7,k8,k9,uO⟩:=hAW.cells;have f0:=hAW.blk.frozen 0;have f1:=hAW.blk.frozen 1;have f2:=hAW.blk.frozen 2;have f3:=hAW.blk.frozen 3;have f4:=hAW.blk.frozen 4;have f5:=hAW.blk.frozen 5;have f6:=hAW.blk.frozen 6;have f7:=hAW.blk.frozen 7;have f8:=hAW.blk.frozen 8;have f10:=hAW.blk.frozen 10;have qxb:Hid (ib.qB (fun j=>o1 j∨o2 j) w W6):=(ib.qB.of_below (S:=fun j=>o1 j∨o2 j) yX.out).trans dJ.out (fun j hj=>.inl (.inr hj));have hov:=HA.out.own;have HOV:=QH hov;clear hd6 wG hg6 hAW hgk hov qon;rcases HCA.out with⟨rfl,hjj,hfz,hf0⟩|⟨rfl,qpT,hfn,hfz⟩
     ·have HJJ:=QH hjj;have HFZ:=QH hfz;have HF0:=QH hf0;clear hjj hfz hf0 HCA;go_wp2_with fail;show bodyPost _ _ _ _ _ (xC W6 v (.slice X0 m'.live.length d0) (.slice X1 m'.qd.length d1) (.slice X2 m'.tok.qp.length d2) m'.tok);obtain⟨WE,hWE⟩:=QE (xC W6 v (.slice X0 m'.live.length d0) (.slice X1 m'.qd.length d1) (.slice X2 m'.tok.qp.length d2) m'.tok);have hbv:ib.qB (fun j=>j=v) W6 WE:=by
       rw[← hWE];have go:∀(k:Nat) (u:Value) {W':World},ib.qB (fun j=>j=v) W6 W'→ib.qB (fun j=>j=v) W6 (W'.setCell ⟨v,k,none⟩ u):=fun k u W' h1=>h1.setCell _ _ (.inl rfl);exact go 8 _ (go 7 _ (go 6 _ (go 5 _ (go 4 _ (go 3 _ (go 2 _ (go 1 _ (go 0 _ (ib.qB.refl _ _)))))))))
      have hvk:qh WE v 115 (vC X0 X1 X2 d0 d1 d2 m' pd false):=by
       rw[← hWE];have h9:=((((((((tS.out.blk.qu 0 (.slice X0 m'.live.length d0)).qu 1 (.slice X1 m'.qd.length d1)).qu 2 (.int .u64 (m'.tok.base.1:Int))).qu 3 (.int .u64 (m'.tok.base.2:Int))).qu 4 (.int .u64 (m'.tok.target.1:Int))).qu 5 (.int .u64 (m'.tok.target.2:Int))).qu 6 (.int .i64 m'.tok.next)).qu 7 (.int .i64 m'.tok.all)).qu 8 (.slice X2 m'.tok.qp.length d2);simp only[vC,List.setIfInBounds_toArray,List.set_cons_succ,List.set_cons_zero]at h9;exact h9
      have hvS:v<S:=qwR.out v (.inl HOV.out);have hwo:wo.heap.size≤wr.heap.size:=zY.out.size;have hst:vq (fun j=>(((o1 j∧j≠v)∨S≤j)∧j≠g)∧j<wo.heap.size) wo WE:=by
       refine⟨Nat.le_trans hwo (Nat.le_trans dJ.out.size hbv.size),fun j hj hlt=>?_⟩;have hj2:¬ o2 j:=fun e=>by
        rcases hj.1.1 with h|h
        ·exact HDJ.out j (.inl h.1) e
        ·have:=qsd.out j e;omega
       have hjv:¬ j=v:=by
        rcases hj.1.1 with h|h
        ·exact h.2
        ·omega
       rw[hbv.block j (Nat.lt_of_lt_of_le (Nat.lt_of_lt_of_le hlt hwo) dJ.out.size) hjv,dJ.out.block j (Nat.lt_of_lt_of_le hlt hwo) hj2,zY.out.block j hlt]
      have qxd:xK WE:=vn tS.out.ct hbv.size (hbv.block gN tS.out.ct.1 tS.out.gv);have hvp:VP gI WE (fun j=>o1 j∨(S≤j∧j<wr.heap.size)) eG v pd d6 m' false:=by
       refine⟨⟨X0,X1,X2,d0,d1,d2,hvk,(HXT.out.bound.stay hst).mono (fun j hj=>?_),po.out,qxd,.inl HOV.out,fun j hj=>?_,tS.out.gv,?_⟩,HD6.out.keep hbv.size (fun j hj=>hbv.block j (eH HD6.out j hj) (fun e=>?_)),fun j hj e=>?_⟩
       ·rcases hj.1.1 with h|h
        ·exact⟨.inl h.1,h.2⟩
        ·exact⟨.inr ⟨h,by have:=hj.2;omega⟩,by omega⟩
       ·rcases hj with h|h
        ·exact Nat.lt_of_lt_of_le (tS.out.low j h) hbv.size
        ·have:=dJ.out.size;have:=hbv.size;omega
       ·intro htg;rcases fH.out.tok with h|h
        ·exact h
        ·exfalso;have:=h.2.1;rw[htg]at this;unfold above at this;simp at this
       ·rw[e]at hj;rcases HG6.out v hj with h|h
        ·exact HDJ.out v (.inl HOV.out) h
        ·have:=yX.out.size;omega
       ·rcases HG6.out j e with h|h
        ·rcases hj with(hj|hj)|hj
         ·exact HDJ.out j (.inl hj) h
         ·have:=qsd.out j h;omega
         ·exact HDJ.out j (.inr hj) h
        ·rcases hj with(hj|hj)|hj
         ·have:=HA.out.low j hj;have:=yX.out.size;omega
         ·omega
         ·have:=HA.out.ct.1;have:=yX.out.size;unfold gN at hj;rw[hj]at h;omega
      have hbu:ib.qB (fun j=>o1 j∨o2 j) w WE:=qxb.out.trans hbv (fun j hj=>.inl (.inl (by rw[hj];exact HOV.out)));have HVP:=QH hvp;have HBU:=QH hbu;rw[hWE];clear hbv hvk hst qxd hvp hbu hWE;refine bodyPost_ret (v:=.int .i64 0) (by simp[results,results63,go_sem]) rfl ⟨0,d6,m',false,_,eG,rfl,HVP.out,HBU.out,fun j hj=>?_,.inr (.inl ⟨rfl,rfl,HJJ.out,rfl,rfl,HFZ.out,HF0.out⟩)⟩;rcases hj with(hj|hj)|hj
      ·exact .inl (.inl hj)
      ·exact .inr hj.1
      ·rcases HG6.out j hj with h|h
       ·exact .inl (.inr h)
       ·have:=yX.out.size;exact .inr (by omega)
     ·have HGO:=QH qpT;have HFN:=QH hfn;have HFZ:=QH hfz;have qxe:VP gI W6 o1 eG v pd d6 m false:=⟨⟨A0,A1,A2,c0,c1,c2,tS.out⟩,HD6.out,fun j hj e=>by
       rcases HG6.out j e with h|h
       ·exact HDJ.out j hj h
       ·rcases hj with hj|hj
        ·have:=HA.out.low j hj;have:=yX.out.size;omega
        ·have:=HA.out.ct.1;have:=yX.out.size;unfold gN at hj;rw[hj]at h;omega⟩
      have eU:=QH (q0P qxe);clear qpT hfn hfz HCA qxe;go_wp2_with fail;go_ret;refine⟨6,d6,m,true,o1,eG,rfl,eU.out.1,qxb.out.trans eU.out.2 (fun j hj=>.inl (.inl (by rw[hj];exact HOV.out))),fun j hj=>?_,.inr (.inr ⟨rfl,rfl,HGO.out,rfl,HFN.out,HFZ.out⟩)⟩;rcases hj with hj|hj
      ·exact .inl (.inl hj)
      ·rcases HG6.out j hj with h|h
       ·exact .inl (.inr h)
       ·have:=yX.out.size;exact .inr (by omega)
end Go.Proofs.YtdpbdkacngaemaaGreatDoor.vt.pg
namespace Go.Proofs.YtdpbdkacngaemaaGreatDoor.vt.pg
open _root_.Go.Proofs.Tryz Go Go.RowKit ib mt im sp
theorem qse:(prog.info? 38).map (fun i=>(i.zero,i.size,i.bytes))=some (some (.agg #[.int .u64 0,.int .u64 0]),2,16):=by kernel_rfl
def uK:List Gd→List Value
 | []=>[]
 | x::r=>.int .u64 (x.1:Int) :: .int .u64 (x.2:Int)::uK r
theorem aa:∀(l r:List Gd),uK (l++r)=uK l++uK r
 | [],_=>rfl
 | x::l,r=>by simp[uK,aa l r]
theorem nh:∀(l:List Gd) (i:Nat) (h:i<l.length),(uK l)[i*2]?=some (.int .u64 (l[i].1:Int))∧(uK l)[i*2+1]?=some (.int .u64 (l[i].2:Int))
 | x::l,0,_=>⟨rfl,rfl⟩
 | x::l,i+1,h=>by
  have:=nh l i (by simpa using h);rw[show(i+1)*2=i*2+1+1 from by omega];exact this
def qkU (w:World)(B:Nat)(v:Value)(l:List Gd):Prop:=w.ownsRow B 38 2 v l.length (uK l)
theorem qkU.view{w:World}{B:Nat}{v:Value}{l:List Gd}(h:qkU w B v l)(hz:∀x∈l,zV x):∃a c,v=.slice a l.length c∧ch.GdL w a l∧∀b o,a=some ⟨b,o,none⟩→B≤b∧b<w.heap.size:=by
 rcases h.2 with⟨rfl,h0⟩|⟨g,cap,cur,rfl,hg,hh,hcc,hm,hcs,yb⟩
 ·obtain rfl:l=[]:=List.length_eq_zero_iff.1 h0;exact⟨none,0,rfl,(fun i h=>by simp at h),fun _ _ e=>by cases e⟩
 ·refine⟨some ⟨g,0,none⟩,cap,rfl,fun i hi=>?_,fun b o e=>?_⟩
  ·have key:∀(j:Nat) (u:Value),(uK l)[j]?=some u→w.cell? ⟨g,j,none⟩=some u:=by
      intro j u hu;rw[cell_of_row w g j cur 38 (0,0) hh];rw[← yb,List.getElem?_take]at hu;split at hu
      ·simpa using hu
      ·cases hu
   obtain⟨g0,g1⟩:=nh l i hi;exact⟨g,0,rfl,(Array.getElem?_eq_some_iff.1 hh).1,by rw[Nat.zero_add];exact key _ _ g0,by rw[Nat.zero_add];exact key _ _ g1,hz _ (List.getElem_mem hi)⟩
  ·simp only[Option.some.injEq,Addr.mk.injEq,and_true]at e;obtain⟨rfl,_⟩:=e;exact⟨hg,(Array.getElem?_eq_some_iff.1 hh).1⟩
def GuR (m:Mt)(w:World)(v i:Value)(wr:World):Prop :=
 ∃k:Nat,k≤m.qd.length∧i=.int .i64 (k:Int)∧qkU wr w.heap.size v ((m.qd.take k).map (·.g))∧Below w.heap.size w wr
theorem qhj{w:World}{A0 A1 A2:Option Addr}{c0 c1 c2:Nat}{m:Mt}(hS:ji w A1 m.qd)(h20:m.qd.length≤1000) :
    Calls prog 96 #[.agg (zw A0 A1 A2 c0 c1 c2 m)] w (ch.qbd (m.qd.map (·.g)) w):=by
 obtain⟨i0,hi,hz0,hz1,hz2⟩:=info_parts qse;obtain⟨W1,hW1,zQ,hb1⟩:=xL w (zw A0 A1 A2 c0 c1 c2 m);have HS:=QH hS;have qU:=QH hb1;have q1:=zQ.cell 1;have fS:=zQ.lt;simp only[zw,QA,QB,QC]at q1;clear hS zQ hb1;unfold zw at hW1 ⊢;go_enter func96,ntmps96;go_upto_region 1 with fail;try rw[hW1]
 clear hW1;go_wp2_with fail;go_loopw [3,9] (fun v i wr=>GuR m w v i wr) (fun _ i _=>m.qd.length-(intOf i).toNat);case atStart=>exact⟨0,Nat.zero_le _,rfl,World.ownsRow_nil _ _ _ _,qU.out⟩
 case round =>
  obtain⟨k,hk,rfl,ho,hB⟩:=hrel;have HO:=QH ho;have HB:=QH hB;clear ho hB;by_cases hlt:k<m.qd.length
  ·have ja:(k:Int)<(m.qd.length:Int):=by omega
   have hk0:¬ (k:Int)<0:=by omega
   obtain⟨b,o,B,c,hA,s1,s2,s3,s4,s5,s6,_⟩:=(HS.out.below HB.out) k hlt;have xY:Hid ((m.qd.take (k+1)).map (·.g)=(m.qd.take k).map (·.g)++[m.qd[k].g]):=by unfold Hid;rw[List.take_succ_eq_append_getElem hlt,List.map_append];rfl
   have HLK:Hid (((m.qd.take k).map (·.g)).length=k):=by unfold Hid;rw[List.length_map,List.length_take];omega
   subst hA;obtain⟨n,hn⟩:=QE (m.qd[k].qp.length);obtain⟨gd,hgd⟩:=QE (m.qd[k].g);obtain⟨hd,hhd⟩:=QE (m.qd[k].hid);rw[hn]at s4;rw[hgd]at xY s2 s3;rw[hhd]at s5;clear hn hgd hhd s6;obtain⟨ga,gb⟩:=gd;dsimp only at s2 s3;have uo:=(Below.refl _ wr).alloc (Nat.le_refl _) (.cells #[.int .u64 (ga:Int),.int .u64 (gb:Int),.slice B n c,.bool hd] 141);obtain⟨W3,hW3⟩:=QE (wr.alloc (.cells #[.int .u64 (ga:Int),.int .u64 (gb:Int),.slice B n c,.bool hd] 141));have jH:=qh.new wr 141 #[.int .u64 (ga:Int),.int .u64 (gb:Int),.slice B n c,.bool hd];rw[hW3]at uo jH;have r0:=jH.cell 0;have r1:=jH.cell 1;have hrl:=jH.lt;simp only[QA,QB,QC]at r0 r1;have hby:=(Below.refl _ W3).alloc (Nat.le_refl _) (.cells #[.int .u64 (ga:Int),.int .u64 (gb:Int)] 38);have hbz:=qc uo hby;have sJ:Hid ((W3.alloc (.cells #[.int .u64 (ga:Int),.int .u64 (gb:Int)] 38)).ownsRow w.heap.size 38 2 _ ((m.qd.take k).map (·.g)).length (uK ((m.qd.take k).map (·.g)))):=zK HO.out (fun j hj=>hbz.block j (HO.out.lt j hj).2);have zY:=QH (qc HB.out hbz);have eJ:Hid (∀j u,([.int .u64 (ga:Int),.int .u64 (gb:Int)]:List Value)[j]?=some u→(W3.alloc (.cells #[.int .u64 (ga:Int),.int .u64 (gb:Int)] 38)).cell? ((⟨W3.heap.size,0,none⟩:Addr).add j)=some u):=fun j u hu=>by
    rw[addr_add,Nat.zero_add,(qh.new W3 38 #[.int .u64 (ga:Int),.int .u64 (gb:Int)]).cell j];simpa using hu
   clear uo jH hby hbz;have q11:k≤1000:=by omega
   have e1:∀u∈([.int .u64 (ga:Int),.int .u64 (gb:Int)]:List Value),u.oneCell'=true:=by intro u hu;simp at hu;rcases hu with rfl|rfl <;> rfl
   have E1:=QH e1;have E2:Hid (((m.qd.take k).map (·.g)).length+1≤maxLen):=by unfold Hid;rw[HLK.out];unfold maxLen;omega
   have E3:Hid ((((m.qd.take k).map (·.g)).length+1)*16≤140737488355328):=by unfold Hid;rw[HLK.out];omega
   clear e1;go_wp2_with (at_builtin;refine xM rfl (.tmp 13) (.tmp 16) 73 rfl w.heap.size 38 i0 (.agg #[.int .u64 0,.int .u64 0]) 2 16 underlying73 hi hz0 hz1 hz2 rfl (by decide) _ _ _ rfl sJ.out ⟨W3.heap.size,0,none⟩ 1 1 [.int .u64 (ga:Int),.int .u64 (gb:Int)] rfl rfl eJ.out E1.out E2.out E3.out zY.out.size ?_);intro v' w1 hown hgrow _;have jU:Hid (Below w.heap.size w w1):=zY.out.grown hgrow zY.out.size (fun j hj=>(sJ.out.lt j hj).1);have HO5:Hid (qkU w1 w.heap.size v' ((m.qd.take (k+1)).map (·.g))):=by
    unfold Hid qkU;rw[xY.out,aa,List.length_append,HLK.out,List.map_take];exact hown
   clear hown hgrow;go_wp2_with fail;go_roundw;case rel=>exact⟨k+1,by omega,by go_num,HO5.out,jU.out⟩
   case measure=>simp[intOf];omega
  ·obtain rfl:k=m.qd.length:=by omega
   have ja:¬ (m.qd.length:Int)<(m.qd.length:Int):=by omega
   have ho:=HO.out;rw[List.take_length]at ho;obtain⟨A,c,hv,hx,hn⟩:=ho.view (fun g hg=>by
    obtain⟨s,hs,rfl⟩:=List.mem_map.1 hg;exact HS.out.gds s hs)
   have HX:=QH hx;have HV:=QH hv;have HN:=QH hn;clear ho hx hv hn;go_wp2_with fail;go_ret;exact⟨A,c,by rw[HV.out];rfl,HX.out,HN.out,HB.out⟩
theorem fE {x y:Gd}(h:x≠y):(¬ x.1=y.1)∨(x.1=y.1∧¬ x.2=y.2):=by
 by_cases e1:x.1=y.1
 ·exact .inr ⟨e1,fun e2=>h (Prod.ext e1 e2)⟩
 ·exact .inl e1
def ub (f:Tf)(A:Option Addr)(n c:Nat):Array Value:=#[.int .u64 (f.base.1:Int),.int .u64 (f.base.2:Int),.int .u64 (f.target.1:Int),.int .u64 (f.target.2:Int),.int .i64 f.next,.int .i64 f.all,.slice A n c]
theorem qdS{G:Nat→Prop}{w:World}{A0 A1 A2:Option Addr}{c0 c1 c2:Nat}{m:Mt}(ht:kj G w A0 A1 A2 c0 c1 c2 m)(hsz:mtS m)(hG:∀j,w.heap.size≤j→G j)(f:Tf)(A:Option Addr)(n c:Nat) :
    Calls prog 156 #[.agg (zw A0 A1 A2 c0 c1 c2 m),.agg (ub f A n c)] w (qg9 G (zo m f) w):=by
 obtain⟨W1,hW1,zQ,hb1⟩:=xL w (zw A0 A1 A2 c0 c1 c2 m);have hb2:=(Below.refl _ W1).alloc (Nat.le_refl _) (.cells (ub f A n c) 82);have hr2:=qh.new W1 82 (ub f A n c);obtain⟨W2,hW2⟩:=QE (W1.alloc (.cells (ub f A n c) 82));rw[hW2]at hb2 hr2;have qG:=QH (qc hb1 hb2);have hk2:=zQ.below hb2;have ht2:=ht.below qG.out;have HI2:=QH ht2.qp;have HBS:=QH (qka (A0:=A0) (A2:=A2) (c0:=c0) (c1:=c1) (c2:=c2) ht2.qd hsz (fun j hj=>hG j (Nat.le_trans qG.out.size hj)) m.qd.length (Nat.le_refl _));rw[qgB]at HBS;have q0:=hk2.cell 0;have q1:=hk2.cell 1;have q2:=hk2.cell 2;have q3:=hk2.cell 3;have q4:=hk2.cell 4;have q5:=hk2.cell 5;have q6:=hk2.cell 6;have q7:=hk2.cell 7;have q8:=hk2.cell 8;have r0:=hr2.cell 0;have r1:=hr2.cell 1;have r2:=hr2.cell 2;have r3:=hr2.cell 3;have r5:=hr2.cell 5;have fS:=hk2.lt;have hrl:=hr2.lt;simp only[zw,ub,QA,QB,QC]at q0 q1 q2 q3 q4 q5 q6 q7 q8 r0 r1 r2 r3 r5;have HY:Hid ((m.tok.base=f.base∧m.tok.target=f.target∧m.tok.all=f.all)→zo m f=m.tok.qp):=fun h=>by unfold zo;rw[if_pos h]
 have jK:Hid (¬ (m.tok.base=f.base∧m.tok.target=f.target∧m.tok.all=f.all)→zo m f=kR m):=fun h=>by unfold zo;rw[if_neg h]
 obtain⟨R,hR⟩:=QE (zo m f);rw[hR]at HY jK ⊢;clear ht hG zQ hb1 hb2 hr2 hk2 ht2 hR;unfold zw ub at *;go_enter func156,ntmps156;go_upto_region 1 with fail;try rw[hW1]
 try rw[hW2]
 clear hW1 hW2;have FIN:Hid (∀(e:Ending) (W3:World),qg9 G (kR m) W2 e W3→R=kR m→qg9 G R w e W3):=fun e W3 h hr=>by
  obtain⟨A',c',h1,h2,h3⟩:=h;rw[hr];exact⟨A',c',h1,h2,qc qG.out h3⟩
 have E1:Hid (m.tok.base=f.base→m.tok.base.1=f.base.1∧m.tok.base.2=f.base.2):=fun h=>⟨by rw[h],by rw[h]⟩;have E2:Hid (m.tok.target=f.target→m.tok.target.1=f.target.1∧m.tok.target.2=f.target.2):=fun h=>⟨by rw[h],by rw[h]⟩;by_cases h1:m.tok.base=f.base
 case' neg =>
  have HR:=QH (jK.out (fun h=>h1 h.1));have hgn:=fE h1;clear h1 HY jK E1 E2;rcases hgn with hg|⟨hg,hg2⟩;all_goals
   go_upto_region 3 with fail;first|clear hg2|skip
   clear hg;first|clear e1 e2|skip
   go_wp2_with fail;refine HBS.out.mono ?_;rintro e W3 ⟨A',c',rfl,hs,hb3⟩;have HF:=QH (FIN.out _ _ ⟨A',c',rfl,hs,hb3⟩ HR.out);clear hs hb3;go_wp2_with fail;go_ret;exact HF.out
 obtain⟨e1,e2⟩:=E1.out h1;by_cases h2:m.tok.target=f.target
 case' neg =>
  have HR:=QH (jK.out (fun h=>h2 h.2.1));have hgn:=fE h2;clear h1 h2 HY jK E1 E2;rcases hgn with hg|⟨hg,hg2⟩;all_goals
   go_upto_region 3 with fail;first|clear hg2|skip
   clear hg;first|clear e1 e2|skip
   go_wp2_with fail;refine HBS.out.mono ?_;rintro e W3 ⟨A',c',rfl,hs,hb3⟩;have HF:=QH (FIN.out _ _ ⟨A',c',rfl,hs,hb3⟩ HR.out);clear hs hb3;go_wp2_with fail;go_ret;exact HF.out
 obtain⟨e3,e4⟩:=E2.out h2;by_cases h3:m.tok.all=f.all
 case' neg =>
  have HR:=QH (jK.out (fun h=>h3 h.2.2));clear h1 h2 HY jK E1 E2;go_upto_region 3 with fail;clear h3 e1 e2 e3 e4;go_wp2_with fail;refine HBS.out.mono ?_;rintro e W3 ⟨A',c',rfl,hs,hb3⟩;have HF:=QH (FIN.out _ _ ⟨A',c',rfl,hs,hb3⟩ HR.out);clear hs hb3;go_wp2_with fail;go_ret;exact HF.out
 have HR:=QH (HY.out ⟨h1,h2,h3⟩);clear h1 h2 HY jK E1 E2;go_wp2_with fail;go_ret;rw[HR.out];exact⟨_,_,rfl,HI2.out,qG.out⟩
end Go.Proofs.YtdpbdkacngaemaaGreatDoor.vt.pg
