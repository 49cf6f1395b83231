/- JPoss, JHeadP, JRecov, VgHld, VgTxt, SpMem, SpHyp, SpPlaces, SpFind, SpRef, SpFree, SpRefC. -/
import Derived.Test.YtdpbdkacngaemaaGreatDoorZK15
set_option linter.unusedVariables false
set_option linter.unusedSimpArgs false
set_option maxHeartbeats 30000000
set_option maxRecDepth 100000
namespace Go.Proofs.YtdpbdkacngaemaaGreatDoor.jr
open _root_.Go.Proofs.Tryz Go Go.RowKit dk wi
def qnR (N:Nat)(l:List Wr)(w:World)(i:Value)(wr:World):Prop :=
 ∃k:Nat,k≤l.length∧i=.int .i64 (k:Int)∧ye wr w.heap.size (found [] (l.take k))∧(l.take k).all (okW N)=true∧Below w.heap.size w wr
theorem qdD(l:List Wr)(k:Nat)(h:k<l.length):found [] (l.take (k+1))=xO (found [] (l.take k)) l[k].1:=by
 rw[List.take_succ_eq_append_getElem h];unfold found;rw[List.foldl_append];rfl
theorem qbu{w wr:World}(h:Below w.heap.size w wr)(n:Nat):Below w.heap.size w (wr.drewN n):=⟨h.os,h.tape,h.output,h.size,h.block⟩
theorem qbv{most:Nat}{w:World}{own:Nat→Prop}{p:Nat}{d:DD}(h:zH most w own p d)(a:Option Addr)(c:Nat)(l:List Wr)(hT:kV w a l)(hl:l.length≤1000000) :
    Calls prog 119 #[.pointer (some ⟨p,0,none⟩),.slice a l.length c] w (okB (uG d.n l) w):=by
 obtain⟨h0,m,v,hd⟩:=h;have HD:=QH hd;have HN:=QH h0.n1;have HT:=QH hT;have hmm:=@run_makeMap prog;clear h0 hd hT;go_enter func119,ntmps119;go_wp2_with fail;clear hmm;go_loopw [11] (fun i wr=>qnR d.n l w i wr) (fun i _=>l.length-(intOf i).toNat);case atStart=>exact⟨0,Nat.zero_le _,rfl,ye.made w,rfl,(Below.refl _ w).alloc (Nat.le_refl _) _⟩
 case round =>
  obtain⟨k,hk,rfl,hs,hall,hB⟩:=hrel;have HS:=QH hs;have HB:=QH hB;have HA:=QH hall;clear hs hB hall;by_cases hlt:k<l.length
  ·obtain⟨b,o,rfl,hb,q0,q1,qb⟩:=HT.out k hlt;have hfs:=qdD l k hlt;have qwk:(l.take (k+1)).all (okW d.n)=((l.take k).all (okW d.n)&&okW d.n l[k]):=by rw[List.take_succ_eq_append_getElem hlt,List.all_append,List.all_cons,List.all_nil,Bool.and_true]
   have hin:okW d.n l[k]=false→uG d.n l=false:=fun hh=>by
    unfold uG;rw[Bool.and_eq_false_iff]
    left
    rw[List.all_eq_false];exact⟨l[k],List.getElem_mem hlt,by rw[hh];simp⟩
   generalize hxx:l[k]=x at *;have e0:wr.cell? ⟨b,o+k*2,none⟩=some (.int .i64 x.1):=by rw[HB.out.cell (p:=⟨b,o+k*2,none⟩) hb];exact q0
   have e1:wr.cell? ⟨b,o+k*2+1,none⟩=some (.string (str x.2)):=by rw[HB.out.cell (p:=⟨b,o+k*2+1,none⟩) hb];exact q1
   have hb2:b<wr.heap.size:=Nat.lt_of_lt_of_le hb HB.out.size;have qbn:(k:Int)<(l.length:Int):=by omega
   have HF:=QH hfs;have HAS:=QH qwk;have HIN:=QH hin;have HQB:=QH qb;clear q0 q1 hfs qwk hin qb hxx;have d0:wr.cell? ⟨p,0,none⟩=some (.int .i64 (d.n:Int)):=by rw[HB.out.cell (p:=⟨p,0,none⟩) HD.out.1.lt];exact HD.out.1.cell 0
   have hpl:p<wr.heap.size:=Nat.lt_of_lt_of_le HD.out.1.lt HB.out.size;have hdw:∀n,kL ((wr.alloc (.cells #[.int .i64 x.1,.string (str x.2)] 105)).drewN n) own p m v d:=fun n=>by
    have hb':=qbu (HB.out.alloc HB.out.size (.cells #[.int .i64 x.1,.string (str x.2)] 105)) n;exact HD.out.keep hb'.size (fun j hj=>hb'.block j (HD.out.2.2.2.2.2.2 j hj))
   have fy:∀n,Calls prog 43 #[.pointer (some ⟨p,0,none⟩)] ((wr.alloc (.cells #[.int .i64 x.1,.string (str x.2)] 105)).drewN n) fun e w'=>e=.returned (.int .i64 (d.n:Int))∧w'=(wr.alloc (.cells #[.int .i64 x.1,.string (str x.2)] 105)).drewN n:=fun n=>(rX (hdw n)).mono fun e w' g=>⟨g.1,g.2.symm⟩;have dH:=QH fy;clear hdw fy;by_cases c1:x.1<145
   ·have hf:=QH (HIN.out (by simp[okW];omega));go_wp2_with fail;go_quiet (fail);go_wp2_with fail;go_ret;exact⟨by rw[hf.out];rfl,qbu (HB.out.alloc HB.out.size _) _⟩
   ·have c1':decide (x.1<145)=false:=by simpa using c1
    by_cases c2:(d.n:Int)≤x.1
    ·have hf:=QH (HIN.out (by simp[okW];omega));go_wp2_with fail;go_quiet (first|(go_at_call 43;exact Calls.quiet_of_same (dH.out _)));go_wp2_with fail;go_ret;exact⟨by rw[hf.out];rfl,qbu (HB.out.alloc HB.out.size _) _⟩
    ·have c2':decide ((d.n:Int)≤x.1)=false:=by simpa using c2
     by_cases c3:x.2.length=32
     ·have c3':(((str x.2).size:Int) != 32)=false:=by rw[bne_eq_false_iff_eq,qO];omega
      have vD:okW d.n x=true:=by simp[okW];omega
      have fH:=QH vD;clear vD;go_wp2_with fail;go_quiet (first|(go_at_call 43;exact Calls.quiet_of_same (dH.out _)));have hsw:ye ((wr.alloc (.cells #[.int .i64 x.1,.string (str x.2)] 105)).drewN nq) w.heap.size (found [] (l.take k)):=HS.out.of_block (Below.heap_alloc wr _ _ HS.out.lt);have HSW:=QH hsw;have yX:=QH (qbu (HB.out.alloc HB.out.size (.cells #[.int .i64 x.1,.string (str x.2)] 105)) nq);have wA:(found [] (l.take k)).length<maxLen:=by
       have:=qgk (l.take k) [];simp at this;unfold maxLen;omega
      have tT:=QH wA;clear hsw wA;go_wp2_with (at_mapUpdate;refine uZ rfl _ _ _ rfl rfl HSW.out x.1 rfl rfl HQB.out.1 HQB.out.2 tT.out ?_;intro w2 hs2 ht2;have kY:=QH hs2;have qG:=QH (kN ht2);clear hs2 ht2);go_roundw;case rel=>exact⟨k+1,by omega,by go_num,by rw[HF.out];exact kY.out,by rw[HAS.out,HA.out,fH.out];rfl,yX.out.trans (qG.out.below (fun i e=>by subst e;exact Nat.le_refl _) yX.out.size)⟩
      case measure=>simp[intOf];omega
     ·have c3':(((str x.2).size:Int) != 32)=true:=by rw[bne_iff_ne,qO];omega
      have hf:=QH (HIN.out (by simp[okW];omega));go_wp2_with fail;go_quiet (first|(go_at_call 43;exact Calls.quiet_of_same (dH.out _)));go_wp2_with fail;go_ret;exact⟨by rw[hf.out];rfl,qbu (HB.out.alloc HB.out.size _) _⟩
  ·obtain rfl:k=l.length:=by omega
   have fy:=QH (HS.out);have hres:uG d.n l=((((found [] l).length:Int)) == (l.length:Int)):=by
    have ha:=HA.out;rw[List.take_length]at ha;unfold uG;rw[ha,Bool.true_and,Bool.eq_iff_iff];simp;omega
   have HR:=QH hres;clear hres;go_wp2_with (at_len;refine qx rfl (bu _ rfl rfl HS.out) ?_);go_ret;exact⟨by rw[HR.out];rfl,HB.out⟩
def qk4:Prop:=∀(a c:Nat) (w:World),a<2→c≤72 →
 Calls prog 179 #[.agg #[.int .i64 (a:Int),.int .i64 (c:Int)]] w fun e w'=>e=.returned (.agg #[.int .i64 0,.string (str (jR a c))])∧Below w.heap.size w w'
def mM (r:Option (Nat × Nat))(w:World)(e:Ending)(w':World):Prop :=
 Below w.heap.size w w'∧match r with
  | some (a,c)=>e=.returned (.tuple #[.agg #[.int .i64 (a:Int),.int .i64 (c:Int)],.bool true])
  | none=>∃x y:Int,e=.returned (.tuple #[.agg #[.int .i64 x,.int .i64 y],.bool false])
def qk5:Prop:=∀(most:Nat) (w:World) (own:Nat→Prop) (p:Nat) (d:DD),zH most w own p d→d.on=true→0<d.n →
 Calls prog 117 #[.pointer (some ⟨p,0,none⟩)] w (mM (dL (rd d.now 0)) w)
section
variable {most:Nat} {w:World} {own:Nat→Prop} {p:Nat} {d:DD}
theorem qbw{W:World}{A:Option Addr}{c:Nat}{l:List Wr}(h:kV W A l):qbo (W.alloc (.cells #[.slice A l.length c] 89)) (some ⟨W.heap.size,0,none⟩) [l]:=fun i hi=>by
 obtain rfl:i=0:=by simp at hi;exact hi
 exact⟨W.heap.size,0,A,c,rfl,by simp,(qh.new W _ _).cell 0,h.below ((Below.refl W.heap.size W).alloc (Nat.le_refl _) _) (Nat.le_refl _)⟩
theorem qbx{W:World}(k:Int)(x:Bt)(hk:qA k):kV (W.alloc (.cells #[.int .i64 k,.string (str x)] 105)) (some ⟨W.heap.size,0,none⟩) [(k,x)]:=fun i hi=>by
 obtain rfl:i=0:=by simp at hi;exact hi
 exact⟨W.heap.size,0,rfl,by simp,(qh.new W _ _).cell 0,(qh.new W _ _).cell 1,hk⟩
theorem qdE(HW:qk4)(h:zH most w own p d)(hm:d.more.length+2≤most)(yT:most≤100000) :
    Calls prog 102 #[.pointer (some ⟨p,0,none⟩)] w (xp most own p (jG d).2 (.int .i64 (jG d).1) w):=by
 have HD:=QH h;have HP:=QH (eL h);obtain⟨h0,m,v,hd⟩:=h;have HL:=QH (rX hd);have hpl:=hd.1.lt;have HW':=QH HW;clear h0 hd HW;unfold jG;cases zW:d.on with
 | false =>
  rw[zW]at HP;rw[if_pos rfl];go_enter func102,ntmps102;go_wp2_with (go_at_call 116;refine HP.out.mono ?_;rintro e w' ⟨rfl,rfl⟩);go_ret;exact⟨rfl,own,HD.out,qB.refl _ _,um.refl _ _⟩
 | true =>
  rw[zW]at HP;rw[if_neg (by simp)];by_cases hn:d.n≤145
  ·rw[if_pos hn];have hn':(d.n:Int)≤145:=by omega
   go_enter func102,ntmps102;go_wp2_with (first|(go_at_call 116;refine HP.out.mono ?_;rintro e w' ⟨rfl,rfl⟩)|(go_at_call 43;refine HL.out.mono ?_;rintro e w' ⟨rfl,rfl⟩));go_ret;exact⟨rfl,own,HD.out,qB.refl _ _,um.refl _ _⟩
  ·rw[if_neg hn];have hn':¬ (d.n:Int)≤145:=by omega
   go_enter func102,ntmps102;go_wp2_with (first|(go_at_call 116;refine HP.out.mono ?_;rintro e w' ⟨rfl,rfl⟩)|(go_at_call 43;refine HL.out.mono ?_;rintro e w' ⟨rfl,rfl⟩));refine(HW'.out 0 0 _ (by decide) (by decide)).mono ?_;rintro e W1 ⟨rfl,b1⟩;have qU:=QH b1;clear b1;go_wp2_with fail;have hb2:Below w.heap.size w ((W1.alloc (.cells #[.int .i64 0,.string (str (jR 0 0))] 105)).alloc (.cells #[.slice (some ⟨W1.heap.size,0,none⟩) 1 1] 89)):=(zD qU.out _).alloc (zD qU.out _).size _;have hw1:=qbx (W:=W1) 0 (jR 0 0) (by unfold qA;omega);have hbs:=qbw (c:=1) hw1;have hsz:(W1.alloc (.cells #[.int .i64 0,.string (str (jR 0 0))] 105)).heap.size=W1.heap.size+1:=by simp
   rw[hsz]at hbs;have qG:=QH hb2;have HBS:=QH hbs;clear hw1 hbs hsz hb2;refine(gM p _ 1 [[(0,jR 0 0)]] _ (Nat.lt_of_lt_of_le hpl qG.out.size) HBS.out (by decide) (fun l hl=>by simp at hl;subst hl;decide)).mono ?_;rintro e W3 ⟨v,rfl,hg⟩;have HG:=QH hg;clear hg;go_wp2_with fail;refine(eM (HD.out.below qG.out) HG.out (by simpa[qC,jo]using hm) yT).mono ?_;rintro e W4 yB;have HPO:=QH (xp.from yB qG.out HD.out.low);obtain⟨rfl,_⟩:=yB;go_wp2_with fail;go_ret;exact HPO.out
end
end Go.Proofs.YtdpbdkacngaemaaGreatDoor.jr
namespace Go.Proofs.YtdpbdkacngaemaaGreatDoor.jr
open _root_.Go.Proofs.Tryz Go Go.RowKit dk wi
section
variable {most:Nat} {w:World} {own:Nat→Prop} {p:Nat} {d:DD}
theorem mN {r:Option (List Wr)}{w:World}{e:Ending}{w':World}(h:mL r w e w'):Below w.heap.size w w'∧((∃l A c,r=some l∧e=.returned (.tuple #[.slice A l.length c,.bool true])∧kV w' A l)∨(r=none∧∃A n c,e=.returned (.tuple #[.slice A n c,.bool false]))):=by
 obtain⟨h1,h2⟩:=h;refine⟨h1,?_⟩;cases r with
 | some l =>
  obtain⟨A,c,g1,g2⟩:=h2;exact .inl ⟨l,A,c,rfl,g1,g2⟩
 | none =>
  obtain⟨A,n,c,g⟩:=h2;exact .inr ⟨rfl,A,n,c,g⟩
theorem gP {r:Option (Nat × Nat)}{w:World}{e:Ending}{w':World}(h:mM r w e w'):Below w.heap.size w w'∧((∃a c:Nat,r=some (a,c)∧e=.returned (.tuple #[.agg #[.int .i64 (a:Int),.int .i64 (c:Int)],.bool true]))∨(r=none∧∃x y:Int,e=.returned (.tuple #[.agg #[.int .i64 x,.int .i64 y],.bool false]))):=by
 obtain⟨h1,h2⟩:=h;refine⟨h1,?_⟩;cases r with
 | some q =>
  obtain⟨a,c⟩:=q;exact .inl ⟨a,c,rfl,h2⟩
 | none =>
  obtain⟨x,y,g⟩:=h2;exact .inr ⟨rfl,x,y,g⟩
theorem xi {w':World}{r:Value}(h:zH most w own p d)(hb:Below w.heap.size w w'):xp most own p d r w (.returned r) w':=⟨rfl,own,h.below hb,qB.of_below hb,um.refl _ _⟩
theorem qgW{t:Bt}{l:List Wr}(h:dU t=some l):l.length≤60:=by
 unfold dU at h;cases hn:rdNum t with
 | none=>rw[hn]at h;cases h
 | some q =>
  obtain⟨n,r⟩:=q;rw[hn]at h;dsimp only at h;split at h
  ·cases h
  ·rename_i hh;cases hr:ey n r with
   | none=>rw[hr]at h;cases h
   | some q2 =>
    obtain⟨l2,r2⟩:=q2;have hl:=iP n r l2 r2 hr;rw[hr]at h;cases r2 with
    | nil =>
     simp at h;subst h;omega
    | cons=>cases h
theorem qgX{s:qE}{a c:Nat}{l:List Wr}(h:gu s a c=some l):l.length≤60:=by
 unfold gu at h;cases hu:unB (zL s a c)with
 | none=>rw[hu]at h;cases h
 | some t=>rw[hu]at h;exact qgW h
theorem oB (HR:qk5)(h:zH most w own p d)(hn:145<d.n)(ht:xK w)(hm:d.more.length+100≤most)(yT:most≤100000) :
    Calls prog 50 #[.pointer (some ⟨p,0,none⟩)] w (xp most own p (zX d).2 (.int .i64 (zX d).1) w):=by
 have HD:=QH h;have HP:=QH (eL h);have hpl:p<w.heap.size:=by obtain⟨_,_,_,hd⟩:=h;exact hd.1.lt
 have HT:=QH ht;have hg:=ht.1;have HH:=QH HR;clear ht HR h;obtain⟨R,hR⟩:=QE (zX d);rw[hR];unfold zX at hR;cases zW:d.on with
 | false =>
  rw[zW]at HP;rw[if_pos zW]at hR;subst hR;go_enter func50,ntmps50;go_wp2_with (go_at_call 116;refine HP.out.mono ?_;rintro e w' ⟨rfl,rfl⟩);go_ret;exact xi HD.out (Below.refl _ _)
 | true =>
  rw[zW]at HP;rw[if_neg (by rw[zW];simp)]at hR;have cD:=QH hR;have HON:=QH zW;clear hR zW;go_enter func50,ntmps50;go_wp2_with (go_at_call 116;refine HP.out.mono ?_;rintro e w' ⟨rfl,rfl⟩);refine(HH.out most w own p d HD.out HON.out (by omega)).mono ?_;intro e W1 yB;obtain⟨b1,⟨a,c,hq,rfl⟩|⟨hq,x,y,rfl⟩⟩:=gP yB
  ·have ua:=cD.out;rw[hq]at ua;dsimp only at ua;obtain⟨ha,hc,_⟩:=kx hq;have qU:=QH b1;clear b1 yB hq cD;by_cases hc0:c=0
   ·subst hc0;rw[if_pos rfl]at ua;subst ua;go_wp2_with fail;go_ret;exact xi HD.out (zD qU.out _)
   ·rw[if_neg hc0]at ua;have za0:((c:Int) == 0)=false:=by simpa using hc0
    have hkb:qh (W1.alloc (.cells #[.int .i64 (a:Int),.int .i64 (c:Int)] 188)) W1.heap.size _ _:=qh.new W1 _ _;have qG:=QH (zD qU.out (.cells #[.int .i64 (a:Int),.int .i64 (c:Int)] 188));have cD:=QH ua;clear ua hkb;go_wp2_with fail;refine(qdC (HD.out.below qG.out) HON.out hn a c ha hc (HT.out.below qG.out hg)).mono ?_;intro e W3 yB;obtain⟨b3,⟨l,A,c3,hq,rfl,hw⟩|⟨hq,A,n3,c3,rfl⟩⟩:=mN yB
    ·have ua:=cD.out;rw[hq]at ua;dsimp only at ua;have qrJ:=qgX hq;have zG:=QH (qc qG.out b3);have HW:=QH hw;clear yB b3 hw hq cD;have nK:=QH (qbv (HD.out.below zG.out) A c3 l HW.out (by omega));cases hps:uG d.n l with
     | false =>
      rw[hps]at nK ua;rw[if_pos rfl]at ua;subst ua;go_wp2_with (go_at_call 119;refine nK.out.mono ?_;rintro e w' ⟨rfl,b4⟩);go_wp2_with fail;go_ret;exact xi HD.out (qc zG.out b4)
     | true =>
      rw[hps]at nK ua;rw[if_neg (by simp)]at ua;have cD:=QH ua;clear ua;go_wp2_with (go_at_call 119;refine nK.out.mono ?_);rintro e W4 ⟨rfl,b4⟩;have zY:=QH (qc zG.out b4);have HW4:=QH (HW.out.below b4 (Nat.le_refl _));clear b4 HW;go_wp2_with fail;have HBS:=QH (qbw (c:=c3) HW4.out);have jU:=QH (zD zY.out (.cells #[.slice A l.length c3] 89));refine(gM p _ 1 [l] _ (Nat.lt_of_lt_of_le hpl jU.out.size) HBS.out (by simp) (fun m hm2=>by simp at hm2;subst hm2;omega)).mono ?_;rintro e W5 ⟨v,rfl,hgg⟩;have HG:=QH hgg;clear hgg;go_wp2_with fail;refine(eM (HD.out.below jU.out) HG.out (by simp[qC,jo];omega) yT).mono ?_;rintro e W6 yB;have HPO:=QH (xp.from yB jU.out HD.out.low);obtain⟨rfl,_⟩:=yB;rw[cD.out]at HPO ⊢;go_wp2_with fail;go_ret;exact HPO.out
    ·have ua:=cD.out;rw[hq]at ua;dsimp only at ua;subst ua;have zG:=QH (qc qG.out b3);clear yB b3 hq cD;go_wp2_with fail;go_ret;exact xi HD.out zG.out
  ·have ua:=cD.out;rw[hq]at ua;dsimp only at ua;subst ua;have qU:=QH b1;clear b1 yB hq cD;go_wp2_with fail;go_ret;exact xi HD.out (zD qU.out _)
end
end Go.Proofs.YtdpbdkacngaemaaGreatDoor.jr
namespace Go.Proofs.YtdpbdkacngaemaaGreatDoor.vt.pg
open _root_.Go.Proofs.Tryz Go Go.RowKit Go.Sort ib mt im sp
theorem qnS:prog.follows .mixedOrders=true:=by kernel_rfl
theorem sZ {N:Nat}{t:Tg}{d:DD}(h:jr.JJ N t d)(k:Int)(h0:145≤k)(h1:k<(N:Int)):d.read k=(t k,0):=by
 have hn:d.n=N:=h.rb.1;have qjC:d.now=d.base:=by unfold dk.DD.now;rw[h.more];rfl
 unfold dk.DD.read;have:d.has k=true:=by
  unfold dk.DD.has;rw[hn];simp;omega
 rw[if_neg (by rw[h.on];simp),if_neg (by rw[this];simp),qjC];exact congrArg (fun x=>(x,(0:Int))) (h.is k h0)
theorem eN {w:World}{o:Nat→Prop}{pd:Nat}{d:DD}(h:dk.zH 1000 w o pd d)(k:Int):Calls prog 122 #[pt pd,.int .i64 k] w (dk.uY (d.read k) w):=by
 obtain⟨h0,m,v,h1⟩:=h;unfold dk.DD.read;by_cases zW:d.on=false
 ·rw[if_pos zW];exact dk.qaD h1 zW k
 ·rw[if_neg zW];by_cases hh:d.has k=false
  ·rw[if_pos hh];exact dk.qaE h1 (by simpa using zW) k hh
  ·rw[if_neg hh];exact dk.qeE h0 h1 (by simpa using zW) k (by simpa using hh)
theorem mO {w:World}{o:Nat→Prop}{pd:Nat}{d:DD}(h:dk.zH 1000 w o pd d):Calls prog 43 #[pt pd] w fun e w'=>e=.returned (.int .i64 (d.n:Int))∧w=w':=by
 obtain⟨h0,m,v,h1⟩:=h;exact dk.rX h1
theorem qnT{w:World}{o:Nat→Prop}{pd:Nat}{d:DD}(h:dk.zH 1000 w o pd d):Calls prog 39 #[pt pd] w fun e w'=>e=.returned (.bool d.on)∧w=w':=by
 obtain⟨h0,m,v,h1⟩:=h;exact dk.qjw h1
section
variable {o1 o2:Nat→Prop} {w:World} {v pd N:Nat} {d:DD} {m:Mt} {l:Bool} {t:Tg}
theorem qk6(h:VP gI w o1 o2 v pd d m l):v<w.heap.size∧w.cell? ⟨v,9,none⟩=some (pt pd)∧w.cell? ⟨v,10,none⟩=some (.bool l):=by
 obtain⟨A0,A1,A2,c0,c1,c2,h1⟩:=h.is;exact⟨h1.cells.lt,h1.cells.k9,h1.cells.uO⟩
theorem qgY(h:VP gI w o1 o2 v pd d m l)(hJ:jr.JJ N t d)(x:Wr)(h0:145≤x.1)(h1:x.1<(N:Int)):Calls prog 141 #[pt v,.agg #[.int .i64 x.1,.string (str x.2)]] w (kE (decide (t x.1=x.2)) w):=by
 obtain⟨xk,xs⟩:=x;dsimp only at h0 h1 ⊢;have hb1:=(Below.refl _ w).alloc (Nat.le_refl _) (.cells #[.int .i64 xk,.string (str xs)] 105);have zQ:=qh.new w 105 #[.int .i64 xk,.string (str xs)];obtain⟨W,hW⟩:=QE (w.alloc (.cells #[.int .i64 xk,.string (str xs)] 105));rw[hW]at hb1 zQ;have h2:=qT h hb1;have eI:=sZ hJ xk h0 h1;obtain⟨q1,q2,q3⟩:=qk6 h2;have p0:=zQ.cell 0;have p1:=zQ.cell 1;have hpl:=zQ.lt;simp only[QA,QB,QC]at p0 p1;have e0:=fun d os=>cell_regrown p0 d os;have e1:=fun d os=>cell_regrown p1 d os;have e2:=fun d os=>cell_regrown q2 d os;have cR:∀b os,Calls prog 122 #[pt pd,.int .i64 xk] (grow (redrawn W b) os) fun e w''=>e=.returned (.tuple #[.string (str (t xk)),.int .i64 0])∧∃q:Regrown,w''=grow (redrawn W q.d) q.os :=
  fun b os=>by
   have:=eN (qT h2 (below_regrown W b os)).dk xk;rw[eI]at this;exact Calls.regrown_of this
 have hq:((str (t xk)).toList == (str xs).toList)=decide (t xk=xs):=by
  have h:=qci (str (t xk)) xs;rw[zn]at h;exact h
 have qU:=QH hb1;obtain⟨r,hr⟩:=QE (decide (t xk=xs));rw[hr]at hq ⊢;obtain⟨S1,hS1⟩:=QE (str (t xk));obtain⟨S2,hS2⟩:=QE (str xs);rw[hS1]at hq cR;rw[hS2]at hq hW p1 e1 ⊢;have HK:=QH p1;have HPL:=QH hpl;clear h hb1 zQ h2 eI hr hS1 hS2 p0 p1 q2 q3;go_enter func141,ntmps141;go_upto_region 1 with fail;try rw[hW]
 clear hW;refine wp_region_quiet_below qnS (by kernel_rfl) ?_;repeat (any_goals (first|go_big_quiet_step (first|exact cR _ _)|quiet_step (first|exact cR _ _)))
 refine wpQuiet_nil ?_;intro _ hw';obtain⟨⟨dq,osq⟩,hw''⟩:=hw';subst hw'';have p1:=e1 dq osq;have hb:=below_regrown W dq osq;have qG:=QH (qc qU.out hb);have hpl:=Nat.lt_of_lt_of_le HPL.out hb.size;clear hb e0 e1 e2 cR qU HK HPL q1;generalize grow (redrawn W dq) osq=W3 at *;cases r;all_goals
  go_wp2_with fail;go_ret;exact⟨rfl,qG.out⟩
theorem qby(h:VP gI w o1 o2 v pd d m false)(zW:d.on=true):Calls prog 60 #[pt v] w fun e w'=>e=.returned (.int .i64 0)∧w=w':=by
 obtain⟨q1,q2,q3⟩:=qk6 h;have HO:=QH (qnT h.dk);rw[zW]at HO;clear h;go_enter func60,ntmps60;go_wp2_with fail;refine HO.out.mono ?_;rintro e W1 ⟨rfl,rfl⟩;go_wp2_with fail;go_ret;exact⟨rfl,rfl⟩
theorem q0P(h:VP gI w o1 o2 v pd d m l):VP gI (w.setCell ⟨v,10,none⟩ (.bool true)) o1 o2 v pd d m true∧ib.qB (fun j=>j=v) w (w.setCell ⟨v,10,none⟩ (.bool true)):=by
 obtain⟨A0,A1,A2,c0,c1,c2,h1⟩:=h.is;have hb:=qn5 w v 10 (.bool true);refine⟨⟨⟨A0,A1,A2,c0,c1,c2,?_⟩,h.dk.keep hb.size (fun j hj=>hb.block j (eH h.dk j hj) (fun e=>?_)),h.dj⟩,hb⟩
 ·refine⟨by have:=h1.blk.qu 10 (.bool true);simpa[vC]using this,h1.tab.stay (gJ fun j hj=>hj.2),h1.sz,?_,h1.own,fun j hj=>Nat.lt_of_lt_of_le (h1.low j hj) hb.size,h1.gv,h1.tk⟩;exact vn h1.ct hb.size (qw _ _ _ _ _ h1.gv)
 ·have:=h.dj v (.inl h1.own);rw[e]at hj;exact this hj
end
theorem qk7(l:List UInt8)(c:UInt8):Lib.trimB l c=[] ↔ ∀b∈l,b=c:=by
 have key:∀L:List UInt8,L.dropWhile (· == c)=[] ↔ ∀b∈L,b=c:=by
  intro L
  induction L with
  | nil=>simp
  | cons x r ih =>
   by_cases hx:x=c
   ·subst hx;simp[List.dropWhile_cons,ih]
   ·have:(x == c)=false:=by simpa using hx
    rw[List.dropWhile_cons,this];simp[hx]
 have q0Q:∀L:List UInt8,(∀b∈L.dropWhile (· == c),b=c)→∀b∈L,b=c:=by
  intro L
  induction L with
  | nil=>simp
  | cons x r ih =>
   intro h;by_cases hx:x=c
   ·subst hx;simp only[List.dropWhile_cons,BEq.rfl,if_true]at h;intro b hb;rcases List.mem_cons.1 hb with rfl|hb
    ·rfl
    ·exact ih h b hb
   ·have:(x == c)=false:=by simpa using hx
    rw[List.dropWhile_cons,this]at h;exact fun b hb=>h b hb
 unfold Lib.trimB Lib.trimLeftB Lib.trimRightB;rw[key];constructor
 ·intro h b hb;exact q0Q l.reverse (fun b hb=>h b (by simpa using hb)) b (by simpa using hb)
 ·intro h b hb;have hb:b∈l.reverse.dropWhile (· == c):=by simpa using hb
  exact h b (by simpa using(List.dropWhile_suffix (fun x=>x == c)).mem hb)
theorem qrK(s:Bt)(hs:s.length=32):s=zb ↔ ∀b∈s,b=0:=by
 constructor
 ·rintro rfl b hb;exact List.eq_of_mem_replicate hb
 ·intro h;exact List.eq_replicate_iff.2 ⟨hs,h⟩
theorem ic (s:Bt)(hs:s.length=32)(w:World):Calls prog 136 #[.string (str s)] w (kE (decide (s=zb)) w):=by
 have ht:=Tryz.strings_Trim_one (str s) 0 (by decide) w (by rw[qO];omega);have hd:(⟨(Lib.trimB (str s).data.toList 0).toArray⟩:ByteArray).toList.isEmpty=decide (s=zb):=by
  have h:=qci (⟨(Lib.trimB (str s).data.toList 0).toArray⟩:ByteArray) [];have h0:(str []).toList=[]:=by first|rfl|(simp[str];done)|decide +kernel
  have e:∀L:List UInt8,L.isEmpty=(L == []):=fun L=>by cases L <;> rfl
  rw[h0]at h;rw[e,h,Bool.eq_iff_iff];simp only[decide_eq_true_eq];rw[qrK s hs,← qk7];show Lib.trimB (bl (str s)) 0=[]↔_;rw[zn]
 have HT:=QH ht;obtain⟨r,hr⟩:=QE (decide (s=zb));rw[hr]at hd ⊢;obtain⟨S,hS⟩:=QE (⟨(Lib.trimB (str s).data.toList 0).toArray⟩:ByteArray);rw[hS]at HT hd;clear ht hS hr;go_enter func136,ntmps136;go_wp2_with fail;refine HT.out.mono ?_;rintro e W1 ⟨rfl,hw⟩;have HB:Hid (Below w.heap.size w W1):=by
  rcases hw with rfl|rfl
  ·exact Below.refl _ _
  ·exact(Below.refl _ _).drew
 clear hw HT;go_wp2_with fail;go_ret;exact⟨rfl,HB.out⟩
end Go.Proofs.YtdpbdkacngaemaaGreatDoor.vt.pg
namespace Go.Proofs.YtdpbdkacngaemaaGreatDoor.vt.pg
open _root_.Go.Proofs.Tryz Go Go.RowKit ib mt im sp
theorem qrL:(prog.info? 9).map (fun i=>(i.zero,i.size,i.bytes))=some (some (.string ByteArray.empty),1,16):=by kernel_rfl
def TxR (w:World)(ps:List Bt)(v i:Value)(wr:World):Prop:=∃k:Nat,k<ps.length∧i=.int .i64 (k:Int)∧zC wr w.heap.size v (ps.take k)∧Below w.heap.size w wr
theorem qgZ(u:Bt)(hu:u.length≤8192)(k:Nat):((qJ u).take k).flatten.length≤100000:=by
 have h2:(qJ u).flatten=((qJ u).take k).flatten++((qJ u).drop k).flatten:=by rw[← List.flatten_append,List.take_append_drop]
 have h3:=congrArg List.length h2;rw[yE,yR,List.length_append]at h3;unfold nsec at h3;omega
theorem qdF{o:Nat→Prop}{w:World}{pd N:Nat}{d:DD}{t:Tg}{u:Bt}(h:dk.zH 1000 w o pd d)(cH:xK w)(hJ:jr.JJ N t d)(hN:193≤N)(hu:u.length≤8192)(hn:(qJ u).length≤48)(home:∀i (h:i<(qJ u).length),t ((145+i:Nat):Int)=(qJ u)[i]) :
    Calls prog 51 #[pt pd] w (qp9 (str u) w):=by
 obtain⟨i0,hi,hz0,hz1,hz2⟩:=info_parts qrL;have qwl:0<(qJ u).length:=by rw[xP];exact bD _
 have qwm:=QH qwl;have HD:=QH h;have HT:=QH cH;have HJ:=QH hJ;have HN:=QH hn;have HNN:=QH hN;have HU:=QH hu;have qwn:=QH home;have jK:=QH (fun k (hk:k<(qJ u).length) v=>qbb u v hu k hk);have tT:=QH (qgZ u hu);have HIT:Hid (uF (qJ u) u):=⟨hu,rfl⟩;obtain⟨ps,hps⟩:=QE (qJ u);rw[hps]at qwm HN qwn jK tT HIT;clear h cH hJ hn hN home qwl hps hu;go_enter func51,ntmps51;go_wp2_with fail;go_loopw [4,10] (fun v i wr=>TxR w ps v i wr) (fun _ i _=>ps.length-(intOf i).toNat);case atStart=>exact⟨0,qwm.out,rfl,World.ownsRow_nil _ _ _ _,Below.refl _ _⟩
 case round =>
  obtain⟨k,hk,rfl,ho,hB⟩:=hrel;have HO:=QH ho;have HB:=QH hB;have h48:(k:Int)<48:=by have:=HN.out;omega
  have eI:=eN (HD.out.below hB) ((145:Int)+(k:Int));rw[sZ HJ.out ((145:Int)+(k:Int)) (by omega) (by have:=HNN.out;omega)]at eI;have ht:t ((145:Int)+(k:Int))=ps[k]:=by
   have:=qwn.out k hk;rw[← this]
   congr 1
  rw[ht]at eI;have iG:=QH eI;have uh:Hid (ps.take (k+1)=ps.take k++[ps[k]]):=List.take_succ_eq_append_getElem hk;have dH:Hid ((ps.take k).length=k):=by unfold Hid;rw[List.length_take];omega
  obtain⟨x,hx⟩:=QE (ps[k]);rw[hx]at iG uh;have HK:=QH hk;clear ho hB eI ht hx hk;go_wp2_with fail;refine iG.out.mono ?_;rintro e W2 ⟨rfl,hb2⟩;have qG:=QH (qc HB.out hb2);have wk:=QH (dD HO.out hb2);clear hb2 iG HO;have hby:=(Below.refl _ W2).alloc (Nat.le_refl _) (.cells #[.string (str x)] 9);have HO3:Hid (World.ownsRow (W2.alloc (.cells #[.string (str x)] 9)) w.heap.size 9 1 _ (ps.take k).length (yf (ps.take k))):=zK wk.out (fun j hj=>hby.block j (wk.out.lt j hj).2);have zG:=QH (qc qG.out hby);have eJ:Hid (∀j u,([.string (str x)]:List Value)[j]?=some u→(W2.alloc (.cells #[.string (str x)] 9)).cell? ((⟨W2.heap.size,0,none⟩:Addr).add j)=some u):=fun j u hu=>by
   rw[addr_add,Nat.zero_add,(qh.new W2 9 #[.string (str x)]).cell j];simpa using hu
  have e1:∀u∈([.string (str x)]:List Value),u.oneCell'=true:=by intro u hu;simp at hu;subst hu;rfl
  have E1:=QH e1;have E2:Hid ((ps.take k).length+1≤maxLen):=by unfold Hid;rw[dH.out];unfold maxLen;omega
  have E3:Hid (((ps.take k).length+1)*16≤140737488355328):=by unfold Hid;rw[dH.out];omega
  obtain⟨Lw,hLw⟩:=QE (ps.take k);rw[hLw]at HO3 uh E2 E3 dH;clear hby e1 hLw wk;go_wp2_with (at_builtin;refine xM rfl (.tmp 23) (.tmp 25) 57 rfl w.heap.size 9 i0 (.string ByteArray.empty) 1 16 underlying57 hi hz0 hz1 hz2 rfl (by decide) _ _ _ rfl HO3.out ⟨W2.heap.size,0,none⟩ 1 1 [.string (str x)] rfl rfl eJ.out E1.out E2.out E3.out zG.out.size ?_);intro v' w1 hown hgrow _;have zY:Hid (Below w.heap.size w w1):=zG.out.grown hgrow zG.out.size (fun j hj=>(HO3.out.lt j hj).1);have sJ:Hid (zC w1 w.heap.size v' (ps.take (k+1))):=by
   rw[uh.out];refine pM dH.out ?_;rw[dH.out]at hown;exact hown
  obtain⟨A4,c4,hv4,hs4⟩:=sJ.out.view;subst hv4;have nZ:=QH hs4.2.2.1;have cH:=yA HT.out zY.out (xx HT.out);have dX:=QH cH;have HL4:Hid ((ps.take (k+1)).length=k+1):=by unfold Hid;rw[List.length_take];have:=HK.out;omega
  clear hown hgrow hs4 cH HO3 eJ E1 E2 E3;by_cases dQ:k+1<ps.length
  ·have hup:=fV A4 c4 (ps.take (k+1)) w1 nZ.out (by rw[HL4.out];omega) (tT.out (k+1)) (fun v=>jK.out (k+1) dQ v) dX.out;have HUP:=QH hup;have oa:=QH dQ;have hfo:((4:Int) == 0)=false:=rfl;clear hup dQ;generalize (ps.take (k+1)).length=q at *;go_wp2_with fail;refine HUP.out.mono ?_;rintro e W5 ⟨rfl,hb5⟩;have jU:=QH (qc zY.out hb5);have HO5:=QH (dD sJ.out hb5);clear hb5 HUP;go_wp2_with fail;go_roundw;case rel=>exact⟨k+1,oa.out,by go_num,HO5.out,jU.out⟩
   case measure=>simp[intOf];have:=oa.out;omega
  ·have zQ:k+1=ps.length:=by have:=HK.out;omega
   have pq:ps.take (k+1)=ps:=by rw[zQ];exact List.take_length
   rw[pq]at nZ;have hup:=fU A4 c4 ps u w1 nZ.out HIT.out dX.out;have fS:(ps.take (k+1)).length=ps.length:=by rw[pq]
   rw[← fS]at hup;have HUP:=QH hup;clear hup dQ zQ pq fS sJ;generalize (ps.take (k+1)).length=q at *;go_wp2_with fail;refine HUP.out.mono ?_;rintro e W5 ⟨rfl,hb5⟩;have jU:=QH (qc zY.out hb5);clear hb5 HUP;go_wp2_with fail;go_ret2;exact⟨rfl,jU.out⟩
end Go.Proofs.YtdpbdkacngaemaaGreatDoor.vt.pg
namespace Go.Proofs.YtdpbdkacngaemaaGreatDoor.sp
open _root_.Go.Proofs.Tryz Go Go.RowKit ib
def zr (cs:List Int):Array Value:=(cs.map (Value.int .i64)).toArray
theorem dE (cs:List Int)(i:Nat)(h:i<cs.length):(zr cs)[i]?=some (.int .i64 cs[i]):=by simp[zr,h]
theorem mQ (cs:List Int)(i:Nat)(v:Int):(zr cs).setIfInBounds i (.int .i64 v)=zr (cs.set i v):=by
 unfold zr;rw[List.setIfInBounds_toArray,List.map_set]
theorem mR (n:Nat):madeCells #[.int .i64 0] n=zr (List.replicate n 0):=by
 apply Array.ext
 ·simp[size_madeCells,zr]
 ·intro j h1 h2;have e:(zr (List.replicate n 0))[j]?=some (.int .i64 0):=by
   have hj:j<n:=by simpa[zr]using h2
   rw[dE _ _ (by simpa using hj),List.getElem_replicate]
  rw[Array.getElem?_eq_getElem h2]at e;rw[Option.some.inj e];simp[madeCells,Nat.mod_one]
theorem wrap_i64(x:Int):qA (wrap64 x):=by unfold qA wrap64;omega
theorem qk8{cs:List Int}(h:∀z∈cs,qA z)(k:Nat):∀z∈bump cs k,qA z:=by
 intro z hz;unfold bump at hz;rcases List.mem_or_eq_of_mem_set hz with h1|h1
 ·exact h z h1
 ·rw[h1];exact wrap_i64 _
theorem bX {n:Int}:∀ {l cs cs':List Int},jV n cs l=some cs'→(∀z∈cs,qA z)→∀z∈cs',qA z
 | [],cs,cs',h,hz=>by
  simp only[jV,Option.some.injEq]at h;rw[← h];exact hz
 | k::r,cs,cs',h,hz=>by
  rw[dA]at h;split at h
  ·exact bX h hz
  ·split at h
   ·cases h
   ·exact bX h (qk8 hz _)
theorem pQ (n:Nat):∀z∈List.replicate n (0:Int),qA z:=by
 intro z hz;rw[List.eq_of_mem_replicate hz];unfold qA;omega
theorem qh.ints{w:World}{g:Nat}{cs:List Int}(h:qh w g 3 (zr cs))(hz:∀z∈cs,qA z):qH w (some ⟨g,0,none⟩) cs:=fun i hi =>
 ⟨g,0,rfl,h.lt,by rw[Nat.zero_add,h.cell i];exact dE cs i hi,hz _ (List.getElem_mem hi)⟩
def okL (r:List Int × Int)(w:World)(e:Ending)(w':World):Prop :=
 ∃A cc,e=.returned (.tuple #[.slice A r.1.length cc,.int .i64 r.2])∧qH w' A r.1∧Below w.heap.size w w'∧(∀b o,A=some ⟨b,o,none⟩→w.heap.size≤b∧b<w'.heap.size)∧r.1.length≤cc
theorem bY {c:Int}{w w':World}(h:Below w.heap.size w w'):okL ([],c) w (.returned (.tuple #[.slice none 0 0,.int .i64 c])) w' :=
 ⟨none,0,rfl,qH.nil _ _,h,(fun _ _ h=>by cases h),Nat.le_refl _⟩
theorem qha(n:Int)(h0:0≤n)(h:n≤1024)(W:World):(Instr.makeSlice 80 (.int .i64 n) (.int .i64 n)).run prog W=.ok (.slice (some ⟨W.heap.size,0,none⟩) n.toNat n.toNat) (W.alloc (.cells (zr (List.replicate n.toNat 0)) 3)):=by
 obtain⟨i0,hi,hz0,hz1,hz2⟩:=info_parts vE;have hmk:=run_make (P:=prog) W 80 3 i0 (.int .i64 0) underlying80 hi hz0 .i64 .i64 n n h0 (Int.le_refl _) (by rw[hz2];omega) (by omega);rw[hz1]at hmk;rw[← mR];simpa[Value.cells]using hmk
def qnU:Prop:=∀(A:Option Addr) (c:Nat) (jW:List (List Int)) (n:Int) (w:World),bN w A jW→jW.length≤9223372036854775807→qA n →
 Calls prog 137 #[.slice A jW.length c,.int .i64 n] w (okL (yG jW n) w)
def qwq:Prop:=∀(A:Option Addr) (c:Nat) (cs:List Int) (n:Int) (w:World),qH w A cs→cs.length*8≤140737488355328→qA n →
 Calls prog 139 #[.slice A cs.length c,.int .i64 n] w (okL (yS cs n) w)
def okI (r:Int)(w:World)(e:Ending)(w':World):Prop:=e=.returned (.int .i64 r)∧Below w.heap.size w w'
def qwr:Prop:=∀(A:Option Addr) (c:Nat) (cs:List Int) (w:World),qH w A cs→cs.length≤9223372036854775807 →
 Calls prog 221 #[.slice A cs.length c] w (okI (xW cs:Int) w)
theorem qH.some{w:World}{A:Option Addr}{cs:List Int}(h:qH w A cs)(h0:0<cs.length):∃b o,A=some ⟨b,o,none⟩∧b<w.heap.size:=by
 obtain⟨b,o,h1,h2,_⟩:=h 0 h0;exact⟨b,o,h1,h2⟩
end Go.Proofs.YtdpbdkacngaemaaGreatDoor.sp
namespace Go.Proofs.YtdpbdkacngaemaaGreatDoor.sp
open _root_.Go.Proofs.Tryz Go Go.RowKit Go.Shelf ib
attribute [local go_sem] Oper.semAt_some
abbrev I64:={ x:Int // qA x }
abbrev Plain(L:List (List I64)):List (List Int):=L.map fun l=>l.map fun x=>x.1
theorem qk9:∀(jW:List (List Int)),(∀l∈jW,∀z∈l,qA z)→∃L,Plain L=jW
 | [],_=>⟨[],rfl⟩
 | l::r,h=>by
  obtain⟨L,hL⟩:=qk9 r (fun l' hl'=>h l' (List.mem_cons_of_mem _ hl'));obtain⟨l',hl'⟩:∃l':List I64,l'.map (fun x=>x.1)=l:=⟨l.attachWith qA (h l (by simp)),by simp[List.attachWith,List.map_pmap]⟩;refine⟨l'::L,?_⟩;show l'.map (fun x=>x.1)::Plain L=_;rw[hL,hl']
theorem mU {α:Type}(jW:List (List α))(k:Nat)(h:k<jW.length):(jW.take (k+1)).flatten=(jW.take k).flatten++jW[k]:=by
 rw[List.take_succ_eq_append_getElem h,List.flatten_append];simp
theorem qkA{α:Type}(jW:List (List α))(k:Nat)(h:k<jW.length):(jW.take k).flatten++jW[k] <+: jW.flatten:=by
 rw[← mU jW k h];refine⟨(jW.drop (k+1)).flatten,?_⟩;rw[← List.flatten_append,List.take_append_drop]
theorem qhc{α:Type}(jW:List (List α))(k:Nat)(h:k<jW.length)(j:Nat)(hj:j<jW[k].length):(jW.take k).flatten++jW[k].take j++[jW[k][j]] <+: jW.flatten:=by
 refine List.IsPrefix.trans ?_ (qkA jW k h);rw[List.append_assoc,← List.take_succ_eq_append_getElem hj];exact(List.prefix_append_right_inj _).2 (List.take_prefix _ _)
def qku (n₀:Nat)(L:List (List I64))(J:List I64→World→Prop)(W:World)(i:Value)(wr:World):Prop :=
 ∃k:Nat,k≤L.length∧i=.int .i64 (k:Int)∧J (L.take k).flatten wr∧Below n₀ W wr
def qr9 (n₀:Nat)(pre l:List I64)(J:List I64→World→Prop)(W:World)(i:Value)(wr:World):Prop :=
 ∃j:Nat,j≤l.length∧i=.int .i64 (j:Int)∧J (pre++l.take j) wr∧Below n₀ W wr
theorem qdG(F:Fence)(nn:Nat)(hF:F.fn 268)(hro:F.round=none)(hn:1≤nn)(l Bs:Nat)(A:Option Addr)(c:Nat)(L:List (List I64))(w0:World)(J Jx:List I64→World→Prop)
    (hA:bN w0 A (Plain L)) (hL:L.length≤9223372036854775807)
    (hY:∀pre x W,J pre W→pre.length<L.flatten.length→YieldAt F (nn-1) prog l #[.int .i64 x.1] W fun e W' =>
     (e=.returned (.bool true)∧J (pre++[x]) W'∧Below w0.heap.size W W')∨(e=.returned (.bool false)∧Jx (pre++[x]) W'))
    (W:World) (hb:Below w0.heap.size w0 W) (hBs:W.cell? ⟨Bs,0,none⟩=some (.slice A L.length c)) (h0:J [] W) :
    CallsIn F nn prog 268 #[.func (.yield l) #[] #[],.pointer (some ⟨Bs,0,none⟩)] W fun e W'=>(∃v,e=.returned v) ∧
     ((∃ys,ys=L.flatten∧J ys W')∨(∃pre,pre <+: L.flatten∧Jx pre W')):=by
 have HA:=QH hA;have HY:=QH hY;have HB:=QH hb;have HJ:=QH h0;clear hA hY hb h0;refine callsIn_of_wp func268 rfl hF ?_ hro;simp only[ntmps268,List.size_toArray,List.length_cons,List.length_nil,Nat.reduceAdd,Nat.reduceSub,Array.replicate_succ,Array.replicate_zero,List.push_toArray,List.append_toArray,List.nil_append,List.cons_append]
 gi_wp2
 gi_loopw [9] (fun i wr=>qku w0.heap.size L J W i wr) (fun i _=>L.length-(intOf i).toNat)
 case atStart=>exact⟨0,Nat.zero_le _,rfl,HJ.out,Below.refl _ _⟩
 case round =>
  obtain⟨k,hk,rfl,hj,hkb⟩:=hrel;have HJK:=QH hj;have HKB:=QH hkb;clear hj hkb HJ;by_cases hlt:k<L.length
  ·have qrM:(k:Int)<(L.length:Int):=by omega
   have hft:=mU L k hlt;have hpr:=qhc L k hlt;obtain⟨b,o,A1,c1,rfl,hbl,hc,hz,hzl⟩:=HA.out k (by rw[List.length_map];exact hlt);have ec:wr.cell? ⟨b,o+k,none⟩=some (.slice A1 ((Plain L)[k]'(by rw[List.length_map];exact hlt)).length c1):=by
    rw[HKB.out.cell (p:=⟨b,o+k,none⟩) hbl,HB.out.cell (p:=⟨b,o+k,none⟩) hbl];exact hc
   have lb:b<wr.heap.size:=Nat.lt_of_lt_of_le hbl (Nat.le_trans HB.out.size HKB.out.size);have HFT:=QH hft;have HPR:=QH hpr;have HZ:=QH hz;clear hft hpr hz hc;have hpk:(Plain L)[k]'(by rw[List.length_map];exact hlt)=L[k].map (fun x=>x.1):=List.getElem_map _;rw[hpk]at ec HZ hzl;rw[List.length_map]at ec hzl;clear hpk;generalize hzs:L[k]=zs at *;clear hzs
   gi_wp2
   gi_loopw [15] (fun i wr=>qr9 w0.heap.size (L.take k).flatten zs J W i wr) (fun i _=>zs.length-(intOf i).toNat)
   case atStart=>exact⟨0,Nat.zero_le _,rfl,by rw[List.take_zero,List.append_nil];exact HJK.out,HKB.out⟩
   case round =>
    clear HJK HKB ec lb;obtain⟨j,hjl,rfl,hj,hkb⟩:=hrel;have HJK:=QH hj;have HKB:=QH hkb;clear hj hkb;by_cases hjt:j<zs.length
    ·have q0S:(j:Int)<(zs.length:Int):=by omega
     obtain⟨b1,o1,rfl,qrN,hc1,hz1⟩:=HZ.out j (by rw[List.length_map];exact hjt);rw[List.getElem_map]at hc1 hz1;have e1:wr.cell? ⟨b1,o1+j,none⟩=some (.int .i64 zs[j].1):=by
      rw[HKB.out.cell (p:=⟨b1,o1+j,none⟩) qrN,HB.out.cell (p:=⟨b1,o1+j,none⟩) qrN];exact hc1
     have l1:b1<wr.heap.size:=Nat.lt_of_lt_of_le qrN (Nat.le_trans HB.out.size HKB.out.size);have hp:=HPR.out j hjt;have pq:zs.take (j+1)=zs.take j++[zs[j]]:=List.take_succ_eq_append_getElem hjt;have fy:=hp.length_le;rw[List.length_append]at fy;obtain⟨fn,tmps,assign,body,hy,hR⟩:=HY.out _ zs[j] wr HJK.out (by simp only[List.length_cons,List.length_nil]at fy;omega);have HP:=QH hp;have xY:=QH pq;have HR:=QH hR;clear hp pq hR hc1 hz1 fy;generalize zs[j]=x at *
     gi_wp2
     refine HR.out.mono ?_;rintro e W3 (⟨rfl,hJ3,hk3⟩|⟨rfl,hJx3⟩)
     ·have HJ3:=QH hJ3;have og:=QH (HKB.out.trans hk3);clear hJ3 hk3 HR
      gi_wp2
      refine⟨⟨j+1,by omega,by go_num,by rw[xY.out,← List.append_assoc];exact HJ3.out,og.out⟩,?_⟩;simp[intOf];omega
     ·gi_wp2
      refine bodyPost_ret (results_none rfl _ _ _) rfl ?_;exact⟨⟨_,rfl⟩,.inr ⟨_,HP.out,hJx3⟩⟩
    ·have q0S:¬ (j:Int)<(zs.length:Int):=by omega
     have hj:=HJK.out;rw[List.take_of_length_le (l:=zs) (by omega),← HFT.out]at hj;have HJ2:=QH hj;clear hj
     gi_wp2
     refine⟨⟨k+1,by omega,by go_num,HJ2.out,HKB.out⟩,?_⟩;simp[intOf];omega
  ·have qrM:¬ (k:Int)<(L.length:Int):=by omega
   have hj:=HJK.out;rw[List.take_of_length_le (by omega)]at hj;have HJ2:=QH hj;clear hj
   gi_wp2
   go_end0
   exact⟨⟨_,rfl⟩,.inl HJ2.out⟩
theorem qhd(F:Fence)(n:Nat)(hF:F.fn 220)(hro:F.round=none)(a:Option Addr)(len cap:Nat)(w:World) :
    CallsIn F n prog 220 #[.slice a len cap] w fun e w'=>e=.returned (.func (.func 268) #[] #[.pointer (some ⟨w.heap.size,0,none⟩)])∧w'=w.alloc (.cells #[.slice a len cap] 218):=by
 refine callsIn_of_wp func220 rfl hF ?_ hro;simp only[ntmps220,List.size_toArray,List.length_cons,List.length_nil,Nat.reduceAdd,Nat.reduceSub,Array.replicate_succ,Array.replicate_zero,List.push_toArray,List.append_toArray,List.nil_append,List.cons_append]
 gi_wp2
 go_ret;exact⟨rfl,rfl⟩
theorem tj (F:Fence)(nn:Nat)(hF:F.fn 268)(hro:F.round=none)(hn:1≤nn)(Bs:Nat)(A:Option Addr)(c:Nat)(L:List (List I64))(w0 w:World)
    (hA:bN w0 A (Plain L)) (hL:L.length≤9223372036854775807) (hb:Below w0.heap.size w0 w) (hBs:qh w Bs 218 #[.slice A L.length c]) :
    SeqStopsK F nn prog 268 #[.pointer (some ⟨Bs,0,none⟩)] (fun x:I64=>#[.int .i64 x.1]) (Below w0.heap.size) (fun ys=>ys=L.flatten) (fun pre=>pre <+: L.flatten) L.flatten.length w:=fun l J Jx W hW _ _ hY h0 =>
 qdG F nn hF hro hn l Bs A c L w0 J Jx hA hL hY W (qc hb hW) ((hBs.below hW).cell 0) h0
end Go.Proofs.YtdpbdkacngaemaaGreatDoor.sp
namespace Go.Proofs.YtdpbdkacngaemaaGreatDoor.sp
open _root_.Go.Proofs.Tryz Go Go.RowKit ib
structure jX(w0 w:World)(B0 B1:Nat)(A:Option Addr)(c:Nat)(cs:List Int)(k:Nat):Prop where
 box:qh w B0 80 #[.slice A cs.length c]
 at_:qh w B1 3 #[.int .i64 (k:Int)]
 low:w0.heap.size≤B0
 lt:B0<B1
 k1:193≤k
 k2:k≤cs.length∨k=193
 below:Below w0.heap.size w0 w
def qkB (B0 B1:Nat):Value:=.func (.func 269) #[] #[.pointer (some ⟨B1,0,none⟩),.pointer (some ⟨B0,0,none⟩)]
def qbz (w0:World)(B0 B1:Nat)(A:Option Addr)(c:Nat)(cs:List Int)(k:Nat)(w:World)(e:Ending)(w':World):Prop :=
 qB (fun j=>j=B1) w w' ∧
 ((∃t:Nat,t<cs.length∧qP cs (t+1)=qP cs k++[(t:Int)]∧e=.returned (.tuple #[.int .i64 (t:Int),.bool true])∧jX w0 w' B0 B1 A c cs (t+1)) ∨
  (xW cs=(qP cs k).length∧e=.returned (.tuple #[.int .i64 0,.bool false])))
def cellOf (w:World)(B:Nat):Nat:=match w.cell? ⟨B,0,none⟩with
 | some (.int _ z)=>z.toNat
 | _=>0
theorem pR {w:World}{B k:Nat}{t:TypeId}(h:qh w B t #[.int .i64 (k:Int)]):cellOf w B=k:=by
 unfold cellOf;rw[h.cell 0];simp
theorem jX.move{w0 w w':World}{B0 B1:Nat}{A:Option Addr}{c:Nat}{cs:List Int}{k k':Nat}(h:jX w0 w B0 B1 A c cs k)(hb:qB (fun j=>j=B1) w w')(ha:qh w' B1 3 #[.int .i64 (k':Int)])(h1:193≤k')(h2:k'≤cs.length∨k'=193):jX w0 w' B0 B1 A c cs k' :=
 ⟨h.box.of_block (hb.block _ h.box.lt (Nat.ne_of_lt h.lt)),ha,h.low,h.lt,h1,h2,(h.below).trans (hb.below (fun i e=>by rw[e];have:=h.low;have:=h.lt;omega) h.below.size)⟩
def qnW (w0 w:World)(B0 B1:Nat)(A:Option Addr)(c:Nat)(cs:List Int)(k:Nat)(wr:World):Prop :=
 ∃j:Nat,jX w0 wr B0 B1 A c cs j∧qP cs j=qP cs k∧qB (fun i=>i=B1) w wr
theorem qhe{cs:List Int}{k:Nat}(h:k≤cs.length∨k=193)(he:cs.length≤k):xW cs=(qP cs k).length:=by
 rcases h with h|h
 ·rw[show k=cs.length by omega];rfl
 ·unfold xW;rw[h,yH cs 193 (by omega),yH cs cs.length (by omega)]
theorem gQ {w0 w:World}{B0 B1:Nat}{A:Option Addr}{c:Nat}{cs:List Int}{k:Nat}(h:jX w0 w B0 B1 A c cs k)(hA:qH w0 A cs)(hl:cs.length≤9223372036854775807) :
    Calls prog 269 #[.pointer (some ⟨B1,0,none⟩),.pointer (some ⟨B0,0,none⟩)] w (qbz w0 B0 B1 A c cs k w):=by
 have HF:=QH h;have HA:=QH hA;clear h hA;go_enter func269,ntmps269;go_wp2_with fail;go_loopw [] (fun wr=>qnW w0 w B0 B1 A c cs k wr) (fun wr=>cs.length-cellOf wr B1);case atStart=>exact⟨k,HF.out,rfl,qB.refl _ _⟩
 case round =>
  obtain⟨j,hf,hfr,hb⟩:=hrel;have HFR:=QH hfr;have HB:=QH hb;have HFJ:=QH hf;have q0:wr.cell? ⟨B0,0,none⟩=some (.slice A cs.length c):=hf.box.cell 0;have q1:wr.cell? ⟨B1,0,none⟩=some (.int .i64 (j:Int)):=hf.at_.cell 0;have l0:=hf.box.lt;have l1:=hf.at_.lt;have f1:=hf.at_.frozen 0;have hne:=Nat.ne_of_lt hf.lt;have zQ:=hf.k1;have hk2:=hf.k2;clear hf hfr hb HF;by_cases hlt:j<cs.length
  ·obtain⟨b,o,rfl,hbl,hc,hz⟩:=HA.out j hlt;have qr7:(j:Int)<(cs.length:Int):=by omega
   have hg:cs.getD j 0=cs[j]:=by simp[List.getD,hlt]
   have hs:=az cs j;rw[hg]at hs;have HS:=QH hs;have ec:wr.cell? ⟨b,o+j,none⟩=some (.int .i64 cs[j]):=by rw[HFJ.out.below.cell (p:=⟨b,o+j,none⟩) hbl];exact hc
   have lb:b<B0:=Nat.lt_of_lt_of_le hbl HFJ.out.low;have jH:Hid (qh (wr.setCell ⟨B1,0,none⟩ (.int .i64 (((j+1:Nat)):Int))) B1 3 #[.int .i64 ((j+1:Nat):Int)]):=by
    have h:=HFJ.out.at_.qu 0 (.int .i64 ((j+1:Nat):Int));exact h
   have hbb:Hid (qB (fun i=>i=B1) w (wr.setCell ⟨B1,0,none⟩ (.int .i64 (((j+1:Nat)):Int)))):=HB.out.setCell ⟨B1,0,none⟩ _ (.inl rfl);have hbj:Hid (qB (fun i=>i=B1) wr (wr.setCell ⟨B1,0,none⟩ (.int .i64 (((j+1:Nat)):Int)))):=(qB.refl _ _).setCell ⟨B1,0,none⟩ _ (.inl rfl);have ej:((j+1:Nat):Int)=(j:Int)+1:=by omega
   rw[ej]at jH hbb hbj;clear hs hg hc hz;generalize cs[j]=x at *;by_cases hx:x=0
   ·subst hx;have hs:=HS.out;rw[if_pos ⟨zQ,rfl⟩]at hs;have kY:=QH hs;clear hs;go_wp2_with fail;go_ret2;exact⟨hbb.out,.inl ⟨j,hlt,by rw[kY.out,HFR.out],rfl,HFJ.out.move hbj.out (by rw[ej];exact jH.out) (by omega) (by omega)⟩⟩
   ·have hxb:(x == 0)=false:=by simpa using hx
    have hs:=HS.out;rw[if_neg (fun h=>hx h.2),List.append_nil]at hs;have kY:=QH hs;have hm:Hid (cellOf wr B1=j):=pR HFJ.out.at_;have hm2:Hid (cellOf (wr.setCell ⟨B1,0,none⟩ (.int .i64 ((j:Int)+1))) B1=j+1):=by
     refine pR (t:=3) ?_;rw[ej];exact jH.out
    clear hs;go_wp2_with fail;refine⟨⟨j+1,HFJ.out.move hbj.out (by rw[ej];exact jH.out) (by omega) (by omega),by rw[kY.out,HFR.out],hbb.out⟩,?_⟩;rw[hm.out,hm2.out];omega
  ·have qr7:¬ (j:Int)<(cs.length:Int):=by omega
   have HD:=QH (qhe hk2 (show cs.length≤j by omega));go_wp2_with fail;go_ret2;exact⟨HB.out,.inr ⟨by rw[HD.out,HFR.out],rfl⟩⟩
theorem mV (A:Option Addr)(c:Nat)(cs:List Int)(w0 w:World)(hb:Below w0.heap.size w0 w) :
    Calls prog 222 #[.slice A cs.length c] w fun e w'=>e=.returned (qkB w.heap.size (w.heap.size+1))∧jX w0 w' w.heap.size (w.heap.size+1) A c cs 193∧Below w.heap.size w w':=by
 go_enter func222,ntmps222;go_wp2_with fail;go_ret;have h0:qh (w.alloc (.cells #[.slice A cs.length c] 80)) w.heap.size 80 #[.slice A cs.length c]:=qh.new _ _ _;have h1:qh ((w.alloc (.cells #[.slice A cs.length c] 80)).alloc (.cells #[.int .i64 193] 3)) (w.alloc (.cells #[.slice A cs.length c] 80)).heap.size 3 #[.int .i64 ((193:Nat):Int)]:=qh.new _ _ _;have b1:=((Below.refl w.heap.size w).alloc (Nat.le_refl _) (.cells #[.slice A cs.length c] 80)).alloc (by simp) (.cells #[.int .i64 193] 3);rw[World.size_alloc]at h1;exact⟨rfl,⟨h0.of_block (Below.heap_alloc _ _ _ h0.lt),h1,hb.size,by omega,by omega,.inr rfl,qc hb b1⟩,b1⟩
theorem qhf{cs:List Int}{i:Nat}(h:i≤9223372036854775807):∀z∈qP cs i,qA z:=by
 intro z hz;unfold qP at hz;obtain⟨j,hj,rfl⟩:=List.mem_map.1 hz;have:=List.mem_range.1 (List.mem_filter.1 hj).1;unfold qA;omega
def qws (w:World)(B0 B1:Nat)(A:Option Addr)(c:Nat)(cs:List Int)(n:Nat)(i:Bool)(wr:World):Prop :=
 Below w.heap.size w wr∧((i=true∧∃k,jX w wr B0 B1 A c cs k∧(qP cs k).length=n+1)∨(i=false∧n=xW cs))
def qwt (w:World)(B0 B1:Nat)(A:Option Addr)(c:Nat)(cs:List Int)(v i:Value)(wr:World):Prop :=
 ∃(n:Nat) (b:Bool),v=.int .i64 (n:Int)∧i=.bool b∧qws w B0 B1 A c cs n b wr
theorem qpG{w W W':World}{B0 B1:Nat}{A:Option Addr}{c:Nat}{cs:List Int}{k:Nat}{e:Ending}(h:jX w W B0 B1 A c cs k)(hp:qbz w B0 B1 A c cs k W e W'):∃(x:Int) (b:Bool),e=.returned (.tuple #[.int .i64 x,.bool b])∧qws w B0 B1 A c cs (qP cs k).length b W':=by
 obtain⟨hb,⟨t,ht,hf,rfl,hF⟩|⟨hs,rfl⟩⟩:=hp
 ·exact⟨_,_,rfl,hF.below,.inl ⟨rfl,t+1,hF,by rw[hf,List.length_append];rfl⟩⟩
 ·exact⟨_,_,rfl,h.below.trans (hb.below (fun i e=>by rw[e];have:=h.low;have:=h.lt;omega) h.below.size),.inr ⟨rfl,hs.symm⟩⟩
theorem qdH{w w':World}{B0 B1:Nat}{A:Option Addr}{c:Nat}{cs:List Int}{k:Nat}(h:jX w w' B0 B1 A c cs k):(qP cs k).length≤xW cs:=by
 rcases h.k2 with h1|h1
 ·obtain⟨r,hr⟩:=eA cs k cs.length h1;unfold xW;rw[hr,List.length_append];omega
 ·rw[h1,yH cs 193 (by omega)];exact Nat.zero_le _
theorem mW (cs:List Int):xW cs≤cs.length:=qgs cs cs.length
theorem qwu:qwr:=by
 intro A c cs w hp hl;have HP:=QH hp;have HFI:=QH (mV A c cs w w (Below.refl _ _));have hsm:=mW cs;clear hp;go_enter func221,ntmps221;go_wp2_with fail;refine HFI.out.mono ?_;rintro e W1 ⟨rfl,hf,hb⟩;have HF:=QH hf;clear hf hb HFI;unfold qkB;have hl0:=HF.out.low;obtain⟨B0,hB0⟩:=QE w.heap.size;rw[hB0]at HF hl0 ⊢;go_wp2_with fail;refine(gQ HF.out HP.out hl).mono ?_;rintro e W2 hp;obtain⟨x,b,rfl,hs⟩:=qpG HF.out hp;rw[yH cs 193 (by omega)]at hs;have HS:=QH hs;clear hp hs HF;go_wp2_with fail;go_loopw [3,6] (fun v i wr=>qwt w B0 (B0+1) A c cs v i wr) (fun v _ _=>cs.length-(intOf v).toNat);case atStart=>exact⟨0,b,rfl,rfl,HS.out⟩
 case round =>
  clear HS;obtain⟨n,b,rfl,rfl,hb,h⟩:=hrel;have HB:=QH hb;rcases h with⟨rfl,k,hf,hk⟩|⟨rfl,rfl⟩
  ·have hm:=qdH hf;have HF:=QH hf;have HK:=QH hk;clear hf;go_wp2_with fail;refine(gQ HF.out HP.out hl).mono ?_;rintro e W3 hp;obtain⟨x,b,rfl,hs⟩:=qpG HF.out hp;rw[HK.out]at hs;have HS:=QH hs;clear hp hs HF;go_wp2_with fail;go_roundw;case rel=>exact⟨n+1,b,by go_num,rfl,HS.out⟩
   case measure=>simp[intOf];omega
  ·go_wp2_with fail;go_ret;exact⟨rfl,HB.out⟩
theorem qb0{jW:List (List Int)}{n:Int}(h:jV n (List.replicate n.toNat 0) jW.flatten=none):yG jW n=([],2):=by
 unfold yG;rw[h];split <;> rfl
theorem qdI{jW:List (List Int)}{n:Int}{cs:List Int}(h0:0≤n)(h1:n≤1024)(h:jV n (List.replicate n.toNat 0) jW.flatten=some cs):yG jW n=(cs,0):=by
 unfold yG;rw[h,if_neg (by omega)]
theorem qeZ{w wr:World}{g c:Nat}{n:Nat}{cs:List Int}{r:List Int × Int}(hk:qh wr g 3 (zr cs))(hb:Below w.heap.size w wr)(hg:w.heap.size≤g)(hn:cs.length=n)(hc:n≤c)(hz:∀z∈cs,qA z)(hr:r=(cs,0)) :
    okL r w (.returned (.tuple #[.slice (some ⟨g,0,none⟩) n c,.int .i64 0])) wr:=by
 subst hr hn;refine⟨_,c,rfl,qh.ints hk hz,hb,fun b o h=>?_,hc⟩;simp only[Option.some.injEq,Addr.mk.injEq,and_true]at h;rw[← h.1];exact⟨hg,hk.lt⟩
end Go.Proofs.YtdpbdkacngaemaaGreatDoor.sp
