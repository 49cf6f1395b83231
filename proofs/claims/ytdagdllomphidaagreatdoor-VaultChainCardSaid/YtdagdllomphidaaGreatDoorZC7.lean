/- JRecov, VgHld, VgTxt, SpMem, SpHyp, SpPlaces, SpFind, SpRef, SpFree, SpRefC, SpTake, SpCellR, SpProg, VgPl, ImRef, ImOwn, ImRef2, ImHyp, ImProg, JShelf, ChLst, PgBase, PgMem, PgOne, PgLast. -/
import Derived.Test.YtdagdllomphidaaGreatDoorZC6
import Derived.Lib.SliceRun
import Derived.Shelf.Strings.Repeat
set_option linter.unusedVariables false
set_option linter.unusedSimpArgs false
set_option maxHeartbeats 30000000
set_option maxRecDepth 100000
namespace Go.Proofs.YtdagdllomphidaaGreatDoor.jr
open _root_.Go.Proofs.Tryz Go Go.RowKit dk wi
section
variable {most:Nat} {w:World} {own:Nat→Prop} {p:Nat} {d:DD}
theorem pk {r:Option (List Wr)}{w:World}{e:Ending}{w':World}(h:p9 r w e w'):Below w.heap.size w w'∧((∃l A c,r=some l∧e=.returned (.tuple #[.slice A l.length c,.bool true])∧uJ w' A l)∨(r=none∧∃A n c,e=.returned (.tuple #[.slice A n c,.bool false]))):=by
 obtain⟨h1,h2⟩:=h;refine⟨h1,?_⟩;cases r with
 | some l =>
  obtain⟨A,c,g1,g2⟩:=h2;exact .inl ⟨l,A,c,rfl,g1,g2⟩
 | none =>
  obtain⟨A,n,c,g⟩:=h2;exact .inr ⟨rfl,A,n,c,g⟩
theorem uL {r:Option (Nat × Nat)}{w:World}{e:Ending}{w':World}(h:pj r w e w'):Below w.heap.size w w'∧((∃a c:Nat,r=some (a,c)∧e=.returned (.tuple #[.agg #[.int .i64 (a:Int),.int .i64 (c:Int)],.bool true]))∨(r=none∧∃x y:Int,e=.returned (.tuple #[.agg #[.int .i64 x,.int .i64 y],.bool false]))):=by
 obtain⟨h1,h2⟩:=h;refine⟨h1,?_⟩;cases r with
 | some q =>
  obtain⟨a,c⟩:=q;exact .inl ⟨a,c,rfl,h2⟩
 | none =>
  obtain⟨x,y,g⟩:=h2;exact .inr ⟨rfl,x,y,g⟩
theorem xq {w':World}{r:Value}(h:zx most w own p d)(hb:Below w.heap.size w w'):xu most own p d r w (.returned r) w':=⟨rfl,own,h.below hb,qx.of_below hb,uY.refl _ _⟩
theorem qiY{t:Bt}{l:List Wr}(h:aW t=some l):l.length≤60:=by
 unfold aW at h;cases hn:rdNum t with
 | none=>rw[hn]at h;cases h
 | some q =>
  obtain⟨n,r⟩:=q;rw[hn]at h;dsimp only at h;split at h
  ·cases h
  ·rename_i hh;cases hr:ik n r with
   | none=>rw[hr]at h;cases h
   | some q2 =>
    obtain⟨l2,r2⟩:=q2;have hl:=mU n r l2 r2 hr;rw[hr]at h;cases r2 with
    | nil =>
     simp at h;subst h;omega
    | cons=>cases h
theorem qiZ{s:qG}{a c:Nat}{l:List Wr}(h:dG s a c=some l):l.length≤60:=by
 unfold dG at h;cases hu:unB (zR s a c)with
 | none=>rw[hu]at h;cases h
 | some t=>rw[hu]at h;exact qiY h
theorem rS (HR:qmQ)(h:zx most w own p d)(hn:145<d.n)(ht:xJ w)(hm:d.more.length+100≤most)(jb:most≤100000) :
    Calls prog 41 #[.pointer (some ⟨p,0,none⟩)] w (xu most own p (zY d).2 (.int .i64 (zY d).1) w):=by
 have HD:=QH h;have HP:=QH (aH h);have hpl:p<w.heap.size:=by obtain⟨_,_,_,hd⟩:=h;exact hd.1.lt
 have HT:=QH ht;have hg:=ht.1;have HH:=QH HR;clear ht HR h;obtain⟨R,hR⟩:=QE (zY d);rw[hR];unfold zY at hR;cases zQ:d.on with
 | false =>
  rw[zQ]at HP;rw[if_pos zQ]at hR;subst hR;go_enter func41,ntmps41;go_wp2_with (go_at_call 83;refine HP.out.mono ?_;rintro e w' ⟨rfl,rfl⟩);go_ret;exact xq HD.out (Below.refl _ _)
 | true =>
  rw[zQ]at HP;rw[if_neg (by rw[zQ];simp)]at hR;have fB:=QH hR;have HON:=QH zQ;clear hR zQ;go_enter func41,ntmps41;go_wp2_with (go_at_call 83;refine HP.out.mono ?_;rintro e w' ⟨rfl,rfl⟩);refine(HH.out most w own p d HD.out HON.out (by omega)).mono ?_;intro e W1 xV;obtain⟨b1,⟨a,c,hq,rfl⟩|⟨hq,x,y,rfl⟩⟩:=uL xV
  ·have uS:=fB.out;rw[hq]at uS;dsimp only at uS;obtain⟨ha,hc,_⟩:=kZ hq;have qP:=QH b1;clear b1 xV hq fB;by_cases hc0:c=0
   ·subst hc0;rw[if_pos rfl]at uS;subst uS;go_wp2_with fail;go_ret;exact xq HD.out (zw qP.out _)
   ·rw[if_neg hc0]at uS;have zaC:((c:Int) == 0)=false:=by simpa using hc0
    have hkb:qf (W1.alloc (.cells #[.int .i64 (a:Int),.int .i64 (c:Int)] 149)) W1.heap.size _ _:=qf.new W1 _ _;have qy:=QH (zw qP.out (.cells #[.int .i64 (a:Int),.int .i64 (c:Int)] 149));have fB:=QH uS;clear uS hkb;go_wp2_with fail;refine(qf6 (HD.out.below qy.out) HON.out hn a c ha hc (HT.out.below qy.out hg)).mono ?_;intro e W3 xV;obtain⟨b3,⟨l,A,c3,hq,rfl,hw⟩|⟨hq,A,n3,c3,rfl⟩⟩:=pk xV
    ·have uS:=fB.out;rw[hq]at uS;dsimp only at uS;have quH:=qiZ hq;have qV:=QH (qc qy.out b3);have HW:=QH hw;clear xV b3 hw hq fB;have lz:=QH (qcR (HD.out.below qV.out) A c3 l HW.out (by omega));cases hps:vA d.n l with
     | false =>
      rw[hps]at lz uS;rw[if_pos rfl]at uS;subst uS;go_wp2_with (go_at_call 86;refine lz.out.mono ?_;rintro e w' ⟨rfl,b4⟩);go_wp2_with fail;go_ret;exact xq HD.out (qc qV.out b4)
     | true =>
      rw[hps]at lz uS;rw[if_neg (by simp)]at uS;have fB:=QH uS;clear uS;go_wp2_with (go_at_call 86;refine lz.out.mono ?_);rintro e W4 ⟨rfl,b4⟩;have zO:=QH (qc qV.out b4);have HW4:=QH (HW.out.below b4 (Nat.le_refl _));clear b4 HW;go_wp2_with fail;have HBS:=QH (qcS (c:=c3) HW4.out);have jx:=QH (zw zO.out (.cells #[.slice A l.length c3] 136));refine(dT p _ 1 [l] _ (Nat.lt_of_lt_of_le hpl jx.out.size) HBS.out (by simp) (fun m hm2=>by simp at hm2;subst hm2;omega)).mono ?_;rintro e W5 ⟨v,rfl,hgg⟩;have HG:=QH hgg;clear hgg;go_wp2_with fail;refine(iJ (HD.out.below jx.out) HG.out (by simp[qD,jN];omega) jb).mono ?_;rintro e W6 xV;have HPO:=QH (xu.from xV jx.out HD.out.low);obtain⟨rfl,_⟩:=xV;rw[fB.out]at HPO ⊢;go_wp2_with fail;go_ret;exact HPO.out
    ·have uS:=fB.out;rw[hq]at uS;dsimp only at uS;subst uS;have qV:=QH (qc qy.out b3);clear xV b3 hq fB;go_wp2_with fail;go_ret;exact xq HD.out qV.out
  ·have uS:=fB.out;rw[hq]at uS;dsimp only at uS;subst uS;have qP:=QH b1;clear b1 xV hq fB;go_wp2_with fail;go_ret;exact xq HD.out (zw qP.out _)
end
end Go.Proofs.YtdagdllomphidaaGreatDoor.jr
namespace Go.Proofs.YtdagdllomphidaaGreatDoor.vt.pg
open _root_.Go.Proofs.Tryz Go Go.RowKit Go.Sort ib mt im sp
theorem qqw:prog.follows .mixedOrders=true:=by kernel_rfl
theorem qaS{N:Nat}{t:Tg}{d:DD}(h:jr.JJ N t d)(k:Int)(h0:145≤k)(h1:k<(N:Int)):d.read k=(t k,0):=by
 have hn:d.n=N:=h.rb.1;have qlS:d.now=d.base:=by unfold dk.DD.now;rw[h.more];rfl
 unfold dk.DD.read;have:d.has k=true:=by
  unfold dk.DD.has;rw[hn];simp;omega
 rw[if_neg (by rw[h.on];simp),if_neg (by rw[this];simp),qlS];exact congrArg (fun x=>(x,(0:Int))) (h.is k h0)
theorem iK {w:World}{o:Nat→Prop}{pd:Nat}{d:DD}(h:dk.zx 1000 w o pd d)(k:Int):Calls prog 89 #[pt pd,.int .i64 k] w (dk.vQ (d.read k) w):=by
 obtain⟨h0,m,v,h1⟩:=h;unfold dk.DD.read;by_cases zQ:d.on=false
 ·rw[if_pos zQ];exact dk.qch h1 zQ k
 ·rw[if_neg zQ];by_cases hh:d.has k=false
  ·rw[if_pos hh];exact dk.qci h1 (by simpa using zQ) k hh
  ·rw[if_neg hh];exact dk.qgI h0 h1 (by simpa using zQ) k (by simpa using hh)
theorem eW {w:World}{o:Nat→Prop}{pd:Nat}{d:DD}(h:dk.zx 1000 w o pd d):Calls prog 45 #[pt pd] w fun e w'=>e=.returned (.int .i64 (d.n:Int))∧w=w':=by
 obtain⟨h0,m,v,h1⟩:=h;exact dk.qat h1
theorem qgZ{w:World}{o:Nat→Prop}{pd:Nat}{d:DD}(h:dk.zx 1000 w o pd d):Calls prog 99 #[pt pd] w fun e w'=>e=.returned (.bool d.on)∧w=w':=by
 obtain⟨h0,m,v,h1⟩:=h;exact dk.qlD h1
section
variable {o1 o2:Nat→Prop} {w:World} {v pd N:Nat} {d:DD} {m:Mt} {l:Bool} {t:Tg}
theorem qha(h:VP jB w o1 o2 v pd d m l):v<w.heap.size∧w.cell? ⟨v,9,none⟩=some (pt pd)∧w.cell? ⟨v,10,none⟩=some (.bool l):=by
 obtain⟨A0,A1,A2,c0,c1,c2,h1⟩:=h.is;exact⟨h1.cells.lt,h1.cells.k9,h1.cells.bQ⟩
theorem qja(h:VP jB w o1 o2 v pd d m l)(hJ:jr.JJ N t d)(x:Wr)(h0:145≤x.1)(h1:x.1<(N:Int)):Calls prog 106 #[pt v,.agg #[.int .i64 x.1,.string (str x.2)]] w (dh (decide (t x.1=x.2)) w):=by
 obtain⟨xk,xs⟩:=x;dsimp only at h0 h1 ⊢;have hb1:=(Below.refl _ w).alloc (Nat.le_refl _) (.cells #[.int .i64 xk,.string (str xs)] 182);have zJ:=qf.new w 182 #[.int .i64 xk,.string (str xs)];obtain⟨W,hW⟩:=QE (w.alloc (.cells #[.int .i64 xk,.string (str xs)] 182));rw[hW]at hb1 zJ;have h2:=qQ h hb1;have wa:=qaS hJ xk h0 h1;obtain⟨q1,q2,q3⟩:=qha h2;have p0:=zJ.cell 0;have p1:=zJ.cell 1;have hpl:=zJ.lt;simp only[QA,QB,QC]at p0 p1;have e0:=fun d os=>cell_regrown p0 d os;have e1:=fun d os=>cell_regrown p1 d os;have e2:=fun d os=>cell_regrown q2 d os;have cR:∀b os,Calls prog 89 #[pt pd,.int .i64 xk] (grow (redrawn W b) os) fun e w''=>e=.returned (.tuple #[.string (str (t xk)),.int .i64 0])∧∃q:Regrown,w''=grow (redrawn W q.d) q.os :=
  fun b os=>by
   have:=iK (qQ h2 (below_regrown W b os)).dk xk;rw[wa]at this;exact Calls.regrown_of this
 have hq:((str (t xk)).toList == (str xs).toList)=decide (t xk=xs):=by
  have h:=fK (str (t xk)) xs;rw[za]at h;exact h
 have qP:=QH hb1;obtain⟨r,hr⟩:=QE (decide (t xk=xs));rw[hr]at hq ⊢;obtain⟨S1,hS1⟩:=QE (str (t xk));obtain⟨S2,hS2⟩:=QE (str xs);rw[hS1]at hq cR;rw[hS2]at hq hW p1 e1 ⊢;have HK:=QH p1;have HPL:=QH hpl;clear h hb1 zJ h2 wa hr hS1 hS2 p0 p1 q2 q3;go_enter func106,ntmps106;go_upto_region 1 with fail;try rw[hW]
 clear hW;refine wp_region_quiet_below qqw (by kernel_rfl) ?_;repeat (any_goals (first|go_big_quiet_step (first|exact cR _ _)|quiet_step (first|exact cR _ _)))
 refine wpQuiet_nil ?_;intro _ hw';obtain⟨⟨dq,osq⟩,hw''⟩:=hw';subst hw'';have p1:=e1 dq osq;have hb:=below_regrown W dq osq;have qy:=QH (qc qP.out hb);have hpl:=Nat.lt_of_lt_of_le HPL.out hb.size;clear hb e0 e1 e2 cR qP HK HPL q1;generalize grow (redrawn W dq) osq=W3 at *;cases r;all_goals
  go_wp2_with fail;go_ret;exact⟨rfl,qy.out⟩
theorem jI (h:VP jB w o1 o2 v pd d m false)(zQ:d.on=true):Calls prog 52 #[pt v] w fun e w'=>e=.returned (.int .i64 0)∧w=w':=by
 obtain⟨q1,q2,q3⟩:=qha h;have HO:=QH (qgZ h.dk);rw[zQ]at HO;clear h;go_enter func52,ntmps52;go_wp2_with fail;refine HO.out.mono ?_;rintro e W1 ⟨rfl,rfl⟩;go_wp2_with fail;go_ret;exact⟨rfl,rfl⟩
theorem qyG(h:VP jB w o1 o2 v pd d m l):VP jB (w.setCell ⟨v,10,none⟩ (.bool true)) o1 o2 v pd d m true∧ib.qx (fun j=>j=v) w (w.setCell ⟨v,10,none⟩ (.bool true)):=by
 obtain⟨A0,A1,A2,c0,c1,c2,h1⟩:=h.is;have hb:=qgS w v 10 (.bool true);refine⟨⟨⟨A0,A1,A2,c0,c1,c2,?_⟩,h.dk.keep hb.size (fun j hj=>hb.block j (bP h.dk j hj) (fun e=>?_)),h.dj⟩,hb⟩
 ·refine⟨by have:=h1.blk.qo 10 (.bool true);simpa[vC]using this,h1.tab.stay (wb fun j hj=>hj.2),h1.sz,?_,h1.own,fun j hj=>Nat.lt_of_lt_of_le (h1.low j hj) hb.size,h1.gv,h1.tk⟩;exact vY h1.ct hb.size (qz _ _ _ _ _ h1.gv)
 ·have:=h.dj v (.inl h1.own);rw[e]at hj;exact this hj
theorem aI (h:VP jB w o1 o2 v pd d m l)(hl:l=true∨d.on=false):Calls prog 52 #[pt v] w fun e w'=>e=.returned (.int .i64 6)∧VP jB w' o1 o2 v pd d m true∧ib.qx (fun j=>j=v) w w':=by
 obtain⟨q1,q2,q3⟩:=qha h;have HO:=QH (qgZ h.dk);have HL:=QH (qyG h);have hf:w.frozen? ⟨v,10,none⟩=false:=by
  obtain⟨A0,A1,A2,c0,c1,c2,h1⟩:=h.is;exact h1.blk.frozen 10
 clear h;cases l with
 | true =>
  go_enter func52,ntmps52;go_wp2_with fail;go_ret;exact⟨rfl,HL.out.1,HL.out.2⟩
 | false =>
  have zQ:d.on=false:=by simpa using hl
  rw[zQ]at HO;clear hl zQ;go_enter func52,ntmps52;go_wp2_with fail;refine HO.out.mono ?_;rintro e W1 ⟨rfl,rfl⟩;go_wp2_with fail;go_ret;exact⟨rfl,HL.out.1,HL.out.2⟩
end
theorem yb (w:World):Calls prog 52 #[.pointer none] w fun e w'=>e=.returned (.int .i64 1)∧w=w':=by
 go_enter func52,ntmps52;go_wp2_with fail;go_ret;exact⟨rfl,rfl⟩
theorem qmR(l:List UInt8)(c:UInt8):Lib.trimB l c=[] ↔ ∀b∈l,b=c:=by
 have key:∀L:List UInt8,L.dropWhile (· == c)=[] ↔ ∀b∈L,b=c:=by
  intro L
  induction L with
  | nil=>simp
  | cons x r ih =>
   by_cases hx:x=c
   ·subst hx;simp[List.dropWhile_cons,ih]
   ·have:(x == c)=false:=by simpa using hx
    rw[List.dropWhile_cons,this];simp[hx]
 have q4w:∀L:List UInt8,(∀b∈L.dropWhile (· == c),b=c)→∀b∈L,b=c:=by
  intro L
  induction L with
  | nil=>simp
  | cons x r ih =>
   intro h;by_cases hx:x=c
   ·subst hx;simp only[List.dropWhile_cons,BEq.rfl,if_true]at h;intro b hb;rcases List.mem_cons.1 hb with rfl|hb
    ·rfl
    ·exact ih h b hb
   ·have:(x == c)=false:=by simpa using hx
    rw[List.dropWhile_cons,this]at h;exact fun b hb=>h b hb
 unfold Lib.trimB Lib.trimLeftB Lib.trimRightB;rw[key];constructor
 ·intro h b hb;exact q4w l.reverse (fun b hb=>h b (by simpa using hb)) b (by simpa using hb)
 ·intro h b hb;have hb:b∈l.reverse.dropWhile (· == c):=by simpa using hb
  exact h b (by simpa using(List.dropWhile_suffix (fun x=>x == c)).mem hb)
theorem quI(s:Bt)(hs:s.length=32):s=zb ↔ ∀b∈s,b=0:=by
 constructor
 ·rintro rfl b hb;exact List.eq_of_mem_replicate hb
 ·intro h;exact List.eq_replicate_iff.2 ⟨hs,h⟩
theorem lU (s:Bt)(hs:s.length=32)(w:World):Calls prog 101 #[.string (str s)] w (dh (decide (s=zb)) w):=by
 have ht:=Tryz.strings_Trim_one (str s) 0 (by decide) w (by rw[qO];omega);have hd:(⟨(Lib.trimB (str s).data.toList 0).toArray⟩:ByteArray).toList.isEmpty=decide (s=zb):=by
  have h:=fK (⟨(Lib.trimB (str s).data.toList 0).toArray⟩:ByteArray) [];have h0:(str []).toList=[]:=by first|rfl|(simp[str];done)|decide +kernel
  have e:∀L:List UInt8,L.isEmpty=(L == []):=fun L=>by cases L <;> rfl
  rw[h0]at h;rw[e,h,Bool.eq_iff_iff];simp only[decide_eq_true_eq];rw[quI s hs,← qmR];show Lib.trimB (bl (str s)) 0=[]↔_;rw[za]
 have HT:=QH ht;obtain⟨r,hr⟩:=QE (decide (s=zb));rw[hr]at hd ⊢;obtain⟨S,hS⟩:=QE (⟨(Lib.trimB (str s).data.toList 0).toArray⟩:ByteArray);rw[hS]at HT hd;clear ht hS hr;go_enter func101,ntmps101;go_wp2_with fail;refine HT.out.mono ?_;rintro e W1 ⟨rfl,hw⟩;have HB:Hid (Below w.heap.size w W1):=by
  rcases hw with rfl|rfl
  ·exact Below.refl _ _
  ·exact(Below.refl _ _).drew
 clear hw HT;go_wp2_with fail;go_ret;exact⟨rfl,HB.out⟩
end Go.Proofs.YtdagdllomphidaaGreatDoor.vt.pg
namespace Go.Proofs.YtdagdllomphidaaGreatDoor.vt.pg
open _root_.Go.Proofs.Tryz Go Go.RowKit ib mt im sp
theorem quJ:(prog.info? 9).map (fun i=>(i.zero,i.size,i.bytes))=some (some (.string ByteArray.empty),1,16):=by kernel_rfl
def TxR (w:World)(ps:List Bt)(v i:Value)(wr:World):Prop:=∃k:Nat,k<ps.length∧i=.int .i64 (k:Int)∧zH wr w.heap.size v (ps.take k)∧Below w.heap.size w wr
theorem qjb(u:Bt)(hu:u.length≤8192)(k:Nat):((qL u).take k).flatten.length≤100000:=by
 have h2:(qL u).flatten=((qL u).take k).flatten++((qL u).drop k).flatten:=by rw[← List.flatten_append,List.take_append_drop]
 have h3:=congrArg List.length h2;rw[yG,yX,List.length_append]at h3;unfold nsec at h3;omega
theorem qf9{o:Nat→Prop}{w:World}{pd N:Nat}{d:DD}{t:Tg}{u:Bt}(h:dk.zx 1000 w o pd d)(fG:xJ w)(hJ:jr.JJ N t d)(hN:193≤N)(hu:u.length≤8192)(hn:(qL u).length≤48)(home:∀i (h:i<(qL u).length),t ((145+i:Nat):Int)=(qL u)[i]) :
    Calls prog 42 #[pt pd] w (qsn (str u) w):=by
 obtain⟨i0,hi,hz0,hz1,hz2⟩:=info_parts quJ;have quK:0<(qL u).length:=by rw[xU];exact ew _
 have qyH:=QH quK;have HD:=QH h;have HT:=QH fG;have HJ:=QH hJ;have HN:=QH hn;have HNN:=QH hN;have HU:=QH hu;have qyI:=QH home;have uQ:=QH (fun k (hk:k<(qL u).length) v=>qc5 u v hu k hk);have HFL:=QH (qjb u hu);have HIT:Hid (vz (qL u) u):=⟨hu,rfl⟩;obtain⟨ps,hps⟩:=QE (qL u);rw[hps]at qyH HN qyI uQ HFL HIT;clear h fG hJ hn hN home quK hps hu;go_enter func42,ntmps42;go_wp2_with fail;go_loopw [4,10] (fun v i wr=>TxR w ps v i wr) (fun _ i _=>ps.length-(intOf i).toNat);case atStart=>exact⟨0,qyH.out,rfl,World.ownsRow_nil _ _ _ _,Below.refl _ _⟩
 case round =>
  obtain⟨k,hk,rfl,ho,hB⟩:=hrel;have HO:=QH ho;have HB:=QH hB;have h48:(k:Int)<48:=by have:=HN.out;omega
  have wa:=iK (HD.out.below hB) ((145:Int)+(k:Int));rw[qaS HJ.out ((145:Int)+(k:Int)) (by omega) (by have:=HNN.out;omega)]at wa;have ht:t ((145:Int)+(k:Int))=ps[k]:=by
   have:=qyI.out k hk;rw[← this]
   congr 1
  rw[ht]at wa;have xz:=QH wa;have kI:Hid (ps.take (k+1)=ps.take k++[ps[k]]):=List.take_succ_eq_append_getElem hk;have aM:Hid ((ps.take k).length=k):=by unfold Hid;rw[List.length_take];omega
  obtain⟨x,hx⟩:=QE (ps[k]);rw[hx]at xz kI;have HK:=QH hk;clear ho hB wa ht hx hk;go_wp2_with fail;refine xz.out.mono ?_;rintro e W2 ⟨rfl,hb2⟩;have qy:=QH (qc HB.out hb2);have wR:=QH (aG HO.out hb2);clear hb2 xz HO;have hby:=(Below.refl _ W2).alloc (Nat.le_refl _) (.cells #[.string (str x)] 9);have rz:Hid (World.ownsRow (W2.alloc (.cells #[.string (str x)] 9)) w.heap.size 9 1 _ (ps.take k).length (yq (ps.take k))):=zP wR.out (fun j hj=>hby.block j (wR.out.lt j hj).2);have qV:=QH (qc qy.out hby);have aN:Hid (∀j u,([.string (str x)]:List Value)[j]?=some u→(W2.alloc (.cells #[.string (str x)] 9)).cell? ((⟨W2.heap.size,0,none⟩:Addr).add j)=some u):=fun j u hu=>by
   rw[addr_add,Nat.zero_add,(qf.new W2 9 #[.string (str x)]).cell j];simpa using hu
  have e1:∀u∈([.string (str x)]:List Value),u.oneCell'=true:=by intro u hu;simp at hu;subst hu;rfl
  have E1:=QH e1;have E2:Hid ((ps.take k).length+1≤maxLen):=by unfold Hid;rw[aM.out];unfold maxLen;omega
  have E3:Hid (((ps.take k).length+1)*16≤140737488355328):=by unfold Hid;rw[aM.out];omega
  obtain⟨Lw,hLw⟩:=QE (ps.take k);rw[hLw]at rz kI E2 E3 aM;clear hby e1 hLw wR;go_wp2_with (at_builtin;refine xg rfl (.tmp 23) (.tmp 25) 43 rfl w.heap.size 9 i0 (.string ByteArray.empty) 1 16 underlying43 hi hz0 hz1 hz2 rfl (by decide) _ _ _ rfl rz.out ⟨W2.heap.size,0,none⟩ 1 1 [.string (str x)] rfl rfl aN.out E1.out E2.out E3.out qV.out.size ?_);intro v' w1 hown hgrow _;have zO:Hid (Below w.heap.size w w1):=qV.out.grown hgrow qV.out.size (fun j hj=>(rz.out.lt j hj).1);have HO4:Hid (zH w1 w.heap.size v' (ps.take (k+1))):=by
   rw[kI.out];refine tr aM.out ?_;rw[aM.out]at hown;exact hown
  obtain⟨A4,c4,hv4,hs4⟩:=HO4.out.view;subst hv4;have HS4:=QH hs4.2.2.1;have fG:=xo HT.out zO.out (zK HT.out);have gW:=QH fG;have HL4:Hid ((ps.take (k+1)).length=k+1):=by unfold Hid;rw[List.length_take];have:=HK.out;omega
  clear hown hgrow hs4 fG rz aN E1 E2 E3;by_cases vH:k+1<ps.length
  ·have hup:=lO A4 c4 (ps.take (k+1)) w1 HS4.out (by rw[HL4.out];omega) (HFL.out (k+1)) (fun v=>uQ.out (k+1) vH v) gW.out;have HUP:=QH hup;have HLT:=QH vH;have hfo:((4:Int) == 0)=false:=rfl;clear hup vH;generalize (ps.take (k+1)).length=q at *;go_wp2_with fail;refine HUP.out.mono ?_;rintro e W5 ⟨rfl,hb5⟩;have jx:=QH (qc zO.out hb5);have HO5:=QH (aG HO4.out hb5);clear hb5 HUP;go_wp2_with fail;go_roundw;case rel=>exact⟨k+1,HLT.out,by go_num,HO5.out,jx.out⟩
   case measure=>simp[intOf];have:=HLT.out;omega
  ·have zJ:k+1=ps.length:=by have:=HK.out;omega
   have aV:ps.take (k+1)=ps:=by rw[zJ];exact List.take_length
   rw[aV]at HS4;have hup:=lN A4 c4 ps u w1 HS4.out HIT.out gW.out;have lM:(ps.take (k+1)).length=ps.length:=by rw[aV]
   rw[← lM]at hup;have HUP:=QH hup;clear hup vH zJ aV lM HO4;generalize (ps.take (k+1)).length=q at *;go_wp2_with fail;refine HUP.out.mono ?_;rintro e W5 ⟨rfl,hb5⟩;have jx:=QH (qc zO.out hb5);clear hb5 HUP;go_wp2_with fail;go_ret2;exact⟨rfl,jx.out⟩
end Go.Proofs.YtdagdllomphidaaGreatDoor.vt.pg
namespace Go.Proofs.YtdagdllomphidaaGreatDoor.sp
open _root_.Go.Proofs.Tryz Go Go.RowKit ib
def zB (cs:List Int):Array Value:=(cs.map (Value.int .i64)).toArray
theorem aJ (cs:List Int)(i:Nat)(h:i<cs.length):(zB cs)[i]?=some (.int .i64 cs[i]):=by simp[zB,h]
theorem po (cs:List Int)(i:Nat)(v:Int):(zB cs).setIfInBounds i (.int .i64 v)=zB (cs.set i v):=by
 unfold zB;rw[List.setIfInBounds_toArray,List.map_set]
theorem pq (n:Nat):madeCells #[.int .i64 0] n=zB (List.replicate n 0):=by
 apply Array.ext
 ·simp[size_madeCells,zB]
 ·intro j h1 h2;have e:(zB (List.replicate n 0))[j]?=some (.int .i64 0):=by
   have hj:j<n:=by simpa[zB]using h2
   rw[aJ _ _ (by simpa using hj),List.getElem_replicate]
  rw[Array.getElem?_eq_getElem h2]at e;rw[Option.some.inj e];simp[madeCells,Nat.mod_one]
theorem wrap_i64(x:Int):qC (wrap64 x):=by unfold qC wrap64;omega
theorem qmS{cs:List Int}(h:∀z∈cs,qC z)(k:Nat):∀z∈bump cs k,qC z:=by
 intro z hz;unfold bump at hz;rcases List.mem_or_eq_of_mem_set hz with h1|h1
 ·exact h z h1
 ·rw[h1];exact wrap_i64 _
theorem eX {n:Int}:∀ {l cs cs':List Int},kJ n cs l=some cs'→(∀z∈cs,qC z)→∀z∈cs',qC z
 | [],cs,cs',h,hz=>by
  simp only[kJ,Option.some.injEq]at h;rw[← h];exact hz
 | k::r,cs,cs',h,hz=>by
  rw[aA]at h;split at h
  ·exact eX h hz
  ·split at h
   ·cases h
   ·exact eX h (qmS hz _)
theorem tA (n:Nat):∀z∈List.replicate n (0:Int),qC z:=by
 intro z hz;rw[List.eq_of_mem_replicate hz];unfold qC;omega
theorem qf.ints{w:World}{g:Nat}{cs:List Int}(h:qf w g 3 (zB cs))(hz:∀z∈cs,qC z):qJ w (some ⟨g,0,none⟩) cs:=fun i hi =>
 ⟨g,0,rfl,h.lt,by rw[Nat.zero_add,h.cell i];exact aJ cs i hi,hz _ (List.getElem_mem hi)⟩
def okL (r:List Int × Int)(w:World)(e:Ending)(w':World):Prop :=
 ∃A cc,e=.returned (.tuple #[.slice A r.1.length cc,.int .i64 r.2])∧qJ w' A r.1∧Below w.heap.size w w'∧(∀b o,A=some ⟨b,o,none⟩→w.heap.size≤b∧b<w'.heap.size)∧r.1.length≤cc
theorem eY {c:Int}{w w':World}(h:Below w.heap.size w w'):okL ([],c) w (.returned (.tuple #[.slice none 0 0,.int .i64 c])) w' :=
 ⟨none,0,rfl,qJ.nil _ _,h,(fun _ _ h=>by cases h),Nat.le_refl _⟩
theorem qjc(n:Int)(h0:0≤n)(h:n≤1024)(W:World):(Instr.makeSlice 57 (.int .i64 n) (.int .i64 n)).run prog W=.ok (.slice (some ⟨W.heap.size,0,none⟩) n.toNat n.toNat) (W.alloc (.cells (zB (List.replicate n.toNat 0)) 3)):=by
 obtain⟨i0,hi,hz0,hz1,hz2⟩:=info_parts wy;have hmk:=run_make (P:=prog) W 57 3 i0 (.int .i64 0) underlying57 hi hz0 .i64 .i64 n n h0 (Int.le_refl _) (by rw[hz2];omega) (by omega);rw[hz1]at hmk;rw[← pq];simpa[Value.cells]using hmk
def qqx:Prop:=∀(A:Option Addr) (c:Nat) (uR:List (List Int)) (n:Int) (w:World),eL w A uR→uR.length≤9223372036854775807→qC n →
 Calls prog 102 #[.slice A uR.length c,.int .i64 n] w (okL (yI uR n) w)
def qyK:Prop:=∀(A:Option Addr) (c:Nat) (cs:List Int) (n:Int) (w:World),qJ w A cs→cs.length*8≤140737488355328→qC n →
 Calls prog 104 #[.slice A cs.length c,.int .i64 n] w (okL (yY cs n) w)
def okI (r:Int)(w:World)(e:Ending)(w':World):Prop:=e=.returned (.int .i64 r)∧Below w.heap.size w w'
def qyL:Prop:=∀(A:Option Addr) (c:Nat) (cs:List Int) (w:World),qJ w A cs→cs.length≤9223372036854775807 →
 Calls prog 162 #[.slice A cs.length c] w (okI (yg cs:Int) w)
theorem qJ.some{w:World}{A:Option Addr}{cs:List Int}(h:qJ w A cs)(h0:0<cs.length):∃b o,A=some ⟨b,o,none⟩∧b<w.heap.size:=by
 obtain⟨b,o,h1,h2,_⟩:=h 0 h0;exact⟨b,o,h1,h2⟩
end Go.Proofs.YtdagdllomphidaaGreatDoor.sp
namespace Go.Proofs.YtdagdllomphidaaGreatDoor.sp
open _root_.Go.Proofs.Tryz Go Go.RowKit Go.Shelf ib
attribute [local go_sem] Oper.semAt_some
abbrev I64:={ x:Int // qC x }
abbrev Plain(L:List (List I64)):List (List Int):=L.map fun l=>l.map fun x=>x.1
theorem qmT:∀(uR:List (List Int)),(∀l∈uR,∀z∈l,qC z)→∃L,Plain L=uR
 | [],_=>⟨[],rfl⟩
 | l::r,h=>by
  obtain⟨L,hL⟩:=qmT r (fun l' hl'=>h l' (List.mem_cons_of_mem _ hl'));obtain⟨l',hl'⟩:∃l':List I64,l'.map (fun x=>x.1)=l:=⟨l.attachWith qC (h l (by simp)),by simp[List.attachWith,List.map_pmap]⟩;refine⟨l'::L,?_⟩;show l'.map (fun x=>x.1)::Plain L=_;rw[hL,hl']
theorem pw {α:Type}(uR:List (List α))(k:Nat)(h:k<uR.length):(uR.take (k+1)).flatten=(uR.take k).flatten++uR[k]:=by
 rw[List.take_succ_eq_append_getElem h,List.flatten_append];simp
theorem qmU{α:Type}(uR:List (List α))(k:Nat)(h:k<uR.length):(uR.take k).flatten++uR[k] <+: uR.flatten:=by
 rw[← pw uR k h];refine⟨(uR.drop (k+1)).flatten,?_⟩;rw[← List.flatten_append,List.take_append_drop]
theorem qje{α:Type}(uR:List (List α))(k:Nat)(h:k<uR.length)(j:Nat)(hj:j<uR[k].length):(uR.take k).flatten++uR[k].take j++[uR[k][j]] <+: uR.flatten:=by
 refine List.IsPrefix.trans ?_ (qmU uR k h);rw[List.append_assoc,← List.take_succ_eq_append_getElem hj];exact(List.prefix_append_right_inj _).2 (List.take_prefix _ _)
def qmD (n₀:Nat)(L:List (List I64))(J:List I64→World→Prop)(W:World)(i:Value)(wr:World):Prop :=
 ∃k:Nat,k≤L.length∧i=.int .i64 (k:Int)∧J (L.take k).flatten wr∧Below n₀ W wr
def qu8 (n₀:Nat)(pre l:List I64)(J:List I64→World→Prop)(W:World)(i:Value)(wr:World):Prop :=
 ∃j:Nat,j≤l.length∧i=.int .i64 (j:Int)∧J (pre++l.take j) wr∧Below n₀ W wr
theorem qfA(F:Fence)(nn:Nat)(hF:F.fn 199)(hro:F.round=none)(hn:1≤nn)(l Bs:Nat)(A:Option Addr)(c:Nat)(L:List (List I64))(w0:World)(J Jx:List I64→World→Prop)
    (hA:eL w0 A (Plain L)) (hL:L.length≤9223372036854775807)
    (hY:∀pre x W,J pre W→pre.length<L.flatten.length→YieldAt F (nn-1) prog l #[.int .i64 x.1] W fun e W' =>
     (e=.returned (.bool true)∧J (pre++[x]) W'∧Below w0.heap.size W W')∨(e=.returned (.bool false)∧Jx (pre++[x]) W'))
    (W:World) (hb:Below w0.heap.size w0 W) (hBs:W.cell? ⟨Bs,0,none⟩=some (.slice A L.length c)) (h0:J [] W) :
    CallsIn F nn prog 199 #[.func (.yield l) #[] #[],.pointer (some ⟨Bs,0,none⟩)] W fun e W'=>(∃v,e=.returned v) ∧
     ((∃ys,ys=L.flatten∧J ys W')∨(∃pre,pre <+: L.flatten∧Jx pre W')):=by
 have HA:=QH hA;have HY:=QH hY;have HB:=QH hb;have HJ:=QH h0;clear hA hY hb h0;refine callsIn_of_wp func199 rfl hF ?_ hro;simp only[ntmps199,List.size_toArray,List.length_cons,List.length_nil,Nat.reduceAdd,Nat.reduceSub,Array.replicate_succ,Array.replicate_zero,List.push_toArray,List.append_toArray,List.nil_append,List.cons_append]
 gi_wp2
 gi_loopw [9] (fun i wr=>qmD w0.heap.size L J W i wr) (fun i _=>L.length-(intOf i).toNat)
 case atStart=>exact⟨0,Nat.zero_le _,rfl,HJ.out,Below.refl _ _⟩
 case round =>
  obtain⟨k,hk,rfl,hj,hkb⟩:=hrel;have HJK:=QH hj;have HKB:=QH hkb;clear hj hkb HJ;by_cases hlt:k<L.length
  ·have quL:(k:Int)<(L.length:Int):=by omega
   have hft:=pw L k hlt;have hpr:=qje L k hlt;obtain⟨b,o,A1,c1,rfl,hbl,hc,hz,hzl⟩:=HA.out k (by rw[List.length_map];exact hlt);have ec:wr.cell? ⟨b,o+k,none⟩=some (.slice A1 ((Plain L)[k]'(by rw[List.length_map];exact hlt)).length c1):=by
    rw[HKB.out.cell (p:=⟨b,o+k,none⟩) hbl,HB.out.cell (p:=⟨b,o+k,none⟩) hbl];exact hc
   have lb:b<wr.heap.size:=Nat.lt_of_lt_of_le hbl (Nat.le_trans HB.out.size HKB.out.size);have HFT:=QH hft;have HPR:=QH hpr;have HZ:=QH hz;clear hft hpr hz hc;have hpk:(Plain L)[k]'(by rw[List.length_map];exact hlt)=L[k].map (fun x=>x.1):=List.getElem_map _;rw[hpk]at ec HZ hzl;rw[List.length_map]at ec hzl;clear hpk;generalize hzs:L[k]=zs at *;clear hzs
   gi_wp2
   gi_loopw [15] (fun i wr=>qu8 w0.heap.size (L.take k).flatten zs J W i wr) (fun i _=>zs.length-(intOf i).toNat)
   case atStart=>exact⟨0,Nat.zero_le _,rfl,by rw[List.take_zero,List.append_nil];exact HJK.out,HKB.out⟩
   case round =>
    clear HJK HKB ec lb;obtain⟨j,hjl,rfl,hj,hkb⟩:=hrel;have HJK:=QH hj;have HKB:=QH hkb;clear hj hkb;by_cases hjt:j<zs.length
    ·have q4y:(j:Int)<(zs.length:Int):=by omega
     obtain⟨b1,o1,rfl,eZ,hc1,hz1⟩:=HZ.out j (by rw[List.length_map];exact hjt);rw[List.getElem_map]at hc1 hz1;have e1:wr.cell? ⟨b1,o1+j,none⟩=some (.int .i64 zs[j].1):=by
      rw[HKB.out.cell (p:=⟨b1,o1+j,none⟩) eZ,HB.out.cell (p:=⟨b1,o1+j,none⟩) eZ];exact hc1
     have l1:b1<wr.heap.size:=Nat.lt_of_lt_of_le eZ (Nat.le_trans HB.out.size HKB.out.size);have hp:=HPR.out j hjt;have aV:zs.take (j+1)=zs.take j++[zs[j]]:=List.take_succ_eq_append_getElem hjt;have gI:=hp.length_le;rw[List.length_append]at gI;obtain⟨fn,tmps,assign,body,hy,hR⟩:=HY.out _ zs[j] wr HJK.out (by simp only[List.length_cons,List.length_nil]at gI;omega);have HP:=QH hp;have mn:=QH aV;have HR:=QH hR;clear hp aV hR hc1 hz1 gI;generalize zs[j]=x at *
     gi_wp2
     refine HR.out.mono ?_;rintro e W3 (⟨rfl,hJ3,hk3⟩|⟨rfl,hJx3⟩)
     ·have HJ3:=QH hJ3;have ie:=QH (HKB.out.trans hk3);clear hJ3 hk3 HR
      gi_wp2
      refine⟨⟨j+1,by omega,by go_num,by rw[mn.out,← List.append_assoc];exact HJ3.out,ie.out⟩,?_⟩;simp[intOf];omega
     ·gi_wp2
      refine bodyPost_ret (results_none rfl _ _ _) rfl ?_;exact⟨⟨_,rfl⟩,.inr ⟨_,HP.out,hJx3⟩⟩
    ·have q4y:¬ (j:Int)<(zs.length:Int):=by omega
     have hj:=HJK.out;rw[List.take_of_length_le (l:=zs) (by omega),← HFT.out]at hj;have HJ2:=QH hj;clear hj
     gi_wp2
     refine⟨⟨k+1,by omega,by go_num,HJ2.out,HKB.out⟩,?_⟩;simp[intOf];omega
  ·have quL:¬ (k:Int)<(L.length:Int):=by omega
   have hj:=HJK.out;rw[List.take_of_length_le (by omega)]at hj;have HJ2:=QH hj;clear hj
   gi_wp2
   go_end0
   exact⟨⟨_,rfl⟩,.inl HJ2.out⟩
theorem qjf(F:Fence)(n:Nat)(hF:F.fn 161)(hro:F.round=none)(a:Option Addr)(len cap:Nat)(w:World) :
    CallsIn F n prog 161 #[.slice a len cap] w fun e w'=>e=.returned (.func (.func 199) #[] #[.pointer (some ⟨w.heap.size,0,none⟩)])∧w'=w.alloc (.cells #[.slice a len cap] 175):=by
 refine callsIn_of_wp func161 rfl hF ?_ hro;simp only[ntmps161,List.size_toArray,List.length_cons,List.length_nil,Nat.reduceAdd,Nat.reduceSub,Array.replicate_succ,Array.replicate_zero,List.push_toArray,List.append_toArray,List.nil_append,List.cons_append]
 gi_wp2
 go_ret;exact⟨rfl,rfl⟩
theorem qaU(F:Fence)(nn:Nat)(hF:F.fn 199)(hro:F.round=none)(hn:1≤nn)(Bs:Nat)(A:Option Addr)(c:Nat)(L:List (List I64))(w0 w:World)
    (hA:eL w0 A (Plain L)) (hL:L.length≤9223372036854775807) (hb:Below w0.heap.size w0 w) (hBs:qf w Bs 175 #[.slice A L.length c]) :
    SeqStopsK F nn prog 199 #[.pointer (some ⟨Bs,0,none⟩)] (fun x:I64=>#[.int .i64 x.1]) (Below w0.heap.size) (fun ys=>ys=L.flatten) (fun pre=>pre <+: L.flatten) L.flatten.length w:=fun l J Jx W hW _ _ hY h0 =>
 qfA F nn hF hro hn l Bs A c L w0 J Jx hA hL hY W (qc hb hW) ((hBs.below hW).cell 0) h0
end Go.Proofs.YtdagdllomphidaaGreatDoor.sp
namespace Go.Proofs.YtdagdllomphidaaGreatDoor.sp
open _root_.Go.Proofs.Tryz Go Go.RowKit ib
structure kL(w0 w:World)(B0 B1:Nat)(A:Option Addr)(c:Nat)(cs:List Int)(k:Nat):Prop where
 box:qf w B0 57 #[.slice A cs.length c]
 at_:qf w B1 3 #[.int .i64 (k:Int)]
 low:w0.heap.size≤B0
 lt:B0<B1
 k1:193≤k
 k2:k≤cs.length∨k=193
 below:Below w0.heap.size w0 w
def qmV (B0 B1:Nat):Value:=.func (.func 200) #[] #[.pointer (some ⟨B1,0,none⟩),.pointer (some ⟨B0,0,none⟩)]
def qcU (w0:World)(B0 B1:Nat)(A:Option Addr)(c:Nat)(cs:List Int)(k:Nat)(w:World)(e:Ending)(w':World):Prop :=
 qx (fun j=>j=B1) w w' ∧
 ((∃t:Nat,t<cs.length∧qR cs (t+1)=qR cs k++[(t:Int)]∧e=.returned (.tuple #[.int .i64 (t:Int),.bool true])∧kL w0 w' B0 B1 A c cs (t+1)) ∨
  (yg cs=(qR cs k).length∧e=.returned (.tuple #[.int .i64 0,.bool false])))
def cellOf (w:World)(B:Nat):Nat:=match w.cell? ⟨B,0,none⟩with
 | some (.int _ z)=>z.toNat
 | _=>0
theorem tB {w:World}{B k:Nat}{t:TypeId}(h:qf w B t #[.int .i64 (k:Int)]):cellOf w B=k:=by
 unfold cellOf;rw[h.cell 0];simp
theorem kL.move{w0 w w':World}{B0 B1:Nat}{A:Option Addr}{c:Nat}{cs:List Int}{k k':Nat}(h:kL w0 w B0 B1 A c cs k)(hb:qx (fun j=>j=B1) w w')(ha:qf w' B1 3 #[.int .i64 (k':Int)])(h1:193≤k')(h2:k'≤cs.length∨k'=193):kL w0 w' B0 B1 A c cs k' :=
 ⟨h.box.of_block (hb.block _ h.box.lt (Nat.ne_of_lt h.lt)),ha,h.low,h.lt,h1,h2,(h.below).trans (hb.below (fun i e=>by rw[e];have:=h.low;have:=h.lt;omega) h.below.size)⟩
def qqz (w0 w:World)(B0 B1:Nat)(A:Option Addr)(c:Nat)(cs:List Int)(k:Nat)(wr:World):Prop :=
 ∃j:Nat,kL w0 wr B0 B1 A c cs j∧qR cs j=qR cs k∧qx (fun i=>i=B1) w wr
theorem qjg{cs:List Int}{k:Nat}(h:k≤cs.length∨k=193)(he:cs.length≤k):yg cs=(qR cs k).length:=by
 rcases h with h|h
 ·rw[show k=cs.length by omega];rfl
 ·unfold yg;rw[h,yJ cs 193 (by omega),yJ cs cs.length (by omega)]
theorem jJ {w0 w:World}{B0 B1:Nat}{A:Option Addr}{c:Nat}{cs:List Int}{k:Nat}(h:kL w0 w B0 B1 A c cs k)(hA:qJ w0 A cs)(hl:cs.length≤9223372036854775807) :
    Calls prog 200 #[.pointer (some ⟨B1,0,none⟩),.pointer (some ⟨B0,0,none⟩)] w (qcU w0 B0 B1 A c cs k w):=by
 have HF:=QH h;have HA:=QH hA;clear h hA;go_enter func200,ntmps200;go_wp2_with fail;go_loopw [] (fun wr=>qqz w0 w B0 B1 A c cs k wr) (fun wr=>cs.length-cellOf wr B1);case atStart=>exact⟨k,HF.out,rfl,qx.refl _ _⟩
 case round =>
  obtain⟨j,hf,hfr,hb⟩:=hrel;have HFR:=QH hfr;have HB:=QH hb;have HFJ:=QH hf;have q0:wr.cell? ⟨B0,0,none⟩=some (.slice A cs.length c):=hf.box.cell 0;have q1:wr.cell? ⟨B1,0,none⟩=some (.int .i64 (j:Int)):=hf.at_.cell 0;have l0:=hf.box.lt;have l1:=hf.at_.lt;have f1:=hf.at_.frozen 0;have hne:=Nat.ne_of_lt hf.lt;have zJ:=hf.k1;have hk2:=hf.k2;clear hf hfr hb HF;by_cases hlt:j<cs.length
  ·obtain⟨b,o,rfl,hbl,hc,hz⟩:=HA.out j hlt;have qm9:(j:Int)<(cs.length:Int):=by omega
   have hg:cs.getD j 0=cs[j]:=by simp[List.getD,hlt]
   have hs:=bH cs j;rw[hg]at hs;have HS:=QH hs;have ec:wr.cell? ⟨b,o+j,none⟩=some (.int .i64 cs[j]):=by rw[HFJ.out.below.cell (p:=⟨b,o+j,none⟩) hbl];exact hc
   have lb:b<B0:=Nat.lt_of_lt_of_le hbl HFJ.out.low;have yu:Hid (qf (wr.setCell ⟨B1,0,none⟩ (.int .i64 (((j+1:Nat)):Int))) B1 3 #[.int .i64 ((j+1:Nat):Int)]):=by
    have h:=HFJ.out.at_.qo 0 (.int .i64 ((j+1:Nat):Int));exact h
   have hbb:Hid (qx (fun i=>i=B1) w (wr.setCell ⟨B1,0,none⟩ (.int .i64 (((j+1:Nat)):Int)))):=HB.out.setCell ⟨B1,0,none⟩ _ (.inl rfl);have hbj:Hid (qx (fun i=>i=B1) wr (wr.setCell ⟨B1,0,none⟩ (.int .i64 (((j+1:Nat)):Int)))):=(qx.refl _ _).setCell ⟨B1,0,none⟩ _ (.inl rfl);have ej:((j+1:Nat):Int)=(j:Int)+1:=by omega
   rw[ej]at yu hbb hbj;clear hs hg hc hz;generalize cs[j]=x at *;by_cases hx:x=0
   ·subst hx;have hs:=HS.out;rw[if_pos ⟨zJ,rfl⟩]at hs;have ur:=QH hs;clear hs;go_wp2_with fail;go_ret2;exact⟨hbb.out,.inl ⟨j,hlt,by rw[ur.out,HFR.out],rfl,HFJ.out.move hbj.out (by rw[ej];exact yu.out) (by omega) (by omega)⟩⟩
   ·have hxb:(x == 0)=false:=by simpa using hx
    have hs:=HS.out;rw[if_neg (fun h=>hx h.2),List.append_nil]at hs;have ur:=QH hs;have hm:Hid (cellOf wr B1=j):=tB HFJ.out.at_;have hm2:Hid (cellOf (wr.setCell ⟨B1,0,none⟩ (.int .i64 ((j:Int)+1))) B1=j+1):=by
     refine tB (t:=3) ?_;rw[ej];exact yu.out
    clear hs;go_wp2_with fail;refine⟨⟨j+1,HFJ.out.move hbj.out (by rw[ej];exact yu.out) (by omega) (by omega),by rw[ur.out,HFR.out],hbb.out⟩,?_⟩;rw[hm.out,hm2.out];omega
  ·have qm9:¬ (j:Int)<(cs.length:Int):=by omega
   have HD:=QH (qjg hk2 (show cs.length≤j by omega));go_wp2_with fail;go_ret2;exact⟨HB.out,.inr ⟨by rw[HD.out,HFR.out],rfl⟩⟩
theorem px (A:Option Addr)(c:Nat)(cs:List Int)(w0 w:World)(hb:Below w0.heap.size w0 w) :
    Calls prog 163 #[.slice A cs.length c] w fun e w'=>e=.returned (qmV w.heap.size (w.heap.size+1))∧kL w0 w' w.heap.size (w.heap.size+1) A c cs 193∧Below w.heap.size w w':=by
 go_enter func163,ntmps163;go_wp2_with fail;go_ret;have h0:qf (w.alloc (.cells #[.slice A cs.length c] 57)) w.heap.size 57 #[.slice A cs.length c]:=qf.new _ _ _;have h1:qf ((w.alloc (.cells #[.slice A cs.length c] 57)).alloc (.cells #[.int .i64 193] 3)) (w.alloc (.cells #[.slice A cs.length c] 57)).heap.size 3 #[.int .i64 ((193:Nat):Int)]:=qf.new _ _ _;have b1:=((Below.refl w.heap.size w).alloc (Nat.le_refl _) (.cells #[.slice A cs.length c] 57)).alloc (by simp) (.cells #[.int .i64 193] 3);rw[World.size_alloc]at h1;exact⟨rfl,⟨h0.of_block (Below.heap_alloc _ _ _ h0.lt),h1,hb.size,by omega,by omega,.inr rfl,qc hb b1⟩,b1⟩
theorem qjh{cs:List Int}{i:Nat}(h:i≤9223372036854775807):∀z∈qR cs i,qC z:=by
 intro z hz;unfold qR at hz;obtain⟨j,hj,rfl⟩:=List.mem_map.1 hz;have:=List.mem_range.1 (List.mem_filter.1 hj).1;unfold qC;omega
def qyN (w:World)(B0 B1:Nat)(A:Option Addr)(c:Nat)(cs:List Int)(n:Nat)(i:Bool)(wr:World):Prop :=
 Below w.heap.size w wr∧((i=true∧∃k,kL w wr B0 B1 A c cs k∧(qR cs k).length=n+1)∨(i=false∧n=yg cs))
def qyO (w:World)(B0 B1:Nat)(A:Option Addr)(c:Nat)(cs:List Int)(v i:Value)(wr:World):Prop :=
 ∃(n:Nat) (b:Bool),v=.int .i64 (n:Int)∧i=.bool b∧qyN w B0 B1 A c cs n b wr
theorem qsw{w W W':World}{B0 B1:Nat}{A:Option Addr}{c:Nat}{cs:List Int}{k:Nat}{e:Ending}(h:kL w W B0 B1 A c cs k)(hp:qcU w B0 B1 A c cs k W e W'):∃(x:Int) (b:Bool),e=.returned (.tuple #[.int .i64 x,.bool b])∧qyN w B0 B1 A c cs (qR cs k).length b W':=by
 obtain⟨hb,⟨t,ht,hf,rfl,hF⟩|⟨hs,rfl⟩⟩:=hp
 ·exact⟨_,_,rfl,hF.below,.inl ⟨rfl,t+1,hF,by rw[hf,List.length_append];rfl⟩⟩
 ·exact⟨_,_,rfl,h.below.trans (hb.below (fun i e=>by rw[e];have:=h.low;have:=h.lt;omega) h.below.size),.inr ⟨rfl,hs.symm⟩⟩
theorem qfB{w w':World}{B0 B1:Nat}{A:Option Addr}{c:Nat}{cs:List Int}{k:Nat}(h:kL w w' B0 B1 A c cs k):(qR cs k).length≤yg cs:=by
 rcases h.k2 with h1|h1
 ·obtain⟨r,hr⟩:=il cs k cs.length h1;unfold yg;rw[hr,List.length_append];omega
 ·rw[h1,yJ cs 193 (by omega)];exact Nat.zero_le _
theorem py (cs:List Int):yg cs≤cs.length:=qiw cs cs.length
theorem qyP:qyL:=by
 intro A c cs w hp hl;have HP:=QH hp;have ry:=QH (px A c cs w w (Below.refl _ _));have hsm:=py cs;clear hp;go_enter func162,ntmps162;go_wp2_with fail;refine ry.out.mono ?_;rintro e W1 ⟨rfl,hf,hb⟩;have HF:=QH hf;clear hf hb ry;unfold qmV;have hl0:=HF.out.low;obtain⟨B0,hB0⟩:=QE w.heap.size;rw[hB0]at HF hl0 ⊢;go_wp2_with fail;refine(jJ HF.out HP.out hl).mono ?_;rintro e W2 hp;obtain⟨x,b,rfl,hs⟩:=qsw HF.out hp;rw[yJ cs 193 (by omega)]at hs;have HS:=QH hs;clear hp hs HF;go_wp2_with fail;go_loopw [3,6] (fun v i wr=>qyO w B0 (B0+1) A c cs v i wr) (fun v _ _=>cs.length-(intOf v).toNat);case atStart=>exact⟨0,b,rfl,rfl,HS.out⟩
 case round =>
  clear HS;obtain⟨n,b,rfl,rfl,hb,h⟩:=hrel;have HB:=QH hb;rcases h with⟨rfl,k,hf,hk⟩|⟨rfl,rfl⟩
  ·have hm:=qfB hf;have HF:=QH hf;have HK:=QH hk;clear hf;go_wp2_with fail;refine(jJ HF.out HP.out hl).mono ?_;rintro e W3 hp;obtain⟨x,b,rfl,hs⟩:=qsw HF.out hp;rw[HK.out]at hs;have HS:=QH hs;clear hp hs HF;go_wp2_with fail;go_roundw;case rel=>exact⟨n+1,b,by go_num,rfl,HS.out⟩
   case measure=>simp[intOf];omega
  ·go_wp2_with fail;go_ret;exact⟨rfl,HB.out⟩
theorem qcV{uR:List (List Int)}{n:Int}(h:kJ n (List.replicate n.toNat 0) uR.flatten=none):yI uR n=([],2):=by
 unfold yI;rw[h];split <;> rfl
theorem qfC{uR:List (List Int)}{n:Int}{cs:List Int}(h0:0≤n)(h1:n≤1024)(h:kJ n (List.replicate n.toNat 0) uR.flatten=some cs):yI uR n=(cs,0):=by
 unfold yI;rw[h,if_neg (by omega)]
theorem qhb{w wr:World}{g c:Nat}{n:Nat}{cs:List Int}{r:List Int × Int}(hk:qf wr g 3 (zB cs))(hb:Below w.heap.size w wr)(hg:w.heap.size≤g)(hn:cs.length=n)(hc:n≤c)(hz:∀z∈cs,qC z)(hr:r=(cs,0)) :
    okL r w (.returned (.tuple #[.slice (some ⟨g,0,none⟩) n c,.int .i64 0])) wr:=by
 subst hr hn;refine⟨_,c,rfl,qf.ints hk hz,hb,fun b o h=>?_,hc⟩;simp only[Option.some.injEq,Addr.mk.injEq,and_true]at h;rw[← h.1];exact⟨hg,hk.lt⟩
theorem qcW(n:Int)(h0:0≤n)(h:n*8≤140737488355328)(W:World):(Instr.makeSlice 57 (.int .i64 n) (.int .i64 n)).run prog W=.ok (.slice (some ⟨W.heap.size,0,none⟩) n.toNat n.toNat) (W.alloc (.cells (zB (List.replicate n.toNat 0)) 3)):=by
 obtain⟨i0,hi,hz0,hz1,hz2⟩:=info_parts wy;have hmk:=run_make (P:=prog) W 57 3 i0 (.int .i64 0) underlying57 hi hz0 .i64 .i64 n n h0 (Int.le_refl _) (by rw[hz2];omega) (by omega);rw[hz1]at hmk;rw[← pq];simpa[Value.cells]using hmk
def qyQ (w W:World)(g B0 B1:Nat)(A:Option Addr)(c:Nat)(cs:List Int)(m:Nat)(v:Value)(wr:World):Prop :=
 ∃(n k:Nat),n≤m∧v=.int .i64 (n:Int)∧kL W wr B0 B1 A c cs k∧(qR cs k).length=n∧qf wr g 3 (zB (qR cs k++List.replicate (m-n) 0))∧Below w.heap.size w wr
theorem qq0{cs:List Int}{k m:Nat}(h:(qR cs k).length=m)(hk:k≤cs.length∨k=193):(qR cs cs.length).take m=qR cs k:=by
 rcases hk with h1|h1
 ·obtain⟨r,hr⟩:=il cs k cs.length h1;rw[hr,← h,List.take_left]
 ·rw[h1,yJ cs 193 (by omega)]at h;rw[h1,yJ cs 193 (by omega),← h];rfl
theorem nM (l:List Int)(r:Nat)(x:Int):(l++List.replicate (r+1) 0).set l.length x=(l++[x])++List.replicate r 0:=by
 rw[List.set_append_right _ _ (Nat.le_refl _),Nat.sub_self,List.replicate_succ,List.append_assoc];rfl
theorem qyR:qyK:=by
 intro A c cs n w hp hl hn;have HP:=QH hp;have hsm:=py cs;obtain⟨res,hres⟩:=QE (yY cs n);rw[hres];unfold yY at hres;by_cases h0:n<0
 ·rw[if_pos h0]at hres;subst hres;clear hp;go_enter func104,ntmps104;go_wp2_with fail;go_ret2;exact eY (Below.refl _ _)
 rw[if_neg h0]at hres;have HF:=QH (qyP A c cs w hp (by omega));obtain⟨fr,hfr⟩:=QE (yg cs);have HFR:=QH hfr;rw[hfr]at HF hres hsm;clear hfr hp;by_cases h1:(fr:Int)<n
 ·rw[if_pos h1]at hres;subst hres;go_enter func104,ntmps104;go_wp2_with fail;refine HF.out.mono ?_;rintro e W ⟨rfl,hb⟩;go_wp2_with fail;go_ret2;exact eY hb
 rw[if_neg h1]at hres;have hmk:=qcW n (by omega) (by omega);obtain⟨m,rfl⟩:=Int.eq_ofNat_of_zero_le (show 0≤n by omega);rw[Int.toNat_natCast]at hmk hres;have xr:=QH hres;have HMK:=QH hmk;clear hres hmk;go_enter func104,ntmps104;go_wp2_with fail;refine HF.out.mono ?_;rintro e W ⟨rfl,hb⟩;have HB:=QH hb;have HPW:=QH (HP.out.below hb);clear hb HF;have hmk:=HMK.out;go_wp2_with fail;clear hmk;have hkb:qf (W.alloc (.cells (zB (List.replicate m 0)) 3)) W.heap.size 3 (zB (List.replicate m 0)):=qf.new _ _ _;have hb2:=(Below.refl W.heap.size W).alloc (Nat.le_refl _) (.cells (zB (List.replicate m 0)) 3);have hsz:(W.alloc (.cells (zB (List.replicate m 0)) 3)).heap.size=W.heap.size+1:=by simp
 obtain⟨W1,hW1⟩:=QE (W.alloc (.cells (zB (List.replicate m 0)) 3));rw[hW1]at hkb hb2 hsz ⊢;obtain⟨g,hg⟩:=QE W.heap.size;rw[hg]at hkb hb2 hsz ⊢;have HG:=QH hg;have HK:=QH hkb;have qP:=QH (qc HB.out (by rw[hg];exact hb2));have HP1:=HPW;have rB:=px A c cs W W1 (by rw[hg];exact hb2);rw[hsz]at rB;have HWS:Hid (w.heap.size≤W.heap.size):=HB.out.size;have qyS:Hid (w.heap.size≤g):=by rw[← hg];exact HB.out.size
 clear hkb hb2 hW1 hg HB HPW HMK;refine rB.mono ?_;clear rB;rintro e W2 ⟨rfl,hf,hb⟩;have HF:=QH hf;have jR:=QH (HK.out.below (by rw[hsz];exact hb));have qy:=QH (qc qP.out (by rw[hsz];exact hb));have fU:=QH hsz;clear hf hb HK qP hsz;unfold qmV;go_wp2_with fail;go_loopw [21] (fun v wr=>qyQ w W g (g+1) (g+1+1) A c cs m v wr) (fun v _=>m-(intOf v).toNat);case atStart=>exact⟨0,193,Nat.zero_le _,rfl,HF.out,by rw[yJ cs 193 (by omega)];rfl,by rw[yJ cs 193 (by omega)];exact jR.out,qy.out⟩
 case round =>
  clear HF jR qy;obtain⟨n,k,hnm,rfl,hf,gD,hk,hb⟩:=hrel;have HF:=QH hf;have HFL:=QH gD;have HK:=QH hk;have HB:=QH hb;have hk2:=hf.k2;clear hf gD hk hb;by_cases hlt:n<m
  ·have quL:(n:Int)<(m:Int):=by omega
   go_wp2_with fail;refine(jJ HF.out HP1.out (by omega)).mono ?_;rintro e W3 ⟨hb3,⟨t,ht,hft,rfl,hf3⟩|⟨hs,_⟩⟩
   ·have hk3:=HK.out.of_block (hb3.block g HK.out.lt (by omega));have bu:=hk3.qo n (.int .i64 (t:Int));have hlo:=HF.out.low;have hbl:Below w.heap.size w W3:=HB.out.trans (hb3.below (fun i e=>by rw[e];have:=qyS.out;omega) HB.out.size);have ru:qx (fun j=>j=g) W3 (W3.setCell ⟨g,n,none⟩ (.int .i64 (t:Int))):=(qx.refl _ _).setCell ⟨g,n,none⟩ _ (.inl rfl);have hcl:W3.cell? ⟨g,n,none⟩=some (.int .i64 0):=by
     rw[hk3.cell n,aJ _ n (by rw[List.length_append,List.length_replicate,HFL.out];omega),List.getElem_append_right (by rw[HFL.out];exact Nat.le_refl _)];simp
    have gF:=hk3.lt;have hfz:=hk3.frozen n;rw[po,show m-n=m-(n+1)+1 by omega]at bu;have hfo:=nM (qR cs k) (m-(n+1)) (t:Int);rw[HFL.out]at hfo;rw[hfo,← hft]at bu;have hf4:kL W (W3.setCell ⟨g,n,none⟩ (.int .i64 (t:Int))) (g+1) (g+1+1) A c cs (t+1) :=
     ⟨hf3.box.of_block (ru.block _ hf3.box.lt (by omega)),hf3.at_.of_block (ru.block _ hf3.at_.lt (by omega)),hf3.low,hf3.lt,hf3.k1,hf3.k2,hf3.below.trans (ru.below (fun i e=>by rw[e,HG.out];exact Nat.le_refl _) hf3.below.size)⟩
    have qyT:(qR cs (t+1)).length=n+1:=by rw[hft,List.length_append,HFL.out];rfl
    have hb4:Below w.heap.size w (W3.setCell ⟨g,n,none⟩ (.int .i64 (t:Int))):=hbl.trans (ru.below (fun i e=>by rw[e];exact qyS.out) hbl.size);have lx:=QH bu;have HF4:=QH hf4;have q41:=QH qyT;have zO:=QH hb4;clear bu hf4 qyT hb4 hk3 hbl ru hfo hft hb3 hf3;go_wp2_with fail;go_roundw;case rel=>exact⟨n+1,t+1,by omega,by go_num,HF4.out,q41.out,lx.out,zO.out⟩
    case measure=>simp[intOf];omega
   ·exact absurd hs (by rw[HFR.out,HFL.out];omega)
  ·have quL:¬ (n:Int)<(m:Int):=by omega
   have qq1:n=m:=by omega
   have uV:=HK.out;rw[qq1,Nat.sub_self,List.replicate_zero,List.append_nil]at uV;have HKE:=QH uV;have aV:=qq0 (HFL.out.trans qq1) hk2;have hr:res=(qR cs k,0):=by rw[← xr.out,aV]
   have HR:=QH hr;have HZ:=QH (qjh (cs:=cs) (i:=k) (by omega));have aM:=QH (HFL.out.trans qq1);clear uV aV hr qq1;go_wp2_with fail;go_ret2;exact qhb HKE.out HB.out (by rw[← HG.out];exact HWS.out) aM.out (Nat.le_refl _) HZ.out HR.out
theorem vE {fn:Func}{p u:Tmp}{ty uy:TypeId}(h:fn.results = #[.cell p ty,.cell u uy])(tmps:Array Value)(P:Program)(w:World)(a b:Addr)(v1 v2:Value)
    (hp:tmps.getD p undef=.pointer (some a)) (hu:tmps.getD u undef=.pointer (some b)) (h1:(loadVar ty a).run P w=.ok v1 w) (h2:(loadVar uy b).run P w=.ok v2 w) :
    (results fn tmps).run P w=.ok (.tuple #[v1,v2]) w:=by
 simp only[results,h];simp only[Array.getD_eq_getD_getElem?]at hp hu;simp[Sem.run_bind,Result.andThen,asAddr,hp,hu,h1,h2]
theorem iL (w:World):(isAgg 57).run prog w=.ok false w:=by kernel_rfl
theorem iM (w:World):(isAgg 30).run prog w=.ok false w:=by kernel_rfl
theorem wj {t:TypeId}{w:World}(ha:(isAgg t).run prog w=.ok false w){a:Addr}{v:Value}(hc:w.cell? a=some v):(loadVar t a).run prog w=.ok v w:=by
 unfold loadVar;rw[Sem.run_bind,ha];simp[Result.andThen,hc]
end Go.Proofs.YtdagdllomphidaaGreatDoor.sp
namespace Go.Proofs.YtdagdllomphidaaGreatDoor.sp
open _root_.Go.Proofs.Tryz Go Go.RowKit Go.Shelf ib
attribute [local go_sem] Oper.semAt_some
theorem qaV{S:Nat→Prop}{w w':World}{row:Option Nat}(h:w.grownBy w' row)(hs:∀k,row=some k→S k):qx S w w' :=
 ⟨h.os,h.tape,h.output,h.size,fun k hk hn=>h.block k hk (fun e=>hn (hs k e.symm))⟩
theorem vL {S:Nat→Prop}{a w w':World}{row:Option Nat}(h:qx S a w)(hg:w.grownBy w' row)(hs:∀k,row=some k→S k∨a.heap.size≤k):qx S a w' :=
 h.trans (S':=fun k=>row=some k) (qaV hg (fun _ e=>e)) hs
structure qmW(w W:World)(n e:Int):Prop where
 num:qf W w.heap.size 3 #[.int .i64 n]
 one:qf W (w.heap.size+1) 57 #[.slice none 0 0]
 two:qf W (w.heap.size+1+1) 30 #[.int .i64 e]
 below:Below w.heap.size w W
 size:W.heap.size=w.heap.size+1+1+1
theorem three(w:World)(n e:Int):qmW w (((w.alloc (.cells #[.int .i64 n] 3)).alloc (.cells #[.slice none 0 0] 57)).alloc (.cells #[.int .i64 e] 30)) n e:=by
 have s1:(w.alloc (.cells #[.int .i64 n] 3)).heap.size=w.heap.size+1:=by simp
 have s2:((w.alloc (.cells #[.int .i64 n] 3)).alloc (.cells #[.slice none 0 0] 57)).heap.size=w.heap.size+1+1:=by simp
 have k1:=qf.new w 3 #[.int .i64 n];have k2:=qf.new (w.alloc (.cells #[.int .i64 n] 3)) 57 #[.slice none 0 0];have k3:=qf.new ((w.alloc (.cells #[.int .i64 n] 3)).alloc (.cells #[.slice none 0 0] 57)) 30 #[.int .i64 e];refine⟨(k1.of_block (Below.heap_alloc _ _ _ k1.lt)).of_block (Below.heap_alloc _ _ _ ?_),?_,?_,?_,by simp⟩
 ·rw[s2];omega
 ·rw[← s1];exact k2.of_block (Below.heap_alloc _ _ _ k2.lt)
 ·rw[← s2];exact k3
 ·exact(((Below.refl w.heap.size w).alloc (Nat.le_refl _) _).alloc (by simp) _).alloc (by simp;omega) _
theorem qhc{fn:Func}{w W:World}{n e:Int}(h:qmW w W n e)(hf:fn.results = #[.cell 4 57,.cell 5 30])(tmps:Array Value)
    (h4:tmps.getD 4 undef=.pointer (some ⟨w.heap.size+1,0,none⟩)) (h5:tmps.getD 5 undef=.pointer (some ⟨w.heap.size+1+1,0,none⟩)) :
    (results fn tmps).run prog W=.ok (.tuple #[.slice none 0 0,.int .i64 e]) W :=
 vE hf _ _ _ _ _ _ _ h4 h5 (wj (iL _) (h.one.cell 0)) (wj (iM _) (h.two.cell 0))
structure Six(w W:World)(m:Nat)(A:Option Addr)(l c:Nat):Prop where
 num:qf W w.heap.size 3 #[.int .i64 (m:Int)]
 one:qf W (w.heap.size+1) 57 #[.slice none 0 0]
 two:qf W (w.heap.size+1+1) 30 #[.int .i64 0]
 cnt:qf W (w.heap.size+1+1+1) 3 (zB (List.replicate m 0))
 box:qf W (w.heap.size+1+1+1+1) 57 #[.slice (some ⟨w.heap.size+1+1+1,0,none⟩) m m]
 ims:qf W (w.heap.size+1+1+1+1+1) 175 #[.slice A l c]
 below:Below w.heap.size w W
 size:W.heap.size=w.heap.size+1+1+1+1+1+1
theorem six{w W0:World}{m:Nat}(h:qmW w W0 m 0)(A:Option Addr)(l c:Nat) :
    Six w (((W0.alloc (.cells (zB (List.replicate m 0)) 3)).alloc (.cells #[.slice (some ⟨w.heap.size+1+1+1,0,none⟩) m m] 57)).alloc (.cells #[.slice A l c] 175)) m A l c:=by
 obtain⟨h1,h2,h3,h4,h5⟩:=h;have k4:=qf.new W0 3 (zB (List.replicate m 0));have b4:=(Below.refl W0.heap.size W0).alloc (Nat.le_refl _) (.cells (zB (List.replicate m 0)) 3);have s4:(W0.alloc (.cells (zB (List.replicate m 0)) 3)).heap.size=w.heap.size+1+1+1+1:=by simp[h5]
 generalize W0.alloc (.cells (zB (List.replicate m 0)) 3)=W4 at *;have k5:=qf.new W4 57 #[.slice (some ⟨w.heap.size+1+1+1,0,none⟩) m m];have b5:=(Below.refl W4.heap.size W4).alloc (Nat.le_refl _) (.cells #[.slice (some ⟨w.heap.size+1+1+1,0,none⟩) m m] 57);have s5:(W4.alloc (.cells #[.slice (some ⟨w.heap.size+1+1+1,0,none⟩) m m] 57)).heap.size=w.heap.size+1+1+1+1+1:=by simp[s4]
 generalize W4.alloc (.cells #[.slice (some ⟨w.heap.size+1+1+1,0,none⟩) m m] 57)=W5 at *;have k6:=qf.new W5 175 #[.slice A l c];have b6:=(Below.refl W5.heap.size W5).alloc (Nat.le_refl _) (.cells #[.slice A l c] 175);have s6:(W5.alloc (.cells #[.slice A l c] 175)).heap.size=w.heap.size+1+1+1+1+1+1:=by simp[s5]
 generalize W5.alloc (.cells #[.slice A l c] 175)=W6 at *;rw[h5]at k4;rw[s4]at k5;rw[s5]at k6;exact⟨((h1.below b4).below b5).below b6,((h2.below b4).below b5).below b6,((h3.below b4).below b5).below b6,(k4.below b5).below b6,k5.below b6,k6,qc (qc (qc h4 b4) b5) b6,s6⟩
def CI (m:Nat)(g:Nat)(W0:World)(pre:List I64)(W:World):Prop :=
 ∃cs,kJ (m:Int) (List.replicate m 0) (pre.map fun x=>x.1)=some cs∧qf W g 3 (zB cs)∧qx (fun k=>k=g) W0 W
def CX (m:Nat)(g b:Nat)(W0:World)(c:Code)(pre:List I64)(W:World):Prop :=
 c=.ret∧kJ (m:Int) (List.replicate m 0) (pre.map fun x=>x.1)=none∧qf W b 57 #[.slice none 0 0]∧qf W (b+1) 30 #[.int .i64 2]∧qx (fun k=>k=g∨k=b∨k=b+1) W0 W
theorem pz (L:List (List I64)):(Plain L).flatten=L.flatten.map fun x=>x.1:=by
 rw[List.map_flatten]
theorem qq2:qqx:=by
 intro A c uR n w hp hl hn;have HP:=QH hp;obtain⟨res,hres⟩:=QE (yI uR n);rw[hres];by_cases h0:n<0
 ·have hr:res=([],2):=by rw[← hres];unfold yI;rw[if_pos (.inl h0)]
  subst hr;clear hp hres;refine(callsIn_wide (n:=9)).1 (callsIn_of_wp_marks func102 rfl trivial ?_ rfl);refine wpIn_wide.2 ?_;simp only[ntmps102,List.size_toArray,List.length_cons,List.length_nil,Nat.reduceAdd,Nat.reduceSub,Array.replicate_succ,Array.replicate_zero,List.push_toArray,List.append_toArray,List.nil_append,List.cons_append];go_wp2_with fail;exact⟨_,qhc (three w n 2) rfl _ rfl rfl,eY (three w n 2).below⟩
 by_cases h1:1024<n
 ·have hr:res=([],2):=by rw[← hres];unfold yI;rw[if_pos (.inr h1)]
  subst hr;clear hp hres;refine(callsIn_wide (n:=9)).1 (callsIn_of_wp_marks func102 rfl trivial ?_ rfl);refine wpIn_wide.2 ?_;simp only[ntmps102,List.size_toArray,List.length_cons,List.length_nil,Nat.reduceAdd,Nat.reduceSub,Array.replicate_succ,Array.replicate_zero,List.push_toArray,List.append_toArray,List.nil_append,List.cons_append];go_wp2_with fail;exact⟨_,qhc (three w n 2) rfl _ rfl rfl,eY (three w n 2).below⟩
 have hmk:=qjc n (by omega) (by omega);obtain⟨m,rfl⟩:=Int.eq_ofNat_of_zero_le (show 0≤n by omega);rw[Int.toNat_natCast]at hmk;have hm:m≤1024:=by omega
 have xr:=QH hres;obtain⟨L,rfl⟩:=qmT uR (fun l hl' z hz=>by
  obtain⟨i,hi,rfl⟩:=List.getElem_of_mem hl';obtain⟨_,_,_,_,_,_,_,h5,_⟩:=hp i hi;exact h5.mem z hz)
 have HT:=QH (three w m 0);rw[List.length_map]at hl ⊢;clear hp hres;refine(callsIn_wide (n:=9)).1 (callsIn_of_wp_marks func102 rfl trivial ?_ rfl);refine wpIn_wide.2 ?_;simp only[ntmps102,List.size_toArray,List.length_cons,List.length_nil,Nat.reduceAdd,Nat.reduceSub,Array.replicate_succ,Array.replicate_zero,List.push_toArray,List.append_toArray,List.nil_append,List.cons_append];go_wp2_with fail;clear hmk;obtain⟨W0,hW0⟩:=QE (((w.alloc (.cells #[.int .i64 (m:Int)] 3)).alloc (.cells #[.slice none 0 0] 57)).alloc (.cells #[.int .i64 0] 30));rw[hW0]at HT ⊢;clear hW0;refine(callsIn_wide (n:=9).1 (qjf Fence.wide 9 trivial rfl _ _ _ _)).mono ?_;rintro e w' ⟨rfl,rfl⟩;have qyU:((W0.alloc (.cells (zB (List.replicate m 0)) 3)).alloc (.cells #[.slice (some ⟨w.heap.size+1+1+1,0,none⟩) m m] 57)).heap.size=w.heap.size+1+1+1+1+1:=by simp[HT.out.size]
 rw[qyU];have H6:=QH (six HT.out A L.length c);clear qyU;obtain⟨W2,hW2⟩:=QE (((W0.alloc (.cells (zB (List.replicate m 0)) 3)).alloc (.cells #[.slice (some ⟨w.heap.size+1+1+1,0,none⟩) m m] 57)).alloc (.cells #[.slice A L.length c] 175));rw[hW2]at H6 ⊢;clear hW2 HT;obtain⟨q,hq⟩:=QE w.heap.size;obtain⟨d1,d2,d3,d4,d5,d6,d7,d8⟩:=H6.out;rw[hq]at d1 d2 d3 d4 d5 d6 d8 ⊢;have HQ:=QH hq;have HST:=QH (qaU Fence.wide 8 trivial rfl (by decide) (q+1+1+1+1+1) A c L w W2 HP.out hl d7 d6);clear hq;go_wp2_with fail;refine wpIn_wide.1 (wpIn_rangeFunc_ownF (F:=Fence.wide) (n:=9) rfl (by decide) (gf:=199) (lb:=#[.pointer (some ⟨q+1+1+1+1+1,0,none⟩)]) rfl trivial (enters_of func199 (by kernel_rfl) rfl) HST.out
  belowK_t (belowK_b d7.size) (Below.refl _ _) (fun _=>rfl)
  (CI m (q+1+1+1) W2) (CX m (q+1+1+1) (q+1) W2) ?hI ?hIx ⟨_,rfl,d4,qx.refl _ _⟩
  (fun x=>{ tmps:=#[.slice A L.length c,.int .i64 (m:Int),undef,.pointer (some ⟨q,0,none⟩),.pointer (some ⟨q+1,0,none⟩),.pointer (some ⟨q+1+1,0,none⟩),.pointer (some ⟨q+1+1+1+1,0,none⟩),.int .i64 x.1,.int .i64 (m:Int),.bool false,.bool false,.int .i64 (m:Int),.bool false,.bool false,.int .i64 (m:Int),.slice (some ⟨q+1+1+1,0,none⟩) m m,.slice A L.length c,.func (.func 199) #[] #[.pointer (some ⟨q+1+1+1+1+1,0,none⟩)],.int .i64 x.1,undef,undef,undef,undef,undef,undef,undef,undef,undef,undef,undef,undef,undef,undef,undef,undef,undef,undef],defers:=[] })
  ?assign ?body ?done ?stop)
 case hI =>
  intro pre W W' row ⟨cs,h1,h2,h3⟩ hg hr;refine⟨cs,h1,h2.of_block (hg.block _ h2.lt (fun e=>?_)),vL h3 hg (fun k e=>.inr (hr k e).1)⟩;have:=(hr _ e.symm).1;omega
 case hIx =>
  intro cc pre W W' row ⟨h0,h1,h2,h2',h3⟩ hg hr;refine⟨h0,h1,h2.of_block (hg.block _ h2.lt (fun e=>?_)),h2'.of_block (hg.block _ h2'.lt (fun e=>?_)),vL h3 hg (fun k e=>.inr (hr k e).1)⟩;all_goals
   have:=(hr _ e.symm).1;omega
 case assign =>
  intro l x W K hK
  gi_wp2
  exact hK
 case body =>
  rintro l pre x W ⟨cs,hcs,yu,ya⟩ _;have hsz:=ya.size;have e1:qf W q 3 _:=d1.of_block (ya.block _ d1.lt (by omega));have e2:qf W (q+1) 57 _:=d2.of_block (ya.block _ d2.lt (by omega));have e3:qf W (q+1+1) 30 _:=d3.of_block (ya.block _ d3.lt (by omega));have e5:qf W (q+1+1+1+1) 57 _:=d5.of_block (ya.block _ d5.lt (by omega));have xV:∀cs',kJ (m:Int) (List.replicate m 0) ((pre++[x]).map fun x=>x.1)=some cs'→∀W',qf W' (q+1+1+1) 3 (zB cs')→qx (fun k=>k=q+1+1+1) W W'→CI m (q+1+1+1) W2 (pre++[x]) W' :=
   fun cs' h1 W' h2 h3=>⟨cs',h1,h2,ya.trans h3 (fun i e=>.inl e)⟩
  have hbl:∀W',qx (fun k=>k=q+1+1+1) W W'→Below w.heap.size W W':=fun W' h=>h.below (fun i e=>by rw[e,HQ.out];omega) (by rw[HQ.out];omega);have hsn:=qiu hcs x.1;rw[show pre.map (fun x=>x.1)++[x.1]=(pre++[x]).map (fun x=>x.1)by simp]at hsn;have kn:W.cell? ⟨q,0,none⟩=some (.int .i64 (m:Int)):=e1.cell 0;have kb:W.cell? ⟨q+1+1+1+1,0,none⟩=some (.slice (some ⟨q+1+1+1,0,none⟩) m m):=e5.cell 0;have ko:W.cell? ⟨q+1,0,none⟩=some (.slice none 0 0):=e2.cell 0;have kt:W.cell? ⟨q+1+1,0,none⟩=some (.int .i64 0):=e3.cell 0;have ln:=e1.lt;have lo:=e2.lt;have lt:=e3.lt;have lb:=e5.lt;have fo:=e2.frozen 0;have ft:=e3.frozen 0;have HPO:=QH xV;have HBL:=QH hbl;have kI:=QH hsn;have yD:=QH yu;have quM:=QH ya;have HCS:=QH hcs;have E2:=QH e2;have E3:=QH e3;have zaJ:=x.2;clear xV hbl hsn yu ya hcs e1 e2 e3 e5 hsz d1 d2 d3 d4 d5 d6 d7 d8;generalize x.1=y at *;by_cases hy0:y=0
  ·subst hy0;have hs:=kI.out;rw[if_pos rfl]at hs;have ur:=QH hs;clear hs
   gi_wp2
   exact⟨KeepsOthers.refl _,Below.refl _ _,HPO.out _ ur.out _ yD.out (qx.refl _ _)⟩
  ·have zaK:(y == 0)=false:=by simpa using hy0
   by_cases uu:y<193∨(m:Int)≤y
   ·have hs:=kI.out;rw[if_neg hy0,if_pos uu]at hs;have ur:=QH hs;clear hs;have qkO:Hid (KeepsOthers W ((W.setCell ⟨q+1,0,none⟩ (.slice none 0 0)).setCell ⟨q+1+1,0,none⟩ (.int .i64 2))∧CX m (q+1+1+1) (q+1) W2 .ret (pre++[x]) ((W.setCell ⟨q+1,0,none⟩ (.slice none 0 0)).setCell ⟨q+1+1,0,none⟩ (.int .i64 2))):=by
     have b1:qx (fun k=>k=q+1) W (W.setCell ⟨q+1,0,none⟩ (.slice none 0 0)):=(qx.refl _ _).setCell ⟨q+1,0,none⟩ _ (.inl rfl);have b2:qx (fun k=>k=q+1+1) (W.setCell ⟨q+1,0,none⟩ (.slice none 0 0)) ((W.setCell ⟨q+1,0,none⟩ (.slice none 0 0)).setCell ⟨q+1+1,0,none⟩ (.int .i64 2)):=(qx.refl _ _).setCell ⟨q+1+1,0,none⟩ _ (.inl rfl);have k1:=E2.out.qo 0 (.slice none 0 0);have k2:=(E3.out.of_block (b1.block _ E3.out.lt (by omega))).qo 0 (.int .i64 2);refine⟨(KeepsOthers.setCell _ _ _).trans (KeepsOthers.setCell _ _ _),rfl,ur.out,k1.of_block (b2.block _ k1.lt (by omega)),k2,?_⟩;have b3:qx (fun k=>k=q+1∨k=q+1+1) W _:=(b1.mono (S':=fun k=>k=q+1∨k=q+1+1) (fun i e=>.inl e)).trans b2 (fun i e=>.inl (.inr e));exact(quM.out.mono (S':=fun k=>k=q+1+1+1∨k=q+1∨k=q+1+1) (fun i e=>.inl e)).trans b3 (fun i e=>.inl (.inr e))
    by_cases xK:y<193
    ·gi_wp2
     exact qkO.out
    ·have hge:(m:Int)≤y:=by omega
     gi_wp2
     exact qkO.out
   ·have hs:=kI.out;rw[if_neg hy0,if_neg uu]at hs;have xK:¬ y<193:=fun h=>uu (.inl h);have hge:¬ (m:Int)≤y:=fun h=>uu (.inr h);obtain⟨t,rfl⟩:=Int.eq_ofNat_of_zero_le (show 0≤y by omega);rw[Int.toNat_natCast]at hs;have htm:t<m:=by omega
    have hti:(t:Int)<(m:Int):=by omega
    have hcl:cs.length=m:=by rw[eE HCS.out,List.length_replicate]
    have htd:t<cs.length:=by rw[hcl];exact htm
    have q42:=QH hs;have hq':=yD.out.cell t;rw[aJ cs t htd]at hq';have hfz:=yD.out.frozen t;have gF:=yD.out.lt;have hgd:cs.getD t 0=cs[t]:=by simp[List.getD,htd]
    have bu:=po cs t (wrap64 (cs[t]+1));have quP:=yD.out.qo t (.int .i64 (wrap64 (cs[t]+1)));rw[bu,← hgd]at quP;have qyV:Hid (qf (W.setCell ⟨q+1+1+1,t,none⟩ (.int .i64 (wrap64 (cs.getD t 0+1)))) (q+1+1+1) 3 (zB (bump cs t))):=quP;have qy:Hid (qx (fun k=>k=q+1+1+1) W (W.setCell ⟨q+1+1+1,t,none⟩ (.int .i64 (wrap64 (cs.getD t 0+1))))):=(qx.refl _ _).setCell ⟨q+1+1+1,t,none⟩ _ (.inl rfl);rw[hgd]at qyV qy;have hv:=eX HCS.out (tA _) cs[t] (List.getElem_mem htd);unfold qC at hv;clear hs hgd bu quP hcl;generalize cs[t]=v at *
    gi_wp2
    exact⟨KeepsOthers.setCell _ _ _,HBL.out _ qy.out,HPO.out _ q42.out _ qyV.out qy.out⟩
 case stop =>
  rintro D cc pre W hD hpre ⟨rfl,hx,h1,h2,h3⟩ hK;have hr:res=([],2):=by
   rw[← xr.out];refine qcV ?_;obtain⟨r,hr⟩:=hpre;rw[pz,← hr,List.map_append];exact qiv hx _
  subst hr
  gi_wp2
  refine⟨by simp,.inl ⟨_,_,rfl,run_takeDeferred hK,?_⟩⟩;have p1:qf (W.putObj D (.deferred none)) (q+1) 57 _:=h1.of_block (World.putObj_heap_other (by omega));have p2:qf (W.putObj D (.deferred none)) (q+1+1) 30 _:=h2.of_block (World.putObj_heap_other (by omega));have hb1:Below w.heap.size w W:=d7.trans (h3.below (fun i e=>by rw[HQ.out];omega) d7.size);have hb2:Below w.heap.size w (W.putObj D (.deferred none)):=hb1.grown (grownBy_putObj' W D _) hb1.size (fun k e=>by cases e;rw[HQ.out];omega);exact⟨_,vE rfl _ _ _ ⟨q+1,0,none⟩ ⟨q+1+1,0,none⟩ _ _ rfl rfl (wj (iL _) (p1.cell 0)) (wj (iM _) (p2.cell 0)),eY hb2⟩
 case done =>
  rintro D ys W hD rfl ⟨cs,hcs,yu,ya⟩ hK;have hr:res=(cs,0):=by
   rw[← xr.out];refine qfC (by omega) (by omega) ?_;rw[pz,Int.toNat_natCast];exact hcs
  have hcl:cs.length=m:=by rw[eE hcs,List.length_replicate]
  have hz:=eX hcs (tA _);have hsz:=ya.size;have e2:qf W (q+1) 57 _:=d2.of_block (ya.block _ d2.lt (by omega));have e3:qf W (q+1+1) 30 _:=d3.of_block (ya.block _ d3.lt (by omega));have e5:qf W (q+1+1+1+1) 57 _:=d5.of_block (ya.block _ d5.lt (by omega));have hb1:Below w.heap.size w W:=d7.trans (ya.below (fun i e=>by rw[e,HQ.out];omega) d7.size);have kb:W.cell? ⟨q+1+1+1+1,0,none⟩=some (.slice (some ⟨q+1+1+1,0,none⟩) m m):=e5.cell 0;have ko:W.cell? ⟨q+1,0,none⟩=some (.slice none 0 0):=e2.cell 0;have kt:W.cell? ⟨q+1+1,0,none⟩=some (.int .i64 0):=e3.cell 0;have lo:=e2.lt;have lt:=e3.lt;have lb:=e5.lt;have fo:=e2.frozen 0;have ft:=e3.frozen 0;have HR:=QH hr;have aO:=QH hcl;have HZ:=QH hz;have E2:=QH e2;have E3:=QH e3;have yD:=QH yu;have qP:=QH hb1;have HK:=QH hK;clear hr hcl hz hsz e2 e3 e5 yu hb1 hcs ya hK d1 d2 d3 d4 d5 d6 d7;go_wp2_with fail;have b1:qx (fun k=>k=q+1) W (W.setCell ⟨q+1,0,none⟩ (.slice (some ⟨q+1+1+1,0,none⟩) m m)):=(qx.refl _ _).setCell ⟨q+1,0,none⟩ _ (.inl rfl);have b2:qx (fun k=>k=q+1+1) (W.setCell ⟨q+1,0,none⟩ (.slice (some ⟨q+1+1+1,0,none⟩) m m)) ((W.setCell ⟨q+1,0,none⟩ (.slice (some ⟨q+1+1+1,0,none⟩) m m)).setCell ⟨q+1+1,0,none⟩ (.int .i64 0)):=(qx.refl _ _).setCell ⟨q+1+1,0,none⟩ _ (.inl rfl);have k1:=E2.out.qo 0 (.slice (some ⟨q+1+1+1,0,none⟩) m m);have k2:=(E3.out.of_block (b1.block _ E3.out.lt (by omega))).qo 0 (.int .i64 0);have k1':=k1.of_block (b2.block _ k1.lt (by omega));have b3:qx (fun k=>k=q+1∨k=q+1+1) W _:=(b1.mono (S':=fun k=>k=q+1∨k=q+1+1) (fun i e=>.inl e)).trans b2 (fun i e=>.inl (.inr e));generalize (W.setCell ⟨q+1,0,none⟩ (.slice (some ⟨q+1+1+1,0,none⟩) m m)).setCell ⟨q+1+1,0,none⟩ (.int .i64 0)=W' at *;have hKD:W'.heap[D]?=some (.deferred (some [])):=(b3.block D (Array.getElem?_eq_some_iff.1 HK.out).1 (by omega)).trans HK.out;refine⟨by simp,.inl ⟨_,_,rfl,run_takeDeferred hKD,?_⟩⟩;have p1:qf (W'.putObj D (.deferred none)) (q+1) 57 _:=k1'.of_block (World.putObj_heap_other (by omega));have p2:qf (W'.putObj D (.deferred none)) (q+1+1) 30 _:=k2.of_block (World.putObj_heap_other (by omega));have p3:qf (W'.putObj D (.deferred none)) (q+1+1+1) 3 _:=(yD.out.of_block (b3.block _ yD.out.lt (by omega))).of_block (World.putObj_heap_other (by omega));have hw1:Below w.heap.size w W':=qP.out.trans (b3.below (fun i e=>by rw[HQ.out];omega) qP.out.size);have hw2:Below w.heap.size w (W'.putObj D (.deferred none)):=hw1.grown (grownBy_putObj' W' D _) hw1.size (fun k e=>by cases e;rw[HQ.out];omega);exact⟨_,vE rfl _ _ _ ⟨q+1,0,none⟩ ⟨q+1+1,0,none⟩ _ _ rfl rfl (wj (iL _) (p1.cell 0)) (wj (iM _) (p2.cell 0)),qhb p3 hw2 (by rw[HQ.out];omega) aO.out (Nat.le_refl _) HZ.out HR.out⟩
end Go.Proofs.YtdagdllomphidaaGreatDoor.sp
namespace Go.Proofs.YtdagdllomphidaaGreatDoor.vt.pg
open _root_.Go.Proofs.Tryz Go Go.RowKit Go.Sort ib mt im sp
abbrev Pl:=Int × Int × Bt
theorem quQ:(prog.info? 171).map (fun i=>(i.zero,i.size,i.bytes))=some (some (.agg #[.int .i64 0,.int .i64 0,.string ByteArray.empty]),3,32):=by kernel_rfl
def yN:List Pl→List Value
 | []=>[]
 | x::r=>.int .i64 x.1 :: .int .i64 x.2.1 :: .string (str x.2.2)::yN r
theorem bg:∀(l r:List Pl),yN (l++r)=yN l++yN r
 | [],_=>rfl
 | x::l,r=>by simp[yN,bg l r]
theorem pA:∀l:List Pl,(yN l).length=l.length*3
 | []=>rfl
 | x::l=>by simp[yN,pA l];omega
theorem pB:∀(l:List Pl) (i:Nat) (h:i<l.length),(yN l)[i*3]?=some (.int .i64 l[i].1)∧(yN l)[i*3+1]?=some (.int .i64 l[i].2.1)∧(yN l)[i*3+2]?=some (.string (str l[i].2.2))
 | x::l,0,_=>⟨rfl,rfl,rfl⟩
 | x::l,i+1,h=>by
  have:=pB l i (by simpa using h);rw[show(i+1)*3=i*3+1+1+1 from by omega];exact this
theorem pC:∀(l:List Pl) (k:Nat) (h:k<l.length) (a:Int),(yN l).set (k*3+1) (.int .i64 a)=yN (l.set k (l[k].1,a,l[k].2.2))
 | y::l,0,_,a=>rfl
 | y::l,k+1,hk,a=>by
  have ih:=pC l k (by simpa using hk) a;rw[show(k+1)*3+1=k*3+1+1+1+1 by omega];simp only[yN,List.set_cons_succ];exact congrArg _ (congrArg _ (congrArg _ ih))
def OPl (w:World)(B:Nat)(v:Value)(l:List Pl):Prop:=w.ownsRow B 171 3 v l.length (yN l)
def PlL (w:World)(A:Option Addr)(l:List Pl):Prop:=∀i (h:i<l.length),∃b o,A=some ⟨b,o,none⟩∧b<w.heap.size∧w.cell? ⟨b,o+i*3,none⟩=some (.int .i64 l[i].1)∧w.cell? ⟨b,o+i*3+1,none⟩=some (.int .i64 l[i].2.1)∧w.cell? ⟨b,o+i*3+2,none⟩=some (.string (str l[i].2.2))
theorem PlL.below{w w':World}{A:Option Addr}{l:List Pl}(h:PlL w A l)(hb:Below w.heap.size w w'):PlL w' A l:=by
 intro i hi;obtain⟨b,o,h1,h2,h3,h4,h5⟩:=h i hi;exact⟨b,o,h1,Nat.lt_of_lt_of_le h2 hb.size,(hb.cell (p:=⟨b,o+i*3,none⟩) h2).trans h3,(hb.cell (p:=⟨b,o+i*3+1,none⟩) h2).trans h4,(hb.cell (p:=⟨b,o+i*3+2,none⟩) h2).trans h5⟩
theorem OPl.view{w:World}{B:Nat}{v:Value}{l:List Pl}(h:OPl w B v l):∃a c,v=.slice a l.length c∧PlL w a l:=by
 rcases h.2 with⟨rfl,h0⟩|⟨g,cap,cur,rfl,hg,hh,hcc,hm,hcs,xI⟩
 ·obtain rfl:l=[]:=List.length_eq_zero_iff.1 h0;exact⟨none,0,rfl,fun i h=>by simp at h⟩
 ·refine⟨some ⟨g,0,none⟩,cap,rfl,fun i hi=>?_⟩;have key:∀(j:Nat) (u:Value),(yN l)[j]?=some u→w.cell? ⟨g,j,none⟩=some u:=by
   intro j u hu;rw[cell_of_row w g j cur 171 (0,0) hh];rw[← xI,List.getElem?_take]at hu;split at hu
   ·simpa using hu
   ·cases hu
  obtain⟨g0,g1,g2⟩:=pB l i hi;exact⟨g,0,rfl,(Array.getElem?_eq_some_iff.1 hh).1,by rw[Nat.zero_add];exact key _ _ g0,by rw[Nat.zero_add];exact key _ _ g1,by rw[Nat.zero_add];exact key _ _ g2⟩
theorem OPl.below{w w':World}{B:Nat}{v:Value}{l:List Pl}(h:OPl w B v l)(hb:Below w.heap.size w w'):OPl w' B v l:=zP h (fun j hj=>hb.block j (h.lt j hj).2)
theorem OPl.set{w:World}{B:Nat}{l:List Pl}{g c n:Nat}(h:OPl w B (.slice (some ⟨g,0,none⟩) n c) l)(k:Nat)(hk:k<l.length)(a:Int) :
    OPl (w.setCell ⟨g,k*3+1,none⟩ (.int .i64 a)) B (.slice (some ⟨g,0,none⟩) n c) (l.set k (l[k].1,a,l[k].2.2))∧w.frozen? ⟨g,k*3+1,none⟩=false∧B≤g∧g<w.heap.size:=by
 rcases h.2 with⟨e,h0⟩|⟨g',cap,cur,e,hg,hh,hcc,hm,hcs,xI⟩
 ·cases e
 ·simp only[Value.slice.injEq,Option.some.injEq,Addr.mk.injEq,and_true]at e;obtain⟨rfl,rfl,rfl⟩:=e;have uV:qf w g 171 cur:=hh;have lB:(l.set k (l[k].1,a,l[k].2.2)).length=l.length:=by rw[List.length_set]
  refine⟨⟨by rw[pA],.inr ⟨g,c,_,by rw[lB],hg,uV.qo (k*3+1) (.int .i64 a),by rw[lB];exact hcc,hm,by simpa using hcs,?_⟩⟩,uV.frozen _,hg,uV.lt⟩;rw[lB,Array.toList_setIfInBounds,List.take_set,xI];exact pC l k hk a
def PL (x:List (Int × Bt))(at_:List Int):List Pl:=List.zipWith (fun c a=>(c.1,a,c.2)) x at_
def P0 (x:List (Int × Bt)):List Pl:=x.map fun c=>(c.1,0,c.2)
theorem qji{x:List (Int × Bt)}{k:Nat}(h:k<x.length):full (x.take (k+1))=full (x.take k)+if x[k].2=zb then 0 else 1:=by
 unfold full;rw[List.take_succ_eq_append_getElem h,List.filter_append,List.length_append]
 congr 1
 by_cases e:x[k].2=zb <;> simp[e]
def pD (P:List Pl):List Wr:=P.filterMap fun p=>if p.2.1=0 then none else some (p.2.1,p.2.2)
theorem iN:∀(x:List (Int × Bt)) (fr:List Int),(∀f∈fr,f≠0)→full x≤fr.length→pD (PL x (qd fr x).1)=(qd fr x).2
 | [],fr,_,_=>by simp[qd,PL,pD]
 | (k,s)::r,fr,hf,h=>by
  rw[vW]at h;by_cases hs:s=zb
  ·rw[if_pos hs]at h;have ih:=iN r fr hf (by omega);have e:qd fr ((k,s)::r)=(0::(qd fr r).1,(qd fr r).2):=by
    cases fr <;> simp[qd,hs]
   rw[e];simpa[PL,pD]using ih
  ·rw[if_neg hs]at h;cases fr with
   | nil=>simp at h
   | cons f fr =>
    have ih:=iN r fr (fun z hz=>hf z (by simp[hz])) (by simp at h;omega);have hf0:=hf f (by simp);have e:qd (f::fr) ((k,s)::r)=(f::(qd fr r).1,(f,s)::(qd fr r).2):=by
     simp[qd,hs]
    rw[e];simpa[PL,pD,hf0]using ih
def PlR (x:List (Int × Bt))(w:World)(v f i:Value)(wr:World):Prop :=
 ∃k:Nat,k≤x.length∧i=.int .i64 (k:Int)∧f=.int .i64 ((full (x.take k):Nat):Int)∧OPl wr w.heap.size v (P0 (x.take k))∧Below w.heap.size w wr
def PcG (v pd N:Nat)(T:Value)(n1 n2:Nat)(ims:List (List Int))(cs:List Int):Nat→Value→World→Prop
 | 0,u,_=>u=pt v
 | 1,u,_=>u=pt v
 | 2,u,_=>u=pt v
 | 3,u,_=>u=T
 | 4,u,W=>∃A c,u=.slice A n1 c∧eL W A ims
 | 5,u,_=>u=pt v
 | 6,u,_=>u=pt v
 | 7,u,_=>u=.pointer (some ⟨v,9,none⟩)
 | 8,u,_=>u=pt pd
 | 9,u,_=>u=.int .i64 (N:Int)
 | 10,u,W=>∃A c,u=.tuple #[.slice A n2 c,.int .i64 0]∧ib.qJ W A cs
 | 11,u,W=>∃A c,u=.tuple #[.slice A n2 c,.int .i64 0]∧ib.qJ W A cs
 | 12,u,W=>∃A c,u=.slice A n2 c∧ib.qJ W A cs
 | 13,u,_=>u=.int .i64 0
 | 14,u,W=>∃A c,u=.slice A n2 c∧ib.qJ W A cs
 | 15,u,_=>u=.int .i64 0
 | _,_,_=>True
theorem qmX(v pd N:Nat)(T:Value)(n1 n2:Nat)(ims:List (List Int))(cs:List Int)(i:Nat)(u:Value)(w w':World)(hi:i<16)(h:PcG v pd N T n1 n2 ims cs i u w)(hb:Below w.heap.size w w'):PcG v pd N T n1 n2 ims cs i u w':=by
 match i,hi,h with
 | 0,_,h | 1,_,h | 2,_,h | 3,_,h | 5,_,h | 6,_,h | 7,_,h | 8,_,h | 9,_,h | 13,_,h | 15,_,h=>exact h
 | 4,_,⟨A,c,h1,h2⟩=>exact⟨A,c,h1,h2.below hb⟩
 | 10,_,⟨A,c,h1,h2⟩ | 11,_,⟨A,c,h1,h2⟩ | 12,_,⟨A,c,h1,h2⟩ | 14,_,⟨A,c,h1,h2⟩=>exact⟨A,c,h1,h2.below hb⟩
 | j+16,hi,_=>exact absurd hi (by omega)
def qhd (r:(List Int × List Wr) × Int)(x:List (Int × Bt))(w:World)(e:Ending)(w':World):Prop:=Below w.heap.size w w'∧((r.2≠0∧e=.returned (.tuple #[.slice none 0 0,.int .i64 r.2]))∨(r.2=0∧∃v,e=.returned (.tuple #[v,.int .i64 0])∧OPl w' w.heap.size v (PL x r.1.1)))
end Go.Proofs.YtdagdllomphidaaGreatDoor.vt.pg
namespace Go.Proofs.YtdagdllomphidaaGreatDoor.im
open _root_.Go.Proofs.Tryz Go Go.RowKit ib
def okO (r:List Int)(w:World)(e:Ending)(w':World):Prop:=∃v,e=.returned v∧zv w' w.heap.size v r∧Below w.heap.size w w'
theorem qmY{w:World}{ad:Addr}{zs:List Int}(h:qJ w (some ad) zs)(m:Nat):∀(j:Nat) (u:Value),((zs.take m).map (Value.int .i64))[j]?=some u→w.cell? (ad.add j)=some u:=by
 intro j u hu;rw[List.getElem?_map]at hu;cases hz:(zs.take m)[j]? with
 | none=>rw[hz]at hu;cases hu
 | some z =>
  rw[hz]at hu;injection hu with hu
  subst hu;obtain⟨hj,rfl⟩:=List.getElem?_eq_some_iff.1 hz;have hj':j<zs.length:=by simp at hj;omega
  obtain⟨b,o,h1,_,h3,_⟩:=h j hj';injection h1 with h1
  subst h1;rw[addr_add,h3,List.getElem_take]
theorem qmZ(zs:List Int):∀u∈zs.map (Value.int .i64),u.oneCell'=true:=by
 intro u hu;obtain⟨z,_,rfl⟩:=List.mem_map.1 hu;rfl
def qyW:Prop:=∀(A:Option Addr) (c:Nat) (l:List Int) (b s:Int) (w:World),yE w A l c→l.length≤1000→qC b→qC s →
 Calls prog 109 #[.slice A l.length c,.int .i64 b,.int .i64 s] w (qtj (qb9 l b s) w)
theorem qq3(w:World):(w.alloc (.cells #[] 3)).ownsRow w.heap.size 3 1 (.slice (some ⟨w.heap.size,0,none⟩) 0 0) 0 [] :=
 ⟨rfl,.inr ⟨w.heap.size,0,#[],rfl,Nat.le_refl _,heap_alloc_new w _,Nat.le_refl _,by unfold maxLen;omega,rfl,rfl⟩⟩
theorem qna(w:World)(A:Option Addr)(l:List Int)(h:qJ w A l)(h1:1≤l.length):∃b o,A=some ⟨b,o,none⟩:=by
 obtain⟨b,o,h2,_⟩:=h 0 (by omega);exact⟨b,o,h2⟩
theorem iO (A:Option Addr)(c:Nat)(l:List Int)(w:World)(hp:qJ w A l)(hl:l.length≤1000)(h1:1≤l.length) :
    Calls prog 169 #[.slice A l.length c] w (okO l w):=by
 obtain⟨i0,hi,hz0,hz1,hz2⟩:=info_parts wy;obtain⟨b,o,rfl⟩:=qna w A l hp h1;have H0:=QH (qq3 w);have HB:=QH ((Below.refl w.heap.size w).alloc (Nat.le_refl _) (.cells #[] 3));have qsy:=QH (qmY (hp.below ((Below.refl w.heap.size w).alloc (Nat.le_refl _) (.cells #[] 3))) l.length);rw[List.take_length]at qsy;have qq4:=QH (qmZ l);have qn:(binOp .eql 57 (.slice (some ⟨b,o,none⟩) l.length c) (.slice none 0 0)).run prog w=.ok (.bool false) w:=Lib.run_eql_slice_nil w _ _ _ _ _ _ _ underlying57;clear hp;go_enter func169,ntmps169;go_wp2_with (at_builtin;refine wpList_append_own _ rfl (.tmp 5) (.tmp 6) 57 rfl w.heap.size 3 i0 (.int .i64 0) 1 8 underlying57 hi hz0 hz1 hz2 rfl (by decide) _ 0 [] rfl H0.out ⟨b,o,none⟩ l.length c (l.map (Value.int .i64)) rfl (by rw[List.length_map,Nat.mul_one]) qsy.out qq4.out ?_ ?_ HB.out.size ?_)
 ·unfold maxLen;omega
 ·omega
 ·intro v' w1 hown hgrow _;have hb1:=HB.out.grown hgrow HB.out.size (fun j hj=>(H0.out.lt j hj).1);have hos:zv w1 w.heap.size v' l:=hown;have HO:=QH hos;have qP:=QH hb1;clear hown hgrow hb1 hos;go_wp2_with fail;go_ret;exact⟨_,rfl,HO.out,qP.out⟩
theorem qq5{w:World}{B:Nat}{v:Value}{l:List Int}(h:zv w B v l)(k:Nat)(hk:k<l.length)(z:Int) :
    ∃g cap,v=.slice (some ⟨g,0,none⟩) l.length cap∧l.length≤cap∧B≤g∧g<w.heap.size∧(∃u,w.cell? ⟨g,k,none⟩=some u)∧w.frozen? ⟨g,k,none⟩=false∧zv (w.setCell ⟨g,k,none⟩ (.int .i64 z)) B v (l.set k z):=by
 rcases h.2 with⟨_,h0⟩|⟨g,cap,cur,rfl,hg,hh,hcc,hm,hcs,xI⟩
 ·omega
 ·have hb:qf w g 3 cur:=hh;have hsz:k<cur.size:=by omega
  refine⟨g,cap,rfl,hcc,hg,hb.lt,⟨cur[k],by rw[hb.cell k,Array.getElem?_eq_getElem hsz]⟩,hb.frozen k,?_⟩;have hs:=hb.qo k (.int .i64 z);refine⟨by simp,.inr ⟨g,cap,cur.setIfInBounds k (.int .i64 z),by simp,hg,hs,by simpa using hcc,hm,by simpa using hcs,?_⟩⟩;rw[Nat.mul_one]at xI ⊢;rw[List.length_set,Array.toList_setIfInBounds,List.take_set,xI,List.map_set]
theorem qyX:qyW:=by
 intro A c l b s w hs hl hb hn;have HP:=QH hs.ints;have HM:=QH hs.ints.mem;have HB:=QH hb;have HN:=QH hn;obtain⟨res,hres⟩:=QE (qb9 l b s);rw[hres];unfold qb9 at hres;clear hs hb hn;by_cases h0:b<0
 ·rw[if_pos (.inl h0)]at hres;subst hres;go_enter func109,ntmps109;go_wp2_with fail;go_ret2;exact nt (Below.refl _ _)
 by_cases h1:(l.length:Int)≤b
 ·rw[if_pos (.inr (.inl h1))]at hres;subst hres;go_enter func109,ntmps109;go_wp2_with fail;go_ret2;exact nt (Below.refl _ _)
 by_cases h2:s<0
 ·rw[if_pos (.inr (.inr h2))]at hres;subst hres;go_enter func109,ntmps109;go_wp2_with fail;go_ret2;exact nt (Below.refl _ _)
 rw[if_neg (by omega)]at hres;obtain⟨k,rfl⟩:=Int.eq_ofNat_of_zero_le (show 0≤b by omega);rw[Int.toNat_natCast]at hres;have hk:k<l.length:=by omega
 have xr:=QH hres;have HC:=QH (iO A c l w HP.out hl (by omega));clear hres;go_enter func109,ntmps109;go_wp2_with fail;refine HC.out.mono ?_;rintro e W ⟨v,rfl,ho,hw⟩;obtain⟨g,cap,rfl,qkL,hg,gF,⟨u,hu⟩,hf,ho2⟩:=qq5 ho k hk s;have HO:=QH ho2;have HG:=QH hg;have HW:=QH hw;have jD:(k:Int)<(l.length:Int):=by omega
 clear ho ho2 hw;go_wp2_with fail;go_ret2;refine qep HO.out ?_ (HW.out.setCell (p:=⟨g,k,none⟩) HG.out _) xr.out.symm;intro z hz;rcases List.mem_or_eq_of_mem_set hz with h|h
 ·exact HM.out z h
 ·rw[h];exact HN.out
theorem qnb{w w':World}{B:Nat}{v:Value}{l:List Int}(h:zv w B v l)(hk:∀g,v.ownBlock=some g→w'.heap[g]?=w.heap[g]?):zv w' B v l:=by
 refine⟨h.1,?_⟩;rcases h.2 with h0|⟨g,cap,cur,rfl,hg,hh,hcc,hm,hcs,xI⟩
 ·exact .inl h0
 ·exact .inr ⟨g,cap,cur,rfl,hg,(hk g rfl).trans hh,hcc,hm,hcs,xI⟩
theorem ia {w:World}{B:Nat}{v:Value}{l:List Int}(h:zv w B v l)(g:Nat)(hg:v.ownBlock=some g):B≤g∧g<w.heap.size:=by
 rcases h.2 with⟨rfl,_⟩|⟨g',cap,cur,rfl,hg',hh,_⟩
 ·cases hg
 ·injection hg with e
  have e':g'=g:=e;subst e';exact⟨hg',(Array.getElem?_eq_some_iff.1 hh).1⟩
structure qaX(w:World)(U V:List Int)(b:Nat)(v:Value)(r:List Int)(wr:World):Prop where
 one:qf wr b 219 (qh U)
 two:qf wr (b+1) 219 (qh V)
 own:zv wr w.heap.size v r
 apart:v.ownBlock≠some b∧v.ownBlock≠some (b+1)
 below:Below w.heap.size w wr
theorem qaX.drew{w wr:World}{U V:List Int}{b:Nat}{v:Value}{r:List Int}(h:qaX w U V b v r wr)(n:Nat):qaX w U V b v r (wr.drewN n) :=
 ⟨h.one,h.two,h.own,h.apart,qx6 h.below n⟩
theorem qaX.new{w wr:World}{U V:List Int}{b:Nat}{v:Value}{r:List Int}(h:qaX w U V b v r wr)(o:Obj):qaX w U V b v r (wr.alloc o) :=
 ⟨h.one.of_block (Below.heap_alloc _ _ _ h.one.lt),h.two.of_block (Below.heap_alloc _ _ _ h.two.lt),qnb h.own fun g hg=>Below.heap_alloc _ _ _ (ia h.own g hg).2,h.apart,h.below.alloc h.below.size _⟩
theorem qaX.put{w wr w1:World}{U V:List Int}{b:Nat}{v v':Value}{r r':List Int}(h:qaX w U V b v r wr)(ho:zv w1 w.heap.size v' r')(hg:wr.grownBy w1 v.ownBlock)(hw:v'.ownBlock=v.ownBlock∨v'.ownBlock=some wr.heap.size):qaX w U V b v' r' w1:=by
 have l1:=h.one.lt;have l2:=h.two.lt;refine⟨h.one.of_block (hg.block _ l1 fun e=>h.apart.1 e.symm),h.two.of_block (hg.block _ l2 fun e=>h.apart.2 e.symm),ho,?_,h.below.grown hg h.below.size fun k hk=>(ia h.own k hk).1⟩;rcases hw with e|e
 ·rw[e];exact h.apart
 ·rw[e];exact⟨fun e=>by injection e;omega,fun e=>by injection e;omega⟩
end Go.Proofs.YtdagdllomphidaaGreatDoor.im
namespace Go.Proofs
open _root_.Go.Proofs.Tryz Go.Shelf
def Tryz.lV:Go.Shelf.Ren:=⟨fun | 105=>100 | 212=>154 | 99=>155 | 165=>156 | 166=>157 | 170=>158 | 169=>159 | 263=>187 | 264=>188 | 206=>189 | 240=>190 | 241=>191 | 276=>212 | 277=>213|n=>n,fun | 9=>9 | 3=>3 | 4=>4 | 0=>0 | 46=>224 | 109=>225 | 5=>5 | 72=>230 | 76=>233 | 51=>250 | 146=>266 | 53=>35 | 148=>268 | 70=>228 | 37=>118 | 75=>232 | 127=>270 | 164=>291 | 80=>235|n=>n,fun|n=>n⟩
theorem Tryz.qq6:Go.Proofs.Lays.n105 prog Tryz.lV:={
 mixed:=by kernel_rfl
 f99:=func155.trans (congrArg some (by kernel_rfl))
 f105:=func100.trans (congrArg some (by kernel_rfl))
 f165:=func156.trans (congrArg some (by kernel_rfl))
 f166:=func157.trans (congrArg some (by kernel_rfl))
 f169:=func159.trans (congrArg some (by kernel_rfl))
 f170:=func158.trans (congrArg some (by kernel_rfl))
 f206:=func189.trans (congrArg some (by kernel_rfl))
 f212:=func154.trans (congrArg some (by kernel_rfl))
 f240:=func190.trans (congrArg some (by kernel_rfl))
 f241:=func191.trans (congrArg some (by kernel_rfl))
 f263:=func187.trans (congrArg some (by kernel_rfl))
 f264:=func188.trans (congrArg some (by kernel_rfl))
 f276:=func212.trans (congrArg some (by kernel_rfl))
 f277:=func213.trans (congrArg some (by kernel_rfl))
 t0:=underlying0
 a0:=isAgg0
 z0:=sizeOf0
 v0:=zeroValue0
 t3:=underlying3
 a3:=isAgg3
 z3:=sizeOf3
 v3:=zeroValue3
 t4:=underlying4
 a4:=isAgg4
 z4:=sizeOf4
 v4:=zeroValue4
 t5:=underlying5
 a5:=isAgg5
 z5:=sizeOf5
 v5:=zeroValue5
 t9:=underlying9
 a9:=isAgg9
 z9:=sizeOf9
 v9:=zeroValue9
 t20:=underlying20
 a20:=isAgg20
 z20:=sizeOf20
 v20:=zeroValue20
 t37:=underlying118
 a37:=isAgg118
 z37:=sizeOf118
 v37:=zeroValue118
 t46:=underlying224
 a46:=isAgg224
 z46:=sizeOf224
 v46:=zeroValue224
 t51:=underlying250
 a51:=isAgg250
 z51:=sizeOf250
 v51:=zeroValue250
 t53:=underlying35
 a53:=isAgg35
 z53:=sizeOf35
 v53:=zeroValue35
 t70:=underlying228
 a70:=isAgg228
 z70:=sizeOf228
 v70:=zeroValue228
 t72:=underlying230
 a72:=isAgg230
 z72:=sizeOf230
 v72:=zeroValue230
 t75:=underlying232
 a75:=isAgg232
 z75:=sizeOf232
 v75:=zeroValue232
 t76:=underlying233
 a76:=isAgg233
 z76:=sizeOf233
 v76:=zeroValue233
 t109:=underlying225
 a109:=isAgg225
 z109:=sizeOf225
 v109:=zeroValue225
 t127:=underlying270
 a127:=isAgg270
 z127:=sizeOf270
 v127:=zeroValue270
 t146:=underlying266
 a146:=isAgg266
 z146:=sizeOf266
 v146:=zeroValue266
 t148:=underlying268
 a148:=isAgg268
 z148:=sizeOf268
 v148:=zeroValue268
 t164:=underlying291
 a164:=isAgg291
 z164:=sizeOf291
 v164:=zeroValue291 }
theorem Tryz.fg:Builder.Extra prog Tryz.lV:={
 sizeBuilder:=by kernel_rfl
 liesBuilder:=by kernel_rfl
 t5:=underlying5
 a5:=isAgg5
 z5:=sizeOf5
 v5:=zeroValue5
 infoByte:=by kernel_rfl
 cellsByte:=by kernel_rfl
 sizeByte:=by kernel_rfl
 neB5:=by decide }
open Go.RowKit Go.Lib in
theorem Tryz.strings_Repeat(s:ByteArray)(c:Nat)(w:World)(hc:c≤9223372036854775807)(hlen:s.size*c≤140737488355328) :
    Calls prog 100 #[.string s,.int .i64 c] w fun e w'=>e=.returned (.string ⟨(Lib.repeatL s.data.toList c).toArray⟩)∧Below w.heap.size w w':=Any.strings_Repeat Tryz.qq6 Tryz.fg s c w hc hlen
end Go.Proofs
namespace Go.Proofs.YtdagdllomphidaaGreatDoor.ch
open _root_.Go.Proofs.Tryz Go Go.RowKit ib
theorem qfD:(prog.info? 62).map (fun i=>(i.zero,i.size,i.bytes))=some (some (.agg #[.int .i64 0,.string ByteArray.empty]),2,24):=by kernel_rfl
def kM:List (Int × Bt)→List Value
 | []=>[]
 | x::r=>.int .i64 x.1 :: .string (str x.2)::kM r
def wk (w:World)(B:Nat)(v:Value)(l:List (Int × Bt)):Prop:=w.ownsRow B 62 2 v l.length (kM l)
theorem bh:∀(l r:List (Int × Bt)),kM (l++r)=kM l++kM r
 | [],_=>rfl
 | x::l,r=>by simp[kM,bh l r]
theorem pE:∀(l:List (Int × Bt)) (i:Nat) (h:i<l.length),(kM l)[i*2]?=some (.int .i64 l[i].1)∧(kM l)[i*2+1]?=some (.string (str l[i].2))
 | x::l,0,_=>⟨rfl,rfl⟩
 | x::l,i+1,h=>by
  have:=pE l i (by simpa using h);rw[show(i+1)*2=i*2+1+1 from by omega];exact this
theorem wk.view{w:World}{B:Nat}{v:Value}{l:List (Int × Bt)}(h:wk w B v l)(hz:∀x∈l,yS x.1):∃a c,v=.slice a l.length c∧aD w a l:=by
 rcases h.2 with⟨rfl,h0⟩|⟨g,cap,cur,rfl,hg,hh,hcc,hm,hcs,xI⟩
 ·obtain rfl:l=[]:=List.length_eq_zero_iff.1 h0;exact⟨none,0,rfl,fun i h=>by simp at h⟩
 ·refine⟨some ⟨g,0,none⟩,cap,rfl,fun i hi=>?_⟩;have key:∀(j:Nat) (u:Value),(kM l)[j]?=some u→w.cell? ⟨g,j,none⟩=some u:=by
   intro j u hu;rw[cell_of_row w g j cur 62 (0,0) hh];rw[← xI,List.getElem?_take]at hu;split at hu
   ·simpa using hu
   ·cases hu
  obtain⟨g0,g1⟩:=pE l i hi;exact⟨g,0,rfl,(Array.getElem?_eq_some_iff.1 hh).1,by rw[Nat.zero_add];exact key _ _ g0,by rw[Nat.zero_add];exact key _ _ g1,hz _ (List.getElem_mem hi)⟩
theorem qaP(x:Int × Bt):∀u∈([Value.int .i64 x.1,.string (str x.2)]:List Value),u.oneCell'=true:=by
 intro u hu;simp at hu;rcases hu with rfl|rfl <;> rfl
theorem wk.snoc{w1:World}{B:Nat}{v':Value}{l:List (Int × Bt)}{x:Int × Bt}(h:w1.ownsRow B 62 2 v' (l.length+1) (kM l++[.int .i64 x.1,.string (str x.2)])):wk w1 B v' (l++[x]):=by
 unfold wk;rw[List.length_append,bh];exact h
def qyY (l:List (Int × Bt))(w:World)(e:Ending)(w':World):Prop:=∃v,e=.returned v∧wk w' w.heap.size v l∧Below w.heap.size w w'
theorem wk.qcX{w:World}{B:Nat}{v:Value}{l:List (Int × Bt)}(h:wk w B v l)(hz:∀x∈l,yS x.1):∃a c,v=.slice a l.length c∧aD w a l∧∀b o,a=some ⟨b,o,none⟩→B≤b∧b<w.heap.size:=by
 obtain⟨a,c,hv,hl⟩:=h.view hz;refine⟨a,c,hv,hl,fun b o e=>?_⟩;rcases h.2 with⟨rfl,_⟩|⟨g,cap,cur,rfl,hg,hh,_⟩
 ·simp only[Value.slice.injEq]at hv;rw[e]at hv;cases hv.1
 ·simp only[Value.slice.injEq]at hv;rw[e]at hv;obtain⟨h1,_⟩:=hv;simp only[Option.some.injEq,Addr.mk.injEq,and_true]at h1;obtain⟨rfl,_⟩:=h1;exact⟨hg,(Array.getElem?_eq_some_iff.1 hh).1⟩
end Go.Proofs.YtdagdllomphidaaGreatDoor.ch
namespace Go.Proofs.YtdagdllomphidaaGreatDoor.ch.pg
open _root_.Go.Proofs.Tryz Go Go.RowKit ib
theorem vF:prog.follows .mixedOrders=true:=by kernel_rfl
theorem qq7{d:CH}(h:d.ok)(k:Nat):CH.ok ⟨d.live,d.qa.take k⟩:=by
 refine⟨h.live,h.n1,h.n8,fun s hs=>h.qa s (List.mem_of_mem_take hs),?_,fun s hs=>h.fA s (List.mem_of_mem_take hs)⟩;show(d.qa.take k).length≤20;have:=h.few;rw[List.length_take];omega
theorem qhe{d:CH}(h:d.ok){l:List Bt}(hl:qN d.live.length l):CH.ok ⟨l,d.qa⟩:=by
 have hn:l.length=d.live.length:=hl.1;refine⟨?_,?_,?_,fun s hs=>?_,h.few,h.fA⟩
 ·show qN l.length l;rw[hn];exact hl
 ·show 1≤l.length;rw[hn];exact h.n1
 ·show l.length≤8;rw[hn];exact h.n8
 ·show qN l.length s.bs;rw[hn];exact h.qa s hs
theorem qq8{d:CH}(h:d.ok)(i:Nat):CH.ok ⟨d.live,xE d.qa i⟩:=by
 have hm:∀s∈xE d.qa i,∃t∈d.qa,s.bs=t.bs∧s.g=t.g:=by
  intro s hs;unfold xE at hs;obtain⟨j,hj,e⟩:=List.getElem_of_mem hs;rw[List.length_modify]at hj;rw[List.getElem_modify]at e;refine⟨d.qa[j],List.getElem_mem hj,?_⟩;rw[← e];split <;> exact⟨rfl,rfl⟩
 refine⟨h.live,h.n1,h.n8,fun s hs=>?_,?_,fun s hs=>?_⟩
 ·obtain⟨t,ht,h2,_⟩:=hm s hs;rw[h2];exact h.qa t ht
 ·show(xE d.qa i).length≤20;unfold xE;rw[List.length_modify];exact h.few
 ·obtain⟨t,ht,_,h2⟩:=hm s hs;rw[h2];exact h.fA t ht
@[go_sem] theorem qr9 (a b c d:Int) (w:World):(Op.equalIn 10000 55 (.agg #[.int .u64 a,.int .u64 b]) (.agg #[.int .u64 c,.int .u64 d])).run prog w=.ok (a == c&&b == d) w:=by
 have u3:=underlying35;have a3:=isAgg35;have z3:=sizeOf35;rw[show(10000:Nat)=9999+1 from rfl,run_equalIn_agg w 9999 55 _ _ (by kernel_rfl) (by kernel_rfl)];simp only[Program.fieldsOf,underlying55];go_simp;by_cases h1:a=c <;> by_cases h2:b=d <;> simp[h1,h2]
theorem qnc(x y:Gd):((x.1:Int) == (y.1:Int)&&(x.2:Int) == (y.2:Int))=decide (x=y):=by
 obtain⟨a,b⟩:=x;obtain⟨c,d⟩:=y;rw[Bool.eq_iff_iff];simp;omega
def iP (p q:List Bt)(k:Nat):List (Int × Bt):=(List.range k).filterMap fun i=>if q.getD i []=p.getD i []then none else some ((i:Int),q.getD i [])
theorem pF (p q:List Bt)(k:Nat)(h:q.getD k []=p.getD k []):iP p q (k+1)=iP p q k:=by
 unfold iP;rw[List.range_succ,List.filterMap_append,List.filterMap_cons,if_pos h];simp
theorem qcY(p q:List Bt)(k:Nat)(h:¬ q.getD k []=p.getD k []):iP p q (k+1)=iP p q k++[((k:Int),q.getD k [])]:=by
 unfold iP;rw[List.range_succ,List.filterMap_append,List.filterMap_cons,if_neg h];rfl
theorem qaY(p q:List Bt)(k:Nat)(hk:k≤1000):∀x∈iP p q k,yS x.1:=by
 intro x hx;unfold iP at hx;obtain⟨i,hi,h⟩:=List.mem_filterMap.1 hx;have:=List.mem_range.1 hi;split at h
 ·cases h
 ·injection h with h
  subst h;unfold yS;dsimp only;omega
theorem qhf(p q:List Bt)(k:Nat):(iP p q k).length≤k:=by
 unfold iP;have:=List.length_filterMap_le (fun i=>if q.getD i []=p.getD i []then none else some ((i:Int),q.getD i [])) (List.range k);simpa using this
theorem gu {w wr:World}(h:Below w.heap.size w wr)(n:Nat):Below w.heap.size w (wr.drewN n):=⟨h.os,h.tape,h.output,h.size,h.block⟩
theorem qfE:(prog.info? 55).map (fun i=>(i.zero,i.size,i.bytes))=some (some (.agg #[.int .u64 0,.int .u64 0]),2,16):=by kernel_rfl
theorem quR(w:World)(t:TypeId)(v u:Value):∀(j:Nat) (x:Value),([v,u]:List Value)[j]?=some x→(w.alloc (.cells #[v,u] t)).cell? ((⟨w.heap.size,0,none⟩:Addr).add j)=some x:=by
 intro j x hj
 match j,hj with
 | 0,hj =>
  simp at hj;subst hj;rw[addr_add];exact(qf.new w t #[v,u]).cell 0
 | 1,hj =>
  simp at hj;subst hj;rw[addr_add];exact(qf.new w t #[v,u]).cell 1
section
variable {α β:Type} {f:α→List β} {m:Nat}
theorem dV:∀ {l:List α},(∀x∈l,(f x).length=m)→(l.flatMap f).length=l.length*m
 | [],_=>by simp
 | x::l,h=>by
  rw[List.flatMap_cons,List.length_append,dV (l:=l) (fun y hy=>h y (by simp[hy])),h x (by simp),List.length_cons,Nat.succ_mul];omega
theorem qhg(l:List α)(k:Nat)(h:∀x∈l,(f x).length=m):(l.flatMap f).take (k*m)=(l.take k).flatMap f:=by
 by_cases hk:k≤l.length
 ·have e:l.flatMap f=(l.take k).flatMap f++(l.drop k).flatMap f:=by rw[← List.flatMap_append,List.take_append_drop]
  rw[e,List.take_left'];rw[dV (fun x hx=>h x (List.mem_of_mem_take hx)),List.length_take,Nat.min_eq_left hk]
 ·rw[List.take_of_length_le (i:=k) (by omega),List.take_of_length_le];rw[dV h];exact Nat.mul_le_mul_right m (by omega)
theorem qaZ(l:List α)(k:Nat)(h:∀x∈l,(f x).length=m):(l.flatMap f).drop (k*m)=(l.drop k).flatMap f:=by
 by_cases hk:k≤l.length
 ·have e:l.flatMap f=(l.take k).flatMap f++(l.drop k).flatMap f:=by rw[← List.flatMap_append,List.take_append_drop]
  rw[e,List.drop_left'];rw[dV (fun x hx=>h x (List.mem_of_mem_take hx)),List.length_take,Nat.min_eq_left hk]
 ·rw[List.drop_of_length_le (i:=k) (by omega),List.drop_of_length_le]
  ·rfl
  ·rw[dV h];exact Nat.mul_le_mul_right m (by omega)
theorem qba(l:List α)(k:Nat)(hk:k<l.length)(h:∀x∈l,(f x).length=m)(j:Nat)(u:β)(hu:(f l[k])[j]?=some u):(l.flatMap f)[k*m+j]?=some u:=by
 have e:=qaZ l k h;rw[List.drop_eq_getElem_cons hk,List.flatMap_cons]at e;have:((l.flatMap f).drop (k*m))[j]?=some u:=by
  rw[e,List.getElem?_append_left (List.getElem?_eq_some_iff.1 hu).1];exact hu
 rwa [List.getElem?_drop]at this
theorem qnd(l:List α)(k:Nat)(s:α)(hk:k<l.length)(h:∀x∈l,(f x).length=m):(l.flatMap f).take (k*m)++f s++(l.flatMap f).drop (k*m+m)=(l.set k s).flatMap f:=by
 rw[show k*m+m=(k+1)*m by rw[Nat.succ_mul],qhg l k h,qaZ l (k+1) h,List.set_eq_take_append_cons_drop,if_pos hk,List.flatMap_append,List.flatMap_cons,List.append_assoc]
end
def pad (l:List Bt):List Bt:=l++List.replicate (8-l.length) zz
def vc (l:List Bt):List Value:=(pad l).flatMap Lib.byteCells
theorem vk {n:Nat}{l:List Bt}(h:qN n l)(h8:n≤8):(pad l).length=8:=by
 unfold pad;rw[List.length_append,List.length_replicate,h.1];omega
theorem pG {n:Nat}{l:List Bt}(h:qN n l):∀v∈pad l,v.length=32:=by
 intro v hv;rcases List.mem_append.1 hv with h1|h1
 ·exact h.2 v h1
 ·rw[List.eq_of_mem_replicate h1];exact qX
theorem qne{n:Nat}{l:List Bt}(h:qN n l):∀v∈pad l,(Lib.byteCells v).length=32:=fun v hv=>by rw[Lib.byteCells_length,pG h v hv]
theorem zX {n:Nat}{l:List Bt}(h:qN n l)(h8:n≤8):(vc l).length=256:=by
 unfold vc;rw[dV (qne h),vk h h8]
theorem pH (l:List Bt):∀u∈vc l,u.oneCell'=true:=by
 intro u hu;obtain⟨s,_,h⟩:=List.mem_flatMap.1 hu;exact Lib.byteCells_one _ u h
theorem qq9(l:List Bt)(k:Nat)(s:Bt)(hk:k<l.length):pad (l.set k s)=(pad l).set k s:=by
 unfold pad;rw[List.set_append_left _ _ hk,List.length_set]
theorem qnf{n:Nat}{l:List Bt}(h:qN n l)(k:Nat)(s:Bt)(hk:k<l.length):(vc l).take (k*32)++Lib.byteCells s++(vc l).drop (k*32+32)=vc (l.set k s):=by
 unfold vc;rw[qq9 l k s hk];exact qnd (pad l) k s (by unfold pad;rw[List.length_append];omega) (qne h)
theorem qfF{n:Nat}{l:List Bt}(h:qN n l)(k:Nat)(hk:k<(pad l).length)(j:Nat)(u:Value)(hu:(Lib.byteCells (pad l)[k])[j]?=some u):(vc l)[k*32+j]?=some u:=qba (pad l) k hk (qne h) j u hu
theorem quS(l:List Bt)(k:Nat)(hk:k<l.length)(hp:k<(pad l).length):(pad l)[k]=l[k]:=List.getElem_append_left hk
theorem qqA{l q:List Bt}(h:l.length=q.length)(e:pad l=pad q):l=q:=List.append_inj_left e h
theorem qng(n:Nat)(h8:n≤8):pad (vV n)=List.replicate 8 zz:=by
 unfold pad vV;rw[List.length_replicate,List.replicate_append_replicate]
 congr 1
 omega
theorem qhh(n:Nat)(h8:n≤8):vc (vV n)=vc []:=by
 unfold vc;rw[qng n h8];rfl
def sc (s:Sn):List Value:=vc s.bs++[.int .u64 (s.g.1:Int),.int .u64 (s.g.2:Int),.bool s.hid]
def uT (l:List Sn):List Value:=l.flatMap sc
theorem yO {n:Nat}{s:Sn}(h:qN n s.bs)(h8:n≤8):(sc s).length=259:=by
 unfold sc;rw[List.length_append,zX h h8];rfl
theorem iQ (s:Sn):∀u∈sc s,u.oneCell'=true:=by
 intro u hu;rcases List.mem_append.1 hu with h|h
 ·exact pH _ u h
 ·simp at h;rcases h with rfl|rfl|rfl <;> rfl
theorem qsz{n:Nat}{s:Sn}(h:qN n s.bs)(h8:n≤8):(sc s)[256]?=some (.int .u64 (s.g.1:Int)):=by
 unfold sc;rw[List.getElem?_append_right (by rw[zX h h8];omega),zX h h8];rfl
theorem qs0{n:Nat}{s:Sn}(h:qN n s.bs)(h8:n≤8):(sc s)[257]?=some (.int .u64 (s.g.2:Int)):=by
 unfold sc;rw[List.getElem?_append_right (by rw[zX h h8];omega),zX h h8];rfl
theorem quT{n:Nat}{s:Sn}(h:qN n s.bs)(h8:n≤8):(sc s)[258]?=some (.bool s.hid):=by
 unfold sc;rw[List.getElem?_append_right (by rw[zX h h8];omega),zX h h8];rfl
theorem qnh(s:Sn)(j:Nat)(u:Value)(h:(vc s.bs)[j]?=some u):(sc s)[j]?=some u:=by
 unfold sc;rw[List.getElem?_append_left (List.getElem?_eq_some_iff.1 h).1];exact h
def z0:Sn:=⟨(0,0),[],false⟩
theorem aK:(prog.info? 131).map (fun i=>(i.zero,i.size,i.bytes))=some (some (.agg (sc z0).toArray),259,280):=by kernel_rfl
theorem yK:(prog.info? 131).map (·.size)=some 259:=by kernel_rfl
theorem kW:(prog.info? 84).map (·.size)=some 256:=by kernel_rfl
theorem qbb:(prog.info? 87).map (·.size)=some 258:=by kernel_rfl
theorem vn:(prog.info? 82).map (·.size)=some 32:=by kernel_rfl
def qE (n:Nat)(l:List Bt)(v:Value):List Value:=.int .i64 (n:Int)::(vc l++[v])
theorem qhi:(prog.info? 87).map (fun i=>(i.zero,i.size,i.bytes))=some (some (.agg (qE 0 [] (.slice none 0 0)).toArray),258,288):=by kernel_rfl
theorem kd {n m:Nat}{l:List Bt}{v:Value}(h:qN n l)(h8:n≤8):(qE m l v).length=258:=by
 unfold qE;rw[List.length_cons,List.length_append,zX h h8];rfl
theorem qni{n m:Nat}{l:List Bt}{v:Value}(h:qN n l)(h8:n≤8):(qE m l v)[257]?=some v:=by
 unfold qE;rw[show 257=256+1 from rfl,List.getElem?_cons_succ,List.getElem?_append_right (by rw[zX h h8];omega),zX h h8];rfl
theorem tC {m:Nat}{l:List Bt}{v:Value}(j:Nat)(u:Value)(h:(vc l)[j]?=some u):(qE m l v)[1+j]?=some u:=by
 unfold qE;rw[Nat.add_comm,List.getElem?_cons_succ,List.getElem?_append_left (List.getElem?_eq_some_iff.1 h).1];exact h
theorem lW {n m:Nat}{l:List Bt}{v u:Value}(h:qN n l)(h8:n≤8):(qE m l v).toArray.setIfInBounds 257 u=(qE m l u).toArray:=by
 unfold qE;rw[List.setIfInBounds_toArray,show 257=256+1 from rfl,List.set_cons_succ,List.set_append_right _ _ (by rw[zX h h8];omega),zX h h8];rfl
theorem qcZ{n m:Nat}{l q:List Bt}{v:Value}(h:qN n l)(hq:qN n q)(h8:n≤8):(qE m l v).take 1++vc q++(qE m l v).drop (1+(vc q).length)=qE m q v:=by
 unfold qE;rw[zX hq h8,Nat.add_comm,List.take_succ_cons,List.drop_succ_cons,List.take_zero,List.drop_left' (zX h h8)];simp
theorem qda{n m:Nat}{l:List Bt}{v:Value}(h:qN n l)(h8:n≤8)(k:Nat)(s:Bt)(hk:k<l.length):(qE m l v).take (1+k*32)++Lib.byteCells s++(qE m l v).drop (1+k*32+32)=qE m (l.set k s) v:=by
 have hl:=zX h h8;have hn:=h.1;unfold qE;rw[show 1+k*32+32=(k*32+32)+1 by omega,Nat.add_comm 1,List.take_succ_cons,List.drop_succ_cons,List.take_append_of_le_length (by omega),List.drop_append_of_le_length (by omega),← qnf h k s hk];simp
theorem qqB{n:Nat}{s:Sn}(h:qN n s.bs)(h8:n≤8)(k:Nat)(b:Bt)(hk:k<s.bs.length):(sc s).take (0+k*32)++Lib.byteCells b++(sc s).drop (0+k*32+32)=sc { s with bs:=s.bs.set k b }:=by
 have hl:=zX h h8;have hn:=h.1;unfold sc;rw[Nat.zero_add,List.take_append_of_le_length (by omega),List.drop_append_of_le_length (by omega),← qnf h k b hk];simp
theorem pI {n:Nat}{l:List Sn}(h:∀s∈l,qN n s.bs)(h8:n≤8):(uT l).length=l.length*259:=dV (fun s hs=>yO (h s hs) h8)
theorem qnj{n:Nat}{l:List Sn}(h:∀s∈l,qN n s.bs)(h8:n≤8)(k:Nat)(hk:k<l.length)(j:Nat)(u:Value)(hu:(sc l[k])[j]?=some u):(uT l)[k*259+j]?=some u:=qba l k hk (fun s hs=>yO (h s hs) h8) j u hu
theorem qjj(l:List Sn)(s:Sn):uT (l++[s])=uT l++sc s:=by simp[uT]
def uM (w:World)(v:Value)(l:List Sn):Prop:=∃A c,v=.slice A l.length c∧l.length≤c∧c≤maxLen ∧
 ((A=none∧l.length=0∧c=0)∨∃g cur,A=some ⟨g,0,none⟩∧qf w g 131 cur∧cur.toList.take (l.length*259)=uT l)
theorem tD {w:World}{n k m c:Nat}{A:Option Addr}{l:List Sn}(h:uM w (.slice A m c) l)(ho:∀s∈l,qN n s.bs)(h8:n≤8)(hk:k≤l.length)(c2:Nat)(hc2:k≤c2)(hc:c2≤c):uM w (.slice A k c2) (l.take k):=by
 have hlk:(l.take k).length=k:=by rw[List.length_take];omega
 obtain⟨A',c',e,h1,h2,h3⟩:=h;simp only[Value.slice.injEq]at e;obtain⟨rfl,rfl,rfl⟩:=e;refine⟨A,c2,by rw[hlk],by omega,by omega,?_⟩;rcases h3 with⟨rfl,h0,rfl⟩|⟨g,cur,rfl,hb,xI⟩
 ·exact .inl ⟨rfl,by omega,by omega⟩
 ·refine .inr ⟨g,cur,rfl,hb,?_⟩;have e2:=qhg (f:=sc) l k (fun s hs=>yO (ho s hs) h8);rw[hlk];unfold uT at xI ⊢;rw[← e2,← xI,List.take_take,Nat.min_eq_left (Nat.mul_le_mul_right 259 hk)]
theorem xy {w:World}{n:Nat}{v:Value}{l:List Sn}(h:uM w v l)(ho:∀s∈l,qN n s.bs)(h8:n≤8) :
    ∃A c,v=.slice A l.length c∧l.length≤c∧(A=none→l.length=0∧c=0)∧∀i (hi:i<l.length),∃g cur,A=some ⟨g,0,none⟩∧qf w g 131 cur∧∀j u,(sc l[i])[j]?=some u→cur[i*259+j]?=some u:=by
 obtain⟨A,c,rfl,h1,h2,h3⟩:=h;rcases h3 with⟨rfl,h0,rfl⟩|⟨g,cur,rfl,hb,xI⟩
 ·exact⟨none,0,rfl,h1,fun _=>⟨h0,rfl⟩,fun i hi=>by omega⟩
 ·refine⟨some ⟨g,0,none⟩,c,rfl,h1,(fun h=>by cases h),fun i hi=>⟨g,cur,rfl,hb,fun j u hu=>?_⟩⟩;have hr:=qnj ho h8 i hi j u hu;rw[← xI,List.getElem?_take]at hr;split at hr
  ·simpa using hr
  ·cases hr
theorem uM.of_block{w w':World}{v:Value}{l:List Sn}(h:uM w v l)(hb:∀k,v.ownBlock=some k→w'.heap[k]?=w.heap[k]?):uM w' v l:=by
 obtain⟨A,c,rfl,h1,h2,h3⟩:=h;refine⟨A,c,rfl,h1,h2,?_⟩;rcases h3 with h3|⟨g,cur,rfl,h4,h5⟩
 ·exact .inl h3
 ·exact .inr ⟨g,cur,rfl,h4.of_block (hb g rfl),h5⟩
theorem uM.lt{w:World}{v:Value}{l:List Sn}(h:uM w v l):∀k,v.ownBlock=some k→k<w.heap.size:=by
 obtain⟨A,c,rfl,h1,h2,h3⟩:=h;intro k hk;rcases h3 with⟨rfl,_⟩|⟨g,cur,rfl,h4,h5⟩
 ·cases hk
 ·simp[Value.ownBlock]at hk;subst hk;exact h4.lt
theorem uM.ne{w:World}{v:Value}{l:List Sn}{a:Nat}{t:TypeId}{x:Array Value}(h:uM w v l)(k:qf w a t x)(hn:t≠131):∀j,v.ownBlock=some j→j≠a:=by
 obtain⟨A,c,rfl,h1,h2,h3⟩:=h;intro j hj;rcases h3 with⟨rfl,_⟩|⟨g,cur,rfl,h4,h5⟩
 ·cases hj
 ·simp[Value.ownBlock]at hj;subst hj;exact(uk k h4 hn).symm
theorem uM.cells{w:World}{A:Option Addr}{n c:Nat}{l:List Sn}(h:uM w (.slice A n c) l):n=l.length∧(A=none→n=0)∧∀b,A=some b→∀j u,(uT l)[j]?=some u→w.cell? (b.add j)=some u:=by
 obtain⟨A',c',e,h1,h2,h3⟩:=h;simp only[Value.slice.injEq]at e;obtain⟨rfl,rfl,rfl⟩:=e;rcases h3 with⟨rfl,h0,rfl⟩|⟨g,cur,rfl,hb,xI⟩
 ·exact⟨rfl,(fun _=>h0),fun b hb=>by cases hb⟩
 ·refine⟨rfl,(fun h=>by cases h),fun b e j u hu=>?_⟩;simp only[Option.some.injEq]at e;subst e;rw[addr_add,Nat.zero_add,hb.cell j];rw[← xI,List.getElem?_take]at hu;split at hu
  ·simpa using hu
  ·cases hu
structure jy(w:World)(own:Nat→Prop)(p:Nat)(v:Value)(d:CH):Prop where
 blk:qf w p 87 (qE d.live.length d.live v).toArray
 row:uM w v d.qa
 op:own p
 om:∀k,v.ownBlock=some k→own k
 low:∀k,own k→k<w.heap.size
def lX:lL:=fun own w p d=>d.ok∧∃v,jy w own p v d
section
variable {w w':World} {own:Nat→Prop} {p:Nat} {v:Value} {d:CH}
theorem jy.vp(h:jy w own p v d):∀j,v.ownBlock=some j→j≠p:=h.row.ne h.blk (by decide)
theorem jy.keep(h:jy w own p v d)(hs:w.heap.size≤w'.heap.size)(hb:∀k,own k→w'.heap[k]?=w.heap[k]?):jy w' own p v d :=
 ⟨h.blk.of_block (hb _ h.op),h.row.of_block (fun k hk=>hb k (h.om k hk)),h.op,h.om,fun k hk=>Nat.lt_of_lt_of_le (h.low k hk) hs⟩
theorem jy.below(h:jy w own p v d)(hb:Below w.heap.size w w'):jy w' own p v d:=h.keep hb.size (fun k hk=>hb.block k (h.low k hk))
theorem jy.c0(h:jy w own p v d):w.cell? ⟨p,0,none⟩=some (.int .i64 (d.live.length:Int)):=by
 rw[h.blk.cell 0];rfl
theorem jy.c2(h:jy w own p v d)(ho:d.ok):w.cell? ⟨p,257,none⟩=some v:=by
 rw[h.blk.cell 257];simpa using qni (m:=d.live.length) (v:=v) ho.live ho.n8
theorem uM.below{l:List Sn}(h:uM w v l)(hb:Below w.heap.size w w'):uM w' v l:=h.of_block (fun k hk=>hb.block k (h.lt k hk))
end
end Go.Proofs.YtdagdllomphidaaGreatDoor.ch.pg
namespace Go.Proofs.YtdagdllomphidaaGreatDoor.ch.pg
open _root_.Go.Proofs.Tryz Go Go.RowKit Go.Sort ib
theorem aq (a b:Gd)(w:World):Calls prog 115 #[gv a,gv b] w fun e w'=>e=.returned (.bool (above a b))∧Below w.heap.size w w':=by
 obtain⟨a1,a2⟩:=a;obtain⟨b1,b2⟩:=b;have HR:Hid (above (a1,a2) (b1,b2)=(decide ((b1:Int)<(a1:Int)) || (decide ((a1:Int)=(b1:Int))&&decide ((b2:Int)<(a2:Int))))):=by
  unfold Hid above;simp[Int.ofNat_inj]
 show Calls prog 115 #[.agg #[.int .u64 (a1:Int),.int .u64 (a2:Int)],.agg #[.int .u64 (b1:Int),.int .u64 (b2:Int)]] w _;obtain⟨r,hr⟩:=QE (above (a1,a2) (b1,b2));rw[hr]at HR ⊢;generalize (a1:Int)=x1 at *;generalize (a2:Int)=x2 at *;generalize (b1:Int)=y1 at *;generalize (b2:Int)=y2 at *;clear hr;have hB1:=(Below.refl w.heap.size w).alloc (Nat.le_refl _) (.cells #[.int .u64 x1,.int .u64 x2] 55);have HB:=QH (hB1.alloc hB1.size (.cells #[.int .u64 y1,.int .u64 y2] 55));clear hB1;by_cases h2:x1=y1
 ·subst h2;have HT:Hid (r=decide (y2<x2)):=by unfold Hid;rw[HR.out];simp
  clear HR;go_enter func115,ntmps115;go_wp2_with fail;go_ret;rw[HT.out];exact⟨rfl,HB.out⟩
 ·have HT:Hid (r=decide (y1<x1)):=by unfold Hid;rw[HR.out];simp[h2]
  have hq:(x1 == y1)=false:=by simpa using h2
  clear HR;go_enter func115,ntmps115;go_wp2_with fail;go_ret;rw[HT.out];exact⟨rfl,HB.out⟩
theorem wm {w:World}{p n:Nat}(c0:w.cell? ⟨p,0,none⟩=some (.int .i64 (n:Int)))(k:Int)(s:Bt):Calls prog 70 #[.pointer (some ⟨p,0,none⟩),.int .i64 k,.string (str s)] w fun e w'=>e=.returned (.bool (decide (0≤k∧k<(n:Int)∧s.length=32)))∧Below w.heap.size w w':=by
 have HS:Hid ((str s).size=s.length):=qO s;obtain⟨t,ht⟩:=QE (str s);rw[ht]at HS ⊢;clear ht;by_cases h0:(0:Int)≤k
 ·by_cases h1:k<(n:Int)
  ·have HR:Hid (decide (0≤k∧k<(n:Int)∧s.length=32)=((t.size:Int) == 32)):=by
      unfold Hid;rw[Bool.eq_iff_iff];simp only[decide_eq_true_eq,beq_iff_eq];rw[HS.out];omega
   rw[HR.out];clear HR;go_enter func70,ntmps70;go_wp2_with fail;go_ret;exact⟨rfl,Below.refl _ _⟩
  ·have HR:Hid (decide (0≤k∧k<(n:Int)∧s.length=32)=false):=decide_eq_false (fun h=>h1 h.2.1);rw[HR.out];clear HR;go_enter func70,ntmps70;go_wp2_with fail;go_ret;exact⟨rfl,Below.refl _ _⟩
 ·have HR:Hid (decide (0≤k∧k<(n:Int)∧s.length=32)=false):=decide_eq_false (fun h=>h0 h.1);rw[HR.out];clear HR;go_enter func70,ntmps70;go_wp2_with fail;go_ret;exact⟨rfl,Below.refl _ _⟩
theorem qhj{w:World}{b o:Nat}{t:TypeId}{cs:Array Value}(h:qf w b t cs)(hl:o+256≤cs.size)(k:Nat)(hk:k<8)(s:Bt)(hs:s.length=32) :
    Calls prog 71 #[.pointer (some ⟨b,o,none⟩),.int .i64 (k:Int),.string (str s)] w fun e w'=>e=.returned (.tuple #[])∧w'=w.setRow b (cs.toList.take (o+k*32)++Lib.byteCells s++cs.toList.drop (o+k*32+32)).toArray:=by
 have HB:=QH h;have HL:Hid (o+k*32+32≤cs.size):=by unfold Hid;omega
 have HS:Hid ((str s).size=32):=(qO s).trans hs;have hk8:(k:Int)<8:=by omega
 have HBL:Hid (bl (str s)=s):=za s;obtain⟨t2,ht⟩:=QE (str s);rw[ht]at HS HBL ⊢;clear ht hl hs h;obtain⟨iu,hi,hz0,hz1,hz2⟩:=info_parts Tryz.ni;go_enter func71,ntmps71;go_wp2_with (refine qg rfl (oJ w (.tmp 10) (.tmp 11) 118 9 5 t2 b (o+k*32) 32 _ t cs iu rfl rfl rfl HS.out HB.out HL.out underlying118 hi hz1) ?_)
 go_end0
 rw[HBL.out];exact⟨rfl,rfl⟩
def xC (n:Nat)(l:List Sn):Sn:=(l.getLast?).getD ⟨(0,0),vV n,false⟩
theorem dW {n:Nat}{l:List Sn}(h:∀s∈l,qN n s.bs):qN n (xC n l).bs:=by
 unfold xC;cases hl:l.getLast? with
 | none=>exact qa4 n
 | some s=>exact h s (List.mem_of_getLast? hl)
theorem qqC(d:CH):(xC d.live.length d.qa).g=d.last:=by
 unfold xC CH.last;cases d.qa.getLast? <;> rfl
theorem qdb(d:CH):(xC d.live.length d.qa).bs=d.base:=by
 unfold xC CH.base;cases d.qa.getLast? <;> rfl
theorem qjk(n:Nat):xC n []=⟨(0,0),vV n,false⟩:=rfl
theorem qjl(n:Nat)(l:List Sn)(k:Nat)(hk:k<l.length)(hl:k+1=l.length):xC n l=l[k]:=by
 unfold xC;rw[List.getLast?_eq_getElem?,show l.length-1=k by omega,List.getElem?_eq_getElem hk];rfl
theorem qqD(n:Nat)(h8:n≤8):sc ⟨(0,0),vV n,false⟩=sc z0:=by
 unfold sc z0;dsimp only;rw[qhh n h8]
theorem qjm{ρ:Operand→Value}{o:Oper}{w:World}{i:TypeInfo}{z:Array Value}(ho:o.op=.build 131 #[])(hi:prog.info? 131=some i)(hz:i.zero=some (.agg z)) :
    (execOp ρ o).run prog w=.ok (.value (.agg z)) w:=by
 have hz:∀w,(zeroValue 131).run prog w=.ok (.agg z) w:=fun w=>by simp[zeroValue,typeInfo,hi,hz]
 simp[execOp,ho,Instr.build,hz,Result.andThen,go_sem,Value.cells]
theorem fh {w:World}{n:Nat}{v:Value}{l:List Sn}(h:uM w v l)(ho:∀s∈l,qN n s.bs)(h8:n≤8)(aY:l.length≤20) :
    Calls prog 69 #[v] w fun e w'=>e=.returned (.agg (sc (xC n l)).toArray)∧Below w.heap.size w w':=by
 obtain⟨i0,hi,hz0,hz1,hz2⟩:=info_parts aK;obtain⟨A,c,rfl,hlc,hA,hx⟩:=xy h ho h8;have HX:=QH hx;have HI:=QH hi;have HZ:=QH hz0;have HB:=QH ((Below.refl w.heap.size w).alloc (Nat.le_refl _) (.cells (sc (xC n l)).toArray 131));have HN:Hid (qf (w.alloc (.cells (sc (xC n l)).toArray 131)) w.heap.size 131 (sc (xC n l)).toArray):=qf.new _ _ _;have HLEN:Hid ((sc (xC n l)).length=259):=yO (dW ho) h8;have HZL:Hid ((sc z0).length=259):=by unfold Hid z0;exact yO (n:=0) ⟨rfl,fun v hv=>by simp at hv⟩ (by omega)
 have HZZ:=QH (fun(e:l.length=0)=>show sc (xC n l)=sc z0 by rw[List.length_eq_zero_iff.1 e,qjk,qqD n h8]);have HP:=QH (fun k hk hl=>qjl n l k hk hl);obtain⟨S,hS⟩:=QE (sc (xC n l));have HS:=QH hS;rw[hS]at HB HN HLEN HZZ ⊢;have H1:Hid (∀u∈S,u.oneCell'=true):=by unfold Hid;rw[← hS];exact iQ _
 clear h hi hz0 hz1 hz2 hx hS;have xr:Hid (∀W,qf W w.heap.size 131 S.toArray→(loadVar 131 ⟨w.heap.size,0,none⟩).run prog W=.ok (.agg S.toArray) W):=fun W hW =>
  yF W w.heap.size 0 131 131 S.toArray S (0,0) _ hW underlying131 rfl (by rw[yK,HLEN.out]) (fun j u hu=>by rw[Nat.zero_add];simpa using hu)
 by_cases hz:l.length=0
 ·obtain⟨Z,hZ⟩:=QE (sc z0);have hzz:=HZZ.out hz;rw[hZ]at HZ HZL hzz;subst hzz;rw[hz];clear HZZ HP hZ HS HX;go_enter func69,ntmps69;go_wp2_with (first|(refine qg rfl (jY 131 i0 S.toArray rfl HI.out HZ.out) ?_)|(refine qg rfl (qjm rfl HI.out HZ.out) ?_)|(refine wpList_skip rfl (zr w 131 S.toArray S.toArray (.tmp 2) (.tmp 6) rfl rfl rfl (by rw[yK,List.size_toArray,HLEN.out]) rfl (jw H1.out)) ?_));refine bodyPost_ret (v:=.agg S.toArray) ?_ rfl ?_
  ·exact zq rfl _ _ _ ⟨w.heap.size,0,none⟩ _ rfl (xr.out _ HN.out)
  exact⟨rfl,HB.out⟩
 ·obtain⟨k,hk⟩:=QE (l.length-1);have hkl:k<l.length:=by omega
  have hSk:=HP.out k hkl (by omega);obtain⟨g,cur,rfl,hb,hc⟩:=HX.out k hkl;rw[← hSk,HS.out]at hc;have HC:=QH hc;have HBG:Hid (qf (w.alloc (.cells (sc z0).toArray 131)) g 131 cur):=hb.of_block (Below.heap_alloc w _ _ hb.lt);have hw:IntKind.i64.wrap ((l.length:Int)-1)=(k:Int):=by rw[IntWalk.i64_in _ (by omega)];omega
  have jD:(k:Int)<(l.length:Int):=by omega
  have hnz:((l.length:Int) == 0)=false:=beq_false_of_ne (by omega);obtain⟨Z,hZ⟩:=QE (sc z0);rw[hZ]at HZ HZL HBG;clear HZZ HP hZ HS HX hb hc hSk hk hz;go_enter func69,ntmps69;go_wp2_with (first|(refine qg rfl (jY 131 i0 Z.toArray rfl HI.out HZ.out) ?_)|(refine qg rfl (qH 131 (.tmp 11) rfl g (k*259) rfl _ cur S _ _ HBG.out underlying131 rfl (by rw[yK,HLEN.out]) HC.out) ?_)|(refine wpList_skip rfl (zr w 131 Z.toArray S.toArray (.tmp 2) (.tmp 12) rfl rfl rfl (by rw[yK,List.size_toArray,HLEN.out]) (by rw[List.size_toArray,List.size_toArray,HLEN.out,HZL.out]) (jw H1.out)) ?_));refine bodyPost_ret (v:=.agg S.toArray) ?_ rfl ?_
  ·exact zq rfl _ _ _ ⟨w.heap.size,0,none⟩ _ rfl (xr.out _ HN.out)
  exact⟨rfl,HB.out⟩
end Go.Proofs.YtdagdllomphidaaGreatDoor.ch.pg
