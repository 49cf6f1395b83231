/- JCommit, JHead, VgChg, VgGds, VgTb3, VgTb2, VgTb4, VgApi1, VgPlc, VgWri, VgHF, VgOff. -/
import Derived.Test.YtdpbdkacngaemaaGreatDoorZF7
set_option linter.unusedVariables false
set_option linter.unusedSimpArgs false
set_option maxHeartbeats 30000000
set_option maxRecDepth 100000
namespace Go.Proofs.YtdpbdkacngaemaaGreatDoor.jr
open _root_.Go.Proofs.Tryz Go Go.RowKit dk wi
theorem gA {w w':World}{a:Option Addr}{bs:List (List Wr)}(h:qdt w a bs)(hb:Below w.heap.size w w'):qdt w' a bs:=fun i hi=>by
 obtain⟨b,o,A,c,h1,h2,h3,h4⟩:=h i hi;exact⟨b,o,A,c,h1,Nat.lt_of_lt_of_le h2 hb.size,by rw[hb.cell (p:=⟨b,o+i,none⟩) h2];exact h3,h4.below hb (Nat.le_refl _)⟩
theorem qgA{W:World}{A2 A5 A:Option Addr}{r c2 c5 cl n:Nat}{ly l1 l:List Wr}(h1:ly.length=r)(h2:l1.length=n)(k1:uQ W A2 ly)(k2:uQ W A5 l1)(k3:uQ W A l) :
    qdt (W.alloc (.cells #[.slice A2 r c2,.slice A5 n c5,.slice A l.length cl] 89)) (some ⟨W.heap.size,0,none⟩) [ly,l1,l]:=by
 subst h1 h2;have hB:=qf.new W 89 #[.slice A2 ly.length c2,.slice A5 l1.length c5,.slice A l.length cl];have hb:=(Below.refl W.heap.size W).alloc (Nat.le_refl _) (.cells #[.slice A2 ly.length c2,.slice A5 l1.length c5,.slice A l.length cl] 89);intro i hi
 match i,hi with
 | 0,_=>exact⟨W.heap.size,0,A2,c2,rfl,by simp,hB.cell 0,k1.below hb (Nat.le_refl _)⟩
 | 1,_=>exact⟨W.heap.size,0,A5,c5,rfl,by simp,hB.cell 1,k2.below hb (Nat.le_refl _)⟩
 | 2,_=>exact⟨W.heap.size,0,A,cl,rfl,by simp,hB.cell 2,k3.below hb (Nat.le_refl _)⟩
 | i+3,h=>exact absurd h (by simp only[List.length_cons,List.length_nil];omega)
def cS (a r:Nat)(A8:Option Addr)(c8:Nat)(S:ByteArray)(A:Option Addr)(cl:Nat)(l:List Wr)(ly:List Wr)(hd:Bt):Nat→Value→World→Prop
 | 0,v,_=>v=.agg #[.int .i64 ((1-a:Nat):Int),.int .i64 (r:Int)]
 | 1,v,_=>v=.slice A8 r c8
 | 2,v,W=>∃A2 c2,v=.slice A2 r c2∧uQ W A2 ly
 | 3,v,_=>v=.agg #[.int .i64 ((1-a:Nat):Int),.int .i64 (r:Int)]
 | 4,v,_=>v=.agg #[.int .i64 0,.string S]
 | 5,v,W=>∃A2 c2,v=.slice A2 1 c2∧uQ W A2 [(0,hd)]
 | 6,v,_=>v=.slice A l.length cl
 | 7,v,W=>∃b,v=.slice (some ⟨b,0,none⟩) 3 3∧qdt W (some ⟨b,0,none⟩) [ly,[(0,hd)],l]
 | 8,v,W=>∃b,v=.slice (some ⟨b,0,none⟩) 3 3∧qdt W (some ⟨b,0,none⟩) [ly,[(0,hd)],l]
 | _,_,_=>True
theorem qkq{a r:Nat}{A8:Option Addr}{c8:Nat}{S:ByteArray}{A:Option Addr}{cl:Nat}{l ly:List Wr}{hd:Bt}(i:Nat)(v:Value)(w w':World)(hi:i<9)(h:cS a r A8 c8 S A cl l ly hd i v w)(hb:Below w.heap.size w w'):cS a r A8 c8 S A cl l ly hd i v w':=by
 match i,hi,h with
 | 0,_,h | 1,_,h | 3,_,h | 4,_,h | 6,_,h=>exact h
 | 2,_,⟨A2,c2,h1,h2⟩=>exact⟨A2,c2,h1,h2.below hb (Nat.le_refl _)⟩
 | 5,_,⟨A2,c2,h1,h2⟩=>exact⟨A2,c2,h1,h2.below hb (Nat.le_refl _)⟩
 | 7,_,⟨b,h1,h2⟩=>exact⟨b,h1,gA h2 hb⟩
 | 8,_,⟨b,h1,h2⟩=>exact⟨b,h1,gA h2 hb⟩
 | j+9,hi,_=>exact absurd hi (by omega)
theorem qbJ(x y z:List Wr):(qF [x,y,z]).length=x.length+y.length+z.length+3:=by simp[qF,jU];omega
section
variable {most:Nat} {w:World} {own:Nat→Prop} {p:Nat} {d:DD}
theorem fP (HW:qoh)(HR:qoi)(h:zP most w own p d)(hn:145<d.n)(A:Option Addr)(cl:Nat)(l:List Wr)(hwl:uQ w A l)(rU:l.length≤1000000)(ht:xY w)(hm:d.more.length+150≤most)(jo:most≤100000) :
    Calls prog 103 #[.pointer (some ⟨p,0,none⟩),.slice A l.length cl] w (xy most own p (zY d l).2 (.int .i64 (zY d l).1) w):=by
 have HD:=QH h;have HP:=QH (l6 h);have rT:=QH (qd1 h A cl l hwl rU);have hpl:p<w.heap.size:=by obtain⟨_,_,_,hd⟩:=h;exact hd.1.lt
 have q5t:d.n≤1024:=h.1.n1;have HT:=QH ht;have hg:=ht.1;have HH:=QH HR;have HHW:=QH HW;have q0F:=QH hwl;clear ht HR HW h hwl;obtain⟨R,hR⟩:=QE (zY d l);rw[hR];unfold zY at hR;cases xa:d.on with
 | false =>
  rw[xa]at HP;rw[if_pos xa]at hR;subst hR;go_enter func103,ntmps103;go_wp2_with (go_at_call 116;refine HP.out.mono ?_;rintro e w' ⟨rfl,rfl⟩);go_ret;exact xt HD.out (Below.refl _ _)
 | true =>
 rw[xa]at HP;rw[if_neg (by rw[xa];simp)]at hR;by_cases hl0:l.length=0
 ·rw[if_pos hl0]at hR;subst hR;have hl0':((l.length:Int) == 0)=true:=by simp[hl0]
  go_enter func103,ntmps103;go_wp2_with (go_at_call 116;refine HP.out.mono ?_;rintro e w' ⟨rfl,rfl⟩);go_ret;exact xt HD.out (Below.refl _ _)
 rw[if_neg hl0]at hR;have hl0':((l.length:Int) == 0)=false:=by simp only[beq_eq_false_iff_ne,ne_eq];omega
 by_cases qvV:60<l.length
 ·rw[if_pos qvV]at hR;subst hR;have q0G:(60:Int)<(l.length:Int):=by omega
  go_enter func103,ntmps103;go_wp2_with (go_at_call 116;refine HP.out.mono ?_;rintro e w' ⟨rfl,rfl⟩);go_ret;exact xt HD.out (Below.refl _ _)
 rw[if_neg qvV]at hR;have q0G:¬ (60:Int)<(l.length:Int):=by omega
 cases hps:vO d.n l with
 | false =>
  rw[hps]at rT;rw[if_pos hps]at hR;subst hR;go_enter func103,ntmps103;go_wp2_with (go_at_call 116;refine HP.out.mono ?_;rintro e w' ⟨rfl,rfl⟩);refine rT.out.mono ?_;rintro e W1 ⟨rfl,b1⟩;go_wp2_with fail;go_ret;exact xt HD.out b1
 | true =>
 rw[hps]at rT;rw[if_neg (by rw[hps];simp)]at hR;have hall:=dY hps;have hsm:∀x∈l,x.1<65536∧x.2.length=32:=fun x hx=>by have:=hall x hx;exact⟨by omega,this.2.2⟩
 obtain⟨s1,s72⟩:=cu l (by omega) hsm;have qz3:=gh l (by omega) hsm;have cY:=QH hR;have HON:=QH xa;have q0H:=QH hall;clear hR xa hps hall hsm;go_enter func103,ntmps103;go_wp2_with (go_at_call 116;refine HP.out.mono ?_;rintro e w' ⟨rfl,rfl⟩);refine rT.out.mono ?_;rintro e W1 ⟨rfl,b1⟩;have qO:=QH b1;clear b1 rT;go_wp2_with fail;refine(HH.out most W1 own p d (HD.out.below qO.out) HON.out (by omega)).mono ?_;intro e W2 yO;obtain⟨b2,⟨a,c,hq,rfl⟩|⟨hq,x,y,rfl⟩⟩:=av yO;rotate_left
 ·have uV:=cY.out;rw[hq]at uV;dsimp only at uV;subst uV;have qA:=QH (qa qO.out b2);clear yO b2 hq cY;go_wp2_with fail;go_ret;exact xt HD.out (zN qA.out _)
 have uV:=cY.out;rw[hq]at uV;dsimp only at uV;obtain⟨ha,hc,_⟩:=uu hq;rw[if_neg (by omega)]at uV;have qA:=QH (qa qO.out b2);clear b2 yO hq cY;have cY:=QH uV;clear uV;have rY:qf (W2.alloc (.cells #[.int .i64 (a:Int),.int .i64 (c:Int)] 188)) W2.heap.size _ _:=qf.new W2 _ _;have HK6:=QH rY;have zv:=QH (zN qA.out (.cells #[.int .i64 (a:Int),.int .i64 (c:Int)] 188));clear rY;go_wp2_with fail;refine(kz A cl l _ (q0F.out.below zv.out (Nat.le_refl _)) (by omega) (fun x hx=>by have:=q0H.out x hx;exact⟨by omega,this.2.2⟩)).mono ?_;rintro e W4 ⟨rfl,b4⟩;have zx:=QH (qa zv.out b4);have qwm:Hid (qf W4 W2.heap.size _ _):=HK6.out.of_block (b4.block _ HK6.out.lt);clear b4 HK6;go_wp2_with fail;refine(fF (str (zm l)) W4 (by rw[qN];omega) (HT.out.below zx.out hg)).mono ?_;rintro e W5 ⟨v8,rfl,hos,b5⟩;rw[zw]at hos;obtain⟨A8,c8,rfl,_,_,hsa,_,_⟩:=hos.view;have HSA:=QH hsa;have yw:=QH (qa zx.out b5);have rY:qf W5 W2.heap.size _ _:=qwm.out.of_block (b5.block _ qwm.out.lt);clear hos hsa b5 qwm;have q0I:=QH (zh (qK (zm l)) (1+(1-a)*72));have hb8:yV a l=[lay (1-a) (qK (zm l)),[(0,kQ (1-a) (qK (zm l)).length)],l]:=rfl;rw[hb8]at cY;clear hb8;have qtV:=QH (fun(W:World) (hsw:jd W A8 (qK (zm l)))=>uf (1-a) (qK (zm l)).length (by omega) A8 c8 (qK (zm l)) W hsw (by omega));have hly:(lay (1-a) (qK (zm l))).length=(qK (zm l)).length:=q0I.out;have q0J:∀x∈lay (1-a) (qK (zm l)),qD x.1:=fun x hx=>by
  obtain⟨i,g1,g2,_⟩:=jE _ _ _ hx;unfold qD;have:(1-a)*72≤72:=by omega
  omega
 have q0K:=QH q0J;have qwn:=QH (fun(W:World)=>HHW.out (1-a) (qK (zm l)).length W (by omega) s72);clear q0J q0I HHW;have HHL:=QH (uL (show 1-a<2 by omega) s72).1;generalize lay (1-a) (qK (zm l))=ly at *;generalize kQ (1-a) (qK (zm l)).length=hd at *;generalize hrr:(qK (zm l)).length=r at *;have HLY:=QH hly;have q60:=rY.cell 0;have lt6:=rY.lt;have qdc:(1:Int)-(a:Int)=((1-a:Nat):Int):=by omega
 have zbM:(r:Int)≤72:=by omega
 have hrw:¬ (72:Int)<(r:Int):=by omega
 have q5u:=QH qdc;clear hly rY qdc;go_wp2_with fail;have hhl:hd.length=32:=HHL.out;obtain⟨w0,hw0⟩:=QE (W5.alloc (.cells #[.int .i64 (1-(a:Int)),.int .i64 (r:Int)] 188));have qwp:qf w0 W5.heap.size 188 #[.int .i64 (1-(a:Int)),.int .i64 (r:Int)]:=by rw[← hw0];exact qf.new W5 _ _
 rw[q5u.out]at qwp;have qwq:Below W5.heap.size W5 w0:=by rw[← hw0];exact(Below.refl W5.heap.size W5).alloc (Nat.le_refl _) _
 rw[hw0];have jt:=QH (qa yw.out qwq);have q0L:=QH qwp;obtain⟨S,hS⟩:=QE (str hd);rw[hS]at qwn;have HSS:=QH hS;have HWR:=qwn;have qrw:∀W,Below w0.heap.size w0 W→Calls prog 181 #[.agg #[.int .i64 ((1-a:Nat):Int),.int .i64 (r:Int)],.slice A8 r c8] W fun e W'=>∃A2 c2,e=.returned (.slice A2 r c2)∧uQ W' A2 ly∧Below W.heap.size W W':=fun W hb=>by
  refine(qtV.out W ((HSA.out.below qwq (Nat.le_refl _)).below hb (Nat.le_refl _))).mono ?_;rintro e W' ⟨v,rfl,ho,hb'⟩;obtain⟨A2,c2,rfl,hw2⟩:=ho.view q0K.out;exact⟨A2,c2,by rw[HLY.out],hw2,hb'⟩
 have qo5:=QH qrw;have q0M:∀W,Below w0.heap.size w0 W→uQ W A l:=fun W hb=>q0F.out.below (qa jt.out hb) (Nat.le_refl _);have HWL:=QH q0M;clear hw0 qwp qwq hS qwn qtV qrw q0M q60 lt6 hhl;generalize qo6:W5.heap.size=g10 at *;clear qo6;refine jk (by kernel_rfl) [55,56,57,58,59,60,61,62,11] (by kernel_rfl) (fun L vs W=>Below w0.heap.size w0 W∧∀i,L i=true→i<9→cS a r A8 c8 S A cl l ly hd i (vs i) W) ⟨(Below.refl w0.heap.size w0).drew,fun i hi=>by cases hi⟩ ?_ ?_ ?_
 ·intro i o L vs ρ W ho gZ qu hρ hgd hI;obtain⟨hb,rQ⟩:=hI;have hG:∀j,L j=true→cS a r A8 c8 S A cl l ly hd j (vs j) W:=fun j hj=>by
   by_cases h9:j<9
   ·exact rQ j hj h9
   ·match j,h9 with
    | j+9,_=>exact trivial
  have hi9:i<9:=(Array.getElem?_eq_some_iff.1 ho).1;have hc:=hρ.const;have hfn:=hρ.fn;have next:∀v W',Below W.heap.size W W'→cS a r A8 c8 S A cl l ly hd i v W'→Below w0.heap.size w0 W'∧∀j,qM L i j=true→j<9→cS a r A8 c8 S A cl l ly hd j (zB vs i v j) W':=fun v W' h1 h2=>by
   refine⟨qa hb h1,fun j hj h9=>?_⟩;by_cases gX:j=i
   ·subst gX;simpa[zB]using h2
   ·simp only[qM,if_neg gX]at hj;simpa[zB,gX]using qkq j _ W W' h9 (rQ j hj h9) h1
  have hK:qf W g10 _ _:=q0L.out.of_block (hb.block _ q0L.out.lt);have q0:=hK.cell 0;have q1:=hK.cell 1;have zbP:=hK.lt;clear hK;rcases i with _|_|_|_|_|_|_|_|_|i;all_goals (first|omega|skip)
  all_goals simp only[QA,QB,QC,Option.some.injEq]at ho
  all_goals subst ho
  ·have o10:ρ (.tmp 10)=.pointer (some ⟨g10,0,none⟩):=hρ.out 10 rfl;exact q9 (w':=W) (by unfold execOp;simp only[o10];go_simp) (next _ _ (Below.refl _ _) rfl)
  ·have o8:ρ (.tmp 8)=.slice A8 r c8:=hρ.out 8 rfl;exact q9 (w':=W) (by unfold execOp;simp only[o8];go_simp) (next _ _ (Below.refl _ _) rfl)
  ·have g55:cS a r A8 c8 S A cl l ly hd 0 (vs 0) W:=hG 0 (qu 0 (by kernel_rfl));have s55:ρ (.tmp 55)=.agg #[.int .i64 ((1-a:Nat):Int),.int .i64 (r:Int)]:=(hρ.at_ 55 0 rfl).trans g55;have g56:cS a r A8 c8 S A cl l ly hd 1 (vs 1) W:=hG 1 (qu 1 (by kernel_rfl));have s56:ρ (.tmp 56)=.slice A8 r c8:=(hρ.at_ 56 1 rfl).trans g56;refine qj (f:=181) (args:=#[.agg #[.int .i64 ((1-a:Nat):Int),.int .i64 (r:Int)],.slice A8 r c8]) (w':=W) (by unfold execOp;simp only[hfn,s55,s56];go_simp) ((qo5.out W hb).mono ?_);rintro x W' ⟨A2,c2,rfl,hw2,hb'⟩;exact⟨_,rfl,next _ _ hb' ⟨A2,c2,rfl,hw2⟩⟩
  ·have o10:ρ (.tmp 10)=.pointer (some ⟨g10,0,none⟩):=hρ.out 10 rfl;exact q9 (w':=W) (by unfold execOp;simp only[o10];go_simp) (next _ _ (Below.refl _ _) rfl)
  ·have g58:cS a r A8 c8 S A cl l ly hd 3 (vs 3) W:=hG 3 (qu 3 (by kernel_rfl));have s58:ρ (.tmp 58)=.agg #[.int .i64 ((1-a:Nat):Int),.int .i64 (r:Int)]:=(hρ.at_ 58 3 rfl).trans g58;refine qj (f:=179) (args:=#[.agg #[.int .i64 ((1-a:Nat):Int),.int .i64 (r:Int)]]) (w':=W) (by unfold execOp;simp only[hfn,s58];go_simp) ((HWR.out W).mono ?_);rintro x W' ⟨rfl,hb'⟩;exact⟨_,rfl,next _ _ hb' rfl⟩
  ·have g59:cS a r A8 c8 S A cl l ly hd 4 (vs 4) W:=hG 4 (qu 4 (by kernel_rfl));have s59:ρ (.tmp 59)=.agg #[.int .i64 0,.string S]:=(hρ.at_ 59 4 rfl).trans g59;exact q9 (v:=.slice (some ⟨W.heap.size,0,none⟩) 1 1) (w':=W.alloc (.cells #[.int .i64 0,.string S] 105)) (by unfold execOp;simp only[s59];go_simp) (next _ _ ((Below.refl _ _).alloc (Nat.le_refl _) _) ⟨_,1,rfl,by rw[← HSS.out];exact qd3 0 hd (by unfold qD;omega)⟩)
  ·have o1:ρ (.tmp 1)=.slice A l.length cl:=hρ.out 1 rfl;exact q9 (w':=W) (by unfold execOp;simp only[o1];go_simp) (next _ _ (Below.refl _ _) rfl)
  ·obtain⟨A2,c2,g57,hw2⟩:cS a r A8 c8 S A cl l ly hd 2 (vs 2) W:=hG 2 (qu 2 (by kernel_rfl));have s57:ρ (.tmp 57)=.slice A2 r c2:=(hρ.at_ 57 2 rfl).trans g57;obtain⟨A5,c5,g60,hw5⟩:cS a r A8 c8 S A cl l ly hd 5 (vs 5) W:=hG 5 (qu 5 (by kernel_rfl));have s60:ρ (.tmp 60)=.slice A5 1 c5:=(hρ.at_ 60 5 rfl).trans g60;have g61:cS a r A8 c8 S A cl l ly hd 6 (vs 6) W:=hG 6 (qu 6 (by kernel_rfl));have s61:ρ (.tmp 61)=.slice A l.length cl:=(hρ.at_ 61 6 rfl).trans g61;exact q9 (v:=.slice (some ⟨W.heap.size,0,none⟩) 3 3) (w':=W.alloc (.cells #[.slice A2 r c2,.slice A5 1 c5,.slice A l.length cl] 89)) (by unfold execOp;simp only[s57,s60,s61];go_simp) (next _ _ ((Below.refl _ _).alloc (Nat.le_refl _) _) ⟨_,rfl,qgA HLY.out rfl hw2 hw5 (HWL.out W hb)⟩)
  ·obtain⟨b,g62,q5z⟩:cS a r A8 c8 S A cl l ly hd 7 (vs 7) W:=hG 7 (qu 7 (by kernel_rfl));have s62:ρ (.tmp 62)=.slice (some ⟨b,0,none⟩) 3 3:=(hρ.at_ 62 7 rfl).trans g62;exact q9 (w':=W) (by unfold execOp;simp only[s62];go_simp) (next _ _ (Below.refl _ _) ⟨b,rfl,q5z⟩)
 ·intro i o L vs W j want ho gZ qu hg hv hI;have hi9:i<9:=(Array.getElem?_eq_some_iff.1 ho).1;rcases i with _|_|_|_|_|_|_|_|_|i;all_goals (first|omega|skip)
  all_goals simp only[QA,QB,QC,Option.some.injEq]at ho
  all_goals subst ho
  all_goals simp only[reduceCtorEq]at hg
 intro vs W9 hI;obtain⟨b9,hG⟩:=hI;obtain⟨b,g8,hbs⟩:cS a r A8 c8 S A cl l ly hd 8 (vs 8) W9:=hG 8 (by decide) (by decide);have HB9:=QH (jt.out.trans (b9.mono jt.out.size));have HBS:=QH hbs;simp only[qR,qG,if_true];rw[g8];generalize vs 0=x0 at *;generalize vs 1=x1 at *;generalize vs 2=x2 at *;generalize vs 3=x3 at *;generalize vs 4=x4 at *;generalize vs 5=x5 at *;generalize vs 6=x6 at *;generalize vs 7=x7 at *;clear hG g8 b9 hbs;go_wp2_with fail;have hbl:∀m∈[ly,[(0,hd)],l],m.length≤1000:=fun m hm2=>by
  simp only[List.mem_cons,List.not_mem_nil,or_false]at hm2;rcases hm2 with rfl|rfl|rfl
  ·rw[HLY.out];omega
  ·simp
  ·omega
 have bK:=QH hbl;clear hbl;refine(uG (some ⟨b,0,none⟩) 3 [ly,[(0,hd)],l] W9 HBS.out (by simp) bK.out).mono ?_;rintro e W10 ⟨v10,rfl,q0Q,b10⟩;obtain⟨A10,c10,rfl,hints⟩:=q0Q.view (fun z hz=>by
  simp only[placesOf,List.flatten_cons,List.flatten_nil,List.map_append,List.mem_append,List.mem_map,List.map_nil,List.not_mem_nil,or_false]at hz;rcases hz with⟨x,hx,rfl⟩|⟨x,hx,rfl⟩|⟨x,hx,rfl⟩
  ·exact q0K.out x hx
  ·obtain rfl:x=_:=by simpa using hx
   unfold qD;dsimp only;omega
  ·have:=q0H.out x hx;unfold qD;omega)
 have HI:=QH hints;have q0R:=QH (qa HB9.out b10);have qtX:=QH (gA HBS.out b10);have hzl:=gz [ly,[(0,hd)],l] bK.out;simp only[List.length_cons,List.length_nil]at hzl;clear q0Q hints b10 HBS;go_wp2_with fail;refine(wu (HD.out.below q0R.out) A10 c10 _ HI.out (by omega)).mono ?_;rintro e W11 ⟨rfl,b11⟩;have qss:=QH (qa q0R.out b11);have q0S:=QH (gA qtX.out b11);clear b11 qtX;cases qnn:d.fits (placesOf [ly,[(0,hd)],l])with
 | false =>
  have uV:=cY.out;rw[if_pos qnn]at uV;subst uV;go_wp2_with fail;go_ret;exact xt HD.out qss.out
 | true =>
  have uV:=cY.out;rw[if_neg (by rw[qnn];simp)]at uV;have q53:=QH uV;clear uV cY;go_wp2_with fail;refine(ar p _ 3 [ly,[(0,hd)],l] _ (Nat.lt_of_lt_of_le hpl qss.out.size) q0S.out (by simp) bK.out).mono ?_;rintro e W12 ⟨v,rfl,hgg⟩;have HG:=QH hgg;clear hgg;go_wp2_with fail;refine(l7 (HD.out.below qss.out) HG.out (by rw[qbJ,HLY.out];simp;omega) jo).mono ?_;rintro e W13 yO;have HPO:=QH (xy.from yO qss.out HD.out.low);obtain⟨rfl,_⟩:=yO;rw[q53.out]at HPO ⊢;go_wp2_with fail;go_ret;exact HPO.out
end
end Go.Proofs.YtdpbdkacngaemaaGreatDoor.jr
namespace Go.Proofs.YtdpbdkacngaemaaGreatDoor.jr
open _root_.Go.Proofs.Tryz Go Go.RowKit dk wi
theorem qo7(a b:List UInt8):str a++str b=str (a++b):=by
 apply ByteArray.ext;apply Array.ext';simp[str]
theorem qo8(l:List UInt8)(n:Nat)(h:l=[0]):Lib.repeatL l n=List.replicate n 0:=by
 subst h
 induction n with
 | zero=>rfl
 | succ n ih=>rw[List.replicate_succ,← ih];rfl
theorem qie:qoh:=by
 intro a c w ha hc;have e1:(a:Int)+1=((a+1:Nat):Int):=by omega
 have E1:=QH e1;have ha1:(a:Int)≤1:=by omega
 have hc1:(c:Int)≤72:=by omega
 clear e1;go_enter func179,ntmps179;go_wp2_with fail;rw[E1.out];have hA:qf ((w.alloc (.cells #[.int .i64 (a:Int),.int .i64 (c:Int)] 188)).alloc (.cells #[.int .i64 0,.string ⟨#[]⟩] 105)) w.heap.size 188 #[.int .i64 (a:Int),.int .i64 (c:Int)]:=by
  have k:=qf.new w 188 #[.int .i64 (a:Int),.int .i64 (c:Int)];exact k.of_block (((Below.refl _ (w.alloc (.cells #[.int .i64 (a:Int),.int .i64 (c:Int)] 188))).alloc (Nat.le_refl _) _).block _ k.lt)
 have hA2:qf ((w.alloc (.cells #[.int .i64 (a:Int),.int .i64 (c:Int)] 188)).alloc (.cells #[.int .i64 0,.string ⟨#[]⟩] 105)) (w.heap.size+1) 105 #[.int .i64 0,.string ⟨#[]⟩]:=by
  have:=qf.new (w.alloc (.cells #[.int .i64 (a:Int),.int .i64 (c:Int)] 188)) 105 #[.int .i64 0,.string ⟨#[]⟩];simpa using this
 have hB0:Below w.heap.size w ((w.alloc (.cells #[.int .i64 (a:Int),.int .i64 (c:Int)] 188)).alloc (.cells #[.int .i64 0,.string ⟨#[]⟩] 105)):=((Below.refl w.heap.size w).alloc (Nat.le_refl _) _).alloc (by simp) _;refine(ke ⟨#[]⟩ (a+1) _ (by omega) (by decide)).mono ?_;rintro e W1 ⟨rfl,b1⟩;have HA:=QH (hA.of_block (b1.block _ hA.lt));have wb:=QH (hA2.of_block (b1.block _ hA2.lt));have HB:=QH (qa hB0 b1);have q1:=HA.out.cell 1;have lt1:=HA.out.lt;obtain⟨S1,hS1⟩:=QE (str (bl ⟨#[]⟩++zu (a+1)));have hl1:=qx (a+1);have zca:S1.size≤9:=by
  rw[← hS1,qN,List.length_append];have:(bl ⟨#[]⟩).length=0:=rfl;omega
 rw[hS1];have bY:=QH hS1;clear hA hA2 hB0 b1 hS1;go_wp2_with fail;refine(ke S1 c _ (by omega) (by omega)).mono ?_;rintro e W2 ⟨rfl,b2⟩;have HC:=QH (wb.out.of_block (b2.block _ wb.out.lt));have qA:=QH (qa HB.out b2);have lt2:=HC.out.lt;have q2:=HC.out.frozen 0;obtain⟨S2,hS2⟩:=QE (str (bl S1++zu c));have hl2:=qx c;have q4N:S2.size≤18:=by rw[← hS2,qN,List.length_append,zj];omega
 have zcb:(S2.size:Int)≤18:=by omega
 rw[hS2];have kT:=QH hS2;clear hS2 b2 q1 lt1;go_wp2_with fail;have en:(32:Int)-(S2.size:Int)=((32-S2.size:Nat):Int):=by omega
 rw[en];refine(Tryz.strings_Repeat ⟨#[0]⟩ (32-S2.size) _ (by omega) (by have:(⟨#[0]⟩:ByteArray).size=1:=rfl;rw[this];omega)).mono ?_;rintro e W3 ⟨rfl,b3⟩;obtain⟨R,hR⟩:=QE ((⟨(Lib.repeatL (⟨#[0]⟩:ByteArray).data.toList (32-S2.size)).toArray⟩:ByteArray):ByteArray);rw[hR];have hRs:R.size=32-S2.size:=by
  rw[← hR,qo8 _ _ rfl];show(List.replicate (32-S2.size) (0:UInt8)).toArray.size=_;rw[List.size_toArray,List.length_replicate]
 have HR:=QH hR;have HD:=QH (HC.out.of_block (b3.block _ lt2));have zv:=QH (qa qA.out b3);have lt3:=HD.out.lt;have q3:=HD.out.frozen 0;have q4:=HD.out.frozen 1;have q5:=HD.out.cell 0;have q6:=HD.out.cell 1;clear b3 hR q2 lt2;go_wp2_with fail;have hE:=(HD.out.qg 0 (.int .i64 0)).qg 1 (.string (S2++R));have q7:=hE.cell 0;have q8:=hE.cell 1;have hout:str (kQ a c)=S2++R:=by
  have hz:S2.size=(zu (a+1)).length+(zu c).length:=by
   rw[← kT.out,qN,List.length_append,zj,← bY.out,qN,List.length_append];have:(bl ⟨#[]⟩).length=0:=rfl;omega
  have h2:S2=str (zu (a+1)++zu c):=by rw[← kT.out,← bY.out,zw];rfl
  have h3:R=str (List.replicate (32-(zu (a+1)).length-(zu c).length) 0):=by
   rw[← HR.out,qo8 _ _ rfl,hz,Nat.sub_add_eq];rfl
  rw[h2,h3,qo7];rfl
 have HO:=QH hout;clear hout hE
 (try simp only[Exit.inBlock,Exit.then])
 refine bodyPost_ret (v:=.agg #[.int .i64 0,.string (S2++R)]) (by simp[results,results179,go_sem,q7,q8]) rfl ⟨by rw[HO.out],(zv.out.setCell (p:=⟨w.heap.size+1,0,none⟩) (Nat.le_succ _) _).setCell (p:=⟨w.heap.size+1,1,none⟩) (Nat.le_succ _) _⟩
def m1 (s:Bt):Nat:=match rdNum s with|none=>0|some (m,_)=>m
def c1 (s:Bt):Nat:=match rdNum s with|none=>0|some (_,r)=>match rdNum r with|none=>0|some (c,_)=>c
theorem qap{a c:Nat}(ha:a<2)(hc:c≤72):m1 (kQ a c)=a+1∧c1 (kQ a c)=c:=by
 unfold m1 c1 kQ;rw[List.append_assoc,um (a+1) (by omega)];dsimp only;rw[um c (by omega)];exact⟨rfl,rfl⟩
theorem qst(s:Bt):br s=if m1 s<1∨2<m1 s∨72<c1 s then none else if kQ (m1 s-1) (c1 s)=s then some (m1 s-1,c1 s)else none:=by
 by_cases h:m1 s<1∨2<m1 s∨72<c1 s
 ·rw[if_pos h];cases hx:br s with
  | none=>rfl
  | some p =>
   obtain⟨a,c⟩:=p;obtain⟨ha,hc,rfl⟩:=uu hx;have:=qap ha hc;omega
 ·rw[if_neg h];by_cases he:kQ (m1 s-1) (c1 s)=s
  ·rw[if_pos he];have:=(uL (a:=m1 s-1) (c:=c1 s) (by omega) (by omega)).2.1;rw[he]at this;exact this
  ·rw[if_neg he];cases hx:br s with
   | none=>rfl
   | some p =>
    obtain⟨a,c⟩:=p;obtain⟨ha,hc,rfl⟩:=uu hx;have:=qap ha hc;rw[this.1,this.2]at he;exact absurd rfl he
def q0T (rb:Nat)(s:Bt)(w:World)(e:Ending)(w':World):Prop :=
 e=.returned (.int .u64 (m1 s:Int))∧m1 s<18446744073709551616∧w.grownBy w' (some rb)∧((∃m r,rdNum s=some (m,r)∧zr rb r false w')∨(rdNum s=none∧∃m,zr rb m true w'))
def q0U (rb:Nat)(s:Bt)(w:World)(e:Ending)(w':World):Prop :=
 e=.returned (.int .u64 (c1 s:Int))∧c1 s<18446744073709551616∧w.grownBy w' (some rb)
theorem q0V{rb:Nat}{s:Bt}{w:World}(h:zr rb s false w):Calls prog 191 #[.pointer (some ⟨rb,0,none⟩)] w (q0T rb s w):=by
 refine(vZ rb s w h).mono ?_;rintro e w' ⟨hg,⟨z,r1,hn,rfl,hr⟩|⟨hn,rfl,hm⟩⟩
 ·have e1:m1 s=z:=by unfold m1;rw[hn]
  exact⟨by rw[e1],by rw[e1];exact(dx _ _ _ hn).2,hg,.inl ⟨z,r1,hn,hr⟩⟩
 ·have e1:m1 s=0:=by unfold m1;rw[hn]
  exact⟨by rw[e1];rfl,by rw[e1];decide,hg,.inr ⟨hn,hm⟩⟩
theorem q0W{rb:Nat}{s:Bt}{w:World}(h:(∃m r,rdNum s=some (m,r)∧zr rb r false w)∨(rdNum s=none∧∃m,zr rb m true w)):Calls prog 191 #[.pointer (some ⟨rb,0,none⟩)] w (q0U rb s w):=by
 rcases h with⟨m,r,hs,h⟩|⟨hs,m,h⟩
 ·refine(vZ rb r w h).mono ?_;rintro e w' ⟨hg,⟨z,r1,hn,rfl,hr⟩|⟨hn,rfl,hm⟩⟩
  ·have e1:c1 s=z:=by unfold c1;rw[hs];dsimp only;rw[hn]
   exact⟨by rw[e1],by rw[e1];exact(dx _ _ _ hn).2,hg⟩
  ·have e1:c1 s=0:=by unfold c1;rw[hs];dsimp only;rw[hn]
   exact⟨by rw[e1];rfl,by rw[e1];decide,hg⟩
 ·refine(nL rb m w h).mono ?_;rintro e w' ⟨rfl,rfl⟩;have e1:c1 s=0:=by unfold c1;rw[hs]
  exact⟨by rw[e1];rfl,by rw[e1];decide,kg _ _⟩
theorem qo9:qoi:=by
 intro most w own p d h xa hn;have bw:d.read 0=(rd d.now 0,0):=by
  unfold DD.read;have:d.has 0=true:=by
   simp only[DD.has,Bool.and_eq_true,decide_eq_true_eq];omega
  rw[if_neg (by rw[xa];simp),if_neg (by rw[this];simp)];rfl
 have h32:(rd d.now 0).length=32:=by
  unfold rd;cases hx:dk.look d.now 0 with
  | none=>exact ze
  | some u=>exact h.1.tP hx
 generalize rd d.now 0=x at *;obtain⟨res,hres⟩:=QE (br x);rw[hres];rw[qst]at hres;have xj:=QH hres;have HD:=QH h;have dv:=QH bw;have H32:=QH h32;have hb0:Below w.heap.size w (w.alloc (.cells #[.int .i64 0,.int .i64 0] 188)):=(Below.refl w.heap.size w).alloc (Nat.le_refl _) _;have hk0:qf (w.alloc (.cells #[.int .i64 0,.int .i64 0] 188)) w.heap.size _ _:=qf.new w _ _;have jt:=QH hb0;have HK0:=QH hk0;clear h bw h32 hres hb0 hk0;go_enter func117,ntmps117;go_wp2_with fail;refine(qhT (B:=0) ⟨own,HD.out.below jt.out,fun _ _=>Nat.zero_le _⟩ 0 x (str x) rfl 0 dv.out).mono ?_;rintro e W1 ⟨rfl,_,b1⟩;have bz:=QH (HK0.out.of_block (b1.block _ HK0.out.lt));have qO:=QH (qa jt.out b1);obtain⟨X,hX⟩:=QE (str x);rw[hX];have HX:=QH hX;clear b1 hX;go_wp2_with fail;refine(qaE X W1 (by rw[← HX.out,qN,H32.out];decide)).mono ?_;rintro e W2 ⟨rb,rfl,hrb,hR,b2⟩;have jM:=QH hR;have jV:=QH (bz.out.of_block (b2.block _ bz.out.lt));have qA:=QH (qa qO.out b2);have hne:rb≠w.heap.size:=by have:=bz.out.lt;omega
 clear b2 hR;go_wp2_with fail;have hRx:zr rb x false W2:=by
  have:=jM.out;rw[← HX.out,zw]at this;exact this
 refine(q0V hRx).mono ?_;rintro e W3 ⟨rfl,q55,g3,hst⟩;have HST:=QH hst;have sF:=QH (jV.out.of_block (g3.block _ jV.out.lt (by simpa using Ne.symm hne)));have zv:=QH (qA.out.grown g3 qA.out.size (fun j hj=>by simp at hj;have:=qO.out.size;omega));clear hRx hst g3;go_wp2_with fail;refine(q0W HST.out).mono ?_;rintro e W4 ⟨rfl,q56,g4⟩;have ed:=QH (sF.out.of_block (g4.block _ sF.out.lt (by simpa using Ne.symm hne)));have zx:=QH (zv.out.grown g4 zv.out.size (fun j hj=>by simp at hj;have:=qO.out.size;omega));clear g4;obtain⟨m,hm⟩:=QE (m1 x);obtain⟨c,hc⟩:=QE (c1 x);have hres:=xj.out;rw[hm,hc]at hres;rw[hm]at q55;rw[hc]at q56;rw[hm,hc];clear xj hm hc bz jV sF qO qA zv HST;have lt4:=ed.out.lt;have f0:=ed.out.frozen 0;have f1:=ed.out.frozen 1;have q0:=ed.out.cell 0;have q1:=ed.out.cell 1;have hno:∀W,Below w.heap.size w W→res=none→pH res w (.returned (.tuple #[.agg #[.int .i64 0,.int .i64 0],.bool false])) W:=by
  intro W hb hr;subst hr;exact⟨hb,0,0,rfl⟩
 have jT:=QH hno;clear hno;by_cases hlo:m<1
 ·have c1:((m:Int)<1):=by omega
  rw[if_pos (.inl hlo)]at hres;have nt:=QH hres;clear hres;go_wp2_with fail;have hE:=(ed.out.qg 0 (.int .i64 0)).qg 1 (.int .i64 0);have q7:=hE.cell 0;have q8:=hE.cell 1
  (try simp only[Exit.inBlock,Exit.then])
  refine bodyPost_ret (v:=.tuple #[.agg #[.int .i64 0,.int .i64 0],.bool false]) (by simp[results,results117,go_sem,q7,q8]) rfl (jT.out _ ((zx.out.setCell (p:=⟨w.heap.size,0,none⟩) (Nat.le_refl _) _).setCell (p:=⟨w.heap.size,1,none⟩) (Nat.le_refl _) _) nt.out.symm)
 ·by_cases hhi:2<m
  ·have c1:¬ ((m:Int)<1):=by omega
   have c2:(2:Int)<(m:Int):=by omega
   rw[if_pos (.inr (.inl hhi))]at hres;have nt:=QH hres;clear hres;go_wp2_with fail;have hE:=(ed.out.qg 0 (.int .i64 0)).qg 1 (.int .i64 0);have q7:=hE.cell 0;have q8:=hE.cell 1
   (try simp only[Exit.inBlock,Exit.then])
   refine bodyPost_ret (v:=.tuple #[.agg #[.int .i64 0,.int .i64 0],.bool false]) (by simp[results,results117,go_sem,q7,q8]) rfl (jT.out _ ((zx.out.setCell (p:=⟨w.heap.size,0,none⟩) (Nat.le_refl _) _).setCell (p:=⟨w.heap.size,1,none⟩) (Nat.le_refl _) _) nt.out.symm)
  ·by_cases h72:72<c
   ·have c1:¬ ((m:Int)<1):=by omega
    have c2:¬ (2:Int)<(m:Int):=by omega
    have c3:(72:Int)<(c:Int):=by omega
    rw[if_pos (.inr (.inr h72))]at hres;have nt:=QH hres;clear hres;go_wp2_with fail;have hE:=(ed.out.qg 0 (.int .i64 0)).qg 1 (.int .i64 0);have q7:=hE.cell 0;have q8:=hE.cell 1
    (try simp only[Exit.inBlock,Exit.then])
    refine bodyPost_ret (v:=.tuple #[.agg #[.int .i64 0,.int .i64 0],.bool false]) (by simp[results,results117,go_sem,q7,q8]) rfl (jT.out _ ((zx.out.setCell (p:=⟨w.heap.size,0,none⟩) (Nat.le_refl _) _).setCell (p:=⟨w.heap.size,1,none⟩) (Nat.le_refl _) _) nt.out.symm)
   ·have c1:¬ ((m:Int)<1):=by omega
    have c2:¬ (2:Int)<(m:Int):=by omega
    have c3:¬ (72:Int)<(c:Int):=by omega
    rw[if_neg (by omega)]at hres;obtain⟨k,rfl⟩:∃k,m=k+1:=⟨m-1,by omega⟩;have e1:((k+1:Nat):Int)-1=(k:Int):=by omega
    rw[Nat.add_sub_cancel]at hres;have nt:=QH hres;have E1:=QH e1;have hk2:k<2:=by omega
    have q57:c≤72:=by omega
    clear hres e1;go_wp2_with fail;have kb5:qf (W4.alloc (.cells #[.int .i64 (k:Int),.int .i64 (c:Int)] 188)) W4.heap.size _ _:=qf.new W4 _ _;have hb5:Below w.heap.size w (W4.alloc (.cells #[.int .i64 (k:Int),.int .i64 (c:Int)] 188)):=zx.out.alloc zx.out.size _;have hk5:qf (W4.alloc (.cells #[.int .i64 (k:Int),.int .i64 (c:Int)] 188)) w.heap.size 188 #[.int .i64 0,.int .i64 0]:=ed.out.of_block (((Below.refl W4.heap.size W4).alloc (Nat.le_refl _) _).block _ lt4);have KB5:=QH kb5;have yw:=QH hb5;have HK5:=QH hk5;clear kb5 hb5 hk5 q0 q1 f0 f1 lt4;refine(qie k c _ hk2 q57).mono ?_;rintro e W6 ⟨rfl,b6⟩;have kb6:qf W6 W4.heap.size _ _:=KB5.out.of_block (b6.block _ KB5.out.lt);have rY:qf W6 w.heap.size 188 #[.int .i64 0,.int .i64 0]:=HK5.out.of_block (b6.block _ HK5.out.lt);have dL:=QH (qa yw.out b6);have HK6:=QH rY;have r0:=kb6.cell 0;have r1:=kb6.cell 1;have lt6:=rY.lt;have zcc:=kb6.lt;have q0:=rY.cell 0;have q1:=rY.cell 1;have f0:=rY.frozen 0;have f1:=rY.frozen 1;clear kb6 rY b6 KB5 yw HK5 zx ed;have gW:∀(Z:ByteArray) (W:World),(Instr.field 105 (.agg #[.int .i64 0,.string Z]) 1).run prog W=.ok (.string Z) W:=fun Z W=>by simp[Instr.field,go_sem,asAgg]
    obtain⟨Y,hY⟩:=QE (str (kQ k c));rw[hY];have HY:=QH hY;clear hY;by_cases heq:kQ k c=x
    ·have hsome:res=some (k,c):=by rw[← nt.out,if_pos heq]
     have hYX:Y=X:=by rw[← HY.out,← HX.out,heq]
     have hq:(Y.toList == X.toList)=true:=by rw[hYX];simp
     have HS:=QH hsome;clear hsome hYX nt heq;go_wp2_with fail;have hE:=(HK6.out.qg 0 (.int .i64 (k:Int))).qg 1 (.int .i64 (c:Int));have q7:=hE.cell 0;have q8:=hE.cell 1
     (try simp only[Exit.inBlock,Exit.then])
     refine bodyPost_ret (v:=.tuple #[.agg #[.int .i64 (k:Int),.int .i64 (c:Int)],.bool true]) (by simp[results,results117,go_sem,q7,q8]) rfl ?_;rw[HS.out];exact⟨(dL.out.setCell (p:=⟨w.heap.size,0,none⟩) (Nat.le_refl _) _).setCell (p:=⟨w.heap.size,1,none⟩) (Nat.le_refl _) _,rfl⟩
    ·have hnone:res=none:=by rw[← nt.out,if_neg heq]
     have hYX:Y≠X:=by
      intro h;rw[← HY.out,← HX.out]at h;exact heq (str_inj h)
     have hq:(Y.toList == X.toList)=false:=by
      rw[beq_eq_false_iff_ne];intro h;apply hYX;rw[← il Y,← il X];exact congrArg str (by simpa[bl,ByteArray.toList_eq]using h)
     have HS:=QH hnone;clear hnone hYX nt heq;go_wp2_with fail;have hE:=(HK6.out.qg 0 (.int .i64 0)).qg 1 (.int .i64 0);have q7:=hE.cell 0;have q8:=hE.cell 1
     (try simp only[Exit.inBlock,Exit.then])
     refine bodyPost_ret (v:=.tuple #[.agg #[.int .i64 0,.int .i64 0],.bool false]) (by simp[results,results117,go_sem,q7,q8]) rfl ?_;exact jT.out _ ((dL.out.setCell (p:=⟨w.heap.size,0,none⟩) (Nat.le_refl _) _).setCell (p:=⟨w.heap.size,1,none⟩) (Nat.le_refl _) _) HS.out
end Go.Proofs.YtdpbdkacngaemaaGreatDoor.jr
namespace Go.Proofs.YtdpbdkacngaemaaGreatDoor.vt.pg
open _root_.Go.Proofs.Tryz Go Go.RowKit Go.Sort ib mt im sp
theorem fQ (t:Tg):∀(ss:List Bt) (o:Nat),bL (fun x=>decide (t x.1=x.2)) (jr.zn o ss)=xd t o ss
 | [],_=>rfl
 | s::r,o=>by
  have ih:=fQ t r (o+1);unfold bL at ih ⊢;unfold jr.zn xd;rw[List.filter_cons,ih];by_cases h:t (o:Int)=s <;> simp[h]
theorem mr {ss:List Bt}{o:Nat}{x:Wr}(h:x∈jr.zn o ss):(o:Int)≤x.1∧x.1<((o+ss.length:Nat):Int):=by
 obtain⟨i,hi,h1,_⟩:=jr.jE ss o x h;omega
def qgB (G:Nat→Prop)(w:World)(A:Option Addr)(n:Nat)(M:Nat→Mt):Prop:=∀i,i<n→∃b o f,A=some ⟨b,o,none⟩∧b<w.heap.size∧w.cell? ⟨b,o+i,none⟩=some f∧wH G w f (M i) (M (i+1))
theorem qgB.below{G:Nat→Prop}{w w':World}{A:Option Addr}{n:Nat}{M:Nat→Mt}(h:qgB G w A n M)(hb:Below w.heap.size w w'):qgB G w' A n M:=fun i hi=>by
 obtain⟨b,o,f,h1,h2,h3,h4⟩:=h i hi;exact⟨b,o,f,h1,Nat.lt_of_lt_of_le h2 hb.size,(hb.cell (p:=⟨b,o+i,none⟩) h2).trans h3,h4.below hb⟩
def EfR (G:Nat→Prop)(g:Nat)(n:Nat)(M:Nat→Mt)(w:World)(i:Value)(wr:World):Prop :=
 ∃k:Nat,k≤n∧i=.int .i64 (k:Int)∧Nx G wr g (M k)∧Below w.heap.size w wr
def BlR (B:Nat)(l:List Wr)(P:List Pl)(w:World)(v i:Value)(wr:World):Prop :=
 ∃k:Nat,k≤P.length∧i=.int .i64 (k:Int)∧jr.mj wr B v (l++pT (P.take k))∧Below w.heap.size w wr
theorem qoA{P:List Pl}{k:Nat}(h:k<P.length):pT (P.take (k+1))=pT (P.take k)++(if P[k].2.1=0 then[]else[(P[k].2.1,P[k].2.2)]):=by
 unfold pT;rw[List.take_succ_eq_append_getElem h,List.filterMap_append]
 congr 1
 by_cases e:P[k].2.1=0 <;> simp[e]
theorem nv {b N:Nat}{m:Mt}(h:jI b N m):mtS m:=by
 refine⟨?_,?_,fun s hs=>?_,?_⟩
 ·have:=h.len;have:=h.b8;omega
 ·have:=h.few;omega
 ·have:=(h.dC s hs).1;have:=h.b8;omega
 ·rcases h.tok with ht|ht
  ·rw[ht];simp[yB]
  ·have:=ht.2.2.2.2.2.1;have:=h.b8;omega
def q0Y (S:Nat)(o1 o2:Nat→Prop)(v pd:Nat)(Q:Int→DD→Mt→Bool→Prop)(w:World)(e:Ending)(w':World):Prop :=
 ∃r d' m' lost sK iV,e=.returned (.int .i64 r)∧VP ag w' sK iV v pd d' m' lost∧ib.qz (fun j=>o1 j∨o2 j) w w'∧(∀j,sK j∨iV j→(o1 j∨o2 j)∨S≤j)∧Q r d' m' lost
theorem qgC{o1 o2:Nat→Prop}{w:World}{v pd N S b n:Nat}{d:DD}{m m':Mt}{t:Tg}{ws:List Wr}{M:Nat→Mt}(h:VP ag w o1 o2 v pd d m false)(hJ:jr.JJ N t d)(hf:0≤d.qy)(hR:yb b N t m)(hS:S≤w.heap.size)(xu:∀j,o1 j∨o2 j∨j=gN→j<S)
    (hM0:M 0=m) (hMn:M n=m') (hok:jI b N m') (sJ:tZ N m ws) {A:Option Addr} {c:Nat} (hE:qgB (fun j=>(o1 j∧j≠v)∨S≤j) w A n M) (hn:n≤10) {B:Option Addr} {cb:Nat} {P:List Pl} (hP:PlL w B P) (hpl:P.length≤100) (hPW:pT P=ws) :
    Calls prog 63 #[pt v,.slice B P.length cb,.slice A n c] w (q0Y S o1 o2 v pd (qj3 N t d m ⟨0,m',ws⟩) w):=by
 obtain⟨iw,wi1,wi2,wi3,wi4⟩:=info_parts qb8;obtain⟨A0,A1,A2,c0,c1,c2,hA⟩:=h.is;have HV:=QH h;have HA:=QH hA;have HJ:=QH hJ;have HR:=QH hR;have HE:=QH hE;have HP:=QH hP;have lR:=QH hok;have HWS:=QH sJ;have HPW:=QH hPW;have HS:=QH hS;have q1a:=QH xu;have HMN:=QH hMn;have ll:=QH hf;obtain⟨klt,k0,k1,k2,k3,k4,k5,k6,k7,k8,k9,ee⟩:=hA.cells;have vk:=(Below.refl _ w).alloc (Nat.le_refl _) (.cells (zF A0 A1 A2 c0 c1 c2 m) 96);have nk:=qf.new w 96 (zF A0 A1 A2 c0 c1 c2 m);obtain⟨W1,hW1⟩:=QE (w.alloc (.cells (zF A0 A1 A2 c0 c1 c2 m) 96));rw[hW1]at vk nk;obtain⟨g,hg⟩:=QE w.heap.size;have HG:=QH hg;have qO:=QH vk;have HN1:Hid (Nx (fun j=>(o1 j∧j≠v)∨S≤j) W1 g (M 0)):=by
  refine⟨A0,A1,A2,c0,c1,c2,by rw[hM0,← hg];exact nk,?_⟩;rw[hM0];exact(hA.tab.mono (fun j hj=>⟨.inl hj,by have:=hA.low j hj.1;omega⟩)).below vk
 clear h hA hJ hR hE hP hok sJ hPW hS xu hMn hM0 vk nk hf;unfold zF at hW1;go_enter func63,ntmps63;go_upto_region 2 with fail;try rw[hW1]
 try rw[hg]
 clear hW1 hg k0 k1 k2 k3 k4 k5 k6 k7 k8 k9 ee klt;go_wp2_with fail;go_loopw [20] (fun i wr=>EfR (fun j=>(o1 j∧j≠v)∨S≤j) g n M w i wr) (fun i _=>n-(intOf i).toNat);case atStart=>exact⟨0,Nat.zero_le _,rfl,HN1.out,qO.out⟩
 case round =>
  obtain⟨k,hk,rfl,hnx,hB⟩:=hrel;have kU:=QH hnx;have HB:=QH hB;clear hnx hB;by_cases hlt:k<n
  ·have yt:(k:Int)<(n:Int):=by omega
   have hk0:¬ (k:Int)<0:=by omega
   obtain⟨b',o',f,rfl,s1,s2,kf,uP,rfl,hcf,qdw⟩:=HE.out k hlt;have q1:=Nat.lt_of_lt_of_le s1 HB.out.size;have q2:=(HB.out.cell (p:=⟨b',o'+k,none⟩) s1).trans s2;have kJ:=QH (qdw wr g HB.out (by rw[HG.out];exact Nat.le_refl _) kU.out);clear s1 s2 qdw;go_wp2_with fail;refine kJ.out.mono ?_;rintro e W2 ⟨rfl,q1d,hbu⟩;have q59:=QH q1d;have qA:Hid (Below w.heap.size w W2):=HB.out.trans (hbu.below (fun i e=>by rw[e,← HG.out];exact Nat.le_refl _) HB.out.size);clear q1d hbu kJ q1 q2;go_wp2_with fail;go_roundw;case rel=>exact⟨k+1,by omega,by go_num,q59.out,qA.out⟩
   case measure=>simp[intOf];omega
  ·obtain rfl:k=n:=by omega
   obtain⟨wo,hwo⟩:∃x,x=wr:=⟨_,rfl⟩;subst hwo;have yt:¬ (k:Int)<(k:Int):=by omega
   obtain⟨X0,X1,X2,d0,d1,d2,hxk,hxt⟩:=kU.out.ex;rw[HMN.out]at hxk hxt;have HXK:=QH hxk;have HXT:=QH hxt;have hsz:mtS m':=nv lR.out;have tO:=QH hsz;have ij:xY wo:=HA.out.ct.below HB.out HA.out.ct.1;have dr:=QH ij;have hwr:=pD hxt.mt hsz (lR.out.enc HR.out.N1) (lR.out.size HR.out.N1) ij;have HWR:=QH hwr;have j0:=hxk.cell 0;have j1:=hxk.cell 1;have j2:=hxk.cell 2;have j3:=hxk.cell 3;have j4:=hxk.cell 4;have j5:=hxk.cell 5;have j6:=hxk.cell 6;have j7:=hxk.cell 7;have j8:=hxk.cell 8;have jlt:=hxk.lt;simp only[zF,QA,QB,QC]at j0 j1 j2 j3 j4 j5 j6 j7 j8;unfold zF at HWR;clear hxk hxt hsz ij hwr kU;go_wp2_with fail;refine HWR.out.mono ?_;rintro e W2 ⟨vl,rfl,hol,hb2⟩;have HOL:=QH hol;have qA:=QH hb2;have hts:=xW lR.out HR.out.N1;have HTS:=QH hts;have vY:Hid ((jr.zn 145 (xO m')).length=(xO m').length):=by unfold Hid;rw[jr.zh]
   have HTC:Hid (qoa wo 141 (pt v) (fun x=>decide (t x.1=x.2)) (jr.zn 145 (xO m'))):=fun W hW x hx=>by
    have hr:=mr hx;have h2:=HTS.out.2;have h3:=HR.out.N0;exact qjZ (qZ HV.out (qa HB.out hW)) HJ.out x hr.1 (by omega)
   have hdel:=qrL (b:=pt v) hol (by rw[vY.out];omega) (by rw[vY.out];omega) hb2 HTC.out;rw[show qod (jr.zn 145 (xO m')) (fun x=>decide (t x.1=x.2)) wo=qod (jr.zn 145 (xO m')) (fun x=>decide (t x.1=x.2)) wo from rfl]at hdel;have q1e:=QH hdel;clear hol hb2 hts hdel HWR j0 j1 j2 j3 j4 j5 j6 j7 j8 jlt;go_wp2_with fail;refine q1e.out.mono ?_;rintro e W3 ⟨v3,rfl,ho3,hb3⟩;rw[fQ]at ho3;have HO3:=QH ho3;have zv:=QH hb3;have HLD:=QH (aT (t:=t) (xO m') 145);obtain⟨td,htd⟩:=QE (xd t 145 (xO m'));have HTD:=QH htd;rw[htd]at HO3 HLD;clear ho3 hb3 htd q1e HTC HOL;go_wp2_with fail;go_loopw [10,41] (fun v i wz=>BlR wo.heap.size td P wo v i wz) (fun _ i _=>P.length-(intOf i).toNat);case atStart=>exact⟨0,Nat.zero_le _,rfl,by simpa[pT]using HO3.out,zv.out⟩
   case round =>
    obtain⟨k,hk,rfl,ho,hB4⟩:=hrel;have HO:=QH ho;have zx:=QH hB4;have ja:=QH (qa HB.out hB4);clear ho hB4;by_cases hlt:k<P.length
    ·have q5B:(k:Int)<(P.length:Int):=by omega
     have hk0:¬ (k:Int)<0:=by omega
     obtain⟨b',o',rfl,s1,s2,s3,s4⟩:=(HP.out.below ja.out) k hlt;have HPT:=QH (qoA hlt);have hlen:(pT (P.take k)).length≤100:=by
      have h1:(pT (P.take k)).length≤(P.take k).length:=List.length_filterMap_le _ _;rw[List.length_take]at h1;omega
     obtain⟨x,hx⟩:=QE (P[k]);rw[hx]at HPT s2 s3 s4;clear hx;obtain⟨bk,at_,s⟩:=x;dsimp only at HPT s2 s3 s4;obtain⟨SS,hSS⟩:=QE (str s);have HSS:=QH hSS;rw[hSS]at s4;have vk:=(Below.refl _ wr).alloc (Nat.le_refl _) (.cells #[.int .i64 bk,.int .i64 at_,.string SS] 214);have nk:=qf.new wr 214 #[.int .i64 bk,.int .i64 at_,.string SS];obtain⟨W5,ic⟩:=QE (wr.alloc (.cells #[.int .i64 bk,.int .i64 at_,.string SS] 214));rw[ic]at vk nk;have v1:=nk.cell 1;have v2:=nk.cell 2;have hvl:=nk.lt;simp only[QA,QB,QC]at v1 v2;have yw:=QH (qa zx.out vk);have HO5:Hid (jr.mj W5 wo.heap.size _ (td++pT (P.take k))):=qC HO.out (fun j hj=>vk.block j (HO.out.lt j hj).2);by_cases h0:at_=0
     ·have hz0:(at_ == 0)=true:=by rw[h0];rfl
      have HP0:Hid (td++pT (P.take (k+1))=td++pT (P.take k)):=by unfold Hid;rw[HPT.out,if_pos h0,List.append_nil]
      clear vk nk h0 HPT hSS;go_upto_region 14 with fail;try rw[ic]
      clear ic s1 s2 s3 s4;go_wp2_with fail;go_roundw;case rel=>exact⟨k+1,by omega,by go_num,by rw[HP0.out];exact HO5.out,yw.out⟩
      case measure=>simp[intOf];omega
     ·have hz0:(at_ == 0)=false:=beq_false_of_ne h0;have HP1:Hid (td++pT (P.take (k+1))=(td++pT (P.take k))++[(at_,s)]):=by unfold Hid;rw[HPT.out,if_neg h0,List.append_assoc]
      have hby:=(Below.refl _ W5).alloc (Nat.le_refl _) (.cells #[.int .i64 at_,.string SS] 105);have HO6:Hid (jr.mj (W5.alloc (.cells #[.int .i64 at_,.string SS] 105)) wo.heap.size _ (td++pT (P.take k))):=qC HO5.out (fun j hj=>hby.block j (HO5.out.lt j hj).2);have dL:=QH (qa yw.out hby);have wI:Hid (∀j u,([.int .i64 at_,.string SS]:List Value)[j]?=some u→(W5.alloc (.cells #[.int .i64 at_,.string SS] 105)).cell? ((⟨W5.heap.size,0,none⟩:Addr).add j)=some u):=fun j u hu=>by
       rw[addr_add,Nat.zero_add,(qf.new W5 105 #[.int .i64 at_,.string SS]).cell j];simpa using hu
      have e1:∀u∈([.int .i64 at_,.string SS]:List Value),u.oneCell'=true:=by intro u hu;simp at hu;rcases hu with rfl|rfl <;> rfl
      have E1:=QH e1;have q1f:Hid (td.length≤48):=by have h1:=HLD.out;have h2:=HTS.out.2;unfold Hid;omega
      have E2:Hid ((td++pT (P.take k)).length+1≤maxLen):=by have h1:=q1f.out;unfold Hid;rw[List.length_append];unfold maxLen;omega
      have E3:Hid (((td++pT (P.take k)).length+1)*24≤140737488355328):=by have h1:=q1f.out;unfold Hid;rw[List.length_append];omega
      obtain⟨Lw,hLw⟩:=QE (td++pT (P.take k));rw[hLw]at HO6 HP1 E2 E3;clear vk nk h0 HPT e1 hby hLw HO5 HO hSS hlen;go_upto_region 14 with fail;try rw[ic]
      clear ic s1 s2 s3 s4;go_wp2_with (at_builtin;refine xm rfl (.tmp 48) (.tmp 54) 89 rfl wo.heap.size 105 iw (.agg #[.int .i64 0,.string ByteArray.empty]) 2 24 underlying89 wi1 wi2 wi3 wi4 rfl (by decide) _ _ _ rfl HO6.out ⟨W5.heap.size,0,none⟩ 1 1 [.int .i64 at_,.string SS] rfl rfl wI.out E1.out E2.out E3.out dL.out.size ?_);intro v' w1 hown hgrow _;have HB7:Hid (Below wo.heap.size wo w1):=dL.out.grown hgrow dL.out.size (fun j hj=>(HO6.out.lt j hj).1);have HO7:Hid (jr.mj w1 wo.heap.size v' (Lw++[(at_,s)])):=by
       refine jr.mj.snoc ?_;show w1.ownsRow _ _ _ v' (Lw.length+1) (jr.zQ Lw++[.int .i64 at_,.string (str s)]);rw[HSS.out];exact hown
      clear hown hgrow;go_wp2_with fail;go_roundw;case rel=>exact⟨k+1,by omega,by go_num,by rw[HP1.out];exact HO7.out,HB7.out⟩
      case measure=>simp[intOf];omega
    ·obtain rfl:k=P.length:=by omega
     have q5B:¬ (P.length:Int)<(P.length:Int):=by omega
     have ho:=HO.out;rw[List.take_length,HPW.out,← HTD.out]at ho;have HOC:Hid (jr.mj wr wo.heap.size _ (qL t m' ws)):=ho;have q1h:=ae HR.out lR.out HWS.out;obtain⟨AW,cw,hvw,sJ⟩:=HOC.out.view (fun x hx=>by have:=q1h x hx;have:=HR.out.N1;unfold jr.qD;omega);have hlw:(qL t m' ws).length≤60:=by
      have h1:=aT (t:=t) (xO m') 145;have h2:=HTS.out.2;have h3:=HWS.out.few;unfold qL qhL;rw[List.length_append];omega
     have hv2:=qZ HV.out ja.out;have hN:=hv2.dk.1;have hdn:d.n=N:=HJ.out.rb.1;have qua:d.more=[]:=HJ.out.more;have q1i:=jr.fP jr.qie jr.qo9 hv2.dk (by rw[hdn];have:=HR.out.N0;omega) AW cw (qL t m' ws) sJ (by omega) (HA.out.ct.below ja.out HA.out.ct.1) (by rw[qua];decide) (by decide);have qsu:=QH q1i;have HCA:=QH (jr.oI (N:=N) (tgt:=t) (l:=qL t m' ws) (d:=d) (by have:=HR.out.N0;omega) HR.out.N1 HJ.out ll.out (qfP HR.out lR.out HWS.out));have HV2:=QH hv2;obtain⟨klt,k0,k1,k2,k3,k4,k5,k6,k7,k8,k9,ee⟩:=(HA.out.below ja.out).cells;obtain⟨nw,fR⟩:=QE ((qL t m' ws).length);rw[fR]at hvw qsu;have HVW:=QH hvw;rw[hvw];obtain⟨RC,hRC⟩:=QE (jr.zY d (qL t m' ws));rw[hRC]at qsu HCA;clear q1h sJ hlw hv2 hN hdn qua q1i fR hvw hRC ho k0 k1 k2 k3 k4 k5 k6 k7 k8 ee;go_wp2_with fail;refine qsu.out.mono ?_;rintro e W6 ⟨rfl,iV,hd6,vg,hg6⟩;obtain⟨r6,d6⟩:=RC;dsimp only at hd6 HCA ⊢;have HD6:=QH hd6;have dL:Hid (ib.qz o2 wr W6):=qbn vg;have HG6:Hid (∀j,iV j→o2 j∨wr.heap.size≤j):=hg6;have HDJ:=QH HV.out.dj;have hS:=HS.out;have hgS:S≤g:=by rw[← HG.out];exact hS
     have qwu:Hid (∀j,o2 j→j<S):=fun j hj=>q1a.out j (.inr (.inl hj));have hAW:=(HA.out.below ja.out).stay (w':=W6) (fun j hj=>dL.out.block j (by
      rcases hj with hj|rfl
      ·exact Nat.lt_of_lt_of_le (HA.out.low j hj) ja.out.size
      ·exact Nat.lt_of_lt_of_le HA.out.ct.1 ja.out.size) (HDJ.out j hj)) dL.out.size
     have HAW:=QH hAW;have hgk:qf W6 g 96 (zF X0 X1 X2 d0 d1 d2 m'):=(HXK.out.below zx.out).of_block (dL.out.block g (HXK.out.below zx.out).lt (fun e=>by have:=qwu.out g e;omega));have j0:=hgk.cell 0;have j1:=hgk.cell 1;have j2:=hgk.cell 2;have j3:=hgk.cell 3;have j4:=hgk.cell 4;have j5:=hgk.cell 5;have j6:=hgk.cell 6;have j7:=hgk.cell 7;have j8:=hgk.cell 8;have jlt:=hgk.lt;simp only[zF,QA,QB,QC]at j0 j1 j2 j3 j4 j5 j6 j7 j8;obtain⟨klt,k0,k1,k2,k3,k4,k5,k6,k7,k8,k9,ee⟩:=hAW.cells;have f0:=hAW.blk.frozen 0;have f1:=hAW.blk.frozen 1;have f2:=hAW.blk.frozen 2;have f3:=hAW.blk.frozen 3;have f4:=hAW.blk.frozen 4;have f5:=hAW.blk.frozen 5;have f6:=hAW.blk.frozen 6;have f7:=hAW.blk.frozen 7;have f8:=hAW.blk.frozen 8;have f10:=hAW.blk.frozen 10;have q1j:Hid (ib.qz (fun j=>o1 j∨o2 j) w W6):=(ib.qz.of_below (S:=fun j=>o1 j∨o2 j) ja.out).trans dL.out (fun j hj=>.inl (.inr hj));have hov:=HA.out.own;have HOV:=QH hov;clear hd6 vg hg6 hAW hgk hov qsu;rcases HCA.out with⟨rfl,hjj,hfz,hf0⟩|⟨rfl,qud,hfn,hfz⟩
     ·have HJJ:=QH hjj;have HFZ:=QH hfz;have HF0:=QH hf0;clear hjj hfz hf0 HCA;go_wp2_with fail;show bodyPost _ _ _ _ _ (xN W6 v (.slice X0 m'.live.length d0) (.slice X1 m'.qc.length d1) (.slice X2 m'.tok.qp.length d2) m'.tok);obtain⟨WE,nd⟩:=QE (xN W6 v (.slice X0 m'.live.length d0) (.slice X1 m'.qc.length d1) (.slice X2 m'.tok.qp.length d2) m'.tok);have hbv:ib.qz (fun j=>j=v) W6 WE:=by
       rw[← nd];have go:∀(k:Nat) (u:Value) {W':World},ib.qz (fun j=>j=v) W6 W'→ib.qz (fun j=>j=v) W6 (W'.setCell ⟨v,k,none⟩ u):=fun k u W' h1=>h1.setCell _ _ (.inl rfl);exact go 8 _ (go 7 _ (go 6 _ (go 5 _ (go 4 _ (go 3 _ (go 2 _ (go 1 _ (go 0 _ (ib.qz.refl _ _)))))))))
      have hvk:qf WE v 115 (vC X0 X1 X2 d0 d1 d2 m' pd false):=by
       rw[← nd];have h9:=((((((((HAW.out.blk.qg 0 (.slice X0 m'.live.length d0)).qg 1 (.slice X1 m'.qc.length d1)).qg 2 (.int .u64 (m'.tok.base.1:Int))).qg 3 (.int .u64 (m'.tok.base.2:Int))).qg 4 (.int .u64 (m'.tok.target.1:Int))).qg 5 (.int .u64 (m'.tok.target.2:Int))).qg 6 (.int .i64 m'.tok.next)).qg 7 (.int .i64 m'.tok.all)).qg 8 (.slice X2 m'.tok.qp.length d2);simp only[vC,List.setIfInBounds_toArray,List.set_cons_succ,List.set_cons_zero]at h9;exact h9
      have hvS:v<S:=q1a.out v (.inl HOV.out);have hwo:wo.heap.size≤wr.heap.size:=zx.out.size;have hst:wG (fun j=>(((o1 j∧j≠v)∨S≤j)∧j≠g)∧j<wo.heap.size) wo WE:=by
       refine⟨Nat.le_trans hwo (Nat.le_trans dL.out.size hbv.size),fun j hj hlt=>?_⟩;have hj2:¬ o2 j:=fun e=>by
        rcases hj.1.1 with h|h
        ·exact HDJ.out j (.inl h.1) e
        ·have:=qwu.out j e;omega
       have hjv:¬ j=v:=by
        rcases hj.1.1 with h|h
        ·exact h.2
        ·omega
       rw[hbv.block j (Nat.lt_of_lt_of_le (Nat.lt_of_lt_of_le hlt hwo) dL.out.size) hjv,dL.out.block j (Nat.lt_of_lt_of_le hlt hwo) hj2,zx.out.block j hlt]
      have q1l:xY WE:=wF HAW.out.ct hbv.size (hbv.block gN HAW.out.ct.1 HAW.out.gv);have hvp:VP ag WE (fun j=>o1 j∨(S≤j∧j<wr.heap.size)) iV v pd d6 m' false:=by
       refine⟨⟨X0,X1,X2,d0,d1,d2,hvk,(HXT.out.bound.stay hst).mono (fun j hj=>?_),tO.out,q1l,.inl HOV.out,fun j hj=>?_,HAW.out.gv,?_⟩,HD6.out.keep hbv.size (fun j hj=>hbv.block j (iW HD6.out j hj) (fun e=>?_)),fun j hj e=>?_⟩
       ·rcases hj.1.1 with h|h
        ·exact⟨.inl h.1,h.2⟩
        ·exact⟨.inr ⟨h,by have:=hj.2;omega⟩,by omega⟩
       ·rcases hj with h|h
        ·exact Nat.lt_of_lt_of_le (HAW.out.low j h) hbv.size
        ·have:=dL.out.size;have:=hbv.size;omega
       ·intro htg;rcases lR.out.tok with h|h
        ·exact h
        ·exfalso;have:=h.2.1;rw[htg]at this;unfold above at this;simp at this
       ·rw[e]at hj;rcases HG6.out v hj with h|h
        ·exact HDJ.out v (.inl HOV.out) h
        ·have:=ja.out.size;omega
       ·rcases HG6.out j e with h|h
        ·rcases hj with(hj|hj)|hj
         ·exact HDJ.out j (.inl hj) h
         ·have:=qwu.out j h;omega
         ·exact HDJ.out j (.inr hj) h
        ·rcases hj with(hj|hj)|hj
         ·have:=HA.out.low j hj;have:=ja.out.size;omega
         ·omega
         ·have:=HA.out.ct.1;have:=ja.out.size;unfold gN at hj;rw[hj]at h;omega
      have hbu:ib.qz (fun j=>o1 j∨o2 j) w WE:=q1j.out.trans hbv (fun j hj=>.inl (.inl (by rw[hj];exact HOV.out)));have HVP:=QH hvp;have cM:=QH hbu;rw[nd];clear hbv hvk hst q1l hvp hbu nd;refine bodyPost_ret (v:=.int .i64 0) (by simp[results,results63,go_sem]) rfl ⟨0,d6,m',false,_,iV,rfl,HVP.out,cM.out,fun j hj=>?_,.inr (.inl ⟨rfl,rfl,HJJ.out,rfl,rfl,HFZ.out,HF0.out⟩)⟩;rcases hj with(hj|hj)|hj
      ·exact .inl (.inl hj)
      ·exact .inr hj.1
      ·rcases HG6.out j hj with h|h
       ·exact .inl (.inr h)
       ·have:=ja.out.size;exact .inr (by omega)
     ·have HGO:=QH qud;have HFN:=QH hfn;have HFZ:=QH hfz;have q1m:VP ag W6 o1 iV v pd d6 m false:=⟨⟨A0,A1,A2,c0,c1,c2,HAW.out⟩,HD6.out,fun j hj e=>by
       rcases HG6.out j e with h|h
       ·exact HDJ.out j hj h
       ·rcases hj with hj|hj
        ·have:=HA.out.low j hj;have:=ja.out.size;omega
        ·have:=HA.out.ct.1;have:=ja.out.size;unfold gN at hj;rw[hj]at h;omega⟩
      have rj:=QH (q5i q1m);clear qud hfn hfz HCA q1m;go_wp2_with fail;go_ret;refine⟨6,d6,m,true,o1,iV,rfl,rj.out.1,q1j.out.trans rj.out.2 (fun j hj=>.inl (.inl (by rw[hj];exact HOV.out))),fun j hj=>?_,.inr (.inr ⟨rfl,rfl,HGO.out,rfl,HFN.out,HFZ.out⟩)⟩;rcases hj with hj|hj
      ·exact .inl (.inl hj)
      ·rcases HG6.out j hj with h|h
       ·exact .inl (.inr h)
       ·have:=ja.out.size;exact .inr (by omega)
end Go.Proofs.YtdpbdkacngaemaaGreatDoor.vt.pg
namespace Go.Proofs.YtdpbdkacngaemaaGreatDoor.vt.pg
open _root_.Go.Proofs.Tryz Go Go.RowKit ib mt im sp
theorem qg3:(prog.info? 38).map (fun i=>(i.zero,i.size,i.bytes))=some (some (.agg #[.int .u64 0,.int .u64 0]),2,16):=by kernel_rfl
def vU:List Gd→List Value
 | []=>[]
 | x::r=>.int .u64 (x.1:Int) :: .int .u64 (x.2:Int)::vU r
theorem bO:∀(l r:List Gd),vU (l++r)=vU l++vU r
 | [],_=>rfl
 | x::l,r=>by simp[vU,bO l r]
theorem rk:∀(l:List Gd) (i:Nat) (h:i<l.length),(vU l)[i*2]?=some (.int .u64 (l[i].1:Int))∧(vU l)[i*2+1]?=some (.int .u64 (l[i].2:Int))
 | x::l,0,_=>⟨rfl,rfl⟩
 | x::l,i+1,h=>by
  have:=rk l i (by simpa using h);rw[show(i+1)*2=i*2+1+1 from by omega];exact this
def qoC (w:World)(B:Nat)(v:Value)(l:List Gd):Prop:=w.ownsRow B 38 2 v l.length (vU l)
theorem qoC.view{w:World}{B:Nat}{v:Value}{l:List Gd}(h:qoC w B v l)(hz:∀x∈l,xB x):∃a c,v=.slice a l.length c∧ch.GdL w a l∧∀b o,a=some ⟨b,o,none⟩→B≤b∧b<w.heap.size:=by
 rcases h.2 with⟨rfl,h0⟩|⟨g,cap,cur,rfl,hg,hh,hcc,hm,hcs,xC⟩
 ·obtain rfl:l=[]:=List.length_eq_zero_iff.1 h0;exact⟨none,0,rfl,(fun i h=>by simp at h),fun _ _ e=>by cases e⟩
 ·refine⟨some ⟨g,0,none⟩,cap,rfl,fun i hi=>?_,fun b o e=>?_⟩
  ·have key:∀(j:Nat) (u:Value),(vU l)[j]?=some u→w.cell? ⟨g,j,none⟩=some u:=by
      intro j u hu;rw[cell_of_row w g j cur 38 (0,0) hh];rw[← xC,List.getElem?_take]at hu;split at hu
      ·simpa using hu
      ·cases hu
   obtain⟨g0,g1⟩:=rk l i hi;exact⟨g,0,rfl,(Array.getElem?_eq_some_iff.1 hh).1,by rw[Nat.zero_add];exact key _ _ g0,by rw[Nat.zero_add];exact key _ _ g1,hz _ (List.getElem_mem hi)⟩
  ·simp only[Option.some.injEq,Addr.mk.injEq,and_true]at e;obtain⟨rfl,_⟩:=e;exact⟨hg,(Array.getElem?_eq_some_iff.1 hh).1⟩
def GuR (m:Mt)(w:World)(v i:Value)(wr:World):Prop :=
 ∃k:Nat,k≤m.qc.length∧i=.int .i64 (k:Int)∧qoC wr w.heap.size v ((m.qc.take k).map (·.g))∧Below w.heap.size w wr
theorem qks{w:World}{A0 A1 A2:Option Addr}{c0 c1 c2:Nat}{m:Mt}(hS:jL w A1 m.qc)(h20:m.qc.length≤1000) :
    Calls prog 96 #[.agg (zF A0 A1 A2 c0 c1 c2 m)] w (ch.p9 (m.qc.map (·.g)) w):=by
 obtain⟨i0,hi,hz0,hz1,hz2⟩:=info_parts qg3;obtain⟨W1,hW1,zt,hb1⟩:=xZ w (zF A0 A1 A2 c0 c1 c2 m);have HS:=QH hS;have qO:=QH hb1;have q1:=zt.cell 1;have ma:=zt.lt;simp only[zF,QA,QB,QC]at q1;clear hS zt hb1;unfold zF at hW1 ⊢;go_enter func96,ntmps96;go_upto_region 1 with fail;try rw[hW1]
 clear hW1;go_wp2_with fail;go_loopw [3,9] (fun v i wr=>GuR m w v i wr) (fun _ i _=>m.qc.length-(intOf i).toNat);case atStart=>exact⟨0,Nat.zero_le _,rfl,World.ownsRow_nil _ _ _ _,qO.out⟩
 case round =>
  obtain⟨k,hk,rfl,ho,hB⟩:=hrel;have HO:=QH ho;have HB:=QH hB;clear ho hB;by_cases hlt:k<m.qc.length
  ·have yt:(k:Int)<(m.qc.length:Int):=by omega
   have hk0:¬ (k:Int)<0:=by omega
   obtain⟨b,o,B,c,hA,s1,s2,s3,s4,s5,s6,_⟩:=(HS.out.below HB.out) k hlt;have jH:Hid ((m.qc.take (k+1)).map (·.g)=(m.qc.take k).map (·.g)++[m.qc[k].g]):=by unfold Hid;rw[List.take_succ_eq_append_getElem hlt,List.map_append];rfl
   have HLK:Hid (((m.qc.take k).map (·.g)).length=k):=by unfold Hid;rw[List.length_map,List.length_take];omega
   subst hA;obtain⟨n,hn⟩:=QE (m.qc[k].qp.length);obtain⟨gd,hgd⟩:=QE (m.qc[k].g);obtain⟨hd,hhd⟩:=QE (m.qc[k].hid);rw[hn]at s4;rw[hgd]at jH s2 s3;rw[hhd]at s5;clear hn hgd hhd s6;obtain⟨ga,gb⟩:=gd;dsimp only at s2 s3;have vk:=(Below.refl _ wr).alloc (Nat.le_refl _) (.cells #[.int .u64 (ga:Int),.int .u64 (gb:Int),.slice B n c,.bool hd] 141);obtain⟨W3,hW3⟩:=QE (wr.alloc (.cells #[.int .u64 (ga:Int),.int .u64 (gb:Int),.slice B n c,.bool hd] 141));have zy:=qf.new wr 141 #[.int .u64 (ga:Int),.int .u64 (gb:Int),.slice B n c,.bool hd];rw[hW3]at vk zy;have r0:=zy.cell 0;have r1:=zy.cell 1;have hrl:=zy.lt;simp only[QA,QB,QC]at r0 r1;have hby:=(Below.refl _ W3).alloc (Nat.le_refl _) (.cells #[.int .u64 (ga:Int),.int .u64 (gb:Int)] 38);have hbz:=qa vk hby;have HO4:Hid ((W3.alloc (.cells #[.int .u64 (ga:Int),.int .u64 (gb:Int)] 38)).ownsRow w.heap.size 38 2 _ ((m.qc.take k).map (·.g)).length (vU ((m.qc.take k).map (·.g)))):=qC HO.out (fun j hj=>hbz.block j (HO.out.lt j hj).2);have zx:=QH (qa HB.out hbz);have wI:Hid (∀j u,([.int .u64 (ga:Int),.int .u64 (gb:Int)]:List Value)[j]?=some u→(W3.alloc (.cells #[.int .u64 (ga:Int),.int .u64 (gb:Int)] 38)).cell? ((⟨W3.heap.size,0,none⟩:Addr).add j)=some u):=fun j u hu=>by
    rw[addr_add,Nat.zero_add,(qf.new W3 38 #[.int .u64 (ga:Int),.int .u64 (gb:Int)]).cell j];simpa using hu
   clear vk zy hby hbz;have q5F:k≤1000:=by omega
   have e1:∀u∈([.int .u64 (ga:Int),.int .u64 (gb:Int)]:List Value),u.oneCell'=true:=by intro u hu;simp at hu;rcases hu with rfl|rfl <;> rfl
   have E1:=QH e1;have E2:Hid (((m.qc.take k).map (·.g)).length+1≤maxLen):=by unfold Hid;rw[HLK.out];unfold maxLen;omega
   have E3:Hid ((((m.qc.take k).map (·.g)).length+1)*16≤140737488355328):=by unfold Hid;rw[HLK.out];omega
   clear e1;go_wp2_with (at_builtin;refine xm rfl (.tmp 13) (.tmp 16) 73 rfl w.heap.size 38 i0 (.agg #[.int .u64 0,.int .u64 0]) 2 16 underlying73 hi hz0 hz1 hz2 rfl (by decide) _ _ _ rfl HO4.out ⟨W3.heap.size,0,none⟩ 1 1 [.int .u64 (ga:Int),.int .u64 (gb:Int)] rfl rfl wI.out E1.out E2.out E3.out zx.out.size ?_);intro v' w1 hown hgrow _;have yw:Hid (Below w.heap.size w w1):=zx.out.grown hgrow zx.out.size (fun j hj=>(HO4.out.lt j hj).1);have HO5:Hid (qoC w1 w.heap.size v' ((m.qc.take (k+1)).map (·.g))):=by
    unfold Hid qoC;rw[jH.out,bO,List.length_append,HLK.out,List.map_take];exact hown
   clear hown hgrow;go_wp2_with fail;go_roundw;case rel=>exact⟨k+1,by omega,by go_num,HO5.out,yw.out⟩
   case measure=>simp[intOf];omega
  ·obtain rfl:k=m.qc.length:=by omega
   have yt:¬ (m.qc.length:Int)<(m.qc.length:Int):=by omega
   have ho:=HO.out;rw[List.take_length]at ho;obtain⟨A,c,hv,hx,hn⟩:=ho.view (fun g hg=>by
    obtain⟨s,hs,rfl⟩:=List.mem_map.1 hg;exact HS.out.tx s hs)
   have HX:=QH hx;have HV:=QH hv;have HN:=QH hn;clear ho hx hv hn;go_wp2_with fail;go_ret;exact⟨A,c,by rw[HV.out];rfl,HX.out,HN.out,HB.out⟩
theorem lO {x y:Gd}(h:x≠y):(¬ x.1=y.1)∨(x.1=y.1∧¬ x.2=y.2):=by
 by_cases e1:x.1=y.1
 ·exact .inr ⟨e1,fun e2=>h (Prod.ext e1 e2)⟩
 ·exact .inl e1
def uX (f:Tf)(A:Option Addr)(n c:Nat):Array Value:=#[.int .u64 (f.base.1:Int),.int .u64 (f.base.2:Int),.int .u64 (f.target.1:Int),.int .u64 (f.target.2:Int),.int .i64 f.next,.int .i64 f.all,.slice A n c]
theorem qgD{G:Nat→Prop}{w:World}{A0 A1 A2:Option Addr}{c0 c1 c2:Nat}{m:Mt}(ht:ui G w A0 A1 A2 c0 c1 c2 m)(hsz:mtS m)(hG:∀j,w.heap.size≤j→G j)(f:Tf)(A:Option Addr)(n c:Nat) :
    Calls prog 156 #[.agg (zF A0 A1 A2 c0 c1 c2 m),.agg (uX f A n c)] w (qj9 G (zL m f) w):=by
 obtain⟨W1,hW1,zt,hb1⟩:=xZ w (zF A0 A1 A2 c0 c1 c2 m);have hb2:=(Below.refl _ W1).alloc (Nat.le_refl _) (.cells (uX f A n c) 82);have hr2:=qf.new W1 82 (uX f A n c);obtain⟨W2,hW2⟩:=QE (W1.alloc (.cells (uX f A n c) 82));rw[hW2]at hb2 hr2;have qA:=QH (qa hb1 hb2);have hk2:=zt.below hb2;have ht2:=ht.below qA.out;have HI2:=QH ht2.qp;have HBS:=QH (qnB (A0:=A0) (A2:=A2) (c0:=c0) (c1:=c1) (c2:=c2) ht2.qc hsz (fun j hj=>hG j (Nat.le_trans qA.out.size hj)) m.qc.length (Nat.le_refl _));rw[qjB]at HBS;have q0:=hk2.cell 0;have q1:=hk2.cell 1;have q2:=hk2.cell 2;have q3:=hk2.cell 3;have q4:=hk2.cell 4;have q5:=hk2.cell 5;have q6:=hk2.cell 6;have q7:=hk2.cell 7;have q8:=hk2.cell 8;have r0:=hr2.cell 0;have r1:=hr2.cell 1;have r2:=hr2.cell 2;have r3:=hr2.cell 3;have r5:=hr2.cell 5;have ma:=hk2.lt;have hrl:=hr2.lt;simp only[zF,uX,QA,QB,QC]at q0 q1 q2 q3 q4 q5 q6 q7 q8 r0 r1 r2 r3 r5;have HY:Hid ((m.tok.base=f.base∧m.tok.target=f.target∧m.tok.all=f.all)→zL m f=m.tok.qp):=fun h=>by unfold zL;rw[if_pos h]
 have jT:Hid (¬ (m.tok.base=f.base∧m.tok.target=f.target∧m.tok.all=f.all)→zL m f=uN m):=fun h=>by unfold zL;rw[if_neg h]
 obtain⟨R,hR⟩:=QE (zL m f);rw[hR]at HY jT ⊢;clear ht hG zt hb1 hb2 hr2 hk2 ht2 hR;unfold zF uX at *;go_enter func156,ntmps156;go_upto_region 1 with fail;try rw[hW1]
 try rw[hW2]
 clear hW1 hW2;have FIN:Hid (∀(e:Ending) (W3:World),qj9 G (uN m) W2 e W3→R=uN m→qj9 G R w e W3):=fun e W3 h hr=>by
  obtain⟨A',c',h1,h2,h3⟩:=h;rw[hr];exact⟨A',c',h1,h2,qa qA.out h3⟩
 have E1:Hid (m.tok.base=f.base→m.tok.base.1=f.base.1∧m.tok.base.2=f.base.2):=fun h=>⟨by rw[h],by rw[h]⟩;have E2:Hid (m.tok.target=f.target→m.tok.target.1=f.target.1∧m.tok.target.2=f.target.2):=fun h=>⟨by rw[h],by rw[h]⟩;by_cases h1:m.tok.base=f.base
 case' neg =>
  have HR:=QH (jT.out (fun h=>h1 h.1));have hgn:=lO h1;clear h1 HY jT E1 E2;rcases hgn with hg|⟨hg,hg2⟩;all_goals
   go_upto_region 3 with fail;first|clear hg2|skip
   clear hg;first|clear e1 e2|skip
   go_wp2_with fail;refine HBS.out.mono ?_;rintro e W3 ⟨A',c',rfl,hs,hb3⟩;have HF:=QH (FIN.out _ _ ⟨A',c',rfl,hs,hb3⟩ HR.out);clear hs hb3;go_wp2_with fail;go_ret;exact HF.out
 obtain⟨e1,e2⟩:=E1.out h1;by_cases h2:m.tok.target=f.target
 case' neg =>
  have HR:=QH (jT.out (fun h=>h2 h.2.1));have hgn:=lO h2;clear h1 h2 HY jT E1 E2;rcases hgn with hg|⟨hg,hg2⟩;all_goals
   go_upto_region 3 with fail;first|clear hg2|skip
   clear hg;first|clear e1 e2|skip
   go_wp2_with fail;refine HBS.out.mono ?_;rintro e W3 ⟨A',c',rfl,hs,hb3⟩;have HF:=QH (FIN.out _ _ ⟨A',c',rfl,hs,hb3⟩ HR.out);clear hs hb3;go_wp2_with fail;go_ret;exact HF.out
 obtain⟨e3,e4⟩:=E2.out h2;by_cases h3:m.tok.all=f.all
 case' neg =>
  have HR:=QH (jT.out (fun h=>h3 h.2.2));clear h1 h2 HY jT E1 E2;go_upto_region 3 with fail;clear h3 e1 e2 e3 e4;go_wp2_with fail;refine HBS.out.mono ?_;rintro e W3 ⟨A',c',rfl,hs,hb3⟩;have HF:=QH (FIN.out _ _ ⟨A',c',rfl,hs,hb3⟩ HR.out);clear hs hb3;go_wp2_with fail;go_ret;exact HF.out
 have HR:=QH (HY.out ⟨h1,h2,h3⟩);clear h1 h2 HY jT E1 E2;go_wp2_with fail;go_ret;rw[HR.out];exact⟨_,_,rfl,HI2.out,qA.out⟩
theorem qkt{w:World}{gb:Nat}(a b:Nat)(B:Option Addr)(n c:Nat)(hd:Bool)(g:Gd)(hgb:gb<w.heap.size)(q0:w.cell? ⟨gb,0,none⟩=some (.int .u64 (g.1:Int)))(q1:w.cell? ⟨gb,1,none⟩=some (.int .u64 (g.2:Int))) :
    Calls prog 172 #[.agg #[.int .u64 (a:Int),.int .u64 (b:Int),.slice B n c,.bool hd],pt gb] w fun e w'=>e=.returned (.bool (decide ((a,b)=g)))∧Below w.heap.size w w':=by
 obtain⟨g1,g2⟩:=g;have hb0:=(Below.refl w.heap.size w).alloc (Nat.le_refl _) (.cells #[.int .u64 (a:Int),.int .u64 (b:Int),.slice B n c,.bool hd] 141);have p0:=(hb0.cell (p:=⟨gb,0,none⟩) hgb).trans q0;have p1:=(hb0.cell (p:=⟨gb,1,none⟩) hgb).trans q1;have HB:=QH hb0;have hq:decide ((a,b)=(g1,g2))=(((a:Int) == (g1:Int))&&((b:Int) == (g2:Int))):=by
  rw[Bool.eq_iff_iff];simp only[decide_eq_true_eq,Bool.and_eq_true,beq_iff_eq,Prod.mk.injEq];omega
 obtain⟨r,hr⟩:=QE (decide ((a,b)=(g1,g2)));rw[hr]at hq ⊢;dsimp only at p0 p1 q0 q1;generalize (a:Int)=x1 at *;generalize (b:Int)=x2 at *;generalize (g1:Int)=y1 at *;generalize (g2:Int)=y2 at *;obtain⟨b1,hb1⟩:=QE (x1 == y1);obtain⟨b2,hb2⟩:=QE (x2 == y2);rw[hb1,hb2]at hq;subst hq;clear hb0 hr;cases b1 <;> cases b2;all_goals
  go_enter func172,ntmps172;go_wp2_with fail;go_ret;exact⟨rfl,HB.out⟩
def sQ (l:List Sp)(g:Gd):Int:=match l.findIdx? fun s=>decide (s.g=g)with
 | none=>-1
 | some i=>(i:Int)
theorem qku{l:List Sp}{g:Gd}{k:Nat}(hk:k<l.length)(hg:l[k].g=g)(hb:∀j (h:j<l.length),j<k→l[j].g≠g):sQ l g=(k:Int):=by
 unfold sQ;have:(l.findIdx? fun s=>decide (s.g=g))=some k:=by
  rw[List.findIdx?_eq_some_iff_getElem];exact⟨hk,by simpa using hg,fun j hj=>by simpa using hb j (by omega) hj⟩
 rw[this]
theorem qkv{l:List Sp}{g:Gd}(hb:∀j (h:j<l.length),l[j].g≠g):sQ l g = -1:=by
 unfold sQ;have:(l.findIdx? fun s=>decide (s.g=g))=none:=by
  rw[List.findIdx?_eq_none_iff];intro s hs;obtain⟨j,hj,rfl⟩:=List.getElem_of_mem hs;simpa using hb j hj
 rw[this]
def IxS (l:List Sp)(g:Gd)(w:World)(i:Value)(wr:World):Prop :=
 ∃k:Nat,k≤l.length∧i=.int .i64 (k:Int)∧(∀j (h:j<l.length),j<k→l[j].g≠g)∧Below w.heap.size w wr
theorem qoD{w:World}{gb:Nat}{A:Option Addr}{c:Nat}{l:List Sp}(hS:jL w A l)(h20:l.length≤1000)(g:Gd)(hgb:gb<w.heap.size)(q0:w.cell? ⟨gb,0,none⟩=some (.int .u64 (g.1:Int)))(q1:w.cell? ⟨gb,1,none⟩=some (.int .u64 (g.2:Int))) :
    Calls prog 171 #[.slice A l.length c,.func (.func 172) #[] #[pt gb]] w fun e w'=>e=.returned (.int .i64 (sQ l g))∧Below w.heap.size w w':=by
 have HS:=QH hS;have HQ0:=QH q0;have HQ1:=QH q1;have nt:=QH (fun k hk hg hb=>qku (l:=l) (g:=g) (k:=k) hk hg hb);have HRN:=QH (fun hb=>qkv (l:=l) (g:=g) hb);obtain⟨R,hR⟩:=QE (sQ l g);rw[hR]at nt HRN ⊢;clear hS q0 q1 hR;go_enter func171,ntmps171;go_wp2_with fail;go_loopw [8] (fun i wr=>IxS l g w i wr) (fun i _=>l.length-(intOf i).toNat);case atStart=>exact⟨0,Nat.zero_le _,rfl,fun j _ h=>absurd h (by omega),Below.refl _ _⟩
 case round =>
  obtain⟨k,hk,rfl,hno,hB⟩:=hrel;have jT:=QH hno;have HB:=QH hB;clear hno hB;by_cases hlt:k<l.length
  ·have yt:(k:Int)<(l.length:Int):=by omega
   obtain⟨b,o,B,cc,rfl,s1,s2,s3,s4,s5,_⟩:=(HS.out.below HB.out) k hlt;have HYE:=QH (fun(e:l[k].g=g)=>nt.out k hlt e jT.out);have kU:Hid (l[k].g≠g→∀j (h:j<l.length),j<k+1→l[j].g≠g):=fun hne j hj hjk=>by
    by_cases qoc:j<k
    ·exact jT.out j hj qoc
    ·obtain rfl:j=k:=by omega
     exact hne
   obtain⟨ga,gb',hd,n,hgd,hn,hh⟩:∃a b' hd n,l[k].g=(a,b')∧l[k].qp.length=n∧l[k].hid=hd:=⟨_,_,_,_,rfl,rfl,rfl⟩;have kJ:=QH (qkt ga gb' B n cc hd g (w:=wr) (Nat.lt_of_lt_of_le hgb HB.out.size) ((HB.out.cell (p:=⟨gb,0,none⟩) hgb).trans HQ0.out) ((HB.out.cell (p:=⟨gb,1,none⟩) hgb).trans HQ1.out));rw[hgd]at s2 s3 HYE kU;rw[hn]at s4;rw[hh]at s5;dsimp only at s2 s3;have hk0:¬ (k:Int)<0:=by omega
   clear hgd hn hh;go_wp2_with fail;refine kJ.out.mono ?_;rintro e W1 ⟨rfl,hb1⟩;have qO:=QH (HB.out.trans (hb1.mono HB.out.size));clear hb1;by_cases hg:(ga,gb')=g
   ·rw[decide_eq_true hg];have HR:=QH (HYE.out hg);clear hg HYE kU kJ;go_wp2_with fail;go_ret;rw[HR.out];exact⟨rfl,qO.out⟩
   ·rw[decide_eq_false hg];have HN:=QH (kU.out hg);clear hg HYE kU kJ;go_wp2_with fail;go_roundw;case rel=>exact⟨k+1,by omega,by go_num,HN.out,qO.out⟩
    case measure=>simp[intOf];omega
  ·have yt:¬ (k:Int)<(l.length:Int):=by omega
   have HR:=QH (HRN.out (fun j hj=>jT.out j hj (by omega)));go_wp2_with fail;go_ret;rw[HR.out];exact⟨rfl,HB.out⟩
def vD (m:Mt)(g:Gd):Int × Int:=match tY m g with
 | none=>(0,5)
 | some i=>match m.qc[i]? with
  | none=>(0,5)
  | some s=>if s.hid then(0,14)else((i:Int),0)
theorem qkw(m:Mt)(g:Gd):(sQ m.qc g = -1∧vD m g=(0,5))∨∃i,∃h:i<m.qc.length,sQ m.qc g=((i:Nat):Int)∧vD m g=if m.qc[i].hid then(0,14)else((i:Int),0):=by
 unfold sQ vD tY;cases hf:m.qc.findIdx? fun s=>decide (s.g=g)with
 | none=>exact .inl ⟨rfl,rfl⟩
 | some i =>
  have hi:=(List.findIdx?_eq_some_iff_getElem.1 hf).1;refine .inr ⟨i,hi,rfl,?_⟩;show(match m.qc[i]? with
   | none=>((0:Int),(5:Int))
   | some s=>if s.hid then(0,14)else((i:Int),0))=_
  rw[List.getElem?_eq_getElem hi]
theorem uS {w:World}{A0 A1 A2:Option Addr}{c0 c1 c2:Nat}{m:Mt}(hS:jL w A1 m.qc)(h20:m.qc.length≤1000)(g:Gd) :
    Calls prog 99 #[.agg (zF A0 A1 A2 c0 c1 c2 m),gv g] w fun e w'=>e=.returned (.tuple #[.int .i64 (vD m g).1,.int .i64 (vD m g).2])∧Below w.heap.size w w':=by
 obtain⟨g1,g2⟩:=g;obtain⟨W1,hW1,zt,hb1⟩:=xZ w (zF A0 A1 A2 c0 c1 c2 m);have hb2:=(Below.refl _ W1).alloc (Nat.le_refl _) (.cells #[.int .u64 (g1:Int),.int .u64 (g2:Int)] 38);have hr2:=qf.new W1 38 #[.int .u64 (g1:Int),.int .u64 (g2:Int)];obtain⟨W2,hW2⟩:=QE (W1.alloc (.cells #[.int .u64 (g1:Int),.int .u64 (g2:Int)] 38));rw[hW2]at hb2 hr2;have qA:=QH (qa hb1 hb2);have hk2:=zt.below hb2;have jV:=QH hk2;have q1:=hk2.cell 1;have ma:=hk2.lt;simp only[zF,QA,QB,QC]at q1;have HS:=QH (hS.below qA.out);have HI:=QH (qoD (c:=c1) HS.out h20 (g1,g2) hr2.lt (hr2.cell 0) (hr2.cell 1));have HFI:=QH (qkw m (g1,g2));obtain⟨R,hR⟩:=QE (vD m (g1,g2));rw[hR]at HFI ⊢;obtain⟨X,hX⟩:=QE (sQ m.qc (g1,g2));rw[hX]at HFI HI;clear hS zt hb1 hb2 hr2 hk2 hR hX;show Calls _ _ #[.agg (zF A0 A1 A2 c0 c1 c2 m),.agg #[.int .u64 (g1:Int),.int .u64 (g2:Int)]] _ _;unfold zF at hW1 ⊢;go_enter func99,ntmps99;go_upto_region 1 with fail;try rw[hW1]
 try rw[hW2]
 clear hW1 hW2;go_wp2_with fail;refine HI.out.mono ?_;rintro e W3 ⟨rfl,hb3⟩;have zv:=QH (qa qA.out hb3);have na:=QH (HS.out.below hb3);have hk3:=jV.out.below hb3;have q1:=hk3.cell 1;have ma:=hk3.lt;simp only[zF,QA,QB,QC]at q1;clear hb3 hk3 HI jV HS;rcases HFI.out with⟨rfl,hf⟩|⟨i,dP,rfl,hf⟩
 ·have HF:=QH hf;clear hf HFI;go_wp2_with fail;go_ret2;rw[HF.out];exact⟨rfl,zv.out⟩
 ·have HF:=QH hf;obtain⟨b,o,B,cc,rfl,s1,s2,s3,s4,s5,_⟩:=na.out i dP;have hii:(i:Int)<(m.qc.length:Int):=by omega
  have hin:¬ (i:Int)<0:=by omega
  generalize m.qc[i].hid=hd at *;clear hf HFI s2 s3 s4;cases hd with
  | true =>
   have HF2:Hid (R=(0,14)):=by unfold Hid;simpa using HF.out
   go_wp2_with fail;go_ret2;rw[HF2.out];exact⟨rfl,zv.out⟩
  | false =>
   have HF2:Hid (R=((i:Int),0)):=by unfold Hid;simpa using HF.out
   go_wp2_with fail;go_ret2;rw[HF2.out];exact⟨rfl,zv.out⟩
end Go.Proofs.YtdpbdkacngaemaaGreatDoor.vt.pg
namespace Go.Proofs.YtdpbdkacngaemaaGreatDoor.vt.pg
open _root_.Go.Proofs.Tryz Go Go.RowKit Go.Sort ib mt im sp
theorem vS:prog.follows .mixedOrders=true:=by kernel_rfl
def TkR (b:Nat)(x:List (Int × Bt))(w:World)(l i:Value)(wr:World):Prop :=
 ∃(k:Nat) (p:Int),k≤x.length∧i=.int .i64 (k:Int)∧l=.int .i64 (p+1) ∧ -1≤p∧p≤1000∧xw b (-1) x=xw b p (x.drop k)∧Below w.heap.size w wr
theorem qgE{b:Nat}{p:Int}{x:List (Int × Bt)}{k:Nat}(h:k<x.length):xw b p (x.drop k)=(decide (p<x[k].1)&&decide (x[k].1<(b:Int))&&decide (x[k].2.length=32)&&xw b x[k].1 (x.drop (k+1))):=by
 rw[List.drop_eq_getElem_cons h];rfl
theorem qoE{b:Nat}{p k:Int}{s:Bt}{r:Bool}(h:k<p+1∨(b:Int)≤k∨s.length≠32):(decide (p<k)&&decide (k<(b:Int))&&decide (s.length=32)&&r)=false:=by
 rcases h with h|h|h
 ·rw[decide_eq_false (by omega:¬ p<k)];rfl
 ·rw[decide_eq_false (by omega:¬ k<(b:Int))];simp
 ·rw[decide_eq_false h];simp
theorem qkx{b:Nat}{p k:Int}{s:Bt}{r:Bool}(h1:¬ k<p+1)(h2:¬ (b:Int)≤k)(h3:s.length=32):(decide (p<k)&&decide (k<(b:Int))&&decide (s.length=32)&&r)=r:=by
 rw[decide_eq_true (by omega:p<k),decide_eq_true (by omega:k<(b:Int)),decide_eq_true h3];simp
theorem lh {w:World}{A0 A1 A2:Option Addr}{c0 c1 c2:Nat}{m:Mt}(hb8:m.live.length≤1000){A:Option Addr}{c:Nat}{x:List (Int × Bt)}(hx:ch.kR w A x)(cZ:x.length≤1000) :
    Calls prog 61 #[.agg (zF A0 A1 A2 c0 c1 c2 m),.slice A x.length c] w (uC (xw m.live.length (-1) x) w):=by
 obtain⟨W1,hW1,zt,hb1⟩:=xZ w (zF A0 A1 A2 c0 c1 c2 m);have bz:=QH zt;have qO:=QH hb1;have HX:=QH (hx.below hb1);obtain⟨R,hR⟩:=QE (xw m.live.length (-1) x);have fZ:=QH hR;rw[hR];clear hx zt hb1 hR;unfold zF at hW1 ⊢;go_enter func61,ntmps61;go_upto_region 1 with fail;try rw[hW1]
 clear hW1;go_wp2_with fail;go_loopw [5,10] (fun l i wr=>TkR m.live.length x W1 l i wr) (fun _ i _=>x.length-(intOf i).toNat);case atStart=>exact⟨0,-1,Nat.zero_le _,rfl,rfl,by omega,by omega,rfl,Below.refl _ _⟩
 case round =>
  obtain⟨k,p,hk,rfl,rfl,hp1,hp2,hch,hB⟩:=hrel;have HB:=QH hB;have HCH:=QH hch;have HP1:=QH hp1;clear hB hch;by_cases hlt:k<x.length
  ·have yt:(k:Int)<(x.length:Int):=by omega
   have hk0:¬ (k:Int)<0:=by omega
   obtain⟨b,o,rfl,s1,s2,s3,s4⟩:=(HX.out.below HB.out) k hlt;have HST:=QH (qgE (b:=m.live.length) (p:=p) hlt);obtain⟨xk,hxk⟩:=QE (x[k].1);obtain⟨sk,hsk⟩:=QE (x[k].2);rw[hxk,hsk]at HST;rw[hxk]at s2 s4;rw[hsk]at s3;obtain⟨S,hS⟩:=QE (str sk);have hSl:S.size=sk.length:=by rw[← hS,qN]
   rw[hS]at s3;have mJ:=QH hSl;obtain⟨L,hL⟩:=QE (p+1);have vY:=QH hL;rw[hL];have vk:=(Below.refl _ wr).alloc (Nat.le_refl _) (.cells #[.int .i64 xk,.string S] 122);have HBX:=QH (qa HB.out vk);have hq:=bz.out.below HBX.out;have q0:=hq.cell 0;have ma:=hq.lt;simp only[zF,List.getElem?_toArray,List.getElem?_cons_zero]at q0;have nb:=QH s4;clear hxk hsk hS hSl hL hq vk s4 hp1 hp2;have no:xk<p+1∨(m.live.length:Int)≤xk∨sk.length≠32→R=false:=fun h=>by rw[← fZ.out,HCH.out,HST.out,qoE h]
   have jT:=QH no;clear no;by_cases h1:xk<L
   ·have HF:=QH (jT.out (.inl (by rw[vY.out];exact h1)));go_wp2_with fail;go_ret;exact⟨by rw[HF.out];rfl,qa qO.out HBX.out⟩
   ·by_cases h2:(m.live.length:Int)≤xk
    ·have HF:=QH (jT.out (.inr (.inl h2)));go_wp2_with fail;go_ret;exact⟨by rw[HF.out];rfl,qa qO.out HBX.out⟩
    ·by_cases h3:(S.size:Int)=32
     ·have h3b:((S.size:Int) != 32)=false:=by rw[h3];rfl
      have h3n:sk.length=32:=by have:=mJ.out;omega
      have HYE:Hid (xw m.live.length (-1) x=xw m.live.length xk (x.drop (k+1))):=by unfold Hid;rw[HCH.out,HST.out,qkx (by rw[vY.out];exact h1) h2 h3n]
      have hx1:¬ xk<p+1:=by rw[vY.out];exact h1
      have hxr : -9223372036854775808≤xk∧xk≤9223372036854775807:=nb.out;have hw:IntKind.i64.wrap (xk+1)=xk+1:=by rw[IntWalk.i64_in _ (by omega)]
      have HPR:Hid (-1≤xk∧xk≤1000):=by have:=HP1.out;unfold Hid;omega
      clear h3 h3n HST HCH jT hx1 hxr vY;go_wp2_with fail;go_roundw;case rel=>exact⟨k+1,xk,by omega,by go_num,rfl,HPR.out.1,HPR.out.2,HYE.out,HBX.out⟩
      case measure=>simp[intOf];omega
     ·have h3b:((S.size:Int) != 32)=true:=by simpa using h3
      have HF:=QH (jT.out (.inr (.inr (by have:=mJ.out;omega))));clear h3;go_wp2_with fail;go_ret;exact⟨by rw[HF.out];rfl,qa qO.out HBX.out⟩
  ·have yt:¬ (k:Int)<(x.length:Int):=by omega
   have HF:Hid (R=true):=by unfold Hid;rw[← fZ.out,HCH.out,List.drop_eq_nil_of_le (by omega)];rfl
   go_wp2_with fail;go_ret;exact⟨by rw[HF.out];rfl,qa qO.out HB.out⟩
theorem qgF{w:World}{A0 A1 A2:Option Addr}{c0 c1 c2:Nat}{m:Mt}(hS:jL w A1 m.qc)(h20:m.qc.length≤1000)(g:Gd) :
    Calls prog 229 #[.agg (zF A0 A1 A2 c0 c1 c2 m),gv g] w (bV (if above g (qE m)=false then 2 else if 20≤m.qc.length then 3 else 0) w):=by
 obtain⟨g1,g2⟩:=g;obtain⟨W1,hW1,zt,hb1⟩:=xZ w (zF A0 A1 A2 c0 c1 c2 m);have hb2:=(Below.refl _ W1).alloc (Nat.le_refl _) (.cells #[.int .u64 (g1:Int),.int .u64 (g2:Int)] 38);have hr2:=qf.new W1 38 #[.int .u64 (g1:Int),.int .u64 (g2:Int)];obtain⟨W,hW2⟩:=QE (W1.alloc (.cells #[.int .u64 (g1:Int),.int .u64 (g2:Int)] 38));rw[hW2]at hb2 hr2;have qA:=QH (qa hb1 hb2);have hk2:=zt.below hb2;have HS:=QH (hS.below qA.out);have q0:=hk2.cell 0;have q1:=hk2.cell 1;have q2:=hk2.cell 2;have q3:=hk2.cell 3;have q4:=hk2.cell 4;have q5:=hk2.cell 5;have q6:=hk2.cell 6;have q7:=hk2.cell 7;have q8:=hk2.cell 8;have r0:=hr2.cell 0;have r1:=hr2.cell 1;simp only[zF,QA,QB,QC]at q0 q1 q2 q3 q4 q5 q6 q7 q8 r0 r1;have e0:=fun d os=>cell_regrown q0 d os;have e1:=fun d os=>cell_regrown q1 d os;have e2:=fun d os=>cell_regrown q2 d os;have e3:=fun d os=>cell_regrown q3 d os;have e4:=fun d os=>cell_regrown q4 d os;have e5:=fun d os=>cell_regrown q5 d os;have e6:=fun d os=>cell_regrown q6 d os;have e7:=fun d os=>cell_regrown q7 d os;have e8:=fun d os=>cell_regrown q8 d os;have p0:=fun d os=>cell_regrown r0 d os;have p1:=fun d os=>cell_regrown r1 d os;have cL:∀b os,Calls prog 227 #[.agg (zF A0 A1 A2 c0 c1 c2 m)] (grow (redrawn W b) os) fun e w''=>e=.returned (gv (qE m))∧∃q:Regrown,w''=grow (redrawn W q.d) q.os :=
  fun b os=>Calls.regrown_of (qag (HS.out.below (below_regrown W b os)) h20)
 have cA:∀b os,Calls prog 228 #[gv (g1,g2),gv (qE m)] (grow (redrawn W b) os) fun e w''=>e=.returned (.bool (above (g1,g2) (qE m)))∧∃q:Regrown,w''=grow (redrawn W q.d) q.os :=
  fun b os=>Calls.regrown_of (pw (g1,g2) (qE m) _)
 obtain⟨L,hL⟩:=QE (gv (qE m));rw[hL]at cA cL;generalize above (g1,g2) (qE m)=q at *;have HQ1:=QH q1;clear hS zt hb1 hb2 hr2 hk2 q0 q1 q2 q3 q4 q5 q6 q7 q8 r0 r1 hL;show Calls _ _ #[.agg (zF A0 A1 A2 c0 c1 c2 m),.agg #[.int .u64 (g1:Int),.int .u64 (g2:Int)]] _ _;unfold gv at cA;unfold zF at hW1 cL ⊢;dsimp only at cA;go_enter func229,ntmps229;go_upto_region 1 with fail;try rw[hW1]
 try rw[hW2]
 clear hW1 hW2;refine wp_region_quiet_below vS (by kernel_rfl) ?_;repeat (any_goals (first|go_big_quiet_step (first|exact cL _ _|exact cA _ _)|quiet_step (first|exact cL _ _|exact cA _ _)))
 refine wpQuiet_nil ?_;intro _ hw';obtain⟨⟨dq,osq⟩,hw''⟩:=hw';subst hw'';have q1:=e1 dq osq;have hb:=below_regrown W dq osq;have zv:=QH (qa qA.out hb);clear hb e0 e1 e2 e3 e4 e5 e6 e7 e8 p0 p1 cL cA qA HS HQ1;generalize grow (redrawn W dq) osq=W3 at *;cases q with
 | false =>
  go_wp2_with fail;go_ret;exact⟨rfl,zv.out⟩
 | true =>
  by_cases hx:(20:Int)≤(m.qc.length:Int)
  ·go_wp2_with fail;go_ret;exact⟨rfl,zv.out⟩
  ·go_wp2_with fail;go_ret;exact⟨rfl,zv.out⟩
theorem qgG{o:Nat→Prop}{w:World}{v pd:Nat}{m:Mt}{l:Bool}(h:ag o w v pd m l):Calls prog 77 #[pt v] w fun e w'=>e=.returned (.int .i64 (m.live.length:Int))∧Below w.heap.size w w':=by
 obtain⟨A0,A1,A2,c0,c1,c2,hA⟩:=h;obtain⟨klt,k0,_⟩:=hA.cells;clear hA;go_enter func77,ntmps77;go_wp2_with fail;go_ret;exact⟨rfl,Below.refl _ _⟩
theorem qdI(w:World):Calls prog 77 #[.pointer none] w fun e w'=>e=.returned (.int .i64 0)∧Below w.heap.size w w':=by
 go_enter func77,ntmps77;go_wp2_with fail;go_ret;exact⟨rfl,Below.refl _ _⟩
theorem dH {o:Nat→Prop}{w:World}{v pd:Nat}{m:Mt}{l:Bool}(h:ag o w v pd m l):Calls prog 37 #[pt v] w (ch.p9 (m.qc.map (·.g)) w):=by
 obtain⟨A0,A1,A2,c0,c1,c2,hA⟩:=h;have HG:=QH (qks (A0:=A0) (A2:=A2) (c0:=c0) (c1:=c1) (c2:=c2) hA.tab.mt.qc hA.sz.qc);obtain⟨klt,k0,k1,k2,k3,k4,k5,k6,k7,k8,k9,ee⟩:=hA.cells;unfold zF at HG;clear hA;go_enter func37,ntmps37;go_wp2_with fail;refine HG.out.mono ?_;rintro e W1 ⟨A,cc,rfl,h1,h2,h3⟩;have H1:=QH h1;have H2:=QH h2;have H3:=QH h3;clear h1 h2 h3 HG;go_wp2_with fail;go_ret;exact⟨A,cc,by rw[List.length_map];rfl,H1.out,H2.out,H3.out⟩
theorem qky(w:World):Calls prog 37 #[.pointer none] w (ch.p9 [] w):=by
 go_enter func37,ntmps37;go_wp2_with fail;go_ret;exact⟨none,0,rfl,fun i h=>absurd h (by simp),ib.wa.none _ _,Below.refl _ _⟩
section
variable {o1 o2:Nat→Prop} {w:World} {v pd N b:Nat} {d:DD} {m:Mt} {l:Bool} {t:Tg}
end
theorem qdJ(t:Tg)(m:Mt)(g:Gd):(∃c,c≠0∧vD m g=(0,c)∧(uh t m).read g=([],c)∧qnr m g=⟨c,m,[]⟩) ∨
    ∃i,∃h:i<m.qc.length,vD m g=((i:Int),0)∧(uh t m).read g=(volume t m.qc[i].qp,0)∧qnr m g=⟨0,{ m with qc:=gO m.qc i },[]⟩:=by
 unfold vD qnr ch.CH.read;rw[qnz];cases hf:tY m g with
 | none=>exact .inl ⟨5,by decide,rfl,rfl,rfl⟩
 | some i =>
  have hi:i<m.qc.length:=(List.findIdx?_eq_some_iff_getElem.1 hf).1;have e:(uh t m).qc[i]?=some (qbi t m.qc[i]):=by simp[uh,hi]
  dsimp only;rw[e,List.getElem?_eq_getElem hi];dsimp only;have eh:(qbi t m.qc[i]).hid=m.qc[i].hid:=rfl;rw[eh];cases hh:m.qc[i].hid with
  | true=>exact .inl ⟨14,by decide,by simp,by simp,by simp⟩
  | false=>exact .inr ⟨i,hi,by simp,by simp[qbi],by simp⟩
theorem qkz{o1 o2:Nat→Prop}{w:World}{v pd N b:Nat}{d:DD}{m:Mt}{t:Tg}(g:Gd)(h:VP ag w o1 o2 v pd d m false)(hJ:jr.JJ N t d)(hR:yb b N t m):Calls prog 42 #[pt v,gv g] w (ch.p8 ((uh t m).read g) w):=by
 obtain⟨g1,g2⟩:=g;have hb2:=(Below.refl _ w).alloc (Nat.le_refl _) (.cells #[.int .u64 (g1:Int),.int .u64 (g2:Int)] 38);have hr2:=qf.new w 38 #[.int .u64 (g1:Int),.int .u64 (g2:Int)];obtain⟨W,hW2⟩:=QE (w.alloc (.cells #[.int .u64 (g1:Int),.int .u64 (g2:Int)] 38));rw[hW2]at hb2 hr2;have h2:=qZ h hb2;obtain⟨A0,A1,A2,c0,c1,c2,hA⟩:=h2.is;have HA:=QH hA;have HV:=QH h2;have HJ:=QH hJ;have HR:=QH hR;have qA:=QH hb2;have dv:=QH (qd4 h2 hJ.on);have tO:=QH hA.sz;obtain⟨klt,k0,k1,k2,k3,k4,k5,k6,k7,k8,k9,ee⟩:=hA.cells;have r0:=hr2.cell 0;have r1:=hr2.cell 1;have rlt:=hr2.lt;simp only[Nat.zero_add,QA,QB,QC]at r0 r1;have e0:=fun d os=>cell_regrown k0 d os;have e1:=fun d os=>cell_regrown k1 d os;have e2:=fun d os=>cell_regrown k2 d os;have e3:=fun d os=>cell_regrown k3 d os;have e4:=fun d os=>cell_regrown k4 d os;have e5:=fun d os=>cell_regrown k5 d os;have e6:=fun d os=>cell_regrown k6 d os;have e7:=fun d os=>cell_regrown k7 d os;have e8:=fun d os=>cell_regrown k8 d os;have p0:=fun d os=>cell_regrown r0 d os;have p1:=fun d os=>cell_regrown r1 d os;have cF:∀b os,Calls prog 99 #[.agg (zF A0 A1 A2 c0 c1 c2 m),gv (g1,g2)] (grow (redrawn W b) os) fun e w''=>e=.returned (.tuple #[.int .i64 (vD m (g1,g2)).1,.int .i64 (vD m (g1,g2)).2])∧∃q:Regrown,w''=grow (redrawn W q.d) q.os :=
  fun b os=>Calls.regrown_of (uS (HA.out.below (below_regrown W b os)).tab.mt.qc tO.out.qc (g1,g2))
 have HFC:=QH (qdJ t m (g1,g2));have hE0:∀(c:Int),vD m (g1,g2)=(0,c)→vD m (g1,g2)=(0,c):=fun _ h=>h;obtain⟨R,hR'⟩:=QE ((uh t m).read (g1,g2));obtain⟨F,hF⟩:=QE (vD m (g1,g2));rw[hF,hR']at HFC;rw[hF]at cF;rw[hR'];obtain⟨F1,F2⟩:=F;clear h h2 hJ hR hA hb2 hr2 hR' hF hE0;unfold gv at cF;unfold zF at cF;dsimp only at cF;show Calls _ _ #[pt v,.agg #[.int .u64 (g1:Int),.int .u64 (g2:Int)]] _ _;go_enter func42,ntmps42;go_upto_region 1 with fail;try rw[hW2]
 clear hW2;go_wp2_with fail;refine dv.out.mono ?_;rintro e W1 ⟨rfl,rfl⟩;clear dv;go_upto_region 4 with fail;refine wp_region_quiet_below vS (by kernel_rfl) ?_;repeat (any_goals (first|go_big_quiet_step (first|exact cF _ _)|quiet_step (first|exact cF _ _)))
 refine wpQuiet_nil ?_;intro _ hw';obtain⟨⟨dq,osq⟩,hw''⟩:=hw';subst hw'';have hb:=below_regrown W dq osq;have zv:=QH (qa qA.out hb);have HV3:=QH (qZ HV.out hb);have lL:=QH (HA.out.below hb);clear hb e0 e1 e2 e3 e4 e5 e6 e7 e8 p0 p1 cF HA HV qA klt k0 k1 k2 k3 k4 k5 k6 k7 k8 k9 ee r0 r1 rlt;generalize grow (redrawn W dq) osq=W3 at *;rcases HFC.out with⟨c,hc,hf,bw,_⟩|⟨i,hi,hf,bw,_⟩
 ·obtain⟨rfl,rfl⟩:=Prod.mk.inj hf;have hcb:(F2 != 0)=true:=by simpa using hc
  have dv:=QH bw;clear hc bw hf HFC;go_wp2_with fail;go_ret2;rw[dv.out];exact⟨none,0,rfl,fun i h=>absurd h (by simp),ib.wa.none _ _,zv.out⟩
 ·obtain⟨rfl,rfl⟩:=Prod.mk.inj hf;have dv:=QH bw;obtain⟨b',o',B,cc,rfl,s1,s2,s3,s4,s5,s6,s7⟩:=lL.out.tab.mt.qc i hi;have cY:=QH (rf HV3.out HJ.out s6 (tO.out.dC _ (List.getElem_mem hi)) (fun z hz=>(HR.out.ok.dC _ (List.getElem_mem hi)).2.1 z hz));obtain⟨klt,k0,k1,k2,k3,k4,k5,k6,k7,k8,k9,ee⟩:=lL.out.cells;have hii:(i:Int)<(m.qc.length:Int):=by omega
  have hin:¬ (i:Int)<0:=by omega
  generalize m.qc[i].qp=im at *;clear bw hf HFC s2 s3 s5 s6 s7 hi;go_wp2_with fail;refine cY.out.mono ?_;rintro e W4 ⟨A,cc',rfl,h1,h2,h3⟩;have H1:=QH h1;have H2:=QH h2;have H3:=QH h3;clear h1 h2 h3 cY;go_wp2_with fail;go_ret2;rw[dv.out];exact⟨A,cc',rfl,H1.out,fun b o e=>⟨Nat.le_trans zv.out.size (H2.out b o e).1,(H2.out b o e).2⟩,qa zv.out H3.out⟩
end Go.Proofs.YtdpbdkacngaemaaGreatDoor.vt.pg
namespace Go.Proofs.YtdpbdkacngaemaaGreatDoor.vt.pg
open _root_.Go.Proofs.Tryz Go Go.RowKit Go.Sort ib mt im sp
def ax (w:World)(g:Nat)(A:Option Addr)(l:List Int):Prop:=∀i (h:i<l.length),∃b o,A=some ⟨b,o,none⟩∧b≠g∧b<w.heap.size∧w.cell? ⟨b,o+i,none⟩=some (.int .i64 l[i])
theorem ax.set{w:World}{g k:Nat}{u:Value}{A:Option Addr}{l:List Int}(h:ax w g A l):ax (w.setCell ⟨g,k,none⟩ u) g A l:=by
 intro i hi;obtain⟨b,o,h1,h2,h3,h4⟩:=h i hi;exact⟨b,o,h1,h2,by simpa[World.setCell]using h3,(World.cell?_of_block (a:=⟨b,o+i,none⟩) (qw _ _ _ _ _ h2)).trans h4⟩
theorem ax.below{w w':World}{g:Nat}{A:Option Addr}{l:List Int}(h:ax w g A l)(hb:Below w.heap.size w w'):ax w' g A l:=by
 intro i hi;obtain⟨b,o,h1,h2,h3,h4⟩:=h i hi;exact⟨b,o,h1,h2,Nat.lt_of_lt_of_le h3 hb.size,(hb.cell (p:=⟨b,o+i,none⟩) h3).trans h4⟩
theorem ax.tail{w:World}{g b o:Nat}{f:Int}{l:List Int}(h:ax w g (some ⟨b,o,none⟩) (f::l)):ax w g (some ⟨b,o+1,none⟩) l:=by
 intro i hi;obtain⟨b',o',h1,h2,h3,h4⟩:=h (i+1) (by simpa using hi);simp only[Option.some.injEq,Addr.mk.injEq,and_true]at h1;obtain⟨rfl,rfl⟩:=h1;refine⟨b,o+1,rfl,h2,h3,?_⟩;rw[show o+1+i=o+(i+1)by omega];exact h4
structure Pk(x:List (Int × Bt))(fr:List Int)(k:Nat)(pre fr':List Int):Prop where
 le:k≤x.length
 len:pre.length=k
 all:(qd fr x).1=pre++(qd fr' (x.drop k)).1
 room:full (x.drop k)≤fr'.length
theorem Pk.start(x:List (Int × Bt))(fr:List Int)(h:full x≤fr.length):Pk x fr 0 [] fr:=⟨Nat.zero_le _,rfl,rfl,h⟩
theorem rp (c:Int × Bt)(r:List (Int × Bt)):full (c::r)=full r+if c.2=zb then 0 else 1:=by obtain⟨a,b⟩:=c;exact wD a b r
theorem qgH(fr:List Int)(y:Int × Bt)(r:List (Int × Bt))(h:y.2=zb):qd fr (y::r)=(0::(qd fr r).1,(qd fr r).2):=by
 obtain⟨a,b⟩:=y;dsimp only at h;cases fr <;> simp[qd,h]
theorem qgI(f:Int)(fr:List Int)(y:Int × Bt)(r:List (Int × Bt))(h:¬ y.2=zb):qd (f::fr) (y::r)=(f::(qd fr r).1,(f,y.2)::(qd fr r).2):=by
 obtain⟨a,b⟩:=y;dsimp only at h;simp[qd,h]
theorem Pk.zero{x:List (Int × Bt)}{fr pre fr':List Int}{k:Nat}(h:Pk x fr k pre fr')(hk:k<x.length)(hz:x[k].2=zb):Pk x fr (k+1) (pre++[0]) fr':=by
 obtain⟨h1,h2,h3,h4⟩:=h;rw[List.drop_eq_getElem_cons hk]at h3 h4;rw[qgH _ _ _ hz]at h3;rw[rp,if_pos hz]at h4;exact⟨by omega,by simp[h2],by rw[h3];simp,by omega⟩
theorem Pk.more{x:List (Int × Bt)}{fr pre fr':List Int}{k:Nat}(h:Pk x fr k pre fr')(hk:k<x.length)(hz:¬ x[k].2=zb):∃f r,fr'=f::r∧Pk x fr (k+1) (pre++[f]) r:=by
 obtain⟨h1,h2,h3,h4⟩:=h;rw[List.drop_eq_getElem_cons hk]at h3 h4;rw[rp,if_neg hz]at h4;cases fr' with
 | nil=>simp at h4
 | cons f r =>
  rw[qgI _ _ _ _ hz]at h3;exact⟨f,r,rfl,by omega,by simp[h2],by rw[h3];simp,by simp at h4;omega⟩
theorem Pk.stop{x:List (Int × Bt)}{fr pre fr':List Int}(h:Pk x fr x.length pre fr'):(qd fr x).1=pre:=by
 obtain⟨h1,h2,h3,h4⟩:=h;rw[List.drop_length]at h3;simpa[qd]using h3
def Pw (x:List (Int × Bt))(pre:List Int):List Pl:=PL x (pre++List.replicate (x.length-pre.length) 0)
theorem qww(x:List (Int × Bt)):Pw x []=P0 x:=by
 unfold Pw PL P0;apply List.ext_getElem
 ·simp
 ·intro i h1 h2;simp
theorem rq {x:List (Int × Bt)}{pre:List Int}(h:pre.length≤x.length):(Pw x pre).length=x.length:=by
 unfold Pw PL;rw[List.length_zipWith,List.length_append,List.length_replicate];omega
theorem qoF{x:List (Int × Bt)}{pre:List Int}{k:Nat}(hp:pre.length=k)(hk:k<x.length)(h:k<(Pw x pre).length):(Pw x pre)[k]=(x[k].1,0,x[k].2):=by
 simp only[Pw,PL,List.getElem_zipWith];rw[List.getElem_append_right (by omega),List.getElem_replicate]
theorem qoG{x:List (Int × Bt)}{pre:List Int}{k:Nat}(hp:pre.length=k)(hk:k<x.length)(a:Int):(Pw x pre).set k (x[k].1,a,x[k].2)=Pw x (pre++[a]):=by
 apply List.ext_getElem
 ·rw[List.length_set,rq (by omega),rq (by simp;omega)]
 ·intro i h1 h2;rw[List.getElem_set];have hix:i<x.length:=by rw[rq (by simp;omega)]at h2;exact h2
  by_cases e:k=i
  ·subst e;rw[if_pos rfl];simp only[Pw,PL,List.getElem_zipWith];rw[List.getElem_append_left (by simp;omega),List.getElem_append_right (by omega)];simp[hp]
  ·rw[if_neg e];simp only[Pw,PL,List.getElem_zipWith]
   congr 2
   by_cases h3:i<pre.length
   ·rw[List.getElem_append_left h3,List.getElem_append_left (by simp;omega),List.getElem_append_left h3]
   ·rw[List.getElem_append_right (by omega),List.getElem_append_right (by simp;omega)];simp
theorem qsw{x:List (Int × Bt)}{pre:List Int}{k:Nat}(hp:pre.length=k)(hk:k<x.length):Pw x (pre++[0])=Pw x pre:=by
 rw[← qoG hp hk 0];have h:=rq (x:=x) (pre:=pre) (by omega);rw[← qoF hp hk (by omega),List.set_getElem_self]
theorem qwx{x:List (Int × Bt)}{pre:List Int}(h:pre.length=x.length):Pw x pre=PL x pre:=by
 unfold Pw;rw[h,Nat.sub_self,List.replicate_zero,List.append_nil]
def Pl2 (x:List (Int × Bt))(fr:List Int)(B:Nat)(bv:Value)(g:Nat)(w:World)(s i:Value)(wr:World):Prop :=
 ∃(k:Nat) (pre fr':List Int) (A:Option Addr) (c:Nat),i=.int .i64 (k:Int)∧s=.slice A fr'.length c∧fr'.length≤c∧Pk x fr k pre fr'∧ax wr g A fr'∧OPl wr B bv (Pw x pre)∧Below w.heap.size w wr
theorem qas{cs:List Int}{n:Nat}(h:(jn cs (n:Int)).2=0):n≤(jn cs (n:Int)).1.length:=by
 unfold jn at h ⊢;rw[if_neg (by omega)]at h ⊢;by_cases hf:(yr cs:Int)<(n:Int)
 ·rw[if_pos hf]at h;simp at h
 ·rw[if_neg hf];rw[Int.toNat_natCast];show n≤((qV cs cs.length).take n).length;unfold yr at hf;rw[List.length_take];omega
theorem qgJ{o1 o2:Nat→Prop}{w:World}{v pd N:Nat}{d:DD}{m:Mt}{l:Bool}{b:Nat}(h:VP ag w o1 o2 v pd d m l)(hn:d.n=N)(hok:jI b N m)(hN:N≤1024){A:Option Addr}{c:Nat}{x:List (Int × Bt)}(hx:ch.kR w A x)(cZ:x.length≤8)(h32:∀y∈x,y.2.length=32) :
    Calls prog 62 #[pt v,.slice A x.length c] w (qsc (qP N m x) x w):=by
 obtain⟨i0,hi,hz0,hz1,hz2⟩:=info_parts qwf;have HV:=QH h;have HX:=QH hx;have H32:=QH h32;obtain⟨cs,hcs,hcl,_,_⟩:=cH hok hN;have hfull:=qbj x;have HCS:=QH hcs;have HNN:=QH hn;clear h hx h32 hcs hok hn;go_enter func62,ntmps62;go_wp2_with fail;go_loopw [6,7,16] (fun v f i wr=>PlR x w v f i wr) (fun _ _ i _=>x.length-(intOf i).toNat);case atStart=>exact⟨0,Nat.zero_le _,rfl,rfl,World.ownsRow_nil _ _ _ _,Below.refl _ _⟩
 case round =>
  obtain⟨k,hk,rfl,rfl,ho,hB⟩:=hrel;have HO:=QH ho;have HB:=QH hB;clear ho hB;by_cases hlt:k<x.length
  ·have yt:(k:Int)<(x.length:Int):=by omega
   have hk0:¬ (k:Int)<0:=by omega
   obtain⟨b',o,rfl,s1,s2,s3,_⟩:=(HX.out.below HB.out) k hlt;have jH:Hid (P0 (x.take (k+1))=P0 (x.take k)++[(x[k].1,0,x[k].2)]):=by unfold Hid P0;rw[List.take_succ_eq_append_getElem hlt,List.map_append];rfl
   have HLK:Hid ((P0 (x.take k)).length=k):=by unfold Hid P0;rw[List.length_map,List.length_take];omega
   have HFT:=QH (qki hlt);have hft:full (x.take k)≤k:=by have:=qbj (x.take k);rw[List.length_take]at this;omega
   have HZ:Hid (∀W,Calls prog 136 #[.string (str x[k].2)] W (uC (decide (x[k].2=zb)) W)):=fun W=>mo _ (H32.out _ (List.getElem_mem hlt)) W;obtain⟨y,hy⟩:=QE (x[k]);rw[hy]at jH HFT HZ s2 s3;clear hy;obtain⟨kb,s⟩:=y;dsimp only at jH HFT HZ s2 s3;obtain⟨fl,gW⟩:=QE (full (x.take k));rw[gW]at HFT hft ⊢;obtain⟨S,hS⟩:=QE (str s);have HSS:=QH hS;rw[hS]at s3 HZ;clear gW hS;have vk:=(Below.refl _ wr).alloc (Nat.le_refl _) (.cells #[.int .i64 kb,.string S] 122);obtain⟨W3,hW3⟩:=QE (wr.alloc (.cells #[.int .i64 kb,.string S] 122));have zy:=qf.new wr 122 #[.int .i64 kb,.string S];rw[hW3]at vk zy;have kX:=QH zy;have r0:=zy.cell 0;have r1:=zy.cell 1;have hrl:=zy.lt;simp only[QA,QB,QC]at r0 r1;have hby:=(Below.refl _ W3).alloc (Nat.le_refl _) (.cells #[.int .i64 kb,.int .i64 0,.string S] 214);have hbz:=qa vk hby;have HO4:=QH (HO.out.below hbz);have zx:=QH (qa HB.out hbz);have wI:Hid (∀j u,([.int .i64 kb,.int .i64 0,.string S]:List Value)[j]?=some u→(W3.alloc (.cells #[.int .i64 kb,.int .i64 0,.string S] 214)).cell? ((⟨W3.heap.size,0,none⟩:Addr).add j)=some u):=fun j u hu=>by
    rw[addr_add,Nat.zero_add,(qf.new W3 214 #[.int .i64 kb,.int .i64 0,.string S]).cell j];simpa using hu
   have e1:∀u∈([.int .i64 kb,.int .i64 0,.string S]:List Value),u.oneCell'=true:=by intro u hu;simp at hu;rcases hu with rfl|rfl|rfl <;> rfl
   have E1:=QH e1;have E2:Hid ((P0 (x.take k)).length+1≤maxLen):=by unfold Hid;rw[HLK.out];unfold maxLen;omega
   have E3:Hid (((P0 (x.take k)).length+1)*32≤140737488355328):=by unfold Hid;rw[HLK.out];omega
   have zv:Hid (Below W3.heap.size W3 (W3.alloc (.cells #[.int .i64 kb,.int .i64 0,.string S] 214))):=hby;have HWW:Hid (w.heap.size≤wr.heap.size):=HB.out.size;have HNE:Hid (∀j,(∃v':Value,v'.ownBlock=some j∧OPl wr w.heap.size v' (P0 (x.take k)))→j≠wr.heap.size):=fun j ⟨v',h1,h2⟩ e=>by have:=(h2.lt j h1).2;omega
   clear e1 vk zy hby hbz;go_wp2_with (at_builtin;refine xm rfl (.tmp 20) (.tmp 26) 124 rfl w.heap.size 214 i0 (.agg #[.int .i64 0,.int .i64 0,.string ByteArray.empty]) 3 32 underlying124 hi hz0 hz1 hz2 rfl (by decide) _ _ _ rfl HO4.out ⟨W3.heap.size,0,none⟩ 1 1 [.int .i64 kb,.int .i64 0,.string S] rfl rfl wI.out E1.out E2.out E3.out zx.out.size ?_);intro v' w1 hown hgrow _;have yw:Hid (Below w.heap.size w w1):=zx.out.grown hgrow zx.out.size (fun j hj=>(HO4.out.lt j hj).1);have HO5:Hid (OPl w1 w.heap.size v' (P0 (x.take (k+1)))):=by
    unfold Hid OPl;rw[jH.out,bM,List.length_append,HLK.out];show w1.ownsRow _ _ _ v' (k+1) (je (P0 (x.take k))++[.int .i64 kb,.int .i64 0,.string (str s)]);rw[HSS.out];have h9:=hown;rw[HLK.out]at h9;exact h9
   have hk5:qf w1 wr.heap.size 122 #[.int .i64 kb,.string S]:=(kX.out.below zv.out).of_block (hgrow.block _ (kX.out.below zv.out).lt (fun e=>by
    have:=(HO.out.lt wr.heap.size e.symm).2;omega))
   have r1:=hk5.cell 1;have hrl:=hk5.lt;simp only[QA,QB,QC]at r1;clear hown hgrow hk5;go_wp2_with fail;refine(HZ.out _).mono ?_;rintro e W6 ⟨rfl,vg⟩;have HO6:=QH (HO5.out.below vg);have dL:=QH (qa yw.out vg);have hfw:IntKind.i64.wrap ((fl:Int)+1)=((fl+1:Nat):Int):=by rw[IntWalk.i64_in _ (by omega)];omega
   clear vg r1 hrl HZ;by_cases hz:s=zb
   ·rw[decide_eq_true hz];have HF:Hid (full (x.take (k+1))=fl):=by unfold Hid;rw[HFT.out,if_pos hz,Nat.add_zero]
    clear hz HFT;go_wp2_with fail;go_roundw;case rel=>exact⟨k+1,by omega,by go_num,by rw[HF.out],HO6.out,dL.out⟩
    case measure=>simp[intOf];omega
   ·rw[decide_eq_false hz];have HF:Hid (full (x.take (k+1))=fl+1):=by unfold Hid;rw[HFT.out,if_neg hz]
    clear hz HFT;go_wp2_with fail;go_roundw;case rel=>exact⟨k+1,by omega,by go_num,by rw[HF.out];rfl,HO6.out,dL.out⟩
    case measure=>simp[intOf];omega
  ·obtain rfl:k=x.length:=by omega
   have yt:¬ (x.length:Int)<(x.length:Int):=by omega
   have ho:=HO.out;rw[List.take_length]at ho ⊢;obtain⟨VA,vc,hva,_⟩:=ho.view;have HO1:=QH ho;have hlp:(P0 x).length=x.length:=by unfold P0;rw[List.length_map]
   rw[hlp]at hva;have HVA:=QH hva;obtain⟨bv,hbv⟩:∃z,z=z:=⟨(0:Nat),rfl⟩;clear ho hva hbv bv;go_upto_region 10 with fail;have hv1:=qZ HV.out HB.out;obtain⟨A0,A1,A2,c0,c1,c2,hA⟩:=hv1.is;have HAT:=QH hA;have qoH:=hA.cells;have HVP:=QH hv1;have hvl:=qoH.lt;clear hv1 hA;obtain⟨n1,hn1⟩:=QE ((xq m).length);obtain⟨n2,hn2⟩:=QE cs.length;have HN1:=QH hn1;have HN2:=QH hn2;have h16:n1≤1002:=by rw[← hn1];unfold xq;have:=HAT.out.sz.qc;simp;omega
   refine qQ (by kernel_rfl) 16 [36,37,38,39,40,41,42,43,44,45,46,35,47,48,10,11] (by kernel_rfl) (PcG v pd N (.agg (zF A0 A1 A2 c0 c1 c2 m)) n1 n2 (xq m) cs) (qor _ _ _ _ _ _ _ _) ?_ ?_
   ·intro i o vs ρ W zc0 hop hρ hfn hb hG;have t0:ρ (.tmp 0)=pt v:=hρ.out 0 rfl;have hc:=hρ.const;have s36:=hρ.at_ 36 0 rfl;have s37:=hρ.at_ 37 1 rfl;have s38:=hρ.at_ 38 2 rfl;have s39:=hρ.at_ 39 3 rfl;have s40:=hρ.at_ 40 4 rfl;have s41:=hρ.at_ 41 5 rfl;have s42:=hρ.at_ 42 6 rfl;have s43:=hρ.at_ 43 7 rfl;have s44:=hρ.at_ 44 8 rfl;have s45:=hρ.at_ 45 9 rfl;have s46:=hρ.at_ 46 10 rfl;have s35:=hρ.at_ 35 11 rfl;have s47:=hρ.at_ 47 12 rfl;have s48:=hρ.at_ 48 13 rfl;have hat:=HAT.out.below hb;have HVW:=QH (qZ HVP.out hb);obtain⟨klt,k0,k1,k2,k3,k4,k5,k6,k7,k8,k9,ee⟩:=hat.cells;rcases i with _|_|_|_|_|_|_|_|_|_|_|_|_|_|_|_|i;all_goals (first|omega|skip)
    all_goals simp only[QA,QB,QC,Option.some.injEq]at hop
    all_goals subst hop
    ·exact q9 (w':=W) (by unfold execOp;simp only[t0];go_simp) ⟨Below.refl _ _,rfl⟩
    ·have g0:vs 0=_:=hG 0 (by kernel_rfl);exact q9 (w':=W) (by unfold execOp;simp only[s36,g0];go_simp) ⟨Below.refl _ _,rfl⟩
    ·have g1:vs 1=_:=hG 1 (by kernel_rfl);exact q9 (w':=W) (by unfold execOp;simp only[s37,g1];go_simp) ⟨Below.refl _ _,rfl⟩
    ·have g2:vs 2=_:=hG 2 (by kernel_rfl);exact q9 (w':=W) (by unfold zF execOp;simp only[s38,g2];go_simp) ⟨Below.refl _ _,rfl⟩
    ·have g3:vs 3=_:=hG 3 (by kernel_rfl);refine qj (f:=138) (args:=#[.agg (zF A0 A1 A2 c0 c1 c2 m)]) (w':=W) (by unfold execOp;simp only[hc,hfn,s39,g3];go_simp) ((qgh hat.tab.mt hat.sz).mono ?_);rintro e W' ⟨A,c',rfl,h1,h2⟩;exact⟨_,rfl,h2,A,c',by rw[HN1.out],h1⟩
    ·exact q9 (w':=W) (by unfold execOp;simp only[t0];go_simp) ⟨Below.refl _ _,rfl⟩
    ·have g5:vs 5=_:=hG 5 (by kernel_rfl);exact q9 (w':=W) (by unfold execOp;simp only[s41,g5];go_simp) ⟨Below.refl _ _,rfl⟩
    ·have g6:vs 6=_:=hG 6 (by kernel_rfl);exact q9 (w':=W) (by unfold execOp;simp only[s42,g6];go_simp) ⟨Below.refl _ _,rfl⟩
    ·have g7:vs 7=_:=hG 7 (by kernel_rfl);exact q9 (w':=W) (by unfold execOp;simp only[s43,g7];go_simp) ⟨Below.refl _ _,rfl⟩
    ·have g8:vs 8=_:=hG 8 (by kernel_rfl);refine qj (f:=43) (args:=#[pt pd]) (w':=W) (by unfold execOp;simp only[hc,hfn,s44,g8];go_simp) ((pJ HVW.out.dk).mono ?_);rintro e W' ⟨rfl,rfl⟩;exact⟨_,rfl,Below.refl _ _,by rw[HNN.out];rfl⟩
    ·obtain⟨A,c',g4,h1⟩:=hG 4 (by kernel_rfl);have g9:vs 9=_:=hG 9 (by kernel_rfl);have hcc:=qsa A c' (xq m) (N:Int) W h1 (by have:=HN1.out;omega) (by unfold ib.qD;omega);rw[HN1.out]at hcc;refine qj (f:=137) (args:=#[.slice A n1 c',.int .i64 (N:Int)]) (w':=W) (by unfold execOp;simp only[hc,hfn,s40,g4,s45,g9];go_simp) (hcc.mono ?_);rintro e W' ⟨A',c'',rfl,h2,h3,_⟩;rw[HCS.out]at h2;refine⟨_,rfl,h3,A',c'',?_,h2⟩;rw[HCS.out,HN2.out]
    ·obtain⟨A,c',g10,h1⟩:=hG 10 (by kernel_rfl);exact q9 (w':=W) (by unfold execOp;simp only[s46,g10];go_simp) ⟨Below.refl _ _,A,c',rfl,h1⟩
    ·obtain⟨A,c',g11,h1⟩:=hG 11 (by kernel_rfl);exact q9 (w':=W) (by unfold execOp;simp only[s35,g11];go_simp) ⟨Below.refl _ _,A,c',rfl,h1⟩
    ·obtain⟨A,c',g11,h1⟩:=hG 11 (by kernel_rfl);exact q9 (w':=W) (by unfold execOp;simp only[s35,g11];go_simp) ⟨Below.refl _ _,rfl⟩
    ·obtain⟨A,c',g12,h1⟩:=hG 12 (by kernel_rfl);exact q9 (w':=W) (by unfold execOp;simp only[s47,g12];go_simp) ⟨Below.refl _ _,A,c',rfl,h1⟩
    ·have g13:vs 13=_:=hG 13 (by kernel_rfl);exact q9 (w':=W) (by unfold execOp;simp only[s48,g13];go_simp) ⟨Below.refl _ _,rfl⟩
   ·intro vs W hb hG;obtain⟨A,c',g14,h1⟩:=hG 14 (by decide);have g15:vs 15=_:=hG 15 (by decide);simp only[qR,qG,if_true];rw[g14,g15];generalize vs 0=z0;generalize vs 1=z1;generalize vs 2=z2;generalize vs 3=z3;generalize vs 4=z4;generalize vs 5=z5;generalize vs 6=z6;generalize vs 7=z7;generalize vs 8=z8;generalize vs 9=z9;generalize vs 10=z10;generalize vs 11=z11;generalize vs 12=z12;generalize vs 13=z13;have ja:=QH (qa HB.out hb);have HIW:=QH h1;have HOW:=QH (HO1.out.below hb);clear hG g14 g15 hb h1 HO1 HVP HAT qoH hvl;simp only[Act.put,List.setIfInBounds_toArray,List.set_cons_succ,List.set_cons_zero];refine⟨by kernel_rfl,?_⟩;have rV:=q02 A c' cs ((full x:Nat):Int) W HIW.out (by omega) (by unfold ib.qD;omega);rw[HN2.out]at rV;have jH:=QH rV;have HV1:Hid ((jn cs ((full x:Nat):Int)).2≠0→qP N m x=(([],[]),(jn cs ((full x:Nat):Int)).2)):=fun hne=>by unfold qP;rw[HCS.out];exact if_neg hne
    have nQ:Hid ((jn cs ((full x:Nat):Int)).2=0→qP N m x=(qd (jn cs ((full x:Nat):Int)).1 x,0)):=fun he=>by unfold qP;rw[HCS.out];exact if_pos he
    have HTL:=QH (fun h=>qas (cs:=cs) (n:=full x) h);obtain⟨R1,hR1⟩:=QE ((jn cs ((full x:Nat):Int)).1);obtain⟨R2,hR2⟩:=QE ((jn cs ((full x:Nat):Int)).2);have uV:jn cs ((full x:Nat):Int)=(R1,R2):=by rw[← hR1,← hR2]
    rw[uV]at jH;rw[hR1,hR2]at nQ HTL;rw[hR2]at HV1;obtain⟨V,hV⟩:=QE (qP N m x);rw[hV]at nQ HV1;have HVE:=QH hV;obtain⟨bv,hbv⟩:=QE (Value.slice VA x.length vc);have mQ:=QH hbv;have HVV:=QH HVA.out;rw[HVV.out,hbv]at HOW ⊢;clear rV hR1 hR2 uV hV hbv HCS HVA HVV HIW;go_wp2_with fail;refine jH.out.mono ?_;rintro e W2 ⟨A',cc,rfl,hi2,hb2,hnew,qsx⟩;have qA:=QH (qa ja.out hb2);have vX:=QH (HOW.out.below hb2);clear jH;by_cases h0:R2=0
    case' neg =>
     have hne:(R2 != 0)=true:=by simpa using h0
     have HV:=QH (HV1.out h0);have HNE:=QH h0;clear h0 HV1 nQ HTL hi2 hb2 hnew qsx;go_wp2_with fail;go_ret2;rw[HVE.out,HV.out];exact⟨qA.out,.inl ⟨HNE.out,rfl⟩⟩
    subst h0;have HV:=QH (nQ.out rfl);have hroom:=HTL.out rfl;clear nQ HV1 HTL;have qsy:=mQ.out;by_cases hx0:x.length=0
    ·have hPL:PL x (qd R1 x).1=[]:=by rw[List.length_eq_zero_iff.1 hx0];rfl
     have hP0:P0 x=[]:=by rw[List.length_eq_zero_iff.1 hx0];rfl
     have HPL:=QH hPL;have ho2:=vX.out;rw[hP0]at ho2;have HOE:=QH ho2;have q5N:((x.length:Nat):Int)=0:=by omega
     obtain⟨xl,q5O⟩:=QE ((x.length:Nat):Int);rw[q5O]at q5N;have hbe:=mQ.out;rw[hx0]at hbe;subst hbe;clear hPL hP0 ho2 mQ hi2 hb2 hnew qsx vX HOW ja hroom qsy;go_wp2_with fail;go_loopw [63] (fun i wr=>i=.int .i64 0∧wr=W2) (fun _ _=>0);case atStart=>exact⟨rfl,rfl⟩
     case round =>
      obtain⟨rfl,rfl⟩:=hrel;go_wp2_with fail;go_ret2;refine⟨qA.out,.inr ⟨by rw[HVE.out,HV.out],_,rfl,?_⟩⟩;rw[HVE.out,HV.out];show OPl _ w.heap.size _ (PL x (qd R1 x).1);rw[HPL.out];exact HOE.out
    ·obtain⟨g,hg⟩:∃g,bv=.slice (some ⟨g,0,none⟩) x.length vc:=by
        rcases vX.out.2 with⟨e,h0⟩|⟨g',cap,cur,e,_⟩
        ·have:(P0 x).length=x.length:=by unfold P0;rw[List.length_map]
         omega
        ·rw[← qsy]at e;simp only[Value.slice.injEq]at e;exact⟨g',by rw[← qsy,e.1]⟩
     have hgW:g<W.heap.size:=(HOW.out.lt g (by rw[hg];rfl)).2;have HS0:Hid (ax W2 g A' R1):=fun i hi=>by
      obtain⟨b',o',h1,h2,h3,_⟩:=hi2 i hi;have:=(hnew b' o' h1).1;exact⟨b',o',h1,by omega,h2,h3⟩
     have HO3:Hid (OPl W2 w.heap.size bv (Pw x [])):=by unfold Hid;rw[qww];exact vX.out
     have HK0:=QH (Pk.start x R1 hroom);have HLC:=QH qsx;subst hg;clear qsy mQ hi2 hb2 hnew qsx vX HOW ja hroom;go_wp2_with fail;go_loopw [12,13,63] (fun s _ i wr=>Pl2 x R1 w.heap.size (.slice (some ⟨g,0,none⟩) x.length vc) g w s i wr) (fun _ _ i _=>x.length-(intOf i).toNat);case atStart=>exact⟨0,[],R1,A',cc,rfl,rfl,HLC.out,HK0.out,HS0.out,HO3.out,qA.out⟩
     case round =>
      obtain⟨k,pre,fr',A3,c3,rfl,rfl,qwz,eO,qnF,hop,hB⟩:=hrel;have HPK:=QH eO;have q1r:=QH qnF;have HOP:=QH hop;have HB:=QH hB;have nk:=eO.le;have hpl:=eO.len;clear eO qnF hop hB;by_cases hlt:k<x.length
      ·have yt:(k:Int)<(x.length:Int):=by omega
       have hk0:¬ (k:Int)<0:=by omega
       have hkw:k<(Pw x pre).length:=by rw[rq (by omega)];exact hlt
       obtain⟨a3,c4,e3,qdK⟩:=HOP.out.view;simp only[Value.slice.injEq]at e3;obtain⟨rfl,q5P,rfl⟩:=e3;clear q5P;obtain⟨b',o',e4,s1,s2,s3,s4⟩:=qdK k hkw;simp only[Option.some.injEq,Addr.mk.injEq,and_true]at e4;obtain⟨rfl,rfl⟩:=e4;rw[qoF hpl hlt hkw]at s4;have q5Q:=H32.out _ (List.getElem_mem hlt);have HZ:Hid (∀W,Calls prog 136 #[.string (str x[k].2)] W (uC (decide (x[k].2=zb)) W)):=fun W=>mo _ q5Q W;have qoJ:=QH (fun hz=>HPK.out.zero hlt hz);have qoK:=QH (fun hz=>HPK.out.more hlt hz);have HPZ:=QH (qsw (x:=x) hpl hlt);dsimp only at s4;rw[Nat.zero_add]at s4;obtain⟨S,hS⟩:=QE (str x[k].2);rw[hS]at s4 HZ;clear qdK s2 s3 hS;go_wp2_with fail;refine(HZ.out _).mono ?_;rintro e W6 ⟨rfl,vg⟩;have dL:=QH (qa HB.out vg);have qw0:=QH (HOP.out.below vg);have qoL:=QH (q1r.out.below vg);clear vg HZ HOP q1r s1 s4;by_cases hz:x[k].2=zb
       ·rw[decide_eq_true hz];have qsz:=QH (qoJ.out hz);clear hz qoJ qoK;go_wp2_with fail;go_roundw;case rel=>exact⟨k+1,pre++[0],fr',A3,c3,by go_num,rfl,qwz,qsz.out,qoL.out,by rw[HPZ.out];exact qw0.out,dL.out⟩
        case measure=>simp[intOf];omega
       ·rw[decide_eq_false hz];obtain⟨f,r,hfr,q1s⟩:=qoK.out hz;have qsz:=QH q1s;subst hfr;obtain⟨b3,o3,rfl,n1,n2,n3⟩:=qoL.out 0 (by simp);have HT:=QH qoL.out.tail;obtain⟨qw1,hfz,bW,jG⟩:=qw0.out.set k hkw f;rw[qoF hpl hlt hkw,qoG hpl hlt f]at qw1;have q1t:=QH qw1;have HB7:Hid (Below w.heap.size w (W6.setCell ⟨g,k*3+1,none⟩ (.int .i64 f))):=dL.out.setCell (p:=⟨g,k*3+1,none⟩) bW _;obtain⟨a5,c5,e5,qdK⟩:=qw0.out.view;simp only[Value.slice.injEq]at e5;obtain⟨rfl,q5R,rfl⟩:=e5;clear q5R;obtain⟨b',o',e4,s1,s2,s3,s4⟩:=qdK k hkw;simp only[Option.some.injEq,Addr.mk.injEq,and_true]at e4;obtain⟨rfl,rfl⟩:=e4;rw[Nat.zero_add]at s3;simp only[List.getElem_cons_zero,Nat.add_zero]at n3;have zcD:(0:Int)<((r.length+1:Nat):Int):=by omega
        have zcE:(1:Int)≤((r.length+1:Nat):Int):=by omega
        have hrc:((r.length+1:Nat):Int)≤(c3:Int):=by rw[List.length_cons]at qwz;omega
        rw[List.length_cons]at qwz ⊢;clear hz qoJ qoK q1s qw1 qdK s2 s4;go_wp2_with fail;go_region;go_wp2_with fail;all_goals
         refine⟨?_,by simp[intOf];omega⟩;by_cases hc1:c3=1
         ·have hr0:r.length=0:=by omega
          rw[if_pos hc1];exact⟨k+1,pre++[f],r,_,_,rfl,rfl,by omega,qsz.out,(fun i hi=>absurd hi (by omega)),q1t.out.below (Below.refl _ _).drew,HB7.out.drew⟩
         ·rw[if_neg hc1];exact⟨k+1,pre++[f],r,_,_,rfl,rfl,by omega,qsz.out,HT.out.set.below (Below.refl _ _).drew,q1t.out.below (Below.refl _ _).drew,HB7.out.drew⟩
      ·obtain rfl:k=x.length:=by omega
       have yt:¬ (x.length:Int)<(x.length:Int):=by omega
       have HE:=QH HPK.out.stop;have HPA:=QH (qwx (x:=x) hpl);go_wp2_with fail;go_ret2;refine⟨HB.out,.inr ⟨by rw[HVE.out,HV.out],_,rfl,?_⟩⟩;rw[HVE.out,HV.out];show OPl wr w.heap.size _ (PL x (qd R1 x).1);rw[HE.out,← HPA.out];exact HOP.out
section
variable {o1 o2:Nat→Prop} {w w1 w':World} {v pd N b:Nat} {d:DD} {m:Mt} {t:Tg} {Q:Int→DD→Mt→Bool→Prop} {e:Ending}
theorem qw2(hb:Below w.heap.size w w1)(h:q0Y w.heap.size o1 o2 v pd Q w1 e w'):qbl ag o1 o2 v pd Q w e w':=by
 obtain⟨r,d',m',lost,sK,iV,h1,h2,h3,h4,h5⟩:=h;exact⟨r,d',m',lost,sK,iV,h1,h2,(ib.qz.of_below (S:=fun j=>o1 j∨o2 j) hb).trans h3 (fun _ h=>.inl h),h4,h5⟩
theorem qdL{l:Bool}{r:Int}(h:VP ag w' o1 o2 v pd d m l)(hb:Below w.heap.size w w')(hq:Q r d m l):qbl ag o1 o2 v pd Q w (.returned (.int .i64 r)) w' :=
 ⟨r,d,m,l,o1,o2,rfl,h,ib.qz.of_below hb,fun j hj=>.inl hj,hq⟩
theorem qoM(h:VP ag w o1 o2 v pd d m false):∀j,o1 j∨o2 j∨j=gN→j<w.heap.size:=fun j hj=>by
 rcases hj with hj|hj|hj
 ·exact qbp h.is j (.inl hj)
 ·exact iW h.dk j hj
 ·exact qbp h.is j (.inr hj)
end
theorem qgK{b N:Nat}{m:Mt}{x:List (Int × Bt)}(hok:jI b N m)(hN:N≤1024)(h0:(qP N m x).2=0):pT (PL x (qP N m x).1.1)=(qP N m x).1.2:=by
 obtain⟨cs,hcs,hcl,_,_⟩:=cH hok hN;unfold qP at h0 ⊢;rw[hcs]at h0 ⊢;dsimp only at h0 ⊢;by_cases hz:(jn cs ((full x:Nat):Int)).2=0
 ·rw[if_pos hz];have hl:=qas hz;refine lf x _ (fun f hf=>?_) hl;have hst:(jn cs ((full x:Nat):Int)).1=(qV cs cs.length).take (full x):=by
   unfold jn at hz ⊢;rw[if_neg (by omega)]at hz ⊢;by_cases hf:(yr cs:Int)<((full x:Nat):Int)
   ·rw[if_pos hf]at hz;simp at hz
   ·rw[if_neg hf,Int.toNat_natCast]
  rw[hst]at hf;obtain⟨j,e,g1,_,_⟩:=iP.1 (List.mem_of_mem_take hf);omega
 ·rw[if_neg hz]at h0;exact absurd h0 hz
theorem q1u{b N:Nat}{m:Mt}{x:List (Int × Bt)}{at_:List Int}{ws:List jr.Wr}(hp:oQ N m x at_ ws)(hN:N≤1024)(hc:xw b (-1) x=true):∀p∈PL x at_,0≤p.1∧p.1<(b:Int)∧0≤p.2.1∧qD p.2.1:=by
 intro p hm;obtain⟨i,hi,rfl⟩:=List.getElem_of_mem hm;have hx:i<x.length:=by unfold PL at hi;simp at hi;omega
 have ha:i<at_.length:=by unfold PL at hi;simp at hi;omega
 have e:(PL x at_)[i]=(x[i].1,at_[i],x[i].2):=by simp[PL]
 rw[e];have h1:=wE hc _ (List.getElem_mem hx);refine⟨by show 0≤x[i].1;omega,h1.2.2,?_⟩;show 0≤at_[i]∧qD at_[i];rcases hp.each i hx ha with⟨_,h⟩|⟨_,h⟩
 ·rw[h];exact⟨by omega,by unfold qD;omega⟩
 ·have hr:=hp.wok.range _ h;dsimp only at hr;exact⟨by omega,by unfold qD;omega⟩
theorem qw3{x:List (Int × Bt)}{at_:List Int}(h:at_.length=x.length):(PL x at_).length=x.length:=by unfold PL;rw[List.length_zipWith];omega
theorem wH.form{G:Nat→Prop}{w:World}{f:Value}{m m':Mt}(h:wH G w f m m'):∃k uP,f=.func (.func k) #[] uP:=by
 obtain⟨k,uP,h1,_⟩:=h;exact⟨k,uP,h1⟩
theorem qoN{G:Nat→Prop}{w:World}{f:Value}{m m':Mt}{b:Nat}(hk:qf w b 129 #[f])(h:wH G w f m m'):qgB G w (some ⟨b,0,none⟩) 1 (fun i=>if i=0 then m else m'):=fun i hi=>by
 obtain rfl:i=0:=by omega
 exact⟨b,0,f,rfl,hk.lt,hk.cell 0,h⟩
theorem qgL{G:Nat→Prop}{w:World}{f g k:Value}{m m1 m2 m3:Mt}{b:Nat}(hk:qf w b 129 #[f,g,k])(h1:wH G w f m m1)(h2:wH G w g m1 m2)(h3:wH G w k m2 m3):qgB G w (some ⟨b,0,none⟩) 3 (fun i=>if i=0 then m else if i=1 then m1 else if i=2 then m2 else m3):=fun i hi=>by
 match i,hi with
 | 0,_=>exact⟨b,0,f,rfl,hk.lt,hk.cell 0,h1⟩
 | 1,_=>exact⟨b,0,g,rfl,hk.lt,hk.cell 1,h2⟩
 | 2,_=>exact⟨b,0,k,rfl,hk.lt,hk.cell 2,h3⟩
theorem qdM{N:Nat}{t:Tg}{d:DD}{m:Mt}{c:Int}(h:c≠0):qj3 N t d m ⟨c,m,[]⟩ c d m false:=.inl ⟨h,rfl,rfl,rfl,rfl⟩
theorem qig{o1 o2:Nat→Prop}{w w1:World}{v pd N b n:Nat}{d:DD}{m:Mt}{t:Tg}{pn:qfN}{M:Nat→Mt}(h:VP ag w o1 o2 v pd d m false)(hb:Below w.heap.size w w1)(hJ:jr.JJ N t d)(hf:0≤d.qy)(hR:yb b N t m)(hc:pn.code=0)(hdo:jI b N pn.m∧tZ N m pn.ws)
    (hM0:M 0=m) (hMn:M n=pn.m) {A:Option Addr} {c:Nat} (hE:qgB (fun j=>(o1 j∧j≠v)∨w.heap.size≤j) w1 A n M) (hn:n≤10) {B:Option Addr} {cb:Nat} {P:List Pl} (hP:PlL w1 B P) (hpl:P.length≤100) (hPW:pT P=pn.ws) :
    Calls prog 63 #[pt v,.slice B P.length cb,.slice A n c] w1 (qbl ag o1 o2 v pd (qj3 N t d m pn) w):=by
 have hpn:pn=⟨0,pn.m,pn.ws⟩:=by rw[← hc]
 rw[hpn];refine(qgC (qZ h hb) hJ hf hR hb.size (qoM h) hM0 hMn hdo.1 hdo.2 hE hn hP hpl hPW).mono ?_;rintro e W hx;exact qw2 hb hx
end Go.Proofs.YtdpbdkacngaemaaGreatDoor.vt.pg
namespace Go.Proofs.YtdpbdkacngaemaaGreatDoor.vt.pg
open _root_.Go.Proofs.Tryz Go Go.RowKit Go.Sort ib mt im sp
theorem qoO:TkB yB:=⟨by simp[xB,yB],by simp[xB,yB],by simp[qD,yB],by simp[qD,yB]⟩
section
variable {o1 o2:Nat→Prop} {w w1 w':World} {v pd:Nat} {d:DD} {m:Mt} {l:Bool}
end
end Go.Proofs.YtdpbdkacngaemaaGreatDoor.vt.pg
