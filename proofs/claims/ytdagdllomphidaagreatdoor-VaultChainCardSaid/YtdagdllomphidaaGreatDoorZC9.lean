/- VgPlc, VgWri, VgHF, VgOff, VgTok, Step, JWrites, JKept, JAlike, JReady, JWorks, JAllP, JTwiceP, JKnP, JKnC, VgOpn, DkApp2, DkCopy, DkCopy2, VgFmt, VgSnp. -/
import Derived.Test.YtdagdllomphidaaGreatDoorZC8
import Derived.Deep.RegionLawGrows
import Derived.Shelf.SlMaps.Clone
import Derived.Laws.Cover3
set_option linter.unusedVariables false
set_option linter.unusedSimpArgs false
set_option maxHeartbeats 30000000
set_option maxRecDepth 100000
namespace Go.Proofs.YtdagdllomphidaaGreatDoor.vt.pg
open _root_.Go.Proofs.Tryz Go Go.RowKit Go.Sort ib mt im sp
def dX (w:World)(g:Nat)(A:Option Addr)(l:List Int):Prop:=∀i (h:i<l.length),∃b o,A=some ⟨b,o,none⟩∧b≠g∧b<w.heap.size∧w.cell? ⟨b,o+i,none⟩=some (.int .i64 l[i])
theorem dX.set{w:World}{g k:Nat}{u:Value}{A:Option Addr}{l:List Int}(h:dX w g A l):dX (w.setCell ⟨g,k,none⟩ u) g A l:=by
 intro i hi;obtain⟨b,o,h1,h2,h3,h4⟩:=h i hi;exact⟨b,o,h1,h2,by simpa[World.setCell]using h3,(World.cell?_of_block (a:=⟨b,o+i,none⟩) (qz _ _ _ _ _ h2)).trans h4⟩
theorem dX.below{w w':World}{g:Nat}{A:Option Addr}{l:List Int}(h:dX w g A l)(hb:Below w.heap.size w w'):dX w' g A l:=by
 intro i hi;obtain⟨b,o,h1,h2,h3,h4⟩:=h i hi;exact⟨b,o,h1,h2,Nat.lt_of_lt_of_le h3 hb.size,(hb.cell (p:=⟨b,o+i,none⟩) h3).trans h4⟩
theorem dX.tail{w:World}{g b o:Nat}{f:Int}{l:List Int}(h:dX w g (some ⟨b,o,none⟩) (f::l)):dX w g (some ⟨b,o+1,none⟩) l:=by
 intro i hi;obtain⟨b',o',h1,h2,h3,h4⟩:=h (i+1) (by simpa using hi);simp only[Option.some.injEq,Addr.mk.injEq,and_true]at h1;obtain⟨rfl,rfl⟩:=h1;refine⟨b,o+1,rfl,h2,h3,?_⟩;rw[show o+1+i=o+(i+1)by omega];exact h4
structure Pk(x:List (Int × Bt))(fr:List Int)(k:Nat)(pre fr':List Int):Prop where
 le:k≤x.length
 len:pre.length=k
 all:(qd fr x).1=pre++(qd fr' (x.drop k)).1
 room:full (x.drop k)≤fr'.length
theorem Pk.start(x:List (Int × Bt))(fr:List Int)(h:full x≤fr.length):Pk x fr 0 [] fr:=⟨Nat.zero_le _,rfl,rfl,h⟩
theorem pQ (c:Int × Bt)(r:List (Int × Bt)):full (c::r)=full r+if c.2=zb then 0 else 1:=by obtain⟨a,b⟩:=c;exact vW a b r
theorem qfR(fr:List Int)(y:Int × Bt)(r:List (Int × Bt))(h:y.2=zb):qd fr (y::r)=(0::(qd fr r).1,(qd fr r).2):=by
 obtain⟨a,b⟩:=y;dsimp only at h;cases fr <;> simp[qd,h]
theorem qfS(f:Int)(fr:List Int)(y:Int × Bt)(r:List (Int × Bt))(h:¬ y.2=zb):qd (f::fr) (y::r)=(f::(qd fr r).1,(f,y.2)::(qd fr r).2):=by
 obtain⟨a,b⟩:=y;dsimp only at h;simp[qd,h]
theorem Pk.zero{x:List (Int × Bt)}{fr pre fr':List Int}{k:Nat}(h:Pk x fr k pre fr')(hk:k<x.length)(hz:x[k].2=zb):Pk x fr (k+1) (pre++[0]) fr':=by
 obtain⟨h1,h2,h3,h4⟩:=h;rw[List.drop_eq_getElem_cons hk]at h3 h4;rw[qfR _ _ _ hz]at h3;rw[pQ,if_pos hz]at h4;exact⟨by omega,by simp[h2],by rw[h3];simp,by omega⟩
theorem Pk.more{x:List (Int × Bt)}{fr pre fr':List Int}{k:Nat}(h:Pk x fr k pre fr')(hk:k<x.length)(hz:¬ x[k].2=zb):∃f r,fr'=f::r∧Pk x fr (k+1) (pre++[f]) r:=by
 obtain⟨h1,h2,h3,h4⟩:=h;rw[List.drop_eq_getElem_cons hk]at h3 h4;rw[pQ,if_neg hz]at h4;cases fr' with
 | nil=>simp at h4
 | cons f r =>
  rw[qfS _ _ _ _ hz]at h3;exact⟨f,r,rfl,by omega,by simp[h2],by rw[h3];simp,by simp at h4;omega⟩
theorem Pk.stop{x:List (Int × Bt)}{fr pre fr':List Int}(h:Pk x fr x.length pre fr'):(qd fr x).1=pre:=by
 obtain⟨h1,h2,h3,h4⟩:=h;rw[List.drop_length]at h3;simpa[qd]using h3
def Pw (x:List (Int × Bt))(pre:List Int):List Pl:=PL x (pre++List.replicate (x.length-pre.length) 0)
theorem qvg(x:List (Int × Bt)):Pw x []=P0 x:=by
 unfold Pw PL P0;apply List.ext_getElem
 ·simp
 ·intro i h1 h2;simp
theorem pR {x:List (Int × Bt)}{pre:List Int}(h:pre.length≤x.length):(Pw x pre).length=x.length:=by
 unfold Pw PL;rw[List.length_zipWith,List.length_append,List.length_replicate];omega
theorem qnu{x:List (Int × Bt)}{pre:List Int}{k:Nat}(hp:pre.length=k)(hk:k<x.length)(h:k<(Pw x pre).length):(Pw x pre)[k]=(x[k].1,0,x[k].2):=by
 simp only[Pw,PL,List.getElem_zipWith];rw[List.getElem_append_right (by omega),List.getElem_replicate]
theorem qnv{x:List (Int × Bt)}{pre:List Int}{k:Nat}(hp:pre.length=k)(hk:k<x.length)(a:Int):(Pw x pre).set k (x[k].1,a,x[k].2)=Pw x (pre++[a]):=by
 apply List.ext_getElem
 ·rw[List.length_set,pR (by omega),pR (by simp;omega)]
 ·intro i h1 h2;rw[List.getElem_set];have hix:i<x.length:=by rw[pR (by simp;omega)]at h2;exact h2
  by_cases e:k=i
  ·subst e;rw[if_pos rfl];simp only[Pw,PL,List.getElem_zipWith];rw[List.getElem_append_left (by simp;omega),List.getElem_append_right (by omega)];simp[hp]
  ·rw[if_neg e];simp only[Pw,PL,List.getElem_zipWith]
   congr 2
   by_cases h3:i<pre.length
   ·rw[List.getElem_append_left h3,List.getElem_append_left (by simp;omega),List.getElem_append_left h3]
   ·rw[List.getElem_append_right (by omega),List.getElem_append_right (by simp;omega)];simp
theorem qqJ{x:List (Int × Bt)}{pre:List Int}{k:Nat}(hp:pre.length=k)(hk:k<x.length):Pw x (pre++[0])=Pw x pre:=by
 rw[← qnv hp hk 0];have h:=pR (x:=x) (pre:=pre) (by omega);rw[← qnu hp hk (by omega),List.set_getElem_self]
theorem qvh{x:List (Int × Bt)}{pre:List Int}(h:pre.length=x.length):Pw x pre=PL x pre:=by
 unfold Pw;rw[h,Nat.sub_self,List.replicate_zero,List.append_nil]
def Pl2 (x:List (Int × Bt))(fr:List Int)(B:Nat)(bv:Value)(g:Nat)(w:World)(s i:Value)(wr:World):Prop :=
 ∃(k:Nat) (pre fr':List Int) (A:Option Addr) (c:Nat),i=.int .i64 (k:Int)∧s=.slice A fr'.length c∧fr'.length≤c∧Pk x fr k pre fr'∧dX wr g A fr'∧OPl wr B bv (Pw x pre)∧Below w.heap.size w wr
theorem tG {cs:List Int}{n:Nat}(h:(yY cs (n:Int)).2=0):n≤(yY cs (n:Int)).1.length:=by
 unfold yY at h ⊢;rw[if_neg (by omega)]at h ⊢;by_cases hf:(yg cs:Int)<(n:Int)
 ·rw[if_pos hf]at h;simp at h
 ·rw[if_neg hf];rw[Int.toNat_natCast];show n≤((qR cs cs.length).take n).length;unfold yg at hf;rw[List.length_take];omega
theorem pS {o1 o2:Nat→Prop}{w:World}{v pd N:Nat}{d:DD}{m:Mt}{l:Bool}{b:Nat}(h:VP jB w o1 o2 v pd d m l)(hn:d.n=N)(jL:yt b N m)(hN:N≤1024){A:Option Addr}{c:Nat}{x:List (Int × Bt)}(hx:ch.aD w A x)(aw:x.length≤8)(h32:∀y∈x,y.2.length=32) :
    Calls prog 55 #[pt v,.slice A x.length c] w (qhd (qu N m x) x w):=by
 obtain⟨i0,hi,hz0,hz1,hz2⟩:=info_parts quQ;have HV:=QH h;have HX:=QH hx;have H32:=QH h32;obtain⟨cs,hcs,hcl,_,_⟩:=bK jL hN;have hfull:=qa6 x;have HCS:=QH hcs;have HNN:=QH hn;clear h hx h32 hcs jL hn;go_enter func55,ntmps55;go_wp2_with fail;go_loopw [6,7,16] (fun v f i wr=>PlR x w v f i wr) (fun _ _ i _=>x.length-(intOf i).toNat);case atStart=>exact⟨0,Nat.zero_le _,rfl,rfl,World.ownsRow_nil _ _ _ _,Below.refl _ _⟩
 case round =>
  obtain⟨k,hk,rfl,rfl,ho,hB⟩:=hrel;have HO:=QH ho;have HB:=QH hB;clear ho hB;by_cases hlt:k<x.length
  ·have jD:(k:Int)<(x.length:Int):=by omega
   have hk0:¬ (k:Int)<0:=by omega
   obtain⟨b',o,rfl,s1,s2,s3,_⟩:=(HX.out.below HB.out) k hlt;have mn:Hid (P0 (x.take (k+1))=P0 (x.take k)++[(x[k].1,0,x[k].2)]):=by unfold Hid P0;rw[List.take_succ_eq_append_getElem hlt,List.map_append];rfl
   have HLK:Hid ((P0 (x.take k)).length=k):=by unfold Hid P0;rw[List.length_map,List.length_take];omega
   have HFT:=QH (qji hlt);have hft:full (x.take k)≤k:=by have:=qa6 (x.take k);rw[List.length_take]at this;omega
   have HZ:Hid (∀W,Calls prog 101 #[.string (str x[k].2)] W (dh (decide (x[k].2=zb)) W)):=fun W=>lU _ (H32.out _ (List.getElem_mem hlt)) W;obtain⟨y,hy⟩:=QE (x[k]);rw[hy]at mn HFT HZ s2 s3;clear hy;obtain⟨kb,s⟩:=y;dsimp only at mn HFT HZ s2 s3;obtain⟨fl,gD⟩:=QE (full (x.take k));rw[gD]at HFT hft ⊢;obtain⟨S,hS⟩:=QE (str s);have HSS:=QH hS;rw[hS]at s3 HZ;clear gD hS;have ki:=(Below.refl _ wr).alloc (Nat.le_refl _) (.cells #[.int .i64 kb,.string S] 62);obtain⟨W3,hW3⟩:=QE (wr.alloc (.cells #[.int .i64 kb,.string S] 62));have yu:=qf.new wr 62 #[.int .i64 kb,.string S];rw[hW3]at ki yu;have yD:=QH yu;have r0:=yu.cell 0;have r1:=yu.cell 1;have hrl:=yu.lt;simp only[QA,QB,QC]at r0 r1;have hby:=(Below.refl _ W3).alloc (Nat.le_refl _) (.cells #[.int .i64 kb,.int .i64 0,.string S] 171);have hbz:=qc ki hby;have HO4:=QH (HO.out.below hbz);have zO:=QH (qc HB.out hbz);have aN:Hid (∀j u,([.int .i64 kb,.int .i64 0,.string S]:List Value)[j]?=some u→(W3.alloc (.cells #[.int .i64 kb,.int .i64 0,.string S] 171)).cell? ((⟨W3.heap.size,0,none⟩:Addr).add j)=some u):=fun j u hu=>by
    rw[addr_add,Nat.zero_add,(qf.new W3 171 #[.int .i64 kb,.int .i64 0,.string S]).cell j];simpa using hu
   have e1:∀u∈([.int .i64 kb,.int .i64 0,.string S]:List Value),u.oneCell'=true:=by intro u hu;simp at hu;rcases hu with rfl|rfl|rfl <;> rfl
   have E1:=QH e1;have E2:Hid ((P0 (x.take k)).length+1≤maxLen):=by unfold Hid;rw[HLK.out];unfold maxLen;omega
   have E3:Hid (((P0 (x.take k)).length+1)*32≤140737488355328):=by unfold Hid;rw[HLK.out];omega
   have qV:Hid (Below W3.heap.size W3 (W3.alloc (.cells #[.int .i64 kb,.int .i64 0,.string S] 171))):=hby;have HWW:Hid (w.heap.size≤wr.heap.size):=HB.out.size;have HNE:Hid (∀j,(∃v':Value,v'.ownBlock=some j∧OPl wr w.heap.size v' (P0 (x.take k)))→j≠wr.heap.size):=fun j ⟨v',h1,h2⟩ e=>by have:=(h2.lt j h1).2;omega
   clear e1 ki yu hby hbz;go_wp2_with (at_builtin;refine xg rfl (.tmp 20) (.tmp 26) 110 rfl w.heap.size 171 i0 (.agg #[.int .i64 0,.int .i64 0,.string ByteArray.empty]) 3 32 underlying110 hi hz0 hz1 hz2 rfl (by decide) _ _ _ rfl HO4.out ⟨W3.heap.size,0,none⟩ 1 1 [.int .i64 kb,.int .i64 0,.string S] rfl rfl aN.out E1.out E2.out E3.out zO.out.size ?_);intro v' w1 hown hgrow _;have jx:Hid (Below w.heap.size w w1):=zO.out.grown hgrow zO.out.size (fun j hj=>(HO4.out.lt j hj).1);have HO5:Hid (OPl w1 w.heap.size v' (P0 (x.take (k+1)))):=by
    unfold Hid OPl;rw[mn.out,bg,List.length_append,HLK.out];show w1.ownsRow _ _ _ v' (k+1) (yN (P0 (x.take k))++[.int .i64 kb,.int .i64 0,.string (str s)]);rw[HSS.out];have h9:=hown;rw[HLK.out]at h9;exact h9
   have hk5:qf w1 wr.heap.size 62 #[.int .i64 kb,.string S]:=(yD.out.below qV.out).of_block (hgrow.block _ (yD.out.below qV.out).lt (fun e=>by
    have:=(HO.out.lt wr.heap.size e.symm).2;omega))
   have r1:=hk5.cell 1;have hrl:=hk5.lt;simp only[QA,QB,QC]at r1;clear hown hgrow hk5;go_wp2_with fail;refine(HZ.out _).mono ?_;rintro e W6 ⟨rfl,kG⟩;have HO6:=QH (HO5.out.below kG);have gU:=QH (qc jx.out kG);have hfw:IntKind.i64.wrap ((fl:Int)+1)=((fl+1:Nat):Int):=by rw[IntWalk.i64_in _ (by omega)];omega
   clear kG r1 hrl HZ;by_cases hz:s=zb
   ·rw[decide_eq_true hz];have HF:Hid (full (x.take (k+1))=fl):=by unfold Hid;rw[HFT.out,if_pos hz,Nat.add_zero]
    clear hz HFT;go_wp2_with fail;go_roundw;case rel=>exact⟨k+1,by omega,by go_num,by rw[HF.out],HO6.out,gU.out⟩
    case measure=>simp[intOf];omega
   ·rw[decide_eq_false hz];have HF:Hid (full (x.take (k+1))=fl+1):=by unfold Hid;rw[HFT.out,if_neg hz]
    clear hz HFT;go_wp2_with fail;go_roundw;case rel=>exact⟨k+1,by omega,by go_num,by rw[HF.out];rfl,HO6.out,gU.out⟩
    case measure=>simp[intOf];omega
  ·obtain rfl:k=x.length:=by omega
   have jD:¬ (x.length:Int)<(x.length:Int):=by omega
   have ho:=HO.out;rw[List.take_length]at ho ⊢;obtain⟨VA,vc,hva,_⟩:=ho.view;have HO1:=QH ho;have hlp:(P0 x).length=x.length:=by unfold P0;rw[List.length_map]
   rw[hlp]at hva;have HVA:=QH hva;obtain⟨bv,hbv⟩:∃z,z=z:=⟨(0:Nat),rfl⟩;clear ho hva hbv bv;go_upto_region 10 with fail;have hv1:=qQ HV.out HB.out;obtain⟨A0,A1,A2,c0,c1,c2,hA⟩:=hv1.is;have HAT:=QH hA;have qnw:=hA.cells;have HVP:=QH hv1;have hvl:=qnw.lt;clear hv1 hA;obtain⟨n1,hn1⟩:=QE ((xa m).length);obtain⟨n2,hn2⟩:=QE cs.length;have HN1:=QH hn1;have HN2:=QH hn2;have h16:n1≤1002:=by rw[← hn1];unfold xa;have:=HAT.out.sz.qa;simp;omega
   refine qM (by kernel_rfl) 16 [36,37,38,39,40,41,42,43,44,45,46,35,47,48,10,11] (by kernel_rfl) (PcG v pd N (.agg (zj A0 A1 A2 c0 c1 c2 m)) n1 n2 (xa m) cs) (qmX _ _ _ _ _ _ _ _) ?_ ?_
   ·intro i o vs ρ W qqK hop hρ hfn hb hG;have t0:ρ (.tmp 0)=pt v:=hρ.out 0 rfl;have hc:=hρ.const;have s36:=hρ.at_ 36 0 rfl;have s37:=hρ.at_ 37 1 rfl;have s38:=hρ.at_ 38 2 rfl;have s39:=hρ.at_ 39 3 rfl;have s40:=hρ.at_ 40 4 rfl;have s41:=hρ.at_ 41 5 rfl;have s42:=hρ.at_ 42 6 rfl;have s43:=hρ.at_ 43 7 rfl;have s44:=hρ.at_ 44 8 rfl;have s45:=hρ.at_ 45 9 rfl;have s46:=hρ.at_ 46 10 rfl;have s35:=hρ.at_ 35 11 rfl;have s47:=hρ.at_ 47 12 rfl;have s48:=hρ.at_ 48 13 rfl;have hat:=HAT.out.below hb;have HVW:=QH (qQ HVP.out hb);obtain⟨aL,k0,k1,k2,k3,k4,k5,k6,k7,k8,k9,bQ⟩:=hat.cells;rcases i with _|_|_|_|_|_|_|_|_|_|_|_|_|_|_|_|i;all_goals (first|omega|skip)
    all_goals simp only[QA,QB,QC,Option.some.injEq]at hop
    all_goals subst hop
    ·exact q9 (w':=W) (by unfold execOp;simp only[t0];go_simp) ⟨Below.refl _ _,rfl⟩
    ·have g0:vs 0=_:=hG 0 (by kernel_rfl);exact q9 (w':=W) (by unfold execOp;simp only[s36,g0];go_simp) ⟨Below.refl _ _,rfl⟩
    ·have g1:vs 1=_:=hG 1 (by kernel_rfl);exact q9 (w':=W) (by unfold execOp;simp only[s37,g1];go_simp) ⟨Below.refl _ _,rfl⟩
    ·have g2:vs 2=_:=hG 2 (by kernel_rfl);exact q9 (w':=W) (by unfold zj execOp;simp only[s38,g2];go_simp) ⟨Below.refl _ _,rfl⟩
    ·have g3:vs 3=_:=hG 3 (by kernel_rfl);refine qi (f:=103) (args:=#[.agg (zj A0 A1 A2 c0 c1 c2 m)]) (w':=W) (by unfold execOp;simp only[hc,hfn,s39,g3];go_simp) ((qfu hat.tab.mt hat.sz).mono ?_);rintro e W' ⟨A,c',rfl,h1,h2⟩;exact⟨_,rfl,h2,A,c',by rw[HN1.out],h1⟩
    ·exact q9 (w':=W) (by unfold execOp;simp only[t0];go_simp) ⟨Below.refl _ _,rfl⟩
    ·have g5:vs 5=_:=hG 5 (by kernel_rfl);exact q9 (w':=W) (by unfold execOp;simp only[s41,g5];go_simp) ⟨Below.refl _ _,rfl⟩
    ·have g6:vs 6=_:=hG 6 (by kernel_rfl);exact q9 (w':=W) (by unfold execOp;simp only[s42,g6];go_simp) ⟨Below.refl _ _,rfl⟩
    ·have g7:vs 7=_:=hG 7 (by kernel_rfl);exact q9 (w':=W) (by unfold execOp;simp only[s43,g7];go_simp) ⟨Below.refl _ _,rfl⟩
    ·have g8:vs 8=_:=hG 8 (by kernel_rfl);refine qi (f:=45) (args:=#[pt pd]) (w':=W) (by unfold execOp;simp only[hc,hfn,s44,g8];go_simp) ((eW HVW.out.dk).mono ?_);rintro e W' ⟨rfl,rfl⟩;exact⟨_,rfl,Below.refl _ _,by rw[HNN.out];rfl⟩
    ·obtain⟨A,c',g4,h1⟩:=hG 4 (by kernel_rfl);have g9:vs 9=_:=hG 9 (by kernel_rfl);have hcc:=qq2 A c' (xa m) (N:Int) W h1 (by have:=HN1.out;omega) (by unfold ib.qC;omega);rw[HN1.out]at hcc;refine qi (f:=102) (args:=#[.slice A n1 c',.int .i64 (N:Int)]) (w':=W) (by unfold execOp;simp only[hc,hfn,s40,g4,s45,g9];go_simp) (hcc.mono ?_);rintro e W' ⟨A',c'',rfl,h2,h3,_⟩;rw[HCS.out]at h2;refine⟨_,rfl,h3,A',c'',?_,h2⟩;rw[HCS.out,HN2.out]
    ·obtain⟨A,c',g10,h1⟩:=hG 10 (by kernel_rfl);exact q9 (w':=W) (by unfold execOp;simp only[s46,g10];go_simp) ⟨Below.refl _ _,A,c',rfl,h1⟩
    ·obtain⟨A,c',g11,h1⟩:=hG 11 (by kernel_rfl);exact q9 (w':=W) (by unfold execOp;simp only[s35,g11];go_simp) ⟨Below.refl _ _,A,c',rfl,h1⟩
    ·obtain⟨A,c',g11,h1⟩:=hG 11 (by kernel_rfl);exact q9 (w':=W) (by unfold execOp;simp only[s35,g11];go_simp) ⟨Below.refl _ _,rfl⟩
    ·obtain⟨A,c',g12,h1⟩:=hG 12 (by kernel_rfl);exact q9 (w':=W) (by unfold execOp;simp only[s47,g12];go_simp) ⟨Below.refl _ _,A,c',rfl,h1⟩
    ·have g13:vs 13=_:=hG 13 (by kernel_rfl);exact q9 (w':=W) (by unfold execOp;simp only[s48,g13];go_simp) ⟨Below.refl _ _,rfl⟩
   ·intro vs W hb hG;obtain⟨A,c',g14,h1⟩:=hG 14 (by decide);have g15:vs 15=_:=hG 15 (by decide);simp only[qW,qK,if_true];rw[g14,g15];generalize vs 0=z0;generalize vs 1=z1;generalize vs 2=z2;generalize vs 3=z3;generalize vs 4=z4;generalize vs 5=z5;generalize vs 6=z6;generalize vs 7=z7;generalize vs 8=z8;generalize vs 9=z9;generalize vs 10=z10;generalize vs 11=z11;generalize vs 12=z12;generalize vs 13=z13;have kS:=QH (qc HB.out hb);have HIW:=QH h1;have HOW:=QH (HO1.out.below hb);clear hG g14 g15 hb h1 HO1 HVP HAT qnw hvl;simp only[Act.put,List.setIfInBounds_toArray,List.set_cons_succ,List.set_cons_zero];refine⟨by kernel_rfl,?_⟩;have aV:=qyR A c' cs ((full x:Nat):Int) W HIW.out (by omega) (by unfold ib.qC;omega);rw[HN2.out]at aV;have mn:=QH aV;have HV1:Hid ((yY cs ((full x:Nat):Int)).2≠0→qu N m x=(([],[]),(yY cs ((full x:Nat):Int)).2)):=fun hne=>by unfold qu;rw[HCS.out];exact if_neg hne
    have ml:Hid ((yY cs ((full x:Nat):Int)).2=0→qu N m x=(qd (yY cs ((full x:Nat):Int)).1 x,0)):=fun he=>by unfold qu;rw[HCS.out];exact if_pos he
    have sK:=QH (fun h=>tG (cs:=cs) (n:=full x) h);obtain⟨R1,hR1⟩:=QE ((yY cs ((full x:Nat):Int)).1);obtain⟨R2,hR2⟩:=QE ((yY cs ((full x:Nat):Int)).2);have uS:yY cs ((full x:Nat):Int)=(R1,R2):=by rw[← hR1,← hR2]
    rw[uS]at mn;rw[hR1,hR2]at ml sK;rw[hR2]at HV1;obtain⟨V,hV⟩:=QE (qu N m x);rw[hV]at ml HV1;have HVE:=QH hV;obtain⟨bv,hbv⟩:=QE (Value.slice VA x.length vc);have HBV:=QH hbv;have HVV:=QH HVA.out;rw[HVV.out,hbv]at HOW ⊢;clear aV hR1 hR2 uS hV hbv HCS HVA HVV HIW;go_wp2_with fail;refine mn.out.mono ?_;rintro e W2 ⟨A',cc,rfl,hi2,hb2,hnew,qqL⟩;have qy:=QH (qc kS.out hb2);have wR:=QH (HOW.out.below hb2);clear mn;by_cases h0:R2=0
    case' neg =>
     have hne:(R2 != 0)=true:=by simpa using h0
     have HV:=QH (HV1.out h0);have HNE:=QH h0;clear h0 HV1 ml sK hi2 hb2 hnew qqL;go_wp2_with fail;go_ret2;rw[HVE.out,HV.out];exact⟨qy.out,.inl ⟨HNE.out,rfl⟩⟩
    subst h0;have HV:=QH (ml.out rfl);have hroom:=sK.out rfl;clear ml HV1 sK;have qqM:=HBV.out;by_cases hx0:x.length=0
    ·have hPL:PL x (qd R1 x).1=[]:=by rw[List.length_eq_zero_iff.1 hx0];rfl
     have hP0:P0 x=[]:=by rw[List.length_eq_zero_iff.1 hx0];rfl
     have HPL:=QH hPL;have ho2:=wR.out;rw[hP0]at ho2;have HOE:=QH ho2;have q5a:((x.length:Nat):Int)=0:=by omega
     obtain⟨xl,q5b⟩:=QE ((x.length:Nat):Int);rw[q5b]at q5a;have hbe:=HBV.out;rw[hx0]at hbe;subst hbe;clear hPL hP0 ho2 HBV hi2 hb2 hnew qqL wR HOW kS hroom qqM;go_wp2_with fail;go_loopw [63] (fun i wr=>i=.int .i64 0∧wr=W2) (fun _ _=>0);case atStart=>exact⟨rfl,rfl⟩
     case round =>
      obtain⟨rfl,rfl⟩:=hrel;go_wp2_with fail;go_ret2;refine⟨qy.out,.inr ⟨by rw[HVE.out,HV.out],_,rfl,?_⟩⟩;rw[HVE.out,HV.out];show OPl _ w.heap.size _ (PL x (qd R1 x).1);rw[HPL.out];exact HOE.out
    ·obtain⟨g,hg⟩:∃g,bv=.slice (some ⟨g,0,none⟩) x.length vc:=by
        rcases wR.out.2 with⟨e,h0⟩|⟨g',cap,cur,e,_⟩
        ·have:(P0 x).length=x.length:=by unfold P0;rw[List.length_map]
         omega
        ·rw[← qqM]at e;simp only[Value.slice.injEq]at e;exact⟨g',by rw[← qqM,e.1]⟩
     have hgW:g<W.heap.size:=(HOW.out.lt g (by rw[hg];rfl)).2;have rr:Hid (dX W2 g A' R1):=fun i hi=>by
      obtain⟨b',o',h1,h2,h3,_⟩:=hi2 i hi;have:=(hnew b' o' h1).1;exact⟨b',o',h1,by omega,h2,h3⟩
     have rz:Hid (OPl W2 w.heap.size bv (Pw x [])):=by unfold Hid;rw[qvg];exact wR.out
     have HK0:=QH (Pk.start x R1 hroom);have HLC:=QH qqL;subst hg;clear qqM HBV hi2 hb2 hnew qqL wR HOW kS hroom;go_wp2_with fail;go_loopw [12,13,63] (fun s _ i wr=>Pl2 x R1 w.heap.size (.slice (some ⟨g,0,none⟩) x.length vc) g w s i wr) (fun _ _ i _=>x.length-(intOf i).toNat);case atStart=>exact⟨0,[],R1,A',cc,rfl,rfl,HLC.out,HK0.out,rr.out,rz.out,qy.out⟩
     case round =>
      obtain⟨k,pre,fr',A3,c3,rfl,rfl,qvj,hpk,qmx,hop,hB⟩:=hrel;have HPK:=QH hpk;have qzB:=QH qmx;have HOP:=QH hop;have HB:=QH hB;have mR:=hpk.le;have hpl:=hpk.len;clear hpk qmx hop hB;by_cases hlt:k<x.length
      ·have jD:(k:Int)<(x.length:Int):=by omega
       have hk0:¬ (k:Int)<0:=by omega
       have hkw:k<(Pw x pre).length:=by rw[pR (by omega)];exact hlt
       obtain⟨a3,c4,e3,qdi⟩:=HOP.out.view;simp only[Value.slice.injEq]at e3;obtain⟨rfl,q5d,rfl⟩:=e3;clear q5d;obtain⟨b',o',e4,s1,s2,s3,s4⟩:=qdi k hkw;simp only[Option.some.injEq,Addr.mk.injEq,and_true]at e4;obtain⟨rfl,rfl⟩:=e4;rw[qnu hpl hlt hkw]at s4;have q5e:=H32.out _ (List.getElem_mem hlt);have HZ:Hid (∀W,Calls prog 101 #[.string (str x[k].2)] W (dh (decide (x[k].2=zb)) W)):=fun W=>lU _ q5e W;have qnx:=QH (fun hz=>HPK.out.zero hlt hz);have qny:=QH (fun hz=>HPK.out.more hlt hz);have HPZ:=QH (qqJ (x:=x) hpl hlt);dsimp only at s4;rw[Nat.zero_add]at s4;obtain⟨S,hS⟩:=QE (str x[k].2);rw[hS]at s4 HZ;clear qdi s2 s3 hS;go_wp2_with fail;refine(HZ.out _).mono ?_;rintro e W6 ⟨rfl,kG⟩;have gU:=QH (qc HB.out kG);have qvk:=QH (HOP.out.below kG);have qnz:=QH (qzB.out.below kG);clear kG HZ HOP qzB s1 s4;by_cases hz:x[k].2=zb
       ·rw[decide_eq_true hz];have qqN:=QH (qnx.out hz);clear hz qnx qny;go_wp2_with fail;go_roundw;case rel=>exact⟨k+1,pre++[0],fr',A3,c3,by go_num,rfl,qvj,qqN.out,qnz.out,by rw[HPZ.out];exact qvk.out,gU.out⟩
        case measure=>simp[intOf];omega
       ·rw[decide_eq_false hz];obtain⟨f,r,hfr,qzC⟩:=qny.out hz;have qqN:=QH qzC;subst hfr;obtain⟨b3,o3,rfl,n1,n2,n3⟩:=qnz.out 0 (by simp);have HT:=QH qnz.out.tail;obtain⟨qvl,hfz,sq,gF⟩:=qvk.out.set k hkw f;rw[qnu hpl hlt hkw,qnv hpl hlt f]at qvl;have qzD:=QH qvl;have HB7:Hid (Below w.heap.size w (W6.setCell ⟨g,k*3+1,none⟩ (.int .i64 f))):=gU.out.setCell (p:=⟨g,k*3+1,none⟩) sq _;obtain⟨a5,c5,e5,qdi⟩:=qvk.out.view;simp only[Value.slice.injEq]at e5;obtain⟨rfl,q5f,rfl⟩:=e5;clear q5f;obtain⟨b',o',e4,s1,s2,s3,s4⟩:=qdi k hkw;simp only[Option.some.injEq,Addr.mk.injEq,and_true]at e4;obtain⟨rfl,rfl⟩:=e4;rw[Nat.zero_add]at s3;simp only[List.getElem_cons_zero,Nat.add_zero]at n3;have zbO:(0:Int)<((r.length+1:Nat):Int):=by omega
        have zbP:(1:Int)≤((r.length+1:Nat):Int):=by omega
        have hrc:((r.length+1:Nat):Int)≤(c3:Int):=by rw[List.length_cons]at qvj;omega
        rw[List.length_cons]at qvj ⊢;clear hz qnx qny qzC qvl qdi s2 s4;go_wp2_with fail;go_region;go_wp2_with fail;all_goals
         refine⟨?_,by simp[intOf];omega⟩;by_cases hc1:c3=1
         ·have hr0:r.length=0:=by omega
          rw[if_pos hc1];exact⟨k+1,pre++[f],r,_,_,rfl,rfl,by omega,qqN.out,(fun i hi=>absurd hi (by omega)),qzD.out.below (Below.refl _ _).drew,HB7.out.drew⟩
         ·rw[if_neg hc1];exact⟨k+1,pre++[f],r,_,_,rfl,rfl,by omega,qqN.out,HT.out.set.below (Below.refl _ _).drew,qzD.out.below (Below.refl _ _).drew,HB7.out.drew⟩
      ·obtain rfl:k=x.length:=by omega
       have jD:¬ (x.length:Int)<(x.length:Int):=by omega
       have HE:=QH HPK.out.stop;have HPA:=QH (qvh (x:=x) hpl);go_wp2_with fail;go_ret2;refine⟨HB.out,.inr ⟨by rw[HVE.out,HV.out],_,rfl,?_⟩⟩;rw[HVE.out,HV.out];show OPl wr w.heap.size _ (PL x (qd R1 x).1);rw[HE.out,← HPA.out];exact HOP.out
section
variable {o1 o2:Nat→Prop} {w w1 w':World} {v pd N b:Nat} {d:DD} {m:Mt} {t:Tg} {Q:Int→DD→Mt→Bool→Prop} {e:Ending}
theorem qvm(hb:Below w.heap.size w w1)(h:qzv w.heap.size o1 o2 v pd Q w1 e w'):kK jB o1 o2 v pd Q w e w':=by
 obtain⟨r,d',m',lost,aF,gO,h1,h2,h3,h4,h5⟩:=h;exact⟨r,d',m',lost,aF,gO,h1,h2,(ib.qx.of_below (S:=fun j=>o1 j∨o2 j) hb).trans h3 (fun _ h=>.inl h),h4,h5⟩
theorem jK {l:Bool}{r:Int}(h:VP jB w' o1 o2 v pd d m l)(hb:Below w.heap.size w w')(hq:Q r d m l):kK jB o1 o2 v pd Q w (.returned (.int .i64 r)) w' :=
 ⟨r,d,m,l,o1,o2,rfl,h,ib.qx.of_below hb,fun j hj=>.inl hj,hq⟩
theorem qn0(h:VP jB w o1 o2 v pd d m false):∀j,o1 j∨o2 j∨j=gN→j<w.heap.size:=fun j hj=>by
 rcases hj with hj|hj|hj
 ·exact qaB h.is j (.inl hj)
 ·exact bP h.dk j hj
 ·exact qaB h.is j (.inr hj)
end
theorem pT {b N:Nat}{m:Mt}{x:List (Int × Bt)}(jL:yt b N m)(hN:N≤1024)(h0:(qu N m x).2=0):pD (PL x (qu N m x).1.1)=(qu N m x).1.2:=by
 obtain⟨cs,hcs,hcl,_,_⟩:=bK jL hN;unfold qu at h0 ⊢;rw[hcs]at h0 ⊢;dsimp only at h0 ⊢;by_cases hz:(yY cs ((full x:Nat):Int)).2=0
 ·rw[if_pos hz];have hl:=tG hz;refine iN x _ (fun f hf=>?_) hl;have hst:(yY cs ((full x:Nat):Int)).1=(qR cs cs.length).take (full x):=by
   unfold yY at hz ⊢;rw[if_neg (by omega)]at hz ⊢;by_cases hf:(yg cs:Int)<((full x:Nat):Int)
   ·rw[if_pos hf]at hz;simp at hz
   ·rw[if_neg hf,Int.toNat_natCast]
  rw[hst]at hf;obtain⟨j,e,g1,_,_⟩:=iq.1 (List.mem_of_mem_take hf);omega
 ·rw[if_neg hz]at h0;exact absurd h0 hz
theorem qsC{b N:Nat}{m:Mt}{x:List (Int × Bt)}{at_:List Int}{ws:List jr.Wr}(hp:ix N m x at_ ws)(hN:N≤1024)(hc:zL b (-1) x=true):∀p∈PL x at_,0≤p.1∧p.1<(b:Int)∧0≤p.2.1∧qC p.2.1:=by
 intro p hm;obtain⟨i,hi,rfl⟩:=List.getElem_of_mem hm;have hx:i<x.length:=by unfold PL at hi;simp at hi;omega
 have ha:i<at_.length:=by unfold PL at hi;simp at hi;omega
 have e:(PL x at_)[i]=(x[i].1,at_[i],x[i].2):=by simp[PL]
 rw[e];have h1:=ku hc _ (List.getElem_mem hx);refine⟨by show 0≤x[i].1;omega,h1.2.2,?_⟩;show 0≤at_[i]∧qC at_[i];rcases hp.each i hx ha with⟨_,h⟩|⟨_,h⟩
 ·rw[h];exact⟨by omega,by unfold qC;omega⟩
 ·have hr:=hp.wok.range _ h;dsimp only at hr;exact⟨by omega,by unfold qC;omega⟩
theorem qn1{x:List (Int × Bt)}{at_:List Int}(h:at_.length=x.length):(PL x at_).length=x.length:=by unfold PL;rw[List.length_zipWith];omega
theorem uI.form{G:Nat→Prop}{w:World}{f:Value}{m m':Mt}(h:uI G w f m m'):∃k jZ,f=.func (.func k) #[] jZ:=by
 obtain⟨k,jZ,h1,_⟩:=h;exact⟨k,jZ,h1⟩
theorem fu {G:Nat→Prop}{w:World}{f:Value}{m m':Mt}{b:Nat}(hk:qf w b 115 #[f])(h:uI G w f m m'):qde G w (some ⟨b,0,none⟩) 1 (fun i=>if i=0 then m else m'):=fun i hi=>by
 obtain rfl:i=0:=by omega
 exact⟨b,0,f,rfl,hk.lt,hk.cell 0,h⟩
theorem qn2{G:Nat→Prop}{w:World}{f g:Value}{m m1 m2:Mt}{b:Nat}(hk:qf w b 115 #[f,g])(h1:uI G w f m m1)(h2:uI G w g m1 m2):qde G w (some ⟨b,0,none⟩) 2 (fun i=>if i=0 then m else if i=1 then m1 else m2):=fun i hi=>by
 match i,hi with
 | 0,_=>exact⟨b,0,f,rfl,hk.lt,hk.cell 0,h1⟩
 | 1,_=>exact⟨b,0,g,rfl,hk.lt,hk.cell 1,h2⟩
theorem pU {G:Nat→Prop}{w:World}{f g k:Value}{m m1 m2 m3:Mt}{b:Nat}(hk:qf w b 115 #[f,g,k])(h1:uI G w f m m1)(h2:uI G w g m1 m2)(h3:uI G w k m2 m3):qde G w (some ⟨b,0,none⟩) 3 (fun i=>if i=0 then m else if i=1 then m1 else if i=2 then m2 else m3):=fun i hi=>by
 match i,hi with
 | 0,_=>exact⟨b,0,f,rfl,hk.lt,hk.cell 0,h1⟩
 | 1,_=>exact⟨b,0,g,rfl,hk.lt,hk.cell 1,h2⟩
 | 2,_=>exact⟨b,0,k,rfl,hk.lt,hk.cell 2,h3⟩
theorem kC {N:Nat}{t:Tg}{d:DD}{m:Mt}{c:Int}(h:c≠0):yn N t d m ⟨c,m,[]⟩ c d m false:=.inl ⟨h,rfl,rfl,rfl,rfl⟩
theorem wV {o1 o2:Nat→Prop}{w w1:World}{v pd N b n:Nat}{d:DD}{m:Mt}{t:Tg}{pn:eF}{M:Nat→Mt}(h:VP jB w o1 o2 v pd d m false)(hb:Below w.heap.size w w1)(hJ:jr.JJ N t d)(hf:0≤d.qp)(hR:qT b N t m)(hc:pn.code=0)(hdo:yt b N pn.m∧gV N m pn.ws)
    (hM0:M 0=m) (hMn:M n=pn.m) {A:Option Addr} {c:Nat} (hE:qde (fun j=>(o1 j∧j≠v)∨w.heap.size≤j) w1 A n M) (hn:n≤10) {B:Option Addr} {cb:Nat} {P:List Pl} (hP:PlL w1 B P) (hpl:P.length≤100) (hPW:pD P=pn.ws) :
    Calls prog 56 #[pt v,.slice B P.length cb,.slice A n c] w1 (kK jB o1 o2 v pd (yn N t d m pn) w):=by
 have dv:pn=⟨0,pn.m,pn.ws⟩:=by rw[← hc]
 rw[dv];refine(qfN (qQ h hb) hJ hf hR hb.size (qn0 h) hM0 hMn hdo.1 hdo.2 hE hn hP hpl hPW).mono ?_;rintro e W hx;exact qvm hb hx
theorem qn3(W:World)(k:Int)(s:Bt)(hk:ib.yS k):ch.aD (W.alloc (.cells #[.int .i64 k,.string (str s)] 62)) (some ⟨W.heap.size,0,none⟩) [(k,s)]:=by
 intro i hi;obtain rfl:i=0:=by simpa using hi
 exact⟨W.heap.size,0,rfl,by simp,(qf.new W _ _).cell 0,(qf.new W _ _).cell 1,hk⟩
theorem qfT{N:Nat}{m:Mt}{k:Int}{s:Bt}(h:zL m.live.length (-1) [(k,s)]=false):zn N m k s=⟨2,m,[]⟩:=by
 unfold zn;rw[if_pos];apply Classical.byContradiction;intro hn;have:zL m.live.length (-1) [(k,s)]=true:=by
  unfold zL zL;simp;omega
 rw[h]at this;cases this
theorem qdj{N:Nat}{m:Mt}{k:Int}{s:Bt}(h:zL m.live.length (-1) [(k,s)]=true):zn N m k s=if (qu N m [(k,s)]).2=0 then⟨0,{ m with live:=zu m.live [(k,s)] (qu N m [(k,s)]).1.1 },(qu N m [(k,s)]).1.2⟩else⟨(qu N m [(k,s)]).2,m,[]⟩:=by
 have h1:=ku h (k,s) (by simp);unfold zn;rw[if_neg (by dsimp only at h1;omega)]
theorem iI {o1 o2:Nat→Prop}{w:World}{v pd N b:Nat}{d:DD}{m:Mt}{t:Tg}(k:Int)(s:Bt)(h:VP jB w o1 o2 v pd d m false)(hJ:jr.JJ N t d)(hf:0≤d.qp)(hR:qT b N t m)(hk:ib.yS k) :
    Calls prog 17 #[pt v,.int .i64 k,.string (str s)] w (kK jB o1 o2 v pd (yn N t d m (zn N m k s)) w):=by
 have HV:=QH h;have HJ:=QH hJ;have HR:=QH hR;have HFU:=QH hf;have xz:=QH (jI h hJ.on);have mX:=QH (bO hR k s);have HLEN:=QH hR.ok.len;have ki:=(Below.refl _ w).alloc (Nat.le_refl _) (.cells #[.int .i64 k,.string (str s)] 62);have hcl:=qn3 w k s hk;obtain⟨S,hS⟩:=QE (str s);rw[hS]at ki hcl;obtain⟨W1,hW1⟩:=QE (w.alloc (.cells #[.int .i64 k,.string S] 62));rw[hW1]at ki hcl;have qP:=QH ki;have aO:=QH hcl;have hV1:=qQ h ki;obtain⟨A0,A1,A2,c0,c1,c2,hA⟩:=hV1.is;have fP:=QH hA;have HTA:=QH (wm (A0:=A0) (A1:=A1) (A2:=A2) (c0:=c0) (c1:=c1) (c2:=c2) (c:=1) hA.sz.live hcl (by simp));have qjz:Hid (∀W,Below W1.heap.size W1 W→zL m.live.length (-1) [(k,s)]=true→Calls prog 55 #[pt v,.slice (some ⟨w.heap.size,0,none⟩) 1 1] W (qhd (qu N m [(k,s)]) [(k,s)] W)):=fun W hW hc =>
  pS (qQ (qQ h ki) hW) hJ.rb.1 hR.ok hR.N1 (hcl.below hW) (by simp) (fun y hy=>(ku hc y hy).1)
 obtain⟨aL,k0,k1,k2,k3,k4,k5,k6,k7,k8,k9,bQ⟩:=hA.cells;have HVB:=QH (fun hc=>qfT (N:=N) (m:=m) (k:=k) (s:=s) hc);have HVG:=QH (fun hc=>qdj (N:=N) (m:=m) (k:=k) (s:=s) hc);obtain⟨q,hq⟩:=QE (zL m.live.length (-1) [(k,s)]);rw[hq]at HTA HVB HVG qjz;have HQ:=QH hq;obtain⟨PN,iW⟩:=QE (zn N m k s);rw[iW]at HVB HVG mX ⊢;unfold zj at HTA;rw[hS];rw[show([(k,s)]:List (Int × Bt)).length=1 from rfl]at HTA;clear h hJ hR hf hk ki hcl hV1 hA hq iW hS;go_enter func17,ntmps17;go_wp2_with fail;refine xz.out.mono ?_;rintro e W0 ⟨rfl,rfl⟩;clear xz;go_upto_region 5 with fail;try rw[hW1]
 clear hW1;go_wp2_with fail;refine HTA.out.mono ?_;rintro e W2 ⟨rfl,hb2⟩;have qy:=QH (qc qP.out hb2);have HP2:=QH (qjz.out W2 hb2);clear HTA qjz;cases q with
 | false =>
  have HPB:=QH (HVB.out rfl);go_wp2_with fail;go_ret;rw[HPB.out];exact jK (qQ HV.out qy.out) qy.out (kC (by decide))
 | true =>
  have HPG:=QH (HVG.out rfl);have HPL:=QH (HP2.out rfl);clear HVB HVG HP2;go_wp2_with fail;refine HPL.out.mono ?_;rintro e W3 ⟨hb3,qcM⟩;have qV:=QH (qc qy.out hb3);clear hb3 hb2 HPL;rcases qcM with⟨hne,rfl⟩|⟨h0,pv,rfl,hop⟩
  ·have hcb:((qu N m [(k,s)]).2 != 0)=true:=by simpa using hne
   have HPE:Hid (PN=⟨(qu N m [(k,s)]).2,m,[]⟩):=by unfold Hid;rw[HPG.out,if_neg hne]
   have HNE:=QH hne;generalize (qu N m [(k,s)]).2=pc at *;clear hne HPG;go_wp2_with fail;go_ret;rw[HPE.out];exact jK (qQ HV.out qV.out) qV.out (kC HNE.out)
  ·have HPE:Hid (PN=⟨0,{ m with live:=zu m.live [(k,s)] (qu N m [(k,s)]).1.1 },(qu N m [(k,s)]).1.2⟩):=by unfold Hid;rw[HPG.out,if_pos h0]
   have hpw:=pT HR.out.ok HR.out.N1 h0;have hpl:ix N m [(k,s)] (qu N m [(k,s)]).1.1 (qu N m [(k,s)]).1.2:=by
    rcases yV HR.out.ok HR.out.N1 [(k,s)] (by simp) (fun c hc=>(ku HQ.out c hc).1)with⟨h7,_⟩|⟨_,hp⟩
    ·rw[h7]at h0;cases h0
    ·exact hp
   have dv:PN.code=0:=by rw[HPE.out]
   have hdo:yt b N PN.m∧gV N m PN.ws:=by
    rcases mX.out with⟨h7,_⟩|⟨_,hd,_⟩
    ·rw[dv]at h7;cases h7
    ·exact⟨(hd dv).ok,(hd dv).ws⟩
   have tH:=qsC hpl HR.out.N1 HQ.out;have qbg:=qn1 hpl.len;obtain⟨BA,bc,hpv,hPL⟩:=hop.view;rw[qbg]at hpv;have hsp:=qbc [(k,s)] (qu N m [(k,s)]).1.1 m.live;generalize (qu N m [(k,s)]).1.1=at_ at *;generalize (qu N m [(k,s)]).1.2=ws at *;have HPW:=QH hpw;have HDK:=QH hdo;have HPL:=QH hPL;have qj0:=QH qbg;have tI:=QH hsp;have hA3:=fP.out.tab.mono (G':=fun j=>(o1 j∧j≠v)∨w.heap.size≤j) (fun j hj=>.inl hj);have hV3:=qQ HV.out qV.out;have HV3:=QH hV3;obtain⟨X0,X1,X2,d0,d1,d2,hX⟩:=hV3.is;have HX:=QH hX;have aw:m.live.length=b:=HLEN.out;have hput:=jc (G:=fun j=>(o1 j∧j≠v)∨w.heap.size≤j) (hX.tab.mono (fun j hj=>.inl hj)).live (by rw[aw];have:=HR.out.ok.b1;omega) hX.sz.live hPL (cb:=bc) (by rw[aw];have:=tH;rw[aw]at this;exact this) (by rw[qbg];simp) (fun j hj=>.inr (Nat.le_trans qV.out.size hj));rw[hsp,qbg]at hput;have qdk:=QH hput;obtain⟨aL,k0,k1,k2,k3,k4,k5,k6,k7,k8,k9,bQ⟩:=hX.cells;subst hpv;clear h0 hpw hpl dv hdo tH qbg hPL hsp hA3 hV3 hX aw hput hop HPG;have hce:((0:Int) != 0)=false:=rfl;go_wp2_with fail;refine qdk.out.mono ?_;rintro e W4 ⟨AL,cl,rfl,wu,hb4⟩;have HL4:=QH (dQ.bound wu);have zO:=QH (qc qV.out hb4);have qzF:=QH (HPL.out.below hb4);have gy:Hid (PN.code=0∧PN.m={ m with live:=zu m.live [(k,s)] at_ }∧PN.ws=ws):=by unfold Hid;rw[HPE.out];exact⟨rfl,rfl,rfl⟩
   have hlv:=iF (G:=fun j=>(o1 j∧j≠v)∨w.heap.size≤j) wu (by rw[bN,HLEN.out];have:=HR.out.ok.b8;omega) (fun j hj=>.inr (Nat.le_trans zO.out.size hj));have HLV:=QH hlv;obtain⟨LL,hLL⟩:=QE ((zu m.live [(k,s)] at_).length);rw[hLL]at HLV ⊢;clear wu hb4 hlv qdk;go_wp2_with fail;refine HLV.out.mono ?_;rintro e W5 ⟨f,rfl,iX,hb5⟩;have HEF:=QH (iX m PN.m gy.out.2.1);obtain⟨kf,jZ,rfl⟩:=HEF.out.form;have jx:=QH (qc zO.out hb5);have qzG:=QH (qzF.out.below hb5);clear iX hb5 HLV hLL qzF;have kG:=(Below.refl _ W5).alloc (Nat.le_refl _) (.cells #[.func (.func kf) #[] jZ] 115);have uO:=qf.new W5 115 #[.func (.func kf) #[] jZ];obtain⟨W6,hW6⟩:=QE (W5.alloc (.cells #[.func (.func kf) #[] jZ] 115));rw[hW6]at kG uO;have bZ:=QH (wV HV.out (qc jx.out kG) HJ.out HFU.out HR.out gy.out.1 HDK.out (c:=1) rfl rfl (fu uO (HEF.out.below kG)) (by omega) (cb:=bc) (qzG.out.below kG) (by rw[qj0.out];simp) (HPW.out.trans gy.out.2.2.symm));rw[qj0.out,show([(k,s)]:List (Int × Bt)).length=1 from rfl]at bZ;clear kG uO HEF qzG;go_wp2_with fail;try rw[hW6]
   refine bZ.out.mono ?_;rintro e W7 ⟨r,d',m',lost,aF,gO,rfl,hh⟩;have HH:=QH hh;clear hh bZ;go_wp2_with fail;go_ret;exact⟨r,d',m',lost,aF,gO,rfl,HH.out⟩
end Go.Proofs.YtdagdllomphidaaGreatDoor.vt.pg
namespace Go.Proofs.YtdagdllomphidaaGreatDoor.vt.pg
open _root_.Go.Proofs.Tryz Go Go.RowKit Go.Sort ib mt im sp
theorem fx (t:Tg):∀(ss:List Bt) (o:Nat),(∀i (h:i<ss.length),t ((o+i:Nat):Int)=ss[i])→zS t o ss=[]
 | [],_,_=>rfl
 | s::r,o,h=>by
  have h0:=h 0 (by simp);simp only[Nat.add_zero,List.getElem_cons_zero]at h0;unfold zS;rw[if_pos h0,List.nil_append];refine fx t r (o+1) fun i hi=>?_;have:=h (i+1) (by simpa using hi);rw[List.getElem_cons_succ]at this;rw[show o+1+i=o+(i+1)by omega];exact this
theorem qbh{b N:Nat}{t:Tg}{m:Mt}(h:qT b N t m):qA t m []=[]:=by
 unfold qA qcy;rw[fx t (xB m) 145 h.home];rfl
theorem qdl{b N:Nat}{t:Tg}{d:DD}{m:Mt}(h:qT b N t m)(hJ:jr.JJ N t d)(hf:0≤d.qp)(ht:m.tok=zI):yn N t d m (wN m) 0 d m false:=by
 have e:wN m=⟨0,m,[]⟩:=by
  unfold wN;rw[← ht]
 rw[e];refine .inr (.inl ⟨rfl,rfl,?_,rfl,rfl,id,hf⟩);show jr.JJ N (jr.over t (qA t m [])) d;rw[qbh h];exact hJ
theorem qdm:TkB zI:=⟨by simp[zZ,zI],by simp[zZ,zI],by simp[qC,zI],by simp[qC,zI]⟩
theorem fy (w:World):PlL w none []:=fun i h=>absurd h (by simp)
theorem qfV{o1 o2:Nat→Prop}{w:World}{v pd N b:Nat}{d:DD}{m:Mt}{t:Tg}(h:VP jB w o1 o2 v pd d m false)(hJ:jr.JJ N t d)(hf:0≤d.qp)(hR:qT b N t m) :
    Calls prog 19 #[pt v] w (kK jB o1 o2 v pd (yn N t d m (wN m)) w):=by
 have HV:=QH h;have HJ:=QH hJ;have HR:=QH hR;have HFU:=QH hf;have xz:=QH (jI h hJ.on);obtain⟨A0,A1,A2,c0,c1,c2,hA⟩:=h.is;have mn:=QH hA.tk;obtain⟨aL,k0,k1,k2,k3,k4,k5,k6,k7,k8,k9,bQ⟩:=hA.cells;have HTN:=QH (oO (w:=w) (A0:=A0) (A1:=A1) (A2:=A2) (c0:=c0) (c1:=c1) (c2:=c2) m);have HFN:=QH (fun ht=>qdl (m:=m) hR hJ hf ht);have mX:Hid (yt b N { m with tok:=zI }∧gV N m []):=⟨(lK hR).ok,(lK hR).ws⟩;obtain⟨q,hq⟩:=QE (decide (m.tok.target=(0,0)));rw[hq]at HTN;have HQ:=QH hq;obtain⟨PN,iW⟩:=QE (wN m);have gy:Hid (PN.code=0∧PN.m={ m with tok:=zI }∧PN.ws=[]):=by unfold Hid;rw[← iW];exact⟨rfl,rfl,rfl⟩
 rw[iW]at HFN ⊢;unfold zj at HTN;clear h hJ hR hf hA hq iW;go_enter func19,ntmps19;go_wp2_with fail;refine xz.out.mono ?_;rintro e W0 ⟨rfl,rfl⟩;clear xz;go_wp2_with fail;refine HTN.out.mono ?_;rintro e W1 ⟨rfl,hb1⟩;have qP:=QH hb1;clear HTN hb1;cases q with
 | true =>
  have HFO:=QH (HFN.out (mn.out (of_decide_eq_true HQ.out)));clear HFN mn;go_wp2_with fail;go_ret;exact jK (qQ HV.out qP.out) qP.out HFO.out
 | false =>
  have hst:=uN (G:=fun j=>(o1 j∧j≠v)∨w.heap.size≤j) (t:=zI) (yE.none W1) (by decide) qdm (fun j hj=>.inr (Nat.le_trans qP.out.size hj));unfold cB at hst;have HST:=QH hst;clear HFN mn hst;go_wp2_with fail;refine HST.out.mono ?_;rintro e W5 ⟨f,rfl,iX,hb5⟩;have HEF:=QH (iX m PN.m gy.out.2.1);obtain⟨kf,jZ,rfl⟩:=HEF.out.form;have jx:=QH (qc qP.out hb5);clear iX hb5 HST;have kG:=(Below.refl _ W5).alloc (Nat.le_refl _) (.cells #[.func (.func kf) #[] jZ] 115);have uO:=qf.new W5 115 #[.func (.func kf) #[] jZ];obtain⟨W6,hW6⟩:=QE (W5.alloc (.cells #[.func (.func kf) #[] jZ] 115));rw[hW6]at kG uO;have bZ:=QH (wV HV.out (qc jx.out kG) HJ.out HFU.out HR.out gy.out.1 (by rw[gy.out.2.1,gy.out.2.2];exact mX.out) (c:=1) rfl rfl (fu uO (HEF.out.below kG)) (by omega) (cb:=0) (fy W6) (by simp) (gy.out.2.2.symm));clear kG uO HEF;go_wp2_with fail;try rw[hW6]
  refine bZ.out.mono ?_;rintro e W7 ⟨r,d',m',lost,aF,gO,rfl,hh⟩;have HH:=QH hh;clear hh bZ;go_wp2_with fail;go_ret;exact⟨r,d',m',lost,aF,gO,rfl,HH.out⟩
theorem qn4{o1 o2:Nat→Prop}{w:World}{v pd N b:Nat}{d:DD}{m:Mt}{t:Tg}(g:Gd)(h:VP jB w o1 o2 v pd d m false)(hJ:jr.JJ N t d)(hf:0≤d.qp)(hR:qT b N t m) :
    Calls prog 31 #[pt v,gv g] w (kK jB o1 o2 v pd (yn N t d m (uB m g)) w):=by
 have mX:=QH (sY hR g);obtain⟨g1,g2⟩:=g;have ml:=QH h;have hb2:=(Below.refl _ w).alloc (Nat.le_refl _) (.cells #[.int .u64 (g1:Int),.int .u64 (g2:Int)] 55);have hr2:=qf.new w 55 #[.int .u64 (g1:Int),.int .u64 (g2:Int)];obtain⟨W,hW2⟩:=QE (w.alloc (.cells #[.int .u64 (g1:Int),.int .u64 (g2:Int)] 55));rw[hW2]at hb2 hr2;have h2:=qQ h hb2;obtain⟨A0,A1,A2,c0,c1,c2,hA⟩:=h2.is;have HA:=QH hA;have HV:=QH h2;have HJ:=QH hJ;have HR:=QH hR;have HFU:=QH hf;have qy:=QH hb2;have xz:=QH (jI h2 hJ.on);have fU:=QH hA.sz;obtain⟨aL,k0,k1,k2,k3,k4,k5,k6,k7,k8,k9,bQ⟩:=hA.cells;have r0:=hr2.cell 0;have r1:=hr2.cell 1;have rlt:=hr2.lt;simp only[Nat.zero_add,QA,QB,QC]at r0 r1;have e0:=fun d os=>cell_regrown k0 d os;have e1:=fun d os=>cell_regrown k1 d os;have e2:=fun d os=>cell_regrown k2 d os;have e3:=fun d os=>cell_regrown k3 d os;have e4:=fun d os=>cell_regrown k4 d os;have e5:=fun d os=>cell_regrown k5 d os;have e6:=fun d os=>cell_regrown k6 d os;have e7:=fun d os=>cell_regrown k7 d os;have e8:=fun d os=>cell_regrown k8 d os;have p0:=fun d os=>cell_regrown r0 d os;have p1:=fun d os=>cell_regrown r1 d os;have cF:∀b os,Calls prog 77 #[.agg (zj A0 A1 A2 c0 c1 c2 m),gv (g1,g2)] (grow (redrawn W b) os) fun e w''=>e=.returned (.tuple #[.int .i64 (kB m (g1,g2)).1,.int .i64 (kB m (g1,g2)).2])∧∃q:Regrown,w''=grow (redrawn W q.d) q.os :=
  fun b os=>Calls.regrown_of (jJ (HA.out.below (below_regrown W b os)).tab.mt.qa fU.out.qa (g1,g2))
 have HFC:=QH (ma t m (g1,g2));obtain⟨PN,iW⟩:=QE (uB m (g1,g2));obtain⟨F,hF⟩:=QE (kB m (g1,g2));rw[hF,iW]at HFC;rw[iW]at mX;rw[hF]at cF;rw[iW];obtain⟨F1,F2⟩:=F;clear h h2 hJ hR hA hb2 hr2 iW hF hf;unfold gv at cF;unfold zj at cF;dsimp only at cF;show Calls _ _ #[pt v,.agg #[.int .u64 (g1:Int),.int .u64 (g2:Int)]] _ _;go_enter func31,ntmps31;go_upto_region 1 with fail;try rw[hW2]
 clear hW2;go_wp2_with fail;refine xz.out.mono ?_;rintro e W1 ⟨rfl,rfl⟩;clear xz;go_upto_region 4 with fail;refine wp_region_quiet_below vF (by kernel_rfl) ?_;repeat (any_goals (first|go_big_quiet_step (first|exact cF _ _)|quiet_step (first|exact cF _ _)))
 refine wpQuiet_nil ?_;intro _ hw';obtain⟨⟨dq,osq⟩,hw''⟩:=hw';subst hw'';have hb:=below_regrown W dq osq;have qV:=QH (qc qy.out hb);clear hb e0 e1 e2 e3 e4 e5 e6 e7 e8 p0 p1 cF HA HV qy aL k0 k1 k2 k3 k4 k5 k6 k7 k8 k9 bQ r0 r1 rlt;generalize grow (redrawn W dq) osq=W3 at *;rcases HFC.out with⟨c,hc,hf,_,dv⟩|⟨i,hi,hf,wa,dv⟩
 ·obtain⟨rfl,rfl⟩:=Prod.mk.inj hf;have hcb:(F2 != 0)=true:=by simpa using hc
  have HPN:=QH dv;have HC:=QH hc;clear hc dv hf HFC;go_wp2_with fail;go_ret;rw[HPN.out];exact jK (qQ ml.out qV.out) qV.out (kC HC.out)
 ·obtain⟨rfl,rfl⟩:=Prod.mk.inj hf;have gy:Hid (PN.code=0∧PN.m={ m with qa:=xH m.qa i }∧PN.ws=[]):=by unfold Hid;rw[dv];exact⟨rfl,rfl,rfl⟩
  have HDK:Hid (yt b N PN.m∧gV N m PN.ws):=⟨(mX.out.2.1 gy.out.1).ok,(mX.out.2.1 gy.out.1).ws⟩;have hst:=qjo (w:=W3) (G:=fun j=>(o1 j∧j≠v)∨w.heap.size≤j) i (fun j hj=>.inr (Nat.le_trans qV.out.size hj));have HST:=QH hst;have HI:=QH hi;have hce:((0:Int) != 0)=false:=rfl;clear dv hf HFC hst wa hi mX;go_wp2_with fail;refine HST.out.mono ?_;rintro e W5 ⟨f,rfl,iX,hb5⟩;have HEF:=QH (iX m PN.m ⟨HI.out,by have:=HR.out.ok.few;omega,gy.out.2.1⟩);obtain⟨kf,jZ,rfl⟩:=HEF.out.form;have jx:=QH (qc qV.out hb5);clear iX hb5 HST;have kG:=(Below.refl _ W5).alloc (Nat.le_refl _) (.cells #[.func (.func kf) #[] jZ] 115);have uO:=qf.new W5 115 #[.func (.func kf) #[] jZ];obtain⟨W6,hW6⟩:=QE (W5.alloc (.cells #[.func (.func kf) #[] jZ] 115));rw[hW6]at kG uO;have bZ:=QH (wV ml.out (qc jx.out kG) HJ.out HFU.out HR.out gy.out.1 HDK.out (c:=1) rfl rfl (fu uO (HEF.out.below kG)) (by omega) (cb:=0) (fy W6) (by simp) (gy.out.2.2.symm));clear kG uO HEF;go_wp2_with fail;try rw[hW6]
  refine bZ.out.mono ?_;rintro e W7 ⟨r,d',m',lost,aF,gO,rfl,hh⟩;have HH:=QH hh;clear hh bZ;go_wp2_with fail;go_ret;exact⟨r,d',m',lost,aF,gO,rfl,HH.out⟩
section
variable {o1 o2:Nat→Prop} {w w1 w':World} {v pd:Nat} {d:DD} {m:Mt} {l:Bool}
theorem qbi(h:VP jB w o1 o2 v pd d m l)(hb:Below w.heap.size w w1)(h':VP jB w' o1 o2 v pd d m true)(hbu:ib.qx (fun j=>j=v) w1 w'):kK jB o1 o2 v pd (oI d m) w (.returned (.int .i64 6)) w':=by
 obtain⟨A0,A1,A2,c0,c1,c2,h1⟩:=h.is;exact⟨6,d,m,true,o1,o2,rfl,h',(ib.qx.of_below (S:=fun j=>o1 j∨o2 j) hb).trans (hbu.mono (fun j hj=>by rw[hj];exact .inl h1.own)) (fun _ h=>.inl h),fun j hj=>.inl hj,rfl,rfl,rfl,rfl⟩
theorem rU (k:Int)(s:Bt)(h:VP jB w o1 o2 v pd d m l)(hl:l=true∨d.on=false):Calls prog 17 #[pt v,.int .i64 k,.string (str s)] w (kK jB o1 o2 v pd (oI d m) w):=by
 have HV:=QH h;have xz:=QH (aI h hl);clear h hl;go_enter func17,ntmps17;go_wp2_with fail;refine xz.out.mono ?_;rintro e W1 ⟨rfl,hv,hb⟩;have H1:=QH hv;have H2:=QH hb;clear hv hb xz;go_wp2_with fail;go_ret;exact qbi HV.out (Below.refl _ _) H1.out H2.out
theorem pV (h:VP jB w o1 o2 v pd d m l)(hl:l=true∨d.on=false):Calls prog 19 #[pt v] w (kK jB o1 o2 v pd (oI d m) w):=by
 have HV:=QH h;have xz:=QH (aI h hl);clear h hl;go_enter func19,ntmps19;go_wp2_with fail;refine xz.out.mono ?_;rintro e W1 ⟨rfl,hv,hb⟩;have H1:=QH hv;have H2:=QH hb;clear hv hb xz;go_wp2_with fail;go_ret;exact qbi HV.out (Below.refl _ _) H1.out H2.out
theorem qbj(g:Gd)(h:VP jB w o1 o2 v pd d m l)(hl:l=true∨d.on=false):Calls prog 31 #[pt v,gv g] w (kK jB o1 o2 v pd (oI d m) w):=by
 obtain⟨g1,g2⟩:=g;have HV:=QH h;have hb:=(Below.refl _ w).alloc (Nat.le_refl _) (.cells #[.int .u64 (g1:Int),.int .u64 (g2:Int)] 55);obtain⟨W,hW2⟩:=QE (w.alloc (.cells #[.int .u64 (g1:Int),.int .u64 (g2:Int)] 55));rw[hW2]at hb;have HB:=QH hb;have xz:=QH (aI (qQ h hb) hl);clear h hl hb;show Calls _ _ #[pt v,.agg #[.int .u64 (g1:Int),.int .u64 (g2:Int)]] _ _;go_enter func31,ntmps31;go_upto_region 1 with fail;try rw[hW2]
 clear hW2;go_wp2_with fail;refine xz.out.mono ?_;rintro e W1 ⟨rfl,hv,hb⟩;have H1:=QH hv;have H2:=QH hb;clear hv hb xz;go_wp2_with fail;go_ret;exact qbi HV.out HB.out H1.out H2.out
end
theorem cd (k:Int)(s:Bt)(w:World):Calls prog 17 #[.pointer none,.int .i64 k,.string (str s)] w (ch.xP 1 w):=by
 have xz:Hid (∀W,Calls prog 52 #[.pointer none] W fun e w'=>e=.returned (.int .i64 1)∧W=w'):=fun W=>yb W;go_enter func17,ntmps17;go_wp2_with fail;refine(xz.out _).mono ?_;rintro e W1 ⟨rfl,rfl⟩;go_wp2_with fail;go_ret;exact⟨rfl,Below.refl _ _⟩
theorem iY (n:Int)(w:World):Calls prog 34 #[.pointer none,.int .i64 n] w (ch.xP 1 w):=by
 have xz:Hid (∀W,Calls prog 52 #[.pointer none] W fun e w'=>e=.returned (.int .i64 1)∧W=w'):=fun W=>yb W;go_enter func34,ntmps34;go_wp2_with fail;refine(xz.out _).mono ?_;rintro e W1 ⟨rfl,rfl⟩;go_wp2_with fail;go_ret;exact⟨rfl,Below.refl _ _⟩
theorem qdn(w:World):Calls prog 19 #[.pointer none] w (ch.xP 1 w):=by
 have xz:Hid (∀W,Calls prog 52 #[.pointer none] W fun e w'=>e=.returned (.int .i64 1)∧W=w'):=fun W=>yb W;go_enter func19,ntmps19;go_wp2_with fail;refine(xz.out _).mono ?_;rintro e W1 ⟨rfl,rfl⟩;go_wp2_with fail;go_ret;exact⟨rfl,Below.refl _ _⟩
theorem iZ (g:Gd)(w:World):Calls prog 30 #[.pointer none,gv g] w (ch.xP 1 w):=by
 have HB:=QH ((Below.refl w.heap.size w).alloc (Nat.le_refl _) (.cells #[.int .u64 (g.1:Int),.int .u64 (g.2:Int)] 55));have xz:Hid (∀W,Calls prog 52 #[.pointer none] W fun e w'=>e=.returned (.int .i64 1)∧W=w'):=fun W=>yb W;unfold gv;go_enter func30,ntmps30;go_wp2_with fail;refine(xz.out _).mono ?_;rintro e W1 ⟨rfl,rfl⟩;go_wp2_with fail;go_ret;exact⟨rfl,HB.out⟩
theorem l5 (g:Gd)(w:World):Calls prog 31 #[.pointer none,gv g] w (ch.xP 1 w):=by
 have HB:=QH ((Below.refl w.heap.size w).alloc (Nat.le_refl _) (.cells #[.int .u64 (g.1:Int),.int .u64 (g.2:Int)] 55));have xz:Hid (∀W,Calls prog 52 #[.pointer none] W fun e w'=>e=.returned (.int .i64 1)∧W=w'):=fun W=>yb W;unfold gv;go_enter func31,ntmps31;go_wp2_with fail;refine(xz.out _).mono ?_;rintro e W1 ⟨rfl,rfl⟩;go_wp2_with fail;go_ret;exact⟨rfl,HB.out⟩
theorem qfW(f:Tf)(w:World):Calls prog 24 #[.pointer none,tkV f none 0 0,.slice none 0 0] w (ch.xP 1 w):=by
 have HB:=QH ((Below.refl w.heap.size w).alloc (Nat.le_refl _) (.cells (bY f none 0 0) 59));have xz:Hid (∀W,Calls prog 52 #[.pointer none] W fun e w'=>e=.returned (.int .i64 1)∧W=w'):=fun W=>yb W;unfold tkV;unfold bY at HB;go_enter func24,ntmps24;go_wp2_with fail;refine(xz.out _).mono ?_;rintro e W1 ⟨rfl,rfl⟩;go_wp2_with fail;go_ret;exact⟨rfl,HB.out⟩
end Go.Proofs.YtdagdllomphidaaGreatDoor.vt.pg
namespace Go.Proofs.YtdagdllomphidaaGreatDoor.vt.pg
open _root_.Go.Proofs.Tryz Go Go.RowKit Go.Sort ib mt im sp
def qfX (W:World)(g:Nat)(t:Tk)(v:Value):World :=
 ((((((W.setCell ⟨g,0,none⟩ (.int .u64 (t.base.1:Int))).setCell ⟨g,1,none⟩ (.int .u64 (t.base.2:Int))).setCell ⟨g,2,none⟩ (.int .u64 (t.target.1:Int))).setCell ⟨g,3,none⟩ (.int .u64 (t.target.2:Int))).setCell ⟨g,4,none⟩ (.int .i64 t.next)).setCell ⟨g,5,none⟩ (.int .i64 t.all)).setCell ⟨g,6,none⟩ v
theorem qdo{W:World}{g:Nat}{z0 z1 z2 z3 z4 z5 z6:Value}(t:Tk)(A:Option Addr)(c:Nat)(h:qf W g 59 #[z0,z1,z2,z3,z4,z5,z6]):qf (qfX W g t (.slice A t.ql.length c)) g 59 (cB t A t.ql.length c):=by
 have h9:=((((((h.qo 0 (.int .u64 (t.base.1:Int))).qo 1 (.int .u64 (t.base.2:Int))).qo 2 (.int .u64 (t.target.1:Int))).qo 3 (.int .u64 (t.target.2:Int))).qo 4 (.int .i64 t.next)).qo 5 (.int .i64 t.all)).qo 6 (.slice A t.ql.length c);simp only[List.setIfInBounds_toArray,List.set_cons_succ,List.set_cons_zero]at h9;exact h9
theorem pW {W0 W:World}{g:Nat}{v:Value}{t:Tk}(h:Below W0.heap.size W0 W)(hg:W0.heap.size≤g):Below W0.heap.size W0 (qfX W g t v) :=
 ((((((h.setCell (p:=⟨g,0,none⟩) hg _).setCell (p:=⟨g,1,none⟩) hg _).setCell (p:=⟨g,2,none⟩) hg _).setCell (p:=⟨g,3,none⟩) hg _).setCell (p:=⟨g,4,none⟩) hg _).setCell (p:=⟨g,5,none⟩) hg _).setCell (p:=⟨g,6,none⟩) hg _
theorem qn5(W:World)(g:Nat)(v:Value)(t:Tk):ib.qx (fun j=>j=g) W (qfX W g t v) :=
 (((((((ib.qx.refl (fun j=>j=g) W).setCell ⟨g,0,none⟩ _ (.inl rfl)).setCell ⟨g,1,none⟩ _ (.inl rfl)).setCell ⟨g,2,none⟩ _ (.inl rfl)).setCell ⟨g,3,none⟩ _ (.inl rfl)).setCell ⟨g,4,none⟩ _ (.inl rfl)).setCell ⟨g,5,none⟩ _ (.inl rfl)).setCell ⟨g,6,none⟩ _ (.inl rfl)
theorem qzH{W:World}{g:Nat}(t:Tk)(A:Option Addr)(c:Nat)(h:qf W g 59 (cB t A t.ql.length c)):(loadVar 59 ⟨g,0,none⟩).run prog W=.ok (.agg (cB t A t.ql.length c)) W :=
 run_loadVar_row W g 59 59 _ (0,0) _ h underlying59 rfl (by kernel_rfl)
theorem qqP{w:World}{A:Option Addr}{l:List Int}(h:ib.qJ w A l):qpN w A l:=fun i hi=>by
 obtain⟨b,o,h1,h2,h3,_⟩:=h i hi;exact⟨b,o,h1,h2,h3⟩
def tz:Array Value:=#[.int .u64 0,.int .u64 0,.int .u64 0,.int .u64 0,.int .i64 0,.int .i64 0,.slice none 0 0]
def qzI (W:World)(g:Nat):World :=
 ((((((W.setCell ⟨g,0,none⟩ (.int .u64 0)).setCell ⟨g,1,none⟩ (.int .u64 0)).setCell ⟨g,2,none⟩ (.int .u64 0)).setCell ⟨g,3,none⟩ (.int .u64 0)).setCell ⟨g,4,none⟩ (.int .i64 0)).setCell ⟨g,5,none⟩ (.int .i64 0)).setCell ⟨g,6,none⟩ (.slice none 0 0)
theorem qdp{W:World}{g:Nat}(h:qf W g 59 tz):qf (qzI W g) g 59 tz:=by
 have h9:=((((((h.qo 0 (.int .u64 0)).qo 1 (.int .u64 0)).qo 2 (.int .u64 0)).qo 3 (.int .u64 0)).qo 4 (.int .i64 0)).qo 5 (.int .i64 0)).qo 6 (.slice none 0 0);simp only[tz,List.setIfInBounds_toArray,List.set_cons_succ,List.set_cons_zero]at h9;exact h9
theorem pX {W0 W:World}{g:Nat}(h:Below W0.heap.size W0 W)(hg:W0.heap.size≤g):Below W0.heap.size W0 (qzI W g) :=
 ((((((h.setCell (p:=⟨g,0,none⟩) hg _).setCell (p:=⟨g,1,none⟩) hg _).setCell (p:=⟨g,2,none⟩) hg _).setCell (p:=⟨g,3,none⟩) hg _).setCell (p:=⟨g,4,none⟩) hg _).setCell (p:=⟨g,5,none⟩) hg _).setCell (p:=⟨g,6,none⟩) hg _
theorem qsD{W:World}{g:Nat}(h:qf W g 59 tz):(loadVar 59 ⟨g,0,none⟩).run prog W=.ok (.agg tz) W :=
 run_loadVar_row W g 59 59 _ (0,0) _ h underlying59 rfl (by kernel_rfl)
theorem q5h:tkV (tf zI) none 0 0=.agg tz:=by
 simp only[tkV,tf,zI,tz];simp
theorem lv {w w':World}(hb:Below w.heap.size w w'):cG zI w (.returned (.agg tz)) w' :=
 ⟨none,0,by rw[← q5h];rfl,fun i h=>absurd h (by simp[zI]),ib.ui.none _ _,hb⟩
theorem qfY(w:World):Calls prog 25 #[.pointer none] w (cG zI w):=by
 have hb:=(Below.refl _ w).alloc (Nat.le_refl _) (.cells tz 59);have hk:=qf.new w 59 tz;obtain⟨W,hW⟩:=QE (w.alloc (.cells tz 59));rw[hW]at hb hk;have HE:=QH (lv (pX hb (Nat.le_refl _)));have HL:=QH (qsD (qdp hk));have q0:=hk.cell 0;have q1:=hk.cell 1;have q2:=hk.cell 2;have q3:=hk.cell 3;have q4:=hk.cell 4;have q5:=hk.cell 5;have q6:=hk.cell 6;have f0:=hk.frozen 0;have f1:=hk.frozen 1;have f2:=hk.frozen 2;have f3:=hk.frozen 3;have f4:=hk.frozen 4;have f5:=hk.frozen 5;have f6:=hk.frozen 6;have lM:=hk.lt;simp only[tz,QA,QB,QC]at q0 q1 q2 q3 q4 q5 q6;unfold tz at hW;clear hb hk;go_enter func25,ntmps25;go_upto_region 1 with fail;try rw[hW]
 clear hW;go_wp2_with fail;exact bodyPost_ret (v:=.agg tz) (im.zq rfl _ _ _ ⟨w.heap.size,0,none⟩ _ rfl HL.out) rfl HE.out
theorem fQ {o:Nat→Prop}{w:World}{v pd:Nat}{m:Mt}{l:Bool}(h:jB o w v pd m l):Calls prog 25 #[pt v] w (cG m.tok w):=by
 have hb:=(Below.refl _ w).alloc (Nat.le_refl _) (.cells tz 59);have hk:=qf.new w 59 tz;obtain⟨W,hW⟩:=QE (w.alloc (.cells tz 59));rw[hW]at hb hk;obtain⟨A0,A1,A2,c0,c1,c2,hA0⟩:=h;have hA:=hA0.below hb;have HA:=QH hA;have HK:=QH hk;have HB:=QH hb;have HTN:=QH (oO (w:=W) (A0:=A0) (A1:=A1) (A2:=A2) (c0:=c0) (c1:=c1) (c2:=c2) m);obtain⟨q,hq⟩:=QE (decide (m.tok.target=(0,0)));rw[hq]at HTN;have HQ:=QH hq;obtain⟨aL,k0,k1,k2,k3,k4,k5,k6,k7,k8,k9,bQ⟩:=hA.cells;unfold zj at HTN;unfold tz at hW;clear hb hk hA hA0 hq;go_enter func25,ntmps25;go_upto_region 1 with fail;try rw[hW]
 clear hW;go_wp2_with fail;refine HTN.out.mono ?_;rintro e W1 ⟨rfl,hb1⟩;have qP:=QH (qc HB.out hb1);have zJ:=HK.out.below hb1;have cz:=QH zJ;have fP:=QH (HA.out.below hb1);have HLT:Hid (w.heap.size<W.heap.size∧W.heap.size≤W1.heap.size):=⟨HK.out.lt,hb1.size⟩;clear hb1 HTN k0 k1 k2 k3 k4 k5 k6 k7 k8 k9 bQ aL HA HK HB;have q0:=zJ.cell 0;have q1:=zJ.cell 1;have q2:=zJ.cell 2;have q3:=zJ.cell 3;have q4:=zJ.cell 4;have q5:=zJ.cell 5;have q6:=zJ.cell 6;have f0:=zJ.frozen 0;have f1:=zJ.frozen 1;have f2:=zJ.frozen 2;have f3:=zJ.frozen 3;have f4:=zJ.frozen 4;have f5:=zJ.frozen 5;have f6:=zJ.frozen 6;have lM:=zJ.lt;simp only[tz,QA,QB,QC]at q0 q1 q2 q3 q4 q5 q6;clear zJ;cases q with
 | true =>
  have mn:=QH (fP.out.tk (of_decide_eq_true HQ.out));have HE:=QH (lv (pX qP.out (Nat.le_refl _)));have HL:=QH (qsD (qdp cz.out));go_wp2_with fail;refine bodyPost_ret (v:=.agg tz) (im.zq rfl _ _ _ ⟨w.heap.size,0,none⟩ _ rfl HL.out) rfl ?_;rw[mn.out];exact HE.out
 | false =>
  obtain⟨aL,k0,k1,k2,k3,k4,k5,k6,k7,k8,k9,bQ⟩:=fP.out.cells;have hb2:=(Below.refl _ W1).alloc (Nat.le_refl _) (.cells tz 59);have hk2:=qf.new W1 59 tz;obtain⟨W2,hW2⟩:=QE (W1.alloc (.cells tz 59));rw[hW2]at hb2 hk2;have hb3:=pW (v:=.slice A2 m.tok.ql.length c2) (t:=m.tok) hb2 (Nat.le_refl _);have hk3:=qdo m.tok A2 c2 hk2;have s0:=hk2.cell 0;have s1:=hk2.cell 1;have s2:=hk2.cell 2;have s3:=hk2.cell 3;have s4:=hk2.cell 4;have s5:=hk2.cell 5;have s6:=hk2.cell 6;have g0:=hk2.frozen 0;have g1:=hk2.frozen 1;have g2:=hk2.frozen 2;have g3:=hk2.frozen 3;have g4:=hk2.frozen 4;have g5:=hk2.frozen 5;have g6:=hk2.frozen 6;have wu:=hk2.lt;simp only[tz,QA,QB,QC]at s0 s1 s2 s3 s4 s5 s6;have qV:=QH (qc qP.out hb3);have ie:=QH hk3;have cq:=QH (cz.out.below hb3);have HI3:=QH (fP.out.tab.ql.at_.below hb3);have HIM:=QH fP.out.sz.ql;have mq:Hid (w.heap.size<W1.heap.size∧W1.heap.size<(qfX W2 W1.heap.size m.tok (.slice A2 m.tok.ql.length c2)).heap.size):=⟨cz.out.lt,hk3.lt⟩;unfold tz at hW2;clear hb2 hk2 hb3 hk3;go_upto_region 4 with fail;try rw[hW2]
  show Code.wp _ _ _ _ (qfX W2 W1.heap.size m.tok (.slice A2 m.tok.ql.length c2));obtain⟨W3,hW3⟩:=QE (qfX W2 W1.heap.size m.tok (.slice A2 m.tok.ql.length c2));rw[hW3]at qV ie cq HI3 mq ⊢;clear hW3 hW2 s0 s1 s2 s3 s4 s5 s6 g0 g1 g2 g3 g4 g5 g6 wu q0 q1 q2 q3 q4 q5 q6 f0 f1 f2 f3 f4 f5 f6 lM k0 k1 k2 k3 k4 k5 k6 k7 k8 k9 bQ aL;have HC:=QH (wP A2 c2 m.tok.ql W3 HI3.out HIM.out);have q6:=ie.out.cell 6;have lM:=ie.out.lt;simp only[cB,QA,QB,QC]at q6;go_wp2_with fail;refine HC.out.mono ?_;rintro e W4 rA;obtain rfl:=rA.1;have hb4:=rA.2.2;have hs4:=rA.sl HI3.out.ints.mem (fun j=>j=W3.heap.size) rfl;have hk4:=ie.out.below hb4;have hr4:=cq.out.below hb4;have hl4:=mq.out;have hz4:=hb4.size;have mE:Hid (qf (W4.setCell ⟨W1.heap.size,6,none⟩ (.slice (some ⟨W3.heap.size,0,none⟩) m.tok.ql.length m.tok.ql.length)) W1.heap.size 59 (cB m.tok (some ⟨W3.heap.size,0,none⟩) m.tok.ql.length m.tok.ql.length)):=by
   have:=hk4.qo 6 (.slice (some ⟨W3.heap.size,0,none⟩) m.tok.ql.length m.tok.ql.length);simpa[Hid,cB]using this
  have aU:Hid (qf (W4.setCell ⟨W1.heap.size,6,none⟩ (.slice (some ⟨W3.heap.size,0,none⟩) m.tok.ql.length m.tok.ql.length)) w.heap.size 59 tz):=hr4.of_block (qz _ _ _ _ _ (by omega));have jx:Hid (Below w.heap.size w (W4.setCell ⟨W1.heap.size,6,none⟩ (.slice (some ⟨W3.heap.size,0,none⟩) m.tok.ql.length m.tok.ql.length))):=(qc qV.out hb4).setCell (p:=⟨W1.heap.size,6,none⟩) (by show w.heap.size≤W1.heap.size;omega) _;have HS5:Hid (dQ (fun j=>j=W3.heap.size) (W4.setCell ⟨W1.heap.size,6,none⟩ (.slice (some ⟨W3.heap.size,0,none⟩) m.tok.ql.length m.tok.ql.length)) (some ⟨W3.heap.size,0,none⟩) m.tok.ql m.tok.ql.length):=hs4.stay (wb fun j hj=>by omega);have k6:=hk4.cell 6;have f6:=hk4.frozen 6;have gF:=hk4.lt;simp only[cB,QA,QB,QC]at k6;have qzJ:Hid (W3.heap.size<(W4.setCell ⟨W1.heap.size,6,none⟩ (.slice (some ⟨W3.heap.size,0,none⟩) m.tok.ql.length m.tok.ql.length)).heap.size):=by
   have:=rA.2.1.lt;simpa[Hid,World.setCell]using this
  obtain⟨W5,fD⟩:=QE (W4.setCell ⟨W1.heap.size,6,none⟩ (.slice (some ⟨W3.heap.size,0,none⟩) m.tok.ql.length m.tok.ql.length));rw[fD]at mE aU jx HS5 qzJ;clear rA hb4 hs4 hk4 hr4 hl4 hz4 HC q6 lM;go_upto_region 5 with fail;try rw[fD]
  clear fD k6 f6 gF;have j0:=mE.out.cell 0;have j1:=mE.out.cell 1;have j2:=mE.out.cell 2;have j3:=mE.out.cell 3;have j4:=mE.out.cell 4;have j5:=mE.out.cell 5;have j6:=mE.out.cell 6;have jlt:=mE.out.lt;simp only[cB,QA,QB,QC]at j0 j1 j2 j3 j4 j5 j6;have q0:=aU.out.cell 0;have q1:=aU.out.cell 1;have q2:=aU.out.cell 2;have q3:=aU.out.cell 3;have q4:=aU.out.cell 4;have q5:=aU.out.cell 5;have q6:=aU.out.cell 6;have f0:=aU.out.frozen 0;have f1:=aU.out.frozen 1;have f2:=aU.out.frozen 2;have f3:=aU.out.frozen 3;have f4:=aU.out.frozen 4;have f5:=aU.out.frozen 5;have f6:=aU.out.frozen 6;have lM:=aU.out.lt;simp only[tz,QA,QB,QC]at q0 q1 q2 q3 q4 q5 q6;have kG:=pW (v:=.slice (some ⟨W3.heap.size,0,none⟩) m.tok.ql.length m.tok.ql.length) (t:=m.tok) jx.out (Nat.le_refl _);have HL:=QH (qzH m.tok (some ⟨W3.heap.size,0,none⟩) m.tok.ql.length (qdo m.tok (some ⟨W3.heap.size,0,none⟩) m.tok.ql.length aU.out));have HE:Hid (cG m.tok w (.returned (.agg (cB m.tok (some ⟨W3.heap.size,0,none⟩) m.tok.ql.length m.tok.ql.length))) (qfX W5 w.heap.size m.tok (.slice (some ⟨W3.heap.size,0,none⟩) m.tok.ql.length m.tok.ql.length))):=by
   have ru:=qn5 W5 w.heap.size (.slice (some ⟨W3.heap.size,0,none⟩) m.tok.ql.length m.tok.ql.length) m.tok;have hs6:=HS5.out.stay (uD.nu ru (fun j hj=>by have:=mq.out;show ¬ j=w.heap.size;omega));refine⟨some ⟨W3.heap.size,0,none⟩,m.tok.ql.length,rfl,qqP hs6.at_.ints,fun b o e=>?_,kG⟩;simp only[Option.some.injEq,Addr.mk.injEq,and_true]at e;have h1:=mq.out;have h2:=HS5.out;have h3:=ru.size;refine⟨by omega,?_⟩;have:=qzJ.out;omega
  clear kG;go_wp2_with fail;exact bodyPost_ret (v:=.agg (cB m.tok (some ⟨W3.heap.size,0,none⟩) m.tok.ql.length m.tok.ql.length)) (im.zq rfl _ _ _ ⟨w.heap.size,0,none⟩ _ rfl HL.out) rfl HE.out
end Go.Proofs.YtdagdllomphidaaGreatDoor.vt.pg
namespace Go.Proofs.YtdagdllomphidaaGreatDoor
open _root_.Go.Proofs.Tryz Go Go.RowKit
end Go.Proofs.YtdagdllomphidaaGreatDoor
namespace Go.Proofs.YtdagdllomphidaaGreatDoor.jr
open _root_.Go.Proofs.Tryz Go Go.RowKit dk wi
structure qzK where
 at_:Int
 c:UInt8
 short:Bool
def qbk (w:World)(a:Option Addr)(zs:List qzK):Prop :=
 ∀i (h:i<zs.length),∃b o,a=some ⟨b,o,none⟩∧b<w.heap.size∧w.cell? ⟨b,o+i*3,none⟩=some (.int .i64 zs[i].at_)∧w.cell? ⟨b,o+i*3+1,none⟩=some (.int .u8 (zs[i].c.toNat:Int))∧w.cell? ⟨b,o+i*3+2,none⟩=some (.bool zs[i].short)∧qC zs[i].at_
theorem tJ (n:Nat)(k:Int):dk.look (List.replicate n none) k=none:=by
 unfold dk.look;split
 ·rw[List.getElem?_replicate];split <;> rfl
 ·rfl
theorem JJ.n{tgt:Int→Bt}{d:DD}(h:JJ 200 tgt d):d.n=200:=h.rb.1
theorem JJ.now{tgt:Int→Bt}{d:DD}(h:JJ 200 tgt d):d.now=d.base:=by unfold DD.now;rw[h.more];rfl
theorem JJ.read{tgt:Int→Bt}{d:DD}(h:JJ 200 tgt d)(k:Int)(h0:145≤k)(h1:k<200):d.read k=(tgt k,0):=by
 unfold DD.read;have:d.has k=true:=by
  unfold DD.has;rw[h.n];simp;omega
 rw[if_neg (by rw[h.on];simp),if_neg (by rw[this];simp),h.now];exact congrArg (fun x=>(x,(0:Int))) (h.is k h0)
section
variable {w:World} {B p:Nat} {d:DD}
end
end Go.Proofs.YtdagdllomphidaaGreatDoor.jr
namespace Go.Proofs.YtdagdllomphidaaGreatDoor.jr
open _root_.Go.Proofs.Tryz Go Go.RowKit dk wi
theorem RJ.n{tgt:Int→Bt}{d:DD}(h:RJ 200 tgt d):d.n=200:=h.rb.1
section
variable {w:World} {G:Nat→Prop} {p:Nat} {d:DD}
end
theorem lS.block{w:World}{B:Nat}{A:Option Addr}{n c:Nat}{l:List Wr}(h:lS w B (.slice A n c) l):∀b o,A=some ⟨b,o,none⟩→B≤b∧b<w.heap.size:=by
 intro b o hA;subst hA;rcases h.2 with⟨hv,_⟩|⟨g,cap,cur,hv,hg,hh,_⟩
 ·cases hv
 ·simp only[Value.slice.injEq,Option.some.injEq,Addr.mk.injEq]at hv;obtain⟨⟨rfl,_⟩,_⟩:=hv;exact⟨hg,(Array.getElem?_eq_some_iff.1 hh).1⟩
theorem qbk.below{w w':World}{a:Option Addr}{zs:List qzK}(h:qbk w a zs)(hb:Below w.heap.size w w'):qbk w' a zs:=by
 intro i hi;obtain⟨b,o,h1,h2,h3,h4,h5,h6⟩:=h i hi;refine⟨b,o,h1,Nat.lt_of_lt_of_le h2 hb.size,?_,?_,?_,h6⟩
 ·rw[hb.cell (p:=⟨b,o+i*3,none⟩) h2];exact h3
 ·rw[hb.cell (p:=⟨b,o+i*3+1,none⟩) h2];exact h4
 ·rw[hb.cell (p:=⟨b,o+i*3+2,none⟩) h2];exact h5
end Go.Proofs.YtdagdllomphidaaGreatDoor.jr
namespace Go.Proofs.YtdagdllomphidaaGreatDoor.jr
open _root_.Go.Proofs.Tryz Go Go.RowKit dk wi
def Rest (d:DD):Prop:=d.n=200∧d.more=[]
theorem JJ.rest{tgt:Int→Bt}{d:DD}(h:JJ 200 tgt d):Rest d:=⟨h.n,h.more⟩
theorem RJ.rest{tgt:Int→Bt}{d:DD}(h:RJ 200 tgt d):Rest d:=⟨h.n,h.more⟩
end Go.Proofs.YtdagdllomphidaaGreatDoor.jr
namespace Go.Proofs.YtdagdllomphidaaGreatDoor.jr
open _root_.Go.Proofs.Tryz dk wi
def la:Bt:=rep 97 32
end Go.Proofs.YtdagdllomphidaaGreatDoor.jr
namespace Go.Proofs.YtdagdllomphidaaGreatDoor.jr
open _root_.Go.Proofs.Tryz Go Go.RowKit dk wi
theorem qdq(w:World):Calls prog 41 #[.pointer none] w fun e w'=>e=.returned (.int .i64 1)∧w=w':=by
 go_enter func41,ntmps41;go_wp2_with (go_at_call 83;refine(qiS _).mono ?_;rintro e w' ⟨rfl,rfl⟩);go_ret;exact⟨rfl,rfl⟩
section
variable {most:Nat} {w:World} {B p:Nat} {d:DD}
end
end Go.Proofs.YtdagdllomphidaaGreatDoor.jr
namespace Go.Proofs.YtdagdllomphidaaGreatDoor.vt.pg
open _root_.Go.Proofs.Tryz Go Go.RowKit Go.Sort ib mt im sp
theorem pY {W:World}{g:Nat}{v0 v1 v2 u0 u1 u2:Value}{t t':Tk}{ty:TypeId}(h:qf W g ty (mC u0 u1 u2 t')):qf (xG W g v0 v1 v2 t) g ty (mC v0 v1 v2 t):=by
 have h9:=((((((((h.qo 0 v0).qo 1 v1).qo 2 (.int .u64 (t.base.1:Int))).qo 3 (.int .u64 (t.base.2:Int))).qo 4 (.int .u64 (t.target.1:Int))).qo 5 (.int .u64 (t.target.2:Int))).qo 6 (.int .i64 t.next)).qo 7 (.int .i64 t.all)).qo 8 v2;simp only[mC,List.setIfInBounds_toArray,List.set_cons_succ,List.set_cons_zero]at h9;exact h9
theorem qqQ{W:World}{g:Nat}{v0 v1 v2:Value}{t:Tk}(h:qf W g 98 (mC v0 v1 v2 t)):(loadVar 98 ⟨g,0,none⟩).run prog W=.ok (.agg (mC v0 v1 v2 t)) W :=
 run_loadVar_row W g 98 98 _ (0,0) _ h underlying98 rfl (by kernel_rfl)
theorem qdr{w:World}(A0 A1 A2:Option Addr)(n0 n1 n2 c0 c1 c2:Nat)(t:Tk):Calls prog 46 #[.agg (mC (.slice A0 n0 c0) (.slice A1 n1 c1) (.slice A2 n2 c2) t)] w fun e w'=>e=.returned (.agg (mC (.slice A0 n0 c0) (.slice A1 n1 c1) (.slice A2 n2 c2) t))∧Below w.heap.size w w':=by
 have hb1:=(Below.refl _ w).alloc (Nat.le_refl _) (.cells (mC (.slice A0 n0 c0) (.slice A1 n1 c1) (.slice A2 n2 c2) t) 93);have zJ:=qf.new w 93 (mC (.slice A0 n0 c0) (.slice A1 n1 c1) (.slice A2 n2 c2) t);obtain⟨W1,hW1⟩:=QE (w.alloc (.cells (mC (.slice A0 n0 c0) (.slice A1 n1 c1) (.slice A2 n2 c2) t) 93));rw[hW1]at hb1 zJ;have hb2:=(Below.refl _ W1).alloc (Nat.le_refl _) (.cells (mt.pg.mZ (.slice none 0 0) (.slice none 0 0)) 98);have hk2:=qf.new W1 98 (mt.pg.mZ (.slice none 0 0) (.slice none 0 0));obtain⟨W2,hW2⟩:=QE (W1.alloc (.cells (mt.pg.mZ (.slice none 0 0) (.slice none 0 0)) 98));rw[hW2]at hb2 hk2;have fj:=zJ.below hb2;have m0:=fj.cell 0;have m1:=fj.cell 1;have m2:=fj.cell 2;have m3:=fj.cell 3;have m4:=fj.cell 4;have m5:=fj.cell 5;have m6:=fj.cell 6;have m7:=fj.cell 7;have m8:=fj.cell 8;have hml:=fj.lt;have a0:=hk2.cell 0;have a1:=hk2.cell 1;have a2:=hk2.cell 2;have a3:=hk2.cell 3;have a4:=hk2.cell 4;have a5:=hk2.cell 5;have a6:=hk2.cell 6;have a7:=hk2.cell 7;have a8:=hk2.cell 8;have f0:=hk2.frozen 0;have f1:=hk2.frozen 1;have f2:=hk2.frozen 2;have f3:=hk2.frozen 3;have f4:=hk2.frozen 4;have f5:=hk2.frozen 5;have f6:=hk2.frozen 6;have f7:=hk2.frozen 7;have f8:=hk2.frozen 8;have hal:=hk2.lt;simp only[mC,mt.pg.mZ,QA,QB,QC]at m0 m1 m2 m3 m4 m5 m6 m7 m8 a0 a1 a2 a3 a4 a5 a6 a7 a8;have hres:qf W2 W1.heap.size 98 (mC nlS nlS nlS zI):=hk2;have HF:Hid (qf (xG W2 W1.heap.size (.slice A0 n0 c0) (.slice A1 n1 c1) (.slice A2 n2 c2) t) W1.heap.size 98 (mC (.slice A0 n0 c0) (.slice A1 n1 c1) (.slice A2 n2 c2) t)∧Below w.heap.size w (xG W2 W1.heap.size (.slice A0 n0 c0) (.slice A1 n1 c1) (.slice A2 n2 c2) t)) :=
  ⟨pY hres,dx (qc hb1 hb2) (by have:=zJ.lt;omega)⟩
 unfold mC at hW1 ⊢;unfold mt.pg.mZ at hW2;clear hb1 zJ hb2 hk2 fj hres;go_enter func46,ntmps46;go_upto_region 1 with fail;try rw[hW1]
 try rw[hW2]
 clear hW1 hW2;go_wp2_with fail;show bodyPost _ _ _ _ _ (xG W2 W1.heap.size (.slice A0 n0 c0) (.slice A1 n1 c1) (.slice A2 n2 c2) t);have hf:=HF.out;obtain⟨WE,hWE⟩:=QE (xG W2 W1.heap.size (.slice A0 n0 c0) (.slice A1 n1 c1) (.slice A2 n2 c2) t);rw[hWE]at hf ⊢;exact bodyPost_ret (v:=.agg (mC (.slice A0 n0 c0) (.slice A1 n1 c1) (.slice A2 n2 c2) t)) (im.zq rfl _ _ _ ⟨W1.heap.size,0,none⟩ _ rfl (qqQ hf.1)) rfl ⟨rfl,hf.2⟩
theorem qvn(N:Nat)(room:Int):jr.gM (jr.rd (dk.DD.new N room).now 0)=none:=by
 have:jr.rd (dk.DD.new N room).now 0=dk.zz:=by
  show jr.rd (List.replicate N none) 0=dk.zz;unfold jr.rd;rw[jr.tJ];rfl
 rw[this];decide +kernel
theorem qds{o:Nat→Prop}{w:World}{pd:Nat}{d:DD}(h:dk.zx 1000 w o pd d)(zQ:d.on=true)(hh:jr.gM (jr.rd d.now 0)=none)(hn:0<d.n):Calls prog 41 #[pt pd] w fun e w'=>e=.returned (.int .i64 8)∧Below w.heap.size w w':=by
 have HD:=QH h;have HP:=QH (jr.aH h);have HON:=QH zQ;rw[zQ]at HP;have HHD:=QH hh;clear h zQ hh;go_enter func41,ntmps41;go_wp2_with (go_at_call 83;refine HP.out.mono ?_;rintro e w' ⟨rfl,rfl⟩);refine(jr.qhm 1000 w o pd d HD.out HON.out hn).mono ?_;intro e W1 xV;obtain⟨b1,⟨a,c,hq,rfl⟩|⟨hq,x,y,rfl⟩⟩:=jr.uL xV
 ·rw[HHD.out]at hq;cases hq
 ·have qP:=QH b1;clear b1 xV hq;go_wp2_with fail;go_ret;exact⟨rfl,zw qP.out _⟩
theorem qbl(w:World):Calls prog 12 #[.pointer none] w fun e w'=>e=.returned (.tuple #[.pointer none,.int .i64 1])∧Below w.heap.size w w':=by
 have HR:=QH (jr.qdq w);go_enter func12,ntmps12;go_wp2_with fail;refine HR.out.mono ?_;rintro e W1 ⟨rfl,rfl⟩;go_wp2_with fail;go_ret2;exact⟨rfl,Below.refl _ _⟩
theorem qbm{o:Nat→Prop}{w:World}{pd:Nat}(N:Nat)(room:Int)(h:dk.zx 1000 w o pd (dk.DD.new N room))(hN:0<N):Calls prog 12 #[pt pd] w fun e w'=>e=.returned (.tuple #[.pointer none,.int .i64 8])∧Below w.heap.size w w':=by
 have HR:=QH (qds h rfl (qvn N room) (by simp[dk.DD.n,dk.DD.new];omega));clear h;go_enter func12,ntmps12;go_wp2_with fail;refine HR.out.mono ?_;rintro e W1 ⟨rfl,hb⟩;have HB:=QH hb;clear hb HR;go_wp2_with fail;go_ret2;exact⟨rfl,HB.out⟩
theorem qn6{b N:Nat}{m:Mt}(h:yt b N m)(h0:m.tok.target=(0,0)):m.tok=zI:=by
 rcases h.tok with ht|ht
 ·exact ht
 ·exfalso;have e2:=ht.2.1;rw[h0]at e2;unfold mt.above at e2;simp at e2
theorem qdt{o:Nat→Prop}{w:World}{pd N b:Nat}{d:DD}{t:Tg}{m:Mt}(h:dk.zx 1000 w o pd d)(fG:xJ w)(hog:¬ o gN)(hJ:jr.RJ N t d)(hf:d.qp=0)(hR:qT b N t m) :
    Calls prog 12 #[pt pd] w fun e w'=>∃v d' aF gO,e=.returned (.tuple #[pt v,.int .i64 0])∧VP jB w' aF gO v pd d' m false∧jr.JJ N t d'∧d'.qp=0∧ib.qx o w w'∧(∀j,aF j→w.heap.size≤j)∧∀j,gO j→o j∨w.heap.size≤j:=by
 have hdn:d.n=N:=hJ.rb.1;have qsE:145<d.n:=by rw[hdn];have:=hR.N0;omega
 have HRC:=QH (jr.rS jr.qhm h qsE fG (by rw[hJ.more];decide) (by decide));have HRA:Hid ((jr.zY d).1=0∧jr.JJ N t (jr.zY d).2∧(jr.zY d).2.qp=0):=by
  rcases jr.qcv hJ (by omega)with⟨h1,h2,h3,_⟩|⟨_,_,h3,_⟩
  ·exact⟨h1,h2,h3 hf⟩
  ·exact absurd hf h3
 obtain⟨RC,hRC⟩:=QE (jr.zY d);rw[hRC]at HRC HRA;obtain⟨r,d1⟩:=RC;have hr0:r=0:=HRA.out.1;subst hr0;have gW:=QH fG;have HOG:=QH hog;have HR:=QH hR;clear h hJ hf hR hRC hdn qsE fG hog;go_enter func12,ntmps12;go_wp2_with fail;refine HRC.out.mono ?_;rintro e W1 ⟨rfl,o2,hd1,hb1,hg1⟩;have HD1:=QH hd1;have qP:Hid (ib.qx o w W1):=qa9 hb1;have HG1:Hid (∀j,o2 j→o j∨w.heap.size≤j):=hg1;have qj1:xJ W1:=vY gW.out qP.out.size (qP.out.block gN (zK gW.out) HOG.out);have qzM:=QH qj1;have hR:=HR.out;have htx:=qf9 hd1 qj1 HRA.out.2.1 hR.N0 (u:=zy m) (by have:=hR.ok.size hR.N1;omega) (xO hR.ok hR.N1).2 hR.home;have HTX:=QH htx;clear hd1 hb1 hg1 qj1 htx HRC;go_wp2_with fail;refine HTX.out.mono ?_;rintro e W2 ⟨rfl,hb2⟩;have qy:=QH hb2;have hdc:=qpS (str (zy m)) W2 (by rw[qO];have:=hR.ok.size hR.N1;omega) m (by rw[za];exact hR.ok.back hR.N1);have HDC:=QH hdc;obtain⟨S,hS⟩:=QE (str (zy m));rw[hS]at HDC ⊢;clear hb2 hdc hS HTX hR;go_wp2_with fail;refine HDC.out.mono ?_;rintro e W3 ⟨A0,A1,A2,c0,c1,c2,rfl,hT,hb3⟩;have gT:=QH hT.bound;have qV:=QH hb3;have hb4:=(Below.refl _ W3).alloc (Nat.le_refl _) (.cells (mt.pg.mZ (.slice none 0 0) (.slice none 0 0)) 93);have hk4:=qf.new W3 93 (mt.pg.mZ (.slice none 0 0) (.slice none 0 0));obtain⟨W4,rI⟩:=QE (W3.alloc (.cells (mt.pg.mZ (.slice none 0 0) (.slice none 0 0)) 93));rw[rI]at hb4 hk4;have a0:=hk4.cell 0;have a1:=hk4.cell 1;have a2:=hk4.cell 2;have a3:=hk4.cell 3;have a4:=hk4.cell 4;have a5:=hk4.cell 5;have a6:=hk4.cell 6;have a7:=hk4.cell 7;have a8:=hk4.cell 8;have f0:=hk4.frozen 0;have f1:=hk4.frozen 1;have f2:=hk4.frozen 2;have f3:=hk4.frozen 3;have f4:=hk4.frozen 4;have f5:=hk4.frozen 5;have f6:=hk4.frozen 6;have f7:=hk4.frozen 7;have f8:=hk4.frozen 8;have hal:=hk4.lt;simp only[mt.pg.mZ,QA,QB,QC]at a0 a1 a2 a3 a4 a5 a6 a7 a8;have hres:qf W4 W3.heap.size 93 (mC nlS nlS nlS zI):=hk4;have HF:Hid (qf (xG W4 W3.heap.size (.slice A0 m.live.length c0) (.slice A1 m.qa.length c1) (.slice A2 m.tok.ql.length c2) m.tok) W3.heap.size 93 (mC (.slice A0 m.live.length c0) (.slice A1 m.qa.length c1) (.slice A2 m.tok.ql.length c2) m.tok)∧Below W3.heap.size W3 (xG W4 W3.heap.size (.slice A0 m.live.length c0) (.slice A1 m.qa.length c1) (.slice A2 m.tok.ql.length c2) m.tok)) :=
  ⟨pY hres,dx hb4 (Nat.le_refl _)⟩
 unfold mt.pg.mZ at rI;unfold zj;clear hb3 hT hb4 hk4 hres HDC;go_upto_region 8 with fail;try rw[rI]
 show Code.wp _ _ _ _ (xG W4 W3.heap.size (.slice A0 m.live.length c0) (.slice A1 m.qa.length c1) (.slice A2 m.tok.ql.length c2) m.tok);obtain⟨W5,fD⟩:=QE (xG W4 W3.heap.size (.slice A0 m.live.length c0) (.slice A1 m.qa.length c1) (.slice A2 m.tok.ql.length c2) m.tok);rw[fD]at HF ⊢;clear rI fD a0 a1 a2 a3 a4 a5 a6 a7 a8 f0 f1 f2 f3 f4 f5 f6 f7 f8 hal;have hblk:=HF.out.1;have b35:=HF.out.2;have qn7:=QH (qc (qc qy.out qV.out) b35);have cY:=QH (gT.out.below b35);have HD5:=QH (HD1.out.below qn7.out);have k0:=hblk.cell 0;have k1:=hblk.cell 1;have k2:=hblk.cell 2;have k3:=hblk.cell 3;have k4:=hblk.cell 4;have k5:=hblk.cell 5;have k6:=hblk.cell 6;have k7:=hblk.cell 7;have k8:=hblk.cell 8;have aL:=hblk.lt;simp only[mC,QA,QB,QC]at k0 k1 k2 k3 k4 k5 k6 k7 k8;have e0:=fun d os=>cell_regrown k0 d os;have e1:=fun d os=>cell_regrown k1 d os;have e2:=fun d os=>cell_regrown k2 d os;have e3:=fun d os=>cell_regrown k3 d os;have e4:=fun d os=>cell_regrown k4 d os;have e5:=fun d os=>cell_regrown k5 d os;have e6:=fun d os=>cell_regrown k6 d os;have e7:=fun d os=>cell_regrown k7 d os;have e8:=fun d os=>cell_regrown k8 d os;have hR:=HR.out;have hlen:m.live.length=b:=hR.ok.len;have hdn:d1.n=N:=HRA.out.2.1.rb.1;have cL:∀b os,Calls prog 45 #[pt pd] (grow (redrawn W5 b) os) fun e w''=>e=.returned (.int .i64 (N:Int))∧∃q:Regrown,w''=grow (redrawn W5 q.d) q.os :=
  fun b os=>Calls.regrown_of ((eW (HD5.out.below (below_regrown W5 b os))).mono fun e w' hx=>⟨by rw[← hdn];exact hx.1,by rw[← hx.2];exact Below.refl _ _⟩)
 have cC:∀b os,Calls prog 44 #[.agg (zj A0 A1 A2 c0 c1 c2 m),.int .i64 (m.live.length:Int),.int .i64 (N:Int)] (grow (redrawn W5 b) os) fun e w''=>e=.returned (.int .i64 0)∧∃q:Regrown,w''=grow (redrawn W5 q.d) q.os :=
  fun b os=>by
   have hc:=mt.pg.sM (.agg (zj A0 A1 A2 c0 c1 c2 m)) m (m.live.length:Int) (N:Int) (grow (redrawn W5 b) os) ⟨A0,A1,A2,c0,c1,c2,rfl,(cY.out.below (below_regrown W5 b os)).mt⟩ (mW hR.ok) (by unfold qC;have:=hR.ok.b8;omega) (by unfold qC;have:=hR.N1;omega);have h0:xi m (m.live.length:Int) (N:Int)=0:=by rw[hlen];exact hR.ok.check
   rw[h0]at hc;exact Calls.regrown_of hc
 have qzO:=QH hblk;unfold zj at cC;clear hblk b35 hlen hdn hR;refine wp_region_quiet_below vF (by kernel_rfl) ?_;repeat (any_goals (first|go_big_quiet_step (first|exact cL _ _|exact cC _ _)|quiet_step (first|exact cL _ _|exact cC _ _)))
 refine wpQuiet_nil ?_;intro _ hw';obtain⟨⟨dq,osq⟩,hw''⟩:=hw';subst hw'';have kG:=below_regrown W5 dq osq;have gU:=QH kG;have hblk:=qzO.out.below kG;clear kG e0 e1 e2 e3 e4 e5 e6 e7 e8 k0 k1 k2 k3 k4 k5 k6 k7 k8 aL cL cC qzO;generalize grow (redrawn W5 dq) osq=W6 at *;have k0:=hblk.cell 0;have k1:=hblk.cell 1;have k2:=hblk.cell 2;have k3:=hblk.cell 3;have k4:=hblk.cell 4;have k5:=hblk.cell 5;have k6:=hblk.cell 6;have k7:=hblk.cell 7;have k8:=hblk.cell 8;have aL:=hblk.lt;simp only[mC,QA,QB,QC]at k0 k1 k2 k3 k4 k5 k6 k7 k8;have HTO:=QH (qdr (w:=W6) A0 A1 A2 m.live.length m.qa.length m.tok.ql.length c0 c1 c2 m.tok);unfold mC at HTO;clear hblk;go_wp2_with fail;refine HTO.out.mono ?_;rintro e W7 ⟨rfl,rJ⟩;have HB7:=QH (qc gU.out rJ);have hb8:=(Below.refl _ W7).alloc (Nat.le_refl _) (.cells (vC A0 A1 A2 c0 c1 c2 m pd false) 101);have hk8:=qf.new W7 101 (vC A0 A1 A2 c0 c1 c2 m pd false);obtain⟨W8,hW8⟩:=QE (W7.alloc (.cells (vC A0 A1 A2 c0 c1 c2 m pd false) 101));rw[hW8]at hb8 hk8;have HB8:=QH (qc HB7.out hb8);have qj2:=QH (qc qn7.out HB8.out);have HK8:=QH hk8;have fU:Hid (W1.heap.size≤W2.heap.size∧W2.heap.size≤W3.heap.size∧W3.heap.size≤W5.heap.size∧W5.heap.size≤W7.heap.size∧W7.heap.size<W8.heap.size):=⟨qy.out.size,qV.out.size,HF.out.2.size,HB7.out.size,hk8.lt⟩;unfold vC at hW8;clear rJ hb8 hk8 HTO k0 k1 k2 k3 k4 k5 k6 k7 k8 aL;go_wp2_with fail;try rw[hW8]
 clear hW8;go_ret2;have hR:=HR.out;have hsz:=fU.out;have h1s:=qP.out.size;have xK:∀j,o2 j→j<W1.heap.size:=fun j hj=>bP HD1.out j hj;have hgn:gN<w.heap.size:=zK gW.out;have hg2:¬ o2 gN:=fun h=>by
  rcases HG1.out gN h with h|h
  ·exact HOG.out h
  ·omega
 refine⟨W7.heap.size,d1,fun j=>w.heap.size≤j∧j<W8.heap.size∧¬ o2 j,o2,rfl,⟨⟨A0,A1,A2,c0,c1,c2,HK8.out,?_,mW hR.ok,xo qzM.out qj2.out (zK qzM.out),⟨by omega,by omega,fun h=>by have:=xK _ h;omega⟩,fun j hj=>hj.2.1,by omega,qn6 hR.ok⟩,HD1.out.below qj2.out,fun j hj=>?_⟩,HRA.out.2.1,HRA.out.2.2,?_,fun j hj=>hj.1,fun j hj=>HG1.out j hj⟩
 ·refine(gT.out.below HF.out.2).mono (G':=fun j=>(w.heap.size≤j∧j<W8.heap.size∧¬ o2 j)∧j≠W7.heap.size) (fun j hj=>⟨⟨by omega,by omega,fun h=>by have:=xK _ h;omega⟩,by omega⟩) |>.below HB8.out
 ·rcases hj with hj|hj
  ·exact hj.2.2
  ·rw[hj];exact hg2
 ·exact qP.out.trans (S':=fun _=>False) (ib.qx.of_below qj2.out) (fun _ h=>h.elim)
end Go.Proofs.YtdagdllomphidaaGreatDoor.vt.pg
namespace Go.Proofs.YtdagdllomphidaaGreatDoor.dk
open _root_.Go.Proofs.Tryz Go Go.RowKit
theorem qbn{P:Program}{ρ:Operand→Value}{o:Oper}{w w':World}{vx vy v':Value}{t:TypeId}(x y:Operand)(ho:o.op=.call { callee:=.builtin .append,args:=#[x,y],argTypes:=#[t,t] })(ht:o.type=t)(hx:ρ x=vx)(hy:ρ y=vy)
    (hrun:(Builtin.append_ #[t,t] t #[vx,vy]).run P w=.ok v' w'):(execOp ρ o).run P w=.ok (.value v') w':=by
 simp[execOp,ho,resolve,invoke,builtin,hx,hy,ht,hrun,Result.andThen]
theorem xd.twin{w w':World}{m n:Nat}{s:qG}(h:xd w m s):∃es clock,w.heap[m]?=some (.map es clock)∧∀(w':World) (n:Nat),w'.heap[n]?=some (.map es clock)→xd w' n s:=by
 obtain⟨D,⟨es,clock,h1,h2⟩,h3⟩:=h;exact⟨es,clock,h1,fun w' n hn=>⟨D,⟨es,clock,hn,h2⟩,h3⟩⟩
theorem qfZ(b:Nat)(es:Array MapEntry)(clock:Nat)(w:World)(hb:w.heap[b]?=some (.map es clock)) :
    Calls prog 118 #[.map (some b)] w fun e w'=>e=.returned (.map (some w.heap.size))∧w'=w.alloc (.map es clock):=by
 have hq:=fun w=>run_eql_map_nil_sl (P:=prog) w 104 _ _ (some b) underlying104;go_enter func118,ntmps118;go_wp2;rw[run_callFunc_extern func173 (by kernel_rfl) (by kernel_rfl) (by kernel_rfl) (e:=Extern.MapsClone.clone) (by kernel_rfl),run_maps_clone_sl w 104 hb];simp only[Result.andThen];rw[Oper.upon_value];go_wp2;rw[run_typeAssert_map_sl _ 104 _ _ _ _ underlying104];simp only[Result.andThen];rw[Oper.upon_value];go_wp2;go_ret;exact⟨rfl,rfl⟩
theorem qdu{ρ:Operand→Value}{o:Oper}{w:World}(ho:o.op=.buildSlice 105 0 #[]) :
    (execOp ρ o).run prog w=.ok (.value (.slice (some ⟨w.heap.size,0,none⟩) 0 0)) (w.alloc (.cells #[] 125)):=by
 unfold execOp;rw[ho];go_simp
theorem mY (w:World)(a:Option Addr)(n c:Nat):(binOp .eql 105 (.slice a n c) (.slice none 0 0)).run prog w=.ok (.bool a.isNone) w:=by
 simp only[binOp];simp[run_equal_slice_nil _ _ _ _ _ _ underlying105]
def qga (n:Nat)(xs:List Value)(w:World)(e:Ending)(w':World):Prop:=∃v',e=.returned v'∧w'.ownsRow w.heap.size 125 66 v' n xs∧Below w.heap.size w w'
theorem bS (w:World)(v:Value)(n:Nat)(xs:List Value)(h:w.ownsRow 0 125 66 v n xs)(h1:∀u∈xs,u.oneCell'=true)(hn:n≤100000) :
    Calls prog 119 #[v] w (qga n xs w):=by
 have hown:=h;rcases h.2 with⟨rfl,h0⟩|⟨g,cap,cur,rfl,hg,hh,hc,hm,hcs,xI⟩
 ·subst h0;have hx:xs=[]:=by have:=h.1;simpa using this
  subst hx;have hq:=fun w=>mY w none 0 0;clear hown h;go_enter func119,ntmps119;go_wp2_with fail;go_ret;exact⟨_,rfl,World.ownsRow_nil _ _ _ _,Below.refl _ _⟩
 ·obtain⟨i0,hi,hz0,hz1,hz2⟩:=info_parts qeL;have hcell:∀(j:Nat) (u:Value),xs[j]?=some u→(w.alloc (.cells #[] 125)).cell? ((⟨g,0,none⟩:Addr).add j)=some u:=by
   intro j u hu;rw[addr_add,Nat.zero_add];have hj:j<xs.length:=(List.getElem?_eq_some_iff.1 hu).1;have:=World.ownsRow.cellAt hown j (by rw[← hown.1];exact hj);rw[World.cell?_of_block (a:=⟨g,j,none⟩) (Below.heap_alloc w _ g (Array.getElem?_eq_some_iff.1 hh).1),this];exact hu
  obtain⟨v',w',hrun,h2,h3,_⟩:=run_append_own (P:=prog) (w.alloc (.cells #[] 125)) w.heap.size 105 105 125 i0 _ 66 80 underlying105 hi hz0 hz1 hz2 (by simp[Value.cells,yz,qX]) (by decide) (.slice (some ⟨w.heap.size,0,none⟩) 0 0) 0 [] (World.ownsRow_made w #[] 0 (Nat.le_refl _) (by decide) rfl) ⟨g,0,none⟩ n cap xs h.1 hcell h1 (by unfold maxLen;omega) (by omega) (by simp);rw[Nat.zero_add,List.nil_append]at h2;have HR:=QH hrun;have H2:=QH h2;have H3:=QH h3;clear hown h hcell h1 hrun h2 h3 hi hz0 hz1 hz2 hcs xI hh;have hq:=fun w=>mY w (some ⟨g,0,none⟩) n cap;go_enter func119,ntmps119;go_wp2_with (first|(refine qg rfl (qdu rfl) ?_)|(refine qg rfl (qbn (.tmp 5) (.tmp 6) rfl rfl rfl rfl HR.out) ?_));go_ret;refine⟨_,rfl,H2.out,?_⟩;have hb:Below w.heap.size w (w.alloc (.cells #[] 125)):=(Below.refl _ _).alloc (Nat.le_refl _) _;exact hb.grown H3.out hb.size (fun k hk=>by simp[Value.ownBlock]at hk;omega)
theorem qvq:(prog.info? 107).map (·.size)=some 6:=by kernel_rfl
def qgb (most:Nat)(d:DD)(w:World)(e:Ending)(w':World):Prop :=
 ∃q own,e=.returned (.pointer (some ⟨q,0,none⟩))∧zx most w' own q d∧Below w.heap.size w w'∧∀k,own k→w.heap.size≤k
section
variable {w:World} {own:Nat→Prop} {p:Nat} {d:DD}
theorem pZ {most:Nat}(h:zx most w own p d)(jb:most≤100000) :
    Calls prog 75 #[.pointer (some ⟨p,0,none⟩)] w (qgb most d w):=by
 obtain⟨h0,m,v,h1⟩:=h;have H0:=QH h0;have H1:=QH h1;have hml:d.more.length≤100000:=Nat.le_trans h0.qce jb;have HML:=QH hml;have HON:Hid (∀u∈vP (fY d.base d.more),u.oneCell'=true):=by
  intro u hu;simp only[vP,List.mem_flatMap]at hu;obtain⟨x,_,hu⟩:=hu;exact dz x u hu
 obtain⟨c0,c1,c2,c3,c4,c5⟩:=jV h1.1;obtain⟨V,cv,hA⟩:=yT h1.2.2.1;have qdv:=h1.1.lt;obtain⟨es,clock,hm,hmk⟩:=h1.2.1.twin (w':=w) (n:=0);have HM:=QH hm;have HMK:=QH hmk;subst hA;clear h0 h1 jb hml hm hmk;go_enter func75,ntmps75;go_wp2_with (refine wpList_skip rfl (zr w 107 _ #[.int .i64 (d.n:Int),.int .i64 d.room,.map (some m),.slice V d.more.length cv,.bool d.on,.int .i64 d.qp] (.tmp 3) (.tmp 8) rfl rfl rfl (by rw[qvq];rfl) rfl (by rfl)) ?_);have HP1:Hid (qf (w.alloc (.cells #[.int .i64 (d.n:Int),.int .i64 d.room,.map (some m),.slice V d.more.length cv,.bool d.on,.int .i64 d.qp] 107)) w.heap.size 107 #[.int .i64 (d.n:Int),.int .i64 d.room,.map (some m),.slice V d.more.length cv,.bool d.on,.int .i64 d.qp]):=qf.new _ _ _;have qP:Hid (Below w.heap.size w (w.alloc (.cells #[.int .i64 (d.n:Int),.int .i64 d.room,.map (some m),.slice V d.more.length cv,.bool d.on,.int .i64 d.qp] 107))):=(Below.refl _ _).alloc (Nat.le_refl _) _;generalize w.alloc (.cells #[.int .i64 (d.n:Int),.int .i64 d.room,.map (some m),.slice V d.more.length cv,.bool d.on,.int .i64 d.qp] 107)=X1 at *;clear c0 c1 c2 c3 c4 c5;obtain⟨q,hq⟩:∃q,q=w.heap.size:=⟨_,rfl⟩;rw[← hq]at HP1 ⊢;have HQ:=QH hq;clear hq;refine(qfZ m es clock X1 ((qP.out.block m (Array.getElem?_eq_some_iff.1 HM.out).1).trans HM.out)).mono ?_;rintro e W2 ⟨rfl,rfl⟩;have HP2:Hid (qf (X1.alloc (.map es clock)) q 107 #[.int .i64 (d.n:Int),.int .i64 d.room,.map (some m),.slice V d.more.length cv,.bool d.on,.int .i64 d.qp]):=HP1.out.of_block (Below.heap_alloc _ _ _ HP1.out.lt);have qy:Hid (Below w.heap.size w (X1.alloc (.map es clock))):=qP.out.alloc qP.out.size _;have HM2:Hid (xd (X1.alloc (.map es clock)) X1.heap.size d.now):=HMK.out _ _ (heap_alloc_new _ _);have HQM:Hid (q<X1.heap.size):=HP1.out.lt;obtain⟨m2,hm2⟩:∃x,x=X1.heap.size:=⟨_,rfl⟩;rw[← hm2]at HM2 HQM ⊢;have zbX:Hid (m2<(X1.alloc (.map es clock)).heap.size):=HM2.out.lt;clear hm2;generalize X1.alloc (.map es clock)=X2 at *;obtain⟨q0,q1,q2,q3,q4,q5⟩:=jV HP2.out;have fq:=HP2.out.frozen 2;have lM:=HP2.out.lt;obtain⟨s0,s1,s2,s3,s4,s5⟩:=jV (H1.out.keep qy.out.size (fun k hk=>qy.out.block k (H1.out.2.2.2.2.2.2 k hk))).1;have hpl:p<X2.heap.size:=Nat.lt_of_lt_of_le qdv qy.out.size;have hpq:p<q:=by rw[HQ.out];exact qdv
 go_wp2_with fail;have HP3:Hid (qf (X2.setCell ⟨q,2,none⟩ (.map (some m2))) q 107 #[.int .i64 (d.n:Int),.int .i64 d.room,.map (some m2),.slice V d.more.length cv,.bool d.on,.int .i64 d.qp]):=HP2.out.qo 2 _;have qV:Hid (Below w.heap.size w (X2.setCell ⟨q,2,none⟩ (.map (some m2)))):=qy.out.setCell (by rw[HQ.out];exact Nat.le_refl _) _;have HM3:Hid (xd (X2.setCell ⟨q,2,none⟩ (.map (some m2))) m2 d.now):=HM2.out.of_block (xx _ _ _ _ _ (Nat.ne_of_gt HQM.out));generalize X2.setCell ⟨q,2,none⟩ (.map (some m2))=X3 at *;clear q0 q1 q2 q3 q4 q5 fq lM s0 s1 s2 s3 s4 s5 hpl;have qsG:X3.ownsRow 0 125 66 (.slice V d.more.length cv) d.more.length (vP (fY d.base d.more)):=(H1.out.keep qV.out.size (fun k hk=>qV.out.block k (H1.out.2.2.2.2.2.2 k hk))).2.2.1;refine(bS X3 _ _ _ qsG HON.out HML.out).mono ?_;rintro e W4 ⟨v4,rfl,ho4,hb4⟩;obtain⟨A4,c4,rfl⟩:=yT ho4;have HO4:=QH ho4;have zO:=QH hb4;clear qsG ho4 hb4;have HP4:Hid (qf W4 q 107 #[.int .i64 (d.n:Int),.int .i64 d.room,.map (some m2),.slice V d.more.length cv,.bool d.on,.int .i64 d.qp]):=HP3.out.of_block (zO.out.block q HP3.out.lt);obtain⟨q0,q1,q2,q3,q4,q5⟩:=jV HP4.out;have fq:=HP4.out.frozen 3;have lM:=HP4.out.lt;go_wp2_with fail;go_ret;have hq3:=HP3.out.lt;have hm3:=HM3.out.lt;have hx3:=qV.out.size;have qm:=HQM.out;have qq:=HQ.out;have h4:=zO.out.size;refine⟨q,fun k=>w.heap.size≤k∧k<W4.heap.size,rfl,⟨H0.out,m2,.slice A4 d.more.length c4,?_⟩,?_,fun k hk=>hk.1⟩
 ·refine⟨HP4.out.qo 3 _,(HM3.out.of_block (zO.out.block m2 hm3)).of_block (xx _ _ _ _ _ (Nat.ne_of_gt qm)),?_,⟨by omega,by omega⟩,⟨by omega,by omega⟩,fun j hj=>?_,fun k hk=>by rw[size_set];exact hk.2⟩
  ·have h5:(W4.setCell ⟨q,3,none⟩ (.slice A4 d.more.length c4)).ownsRow X3.heap.size 125 66 (.slice A4 d.more.length c4) d.more.length (vP (fY d.base d.more)):=xY HO4.out (fun j hj=>xx _ _ _ _ _ (by have h:=(HO4.out.lt j hj).1;omega));obtain⟨h1,h2⟩:=h5;refine⟨h1,?_⟩;rcases h2 with h2|⟨g,cap,cur,e1,_,e3⟩
   ·exact .inl h2
   ·exact .inr ⟨g,cap,cur,e1,Nat.zero_le _,e3⟩
  ·have h:=HO4.out.lt j hj;exact⟨Nat.le_trans hx3 h.1,h.2⟩
 ·exact(qV.out.trans (zO.out.mono qV.out.size)).setCell (by rw[qq];exact Nat.le_refl _) _
end
end Go.Proofs.YtdagdllomphidaaGreatDoor.dk
namespace Go.Proofs.YtdagdllomphidaaGreatDoor.vt.pg
open _root_.Go.Proofs.Tryz Go Go.RowKit Go.Sort ib mt im sp
theorem qdw{b N:Nat}(h1:1≤b)(h8:b≤8):yt b N (m0 b):=by
 refine⟨h1,h8,⟨by simp[m0],fun z hz=>.inl (by simp[m0]at hz;exact hz.2),fun i j _ hj _=>?_⟩,by simp[m0],fun s hs=>by simp[m0]at hs,trivial,.inl rfl,⟨fun s hs=>by simp[m0]at hs,by simp[m0,zI,zZ],by simp[m0,zI,zZ]⟩⟩;have hl:(m0 b).live=List.replicate b 0:=rfl;unfold pl;rw[hl];simp[List.getD,List.getElem?_replicate];split <;> rfl
theorem dY:∀(ss:List Bt) (o:Nat),((jr.zg o ss).map (·.1)).Nodup
 | [],o=>by simp[jr.zg]
 | s::r,o=>by
  unfold jr.zg;rw[List.map_cons,List.nodup_cons];refine⟨fun h=>?_,dY r (o+1)⟩;obtain⟨x,hx,e⟩:=List.mem_map.1 h;have:=(lY hx).1;dsimp only at e;omega
def fw (b:Nat):List Wr:=jr.zg 145 (xB (m0 b))
def ft (b:Nat):Tg:=jr.over (fun _=>dk.zz) (fw b)
theorem qbo{b N:Nat}(h1:1≤b)(h8:b≤8)(hN:193≤N)(lG:N≤1024):∀x∈fw b,145≤x.1∧x.1<(N:Int)∧x.2.length=32:=by
 intro x hx;have h48:=(xO (qdw (N:=N) h1 h8) lG).2;obtain⟨i,hi,e1,e2⟩:=jr.jt _ _ _ hx;rw[List.getElem?_eq_getElem hi]at e2;have e3:=Option.some.inj e2;exact⟨by omega,by omega,by rw[← e3];exact qc0 _ _ (List.getElem_mem hi)⟩
theorem qvr{b N:Nat}(h1:1≤b)(h8:b≤8)(hN:193≤N)(lG:N≤1024):jr.nY N (fw b)=0:=by
 have h48:=(xO (qdw (N:=N) h1 h8) lG).2;have hl:(fw b).length≤48:=by unfold fw;rw[jr.qZ];exact h48
 have hp:jr.vA N (fw b)=true:=by
  unfold jr.vA;have hf:=dN (fw b) [] (by simpa[fw]using dY (xB (m0 b)) 145);rw[hf];simp only[List.nil_append,List.length_map,decide_true,Bool.and_true,List.all_eq_true];intro x hx;obtain⟨h1,h2,h3⟩:=qbo h1 h8 hN lG x hx;unfold jr.okW;simp;exact⟨⟨h1,h2⟩,h3⟩
 unfold jr.nY;split
 ·rfl
 ·rw[if_neg (by omega),hp];simp
theorem qvs{b N:Nat}(h1:1≤b)(h8:b≤8)(hN:193≤N)(lG:N≤1024):qT b N (ft b) (m0 b):=by
 refine⟨qdw h1 h8,hN,lG,fun i hi=>?_,oq _ _ (fun k _=>dk.qX) fun x hx=>(qbo h1 h8 hN lG x hx).2.2⟩;have hm:(((145+i:Nat):Int),(xB (m0 b))[i])∈fw b:=by
  have key:∀(ss:List Bt) (o i:Nat) (hi:i<ss.length),(((o+i:Nat):Int),ss[i])∈jr.zg o ss:=by
   intro ss
   induction ss with
   | nil=>intro o i hi;simp at hi
   | cons s r ih =>
    intro o i hi;unfold jr.zg;cases i with
    | zero=>simp
    | succ j =>
     rw[List.getElem_cons_succ,show o+(j+1)=o+1+j by omega];exact List.mem_cons_of_mem _ (ih (o+1) j (by simpa using hi))
  exact key _ 145 i hi
 exact mO _ _ _ hm (dY _ _)
theorem qj3(N:Nat)(room:Int)(hN:145<N)(hr:(N:Int)≤room):(jr.kU (dk.DD.new N room)).1=0∧jr.JJ N (fun _=>dk.zz) (jr.kU (dk.DD.new N room)).2∧(jr.kU (dk.DD.new N room)).2.qp=0:=by
 have hn:(dk.DD.new N room).n=N:=by simp[dk.DD.n,dk.DD.new]
 have hgs:∀s∈jr.qD [[((0:Int),jr.kH 0 0)]],jr.lF (dk.DD.new N room).n s:=by
  rw[hn];refine jr.wK fun l hl x hx=>?_;obtain rfl:l=[(0,jr.kH 0 0)]:=by simpa using hl
  obtain rfl:x=(0,jr.kH 0 0):=by simpa using hx
  exact⟨by simp,by simp;omega,(jr.uA (by decide) (by decide)).1⟩
 have e:jr.kU (dk.DD.new N room)=(0,jr.mk (dk.DD.new N room) (dk.qU (List.replicate N none) [(0,jr.kH 0 0)],[]) true 0):=by
  unfold jr.kU;rw[if_neg (by simp[dk.DD.new]),if_neg (by rw[hn];omega),jr.eA _ (dk.DD.new N room) rfl (Int.le_refl _) (by rw[hn];exact hr) hgs (.inl rfl)];have:((dk.DD.new N room).base,(dk.DD.new N room).more)=(List.replicate N none,[]):=rfl;rw[this,jr.az];rfl
 rw[e];have hk:∀k,145≤k→jr.rd (dk.qU (List.replicate N none) [(0,jr.kH 0 0)]) k=dk.zz:=fun k hk=>by
  rw[jr.js _ _ _ (fun x hx=>by
   obtain rfl:x=(0,jr.kH 0 0):=by simpa using hx
   dsimp only;omega)]
  unfold jr.rd;rw[jr.tJ];rfl
 refine⟨rfl,⟨⟨rfl,rfl,hr,by show(dk.qU _ _).length=N;rw[dk.xc];simp,dk.dy (fun v hv=>by simp at hv) (fun x hx=>?_),0,0,[],?_,.inl ⟨rfl,rfl⟩,?_⟩,hk⟩,rfl⟩
 ·obtain rfl:x=(0,jr.kH 0 0):=by simpa using hx
  exact(jr.uA (by decide) (by decide)).1
 ·show jr.gM (jr.rd (dk.qU (List.replicate N none) [(0,jr.kH 0 0)]) 0)=_;have:jr.rd (dk.qU (List.replicate N none) [(0,jr.kH 0 0)]) 0=jr.kH 0 0:=by
   unfold jr.rd dk.qU;simp only[List.foldl_cons,List.foldl_nil,dk.put];have:=dk.zE (List.replicate N none) 0 (some (jr.kH 0 0)) (by simp;omega);rw[show((0:Int))=((0:Nat):Int)from rfl,this];rfl
  rw[this];exact(jr.uA (by decide) (by decide)).2.1
 ·exact hk
theorem l6 {w w':World}{A:Option Addr}{l:List Wr}(h:jr.uJ w A l)(hs:w.heap.size≤w'.heap.size)(hb:∀b o,A=some ⟨b,o,none⟩→b<w.heap.size→w'.heap[b]?=w.heap[b]?):jr.uJ w' A l:=by
 intro i hi;obtain⟨b,o,h1,h2,h3,h4,h5⟩:=h i hi;have hk:=hb b o h1 h2;exact⟨b,o,h1,Nat.lt_of_lt_of_le h2 hs,(World.cell?_of_block (w:=w) (a:=⟨b,o+i*2,none⟩) hk).trans h3,(World.cell?_of_block (w:=w) (a:=⟨b,o+i*2+1,none⟩) hk).trans h4,h5⟩
theorem kR {o:Nat→Prop}{w:World}{p N b:Nat}{room:Int}(h:dk.zx 1000 w o p (dk.DD.new N room))(fG:xJ w)(hog:¬ o gN)(h1:1≤b)(h8:b≤8)(hN:193≤N)(lG:N≤1024)(hr:(N:Int)≤room){A:Option Addr}{c:Nat}(hA:jr.uJ w A (fw b))(hAo:∀b o',A=some ⟨b,o',none⟩→¬ o b) :
    Calls prog 74 #[pt p,.slice A (fw b).length c] w fun e w'=>e=.returned (.int .i64 0)∧∃d' o',dk.zx 1000 w' o' p d'∧jr.JJ N (ft b) d'∧d'.qp=0∧ib.qx o w w'∧∀j,o' j→o j∨w.heap.size≤j:=by
 have HF:=QH (jr.qf8 jr.qhl h (by simp[dk.DD.new]) (by decide));have HNR:=QH (qj3 N room (by omega) hr);obtain⟨D0,hD0⟩:=QE (jr.kU (dk.DD.new N room));rw[hD0]at HF HNR;obtain⟨r0,d0⟩:=D0;have hr0:r0=0:=HNR.out.1;subst hr0;have gW:=QH fG;have HOG:=QH hog;have HA:=QH hA;have HAO:=QH hAo;have qzP:=QH (qvr h1 h8 hN lG);have HLL:Hid ((fw b).length≤48):=by unfold Hid fw;rw[jr.qZ];exact(xO (qdw (N:=N) h1 h8) lG).2
 have HN:=QH (And.intro hN lG);have HFT:Hid (ft b=jr.over (fun _=>dk.zz) (fw b)):=rfl;obtain⟨l,hl⟩:=QE (fw b);rw[hl]at HA qzP HLL HFT ⊢;clear h fG hog hA hAo h1 h8 hN lG hr hD0 hl;obtain⟨n,hn⟩:=QE l.length;have HNL:=QH hn;rw[hn];clear hn;go_enter func74,ntmps74;go_wp2_with fail;refine HF.out.mono ?_;rintro e W1 ⟨rfl,o1,hd1,hb1,hg1⟩;have qP:Hid (ib.qx o w W1):=qa9 hb1;have HG1:Hid (∀j,o1 j→o j∨w.heap.size≤j):=hg1;have qzQ:d0.n=N:=HNR.out.2.1.rb.1;have hA1:=l6 HA.out qP.out.size (fun b o' e hb=>qP.out.block b hb (HAO.out b o' e));have qj1:xJ W1:=vY gW.out qP.out.size (qP.out.block gN (zK gW.out) HOG.out);have hcm:=jr.fk jr.qhl jr.qhm hd1 (by rw[qzQ];have:=HN.out;omega) A c l hA1 (by have:=HLL.out;omega) qj1 (by rw[HNR.out.2.1.more];decide) (by decide);have iR:Hid ((jr.zV d0 l).1=0∧jr.JJ N (ft b) (jr.zV d0 l).2∧(jr.zV d0 l).2.qp=0):=by
  rcases jr.nZ (N:=N) (tgt:=fun _=>dk.zz) (l:=l) (d:=d0) (by have:=HN.out;omega) HN.out.2 HNR.out.2.1 (by rw[HNR.out.2.2];exact Int.le_refl _) qzP.out with⟨g1,g2,g3,_⟩|⟨_,_,g3,_⟩
  ·exact⟨g1,by rw[HFT.out];exact g2,g3 HNR.out.2.2⟩
  ·exact absurd HNR.out.2.2 g3
 obtain⟨RC,hRC⟩:=QE (jr.zV d0 l);rw[hRC]at hcm iR;obtain⟨r1,d1⟩:=RC;have hr1:r1=0:=iR.out.1;subst hr1;rw[HNL.out]at hcm;have HCM:=QH hcm;clear hd1 hb1 hg1 qzQ hA1 qj1 hcm hRC HF;have hce:((0:Int) != 0)=false:=rfl;go_wp2_with fail;refine HCM.out.mono ?_;rintro e W2 ⟨rfl,o2,hd2,hb2,hg2⟩;have HD2:=QH hd2;have qy:Hid (ib.qx o1 W1 W2):=qa9 hb2;have HG2:Hid (∀j,o2 j→o1 j∨W1.heap.size≤j):=hg2;clear hd2 hb2 hg2 HCM;go_wp2_with fail;go_ret;have hs:=qP.out.size;refine⟨rfl,d1,o2,HD2.out,iR.out.2.1,iR.out.2.2,qP.out.trans qy.out (fun j hj=>HG1.out j hj),fun j hj=>?_⟩;rcases HG2.out j hj with hj|hj
 ·exact HG1.out j hj
 ·exact .inr (by omega)
theorem qqR{w:World}{B:Nat}{v:Value}{l:List Wr}(h:jr.lS w B v l):∀a n c,v=.slice a n c→∀b o s,a=some ⟨b,o,s⟩→B≤b:=by
 intro a n c hv b o s ha;rcases h.2 with⟨rfl,h0⟩|⟨g,cap,cur,rfl,hg,hh,hcc,hm,hcs,xI⟩
 ·cases hv;cases ha
 ·cases hv;cases ha;exact hg
theorem r8 (b:Int)(w:World):Calls prog 28 #[.pointer none,.int .i64 b] w (ch.xP 1 w):=by
 go_enter func28,ntmps28;go_wp2_with fail;go_ret;exact⟨rfl,Below.refl _ _⟩
theorem r9 {o:Nat→Prop}{w:World}{pd:Nat}{d:DD}(b:Int)(h:dk.zx 1000 w o pd d)(hb:b<1∨8<b∨d.n<193):Calls prog 28 #[pt pd,.int .i64 b] w (ch.xP 2 w):=by
 have HL:=QH (eW h);clear h;by_cases h1:b<1
 ·clear hb;go_enter func28,ntmps28;go_wp2_with fail;go_ret;exact⟨rfl,Below.refl _ _⟩
 ·by_cases h8:8<b
  ·clear hb;go_enter func28,ntmps28;go_wp2_with fail;go_ret;exact⟨rfl,Below.refl _ _⟩
  ·have hn:(d.n:Int)<193:=by omega
   clear hb;go_enter func28,ntmps28;go_wp2_with fail;refine HL.out.mono ?_;rintro e W1 ⟨rfl,rfl⟩;go_wp2_with fail;go_ret;exact⟨rfl,Below.refl _ _⟩
theorem rV {o:Nat→Prop}{w:World}{pd:Nat}(b N:Nat)(room:Int)(h:dk.zx 1000 w o pd (dk.DD.new N room))(fG:xJ w)(hog:¬ o gN)(h1:1≤b)(h8:b≤8)(hN:193≤N)(lG:N≤1024)(hr:(N:Int)≤room) :
    Calls prog 28 #[pt pd,.int .i64 (b:Int)] w fun e w'=>e=.returned (.int .i64 0)∧∃t d' o',dk.zx 1000 w' o' pd d'∧jr.JJ N t d'∧qT b N t (m0 b)∧d'.qp=0∧ib.qx o w w'∧∀j,o' j→o j∨w.heap.size≤j:=by
 have hdn:(dk.DD.new N room).n=N:=by simp[dk.DD.n,dk.DD.new]
 have HL:=QH (eW h);rw[hdn]at HL;have ki:=(Below.refl w.heap.size w).alloc (Nat.le_refl _) (.cells (qh (List.replicate b 0)) 3);have hk:=qf.new w 3 (qh (List.replicate b 0));obtain⟨W1,hW1⟩:=QE (w.alloc (.cells (qh (List.replicate b 0)) 3));rw[hW1]at ki hk;have jL:yt b N (m0 b):=qdw h1 h8;have hmt:MtL W1 (some ⟨w.heap.size,0,none⟩) none none b 0 0 (m0 b) :=
  ⟨⟨qf.nums hk (fun z hz=>by simp[m0]at hz;rw[hz.2];unfold qC;omega),by simp[m0],fun h=>by cases h⟩,jF.nil _ _,⟨Nat.le_refl _,fun _=>⟨rfl,rfl⟩⟩,yE.none _,qdm.base,qdm.target,qdm.next,qdm.all⟩
 have hwr:=oZ hmt (mW jL) (jL.enc lG) (jL.size lG) (xo fG ki (zK fG));have hme:zj (some ⟨w.heap.size,0,none⟩) none none b 0 0 (m0 b) = #[.slice (some ⟨w.heap.size,0,none⟩) b b,.slice none 0 0,.int .u64 0,.int .u64 0,.int .u64 0,.int .u64 0,.int .i64 0,.int .i64 0,.slice none 0 0]:=by simp[zj,m0,zI]
 rw[hme]at hwr;have HWR:=QH hwr;have qP:=QH ki;have HD:=QH h;have gW:=QH fG;have HOG:=QH hog;have q5l:=QH (qvs h1 h8 hN lG);have HEA:=QH (qbo h1 h8 hN lG);have HP:Hid (0<(fw b).length):=by unfold Hid fw;rw[jr.qZ];exact(xO jL lG).1
 have qnl:Hid (∀(o:Nat→Prop) (w:World) (p:Nat),dk.zx 1000 w o p (dk.DD.new N room)→xJ w→¬ o gN→∀(A:Option Addr) (c:Nat),jr.uJ w A (fw b)→(∀b o',A=some ⟨b,o',none⟩→¬ o b) →
  Calls prog 74 #[pt p,.slice A (fw b).length c] w fun e w'=>e=.returned (.int .i64 0)∧∃d' o',dk.zx 1000 w' o' p d'∧jr.JJ N (ft b) d'∧d'.qp=0∧ib.qx o w w'∧∀j,o' j→o j∨w.heap.size≤j):=fun o w p hd hc ho A c hA hAo=>kR hd hc ho h1 h8 hN lG hr hA hAo
 have HN:=QH (And.intro hN lG);have g1:¬ (b:Int)<1:=by omega
 have g2:¬ (8:Int)<(b:Int):=by omega
 have g3:¬ (N:Int)<193:=by omega
 have qs1:b≤1000:=by omega
 clear h fG hog ki hk jL hmt hwr hme hr hdn h1 h8 hN lG;go_enter func28,ntmps28;go_wp2_with fail;refine HL.out.mono ?_;rintro e W0 ⟨rfl,rfl⟩;go_wp2_with (at_make;refine qg rfl (bR _ _ b rfl rfl rfl (by omega)) ?_);try rw[hW1]
 clear hW1;go_wp2_with fail;refine HWR.out.mono ?_;rintro e W2 ⟨vl,rfl,hol,hb2⟩;have qvt:jr.lS W2 W1.heap.size vl (fw b):=hol;have hnew:=qqR qvt;have qy:=QH (qc qP.out hb2);obtain⟨A,ca,rfl,rO⟩:=qvt.view (fun x hx=>by have:=HEA.out x hx;have:=HN.out;unfold jr.qC;omega);have HWS:=QH rO;have qbW:Hid (∀b' o',A=some ⟨b',o',none⟩→w.heap.size≤b'∧b'<W2.heap.size):=fun b' o' e=>by
  have g1:=hnew A _ ca rfl b' o' none e;obtain⟨b'',o'',e2,g2,_⟩:=rO 0 HP.out;rw[e]at e2;injection e2 with e2
  injection e2 with e3 e4
  exact⟨Nat.le_trans qP.out.size g1,by rw[e3];exact g2⟩
 have HCP:=QH (dk.pZ (HD.out.below qy.out) (by decide));have HLEN:Hid (jr.zg 145 (xB (m0 b))=fw b):=rfl;obtain⟨n,hn⟩:=QE ((fw b).length);rw[hn]at qnl;rw[hn];clear hol hb2 rO qvt hnew hn HWR;have hce:((0:Int) != 0)=false:=rfl;go_wp2_with fail;refine HCP.out.mono ?_;rintro e W3 ⟨q,ow,rfl,hdq,hb3,hlo⟩;have qV:=QH (qc qy.out hb3);have hw3:=l6 HWS.out hb3.size (fun b' o' e hb=>hb3.block b' hb);have qzR:=xo gW.out qV.out (zK gW.out);have HLY:=QH (qnl.out ow W3 q hdq qzR (fun h=>by have g1:=hlo _ h;have g2:=zK gW.out;have g3:=qy.out.size;omega) A ca hw3 (fun b' o' e h=>by have g1:=hlo _ h;have g2:=qbW.out b' o' e;omega));have bj:=QH hlo;have HW3:=QH hw3;have fU:=QH hb3.size;clear hdq hb3 hlo hw3 qzR HCP;go_wp2_with fail;refine HLY.out.mono ?_;rintro e W4 ⟨rfl,d4,o4,hd4,hj4,hf4,hb4,hg4⟩;have qqS:Below W2.heap.size W3 W4:=hb4.below (fun j hj=>bj.out j hj) fU.out;have zO:Hid (Below w.heap.size w W4):=qV.out.trans (qqS.mono qy.out.size);have hw4:=l6 HW3.out qqS.size (fun b' o' e hb=>qqS.block b' (qbW.out b' o' e).2);have qzS:=xo gW.out zO.out (zK gW.out);have qzT:=QH (qnl.out o W4 pd (HD.out.below zO.out) qzS HOG.out A ca hw4 (fun b' o' e h=>by have g1:=HD.out.low _ h;have g2:=qbW.out b' o' e;omega));clear hd4 hj4 hf4 hb4 hg4 qqS hw4 qzS HLY;go_wp2_with fail;refine qzT.out.mono ?_;rintro e W5 ⟨rfl,d5,o5,hd5,hj5,hf5,hb5,hg5⟩;have H1:=QH hd5;have H2:=QH hj5;have H3:=QH hf5;have H4:=QH hb5;have H5:=QH hg5;clear hd5 hj5 hf5 hb5 hg5 qzT;go_wp2_with fail;go_ret;have hs:=zO.out.size;refine⟨rfl,ft b,d5,o5,H1.out,H2.out,q5l.out,H3.out,(ib.qx.of_below (S:=o) zO.out).trans H4.out (fun _ h=>.inl h),fun j hj=>?_⟩;rcases H5.out j hj with hj|hj
 ·exact .inl hj
 ·exact .inr (by omega)
def qj4 (m:Mt)(g:Gd):Int:=if mt.above g (qB m)=false then 2 else if 20≤m.qa.length then 3 else 0
def gz (m:Mt)(g:Gd)(l:List Int):Mt:={ m with qa:=m.qa++[⟨g,l,false⟩] }
theorem qgc(m:Mt)(g:Gd):(qj4 m g≠0∧jP m g=⟨qj4 m g,m,[]⟩)∨(qj4 m g=0∧jP m g=⟨0,{ gz m g m.live with tok:=zI },[]⟩):=by
 unfold qj4 jP gz;by_cases h1:mt.above g (qB m)=false
 ·rw[if_pos h1,if_pos h1];exact .inl ⟨by decide,rfl⟩
 ·rw[if_neg h1,if_neg h1];by_cases h2:20≤m.qa.length
  ·rw[if_pos h2,if_pos h2];exact .inl ⟨by decide,rfl⟩
  ·rw[if_neg h2,if_neg h2];exact .inr ⟨rfl,rfl⟩
def gS (G:Nat→Prop)(v:Value)(w:World)(m m':Mt):Prop:=(∃k jZ,v=.func (.func k) #[] jZ)∧uI G w v m m'
theorem gS.below{G:Nat→Prop}{v:Value}{w w':World}{m m':Mt}(h:gS G v w m m')(hb:Below w.heap.size w w'):gS G v w' m m':=⟨h.1,h.2.below hb⟩
theorem gS.of{G:Nat→Prop}{v:Value}{w:World}{m m':Mt}(h:uI G w v m m'):gS G v w m m':=⟨h.form,h⟩
def qqT (G:Nat→Prop)(p:Nat)(A0:Option Addr)(c0:Nat)(m:Mt)(g:Gd):Nat→Value→World→Prop:=fun i v w=>match i with
 | 1=>v=.agg #[.int .u64 (g.1:Int),.int .u64 (g.2:Int)]
 | 6=>v=.slice A0 m.live.length c0
 | 7=>gS G v w m (gz m g m.live)
 | 8=>v=.agg (cB zI none 0 0)
 | 9=>gS G v w (gz m g m.live) { gz m g m.live with tok:=zI }
 | 10=>∃B f1 f2,v=.slice (some ⟨B,0,none⟩) 2 2∧qf w B 115 #[f1,f2]∧gS G f1 w m (gz m g m.live)∧gS G f2 w (gz m g m.live) { gz m g m.live with tok:=zI }
 | _=>v=pt p
theorem qj5(G:Nat→Prop)(p:Nat)(A0:Option Addr)(c0:Nat)(m:Mt)(g:Gd):∀i v w w',i<11→qqT G p A0 c0 m g i v w→Below w.heap.size w w'→qqT G p A0 c0 m g i v w':=by
 intro i v w w' hi h hb;rcases i with _|_|_|_|_|_|_|_|_|_|_|i;all_goals (first|omega|skip)
 all_goals unfold qqT at h ⊢
 all_goals dsimp only at h ⊢
 all_goals first
  | exact h
  | exact h.below hb
  | (obtain⟨B,f1,f2,h1,h2,h3,h4⟩:=h
     exact⟨B,f1,f2,h1,h2.below hb,h3.below hb,h4.below hb⟩)
theorem nB {o1 o2:Nat→Prop}{w:World}{v pd N b:Nat}{d:DD}{m:Mt}{t:Tg}(g:Gd)(h:VP jB w o1 o2 v pd d m false)(hJ:jr.JJ N t d)(hf:0≤d.qp)(hR:qT b N t m)(hg:zZ g) :
    Calls prog 30 #[pt v,gv g] w (kK jB o1 o2 v pd (yn N t d m (jP m g)) w):=by
 have mX:=QH (iA hR g hg);have HGD:=QH hg;obtain⟨g1,g2⟩:=g;have ml:=QH h;have hb2:=(Below.refl _ w).alloc (Nat.le_refl _) (.cells #[.int .u64 (g1:Int),.int .u64 (g2:Int)] 55);have hr2:=qf.new w 55 #[.int .u64 (g1:Int),.int .u64 (g2:Int)];obtain⟨W,hW2⟩:=QE (w.alloc (.cells #[.int .u64 (g1:Int),.int .u64 (g2:Int)] 55));rw[hW2]at hb2 hr2;have h2:=qQ h hb2;obtain⟨A0,A1,A2,c0,c1,c2,hA⟩:=h2.is;have HA:=QH hA;have HJ:=QH hJ;have HR:=QH hR;have HFU:=QH hf;have qy:=QH hb2;have jA:=QH hr2;have xz:=QH (jI h2 hJ.on);have fU:=QH hA.sz;obtain⟨aL,k0,k1,k2,k3,k4,k5,k6,k7,k8,k9,bQ⟩:=hA.cells;have r0:=hr2.cell 0;have r1:=hr2.cell 1;have rlt:=hr2.lt;simp only[Nat.zero_add,QA,QB,QC]at r0 r1;have e0:=fun d os=>cell_regrown k0 d os;have e1:=fun d os=>cell_regrown k1 d os;have e2:=fun d os=>cell_regrown k2 d os;have e3:=fun d os=>cell_regrown k3 d os;have e4:=fun d os=>cell_regrown k4 d os;have e5:=fun d os=>cell_regrown k5 d os;have e6:=fun d os=>cell_regrown k6 d os;have e7:=fun d os=>cell_regrown k7 d os;have e8:=fun d os=>cell_regrown k8 d os;have p0:=fun d os=>cell_regrown r0 d os;have p1:=fun d os=>cell_regrown r1 d os;have cF:∀b os,Calls prog 76 #[.agg (zj A0 A1 A2 c0 c1 c2 m),gv (g1,g2)] (grow (redrawn W b) os) fun e w''=>e=.returned (.int .i64 (qj4 m (g1,g2)))∧∃q:Regrown,w''=grow (redrawn W q.d) q.os :=
  fun b os=>Calls.regrown_of (pO (HA.out.below (below_regrown W b os)).tab.mt.qa fU.out.qa (g1,g2))
 have HFC:=QH (qgc m (g1,g2));obtain⟨PN,iW⟩:=QE (jP m (g1,g2));obtain⟨F,hF⟩:=QE (qj4 m (g1,g2));rw[hF,iW]at HFC;rw[iW]at mX;rw[hF]at cF;rw[iW];clear h h2 hJ hR hA hb2 hr2 iW hF hf hg;unfold gv at cF;unfold zj at cF;dsimp only at cF;show Calls _ _ #[pt v,.agg #[.int .u64 (g1:Int),.int .u64 (g2:Int)]] _ _;go_enter func30,ntmps30;go_upto_region 1 with fail;try rw[hW2]
 clear hW2;go_wp2_with fail;refine xz.out.mono ?_;rintro e W1 ⟨rfl,rfl⟩;clear xz;go_upto_region 4 with fail;refine wp_region_quiet_below vF (by kernel_rfl) ?_;repeat (any_goals (first|go_big_quiet_step (first|exact cF _ _)|quiet_step (first|exact cF _ _)))
 refine wpQuiet_nil ?_;intro _ hw';obtain⟨⟨dq,osq⟩,hw''⟩:=hw';subst hw'';have hb:=below_regrown W dq osq;have qV:=QH (qc qy.out hb);have bw:=QH (HA.out.below hb);have cq:=QH (jA.out.below hb);clear hb e0 e1 e2 e3 e4 e5 e6 e7 e8 p0 p1 cF HA qy jA aL k0 k1 k2 k3 k4 k5 k6 k7 k8 k9 bQ r0 r1 rlt;generalize grow (redrawn W dq) osq=W3 at *;rcases HFC.out with⟨hc,dv⟩|⟨hc,dv⟩
 ·have hcb:(F != 0)=true:=by simpa using hc
  have HPN:=QH dv;have HC:=QH hc;clear hc dv HFC;go_wp2_with fail;go_ret;rw[HPN.out];exact jK (qQ ml.out qV.out) qV.out (kC HC.out)
 ·subst hc;have gy:Hid (PN.code=0∧PN.m={ gz m (g1,g2) m.live with tok:=zI }∧PN.ws=[]):=by unfold Hid;rw[dv];exact⟨rfl,rfl,rfl⟩
  have HDK:Hid (yt b N PN.m∧gV N m PN.ws):=⟨(mX.out.2.1 gy.out.1).ok,(mX.out.2.1 gy.out.1).ws⟩;have hce:((0:Int) != 0)=false:=rfl;have aY:=HR.out.ok.few;have H20:=QH aY;clear dv HFC mX aY;go_wp2_with fail;refine qM (by kernel_rfl) 11 [21,22,23,24,25,26,27,28,29,30,31] (by kernel_rfl) (qqT (fun j=>(o1 j∧j≠v)∨w.heap.size≤j) v A0 c0 m (g1,g2)) (qj5 _ _ _ _ _ _) ?_ ?_
  ·intro i o vs ρ W hi hop hρ hfn hb hG;have t0:ρ (.tmp 0)=pt v:=hρ.out 0 rfl;have t3:ρ (.tmp 3)=pt w.heap.size:=hρ.out 3 rfl;have s22:=hρ.at_ 22 1 rfl;have s23:=hρ.at_ 23 2 rfl;have s24:=hρ.at_ 24 3 rfl;have s25:=hρ.at_ 25 4 rfl;have s26:=hρ.at_ 26 5 rfl;have s27:=hρ.at_ 27 6 rfl;have s28:=hρ.at_ 28 7 rfl;have s29:=hρ.at_ 29 8 rfl;have s30:=hρ.at_ 30 9 rfl;have hr:=cq.out.below hb;have r0:=hr.cell 0;have r1:=hr.cell 1;simp only[QA,QB,QC]at r0 r1;have hrl:=hr.lt;have lZ:=bw.out.below hb;have k0:=lZ.cells.k0;have aL:=lZ.cells.lt;have hsz:w.heap.size≤W.heap.size:=Nat.le_trans qV.out.size hb.size;rcases i with _|_|_|_|_|_|_|_|_|_|_|i;all_goals (first|omega|skip)
   all_goals simp only[QA,QB,QC,Option.some.injEq]at hop
   all_goals subst hop
   ·exact q9 (w':=W) (by unfold execOp;simp only[t0];go_simp) ⟨Below.refl _ _,rfl⟩
   ·exact q9 (w':=W) (by unfold execOp;simp only[t3];go_simp) ⟨Below.refl _ _,rfl⟩
   ·exact q9 (w':=W) (by unfold execOp;simp only[t0];go_simp) ⟨Below.refl _ _,rfl⟩
   ·have g2:vs 2=_:=hG 2 (by kernel_rfl);exact q9 (w':=W) (by unfold execOp;simp only[s23,g2];go_simp) ⟨Below.refl _ _,rfl⟩
   ·have g3:vs 3=_:=hG 3 (by kernel_rfl);exact q9 (w':=W) (by unfold execOp;simp only[s24,g3];go_simp) ⟨Below.refl _ _,rfl⟩
   ·have g4:vs 4=_:=hG 4 (by kernel_rfl);exact q9 (w':=W) (by unfold execOp;simp only[s25,g4];go_simp) ⟨Below.refl _ _,rfl⟩
   ·have g5:vs 5=_:=hG 5 (by kernel_rfl);exact q9 (w':=W) (by unfold execOp;simp only[s26,g5];go_simp) ⟨Below.refl _ _,rfl⟩
   ·have g1':vs 1=_:=hG 1 (by kernel_rfl);have g6:vs 6=_:=hG 6 (by kernel_rfl);refine qi (f:=66) (args:=#[gv (g1,g2),.slice A0 m.live.length c0]) (w':=W) (by unfold execOp gv;simp only[hfn,s22,g1',s27,g6];go_simp) ((qcD (G:=fun j=>(o1 j∧j≠v)∨w.heap.size≤j) lZ.tab.live.at_ lZ.sz.live HGD.out (fun j hj=>.inr (Nat.le_trans hsz hj))).mono ?_);rintro e W' ⟨f,rfl,iX,hb5⟩;exact⟨f,rfl,hb5,gS.of (iX m (gz m (g1,g2) m.live) ⟨by have:=H20.out;omega,rfl⟩)⟩
   ·exact q9 (w':=W) (by unfold cB zI execOp;go_simp) ⟨Below.refl _ _,rfl⟩
   ·have g8:vs 8=_:=hG 8 (by kernel_rfl);refine qi (f:=60) (args:=#[.agg (cB zI none 0 0)]) (w':=W) (by unfold execOp;simp only[hfn,s29,g8];go_simp) ((uN (G:=fun j=>(o1 j∧j≠v)∨w.heap.size≤j) (t:=zI) (yE.none W) (by decide) qdm (fun j hj=>.inr (Nat.le_trans hsz hj))).mono ?_);rintro e W' ⟨f,rfl,iX,hb5⟩;exact⟨f,rfl,hb5,gS.of (iX (gz m (g1,g2) m.live) _ rfl)⟩
   ·have g7:=hG 7 (by kernel_rfl);have g9:=hG 9 (by kernel_rfl);obtain⟨⟨ka,ca,ea⟩,g7b⟩:=g7;obtain⟨⟨kb,cb,eb⟩,g9b⟩:=g9;have hb1:=(Below.refl _ W).alloc (Nat.le_refl _) (.cells #[.func (.func ka) #[] ca,.func (.func kb) #[] cb] 115);rw[ea]at g7b;rw[eb]at g9b;exact q9 (v:=.slice (some ⟨W.heap.size,0,none⟩) 2 2) (w':=W.alloc (.cells #[.func (.func ka) #[] ca,.func (.func kb) #[] cb] 115)) (by unfold execOp;simp only[s28,ea,s30,eb];go_simp) ⟨hb1,_,_,_,rfl,qf.new _ _ _,(gS.of g7b).below hb1,(gS.of g9b).below hb1⟩
  ·intro vs W hb hG;have g0:vs 0=_:=hG 0 (by decide);obtain⟨B,f1,f2,g10,uO,he1,su⟩:=hG 10 (by decide);have bZ:=QH (wV ml.out (qc qV.out hb) HJ.out HFU.out HR.out gy.out.1 HDK.out (c:=2) rfl (gy.out.2.1.symm) (qn2 uO he1.2 su.2) (by omega) (cb:=0) (fy W) (by simp) (gy.out.2.2.symm));simp only[qW,qK,if_true];rw[g0,g10];generalize vs 1=z1;generalize vs 2=z2;generalize vs 3=z3;generalize vs 4=z4;generalize vs 5=z5;generalize vs 6=z6;generalize vs 7=z7;generalize vs 8=z8;generalize vs 9=z9;clear hG g0 g10 hb uO he1 su;simp only[Act.put,List.setIfInBounds_toArray,List.set_cons_succ,List.set_cons_zero];refine qI (i:=11) (by kernel_rfl) rfl rfl ?_;go_simp;refine bZ.out.mono ?_;rintro e W7 ⟨r,d',m',lost,aF,gO,rfl,hh⟩;have HH:=QH hh;clear hh bZ;go_simp;refine qI (i:=12) (by kernel_rfl) rfl rfl ?_;go_simp;refine⟨by kernel_rfl,?_⟩;go_wp2_with fail;go_ret;exact⟨r,d',m',lost,aF,gO,rfl,HH.out⟩
end Go.Proofs.YtdagdllomphidaaGreatDoor.vt.pg
