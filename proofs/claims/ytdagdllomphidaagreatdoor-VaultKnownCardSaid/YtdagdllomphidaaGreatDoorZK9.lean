/- VgApi1, VgPlc, VgWri, VgHF, VgOff, VgTok, Step, JWrites, JKept, JAlike, JReady, JWorks, JAllP, JTwiceP, JKnP, JKnC, VgOpn, DkApp2, DkCopy, DkCopy2, VgFmt. -/
import Derived.Test.YtdagdllomphidaaGreatDoorZK8
import Derived.Deep.RegionLawGrows
import Derived.Shelf.SlMaps.Clone
import Derived.Laws.Cover3
set_option linter.unusedVariables false
set_option linter.unusedSimpArgs false
set_option maxHeartbeats 30000000
set_option maxRecDepth 100000
namespace Go.Proofs.YtdagdllomphidaaGreatDoor.vt.pg
open _root_.Go.Proofs.Tryz Go Go.RowKit Go.Sort ib mt im sp
theorem j9 {o:Nat→Prop}{w:World}{v pd:Nat}{m:Mt}{l:Bool}(h:jg o w v pd m l):Calls prog 35 #[pt v] w fun e w'=>e=.returned (.int .i64 (m.live.length:Int))∧Below w.heap.size w w':=by
 obtain⟨A0,A1,A2,c0,c1,c2,hA⟩:=h;obtain⟨dS,k0,_⟩:=hA.cells;clear hA;go_enter func35,ntmps35;go_wp2_with fail;go_ret;exact⟨rfl,Below.refl _ _⟩
theorem qbH(w:World):Calls prog 35 #[.pointer none] w fun e w'=>e=.returned (.int .i64 0)∧Below w.heap.size w w':=by
 go_enter func35,ntmps35;go_wp2_with fail;go_ret;exact⟨rfl,Below.refl _ _⟩
theorem lv {o:Nat→Prop}{w:World}{v pd:Nat}{m:Mt}{l:Bool}(h:jg o w v pd m l):Calls prog 22 #[pt v] w (ch.sG (m.qa.map (·.g)) w):=by
 obtain⟨A0,A1,A2,c0,c1,c2,hA⟩:=h;have HG:=QH (qhO (A0:=A0) (A2:=A2) (c0:=c0) (c1:=c1) (c2:=c2) hA.tab.mt.qa hA.sz.qa);obtain⟨dS,k0,k1,k2,k3,k4,k5,k6,k7,k8,k9,aR⟩:=hA.cells;unfold zi at HG;clear hA;go_enter func22,ntmps22;go_wp2_with fail;refine HG.out.mono ?_;rintro e W1 ⟨A,cc,rfl,h1,h2,h3⟩;have H1:=QH h1;have H2:=QH h2;have H3:=QH h3;clear h1 h2 h3 HG;go_wp2_with fail;go_ret;exact⟨A,cc,by rw[List.length_map];rfl,H1.out,H2.out,H3.out⟩
theorem qhU(w:World):Calls prog 22 #[.pointer none] w (ch.sG [] w):=by
 go_enter func22,ntmps22;go_wp2_with fail;go_ret;exact⟨none,0,rfl,fun i h=>absurd h (by simp),ib.ay.none _ _,Below.refl _ _⟩
section
variable {o1 o2:Nat→Prop} {w:World} {v pd N b:Nat} {d:DD} {m:Mt} {l:Bool} {t:Tg}
theorem qlH(h:VP jg w o1 o2 v pd d m false)(hJ:jr.JJ N t d)(hR:qM b N t m):Calls prog 16 #[pt v] w (ch.vk (qy t m.live,0) w):=by
 obtain⟨A0,A1,A2,c0,c1,c2,hA⟩:=h.is;have HA:=QH hA;have xJ:=QH (jm h hJ.on);have HLV:=QH (cS h hJ hA.tab.mt.live hA.sz.live (fun z hz=>hR.ok.live.2.1 z hz));obtain⟨dS,k0,k1,k2,k3,k4,k5,k6,k7,k8,k9,aR⟩:=hA.cells;clear h hJ hR hA;go_enter func16,ntmps16;go_wp2_with fail;refine xJ.out.mono ?_;rintro e W1 ⟨rfl,rfl⟩;go_wp2_with fail;refine HLV.out.mono ?_;rintro e W1 ⟨A,cc,rfl,h1,h2,h3⟩;have H1:=QH h1;have H2:=QH h2;have H3:=QH h3;clear h1 h2 h3 HLV xJ;go_wp2_with fail;go_ret2;exact⟨A,cc,rfl,H1.out,H2.out,H3.out⟩
theorem qbI(h:VP jg w o1 o2 v pd d m l)(hl:l=true∨d.on=false):Calls prog 16 #[pt v] w fun e w'=>e=.returned (.tuple #[.slice none 0 0,.int .i64 6])∧VP jg w' o1 o2 v pd d m true∧ib.qB (fun j=>j=v) w w':=by
 have xJ:=QH (dQ h hl);clear h hl;go_enter func16,ntmps16;go_wp2_with fail;refine xJ.out.mono ?_;rintro e W1 ⟨rfl,h1,h2⟩;have H1:=QH h1;have H2:=QH h2;clear h1 h2 xJ;go_wp2_with fail;go_ret2;exact⟨rfl,H1.out,H2.out⟩
end
theorem qhV(w:World):Calls prog 16 #[.pointer none] w (ch.vk ([],1) w):=by
 have xJ:=QH (xT w);go_enter func16,ntmps16;go_wp2_with fail;refine xJ.out.mono ?_;rintro e W1 ⟨rfl,rfl⟩;go_wp2_with fail;go_ret2;exact⟨none,0,rfl,fun i h=>absurd h (by simp),ib.ay.none _ _,Below.refl _ _⟩
theorem iA (t:Tg)(m:Mt)(g:Gd):(∃c,c≠0∧jN m g=(0,c)∧(zX t m).read g=([],c)∧kh m g=⟨c,m,[]⟩) ∨
    ∃i,∃h:i<m.qa.length,jN m g=((i:Int),0)∧(zX t m).read g=(qy t m.qa[i].qj,0)∧kh m g=⟨0,{ m with qa:=xA m.qa i },[]⟩:=by
 unfold jN kh ch.CH.read;rw[qbg];cases hf:bZ m g with
 | none=>exact .inl ⟨5,by decide,rfl,rfl,rfl⟩
 | some i =>
  have hi:i<m.qa.length:=(List.findIdx?_eq_some_iff_getElem.1 hf).1;have e:(zX t m).qa[i]?=some (cd t m.qa[i]):=by simp[zX,hi]
  dsimp only;rw[e,List.getElem?_eq_getElem hi];dsimp only;have eh:(cd t m.qa[i]).hid=m.qa[i].hid:=rfl;rw[eh];cases hh:m.qa[i].hid with
  | true=>exact .inl ⟨14,by decide,by simp,by simp,by simp⟩
  | false=>exact .inr ⟨i,hi,by simp,by simp[cd],by simp⟩
theorem qhW{o1 o2:Nat→Prop}{w:World}{v pd N b:Nat}{d:DD}{m:Mt}{t:Tg}(g:Gd)(h:VP jg w o1 o2 v pd d m false)(hJ:jr.JJ N t d)(hR:qM b N t m):Calls prog 32 #[pt v,gv g] w (ch.vk ((zX t m).read g) w):=by
 obtain⟨g1,g2⟩:=g;have hb2:=(Below.refl _ w).alloc (Nat.le_refl _) (.cells #[.int .u64 (g1:Int),.int .u64 (g2:Int)] 55);have hr2:=qg.new w 55 #[.int .u64 (g1:Int),.int .u64 (g2:Int)];obtain⟨W,hW2⟩:=QE (w.alloc (.cells #[.int .u64 (g1:Int),.int .u64 (g2:Int)] 55));rw[hW2]at hb2 hr2;have h2:=qN h hb2;obtain⟨A0,A1,A2,c0,c1,c2,hA⟩:=h2.is;have HA:=QH hA;have HV:=QH h2;have HJ:=QH hJ;have HR:=QH hR;have qG:=QH hb2;have xJ:=QH (jm h2 hJ.on);have eM:=QH hA.sz;obtain⟨dS,k0,k1,k2,k3,k4,k5,k6,k7,k8,k9,aR⟩:=hA.cells;have r0:=hr2.cell 0;have r1:=hr2.cell 1;have rlt:=hr2.lt;simp only[Nat.zero_add,QA,QB,QC]at r0 r1;have e0:=fun d os=>cell_regrown k0 d os;have e1:=fun d os=>cell_regrown k1 d os;have e2:=fun d os=>cell_regrown k2 d os;have e3:=fun d os=>cell_regrown k3 d os;have e4:=fun d os=>cell_regrown k4 d os;have e5:=fun d os=>cell_regrown k5 d os;have e6:=fun d os=>cell_regrown k6 d os;have e7:=fun d os=>cell_regrown k7 d os;have e8:=fun d os=>cell_regrown k8 d os;have p0:=fun d os=>cell_regrown r0 d os;have p1:=fun d os=>cell_regrown r1 d os;have cF:∀b os,Calls prog 77 #[.agg (zi A0 A1 A2 c0 c1 c2 m),gv (g1,g2)] (grow (redrawn W b) os) fun e w''=>e=.returned (.tuple #[.int .i64 (jN m (g1,g2)).1,.int .i64 (jN m (g1,g2)).2])∧∃q:Regrown,w''=grow (redrawn W q.d) q.os :=
  fun b os=>Calls.regrown_of (vz (HA.out.below (below_regrown W b os)).tab.mt.qa eM.out.qa (g1,g2))
 have tF:=QH (iA t m (g1,g2));have hE0:∀(c:Int),jN m (g1,g2)=(0,c)→jN m (g1,g2)=(0,c):=fun _ h=>h;obtain⟨R,hR'⟩:=QE ((zX t m).read (g1,g2));obtain⟨F,hF⟩:=QE (jN m (g1,g2));rw[hF,hR']at tF;rw[hF]at cF;rw[hR'];obtain⟨F1,F2⟩:=F;clear h h2 hJ hR hA hb2 hr2 hR' hF hE0;unfold gv at cF;unfold zi at cF;dsimp only at cF;show Calls _ _ #[pt v,.agg #[.int .u64 (g1:Int),.int .u64 (g2:Int)]] _ _;go_enter func32,ntmps32;go_upto_region 1 with fail;try rw[hW2]
 clear hW2;go_wp2_with fail;refine xJ.out.mono ?_;rintro e W1 ⟨rfl,rfl⟩;clear xJ;go_upto_region 4 with fail;refine wp_region_quiet_below dp (by kernel_rfl) ?_;repeat (any_goals (first|go_big_quiet_step (first|exact cF _ _)|quiet_step (first|exact cF _ _)))
 refine wpQuiet_nil ?_;intro _ hw';obtain⟨⟨dq,osq⟩,hw''⟩:=hw';subst hw'';have hb:=below_regrown W dq osq;have zf:=QH (q9 qG.out hb);have HV3:=QH (qN HV.out hb);have fT:=QH (HA.out.below hb);clear hb e0 e1 e2 e3 e4 e5 e6 e7 e8 p0 p1 cF HA HV qG dS k0 k1 k2 k3 k4 k5 k6 k7 k8 k9 aR r0 r1 rlt;generalize grow (redrawn W dq) osq=W3 at *;rcases tF.out with⟨c,hc,hf,ck,_⟩|⟨i,hi,hf,ck,_⟩
 ·obtain⟨rfl,rfl⟩:=Prod.mk.inj hf;have hcb:(F2 != 0)=true:=by simpa using hc
  have xJ:=QH ck;clear hc ck hf tF;go_wp2_with fail;go_ret2;rw[xJ.out];exact⟨none,0,rfl,fun i h=>absurd h (by simp),ib.ay.none _ _,zf.out⟩
 ·obtain⟨rfl,rfl⟩:=Prod.mk.inj hf;have xJ:=QH ck;obtain⟨b',o',B,cc,rfl,s1,s2,s3,s4,s5,s6,s7⟩:=fT.out.tab.mt.qa i hi;have eo:=QH (cS HV3.out HJ.out s6 (eM.out.uf _ (List.getElem_mem hi)) (fun z hz=>(HR.out.ok.uf _ (List.getElem_mem hi)).2.1 z hz));obtain⟨dS,k0,k1,k2,k3,k4,k5,k6,k7,k8,k9,aR⟩:=fT.out.cells;have hii:(i:Int)<(m.qa.length:Int):=by omega
  have hin:¬ (i:Int)<0:=by omega
  generalize m.qa[i].qj=im at *;clear ck hf tF s2 s3 s5 s6 s7 hi;go_wp2_with fail;refine eo.out.mono ?_;rintro e W4 ⟨A,cc',rfl,h1,h2,h3⟩;have H1:=QH h1;have H2:=QH h2;have H3:=QH h3;clear h1 h2 h3 eo;go_wp2_with fail;go_ret2;rw[xJ.out];exact⟨A,cc',rfl,H1.out,fun b o e=>⟨Nat.le_trans zf.out.size (H2.out b o e).1,(H2.out b o e).2⟩,q9 zf.out H3.out⟩
theorem qhX(g:Gd)(w:World):Calls prog 32 #[.pointer none,gv g] w (ch.vk ([],1) w):=by
 have HB:=QH ((Below.refl w.heap.size w).alloc (Nat.le_refl _) (.cells #[.int .u64 (g.1:Int),.int .u64 (g.2:Int)] 55));have xJ:Hid (∀W,Calls prog 52 #[.pointer none] W fun e w'=>e=.returned (.int .i64 1)∧W=w'):=fun W=>xT W;unfold gv;go_enter func32,ntmps32;go_wp2_with fail;refine(xJ.out _).mono ?_;rintro e W1 ⟨rfl,rfl⟩;go_wp2_with fail;go_ret2;exact⟨none,0,rfl,fun i h=>absurd h (by simp),ib.ay.none _ _,HB.out⟩
end Go.Proofs.YtdagdllomphidaaGreatDoor.vt.pg
namespace Go.Proofs.YtdagdllomphidaaGreatDoor.vt.pg
open _root_.Go.Proofs.Tryz Go Go.RowKit Go.Sort ib mt im sp
def dr (w:World)(g:Nat)(A:Option Addr)(l:List Int):Prop:=∀i (h:i<l.length),∃b o,A=some ⟨b,o,none⟩∧b≠g∧b<w.heap.size∧w.cell? ⟨b,o+i,none⟩=some (.int .i64 l[i])
theorem dr.set{w:World}{g k:Nat}{u:Value}{A:Option Addr}{l:List Int}(h:dr w g A l):dr (w.setCell ⟨g,k,none⟩ u) g A l:=by
 intro i hi;obtain⟨b,o,h1,h2,h3,h4⟩:=h i hi;exact⟨b,o,h1,h2,by simpa[World.setCell]using h3,(World.cell?_of_block (a:=⟨b,o+i,none⟩) (qE _ _ _ _ _ h2)).trans h4⟩
theorem dr.below{w w':World}{g:Nat}{A:Option Addr}{l:List Int}(h:dr w g A l)(hb:Below w.heap.size w w'):dr w' g A l:=by
 intro i hi;obtain⟨b,o,h1,h2,h3,h4⟩:=h i hi;exact⟨b,o,h1,h2,Nat.lt_of_lt_of_le h3 hb.size,(hb.cell (p:=⟨b,o+i,none⟩) h3).trans h4⟩
theorem dr.tail{w:World}{g b o:Nat}{f:Int}{l:List Int}(h:dr w g (some ⟨b,o,none⟩) (f::l)):dr w g (some ⟨b,o+1,none⟩) l:=by
 intro i hi;obtain⟨b',o',h1,h2,h3,h4⟩:=h (i+1) (by simpa using hi);simp only[Option.some.injEq,Addr.mk.injEq,and_true]at h1;obtain⟨rfl,rfl⟩:=h1;refine⟨b,o+1,rfl,h2,h3,?_⟩;rw[show o+1+i=o+(i+1)by omega];exact h4
structure Pk(x:List (Int × Bt))(fr:List Int)(k:Nat)(pre fr':List Int):Prop where
 le:k≤x.length
 len:pre.length=k
 all:(qd fr x).1=pre++(qd fr' (x.drop k)).1
 room:full (x.drop k)≤fr'.length
theorem Pk.start(x:List (Int × Bt))(fr:List Int)(h:full x≤fr.length):Pk x fr 0 [] fr:=⟨Nat.zero_le _,rfl,rfl,h⟩
theorem nB (c:Int × Bt)(r:List (Int × Bt)):full (c::r)=full r+if c.2=zb then 0 else 1:=by obtain⟨a,b⟩:=c;exact vg a b r
theorem qek(fr:List Int)(y:Int × Bt)(r:List (Int × Bt))(h:y.2=zb):qd fr (y::r)=(0::(qd fr r).1,(qd fr r).2):=by
 obtain⟨a,b⟩:=y;dsimp only at h;cases fr <;> simp[qd,h]
theorem qel(f:Int)(fr:List Int)(y:Int × Bt)(r:List (Int × Bt))(h:¬ y.2=zb):qd (f::fr) (y::r)=(f::(qd fr r).1,(f,y.2)::(qd fr r).2):=by
 obtain⟨a,b⟩:=y;dsimp only at h;simp[qd,h]
theorem Pk.zero{x:List (Int × Bt)}{fr pre fr':List Int}{k:Nat}(h:Pk x fr k pre fr')(hk:k<x.length)(hz:x[k].2=zb):Pk x fr (k+1) (pre++[0]) fr':=by
 obtain⟨h1,h2,h3,h4⟩:=h;rw[List.drop_eq_getElem_cons hk]at h3 h4;rw[qek _ _ _ hz]at h3;rw[nB,if_pos hz]at h4;exact⟨by omega,by simp[h2],by rw[h3];simp,by omega⟩
theorem Pk.more{x:List (Int × Bt)}{fr pre fr':List Int}{k:Nat}(h:Pk x fr k pre fr')(hk:k<x.length)(hz:¬ x[k].2=zb):∃f r,fr'=f::r∧Pk x fr (k+1) (pre++[f]) r:=by
 obtain⟨h1,h2,h3,h4⟩:=h;rw[List.drop_eq_getElem_cons hk]at h3 h4;rw[nB,if_neg hz]at h4;cases fr' with
 | nil=>simp at h4
 | cons f r =>
  rw[qel _ _ _ _ hz]at h3;exact⟨f,r,rfl,by omega,by simp[h2],by rw[h3];simp,by simp at h4;omega⟩
theorem Pk.stop{x:List (Int × Bt)}{fr pre fr':List Int}(h:Pk x fr x.length pre fr'):(qd fr x).1=pre:=by
 obtain⟨h1,h2,h3,h4⟩:=h;rw[List.drop_length]at h3;simpa[qd]using h3
def Pw (x:List (Int × Bt))(pre:List Int):List Pl:=PL x (pre++List.replicate (x.length-pre.length) 0)
theorem quS(x:List (Int × Bt)):Pw x []=P0 x:=by
 unfold Pw PL P0;apply List.ext_getElem
 ·simp
 ·intro i h1 h2;simp
theorem nC {x:List (Int × Bt)}{pre:List Int}(h:pre.length≤x.length):(Pw x pre).length=x.length:=by
 unfold Pw PL;rw[List.length_zipWith,List.length_append,List.length_replicate];omega
theorem qlI{x:List (Int × Bt)}{pre:List Int}{k:Nat}(hp:pre.length=k)(hk:k<x.length)(h:k<(Pw x pre).length):(Pw x pre)[k]=(x[k].1,0,x[k].2):=by
 simp only[Pw,PL,List.getElem_zipWith];rw[List.getElem_append_right (by omega),List.getElem_replicate]
theorem qlJ{x:List (Int × Bt)}{pre:List Int}{k:Nat}(hp:pre.length=k)(hk:k<x.length)(a:Int):(Pw x pre).set k (x[k].1,a,x[k].2)=Pw x (pre++[a]):=by
 apply List.ext_getElem
 ·rw[List.length_set,nC (by omega),nC (by simp;omega)]
 ·intro i h1 h2;rw[List.getElem_set];have hix:i<x.length:=by rw[nC (by simp;omega)]at h2;exact h2
  by_cases e:k=i
  ·subst e;rw[if_pos rfl];simp only[Pw,PL,List.getElem_zipWith];rw[List.getElem_append_left (by simp;omega),List.getElem_append_right (by omega)];simp[hp]
  ·rw[if_neg e];simp only[Pw,PL,List.getElem_zipWith]
   congr 2
   by_cases h3:i<pre.length
   ·rw[List.getElem_append_left h3,List.getElem_append_left (by simp;omega),List.getElem_append_left h3]
   ·rw[List.getElem_append_right (by omega),List.getElem_append_right (by simp;omega)];simp
theorem qoP{x:List (Int × Bt)}{pre:List Int}{k:Nat}(hp:pre.length=k)(hk:k<x.length):Pw x (pre++[0])=Pw x pre:=by
 rw[← qlJ hp hk 0];have h:=nC (x:=x) (pre:=pre) (by omega);rw[← qlI hp hk (by omega),List.set_getElem_self]
theorem quT{x:List (Int × Bt)}{pre:List Int}(h:pre.length=x.length):Pw x pre=PL x pre:=by
 unfold Pw;rw[h,Nat.sub_self,List.replicate_zero,List.append_nil]
def Pl2 (x:List (Int × Bt))(fr:List Int)(B:Nat)(bv:Value)(g:Nat)(w:World)(s i:Value)(wr:World):Prop :=
 ∃(k:Nat) (pre fr':List Int) (A:Option Addr) (c:Nat),i=.int .i64 (k:Int)∧s=.slice A fr'.length c∧fr'.length≤c∧Pk x fr k pre fr'∧dr wr g A fr'∧tx wr B bv (Pw x pre)∧Below w.heap.size w wr
theorem rf {cs:List Int}{n:Nat}(h:(yP cs (n:Int)).2=0):n≤(yP cs (n:Int)).1.length:=by
 unfold yP at h ⊢;rw[if_neg (by omega)]at h ⊢;by_cases hf:(xY cs:Int)<(n:Int)
 ·rw[if_pos hf]at h;simp at h
 ·rw[if_neg hf];rw[Int.toNat_natCast];show n≤((qR cs cs.length).take n).length;unfold xY at hf;rw[List.length_take];omega
theorem nD {o1 o2:Nat→Prop}{w:World}{v pd N:Nat}{d:DD}{m:Mt}{l:Bool}{b:Nat}(h:VP jg w o1 o2 v pd d m l)(hn:d.n=N)(jq:yD b N m)(hN:N≤1024){A:Option Addr}{c:Nat}{x:List (Int × Bt)}(hx:ch.dU w A x)(wN:x.length≤8)(h32:∀y∈x,y.2.length=32) :
    Calls prog 55 #[pt v,.slice A x.length c] w (qfy (qw N m x) x w):=by
 obtain⟨i0,hi,hz0,hz1,hz2⟩:=info_parts quA;have HV:=QH h;have HX:=QH hx;have H32:=QH h32;obtain⟨cs,hcs,hcl,_,_⟩:=aM jq hN;have hfull:=sD x;have HCS:=QH hcs;have HNN:=QH hn;clear h hx h32 hcs jq hn;go_enter func55,ntmps55;go_wp2_with fail;go_loopw [6,7,16] (fun v f i wr=>PlR x w v f i wr) (fun _ _ i _=>x.length-(intOf i).toNat);case atStart=>exact⟨0,Nat.zero_le _,rfl,rfl,World.ownsRow_nil _ _ _ _,Below.refl _ _⟩
 case round =>
  obtain⟨k,hk,rfl,rfl,ho,hB⟩:=hrel;have HO:=QH ho;have HB:=QH hB;clear ho hB;by_cases hlt:k<x.length
  ·have jY:(k:Int)<(x.length:Int):=by omega
   have hk0:¬ (k:Int)<0:=by omega
   obtain⟨b',o,rfl,s1,s2,s3,_⟩:=(HX.out.below HB.out) k hlt;have eH:Hid (P0 (x.take (k+1))=P0 (x.take k)++[(x[k].1,0,x[k].2)]):=by unfold Hid P0;rw[List.take_succ_eq_append_getElem hlt,List.map_append];rfl
   have HLK:Hid ((P0 (x.take k)).length=k):=by unfold Hid P0;rw[List.length_map,List.length_take];omega
   have HFT:=QH (qhI hlt);have hft:full (x.take k)≤k:=by have:=sD (x.take k);rw[List.length_take]at this;omega
   have HZ:Hid (∀W,Calls prog 101 #[.string (str x[k].2)] W (wU (decide (x[k].2=zb)) W)):=fun W=>iv _ (H32.out _ (List.getElem_mem hlt)) W;obtain⟨y,hy⟩:=QE (x[k]);rw[hy]at eH HFT HZ s2 s3;clear hy;obtain⟨kb,s⟩:=y;dsimp only at eH HFT HZ s2 s3;obtain⟨fl,wC⟩:=QE (full (x.take k));rw[wC]at HFT hft ⊢;obtain⟨S,hS⟩:=QE (str s);have HSS:=QH hS;rw[hS]at s3 HZ;clear wC hS;have jT:=(Below.refl _ wr).alloc (Nat.le_refl _) (.cells #[.int .i64 kb,.string S] 62);obtain⟨W3,hW3⟩:=QE (wr.alloc (.cells #[.int .i64 kb,.string S] 62));have jV:=qg.new wr 62 #[.int .i64 kb,.string S];rw[hW3]at jT jV;have js:=QH jV;have r0:=jV.cell 0;have r1:=jV.cell 1;have hrl:=jV.lt;simp only[QA,QB,QC]at r0 r1;have hby:=(Below.refl _ W3).alloc (Nat.le_refl _) (.cells #[.int .i64 kb,.int .i64 0,.string S] 171);have hbz:=q9 jT hby;have sK:=QH (HO.out.below hbz);have zU:=QH (q9 HB.out hbz);have fu:Hid (∀j u,([.int .i64 kb,.int .i64 0,.string S]:List Value)[j]?=some u→(W3.alloc (.cells #[.int .i64 kb,.int .i64 0,.string S] 171)).cell? ((⟨W3.heap.size,0,none⟩:Addr).add j)=some u):=fun j u hu=>by
    rw[addr_add,Nat.zero_add,(qg.new W3 171 #[.int .i64 kb,.int .i64 0,.string S]).cell j];simpa using hu
   have e1:∀u∈([.int .i64 kb,.int .i64 0,.string S]:List Value),u.oneCell'=true:=by intro u hu;simp at hu;rcases hu with rfl|rfl|rfl <;> rfl
   have E1:=QH e1;have E2:Hid ((P0 (x.take k)).length+1≤maxLen):=by unfold Hid;rw[HLK.out];unfold maxLen;omega
   have E3:Hid (((P0 (x.take k)).length+1)*32≤140737488355328):=by unfold Hid;rw[HLK.out];omega
   have zf:Hid (Below W3.heap.size W3 (W3.alloc (.cells #[.int .i64 kb,.int .i64 0,.string S] 171))):=hby;have HWW:Hid (w.heap.size≤wr.heap.size):=HB.out.size;have rS:Hid (∀j,(∃v':Value,v'.ownBlock=some j∧tx wr w.heap.size v' (P0 (x.take k)))→j≠wr.heap.size):=fun j ⟨v',h1,h2⟩ e=>by have:=(h2.lt j h1).2;omega
   clear e1 jT jV hby hbz;go_wp2_with (at_builtin;refine xh rfl (.tmp 20) (.tmp 26) 110 rfl w.heap.size 171 i0 (.agg #[.int .i64 0,.int .i64 0,.string ByteArray.empty]) 3 32 underlying110 hi hz0 hz1 hz2 rfl (by decide) _ _ _ rfl sK.out ⟨W3.heap.size,0,none⟩ 1 1 [.int .i64 kb,.int .i64 0,.string S] rfl rfl fu.out E1.out E2.out E3.out zU.out.size ?_);intro v' w1 hown hgrow _;have jt:Hid (Below w.heap.size w w1):=zU.out.grown hgrow zU.out.size (fun j hj=>(sK.out.lt j hj).1);have HO5:Hid (tx w1 w.heap.size v' (P0 (x.take (k+1)))):=by
    unfold Hid tx;rw[eH.out,ai,List.length_append,HLK.out];show w1.ownsRow _ _ _ v' (k+1) (yJ (P0 (x.take k))++[.int .i64 kb,.int .i64 0,.string (str s)]);rw[HSS.out];have h9:=hown;rw[HLK.out]at h9;exact h9
   have hk5:qg w1 wr.heap.size 62 #[.int .i64 kb,.string S]:=(js.out.below zf.out).of_block (hgrow.block _ (js.out.below zf.out).lt (fun e=>by
    have:=(HO.out.lt wr.heap.size e.symm).2;omega))
   have r1:=hk5.cell 1;have hrl:=hk5.lt;simp only[QA,QB,QC]at r1;clear hown hgrow hk5;go_wp2_with fail;refine(HZ.out _).mono ?_;rintro e W6 ⟨rfl,jQ⟩;have HO6:=QH (HO5.out.below jQ);have vL:=QH (q9 jt.out jQ);have hfw:IntKind.i64.wrap ((fl:Int)+1)=((fl+1:Nat):Int):=by rw[IntWalk.i64_in _ (by omega)];omega
   clear jQ r1 hrl HZ;by_cases hz:s=zb
   ·rw[decide_eq_true hz];have HF:Hid (full (x.take (k+1))=fl):=by unfold Hid;rw[HFT.out,if_pos hz,Nat.add_zero]
    clear hz HFT;go_wp2_with fail;go_roundw;case rel=>exact⟨k+1,by omega,by go_num,by rw[HF.out],HO6.out,vL.out⟩
    case measure=>simp[intOf];omega
   ·rw[decide_eq_false hz];have HF:Hid (full (x.take (k+1))=fl+1):=by unfold Hid;rw[HFT.out,if_neg hz]
    clear hz HFT;go_wp2_with fail;go_roundw;case rel=>exact⟨k+1,by omega,by go_num,by rw[HF.out];rfl,HO6.out,vL.out⟩
    case measure=>simp[intOf];omega
  ·obtain rfl:k=x.length:=by omega
   have jY:¬ (x.length:Int)<(x.length:Int):=by omega
   have ho:=HO.out;rw[List.take_length]at ho ⊢;obtain⟨VA,vc,hva,_⟩:=ho.view;have sT:=QH ho;have hlp:(P0 x).length=x.length:=by unfold P0;rw[List.length_map]
   rw[hlp]at hva;have HVA:=QH hva;obtain⟨bv,oy⟩:∃z,z=z:=⟨(0:Nat),rfl⟩;clear ho hva oy bv;go_upto_region 10 with fail;have hv1:=qN HV.out HB.out;obtain⟨A0,A1,A2,c0,c1,c2,hA⟩:=hv1.is;have HAT:=QH hA;have qlK:=hA.cells;have HVP:=QH hv1;have hvl:=qlK.lt;clear hv1 hA;obtain⟨n1,hn1⟩:=QE ((xe m).length);obtain⟨n2,hn2⟩:=QE cs.length;have HN1:=QH hn1;have HN2:=QH hn2;have h16:n1≤1002:=by rw[← hn1];unfold xe;have:=HAT.out.sz.qa;simp;omega
   refine zT (by kernel_rfl) 16 [36,37,38,39,40,41,42,43,44,45,46,35,47,48,10,11] (by kernel_rfl) (PcG v pd N (.agg (zi A0 A1 A2 c0 c1 c2 m)) n1 n2 (xe m) cs) (qlx _ _ _ _ _ _ _ _) ?_ ?_
   ·intro i o vs ρ W qzz hop hρ hfn hb hG;have t0:ρ (.tmp 0)=pt v:=hρ.out 0 rfl;have hc:=hρ.const;have s36:=hρ.at_ 36 0 rfl;have s37:=hρ.at_ 37 1 rfl;have s38:=hρ.at_ 38 2 rfl;have s39:=hρ.at_ 39 3 rfl;have s40:=hρ.at_ 40 4 rfl;have s41:=hρ.at_ 41 5 rfl;have s42:=hρ.at_ 42 6 rfl;have s43:=hρ.at_ 43 7 rfl;have s44:=hρ.at_ 44 8 rfl;have s45:=hρ.at_ 45 9 rfl;have s46:=hρ.at_ 46 10 rfl;have s35:=hρ.at_ 35 11 rfl;have s47:=hρ.at_ 47 12 rfl;have s48:=hρ.at_ 48 13 rfl;have hat:=HAT.out.below hb;have HVW:=QH (qN HVP.out hb);obtain⟨dS,k0,k1,k2,k3,k4,k5,k6,k7,k8,k9,aR⟩:=hat.cells;rcases i with _|_|_|_|_|_|_|_|_|_|_|_|_|_|_|_|i;all_goals (first|omega|skip)
    all_goals simp only[QA,QB,QC,Option.some.injEq]at hop
    all_goals subst hop
    ·exact qc (w':=W) (by unfold execOp;simp only[t0];go_simp) ⟨Below.refl _ _,rfl⟩
    ·have g0:vs 0=_:=hG 0 (by kernel_rfl);exact qc (w':=W) (by unfold execOp;simp only[s36,g0];go_simp) ⟨Below.refl _ _,rfl⟩
    ·have g1:vs 1=_:=hG 1 (by kernel_rfl);exact qc (w':=W) (by unfold execOp;simp only[s37,g1];go_simp) ⟨Below.refl _ _,rfl⟩
    ·have g2:vs 2=_:=hG 2 (by kernel_rfl);exact qc (w':=W) (by unfold zi execOp;simp only[s38,g2];go_simp) ⟨Below.refl _ _,rfl⟩
    ·have g3:vs 3=_:=hG 3 (by kernel_rfl);refine qu (f:=103) (args:=#[.agg (zi A0 A1 A2 c0 c1 c2 m)]) (w':=W) (by unfold execOp;simp only[hc,hfn,s39,g3];go_simp) ((qd9 hat.tab.mt hat.sz).mono ?_);rintro e W' ⟨A,c',rfl,h1,h2⟩;exact⟨_,rfl,h2,A,c',by rw[HN1.out],h1⟩
    ·exact qc (w':=W) (by unfold execOp;simp only[t0];go_simp) ⟨Below.refl _ _,rfl⟩
    ·have g5:vs 5=_:=hG 5 (by kernel_rfl);exact qc (w':=W) (by unfold execOp;simp only[s41,g5];go_simp) ⟨Below.refl _ _,rfl⟩
    ·have g6:vs 6=_:=hG 6 (by kernel_rfl);exact qc (w':=W) (by unfold execOp;simp only[s42,g6];go_simp) ⟨Below.refl _ _,rfl⟩
    ·have g7:vs 7=_:=hG 7 (by kernel_rfl);exact qc (w':=W) (by unfold execOp;simp only[s43,g7];go_simp) ⟨Below.refl _ _,rfl⟩
    ·have g8:vs 8=_:=hG 8 (by kernel_rfl);refine qu (f:=45) (args:=#[pt pd]) (w':=W) (by unfold execOp;simp only[hc,hfn,s44,g8];go_simp) ((cN HVW.out.dk).mono ?_);rintro e W' ⟨rfl,rfl⟩;exact⟨_,rfl,Below.refl _ _,by rw[HNN.out];rfl⟩
    ·obtain⟨A,c',g4,h1⟩:=hG 4 (by kernel_rfl);have g9:vs 9=_:=hG 9 (by kernel_rfl);have hcc:=qoC A c' (xe m) (N:Int) W h1 (by have:=HN1.out;omega) (by unfold ib.qD;omega);rw[HN1.out]at hcc;refine qu (f:=102) (args:=#[.slice A n1 c',.int .i64 (N:Int)]) (w':=W) (by unfold execOp;simp only[hc,hfn,s40,g4,s45,g9];go_simp) (hcc.mono ?_);rintro e W' ⟨A',c'',rfl,h2,h3,_⟩;rw[HCS.out]at h2;refine⟨_,rfl,h3,A',c'',?_,h2⟩;rw[HCS.out,HN2.out]
    ·obtain⟨A,c',g10,h1⟩:=hG 10 (by kernel_rfl);exact qc (w':=W) (by unfold execOp;simp only[s46,g10];go_simp) ⟨Below.refl _ _,A,c',rfl,h1⟩
    ·obtain⟨A,c',g11,h1⟩:=hG 11 (by kernel_rfl);exact qc (w':=W) (by unfold execOp;simp only[s35,g11];go_simp) ⟨Below.refl _ _,A,c',rfl,h1⟩
    ·obtain⟨A,c',g11,h1⟩:=hG 11 (by kernel_rfl);exact qc (w':=W) (by unfold execOp;simp only[s35,g11];go_simp) ⟨Below.refl _ _,rfl⟩
    ·obtain⟨A,c',g12,h1⟩:=hG 12 (by kernel_rfl);exact qc (w':=W) (by unfold execOp;simp only[s47,g12];go_simp) ⟨Below.refl _ _,A,c',rfl,h1⟩
    ·have g13:vs 13=_:=hG 13 (by kernel_rfl);exact qc (w':=W) (by unfold execOp;simp only[s48,g13];go_simp) ⟨Below.refl _ _,rfl⟩
   ·intro vs W hb hG;obtain⟨A,c',g14,h1⟩:=hG 14 (by decide);have g15:vs 15=_:=hG 15 (by decide);simp only[zJ,qP,if_true];rw[g14,g15];generalize vs 0=z0;generalize vs 1=z1;generalize vs 2=z2;generalize vs 3=z3;generalize vs 4=z4;generalize vs 5=z5;generalize vs 6=z6;generalize vs 7=z7;generalize vs 8=z8;generalize vs 9=z9;generalize vs 10=z10;generalize vs 11=z11;generalize vs 12=z12;generalize vs 13=z13;have jZ:=QH (q9 HB.out hb);have HIW:=QH h1;have HOW:=QH (sT.out.below hb);clear hG g14 g15 hb h1 sT HVP HAT qlK hvl;simp only[Act.put,List.setIfInBounds_toArray,List.set_cons_succ,List.set_cons_zero];refine⟨by kernel_rfl,?_⟩;have iG:=qyE A c' cs ((full x:Nat):Int) W HIW.out (by omega) (by unfold ib.qD;omega);rw[HN2.out]at iG;have eH:=QH iG;have HV1:Hid ((yP cs ((full x:Nat):Int)).2≠0→qw N m x=(([],[]),(yP cs ((full x:Nat):Int)).2)):=fun hne=>by unfold qw;rw[HCS.out];exact if_neg hne
    have iD:Hid ((yP cs ((full x:Nat):Int)).2=0→qw N m x=(qd (yP cs ((full x:Nat):Int)).1 x,0)):=fun he=>by unfold qw;rw[HCS.out];exact if_pos he
    have HTL:=QH (fun h=>rf (cs:=cs) (n:=full x) h);obtain⟨R1,hR1⟩:=QE ((yP cs ((full x:Nat):Int)).1);obtain⟨R2,hR2⟩:=QE ((yP cs ((full x:Nat):Int)).2);have ug:yP cs ((full x:Nat):Int)=(R1,R2):=by rw[← hR1,← hR2]
    rw[ug]at eH;rw[hR1,hR2]at iD HTL;rw[hR2]at HV1;obtain⟨V,hV⟩:=QE (qw N m x);rw[hV]at iD HV1;have HVE:=QH hV;obtain⟨bv,oy⟩:=QE (Value.slice VA x.length vc);have HBV:=QH oy;have HVV:=QH HVA.out;rw[HVV.out,oy]at HOW ⊢;clear iG hR1 hR2 ug hV oy HCS HVA HVV HIW;go_wp2_with fail;refine eH.out.mono ?_;rintro e W2 ⟨A',cc,rfl,oQ,hb2,hnew,qoQ⟩;have qG:=QH (q9 jZ.out hb2);have uF:=QH (HOW.out.below hb2);clear eH;by_cases h0:R2=0
    case' neg =>
     have hne:(R2 != 0)=true:=by simpa using h0
     have HV:=QH (HV1.out h0);have rS:=QH h0;clear h0 HV1 iD HTL oQ hb2 hnew qoQ;go_wp2_with fail;go_ret2;rw[HVE.out,HV.out];exact⟨qG.out,.inl ⟨rS.out,rfl⟩⟩
    subst h0;have HV:=QH (iD.out rfl);have hroom:=HTL.out rfl;clear iD HV1 HTL;have qoR:=HBV.out;by_cases hx0:x.length=0
    ·have hPL:PL x (qd R1 x).1=[]:=by rw[List.length_eq_zero_iff.1 hx0];rfl
     have hP0:P0 x=[]:=by rw[List.length_eq_zero_iff.1 hx0];rfl
     have tr:=QH hPL;have ho2:=uF.out;rw[hP0]at ho2;have HOE:=QH ho2;have q43:((x.length:Nat):Int)=0:=by omega
     obtain⟨xl,q44⟩:=QE ((x.length:Nat):Int);rw[q44]at q43;have hbe:=HBV.out;rw[hx0]at hbe;subst hbe;clear hPL hP0 ho2 HBV oQ hb2 hnew qoQ uF HOW jZ hroom qoR;go_wp2_with fail;go_loopw [63] (fun i wr=>i=.int .i64 0∧wr=W2) (fun _ _=>0);case atStart=>exact⟨rfl,rfl⟩
     case round =>
      obtain⟨rfl,rfl⟩:=hrel;go_wp2_with fail;go_ret2;refine⟨qG.out,.inr ⟨by rw[HVE.out,HV.out],_,rfl,?_⟩⟩;rw[HVE.out,HV.out];show tx _ w.heap.size _ (PL x (qd R1 x).1);rw[tr.out];exact HOE.out
    ·obtain⟨g,hg⟩:∃g,bv=.slice (some ⟨g,0,none⟩) x.length vc:=by
        rcases uF.out.2 with⟨e,h0⟩|⟨g',cap,cur,e,_⟩
        ·have:(P0 x).length=x.length:=by unfold P0;rw[List.length_map]
         omega
        ·rw[← qoR]at e;simp only[Value.slice.injEq]at e;exact⟨g',by rw[← qoR,e.1]⟩
     have hgW:g<W.heap.size:=(HOW.out.lt g (by rw[hg];rfl)).2;have HS0:Hid (dr W2 g A' R1):=fun i hi=>by
      obtain⟨b',o',h1,h2,h3,_⟩:=oQ i hi;have:=(hnew b' o' h1).1;exact⟨b',o',h1,by omega,h2,h3⟩
     have HO3:Hid (tx W2 w.heap.size bv (Pw x [])):=by unfold Hid;rw[quS];exact uF.out
     have HK0:=QH (Pk.start x R1 hroom);have HLC:=QH qoQ;subst hg;clear qoR HBV oQ hb2 hnew qoQ uF HOW jZ hroom;go_wp2_with fail;go_loopw [12,13,63] (fun s _ i wr=>Pl2 x R1 w.heap.size (.slice (some ⟨g,0,none⟩) x.length vc) g w s i wr) (fun _ _ i _=>x.length-(intOf i).toNat);case atStart=>exact⟨0,[],R1,A',cc,rfl,rfl,HLC.out,HK0.out,HS0.out,HO3.out,qG.out⟩
     case round =>
      obtain⟨k,pre,fr',A3,c3,rfl,rfl,quU,hpk,qkF,hop,hB⟩:=hrel;have HPK:=QH hpk;have qz0:=QH qkF;have HOP:=QH hop;have HB:=QH hB;have iW:=hpk.le;have hpl:=hpk.len;clear hpk qkF hop hB;by_cases hlt:k<x.length
      ·have jY:(k:Int)<(x.length:Int):=by omega
       have hk0:¬ (k:Int)<0:=by omega
       have hkw:k<(Pw x pre).length:=by rw[nC (by omega)];exact hlt
       obtain⟨a3,c4,e3,qbJ⟩:=HOP.out.view;simp only[Value.slice.injEq]at e3;obtain⟨rfl,q45,rfl⟩:=e3;clear q45;obtain⟨b',o',e4,s1,s2,s3,s4⟩:=qbJ k hkw;simp only[Option.some.injEq,Addr.mk.injEq,and_true]at e4;obtain⟨rfl,rfl⟩:=e4;rw[qlI hpl hlt hkw]at s4;have q46:=H32.out _ (List.getElem_mem hlt);have HZ:Hid (∀W,Calls prog 101 #[.string (str x[k].2)] W (wU (decide (x[k].2=zb)) W)):=fun W=>iv _ q46 W;have qlL:=QH (fun hz=>HPK.out.zero hlt hz);have qlM:=QH (fun hz=>HPK.out.more hlt hz);have HPZ:=QH (qoP (x:=x) hpl hlt);dsimp only at s4;rw[Nat.zero_add]at s4;obtain⟨S,hS⟩:=QE (str x[k].2);rw[hS]at s4 HZ;clear qbJ s2 s3 hS;go_wp2_with fail;refine(HZ.out _).mono ?_;rintro e W6 ⟨rfl,jQ⟩;have vL:=QH (q9 HB.out jQ);have quV:=QH (HOP.out.below jQ);have qlN:=QH (qz0.out.below jQ);clear jQ HZ HOP qz0 s1 s4;by_cases hz:x[k].2=zb
       ·rw[decide_eq_true hz];have qoS:=QH (qlL.out hz);clear hz qlL qlM;go_wp2_with fail;go_roundw;case rel=>exact⟨k+1,pre++[0],fr',A3,c3,by go_num,rfl,quU,qoS.out,qlN.out,by rw[HPZ.out];exact quV.out,vL.out⟩
        case measure=>simp[intOf];omega
       ·rw[decide_eq_false hz];obtain⟨f,r,hfr,qz1⟩:=qlM.out hz;have qoS:=QH qz1;subst hfr;obtain⟨b3,o3,rfl,n1,n2,n3⟩:=qlN.out 0 (by simp);have HT:=QH qlN.out.tail;obtain⟨quW,hfz,hgB,wD⟩:=quV.out.set k hkw f;rw[qlI hpl hlt hkw,qlJ hpl hlt f]at quW;have qz2:=QH quW;have HB7:Hid (Below w.heap.size w (W6.setCell ⟨g,k*3+1,none⟩ (.int .i64 f))):=vL.out.setCell (p:=⟨g,k*3+1,none⟩) hgB _;obtain⟨a5,c5,e5,qbJ⟩:=quV.out.view;simp only[Value.slice.injEq]at e5;obtain⟨rfl,q47,rfl⟩:=e5;clear q47;obtain⟨b',o',e4,s1,s2,s3,s4⟩:=qbJ k hkw;simp only[Option.some.injEq,Addr.mk.injEq,and_true]at e4;obtain⟨rfl,rfl⟩:=e4;rw[Nat.zero_add]at s3;simp only[List.getElem_cons_zero,Nat.add_zero]at n3;have zbj:(0:Int)<((r.length+1:Nat):Int):=by omega
        have zbk:(1:Int)≤((r.length+1:Nat):Int):=by omega
        have hrc:((r.length+1:Nat):Int)≤(c3:Int):=by rw[List.length_cons]at quU;omega
        rw[List.length_cons]at quU ⊢;clear hz qlL qlM qz1 quW qbJ s2 s4;go_wp2_with fail;go_region;go_wp2_with fail;all_goals
         refine⟨?_,by simp[intOf];omega⟩;by_cases hc1:c3=1
         ·have hr0:r.length=0:=by omega
          rw[if_pos hc1];exact⟨k+1,pre++[f],r,_,_,rfl,rfl,by omega,qoS.out,(fun i hi=>absurd hi (by omega)),qz2.out.below (Below.refl _ _).drew,HB7.out.drew⟩
         ·rw[if_neg hc1];exact⟨k+1,pre++[f],r,_,_,rfl,rfl,by omega,qoS.out,HT.out.set.below (Below.refl _ _).drew,qz2.out.below (Below.refl _ _).drew,HB7.out.drew⟩
      ·obtain rfl:k=x.length:=by omega
       have jY:¬ (x.length:Int)<(x.length:Int):=by omega
       have HE:=QH HPK.out.stop;have HPA:=QH (quT (x:=x) hpl);go_wp2_with fail;go_ret2;refine⟨HB.out,.inr ⟨by rw[HVE.out,HV.out],_,rfl,?_⟩⟩;rw[HVE.out,HV.out];show tx wr w.heap.size _ (PL x (qd R1 x).1);rw[HE.out,← HPA.out];exact HOP.out
section
variable {o1 o2:Nat→Prop} {w w1 w':World} {v pd N b:Nat} {d:DD} {m:Mt} {t:Tg} {Q:Int→DD→Mt→Bool→Prop} {e:Ending}
theorem quX(hb:Below w.heap.size w w1)(h:qzi w.heap.size o1 o2 v pd Q w1 e w'):kz jg o1 o2 v pd Q w e w':=by
 obtain⟨r,d',m',lost,wP,uL,h1,h2,h3,h4,h5⟩:=h;exact⟨r,d',m',lost,wP,uL,h1,h2,(ib.qB.of_below (S:=fun j=>o1 j∨o2 j) hb).trans h3 (fun _ h=>.inl h),h4,h5⟩
theorem jn {l:Bool}{r:Int}(h:VP jg w' o1 o2 v pd d m l)(hb:Below w.heap.size w w')(hq:Q r d m l):kz jg o1 o2 v pd Q w (.returned (.int .i64 r)) w' :=
 ⟨r,d,m,l,o1,o2,rfl,h,ib.qB.of_below hb,fun j hj=>.inl hj,hq⟩
theorem qlO(h:VP jg w o1 o2 v pd d m false):∀j,o1 j∨o2 j∨j=gN→j<w.heap.size:=fun j hj=>by
 rcases hj with hj|hj|hj
 ·exact sJ h.is j (.inl hj)
 ·exact uE h.dk j hj
 ·exact sJ h.is j (.inr hj)
end
theorem nE {b N:Nat}{m:Mt}{x:List (Int × Bt)}(jq:yD b N m)(hN:N≤1024)(h0:(qw N m x).2=0):nt (PL x (qw N m x).1.1)=(qw N m x).1.2:=by
 obtain⟨cs,hcs,hcl,_,_⟩:=aM jq hN;unfold qw at h0 ⊢;rw[hcs]at h0 ⊢;dsimp only at h0 ⊢;by_cases hz:(yP cs ((full x:Nat):Int)).2=0
 ·rw[if_pos hz];have hl:=rf hz;refine fD x _ (fun f hf=>?_) hl;have hst:(yP cs ((full x:Nat):Int)).1=(qR cs cs.length).take (full x):=by
   unfold yP at hz ⊢;rw[if_neg (by omega)]at hz ⊢;by_cases hf:(xY cs:Int)<((full x:Nat):Int)
   ·rw[if_pos hf]at hz;simp at hz
   ·rw[if_neg hf,Int.toNat_natCast]
  rw[hst]at hf;obtain⟨j,e,g1,_,_⟩:=eV.1 (List.mem_of_mem_take hf);omega
 ·rw[if_neg hz]at h0;exact absurd h0 hz
theorem qq1{b N:Nat}{m:Mt}{x:List (Int × Bt)}{at_:List Int}{ws:List jr.Wr}(hp:eZ N m x at_ ws)(hN:N≤1024)(hc:xx b (-1) x=true):∀p∈PL x at_,0≤p.1∧p.1<(b:Int)∧0≤p.2.1∧qD p.2.1:=by
 intro p hm;obtain⟨i,hi,rfl⟩:=List.getElem_of_mem hm;have hx:i<x.length:=by unfold PL at hi;simp at hi;omega
 have ha:i<at_.length:=by unfold PL at hi;simp at hi;omega
 have e:(PL x at_)[i]=(x[i].1,at_[i],x[i].2):=by simp[PL]
 rw[e];have h1:=jJ hc _ (List.getElem_mem hx);refine⟨by show 0≤x[i].1;omega,h1.2.2,?_⟩;show 0≤at_[i]∧qD at_[i];rcases hp.each i hx ha with⟨_,h⟩|⟨_,h⟩
 ·rw[h];exact⟨by omega,by unfold qD;omega⟩
 ·have hr:=hp.wok.range _ h;dsimp only at hr;exact⟨by omega,by unfold qD;omega⟩
theorem qlP{x:List (Int × Bt)}{at_:List Int}(h:at_.length=x.length):(PL x at_).length=x.length:=by unfold PL;rw[List.length_zipWith];omega
theorem kW.form{G:Nat→Prop}{w:World}{f:Value}{m m':Mt}(h:kW G w f m m'):∃k jC,f=.func (.func k) #[] jC:=by
 obtain⟨k,jC,h1,_⟩:=h;exact⟨k,jC,h1⟩
theorem cY {G:Nat→Prop}{w:World}{f:Value}{m m':Mt}{b:Nat}(hk:qg w b 115 #[f])(h:kW G w f m m'):qbG G w (some ⟨b,0,none⟩) 1 (fun i=>if i=0 then m else m'):=fun i hi=>by
 obtain rfl:i=0:=by omega
 exact⟨b,0,f,rfl,hk.lt,hk.cell 0,h⟩
theorem qlQ{G:Nat→Prop}{w:World}{f g:Value}{m m1 m2:Mt}{b:Nat}(hk:qg w b 115 #[f,g])(h1:kW G w f m m1)(h2:kW G w g m1 m2):qbG G w (some ⟨b,0,none⟩) 2 (fun i=>if i=0 then m else if i=1 then m1 else m2):=fun i hi=>by
 match i,hi with
 | 0,_=>exact⟨b,0,f,rfl,hk.lt,hk.cell 0,h1⟩
 | 1,_=>exact⟨b,0,g,rfl,hk.lt,hk.cell 1,h2⟩
theorem nG {G:Nat→Prop}{w:World}{f g k:Value}{m m1 m2 m3:Mt}{b:Nat}(hk:qg w b 115 #[f,g,k])(h1:kW G w f m m1)(h2:kW G w g m1 m2)(h3:kW G w k m2 m3):qbG G w (some ⟨b,0,none⟩) 3 (fun i=>if i=0 then m else if i=1 then m1 else if i=2 then m2 else m3):=fun i hi=>by
 match i,hi with
 | 0,_=>exact⟨b,0,f,rfl,hk.lt,hk.cell 0,h1⟩
 | 1,_=>exact⟨b,0,g,rfl,hk.lt,hk.cell 1,h2⟩
 | 2,_=>exact⟨b,0,k,rfl,hk.lt,hk.cell 2,h3⟩
theorem jO {N:Nat}{t:Tg}{d:DD}{m:Mt}{c:Int}(h:c≠0):xp N t d m ⟨c,m,[]⟩ c d m false:=.inl ⟨h,rfl,rfl,rfl,rfl⟩
theorem wa {o1 o2:Nat→Prop}{w w1:World}{v pd N b n:Nat}{d:DD}{m:Mt}{t:Tg}{pn:dT}{M:Nat→Mt}(h:VP jg w o1 o2 v pd d m false)(hb:Below w.heap.size w w1)(hJ:jr.JJ N t d)(hf:0≤d.qi)(hR:qM b N t m)(hc:pn.code=0)(hdo:yD b N pn.m∧wO N m pn.ws)
    (hM0:M 0=m) (hMn:M n=pn.m) {A:Option Addr} {c:Nat} (hE:qbG (fun j=>(o1 j∧j≠v)∨w.heap.size≤j) w1 A n M) (hn:n≤10) {B:Option Addr} {cb:Nat} {P:List Pl} (hP:PlL w1 B P) (hpl:P.length≤100) (hPW:nt P=pn.ws) :
    Calls prog 56 #[pt v,.slice B P.length cb,.slice A n c] w1 (kz jg o1 o2 v pd (xp N t d m pn) w):=by
 have gp:pn=⟨0,pn.m,pn.ws⟩:=by rw[← hc]
 rw[gp];refine(qeh (qN h hb) hJ hf hR hb.size (qlO h) hM0 hMn hdo.1 hdo.2 hE hn hP hpl hPW).mono ?_;rintro e W hx;exact quX hb hx
theorem qlR(W:World)(k:Int)(s:Bt)(hk:ib.yf k):ch.dU (W.alloc (.cells #[.int .i64 k,.string (str s)] 62)) (some ⟨W.heap.size,0,none⟩) [(k,s)]:=by
 intro i hi;obtain rfl:i=0:=by simpa using hi
 exact⟨W.heap.size,0,rfl,by simp,(qg.new W _ _).cell 0,(qg.new W _ _).cell 1,hk⟩
theorem qem{N:Nat}{m:Mt}{k:Int}{s:Bt}(h:xx m.live.length (-1) [(k,s)]=false):zZ N m k s=⟨2,m,[]⟩:=by
 unfold zZ;rw[if_pos];apply Classical.byContradiction;intro hn;have:xx m.live.length (-1) [(k,s)]=true:=by
  unfold xx xx;simp;omega
 rw[h]at this;cases this
theorem qbK{N:Nat}{m:Mt}{k:Int}{s:Bt}(h:xx m.live.length (-1) [(k,s)]=true):zZ N m k s=if (qw N m [(k,s)]).2=0 then⟨0,{ m with live:=zt m.live [(k,s)] (qw N m [(k,s)]).1.1 },(qw N m [(k,s)]).1.2⟩else⟨(qw N m [(k,s)]).2,m,[]⟩:=by
 have h1:=jJ h (k,s) (by simp);unfold zZ;rw[if_neg (by dsimp only at h1;omega)]
theorem fy {o1 o2:Nat→Prop}{w:World}{v pd N b:Nat}{d:DD}{m:Mt}{t:Tg}(k:Int)(s:Bt)(h:VP jg w o1 o2 v pd d m false)(hJ:jr.JJ N t d)(hf:0≤d.qi)(hR:qM b N t m)(hk:ib.yf k) :
    Calls prog 17 #[pt v,.int .i64 k,.string (str s)] w (kz jg o1 o2 v pd (xp N t d m (zZ N m k s)) w):=by
 have HV:=QH h;have HJ:=QH hJ;have HR:=QH hR;have HFU:=QH hf;have xJ:=QH (jm h hJ.on);have iZ:=QH (mA hR k s);have HLEN:=QH hR.ok.len;have jT:=(Below.refl _ w).alloc (Nat.le_refl _) (.cells #[.int .i64 k,.string (str s)] 62);have hcl:=qlR w k s hk;obtain⟨S,hS⟩:=QE (str s);rw[hS]at jT hcl;obtain⟨W1,hW1⟩:=QE (w.alloc (.cells #[.int .i64 k,.string S] 62));rw[hW1]at jT hcl;have zk:=QH jT;have pX:=QH hcl;have hV1:=qN h jT;obtain⟨A0,A1,A2,c0,c1,c2,hA⟩:=hV1.is;have fS:=QH hA;have HTA:=QH (ra (A0:=A0) (A1:=A1) (A2:=A2) (c0:=c0) (c1:=c1) (c2:=c2) (c:=1) hA.sz.live hcl (by simp));have qhY:Hid (∀W,Below W1.heap.size W1 W→xx m.live.length (-1) [(k,s)]=true→Calls prog 55 #[pt v,.slice (some ⟨w.heap.size,0,none⟩) 1 1] W (qfy (qw N m [(k,s)]) [(k,s)] W)):=fun W hW hc =>
  nD (qN (qN h jT) hW) hJ.rb.1 hR.ok hR.N1 (hcl.below hW) (by simp) (fun y hy=>(jJ hc y hy).1)
 obtain⟨dS,k0,k1,k2,k3,k4,k5,k6,k7,k8,k9,aR⟩:=hA.cells;have HVB:=QH (fun hc=>qem (N:=N) (m:=m) (k:=k) (s:=s) hc);have HVG:=QH (fun hc=>qbK (N:=N) (m:=m) (k:=k) (s:=s) hc);obtain⟨q,hq⟩:=QE (xx m.live.length (-1) [(k,s)]);rw[hq]at HTA HVB HVG qhY;have HQ:=QH hq;obtain⟨PN,fF⟩:=QE (zZ N m k s);rw[fF]at HVB HVG iZ ⊢;unfold zi at HTA;rw[hS];rw[show([(k,s)]:List (Int × Bt)).length=1 from rfl]at HTA;clear h hJ hR hf hk jT hcl hV1 hA hq fF hS;go_enter func17,ntmps17;go_wp2_with fail;refine xJ.out.mono ?_;rintro e W0 ⟨rfl,rfl⟩;clear xJ;go_upto_region 5 with fail;try rw[hW1]
 clear hW1;go_wp2_with fail;refine HTA.out.mono ?_;rintro e W2 ⟨rfl,hb2⟩;have qG:=QH (q9 zk.out hb2);have nR:=QH (qhY.out W2 hb2);clear HTA qhY;cases q with
 | false =>
  have HPB:=QH (HVB.out rfl);go_wp2_with fail;go_ret;rw[HPB.out];exact jn (qN HV.out qG.out) qG.out (jO (by decide))
 | true =>
  have HPG:=QH (HVG.out rfl);have tr:=QH (nR.out rfl);clear HVB HVG nR;go_wp2_with fail;refine tr.out.mono ?_;rintro e W3 ⟨hb3,qb3⟩;have zf:=QH (q9 qG.out hb3);clear hb3 hb2 tr;rcases qb3 with⟨hne,rfl⟩|⟨h0,pv,rfl,hop⟩
  ·have hcb:((qw N m [(k,s)]).2 != 0)=true:=by simpa using hne
   have HPE:Hid (PN=⟨(qw N m [(k,s)]).2,m,[]⟩):=by unfold Hid;rw[HPG.out,if_neg hne]
   have rS:=QH hne;generalize (qw N m [(k,s)]).2=pc at *;clear hne HPG;go_wp2_with fail;go_ret;rw[HPE.out];exact jn (qN HV.out zf.out) zf.out (jO rS.out)
  ·have HPE:Hid (PN=⟨0,{ m with live:=zt m.live [(k,s)] (qw N m [(k,s)]).1.1 },(qw N m [(k,s)]).1.2⟩):=by unfold Hid;rw[HPG.out,if_pos h0]
   have hpw:=nE HR.out.ok HR.out.N1 h0;have hpl:eZ N m [(k,s)] (qw N m [(k,s)]).1.1 (qw N m [(k,s)]).1.2:=by
    rcases yM HR.out.ok HR.out.N1 [(k,s)] (by simp) (fun c hc=>(jJ HQ.out c hc).1)with⟨h7,_⟩|⟨_,hp⟩
    ·rw[h7]at h0;cases h0
    ·exact hp
   have gp:PN.code=0:=by rw[HPE.out]
   have hdo:yD b N PN.m∧wO N m PN.ws:=by
    rcases iZ.out with⟨h7,_⟩|⟨_,hd,_⟩
    ·rw[gp]at h7;cases h7
    ·exact⟨(hd gp).ok,(hd gp).ws⟩
   have rh:=qq1 hpl HR.out.N1 HQ.out;have tG:=qlP hpl.len;obtain⟨BA,bc,hpv,hPL⟩:=hop.view;rw[tG]at hpv;have hsp:=tC [(k,s)] (qw N m [(k,s)]).1.1 m.live;generalize (qw N m [(k,s)]).1.1=at_ at *;generalize (qw N m [(k,s)]).1.2=ws at *;have HPW:=QH hpw;have HDK:=QH hdo;have tr:=QH hPL;have qhZ:=QH tG;have HSP:=QH hsp;have hA3:=fS.out.tab.mono (G':=fun j=>(o1 j∧j≠v)∨w.heap.size≤j) (fun j hj=>.inl hj);have hV3:=qN HV.out zf.out;have HV3:=QH hV3;obtain⟨X0,X1,X2,d0,d1,d2,hX⟩:=hV3.is;have HX:=QH hX;have wN:m.live.length=b:=HLEN.out;have hput:=km (G:=fun j=>(o1 j∧j≠v)∨w.heap.size≤j) (hX.tab.mono (fun j hj=>.inl hj)).live (by rw[wN];have:=HR.out.ok.b1;omega) hX.sz.live hPL (cb:=bc) (by rw[wN];have:=rh;rw[wN]at this;exact this) (by rw[tG];simp) (fun j hj=>.inr (Nat.le_trans zf.out.size hj));rw[hsp,tG]at hput;have qbL:=QH hput;obtain⟨dS,k0,k1,k2,k3,k4,k5,k6,k7,k8,k9,aR⟩:=hX.cells;subst hpv;clear h0 hpw hpl gp hdo rh tG hPL hsp hA3 hV3 hX wN hput hop HPG;have hce:((0:Int) != 0)=false:=rfl;go_wp2_with fail;refine qbL.out.mono ?_;rintro e W4 ⟨AL,cl,rfl,uJ,hb4⟩;have HL4:=QH (gV.bound uJ);have zU:=QH (q9 zf.out hb4);have qz5:=QH (tr.out.below hb4);have wq:Hid (PN.code=0∧PN.m={ m with live:=zt m.live [(k,s)] at_ }∧PN.ws=ws):=by unfold Hid;rw[HPE.out];exact⟨rfl,rfl,rfl⟩
   have hlv:=fp (G:=fun j=>(o1 j∧j≠v)∨w.heap.size≤j) uJ (by rw[aP,HLEN.out];have:=HR.out.ok.b8;omega) (fun j hj=>.inr (Nat.le_trans zU.out.size hj));have HLV:=QH hlv;obtain⟨LL,hLL⟩:=QE ((zt m.live [(k,s)] at_).length);rw[hLL]at HLV ⊢;clear uJ hb4 hlv qbL;go_wp2_with fail;refine HLV.out.mono ?_;rintro e W5 ⟨f,rfl,fG,hb5⟩;have HEF:=QH (fG m PN.m wq.out.2.1);obtain⟨kf,jC,rfl⟩:=HEF.out.form;have jt:=QH (q9 zU.out hb5);have qz6:=QH (qz5.out.below hb5);clear fG hb5 HLV hLL qz5;have jQ:=(Below.refl _ W5).alloc (Nat.le_refl _) (.cells #[.func (.func kf) #[] jC] 115);have dn:=qg.new W5 115 #[.func (.func kf) #[] jC];obtain⟨W6,hW6⟩:=QE (W5.alloc (.cells #[.func (.func kf) #[] jC] 115));rw[hW6]at jQ dn;have ey:=QH (wa HV.out (q9 jt.out jQ) HJ.out HFU.out HR.out wq.out.1 HDK.out (c:=1) rfl rfl (cY dn (HEF.out.below jQ)) (by omega) (cb:=bc) (qz6.out.below jQ) (by rw[qhZ.out];simp) (HPW.out.trans wq.out.2.2.symm));rw[qhZ.out,show([(k,s)]:List (Int × Bt)).length=1 from rfl]at ey;clear jQ dn HEF qz6;go_wp2_with fail;try rw[hW6]
   refine ey.out.mono ?_;rintro e W7 ⟨r,d',m',lost,wP,uL,rfl,hh⟩;have HH:=QH hh;clear hh ey;go_wp2_with fail;go_ret;exact⟨r,d',m',lost,wP,uL,rfl,HH.out⟩
end Go.Proofs.YtdagdllomphidaaGreatDoor.vt.pg
namespace Go.Proofs.YtdagdllomphidaaGreatDoor.vt.pg
open _root_.Go.Proofs.Tryz Go Go.RowKit Go.Sort ib mt im sp
theorem cZ (t:Tg):∀(ss:List Bt) (o:Nat),(∀i (h:i<ss.length),t ((o+i:Nat):Int)=ss[i])→zP t o ss=[]
 | [],_,_=>rfl
 | s::r,o,h=>by
  have h0:=h 0 (by simp);simp only[Nat.add_zero,List.getElem_cons_zero]at h0;unfold zP;rw[if_pos h0,List.nil_append];refine cZ t r (o+1) fun i hi=>?_;have:=h (i+1) (by simpa using hi);rw[List.getElem_cons_succ]at this;rw[show o+1+i=o+(i+1)by omega];exact this
theorem tH {b N:Nat}{t:Tg}{m:Mt}(h:qM b N t m):qC t m []=[]:=by
 unfold qC qaZ;rw[cZ t (xw m) 145 h.home];rfl
theorem qbM{b N:Nat}{t:Tg}{d:DD}{m:Mt}(h:qM b N t m)(hJ:jr.JJ N t d)(hf:0≤d.qi)(ht:m.tok=zL):xp N t d m (jF m) 0 d m false:=by
 have e:jF m=⟨0,m,[]⟩:=by
  unfold jF;rw[← ht]
 rw[e];refine .inr (.inl ⟨rfl,rfl,?_,rfl,rfl,id,hf⟩);show jr.JJ N (jr.over t (qC t m [])) d;rw[tH h];exact hJ
theorem qbN:TkB zL:=⟨by simp[xn,zL],by simp[xn,zL],by simp[qD,zL],by simp[qD,zL]⟩
theorem ed (w:World):PlL w none []:=fun i h=>absurd h (by simp)
theorem qeo{o1 o2:Nat→Prop}{w:World}{v pd N b:Nat}{d:DD}{m:Mt}{t:Tg}(h:VP jg w o1 o2 v pd d m false)(hJ:jr.JJ N t d)(hf:0≤d.qi)(hR:qM b N t m) :
    Calls prog 19 #[pt v] w (kz jg o1 o2 v pd (xp N t d m (jF m)) w):=by
 have HV:=QH h;have HJ:=QH hJ;have HR:=QH hR;have HFU:=QH hf;have xJ:=QH (jm h hJ.on);obtain⟨A0,A1,A2,c0,c1,c2,hA⟩:=h.is;have eH:=QH hA.tk;obtain⟨dS,k0,k1,k2,k3,k4,k5,k6,k7,k8,k9,aR⟩:=hA.cells;have HTN:=QH (mL (w:=w) (A0:=A0) (A1:=A1) (A2:=A2) (c0:=c0) (c1:=c1) (c2:=c2) m);have HFN:=QH (fun ht=>qbM (m:=m) hR hJ hf ht);have iZ:Hid (yD b N { m with tok:=zL }∧wO N m []):=⟨(gU hR).ok,(gU hR).ws⟩;obtain⟨q,hq⟩:=QE (decide (m.tok.target=(0,0)));rw[hq]at HTN;have HQ:=QH hq;obtain⟨PN,fF⟩:=QE (jF m);have wq:Hid (PN.code=0∧PN.m={ m with tok:=zL }∧PN.ws=[]):=by unfold Hid;rw[← fF];exact⟨rfl,rfl,rfl⟩
 rw[fF]at HFN ⊢;unfold zi at HTN;clear h hJ hR hf hA hq fF;go_enter func19,ntmps19;go_wp2_with fail;refine xJ.out.mono ?_;rintro e W0 ⟨rfl,rfl⟩;clear xJ;go_wp2_with fail;refine HTN.out.mono ?_;rintro e W1 ⟨rfl,hb1⟩;have zk:=QH hb1;clear HTN hb1;cases q with
 | true =>
  have HFO:=QH (HFN.out (eH.out (of_decide_eq_true HQ.out)));clear HFN eH;go_wp2_with fail;go_ret;exact jn (qN HV.out zk.out) zk.out HFO.out
 | false =>
  have hst:=ub (G:=fun j=>(o1 j∧j≠v)∨w.heap.size≤j) (t:=zL) (yx.none W1) (by decide) qbN (fun j hj=>.inr (Nat.le_trans zk.out.size hj));unfold bm at hst;have HST:=QH hst;clear HFN eH hst;go_wp2_with fail;refine HST.out.mono ?_;rintro e W5 ⟨f,rfl,fG,hb5⟩;have HEF:=QH (fG m PN.m wq.out.2.1);obtain⟨kf,jC,rfl⟩:=HEF.out.form;have jt:=QH (q9 zk.out hb5);clear fG hb5 HST;have jQ:=(Below.refl _ W5).alloc (Nat.le_refl _) (.cells #[.func (.func kf) #[] jC] 115);have dn:=qg.new W5 115 #[.func (.func kf) #[] jC];obtain⟨W6,hW6⟩:=QE (W5.alloc (.cells #[.func (.func kf) #[] jC] 115));rw[hW6]at jQ dn;have ey:=QH (wa HV.out (q9 jt.out jQ) HJ.out HFU.out HR.out wq.out.1 (by rw[wq.out.2.1,wq.out.2.2];exact iZ.out) (c:=1) rfl rfl (cY dn (HEF.out.below jQ)) (by omega) (cb:=0) (ed W6) (by simp) (wq.out.2.2.symm));clear jQ dn HEF;go_wp2_with fail;try rw[hW6]
  refine ey.out.mono ?_;rintro e W7 ⟨r,d',m',lost,wP,uL,rfl,hh⟩;have HH:=QH hh;clear hh ey;go_wp2_with fail;go_ret;exact⟨r,d',m',lost,wP,uL,rfl,HH.out⟩
theorem qlS{o1 o2:Nat→Prop}{w:World}{v pd N b:Nat}{d:DD}{m:Mt}{t:Tg}(g:Gd)(h:VP jg w o1 o2 v pd d m false)(hJ:jr.JJ N t d)(hf:0≤d.qi)(hR:qM b N t m) :
    Calls prog 31 #[pt v,gv g] w (kz jg o1 o2 v pd (xp N t d m (kh m g)) w):=by
 have iZ:=QH (pN hR g);obtain⟨g1,g2⟩:=g;have iD:=QH h;have hb2:=(Below.refl _ w).alloc (Nat.le_refl _) (.cells #[.int .u64 (g1:Int),.int .u64 (g2:Int)] 55);have hr2:=qg.new w 55 #[.int .u64 (g1:Int),.int .u64 (g2:Int)];obtain⟨W,hW2⟩:=QE (w.alloc (.cells #[.int .u64 (g1:Int),.int .u64 (g2:Int)] 55));rw[hW2]at hb2 hr2;have h2:=qN h hb2;obtain⟨A0,A1,A2,c0,c1,c2,hA⟩:=h2.is;have HA:=QH hA;have HV:=QH h2;have HJ:=QH hJ;have HR:=QH hR;have HFU:=QH hf;have qG:=QH hb2;have xJ:=QH (jm h2 hJ.on);have eM:=QH hA.sz;obtain⟨dS,k0,k1,k2,k3,k4,k5,k6,k7,k8,k9,aR⟩:=hA.cells;have r0:=hr2.cell 0;have r1:=hr2.cell 1;have rlt:=hr2.lt;simp only[Nat.zero_add,QA,QB,QC]at r0 r1;have e0:=fun d os=>cell_regrown k0 d os;have e1:=fun d os=>cell_regrown k1 d os;have e2:=fun d os=>cell_regrown k2 d os;have e3:=fun d os=>cell_regrown k3 d os;have e4:=fun d os=>cell_regrown k4 d os;have e5:=fun d os=>cell_regrown k5 d os;have e6:=fun d os=>cell_regrown k6 d os;have e7:=fun d os=>cell_regrown k7 d os;have e8:=fun d os=>cell_regrown k8 d os;have p0:=fun d os=>cell_regrown r0 d os;have p1:=fun d os=>cell_regrown r1 d os;have cF:∀b os,Calls prog 77 #[.agg (zi A0 A1 A2 c0 c1 c2 m),gv (g1,g2)] (grow (redrawn W b) os) fun e w''=>e=.returned (.tuple #[.int .i64 (jN m (g1,g2)).1,.int .i64 (jN m (g1,g2)).2])∧∃q:Regrown,w''=grow (redrawn W q.d) q.os :=
  fun b os=>Calls.regrown_of (vz (HA.out.below (below_regrown W b os)).tab.mt.qa eM.out.qa (g1,g2))
 have tF:=QH (iA t m (g1,g2));obtain⟨PN,fF⟩:=QE (kh m (g1,g2));obtain⟨F,hF⟩:=QE (jN m (g1,g2));rw[hF,fF]at tF;rw[fF]at iZ;rw[hF]at cF;rw[fF];obtain⟨F1,F2⟩:=F;clear h h2 hJ hR hA hb2 hr2 fF hF hf;unfold gv at cF;unfold zi at cF;dsimp only at cF;show Calls _ _ #[pt v,.agg #[.int .u64 (g1:Int),.int .u64 (g2:Int)]] _ _;go_enter func31,ntmps31;go_upto_region 1 with fail;try rw[hW2]
 clear hW2;go_wp2_with fail;refine xJ.out.mono ?_;rintro e W1 ⟨rfl,rfl⟩;clear xJ;go_upto_region 4 with fail;refine wp_region_quiet_below dp (by kernel_rfl) ?_;repeat (any_goals (first|go_big_quiet_step (first|exact cF _ _)|quiet_step (first|exact cF _ _)))
 refine wpQuiet_nil ?_;intro _ hw';obtain⟨⟨dq,osq⟩,hw''⟩:=hw';subst hw'';have hb:=below_regrown W dq osq;have zf:=QH (q9 qG.out hb);clear hb e0 e1 e2 e3 e4 e5 e6 e7 e8 p0 p1 cF HA HV qG dS k0 k1 k2 k3 k4 k5 k6 k7 k8 k9 aR r0 r1 rlt;generalize grow (redrawn W dq) osq=W3 at *;rcases tF.out with⟨c,hc,hf,_,gp⟩|⟨i,hi,hf,ck,gp⟩
 ·obtain⟨rfl,rfl⟩:=Prod.mk.inj hf;have hcb:(F2 != 0)=true:=by simpa using hc
  have HPN:=QH gp;have HC:=QH hc;clear hc gp hf tF;go_wp2_with fail;go_ret;rw[HPN.out];exact jn (qN iD.out zf.out) zf.out (jO HC.out)
 ·obtain⟨rfl,rfl⟩:=Prod.mk.inj hf;have wq:Hid (PN.code=0∧PN.m={ m with qa:=xA m.qa i }∧PN.ws=[]):=by unfold Hid;rw[gp];exact⟨rfl,rfl,rfl⟩
  have HDK:Hid (yD b N PN.m∧wO N m PN.ws):=⟨(iZ.out.2.1 wq.out.1).ok,(iZ.out.2.1 wq.out.1).ws⟩;have hst:=qhL (w:=W3) (G:=fun j=>(o1 j∧j≠v)∨w.heap.size≤j) i (fun j hj=>.inr (Nat.le_trans zf.out.size hj));have HST:=QH hst;have HI:=QH hi;have hce:((0:Int) != 0)=false:=rfl;clear gp hf tF hst ck hi iZ;go_wp2_with fail;refine HST.out.mono ?_;rintro e W5 ⟨f,rfl,fG,hb5⟩;have HEF:=QH (fG m PN.m ⟨HI.out,by have:=HR.out.ok.few;omega,wq.out.2.1⟩);obtain⟨kf,jC,rfl⟩:=HEF.out.form;have jt:=QH (q9 zf.out hb5);clear fG hb5 HST;have jQ:=(Below.refl _ W5).alloc (Nat.le_refl _) (.cells #[.func (.func kf) #[] jC] 115);have dn:=qg.new W5 115 #[.func (.func kf) #[] jC];obtain⟨W6,hW6⟩:=QE (W5.alloc (.cells #[.func (.func kf) #[] jC] 115));rw[hW6]at jQ dn;have ey:=QH (wa iD.out (q9 jt.out jQ) HJ.out HFU.out HR.out wq.out.1 HDK.out (c:=1) rfl rfl (cY dn (HEF.out.below jQ)) (by omega) (cb:=0) (ed W6) (by simp) (wq.out.2.2.symm));clear jQ dn HEF;go_wp2_with fail;try rw[hW6]
  refine ey.out.mono ?_;rintro e W7 ⟨r,d',m',lost,wP,uL,rfl,hh⟩;have HH:=QH hh;clear hh ey;go_wp2_with fail;go_ret;exact⟨r,d',m',lost,wP,uL,rfl,HH.out⟩
section
variable {o1 o2:Nat→Prop} {w w1 w':World} {v pd:Nat} {d:DD} {m:Mt} {l:Bool}
theorem tI (h:VP jg w o1 o2 v pd d m l)(hb:Below w.heap.size w w1)(h':VP jg w' o1 o2 v pd d m true)(hbu:ib.qB (fun j=>j=v) w1 w'):kz jg o1 o2 v pd (mF d m) w (.returned (.int .i64 6)) w':=by
 obtain⟨A0,A1,A2,c0,c1,c2,h1⟩:=h.is;exact⟨6,d,m,true,o1,o2,rfl,h',(ib.qB.of_below (S:=fun j=>o1 j∨o2 j) hb).trans (hbu.mono (fun j hj=>by rw[hj];exact .inl h1.own)) (fun _ h=>.inl h),fun j hj=>.inl hj,rfl,rfl,rfl,rfl⟩
theorem oH (k:Int)(s:Bt)(h:VP jg w o1 o2 v pd d m l)(hl:l=true∨d.on=false):Calls prog 17 #[pt v,.int .i64 k,.string (str s)] w (kz jg o1 o2 v pd (mF d m) w):=by
 have HV:=QH h;have xJ:=QH (dQ h hl);clear h hl;go_enter func17,ntmps17;go_wp2_with fail;refine xJ.out.mono ?_;rintro e W1 ⟨rfl,hv,hb⟩;have H1:=QH hv;have H2:=QH hb;clear hv hb xJ;go_wp2_with fail;go_ret;exact tI HV.out (Below.refl _ _) H1.out H2.out
theorem nH (h:VP jg w o1 o2 v pd d m l)(hl:l=true∨d.on=false):Calls prog 19 #[pt v] w (kz jg o1 o2 v pd (mF d m) w):=by
 have HV:=QH h;have xJ:=QH (dQ h hl);clear h hl;go_enter func19,ntmps19;go_wp2_with fail;refine xJ.out.mono ?_;rintro e W1 ⟨rfl,hv,hb⟩;have H1:=QH hv;have H2:=QH hb;clear hv hb xJ;go_wp2_with fail;go_ret;exact tI HV.out (Below.refl _ _) H1.out H2.out
theorem tJ (g:Gd)(h:VP jg w o1 o2 v pd d m l)(hl:l=true∨d.on=false):Calls prog 31 #[pt v,gv g] w (kz jg o1 o2 v pd (mF d m) w):=by
 obtain⟨g1,g2⟩:=g;have HV:=QH h;have hb:=(Below.refl _ w).alloc (Nat.le_refl _) (.cells #[.int .u64 (g1:Int),.int .u64 (g2:Int)] 55);obtain⟨W,hW2⟩:=QE (w.alloc (.cells #[.int .u64 (g1:Int),.int .u64 (g2:Int)] 55));rw[hW2]at hb;have HB:=QH hb;have xJ:=QH (dQ (qN h hb) hl);clear h hl hb;show Calls _ _ #[pt v,.agg #[.int .u64 (g1:Int),.int .u64 (g2:Int)]] _ _;go_enter func31,ntmps31;go_upto_region 1 with fail;try rw[hW2]
 clear hW2;go_wp2_with fail;refine xJ.out.mono ?_;rintro e W1 ⟨rfl,hv,hb⟩;have H1:=QH hv;have H2:=QH hb;clear hv hb xJ;go_wp2_with fail;go_ret;exact tI HV.out HB.out H1.out H2.out
end
theorem qep(k:Int)(s:Bt)(w:World):Calls prog 17 #[.pointer none,.int .i64 k,.string (str s)] w (ch.yE 1 w):=by
 have xJ:Hid (∀W,Calls prog 52 #[.pointer none] W fun e w'=>e=.returned (.int .i64 1)∧W=w'):=fun W=>xT W;go_enter func17,ntmps17;go_wp2_with fail;refine(xJ.out _).mono ?_;rintro e W1 ⟨rfl,rfl⟩;go_wp2_with fail;go_ret;exact⟨rfl,Below.refl _ _⟩
theorem qia(n:Int)(w:World):Calls prog 34 #[.pointer none,.int .i64 n] w (ch.yE 1 w):=by
 have xJ:Hid (∀W,Calls prog 52 #[.pointer none] W fun e w'=>e=.returned (.int .i64 1)∧W=w'):=fun W=>xT W;go_enter func34,ntmps34;go_wp2_with fail;refine(xJ.out _).mono ?_;rintro e W1 ⟨rfl,rfl⟩;go_wp2_with fail;go_ret;exact⟨rfl,Below.refl _ _⟩
theorem qbO(w:World):Calls prog 19 #[.pointer none] w (ch.yE 1 w):=by
 have xJ:Hid (∀W,Calls prog 52 #[.pointer none] W fun e w'=>e=.returned (.int .i64 1)∧W=w'):=fun W=>xT W;go_enter func19,ntmps19;go_wp2_with fail;refine(xJ.out _).mono ?_;rintro e W1 ⟨rfl,rfl⟩;go_wp2_with fail;go_ret;exact⟨rfl,Below.refl _ _⟩
theorem qib(g:Gd)(w:World):Calls prog 30 #[.pointer none,gv g] w (ch.yE 1 w):=by
 have HB:=QH ((Below.refl w.heap.size w).alloc (Nat.le_refl _) (.cells #[.int .u64 (g.1:Int),.int .u64 (g.2:Int)] 55));have xJ:Hid (∀W,Calls prog 52 #[.pointer none] W fun e w'=>e=.returned (.int .i64 1)∧W=w'):=fun W=>xT W;unfold gv;go_enter func30,ntmps30;go_wp2_with fail;refine(xJ.out _).mono ?_;rintro e W1 ⟨rfl,rfl⟩;go_wp2_with fail;go_ret;exact⟨rfl,HB.out⟩
theorem qic(g:Gd)(w:World):Calls prog 31 #[.pointer none,gv g] w (ch.yE 1 w):=by
 have HB:=QH ((Below.refl w.heap.size w).alloc (Nat.le_refl _) (.cells #[.int .u64 (g.1:Int),.int .u64 (g.2:Int)] 55));have xJ:Hid (∀W,Calls prog 52 #[.pointer none] W fun e w'=>e=.returned (.int .i64 1)∧W=w'):=fun W=>xT W;unfold gv;go_enter func31,ntmps31;go_wp2_with fail;refine(xJ.out _).mono ?_;rintro e W1 ⟨rfl,rfl⟩;go_wp2_with fail;go_ret;exact⟨rfl,HB.out⟩
theorem qeq(f:Tf)(w:World):Calls prog 24 #[.pointer none,tkV f none 0 0,.slice none 0 0] w (ch.yE 1 w):=by
 have HB:=QH ((Below.refl w.heap.size w).alloc (Nat.le_refl _) (.cells (bf f none 0 0) 59));have xJ:Hid (∀W,Calls prog 52 #[.pointer none] W fun e w'=>e=.returned (.int .i64 1)∧W=w'):=fun W=>xT W;unfold tkV;unfold bf at HB;go_enter func24,ntmps24;go_wp2_with fail;refine(xJ.out _).mono ?_;rintro e W1 ⟨rfl,rfl⟩;go_wp2_with fail;go_ret;exact⟨rfl,HB.out⟩
end Go.Proofs.YtdagdllomphidaaGreatDoor.vt.pg
namespace Go.Proofs.YtdagdllomphidaaGreatDoor.vt.pg
open _root_.Go.Proofs.Tryz Go Go.RowKit Go.Sort ib mt im sp
def qer (W:World)(g:Nat)(t:Tk)(v:Value):World :=
 ((((((W.setCell ⟨g,0,none⟩ (.int .u64 (t.base.1:Int))).setCell ⟨g,1,none⟩ (.int .u64 (t.base.2:Int))).setCell ⟨g,2,none⟩ (.int .u64 (t.target.1:Int))).setCell ⟨g,3,none⟩ (.int .u64 (t.target.2:Int))).setCell ⟨g,4,none⟩ (.int .i64 t.next)).setCell ⟨g,5,none⟩ (.int .i64 t.all)).setCell ⟨g,6,none⟩ v
theorem qbP{W:World}{g:Nat}{z0 z1 z2 z3 z4 z5 z6:Value}(t:Tk)(A:Option Addr)(c:Nat)(h:qg W g 59 #[z0,z1,z2,z3,z4,z5,z6]):qg (qer W g t (.slice A t.qj.length c)) g 59 (bm t A t.qj.length c):=by
 have h9:=((((((h.qo 0 (.int .u64 (t.base.1:Int))).qo 1 (.int .u64 (t.base.2:Int))).qo 2 (.int .u64 (t.target.1:Int))).qo 3 (.int .u64 (t.target.2:Int))).qo 4 (.int .i64 t.next)).qo 5 (.int .i64 t.all)).qo 6 (.slice A t.qj.length c);simp only[List.setIfInBounds_toArray,List.set_cons_succ,List.set_cons_zero]at h9;exact h9
theorem nI {W0 W:World}{g:Nat}{v:Value}{t:Tk}(h:Below W0.heap.size W0 W)(hg:W0.heap.size≤g):Below W0.heap.size W0 (qer W g t v) :=
 ((((((h.setCell (p:=⟨g,0,none⟩) hg _).setCell (p:=⟨g,1,none⟩) hg _).setCell (p:=⟨g,2,none⟩) hg _).setCell (p:=⟨g,3,none⟩) hg _).setCell (p:=⟨g,4,none⟩) hg _).setCell (p:=⟨g,5,none⟩) hg _).setCell (p:=⟨g,6,none⟩) hg _
theorem qlT(W:World)(g:Nat)(v:Value)(t:Tk):ib.qB (fun j=>j=g) W (qer W g t v) :=
 (((((((ib.qB.refl (fun j=>j=g) W).setCell ⟨g,0,none⟩ _ (.inl rfl)).setCell ⟨g,1,none⟩ _ (.inl rfl)).setCell ⟨g,2,none⟩ _ (.inl rfl)).setCell ⟨g,3,none⟩ _ (.inl rfl)).setCell ⟨g,4,none⟩ _ (.inl rfl)).setCell ⟨g,5,none⟩ _ (.inl rfl)).setCell ⟨g,6,none⟩ _ (.inl rfl)
theorem qz7{W:World}{g:Nat}(t:Tk)(A:Option Addr)(c:Nat)(h:qg W g 59 (bm t A t.qj.length c)):(loadVar 59 ⟨g,0,none⟩).run prog W=.ok (.agg (bm t A t.qj.length c)) W :=
 run_loadVar_row W g 59 59 _ (0,0) _ h underlying59 rfl (by kernel_rfl)
theorem qoU{w:World}{A:Option Addr}{l:List Int}(h:ib.qJ w A l):qnV w A l:=fun i hi=>by
 obtain⟨b,o,h1,h2,h3,_⟩:=h i hi;exact⟨b,o,h1,h2,h3⟩
def tz:Array Value:=#[.int .u64 0,.int .u64 0,.int .u64 0,.int .u64 0,.int .i64 0,.int .i64 0,.slice none 0 0]
def qz8 (W:World)(g:Nat):World :=
 ((((((W.setCell ⟨g,0,none⟩ (.int .u64 0)).setCell ⟨g,1,none⟩ (.int .u64 0)).setCell ⟨g,2,none⟩ (.int .u64 0)).setCell ⟨g,3,none⟩ (.int .u64 0)).setCell ⟨g,4,none⟩ (.int .i64 0)).setCell ⟨g,5,none⟩ (.int .i64 0)).setCell ⟨g,6,none⟩ (.slice none 0 0)
theorem qbQ{W:World}{g:Nat}(h:qg W g 59 tz):qg (qz8 W g) g 59 tz:=by
 have h9:=((((((h.qo 0 (.int .u64 0)).qo 1 (.int .u64 0)).qo 2 (.int .u64 0)).qo 3 (.int .u64 0)).qo 4 (.int .i64 0)).qo 5 (.int .i64 0)).qo 6 (.slice none 0 0);simp only[tz,List.setIfInBounds_toArray,List.set_cons_succ,List.set_cons_zero]at h9;exact h9
theorem nJ {W0 W:World}{g:Nat}(h:Below W0.heap.size W0 W)(hg:W0.heap.size≤g):Below W0.heap.size W0 (qz8 W g) :=
 ((((((h.setCell (p:=⟨g,0,none⟩) hg _).setCell (p:=⟨g,1,none⟩) hg _).setCell (p:=⟨g,2,none⟩) hg _).setCell (p:=⟨g,3,none⟩) hg _).setCell (p:=⟨g,4,none⟩) hg _).setCell (p:=⟨g,5,none⟩) hg _).setCell (p:=⟨g,6,none⟩) hg _
theorem qq2{W:World}{g:Nat}(h:qg W g 59 tz):(loadVar 59 ⟨g,0,none⟩).run prog W=.ok (.agg tz) W :=
 run_loadVar_row W g 59 59 _ (0,0) _ h underlying59 rfl (by kernel_rfl)
theorem q49:tkV (tf zL) none 0 0=.agg tz:=by
 simp only[tkV,tf,zL,tz];simp
theorem fW {w w':World}(hb:Below w.heap.size w w'):bp zL w (.returned (.agg tz)) w' :=
 ⟨none,0,by rw[← q49];rfl,fun i h=>absurd h (by simp[zL]),ib.ay.none _ _,hb⟩
theorem qes(w:World):Calls prog 25 #[.pointer none] w (bp zL w):=by
 have hb:=(Below.refl _ w).alloc (Nat.le_refl _) (.cells tz 59);have hk:=qg.new w 59 tz;obtain⟨W,hW⟩:=QE (w.alloc (.cells tz 59));rw[hW]at hb hk;have HE:=QH (fW (nJ hb (Nat.le_refl _)));have HL:=QH (qq2 (qbQ hk));have q0:=hk.cell 0;have q1:=hk.cell 1;have q2:=hk.cell 2;have q3:=hk.cell 3;have q4:=hk.cell 4;have q5:=hk.cell 5;have q6:=hk.cell 6;have f0:=hk.frozen 0;have f1:=hk.frozen 1;have f2:=hk.frozen 2;have f3:=hk.frozen 3;have f4:=hk.frozen 4;have f5:=hk.frozen 5;have f6:=hk.frozen 6;have ig:=hk.lt;simp only[tz,QA,QB,QC]at q0 q1 q2 q3 q4 q5 q6;unfold tz at hW;clear hb hk;go_enter func25,ntmps25;go_upto_region 1 with fail;try rw[hW]
 clear hW;go_wp2_with fail;exact bodyPost_ret (v:=.agg tz) (im.xf rfl _ _ _ ⟨w.heap.size,0,none⟩ _ rfl HL.out) rfl HE.out
theorem eI {o:Nat→Prop}{w:World}{v pd:Nat}{m:Mt}{l:Bool}(h:jg o w v pd m l):Calls prog 25 #[pt v] w (bp m.tok w):=by
 have hb:=(Below.refl _ w).alloc (Nat.le_refl _) (.cells tz 59);have hk:=qg.new w 59 tz;obtain⟨W,hW⟩:=QE (w.alloc (.cells tz 59));rw[hW]at hb hk;obtain⟨A0,A1,A2,c0,c1,c2,hA0⟩:=h;have hA:=hA0.below hb;have HA:=QH hA;have HK:=QH hk;have HB:=QH hb;have HTN:=QH (mL (w:=W) (A0:=A0) (A1:=A1) (A2:=A2) (c0:=c0) (c1:=c1) (c2:=c2) m);obtain⟨q,hq⟩:=QE (decide (m.tok.target=(0,0)));rw[hq]at HTN;have HQ:=QH hq;obtain⟨dS,k0,k1,k2,k3,k4,k5,k6,k7,k8,k9,aR⟩:=hA.cells;unfold zi at HTN;unfold tz at hW;clear hb hk hA hA0 hq;go_enter func25,ntmps25;go_upto_region 1 with fail;try rw[hW]
 clear hW;go_wp2_with fail;refine HTN.out.mono ?_;rintro e W1 ⟨rfl,hb1⟩;have zk:=QH (q9 HB.out hb1);have zN:=HK.out.below hb1;have HK1:=QH zN;have fS:=QH (HA.out.below hb1);have HLT:Hid (w.heap.size<W.heap.size∧W.heap.size≤W1.heap.size):=⟨HK.out.lt,hb1.size⟩;clear hb1 HTN k0 k1 k2 k3 k4 k5 k6 k7 k8 k9 aR dS HA HK HB;have q0:=zN.cell 0;have q1:=zN.cell 1;have q2:=zN.cell 2;have q3:=zN.cell 3;have q4:=zN.cell 4;have q5:=zN.cell 5;have q6:=zN.cell 6;have f0:=zN.frozen 0;have f1:=zN.frozen 1;have f2:=zN.frozen 2;have f3:=zN.frozen 3;have f4:=zN.frozen 4;have f5:=zN.frozen 5;have f6:=zN.frozen 6;have ig:=zN.lt;simp only[tz,QA,QB,QC]at q0 q1 q2 q3 q4 q5 q6;clear zN;cases q with
 | true =>
  have eH:=QH (fS.out.tk (of_decide_eq_true HQ.out));have HE:=QH (fW (nJ zk.out (Nat.le_refl _)));have HL:=QH (qq2 (qbQ HK1.out));go_wp2_with fail;refine bodyPost_ret (v:=.agg tz) (im.xf rfl _ _ _ ⟨w.heap.size,0,none⟩ _ rfl HL.out) rfl ?_;rw[eH.out];exact HE.out
 | false =>
  obtain⟨dS,k0,k1,k2,k3,k4,k5,k6,k7,k8,k9,aR⟩:=fS.out.cells;have hb2:=(Below.refl _ W1).alloc (Nat.le_refl _) (.cells tz 59);have hk2:=qg.new W1 59 tz;obtain⟨W2,hW2⟩:=QE (W1.alloc (.cells tz 59));rw[hW2]at hb2 hk2;have hb3:=nI (v:=.slice A2 m.tok.qj.length c2) (t:=m.tok) hb2 (Nat.le_refl _);have hk3:=qbP m.tok A2 c2 hk2;have s0:=hk2.cell 0;have s1:=hk2.cell 1;have s2:=hk2.cell 2;have s3:=hk2.cell 3;have s4:=hk2.cell 4;have s5:=hk2.cell 5;have s6:=hk2.cell 6;have g0:=hk2.frozen 0;have g1:=hk2.frozen 1;have g2:=hk2.frozen 2;have g3:=hk2.frozen 3;have g4:=hk2.frozen 4;have g5:=hk2.frozen 5;have g6:=hk2.frozen 6;have uJ:=hk2.lt;simp only[tz,QA,QB,QC]at s0 s1 s2 s3 s4 s5 s6;have zf:=QH (q9 zk.out hb3);have og:=QH hk3;have fV:=QH (HK1.out.below hb3);have HI3:=QH (fS.out.tab.qj.at_.below hb3);have HIM:=QH fS.out.sz.qj;have rU:Hid (w.heap.size<W1.heap.size∧W1.heap.size<(qer W2 W1.heap.size m.tok (.slice A2 m.tok.qj.length c2)).heap.size):=⟨HK1.out.lt,hk3.lt⟩;unfold tz at hW2;clear hb2 hk2 hb3 hk3;go_upto_region 4 with fail;try rw[hW2]
  show Code.wp _ _ _ _ (qer W2 W1.heap.size m.tok (.slice A2 m.tok.qj.length c2));obtain⟨W3,hW3⟩:=QE (qer W2 W1.heap.size m.tok (.slice A2 m.tok.qj.length c2));rw[hW3]at zf og fV HI3 rU ⊢;clear hW3 hW2 s0 s1 s2 s3 s4 s5 s6 g0 g1 g2 g3 g4 g5 g6 uJ q0 q1 q2 q3 q4 q5 q6 f0 f1 f2 f3 f4 f5 f6 ig k0 k1 k2 k3 k4 k5 k6 k7 k8 k9 aR dS;have HC:=QH (vV A2 c2 m.tok.qj W3 HI3.out HIM.out);have q6:=og.out.cell 6;have ig:=og.out.lt;simp only[bm,QA,QB,QC]at q6;go_wp2_with fail;refine HC.out.mono ?_;rintro e W4 nT;obtain rfl:=nT.1;have hb4:=nT.2.2;have hs4:=nT.sl HI3.out.ints.mem (fun j=>j=W3.heap.size) rfl;have hk4:=og.out.below hb4;have hr4:=fV.out.below hb4;have hl4:=rU.out;have hz4:=hb4.size;have HK5:Hid (qg (W4.setCell ⟨W1.heap.size,6,none⟩ (.slice (some ⟨W3.heap.size,0,none⟩) m.tok.qj.length m.tok.qj.length)) W1.heap.size 59 (bm m.tok (some ⟨W3.heap.size,0,none⟩) m.tok.qj.length m.tok.qj.length)):=by
   have:=hk4.qo 6 (.slice (some ⟨W3.heap.size,0,none⟩) m.tok.qj.length m.tok.qj.length);simpa[Hid,bm]using this
  have ae:Hid (qg (W4.setCell ⟨W1.heap.size,6,none⟩ (.slice (some ⟨W3.heap.size,0,none⟩) m.tok.qj.length m.tok.qj.length)) w.heap.size 59 tz):=hr4.of_block (qE _ _ _ _ _ (by omega));have jt:Hid (Below w.heap.size w (W4.setCell ⟨W1.heap.size,6,none⟩ (.slice (some ⟨W3.heap.size,0,none⟩) m.tok.qj.length m.tok.qj.length))):=(q9 zf.out hb4).setCell (p:=⟨W1.heap.size,6,none⟩) (by show w.heap.size≤W1.heap.size;omega) _;have rW:Hid (gV (fun j=>j=W3.heap.size) (W4.setCell ⟨W1.heap.size,6,none⟩ (.slice (some ⟨W3.heap.size,0,none⟩) m.tok.qj.length m.tok.qj.length)) (some ⟨W3.heap.size,0,none⟩) m.tok.qj m.tok.qj.length):=hs4.stay (vr fun j hj=>by omega);have k6:=hk4.cell 6;have f6:=hk4.frozen 6;have wD:=hk4.lt;simp only[bm,QA,QB,QC]at k6;have qz9:Hid (W3.heap.size<(W4.setCell ⟨W1.heap.size,6,none⟩ (.slice (some ⟨W3.heap.size,0,none⟩) m.tok.qj.length m.tok.qj.length)).heap.size):=by
   have:=nT.2.1.lt;simpa[Hid,World.setCell]using this
  obtain⟨W5,et⟩:=QE (W4.setCell ⟨W1.heap.size,6,none⟩ (.slice (some ⟨W3.heap.size,0,none⟩) m.tok.qj.length m.tok.qj.length));rw[et]at HK5 ae jt rW qz9;clear nT hb4 hs4 hk4 hr4 hl4 hz4 HC q6 ig;go_upto_region 5 with fail;try rw[et]
  clear et k6 f6 wD;have j0:=HK5.out.cell 0;have j1:=HK5.out.cell 1;have j2:=HK5.out.cell 2;have j3:=HK5.out.cell 3;have j4:=HK5.out.cell 4;have j5:=HK5.out.cell 5;have j6:=HK5.out.cell 6;have jlt:=HK5.out.lt;simp only[bm,QA,QB,QC]at j0 j1 j2 j3 j4 j5 j6;have q0:=ae.out.cell 0;have q1:=ae.out.cell 1;have q2:=ae.out.cell 2;have q3:=ae.out.cell 3;have q4:=ae.out.cell 4;have q5:=ae.out.cell 5;have q6:=ae.out.cell 6;have f0:=ae.out.frozen 0;have f1:=ae.out.frozen 1;have f2:=ae.out.frozen 2;have f3:=ae.out.frozen 3;have f4:=ae.out.frozen 4;have f5:=ae.out.frozen 5;have f6:=ae.out.frozen 6;have ig:=ae.out.lt;simp only[tz,QA,QB,QC]at q0 q1 q2 q3 q4 q5 q6;have jQ:=nI (v:=.slice (some ⟨W3.heap.size,0,none⟩) m.tok.qj.length m.tok.qj.length) (t:=m.tok) jt.out (Nat.le_refl _);have HL:=QH (qz7 m.tok (some ⟨W3.heap.size,0,none⟩) m.tok.qj.length (qbP m.tok (some ⟨W3.heap.size,0,none⟩) m.tok.qj.length ae.out));have HE:Hid (bp m.tok w (.returned (.agg (bm m.tok (some ⟨W3.heap.size,0,none⟩) m.tok.qj.length m.tok.qj.length))) (qer W5 w.heap.size m.tok (.slice (some ⟨W3.heap.size,0,none⟩) m.tok.qj.length m.tok.qj.length))):=by
   have hbt:=qlT W5 w.heap.size (.slice (some ⟨W3.heap.size,0,none⟩) m.tok.qj.length m.tok.qj.length) m.tok;have hs6:=rW.out.stay (kV.lu hbt (fun j hj=>by have:=rU.out;show ¬ j=w.heap.size;omega));refine⟨some ⟨W3.heap.size,0,none⟩,m.tok.qj.length,rfl,qoU hs6.at_.ints,fun b o e=>?_,jQ⟩;simp only[Option.some.injEq,Addr.mk.injEq,and_true]at e;have h1:=rU.out;have h2:=rW.out;have h3:=hbt.size;refine⟨by omega,?_⟩;have:=qz9.out;omega
  clear jQ;go_wp2_with fail;exact bodyPost_ret (v:=.agg (bm m.tok (some ⟨W3.heap.size,0,none⟩) m.tok.qj.length m.tok.qj.length)) (im.xf rfl _ _ _ ⟨w.heap.size,0,none⟩ _ rfl HL.out) rfl HE.out
end Go.Proofs.YtdagdllomphidaaGreatDoor.vt.pg
namespace Go.Proofs.YtdagdllomphidaaGreatDoor
open _root_.Go.Proofs.Tryz Go Go.RowKit
end Go.Proofs.YtdagdllomphidaaGreatDoor
namespace Go.Proofs.YtdagdllomphidaaGreatDoor.jr
open _root_.Go.Proofs.Tryz Go Go.RowKit dk wi
structure qzA where
 at_:Int
 c:UInt8
 short:Bool
def tK (w:World)(a:Option Addr)(zs:List qzA):Prop :=
 ∀i (h:i<zs.length),∃b o,a=some ⟨b,o,none⟩∧b<w.heap.size∧w.cell? ⟨b,o+i*3,none⟩=some (.int .i64 zs[i].at_)∧w.cell? ⟨b,o+i*3+1,none⟩=some (.int .u8 (zs[i].c.toNat:Int))∧w.cell? ⟨b,o+i*3+2,none⟩=some (.bool zs[i].short)∧qD zs[i].at_
theorem ri (n:Nat)(k:Int):dk.look (List.replicate n none) k=none:=by
 unfold dk.look;split
 ·rw[List.getElem?_replicate];split <;> rfl
 ·rfl
theorem JJ.n{tgt:Int→Bt}{d:DD}(h:JJ 200 tgt d):d.n=200:=h.rb.1
theorem JJ.now{tgt:Int→Bt}{d:DD}(h:JJ 200 tgt d):d.now=d.base:=by unfold DD.now;rw[h.more];rfl
theorem JJ.read{tgt:Int→Bt}{d:DD}(h:JJ 200 tgt d)(k:Int)(h0:145≤k)(h1:k<200):d.read k=(tgt k,0):=by
 unfold DD.read;have:d.has k=true:=by
  unfold DD.has;rw[h.n];simp;omega
 rw[if_neg (by rw[h.on];simp),if_neg (by rw[this];simp),h.now];exact congrArg (fun x=>(x,(0:Int))) (h.is k h0)
section
variable {w:World} {B p:Nat} {d:DD}
end
end Go.Proofs.YtdagdllomphidaaGreatDoor.jr
namespace Go.Proofs.YtdagdllomphidaaGreatDoor.jr
open _root_.Go.Proofs.Tryz Go Go.RowKit dk wi
theorem rj (d:DD)(bs:List Bool):(d.bK bs).qi=d.qi:=by
 unfold DD.bK;split <;> rfl
theorem RJ.n{tgt:Int→Bt}{d:DD}(h:RJ 200 tgt d):d.n=200:=h.rb.1
section
variable {w:World} {G:Nat→Prop} {p:Nat} {d:DD}
end
theorem ir.block{w:World}{B:Nat}{A:Option Addr}{n c:Nat}{l:List Wr}(h:ir w B (.slice A n c) l):∀b o,A=some ⟨b,o,none⟩→B≤b∧b<w.heap.size:=by
 intro b o hA;subst hA;rcases h.2 with⟨hv,_⟩|⟨g,cap,cur,hv,hg,hh,_⟩
 ·cases hv
 ·simp only[Value.slice.injEq,Option.some.injEq,Addr.mk.injEq]at hv;obtain⟨⟨rfl,_⟩,_⟩:=hv;exact⟨hg,(Array.getElem?_eq_some_iff.1 hh).1⟩
theorem tK.below{w w':World}{a:Option Addr}{zs:List qzA}(h:tK w a zs)(hb:Below w.heap.size w w'):tK w' a zs:=by
 intro i hi;obtain⟨b,o,h1,h2,h3,h4,h5,h6⟩:=h i hi;refine⟨b,o,h1,Nat.lt_of_lt_of_le h2 hb.size,?_,?_,?_,h6⟩
 ·rw[hb.cell (p:=⟨b,o+i*3,none⟩) h2];exact h3
 ·rw[hb.cell (p:=⟨b,o+i*3+1,none⟩) h2];exact h4
 ·rw[hb.cell (p:=⟨b,o+i*3+2,none⟩) h2];exact h5
end Go.Proofs.YtdagdllomphidaaGreatDoor.jr
namespace Go.Proofs.YtdagdllomphidaaGreatDoor.jr
open _root_.Go.Proofs.Tryz Go Go.RowKit dk wi
def Rest (d:DD):Prop:=d.n=200∧d.more=[]
theorem JJ.rest{tgt:Int→Bt}{d:DD}(h:JJ 200 tgt d):Rest d:=⟨h.n,h.more⟩
theorem RJ.rest{tgt:Int→Bt}{d:DD}(h:RJ 200 tgt d):Rest d:=⟨h.n,h.more⟩
end Go.Proofs.YtdagdllomphidaaGreatDoor.jr
namespace Go.Proofs.YtdagdllomphidaaGreatDoor.jr
open _root_.Go.Proofs.Tryz dk wi
def la:Bt:=rep 97 32
end Go.Proofs.YtdagdllomphidaaGreatDoor.jr
namespace Go.Proofs.YtdagdllomphidaaGreatDoor.jr
open _root_.Go.Proofs.Tryz Go Go.RowKit dk wi
theorem qbR(w:World):Calls prog 41 #[.pointer none] w fun e w'=>e=.returned (.int .i64 1)∧w=w':=by
 go_enter func41,ntmps41;go_wp2_with (go_at_call 83;refine(qh2 _).mono ?_;rintro e w' ⟨rfl,rfl⟩);go_ret;exact⟨rfl,rfl⟩
section
variable {most:Nat} {w:World} {B p:Nat} {d:DD}
end
end Go.Proofs.YtdagdllomphidaaGreatDoor.jr
namespace Go.Proofs.YtdagdllomphidaaGreatDoor.vt.pg
open _root_.Go.Proofs.Tryz Go Go.RowKit Go.Sort ib mt im sp
theorem nK {W:World}{g:Nat}{v0 v1 v2 u0 u1 u2:Value}{t t':Tk}{ty:TypeId}(h:qg W g ty (mC u0 u1 u2 t')):qg (xz W g v0 v1 v2 t) g ty (mC v0 v1 v2 t):=by
 have h9:=((((((((h.qo 0 v0).qo 1 v1).qo 2 (.int .u64 (t.base.1:Int))).qo 3 (.int .u64 (t.base.2:Int))).qo 4 (.int .u64 (t.target.1:Int))).qo 5 (.int .u64 (t.target.2:Int))).qo 6 (.int .i64 t.next)).qo 7 (.int .i64 t.all)).qo 8 v2;simp only[mC,List.setIfInBounds_toArray,List.set_cons_succ,List.set_cons_zero]at h9;exact h9
theorem qoV{W:World}{g:Nat}{v0 v1 v2:Value}{t:Tk}(h:qg W g 98 (mC v0 v1 v2 t)):(loadVar 98 ⟨g,0,none⟩).run prog W=.ok (.agg (mC v0 v1 v2 t)) W :=
 run_loadVar_row W g 98 98 _ (0,0) _ h underlying98 rfl (by kernel_rfl)
theorem qbS{w:World}(A0 A1 A2:Option Addr)(n0 n1 n2 c0 c1 c2:Nat)(t:Tk):Calls prog 46 #[.agg (mC (.slice A0 n0 c0) (.slice A1 n1 c1) (.slice A2 n2 c2) t)] w fun e w'=>e=.returned (.agg (mC (.slice A0 n0 c0) (.slice A1 n1 c1) (.slice A2 n2 c2) t))∧Below w.heap.size w w':=by
 have hb1:=(Below.refl _ w).alloc (Nat.le_refl _) (.cells (mC (.slice A0 n0 c0) (.slice A1 n1 c1) (.slice A2 n2 c2) t) 93);have zN:=qg.new w 93 (mC (.slice A0 n0 c0) (.slice A1 n1 c1) (.slice A2 n2 c2) t);obtain⟨W1,hW1⟩:=QE (w.alloc (.cells (mC (.slice A0 n0 c0) (.slice A1 n1 c1) (.slice A2 n2 c2) t) 93));rw[hW1]at hb1 zN;have hb2:=(Below.refl _ W1).alloc (Nat.le_refl _) (.cells (mt.pg.mZ (.slice none 0 0) (.slice none 0 0)) 98);have hk2:=qg.new W1 98 (mt.pg.mZ (.slice none 0 0) (.slice none 0 0));obtain⟨W2,hW2⟩:=QE (W1.alloc (.cells (mt.pg.mZ (.slice none 0 0) (.slice none 0 0)) 98));rw[hW2]at hb2 hk2;have cT:=zN.below hb2;have m0:=cT.cell 0;have m1:=cT.cell 1;have m2:=cT.cell 2;have m3:=cT.cell 3;have m4:=cT.cell 4;have m5:=cT.cell 5;have m6:=cT.cell 6;have m7:=cT.cell 7;have m8:=cT.cell 8;have hml:=cT.lt;have a0:=hk2.cell 0;have a1:=hk2.cell 1;have a2:=hk2.cell 2;have a3:=hk2.cell 3;have a4:=hk2.cell 4;have a5:=hk2.cell 5;have a6:=hk2.cell 6;have a7:=hk2.cell 7;have a8:=hk2.cell 8;have f0:=hk2.frozen 0;have f1:=hk2.frozen 1;have f2:=hk2.frozen 2;have f3:=hk2.frozen 3;have f4:=hk2.frozen 4;have f5:=hk2.frozen 5;have f6:=hk2.frozen 6;have f7:=hk2.frozen 7;have f8:=hk2.frozen 8;have hal:=hk2.lt;simp only[mC,mt.pg.mZ,QA,QB,QC]at m0 m1 m2 m3 m4 m5 m6 m7 m8 a0 a1 a2 a3 a4 a5 a6 a7 a8;have hres:qg W2 W1.heap.size 98 (mC nlS nlS nlS zL):=hk2;have HF:Hid (qg (xz W2 W1.heap.size (.slice A0 n0 c0) (.slice A1 n1 c1) (.slice A2 n2 c2) t) W1.heap.size 98 (mC (.slice A0 n0 c0) (.slice A1 n1 c1) (.slice A2 n2 c2) t)∧Below w.heap.size w (xz W2 W1.heap.size (.slice A0 n0 c0) (.slice A1 n1 c1) (.slice A2 n2 c2) t)) :=
  ⟨nK hres,gq (q9 hb1 hb2) (by have:=zN.lt;omega)⟩
 unfold mC at hW1 ⊢;unfold mt.pg.mZ at hW2;clear hb1 zN hb2 hk2 cT hres;go_enter func46,ntmps46;go_upto_region 1 with fail;try rw[hW1]
 try rw[hW2]
 clear hW1 hW2;go_wp2_with fail;show bodyPost _ _ _ _ _ (xz W2 W1.heap.size (.slice A0 n0 c0) (.slice A1 n1 c1) (.slice A2 n2 c2) t);have hf:=HF.out;obtain⟨WE,hWE⟩:=QE (xz W2 W1.heap.size (.slice A0 n0 c0) (.slice A1 n1 c1) (.slice A2 n2 c2) t);rw[hWE]at hf ⊢;exact bodyPost_ret (v:=.agg (mC (.slice A0 n0 c0) (.slice A1 n1 c1) (.slice A2 n2 c2) t)) (im.xf rfl _ _ _ ⟨W1.heap.size,0,none⟩ _ rfl (qoV hf.1)) rfl ⟨rfl,hf.2⟩
theorem quY(N:Nat)(room:Int):jr.wI (jr.rd (dk.DD.new N room).now 0)=none:=by
 have:jr.rd (dk.DD.new N room).now 0=dk.zz:=by
  show jr.rd (List.replicate N none) 0=dk.zz;unfold jr.rd;rw[jr.ri];rfl
 rw[this];decide +kernel
theorem qbT{o:Nat→Prop}{w:World}{pd:Nat}{d:DD}(h:dk.zj 1000 w o pd d)(zK:d.on=true)(hh:jr.wI (jr.rd d.now 0)=none)(hn:0<d.n):Calls prog 41 #[pt pd] w fun e w'=>e=.returned (.int .i64 8)∧Below w.heap.size w w':=by
 have HD:=QH h;have HP:=QH (jr.dP h);have HON:=QH zK;rw[zK]at HP;have HHD:=QH hh;clear h zK hh;go_enter func41,ntmps41;go_wp2_with (go_at_call 83;refine HP.out.mono ?_;rintro e w' ⟨rfl,rfl⟩);refine(jr.qf1 1000 w o pd d HD.out HON.out hn).mono ?_;intro e W1 xP;obtain⟨b1,⟨a,c,hq,rfl⟩|⟨hq,x,y,rfl⟩⟩:=jr.ua xP
 ·rw[HHD.out]at hq;cases hq
 ·have zk:=QH b1;clear b1 xP hq;go_wp2_with fail;go_ret;exact⟨rfl,zv zk.out _⟩
theorem tL (w:World):Calls prog 12 #[.pointer none] w fun e w'=>e=.returned (.tuple #[.pointer none,.int .i64 1])∧Below w.heap.size w w':=by
 have HR:=QH (jr.qbR w);go_enter func12,ntmps12;go_wp2_with fail;refine HR.out.mono ?_;rintro e W1 ⟨rfl,rfl⟩;go_wp2_with fail;go_ret2;exact⟨rfl,Below.refl _ _⟩
theorem tM {o:Nat→Prop}{w:World}{pd:Nat}(N:Nat)(room:Int)(h:dk.zj 1000 w o pd (dk.DD.new N room))(hN:0<N):Calls prog 12 #[pt pd] w fun e w'=>e=.returned (.tuple #[.pointer none,.int .i64 8])∧Below w.heap.size w w':=by
 have HR:=QH (qbT h rfl (quY N room) (by simp[dk.DD.n,dk.DD.new];omega));clear h;go_enter func12,ntmps12;go_wp2_with fail;refine HR.out.mono ?_;rintro e W1 ⟨rfl,hb⟩;have HB:=QH hb;clear hb HR;go_wp2_with fail;go_ret2;exact⟨rfl,HB.out⟩
theorem qlU{b N:Nat}{m:Mt}(h:yD b N m)(h0:m.tok.target=(0,0)):m.tok=zL:=by
 rcases h.tok with ht|ht
 ·exact ht
 ·exfalso;have e2:=ht.2.1;rw[h0]at e2;unfold mt.above at e2;simp at e2
theorem qbU{o:Nat→Prop}{w:World}{pd N b:Nat}{d:DD}{t:Tg}{m:Mt}(h:dk.zj 1000 w o pd d)(ew:xC w)(hog:¬ o gN)(hJ:jr.RJ N t d)(hf:d.qi=0)(hR:qM b N t m) :
    Calls prog 12 #[pt pd] w fun e w'=>∃v d' wP uL,e=.returned (.tuple #[pt v,.int .i64 0])∧VP jg w' wP uL v pd d' m false∧jr.JJ N t d'∧d'.qi=0∧ib.qB o w w'∧(∀j,wP j→w.heap.size≤j)∧∀j,uL j→o j∨w.heap.size≤j:=by
 have hdn:d.n=N:=hJ.rb.1;have qq3:145<d.n:=by rw[hdn];have:=hR.N0;omega
 have HRC:=QH (jr.oD jr.qf1 h qq3 ew (by rw[hJ.more];decide) (by decide));have HRA:Hid ((jr.xa d).1=0∧jr.JJ N t (jr.xa d).2∧(jr.xa d).2.qi=0):=by
  rcases jr.qaX hJ (by omega)with⟨h1,h2,h3,_⟩|⟨_,_,h3,_⟩
  ·exact⟨h1,h2,h3 hf⟩
  ·exact absurd hf h3
 obtain⟨RC,hRC⟩:=QE (jr.xa d);rw[hRC]at HRC HRA;obtain⟨r,d1⟩:=RC;have hr0:r=0:=HRA.out.1;subst hr0;have wK:=QH ew;have HOG:=QH hog;have HR:=QH hR;clear h hJ hf hR hRC hdn qq3 ew hog;go_enter func12,ntmps12;go_wp2_with fail;refine HRC.out.mono ?_;rintro e W1 ⟨rfl,o2,hd1,hb1,hg1⟩;have HD1:=QH hd1;have zk:Hid (ib.qB o w W1):=mH hb1;have HG1:Hid (∀j,o2 j→o j∨w.heap.size≤j):=hg1;have qid:xC W1:=vq wK.out zk.out.size (zk.out.block gN (zG wK.out) HOG.out);have qzB:=QH qid;have hR:=HR.out;have htx:=qdT hd1 qid HRA.out.2.1 hR.N0 (u:=zx m) (by have:=hR.ok.size hR.N1;omega) (xH hR.ok hR.N1).2 hR.home;have HTX:=QH htx;clear hd1 hb1 hg1 qid htx HRC;go_wp2_with fail;refine HTX.out.mono ?_;rintro e W2 ⟨rfl,hb2⟩;have qG:=QH hb2;have hdc:=qnZ (str (zx m)) W2 (by rw[qO];have:=hR.ok.size hR.N1;omega) m (by rw[zo];exact hR.ok.back hR.N1);have HDC:=QH hdc;obtain⟨S,hS⟩:=QE (str (zx m));rw[hS]at HDC ⊢;clear hb2 hdc hS HTX hR;go_wp2_with fail;refine HDC.out.mono ?_;rintro e W3 ⟨A0,A1,A2,c0,c1,c2,rfl,hT,hb3⟩;have p8:=QH hT.bound;have zf:=QH hb3;have hb4:=(Below.refl _ W3).alloc (Nat.le_refl _) (.cells (mt.pg.mZ (.slice none 0 0) (.slice none 0 0)) 93);have hk4:=qg.new W3 93 (mt.pg.mZ (.slice none 0 0) (.slice none 0 0));obtain⟨W4,tZ⟩:=QE (W3.alloc (.cells (mt.pg.mZ (.slice none 0 0) (.slice none 0 0)) 93));rw[tZ]at hb4 hk4;have a0:=hk4.cell 0;have a1:=hk4.cell 1;have a2:=hk4.cell 2;have a3:=hk4.cell 3;have a4:=hk4.cell 4;have a5:=hk4.cell 5;have a6:=hk4.cell 6;have a7:=hk4.cell 7;have a8:=hk4.cell 8;have f0:=hk4.frozen 0;have f1:=hk4.frozen 1;have f2:=hk4.frozen 2;have f3:=hk4.frozen 3;have f4:=hk4.frozen 4;have f5:=hk4.frozen 5;have f6:=hk4.frozen 6;have f7:=hk4.frozen 7;have f8:=hk4.frozen 8;have hal:=hk4.lt;simp only[mt.pg.mZ,QA,QB,QC]at a0 a1 a2 a3 a4 a5 a6 a7 a8;have hres:qg W4 W3.heap.size 93 (mC nlS nlS nlS zL):=hk4;have HF:Hid (qg (xz W4 W3.heap.size (.slice A0 m.live.length c0) (.slice A1 m.qa.length c1) (.slice A2 m.tok.qj.length c2) m.tok) W3.heap.size 93 (mC (.slice A0 m.live.length c0) (.slice A1 m.qa.length c1) (.slice A2 m.tok.qj.length c2) m.tok)∧Below W3.heap.size W3 (xz W4 W3.heap.size (.slice A0 m.live.length c0) (.slice A1 m.qa.length c1) (.slice A2 m.tok.qj.length c2) m.tok)) :=
  ⟨nK hres,gq hb4 (Nat.le_refl _)⟩
 unfold mt.pg.mZ at tZ;unfold zi;clear hb3 hT hb4 hk4 hres HDC;go_upto_region 8 with fail;try rw[tZ]
 show Code.wp _ _ _ _ (xz W4 W3.heap.size (.slice A0 m.live.length c0) (.slice A1 m.qa.length c1) (.slice A2 m.tok.qj.length c2) m.tok);obtain⟨W5,et⟩:=QE (xz W4 W3.heap.size (.slice A0 m.live.length c0) (.slice A1 m.qa.length c1) (.slice A2 m.tok.qj.length c2) m.tok);rw[et]at HF ⊢;clear tZ et a0 a1 a2 a3 a4 a5 a6 a7 a8 f0 f1 f2 f3 f4 f5 f6 f7 f8 hal;have hblk:=HF.out.1;have b35:=HF.out.2;have qlV:=QH (q9 (q9 qG.out zf.out) b35);have p9:=QH (p8.out.below b35);have HD5:=QH (HD1.out.below qlV.out);have k0:=hblk.cell 0;have k1:=hblk.cell 1;have k2:=hblk.cell 2;have k3:=hblk.cell 3;have k4:=hblk.cell 4;have k5:=hblk.cell 5;have k6:=hblk.cell 6;have k7:=hblk.cell 7;have k8:=hblk.cell 8;have dS:=hblk.lt;simp only[mC,QA,QB,QC]at k0 k1 k2 k3 k4 k5 k6 k7 k8;have e0:=fun d os=>cell_regrown k0 d os;have e1:=fun d os=>cell_regrown k1 d os;have e2:=fun d os=>cell_regrown k2 d os;have e3:=fun d os=>cell_regrown k3 d os;have e4:=fun d os=>cell_regrown k4 d os;have e5:=fun d os=>cell_regrown k5 d os;have e6:=fun d os=>cell_regrown k6 d os;have e7:=fun d os=>cell_regrown k7 d os;have e8:=fun d os=>cell_regrown k8 d os;have hR:=HR.out;have hlen:m.live.length=b:=hR.ok.len;have hdn:d1.n=N:=HRA.out.2.1.rb.1;have cL:∀b os,Calls prog 45 #[pt pd] (grow (redrawn W5 b) os) fun e w''=>e=.returned (.int .i64 (N:Int))∧∃q:Regrown,w''=grow (redrawn W5 q.d) q.os :=
  fun b os=>Calls.regrown_of ((cN (HD5.out.below (below_regrown W5 b os))).mono fun e w' hx=>⟨by rw[← hdn];exact hx.1,by rw[← hx.2];exact Below.refl _ _⟩)
 have cC:∀b os,Calls prog 44 #[.agg (zi A0 A1 A2 c0 c1 c2 m),.int .i64 (m.live.length:Int),.int .i64 (N:Int)] (grow (redrawn W5 b) os) fun e w''=>e=.returned (.int .i64 0)∧∃q:Regrown,w''=grow (redrawn W5 q.d) q.os :=
  fun b os=>by
   have hc:=mt.pg.py (.agg (zi A0 A1 A2 c0 c1 c2 m)) m (m.live.length:Int) (N:Int) (grow (redrawn W5 b) os) ⟨A0,A1,A2,c0,c1,c2,rfl,(p9.out.below (below_regrown W5 b os)).mt⟩ (iY hR.ok) (by unfold qD;have:=hR.ok.b8;omega) (by unfold qD;have:=hR.N1;omega);have h0:xj m (m.live.length:Int) (N:Int)=0:=by rw[hlen];exact hR.ok.check
   rw[h0]at hc;exact Calls.regrown_of hc
 have qzC:=QH hblk;unfold zi at cC;clear hblk b35 hlen hdn hR;refine wp_region_quiet_below dp (by kernel_rfl) ?_;repeat (any_goals (first|go_big_quiet_step (first|exact cL _ _|exact cC _ _)|quiet_step (first|exact cL _ _|exact cC _ _)))
 refine wpQuiet_nil ?_;intro _ hw';obtain⟨⟨dq,osq⟩,hw''⟩:=hw';subst hw'';have jQ:=below_regrown W5 dq osq;have vL:=QH jQ;have hblk:=qzC.out.below jQ;clear jQ e0 e1 e2 e3 e4 e5 e6 e7 e8 k0 k1 k2 k3 k4 k5 k6 k7 k8 dS cL cC qzC;generalize grow (redrawn W5 dq) osq=W6 at *;have k0:=hblk.cell 0;have k1:=hblk.cell 1;have k2:=hblk.cell 2;have k3:=hblk.cell 3;have k4:=hblk.cell 4;have k5:=hblk.cell 5;have k6:=hblk.cell 6;have k7:=hblk.cell 7;have k8:=hblk.cell 8;have dS:=hblk.lt;simp only[mC,QA,QB,QC]at k0 k1 k2 k3 k4 k5 k6 k7 k8;have HTO:=QH (qbS (w:=W6) A0 A1 A2 m.live.length m.qa.length m.tok.qj.length c0 c1 c2 m.tok);unfold mC at HTO;clear hblk;go_wp2_with fail;refine HTO.out.mono ?_;rintro e W7 ⟨rfl,hb7⟩;have HB7:=QH (q9 vL.out hb7);have hb8:=(Below.refl _ W7).alloc (Nat.le_refl _) (.cells (vC A0 A1 A2 c0 c1 c2 m pd false) 101);have hk8:=qg.new W7 101 (vC A0 A1 A2 c0 c1 c2 m pd false);obtain⟨W8,hW8⟩:=QE (W7.alloc (.cells (vC A0 A1 A2 c0 c1 c2 m pd false) 101));rw[hW8]at hb8 hk8;have HB8:=QH (q9 HB7.out hb8);have qie:=QH (q9 qlV.out HB8.out);have HK8:=QH hk8;have eM:Hid (W1.heap.size≤W2.heap.size∧W2.heap.size≤W3.heap.size∧W3.heap.size≤W5.heap.size∧W5.heap.size≤W7.heap.size∧W7.heap.size<W8.heap.size):=⟨qG.out.size,zf.out.size,HF.out.2.size,HB7.out.size,hk8.lt⟩;unfold vC at hW8;clear hb7 hb8 hk8 HTO k0 k1 k2 k3 k4 k5 k6 k7 k8 dS;go_wp2_with fail;try rw[hW8]
 clear hW8;go_ret2;have hR:=HR.out;have hsz:=eM.out;have h1s:=zk.out.size;have xE:∀j,o2 j→j<W1.heap.size:=fun j hj=>uE HD1.out j hj;have hgn:gN<w.heap.size:=zG wK.out;have hg2:¬ o2 gN:=fun h=>by
  rcases HG1.out gN h with h|h
  ·exact HOG.out h
  ·omega
 refine⟨W7.heap.size,d1,fun j=>w.heap.size≤j∧j<W8.heap.size∧¬ o2 j,o2,rfl,⟨⟨A0,A1,A2,c0,c1,c2,HK8.out,?_,iY hR.ok,x9 qzB.out qie.out (zG qzB.out),⟨by omega,by omega,fun h=>by have:=xE _ h;omega⟩,fun j hj=>hj.2.1,by omega,qlU hR.ok⟩,HD1.out.below qie.out,fun j hj=>?_⟩,HRA.out.2.1,HRA.out.2.2,?_,fun j hj=>hj.1,fun j hj=>HG1.out j hj⟩
 ·refine(p8.out.below HF.out.2).mono (G':=fun j=>(w.heap.size≤j∧j<W8.heap.size∧¬ o2 j)∧j≠W7.heap.size) (fun j hj=>⟨⟨by omega,by omega,fun h=>by have:=xE _ h;omega⟩,by omega⟩) |>.below HB8.out
 ·rcases hj with hj|hj
  ·exact hj.2.2
  ·rw[hj];exact hg2
 ·exact zk.out.trans (S':=fun _=>False) (ib.qB.of_below qie.out) (fun _ h=>h.elim)
end Go.Proofs.YtdagdllomphidaaGreatDoor.vt.pg
namespace Go.Proofs.YtdagdllomphidaaGreatDoor.dk
open _root_.Go.Proofs.Tryz Go Go.RowKit
theorem tN {P:Program}{ρ:Operand→Value}{o:Oper}{w w':World}{vx vy v':Value}{t:TypeId}(x y:Operand)(ho:o.op=.call { callee:=.builtin .append,args:=#[x,y],argTypes:=#[t,t] })(ht:o.type=t)(hx:ρ x=vx)(hy:ρ y=vy)
    (hrun:(Builtin.append_ #[t,t] t #[vx,vy]).run P w=.ok v' w'):(execOp ρ o).run P w=.ok (.value v') w':=by
 simp[execOp,ho,resolve,invoke,builtin,hx,hy,ht,hrun,Result.andThen]
theorem zA.twin{w w':World}{m n:Nat}{s:qA}(h:zA w m s):∃es clock,w.heap[m]?=some (.map es clock)∧∀(w':World) (n:Nat),w'.heap[n]?=some (.map es clock)→zA w' n s:=by
 obtain⟨D,⟨es,clock,h1,h2⟩,h3⟩:=h;exact⟨es,clock,h1,fun w' n hn=>⟨D,⟨es,clock,hn,h2⟩,h3⟩⟩
theorem qet(b:Nat)(es:Array MapEntry)(clock:Nat)(w:World)(hb:w.heap[b]?=some (.map es clock)) :
    Calls prog 118 #[.map (some b)] w fun e w'=>e=.returned (.map (some w.heap.size))∧w'=w.alloc (.map es clock):=by
 have hq:=fun w=>run_eql_map_nil_sl (P:=prog) w 104 _ _ (some b) underlying104;go_enter func118,ntmps118;go_wp2;rw[run_callFunc_extern func173 (by kernel_rfl) (by kernel_rfl) (by kernel_rfl) (e:=Extern.MapsClone.clone) (by kernel_rfl),run_maps_clone_sl w 104 hb];simp only[Result.andThen];rw[Oper.upon_value];go_wp2;rw[run_typeAssert_map_sl _ 104 _ _ _ _ underlying104];simp only[Result.andThen];rw[Oper.upon_value];go_wp2;go_ret;exact⟨rfl,rfl⟩
theorem qbV{ρ:Operand→Value}{o:Oper}{w:World}(ho:o.op=.buildSlice 105 0 #[]) :
    (execOp ρ o).run prog w=.ok (.value (.slice (some ⟨w.heap.size,0,none⟩) 0 0)) (w.alloc (.cells #[] 125)):=by
 unfold execOp;rw[ho];go_simp
theorem qf3(w:World)(a:Option Addr)(n c:Nat):(binOp .eql 105 (.slice a n c) (.slice none 0 0)).run prog w=.ok (.bool a.isNone) w:=by
 simp only[binOp];simp[run_equal_slice_nil _ _ _ _ _ _ underlying105]
def qeu (n:Nat)(xs:List Value)(w:World)(e:Ending)(w':World):Prop:=∃v',e=.returned v'∧w'.ownsRow w.heap.size 125 66 v' n xs∧Below w.heap.size w w'
theorem aU (w:World)(v:Value)(n:Nat)(xs:List Value)(h:w.ownsRow 0 125 66 v n xs)(h1:∀u∈xs,u.oneCell'=true)(hn:n≤100000) :
    Calls prog 119 #[v] w (qeu n xs w):=by
 have hown:=h;rcases h.2 with⟨rfl,h0⟩|⟨g,cap,cur,rfl,hg,hh,hc,hm,hcs,xt⟩
 ·subst h0;have hx:xs=[]:=by have:=h.1;simpa using this
  subst hx;have hq:=fun w=>qf3 w none 0 0;clear hown h;go_enter func119,ntmps119;go_wp2_with fail;go_ret;exact⟨_,rfl,World.ownsRow_nil _ _ _ _,Below.refl _ _⟩
 ·obtain⟨i0,hi,hz0,hz1,hz2⟩:=info_parts qdd;have hcell:∀(j:Nat) (u:Value),xs[j]?=some u→(w.alloc (.cells #[] 125)).cell? ((⟨g,0,none⟩:Addr).add j)=some u:=by
   intro j u hu;rw[addr_add,Nat.zero_add];have hj:j<xs.length:=(List.getElem?_eq_some_iff.1 hu).1;have:=World.ownsRow.cellAt hown j (by rw[← hown.1];exact hj);rw[World.cell?_of_block (a:=⟨g,j,none⟩) (Below.heap_alloc w _ g (Array.getElem?_eq_some_iff.1 hh).1),this];exact hu
  obtain⟨v',w',hrun,h2,h3,_⟩:=run_append_own (P:=prog) (w.alloc (.cells #[] 125)) w.heap.size 105 105 125 i0 _ 66 80 underlying105 hi hz0 hz1 hz2 (by simp[Value.cells,qX,qI]) (by decide) (.slice (some ⟨w.heap.size,0,none⟩) 0 0) 0 [] (World.ownsRow_made w #[] 0 (Nat.le_refl _) (by decide) rfl) ⟨g,0,none⟩ n cap xs h.1 hcell h1 (by unfold maxLen;omega) (by omega) (by simp);rw[Nat.zero_add,List.nil_append]at h2;have HR:=QH hrun;have H2:=QH h2;have H3:=QH h3;clear hown h hcell h1 hrun h2 h3 hi hz0 hz1 hz2 hcs xt hh;have hq:=fun w=>qf3 w (some ⟨g,0,none⟩) n cap;go_enter func119,ntmps119;go_wp2_with (first|(refine ql rfl (qbV rfl) ?_)|(refine ql rfl (tN (.tmp 5) (.tmp 6) rfl rfl rfl rfl HR.out) ?_));go_ret;refine⟨_,rfl,H2.out,?_⟩;have hb:Below w.heap.size w (w.alloc (.cells #[] 125)):=(Below.refl _ _).alloc (Nat.le_refl _) _;exact hb.grown H3.out hb.size (fun k hk=>by simp[Value.ownBlock]at hk;omega)
theorem quZ:(prog.info? 107).map (·.size)=some 6:=by kernel_rfl
def qev (most:Nat)(d:DD)(w:World)(e:Ending)(w':World):Prop :=
 ∃q own,e=.returned (.pointer (some ⟨q,0,none⟩))∧zj most w' own q d∧Below w.heap.size w w'∧∀k,own k→w.heap.size≤k
section
variable {w:World} {own:Nat→Prop} {p:Nat} {d:DD}
theorem qlW{most:Nat}(h:zj most w own p d)(yF:most≤100000) :
    Calls prog 75 #[.pointer (some ⟨p,0,none⟩)] w (qev most d w):=by
 obtain⟨h0,m,v,h1⟩:=h;have H0:=QH h0;have H1:=QH h1;have hml:d.more.length≤100000:=Nat.le_trans h0.lG yF;have HML:=QH hml;have HON:Hid (∀u∈yC (yN d.base d.more),u.oneCell'=true):=by
  intro u hu;simp only[yC,List.mem_flatMap]at hu;obtain⟨x,_,hu⟩:=hu;exact gy x u hu
 obtain⟨c0,c1,c2,c3,c4,c5⟩:=ju h1.1;obtain⟨V,cv,hA⟩:=xV h1.2.2.1;have qzD:=h1.1.lt;obtain⟨es,clock,hm,hmk⟩:=h1.2.1.twin (w':=w) (n:=0);have HM:=QH hm;have HMK:=QH hmk;subst hA;clear h0 h1 yF hml hm hmk;go_enter func75,ntmps75;go_wp2_with (refine wpList_skip rfl (zr w 107 _ #[.int .i64 (d.n:Int),.int .i64 d.room,.map (some m),.slice V d.more.length cv,.bool d.on,.int .i64 d.qi] (.tmp 3) (.tmp 8) rfl rfl rfl (by rw[quZ];rfl) rfl (by rfl)) ?_);have HP1:Hid (qg (w.alloc (.cells #[.int .i64 (d.n:Int),.int .i64 d.room,.map (some m),.slice V d.more.length cv,.bool d.on,.int .i64 d.qi] 107)) w.heap.size 107 #[.int .i64 (d.n:Int),.int .i64 d.room,.map (some m),.slice V d.more.length cv,.bool d.on,.int .i64 d.qi]):=qg.new _ _ _;have zk:Hid (Below w.heap.size w (w.alloc (.cells #[.int .i64 (d.n:Int),.int .i64 d.room,.map (some m),.slice V d.more.length cv,.bool d.on,.int .i64 d.qi] 107))):=(Below.refl _ _).alloc (Nat.le_refl _) _;generalize w.alloc (.cells #[.int .i64 (d.n:Int),.int .i64 d.room,.map (some m),.slice V d.more.length cv,.bool d.on,.int .i64 d.qi] 107)=X1 at *;clear c0 c1 c2 c3 c4 c5;obtain⟨q,hq⟩:∃q,q=w.heap.size:=⟨_,rfl⟩;rw[← hq]at HP1 ⊢;have HQ:=QH hq;clear hq;refine(qet m es clock X1 ((zk.out.block m (Array.getElem?_eq_some_iff.1 HM.out).1).trans HM.out)).mono ?_;rintro e W2 ⟨rfl,rfl⟩;have nR:Hid (qg (X1.alloc (.map es clock)) q 107 #[.int .i64 (d.n:Int),.int .i64 d.room,.map (some m),.slice V d.more.length cv,.bool d.on,.int .i64 d.qi]):=HP1.out.of_block (Below.heap_alloc _ _ _ HP1.out.lt);have qG:Hid (Below w.heap.size w (X1.alloc (.map es clock))):=zk.out.alloc zk.out.size _;have rT:Hid (zA (X1.alloc (.map es clock)) X1.heap.size d.now):=HMK.out _ _ (heap_alloc_new _ _);have HQM:Hid (q<X1.heap.size):=HP1.out.lt;obtain⟨m2,hm2⟩:∃x,x=X1.heap.size:=⟨_,rfl⟩;rw[← hm2]at rT HQM ⊢;have zbt:Hid (m2<(X1.alloc (.map es clock)).heap.size):=rT.out.lt;clear hm2;generalize X1.alloc (.map es clock)=X2 at *;obtain⟨q0,q1,q2,q3,q4,q5⟩:=ju nR.out;have fq:=nR.out.frozen 2;have ig:=nR.out.lt;obtain⟨s0,s1,s2,s3,s4,s5⟩:=ju (H1.out.keep qG.out.size (fun k hk=>qG.out.block k (H1.out.2.2.2.2.2.2 k hk))).1;have hpl:p<X2.heap.size:=Nat.lt_of_lt_of_le qzD qG.out.size;have hpq:p<q:=by rw[HQ.out];exact qzD
 go_wp2_with fail;have HP3:Hid (qg (X2.setCell ⟨q,2,none⟩ (.map (some m2))) q 107 #[.int .i64 (d.n:Int),.int .i64 d.room,.map (some m2),.slice V d.more.length cv,.bool d.on,.int .i64 d.qi]):=nR.out.qo 2 _;have zf:Hid (Below w.heap.size w (X2.setCell ⟨q,2,none⟩ (.map (some m2)))):=qG.out.setCell (by rw[HQ.out];exact Nat.le_refl _) _;have HM3:Hid (zA (X2.setCell ⟨q,2,none⟩ (.map (some m2))) m2 d.now):=rT.out.of_block (zV _ _ _ _ _ (Nat.ne_of_gt HQM.out));generalize X2.setCell ⟨q,2,none⟩ (.map (some m2))=X3 at *;clear q0 q1 q2 q3 q4 q5 fq ig s0 s1 s2 s3 s4 s5 hpl;have qq5:X3.ownsRow 0 125 66 (.slice V d.more.length cv) d.more.length (yC (yN d.base d.more)):=(H1.out.keep zf.out.size (fun k hk=>zf.out.block k (H1.out.2.2.2.2.2.2 k hk))).2.2.1;refine(aU X3 _ _ _ qq5 HON.out HML.out).mono ?_;rintro e W4 ⟨v4,rfl,ho4,hb4⟩;obtain⟨A4,c4,rfl⟩:=xV ho4;have sK:=QH ho4;have zU:=QH hb4;clear qq5 ho4 hb4;have HP4:Hid (qg W4 q 107 #[.int .i64 (d.n:Int),.int .i64 d.room,.map (some m2),.slice V d.more.length cv,.bool d.on,.int .i64 d.qi]):=HP3.out.of_block (zU.out.block q HP3.out.lt);obtain⟨q0,q1,q2,q3,q4,q5⟩:=ju HP4.out;have fq:=HP4.out.frozen 3;have ig:=HP4.out.lt;go_wp2_with fail;go_ret;have hq3:=HP3.out.lt;have hm3:=HM3.out.lt;have hx3:=zf.out.size;have qm:=HQM.out;have qq:=HQ.out;have h4:=zU.out.size;refine⟨q,fun k=>w.heap.size≤k∧k<W4.heap.size,rfl,⟨H0.out,m2,.slice A4 d.more.length c4,?_⟩,?_,fun k hk=>hk.1⟩
 ·refine⟨HP4.out.qo 3 _,(HM3.out.of_block (zU.out.block m2 hm3)).of_block (zV _ _ _ _ _ (Nat.ne_of_gt qm)),?_,⟨by omega,by omega⟩,⟨by omega,by omega⟩,fun j hj=>?_,fun k hk=>by rw[size_set];exact hk.2⟩
  ·have h5:(W4.setCell ⟨q,3,none⟩ (.slice A4 d.more.length c4)).ownsRow X3.heap.size 125 66 (.slice A4 d.more.length c4) d.more.length (yC (yN d.base d.more)):=ze sK.out (fun j hj=>zV _ _ _ _ _ (by have h:=(sK.out.lt j hj).1;omega));obtain⟨h1,h2⟩:=h5;refine⟨h1,?_⟩;rcases h2 with h2|⟨g,cap,cur,e1,_,e3⟩
   ·exact .inl h2
   ·exact .inr ⟨g,cap,cur,e1,Nat.zero_le _,e3⟩
  ·have h:=sK.out.lt j hj;exact⟨Nat.le_trans hx3 h.1,h.2⟩
 ·exact(zf.out.trans (zU.out.mono zf.out.size)).setCell (by rw[qq];exact Nat.le_refl _) _
end
end Go.Proofs.YtdagdllomphidaaGreatDoor.dk
namespace Go.Proofs.YtdagdllomphidaaGreatDoor.vt.pg
open _root_.Go.Proofs.Tryz Go Go.RowKit Go.Sort ib mt im sp
theorem qbW{b N:Nat}(h1:1≤b)(h8:b≤8):yD b N (m0 b):=by
 refine⟨h1,h8,⟨by simp[m0],fun z hz=>.inl (by simp[m0]at hz;exact hz.2),fun i j _ hj _=>?_⟩,by simp[m0],fun s hs=>by simp[m0]at hs,trivial,.inl rfl,⟨fun s hs=>by simp[m0]at hs,by simp[m0,zL,xn],by simp[m0,zL,xn]⟩⟩;have hl:(m0 b).live=List.replicate b 0:=rfl;unfold pl;rw[hl];simp[List.getD,List.getElem?_replicate];split <;> rfl
theorem dt:∀(ss:List Bt) (o:Nat),((jr.za o ss).map (·.1)).Nodup
 | [],o=>by simp[jr.za]
 | s::r,o=>by
  unfold jr.za;rw[List.map_cons,List.nodup_cons];refine⟨fun h=>?_,dt r (o+1)⟩;obtain⟨x,hx,e⟩:=List.mem_map.1 h;have:=(iy hx).1;dsimp only at e;omega
def fw (b:Nat):List Wr:=jr.za 145 (xw (m0 b))
def ft (b:Nat):Tg:=jr.over (fun _=>dk.zz) (fw b)
theorem tO {b N:Nat}(h1:1≤b)(h8:b≤8)(hN:193≤N)(fZ:N≤1024):∀x∈fw b,145≤x.1∧x.1<(N:Int)∧x.2.length=32:=by
 intro x hx;have h48:=(xH (qbW (N:=N) h1 h8) fZ).2;obtain⟨i,hi,e1,e2⟩:=jr.je _ _ _ hx;rw[List.getElem?_eq_getElem hi]at e2;have e3:=Option.some.inj e2;exact⟨by omega,by omega,by rw[← e3];exact qbb _ _ (List.getElem_mem hi)⟩
theorem qva{b N:Nat}(h1:1≤b)(h8:b≤8)(hN:193≤N)(fZ:N≤1024):jr.mf N (fw b)=0:=by
 have h48:=(xH (qbW (N:=N) h1 h8) fZ).2;have hl:(fw b).length≤48:=by unfold fw;rw[jr.qY];exact h48
 have hp:jr.uC N (fw b)=true:=by
  unfold jr.uC;have hf:=gS (fw b) [] (by simpa[fw]using dt (xw (m0 b)) 145);rw[hf];simp only[List.nil_append,List.length_map,decide_true,Bool.and_true,List.all_eq_true];intro x hx;obtain⟨h1,h2,h3⟩:=tO h1 h8 hN fZ x hx;unfold jr.okW;simp;exact⟨⟨h1,h2⟩,h3⟩
 unfold jr.mf;split
 ·rfl
 ·rw[if_neg (by omega),hp];simp
theorem qvb{b N:Nat}(h1:1≤b)(h8:b≤8)(hN:193≤N)(fZ:N≤1024):qM b N (ft b) (m0 b):=by
 refine⟨qbW h1 h8,hN,fZ,fun i hi=>?_,mn _ _ (fun k _=>dk.qI) fun x hx=>(tO h1 h8 hN fZ x hx).2.2⟩;have hm:(((145+i:Nat):Int),(xw (m0 b))[i])∈fw b:=by
  have key:∀(ss:List Bt) (o i:Nat) (hi:i<ss.length),(((o+i:Nat):Int),ss[i])∈jr.za o ss:=by
   intro ss
   induction ss with
   | nil=>intro o i hi;simp at hi
   | cons s r ih =>
    intro o i hi;unfold jr.za;cases i with
    | zero=>simp
    | succ j =>
     rw[List.getElem_cons_succ,show o+(j+1)=o+1+j by omega];exact List.mem_cons_of_mem _ (ih (o+1) j (by simpa using hi))
  exact key _ 145 i hi
 exact iU _ _ _ hm (dt _ _)
theorem qif(N:Nat)(room:Int)(hN:145<N)(hr:(N:Int)≤room):(jr.ky (dk.DD.new N room)).1=0∧jr.JJ N (fun _=>dk.zz) (jr.ky (dk.DD.new N room)).2∧(jr.ky (dk.DD.new N room)).2.qi=0:=by
 have hn:(dk.DD.new N room).n=N:=by simp[dk.DD.n,dk.DD.new]
 have hgs:∀s∈jr.qF [[((0:Int),jr.jR 0 0)]],jr.fY (dk.DD.new N room).n s:=by
  rw[hn];refine jr.vR fun l hl x hx=>?_;obtain rfl:l=[(0,jr.jR 0 0)]:=by simpa using hl
  obtain rfl:x=(0,jr.jR 0 0):=by simpa using hx
  exact⟨by simp,by simp;omega,(jr.kS (by decide) (by decide)).1⟩
 have e:jr.ky (dk.DD.new N room)=(0,jr.mk (dk.DD.new N room) (dk.qK (List.replicate N none) [(0,jr.jR 0 0)],[]) true 0):=by
  unfold jr.ky;rw[if_neg (by simp[dk.DD.new]),if_neg (by rw[hn];omega),jr.bU _ (dk.DD.new N room) rfl (Int.le_refl _) (by rw[hn];exact hr) hgs (.inl rfl)];have:((dk.DD.new N room).base,(dk.DD.new N room).more)=(List.replicate N none,[]):=rfl;rw[this,jr.dK];rfl
 rw[e];have hk:∀k,145≤k→jr.rd (dk.qK (List.replicate N none) [(0,jr.jR 0 0)]) k=dk.zz:=fun k hk=>by
  rw[jr.jd _ _ _ (fun x hx=>by
   obtain rfl:x=(0,jr.jR 0 0):=by simpa using hx
   dsimp only;omega)]
  unfold jr.rd;rw[jr.ri];rfl
 refine⟨rfl,⟨⟨rfl,rfl,hr,by show(dk.qK _ _).length=N;rw[dk.zm];simp,dk.uU (fun v hv=>by simp at hv) (fun x hx=>?_),0,0,[],?_,.inl ⟨rfl,rfl⟩,?_⟩,hk⟩,rfl⟩
 ·obtain rfl:x=(0,jr.jR 0 0):=by simpa using hx
  exact(jr.kS (by decide) (by decide)).1
 ·show jr.wI (jr.rd (dk.qK (List.replicate N none) [(0,jr.jR 0 0)]) 0)=_;have:jr.rd (dk.qK (List.replicate N none) [(0,jr.jR 0 0)]) 0=jr.jR 0 0:=by
   unfold jr.rd dk.qK;simp only[List.foldl_cons,List.foldl_nil,dk.put];have:=dk.zC (List.replicate N none) 0 (some (jr.jR 0 0)) (by simp;omega);rw[show((0:Int))=((0:Nat):Int)from rfl,this];rfl
  rw[this];exact(jr.kS (by decide) (by decide)).2.1
 ·exact hk
theorem fH {w w':World}{A:Option Addr}{l:List Wr}(h:jr.kY w A l)(hs:w.heap.size≤w'.heap.size)(hb:∀b o,A=some ⟨b,o,none⟩→b<w.heap.size→w'.heap[b]?=w.heap[b]?):jr.kY w' A l:=by
 intro i hi;obtain⟨b,o,h1,h2,h3,h4,h5⟩:=h i hi;have hk:=hb b o h1 h2;exact⟨b,o,h1,Nat.lt_of_lt_of_le h2 hs,(World.cell?_of_block (w:=w) (a:=⟨b,o+i*2,none⟩) hk).trans h3,(World.cell?_of_block (w:=w) (a:=⟨b,o+i*2+1,none⟩) hk).trans h4,h5⟩
theorem kr {o:Nat→Prop}{w:World}{p N b:Nat}{room:Int}(h:dk.zj 1000 w o p (dk.DD.new N room))(ew:xC w)(hog:¬ o gN)(h1:1≤b)(h8:b≤8)(hN:193≤N)(fZ:N≤1024)(hr:(N:Int)≤room){A:Option Addr}{c:Nat}(hA:jr.kY w A (fw b))(hAo:∀b o',A=some ⟨b,o',none⟩→¬ o b) :
    Calls prog 74 #[pt p,.slice A (fw b).length c] w fun e w'=>e=.returned (.int .i64 0)∧∃d' o',dk.zj 1000 w' o' p d'∧jr.JJ N (ft b) d'∧d'.qi=0∧ib.qB o w w'∧∀j,o' j→o j∨w.heap.size≤j:=by
 have HF:=QH (jr.qdS jr.qf0 h (by simp[dk.DD.new]) (by decide));have HNR:=QH (qif N room (by omega) hr);obtain⟨D0,hD0⟩:=QE (jr.ky (dk.DD.new N room));rw[hD0]at HF HNR;obtain⟨r0,d0⟩:=D0;have hr0:r0=0:=HNR.out.1;subst hr0;have wK:=QH ew;have HOG:=QH hog;have HA:=QH hA;have HAO:=QH hAo;have qzE:=QH (qva h1 h8 hN fZ);have HLL:Hid ((fw b).length≤48):=by unfold Hid fw;rw[jr.qY];exact(xH (qbW (N:=N) h1 h8) fZ).2
 have HN:=QH (And.intro hN fZ);have HFT:Hid (ft b=jr.over (fun _=>dk.zz) (fw b)):=rfl;obtain⟨l,hl⟩:=QE (fw b);rw[hl]at HA qzE HLL HFT ⊢;clear h ew hog hA hAo h1 h8 hN fZ hr hD0 hl;obtain⟨n,hn⟩:=QE l.length;have HNL:=QH hn;rw[hn];clear hn;go_enter func74,ntmps74;go_wp2_with fail;refine HF.out.mono ?_;rintro e W1 ⟨rfl,o1,hd1,hb1,hg1⟩;have zk:Hid (ib.qB o w W1):=mH hb1;have HG1:Hid (∀j,o1 j→o j∨w.heap.size≤j):=hg1;have qzF:d0.n=N:=HNR.out.2.1.rb.1;have hA1:=fH HA.out zk.out.size (fun b o' e hb=>zk.out.block b hb (HAO.out b o' e));have qid:xC W1:=vq wK.out zk.out.size (zk.out.block gN (zG wK.out) HOG.out);have hcm:=jr.cU jr.qf0 jr.qf1 hd1 (by rw[qzF];have:=HN.out;omega) A c l hA1 (by have:=HLL.out;omega) qid (by rw[HNR.out.2.1.more];decide) (by decide);have dW:Hid ((jr.zW d0 l).1=0∧jr.JJ N (ft b) (jr.zW d0 l).2∧(jr.zW d0 l).2.qi=0):=by
  rcases jr.mg (N:=N) (tgt:=fun _=>dk.zz) (l:=l) (d:=d0) (by have:=HN.out;omega) HN.out.2 HNR.out.2.1 (by rw[HNR.out.2.2];exact Int.le_refl _) qzE.out with⟨g1,g2,g3,_⟩|⟨_,_,g3,_⟩
  ·exact⟨g1,by rw[HFT.out];exact g2,g3 HNR.out.2.2⟩
  ·exact absurd HNR.out.2.2 g3
 obtain⟨RC,hRC⟩:=QE (jr.zW d0 l);rw[hRC]at hcm dW;obtain⟨r1,d1⟩:=RC;have hr1:r1=0:=dW.out.1;subst hr1;rw[HNL.out]at hcm;have HCM:=QH hcm;clear hd1 hb1 hg1 qzF hA1 qid hcm hRC HF;have hce:((0:Int) != 0)=false:=rfl;go_wp2_with fail;refine HCM.out.mono ?_;rintro e W2 ⟨rfl,o2,hd2,hb2,hg2⟩;have HD2:=QH hd2;have qG:Hid (ib.qB o1 W1 W2):=mH hb2;have HG2:Hid (∀j,o2 j→o1 j∨W1.heap.size≤j):=hg2;clear hd2 hb2 hg2 HCM;go_wp2_with fail;go_ret;have hs:=zk.out.size;refine⟨rfl,d1,o2,HD2.out,dW.out.2.1,dW.out.2.2,zk.out.trans qG.out (fun j hj=>HG1.out j hj),fun j hj=>?_⟩;rcases HG2.out j hj with hj|hj
 ·exact HG1.out j hj
 ·exact .inr (by omega)
theorem qoW{w:World}{B:Nat}{v:Value}{l:List Wr}(h:jr.ir w B v l):∀a n c,v=.slice a n c→∀b o s,a=some ⟨b,o,s⟩→B≤b:=by
 intro a n c hv b o s ha;rcases h.2 with⟨rfl,h0⟩|⟨g,cap,cur,rfl,hg,hh,hcc,hm,hcs,xt⟩
 ·cases hv;cases ha
 ·cases hv;cases ha;exact hg
theorem nL (b:Int)(w:World):Calls prog 28 #[.pointer none,.int .i64 b] w (ch.yE 1 w):=by
 go_enter func28,ntmps28;go_wp2_with fail;go_ret;exact⟨rfl,Below.refl _ _⟩
theorem nM {o:Nat→Prop}{w:World}{pd:Nat}{d:DD}(b:Int)(h:dk.zj 1000 w o pd d)(hb:b<1∨8<b∨d.n<193):Calls prog 28 #[pt pd,.int .i64 b] w (ch.yE 2 w):=by
 have HL:=QH (cN h);clear h;by_cases h1:b<1
 ·clear hb;go_enter func28,ntmps28;go_wp2_with fail;go_ret;exact⟨rfl,Below.refl _ _⟩
 ·by_cases h8:8<b
  ·clear hb;go_enter func28,ntmps28;go_wp2_with fail;go_ret;exact⟨rfl,Below.refl _ _⟩
  ·have hn:(d.n:Int)<193:=by omega
   clear hb;go_enter func28,ntmps28;go_wp2_with fail;refine HL.out.mono ?_;rintro e W1 ⟨rfl,rfl⟩;go_wp2_with fail;go_ret;exact⟨rfl,Below.refl _ _⟩
theorem oI {o:Nat→Prop}{w:World}{pd:Nat}(b N:Nat)(room:Int)(h:dk.zj 1000 w o pd (dk.DD.new N room))(ew:xC w)(hog:¬ o gN)(h1:1≤b)(h8:b≤8)(hN:193≤N)(fZ:N≤1024)(hr:(N:Int)≤room) :
    Calls prog 28 #[pt pd,.int .i64 (b:Int)] w fun e w'=>e=.returned (.int .i64 0)∧∃t d' o',dk.zj 1000 w' o' pd d'∧jr.JJ N t d'∧qM b N t (m0 b)∧d'.qi=0∧ib.qB o w w'∧∀j,o' j→o j∨w.heap.size≤j:=by
 have hdn:(dk.DD.new N room).n=N:=by simp[dk.DD.n,dk.DD.new]
 have HL:=QH (cN h);rw[hdn]at HL;have jT:=(Below.refl w.heap.size w).alloc (Nat.le_refl _) (.cells (qh (List.replicate b 0)) 3);have hk:=qg.new w 3 (qh (List.replicate b 0));obtain⟨W1,hW1⟩:=QE (w.alloc (.cells (qh (List.replicate b 0)) 3));rw[hW1]at jT hk;have jq:yD b N (m0 b):=qbW h1 h8;have hmt:MtL W1 (some ⟨w.heap.size,0,none⟩) none none b 0 0 (m0 b) :=
  ⟨⟨qg.nums hk (fun z hz=>by simp[m0]at hz;rw[hz.2];unfold qD;omega),by simp[m0],fun h=>by cases h⟩,ji.nil _ _,⟨Nat.le_refl _,fun _=>⟨rfl,rfl⟩⟩,yx.none _,qbN.base,qbN.target,qbN.next,qbN.all⟩
 have hwr:=mX hmt (iY jq) (jq.enc fZ) (jq.size fZ) (x9 ew jT (zG ew));have hme:zi (some ⟨w.heap.size,0,none⟩) none none b 0 0 (m0 b) = #[.slice (some ⟨w.heap.size,0,none⟩) b b,.slice none 0 0,.int .u64 0,.int .u64 0,.int .u64 0,.int .u64 0,.int .i64 0,.int .i64 0,.slice none 0 0]:=by simp[zi,m0,zL]
 rw[hme]at hwr;have HWR:=QH hwr;have zk:=QH jT;have HD:=QH h;have wK:=QH ew;have HOG:=QH hog;have q4H:=QH (qvb h1 h8 hN fZ);have HEA:=QH (tO h1 h8 hN fZ);have HP:Hid (0<(fw b).length):=by unfold Hid fw;rw[jr.qY];exact(xH jq fZ).1
 have ql9:Hid (∀(o:Nat→Prop) (w:World) (p:Nat),dk.zj 1000 w o p (dk.DD.new N room)→xC w→¬ o gN→∀(A:Option Addr) (c:Nat),jr.kY w A (fw b)→(∀b o',A=some ⟨b,o',none⟩→¬ o b) →
  Calls prog 74 #[pt p,.slice A (fw b).length c] w fun e w'=>e=.returned (.int .i64 0)∧∃d' o',dk.zj 1000 w' o' p d'∧jr.JJ N (ft b) d'∧d'.qi=0∧ib.qB o w w'∧∀j,o' j→o j∨w.heap.size≤j):=fun o w p hd hc ho A c hA hAo=>kr hd hc ho h1 h8 hN fZ hr hA hAo
 have HN:=QH (And.intro hN fZ);have g1:¬ (b:Int)<1:=by omega
 have g2:¬ (8:Int)<(b:Int):=by omega
 have g3:¬ (N:Int)<193:=by omega
 have qqs:b≤1000:=by omega
 clear h ew hog jT hk jq hmt hwr hme hr hdn h1 h8 hN fZ;go_enter func28,ntmps28;go_wp2_with fail;refine HL.out.mono ?_;rintro e W0 ⟨rfl,rfl⟩;go_wp2_with (at_make;refine ql rfl (aT _ _ b rfl rfl rfl (by omega)) ?_);try rw[hW1]
 clear hW1;go_wp2_with fail;refine HWR.out.mono ?_;rintro e W2 ⟨vl,rfl,hol,hb2⟩;have qvc:jr.ir W2 W1.heap.size vl (fw b):=hol;have hnew:=qoW qvc;have qG:=QH (q9 zk.out hb2);obtain⟨A,ca,rfl,ov⟩:=qvc.view (fun x hx=>by have:=HEA.out x hx;have:=HN.out;unfold jr.qD;omega);have HWS:=QH ov;have qa3:Hid (∀b' o',A=some ⟨b',o',none⟩→w.heap.size≤b'∧b'<W2.heap.size):=fun b' o' e=>by
  have g1:=hnew A _ ca rfl b' o' none e;obtain⟨b'',o'',e2,g2,_⟩:=ov 0 HP.out;rw[e]at e2;injection e2 with e2
  injection e2 with e3 e4
  exact⟨Nat.le_trans zk.out.size g1,by rw[e3];exact g2⟩
 have HCP:=QH (dk.qlW (HD.out.below qG.out) (by decide));have HLEN:Hid (jr.za 145 (xw (m0 b))=fw b):=rfl;obtain⟨n,hn⟩:=QE ((fw b).length);rw[hn]at ql9;rw[hn];clear hol hb2 ov qvc hnew hn HWR;have hce:((0:Int) != 0)=false:=rfl;go_wp2_with fail;refine HCP.out.mono ?_;rintro e W3 ⟨q,ow,rfl,hdq,hb3,hlo⟩;have zf:=QH (q9 qG.out hb3);have hw3:=fH HWS.out hb3.size (fun b' o' e hb=>hb3.block b' hb);have qzG:=x9 wK.out zf.out (zG wK.out);have HLY:=QH (ql9.out ow W3 q hdq qzG (fun h=>by have g1:=hlo _ h;have g2:=zG wK.out;have g3:=qG.out.size;omega) A ca hw3 (fun b' o' e h=>by have g1:=hlo _ h;have g2:=qa3.out b' o' e;omega));have HLO:=QH hlo;have HW3:=QH hw3;have eM:=QH hb3.size;clear hdq hb3 hlo hw3 qzG HCP;go_wp2_with fail;refine HLY.out.mono ?_;rintro e W4 ⟨rfl,d4,o4,hd4,hj4,hf4,hb4,hg4⟩;have qoX:Below W2.heap.size W3 W4:=hb4.below (fun j hj=>HLO.out j hj) eM.out;have zU:Hid (Below w.heap.size w W4):=zf.out.trans (qoX.mono qG.out.size);have hw4:=fH HW3.out qoX.size (fun b' o' e hb=>qoX.block b' (qa3.out b' o' e).2);have qzH:=x9 wK.out zU.out (zG wK.out);have qzI:=QH (ql9.out o W4 pd (HD.out.below zU.out) qzH HOG.out A ca hw4 (fun b' o' e h=>by have g1:=HD.out.low _ h;have g2:=qa3.out b' o' e;omega));clear hd4 hj4 hf4 hb4 hg4 qoX hw4 qzH HLY;go_wp2_with fail;refine qzI.out.mono ?_;rintro e W5 ⟨rfl,d5,o5,hd5,hj5,hf5,hb5,hg5⟩;have H1:=QH hd5;have H2:=QH hj5;have H3:=QH hf5;have H4:=QH hb5;have H5:=QH hg5;clear hd5 hj5 hf5 hb5 hg5 qzI;go_wp2_with fail;go_ret;have hs:=zU.out.size;refine⟨rfl,ft b,d5,o5,H1.out,H2.out,q4H.out,H3.out,(ib.qB.of_below (S:=o) zU.out).trans H4.out (fun _ h=>.inl h),fun j hj=>?_⟩;rcases H5.out j hj with hj|hj
 ·exact .inl hj
 ·exact .inr (by omega)
end Go.Proofs.YtdagdllomphidaaGreatDoor.vt.pg
