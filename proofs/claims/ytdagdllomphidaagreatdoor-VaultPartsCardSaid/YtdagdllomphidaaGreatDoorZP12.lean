/- VtDoW, VtDoS, VtDoT, VtAny, VxTexts, VxBlocks, VxEq, VtAs, VtAsV, VtVc, VtWkQ, VtWkC, VtWk. -/
import Derived.Test.YtdagdllomphidaaGreatDoorZP11
set_option linter.unusedVariables false
set_option linter.unusedSimpArgs false
set_option maxHeartbeats 30000000
set_option maxRecDepth 100000
namespace Go.Proofs.YtdagdllomphidaaGreatDoor.vt
open _root_.Go.Proofs.Tryz Go Go.RowKit ib jr mt im sp
def tI (vp p n g0:Nat)(n9 zt q:Int)(T:ByteArray)(er:Int):Nat→Value→World→Prop
 | 0,v,_=>v=.pointer (some ⟨vp,0,none⟩)
 | 1,v,_=>v=.int .i64 (n:Int)
 | 2,v,_=>v=.int .i64 n9
 | 3,v,_=>v=.pointer (some ⟨g0,2,none⟩)
 | 4,v,_=>v=.int .u8 zt
 | 5,v,_=>v=.int .u8 q
 | 6,v,_=>v=.string T
 | 7,_,_=>True
 | 8,v,_=>v=.pointer (some ⟨p,0,none⟩)
 | 9,v,_=>v=.int .i64 (n:Int)
 | 10,v,_=>v=.int .i64 n9
 | 11,v,_=>v=.pointer (some ⟨g0,2,none⟩)
 | 12,v,_=>v=.int .u8 zt
 | 13,v,_=>v=.int .u8 q
 | 14,v,_=>v=.string T
 | 15,v,_=>v=.int .i64 er
 | 16,_,_=>True
 | 17,v,_=>v=.int .i64 er
 | _,_,_=>True
theorem qht{IV:yn}{IC:ch.bE}(H:yx IV)(HC:ch.Ops IC){B vp pd p N:Nat}{X:Nat→Prop}{w:World}{s:Tri}{t:Tg}(h:V3 IV IC w B X vp pd p s)(hB:B≤w.heap.size)(hlo:s.lost=false)(hJ:JJ N t s.d)(hf:0≤s.d.qp)(hr:qO 8 N t s.m)
    (x:DoP) (next:Nat) (hk:x.k<256) (hn:x.n<256) (h6:x.k%6=0∨x.k%6=1) :
    Calls prog 11 #[.pointer (some ⟨vp,0,none⟩),.pointer (some ⟨p,0,none⟩),.agg (j9 x),.int .u64 (next:Int)] w (StP IV IC B X vp pd p N t s x next w):=by
 have HSP:Hid (jO N s.m x next=zv N s.m ((x.n:Int)%9) (sB x.z)):=by unfold Hid jO;rw[if_pos h6]
 have nB:Hid (xf s.c x next=s.c.write ((x.n:Int)%9) (sB x.z)):=by unfold Hid xf;rw[if_pos h6]
 have xu:=QH ((Below.refl w.heap.size w).alloc (Nat.le_refl _) (.cells (j9 x) 34));have HT0:=QH (sx H HC h (j9 x) 34);have yv:=QH (qf.new w 34 (j9 x));obtain⟨w0,hw0⟩:=QE (w.alloc (.cells (j9 x) 34));rw[hw0]at xu HT0 yv;have HM:Hid (B≤w0.heap.size):=Nat.le_trans hB xu.out.size;have bT:=QH hlo;have HJ:=QH hJ;have HF:=QH hf;have HR:=QH hr;clear h hlo hJ hf hr;unfold j9 at hw0 yv ⊢;obtain⟨D',er,hD⟩:∃D' er,s.c.write ((x.n:Int)%9) (sB x.z)=(D',er):=⟨_,_,rfl⟩;rw[hD]at nB;obtain⟨T,hS⟩:=QE (str (sB x.z));have HSS:=QH hS;obtain⟨q,hq⟩:=QE ((x.z.toNat:Int)%200);have HQZ:Hid ((x.z.toNat:Int).tmod 200=q):=by unfold Hid;rw[Int.tmod_eq_emod_of_nonneg (by omega)];exact hq
 have HDA:=QH (fun W=>qlb x.z W);rw[hq]at HDA;obtain⟨n9,hn9⟩:=QE ((x.n:Int)%9);have q2d:Hid (0≤n9∧n9<9):=by unfold Hid;omega
 rw[hn9]at hD HSP;have HN9:Hid ((x.n:Int).tmod 9=n9):=by unfold Hid;rw[Int.tmod_eq_emod_of_nonneg (by omega)];exact hn9
 have HDC:Hid (s.c.write n9 (sB x.z)=(D',er)):=hD;clear hD hS hq hn9;have sJ:Hid (StS IV IC B (fun j=>X j∨j=w.heap.size) vp pd p w0 s D' (yo N t s.d s.m (zv N s.m n9 (sB x.z))) undef false false w0.drew):=qld H HC HT0.out;have hlt:=yv.out.lt;have c0:=yv.out.cell 0;have c1:=yv.out.cell 1;simp only[QA,QB,QC]at c0 c1;obtain⟨n,hn'⟩:=QE x.n;obtain⟨k,um⟩:=QE x.k;obtain⟨zt,hz'⟩:=QE (x.z.toNat:Int);rw[hn']at hw0 hn HN9 yv c1 ⊢;rw[um]at hw0 h6 hk yv c0 ⊢;rw[hz']at hw0 HQZ yv ⊢;clear hn' um hz';rcases h6 with h6|h6;all_goals
  have hq6:(k:Int)%6=((k%6:Nat):Int):=by omega
  rw[h6]at hq6;clear h6;go_enter func11,ntmps11;go_wp2_with fail;try rw[hw0]
  clear hw0 c0 c1 hq6;refine xJ (by kernel_rfl) [23,24,25,26,27,28,29,30,31,32,33,34,35,36,37,38,8,9] (by kernel_rfl) (fun L vs W=>StS IV IC B (fun j=>X j∨j=w.heap.size) vp pd p w0 s D' (yo N t s.d s.m (zv N s.m n9 (sB x.z))) (vs 7) (L 7) (L 15) W∧((L 15=true→L 7=true)∧(L 14=true→L 7=true)∧(L 16=true→L 7=true∧vs 16=vs 7))∧∀i,L i=true→i<18→tI vp p n w.heap.size n9 zt q T er i (vs i) W) ⟨sJ.out,⟨fun h=>(by cases h),fun h=>(by cases h),fun h=>(by cases h)⟩,fun i hi=>by cases hi⟩ ?_ ?_ ?_
  ·intro i o L vs ρ W ho eR qA hρ hgd hI;obtain⟨hS,hC,vZ⟩:=hI;have hG:∀j,L j=true→tI vp p n w.heap.size n9 zt q T er j (vs j) W:=fun j hj=>by
    by_cases h16:j<18
    ·exact vZ j hj h16
    ·match j,h16 with
     | j+18,_=>exact trivial
   have qsr:i<18:=(Array.getElem?_eq_some_iff.1 ho).1;have hc:=hρ.const;have hfn:=hρ.fn;have ng:∀v W',tI vp p n w.heap.size n9 zt q T er i v W'→∀j,qN L i j=true→j<18→tI vp p n w.heap.size n9 zt q T er j (zX vs i v j) W':=fun v W' h2 j hj h16=>by
    by_cases vn:j=i
    ·subst vn;simpa[zX]using h2
    ·simp only[qN,if_neg vn]at hj;have:=vZ j hj h16;simp only[zX,if_neg vn]
     match j,h16,this with
     | 0,_,h=>exact h
     | 1,_,h=>exact h
     | 2,_,h=>exact h
     | 3,_,h=>exact h
     | 4,_,h=>exact h
     | 5,_,h=>exact h
     | 6,_,h=>exact h
     | 7,_,h=>exact h
     | 8,_,h=>exact h
     | 9,_,h=>exact h
     | 10,_,h=>exact h
     | 11,_,h=>exact h
     | 12,_,h=>exact h
     | 13,_,h=>exact h
     | 14,_,h=>exact h
     | 15,_,h=>exact h
     | 16,_,h=>exact h
     | 17,_,h=>exact h
     | j+18,h,_=>exact absurd h (by omega)
   have next:i≠7→i≠15→i≠16→(i=14→L 7=true)→∀v W',StS IV IC B (fun j=>X j∨j=w.heap.size) vp pd p w0 s D' (yo N t s.d s.m (zv N s.m n9 (sB x.z))) (vs 7) (L 7) (L 15) W'→tI vp p n w.heap.size n9 zt q T er i v W'→StS IV IC B (fun j=>X j∨j=w.heap.size) vp pd p w0 s D' (yo N t s.d s.m (zv N s.m n9 (sB x.z))) (zX vs i v 7) (qN L i 7) (qN L i 15) W'∧((qN L i 15=true→qN L i 7=true)∧(qN L i 14=true→qN L i 7=true)∧(qN L i 16=true→qN L i 7=true∧zX vs i v 16=zX vs i v 7))∧∀j,qN L i j=true→j<18→tI vp p n w.heap.size n9 zt q T er j (zX vs i v j) W':=fun n1 n2 nl n3 v W' h1 h2=>by
    refine⟨?_,⟨?_,?_,?_⟩,ng v W' h2⟩
    ·simp only[qN,zX,if_neg (Ne.symm n1),if_neg (Ne.symm n2)];exact h1
    ·simp only[qN,if_neg (Ne.symm n1),if_neg (Ne.symm n2)];exact hC.1
    ·intro hm;simp only[qN,if_neg (Ne.symm n1)];by_cases vO:14=i
     ·exact n3 vO.symm
     ·simp only[qN,if_neg vO]at hm;exact hC.2.1 hm
    ·simp only[qN,zX,if_neg (Ne.symm n1),if_neg (Ne.symm nl)];exact hC.2.2
   have hKE:=qxg hS;have hA1:=yv.out.of_block (hKE.block hlt (.inl (.inr rfl)));have ze6:=hA1.lt;have l2:=hA1.cell 2;simp only[QA,QB,QC]at l2;have hq9:=HN9.out;have hqz:=HQZ.out;rcases i with _|_|_|_|_|_|_|_|_|_|_|_|_|_|_|_|_|_|i;all_goals (first|omega|skip)
   all_goals simp only[QA,QB,QC,Option.some.injEq]at ho
   all_goals subst ho
   ·have o0:ρ (.tmp 0)=.pointer (some ⟨vp,0,none⟩):=hρ.out 0 rfl;exact q9 (w':=W) (by unfold execOp;simp only[o0,hc];go_simp) (next (by decide) (by decide) (by decide) (fun h=>absurd h (by decide)) _ _ hS rfl)
   ·have o10:ρ (.tmp 10)=.int .i64 (n:Int):=hρ.out 10 rfl;exact q9 (w':=W) (by unfold execOp;simp only[o10,hc];go_simp) (next (by decide) (by decide) (by decide) (fun h=>absurd h (by decide)) _ _ hS rfl)
   ·have g24:tI vp p n w.heap.size n9 zt q T er 1 (vs 1) W:=hG 1 (qA 1 (by kernel_rfl));have s24:ρ (.tmp 24)=.int .i64 (n:Int):=(hρ.at_ 24 1 rfl).trans g24;exact q9 (w':=W) (by unfold execOp;simp only[s24,hc];go_simp) (next (by decide) (by decide) (by decide) (fun h=>absurd h (by decide)) _ _ hS rfl)
   ·have o6:ρ (.tmp 6)=.pointer (some ⟨w.heap.size,0,none⟩):=hρ.out 6 rfl;exact q9 (w':=W) (by unfold execOp;simp only[o6,hc];go_simp) (next (by decide) (by decide) (by decide) (fun h=>absurd h (by decide)) _ _ hS rfl)
   ·have g26:tI vp p n w.heap.size n9 zt q T er 3 (vs 3) W:=hG 3 (qA 3 (by kernel_rfl));have s26:ρ (.tmp 26)=.pointer (some ⟨w.heap.size,2,none⟩):=(hρ.at_ 26 3 rfl).trans g26;exact q9 (w':=W) (by unfold execOp;simp only[s26,hc];go_simp) (next (by decide) (by decide) (by decide) (fun h=>absurd h (by decide)) _ _ hS rfl)
   ·have g27:tI vp p n w.heap.size n9 zt q T er 4 (vs 4) W:=hG 4 (qA 4 (by kernel_rfl));have s27:ρ (.tmp 27)=.int .u8 zt:=(hρ.at_ 27 4 rfl).trans g27;exact q9 (w':=W) (by unfold execOp;simp only[s27,hc];go_simp) (next (by decide) (by decide) (by decide) (fun h=>absurd h (by decide)) _ _ hS rfl)
   ·have g28:tI vp p n w.heap.size n9 zt q T er 5 (vs 5) W:=hG 5 (qA 5 (by kernel_rfl));have s28:ρ (.tmp 28)=.int .u8 q:=(hρ.at_ 28 5 rfl).trans g28;refine qi (f:=18) (args:=#[.int .u8 q]) (w':=W) (by unfold execOp;simp only[hfn,s28];go_simp) ((HDA.out W).mono ?_);rintro x W' ⟨rfl,hb'⟩;exact⟨_,rfl,next (by decide) (by decide) (by decide) (fun h=>absurd h (by decide)) _ _ (qaH H HC hS hb') (congrArg Value.string HSS.out)⟩
   ·have g23:tI vp p n w.heap.size n9 zt q T er 0 (vs 0) W:=hG 0 (qA 0 (by kernel_rfl));have s23:ρ (.tmp 23)=.pointer (some ⟨vp,0,none⟩):=(hρ.at_ 23 0 rfl).trans g23;have g25:tI vp p n w.heap.size n9 zt q T er 2 (vs 2) W:=hG 2 (qA 2 (by kernel_rfl));have s25:ρ (.tmp 25)=.int .i64 n9:=(hρ.at_ 25 2 rfl).trans g25;have g29:tI vp p n w.heap.size n9 zt q T er 6 (vs 6) W:=hG 6 (qA 6 (by kernel_rfl));have s29:ρ (.tmp 29)=.string T:=(hρ.at_ 29 6 rfl).trans g29;have n2:L 15=false:=by
     cases hx:L 15 with
     | false=>rfl
     | true=>exact absurd (hC.1 hx) (by rw[eR];decide)
    rw[eR,n2]at hS;refine qi (f:=17) (args:=#[.pointer (some ⟨vp,0,none⟩),.int .i64 n9,.string T]) (w':=W) (by unfold execOp;simp only[hfn,s23,s25,s29];go_simp) ((q1Z HC hS HM.out (fun o1 o2 ho _=>by have:=H.write n9 (sB x.z) (bT.out ▸ ho) HJ.out HF.out HR.out (by unfold yA;have:=q2d.out;omega);rw[HSS.out]at this;exact this)).mono ?_);have n3:L 16=false:=by
     cases hx:L 16 with
     | false=>rfl
     | true=>exact absurd (hC.2.2 hx).1 (by rw[eR];decide)
    rintro x W' ⟨r,rfl,h1⟩;refine⟨_,rfl,?_,⟨fun _=>by simp[qN],fun _=>by simp[qN],fun h=>by simp[qN,n3]at h⟩,ng _ _ trivial⟩;simp only[qN,zX,n2];exact h1
   ·have o1:ρ (.tmp 1)=.pointer (some ⟨p,0,none⟩):=hρ.out 1 rfl;exact q9 (w':=W) (by unfold execOp;simp only[o1,hc];go_simp) (next (by decide) (by decide) (by decide) (fun h=>absurd h (by decide)) _ _ hS rfl)
   ·have o10:ρ (.tmp 10)=.int .i64 (n:Int):=hρ.out 10 rfl;exact q9 (w':=W) (by unfold execOp;simp only[o10,hc];go_simp) (next (by decide) (by decide) (by decide) (fun h=>absurd h (by decide)) _ _ hS rfl)
   ·have g32:tI vp p n w.heap.size n9 zt q T er 9 (vs 9) W:=hG 9 (qA 9 (by kernel_rfl));have s32:ρ (.tmp 32)=.int .i64 (n:Int):=(hρ.at_ 32 9 rfl).trans g32;exact q9 (w':=W) (by unfold execOp;simp only[s32,hc];go_simp) (next (by decide) (by decide) (by decide) (fun h=>absurd h (by decide)) _ _ hS rfl)
   ·have o6:ρ (.tmp 6)=.pointer (some ⟨w.heap.size,0,none⟩):=hρ.out 6 rfl;exact q9 (w':=W) (by unfold execOp;simp only[o6,hc];go_simp) (next (by decide) (by decide) (by decide) (fun h=>absurd h (by decide)) _ _ hS rfl)
   ·have g34:tI vp p n w.heap.size n9 zt q T er 11 (vs 11) W:=hG 11 (qA 11 (by kernel_rfl));have s34:ρ (.tmp 34)=.pointer (some ⟨w.heap.size,2,none⟩):=(hρ.at_ 34 11 rfl).trans g34;exact q9 (w':=W) (by unfold execOp;simp only[s34,hc];go_simp) (next (by decide) (by decide) (by decide) (fun h=>absurd h (by decide)) _ _ hS rfl)
   ·have g35:tI vp p n w.heap.size n9 zt q T er 12 (vs 12) W:=hG 12 (qA 12 (by kernel_rfl));have s35:ρ (.tmp 35)=.int .u8 zt:=(hρ.at_ 35 12 rfl).trans g35;exact q9 (w':=W) (by unfold execOp;simp only[s35,hc];go_simp) (next (by decide) (by decide) (by decide) (fun h=>absurd h (by decide)) _ _ hS rfl)
   ·have g36:tI vp p n w.heap.size n9 zt q T er 13 (vs 13) W:=hG 13 (qA 13 (by kernel_rfl));have s36:ρ (.tmp 36)=.int .u8 q:=(hρ.at_ 36 13 rfl).trans g36;refine qi (f:=18) (args:=#[.int .u8 q]) (w':=W) (by unfold execOp;simp only[hfn,s36];go_simp) ((HDA.out W).mono ?_);rintro x W' ⟨rfl,hb'⟩;exact⟨_,rfl,next (by decide) (by decide) (by decide) (fun _=>qA 7 (by kernel_rfl)) _ _ (qaH H HC hS hb') (congrArg Value.string HSS.out)⟩
   ·have g31:tI vp p n w.heap.size n9 zt q T er 8 (vs 8) W:=hG 8 (qA 8 (by kernel_rfl));have s31:ρ (.tmp 31)=.pointer (some ⟨p,0,none⟩):=(hρ.at_ 31 8 rfl).trans g31;have g33:tI vp p n w.heap.size n9 zt q T er 10 (vs 10) W:=hG 10 (qA 10 (by kernel_rfl));have s33:ρ (.tmp 33)=.int .i64 n9:=(hρ.at_ 33 10 rfl).trans g33;have g37:tI vp p n w.heap.size n9 zt q T er 14 (vs 14) W:=hG 14 (qA 14 (by kernel_rfl));have s37:ρ (.tmp 37)=.string T:=(hρ.at_ 37 14 rfl).trans g37;have yq1:L 7=true:=hC.2.1 (qA 14 (by kernel_rfl));rw[eR,yq1]at hS;refine qi (f:=37) (args:=#[.pointer (some ⟨p,0,none⟩),.int .i64 n9,.string T]) (w':=W) (by unfold execOp;simp only[hfn,s31,s33,s37];go_simp) ((q2a H hS HM.out (fun o3 ho _=>by have:=HC.write n9 (sB x.z) ho (by unfold yA;have:=q2d.out;omega);rw[HDC.out,HSS.out]at this;exact this)).mono ?_);rintro x W' ⟨rfl,h1⟩;refine⟨_,rfl,?_,⟨fun _=>by simp[qN,yq1],fun _=>by simp[qN,yq1],fun h=>by simpa[qN,zX]using hC.2.2 (by simpa[qN]using h)⟩,ng _ _ rfl⟩;simp only[qN,zX,yq1];exact h1
   ·have s30:ρ (.tmp 30)=vs 7:=hρ.at_ 30 7 rfl;have yq1:L 7=true:=qA 7 (by kernel_rfl);refine q9 (w':=W) (v:=vs 7) (by unfold execOp;simp only[s30];go_simp) ⟨?_,⟨fun h=>?_,fun h=>?_,fun _=>?_⟩,ng _ _ trivial⟩
    ·simp only[qN,zX];exact hS
    ·simp only[qN]at h ⊢;exact hC.1 h
    ·simp only[qN]at h ⊢;exact hC.2.1 h
    ·simp[qN,zX,yq1]
   ·have g38:tI vp p n w.heap.size n9 zt q T er 15 (vs 15) W:=hG 15 (qA 15 (by kernel_rfl));have s38:ρ (.tmp 38)=.int .i64 er:=(hρ.at_ 38 15 rfl).trans g38;exact q9 (w':=W) (by unfold execOp;simp only[s38,hc];go_simp) (next (by decide) (by decide) (by decide) (fun h=>absurd h (by decide)) _ _ hS rfl)
  ·intro i o L vs W j want ho eR qA hg hv hI;have qsr:i<18:=(Array.getElem?_eq_some_iff.1 ho).1;rcases i with _|_|_|_|_|_|_|_|_|_|_|_|_|_|_|_|_|_|i;all_goals (first|omega|skip)
   all_goals simp only[QA,QB,QC,Option.some.injEq]at ho
   all_goals subst ho
   all_goals simp only[reduceCtorEq]at hg
  ·intro vs W hI;obtain⟨hS,hL,hG⟩:=hI;have gl:vs 17=.int .i64 er:=hG 17 (by decide) (by decide);have g16:=(hL.2.2 (by decide)).2;obtain⟨hke,r,d',m',l',hx,hq,hv⟩:=qsL hS;rw[hx]at g16;have HKE:Hid (Ke B X w W):=(Ke.of_below xu.out).trans (hke.mono fun j hj=>.inl hj);have HV:Hid (V3 IV IC W B X vp pd p ⟨d',m',D',l'⟩):=hv.fJ fun j hj=>.inl hj;have HQ:=QH hq;clear hS hL hG hke hq hv hx;simp only[qW,qG,if_true];rw[gl,g16];clear gl g16;generalize vs 0=z0;generalize vs 1=z1;generalize vs 2=z2;generalize vs 3=z3;generalize vs 4=z4;generalize vs 5=z5;generalize vs 6=z6;generalize vs 8=z8;generalize vs 9=z9;generalize vs 10=z10;generalize vs 11=z11;generalize vs 12=z12;generalize vs 13=z13;generalize vs 14=z14;generalize vs 15=z15;generalize vs 7=z7;simp only[Act.put,List.setIfInBounds_toArray,List.set_cons_succ,List.set_cons_zero];go_wp2_with fail;go_ret2;refine⟨r,d',m',l',?_,?_,HKE.out,?_⟩
   ·rw[nB.out];rfl
   ·rw[nB.out];exact HV.out
   ·rw[HSP.out];exact HQ.out
theorem wrap_u64(n:Nat)(h:n<18446744073709551616):IntKind.u64.wrap (n:Int)=(n:Int):=by
 simp[IntKind.wrap,IntKind.bits,IntKind.signed];omega
theorem qle{IV:yn}{IC:ch.bE}(H:yx IV)(HC:ch.Ops IC){B vp pd p N:Nat}{X:Nat→Prop}{w:World}{s:Tri}{t:Tg}(h:V3 IV IC w B X vp pd p s)(hB:B≤w.heap.size)(hlo:s.lost=false)(hJ:JJ N t s.d)(hf:0≤s.d.qp)(hr:qO 8 N t s.m)
    (x:DoP) (next:Nat) (hk:x.k<256) (hn:x.n<256) (hnx:next<18446744073709551616) (h6:x.k%6=2) :
    Calls prog 11 #[.pointer (some ⟨vp,0,none⟩),.pointer (some ⟨p,0,none⟩),.agg (j9 x),.int .u64 (next:Int)] w (StP IV IC B X vp pd p N t s x next w):=by
 have HSP:Hid (jO N s.m x next=jX s.m (1,next)):=by
  unfold Hid jO;rw[if_neg (by rw[h6];decide),if_pos h6]
 have nB:Hid (xf s.c x next=s.c.snap (1,next)):=by
  unfold Hid xf;rw[if_neg (by rw[h6];decide),if_pos h6]
 have xu:=QH ((Below.refl w.heap.size w).alloc (Nat.le_refl _) (.cells (j9 x) 34));have HT0:=QH (sx H HC h (j9 x) 34);have yv:=QH (qf.new w 34 (j9 x));obtain⟨w0,hw0⟩:=QE (w.alloc (.cells (j9 x) 34));rw[hw0]at xu HT0 yv;have HM:Hid (B≤w0.heap.size):=Nat.le_trans hB xu.out.size;have bT:=QH hlo;have HJ:=QH hJ;have HF:=QH hf;have HR:=QH hr;clear h hlo hJ hf hr;unfold j9 at hw0 yv ⊢;have hlt:=yv.out.lt;have c0:=yv.out.cell 0;have c1:=yv.out.cell 1;simp only[QA,QB,QC]at c0 c1;obtain⟨n,hn'⟩:=QE x.n;obtain⟨k,um⟩:=QE x.k;obtain⟨zt,hz'⟩:=QE (x.z.toNat:Int);rw[hn']at hw0 hn yv c1 ⊢;try rw[hn']at HSP
 try rw[hn']at nB
 rw[um]at hw0 h6 hk yv c0 ⊢;rw[hz']at hw0 yv ⊢;clear hn' um hz';have hq6:(k:Int)%6=((k%6:Nat):Int):=by omega
 rw[h6]at hq6;clear h6;go_enter func11,ntmps11;go_wp2_with fail;try rw[hw0]
 clear hw0 c0 c1 hq6;have HK:=QH (Ke.refl B (fun j=>X j∨j=w.heap.size) w0);have HT:=QH HT0.out;clear HT0;refine(ch.zF 1 next _).mono ?_;rintro e W1 ⟨rfl,hb⟩;have HT1:=QH (HT.out.below H HC hb);have eF:=QH (HK.out.trans (Ke.of_below hb));clear hb HT HK;have HT:=QH HT1.out;have HK:=QH eF.out;clear HT1 eF;go_wp2_with fail;refine(kK HC HT.out (Nat.le_trans HM.out HK.out.size) (fun o1 o2 ho _=>H.snap (1,next) (bT.out ▸ ho) HJ.out HF.out HR.out ⟨by show 1<18446744073709551616;omega,hnx⟩)).mono ?_;rintro e W2 ⟨r,d',m',l',rfl,hv2,hk2,hq2⟩;have dT:=QH hv2;have jZ:=QH (HK.out.trans hk2);have HQ:=QH hq2;clear hv2 hk2 hq2 HT HK;have HT:=QH dT.out;have HK:=QH jZ.out;clear dT jZ;go_wp2_with fail;refine(ch.zF 1 next _).mono ?_;rintro e W3 ⟨rfl,hb⟩;have wV:=QH (HT.out.below H HC hb);have l7:=QH (HK.out.trans (Ke.of_below hb));clear hb HT HK;have HT:=QH wV.out;have HK:=QH l7.out;clear wV l7;go_wp2_with fail;refine(kL H HT.out (Nat.le_trans HM.out HK.out.size) (r:=s.c.snap (1,next)) (fun o3 ho _=>HC.snap (1,next) ho ⟨by show 1<18446744073709551616;omega,hnx⟩)).mono ?_;rintro e W4 ⟨rfl,hv4,hk4⟩;have HV:Hid (V3 IV IC W4 B X vp pd p ⟨d',m',(s.c.snap (1,next)).1,l'⟩):=hv4.fJ fun j hj=>.inl hj;have HKE:Hid (Ke B X w W4):=(Ke.of_below xu.out).trans ((HK.out.trans hk4).mono fun j hj=>.inl hj);clear hv4 hk4 HT HK;go_wp2_with fail;go_ret2;refine⟨r,d',m',l',?_,?_,HKE.out,?_⟩
 ·rw[nB.out];rfl
 ·rw[nB.out];exact HV.out
 ·rw[HSP.out];exact HQ.out
theorem qlf{IV:yn}{IC:ch.bE}(H:yx IV)(HC:ch.Ops IC){B vp pd p N:Nat}{X:Nat→Prop}{w:World}{s:Tri}{t:Tg}(h:V3 IV IC w B X vp pd p s)(hB:B≤w.heap.size)(hlo:s.lost=false)(hJ:JJ N t s.d)(hf:0≤s.d.qp)(hr:qO 8 N t s.m)
    (x:DoP) (next:Nat) (hk:x.k<256) (hn:x.n<256) (hnx:next<18446744073709551616) (h6:x.k%6=3) :
    Calls prog 11 #[.pointer (some ⟨vp,0,none⟩),.pointer (some ⟨p,0,none⟩),.agg (j9 x),.int .u64 (next:Int)] w (StP IV IC B X vp pd p N t s x next w):=by
 have HSP:Hid (jO N s.m x next=jC s.m ((x.n:Int)%6)):=by
  unfold Hid jO;rw[if_neg (by rw[h6];decide),if_neg (by rw[h6];decide),if_pos h6]
 have nB:Hid (xf s.c x next=s.c.roll ((x.n:Int)%6)):=by
  unfold Hid xf;rw[if_neg (by rw[h6];decide),if_neg (by rw[h6];decide),if_pos h6]
 have xu:=QH ((Below.refl w.heap.size w).alloc (Nat.le_refl _) (.cells (j9 x) 34));have HT0:=QH (sx H HC h (j9 x) 34);have yv:=QH (qf.new w 34 (j9 x));obtain⟨w0,hw0⟩:=QE (w.alloc (.cells (j9 x) 34));rw[hw0]at xu HT0 yv;have HM:Hid (B≤w0.heap.size):=Nat.le_trans hB xu.out.size;have bT:=QH hlo;have HJ:=QH hJ;have HF:=QH hf;have HR:=QH hr;clear h hlo hJ hf hr;unfold j9 at hw0 yv ⊢;have hlt:=yv.out.lt;have c0:=yv.out.cell 0;have c1:=yv.out.cell 1;simp only[QA,QB,QC]at c0 c1;obtain⟨n,hn'⟩:=QE x.n;obtain⟨k,um⟩:=QE x.k;obtain⟨zt,hz'⟩:=QE (x.z.toNat:Int);rw[hn']at hw0 hn yv c1 ⊢;try rw[hn']at HSP
 try rw[hn']at nB
 rw[um]at hw0 h6 hk yv c0 ⊢;rw[hz']at hw0 yv ⊢;clear hn' um hz';obtain⟨n6,hn6⟩:=QE ((n:Int)%6);rw[hn6]at HSP nB;have zeK:0≤n6∧n6<6:=by omega
 have hm6:(n:Int).tmod 6=n6:=by rw[Int.tmod_eq_emod_of_nonneg (by omega)];exact hn6
 have hq6:(k:Int)%6=((k%6:Nat):Int):=by omega
 rw[h6]at hq6;clear h6;go_enter func11,ntmps11;go_wp2_with fail;try rw[hw0]
 clear hw0 c0 c1 hq6;have HK:=QH (Ke.refl B (fun j=>X j∨j=w.heap.size) w0);have HT:=QH HT0.out;clear HT0;refine(kK HC HT.out (Nat.le_trans HM.out HK.out.size) (fun o1 o2 ho _=>H.roll n6 (bT.out ▸ ho) HJ.out HF.out HR.out (by unfold yA;omega))).mono ?_;rintro e W2 ⟨r,d',m',l',rfl,hv2,hk2,hq2⟩;have dT:=QH hv2;have jZ:=QH (HK.out.trans hk2);have HQ:=QH hq2;clear hv2 hk2 hq2 HT HK;have HT:=QH dT.out;have HK:=QH jZ.out;clear dT jZ;go_wp2_with fail;refine(kL H HT.out (Nat.le_trans HM.out HK.out.size) (r:=s.c.roll n6) (fun o3 ho _=>HC.roll n6 ho (by unfold yA;omega))).mono ?_;rintro e W4 ⟨rfl,hv4,hk4⟩;have HV:Hid (V3 IV IC W4 B X vp pd p ⟨d',m',(s.c.roll n6).1,l'⟩):=hv4.fJ fun j hj=>.inl hj;have HKE:Hid (Ke B X w W4):=(Ke.of_below xu.out).trans ((HK.out.trans hk4).mono fun j hj=>.inl hj);clear hv4 hk4 HT HK;go_wp2_with fail;go_ret2;refine⟨r,d',m',l',?_,?_,HKE.out,?_⟩
 ·rw[nB.out];rfl
 ·rw[nB.out];exact HV.out
 ·rw[HSP.out];exact HQ.out
theorem qlg{IV:yn}{IC:ch.bE}(H:yx IV)(HC:ch.Ops IC){B vp pd p N:Nat}{X:Nat→Prop}{w:World}{s:Tri}{t:Tg}(h:V3 IV IC w B X vp pd p s)(hB:B≤w.heap.size)(hlo:s.lost=false)(hJ:JJ N t s.d)(hf:0≤s.d.qp)(hr:qO 8 N t s.m)
    (x:DoP) (next:Nat) (hk:x.k<256) (hn:x.n<256) (hnx:next<18446744073709551616) (h6:x.k%6=4) :
    Calls prog 11 #[.pointer (some ⟨vp,0,none⟩),.pointer (some ⟨p,0,none⟩),.agg (j9 x),.int .u64 (next:Int)] w (StP IV IC B X vp pd p N t s x next w):=by
 have HSP:Hid (jO N s.m x next=uP s.m (1,x.n%8)):=by
  unfold Hid jO;rw[if_neg (by rw[h6];decide),if_neg (by rw[h6];decide),if_neg (by rw[h6];decide),if_pos h6]
 have nB:Hid (xf s.c x next=s.c.kY (1,x.n%8)):=by
  unfold Hid xf;rw[if_neg (by rw[h6];decide),if_neg (by rw[h6];decide),if_neg (by rw[h6];decide),if_pos h6]
 have xu:=QH ((Below.refl w.heap.size w).alloc (Nat.le_refl _) (.cells (j9 x) 34));have HT0:=QH (sx H HC h (j9 x) 34);have yv:=QH (qf.new w 34 (j9 x));obtain⟨w0,hw0⟩:=QE (w.alloc (.cells (j9 x) 34));rw[hw0]at xu HT0 yv;have HM:Hid (B≤w0.heap.size):=Nat.le_trans hB xu.out.size;have bT:=QH hlo;have HJ:=QH hJ;have HF:=QH hf;have HR:=QH hr;clear h hlo hJ hf hr;unfold j9 at hw0 yv ⊢;have hlt:=yv.out.lt;have c0:=yv.out.cell 0;have c1:=yv.out.cell 1;simp only[QA,QB,QC]at c0 c1;obtain⟨n,hn'⟩:=QE x.n;obtain⟨k,um⟩:=QE x.k;obtain⟨zt,hz'⟩:=QE (x.z.toNat:Int);rw[hn']at hw0 hn yv c1 ⊢;try rw[hn']at HSP
 try rw[hn']at nB
 rw[um]at hw0 h6 hk yv c0 ⊢;rw[hz']at hw0 yv ⊢;clear hn' um hz';obtain⟨n8,hn8⟩:=QE (n%8);rw[hn8]at HSP nB;have q78:n8<8:=by omega
 have hm8:(n:Int).tmod 8=(n8:Int):=by rw[Int.tmod_eq_emod_of_nonneg (by omega)];omega
 have zeM:(n:Int)%8=(n8:Int):=by omega
 have hw8:=wrap_u64 n8 (by omega);have hg8:zZ (1,n8):=⟨by show 1<18446744073709551616;omega,by show n8<18446744073709551616;omega⟩;have HG8:=QH hg8;clear hg8;have hq6:(k:Int)%6=((k%6:Nat):Int):=by omega
 rw[h6]at hq6;clear h6;go_enter func11,ntmps11;go_wp2_with fail;try rw[hw0]
 clear hw0 c0 c1 hq6;have HK:=QH (Ke.refl B (fun j=>X j∨j=w.heap.size) w0);have HT:=QH HT0.out;clear HT0;refine(ch.zF 1 n8 _).mono ?_;rintro e W1 ⟨rfl,hb⟩;have HT1:=QH (HT.out.below H HC hb);have eF:=QH (HK.out.trans (Ke.of_below hb));clear hb HT HK;have HT:=QH HT1.out;have HK:=QH eF.out;clear HT1 eF;go_wp2_with fail;refine(kK HC HT.out (Nat.le_trans HM.out HK.out.size) (fun o1 o2 ho _=>H.kY (1,n8) (bT.out ▸ ho) HJ.out HF.out HR.out HG8.out)).mono ?_;rintro e W2 ⟨r,d',m',l',rfl,hv2,hk2,hq2⟩;have dT:=QH hv2;have jZ:=QH (HK.out.trans hk2);have HQ:=QH hq2;clear hv2 hk2 hq2 HT HK;have HT:=QH dT.out;have HK:=QH jZ.out;clear dT jZ;go_wp2_with fail;refine(ch.zF 1 n8 _).mono ?_;rintro e W3 ⟨rfl,hb⟩;have wV:=QH (HT.out.below H HC hb);have l7:=QH (HK.out.trans (Ke.of_below hb));clear hb HT HK;have HT:=QH wV.out;have HK:=QH l7.out;clear wV l7;go_wp2_with fail;refine(kL H HT.out (Nat.le_trans HM.out HK.out.size) (r:=s.c.kY (1,n8)) (fun o3 ho _=>HC.kY (1,n8) ho HG8.out)).mono ?_;rintro e W4 ⟨rfl,hv4,hk4⟩;have HV:Hid (V3 IV IC W4 B X vp pd p ⟨d',m',(s.c.kY (1,n8)).1,l'⟩):=hv4.fJ fun j hj=>.inl hj;have HKE:Hid (Ke B X w W4):=(Ke.of_below xu.out).trans ((HK.out.trans hk4).mono fun j hj=>.inl hj);clear hv4 hk4 HT HK;go_wp2_with fail;go_ret2;refine⟨r,d',m',l',?_,?_,HKE.out,?_⟩
 ·rw[nB.out];rfl
 ·rw[nB.out];exact HV.out
 ·rw[HSP.out];exact HQ.out
theorem bn {m:Mt}(h:m.qa.length=0):qw m=(0,0):=by
 unfold qw;rw[List.length_eq_zero_iff.1 h];rfl
theorem qe9{m:Mt}(k:Nat)(h:k<(m.qa.map (·.g)).length)(hk:k+1=m.qa.length):qw m=(m.qa.map (·.g))[k]:=by
 unfold qw;rw[List.getLast?_eq_getElem?,show m.qa.length-1=k by omega,List.getElem?_eq_getElem (by omega)];simp
theorem yT {w w':World}{A:Option Addr}{x:List (Int × Bt)}(h:ch.vU w A x)(hb:∀b o,A=some ⟨b,o,none⟩→w'.heap[b]?=w.heap[b]?)(hs:w.heap.size≤w'.heap.size):ch.vU w' A x:=by
 intro i hi;obtain⟨b,o,h1,h2,h3,h4,h5⟩:=h i hi;exact⟨b,o,h1,Nat.lt_of_lt_of_le h2 hs,by rw[World.cell?_of_block (a:=⟨b,o+i*2,none⟩) (hb b o h1)];exact h3,by rw[World.cell?_of_block (a:=⟨b,o+i*2+1,none⟩) (hb b o h1)];exact h4,h5⟩
theorem qi8{IV:yn}{IC:ch.bE}(H:yx IV){B v pd p:Nat}{X:Nat→Prop}{w:World}{s:Tri}(h:V3 IV IC w B X v pd p s):Calls prog 22 #[.pointer (some ⟨v,0,none⟩)] w (ch.lv (s.m.qa.map (·.g)) w):=by
 obtain⟨o1,o2,o3,h1,_⟩:=h;exact H.list h1.is
theorem qhu{IV:yn}{IC:ch.bE}(H:yx IV)(HC:ch.Ops IC){B vp pd p N:Nat}{X:Nat→Prop}{w:World}{s:Tri}{t:Tg}(h:V3 IV IC w B X vp pd p s)(hB:B≤w.heap.size)(hlo:s.lost=false)(hJ:JJ N t s.d)(hf:0≤s.d.qp)(hr:qO 8 N t s.m)
    (x:DoP) (next:Nat) (hk:x.k<256) (hn:x.n<256) (hnx:next<18446744073709551616) (h6:x.k%6=5) :
    Calls prog 11 #[.pointer (some ⟨vp,0,none⟩),.pointer (some ⟨p,0,none⟩),.agg (j9 x),.int .u64 (next:Int)] w (StP IV IC B X vp pd p N t s x next w):=by
 have HSP:Hid (jO N s.m x next=qV N s.m ⟨qw s.m,(1,next),1,1⟩ [((x.n:Int)%8,sB x.z)]):=by
  unfold Hid jO;rw[if_neg (by rw[h6];decide),if_neg (by rw[h6];decide),if_neg (by rw[h6];decide),if_neg (by rw[h6];decide)]
 have nB:Hid (xf s.c x next=s.c.add (1,next) [((x.n:Int)%8,sB x.z)]):=by
  unfold Hid xf;rw[if_neg (by rw[h6];decide),if_neg (by rw[h6];decide),if_neg (by rw[h6];decide),if_neg (by rw[h6];decide)]
 have xu:=QH ((Below.refl w.heap.size w).alloc (Nat.le_refl _) (.cells (j9 x) 34));have HT0:=QH (sx H HC h (j9 x) 34);have yv:=QH (qf.new w 34 (j9 x));obtain⟨w0,hw0⟩:=QE (w.alloc (.cells (j9 x) 34));rw[hw0]at xu HT0 yv;have HM:Hid (B≤w0.heap.size):=Nat.le_trans hB xu.out.size;have HXL:Hid (∀j,(X j∨j=w.heap.size)→j<w0.heap.size):=HT0.out.choose_spec.choose_spec.choose_spec.2.2.2.2.1;have bT:=QH hlo;have HJ:=QH hJ;have HF:=QH hf;have HR:=QH hr;have bF:=hr.ok.few;have HGL:=QH (qnu hr.ok);have HL0:=QH (fun h=>bn (m:=s.m) h);have HLK:=QH (fun k h hk=>qe9 (m:=s.m) k h hk);clear h hlo hJ hf hr;unfold j9 at hw0 yv ⊢;have hlt:=yv.out.lt;have c0:=yv.out.cell 0;have c1:=yv.out.cell 1;have c2:=yv.out.cell 2;simp only[QA,QB,QC]at c0 c1 c2;obtain⟨a,ha⟩:=QE (UInt8.ofNat (x.z.toNat%200):UInt8);have haq:(x.z.toNat:Int).tmod 200=(a.toNat:Int):=by
  rw[← ha,Int.tmod_eq_emod_of_nonneg (by omega),UInt8.toNat_ofNat'];omega
 have qp5:(x.z.toNat:Int)%200=(a.toNat:Int):=by rw[← Int.tmod_eq_emod_of_nonneg (by omega)];exact haq
 have HSB:Hid (sB x.z=vB a):=by unfold Hid sB;rw[ha]
 obtain⟨n,hn'⟩:=QE x.n;obtain⟨k,um⟩:=QE x.k;obtain⟨zt,hz'⟩:=QE (x.z.toNat:Int);rw[hn']at hw0 hn HSP nB yv c1 ⊢;rw[um]at hw0 h6 hk yv c0 ⊢;rw[hz']at hw0 haq qp5 yv c2 ⊢;rw[HSB.out]at HSP nB;clear hn' um hz' ha;obtain⟨n8,hn8⟩:=QE ((n:Int)%8);rw[hn8]at HSP nB;have q78:0≤n8∧n8<8:=by omega
 have hm8:(n:Int).tmod 8=n8:=by rw[Int.tmod_eq_emod_of_nonneg (by omega)];exact hn8
 have hq6:(k:Int)%6=((k%6:Nat):Int):=by omega
 rw[h6]at hq6;clear h6;have HP1:=QH ((Below.refl w0.heap.size w0).alloc (Nat.le_refl _) (.cells #[.int .i64 n8,.int .u8 (a.toNat:Int)] 73));have tA:=QH (ch.qcn w0 n8 a (by unfold yA;omega));have lM:=QH (ch.kR (some ⟨w0.heap.size,0,none⟩) 1 [(n8,a)] _ tA.out (by simp));have HCO:Hid (ch.bG [(n8,a)]=[(n8,vB a)]):=rfl;rw[HCO.out]at lM;have HT1:=QH (HT0.out.below H HC HP1.out);clear HT0 hn8;go_enter func11,ntmps11;go_wp2_with fail;refine lM.out.mono ?_;rintro e W1 ⟨v1,rfl,ho1,hb1⟩;obtain⟨A1,cc1,hv1,hl1,ia⟩:=ho1.rD (by intro y hy;simp at hy;subst hy;unfold yA;dsimp only;omega);subst hv1;have HL1:=QH hl1;have HAB:=QH ia;have eF:Hid (Ke B (fun j=>X j∨j=w.heap.size) w0 W1):=(Ke.of_below HP1.out).trans (Ke.of_below hb1);have dT:Hid (V3 IV IC W1 B (fun j=>(X j∨j=w.heap.size)∨∃o,A1=some ⟨j,o,none⟩) vp pd p s):=HT1.out.more H HC hb1 fun j hj=>by
  rcases hj with hj|⟨o,hj⟩
  ·exact .inl hj
  ·exact .inr (HAB.out j o hj)
 have iN:Hid (qf W1 w.heap.size _ _):=(yv.out.below HP1.out).below hb1;clear ho1 hl1 ia hb1 lM HT1 tA c0 c1 c2 hw0 yv;go_wp2_with fail;refine(ch.zF 1 next _).mono ?_;rintro e W2 ⟨rfl,hb2⟩;have jZ:=QH (eF.out.trans (Ke.of_below hb2));have wV:=QH (dT.out.below H HC hb2);have nk:=QH (HL1.out.below hb2);have HTS:Hid (w0.heap.size≤W2.heap.size):=jZ.out.size;have HAT:Hid (∀b o,A1=some ⟨b,o,none⟩→b<W2.heap.size):=fun b o e=>wV.out.choose_spec.choose_spec.choose_spec.2.2.2.2.1 b (.inr ⟨o,e⟩);clear hb2 eF dT HL1;unfold ch.gv;go_wp2_with fail;have qY:=QH ((Below.refl W2.heap.size W2).alloc (Nat.le_refl _) (.cells #[.int .u64 0,.int .u64 0,.int .u64 1,.int .u64 (next:Int),.int .i64 1,.int .i64 1,.slice none 0 0] 59));have oF:=QH (qf.new W2 59 #[.int .u64 0,.int .u64 0,.int .u64 1,.int .u64 (next:Int),.int .i64 1,.int .i64 1,.slice none 0 0]);have HT4:Hid (V3 IV IC (W2.alloc (.cells #[.int .u64 0,.int .u64 0,.int .u64 1,.int .u64 (next:Int),.int .i64 1,.int .i64 1,.slice none 0 0] 59)) B (fun j=>((X j∨j=w.heap.size)∨∃o,A1=some ⟨j,o,none⟩)∨j=W2.heap.size) vp pd p s):=wV.out.more H HC qY.out fun j hj=>by
  rcases hj with hj|rfl
  ·exact .inl hj
  ·exact .inr ⟨Nat.le_refl _,by simp⟩
 have mv:=QH (jZ.out.trans (Ke.of_below qY.out));have HL4:=QH (nk.out.below qY.out);obtain⟨W3,hW3⟩:=QE (W2.alloc (.cells #[.int .u64 0,.int .u64 0,.int .u64 1,.int .u64 (next:Int),.int .i64 1,.int .i64 1,.slice none 0 0] 59));rw[hW3]at qY oF HT4 mv HL4 ⊢;clear hW3 wV jZ nk;obtain⟨TB,hTB⟩:=QE W2.heap.size;rw[hTB]at oF HT4 HTS HAT ⊢;clear hTB qY;refine(qi8 H HT4.out).mono ?_;rintro e W4 ⟨A2,cc2,rfl,hg4,hn4,hb4⟩;have bK:=QH (HT4.out.below H HC hb4);have ny:=QH (mv.out.trans (Ke.of_below hb4));have HL5:=QH (HL4.out.below hb4);have wS:=QH (oF.out.below hb4);have HGD:=QH hg4;have HNA:=QH hn4;have HX5:Hid (∀b o,A1=some ⟨b,o,none⟩→b<W4.heap.size):=fun b o e=>bK.out.choose_spec.choose_spec.choose_spec.2.2.2.2.1 b (.inl (.inr ⟨o,e⟩));have HGN:Hid (zZ (1,next)):=⟨by show 1<18446744073709551616;omega,hnx⟩;obtain⟨y1,hy1⟩:=QE ((qw s.m).1:Int);obtain⟨y2,hy2⟩:=QE ((qw s.m).2:Int);have nz:=QH hy1;have nA:=QH hy2;have eX:(s.m.qa.map (·.g)).length=s.m.qa.length:=List.length_map _;clear hg4 hn4 hb4 HT4 mv HL4 hy1 hy2;by_cases hz:s.m.qa.length=0
 ·have hlz:((s.m.qa.map (·.g)).length:Int)=0:=by omega
  have q2e:(s.m.qa.map (·.g)).length=0:=by omega
  have hl0:=HL0.out hz;have q0:W4.cell? ⟨TB,0,none⟩=some (.int .u64 y1):=by rw[wS.out.cell 0,← nz.out,hl0];rfl
  have q1:W4.cell? ⟨TB,1,none⟩=some (.int .u64 y2):=by rw[wS.out.cell 1,← nA.out,hl0];rfl
  have q2:W4.cell? ⟨TB,2,none⟩=some (.int .u64 1):=wS.out.cell 2;have q3:W4.cell? ⟨TB,3,none⟩=some (.int .u64 (next:Int)):=wS.out.cell 3;have q4:W4.cell? ⟨TB,4,none⟩=some (.int .i64 1):=wS.out.cell 4;have q5:W4.cell? ⟨TB,5,none⟩=some (.int .i64 1):=wS.out.cell 5;have q6:W4.cell? ⟨TB,6,none⟩=some (.slice none 0 0):=wS.out.cell 6;rw[q2e];clear hlz q2e hl0 eX hz;go_wp2_with fail;refine(kK HC bK.out (Nat.le_trans HM.out ny.out.size) (fun o1 o2 ho hx=>by
   have h5:=H.stage ⟨qw s.m,(1,next),1,1⟩ A1 cc1 [(n8,vB a)] (bT.out ▸ ho) HJ.out HF.out HR.out ⟨HGL.out,HGN.out,by unfold yA;dsimp only;omega,by unfold yA;dsimp only;omega⟩ HL5.out (by simp) (fun b o e=>⟨fun hh=>(hx b (.inl hh)).2 (.inl (.inr ⟨o,e⟩)),fun hh=>(hx b (.inr hh)).2 (.inl (.inr ⟨o,e⟩))⟩);unfold dc at h5;dsimp only at h5;rw[nz.out,nA.out]at h5;exact h5)).mono ?_
  rintro e W6 ⟨r,d',m',l',rfl,tH,ji,hq6⟩;have bC:=QH tH;have HK6:=QH (ny.out.trans (ji.mono fun j hj=>.inl (.inl hj)));have HL6:=QH (yT HL5.out (fun b o e=>ji.block (HX5.out b o e) (.inl (.inl (.inr ⟨o,e⟩)))) ji.size);have HQ:=QH hq6;clear tH ji hq6 bK ny HL5 q0 q1 q2 q3 q4 q5 q6;go_wp2_with fail;refine(ch.zF 1 next _).mono ?_;rintro e W7 ⟨rfl,kG⟩;have nI:=QH (bC.out.below H HC kG);have HK7:=QH (HK6.out.trans (Ke.of_below kG));have HL7:=QH (HL6.out.below kG);clear kG bC HK6 HL6;go_wp2_with fail;refine(kL H nI.out (Nat.le_trans HM.out HK7.out.size) (r:=s.c.add (1,next) [(n8,vB a)]) (fun o3 ho hx=>HC.add (1,next) A1 cc1 [(n8,vB a)] ho HGN.out HL7.out (by simp) (fun b o e hh=>(hx b hh).2 (.inl (.inr ⟨o,e⟩))))).mono ?_;rintro e W8 ⟨rfl,hv8,hk8⟩;have HV:Hid (V3 IV IC W8 B X vp pd p ⟨d',m',(s.c.add (1,next) [(n8,vB a)]).1,l'⟩):=hv8.fJ fun j hj=>.inl (.inl (.inl hj));have HKE:Hid (Ke B X w W8):=(Ke.of_below xu.out).trans ((HK7.out.trans (hk8.mono fun j hj=>.inl (.inl hj))).mono fun j hj=>.inl hj);clear hv8 hk8 nI HK7;go_wp2_with fail;go_ret2;refine⟨r,d',m',l',?_,?_,HKE.out,?_⟩
  ·rw[nB.out];rfl
  ·rw[nB.out];exact HV.out
  ·rw[HSP.out];exact HQ.out
 ·obtain⟨kl,hkl⟩:=QE (s.m.qa.length-1);have zK:kl+1=s.m.qa.length:=by omega
  have hkg:kl<(s.m.qa.map (·.g)).length:=by omega
  have hlk:=HLK.out kl hkg zK;obtain⟨bl,ol,rfl,hbl,g0,g1,_⟩:=HGD.out kl hkg;rw[← hlk,nz.out]at g0;rw[← hlk,nA.out]at g1;have qom:(0:Int)<((s.m.qa.map (·.g)).length:Int):=by omega
  have hwr:IntKind.i64.wrap (((s.m.qa.map (·.g)).length:Int)-1)=(kl:Int):=by rw[IntWalk.i64_in _ (by omega)];omega
  have jG:(kl:Int)<((s.m.qa.map (·.g)).length:Int):=by omega
  have f0:=wS.out.frozen 0;have f1:=wS.out.frozen 1;have p0:W4.cell? ⟨TB,0,none⟩=some (.int .u64 0):=wS.out.cell 0;have p1:W4.cell? ⟨TB,1,none⟩=some (.int .u64 0):=wS.out.cell 1;have wT:=QH ((wS.out.qo 0 (.int .u64 y1)).qo 1 (.int .u64 y2));have bO:Hid (qy (fun j=>j=TB) W4 ((W4.setCell ⟨TB,0,none⟩ (.int .u64 y1)).setCell ⟨TB,1,none⟩ (.int .u64 y2))):=((qy.refl (fun j=>j=TB) W4).setCell ⟨TB,0,none⟩ (.int .u64 y1) (.inl rfl)).setCell ⟨TB,1,none⟩ (.int .u64 y2) (.inl rfl);have q0:=wT.out.cell 0;have q1:=wT.out.cell 1;have q2:=wT.out.cell 2;have q3:=wT.out.cell 3;have q4:=wT.out.cell 4;have q5:=wT.out.cell 5;have q6:=wT.out.cell 6;simp only[List.setIfInBounds_toArray,List.set_cons_zero,List.set_cons_succ,QA,QB,QC]at q0 q1 q2 q3 q4 q5 q6;have q2g:=QH (bK.out.turn H HC (bO.out.mono fun j hj=>.inr hj));have q2h:Hid (Ke B (fun j=>X j∨j=w.heap.size) w0 ((W4.setCell ⟨TB,0,none⟩ (.int .u64 y1)).setCell ⟨TB,1,none⟩ (.int .u64 y2))):=ny.out.trans (bO.out.mono fun j hj=>by
   have h1:j=TB:=hj;subst h1;exact⟨Nat.le_trans HM.out HTS.out,fun hx=>absurd (HXL.out j hx) (by have:=HTS.out;omega)⟩)
  have q2i:=QH (yT HL5.out (fun b o e=>bO.out.block b (HX5.out b o e) (fun hb=>by
   have h1:b=TB:=hb;have h2:=HAT.out b o e;omega)) bO.out.size)
  have q2j:Hid (∀b o,A1=some ⟨b,o,none⟩→b<((W4.setCell ⟨TB,0,none⟩ (.int .u64 y1)).setCell ⟨TB,1,none⟩ (.int .u64 y2)).heap.size):=fun b o e=>Nat.lt_of_lt_of_le (HX5.out b o e) bO.out.size;clear bK ny HL5 HX5 bO wT hlk;have bK:=QH q2g.out;have ny:=QH q2h.out;have HL5:=QH q2i.out;have HX5:=QH q2j.out;clear q2g q2h q2i q2j;go_wp2_with fail;refine(kK HC bK.out (Nat.le_trans HM.out ny.out.size) (fun o1 o2 ho hx=>by
   have h5:=H.stage ⟨qw s.m,(1,next),1,1⟩ A1 cc1 [(n8,vB a)] (bT.out ▸ ho) HJ.out HF.out HR.out ⟨HGL.out,HGN.out,by unfold yA;dsimp only;omega,by unfold yA;dsimp only;omega⟩ HL5.out (by simp) (fun b o e=>⟨fun hh=>(hx b (.inl hh)).2 (.inl (.inr ⟨o,e⟩)),fun hh=>(hx b (.inr hh)).2 (.inl (.inr ⟨o,e⟩))⟩);unfold dc at h5;dsimp only at h5;rw[nz.out,nA.out]at h5;exact h5)).mono ?_
  rintro e W6 ⟨r,d',m',l',rfl,tH,ji,hq6⟩;have bC:=QH tH;have HK6:=QH (ny.out.trans (ji.mono fun j hj=>.inl (.inl hj)));have HL6:=QH (yT HL5.out (fun b o e=>ji.block (HX5.out b o e) (.inl (.inl (.inr ⟨o,e⟩)))) ji.size);have HQ:=QH hq6;clear tH ji hq6 bK ny HL5 q0 q1 q2 q3 q4 q5 q6;go_wp2_with fail;refine(ch.zF 1 next _).mono ?_;rintro e W7 ⟨rfl,kG⟩;have nI:=QH (bC.out.below H HC kG);have HK7:=QH (HK6.out.trans (Ke.of_below kG));have HL7:=QH (HL6.out.below kG);clear kG bC HK6 HL6;go_wp2_with fail;refine(kL H nI.out (Nat.le_trans HM.out HK7.out.size) (r:=s.c.add (1,next) [(n8,vB a)]) (fun o3 ho hx=>HC.add (1,next) A1 cc1 [(n8,vB a)] ho HGN.out HL7.out (by simp) (fun b o e hh=>(hx b hh).2 (.inl (.inr ⟨o,e⟩))))).mono ?_;rintro e W8 ⟨rfl,hv8,hk8⟩;have HV:Hid (V3 IV IC W8 B X vp pd p ⟨d',m',(s.c.add (1,next) [(n8,vB a)]).1,l'⟩):=hv8.fJ fun j hj=>.inl (.inl (.inl hj));have HKE:Hid (Ke B X w W8):=(Ke.of_below xu.out).trans ((HK7.out.trans (hk8.mono fun j hj=>.inl (.inl hj))).mono fun j hj=>.inl hj);clear hv8 hk8 nI HK7;go_wp2_with fail;go_ret2;refine⟨r,d',m',l',?_,?_,HKE.out,?_⟩
  ·rw[nB.out];rfl
  ·rw[nB.out];exact HV.out
  ·rw[HSP.out];exact HQ.out
theorem pY {IV:yn}{IC:ch.bE}(H:yx IV)(HC:ch.Ops IC){B vp pd p N:Nat}{X:Nat→Prop}{w:World}{s:Tri}{t:Tg}(h:V3 IV IC w B X vp pd p s)(hB:B≤w.heap.size)(hlo:s.lost=false)(hJ:JJ N t s.d)(hf:0≤s.d.qp)(hr:qO 8 N t s.m)
    (x:DoP) (next:Nat) (hk:x.k<256) (hn:x.n<256) (hnx:next<18446744073709551616) :
    Calls prog 11 #[.pointer (some ⟨vp,0,none⟩),.pointer (some ⟨p,0,none⟩),.agg (j9 x),.int .u64 (next:Int)] w (StP IV IC B X vp pd p N t s x next w):=by
 have h6:x.k%6<6:=Nat.mod_lt _ (by decide);by_cases h0:x.k%6=0∨x.k%6=1
 ·exact qht H HC h hB hlo hJ hf hr x next hk hn h0
 by_cases h2:x.k%6=2
 ·exact qle H HC h hB hlo hJ hf hr x next hk hn hnx h2
 by_cases h3:x.k%6=3
 ·exact qlf H HC h hB hlo hJ hf hr x next hk hn hnx h3
 by_cases h4:x.k%6=4
 ·exact qlg H HC h hB hlo hJ hf hr x next hk hn hnx h4
 exact qhu H HC h hB hlo hJ hf hr x next hk hn hnx (by omega)
end Go.Proofs.YtdagdllomphidaaGreatDoor.vt
namespace Go.Proofs.YtdagdllomphidaaGreatDoor.ch
open _root_.Go.Proofs.Tryz Go Go.RowKit ib
theorem ud {w wr:World}(h:Below w.heap.size w wr)(n:Nat):Below w.heap.size w (wr.drewN n):=⟨h.os,h.tape,h.output,h.size,h.block⟩
def okB (r:Bool)(w:World)(e:Ending)(w':World):Prop:=e=.returned (.bool r)∧Below w.heap.size w w'
def q2k {α:Type}(ps qs:List α)(w:World)(i:Value)(wr:World):Prop:=∃k:Nat,k≤ps.length∧i=.int .i64 (k:Int)∧ps.take k=qs.take k∧Below w.heap.size w wr
theorem qaI(A A':Option Addr)(c c':Nat)(ps qs:List Bt)(w:World)(hp:TxL w A ps)(hq:TxL w A' qs)(hl:ps.length≤9223372036854775807) :
    Calls prog 47 #[.slice A ps.length c,.slice A' qs.length c'] w (okB (decide (ps=qs)) w):=by
 have HP:=QH hp;have HQ:=QH hq;clear hp hq;by_cases hne:ps.length=qs.length
 ·have HNE:=QH hne;have hlb:((ps.length:Int) != (qs.length:Int))=false:=by rw[hne];simp
  clear hne;go_enter func47,ntmps47;go_wp2_with fail;go_loopw [5] (fun i wr=>q2k ps qs w i wr) (fun i _=>ps.length-(intOf i).toNat);case atStart=>exact⟨0,Nat.zero_le _,rfl,by simp,Below.refl _ _⟩
  case round =>
   obtain⟨k,hk,rfl,he,hb⟩:=hrel;have HE:=QH he;have HB:=QH hb;clear he hb;by_cases hlt:k<ps.length
   ·obtain⟨b,o,rfl,hbl,hc⟩:=HP.out k hlt;have hlq:k<qs.length:=by have:=HNE.out;omega
    obtain⟨b',o',rfl,ma,hc'⟩:=HQ.out k hlq;have h1:ps.take (k+1)=ps.take k++[ps[k]]:=List.take_succ_eq_append_getElem hlt;have h2:qs.take (k+1)=qs.take k++[qs[k]]:=List.take_succ_eq_append_getElem hlq;have hps:ps=qs→ps[k]=qs[k]:=fun h=>by subst h;rfl
    have my:=QH hps;have H1:=QH h1;have H2:=QH h2;have e0:wr.cell? ⟨b,o+k,none⟩=some (.string (str ps[k])):=by rw[HB.out.cell (p:=⟨b,o+k,none⟩) hbl];exact hc
    have e1:wr.cell? ⟨b',o'+k,none⟩=some (.string (str qs[k])):=by rw[HB.out.cell (p:=⟨b',o'+k,none⟩) ma];exact hc'
    have l0:b<wr.heap.size:=Nat.lt_of_lt_of_le hbl HB.out.size;have l1:b'<wr.heap.size:=Nat.lt_of_lt_of_le ma HB.out.size;have pX:(k:Int)<(ps.length:Int):=by omega
    have zeO:(k:Int)<(qs.length:Int):=by omega
    clear hc hc' h1 h2 hps;generalize ps[k]=x at *;generalize qs[k]=y at *;by_cases hxy:x=y
    ·subst hxy;have hxq:((str x).toList == (str x).toList)=true:=by simp
     go_wp2_with fail;go_quiet (fail);go_wp2_with fail;go_roundw;case rel=>exact⟨k+1,by omega,by go_num,by rw[H1.out,H2.out,HE.out],by first|exact ud HB.out _|exact HB.out⟩
     case measure=>simp[intOf];omega
    ·have hd:decide (ps=qs)=false:=decide_eq_false fun h=>hxy (my.out h);have hxq:((str x).toList == (str y).toList)=false:=by rw[iI,zi];simp[hxy]
     have HD:=QH hd;clear hd;go_wp2_with fail;go_quiet (fail);go_wp2_with fail;go_ret;rw[HD.out];exact⟨rfl,by first|exact ud HB.out _|exact HB.out⟩
   ·have hke:k=ps.length:=by omega
    have hd:decide (ps=qs)=true:=by
     refine decide_eq_true ?_;have h:=HE.out;rw[hke,List.take_length,HNE.out,List.take_length]at h;exact h
    have HD:=QH hd;clear hd;go_wp2_with fail;go_ret;rw[HD.out];exact⟨rfl,HB.out⟩
 ·have hlb:((ps.length:Int) != (qs.length:Int))=true:=by simp;omega
  have hd:decide (ps=qs)=false:=decide_eq_false fun h=>hne (by rw[h]);have HD:=QH hd;clear hd hne;go_enter func47,ntmps47;go_wp2_with fail;go_ret;rw[HD.out];exact⟨rfl,Below.refl _ _⟩
end Go.Proofs.YtdagdllomphidaaGreatDoor.ch
namespace Go.Proofs.YtdagdllomphidaaGreatDoor.ch
open _root_.Go.Proofs.Tryz Go Go.RowKit Go.Sort ib
theorem eu:prog.follows .mixedOrders=true:=by kernel_rfl
def lt (c:UInt8):UInt8:=if c=48 then 0 else c
def qaJ (s:List UInt8):List Bt:=s.map fun c=>vB (lt c)
def q2l (s:ByteArray)(ts:List Bt)(w:World)(i:Value)(wr:World):Prop:=∃k:Nat,k≤ts.length∧i=.int .i64 (k:Int)∧Below w.heap.size w wr
theorem jw (A:Option Addr)(c:Nat)(ts:List Bt)(s:ByteArray)(w:World)(hT:TxL w A ts)(hl:ts.length≤1000)(he:qaJ (bl s)=ts) :
    Calls prog 36 #[.slice A ts.length c,.int .i64 0,.string s] w fun e w'=>e=.returned (.bool true)∧Below w.heap.size w w':=by
 have HT:=QH hT;have hlen:ts.length=s.size:=by rw[← he];simp[qaJ,zu]
 have hlb:((ts.length:Int) != (s.size:Int))=false:=by rw[hlen];simp
 have bB:=QH hlen;have HE:=QH he;clear hT hlen he;go_enter func36,ntmps36;go_wp2_with fail;go_loopw [7] (fun i wr=>q2l s ts w i wr) (fun i _=>ts.length-(intOf i).toNat);case atStart=>exact⟨0,Nat.zero_le _,rfl,Below.refl _ _⟩
 case round =>
  obtain⟨k,hk,rfl,hb⟩:=hrel;have HB:=QH hb;clear hb;by_cases hlt:k<ts.length
  ·have pX:(k:Int)<(ts.length:Int):=by omega
   have hks:k<s.size:=by rw[← bB.out];exact hlt
   have zeR:(k:Int)<(s.size:Int):=by omega
   obtain⟨b,o,rfl,hbl,hc⟩:=HT.out k hlt;have e0:wr.cell? ⟨b,o+k,none⟩=some (.string (str ts[k])):=by rw[HB.out.cell (p:=⟨b,o+k,none⟩) hbl];exact hc
   have l0:b<wr.heap.size:=Nat.lt_of_lt_of_le hbl HB.out.size;have hts:ts[k]=vB (lt s[k]):=by
    have h1:ts[k]?=some (vB (lt s[k])):=by
     rw[← HE.out];unfold qaJ;rw[List.getElem?_map,show(bl s)[k]?=some s[k]from by rw[List.getElem?_eq_getElem (by rw[zu];exact hks)];rfl];rfl
    rw[List.getElem?_eq_getElem hlt]at h1;exact Option.some.inj h1
   obtain⟨S,hS⟩:=QE (str ts[k]);rw[hS]at e0;rw[hts]at hS;have HS:=QH hS;clear hc hts hS;have hch:∃ch,s[k]=ch:=⟨_,rfl⟩;have hq:(S.toList != S.toList)=false:=by simp
   have cR:∀d os,(grow (redrawn wr d) os).cell? ⟨b,o+k,none⟩=some (.string S):=fun d os=>cell_regrown e0 d os;have cD:∀d os,Calls prog 18 #[.int .u8 ((lt s[k]).toNat:Int)] (grow (redrawn wr d) os) fun e w''=>e=.returned (.string S)∧∃p:Regrown,w''=grow (redrawn wr p.d) p.os :=
    fun d os=>Calls.regrown_of (by have:=vk (lt s[k]) (grow (redrawn wr d) os);rw[← HS.out];exact this)
   clear hch;by_cases hz:s[k]=48
   ·rw[hz]at cD;have cD:∀d os,Calls prog 18 #[.int .u8 0] (grow (redrawn wr d) os) fun e w''=>e=.returned (.string S)∧∃p:Regrown,w''=grow (redrawn wr p.d) p.os:=cD;have hzb:((s[k].toNat:Int) == 48)=true:=by rw[hz];rfl
    clear hz;go_wp2_with fail;refine wp_region_quiet_below eu (by kernel_rfl) ?_;repeat (any_goals (first|go_big_quiet_step (exact cD _ _)|quiet_step (exact cD _ _)))
    refine wpQuiet_nil ?_;intro _ hw';obtain⟨⟨dq,osq⟩,hw''⟩:=hw';subst hw'';have qB:=QH (qc HB.out (below_regrown wr dq osq));go_wp2_with fail;go_roundw;case rel=>exact⟨k+1,by omega,by go_num,qB.out⟩
    case measure=>simp[intOf];omega
   ·have hlt2:lt s[k]=s[k]:=by unfold lt;rw[if_neg hz]
    rw[hlt2]at cD;have hzb:((s[k].toNat:Int) == 48)=false:=by
     rw[beq_eq_false_iff_ne];intro e;exact hz (UInt8.toNat_inj.1 (by show s[k].toNat=48;omega))
    go_wp2_with fail;refine wp_region_quiet_below eu (by kernel_rfl) ?_;repeat (any_goals (first|go_big_quiet_step (exact cD _ _)|quiet_step (exact cD _ _)))
    refine wpQuiet_nil ?_;intro _ hw';obtain⟨⟨dq,osq⟩,hw''⟩:=hw';subst hw'';have qB:=QH (qc HB.out (below_regrown wr dq osq));go_wp2_with fail;go_roundw;case rel=>exact⟨k+1,by omega,by go_num,qB.out⟩
    case measure=>simp[intOf];omega
  ·have pX:¬ (k:Int)<(ts.length:Int):=by omega
   go_wp2_with fail;go_ret;exact⟨rfl,HB.out⟩
end Go.Proofs.YtdagdllomphidaaGreatDoor.ch
namespace Go.Proofs.YtdagdllomphidaaGreatDoor.vt
open _root_.Go.Proofs.Tryz Go Go.RowKit ib
@[go_sem] theorem qti (a b c d:Int) (w:World):(Op.equalIn 10000 55 (.agg #[.int .u64 a,.int .u64 b]) (.agg #[.int .u64 c,.int .u64 d])).run prog w=.ok (a == c&&b == d) w:=by
 have u3:=underlying35;have a3:=isAgg35;have z3:=sizeOf35;rw[show(10000:Nat)=9999+1 from rfl,run_equalIn_agg w 9999 55 _ _ (by kernel_rfl) (by kernel_rfl)];simp only[Program.fieldsOf,underlying55];go_simp;by_cases h1:a=c <;> by_cases h2:b=d <;> simp[h1,h2]
@[go_sem] theorem q7D (a c:Int) (b d:ByteArray) (w:World):(Op.equalIn 10000 62 (.agg #[.int .i64 a,.string b]) (.agg #[.int .i64 c,.string d])).run prog w=.ok (a == c&&b.toList == d.toList) w:=by
 have u3:=underlying3;have a3:=isAgg3;have z3:=sizeOf3;have u4:=underlying9;have a4:=isAgg9;have z4:=sizeOf9;rw[show(10000:Nat)=9999+1 from rfl,run_equalIn_agg w 9999 62 _ _ (by kernel_rfl) (by kernel_rfl)];simp only[Program.fieldsOf,underlying62];go_simp;by_cases h1:a=c <;> by_cases h2:b.toList=d.toList <;> simp[h1,h2]
theorem qoy(x y:Nat × Nat):((x.1:Int) == (y.1:Int)&&(x.2:Int) == (y.2:Int))=decide (x=y):=by
 obtain⟨a,b⟩:=x;obtain⟨c,d⟩:=y;rw[Bool.eq_iff_iff];simp;omega
theorem qxk(x y:Int × Bt):(x.1 == y.1&&(str x.2).toList == (str y.2).toList)=decide (x=y):=by
 obtain⟨a,b⟩:=x;obtain⟨c,d⟩:=y;rw[iI,zi,Bool.eq_iff_iff];simp
end Go.Proofs.YtdagdllomphidaaGreatDoor.vt
namespace Go.Proofs.YtdagdllomphidaaGreatDoor.vt
open _root_.Go.Proofs.Tryz Go Go.RowKit Go.Sort ib jr mt im sp
def qu3 (n:Nat)(w:World)(i:Value)(wr:World):Prop:=∃k:Nat,k≤n∧i=.int .i64 (k:Int)∧Below w.heap.size w wr
def AsP (s c:ch.CH)(w:World)(e:Ending)(w':World):Prop:=∃b,e=.returned (.bool b)∧(s=c→b=true)∧Below w.heap.size w w'
theorem qeA(c:ch.CH)(k:Nat)(h:k<c.list.length):(c.changes (k:Int)).2=0:=by
 unfold ch.CH.list at h;rw[List.length_map]at h;unfold ch.CH.changes;rw[if_neg (by omega)]
theorem qsM{w:World}{v p:Nat}{s c:ch.CH}(hl:s.list.length≤1000)(wU:s.live.length≤1000)(hrl:∀g,(s.read g).1.length≤1000)(hcl:∀k,(s.changes k).1.length≤1000)
    (HLV:Hid (∀W,Below w.heap.size w W→Calls prog 16 #[.pointer (some ⟨v,0,none⟩)] W (ch.jY (s.live,0) W)))
    (HLC:Hid (∀W,Below w.heap.size w W→Calls prog 48 #[.pointer (some ⟨p,0,none⟩)] W (ch.qjH c.live W)))
    (HIV:Hid (∀W,Below w.heap.size w W→Calls prog 22 #[.pointer (some ⟨v,0,none⟩)] W (ch.lv s.list W)))
    (HIC:Hid (∀W,Below w.heap.size w W→Calls prog 49 #[.pointer (some ⟨p,0,none⟩)] W (ch.lv c.list W)))
    (HRV:Hid (∀W g,Below w.heap.size w W→ch.zZ g→Calls prog 32 #[.pointer (some ⟨v,0,none⟩),ch.gv g] W (ch.jY (s.read g) W)))
    (HRC:Hid (∀W g,Below w.heap.size w W→ch.zZ g→Calls prog 50 #[.pointer (some ⟨p,0,none⟩),ch.gv g] W (ch.jY (c.read g) W)))
    (HCV:Hid (∀W k,Below w.heap.size w W→ib.yA k→Calls prog 33 #[.pointer (some ⟨v,0,none⟩),.int .i64 k] W (ch.bN (s.changes k) W)))
    (HCC:Hid (∀W k,Below w.heap.size w W→ib.yA k→Calls prog 51 #[.pointer (some ⟨p,0,none⟩),.int .i64 k] W (ch.bN (c.changes k) W))) :
    Calls prog 13 #[.pointer (some ⟨v,0,none⟩),.pointer (some ⟨p,0,none⟩)] w (AsP s c w):=by
 have HRL:=QH hrl;have gK:=QH hcl;clear hrl hcl;go_enter func13,ntmps13;go_wp2_with fail;refine(HLV.out w (Below.refl _ _)).mono ?_;rintro e W1 ⟨A1,cc1,rfl,h1,_,hb1⟩;dsimp only at h1 ⊢;have qR:=QH hb1;have H1:=QH h1;clear h1 hb1;go_wp2_with fail;refine(HLC.out W1 qR.out).mono ?_;rintro e W2 ⟨A2,cc2,rfl,h2,_,hb2⟩;have qB:=QH (qc qR.out hb2);have H2:=QH h2;have H1b:=QH (H1.out.below hb2);clear h2 hb2 H1 qR;go_wp2_with fail;refine(ch.qaI A1 A2 cc1 cc2 s.live c.live W2 H1b.out H2.out (by omega)).mono ?_;rintro e W3 ⟨rfl,hb3⟩;have qY:=QH (qc qB.out hb3);clear hb3 H1b H2 qB;by_cases eX:s.live=c.live
 ·rw[decide_eq_true eX];clear eX;go_wp2_with fail;refine(HIV.out W3 qY.out).mono ?_;rintro e W4 ⟨A4,cc4,rfl,h4,_,hb4⟩;have zP:=QH (qc qY.out hb4);have H4:=QH h4;clear h4 hb4 qY;go_wp2_with fail;refine(HIC.out W4 zP.out).mono ?_;rintro e W5 ⟨A5,cc5,rfl,h5,_,hb5⟩;have xQ:=QH (qc zP.out hb5);have H4b:=QH (H4.out.below hb5);have H5:=QH h5;clear h5 hb5 H4 zP;by_cases hlen:s.list.length=c.list.length
  ·have hlb:((s.list.length:Int) != (c.list.length:Int))=false:=by rw[hlen];simp
   go_wp2_with fail;clear hlb;go_loopw [9] (fun i wr=>qu3 s.list.length W5 i wr) (fun i _=>s.list.length-(intOf i).toNat);case atStart=>exact⟨0,Nat.zero_le _,rfl,Below.refl _ _⟩
   case round =>
    obtain⟨k,hk,rfl,hb⟩:=hrel;have HX0:=QH hb;have xu:=QH (qc xQ.out hb);clear hb;by_cases hlt:k<s.list.length
    ·have hlq:k<c.list.length:=by omega
     have jG:(k:Int)<(s.list.length:Int):=by omega
     have hkq:(k:Int)<(c.list.length:Int):=by omega
     obtain⟨b,o,rfl,hbl,g0,g1,hgx⟩:=H4b.out k hlt;obtain⟨b',o',rfl,ma,g2,g3,hgy⟩:=H5.out k hlq;have HXY:Hid (s=c→s.list[k]=c.list[k]):=fun h=>by subst h;rfl
     have hz1:=qeA s k hlt;have hz2:=qeA c k hlq;generalize s.list[k]=x at *;generalize c.list[k]=y at *;obtain⟨r1,e1,hR1⟩:∃r e,s.read x=(r,e):=⟨_,_,rfl⟩;obtain⟨r2,e2,hR2⟩:∃r e,c.read y=(r,e):=⟨_,_,rfl⟩;obtain⟨q1,f1,hQ1⟩:∃r e,s.changes (k:Int)=(r,e):=⟨_,_,rfl⟩;obtain⟨q2,f2,hQ2⟩:∃r e,c.changes (k:Int)=(r,e):=⟨_,_,rfl⟩;rw[hQ1]at hz1;rw[hQ2]at hz2;dsimp only at hz1 hz2;subst hz1;subst hz2;have HSR:Hid (s=c→r1=r2∧e1=e2):=fun h=>by
      have h1:=HXY.out h;subst h;subst h1;rw[hR1]at hR2;exact⟨congrArg Prod.fst hR2,congrArg Prod.snd hR2⟩
     have HSQ:Hid (s=c→q1=q2):=fun h=>by
      subst h;rw[hQ1]at hQ2;exact congrArg Prod.fst hQ2
     have hrn:r1.length≤1000:=by have:=HRL.out x;rw[hR1]at this;exact this
     have hqn:q1.length≤1000:=by have:=gK.out k;rw[hQ1]at this;exact this
     have hkb:ib.yA (k:Int):=by unfold yA;omega
     have hc1:=HRV.out wr x xu.out hgx;rw[hR1]at hc1;have c0:wr.cell? ⟨b,o+k*2,none⟩=some (.int .u64 (x.1:Int)):=by rw[HX0.out.cell (p:=⟨b,o+k*2,none⟩) hbl];exact g0
     have c1:wr.cell? ⟨b,o+k*2+1,none⟩=some (.int .u64 (x.2:Int)):=by rw[HX0.out.cell (p:=⟨b,o+k*2+1,none⟩) hbl];exact g1
     have l0:b<wr.heap.size:=Nat.lt_of_lt_of_le hbl HX0.out.size;have jI:=QH hR2;have HQ1:=QH hQ1;have HQ2:=QH hQ2;clear hR1 hR2 hQ1 hQ2;go_wp2_with fail;refine hc1.mono ?_;clear hc1 c0 c1 l0;rintro e U1 ⟨A10,q2p,rfl,t1,_,b1⟩;dsimp only at t1 ⊢;have HX1:=QH (qc HX0.out b1);have qpr:=QH (qc xu.out b1);have HT1:=QH t1;clear b1 t1 HX0 xu;have hc2:=HRC.out U1 y qpr.out hgy;rw[jI.out]at hc2;have c2:U1.cell? ⟨b',o'+k*2,none⟩=some (.int .u64 (y.1:Int)):=by rw[HX1.out.cell (p:=⟨b',o'+k*2,none⟩) ma];exact g2
     have c3:U1.cell? ⟨b',o'+k*2+1,none⟩=some (.int .u64 (y.2:Int)):=by rw[HX1.out.cell (p:=⟨b',o'+k*2+1,none⟩) ma];exact g3
     have l1:b'<U1.heap.size:=Nat.lt_of_lt_of_le ma HX1.out.size;go_wp2_with fail;refine hc2.mono ?_;clear hc2 c2 c3 l1;rintro e U2 ⟨A12,q2q,rfl,t2,_,b2⟩;dsimp only at t2 ⊢;have HX2:=QH (qc HX1.out b2);have qxl:=QH (qc qpr.out b2);have q2r:=QH (HT1.out.below b2);have dT:=QH t2;clear b2 t2 HX1 qpr HT1;have hc3:=HCV.out U2 (k:Int) qxl.out hkb;rw[HQ1.out]at hc3;go_wp2_with fail;refine hc3.mono ?_;clear hc3;rintro e U3 ⟨A14,zeX,rfl,t3,_,b3⟩;dsimp only at t3 ⊢;have HX3:=QH (qc HX2.out b3);have qxm:=QH (qc qxl.out b3);have q2s:=QH (q2r.out.below b3);have q2t:=QH (dT.out.below b3);have wV:=QH t3;clear b3 t3 HX2 qxl q2r dT;have hc4:=HCC.out U3 (k:Int) qxm.out hkb;rw[HQ2.out]at hc4;go_wp2_with fail;refine hc4.mono ?_;clear hc4;rintro e U4 ⟨A16,zeZ,rfl,t4,_,b4⟩;dsimp only at t4 ⊢;have HX4:=QH (qc HX3.out b4);have qp6:=QH (qc qxm.out b4);have q2u:=QH (q2s.out.below b4);have q2v:=QH (q2t.out.below b4);have q2w:=QH (wV.out.below b4);have HT4:=QH t4;clear b4 t4 HX3 qxm q2s q2t wV;have e0:U4.cell? ⟨b,o+k*2,none⟩=some (.int .u64 (x.1:Int)):=by rw[HX4.out.cell (p:=⟨b,o+k*2,none⟩) hbl];exact g0
     have e1':U4.cell? ⟨b,o+k*2+1,none⟩=some (.int .u64 (x.2:Int)):=by rw[HX4.out.cell (p:=⟨b,o+k*2+1,none⟩) hbl];exact g1
     have e2':U4.cell? ⟨b',o'+k*2,none⟩=some (.int .u64 (y.1:Int)):=by rw[HX4.out.cell (p:=⟨b',o'+k*2,none⟩) ma];exact g2
     have e3':U4.cell? ⟨b',o'+k*2+1,none⟩=some (.int .u64 (y.2:Int)):=by rw[HX4.out.cell (p:=⟨b',o'+k*2+1,none⟩) ma];exact g3
     have cT:∀d os,Calls prog 47 #[.slice A10 r1.length q2p,.slice A12 r2.length q2q] (grow (redrawn U4 d) os) fun e w''=>e=.returned (.bool (decide (r1=r2)))∧∃p:Regrown,w''=grow (redrawn U4 p.d) p.os :=
      fun d os=>Calls.regrown_of (ch.qaI A10 A12 q2p q2q r1 r2 (grow (redrawn U4 d) os) (q2u.out.below (below_regrown U4 d os)) (q2v.out.below (below_regrown U4 d os)) (by omega))
     have hx:=qoy x y;generalize (x.1:Int)=x1 at *;generalize (x.2:Int)=x2 at *;generalize (y.1:Int)=y1 at *;generalize (y.2:Int)=y2 at *;have k0:∀d os,(grow (redrawn U4 d) os).cell? ⟨b,o+k*2,none⟩=some (.int .u64 x1):=fun d os=>cell_regrown e0 d os;have k1:∀d os,(grow (redrawn U4 d) os).cell? ⟨b,o+k*2+1,none⟩=some (.int .u64 x2):=fun d os=>cell_regrown e1' d os;have k2:∀d os,(grow (redrawn U4 d) os).cell? ⟨b',o'+k*2,none⟩=some (.int .u64 y1):=fun d os=>cell_regrown e2' d os;have k3:∀d os,(grow (redrawn U4 d) os).cell? ⟨b',o'+k*2+1,none⟩=some (.int .u64 y2):=fun d os=>cell_regrown e3' d os;have wV:=QH q2w.out;clear q2u q2v q2w hgx hgy g0 g1 g2 g3 hbl ma hkb jI HQ1 HQ2;have HXE:=QH hx;obtain⟨p1,hp1⟩:=QE (x1 == y1);obtain⟨p2,hp2⟩:=QE (x2 == y2);have HD1:Hid ((p1&&p2)=false→¬ s=c):=fun h h2=>by
      have:=HXE.out;rw[hp1,hp2,h,HXY.out h2]at this;simp at this
     clear hx HXE;by_cases hqq:p1=true∧p2=true
     ·obtain⟨rfl,rfl⟩:=hqq;clear HD1;by_cases hee:e1=e2
      ·subst hee;have q2y:(e1 != e1)=false:=by simp
       by_cases hrr:r1=r2
       ·rw[decide_eq_true hrr]at cT;clear hrr;by_cases q2z:q1.length=q2.length
        ·have hl2:((q1.length:Int) != (q2.length:Int))=false:=by rw[q2z];simp
         go_wp2_with fail;refine wp_region_quiet_below ch.eu (by kernel_rfl) ?_;repeat (any_goals (first|go_big_quiet_step (exact cT _ _)|quiet_step (exact cT _ _)))
         refine wpQuiet_nil ?_;intro _ hw';obtain⟨⟨dq,osq⟩,hw''⟩:=hw';subst hw'';have HBq:=QH (qc qp6.out (below_regrown U4 dq osq));have HXq:=QH (qc HX4.out (below_regrown U4 dq osq));have q20:=QH (wV.out.below (below_regrown U4 dq osq));have q21:=QH (HT4.out.below (below_regrown U4 dq osq));clear wV HT4 e0 e1' e2' e3' k0 k1 k2 k3 cT q2y hl2 hp1 hp2;obtain⟨U5,hU5⟩:=QE (grow (redrawn U4 dq) osq);rw[hU5]at HBq HXq q20 q21 ⊢;clear hU5;go_wp2_with fail;go_loopw [18] (fun i wr=>qu3 q1.length U5 i wr) (fun i _=>q1.length-(intOf i).toNat);case atStart=>exact⟨0,Nat.zero_le _,rfl,Below.refl _ _⟩
         case round =>
          obtain⟨j,hj,rfl,hb⟩:=hrel;have HJ:=QH hb;clear hb;by_cases hjl:j<q1.length
          ·obtain⟨b,o,rfl,hbl,hc,hd,_⟩:=q20.out j hjl;have hjq:j<q2.length:=by omega
           obtain⟨b',o',rfl,ma,hc',hd',_⟩:=q21.out j hjq;have my:Hid (s=c→q1[j]=q2[j]):=fun h=>by
            have:=HSQ.out h;subst this;rfl
           have e0:wr.cell? ⟨b,o+j*2,none⟩=some (.int .i64 q1[j].1):=by rw[HJ.out.cell (p:=⟨b,o+j*2,none⟩) hbl];exact hc
           have e1:wr.cell? ⟨b',o'+j*2,none⟩=some (.int .i64 q2[j].1):=by rw[HJ.out.cell (p:=⟨b',o'+j*2,none⟩) ma];exact hc'
           have e2:wr.cell? ⟨b,o+j*2+1,none⟩=some (.string (str q1[j].2)):=by rw[HJ.out.cell (p:=⟨b,o+j*2+1,none⟩) hbl];exact hd
           have e3:wr.cell? ⟨b',o'+j*2+1,none⟩=some (.string (str q2[j].2)):=by rw[HJ.out.cell (p:=⟨b',o'+j*2+1,none⟩) ma];exact hd'
           have l0:b<wr.heap.size:=Nat.lt_of_lt_of_le hbl HJ.out.size;have l1:b'<wr.heap.size:=Nat.lt_of_lt_of_le ma HJ.out.size;have qnU:(j:Int)<(q1.length:Int):=by omega
           have zfb:(j:Int)<(q2.length:Int):=by omega
           clear hc hc' hd hd';generalize q1[j]=x at *;generalize q2[j]=y at *;have hx:=qxk x y;generalize x.1=x1 at *;generalize str x.2=x2 at *;generalize y.1=y1 at *;generalize str y.2=y2 at *;have HXE:=QH hx;obtain⟨p1,hp1⟩:=QE (x1 == y1);obtain⟨p2,hp2⟩:=QE (x2.toList == y2.toList);have HD1:Hid ((p1&&p2)=false→¬ s=c):=fun h h2=>by
            have:=HXE.out;rw[hp1,hp2,h,my.out h2]at this;simp at this
           clear hx HXE;by_cases hqq:p1=true∧p2=true
           ·obtain⟨rfl,rfl⟩:=hqq;clear HD1;go_wp2_with fail;go_quiet (fail);go_wp2_with fail;refine⟨⟨j+1,by omega,by go_num,⟨HJ.out.os,HJ.out.tape,HJ.out.output,HJ.out.size,HJ.out.block⟩⟩,?_⟩;simp[intOf];omega
           ·have hqb:(p1&&p2)=false:=by cases p1 <;> cases p2 <;> simp at hqq ⊢
            have HD:=QH (HD1.out hqb);have hqs:(p1=false)∨(p1=true∧p2=false):=by cases p1 <;> cases p2 <;> simp at hqq ⊢
            clear hqq hqb HD1;rcases hqs with rfl|⟨rfl,rfl⟩;all_goals
             go_wp2_with fail;go_quiet (fail);go_wp2_with fail;go_ret;refine⟨false,rfl,fun h=>absurd h HD.out,?_⟩;have HBJ:=qc HBq.out HJ.out;exact⟨HBJ.os,HBJ.tape,HBJ.output,HBJ.size,HBJ.block⟩
          ·have qnU:¬ (j:Int)<(q1.length:Int):=by omega
           have HXJ:=QH (qc HXq.out HJ.out);go_wp2_with fail;go_roundw;case rel=>exact⟨k+1,by omega,by go_num,HXJ.out⟩
           case measure=>simp[intOf];omega
        ·have hl2:((q1.length:Int) != (q2.length:Int))=true:=by simp;omega
         go_wp2_with fail;refine wp_region_quiet_below ch.eu (by kernel_rfl) ?_;repeat (any_goals (first|go_big_quiet_step (exact cT _ _)|quiet_step (exact cT _ _)))
         refine wpQuiet_nil ?_;intro _ hw';obtain⟨⟨dq,osq⟩,hw''⟩:=hw';subst hw'';have HBq:=QH (qc qp6.out (below_regrown U4 dq osq));go_wp2_with fail;go_ret;exact⟨false,rfl,fun h=>absurd (by rw[HSQ.out h]) q2z,HBq.out⟩
       ·rw[decide_eq_false hrr]at cT;go_wp2_with fail;refine wp_region_quiet_below ch.eu (by kernel_rfl) ?_;repeat (any_goals (first|go_big_quiet_step (exact cT _ _)|quiet_step (exact cT _ _)))
        refine wpQuiet_nil ?_;intro _ hw';obtain⟨⟨dq,osq⟩,hw''⟩:=hw';subst hw'';have HBq:=QH (qc qp6.out (below_regrown U4 dq osq));go_wp2_with fail;go_ret;exact⟨false,rfl,fun h=>absurd (HSR.out h).1 hrr,HBq.out⟩
      ·have q2y:(e1 != e2)=true:=by simpa using hee
       go_wp2_with fail;refine wp_region_quiet_below ch.eu (by kernel_rfl) ?_;repeat (any_goals (first|go_big_quiet_step (exact cT _ _)|quiet_step (exact cT _ _)))
       refine wpQuiet_nil ?_;intro _ hw';obtain⟨⟨dq,osq⟩,hw''⟩:=hw';subst hw'';have HBq:=QH (qc qp6.out (below_regrown U4 dq osq));go_wp2_with fail;go_ret;exact⟨false,rfl,fun h=>absurd (HSR.out h).2 hee,HBq.out⟩
     ·have hqb:(p1&&p2)=false:=by cases p1 <;> cases p2 <;> simp at hqq ⊢
      have HD:=QH (HD1.out hqb);have hqs:(p1=false)∨(p1=true∧p2=false):=by cases p1 <;> cases p2 <;> simp at hqq ⊢
      clear hqq hqb HD1;rcases hqs with rfl|⟨rfl,rfl⟩;all_goals
       go_wp2_with fail;refine wp_region_quiet_below ch.eu (by kernel_rfl) ?_;repeat (any_goals (first|go_big_quiet_step (exact cT _ _)|quiet_step (exact cT _ _)))
       refine wpQuiet_nil ?_;intro _ hw';obtain⟨⟨dq,osq⟩,hw''⟩:=hw';subst hw'';have HBq:=QH (qc qp6.out (below_regrown U4 dq osq));go_wp2_with fail;go_ret;exact⟨false,rfl,fun h=>absurd h HD.out,HBq.out⟩
    ·have jG:¬ (k:Int)<(s.list.length:Int):=by omega
     go_wp2_with fail;go_ret;exact⟨true,rfl,fun _=>rfl,xu.out⟩
  ·have hlb:((s.list.length:Int) != (c.list.length:Int))=true:=by simp;omega
   go_wp2_with fail;go_ret;exact⟨false,rfl,fun h=>absurd (by rw[h]) hlen,xQ.out⟩
 ·rw[decide_eq_false eX];go_wp2_with fail;go_ret;exact⟨false,rfl,fun h=>absurd (by rw[h]) eX,qY.out⟩
end Go.Proofs.YtdagdllomphidaaGreatDoor.vt
namespace Go.Proofs.YtdagdllomphidaaGreatDoor.vt
open _root_.Go.Proofs.Tryz Go Go.RowKit ib jr mt im sp
section
variable {b N:Nat} {t:Tg} {m:Mt}
theorem qeB(t:Tg)(m:Mt):(zh t m).list=m.qa.map (·.g):=by
 unfold ch.CH.list zh;rw[List.map_map];rfl
theorem qp7(h:yB b N m){s:ch.Sn}(hs:s∈(zh t m).qa):s.bs.length≤8:=by
 obtain⟨sp,h1,rfl⟩:=List.mem_map.1 hs;show(volume t sp.ql).length≤8;rw[xw,(h.uD sp h1).1];exact h.b8
theorem qcq(h:yB b N m)(g:Gd):((zh t m).read g).1.length≤8:=by
 unfold ch.CH.read;split
 ·simp
 ·split
  ·simp
  ·rename_i s hs;split
   ·simp
   ·exact qp7 h (List.mem_of_getElem? hs)
theorem qeC(h:yB b N m)(k:Nat):((zh t m).mG k).length≤8:=by
 unfold ch.CH.mG;split
 ·simp
 ·rename_i s hs;exact qp7 h (List.mem_of_getElem? hs)
theorem qeD(h:yB b N m)(k:Int):((zh t m).changes k).1.length≤8:=by
 unfold ch.CH.changes;split
 ·simp
 ·exact Nat.le_trans (Nat.le_trans (List.length_filterMap_le _ _) (by rw[List.length_range];exact Nat.le_refl _)) (qeC h _)
end
theorem qxn{IV:yn}{IC:ch.bE}(H:yx IV)(HC:ch.Ops IC){w:World}{o1 o2 o3:Nat→Prop}{v pd p N b:Nat}{d:DD}{m:Mt}{c:ch.CH}{t:Tg}
    (hv:VP IV w o1 o2 v pd d m false) (hJ:JJ N t d) (hr:qO b N t m) (hc:IC o3 w p c) :
    Calls prog 13 #[.pointer (some ⟨v,0,none⟩),.pointer (some ⟨p,0,none⟩)] w (AsP (zh t m) c w):=by
 have HV:∀W,Below w.heap.size w W→VP IV W o1 o2 v pd d m false:=fun W hb=>hv.keep H (fun j hj=>hb.block j (hv.low H j hj)) hb.size;have HK:∀W,Below w.heap.size w W→IC o3 W p c:=fun W hb=>HC.keep hc (fun j hj=>hb.block j (HC.low hc j hj)) hb.size;refine qsM ?_ ?_ (fun g=>Nat.le_trans (qcq hr.ok g) (by decide)) (fun k=>Nat.le_trans (qeD hr.ok k) (by decide)) (fun W hb=>H.live (HV W hb) hJ hr) (fun W hb=>HC.live (HK W hb)) (fun W hb=>?_) (fun W hb=>HC.list (HK W hb)) (fun W g hb hg=>H.read g (HV W hb) hJ hr hg) (fun W g hb hg=>HC.read g (HK W hb) hg) (fun W k hb hk=>H.changes k (HV W hb) hJ hr hk) (fun W k hb hk=>HC.changes k (HK W hb) hk)
 ·rw[qeB,List.length_map];exact Nat.le_trans hr.ok.few (by decide)
 ·show(volume t m.live).length≤1000;rw[xw,hr.ok.live.1];exact Nat.le_trans hr.ok.b8 (by decide)
 ·rw[qeB];exact H.list (HV W hb).is
theorem qaK{IV:yn}{IC:ch.bE}(H:yx IV)(HC:ch.Ops IC){w:World}{B v pd p N b:Nat}{X:Nat→Prop}{s:Tri}{t:Tg}
    (h:V3 IV IC w B X v pd p s) (hlo:s.lost=false) (hJ:JJ N t s.d) (hr:qO b N t s.m) :
    Calls prog 13 #[.pointer (some ⟨v,0,none⟩),.pointer (some ⟨p,0,none⟩)] w (AsP (zh t s.m) s.c w):=by
 obtain⟨o1,o2,o3,h1,h2,_⟩:=h;rw[hlo]at h1;exact qxn H HC h1 hJ hr h2
end Go.Proofs.YtdagdllomphidaaGreatDoor.vt
namespace Go.Proofs.YtdagdllomphidaaGreatDoor.vt
open _root_.Go.Proofs.Tryz Go Go.RowKit ib jr mt im sp
theorem qli{N:Nat}{t:Tg}{d d':DD}{m m':Mt}{r:Int}{l':Bool}(h:qO 8 N t m)(hj:JJ N t d)(dV:m.tok=zD)(hf:d.qp=0)(x:DoP)(next:Nat)(hn:next<18446744073709551616)(hq:yo N t d m (jO N m x next) r d' m' l') :
    (r=7∧N<377∧d'=d∧m'=m∧l'=false)∨(r=(xf (zh t m) x next).2∧l'=false∧d'.qp=0∧∃t',JJ N t' d'∧qO 8 N t' m'∧m'.tok=zD∧zh t' m'=(xf (zh t m) x next).1):=by
 rcases hq with⟨h0,rfl,rfl,rfl,rfl⟩|⟨h0,rfl,hj',rfl,rfl,hf',_⟩|⟨_,_,_,_,hf',_⟩
 ·rcases qe7 h dV x next hn with⟨h7,hN⟩|⟨h1,_,h3⟩
  ·exact .inl ⟨h7,hN,rfl,rfl,rfl⟩
  ·exact .inr ⟨h1,rfl,hf,t,hj,h,dV,(h3 h0).symm⟩
 ·rcases qe7 h dV x next hn with⟨h7,_⟩|⟨h1,h2,_⟩
  ·rw[h0]at h7;exact absurd h7 (by decide)
  ·obtain⟨⟨d1,d2,d3⟩,d4⟩:=h2 h0;exact .inr ⟨by rw[← h1,h0],rfl,hf' hf,_,hj',h.next d1 d2,d4,d3⟩
 ·exact absurd hf hf'
def VC (IV:yn)(IC:ch.bE)(N:Nat)(w:World)(B v pd p:Nat)(c:ch.CH):Prop :=
 ∃t d m,V3 IV IC w B (fun _=>False) v pd p ⟨d,m,c,false⟩∧qO 8 N t m∧JJ N t d∧d.qp=0∧m.tok=zD∧zh t m=c
section
variable {IV:yn} {IC:ch.bE} (H:yx IV) (HC:ch.Ops IC) {w w':World} {N B v pd p:Nat} {c:ch.CH}
theorem qp8(h:Ke B (fun _=>False) w w')(hB:B≤w.heap.size):Below B w w':=h.below hB
include H HC
theorem VC.below(h:VC IV IC N w B v pd p c)(hb:Below w.heap.size w w'):VC IV IC N w' B v pd p c:=by
 obtain⟨t,d,m,h1,h2⟩:=h;exact⟨t,d,m,h1.below H HC hb,h2⟩
theorem qsO(h:VC IV IC N w B v pd p c)(hB:B≤w.heap.size)(hN:377≤N)(x:DoP)(next:Nat)(hk:x.k<256)(hn:x.n<256)(hnx:next<18446744073709551616) :
    Calls prog 11 #[.pointer (some ⟨v,0,none⟩),.pointer (some ⟨p,0,none⟩),.agg (j9 x),.int .u64 (next:Int)] w
     fun e w'=>e=.returned (.tuple #[.int .i64 (xf c x next).2,.int .i64 (xf c x next).2])∧VC IV IC N w' B v pd p (xf c x next).1∧Below B w w':=by
 obtain⟨t,d,m,h1,h2,h3,h4,h5,h6⟩:=h;refine(pY H HC h1 hB rfl h3 (by show 0≤d.qp;omega) h2 x next hk hn hnx).mono ?_;rintro e w' ⟨r,d',m',l',rfl,hv,hke,hq⟩;rcases qli h2 h3 h5 h4 x next hnx hq with⟨_,hN',_⟩|⟨hr,rfl,hf,t',g1,g2,g3,g4⟩
 ·omega
 ·rw[h6]at hr g4;exact⟨by rw[hr],⟨t',d',m',hv,g2,g1,hf,g3,g4⟩,qp8 hke hB⟩
end
theorem qcr(t:Tg)(b:Nat):zh t (m0 b)=ch.jW b:=by
 unfold zh m0 ch.jW volume ch.wI;rw[List.map_replicate];rfl
theorem qxo{IV:yn}{IC:ch.bE}(H:yx IV)(HC:ch.Ops IC){w W1 W2:World}{v pd p N:Nat}{t:Tg}{d:DD}{o1 o2 o3:Nat→Prop}
    (hv:VP IV W1 o1 o2 v pd d (m0 8) false) (hj:JJ N t d) (hr:qO 8 N t (m0 8)) (hf:d.qp=0) (ho:∀j,o1 j∨o2 j→w.heap.size≤j)
    (hc:IC o3 W2 p (ch.jW 8)) (hb:Below W1.heap.size W1 W2) (hs:w.heap.size≤W1.heap.size) (hg:gN<w.heap.size) (ho3:∀j,o3 j→W1.heap.size≤j):VC IV IC N W2 w.heap.size v pd p (ch.jW 8):=by
 refine⟨t,d,m0 8,⟨o1,o2,o3,hv.keep H (fun j hj=>hb.block j (hv.low H j hj)) hb.size,hc,fun j hj=>⟨ho j hj,fun h=>?_,fun h=>h⟩,fun j hj=>⟨Nat.le_trans hs (ho3 j hj),fun h=>h⟩,fun j hj=>hj.elim,hg,fun h=>h⟩,hr,hj,hf,rfl,qcr t 8⟩;have h1:=hv.low H j (.inl hj);have h2:=ho3 j h;omega
end Go.Proofs.YtdagdllomphidaaGreatDoor.vt
namespace Go.Proofs.YtdagdllomphidaaGreatDoor.vt
open _root_.Go.Proofs.Tryz Go Go.RowKit ib jr mt im sp
def la:Bt:=vB 97
theorem q24:vB 0=zb:=by kernel_rfl
def tT:ch.Sn:=⟨(1,1),[la,zz],false⟩
def s12:ch.Sn:=⟨(1,2),[zz,la],false⟩
def Q0 (_:Tg)(m:Mt):Prop:=m=m0 2
def Q1 (t:Tg)(m:Mt):Prop:=zh t m=⟨[la,zz],[]⟩∧∃a:Int,m=⟨[a,0],[],zD⟩
def Q2 (t:Tg)(m:Mt):Prop:=zh t m=⟨[la,zz],[tT]⟩∧∃a:Int,m=⟨[a,0],[⟨(1,1),[a,0],false⟩],zD⟩
def Q3 (t:Tg)(m:Mt):Prop:=zh t m=⟨[zz,zz],[tT]⟩∧∃a y:Int,m=⟨[y,0],[⟨(1,1),[a,0],false⟩],zD⟩
def Q4 (t:Tg)(m:Mt):Prop:=zh t m=⟨[zz,zz],[tT]⟩∧∃a y:Int,m=⟨[y,0],[⟨(1,1),[a,0],false⟩],⟨(1,1),(1,2),1,2,[0,0]⟩⟩
def Q5 (t:Tg)(m:Mt):Prop:=zh t m=⟨[zz,la],[tT,s12]⟩∧m.tok=zD
def Q7 (t:Tg)(m:Mt):Prop:=zh t m=⟨[la,zz],[tT]⟩
section
variable {t:Tg} {d d':DD} {m m':Mt} {r:Int} {l':Bool}
theorem q7H(h:qO 2 250 t m)(_:JJ 250 t d)(hf:d.qp=0)(hQ:Q0 t m)(hq:yo 250 t d m (zv 250 m 0 la) r d' m' l'):Left Q1 0 r d' m' l':=by
 unfold Q0 at hQ;subst hQ;have e:(zh t (m0 2)).write 0 la=(⟨[la,zz],[]⟩,0):=by rw[qcr];kernel_rfl
 obtain⟨h1,h2,a,h3⟩:=qp3 h (by decide) 0 la (by rw[e]);rw[e]at h2;exact lZ h hf h1 h2 (fun t' hs=>⟨hs,a,by rw[h3];rfl⟩) hq
theorem q7I(h:qO 2 250 t m)(_:JJ 250 t d)(hf:d.qp=0)(hQ:Q1 t m)(hq:yo 250 t d m (jX m (1,1)) r d' m' l'):Left Q2 0 r d' m' l':=by
 obtain⟨hs,a,rfl⟩:=hQ;obtain⟨h1,h2,_⟩:=lr h (1,1) ⟨by decide,by decide⟩;have e:(zh t ⟨[a,0],[],zD⟩).snap (1,1)=(⟨[la,zz],[tT]⟩,0):=by rw[hs];kernel_rfl
 rw[e]at h1 h2;exact lZ h hf h1 (h2 h1) (fun t' hs=>⟨hs,a,rfl⟩) hq
theorem q7J(h:qO 2 250 t m)(_:JJ 250 t d)(hf:d.qp=0)(hQ:Q2 t m)(hq:yo 250 t d m (zv 250 m 0 (vB 0)) r d' m' l'):Left Q3 0 r d' m' l':=by
 obtain⟨hs,a,rfl⟩:=hQ;have e:(zh t ⟨[a,0],[⟨(1,1),[a,0],false⟩],zD⟩).write 0 (vB 0)=(⟨[zz,zz],[tT]⟩,0):=by rw[hs];kernel_rfl
 obtain⟨h1,h2,y,h3⟩:=qp3 h (by simp) 0 (vB 0) (by rw[e]);rw[e]at h2;exact lZ h hf h1 h2 (fun t' hs=>⟨hs,a,y,by rw[h3];rfl⟩) hq
theorem q7K(h:qO 2 250 t m)(_:JJ 250 t d)(hf:d.qp=0)(hQ:Q3 t m)(hq:yo 250 t d m (qV 250 m ⟨(1,1),(1,2),1,2⟩ [(0,vB 0)]) r d' m' l'):Left Q4 0 r d' m' l':=by
 obtain⟨hs,a,y,rfl⟩:=hQ;rw[q24]at hq;obtain⟨h1,h2,h3⟩:=q2b h (by simp) ⟨(1,1),(1,2),1,2⟩ ⟨by decide,by decide⟩ 0 (by kernel_rfl) (by decide) rfl;rw[hs]at h2;exact lZ h hf h1 h2 (fun t' hs=>⟨hs,a,y,by rw[h3];rfl⟩) hq
theorem q7L(h:qO 2 250 t m)(_:JJ 250 t d)(hf:d.qp=0)(hQ:Q4 t m)(hq:yo 250 t d m (qV 250 m ⟨(1,1),(1,2),2,2⟩ [(1,la)]) r d' m' l'):Left Q5 0 r d' m' l':=by
 obtain⟨hs,a,y,rfl⟩:=hQ;obtain⟨h1,h2,h3⟩:=q2c h (by simp) ⟨(1,1),(1,2),2,2⟩ ⟨by decide,by decide⟩ [(1,la)] (by decide) (by kernel_rfl) rfl;have e:zm (volume t (zr ⟨[y,0],[⟨(1,1),[a,0],false⟩],⟨(1,1),(1,2),1,2,[0,0]⟩⟩ ⟨(1,1),(1,2),2,2⟩)) [(1,la)]=[zz,la]:=rfl;rw[e,hs]at h2;exact lZ h hf h1 h2 (fun t' hs=>⟨hs,h3⟩) hq
theorem q7M(h:qO 2 250 t m)(hj:JJ 250 t d)(hf:d.qp=0)(hQ:Q5 t m)(hq:yo 250 t d m (qV 250 m ⟨(1,1),(1,3),1,1⟩ []) r d' m' l'):Left Q5 2 r d' m' l':=by
 have hl:qw m=(1,2):=by rw[← kI t,hQ.1];rfl
 have he:zQ m.live.length m.qa.length (qw m) ⟨(1,1),(1,3),1,1⟩ []=2:=by
  rw[hl];unfold zQ;rw[if_pos (.inl (by decide))]
 have hc:(qV 250 m ⟨(1,1),(1,3),1,1⟩ []).code=2:=by
  unfold qV;rw[if_pos (by rw[he];decide),he]
 have:=qxi hj h hf hQ (by rw[hc];decide) hq;rw[hc]at this;exact this
theorem q7N(h:qO 2 250 t m)(_:JJ 250 t d)(hf:d.qp=0)(hQ:Q5 t m)(hq:yo 250 t d m (jC m 1) r d' m' l'):Left Q7 0 r d' m' l':=by
 obtain⟨h1,h2,_⟩:=lu h 1;have e:(zh t m).roll 1=(⟨[la,zz],[tT]⟩,0):=by rw[hQ.1];kernel_rfl
 rw[e]at h1 h2;exact lZ h hf h1 (h2 h1) (fun t' hs=>hs) hq
end
end Go.Proofs.YtdagdllomphidaaGreatDoor.vt
namespace Go.Proofs.YtdagdllomphidaaGreatDoor.vt
open _root_.Go.Proofs.Tryz Go Go.RowKit ib jr mt im sp
theorem vb1:ch.qaJ (bl ⟨#[48,48]⟩)=[zz,zz]∧ch.qaJ (bl ⟨#[97,48]⟩)=[la,zz]∧ch.qaJ (bl ⟨#[48,97]⟩)=[zz,la]:=by decide +kernel
section
variable {IV:yn} (H:yx IV) {w w':World} {B v pd:Nat} {X:Nat→Prop} {Q Q':Tg→Mt→Prop}
include H
theorem qcs(h:VW IV w B X v pd Q){l:List Bt}(hQ:∀t m,Q t m→(zh t m).live=l):Calls prog 16 #[.pointer (some ⟨v,0,none⟩)] w (ch.jY (l,0) w):=by
 obtain⟨t,d,m,o1,o2,h1,h2,h3,h4,h5,h6,h7⟩:=h;have:=H.live h1 h5 h4;rw[show volume t m.live=l from hQ t m h7]at this;exact this
theorem qi9(h:VW IV w B X v pd Q)(g:Gd)(hg:zZ g){r:List Bt × Int}(hQ:∀t m,Q t m→(zh t m).read g=r):Calls prog 32 #[.pointer (some ⟨v,0,none⟩),ch.gv g] w (ch.jY r w):=by
 obtain⟨t,d,m,o1,o2,h1,h2,h3,h4,h5,h6,h7⟩:=h;have:=H.read g h1 h5 h4 hg;rw[hQ t m h7]at this;exact this
theorem qiA(h:VW IV w B X v pd Q){l:List Gd}(hQ:∀t m,Q t m→(zh t m).list=l):Calls prog 22 #[.pointer (some ⟨v,0,none⟩)] w (ch.lv l w):=by
 obtain⟨t,d,m,o1,o2,h1,h2,h3,h4,h5,h6,h7⟩:=h;have:=H.list h1.is;have e:m.qa.map (·.g)=l:=by
  rw[← hQ t m h7];unfold ch.CH.list zh;rw[List.map_map];rfl
 rw[e]at this;exact this
theorem qeE(h:VW IV w B X v pd Q){k:Tk}(hQ:∀t m,Q t m→m.tok=k):Calls prog 25 #[.pointer (some ⟨v,0,none⟩)] w (eJ k w):=by
 obtain⟨t,d,m,o1,o2,h1,h2,h3,h4,h5,h6,h7⟩:=h;have:=H.token h1.is;rw[hQ t m h7]at this;exact this
theorem qlj(h:VW IV w B X v pd Q)(hQ:∀t m,Q t m→m.live.length=2):Calls prog 35 #[.pointer (some ⟨v,0,none⟩)] w fun e w'=>e=.returned (.int .i64 2)∧Below w.heap.size w w':=by
 obtain⟨t,d,m,o1,o2,h1,h2,h3,h4,h5,h6,h7⟩:=h;have:=H.blocks h1.is;rw[hQ t m h7]at this;exact this
omit H in
theorem VW.fJ(h:VW IV w B X v pd Q){Y:Nat→Prop}(hY:∀j,Y j→X j):VW IV w B Y v pd Q:=by
 obtain⟨t,d,m,o1,o2,h1,h2,h3,h4⟩:=h;exact⟨t,d,m,o1,o2,h1,fun j hj=>⟨(h2 j hj).1,fun hy=>(h2 j hj).2 (hY j hy)⟩,⟨fun j hj=>h3.1 j (hY j hj),fun hy=>h3.2 (hY _ hy)⟩,h4⟩
theorem qeF(h:VW IV w B X v pd Q)(hB:B≤w.heap.size)(k:Int)(s:Bt)(hk:yA k)(hs:∀t d m r d' m' l',qO 2 250 t m→JJ 250 t d→d.qp=0→Q t m→yo 250 t d m (zv 250 m k s) r d' m' l'→Left Q' 0 r d' m' l') :
    Calls prog 17 #[.pointer (some ⟨v,0,none⟩),.int .i64 k,.string (str s)] w fun e w'=>e=.returned (.int .i64 0)∧VW IV w' B X v pd Q'∧Ke B X w w' :=
 nV h hB (P:=fun _ m=>zv 250 m k s) (fun o1 o2 t d m h1 _ hr hj hf _=>H.write k s h1 hj (by omega) hr hk) hs
theorem qsP(h:VW IV w B X v pd Q)(hB:B≤w.heap.size)(g:Gd)(hg:zZ g)(hs:∀t d m r d' m' l',qO 2 250 t m→JJ 250 t d→d.qp=0→Q t m→yo 250 t d m (jX m g) r d' m' l'→Left Q' 0 r d' m' l') :
    Calls prog 30 #[.pointer (some ⟨v,0,none⟩),ch.gv g] w fun e w'=>e=.returned (.int .i64 0)∧VW IV w' B X v pd Q'∧Ke B X w w' :=
 nV h hB (P:=fun _ m=>jX m g) (fun o1 o2 t d m h1 _ hr hj hf _=>H.snap g h1 hj (by omega) hr hg) hs
theorem qsQ(h:VW IV w B X v pd Q)(hB:B≤w.heap.size)(k:Int)(hk:yA k)(hs:∀t d m r d' m' l',qO 2 250 t m→JJ 250 t d→d.qp=0→Q t m→yo 250 t d m (jC m k) r d' m' l'→Left Q' 0 r d' m' l') :
    Calls prog 34 #[.pointer (some ⟨v,0,none⟩),.int .i64 k] w fun e w'=>e=.returned (.int .i64 0)∧VW IV w' B X v pd Q'∧Ke B X w w' :=
 nV h hB (P:=fun _ m=>jC m k) (fun o1 o2 t d m h1 _ hr hj hf _=>H.roll k h1 hj (by omega) hr hk) hs
theorem sA (h:VW IV w B X v pd Q)(hB:B≤w.heap.size)(f:Tf)(hF:TfB f)(A:Option Addr)(c:Nat)(x:List (Int × Bt))(hx:ch.vU w A x)(aW:x.length≤1000)(hA:∀b o,A=some ⟨b,o,none⟩→X b){r0:Int}(hs:∀t d m r d' m' l',qO 2 250 t m→JJ 250 t d→d.qp=0→Q t m→yo 250 t d m (qV 250 m f x) r d' m' l'→Left Q' r0 r d' m' l') :
    Calls prog 24 #[.pointer (some ⟨v,0,none⟩),dc f none 0 0,.slice A x.length c] w fun e w'=>e=.returned (.int .i64 r0)∧VW IV w' B X v pd Q'∧Ke B X w w' :=
 nV h hB (P:=fun _ m=>qV 250 m f x) (fun o1 o2 t d m h1 hX hr hj hf _=>H.stage f A c x h1 hj (by omega) hr hF hx aW (fun b o e=>⟨fun ho=>hX b (.inl ho) (hA b o e),fun ho=>hX b (.inr ho) (hA b o e)⟩)) hs
end
end Go.Proofs.YtdagdllomphidaaGreatDoor.vt
namespace Go.Proofs.YtdagdllomphidaaGreatDoor.vt
open _root_.Go.Proofs.Tryz Go Go.RowKit Go.Sort ib jr mt im sp
theorem qp9{w w':World}{A:Option Addr}{T:Nat}(h:∀j o,A=some ⟨j,o,none⟩→j<w.heap.size∧j≠T)(hb:Below w.heap.size w w'):∀j o,A=some ⟨j,o,none⟩→j<w'.heap.size∧j≠T:=fun j o e=>⟨Nat.lt_of_lt_of_le (h j o e).1 hb.size,(h j o e).2⟩
theorem qlk{B:Nat}{X:Nat→Prop}{w w':World}(h:Ke B X w w')(hB:B≤w.heap.size):Below B w w':=h.below hB
theorem sD {w w':World}{A:Option Addr}{l:List Int}(h:qrv w A l)(hb:Below w.heap.size w w'):qrv w' A l:=fun i hi=>by
 obtain⟨b,o,h1,h2,h3⟩:=h i hi;exact⟨b,o,h1,Nat.lt_of_lt_of_le h2 hb.size,by rw[hb.cell (p:=⟨b,o+i,none⟩) h2];exact h3⟩
def iF (vp TB:Nat)(A:Option Addr)(c:Nat):Nat→Value→World→Prop
 | 0,v,_=>v=.slice A 2 c
 | 1,v,_=>v=.int .i64 0
 | 2,v,_=>v=.bool true
 | 3,v,_=>v=.bool false
 | 4,v,_=>v=.bool false
 | 5,v,_=>v=.pointer (some ⟨TB,2,none⟩)
 | 6,v,_=>v=.agg #[.int .u64 0,.int .u64 0]
 | 7,v,_=>v=.agg #[.int .u64 0,.int .u64 0]
 | 8,v,_=>v=.bool false
 | 9,v,_=>v=.bool false
 | 10,v,_=>v=.bool false
 | 11,v,_=>v=.pointer (some ⟨vp,0,none⟩)
 | 12,v,_=>v=.agg #[.int .u64 1,.int .u64 1]
 | 13,v,_=>v=.agg #[.int .u64 1,.int .u64 3]
 | 14,v,_=>v=.agg #[.int .u64 1,.int .u64 1,.int .u64 1,.int .u64 3,.int .i64 1,.int .i64 1,.slice none 0 0]
 | 15,v,_=>v=.int .i64 2
 | 16,v,_=>v=.bool false
 | 17,v,_=>v=.bool false
 | 18,v,_=>v=.bool false
 | 19,v,_=>v=.pointer (some ⟨vp,0,none⟩)
 | 20,v,_=>v=.int .i64 0
 | 21,v,_=>v=.bool false
 | 22,v,_=>v=.bool false
 | _,_,_=>True
def WkS (IV:yn)(B:Nat)(X:Nat→Prop)(v pd:Nat)(w0:World)(_ b:Bool)(W:World):Prop:=Ke B X w0 W∧VW IV W B X v pd (if b=true then Q7 else Q5)
theorem wk1{IV:yn}(H:yx IV){B v pd:Nat}{X:Nat→Prop}{w0 W:World}(hS:WkS IV B X v pd w0 true false W∨WkS IV B X v pd w0 false false W)(hB:B≤W.heap.size) :
    Calls prog 24 #[.pointer (some ⟨v,0,none⟩),.agg #[.int .u64 1,.int .u64 1,.int .u64 1,.int .u64 3,.int .i64 1,.int .i64 1,.slice none 0 0],.slice none 0 0] W (fun x W'=>x=.returned (.int .i64 2)∧WkS IV B X v pd w0 true false W'):=by
 have h0:Ke B X w0 W∧VW IV W B X v pd Q5:=by
  rcases hS with h|h
  ·exact⟨h.1,h.2⟩
  ·exact⟨h.1,h.2⟩
 refine(sA H h0.2 hB ⟨(1,1),(1,3),1,1⟩ ⟨⟨by decide,by decide⟩,⟨by decide,by decide⟩,by unfold yA;dsimp only;omega,by unfold yA;dsimp only;omega⟩ none 0 [] (ch.vU.nil _ _) (by simp) (fun b o e=>by cases e) (Q':=Q5) (fun _ _ _ _ _ _ _=>q7M)).mono ?_;rintro e W' ⟨rfl,h1,h2⟩;exact⟨rfl,h0.1.trans h2,h1⟩
theorem wk2{IV:yn}(H:yx IV){B v pd:Nat}{X:Nat→Prop}{w0 W:World}(hS:WkS IV B X v pd w0 true false W)(hB:B≤W.heap.size) :
    Calls prog 34 #[.pointer (some ⟨v,0,none⟩),.int .i64 1] W (fun x W'=>x=.returned (.int .i64 0)∧WkS IV B X v pd w0 true true W'):=by
 have h0:Ke B X w0 W∧VW IV W B X v pd Q5:=⟨hS.1,hS.2⟩;refine(qsQ H h0.2 hB 1 (by unfold yA;omega) (Q':=Q7) (fun _ _ _ _ _ _ _=>q7N)).mono ?_;rintro e W' ⟨rfl,h1,h2⟩;exact⟨rfl,h0.1.trans h2,h1⟩
theorem qll{IV:yn}(H:yx IV)(w:World)(ht:xK w):Calls prog 8 #[] w (qff w):=by
 have dF:=QH ht;clear ht;have q7O:Hid (∀W,Calls prog 18 #[.int .u8 97] W (okS la W)):=fun W=>ch.vk 97 W;have HD0:Hid (∀W,Calls prog 18 #[.int .u8 0] W (okS (vB 0) W)):=fun W=>ch.vk 0 W;have qpA:Hid (∀W,Calls prog 23 #[.int .u64 1,.int .u64 1] W fun x w'=>x=.returned (.agg #[.int .u64 1,.int .u64 1])∧Below W.heap.size W w'):=fun W=>ch.zF 1 1 W;have qxp:Hid (∀W,Calls prog 23 #[.int .u64 1,.int .u64 2] W fun x w'=>x=.returned (.agg #[.int .u64 1,.int .u64 2])∧Below W.heap.size W w'):=fun W=>ch.zF 1 2 W;have q7P:Hid (∀W,Calls prog 23 #[.int .u64 1,.int .u64 3] W fun x w'=>x=.returned (.agg #[.int .u64 1,.int .u64 3])∧Below W.heap.size W w'):=fun W=>ch.zF 1 3 W;have q7Q:Hid (∀W,Calls prog 23 #[.int .u64 0,.int .u64 0] W fun x w'=>x=.returned (.agg #[.int .u64 0,.int .u64 0])∧Below W.heap.size W w'):=fun W=>ch.zF 0 0 W;go_enter func8,ntmps8;go_wp2_with fail;refine(dk.uM 1000 250 250 (by decide) (by decide) (by decide) (by decide) w).mono ?_;rintro e W1 ⟨pd,o,rfl,hd,hb1,ho⟩;have HD1:=QH hd;have qR:=QH hb1;have HO1:=QH ho;clear hd hb1 ho;go_wp2_with fail;refine(H.qd9 250 250 HD1.out (xd dF.out qR.out (zR dF.out)) (by decide) (by decide)).mono ?_;rintro e W2 ⟨rfl,hb2⟩;have HD2:=QH (HD1.out.keep hb2.size (fun j hj=>hb2.block j (cO HD1.out j hj)));have qB:=QH (qc qR.out hb2);clear hb2 qR HD1;go_wp2_with fail;refine(H.lx 2 250 250 HD2.out (xd dF.out qB.out (zR dF.out)) (fun h=>by have h1:=HO1.out _ h;have h2:=zR dF.out;omega) (by decide) (by decide) (by decide) (by decide) (by decide)).mono ?_;rintro e W3 ⟨rfl,t,d,o',hd3,hj,hr,hf,xX,ho'⟩;have qY:Hid (Below w.heap.size w W3):=qB.out.trans (xX.below (fun j hj=>HO1.out j hj) qB.out.size);have sM:Hid (∀j,o' j→w.heap.size≤j):=fun j hj=>by
  rcases ho' j hj with h|h
  ·exact HO1.out j h
  ·have:=qB.out.size;omega
 clear xX ho' HO1 qB HD2;go_wp2_with fail;refine(H.nN hd3 (xd dF.out qY.out (zR dF.out)) (fun h=>by have h1:=sM.out _ h;have h2:=zR dF.out;omega) hj.toRJ hf hr).mono ?_;rintro e W4 ⟨v,d',o1,o2,rfl,hv,hj',hf',xX,h1',h2'⟩;have zP:Hid (Below w.heap.size w W4):=qY.out.trans (xX.below (fun j hj=>sM.out j hj) qY.out.size);have HV4:Hid (VW IV W4 w.heap.size (fun _=>False) v pd Q0):=⟨t,d',m0 2,o1,o2,hv,fun j hj=>⟨by
  have hs:=qY.out.size;rcases hj with hj|hj
  ·have:=h1' j hj;omega
  ·rcases h2' j hj with h|h
   ·exact sM.out j h
   ·omega,fun h=>h⟩,⟨fun j hj=>hj.elim,fun h=>h⟩,hr,hj',hf',rfl⟩
 clear hv hd3 hj hj' hr hf hf' xX h1' h2' sM qY;go_wp2_with fail;refine(qlj H HV4.out (by intro t m h;cases h;rfl)).mono ?_;rintro e W5 ⟨rfl,hb⟩;have HV5:=QH (HV4.out.below H hb);have xQ:=QH (qc zP.out hb);clear hb HV4 zP;go_wp2_with fail;refine(qcs H HV5.out (l:=[zz,zz]) (by intro t m h;cases h;rw[qcr];rfl)).mono ?_;rintro e W6 ⟨A6,c6,rfl,ht,_,hb⟩;have eH:=QH (HV5.out.below H hb);have jy:=QH (qc xQ.out hb);dsimp only at ht ⊢;have T1:=QH ht;clear ht;clear hb HV5 xQ;go_wp2_with fail;refine(ch.jw _ _ [zz,zz] _ W6 T1.out (by decide) vb1.1).mono ?_;rintro e W7 ⟨rfl,hb⟩;have nW:=QH (eH.out.below H hb);have gY:=QH (qc jy.out hb);have T1n:=QH (T1.out.below hb);clear T1;have T1:=QH T1n.out;clear T1n;clear hb eH jy;clear T1;go_wp2_with fail;refine(q7O.out W7).mono ?_;rintro e W8 ⟨rfl,hb⟩;have HV8:=QH (nW.out.below H hb);have lW:=QH (qc gY.out hb);clear hb nW gY;go_wp2_with fail;refine(qeF H HV8.out lW.out.size 0 la (by unfold yA;omega) (fun _ _ _ _ _ _ _=>q7H)).mono ?_;rintro e W9 ⟨rfl,hv,hk⟩;have HV9:=QH hv;have HB9:=QH (lW.out.trans (hk.below lW.out.size));clear hv hk HV8 lW;go_wp2_with fail;refine(qpA.out W9).mono ?_;rintro e W10 ⟨rfl,hb⟩;have q26:=QH (HV9.out.below H hb);have qgP:=QH (qc HB9.out hb);clear hb HV9 HB9;go_wp2_with fail;refine(qsP H q26.out qgP.out.size (1,1) ⟨by decide,by decide⟩ (fun _ _ _ _ _ _ _=>q7I)).mono ?_;rintro e W11 ⟨rfl,hv,hk⟩;have q27:=QH hv;have rM:=QH (qgP.out.trans (hk.below qgP.out.size));clear hv hk q26 qgP;go_wp2_with fail;refine(HD0.out W11).mono ?_;rintro e W12 ⟨rfl,hb⟩;have q28:=QH (q27.out.below H hb);have qsS:=QH (qc rM.out hb);clear hb q27 rM;go_wp2_with fail;refine(qeF H q28.out qsS.out.size 0 (vB 0) (by unfold yA;omega) (fun _ _ _ _ _ _ _=>q7J)).mono ?_;rintro e W13 ⟨rfl,hv,hk⟩;have q29:=QH hv;have q2A:=QH (qsS.out.trans (hk.below qsS.out.size));clear hv hk q28 qsS;go_wp2_with fail;refine(qpA.out W13).mono ?_;rintro e W14 ⟨rfl,hb⟩;have qxq:=QH (q29.out.below H hb);have q2B:=QH (qc q2A.out hb);clear hb q29 q2A;go_wp2_with fail;refine(qi9 H qxq.out (1,1) ⟨by decide,by decide⟩ (r:=([la,zz],0)) (by intro t m h;rw[h.1];rfl)).mono ?_;rintro e W15 ⟨A15,c15,rfl,ht,_,hb⟩;have qxr:=QH (qxq.out.below H hb);have qoT:=QH (qc q2B.out hb);dsimp only at ht ⊢;have T1:=QH ht;clear ht;clear hb qxq q2B;go_wp2_with fail;refine(qcs H qxr.out (l:=[zz,zz]) (by intro t m h;rw[h.1])).mono ?_;rintro e W16 ⟨A16,c16,rfl,ht,_,hb⟩;have q2C:=QH (qxr.out.below H hb);have q2D:=QH (qc qoT.out hb);have T1n:=QH (T1.out.below hb);clear T1;have T1:=QH T1n.out;clear T1n;dsimp only at ht ⊢;have T2:=QH ht;clear ht;clear hb qxr qoT;go_wp2_with fail;refine(ch.jw _ _ [la,zz] _ W16 T1.out (by decide) vb1.2.1).mono ?_;rintro e W17 ⟨rfl,hb⟩;have q2E:=QH (q2C.out.below H hb);have q2F:=QH (qc q2D.out hb);have T1n:=QH (T1.out.below hb);clear T1;have T1:=QH T1n.out;clear T1n;have T2n:=QH (T2.out.below hb);clear T2;have T2:=QH T2n.out;clear T2n;clear hb q2C q2D;clear T1;go_wp2_with fail;refine(ch.jw _ _ [zz,zz] _ W17 T2.out (by decide) vb1.1).mono ?_;rintro e W18 ⟨rfl,hb⟩;have q2H:=QH (q2E.out.below H hb);have qkI:=QH (qc q2F.out hb);have T2n:=QH (T2.out.below hb);clear T2;have T2:=QH T2n.out;clear T2n;clear hb q2E q2F;clear T2;go_wp2_with fail;refine(qpA.out W18).mono ?_;rintro e W19 ⟨rfl,hb⟩;have q2I:=QH (q2H.out.below H hb);have q2J:=QH (qc qkI.out hb);clear hb q2H qkI;go_wp2_with fail;refine(qxp.out W19).mono ?_;rintro e W20 ⟨rfl,hb⟩;have q2K:=QH (q2I.out.below H hb);have q2L:=QH (qc q2J.out hb);clear hb q2I q2J;go_wp2_with fail;have HBP:=QH ((Below.refl W20.heap.size W20).alloc (Nat.le_refl _) (.cells #[.int .i64 0,.int .u8 0] 73));have tA:Hid (ch.PtL (W20.alloc (.cells #[.int .i64 0,.int .u8 0] 73)) (some ⟨W20.heap.size,0,none⟩) [((0:Int),(0:UInt8))]):=ch.qcn W20 0 0 (by unfold yA;omega);have lM:=QH (ch.kR (some ⟨W20.heap.size,0,none⟩) 1 [((0:Int),(0:UInt8))] _ tA.out (by simp));have HCO:ch.bG [((0:Int),(0:UInt8))]=[((0:Int),vB 0)]:=rfl;rw[HCO]at lM;obtain⟨S21,qxt⟩:=QE (vB 0);rw[qxt]at lM;have q7R:=QH qxt;clear HCO qxt;refine lM.out.mono ?_;rintro e W21 ⟨v1,rfl,ho1,hb1⟩;obtain⟨A21,c21,hv1,hl1,ia⟩:=ho1.rD (by intro y hy;simp at hy;subst hy;unfold yA;dsimp only;omega);subst hv1;have q2M:Hid (ch.vU W21 A21 [((0:Int),S21)]):=hl1;have yL:=QH (qc HBP.out hb1);have q2N:Hid (VW IV W21 w.heap.size (fun j=>(fun _=>False) j∨∃o,A21=some ⟨j,o,none⟩) v pd _):=q2K.out.more H yL.out (fun j hj=>by
  rcases hj with hj|⟨o,hj⟩
  ·exact .inl hj
  ·exact .inr ⟨Nat.le_trans HBP.out.size (ia j o hj).1,(ia j o hj).2⟩)
 have qsT:=QH (qc q2L.out yL.out);clear ho1 hl1 ia hb1 yL HBP tA lM q2K q2L;go_wp2_with fail;refine(sA H q2N.out qsT.out.size ⟨(1,1),(1,2),1,2⟩ ⟨⟨by decide,by decide⟩,⟨by decide,by decide⟩,by unfold yA;dsimp only;omega,by unfold yA;dsimp only;omega⟩ A21 c21 [((0:Int),S21)] q2M.out (by simp) (fun b o e=>.inr ⟨o,e⟩) (fun _ _ _ _ _ _ _=>by rw[← q7R.out];exact q7K)).mono ?_;rintro e W22 ⟨rfl,hv,hk⟩;have qlm:=QH hv;have q2O:=QH (qsT.out.trans (hk.below qsT.out.size));clear hv hk q2N qsT;have qu4:=QH (qlm.out.fJ (Y:=(fun _=>False)) (fun j hj=>.inl hj));clear qlm q2M;have qlm:=QH qu4.out;clear qu4;go_wp2_with fail;refine(qeE H qlm.out (k:=⟨(1,1),(1,2),1,2,[0,0]⟩) (by rintro t m ⟨_,a,y,rfl⟩;rfl)).mono ?_;rintro e W23 ⟨A23,c23,rfl,hi,_,hb⟩;have q2P:=QH (qlm.out.below H hb);have qxv:=QH (qc q2O.out hb);have HI:=QH hi;clear hi;unfold dc tf;dsimp only[List.length_cons,List.length_nil,Nat.reduceAdd,Nat.zero_add];clear hb qlm q2O;go_wp2_with fail;have ky:=QH (qf.new W23 59 #[.int .u64 1,.int .u64 1,.int .u64 1,.int .u64 2,.int .i64 1,.int .i64 2,.slice A23 2 c23]);have HBT:=QH ((Below.refl W23.heap.size W23).alloc (Nat.le_refl _) (.cells #[.int .u64 1,.int .u64 1,.int .u64 1,.int .u64 2,.int .i64 1,.int .i64 2,.slice A23 2 c23] 59));have qpC:Hid (VW IV (W23.alloc (.cells #[.int .u64 1,.int .u64 1,.int .u64 1,.int .u64 2,.int .i64 1,.int .i64 2,.slice A23 2 c23] 59)) w.heap.size (fun j=>j=W23.heap.size) v pd Q4):=q2P.out.more H HBT.out (fun j hj=>.inr ⟨by rw[hj];exact Nat.le_refl _,by rw[hj];simp⟩);have qxw:=QH (qc qxv.out HBT.out);have HIn:=QH (sD HI.out HBT.out);obtain⟨W24,q2Q⟩:=QE (W23.alloc (.cells #[.int .u64 1,.int .u64 1,.int .u64 1,.int .u64 2,.int .i64 1,.int .i64 2,.slice A23 2 c23] 59));rw[q2Q]at ky HBT qpC qxw HIn ⊢;obtain⟨TB,hTB⟩:=QE W23.heap.size;rw[hTB]at ky qpC ⊢;have nJ:Hid (TB<W24.heap.size):=ky.out.lt;have HTG:Hid (w.heap.size≤TB):=by rw[← hTB];exact qxv.out.size
 clear q2Q hTB HBT HI q2P qxv;have HI:=QH HIn.out;clear HIn;go_wp2_with fail;refine(qiA H qpC.out (l:=[(1,1)]) (by rintro t m ⟨h,_⟩;rw[h];rfl)).mono ?_;rintro e W25 ⟨A25,c25,rfl,_,_,hb⟩;have q2R:=QH (qpC.out.below H hb);have q2S:=QH (qc qxw.out hb);have kS:=QH (ky.out.below hb);clear ky;have ky:=QH kS.out;clear kS;have HIn:=QH (sD HI.out hb);clear HI;have HI:=QH HIn.out;clear HIn;clear hb qpC qxw;obtain⟨bi,oi,hAi,li,i0⟩:=HI.out 0 (by decide);obtain⟨bi2,oi2,q7T,li2,i1⟩:=HI.out 1 (by decide);subst hAi;cases q7T;simp only[Nat.add_zero,List.getElem_cons_zero,List.getElem_cons_succ]at i0 i1;have qxx:=ky.out.lt;have cz2:=ky.out.cell 2;have cz3:=ky.out.cell 3;have cz4:=ky.out.cell 4;have cz5:=ky.out.cell 5;have cz6:=ky.out.cell 6;simp only[QA,QB,QC]at cz2 cz3 cz4 cz5 cz6;dsimp only[List.length_cons,List.length_nil,Nat.reduceAdd,Nat.zero_add];go_wp2_with fail;refine(qpA.out W25).mono ?_;rintro e W26 ⟨rfl,hb⟩;have q2Y:=QH (q2R.out.below H hb);have q2Z:=QH (qc q2S.out hb);have kS:=QH (ky.out.below hb);clear ky;have ky:=QH kS.out;clear kS;clear hb q2R q2S;clear i0 i1 li li2 cz2 cz3 cz4 cz5 cz6 qxx HI;go_wp2_with fail;refine(qxp.out W26).mono ?_;rintro e W27 ⟨rfl,hb⟩;have q3a:=QH (q2Y.out.below H hb);have q3b:=QH (qc q2Z.out hb);have kS:=QH (ky.out.below hb);clear ky;have ky:=QH kS.out;clear kS;clear hb q2Y q2Z;go_wp2_with fail;have HBP:=QH ((Below.refl W27.heap.size W27).alloc (Nat.le_refl _) (.cells #[.int .i64 1,.int .u8 97] 73));have tA:Hid (ch.PtL (W27.alloc (.cells #[.int .i64 1,.int .u8 97] 73)) (some ⟨W27.heap.size,0,none⟩) [((1:Int),(97:UInt8))]):=ch.qcn W27 1 97 (by unfold yA;omega);have lM:=QH (ch.kR (some ⟨W27.heap.size,0,none⟩) 1 [((1:Int),(97:UInt8))] _ tA.out (by simp));have HCO:ch.bG [((1:Int),(97:UInt8))]=[((1:Int),la)]:=rfl;rw[HCO]at lM;obtain⟨S28,qxy⟩:=QE la;rw[qxy]at lM;have q7U:=QH qxy;clear HCO qxy;refine lM.out.mono ?_;rintro e W28 ⟨v1,rfl,ho1,hb1⟩;obtain⟨A28,c28,hv1,hl1,ia⟩:=ho1.rD (by intro y hy;simp at hy;subst hy;unfold yA;dsimp only;omega);subst hv1;have q3c:Hid (ch.vU W28 A28 [((1:Int),S28)]):=hl1;have yL:=QH (qc HBP.out hb1);have q3d:Hid (VW IV W28 w.heap.size (fun j=>(fun j=>j=TB) j∨∃o,A28=some ⟨j,o,none⟩) v pd _):=q3a.out.more H yL.out (fun j hj=>by
  rcases hj with hj|⟨o,hj⟩
  ·exact .inl hj
  ·exact .inr ⟨Nat.le_trans HBP.out.size (ia j o hj).1,(ia j o hj).2⟩)
 have qsU:=QH (qc q3b.out yL.out);have kS:=QH (ky.out.below yL.out);clear ky;have ky:=QH kS.out;clear kS;clear ho1 hl1 ia hb1 yL HBP tA lM q3a q3b;go_wp2_with fail;refine(sA H q3d.out qsU.out.size ⟨(1,1),(1,2),2,2⟩ ⟨⟨by decide,by decide⟩,⟨by decide,by decide⟩,by unfold yA;dsimp only;omega,by unfold yA;dsimp only;omega⟩ A28 c28 [((1:Int),S28)] q3c.out (by simp) (fun b o e=>.inr ⟨o,e⟩) (fun _ _ _ _ _ _ _=>by rw[← q7U.out];exact q7L)).mono ?_;rintro e W29 ⟨rfl,hv,hk⟩;have qln:=QH hv;have q3e:=QH (qsU.out.trans (hk.below qsU.out.size));have kS:=QH (ky.out.of_block (hk.block ky.out.lt (.inl (.inl rfl))));clear ky;have ky:=QH kS.out;clear kS;clear hv hk q3d qsU;have qu5:=QH (qln.out.fJ (Y:=(fun j=>j=TB)) (fun j hj=>.inl hj));clear qln q3c;have qln:=QH qu5.out;clear qu5;go_wp2_with fail;refine(qiA H qln.out (l:=[(1,1),(1,2)]) (by rintro t m ⟨h,_⟩;rw[h];rfl)).mono ?_;rintro e W30 ⟨A30,c30,rfl,_,_,hb⟩;have q3f:=QH (qln.out.below H hb);have q3g:=QH (qc q3e.out hb);have kS:=QH (ky.out.below hb);clear ky;have ky:=QH kS.out;clear kS;clear hb qln q3e;dsimp only[List.length_cons,List.length_nil,Nat.reduceAdd,Nat.zero_add];go_wp2_with fail;refine(qxp.out W30).mono ?_;rintro e W31 ⟨rfl,hb⟩;have qxz:=QH (q3f.out.below H hb);have q3h:=QH (qc q3g.out hb);have kS:=QH (ky.out.below hb);clear ky;have ky:=QH kS.out;clear kS;clear hb q3f q3g;have HTP:=QH ky.out.lt;go_wp2_with fail;refine(qi9 H qxz.out (1,2) ⟨by decide,by decide⟩ (r:=([zz,la],0)) (by rintro t m ⟨h,_⟩;rw[h];rfl)).mono ?_;rintro e W32 ⟨AX,cX,rfl,ht,hna,hb⟩;dsimp only at ht ⊢;have T1:=QH ht;have kS:=QH (ky.out.below hb);clear ky;have ky:=QH kS.out;clear kS;have qx0:Hid (VW IV W32 w.heap.size (fun j=>j=TB∨∃o,AX=some ⟨j,o,none⟩) v pd Q5):=qxz.out.more H hb (fun j hj=>by
  rcases hj with hj|⟨o,hj⟩
  ·exact .inl hj
  ·exact .inr (hna j o hj))
 have HNA:Hid (∀j o,AX=some ⟨j,o,none⟩→j<W32.heap.size∧j≠TB):=fun j o e=>⟨(hna j o e).2,fun h=>by
  have h1:=(hna j o e).1;have h2:=HTP.out;omega⟩
 have q3i:=QH (qc q3h.out hb);clear ht hna hb qxz q3h;go_wp2_with fail;refine(qeE H qx0.out (k:=zD) (fun _ _ h=>h.2)).mono ?_;rintro e W33 ⟨AK,cK,rfl,_,_,hb⟩;have q3j:=QH (qx0.out.below H hb);have qx1:=QH (qc q3i.out hb);have kS:=QH (ky.out.below hb);clear ky;have ky:=QH kS.out;clear kS;have T1n:=QH (T1.out.below hb);clear T1;have T1:=QH T1n.out;clear T1n;have q3k:=QH (qp9 HNA.out hb);clear HNA;have HNA:=QH q3k.out;clear q3k;unfold dc tf zD;dsimp only[List.length_cons,List.length_nil,Nat.reduceAdd,Nat.zero_add];clear hb qx0 q3i;have qxx:=ky.out.lt;have fz0:=ky.out.frozen 0;have fz1:=ky.out.frozen 1;have fz2:=ky.out.frozen 2;have fz3:=ky.out.frozen 3;have fz4:=ky.out.frozen 4;have fz5:=ky.out.frozen 5;have fz6:=ky.out.frozen 6;have cz0:=ky.out.cell 0;have cz1:=ky.out.cell 1;have cz2:=ky.out.cell 2;have cz3:=ky.out.cell 3;have cz4:=ky.out.cell 4;have cz5:=ky.out.cell 5;have cz6:=ky.out.cell 6;simp only[QA,QB,QC]at cz0 cz1 cz2 cz3 cz4 cz5 cz6;have jZ:=QH (((((((ky.out.qo 0 (.int .u64 0)).qo 1 (.int .u64 0)).qo 2 (.int .u64 0)).qo 3 (.int .u64 0)).qo 4 (.int .i64 0)).qo 5 (.int .i64 0)).qo 6 (.slice AK 0 cK));have HBu:Hid (qy (fun j=>j=TB) W33 (((((((W33.setCell ⟨TB,0,none⟩ (.int .u64 0)).setCell ⟨TB,1,none⟩ (.int .u64 0)).setCell ⟨TB,2,none⟩ (.int .u64 0)).setCell ⟨TB,3,none⟩ (.int .u64 0)).setCell ⟨TB,4,none⟩ (.int .i64 0)).setCell ⟨TB,5,none⟩ (.int .i64 0)).setCell ⟨TB,6,none⟩ (.slice AK 0 cK))):=((((((((((((((qy.refl (fun j=>j=TB) W33).setCell ⟨TB,0,none⟩ (.int .u64 0) (.inl rfl))).setCell ⟨TB,1,none⟩ (.int .u64 0) (.inl rfl))).setCell ⟨TB,2,none⟩ (.int .u64 0) (.inl rfl))).setCell ⟨TB,3,none⟩ (.int .u64 0) (.inl rfl))).setCell ⟨TB,4,none⟩ (.int .i64 0) (.inl rfl))).setCell ⟨TB,5,none⟩ (.int .i64 0) (.inl rfl))).setCell ⟨TB,6,none⟩ (.slice AK 0 cK) (.inl rfl));go_wp2_with fail;clear fz0 cz0 fz1 cz1 fz2 cz2 fz3 cz3 fz4 cz4 fz5 cz5 fz6 cz6 qxx;obtain⟨W34,q3l⟩:=QE ((((((((W33.setCell ⟨TB,0,none⟩ (.int .u64 0)).setCell ⟨TB,1,none⟩ (.int .u64 0)).setCell ⟨TB,2,none⟩ (.int .u64 0)).setCell ⟨TB,3,none⟩ (.int .u64 0)).setCell ⟨TB,4,none⟩ (.int .i64 0)).setCell ⟨TB,5,none⟩ (.int .i64 0)).setCell ⟨TB,6,none⟩ (.slice AK 0 cK)):World);rw[q3l]at jZ HBu ⊢;have q3m:=QH (q3j.out.turn H (HBu.out.mono fun j hj=>.inl hj));have qpD:Hid (Below w.heap.size w W34):=qx1.out.trans (HBu.out.below (fun j hj=>by rw[hj];exact HTG.out) qx1.out.size);have T2:Hid (TxL W34 AX [zz,la]):=T1.out.kept HBu.out.size (fun b o e=>HBu.out.block b (HNA.out b o e).1 (HNA.out b o e).2);have HNB:Hid (∀j o,AX=some ⟨j,o,none⟩→j<W34.heap.size):=fun j o e=>Nat.lt_of_lt_of_le (HNA.out j o e).1 HBu.out.size;have hlt2:=jZ.out.lt;clear q3l ky T1 HNA q3j qx1 HBu;have sJ:Hid (WkS IV w.heap.size (fun j=>j=TB∨∃o,AX=some ⟨j,o,none⟩) v pd W34 false false W34.drew):=⟨Ke.of_below (ud (Below.refl _ _) 1),q3m.out.below H (ud (Below.refl _ _) 1)⟩;refine xJ (by kernel_rfl) [158,159,160,161,162,163,164,165,166,167,168,169,170,171,172,173,174,175,176,177,178,179,180] (by kernel_rfl) (fun L vs W=>WkS IV w.heap.size (fun j=>j=TB∨∃o,AX=some ⟨j,o,none⟩) v pd W34 (L 15) (L 20) W∧((L 20=true→L 15=true)∧(L 18=true→L 15=true))∧∀i,L i=true→i<23→iF v TB AX cX i (vs i) W) ⟨sJ.out,⟨fun h=>(by cases h),fun h=>(by cases h)⟩,fun i hi=>by cases hi⟩ ?_ ?_ ?_
 ·intro i o L vs ρ W ho eR qA hρ hgd hI;obtain⟨hS,hC,vZ⟩:=hI;have hG:∀j,L j=true→iF v TB AX cX j (vs j) W:=fun j hj=>by
   by_cases h16:j<23
   ·exact vZ j hj h16
   ·match j,h16 with
    | j+23,_=>exact trivial
  have qsr:i<23:=(Array.getElem?_eq_some_iff.1 ho).1;have hc:=hρ.const;have hfn:=hρ.fn;have ng:∀vv W',iF v TB AX cX i vv W'→∀j,qN L i j=true→j<23→iF v TB AX cX j (zX vs i vv j) W':=fun vv W' h2 j hj h16=>by
   by_cases vn:j=i
   ·subst vn;simpa[zX]using h2
   ·simp only[qN,if_neg vn]at hj;have:=vZ j hj h16;simp only[zX,if_neg vn]
    match j,h16,this with
    | 0,_,h=>exact h
    | 1,_,h=>exact h
    | 2,_,h=>exact h
    | 3,_,h=>exact h
    | 4,_,h=>exact h
    | 5,_,h=>exact h
    | 6,_,h=>exact h
    | 7,_,h=>exact h
    | 8,_,h=>exact h
    | 9,_,h=>exact h
    | 10,_,h=>exact h
    | 11,_,h=>exact h
    | 12,_,h=>exact h
    | 13,_,h=>exact h
    | 14,_,h=>exact h
    | 15,_,h=>exact h
    | 16,_,h=>exact h
    | 17,_,h=>exact h
    | 18,_,h=>exact h
    | 19,_,h=>exact h
    | 20,_,h=>exact h
    | 21,_,h=>exact h
    | 22,_,h=>exact h
    | j+23,h,_=>exact absurd h (by omega)
  have next:i≠15→i≠20→(i=18→L 15=true)→∀vv W',WkS IV w.heap.size (fun j=>j=TB∨∃o,AX=some ⟨j,o,none⟩) v pd W34 (L 15) (L 20) W'→iF v TB AX cX i vv W'→WkS IV w.heap.size (fun j=>j=TB∨∃o,AX=some ⟨j,o,none⟩) v pd W34 (qN L i 15) (qN L i 20) W'∧((qN L i 20=true→qN L i 15=true)∧(qN L i 18=true→qN L i 15=true))∧∀j,qN L i j=true→j<23→iF v TB AX cX j (zX vs i vv j) W':=fun n1 n2 n3 vv W' h1 h2=>by
   refine⟨?_,⟨?_,?_⟩,ng vv W' h2⟩
   ·simp only[qN,if_neg (Ne.symm n1),if_neg (Ne.symm n2)];exact h1
   ·simp only[qN,if_neg (Ne.symm n1),if_neg (Ne.symm n2)];exact hC.1
   ·intro hm;simp only[qN,if_neg (Ne.symm n1)];by_cases vO:18=i
    ·exact n3 vO.symm
    ·simp only[qN,if_neg vO]at hm;exact hC.2 hm
  have hke:=hS.1;have tJ:=jZ.out.of_block (hke.block hlt2 (.inl (.inl rfl)));have z2:=tJ.cell 2;have z3:=tJ.cell 3;have zl:=tJ.lt;simp only[QA,QB,QC,Array.setIfInBounds,List.set_cons_zero,List.set_cons_succ]at z2 z3;rcases i with _|_|_|_|_|_|_|_|_|_|_|_|_|_|_|_|_|_|_|_|_|_|_|i;all_goals (first|omega|skip)
  all_goals simp only[QA,QB,QC,Option.some.injEq]at ho
  all_goals subst ho
  ·have o6:ρ (.tmp 6)=.slice AX 2 cX:=hρ.out 6 rfl;exact q9 (w':=W) (by unfold execOp;simp only[o6,hc];go_simp) (next (by decide) (by decide) (fun h=>absurd h (by decide)) _ _ hS rfl)
  ·have o7:ρ (.tmp 7)=.int .i64 0:=hρ.out 7 rfl;exact q9 (w':=W) (by unfold execOp;simp only[o7,hc];go_simp) (next (by decide) (by decide) (fun h=>absurd h (by decide)) _ _ hS rfl)
  ·have q7W:iF v TB AX cX 0 (vs 0) W:=hG 0 (qA 0 (by kernel_rfl));have q7X:ρ (.tmp 158)=.slice AX 2 cX:=(hρ.at_ 158 0 rfl).trans q7W;have q7Y:iF v TB AX cX 1 (vs 1) W:=hG 1 (qA 1 (by kernel_rfl));have q7Z:ρ (.tmp 159)=.int .i64 0:=(hρ.at_ 159 1 rfl).trans q7Y;refine qi (f:=36) (args:=#[.slice AX 2 cX,.int .i64 0,.string ⟨#[48,97]⟩]) (w':=W) (by unfold execOp;simp only[hfn,q7X,q7Z];go_simp) ((ch.jw AX cX [zz,la] _ W (T2.out.kept hS.1.size (fun b o e=>hS.1.block (HNB.out b o e) (.inl (.inr ⟨o,e⟩)))) (by decide) vb1.2.2).mono ?_);rintro x W' ⟨rfl,hb'⟩;exact⟨_,rfl,next (by decide) (by decide) (fun h=>absurd h (by decide)) _ _ (⟨hS.1.trans (Ke.of_below hb'),hS.2.below H hb'⟩) rfl⟩
  ·have q8a:iF v TB AX cX 2 (vs 2) W:=hG 2 (qA 2 (by kernel_rfl));have q8b:ρ (.tmp 160)=.bool true:=(hρ.at_ 160 2 rfl).trans q8a;exact q9 (w':=W) (by unfold execOp;simp only[q8b,hc];go_simp) (next (by decide) (by decide) (fun h=>absurd h (by decide)) _ _ hS rfl)
  ·have q8c:iF v TB AX cX 3 (vs 3) W:=hG 3 (qA 3 (by kernel_rfl));have q8d:ρ (.tmp 161)=.bool false:=(hρ.at_ 161 3 rfl).trans q8c;exact q9 (w':=W) (by unfold execOp;simp only[q8d,hc];go_simp) (next (by decide) (by decide) (fun h=>absurd h (by decide)) _ _ hS rfl)
  ·have o10:ρ (.tmp 10)=.pointer (some ⟨TB,0,none⟩):=hρ.out 10 rfl;exact q9 (w':=W) (by unfold execOp;simp only[o10,hc];go_simp) (next (by decide) (by decide) (fun h=>absurd h (by decide)) _ _ hS rfl)
  ·have q8e:iF v TB AX cX 5 (vs 5) W:=hG 5 (qA 5 (by kernel_rfl));have q8f:ρ (.tmp 163)=.pointer (some ⟨TB,2,none⟩):=(hρ.at_ 163 5 rfl).trans q8e;exact q9 (w':=W) (by unfold execOp;simp only[q8f,hc];go_simp) (next (by decide) (by decide) (fun h=>absurd h (by decide)) _ _ hS rfl)
  ·refine qi (f:=23) (args:=#[.int .u64 0,.int .u64 0]) (w':=W) (by unfold execOp;simp only[hfn,];go_simp) ((q7Q.out W).mono ?_);rintro x W' ⟨rfl,hb'⟩;exact⟨_,rfl,next (by decide) (by decide) (fun h=>absurd h (by decide)) _ _ (⟨hS.1.trans (Ke.of_below hb'),hS.2.below H hb'⟩) rfl⟩
  ·have q8g:iF v TB AX cX 6 (vs 6) W:=hG 6 (qA 6 (by kernel_rfl));have q8h:ρ (.tmp 164)=.agg #[.int .u64 0,.int .u64 0]:=(hρ.at_ 164 6 rfl).trans q8g;have q8i:iF v TB AX cX 7 (vs 7) W:=hG 7 (qA 7 (by kernel_rfl));have q8j:ρ (.tmp 165)=.agg #[.int .u64 0,.int .u64 0]:=(hρ.at_ 165 7 rfl).trans q8i;exact q9 (w':=W) (by unfold execOp;simp only[q8h,q8j,hc];go_simp) (next (by decide) (by decide) (fun h=>absurd h (by decide)) _ _ hS rfl)
  ·have q8k:iF v TB AX cX 4 (vs 4) W:=hG 4 (qA 4 (by kernel_rfl));have q8l:ρ (.tmp 162)=.bool false:=(hρ.at_ 162 4 rfl).trans q8k;have q8m:iF v TB AX cX 8 (vs 8) W:=hG 8 (qA 8 (by kernel_rfl));have q8n:ρ (.tmp 166)=.bool false:=(hρ.at_ 166 8 rfl).trans q8m;exact q9 (w':=W) (by unfold execOp;simp only[q8l,q8n,hc];go_simp) (next (by decide) (by decide) (fun h=>absurd h (by decide)) _ _ hS rfl)
  ·have q8o:iF v TB AX cX 9 (vs 9) W:=hG 9 (qA 9 (by kernel_rfl));have q8p:ρ (.tmp 167)=.bool false:=(hρ.at_ 167 9 rfl).trans q8o;exact q9 (w':=W) (by unfold execOp;simp only[q8p,hc];go_simp) (next (by decide) (by decide) (fun h=>absurd h (by decide)) _ _ hS rfl)
  ·have o4:ρ (.tmp 4)=.pointer (some ⟨v,0,none⟩):=hρ.out 4 rfl;exact q9 (w':=W) (by unfold execOp;simp only[o4,hc];go_simp) (next (by decide) (by decide) (fun h=>absurd h (by decide)) _ _ hS rfl)
  ·refine qi (f:=23) (args:=#[.int .u64 1,.int .u64 1]) (w':=W) (by unfold execOp;simp only[hfn,];go_simp) ((qpA.out W).mono ?_);rintro x W' ⟨rfl,hb'⟩;exact⟨_,rfl,next (by decide) (by decide) (fun h=>absurd h (by decide)) _ _ (⟨hS.1.trans (Ke.of_below hb'),hS.2.below H hb'⟩) rfl⟩
  ·refine qi (f:=23) (args:=#[.int .u64 1,.int .u64 3]) (w':=W) (by unfold execOp;simp only[hfn,];go_simp) ((q7P.out W).mono ?_);rintro x W' ⟨rfl,hb'⟩;exact⟨_,rfl,next (by decide) (by decide) (fun h=>absurd h (by decide)) _ _ (⟨hS.1.trans (Ke.of_below hb'),hS.2.below H hb'⟩) rfl⟩
  ·have q8q:iF v TB AX cX 12 (vs 12) W:=hG 12 (qA 12 (by kernel_rfl));have q8r:ρ (.tmp 170)=.agg #[.int .u64 1,.int .u64 1]:=(hρ.at_ 170 12 rfl).trans q8q;have q8s:iF v TB AX cX 13 (vs 13) W:=hG 13 (qA 13 (by kernel_rfl));have q8t:ρ (.tmp 171)=.agg #[.int .u64 1,.int .u64 3]:=(hρ.at_ 171 13 rfl).trans q8s;exact q9 (w':=W) (by unfold execOp;simp only[q8r,q8t,hc];go_simp) (next (by decide) (by decide) (fun h=>absurd h (by decide)) _ _ hS rfl)
  ·have q8u:iF v TB AX cX 11 (vs 11) W:=hG 11 (qA 11 (by kernel_rfl));have q8v:ρ (.tmp 169)=.pointer (some ⟨v,0,none⟩):=(hρ.at_ 169 11 rfl).trans q8u;have q8w:iF v TB AX cX 14 (vs 14) W:=hG 14 (qA 14 (by kernel_rfl));have q8x:ρ (.tmp 172)=.agg #[.int .u64 1,.int .u64 1,.int .u64 1,.int .u64 3,.int .i64 1,.int .i64 1,.slice none 0 0]:=(hρ.at_ 172 14 rfl).trans q8w;have n2:L 20=false:=by
    cases hx:L 20 with
    | false=>rfl
    | true=>exact absurd (hC.1 hx) (by rw[eR];decide)
   rw[eR,n2]at hS;refine qi (f:=24) (args:=#[.pointer (some ⟨v,0,none⟩),.agg #[.int .u64 1,.int .u64 1,.int .u64 1,.int .u64 3,.int .i64 1,.int .i64 1,.slice none 0 0],.slice none 0 0]) (w':=W) (by unfold execOp;simp only[hfn,q8v,q8x];go_simp) ((wk1 H (.inr hS) (Nat.le_trans qpD.out.size hS.1.size)).mono ?_);rintro x W' ⟨rfl,h1⟩;refine⟨_,rfl,?_,⟨fun _=>by simp[qN],fun _=>by simp[qN]⟩,ng _ _ rfl⟩;simp only[qN,n2];exact h1
  ·have q8y:iF v TB AX cX 15 (vs 15) W:=hG 15 (qA 15 (by kernel_rfl));have q8z:ρ (.tmp 173)=.int .i64 2:=(hρ.at_ 173 15 rfl).trans q8y;exact q9 (w':=W) (by unfold execOp;simp only[q8z,hc];go_simp) (next (by decide) (by decide) (fun h=>absurd h (by decide)) _ _ hS rfl)
  ·have q80:iF v TB AX cX 10 (vs 10) W:=hG 10 (qA 10 (by kernel_rfl));have q81:ρ (.tmp 168)=.bool false:=(hρ.at_ 168 10 rfl).trans q80;have q82:iF v TB AX cX 16 (vs 16) W:=hG 16 (qA 16 (by kernel_rfl));have q83:ρ (.tmp 174)=.bool false:=(hρ.at_ 174 16 rfl).trans q82;exact q9 (w':=W) (by unfold execOp;simp only[q81,q83,hc];go_simp) (next (by decide) (by decide) (fun h=>absurd h (by decide)) _ _ hS rfl)
  ·have q84:iF v TB AX cX 17 (vs 17) W:=hG 17 (qA 17 (by kernel_rfl));have q85:ρ (.tmp 175)=.bool false:=(hρ.at_ 175 17 rfl).trans q84;exact q9 (w':=W) (by unfold execOp;simp only[q85,hc];go_simp) (next (by decide) (by decide) (fun _=>qA 15 (by kernel_rfl)) _ _ hS rfl)
  ·have o4:ρ (.tmp 4)=.pointer (some ⟨v,0,none⟩):=hρ.out 4 rfl;exact q9 (w':=W) (by unfold execOp;simp only[o4,hc];go_simp) (next (by decide) (by decide) (fun h=>absurd h (by decide)) _ _ hS rfl)
  ·have q86:iF v TB AX cX 19 (vs 19) W:=hG 19 (qA 19 (by kernel_rfl));have q87:ρ (.tmp 177)=.pointer (some ⟨v,0,none⟩):=(hρ.at_ 177 19 rfl).trans q86;have yq1:L 15=true:=hC.2 (qA 18 (by kernel_rfl));rw[eR,yq1]at hS;refine qi (f:=34) (args:=#[.pointer (some ⟨v,0,none⟩),.int .i64 1]) (w':=W) (by unfold execOp;simp only[hfn,q87];go_simp) ((wk2 H hS (Nat.le_trans qpD.out.size hS.1.size)).mono ?_);rintro x W' ⟨rfl,h1⟩;refine⟨_,rfl,?_,⟨fun _=>by simp[qN,yq1],fun _=>by simp[qN,yq1]⟩,ng _ _ rfl⟩;simp only[qN,yq1];exact h1
  ·have q88:iF v TB AX cX 20 (vs 20) W:=hG 20 (qA 20 (by kernel_rfl));have q89:ρ (.tmp 178)=.int .i64 0:=(hρ.at_ 178 20 rfl).trans q88;exact q9 (w':=W) (by unfold execOp;simp only[q89,hc];go_simp) (next (by decide) (by decide) (fun h=>absurd h (by decide)) _ _ hS rfl)
  ·have q8A:iF v TB AX cX 18 (vs 18) W:=hG 18 (qA 18 (by kernel_rfl));have q8B:ρ (.tmp 176)=.bool false:=(hρ.at_ 176 18 rfl).trans q8A;have q8C:iF v TB AX cX 21 (vs 21) W:=hG 21 (qA 21 (by kernel_rfl));have q8D:ρ (.tmp 179)=.bool false:=(hρ.at_ 179 21 rfl).trans q8C;exact q9 (w':=W) (by unfold execOp;simp only[q8B,q8D,hc];go_simp) (next (by decide) (by decide) (fun h=>absurd h (by decide)) _ _ hS rfl)
 ·intro i o L vs W j want ho eR qA hg hv hI;obtain⟨_,_,vZ⟩:=hI;have qsr:i<23:=(Array.getElem?_eq_some_iff.1 ho).1;rcases i with _|_|_|_|_|_|_|_|_|_|_|_|_|_|_|_|_|_|_|_|_|_|_|i;all_goals (first|omega|skip)
  all_goals simp only[QA,QB,QC,Option.some.injEq]at ho
  all_goals subst ho
  all_goals simp only[Option.some.injEq,Prod.mk.injEq,reduceCtorEq]at hg
  ·obtain⟨rfl,rfl⟩:=hg;exact(hv (vZ 4 (qA 4 (by kernel_rfl)) (by decide))).elim
  ·obtain⟨rfl,rfl⟩:=hg;exact(hv (vZ 4 (qA 4 (by kernel_rfl)) (by decide))).elim
  ·obtain⟨rfl,rfl⟩:=hg;exact(hv (vZ 4 (qA 4 (by kernel_rfl)) (by decide))).elim
  ·obtain⟨rfl,rfl⟩:=hg;exact(hv (vZ 4 (qA 4 (by kernel_rfl)) (by decide))).elim
  ·obtain⟨rfl,rfl⟩:=hg;exact(hv (vZ 10 (qA 10 (by kernel_rfl)) (by decide))).elim
  ·obtain⟨rfl,rfl⟩:=hg;exact(hv (vZ 10 (qA 10 (by kernel_rfl)) (by decide))).elim
  ·obtain⟨rfl,rfl⟩:=hg;exact(hv (vZ 10 (qA 10 (by kernel_rfl)) (by decide))).elim
  ·obtain⟨rfl,rfl⟩:=hg;exact(hv (vZ 10 (qA 10 (by kernel_rfl)) (by decide))).elim
  ·obtain⟨rfl,rfl⟩:=hg;exact(hv (vZ 10 (qA 10 (by kernel_rfl)) (by decide))).elim
  ·obtain⟨rfl,rfl⟩:=hg;exact(hv (vZ 10 (qA 10 (by kernel_rfl)) (by decide))).elim
  ·obtain⟨rfl,rfl⟩:=hg;exact(hv (vZ 18 (qA 18 (by kernel_rfl)) (by decide))).elim
  ·obtain⟨rfl,rfl⟩:=hg;exact(hv (vZ 18 (qA 18 (by kernel_rfl)) (by decide))).elim
  ·obtain⟨rfl,rfl⟩:=hg;exact(hv (vZ 18 (qA 18 (by kernel_rfl)) (by decide))).elim
 intro vs WE hI;obtain⟨hS,_,hG⟩:=hI;have HKE:Hid (Ke w.heap.size (fun j=>j=TB∨∃o,AX=some ⟨j,o,none⟩) W34 WE):=hS.1;have HVE:Hid (VW IV WE w.heap.size (fun j=>j=TB∨∃o,AX=some ⟨j,o,none⟩) v pd Q7):=hS.2;have gX:Hid (Below w.heap.size w WE):=qpD.out.trans (qlk HKE.out qpD.out.size);have g22:vs 22=.bool false:=hG 22 rfl (by decide);simp only[qW,qG,if_true];rw[g22];clear hG hS q3m qpD HKE jZ T2 HNB sJ;generalize vs 0=y0;generalize vs 1=y1;generalize vs 2=y2;generalize vs 3=y3;generalize vs 4=y4;generalize vs 5=y5;generalize vs 6=y6;generalize vs 7=y7;generalize vs 8=y8;generalize vs 9=y9;generalize vs 10=y10;generalize vs 11=y11;generalize vs 12=y12;generalize vs 13=y13;generalize vs 14=y14;generalize vs 15=y15;generalize vs 16=y16;generalize vs 17=y17;generalize vs 18=y18;generalize vs 19=y19;generalize vs 20=y20;generalize vs 21=y21;clear g22;simp only[Act.put,List.setIfInBounds_toArray,List.set_cons_succ,List.set_cons_zero];have qsW:=QH HVE.out;have qx3:=QH gX.out;clear HVE gX;obtain⟨W35,q3n⟩:=QE WE;rw[q3n]at qsW qx3 ⊢;clear q3n;go_wp2_with fail;refine(qcs H qsW.out (l:=[la,zz]) (by intro t m h;rw[h])).mono ?_;rintro e W36 ⟨A36,c36,rfl,ht,_,hb⟩;have q3o:=QH (qsW.out.below H hb);have q3p:=QH (qc qx3.out hb);dsimp only at ht ⊢;have T3:=QH ht;clear ht;clear hb qsW qx3;go_wp2_with fail;refine(ch.jw _ _ [la,zz] _ W36 T3.out (by decide) vb1.2.1).mono ?_;rintro e W37 ⟨rfl,hb⟩;have zf2:=QH (q3o.out.below H hb);have q8E:=QH (qc q3p.out hb);have T3n:=QH (T3.out.below hb);clear T3;have T3:=QH T3n.out;clear T3n;clear hb q3o q3p;go_wp2_with fail;go_ret;exact⟨rfl,q8E.out⟩
end Go.Proofs.YtdagdllomphidaaGreatDoor.vt
