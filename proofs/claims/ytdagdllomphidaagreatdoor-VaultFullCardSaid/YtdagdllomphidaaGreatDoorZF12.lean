/- VtDoW, VtDoS, VtDoT, VtAny, VxTexts, VxBlocks, VxEq, VtAs, VtAsV, VtVc, VtWkQ, VtWkC, VtWk, CLaid. -/
import Derived.Test.YtdagdllomphidaaGreatDoorZF11
import Derived.Test.YtdagdllomphidaaGreatDoorRows
import Derived.Deep.DeepHandedRow
import Derived.Lib.LaidTab
set_option linter.unusedVariables false
set_option linter.unusedSimpArgs false
set_option maxHeartbeats 30000000
set_option maxRecDepth 100000
namespace Go.Proofs.YtdagdllomphidaaGreatDoor.vt
open _root_.Go.Proofs.Tryz Go Go.RowKit ib jr mt im sp
def rY (vp p n g0:Nat)(n9 zt q:Int)(T:ByteArray)(er:Int):Nat→Value→World→Prop
 | 0,v,_=>v=.pointer (some ⟨vp,0,none⟩)
 | 1,v,_=>v=.int .i64 (n:Int)
 | 2,v,_=>v=.int .i64 n9
 | 3,v,_=>v=.pointer (some ⟨g0,2,none⟩)
 | 4,v,_=>v=.int .u8 zt
 | 5,v,_=>v=.int .u8 q
 | 6,v,_=>v=.string T
 | 7,_,_=>True
 | 8,v,_=>v=.pointer (some ⟨p,0,none⟩)
 | 9,v,_=>v=.int .i64 (n:Int)
 | 10,v,_=>v=.int .i64 n9
 | 11,v,_=>v=.pointer (some ⟨g0,2,none⟩)
 | 12,v,_=>v=.int .u8 zt
 | 13,v,_=>v=.int .u8 q
 | 14,v,_=>v=.string T
 | 15,v,_=>v=.int .i64 er
 | 16,_,_=>True
 | 17,v,_=>v=.int .i64 er
 | _,_,_=>True
theorem qgw{IV:yK}{IC:ch.cy}(H:yM IV)(HC:ch.Ops IC){B vp pd p N:Nat}{X:Nat→Prop}{w:World}{s:Tri}{t:Tg}(h:V3 IV IC w B X vp pd p s)(hB:B≤w.heap.size)(hlo:s.lost=false)(hJ:JJ N t s.d)(hf:0≤s.d.qp)(hr:qT 8 N t s.m)
    (x:DoP) (next:Nat) (hk:x.k<256) (hn:x.n<256) (h6:x.k%6=0∨x.k%6=1) :
    Calls prog 11 #[.pointer (some ⟨vp,0,none⟩),.pointer (some ⟨p,0,none⟩),.agg (yR x),.int .u64 (next:Int)] w (StP IV IC B X vp pd p N t s x next w):=by
 have tK:Hid (jH N s.m x next=zn N s.m ((x.n:Int)%9) (sB x.z)):=by unfold Hid jH;rw[if_pos h6]
 have mI:Hid (zU s.c x next=s.c.write ((x.n:Int)%9) (sB x.z)):=by unfold Hid zU;rw[if_pos h6]
 have xp:=QH ((Below.refl w.heap.size w).alloc (Nat.le_refl _) (.cells (yR x) 34));have HT0:=QH (rq H HC h (yR x) 34);have yl:=QH (qf.new w 34 (yR x));obtain⟨w0,hw0⟩:=QE (w.alloc (.cells (yR x) 34));rw[hw0]at xp HT0 yl;have HM:Hid (B≤w0.heap.size):=Nat.le_trans hB xp.out.size;have bj:=QH hlo;have HJ:=QH hJ;have HF:=QH hf;have HR:=QH hr;clear h hlo hJ hf hr;unfold yR at hw0 yl ⊢;obtain⟨D',er,hD⟩:∃D' er,s.c.write ((x.n:Int)%9) (sB x.z)=(D',er):=⟨_,_,rfl⟩;rw[hD]at mI;obtain⟨T,hS⟩:=QE (str (sB x.z));have HSS:=QH hS;obtain⟨q,hq⟩:=QE ((x.z.toNat:Int)%200);have HQZ:Hid ((x.z.toNat:Int).tmod 200=q):=by unfold Hid;rw[Int.tmod_eq_emod_of_nonneg (by omega)];exact hq
 have HDA:=QH (fun W=>qjO x.z W);rw[hq]at HDA;obtain⟨n9,hn9⟩:=QE ((x.n:Int)%9);have q09:Hid (0≤n9∧n9<9):=by unfold Hid;omega
 rw[hn9]at hD tK;have HN9:Hid ((x.n:Int).tmod 9=n9):=by unfold Hid;rw[Int.tmod_eq_emod_of_nonneg (by omega)];exact hn9
 have HDC:Hid (s.c.write n9 (sB x.z)=(D',er)):=hD;clear hD hS hq hn9;have rz:Hid (StS IV IC B (fun j=>X j∨j=w.heap.size) vp pd p w0 s D' (ym N t s.d s.m (zn N s.m n9 (sB x.z))) undef false false w0.drew):=qjQ H HC HT0.out;have hlt:=yl.out.lt;have c0:=yl.out.cell 0;have c1:=yl.out.cell 1;simp only[QA,QB,QC]at c0 c1;obtain⟨n,hn'⟩:=QE x.n;obtain⟨k,uV⟩:=QE x.k;obtain⟨zt,hz'⟩:=QE (x.z.toNat:Int);rw[hn']at hw0 hn HN9 yl c1 ⊢;rw[uV]at hw0 h6 hk yl c0 ⊢;rw[hz']at hw0 HQZ yl ⊢;clear hn' uV hz';rcases h6 with h6|h6;all_goals
  have hq6:(k:Int)%6=((k%6:Nat):Int):=by omega
  rw[h6]at hq6;clear h6;go_enter func11,ntmps11;go_wp2_with fail;try rw[hw0]
  clear hw0 c0 c1 hq6;refine yX (by kernel_rfl) [23,24,25,26,27,28,29,30,31,32,33,34,35,36,37,38,8,9] (by kernel_rfl) (fun L vs W=>StS IV IC B (fun j=>X j∨j=w.heap.size) vp pd p w0 s D' (ym N t s.d s.m (zn N s.m n9 (sB x.z))) (vs 7) (L 7) (L 15) W∧((L 15=true→L 7=true)∧(L 14=true→L 7=true)∧(L 16=true→L 7=true∧vs 16=vs 7))∧∀i,L i=true→i<18→rY vp p n w.heap.size n9 zt q T er i (vs i) W) ⟨rz.out,⟨fun h=>(by cases h),fun h=>(by cases h),fun h=>(by cases h)⟩,fun i hi=>by cases hi⟩ ?_ ?_ ?_
  ·intro i o L vs ρ W ho ny qF hρ hgd hI;obtain⟨hS,hC,aT⟩:=hI;have hG:∀j,L j=true→rY vp p n w.heap.size n9 zt q T er j (vs j) W:=fun j hj=>by
    by_cases h16:j<18
    ·exact aT j hj h16
    ·match j,h16 with
     | j+18,_=>exact trivial
   have qqO:i<18:=(Array.getElem?_eq_some_iff.1 ho).1;have hc:=hρ.const;have hfn:=hρ.fn;have ml:∀v W',rY vp p n w.heap.size n9 zt q T er i v W'→∀j,zm L i j=true→j<18→rY vp p n w.heap.size n9 zt q T er j (xn vs i v j) W':=fun v W' h2 j hj h16=>by
    by_cases gj:j=i
    ·subst gj;simpa[xn]using h2
    ·simp only[zm,if_neg gj]at hj;have:=aT j hj h16;simp only[xn,if_neg gj]
     match j,h16,this with
     | 0,_,h=>exact h
     | 1,_,h=>exact h
     | 2,_,h=>exact h
     | 3,_,h=>exact h
     | 4,_,h=>exact h
     | 5,_,h=>exact h
     | 6,_,h=>exact h
     | 7,_,h=>exact h
     | 8,_,h=>exact h
     | 9,_,h=>exact h
     | 10,_,h=>exact h
     | 11,_,h=>exact h
     | 12,_,h=>exact h
     | 13,_,h=>exact h
     | 14,_,h=>exact h
     | 15,_,h=>exact h
     | 16,_,h=>exact h
     | 17,_,h=>exact h
     | j+18,h,_=>exact absurd h (by omega)
   have next:i≠7→i≠15→i≠16→(i=14→L 7=true)→∀v W',StS IV IC B (fun j=>X j∨j=w.heap.size) vp pd p w0 s D' (ym N t s.d s.m (zn N s.m n9 (sB x.z))) (vs 7) (L 7) (L 15) W'→rY vp p n w.heap.size n9 zt q T er i v W'→StS IV IC B (fun j=>X j∨j=w.heap.size) vp pd p w0 s D' (ym N t s.d s.m (zn N s.m n9 (sB x.z))) (xn vs i v 7) (zm L i 7) (zm L i 15) W'∧((zm L i 15=true→zm L i 7=true)∧(zm L i 14=true→zm L i 7=true)∧(zm L i 16=true→zm L i 7=true∧xn vs i v 16=xn vs i v 7))∧∀j,zm L i j=true→j<18→rY vp p n w.heap.size n9 zt q T er j (xn vs i v j) W':=fun n1 n2 nl n3 v W' h1 h2=>by
    refine⟨?_,⟨?_,?_,?_⟩,ml v W' h2⟩
    ·simp only[zm,xn,if_neg (Ne.symm n1),if_neg (Ne.symm n2)];exact h1
    ·simp only[zm,if_neg (Ne.symm n1),if_neg (Ne.symm n2)];exact hC.1
    ·intro hm;simp only[zm,if_neg (Ne.symm n1)];by_cases vu:14=i
     ·exact n3 vu.symm
     ·simp only[zm,if_neg vu]at hm;exact hC.2.1 hm
    ·simp only[zm,xn,if_neg (Ne.symm n1),if_neg (Ne.symm nl)];exact hC.2.2
   have hKE:=qvI hS;have hA1:=yl.out.of_block (hKE.block hlt (.inl (.inr rfl)));have zcJ:=hA1.lt;have l2:=hA1.cell 2;simp only[QA,QB,QC]at l2;have hq9:=HN9.out;have hqz:=HQZ.out;rcases i with _|_|_|_|_|_|_|_|_|_|_|_|_|_|_|_|_|_|i;all_goals (first|omega|skip)
   all_goals simp only[QA,QB,QC,Option.some.injEq]at ho
   all_goals subst ho
   ·have o0:ρ (.tmp 0)=.pointer (some ⟨vp,0,none⟩):=hρ.out 0 rfl;exact q9 (w':=W) (by unfold execOp;simp only[o0,hc];go_simp) (next (by decide) (by decide) (by decide) (fun h=>absurd h (by decide)) _ _ hS rfl)
   ·have o10:ρ (.tmp 10)=.int .i64 (n:Int):=hρ.out 10 rfl;exact q9 (w':=W) (by unfold execOp;simp only[o10,hc];go_simp) (next (by decide) (by decide) (by decide) (fun h=>absurd h (by decide)) _ _ hS rfl)
   ·have g24:rY vp p n w.heap.size n9 zt q T er 1 (vs 1) W:=hG 1 (qF 1 (by kernel_rfl));have s24:ρ (.tmp 24)=.int .i64 (n:Int):=(hρ.at_ 24 1 rfl).trans g24;exact q9 (w':=W) (by unfold execOp;simp only[s24,hc];go_simp) (next (by decide) (by decide) (by decide) (fun h=>absurd h (by decide)) _ _ hS rfl)
   ·have o6:ρ (.tmp 6)=.pointer (some ⟨w.heap.size,0,none⟩):=hρ.out 6 rfl;exact q9 (w':=W) (by unfold execOp;simp only[o6,hc];go_simp) (next (by decide) (by decide) (by decide) (fun h=>absurd h (by decide)) _ _ hS rfl)
   ·have g26:rY vp p n w.heap.size n9 zt q T er 3 (vs 3) W:=hG 3 (qF 3 (by kernel_rfl));have s26:ρ (.tmp 26)=.pointer (some ⟨w.heap.size,2,none⟩):=(hρ.at_ 26 3 rfl).trans g26;exact q9 (w':=W) (by unfold execOp;simp only[s26,hc];go_simp) (next (by decide) (by decide) (by decide) (fun h=>absurd h (by decide)) _ _ hS rfl)
   ·have g27:rY vp p n w.heap.size n9 zt q T er 4 (vs 4) W:=hG 4 (qF 4 (by kernel_rfl));have s27:ρ (.tmp 27)=.int .u8 zt:=(hρ.at_ 27 4 rfl).trans g27;exact q9 (w':=W) (by unfold execOp;simp only[s27,hc];go_simp) (next (by decide) (by decide) (by decide) (fun h=>absurd h (by decide)) _ _ hS rfl)
   ·have g28:rY vp p n w.heap.size n9 zt q T er 5 (vs 5) W:=hG 5 (qF 5 (by kernel_rfl));have s28:ρ (.tmp 28)=.int .u8 q:=(hρ.at_ 28 5 rfl).trans g28;refine qi (f:=18) (args:=#[.int .u8 q]) (w':=W) (by unfold execOp;simp only[hfn,s28];go_simp) ((HDA.out W).mono ?_);rintro x W' ⟨rfl,hb'⟩;exact⟨_,rfl,next (by decide) (by decide) (by decide) (fun h=>absurd h (by decide)) _ _ (tT H HC hS hb') (congrArg Value.string HSS.out)⟩
   ·have g23:rY vp p n w.heap.size n9 zt q T er 0 (vs 0) W:=hG 0 (qF 0 (by kernel_rfl));have s23:ρ (.tmp 23)=.pointer (some ⟨vp,0,none⟩):=(hρ.at_ 23 0 rfl).trans g23;have g25:rY vp p n w.heap.size n9 zt q T er 2 (vs 2) W:=hG 2 (qF 2 (by kernel_rfl));have s25:ρ (.tmp 25)=.int .i64 n9:=(hρ.at_ 25 2 rfl).trans g25;have g29:rY vp p n w.heap.size n9 zt q T er 6 (vs 6) W:=hG 6 (qF 6 (by kernel_rfl));have s29:ρ (.tmp 29)=.string T:=(hρ.at_ 29 6 rfl).trans g29;have n2:L 15=false:=by
     cases hx:L 15 with
     | false=>rfl
     | true=>exact absurd (hC.1 hx) (by rw[ny];decide)
    rw[ny,n2]at hS;refine qi (f:=17) (args:=#[.pointer (some ⟨vp,0,none⟩),.int .i64 n9,.string T]) (w':=W) (by unfold execOp;simp only[hfn,s23,s25,s29];go_simp) ((q05 HC hS HM.out (fun o1 o2 ho _=>by have:=H.write n9 (sB x.z) (bj.out ▸ ho) HJ.out HF.out HR.out (by unfold yU;have:=q09.out;omega);rw[HSS.out]at this;exact this)).mono ?_);have n3:L 16=false:=by
     cases hx:L 16 with
     | false=>rfl
     | true=>exact absurd (hC.2.2 hx).1 (by rw[ny];decide)
    rintro x W' ⟨r,rfl,h1⟩;refine⟨_,rfl,?_,⟨fun _=>by simp[zm],fun _=>by simp[zm],fun h=>by simp[zm,n3]at h⟩,ml _ _ trivial⟩;simp only[zm,xn,n2];exact h1
   ·have o1:ρ (.tmp 1)=.pointer (some ⟨p,0,none⟩):=hρ.out 1 rfl;exact q9 (w':=W) (by unfold execOp;simp only[o1,hc];go_simp) (next (by decide) (by decide) (by decide) (fun h=>absurd h (by decide)) _ _ hS rfl)
   ·have o10:ρ (.tmp 10)=.int .i64 (n:Int):=hρ.out 10 rfl;exact q9 (w':=W) (by unfold execOp;simp only[o10,hc];go_simp) (next (by decide) (by decide) (by decide) (fun h=>absurd h (by decide)) _ _ hS rfl)
   ·have g32:rY vp p n w.heap.size n9 zt q T er 9 (vs 9) W:=hG 9 (qF 9 (by kernel_rfl));have s32:ρ (.tmp 32)=.int .i64 (n:Int):=(hρ.at_ 32 9 rfl).trans g32;exact q9 (w':=W) (by unfold execOp;simp only[s32,hc];go_simp) (next (by decide) (by decide) (by decide) (fun h=>absurd h (by decide)) _ _ hS rfl)
   ·have o6:ρ (.tmp 6)=.pointer (some ⟨w.heap.size,0,none⟩):=hρ.out 6 rfl;exact q9 (w':=W) (by unfold execOp;simp only[o6,hc];go_simp) (next (by decide) (by decide) (by decide) (fun h=>absurd h (by decide)) _ _ hS rfl)
   ·have g34:rY vp p n w.heap.size n9 zt q T er 11 (vs 11) W:=hG 11 (qF 11 (by kernel_rfl));have s34:ρ (.tmp 34)=.pointer (some ⟨w.heap.size,2,none⟩):=(hρ.at_ 34 11 rfl).trans g34;exact q9 (w':=W) (by unfold execOp;simp only[s34,hc];go_simp) (next (by decide) (by decide) (by decide) (fun h=>absurd h (by decide)) _ _ hS rfl)
   ·have g35:rY vp p n w.heap.size n9 zt q T er 12 (vs 12) W:=hG 12 (qF 12 (by kernel_rfl));have s35:ρ (.tmp 35)=.int .u8 zt:=(hρ.at_ 35 12 rfl).trans g35;exact q9 (w':=W) (by unfold execOp;simp only[s35,hc];go_simp) (next (by decide) (by decide) (by decide) (fun h=>absurd h (by decide)) _ _ hS rfl)
   ·have g36:rY vp p n w.heap.size n9 zt q T er 13 (vs 13) W:=hG 13 (qF 13 (by kernel_rfl));have s36:ρ (.tmp 36)=.int .u8 q:=(hρ.at_ 36 13 rfl).trans g36;refine qi (f:=18) (args:=#[.int .u8 q]) (w':=W) (by unfold execOp;simp only[hfn,s36];go_simp) ((HDA.out W).mono ?_);rintro x W' ⟨rfl,hb'⟩;exact⟨_,rfl,next (by decide) (by decide) (by decide) (fun _=>qF 7 (by kernel_rfl)) _ _ (tT H HC hS hb') (congrArg Value.string HSS.out)⟩
   ·have g31:rY vp p n w.heap.size n9 zt q T er 8 (vs 8) W:=hG 8 (qF 8 (by kernel_rfl));have s31:ρ (.tmp 31)=.pointer (some ⟨p,0,none⟩):=(hρ.at_ 31 8 rfl).trans g31;have g33:rY vp p n w.heap.size n9 zt q T er 10 (vs 10) W:=hG 10 (qF 10 (by kernel_rfl));have s33:ρ (.tmp 33)=.int .i64 n9:=(hρ.at_ 33 10 rfl).trans g33;have g37:rY vp p n w.heap.size n9 zt q T er 14 (vs 14) W:=hG 14 (qF 14 (by kernel_rfl));have s37:ρ (.tmp 37)=.string T:=(hρ.at_ 37 14 rfl).trans g37;have yq1:L 7=true:=hC.2.1 (qF 14 (by kernel_rfl));rw[ny,yq1]at hS;refine qi (f:=37) (args:=#[.pointer (some ⟨p,0,none⟩),.int .i64 n9,.string T]) (w':=W) (by unfold execOp;simp only[hfn,s31,s33,s37];go_simp) ((q06 H hS HM.out (fun o3 ho _=>by have:=HC.write n9 (sB x.z) ho (by unfold yU;have:=q09.out;omega);rw[HDC.out,HSS.out]at this;exact this)).mono ?_);rintro x W' ⟨rfl,h1⟩;refine⟨_,rfl,?_,⟨fun _=>by simp[zm,yq1],fun _=>by simp[zm,yq1],fun h=>by simpa[zm,xn]using hC.2.2 (by simpa[zm]using h)⟩,ml _ _ rfl⟩;simp only[zm,xn,yq1];exact h1
   ·have s30:ρ (.tmp 30)=vs 7:=hρ.at_ 30 7 rfl;have yq1:L 7=true:=qF 7 (by kernel_rfl);refine q9 (w':=W) (v:=vs 7) (by unfold execOp;simp only[s30];go_simp) ⟨?_,⟨fun h=>?_,fun h=>?_,fun _=>?_⟩,ml _ _ trivial⟩
    ·simp only[zm,xn];exact hS
    ·simp only[zm]at h ⊢;exact hC.1 h
    ·simp only[zm]at h ⊢;exact hC.2.1 h
    ·simp[zm,xn,yq1]
   ·have g38:rY vp p n w.heap.size n9 zt q T er 15 (vs 15) W:=hG 15 (qF 15 (by kernel_rfl));have s38:ρ (.tmp 38)=.int .i64 er:=(hρ.at_ 38 15 rfl).trans g38;exact q9 (w':=W) (by unfold execOp;simp only[s38,hc];go_simp) (next (by decide) (by decide) (by decide) (fun h=>absurd h (by decide)) _ _ hS rfl)
  ·intro i o L vs W j want ho ny qF hg hv hI;have qqO:i<18:=(Array.getElem?_eq_some_iff.1 ho).1;rcases i with _|_|_|_|_|_|_|_|_|_|_|_|_|_|_|_|_|_|i;all_goals (first|omega|skip)
   all_goals simp only[QA,QB,QC,Option.some.injEq]at ho
   all_goals subst ho
   all_goals simp only[reduceCtorEq]at hg
  ·intro vs W hI;obtain⟨hS,hL,hG⟩:=hI;have gl:vs 17=.int .i64 er:=hG 17 (by decide) (by decide);have g16:=(hL.2.2 (by decide)).2;obtain⟨hke,r,d',m',l',hx,hq,hv⟩:=qrs hS;rw[hx]at g16;have HKE:Hid (Ke B X w W):=(Ke.of_below xp.out).trans (hke.mono fun j hj=>.inl hj);have HV:Hid (V3 IV IC W B X vp pd p ⟨d',m',D',l'⟩):=hv.eL fun j hj=>.inl hj;have HQ:=QH hq;clear hS hL hG hke hq hv hx;simp only[qW,qK,if_true];rw[gl,g16];clear gl g16;generalize vs 0=z0;generalize vs 1=z1;generalize vs 2=z2;generalize vs 3=z3;generalize vs 4=z4;generalize vs 5=z5;generalize vs 6=z6;generalize vs 8=z8;generalize vs 9=z9;generalize vs 10=z10;generalize vs 11=z11;generalize vs 12=z12;generalize vs 13=z13;generalize vs 14=z14;generalize vs 15=z15;generalize vs 7=z7;simp only[Act.put,List.setIfInBounds_toArray,List.set_cons_succ,List.set_cons_zero];go_wp2_with fail;go_ret2;refine⟨r,d',m',l',?_,?_,HKE.out,?_⟩
   ·rw[mI.out];rfl
   ·rw[mI.out];exact HV.out
   ·rw[tK.out];exact HQ.out
theorem wrap_u64(n:Nat)(h:n<18446744073709551616):IntKind.u64.wrap (n:Int)=(n:Int):=by
 simp[IntKind.wrap,IntKind.bits,IntKind.signed];omega
theorem qjR{IV:yK}{IC:ch.cy}(H:yM IV)(HC:ch.Ops IC){B vp pd p N:Nat}{X:Nat→Prop}{w:World}{s:Tri}{t:Tg}(h:V3 IV IC w B X vp pd p s)(hB:B≤w.heap.size)(hlo:s.lost=false)(hJ:JJ N t s.d)(hf:0≤s.d.qp)(hr:qT 8 N t s.m)
    (x:DoP) (next:Nat) (hk:x.k<256) (hn:x.n<256) (hnx:next<18446744073709551616) (h6:x.k%6=2) :
    Calls prog 11 #[.pointer (some ⟨vp,0,none⟩),.pointer (some ⟨p,0,none⟩),.agg (yR x),.int .u64 (next:Int)] w (StP IV IC B X vp pd p N t s x next w):=by
 have tK:Hid (jH N s.m x next=jP s.m (1,next)):=by
  unfold Hid jH;rw[if_neg (by rw[h6];decide),if_pos h6]
 have mI:Hid (zU s.c x next=s.c.snap (1,next)):=by
  unfold Hid zU;rw[if_neg (by rw[h6];decide),if_pos h6]
 have xp:=QH ((Below.refl w.heap.size w).alloc (Nat.le_refl _) (.cells (yR x) 34));have HT0:=QH (rq H HC h (yR x) 34);have yl:=QH (qf.new w 34 (yR x));obtain⟨w0,hw0⟩:=QE (w.alloc (.cells (yR x) 34));rw[hw0]at xp HT0 yl;have HM:Hid (B≤w0.heap.size):=Nat.le_trans hB xp.out.size;have bj:=QH hlo;have HJ:=QH hJ;have HF:=QH hf;have HR:=QH hr;clear h hlo hJ hf hr;unfold yR at hw0 yl ⊢;have hlt:=yl.out.lt;have c0:=yl.out.cell 0;have c1:=yl.out.cell 1;simp only[QA,QB,QC]at c0 c1;obtain⟨n,hn'⟩:=QE x.n;obtain⟨k,uV⟩:=QE x.k;obtain⟨zt,hz'⟩:=QE (x.z.toNat:Int);rw[hn']at hw0 hn yl c1 ⊢;try rw[hn']at tK
 try rw[hn']at mI
 rw[uV]at hw0 h6 hk yl c0 ⊢;rw[hz']at hw0 yl ⊢;clear hn' uV hz';have hq6:(k:Int)%6=((k%6:Nat):Int):=by omega
 rw[h6]at hq6;clear h6;go_enter func11,ntmps11;go_wp2_with fail;try rw[hw0]
 clear hw0 c0 c1 hq6;have HK:=QH (Ke.refl B (fun j=>X j∨j=w.heap.size) w0);have HT:=QH HT0.out;clear HT0;refine(ch.xm 1 next _).mono ?_;rintro e W1 ⟨rfl,hb⟩;have HT1:=QH (HT.out.below H HC hb);have cz:=QH (HK.out.trans (Ke.of_below hb));clear hb HT HK;have HT:=QH HT1.out;have HK:=QH cz.out;clear HT1 cz;go_wp2_with fail;refine(wa HC HT.out (Nat.le_trans HM.out HK.out.size) (fun o1 o2 ho _=>H.snap (1,next) (bj.out ▸ ho) HJ.out HF.out HR.out ⟨by show 1<18446744073709551616;omega,hnx⟩)).mono ?_;rintro e W2 ⟨r,d',m',l',rfl,hv2,hk2,hq2⟩;have dw:=QH hv2;have jR:=QH (HK.out.trans hk2);have HQ:=QH hq2;clear hv2 hk2 hq2 HT HK;have HT:=QH dw.out;have HK:=QH jR.out;clear dw jR;go_wp2_with fail;refine(ch.xm 1 next _).mono ?_;rintro e W3 ⟨rfl,hb⟩;have gV:=QH (HT.out.below H HC hb);have ik:=QH (HK.out.trans (Ke.of_below hb));clear hb HT HK;have HT:=QH gV.out;have HK:=QH ik.out;clear gV ik;go_wp2_with fail;refine(wb H HT.out (Nat.le_trans HM.out HK.out.size) (r:=s.c.snap (1,next)) (fun o3 ho _=>HC.snap (1,next) ho ⟨by show 1<18446744073709551616;omega,hnx⟩)).mono ?_;rintro e W4 ⟨rfl,hv4,hk4⟩;have HV:Hid (V3 IV IC W4 B X vp pd p ⟨d',m',(s.c.snap (1,next)).1,l'⟩):=hv4.eL fun j hj=>.inl hj;have HKE:Hid (Ke B X w W4):=(Ke.of_below xp.out).trans ((HK.out.trans hk4).mono fun j hj=>.inl hj);clear hv4 hk4 HT HK;go_wp2_with fail;go_ret2;refine⟨r,d',m',l',?_,?_,HKE.out,?_⟩
 ·rw[mI.out];rfl
 ·rw[mI.out];exact HV.out
 ·rw[tK.out];exact HQ.out
theorem qjS{IV:yK}{IC:ch.cy}(H:yM IV)(HC:ch.Ops IC){B vp pd p N:Nat}{X:Nat→Prop}{w:World}{s:Tri}{t:Tg}(h:V3 IV IC w B X vp pd p s)(hB:B≤w.heap.size)(hlo:s.lost=false)(hJ:JJ N t s.d)(hf:0≤s.d.qp)(hr:qT 8 N t s.m)
    (x:DoP) (next:Nat) (hk:x.k<256) (hn:x.n<256) (hnx:next<18446744073709551616) (h6:x.k%6=3) :
    Calls prog 11 #[.pointer (some ⟨vp,0,none⟩),.pointer (some ⟨p,0,none⟩),.agg (yR x),.int .u64 (next:Int)] w (StP IV IC B X vp pd p N t s x next w):=by
 have tK:Hid (jH N s.m x next=jv s.m ((x.n:Int)%6)):=by
  unfold Hid jH;rw[if_neg (by rw[h6];decide),if_neg (by rw[h6];decide),if_pos h6]
 have mI:Hid (zU s.c x next=s.c.roll ((x.n:Int)%6)):=by
  unfold Hid zU;rw[if_neg (by rw[h6];decide),if_neg (by rw[h6];decide),if_pos h6]
 have xp:=QH ((Below.refl w.heap.size w).alloc (Nat.le_refl _) (.cells (yR x) 34));have HT0:=QH (rq H HC h (yR x) 34);have yl:=QH (qf.new w 34 (yR x));obtain⟨w0,hw0⟩:=QE (w.alloc (.cells (yR x) 34));rw[hw0]at xp HT0 yl;have HM:Hid (B≤w0.heap.size):=Nat.le_trans hB xp.out.size;have bj:=QH hlo;have HJ:=QH hJ;have HF:=QH hf;have HR:=QH hr;clear h hlo hJ hf hr;unfold yR at hw0 yl ⊢;have hlt:=yl.out.lt;have c0:=yl.out.cell 0;have c1:=yl.out.cell 1;simp only[QA,QB,QC]at c0 c1;obtain⟨n,hn'⟩:=QE x.n;obtain⟨k,uV⟩:=QE x.k;obtain⟨zt,hz'⟩:=QE (x.z.toNat:Int);rw[hn']at hw0 hn yl c1 ⊢;try rw[hn']at tK
 try rw[hn']at mI
 rw[uV]at hw0 h6 hk yl c0 ⊢;rw[hz']at hw0 yl ⊢;clear hn' uV hz';obtain⟨n6,hn6⟩:=QE ((n:Int)%6);rw[hn6]at tK mI;have zcX:0≤n6∧n6<6:=by omega
 have hm6:(n:Int).tmod 6=n6:=by rw[Int.tmod_eq_emod_of_nonneg (by omega)];exact hn6
 have hq6:(k:Int)%6=((k%6:Nat):Int):=by omega
 rw[h6]at hq6;clear h6;go_enter func11,ntmps11;go_wp2_with fail;try rw[hw0]
 clear hw0 c0 c1 hq6;have HK:=QH (Ke.refl B (fun j=>X j∨j=w.heap.size) w0);have HT:=QH HT0.out;clear HT0;refine(wa HC HT.out (Nat.le_trans HM.out HK.out.size) (fun o1 o2 ho _=>H.roll n6 (bj.out ▸ ho) HJ.out HF.out HR.out (by unfold yU;omega))).mono ?_;rintro e W2 ⟨r,d',m',l',rfl,hv2,hk2,hq2⟩;have dw:=QH hv2;have jR:=QH (HK.out.trans hk2);have HQ:=QH hq2;clear hv2 hk2 hq2 HT HK;have HT:=QH dw.out;have HK:=QH jR.out;clear dw jR;go_wp2_with fail;refine(wb H HT.out (Nat.le_trans HM.out HK.out.size) (r:=s.c.roll n6) (fun o3 ho _=>HC.roll n6 ho (by unfold yU;omega))).mono ?_;rintro e W4 ⟨rfl,hv4,hk4⟩;have HV:Hid (V3 IV IC W4 B X vp pd p ⟨d',m',(s.c.roll n6).1,l'⟩):=hv4.eL fun j hj=>.inl hj;have HKE:Hid (Ke B X w W4):=(Ke.of_below xp.out).trans ((HK.out.trans hk4).mono fun j hj=>.inl hj);clear hv4 hk4 HT HK;go_wp2_with fail;go_ret2;refine⟨r,d',m',l',?_,?_,HKE.out,?_⟩
 ·rw[mI.out];rfl
 ·rw[mI.out];exact HV.out
 ·rw[tK.out];exact HQ.out
theorem qjT{IV:yK}{IC:ch.cy}(H:yM IV)(HC:ch.Ops IC){B vp pd p N:Nat}{X:Nat→Prop}{w:World}{s:Tri}{t:Tg}(h:V3 IV IC w B X vp pd p s)(hB:B≤w.heap.size)(hlo:s.lost=false)(hJ:JJ N t s.d)(hf:0≤s.d.qp)(hr:qT 8 N t s.m)
    (x:DoP) (next:Nat) (hk:x.k<256) (hn:x.n<256) (hnx:next<18446744073709551616) (h6:x.k%6=4) :
    Calls prog 11 #[.pointer (some ⟨vp,0,none⟩),.pointer (some ⟨p,0,none⟩),.agg (yR x),.int .u64 (next:Int)] w (StP IV IC B X vp pd p N t s x next w):=by
 have tK:Hid (jH N s.m x next=uB s.m (1,x.n%8)):=by
  unfold Hid jH;rw[if_neg (by rw[h6];decide),if_neg (by rw[h6];decide),if_neg (by rw[h6];decide),if_pos h6]
 have mI:Hid (zU s.c x next=s.c.kx (1,x.n%8)):=by
  unfold Hid zU;rw[if_neg (by rw[h6];decide),if_neg (by rw[h6];decide),if_neg (by rw[h6];decide),if_pos h6]
 have xp:=QH ((Below.refl w.heap.size w).alloc (Nat.le_refl _) (.cells (yR x) 34));have HT0:=QH (rq H HC h (yR x) 34);have yl:=QH (qf.new w 34 (yR x));obtain⟨w0,hw0⟩:=QE (w.alloc (.cells (yR x) 34));rw[hw0]at xp HT0 yl;have HM:Hid (B≤w0.heap.size):=Nat.le_trans hB xp.out.size;have bj:=QH hlo;have HJ:=QH hJ;have HF:=QH hf;have HR:=QH hr;clear h hlo hJ hf hr;unfold yR at hw0 yl ⊢;have hlt:=yl.out.lt;have c0:=yl.out.cell 0;have c1:=yl.out.cell 1;simp only[QA,QB,QC]at c0 c1;obtain⟨n,hn'⟩:=QE x.n;obtain⟨k,uV⟩:=QE x.k;obtain⟨zt,hz'⟩:=QE (x.z.toNat:Int);rw[hn']at hw0 hn yl c1 ⊢;try rw[hn']at tK
 try rw[hn']at mI
 rw[uV]at hw0 h6 hk yl c0 ⊢;rw[hz']at hw0 yl ⊢;clear hn' uV hz';obtain⟨n8,hn8⟩:=QE (n%8);rw[hn8]at tK mI;have q5Q:n8<8:=by omega
 have hm8:(n:Int).tmod 8=(n8:Int):=by rw[Int.tmod_eq_emod_of_nonneg (by omega)];omega
 have zcZ:(n:Int)%8=(n8:Int):=by omega
 have hw8:=wrap_u64 n8 (by omega);have hg8:x9 (1,n8):=⟨by show 1<18446744073709551616;omega,by show n8<18446744073709551616;omega⟩;have HG8:=QH hg8;clear hg8;have hq6:(k:Int)%6=((k%6:Nat):Int):=by omega
 rw[h6]at hq6;clear h6;go_enter func11,ntmps11;go_wp2_with fail;try rw[hw0]
 clear hw0 c0 c1 hq6;have HK:=QH (Ke.refl B (fun j=>X j∨j=w.heap.size) w0);have HT:=QH HT0.out;clear HT0;refine(ch.xm 1 n8 _).mono ?_;rintro e W1 ⟨rfl,hb⟩;have HT1:=QH (HT.out.below H HC hb);have cz:=QH (HK.out.trans (Ke.of_below hb));clear hb HT HK;have HT:=QH HT1.out;have HK:=QH cz.out;clear HT1 cz;go_wp2_with fail;refine(wa HC HT.out (Nat.le_trans HM.out HK.out.size) (fun o1 o2 ho _=>H.kx (1,n8) (bj.out ▸ ho) HJ.out HF.out HR.out HG8.out)).mono ?_;rintro e W2 ⟨r,d',m',l',rfl,hv2,hk2,hq2⟩;have dw:=QH hv2;have jR:=QH (HK.out.trans hk2);have HQ:=QH hq2;clear hv2 hk2 hq2 HT HK;have HT:=QH dw.out;have HK:=QH jR.out;clear dw jR;go_wp2_with fail;refine(ch.xm 1 n8 _).mono ?_;rintro e W3 ⟨rfl,hb⟩;have gV:=QH (HT.out.below H HC hb);have ik:=QH (HK.out.trans (Ke.of_below hb));clear hb HT HK;have HT:=QH gV.out;have HK:=QH ik.out;clear gV ik;go_wp2_with fail;refine(wb H HT.out (Nat.le_trans HM.out HK.out.size) (r:=s.c.kx (1,n8)) (fun o3 ho _=>HC.kx (1,n8) ho HG8.out)).mono ?_;rintro e W4 ⟨rfl,hv4,hk4⟩;have HV:Hid (V3 IV IC W4 B X vp pd p ⟨d',m',(s.c.kx (1,n8)).1,l'⟩):=hv4.eL fun j hj=>.inl hj;have HKE:Hid (Ke B X w W4):=(Ke.of_below xp.out).trans ((HK.out.trans hk4).mono fun j hj=>.inl hj);clear hv4 hk4 HT HK;go_wp2_with fail;go_ret2;refine⟨r,d',m',l',?_,?_,HKE.out,?_⟩
 ·rw[mI.out];rfl
 ·rw[mI.out];exact HV.out
 ·rw[tK.out];exact HQ.out
theorem iJ {m:Mt}(h:m.qa.length=0):qB m=(0,0):=by
 unfold qB;rw[List.length_eq_zero_iff.1 h];rfl
theorem qom{m:Mt}(k:Nat)(h:k<(m.qa.map (·.g)).length)(hk:k+1=m.qa.length):qB m=(m.qa.map (·.g))[k]:=by
 unfold qB;rw[List.getLast?_eq_getElem?,show m.qa.length-1=k by omega,List.getElem?_eq_getElem (by omega)];simp
theorem lg {w w':World}{A:Option Addr}{x:List (Int × Bt)}(h:ch.aD w A x)(hb:∀b o,A=some ⟨b,o,none⟩→w'.heap[b]?=w.heap[b]?)(hs:w.heap.size≤w'.heap.size):ch.aD w' A x:=by
 intro i hi;obtain⟨b,o,h1,h2,h3,h4,h5⟩:=h i hi;exact⟨b,o,h1,Nat.lt_of_lt_of_le h2 hs,by rw[World.cell?_of_block (a:=⟨b,o+i*2,none⟩) (hb b o h1)];exact h3,by rw[World.cell?_of_block (a:=⟨b,o+i*2+1,none⟩) (hb b o h1)];exact h4,h5⟩
theorem qrt{IV:yK}{IC:ch.cy}(H:yM IV){B v pd p:Nat}{X:Nat→Prop}{w:World}{s:Tri}(h:V3 IV IC w B X v pd p s):Calls prog 22 #[.pointer (some ⟨v,0,none⟩)] w (ch.iF (s.m.qa.map (·.g)) w):=by
 obtain⟨o1,o2,o3,h1,_⟩:=h;exact H.list h1.is
theorem qgx{IV:yK}{IC:ch.cy}(H:yM IV)(HC:ch.Ops IC){B vp pd p N:Nat}{X:Nat→Prop}{w:World}{s:Tri}{t:Tg}(h:V3 IV IC w B X vp pd p s)(hB:B≤w.heap.size)(hlo:s.lost=false)(hJ:JJ N t s.d)(hf:0≤s.d.qp)(hr:qT 8 N t s.m)
    (x:DoP) (next:Nat) (hk:x.k<256) (hn:x.n<256) (hnx:next<18446744073709551616) (h6:x.k%6=5) :
    Calls prog 11 #[.pointer (some ⟨vp,0,none⟩),.pointer (some ⟨p,0,none⟩),.agg (yR x),.int .u64 (next:Int)] w (StP IV IC B X vp pd p N t s x next w):=by
 have tK:Hid (jH N s.m x next=ze N s.m ⟨qB s.m,(1,next),1,1⟩ [((x.n:Int)%8,sB x.z)]):=by
  unfold Hid jH;rw[if_neg (by rw[h6];decide),if_neg (by rw[h6];decide),if_neg (by rw[h6];decide),if_neg (by rw[h6];decide)]
 have mI:Hid (zU s.c x next=s.c.add (1,next) [((x.n:Int)%8,sB x.z)]):=by
  unfold Hid zU;rw[if_neg (by rw[h6];decide),if_neg (by rw[h6];decide),if_neg (by rw[h6];decide),if_neg (by rw[h6];decide)]
 have xp:=QH ((Below.refl w.heap.size w).alloc (Nat.le_refl _) (.cells (yR x) 34));have HT0:=QH (rq H HC h (yR x) 34);have yl:=QH (qf.new w 34 (yR x));obtain⟨w0,hw0⟩:=QE (w.alloc (.cells (yR x) 34));rw[hw0]at xp HT0 yl;have HM:Hid (B≤w0.heap.size):=Nat.le_trans hB xp.out.size;have HXL:Hid (∀j,(X j∨j=w.heap.size)→j<w0.heap.size):=HT0.out.choose_spec.choose_spec.choose_spec.2.2.2.2.1;have bj:=QH hlo;have HJ:=QH hJ;have HF:=QH hf;have HR:=QH hr;have aY:=hr.ok.few;have HGL:=QH (qsd hr.ok);have HL0:=QH (fun h=>iJ (m:=s.m) h);have HLK:=QH (fun k h hk=>qom (m:=s.m) k h hk);clear h hlo hJ hf hr;unfold yR at hw0 yl ⊢;have hlt:=yl.out.lt;have c0:=yl.out.cell 0;have c1:=yl.out.cell 1;have c2:=yl.out.cell 2;simp only[QA,QB,QC]at c0 c1 c2;obtain⟨a,ha⟩:=QE (UInt8.ofNat (x.z.toNat%200):UInt8);have haq:(x.z.toNat:Int).tmod 200=(a.toNat:Int):=by
  rw[← ha,Int.tmod_eq_emod_of_nonneg (by omega),UInt8.toNat_ofNat'];omega
 have q5R:(x.z.toNat:Int)%200=(a.toNat:Int):=by rw[← Int.tmod_eq_emod_of_nonneg (by omega)];exact haq
 have HSB:Hid (sB x.z=gI a):=by unfold Hid sB;rw[ha]
 obtain⟨n,hn'⟩:=QE x.n;obtain⟨k,uV⟩:=QE x.k;obtain⟨zt,hz'⟩:=QE (x.z.toNat:Int);rw[hn']at hw0 hn tK mI yl c1 ⊢;rw[uV]at hw0 h6 hk yl c0 ⊢;rw[hz']at hw0 haq q5R yl c2 ⊢;rw[HSB.out]at tK mI;clear hn' uV hz' ha;obtain⟨n8,hn8⟩:=QE ((n:Int)%8);rw[hn8]at tK mI;have q5Q:0≤n8∧n8<8:=by omega
 have hm8:(n:Int).tmod 8=n8:=by rw[Int.tmod_eq_emod_of_nonneg (by omega)];exact hn8
 have hq6:(k:Int)%6=((k%6:Nat):Int):=by omega
 rw[h6]at hq6;clear h6;have HP1:=QH ((Below.refl w0.heap.size w0).alloc (Nat.le_refl _) (.cells #[.int .i64 n8,.int .u8 (a.toNat:Int)] 73));have HPT:=QH (ch.qbv w0 n8 a (by unfold yU;omega));have iV:=QH (ch.kF (some ⟨w0.heap.size,0,none⟩) 1 [(n8,a)] _ HPT.out (by simp));have HCO:Hid (ch.aP [(n8,a)]=[(n8,gI a)]):=rfl;rw[HCO.out]at iV;have HT1:=QH (HT0.out.below H HC HP1.out);clear HT0 hn8;go_enter func11,ntmps11;go_wp2_with fail;refine iV.out.mono ?_;rintro e W1 ⟨v1,rfl,ho1,hb1⟩;obtain⟨A1,cc1,hv1,hl1,fh⟩:=ho1.qda (by intro y hy;simp at hy;subst hy;unfold yU;dsimp only;omega);subst hv1;have HL1:=QH hl1;have HAB:=QH fh;have cz:Hid (Ke B (fun j=>X j∨j=w.heap.size) w0 W1):=(Ke.of_below HP1.out).trans (Ke.of_below hb1);have dw:Hid (V3 IV IC W1 B (fun j=>(X j∨j=w.heap.size)∨∃o,A1=some ⟨j,o,none⟩) vp pd p s):=HT1.out.more H HC hb1 fun j hj=>by
  rcases hj with hj|⟨o,hj⟩
  ·exact .inl hj
  ·exact .inr (HAB.out j o hj)
 have fS:Hid (qf W1 w.heap.size _ _):=(yl.out.below HP1.out).below hb1;clear ho1 hl1 fh hb1 iV HT1 HPT c0 c1 c2 hw0 yl;go_wp2_with fail;refine(ch.xm 1 next _).mono ?_;rintro e W2 ⟨rfl,hb2⟩;have jR:=QH (cz.out.trans (Ke.of_below hb2));have gV:=QH (dw.out.below H HC hb2);have mv:=QH (HL1.out.below hb2);have HTS:Hid (w0.heap.size≤W2.heap.size):=jR.out.size;have HAT:Hid (∀b o,A1=some ⟨b,o,none⟩→b<W2.heap.size):=fun b o e=>gV.out.choose_spec.choose_spec.choose_spec.2.2.2.2.1 b (.inr ⟨o,e⟩);clear hb2 cz dw HL1;unfold ch.gv;go_wp2_with fail;have qV:=QH ((Below.refl W2.heap.size W2).alloc (Nat.le_refl _) (.cells #[.int .u64 0,.int .u64 0,.int .u64 1,.int .u64 (next:Int),.int .i64 1,.int .i64 1,.slice none 0 0] 59));have HTB:=QH (qf.new W2 59 #[.int .u64 0,.int .u64 0,.int .u64 1,.int .u64 (next:Int),.int .i64 1,.int .i64 1,.slice none 0 0]);have HT4:Hid (V3 IV IC (W2.alloc (.cells #[.int .u64 0,.int .u64 0,.int .u64 1,.int .u64 (next:Int),.int .i64 1,.int .i64 1,.slice none 0 0] 59)) B (fun j=>((X j∨j=w.heap.size)∨∃o,A1=some ⟨j,o,none⟩)∨j=W2.heap.size) vp pd p s):=gV.out.more H HC qV.out fun j hj=>by
  rcases hj with hj|rfl
  ·exact .inl hj
  ·exact .inr ⟨Nat.le_refl _,by simp⟩
 have lB:=QH (jR.out.trans (Ke.of_below qV.out));have HL4:=QH (mv.out.below qV.out);obtain⟨W3,hW3⟩:=QE (W2.alloc (.cells #[.int .u64 0,.int .u64 0,.int .u64 1,.int .u64 (next:Int),.int .i64 1,.int .i64 1,.slice none 0 0] 59));rw[hW3]at qV HTB HT4 lB HL4 ⊢;clear hW3 gV jR mv;obtain⟨TB,hTB⟩:=QE W2.heap.size;rw[hTB]at HTB HT4 HTS HAT ⊢;clear hTB qV;refine(qrt H HT4.out).mono ?_;rintro e W4 ⟨A2,cc2,rfl,hg4,hn4,hb4⟩;have cY:=QH (HT4.out.below H HC hb4);have mH:=QH (lB.out.trans (Ke.of_below hb4));have HL5:=QH (HL4.out.below hb4);have mJ:=QH (HTB.out.below hb4);have HGD:=QH hg4;have HNA:=QH hn4;have HX5:Hid (∀b o,A1=some ⟨b,o,none⟩→b<W4.heap.size):=fun b o e=>cY.out.choose_spec.choose_spec.choose_spec.2.2.2.2.1 b (.inl (.inr ⟨o,e⟩));have HGN:Hid (x9 (1,next)):=⟨by show 1<18446744073709551616;omega,hnx⟩;obtain⟨y1,hy1⟩:=QE ((qB s.m).1:Int);obtain⟨y2,hy2⟩:=QE ((qB s.m).2:Int);have HY1:=QH hy1;have HY2:=QH hy2;have lF:(s.m.qa.map (·.g)).length=s.m.qa.length:=List.length_map _;clear hg4 hn4 hb4 HT4 lB HL4 hy1 hy2;by_cases hz:s.m.qa.length=0
 ·have hlz:((s.m.qa.map (·.g)).length:Int)=0:=by omega
  have q0B:(s.m.qa.map (·.g)).length=0:=by omega
  have hl0:=HL0.out hz;have q0:W4.cell? ⟨TB,0,none⟩=some (.int .u64 y1):=by rw[mJ.out.cell 0,← HY1.out,hl0];rfl
  have q1:W4.cell? ⟨TB,1,none⟩=some (.int .u64 y2):=by rw[mJ.out.cell 1,← HY2.out,hl0];rfl
  have q2:W4.cell? ⟨TB,2,none⟩=some (.int .u64 1):=mJ.out.cell 2;have q3:W4.cell? ⟨TB,3,none⟩=some (.int .u64 (next:Int)):=mJ.out.cell 3;have q4:W4.cell? ⟨TB,4,none⟩=some (.int .i64 1):=mJ.out.cell 4;have q5:W4.cell? ⟨TB,5,none⟩=some (.int .i64 1):=mJ.out.cell 5;have q6:W4.cell? ⟨TB,6,none⟩=some (.slice none 0 0):=mJ.out.cell 6;rw[q0B];clear hlz q0B hl0 lF hz;go_wp2_with fail;refine(wa HC cY.out (Nat.le_trans HM.out mH.out.size) (fun o1 o2 ho hx=>by
   have h5:=H.stage ⟨qB s.m,(1,next),1,1⟩ A1 cc1 [(n8,gI a)] (bj.out ▸ ho) HJ.out HF.out HR.out ⟨HGL.out,HGN.out,by unfold yU;dsimp only;omega,by unfold yU;dsimp only;omega⟩ HL5.out (by simp) (fun b o e=>⟨fun hh=>(hx b (.inl hh)).2 (.inl (.inr ⟨o,e⟩)),fun hh=>(hx b (.inr hh)).2 (.inl (.inr ⟨o,e⟩))⟩);unfold tkV at h5;dsimp only at h5;rw[HY1.out,HY2.out]at h5;exact h5)).mono ?_
  rintro e W6 ⟨r,d',m',l',rfl,hv6,uO,hq6⟩;have cq:=QH hv6;have HK6:=QH (mH.out.trans (uO.mono fun j hj=>.inl (.inl hj)));have HL6:=QH (lg HL5.out (fun b o e=>uO.block (HX5.out b o e) (.inl (.inl (.inr ⟨o,e⟩)))) uO.size);have HQ:=QH hq6;clear hv6 uO hq6 cY mH HL5 q0 q1 q2 q3 q4 q5 q6;go_wp2_with fail;refine(ch.xm 1 next _).mono ?_;rintro e W7 ⟨rfl,ed⟩;have HT7:=QH (cq.out.below H HC ed);have HK7:=QH (HK6.out.trans (Ke.of_below ed));have HL7:=QH (HL6.out.below ed);clear ed cq HK6 HL6;go_wp2_with fail;refine(wb H HT7.out (Nat.le_trans HM.out HK7.out.size) (r:=s.c.add (1,next) [(n8,gI a)]) (fun o3 ho hx=>HC.add (1,next) A1 cc1 [(n8,gI a)] ho HGN.out HL7.out (by simp) (fun b o e hh=>(hx b hh).2 (.inl (.inr ⟨o,e⟩))))).mono ?_;rintro e W8 ⟨rfl,hv8,hk8⟩;have HV:Hid (V3 IV IC W8 B X vp pd p ⟨d',m',(s.c.add (1,next) [(n8,gI a)]).1,l'⟩):=hv8.eL fun j hj=>.inl (.inl (.inl hj));have HKE:Hid (Ke B X w W8):=(Ke.of_below xp.out).trans ((HK7.out.trans (hk8.mono fun j hj=>.inl (.inl hj))).mono fun j hj=>.inl hj);clear hv8 hk8 HT7 HK7;go_wp2_with fail;go_ret2;refine⟨r,d',m',l',?_,?_,HKE.out,?_⟩
  ·rw[mI.out];rfl
  ·rw[mI.out];exact HV.out
  ·rw[tK.out];exact HQ.out
 ·obtain⟨kl,hkl⟩:=QE (s.m.qa.length-1);have zJ:kl+1=s.m.qa.length:=by omega
  have hkg:kl<(s.m.qa.map (·.g)).length:=by omega
  have hlk:=HLK.out kl hkg zJ;obtain⟨bl,ol,rfl,hbl,g0,g1,_⟩:=HGD.out kl hkg;rw[← hlk,HY1.out]at g0;rw[← hlk,HY2.out]at g1;have quQ:(0:Int)<((s.m.qa.map (·.g)).length:Int):=by omega
  have hwr:IntKind.i64.wrap (((s.m.qa.map (·.g)).length:Int)-1)=(kl:Int):=by rw[IntWalk.i64_in _ (by omega)];omega
  have jD:(kl:Int)<((s.m.qa.map (·.g)).length:Int):=by omega
  have f0:=mJ.out.frozen 0;have f1:=mJ.out.frozen 1;have p0:W4.cell? ⟨TB,0,none⟩=some (.int .u64 0):=mJ.out.cell 0;have p1:W4.cell? ⟨TB,1,none⟩=some (.int .u64 0):=mJ.out.cell 1;have qdD:=QH ((mJ.out.qo 0 (.int .u64 y1)).qo 1 (.int .u64 y2));have HBU:Hid (qx (fun j=>j=TB) W4 ((W4.setCell ⟨TB,0,none⟩ (.int .u64 y1)).setCell ⟨TB,1,none⟩ (.int .u64 y2))):=((qx.refl (fun j=>j=TB) W4).setCell ⟨TB,0,none⟩ (.int .u64 y1) (.inl rfl)).setCell ⟨TB,1,none⟩ (.int .u64 y2) (.inl rfl);have q0:=qdD.out.cell 0;have q1:=qdD.out.cell 1;have q2:=qdD.out.cell 2;have q3:=qdD.out.cell 3;have q4:=qdD.out.cell 4;have q5:=qdD.out.cell 5;have q6:=qdD.out.cell 6;simp only[List.setIfInBounds_toArray,List.set_cons_zero,List.set_cons_succ,QA,QB,QC]at q0 q1 q2 q3 q4 q5 q6;have q0D:=QH (cY.out.turn H HC (HBU.out.mono fun j hj=>.inr hj));have q0E:Hid (Ke B (fun j=>X j∨j=w.heap.size) w0 ((W4.setCell ⟨TB,0,none⟩ (.int .u64 y1)).setCell ⟨TB,1,none⟩ (.int .u64 y2))):=mH.out.trans (HBU.out.mono fun j hj=>by
   have h1:j=TB:=hj;subst h1;exact⟨Nat.le_trans HM.out HTS.out,fun hx=>absurd (HXL.out j hx) (by have:=HTS.out;omega)⟩)
  have q0F:=QH (lg HL5.out (fun b o e=>HBU.out.block b (HX5.out b o e) (fun hb=>by
   have h1:b=TB:=hb;have h2:=HAT.out b o e;omega)) HBU.out.size)
  have q0G:Hid (∀b o,A1=some ⟨b,o,none⟩→b<((W4.setCell ⟨TB,0,none⟩ (.int .u64 y1)).setCell ⟨TB,1,none⟩ (.int .u64 y2)).heap.size):=fun b o e=>Nat.lt_of_lt_of_le (HX5.out b o e) HBU.out.size;clear cY mH HL5 HX5 HBU qdD hlk;have cY:=QH q0D.out;have mH:=QH q0E.out;have HL5:=QH q0F.out;have HX5:=QH q0G.out;clear q0D q0E q0F q0G;go_wp2_with fail;refine(wa HC cY.out (Nat.le_trans HM.out mH.out.size) (fun o1 o2 ho hx=>by
   have h5:=H.stage ⟨qB s.m,(1,next),1,1⟩ A1 cc1 [(n8,gI a)] (bj.out ▸ ho) HJ.out HF.out HR.out ⟨HGL.out,HGN.out,by unfold yU;dsimp only;omega,by unfold yU;dsimp only;omega⟩ HL5.out (by simp) (fun b o e=>⟨fun hh=>(hx b (.inl hh)).2 (.inl (.inr ⟨o,e⟩)),fun hh=>(hx b (.inr hh)).2 (.inl (.inr ⟨o,e⟩))⟩);unfold tkV at h5;dsimp only at h5;rw[HY1.out,HY2.out]at h5;exact h5)).mono ?_
  rintro e W6 ⟨r,d',m',l',rfl,hv6,uO,hq6⟩;have cq:=QH hv6;have HK6:=QH (mH.out.trans (uO.mono fun j hj=>.inl (.inl hj)));have HL6:=QH (lg HL5.out (fun b o e=>uO.block (HX5.out b o e) (.inl (.inl (.inr ⟨o,e⟩)))) uO.size);have HQ:=QH hq6;clear hv6 uO hq6 cY mH HL5 q0 q1 q2 q3 q4 q5 q6;go_wp2_with fail;refine(ch.xm 1 next _).mono ?_;rintro e W7 ⟨rfl,ed⟩;have HT7:=QH (cq.out.below H HC ed);have HK7:=QH (HK6.out.trans (Ke.of_below ed));have HL7:=QH (HL6.out.below ed);clear ed cq HK6 HL6;go_wp2_with fail;refine(wb H HT7.out (Nat.le_trans HM.out HK7.out.size) (r:=s.c.add (1,next) [(n8,gI a)]) (fun o3 ho hx=>HC.add (1,next) A1 cc1 [(n8,gI a)] ho HGN.out HL7.out (by simp) (fun b o e hh=>(hx b hh).2 (.inl (.inr ⟨o,e⟩))))).mono ?_;rintro e W8 ⟨rfl,hv8,hk8⟩;have HV:Hid (V3 IV IC W8 B X vp pd p ⟨d',m',(s.c.add (1,next) [(n8,gI a)]).1,l'⟩):=hv8.eL fun j hj=>.inl (.inl (.inl hj));have HKE:Hid (Ke B X w W8):=(Ke.of_below xp.out).trans ((HK7.out.trans (hk8.mono fun j hj=>.inl (.inl hj))).mono fun j hj=>.inl hj);clear hv8 hk8 HT7 HK7;go_wp2_with fail;go_ret2;refine⟨r,d',m',l',?_,?_,HKE.out,?_⟩
  ·rw[mI.out];rfl
  ·rw[mI.out];exact HV.out
  ·rw[tK.out];exact HQ.out
theorem oZ {IV:yK}{IC:ch.cy}(H:yM IV)(HC:ch.Ops IC){B vp pd p N:Nat}{X:Nat→Prop}{w:World}{s:Tri}{t:Tg}(h:V3 IV IC w B X vp pd p s)(hB:B≤w.heap.size)(hlo:s.lost=false)(hJ:JJ N t s.d)(hf:0≤s.d.qp)(hr:qT 8 N t s.m)
    (x:DoP) (next:Nat) (hk:x.k<256) (hn:x.n<256) (hnx:next<18446744073709551616) :
    Calls prog 11 #[.pointer (some ⟨vp,0,none⟩),.pointer (some ⟨p,0,none⟩),.agg (yR x),.int .u64 (next:Int)] w (StP IV IC B X vp pd p N t s x next w):=by
 have h6:x.k%6<6:=Nat.mod_lt _ (by decide);by_cases h0:x.k%6=0∨x.k%6=1
 ·exact qgw H HC h hB hlo hJ hf hr x next hk hn h0
 by_cases h2:x.k%6=2
 ·exact qjR H HC h hB hlo hJ hf hr x next hk hn hnx h2
 by_cases h3:x.k%6=3
 ·exact qjS H HC h hB hlo hJ hf hr x next hk hn hnx h3
 by_cases h4:x.k%6=4
 ·exact qjT H HC h hB hlo hJ hf hr x next hk hn hnx h4
 exact qgx H HC h hB hlo hJ hf hr x next hk hn hnx (by omega)
end Go.Proofs.YtdagdllomphidaaGreatDoor.vt
namespace Go.Proofs.YtdagdllomphidaaGreatDoor.ch
open _root_.Go.Proofs.Tryz Go Go.RowKit ib
theorem gz {w wr:World}(h:Below w.heap.size w wr)(n:Nat):Below w.heap.size w (wr.drewN n):=⟨h.os,h.tape,h.output,h.size,h.block⟩
def okB (r:Bool)(w:World)(e:Ending)(w':World):Prop:=e=.returned (.bool r)∧Below w.heap.size w w'
def q0H {α:Type}(ps qs:List α)(w:World)(i:Value)(wr:World):Prop:=∃k:Nat,k≤ps.length∧i=.int .i64 (k:Int)∧ps.take k=qs.take k∧Below w.heap.size w wr
theorem tU (A A':Option Addr)(c c':Nat)(ps qs:List Bt)(w:World)(hp:TxL w A ps)(hq:TxL w A' qs)(hl:ps.length≤9223372036854775807) :
    Calls prog 47 #[.slice A ps.length c,.slice A' qs.length c'] w (okB (decide (ps=qs)) w):=by
 have HP:=QH hp;have HQ:=QH hq;clear hp hq;by_cases hne:ps.length=qs.length
 ·have HNE:=QH hne;have hlb:((ps.length:Int) != (qs.length:Int))=false:=by rw[hne];simp
  clear hne;go_enter func47,ntmps47;go_wp2_with fail;go_loopw [5] (fun i wr=>q0H ps qs w i wr) (fun i _=>ps.length-(intOf i).toNat);case atStart=>exact⟨0,Nat.zero_le _,rfl,by simp,Below.refl _ _⟩
  case round =>
   obtain⟨k,hk,rfl,he,hb⟩:=hrel;have HE:=QH he;have HB:=QH hb;clear he hb;by_cases hlt:k<ps.length
   ·obtain⟨b,o,rfl,hbl,hc⟩:=HP.out k hlt;have hlq:k<qs.length:=by have:=HNE.out;omega
    obtain⟨b',o',rfl,lh,hc'⟩:=HQ.out k hlq;have h1:ps.take (k+1)=ps.take k++[ps[k]]:=List.take_succ_eq_append_getElem hlt;have h2:qs.take (k+1)=qs.take k++[qs[k]]:=List.take_succ_eq_append_getElem hlq;have hps:ps=qs→ps[k]=qs[k]:=fun h=>by subst h;rfl
    have lC:=QH hps;have H1:=QH h1;have H2:=QH h2;have e0:wr.cell? ⟨b,o+k,none⟩=some (.string (str ps[k])):=by rw[HB.out.cell (p:=⟨b,o+k,none⟩) hbl];exact hc
    have e1:wr.cell? ⟨b',o'+k,none⟩=some (.string (str qs[k])):=by rw[HB.out.cell (p:=⟨b',o'+k,none⟩) lh];exact hc'
    have l0:b<wr.heap.size:=Nat.lt_of_lt_of_le hbl HB.out.size;have l1:b'<wr.heap.size:=Nat.lt_of_lt_of_le lh HB.out.size;have oY:(k:Int)<(ps.length:Int):=by omega
    have zdd:(k:Int)<(qs.length:Int):=by omega
    clear hc hc' h1 h2 hps;generalize ps[k]=x at *;generalize qs[k]=y at *;by_cases hxy:x=y
    ·subst hxy;have hxq:((str x).toList == (str x).toList)=true:=by simp
     go_wp2_with fail;go_quiet (fail);go_wp2_with fail;go_roundw;case rel=>exact⟨k+1,by omega,by go_num,by rw[H1.out,H2.out,HE.out],by first|exact gz HB.out _|exact HB.out⟩
     case measure=>simp[intOf];omega
    ·have hd:decide (ps=qs)=false:=decide_eq_false fun h=>hxy (lC.out h);have hxq:((str x).toList == (str y).toList)=false:=by rw[fN,za];simp[hxy]
     have HD:=QH hd;clear hd;go_wp2_with fail;go_quiet (fail);go_wp2_with fail;go_ret;rw[HD.out];exact⟨rfl,by first|exact gz HB.out _|exact HB.out⟩
   ·have hke:k=ps.length:=by omega
    have hd:decide (ps=qs)=true:=by
     refine decide_eq_true ?_;have h:=HE.out;rw[hke,List.take_length,HNE.out,List.take_length]at h;exact h
    have HD:=QH hd;clear hd;go_wp2_with fail;go_ret;rw[HD.out];exact⟨rfl,HB.out⟩
 ·have hlb:((ps.length:Int) != (qs.length:Int))=true:=by simp;omega
  have hd:decide (ps=qs)=false:=decide_eq_false fun h=>hne (by rw[h]);have HD:=QH hd;clear hd hne;go_enter func47,ntmps47;go_wp2_with fail;go_ret;rw[HD.out];exact⟨rfl,Below.refl _ _⟩
end Go.Proofs.YtdagdllomphidaaGreatDoor.ch
namespace Go.Proofs.YtdagdllomphidaaGreatDoor.ch
open _root_.Go.Proofs.Tryz Go Go.RowKit Go.Sort ib
theorem cd:prog.follows .mixedOrders=true:=by kernel_rfl
def lt (c:UInt8):UInt8:=if c=48 then 0 else c
def tV (s:List UInt8):List Bt:=s.map fun c=>gI (lt c)
def q0I (s:ByteArray)(ts:List Bt)(w:World)(i:Value)(wr:World):Prop:=∃k:Nat,k≤ts.length∧i=.int .i64 (k:Int)∧Below w.heap.size w wr
theorem jo (A:Option Addr)(c:Nat)(ts:List Bt)(s:ByteArray)(w:World)(hT:TxL w A ts)(hl:ts.length≤1000)(he:tV (bl s)=ts) :
    Calls prog 36 #[.slice A ts.length c,.int .i64 0,.string s] w fun e w'=>e=.returned (.bool true)∧Below w.heap.size w w':=by
 have HT:=QH hT;have hlen:ts.length=s.size:=by rw[← he];simp[tV,zk]
 have hlb:((ts.length:Int) != (s.size:Int))=false:=by rw[hlen];simp
 have aM:=QH hlen;have HE:=QH he;clear hT hlen he;go_enter func36,ntmps36;go_wp2_with fail;go_loopw [7] (fun i wr=>q0I s ts w i wr) (fun i _=>ts.length-(intOf i).toNat);case atStart=>exact⟨0,Nat.zero_le _,rfl,Below.refl _ _⟩
 case round =>
  obtain⟨k,hk,rfl,hb⟩:=hrel;have HB:=QH hb;clear hb;by_cases hlt:k<ts.length
  ·have oY:(k:Int)<(ts.length:Int):=by omega
   have hks:k<s.size:=by rw[← aM.out];exact hlt
   have zdg:(k:Int)<(s.size:Int):=by omega
   obtain⟨b,o,rfl,hbl,hc⟩:=HT.out k hlt;have e0:wr.cell? ⟨b,o+k,none⟩=some (.string (str ts[k])):=by rw[HB.out.cell (p:=⟨b,o+k,none⟩) hbl];exact hc
   have l0:b<wr.heap.size:=Nat.lt_of_lt_of_le hbl HB.out.size;have hts:ts[k]=gI (lt s[k]):=by
    have h1:ts[k]?=some (gI (lt s[k])):=by
     rw[← HE.out];unfold tV;rw[List.getElem?_map,show(bl s)[k]?=some s[k]from by rw[List.getElem?_eq_getElem (by rw[zk];exact hks)];rfl];rfl
    rw[List.getElem?_eq_getElem hlt]at h1;exact Option.some.inj h1
   obtain⟨S,hS⟩:=QE (str ts[k]);rw[hS]at e0;rw[hts]at hS;have HS:=QH hS;clear hc hts hS;have hch:∃ch,s[k]=ch:=⟨_,rfl⟩;have hq:(S.toList != S.toList)=false:=by simp
   have cR:∀d os,(grow (redrawn wr d) os).cell? ⟨b,o+k,none⟩=some (.string S):=fun d os=>cell_regrown e0 d os;have cD:∀d os,Calls prog 18 #[.int .u8 ((lt s[k]).toNat:Int)] (grow (redrawn wr d) os) fun e w''=>e=.returned (.string S)∧∃p:Regrown,w''=grow (redrawn wr p.d) p.os :=
    fun d os=>Calls.regrown_of (by have:=aa (lt s[k]) (grow (redrawn wr d) os);rw[← HS.out];exact this)
   clear hch;by_cases hz:s[k]=48
   ·rw[hz]at cD;have cD:∀d os,Calls prog 18 #[.int .u8 0] (grow (redrawn wr d) os) fun e w''=>e=.returned (.string S)∧∃p:Regrown,w''=grow (redrawn wr p.d) p.os:=cD;have hzb:((s[k].toNat:Int) == 48)=true:=by rw[hz];rfl
    clear hz;go_wp2_with fail;refine wp_region_quiet_below cd (by kernel_rfl) ?_;repeat (any_goals (first|go_big_quiet_step (exact cD _ _)|quiet_step (exact cD _ _)))
    refine wpQuiet_nil ?_;intro _ hw';obtain⟨⟨dq,osq⟩,hw''⟩:=hw';subst hw'';have qy:=QH (qc HB.out (below_regrown wr dq osq));go_wp2_with fail;go_roundw;case rel=>exact⟨k+1,by omega,by go_num,qy.out⟩
    case measure=>simp[intOf];omega
   ·have hlt2:lt s[k]=s[k]:=by unfold lt;rw[if_neg hz]
    rw[hlt2]at cD;have hzb:((s[k].toNat:Int) == 48)=false:=by
     rw[beq_eq_false_iff_ne];intro e;exact hz (UInt8.toNat_inj.1 (by show s[k].toNat=48;omega))
    go_wp2_with fail;refine wp_region_quiet_below cd (by kernel_rfl) ?_;repeat (any_goals (first|go_big_quiet_step (exact cD _ _)|quiet_step (exact cD _ _)))
    refine wpQuiet_nil ?_;intro _ hw';obtain⟨⟨dq,osq⟩,hw''⟩:=hw';subst hw'';have qy:=QH (qc HB.out (below_regrown wr dq osq));go_wp2_with fail;go_roundw;case rel=>exact⟨k+1,by omega,by go_num,qy.out⟩
    case measure=>simp[intOf];omega
  ·have oY:¬ (k:Int)<(ts.length:Int):=by omega
   go_wp2_with fail;go_ret;exact⟨rfl,HB.out⟩
end Go.Proofs.YtdagdllomphidaaGreatDoor.ch
namespace Go.Proofs.YtdagdllomphidaaGreatDoor.vt
open _root_.Go.Proofs.Tryz Go Go.RowKit ib
@[go_sem] theorem qrD (a b c d:Int) (w:World):(Op.equalIn 10000 55 (.agg #[.int .u64 a,.int .u64 b]) (.agg #[.int .u64 c,.int .u64 d])).run prog w=.ok (a == c&&b == d) w:=by
 have u3:=underlying35;have a3:=isAgg35;have z3:=sizeOf35;rw[show(10000:Nat)=9999+1 from rfl,run_equalIn_agg w 9999 55 _ _ (by kernel_rfl) (by kernel_rfl)];simp only[Program.fieldsOf,underlying55];go_simp;by_cases h1:a=c <;> by_cases h2:b=d <;> simp[h1,h2]
@[go_sem] theorem q5T (a c:Int) (b d:ByteArray) (w:World):(Op.equalIn 10000 62 (.agg #[.int .i64 a,.string b]) (.agg #[.int .i64 c,.string d])).run prog w=.ok (a == c&&b.toList == d.toList) w:=by
 have u3:=underlying3;have a3:=isAgg3;have z3:=sizeOf3;have u4:=underlying9;have a4:=isAgg9;have z4:=sizeOf9;rw[show(10000:Nat)=9999+1 from rfl,run_equalIn_agg w 9999 62 _ _ (by kernel_rfl) (by kernel_rfl)];simp only[Program.fieldsOf,underlying62];go_simp;by_cases h1:a=c <;> by_cases h2:b.toList=d.toList <;> simp[h1,h2]
theorem qnf(x y:Nat × Nat):((x.1:Int) == (y.1:Int)&&(x.2:Int) == (y.2:Int))=decide (x=y):=by
 obtain⟨a,b⟩:=x;obtain⟨c,d⟩:=y;rw[Bool.eq_iff_iff];simp;omega
theorem qvM(x y:Int × Bt):(x.1 == y.1&&(str x.2).toList == (str y.2).toList)=decide (x=y):=by
 obtain⟨a,b⟩:=x;obtain⟨c,d⟩:=y;rw[fN,za,Bool.eq_iff_iff];simp
end Go.Proofs.YtdagdllomphidaaGreatDoor.vt
namespace Go.Proofs.YtdagdllomphidaaGreatDoor.vt
open _root_.Go.Proofs.Tryz Go Go.RowKit Go.Sort ib jr mt im sp
def qsZ (n:Nat)(w:World)(i:Value)(wr:World):Prop:=∃k:Nat,k≤n∧i=.int .i64 (k:Int)∧Below w.heap.size w wr
def AsP (s c:ch.CH)(w:World)(e:Ending)(w':World):Prop:=∃b,e=.returned (.bool b)∧(s=c→b=true)∧Below w.heap.size w w'
theorem qdE(c:ch.CH)(k:Nat)(h:k<c.list.length):(c.changes (k:Int)).2=0:=by
 unfold ch.CH.list at h;rw[List.length_map]at h;unfold ch.CH.changes;rw[if_neg (by omega)]
theorem qru{w:World}{v p:Nat}{s c:ch.CH}(hl:s.list.length≤1000)(wy:s.live.length≤1000)(hrl:∀g,(s.read g).1.length≤1000)(hcl:∀k,(s.changes k).1.length≤1000)
    (HLV:Hid (∀W,Below w.heap.size w W→Calls prog 16 #[.pointer (some ⟨v,0,none⟩)] W (ch.jQ (s.live,0) W)))
    (HLC:Hid (∀W,Below w.heap.size w W→Calls prog 48 #[.pointer (some ⟨p,0,none⟩)] W (ch.qi9 c.live W)))
    (HIV:Hid (∀W,Below w.heap.size w W→Calls prog 22 #[.pointer (some ⟨v,0,none⟩)] W (ch.iF s.list W)))
    (HIC:Hid (∀W,Below w.heap.size w W→Calls prog 49 #[.pointer (some ⟨p,0,none⟩)] W (ch.iF c.list W)))
    (HRV:Hid (∀W g,Below w.heap.size w W→ch.x9 g→Calls prog 32 #[.pointer (some ⟨v,0,none⟩),ch.gv g] W (ch.jQ (s.read g) W)))
    (HRC:Hid (∀W g,Below w.heap.size w W→ch.x9 g→Calls prog 50 #[.pointer (some ⟨p,0,none⟩),ch.gv g] W (ch.jQ (c.read g) W)))
    (HCV:Hid (∀W k,Below w.heap.size w W→ib.yU k→Calls prog 33 #[.pointer (some ⟨v,0,none⟩),.int .i64 k] W (ch.aX (s.changes k) W)))
    (HCC:Hid (∀W k,Below w.heap.size w W→ib.yU k→Calls prog 51 #[.pointer (some ⟨p,0,none⟩),.int .i64 k] W (ch.aX (c.changes k) W))) :
    Calls prog 13 #[.pointer (some ⟨v,0,none⟩),.pointer (some ⟨p,0,none⟩)] w (AsP s c w):=by
 have HRL:=QH hrl;have aO:=QH hcl;clear hrl hcl;go_enter func13,ntmps13;go_wp2_with fail;refine(HLV.out w (Below.refl _ _)).mono ?_;rintro e W1 ⟨A1,cc1,rfl,h1,_,hb1⟩;dsimp only at h1 ⊢;have qP:=QH hb1;have H1:=QH h1;clear h1 hb1;go_wp2_with fail;refine(HLC.out W1 qP.out).mono ?_;rintro e W2 ⟨A2,cc2,rfl,h2,_,hb2⟩;have qy:=QH (qc qP.out hb2);have H2:=QH h2;have H1b:=QH (H1.out.below hb2);clear h2 hb2 H1 qP;go_wp2_with fail;refine(ch.tU A1 A2 cc1 cc2 s.live c.live W2 H1b.out H2.out (by omega)).mono ?_;rintro e W3 ⟨rfl,hb3⟩;have qV:=QH (qc qy.out hb3);clear hb3 H1b H2 qy;by_cases lF:s.live=c.live
 ·rw[decide_eq_true lF];clear lF;go_wp2_with fail;refine(HIV.out W3 qV.out).mono ?_;rintro e W4 ⟨A4,cc4,rfl,h4,_,hb4⟩;have zN:=QH (qc qV.out hb4);have H4:=QH h4;clear h4 hb4 qV;go_wp2_with fail;refine(HIC.out W4 zN.out).mono ?_;rintro e W5 ⟨A5,cc5,rfl,h5,_,hb5⟩;have yZ:=QH (qc zN.out hb5);have H4b:=QH (H4.out.below hb5);have H5:=QH h5;clear h5 hb5 H4 zN;by_cases hlen:s.list.length=c.list.length
  ·have hlb:((s.list.length:Int) != (c.list.length:Int))=false:=by rw[hlen];simp
   go_wp2_with fail;clear hlb;go_loopw [9] (fun i wr=>qsZ s.list.length W5 i wr) (fun i _=>s.list.length-(intOf i).toNat);case atStart=>exact⟨0,Nat.zero_le _,rfl,Below.refl _ _⟩
   case round =>
    obtain⟨k,hk,rfl,hb⟩:=hrel;have HX0:=QH hb;have xp:=QH (qc yZ.out hb);clear hb;by_cases hlt:k<s.list.length
    ·have hlq:k<c.list.length:=by omega
     have jD:(k:Int)<(s.list.length:Int):=by omega
     have hkq:(k:Int)<(c.list.length:Int):=by omega
     obtain⟨b,o,rfl,hbl,g0,g1,hgx⟩:=H4b.out k hlt;obtain⟨b',o',rfl,lh,g2,g3,hgy⟩:=H5.out k hlq;have HXY:Hid (s=c→s.list[k]=c.list[k]):=fun h=>by subst h;rfl
     have hz1:=qdE s k hlt;have hz2:=qdE c k hlq;generalize s.list[k]=x at *;generalize c.list[k]=y at *;obtain⟨r1,e1,hR1⟩:∃r e,s.read x=(r,e):=⟨_,_,rfl⟩;obtain⟨r2,e2,hR2⟩:∃r e,c.read y=(r,e):=⟨_,_,rfl⟩;obtain⟨q1,f1,hQ1⟩:∃r e,s.changes (k:Int)=(r,e):=⟨_,_,rfl⟩;obtain⟨q2,f2,hQ2⟩:∃r e,c.changes (k:Int)=(r,e):=⟨_,_,rfl⟩;rw[hQ1]at hz1;rw[hQ2]at hz2;dsimp only at hz1 hz2;subst hz1;subst hz2;have HSR:Hid (s=c→r1=r2∧e1=e2):=fun h=>by
      have h1:=HXY.out h;subst h;subst h1;rw[hR1]at hR2;exact⟨congrArg Prod.fst hR2,congrArg Prod.snd hR2⟩
     have HSQ:Hid (s=c→q1=q2):=fun h=>by
      subst h;rw[hQ1]at hQ2;exact congrArg Prod.fst hQ2
     have hrn:r1.length≤1000:=by have:=HRL.out x;rw[hR1]at this;exact this
     have hqn:q1.length≤1000:=by have:=aO.out k;rw[hQ1]at this;exact this
     have hkb:ib.yU (k:Int):=by unfold yU;omega
     have hc1:=HRV.out wr x xp.out hgx;rw[hR1]at hc1;have c0:wr.cell? ⟨b,o+k*2,none⟩=some (.int .u64 (x.1:Int)):=by rw[HX0.out.cell (p:=⟨b,o+k*2,none⟩) hbl];exact g0
     have c1:wr.cell? ⟨b,o+k*2+1,none⟩=some (.int .u64 (x.2:Int)):=by rw[HX0.out.cell (p:=⟨b,o+k*2+1,none⟩) hbl];exact g1
     have l0:b<wr.heap.size:=Nat.lt_of_lt_of_le hbl HX0.out.size;have jA:=QH hR2;have HQ1:=QH hQ1;have HQ2:=QH hQ2;clear hR1 hR2 hQ1 hQ2;go_wp2_with fail;refine hc1.mono ?_;clear hc1 c0 c1 l0;rintro e U1 ⟨A10,q0M,rfl,t1,_,b1⟩;dsimp only at t1 ⊢;have HX1:=QH (qc HX0.out b1);have qnZ:=QH (qc xp.out b1);have HT1:=QH t1;clear b1 t1 HX0 xp;have hc2:=HRC.out U1 y qnZ.out hgy;rw[jA.out]at hc2;have c2:U1.cell? ⟨b',o'+k*2,none⟩=some (.int .u64 (y.1:Int)):=by rw[HX1.out.cell (p:=⟨b',o'+k*2,none⟩) lh];exact g2
     have c3:U1.cell? ⟨b',o'+k*2+1,none⟩=some (.int .u64 (y.2:Int)):=by rw[HX1.out.cell (p:=⟨b',o'+k*2+1,none⟩) lh];exact g3
     have l1:b'<U1.heap.size:=Nat.lt_of_lt_of_le lh HX1.out.size;go_wp2_with fail;refine hc2.mono ?_;clear hc2 c2 c3 l1;rintro e U2 ⟨A12,q0N,rfl,t2,_,b2⟩;dsimp only at t2 ⊢;have HX2:=QH (qc HX1.out b2);have qvN:=QH (qc qnZ.out b2);have q0O:=QH (HT1.out.below b2);have dw:=QH t2;clear b2 t2 HX1 qnZ HT1;have hc3:=HCV.out U2 (k:Int) qvN.out hkb;rw[HQ1.out]at hc3;go_wp2_with fail;refine hc3.mono ?_;clear hc3;rintro e U3 ⟨A14,zdm,rfl,t3,_,b3⟩;dsimp only at t3 ⊢;have HX3:=QH (qc HX2.out b3);have qvO:=QH (qc qvN.out b3);have q0P:=QH (q0O.out.below b3);have q0Q:=QH (dw.out.below b3);have gV:=QH t3;clear b3 t3 HX2 qvN q0O dw;have hc4:=HCC.out U3 (k:Int) qvO.out hkb;rw[HQ2.out]at hc4;go_wp2_with fail;refine hc4.mono ?_;clear hc4;rintro e U4 ⟨A16,zdo,rfl,t4,_,b4⟩;dsimp only at t4 ⊢;have HX4:=QH (qc HX3.out b4);have qon:=QH (qc qvO.out b4);have q0R:=QH (q0P.out.below b4);have q0S:=QH (q0Q.out.below b4);have q0T:=QH (gV.out.below b4);have HT4:=QH t4;clear b4 t4 HX3 qvO q0P q0Q gV;have e0:U4.cell? ⟨b,o+k*2,none⟩=some (.int .u64 (x.1:Int)):=by rw[HX4.out.cell (p:=⟨b,o+k*2,none⟩) hbl];exact g0
     have e1':U4.cell? ⟨b,o+k*2+1,none⟩=some (.int .u64 (x.2:Int)):=by rw[HX4.out.cell (p:=⟨b,o+k*2+1,none⟩) hbl];exact g1
     have e2':U4.cell? ⟨b',o'+k*2,none⟩=some (.int .u64 (y.1:Int)):=by rw[HX4.out.cell (p:=⟨b',o'+k*2,none⟩) lh];exact g2
     have e3':U4.cell? ⟨b',o'+k*2+1,none⟩=some (.int .u64 (y.2:Int)):=by rw[HX4.out.cell (p:=⟨b',o'+k*2+1,none⟩) lh];exact g3
     have cT:∀d os,Calls prog 47 #[.slice A10 r1.length q0M,.slice A12 r2.length q0N] (grow (redrawn U4 d) os) fun e w''=>e=.returned (.bool (decide (r1=r2)))∧∃p:Regrown,w''=grow (redrawn U4 p.d) p.os :=
      fun d os=>Calls.regrown_of (ch.tU A10 A12 q0M q0N r1 r2 (grow (redrawn U4 d) os) (q0R.out.below (below_regrown U4 d os)) (q0S.out.below (below_regrown U4 d os)) (by omega))
     have hx:=qnf x y;generalize (x.1:Int)=x1 at *;generalize (x.2:Int)=x2 at *;generalize (y.1:Int)=y1 at *;generalize (y.2:Int)=y2 at *;have k0:∀d os,(grow (redrawn U4 d) os).cell? ⟨b,o+k*2,none⟩=some (.int .u64 x1):=fun d os=>cell_regrown e0 d os;have k1:∀d os,(grow (redrawn U4 d) os).cell? ⟨b,o+k*2+1,none⟩=some (.int .u64 x2):=fun d os=>cell_regrown e1' d os;have k2:∀d os,(grow (redrawn U4 d) os).cell? ⟨b',o'+k*2,none⟩=some (.int .u64 y1):=fun d os=>cell_regrown e2' d os;have k3:∀d os,(grow (redrawn U4 d) os).cell? ⟨b',o'+k*2+1,none⟩=some (.int .u64 y2):=fun d os=>cell_regrown e3' d os;have gV:=QH q0T.out;clear q0R q0S q0T hgx hgy g0 g1 g2 g3 hbl lh hkb jA HQ1 HQ2;have HXE:=QH hx;obtain⟨p1,hp1⟩:=QE (x1 == y1);obtain⟨p2,hp2⟩:=QE (x2 == y2);have HD1:Hid ((p1&&p2)=false→¬ s=c):=fun h h2=>by
      have:=HXE.out;rw[hp1,hp2,h,HXY.out h2]at this;simp at this
     clear hx HXE;by_cases hqq:p1=true∧p2=true
     ·obtain⟨rfl,rfl⟩:=hqq;clear HD1;by_cases hee:e1=e2
      ·subst hee;have q0V:(e1 != e1)=false:=by simp
       by_cases hrr:r1=r2
       ·rw[decide_eq_true hrr]at cT;clear hrr;by_cases q0W:q1.length=q2.length
        ·have hl2:((q1.length:Int) != (q2.length:Int))=false:=by rw[q0W];simp
         go_wp2_with fail;refine wp_region_quiet_below ch.cd (by kernel_rfl) ?_;repeat (any_goals (first|go_big_quiet_step (exact cT _ _)|quiet_step (exact cT _ _)))
         refine wpQuiet_nil ?_;intro _ hw';obtain⟨⟨dq,osq⟩,hw''⟩:=hw';subst hw'';have HBq:=QH (qc qon.out (below_regrown U4 dq osq));have HXq:=QH (qc HX4.out (below_regrown U4 dq osq));have q0X:=QH (gV.out.below (below_regrown U4 dq osq));have q0Y:=QH (HT4.out.below (below_regrown U4 dq osq));clear gV HT4 e0 e1' e2' e3' k0 k1 k2 k3 cT q0V hl2 hp1 hp2;obtain⟨U5,hU5⟩:=QE (grow (redrawn U4 dq) osq);rw[hU5]at HBq HXq q0X q0Y ⊢;clear hU5;go_wp2_with fail;go_loopw [18] (fun i wr=>qsZ q1.length U5 i wr) (fun i _=>q1.length-(intOf i).toNat);case atStart=>exact⟨0,Nat.zero_le _,rfl,Below.refl _ _⟩
         case round =>
          obtain⟨j,hj,rfl,hb⟩:=hrel;have HJ:=QH hb;clear hb;by_cases hjl:j<q1.length
          ·obtain⟨b,o,rfl,hbl,hc,hd,_⟩:=q0X.out j hjl;have hjq:j<q2.length:=by omega
           obtain⟨b',o',rfl,lh,hc',hd',_⟩:=q0Y.out j hjq;have lC:Hid (s=c→q1[j]=q2[j]):=fun h=>by
            have:=HSQ.out h;subst this;rfl
           have e0:wr.cell? ⟨b,o+j*2,none⟩=some (.int .i64 q1[j].1):=by rw[HJ.out.cell (p:=⟨b,o+j*2,none⟩) hbl];exact hc
           have e1:wr.cell? ⟨b',o'+j*2,none⟩=some (.int .i64 q2[j].1):=by rw[HJ.out.cell (p:=⟨b',o'+j*2,none⟩) lh];exact hc'
           have e2:wr.cell? ⟨b,o+j*2+1,none⟩=some (.string (str q1[j].2)):=by rw[HJ.out.cell (p:=⟨b,o+j*2+1,none⟩) hbl];exact hd
           have e3:wr.cell? ⟨b',o'+j*2+1,none⟩=some (.string (str q2[j].2)):=by rw[HJ.out.cell (p:=⟨b',o'+j*2+1,none⟩) lh];exact hd'
           have l0:b<wr.heap.size:=Nat.lt_of_lt_of_le hbl HJ.out.size;have l1:b'<wr.heap.size:=Nat.lt_of_lt_of_le lh HJ.out.size;have qmC:(j:Int)<(q1.length:Int):=by omega
           have zdq:(j:Int)<(q2.length:Int):=by omega
           clear hc hc' hd hd';generalize q1[j]=x at *;generalize q2[j]=y at *;have hx:=qvM x y;generalize x.1=x1 at *;generalize str x.2=x2 at *;generalize y.1=y1 at *;generalize str y.2=y2 at *;have HXE:=QH hx;obtain⟨p1,hp1⟩:=QE (x1 == y1);obtain⟨p2,hp2⟩:=QE (x2.toList == y2.toList);have HD1:Hid ((p1&&p2)=false→¬ s=c):=fun h h2=>by
            have:=HXE.out;rw[hp1,hp2,h,lC.out h2]at this;simp at this
           clear hx HXE;by_cases hqq:p1=true∧p2=true
           ·obtain⟨rfl,rfl⟩:=hqq;clear HD1;go_wp2_with fail;go_quiet (fail);go_wp2_with fail;refine⟨⟨j+1,by omega,by go_num,⟨HJ.out.os,HJ.out.tape,HJ.out.output,HJ.out.size,HJ.out.block⟩⟩,?_⟩;simp[intOf];omega
           ·have hqb:(p1&&p2)=false:=by cases p1 <;> cases p2 <;> simp at hqq ⊢
            have HD:=QH (HD1.out hqb);have hqs:(p1=false)∨(p1=true∧p2=false):=by cases p1 <;> cases p2 <;> simp at hqq ⊢
            clear hqq hqb HD1;rcases hqs with rfl|⟨rfl,rfl⟩;all_goals
             go_wp2_with fail;go_quiet (fail);go_wp2_with fail;go_ret;refine⟨false,rfl,fun h=>absurd h HD.out,?_⟩;have HBJ:=qc HBq.out HJ.out;exact⟨HBJ.os,HBJ.tape,HBJ.output,HBJ.size,HBJ.block⟩
          ·have qmC:¬ (j:Int)<(q1.length:Int):=by omega
           have HXJ:=QH (qc HXq.out HJ.out);go_wp2_with fail;go_roundw;case rel=>exact⟨k+1,by omega,by go_num,HXJ.out⟩
           case measure=>simp[intOf];omega
        ·have hl2:((q1.length:Int) != (q2.length:Int))=true:=by simp;omega
         go_wp2_with fail;refine wp_region_quiet_below ch.cd (by kernel_rfl) ?_;repeat (any_goals (first|go_big_quiet_step (exact cT _ _)|quiet_step (exact cT _ _)))
         refine wpQuiet_nil ?_;intro _ hw';obtain⟨⟨dq,osq⟩,hw''⟩:=hw';subst hw'';have HBq:=QH (qc qon.out (below_regrown U4 dq osq));go_wp2_with fail;go_ret;exact⟨false,rfl,fun h=>absurd (by rw[HSQ.out h]) q0W,HBq.out⟩
       ·rw[decide_eq_false hrr]at cT;go_wp2_with fail;refine wp_region_quiet_below ch.cd (by kernel_rfl) ?_;repeat (any_goals (first|go_big_quiet_step (exact cT _ _)|quiet_step (exact cT _ _)))
        refine wpQuiet_nil ?_;intro _ hw';obtain⟨⟨dq,osq⟩,hw''⟩:=hw';subst hw'';have HBq:=QH (qc qon.out (below_regrown U4 dq osq));go_wp2_with fail;go_ret;exact⟨false,rfl,fun h=>absurd (HSR.out h).1 hrr,HBq.out⟩
      ·have q0V:(e1 != e2)=true:=by simpa using hee
       go_wp2_with fail;refine wp_region_quiet_below ch.cd (by kernel_rfl) ?_;repeat (any_goals (first|go_big_quiet_step (exact cT _ _)|quiet_step (exact cT _ _)))
       refine wpQuiet_nil ?_;intro _ hw';obtain⟨⟨dq,osq⟩,hw''⟩:=hw';subst hw'';have HBq:=QH (qc qon.out (below_regrown U4 dq osq));go_wp2_with fail;go_ret;exact⟨false,rfl,fun h=>absurd (HSR.out h).2 hee,HBq.out⟩
     ·have hqb:(p1&&p2)=false:=by cases p1 <;> cases p2 <;> simp at hqq ⊢
      have HD:=QH (HD1.out hqb);have hqs:(p1=false)∨(p1=true∧p2=false):=by cases p1 <;> cases p2 <;> simp at hqq ⊢
      clear hqq hqb HD1;rcases hqs with rfl|⟨rfl,rfl⟩;all_goals
       go_wp2_with fail;refine wp_region_quiet_below ch.cd (by kernel_rfl) ?_;repeat (any_goals (first|go_big_quiet_step (exact cT _ _)|quiet_step (exact cT _ _)))
       refine wpQuiet_nil ?_;intro _ hw';obtain⟨⟨dq,osq⟩,hw''⟩:=hw';subst hw'';have HBq:=QH (qc qon.out (below_regrown U4 dq osq));go_wp2_with fail;go_ret;exact⟨false,rfl,fun h=>absurd h HD.out,HBq.out⟩
    ·have jD:¬ (k:Int)<(s.list.length:Int):=by omega
     go_wp2_with fail;go_ret;exact⟨true,rfl,fun _=>rfl,xp.out⟩
  ·have hlb:((s.list.length:Int) != (c.list.length:Int))=true:=by simp;omega
   go_wp2_with fail;go_ret;exact⟨false,rfl,fun h=>absurd (by rw[h]) hlen,yZ.out⟩
 ·rw[decide_eq_false lF];go_wp2_with fail;go_ret;exact⟨false,rfl,fun h=>absurd (by rw[h]) lF,qV.out⟩
end Go.Proofs.YtdagdllomphidaaGreatDoor.vt
namespace Go.Proofs.YtdagdllomphidaaGreatDoor.vt
open _root_.Go.Proofs.Tryz Go Go.RowKit ib jr mt im sp
section
variable {b N:Nat} {t:Tg} {m:Mt}
theorem qdF(t:Tg)(m:Mt):(zA t m).list=m.qa.map (·.g):=by
 unfold ch.CH.list zA;rw[List.map_map];rfl
theorem qoo(h:yr b N m){s:ch.Sn}(hs:s∈(zA t m).qa):s.bs.length≤8:=by
 obtain⟨sp,h1,rfl⟩:=List.mem_map.1 hs;show(volume t sp.ql).length≤8;rw[xZ,(h.uj sp h1).1];exact h.b8
theorem qby(h:yr b N m)(g:Gd):((zA t m).read g).1.length≤8:=by
 unfold ch.CH.read;split
 ·simp
 ·split
  ·simp
  ·rename_i s hs;split
   ·simp
   ·exact qoo h (List.mem_of_getElem? hs)
theorem qdG(h:yr b N m)(k:Nat):((zA t m).lK k).length≤8:=by
 unfold ch.CH.lK;split
 ·simp
 ·rename_i s hs;exact qoo h (List.mem_of_getElem? hs)
theorem qdH(h:yr b N m)(k:Int):((zA t m).changes k).1.length≤8:=by
 unfold ch.CH.changes;split
 ·simp
 ·exact Nat.le_trans (Nat.le_trans (List.length_filterMap_le _ _) (by rw[List.length_range];exact Nat.le_refl _)) (qdG h _)
end
theorem qvP{IV:yK}{IC:ch.cy}(H:yM IV)(HC:ch.Ops IC){w:World}{o1 o2 o3:Nat→Prop}{v pd p N b:Nat}{d:DD}{m:Mt}{c:ch.CH}{t:Tg}
    (hv:VP IV w o1 o2 v pd d m false) (hJ:JJ N t d) (hr:qT b N t m) (hc:IC o3 w p c) :
    Calls prog 13 #[.pointer (some ⟨v,0,none⟩),.pointer (some ⟨p,0,none⟩)] w (AsP (zA t m) c w):=by
 have HV:∀W,Below w.heap.size w W→VP IV W o1 o2 v pd d m false:=fun W hb=>hv.keep H (fun j hj=>hb.block j (hv.low H j hj)) hb.size;have HK:∀W,Below w.heap.size w W→IC o3 W p c:=fun W hb=>HC.keep hc (fun j hj=>hb.block j (HC.low hc j hj)) hb.size;refine qru ?_ ?_ (fun g=>Nat.le_trans (qby hr.ok g) (by decide)) (fun k=>Nat.le_trans (qdH hr.ok k) (by decide)) (fun W hb=>H.live (HV W hb) hJ hr) (fun W hb=>HC.live (HK W hb)) (fun W hb=>?_) (fun W hb=>HC.list (HK W hb)) (fun W g hb hg=>H.read g (HV W hb) hJ hr hg) (fun W g hb hg=>HC.read g (HK W hb) hg) (fun W k hb hk=>H.changes k (HV W hb) hJ hr hk) (fun W k hb hk=>HC.changes k (HK W hb) hk)
 ·rw[qdF,List.length_map];exact Nat.le_trans hr.ok.few (by decide)
 ·show(volume t m.live).length≤1000;rw[xZ,hr.ok.live.1];exact Nat.le_trans hr.ok.b8 (by decide)
 ·rw[qdF];exact H.list (HV W hb).is
theorem q1b{IV:yK}{IC:ch.cy}(H:yM IV)(HC:ch.Ops IC){w:World}{B v pd p N b:Nat}{X:Nat→Prop}{s:Tri}{t:Tg}
    (h:V3 IV IC w B X v pd p s) (hlo:s.lost=false) (hJ:JJ N t s.d) (hr:qT b N t s.m) :
    Calls prog 13 #[.pointer (some ⟨v,0,none⟩),.pointer (some ⟨p,0,none⟩)] w (AsP (zA t s.m) s.c w):=by
 obtain⟨o1,o2,o3,h1,h2,_⟩:=h;rw[hlo]at h1;exact qvP H HC h1 hJ hr h2
end Go.Proofs.YtdagdllomphidaaGreatDoor.vt
namespace Go.Proofs.YtdagdllomphidaaGreatDoor.vt
open _root_.Go.Proofs.Tryz Go Go.RowKit ib jr mt im sp
theorem qjU{N:Nat}{t:Tg}{d d':DD}{m m':Mt}{r:Int}{l':Bool}(h:qT 8 N t m)(hj:JJ N t d)(aV:m.tok=zI)(hf:d.qp=0)(x:DoP)(next:Nat)(hn:next<18446744073709551616)(hq:ym N t d m (jH N m x next) r d' m' l') :
    (r=7∧N<377∧d'=d∧m'=m∧l'=false)∨(r=(zU (zA t m) x next).2∧l'=false∧d'.qp=0∧∃t',JJ N t' d'∧qT 8 N t' m'∧m'.tok=zI∧zA t' m'=(zU (zA t m) x next).1):=by
 rcases hq with⟨h0,rfl,rfl,rfl,rfl⟩|⟨h0,rfl,hj',rfl,rfl,hf',_⟩|⟨_,_,_,_,hf',_⟩
 ·rcases qdB h aV x next hn with⟨h7,hN⟩|⟨h1,_,h3⟩
  ·exact .inl ⟨h7,hN,rfl,rfl,rfl⟩
  ·exact .inr ⟨h1,rfl,hf,t,hj,h,aV,(h3 h0).symm⟩
 ·rcases qdB h aV x next hn with⟨h7,_⟩|⟨h1,h2,_⟩
  ·rw[h0]at h7;exact absurd h7 (by decide)
  ·obtain⟨⟨d1,d2,d3⟩,d4⟩:=h2 h0;exact .inr ⟨by rw[← h1,h0],rfl,hf' hf,_,hj',h.next d1 d2,d4,d3⟩
 ·exact absurd hf hf'
def VC (IV:yK)(IC:ch.cy)(N:Nat)(w:World)(B v pd p:Nat)(c:ch.CH):Prop :=
 ∃t d m,V3 IV IC w B (fun _=>False) v pd p ⟨d,m,c,false⟩∧qT 8 N t m∧JJ N t d∧d.qp=0∧m.tok=zI∧zA t m=c
section
variable {IV:yK} {IC:ch.cy} (H:yM IV) (HC:ch.Ops IC) {w w':World} {N B v pd p:Nat} {c:ch.CH}
theorem qop(h:Ke B (fun _=>False) w w')(hB:B≤w.heap.size):Below B w w':=h.below hB
include H HC
theorem VC.below(h:VC IV IC N w B v pd p c)(hb:Below w.heap.size w w'):VC IV IC N w' B v pd p c:=by
 obtain⟨t,d,m,h1,h2⟩:=h;exact⟨t,d,m,h1.below H HC hb,h2⟩
theorem qta(h:VC IV IC N w B v pd p c):Calls prog 13 #[.pointer (some ⟨v,0,none⟩),.pointer (some ⟨p,0,none⟩)] w (tX w):=by
 obtain⟨t,d,m,h1,h2,h3,h4,h5,h6⟩:=h;refine(q1b H HC h1 rfl h3 h2).mono ?_;rintro e w' ⟨b,rfl,hb,hB⟩;rw[hb h6];exact⟨rfl,hB⟩
end
theorem qbz(t:Tg)(b:Nat):zA t (m0 b)=ch.kP b:=by
 unfold zA m0 ch.kP volume ch.vX;rw[List.map_replicate];rfl
theorem qvQ{IV:yK}{IC:ch.cy}(H:yM IV)(HC:ch.Ops IC){w W1 W2:World}{v pd p N:Nat}{t:Tg}{d:DD}{o1 o2 o3:Nat→Prop}
    (hv:VP IV W1 o1 o2 v pd d (m0 8) false) (hj:JJ N t d) (hr:qT 8 N t (m0 8)) (hf:d.qp=0) (ho:∀j,o1 j∨o2 j→w.heap.size≤j)
    (hc:IC o3 W2 p (ch.kP 8)) (hb:Below W1.heap.size W1 W2) (hs:w.heap.size≤W1.heap.size) (hg:gN<w.heap.size) (ho3:∀j,o3 j→W1.heap.size≤j):VC IV IC N W2 w.heap.size v pd p (ch.kP 8):=by
 refine⟨t,d,m0 8,⟨o1,o2,o3,hv.keep H (fun j hj=>hb.block j (hv.low H j hj)) hb.size,hc,fun j hj=>⟨ho j hj,fun h=>?_,fun h=>h⟩,fun j hj=>⟨Nat.le_trans hs (ho3 j hj),fun h=>h⟩,fun j hj=>hj.elim,hg,fun h=>h⟩,hr,hj,hf,rfl,qbz t 8⟩;have h1:=hv.low H j (.inl hj);have h2:=ho3 j h;omega
end Go.Proofs.YtdagdllomphidaaGreatDoor.vt
namespace Go.Proofs.YtdagdllomphidaaGreatDoor.vt
open _root_.Go.Proofs.Tryz Go Go.RowKit ib jr mt im sp
def la:Bt:=gI 97
theorem q1c:gI 0=zb:=by kernel_rfl
def sx:ch.Sn:=⟨(1,1),[la,zz],false⟩
def s12:ch.Sn:=⟨(1,2),[zz,la],false⟩
def Q0 (_:Tg)(m:Mt):Prop:=m=m0 2
def Q1 (t:Tg)(m:Mt):Prop:=zA t m=⟨[la,zz],[]⟩∧∃a:Int,m=⟨[a,0],[],zI⟩
def Q2 (t:Tg)(m:Mt):Prop:=zA t m=⟨[la,zz],[sx]⟩∧∃a:Int,m=⟨[a,0],[⟨(1,1),[a,0],false⟩],zI⟩
def Q3 (t:Tg)(m:Mt):Prop:=zA t m=⟨[zz,zz],[sx]⟩∧∃a y:Int,m=⟨[y,0],[⟨(1,1),[a,0],false⟩],zI⟩
def Q4 (t:Tg)(m:Mt):Prop:=zA t m=⟨[zz,zz],[sx]⟩∧∃a y:Int,m=⟨[y,0],[⟨(1,1),[a,0],false⟩],⟨(1,1),(1,2),1,2,[0,0]⟩⟩
def Q5 (t:Tg)(m:Mt):Prop:=zA t m=⟨[zz,la],[sx,s12]⟩∧m.tok=zI
def Q7 (t:Tg)(m:Mt):Prop:=zA t m=⟨[la,zz],[sx]⟩
section
variable {t:Tg} {d d':DD} {m m':Mt} {r:Int} {l':Bool}
theorem q5W(h:qT 2 250 t m)(_:JJ 250 t d)(hf:d.qp=0)(hQ:Q0 t m)(hq:ym 250 t d m (zn 250 m 0 la) r d' m' l'):Left Q1 0 r d' m' l':=by
 unfold Q0 at hQ;subst hQ;have e:(zA t (m0 2)).write 0 la=(⟨[la,zz],[]⟩,0):=by rw[qbz];kernel_rfl
 obtain⟨h1,h2,a,h3⟩:=qok h (by decide) 0 la (by rw[e]);rw[e]at h2;exact lf h hf h1 h2 (fun t' hs=>⟨hs,a,by rw[h3];rfl⟩) hq
theorem q5X(h:qT 2 250 t m)(_:JJ 250 t d)(hf:d.qp=0)(hQ:Q1 t m)(hq:ym 250 t d m (jP m (1,1)) r d' m' l'):Left Q2 0 r d' m' l':=by
 obtain⟨hs,a,rfl⟩:=hQ;obtain⟨h1,h2,_⟩:=iD h (1,1) ⟨by decide,by decide⟩;have e:(zA t ⟨[a,0],[],zI⟩).snap (1,1)=(⟨[la,zz],[sx]⟩,0):=by rw[hs];kernel_rfl
 rw[e]at h1 h2;exact lf h hf h1 (h2 h1) (fun t' hs=>⟨hs,a,rfl⟩) hq
theorem q5Y(h:qT 2 250 t m)(_:JJ 250 t d)(hf:d.qp=0)(hQ:Q2 t m)(hq:ym 250 t d m (zn 250 m 0 (gI 0)) r d' m' l'):Left Q3 0 r d' m' l':=by
 obtain⟨hs,a,rfl⟩:=hQ;have e:(zA t ⟨[a,0],[⟨(1,1),[a,0],false⟩],zI⟩).write 0 (gI 0)=(⟨[zz,zz],[sx]⟩,0):=by rw[hs];kernel_rfl
 obtain⟨h1,h2,y,h3⟩:=qok h (by simp) 0 (gI 0) (by rw[e]);rw[e]at h2;exact lf h hf h1 h2 (fun t' hs=>⟨hs,a,y,by rw[h3];rfl⟩) hq
theorem q5Z(h:qT 2 250 t m)(_:JJ 250 t d)(hf:d.qp=0)(hQ:Q3 t m)(hq:ym 250 t d m (ze 250 m ⟨(1,1),(1,2),1,2⟩ [(0,gI 0)]) r d' m' l'):Left Q4 0 r d' m' l':=by
 obtain⟨hs,a,y,rfl⟩:=hQ;rw[q1c]at hq;obtain⟨h1,h2,h3⟩:=q07 h (by simp) ⟨(1,1),(1,2),1,2⟩ ⟨by decide,by decide⟩ 0 (by kernel_rfl) (by decide) rfl;rw[hs]at h2;exact lf h hf h1 h2 (fun t' hs=>⟨hs,a,y,by rw[h3];rfl⟩) hq
theorem q6a(h:qT 2 250 t m)(_:JJ 250 t d)(hf:d.qp=0)(hQ:Q4 t m)(hq:ym 250 t d m (ze 250 m ⟨(1,1),(1,2),2,2⟩ [(1,la)]) r d' m' l'):Left Q5 0 r d' m' l':=by
 obtain⟨hs,a,y,rfl⟩:=hQ;obtain⟨h1,h2,h3⟩:=q08 h (by simp) ⟨(1,1),(1,2),2,2⟩ ⟨by decide,by decide⟩ [(1,la)] (by decide) (by kernel_rfl) rfl;have e:jX (volume t (zC ⟨[y,0],[⟨(1,1),[a,0],false⟩],⟨(1,1),(1,2),1,2,[0,0]⟩⟩ ⟨(1,1),(1,2),2,2⟩)) [(1,la)]=[zz,la]:=rfl;rw[e,hs]at h2;exact lf h hf h1 h2 (fun t' hs=>⟨hs,h3⟩) hq
theorem q6b(h:qT 2 250 t m)(hj:JJ 250 t d)(hf:d.qp=0)(hQ:Q5 t m)(hq:ym 250 t d m (ze 250 m ⟨(1,1),(1,3),1,1⟩ []) r d' m' l'):Left Q5 2 r d' m' l':=by
 have hl:qB m=(1,2):=by rw[← oz t,hQ.1];rfl
 have he:zL m.live.length m.qa.length (qB m) ⟨(1,1),(1,3),1,1⟩ []=2:=by
  rw[hl];unfold zL;rw[if_pos (.inl (by decide))]
 have hc:(ze 250 m ⟨(1,1),(1,3),1,1⟩ []).code=2:=by
  unfold ze;rw[if_pos (by rw[he];decide),he]
 have:=qvJ hj h hf hQ (by rw[hc];decide) hq;rw[hc]at this;exact this
theorem q6c(h:qT 2 250 t m)(_:JJ 250 t d)(hf:d.qp=0)(hQ:Q5 t m)(hq:ym 250 t d m (jv m 1) r d' m' l'):Left Q7 0 r d' m' l':=by
 obtain⟨h1,h2,_⟩:=iE h 1;have e:(zA t m).roll 1=(⟨[la,zz],[sx]⟩,0):=by rw[hQ.1];kernel_rfl
 rw[e]at h1 h2;exact lf h hf h1 (h2 h1) (fun t' hs=>hs) hq
end
end Go.Proofs.YtdagdllomphidaaGreatDoor.vt
namespace Go.Proofs.YtdagdllomphidaaGreatDoor.vt
open _root_.Go.Proofs.Tryz Go Go.RowKit ib jr mt im sp
theorem vb1:ch.tV (bl ⟨#[48,48]⟩)=[zz,zz]∧ch.tV (bl ⟨#[97,48]⟩)=[la,zz]∧ch.tV (bl ⟨#[48,97]⟩)=[zz,la]:=by decide +kernel
section
variable {IV:yK} (H:yM IV) {w w':World} {B v pd:Nat} {X:Nat→Prop} {Q Q':Tg→Mt→Prop}
include H
theorem qb0(h:VW IV w B X v pd Q){l:List Bt}(hQ:∀t m,Q t m→(zA t m).live=l):Calls prog 16 #[.pointer (some ⟨v,0,none⟩)] w (ch.jQ (l,0) w):=by
 obtain⟨t,d,m,o1,o2,h1,h2,h3,h4,h5,h6,h7⟩:=h;have:=H.live h1 h5 h4;rw[show volume t m.live=l from hQ t m h7]at this;exact this
theorem qh0(h:VW IV w B X v pd Q)(g:Gd)(hg:x9 g){r:List Bt × Int}(hQ:∀t m,Q t m→(zA t m).read g=r):Calls prog 32 #[.pointer (some ⟨v,0,none⟩),ch.gv g] w (ch.jQ r w):=by
 obtain⟨t,d,m,o1,o2,h1,h2,h3,h4,h5,h6,h7⟩:=h;have:=H.read g h1 h5 h4 hg;rw[hQ t m h7]at this;exact this
theorem qh1(h:VW IV w B X v pd Q){l:List Gd}(hQ:∀t m,Q t m→(zA t m).list=l):Calls prog 22 #[.pointer (some ⟨v,0,none⟩)] w (ch.iF l w):=by
 obtain⟨t,d,m,o1,o2,h1,h2,h3,h4,h5,h6,h7⟩:=h;have:=H.list h1.is;have e:m.qa.map (·.g)=l:=by
  rw[← hQ t m h7];unfold ch.CH.list zA;rw[List.map_map];rfl
 rw[e]at this;exact this
theorem qdI(h:VW IV w B X v pd Q){k:Tk}(hQ:∀t m,Q t m→m.tok=k):Calls prog 25 #[.pointer (some ⟨v,0,none⟩)] w (cG k w):=by
 obtain⟨t,d,m,o1,o2,h1,h2,h3,h4,h5,h6,h7⟩:=h;have:=H.token h1.is;rw[hQ t m h7]at this;exact this
theorem qjV(h:VW IV w B X v pd Q)(hQ:∀t m,Q t m→m.live.length=2):Calls prog 35 #[.pointer (some ⟨v,0,none⟩)] w fun e w'=>e=.returned (.int .i64 2)∧Below w.heap.size w w':=by
 obtain⟨t,d,m,o1,o2,h1,h2,h3,h4,h5,h6,h7⟩:=h;have:=H.blocks h1.is;rw[hQ t m h7]at this;exact this
omit H in
theorem VW.eL(h:VW IV w B X v pd Q){Y:Nat→Prop}(hY:∀j,Y j→X j):VW IV w B Y v pd Q:=by
 obtain⟨t,d,m,o1,o2,h1,h2,h3,h4⟩:=h;exact⟨t,d,m,o1,o2,h1,fun j hj=>⟨(h2 j hj).1,fun hy=>(h2 j hj).2 (hY j hy)⟩,⟨fun j hj=>h3.1 j (hY j hj),fun hy=>h3.2 (hY _ hy)⟩,h4⟩
theorem qdJ(h:VW IV w B X v pd Q)(hB:B≤w.heap.size)(k:Int)(s:Bt)(hk:yU k)(hs:∀t d m r d' m' l',qT 2 250 t m→JJ 250 t d→d.qp=0→Q t m→ym 250 t d m (zn 250 m k s) r d' m' l'→Left Q' 0 r d' m' l') :
    Calls prog 17 #[.pointer (some ⟨v,0,none⟩),.int .i64 k,.string (str s)] w fun e w'=>e=.returned (.int .i64 0)∧VW IV w' B X v pd Q'∧Ke B X w w' :=
 na h hB (P:=fun _ m=>zn 250 m k s) (fun o1 o2 t d m h1 _ hr hj hf _=>H.write k s h1 hj (by omega) hr hk) hs
theorem qrw(h:VW IV w B X v pd Q)(hB:B≤w.heap.size)(g:Gd)(hg:x9 g)(hs:∀t d m r d' m' l',qT 2 250 t m→JJ 250 t d→d.qp=0→Q t m→ym 250 t d m (jP m g) r d' m' l'→Left Q' 0 r d' m' l') :
    Calls prog 30 #[.pointer (some ⟨v,0,none⟩),ch.gv g] w fun e w'=>e=.returned (.int .i64 0)∧VW IV w' B X v pd Q'∧Ke B X w w' :=
 na h hB (P:=fun _ m=>jP m g) (fun o1 o2 t d m h1 _ hr hj hf _=>H.snap g h1 hj (by omega) hr hg) hs
theorem qrx(h:VW IV w B X v pd Q)(hB:B≤w.heap.size)(k:Int)(hk:yU k)(hs:∀t d m r d' m' l',qT 2 250 t m→JJ 250 t d→d.qp=0→Q t m→ym 250 t d m (jv m k) r d' m' l'→Left Q' 0 r d' m' l') :
    Calls prog 34 #[.pointer (some ⟨v,0,none⟩),.int .i64 k] w fun e w'=>e=.returned (.int .i64 0)∧VW IV w' B X v pd Q'∧Ke B X w w' :=
 na h hB (P:=fun _ m=>jv m k) (fun o1 o2 t d m h1 _ hr hj hf _=>H.roll k h1 hj (by omega) hr hk) hs
theorem rr (h:VW IV w B X v pd Q)(hB:B≤w.heap.size)(f:Tf)(hF:TfB f)(A:Option Addr)(c:Nat)(x:List (Int × Bt))(hx:ch.aD w A x)(aw:x.length≤1000)(hA:∀b o,A=some ⟨b,o,none⟩→X b){r0:Int}(hs:∀t d m r d' m' l',qT 2 250 t m→JJ 250 t d→d.qp=0→Q t m→ym 250 t d m (ze 250 m f x) r d' m' l'→Left Q' r0 r d' m' l') :
    Calls prog 24 #[.pointer (some ⟨v,0,none⟩),tkV f none 0 0,.slice A x.length c] w fun e w'=>e=.returned (.int .i64 r0)∧VW IV w' B X v pd Q'∧Ke B X w w' :=
 na h hB (P:=fun _ m=>ze 250 m f x) (fun o1 o2 t d m h1 hX hr hj hf _=>H.stage f A c x h1 hj (by omega) hr hF hx aw (fun b o e=>⟨fun ho=>hX b (.inl ho) (hA b o e),fun ho=>hX b (.inr ho) (hA b o e)⟩)) hs
end
end Go.Proofs.YtdagdllomphidaaGreatDoor.vt
namespace Go.Proofs.YtdagdllomphidaaGreatDoor.vt
open _root_.Go.Proofs.Tryz Go Go.RowKit Go.Sort ib jr mt im sp
theorem qoq{w w':World}{A:Option Addr}{T:Nat}(h:∀j o,A=some ⟨j,o,none⟩→j<w.heap.size∧j≠T)(hb:Below w.heap.size w w'):∀j o,A=some ⟨j,o,none⟩→j<w'.heap.size∧j≠T:=fun j o e=>⟨Nat.lt_of_lt_of_le (h j o e).1 hb.size,(h j o e).2⟩
theorem qjW{B:Nat}{X:Nat→Prop}{w w':World}(h:Ke B X w w')(hB:B≤w.heap.size):Below B w w':=h.below hB
theorem ru {w w':World}{A:Option Addr}{l:List Int}(h:qpR w A l)(hb:Below w.heap.size w w'):qpR w' A l:=fun i hi=>by
 obtain⟨b,o,h1,h2,h3⟩:=h i hi;exact⟨b,o,h1,Nat.lt_of_lt_of_le h2 hb.size,by rw[hb.cell (p:=⟨b,o+i,none⟩) h2];exact h3⟩
def fL (vp TB:Nat)(A:Option Addr)(c:Nat):Nat→Value→World→Prop
 | 0,v,_=>v=.slice A 2 c
 | 1,v,_=>v=.int .i64 0
 | 2,v,_=>v=.bool true
 | 3,v,_=>v=.bool false
 | 4,v,_=>v=.bool false
 | 5,v,_=>v=.pointer (some ⟨TB,2,none⟩)
 | 6,v,_=>v=.agg #[.int .u64 0,.int .u64 0]
 | 7,v,_=>v=.agg #[.int .u64 0,.int .u64 0]
 | 8,v,_=>v=.bool false
 | 9,v,_=>v=.bool false
 | 10,v,_=>v=.bool false
 | 11,v,_=>v=.pointer (some ⟨vp,0,none⟩)
 | 12,v,_=>v=.agg #[.int .u64 1,.int .u64 1]
 | 13,v,_=>v=.agg #[.int .u64 1,.int .u64 3]
 | 14,v,_=>v=.agg #[.int .u64 1,.int .u64 1,.int .u64 1,.int .u64 3,.int .i64 1,.int .i64 1,.slice none 0 0]
 | 15,v,_=>v=.int .i64 2
 | 16,v,_=>v=.bool false
 | 17,v,_=>v=.bool false
 | 18,v,_=>v=.bool false
 | 19,v,_=>v=.pointer (some ⟨vp,0,none⟩)
 | 20,v,_=>v=.int .i64 0
 | 21,v,_=>v=.bool false
 | 22,v,_=>v=.bool false
 | _,_,_=>True
def WkS (IV:yK)(B:Nat)(X:Nat→Prop)(v pd:Nat)(w0:World)(_ b:Bool)(W:World):Prop:=Ke B X w0 W∧VW IV W B X v pd (if b=true then Q7 else Q5)
theorem wk1{IV:yK}(H:yM IV){B v pd:Nat}{X:Nat→Prop}{w0 W:World}(hS:WkS IV B X v pd w0 true false W∨WkS IV B X v pd w0 false false W)(hB:B≤W.heap.size) :
    Calls prog 24 #[.pointer (some ⟨v,0,none⟩),.agg #[.int .u64 1,.int .u64 1,.int .u64 1,.int .u64 3,.int .i64 1,.int .i64 1,.slice none 0 0],.slice none 0 0] W (fun x W'=>x=.returned (.int .i64 2)∧WkS IV B X v pd w0 true false W'):=by
 have h0:Ke B X w0 W∧VW IV W B X v pd Q5:=by
  rcases hS with h|h
  ·exact⟨h.1,h.2⟩
  ·exact⟨h.1,h.2⟩
 refine(rr H h0.2 hB ⟨(1,1),(1,3),1,1⟩ ⟨⟨by decide,by decide⟩,⟨by decide,by decide⟩,by unfold yU;dsimp only;omega,by unfold yU;dsimp only;omega⟩ none 0 [] (ch.aD.nil _ _) (by simp) (fun b o e=>by cases e) (Q':=Q5) (fun _ _ _ _ _ _ _=>q6b)).mono ?_;rintro e W' ⟨rfl,h1,h2⟩;exact⟨rfl,h0.1.trans h2,h1⟩
theorem wk2{IV:yK}(H:yM IV){B v pd:Nat}{X:Nat→Prop}{w0 W:World}(hS:WkS IV B X v pd w0 true false W)(hB:B≤W.heap.size) :
    Calls prog 34 #[.pointer (some ⟨v,0,none⟩),.int .i64 1] W (fun x W'=>x=.returned (.int .i64 0)∧WkS IV B X v pd w0 true true W'):=by
 have h0:Ke B X w0 W∧VW IV W B X v pd Q5:=⟨hS.1,hS.2⟩;refine(qrx H h0.2 hB 1 (by unfold yU;omega) (Q':=Q7) (fun _ _ _ _ _ _ _=>q6c)).mono ?_;rintro e W' ⟨rfl,h1,h2⟩;exact⟨rfl,h0.1.trans h2,h1⟩
theorem qjX{IV:yK}(H:yM IV)(w:World)(ht:xQ w):Calls prog 8 #[] w (tX w):=by
 have wA:=QH ht;clear ht;have q6d:Hid (∀W,Calls prog 18 #[.int .u8 97] W (okS la W)):=fun W=>ch.aa 97 W;have HD0:Hid (∀W,Calls prog 18 #[.int .u8 0] W (okS (gI 0) W)):=fun W=>ch.aa 0 W;have qor:Hid (∀W,Calls prog 23 #[.int .u64 1,.int .u64 1] W fun x w'=>x=.returned (.agg #[.int .u64 1,.int .u64 1])∧Below W.heap.size W w'):=fun W=>ch.xm 1 1 W;have qvR:Hid (∀W,Calls prog 23 #[.int .u64 1,.int .u64 2] W fun x w'=>x=.returned (.agg #[.int .u64 1,.int .u64 2])∧Below W.heap.size W w'):=fun W=>ch.xm 1 2 W;have q6e:Hid (∀W,Calls prog 23 #[.int .u64 1,.int .u64 3] W fun x w'=>x=.returned (.agg #[.int .u64 1,.int .u64 3])∧Below W.heap.size W w'):=fun W=>ch.xm 1 3 W;have q6f:Hid (∀W,Calls prog 23 #[.int .u64 0,.int .u64 0] W fun x w'=>x=.returned (.agg #[.int .u64 0,.int .u64 0])∧Below W.heap.size W w'):=fun W=>ch.xm 0 0 W;go_enter func8,ntmps8;go_wp2_with fail;refine(dk.ux 1000 250 250 (by decide) (by decide) (by decide) (by decide) w).mono ?_;rintro e W1 ⟨pd,o,rfl,hd,hb1,ho⟩;have HD1:=QH hd;have qP:=QH hb1;have HO1:=QH ho;clear hd hb1 ho;go_wp2_with fail;refine(H.qcC 250 250 HD1.out (xE wA.out qP.out (zS wA.out)) (by decide) (by decide)).mono ?_;rintro e W2 ⟨rfl,hb2⟩;have HD2:=QH (HD1.out.keep hb2.size (fun j hj=>hb2.block j (bO HD1.out j hj)));have qy:=QH (qc qP.out hb2);clear hb2 qP HD1;go_wp2_with fail;refine(H.iG 2 250 250 HD2.out (xE wA.out qy.out (zS wA.out)) (fun h=>by have h1:=HO1.out _ h;have h2:=zS wA.out;omega) (by decide) (by decide) (by decide) (by decide) (by decide)).mono ?_;rintro e W3 ⟨rfl,t,d,o',hd3,hj,hr,hf,yC,ho'⟩;have qV:Hid (Below w.heap.size w W3):=qy.out.trans (yC.below (fun j hj=>HO1.out j hj) qy.out.size);have mG:Hid (∀j,o' j→w.heap.size≤j):=fun j hj=>by
  rcases ho' j hj with h|h
  ·exact HO1.out j h
  ·have:=qy.out.size;omega
 clear yC ho' HO1 qy HD2;go_wp2_with fail;refine(H.qaB hd3 (xE wA.out qV.out (zS wA.out)) (fun h=>by have h1:=mG.out _ h;have h2:=zS wA.out;omega) hj.toRJ hf hr).mono ?_;rintro e W4 ⟨v,d',o1,o2,rfl,hv,hj',hf',yC,h1',h2'⟩;have zN:Hid (Below w.heap.size w W4):=qV.out.trans (yC.below (fun j hj=>mG.out j hj) qV.out.size);have HV4:Hid (VW IV W4 w.heap.size (fun _=>False) v pd Q0):=⟨t,d',m0 2,o1,o2,hv,fun j hj=>⟨by
  have hs:=qV.out.size;rcases hj with hj|hj
  ·have:=h1' j hj;omega
  ·rcases h2' j hj with h|h
   ·exact mG.out j h
   ·omega,fun h=>h⟩,⟨fun j hj=>hj.elim,fun h=>h⟩,hr,hj',hf',rfl⟩
 clear hv hd3 hj hj' hr hf hf' yC h1' h2' mG qV;go_wp2_with fail;refine(qjV H HV4.out (by intro t m h;cases h;rfl)).mono ?_;rintro e W5 ⟨rfl,hb⟩;have HV5:=QH (HV4.out.below H hb);have yZ:=QH (qc zN.out hb);clear hb HV4 zN;go_wp2_with fail;refine(qb0 H HV5.out (l:=[zz,zz]) (by intro t m h;cases h;rw[qbz];rfl)).mono ?_;rintro e W6 ⟨A6,c6,rfl,ht,_,hb⟩;have HV6:=QH (HV5.out.below H hb);have vQ:=QH (qc yZ.out hb);dsimp only at ht ⊢;have T1:=QH ht;clear ht;clear hb HV5 yZ;go_wp2_with fail;refine(ch.jo _ _ [zz,zz] _ W6 T1.out (by decide) vb1.1).mono ?_;rintro e W7 ⟨rfl,hb⟩;have HV7:=QH (HV6.out.below H hb);have HB7:=QH (qc vQ.out hb);have T1n:=QH (T1.out.below hb);clear T1;have T1:=QH T1n.out;clear T1n;clear hb HV6 vQ;clear T1;go_wp2_with fail;refine(q6d.out W7).mono ?_;rintro e W8 ⟨rfl,hb⟩;have HV8:=QH (HV7.out.below H hb);have HB8:=QH (qc HB7.out hb);clear hb HV7 HB7;go_wp2_with fail;refine(qdJ H HV8.out HB8.out.size 0 la (by unfold yU;omega) (fun _ _ _ _ _ _ _=>q5W)).mono ?_;rintro e W9 ⟨rfl,hv,hk⟩;have HV9:=QH hv;have HB9:=QH (HB8.out.trans (hk.below HB8.out.size));clear hv hk HV8 HB8;go_wp2_with fail;refine(qor.out W9).mono ?_;rintro e W10 ⟨rfl,hb⟩;have q1e:=QH (HV9.out.below H hb);have qfQ:=QH (qc HB9.out hb);clear hb HV9 HB9;go_wp2_with fail;refine(qrw H q1e.out qfQ.out.size (1,1) ⟨by decide,by decide⟩ (fun _ _ _ _ _ _ _=>q5X)).mono ?_;rintro e W11 ⟨rfl,hv,hk⟩;have q1f:=QH hv;have qfR:=QH (qfQ.out.trans (hk.below qfQ.out.size));clear hv hk q1e qfQ;go_wp2_with fail;refine(HD0.out W11).mono ?_;rintro e W12 ⟨rfl,hb⟩;have q1g:=QH (q1f.out.below H hb);have qrz:=QH (qc qfR.out hb);clear hb q1f qfR;go_wp2_with fail;refine(qdJ H q1g.out qrz.out.size 0 (gI 0) (by unfold yU;omega) (fun _ _ _ _ _ _ _=>q5Y)).mono ?_;rintro e W13 ⟨rfl,hv,hk⟩;have q1h:=QH hv;have q1i:=QH (qrz.out.trans (hk.below qrz.out.size));clear hv hk q1g qrz;go_wp2_with fail;refine(qor.out W13).mono ?_;rintro e W14 ⟨rfl,hb⟩;have qvS:=QH (q1h.out.below H hb);have q1j:=QH (qc q1i.out hb);clear hb q1h q1i;go_wp2_with fail;refine(qh0 H qvS.out (1,1) ⟨by decide,by decide⟩ (r:=([la,zz],0)) (by intro t m h;rw[h.1];rfl)).mono ?_;rintro e W15 ⟨A15,c15,rfl,ht,_,hb⟩;have qvT:=QH (qvS.out.below H hb);have qnB:=QH (qc q1j.out hb);dsimp only at ht ⊢;have T1:=QH ht;clear ht;clear hb qvS q1j;go_wp2_with fail;refine(qb0 H qvT.out (l:=[zz,zz]) (by intro t m h;rw[h.1])).mono ?_;rintro e W16 ⟨A16,c16,rfl,ht,_,hb⟩;have q1k:=QH (qvT.out.below H hb);have q1l:=QH (qc qnB.out hb);have T1n:=QH (T1.out.below hb);clear T1;have T1:=QH T1n.out;clear T1n;dsimp only at ht ⊢;have T2:=QH ht;clear ht;clear hb qvT qnB;go_wp2_with fail;refine(ch.jo _ _ [la,zz] _ W16 T1.out (by decide) vb1.2.1).mono ?_;rintro e W17 ⟨rfl,hb⟩;have q1m:=QH (q1k.out.below H hb);have q1n:=QH (qc q1l.out hb);have T1n:=QH (T1.out.below hb);clear T1;have T1:=QH T1n.out;clear T1n;have T2n:=QH (T2.out.below hb);clear T2;have T2:=QH T2n.out;clear T2n;clear hb q1k q1l;clear T1;go_wp2_with fail;refine(ch.jo _ _ [zz,zz] _ W17 T2.out (by decide) vb1.1).mono ?_;rintro e W18 ⟨rfl,hb⟩;have q1p:=QH (q1m.out.below H hb);have qj5:=QH (qc q1n.out hb);have T2n:=QH (T2.out.below hb);clear T2;have T2:=QH T2n.out;clear T2n;clear hb q1m q1n;clear T2;go_wp2_with fail;refine(qor.out W18).mono ?_;rintro e W19 ⟨rfl,hb⟩;have q1q:=QH (q1p.out.below H hb);have q1r:=QH (qc qj5.out hb);clear hb q1p qj5;go_wp2_with fail;refine(qvR.out W19).mono ?_;rintro e W20 ⟨rfl,hb⟩;have q1s:=QH (q1q.out.below H hb);have q1t:=QH (qc q1r.out hb);clear hb q1q q1r;go_wp2_with fail;have HBP:=QH ((Below.refl W20.heap.size W20).alloc (Nat.le_refl _) (.cells #[.int .i64 0,.int .u8 0] 73));have HPT:Hid (ch.PtL (W20.alloc (.cells #[.int .i64 0,.int .u8 0] 73)) (some ⟨W20.heap.size,0,none⟩) [((0:Int),(0:UInt8))]):=ch.qbv W20 0 0 (by unfold yU;omega);have iV:=QH (ch.kF (some ⟨W20.heap.size,0,none⟩) 1 [((0:Int),(0:UInt8))] _ HPT.out (by simp));have HCO:ch.aP [((0:Int),(0:UInt8))]=[((0:Int),gI 0)]:=rfl;rw[HCO]at iV;obtain⟨S21,qvV⟩:=QE (gI 0);rw[qvV]at iV;have q6h:=QH qvV;clear HCO qvV;refine iV.out.mono ?_;rintro e W21 ⟨v1,rfl,ho1,hb1⟩;obtain⟨A21,c21,hv1,hl1,fh⟩:=ho1.qda (by intro y hy;simp at hy;subst hy;unfold yU;dsimp only;omega);subst hv1;have q1u:Hid (ch.aD W21 A21 [((0:Int),S21)]):=hl1;have yD:=QH (qc HBP.out hb1);have q1v:Hid (VW IV W21 w.heap.size (fun j=>(fun _=>False) j∨∃o,A21=some ⟨j,o,none⟩) v pd _):=q1s.out.more H yD.out (fun j hj=>by
  rcases hj with hj|⟨o,hj⟩
  ·exact .inl hj
  ·exact .inr ⟨Nat.le_trans HBP.out.size (fh j o hj).1,(fh j o hj).2⟩)
 have qr0:=QH (qc q1t.out yD.out);clear ho1 hl1 fh hb1 yD HBP HPT iV q1s q1t;go_wp2_with fail;refine(rr H q1v.out qr0.out.size ⟨(1,1),(1,2),1,2⟩ ⟨⟨by decide,by decide⟩,⟨by decide,by decide⟩,by unfold yU;dsimp only;omega,by unfold yU;dsimp only;omega⟩ A21 c21 [((0:Int),S21)] q1u.out (by simp) (fun b o e=>.inr ⟨o,e⟩) (fun _ _ _ _ _ _ _=>by rw[← q6h.out];exact q5Z)).mono ?_;rintro e W22 ⟨rfl,hv,hk⟩;have qjY:=QH hv;have q1w:=QH (qr0.out.trans (hk.below qr0.out.size));clear hv hk q1v qr0;have qtb:=QH (qjY.out.eL (Y:=(fun _=>False)) (fun j hj=>.inl hj));clear qjY q1u;have qjY:=QH qtb.out;clear qtb;go_wp2_with fail;refine(qdI H qjY.out (k:=⟨(1,1),(1,2),1,2,[0,0]⟩) (by rintro t m ⟨_,a,y,rfl⟩;rfl)).mono ?_;rintro e W23 ⟨A23,c23,rfl,hi,_,hb⟩;have q1x:=QH (qjY.out.below H hb);have qvX:=QH (qc q1w.out hb);have HI:=QH hi;clear hi;unfold tkV tf;dsimp only[List.length_cons,List.length_nil,Nat.reduceAdd,Nat.zero_add];clear hb qjY q1w;go_wp2_with fail;have kh:=QH (qf.new W23 59 #[.int .u64 1,.int .u64 1,.int .u64 1,.int .u64 2,.int .i64 1,.int .i64 2,.slice A23 2 c23]);have HBT:=QH ((Below.refl W23.heap.size W23).alloc (Nat.le_refl _) (.cells #[.int .u64 1,.int .u64 1,.int .u64 1,.int .u64 2,.int .i64 1,.int .i64 2,.slice A23 2 c23] 59));have qou:Hid (VW IV (W23.alloc (.cells #[.int .u64 1,.int .u64 1,.int .u64 1,.int .u64 2,.int .i64 1,.int .i64 2,.slice A23 2 c23] 59)) w.heap.size (fun j=>j=W23.heap.size) v pd Q4):=q1x.out.more H HBT.out (fun j hj=>.inr ⟨by rw[hj];exact Nat.le_refl _,by rw[hj];simp⟩);have qvY:=QH (qc qvX.out HBT.out);have HIn:=QH (ru HI.out HBT.out);obtain⟨W24,q1y⟩:=QE (W23.alloc (.cells #[.int .u64 1,.int .u64 1,.int .u64 1,.int .u64 2,.int .i64 1,.int .i64 2,.slice A23 2 c23] 59));rw[q1y]at kh HBT qou qvY HIn ⊢;obtain⟨TB,hTB⟩:=QE W23.heap.size;rw[hTB]at kh qou ⊢;have sL:Hid (TB<W24.heap.size):=kh.out.lt;have HTG:Hid (w.heap.size≤TB):=by rw[← hTB];exact qvX.out.size
 clear q1y hTB HBT HI q1x qvX;have HI:=QH HIn.out;clear HIn;go_wp2_with fail;refine(qh1 H qou.out (l:=[(1,1)]) (by rintro t m ⟨h,_⟩;rw[h];rfl)).mono ?_;rintro e W25 ⟨A25,c25,rfl,_,_,hb⟩;have q1z:=QH (qou.out.below H hb);have q10:=QH (qc qvY.out hb);have kG:=QH (kh.out.below hb);clear kh;have kh:=QH kG.out;clear kG;have HIn:=QH (ru HI.out hb);clear HI;have HI:=QH HIn.out;clear HIn;clear hb qou qvY;obtain⟨bi,oi,hAi,li,i0⟩:=HI.out 0 (by decide);obtain⟨bi2,oi2,q6j,li2,i1⟩:=HI.out 1 (by decide);subst hAi;cases q6j;simp only[Nat.add_zero,List.getElem_cons_zero,List.getElem_cons_succ]at i0 i1;have qvZ:=kh.out.lt;have cz2:=kh.out.cell 2;have cz3:=kh.out.cell 3;have cz4:=kh.out.cell 4;have cz5:=kh.out.cell 5;have cz6:=kh.out.cell 6;simp only[QA,QB,QC]at cz2 cz3 cz4 cz5 cz6;dsimp only[List.length_cons,List.length_nil,Nat.reduceAdd,Nat.zero_add];go_wp2_with fail;refine(qor.out W25).mono ?_;rintro e W26 ⟨rfl,hb⟩;have q16:=QH (q1z.out.below H hb);have q17:=QH (qc q10.out hb);have kG:=QH (kh.out.below hb);clear kh;have kh:=QH kG.out;clear kG;clear hb q1z q10;clear i0 i1 li li2 cz2 cz3 cz4 cz5 cz6 qvZ HI;go_wp2_with fail;refine(qvR.out W26).mono ?_;rintro e W27 ⟨rfl,hb⟩;have q18:=QH (q16.out.below H hb);have q19:=QH (qc q17.out hb);have kG:=QH (kh.out.below hb);clear kh;have kh:=QH kG.out;clear kG;clear hb q16 q17;go_wp2_with fail;have HBP:=QH ((Below.refl W27.heap.size W27).alloc (Nat.le_refl _) (.cells #[.int .i64 1,.int .u8 97] 73));have HPT:Hid (ch.PtL (W27.alloc (.cells #[.int .i64 1,.int .u8 97] 73)) (some ⟨W27.heap.size,0,none⟩) [((1:Int),(97:UInt8))]):=ch.qbv W27 1 97 (by unfold yU;omega);have iV:=QH (ch.kF (some ⟨W27.heap.size,0,none⟩) 1 [((1:Int),(97:UInt8))] _ HPT.out (by simp));have HCO:ch.aP [((1:Int),(97:UInt8))]=[((1:Int),la)]:=rfl;rw[HCO]at iV;obtain⟨S28,qwa⟩:=QE la;rw[qwa]at iV;have q6k:=QH qwa;clear HCO qwa;refine iV.out.mono ?_;rintro e W28 ⟨v1,rfl,ho1,hb1⟩;obtain⟨A28,c28,hv1,hl1,fh⟩:=ho1.qda (by intro y hy;simp at hy;subst hy;unfold yU;dsimp only;omega);subst hv1;have q1A:Hid (ch.aD W28 A28 [((1:Int),S28)]):=hl1;have yD:=QH (qc HBP.out hb1);have q1B:Hid (VW IV W28 w.heap.size (fun j=>(fun j=>j=TB) j∨∃o,A28=some ⟨j,o,none⟩) v pd _):=q18.out.more H yD.out (fun j hj=>by
  rcases hj with hj|⟨o,hj⟩
  ·exact .inl hj
  ·exact .inr ⟨Nat.le_trans HBP.out.size (fh j o hj).1,(fh j o hj).2⟩)
 have qr1:=QH (qc q19.out yD.out);have kG:=QH (kh.out.below yD.out);clear kh;have kh:=QH kG.out;clear kG;clear ho1 hl1 fh hb1 yD HBP HPT iV q18 q19;go_wp2_with fail;refine(rr H q1B.out qr1.out.size ⟨(1,1),(1,2),2,2⟩ ⟨⟨by decide,by decide⟩,⟨by decide,by decide⟩,by unfold yU;dsimp only;omega,by unfold yU;dsimp only;omega⟩ A28 c28 [((1:Int),S28)] q1A.out (by simp) (fun b o e=>.inr ⟨o,e⟩) (fun _ _ _ _ _ _ _=>by rw[← q6k.out];exact q6a)).mono ?_;rintro e W29 ⟨rfl,hv,hk⟩;have qjZ:=QH hv;have q1C:=QH (qr1.out.trans (hk.below qr1.out.size));have kG:=QH (kh.out.of_block (hk.block kh.out.lt (.inl (.inl rfl))));clear kh;have kh:=QH kG.out;clear kG;clear hv hk q1B qr1;have qtc:=QH (qjZ.out.eL (Y:=(fun j=>j=TB)) (fun j hj=>.inl hj));clear qjZ q1A;have qjZ:=QH qtc.out;clear qtc;go_wp2_with fail;refine(qh1 H qjZ.out (l:=[(1,1),(1,2)]) (by rintro t m ⟨h,_⟩;rw[h];rfl)).mono ?_;rintro e W30 ⟨A30,c30,rfl,_,_,hb⟩;have q1D:=QH (qjZ.out.below H hb);have q1E:=QH (qc q1C.out hb);have kG:=QH (kh.out.below hb);clear kh;have kh:=QH kG.out;clear kG;clear hb qjZ q1C;dsimp only[List.length_cons,List.length_nil,Nat.reduceAdd,Nat.zero_add];go_wp2_with fail;refine(qvR.out W30).mono ?_;rintro e W31 ⟨rfl,hb⟩;have qwb:=QH (q1D.out.below H hb);have q1F:=QH (qc q1E.out hb);have kG:=QH (kh.out.below hb);clear kh;have kh:=QH kG.out;clear kG;clear hb q1D q1E;have HTP:=QH kh.out.lt;go_wp2_with fail;refine(qh0 H qwb.out (1,2) ⟨by decide,by decide⟩ (r:=([zz,la],0)) (by rintro t m ⟨h,_⟩;rw[h];rfl)).mono ?_;rintro e W32 ⟨AX,cX,rfl,ht,hna,hb⟩;dsimp only at ht ⊢;have T1:=QH ht;have kG:=QH (kh.out.below hb);clear kh;have kh:=QH kG.out;clear kG;have qwc:Hid (VW IV W32 w.heap.size (fun j=>j=TB∨∃o,AX=some ⟨j,o,none⟩) v pd Q5):=qwb.out.more H hb (fun j hj=>by
  rcases hj with hj|⟨o,hj⟩
  ·exact .inl hj
  ·exact .inr (hna j o hj))
 have HNA:Hid (∀j o,AX=some ⟨j,o,none⟩→j<W32.heap.size∧j≠TB):=fun j o e=>⟨(hna j o e).2,fun h=>by
  have h1:=(hna j o e).1;have h2:=HTP.out;omega⟩
 have q1G:=QH (qc q1F.out hb);clear ht hna hb qwb q1F;go_wp2_with fail;refine(qdI H qwc.out (k:=zI) (fun _ _ h=>h.2)).mono ?_;rintro e W33 ⟨AK,cK,rfl,_,_,hb⟩;have q1H:=QH (qwc.out.below H hb);have qwd:=QH (qc q1G.out hb);have kG:=QH (kh.out.below hb);clear kh;have kh:=QH kG.out;clear kG;have T1n:=QH (T1.out.below hb);clear T1;have T1:=QH T1n.out;clear T1n;have q1I:=QH (qoq HNA.out hb);clear HNA;have HNA:=QH q1I.out;clear q1I;unfold tkV tf zI;dsimp only[List.length_cons,List.length_nil,Nat.reduceAdd,Nat.zero_add];clear hb qwc q1G;have qvZ:=kh.out.lt;have fz0:=kh.out.frozen 0;have fz1:=kh.out.frozen 1;have fz2:=kh.out.frozen 2;have fz3:=kh.out.frozen 3;have fz4:=kh.out.frozen 4;have fz5:=kh.out.frozen 5;have fz6:=kh.out.frozen 6;have cz0:=kh.out.cell 0;have cz1:=kh.out.cell 1;have cz2:=kh.out.cell 2;have cz3:=kh.out.cell 3;have cz4:=kh.out.cell 4;have cz5:=kh.out.cell 5;have cz6:=kh.out.cell 6;simp only[QA,QB,QC]at cz0 cz1 cz2 cz3 cz4 cz5 cz6;have jR:=QH (((((((kh.out.qo 0 (.int .u64 0)).qo 1 (.int .u64 0)).qo 2 (.int .u64 0)).qo 3 (.int .u64 0)).qo 4 (.int .i64 0)).qo 5 (.int .i64 0)).qo 6 (.slice AK 0 cK));have HBu:Hid (qx (fun j=>j=TB) W33 (((((((W33.setCell ⟨TB,0,none⟩ (.int .u64 0)).setCell ⟨TB,1,none⟩ (.int .u64 0)).setCell ⟨TB,2,none⟩ (.int .u64 0)).setCell ⟨TB,3,none⟩ (.int .u64 0)).setCell ⟨TB,4,none⟩ (.int .i64 0)).setCell ⟨TB,5,none⟩ (.int .i64 0)).setCell ⟨TB,6,none⟩ (.slice AK 0 cK))):=((((((((((((((qx.refl (fun j=>j=TB) W33).setCell ⟨TB,0,none⟩ (.int .u64 0) (.inl rfl))).setCell ⟨TB,1,none⟩ (.int .u64 0) (.inl rfl))).setCell ⟨TB,2,none⟩ (.int .u64 0) (.inl rfl))).setCell ⟨TB,3,none⟩ (.int .u64 0) (.inl rfl))).setCell ⟨TB,4,none⟩ (.int .i64 0) (.inl rfl))).setCell ⟨TB,5,none⟩ (.int .i64 0) (.inl rfl))).setCell ⟨TB,6,none⟩ (.slice AK 0 cK) (.inl rfl));go_wp2_with fail;clear fz0 cz0 fz1 cz1 fz2 cz2 fz3 cz3 fz4 cz4 fz5 cz5 fz6 cz6 qvZ;obtain⟨W34,q1J⟩:=QE ((((((((W33.setCell ⟨TB,0,none⟩ (.int .u64 0)).setCell ⟨TB,1,none⟩ (.int .u64 0)).setCell ⟨TB,2,none⟩ (.int .u64 0)).setCell ⟨TB,3,none⟩ (.int .u64 0)).setCell ⟨TB,4,none⟩ (.int .i64 0)).setCell ⟨TB,5,none⟩ (.int .i64 0)).setCell ⟨TB,6,none⟩ (.slice AK 0 cK)):World);rw[q1J]at jR HBu ⊢;have q1K:=QH (q1H.out.turn H (HBu.out.mono fun j hj=>.inl hj));have qov:Hid (Below w.heap.size w W34):=qwd.out.trans (HBu.out.below (fun j hj=>by rw[hj];exact HTG.out) qwd.out.size);have T2:Hid (TxL W34 AX [zz,la]):=T1.out.kept HBu.out.size (fun b o e=>HBu.out.block b (HNA.out b o e).1 (HNA.out b o e).2);have HNB:Hid (∀j o,AX=some ⟨j,o,none⟩→j<W34.heap.size):=fun j o e=>Nat.lt_of_lt_of_le (HNA.out j o e).1 HBu.out.size;have hlt2:=jR.out.lt;clear q1J kh T1 HNA q1H qwd HBu;have rz:Hid (WkS IV w.heap.size (fun j=>j=TB∨∃o,AX=some ⟨j,o,none⟩) v pd W34 false false W34.drew):=⟨Ke.of_below (gz (Below.refl _ _) 1),q1K.out.below H (gz (Below.refl _ _) 1)⟩;refine yX (by kernel_rfl) [158,159,160,161,162,163,164,165,166,167,168,169,170,171,172,173,174,175,176,177,178,179,180] (by kernel_rfl) (fun L vs W=>WkS IV w.heap.size (fun j=>j=TB∨∃o,AX=some ⟨j,o,none⟩) v pd W34 (L 15) (L 20) W∧((L 20=true→L 15=true)∧(L 18=true→L 15=true))∧∀i,L i=true→i<23→fL v TB AX cX i (vs i) W) ⟨rz.out,⟨fun h=>(by cases h),fun h=>(by cases h)⟩,fun i hi=>by cases hi⟩ ?_ ?_ ?_
 ·intro i o L vs ρ W ho ny qF hρ hgd hI;obtain⟨hS,hC,aT⟩:=hI;have hG:∀j,L j=true→fL v TB AX cX j (vs j) W:=fun j hj=>by
   by_cases h16:j<23
   ·exact aT j hj h16
   ·match j,h16 with
    | j+23,_=>exact trivial
  have qqO:i<23:=(Array.getElem?_eq_some_iff.1 ho).1;have hc:=hρ.const;have hfn:=hρ.fn;have ml:∀vv W',fL v TB AX cX i vv W'→∀j,zm L i j=true→j<23→fL v TB AX cX j (xn vs i vv j) W':=fun vv W' h2 j hj h16=>by
   by_cases gj:j=i
   ·subst gj;simpa[xn]using h2
   ·simp only[zm,if_neg gj]at hj;have:=aT j hj h16;simp only[xn,if_neg gj]
    match j,h16,this with
    | 0,_,h=>exact h
    | 1,_,h=>exact h
    | 2,_,h=>exact h
    | 3,_,h=>exact h
    | 4,_,h=>exact h
    | 5,_,h=>exact h
    | 6,_,h=>exact h
    | 7,_,h=>exact h
    | 8,_,h=>exact h
    | 9,_,h=>exact h
    | 10,_,h=>exact h
    | 11,_,h=>exact h
    | 12,_,h=>exact h
    | 13,_,h=>exact h
    | 14,_,h=>exact h
    | 15,_,h=>exact h
    | 16,_,h=>exact h
    | 17,_,h=>exact h
    | 18,_,h=>exact h
    | 19,_,h=>exact h
    | 20,_,h=>exact h
    | 21,_,h=>exact h
    | 22,_,h=>exact h
    | j+23,h,_=>exact absurd h (by omega)
  have next:i≠15→i≠20→(i=18→L 15=true)→∀vv W',WkS IV w.heap.size (fun j=>j=TB∨∃o,AX=some ⟨j,o,none⟩) v pd W34 (L 15) (L 20) W'→fL v TB AX cX i vv W'→WkS IV w.heap.size (fun j=>j=TB∨∃o,AX=some ⟨j,o,none⟩) v pd W34 (zm L i 15) (zm L i 20) W'∧((zm L i 20=true→zm L i 15=true)∧(zm L i 18=true→zm L i 15=true))∧∀j,zm L i j=true→j<23→fL v TB AX cX j (xn vs i vv j) W':=fun n1 n2 n3 vv W' h1 h2=>by
   refine⟨?_,⟨?_,?_⟩,ml vv W' h2⟩
   ·simp only[zm,if_neg (Ne.symm n1),if_neg (Ne.symm n2)];exact h1
   ·simp only[zm,if_neg (Ne.symm n1),if_neg (Ne.symm n2)];exact hC.1
   ·intro hm;simp only[zm,if_neg (Ne.symm n1)];by_cases vu:18=i
    ·exact n3 vu.symm
    ·simp only[zm,if_neg vu]at hm;exact hC.2 hm
  have hke:=hS.1;have hkt:=jR.out.of_block (hke.block hlt2 (.inl (.inl rfl)));have z2:=hkt.cell 2;have z3:=hkt.cell 3;have zl:=hkt.lt;simp only[QA,QB,QC,Array.setIfInBounds,List.set_cons_zero,List.set_cons_succ]at z2 z3;rcases i with _|_|_|_|_|_|_|_|_|_|_|_|_|_|_|_|_|_|_|_|_|_|_|i;all_goals (first|omega|skip)
  all_goals simp only[QA,QB,QC,Option.some.injEq]at ho
  all_goals subst ho
  ·have o6:ρ (.tmp 6)=.slice AX 2 cX:=hρ.out 6 rfl;exact q9 (w':=W) (by unfold execOp;simp only[o6,hc];go_simp) (next (by decide) (by decide) (fun h=>absurd h (by decide)) _ _ hS rfl)
  ·have o7:ρ (.tmp 7)=.int .i64 0:=hρ.out 7 rfl;exact q9 (w':=W) (by unfold execOp;simp only[o7,hc];go_simp) (next (by decide) (by decide) (fun h=>absurd h (by decide)) _ _ hS rfl)
  ·have q6n:fL v TB AX cX 0 (vs 0) W:=hG 0 (qF 0 (by kernel_rfl));have q6o:ρ (.tmp 158)=.slice AX 2 cX:=(hρ.at_ 158 0 rfl).trans q6n;have q6p:fL v TB AX cX 1 (vs 1) W:=hG 1 (qF 1 (by kernel_rfl));have q6q:ρ (.tmp 159)=.int .i64 0:=(hρ.at_ 159 1 rfl).trans q6p;refine qi (f:=36) (args:=#[.slice AX 2 cX,.int .i64 0,.string ⟨#[48,97]⟩]) (w':=W) (by unfold execOp;simp only[hfn,q6o,q6q];go_simp) ((ch.jo AX cX [zz,la] _ W (T2.out.kept hS.1.size (fun b o e=>hS.1.block (HNB.out b o e) (.inl (.inr ⟨o,e⟩)))) (by decide) vb1.2.2).mono ?_);rintro x W' ⟨rfl,hb'⟩;exact⟨_,rfl,next (by decide) (by decide) (fun h=>absurd h (by decide)) _ _ (⟨hS.1.trans (Ke.of_below hb'),hS.2.below H hb'⟩) rfl⟩
  ·have q6r:fL v TB AX cX 2 (vs 2) W:=hG 2 (qF 2 (by kernel_rfl));have q6s:ρ (.tmp 160)=.bool true:=(hρ.at_ 160 2 rfl).trans q6r;exact q9 (w':=W) (by unfold execOp;simp only[q6s,hc];go_simp) (next (by decide) (by decide) (fun h=>absurd h (by decide)) _ _ hS rfl)
  ·have q6t:fL v TB AX cX 3 (vs 3) W:=hG 3 (qF 3 (by kernel_rfl));have q6u:ρ (.tmp 161)=.bool false:=(hρ.at_ 161 3 rfl).trans q6t;exact q9 (w':=W) (by unfold execOp;simp only[q6u,hc];go_simp) (next (by decide) (by decide) (fun h=>absurd h (by decide)) _ _ hS rfl)
  ·have o10:ρ (.tmp 10)=.pointer (some ⟨TB,0,none⟩):=hρ.out 10 rfl;exact q9 (w':=W) (by unfold execOp;simp only[o10,hc];go_simp) (next (by decide) (by decide) (fun h=>absurd h (by decide)) _ _ hS rfl)
  ·have q6v:fL v TB AX cX 5 (vs 5) W:=hG 5 (qF 5 (by kernel_rfl));have q6w:ρ (.tmp 163)=.pointer (some ⟨TB,2,none⟩):=(hρ.at_ 163 5 rfl).trans q6v;exact q9 (w':=W) (by unfold execOp;simp only[q6w,hc];go_simp) (next (by decide) (by decide) (fun h=>absurd h (by decide)) _ _ hS rfl)
  ·refine qi (f:=23) (args:=#[.int .u64 0,.int .u64 0]) (w':=W) (by unfold execOp;simp only[hfn,];go_simp) ((q6f.out W).mono ?_);rintro x W' ⟨rfl,hb'⟩;exact⟨_,rfl,next (by decide) (by decide) (fun h=>absurd h (by decide)) _ _ (⟨hS.1.trans (Ke.of_below hb'),hS.2.below H hb'⟩) rfl⟩
  ·have q6x:fL v TB AX cX 6 (vs 6) W:=hG 6 (qF 6 (by kernel_rfl));have q6y:ρ (.tmp 164)=.agg #[.int .u64 0,.int .u64 0]:=(hρ.at_ 164 6 rfl).trans q6x;have q6z:fL v TB AX cX 7 (vs 7) W:=hG 7 (qF 7 (by kernel_rfl));have q61:ρ (.tmp 165)=.agg #[.int .u64 0,.int .u64 0]:=(hρ.at_ 165 7 rfl).trans q6z;exact q9 (w':=W) (by unfold execOp;simp only[q6y,q61,hc];go_simp) (next (by decide) (by decide) (fun h=>absurd h (by decide)) _ _ hS rfl)
  ·have q62:fL v TB AX cX 4 (vs 4) W:=hG 4 (qF 4 (by kernel_rfl));have q63:ρ (.tmp 162)=.bool false:=(hρ.at_ 162 4 rfl).trans q62;have q64:fL v TB AX cX 8 (vs 8) W:=hG 8 (qF 8 (by kernel_rfl));have q65:ρ (.tmp 166)=.bool false:=(hρ.at_ 166 8 rfl).trans q64;exact q9 (w':=W) (by unfold execOp;simp only[q63,q65,hc];go_simp) (next (by decide) (by decide) (fun h=>absurd h (by decide)) _ _ hS rfl)
  ·have q66:fL v TB AX cX 9 (vs 9) W:=hG 9 (qF 9 (by kernel_rfl));have q67:ρ (.tmp 167)=.bool false:=(hρ.at_ 167 9 rfl).trans q66;exact q9 (w':=W) (by unfold execOp;simp only[q67,hc];go_simp) (next (by decide) (by decide) (fun h=>absurd h (by decide)) _ _ hS rfl)
  ·have o4:ρ (.tmp 4)=.pointer (some ⟨v,0,none⟩):=hρ.out 4 rfl;exact q9 (w':=W) (by unfold execOp;simp only[o4,hc];go_simp) (next (by decide) (by decide) (fun h=>absurd h (by decide)) _ _ hS rfl)
  ·refine qi (f:=23) (args:=#[.int .u64 1,.int .u64 1]) (w':=W) (by unfold execOp;simp only[hfn,];go_simp) ((qor.out W).mono ?_);rintro x W' ⟨rfl,hb'⟩;exact⟨_,rfl,next (by decide) (by decide) (fun h=>absurd h (by decide)) _ _ (⟨hS.1.trans (Ke.of_below hb'),hS.2.below H hb'⟩) rfl⟩
  ·refine qi (f:=23) (args:=#[.int .u64 1,.int .u64 3]) (w':=W) (by unfold execOp;simp only[hfn,];go_simp) ((q6e.out W).mono ?_);rintro x W' ⟨rfl,hb'⟩;exact⟨_,rfl,next (by decide) (by decide) (fun h=>absurd h (by decide)) _ _ (⟨hS.1.trans (Ke.of_below hb'),hS.2.below H hb'⟩) rfl⟩
  ·have q68:fL v TB AX cX 12 (vs 12) W:=hG 12 (qF 12 (by kernel_rfl));have q69:ρ (.tmp 170)=.agg #[.int .u64 1,.int .u64 1]:=(hρ.at_ 170 12 rfl).trans q68;have q6A:fL v TB AX cX 13 (vs 13) W:=hG 13 (qF 13 (by kernel_rfl));have q6B:ρ (.tmp 171)=.agg #[.int .u64 1,.int .u64 3]:=(hρ.at_ 171 13 rfl).trans q6A;exact q9 (w':=W) (by unfold execOp;simp only[q69,q6B,hc];go_simp) (next (by decide) (by decide) (fun h=>absurd h (by decide)) _ _ hS rfl)
  ·have q6C:fL v TB AX cX 11 (vs 11) W:=hG 11 (qF 11 (by kernel_rfl));have q6D:ρ (.tmp 169)=.pointer (some ⟨v,0,none⟩):=(hρ.at_ 169 11 rfl).trans q6C;have q6E:fL v TB AX cX 14 (vs 14) W:=hG 14 (qF 14 (by kernel_rfl));have q6F:ρ (.tmp 172)=.agg #[.int .u64 1,.int .u64 1,.int .u64 1,.int .u64 3,.int .i64 1,.int .i64 1,.slice none 0 0]:=(hρ.at_ 172 14 rfl).trans q6E;have n2:L 20=false:=by
    cases hx:L 20 with
    | false=>rfl
    | true=>exact absurd (hC.1 hx) (by rw[ny];decide)
   rw[ny,n2]at hS;refine qi (f:=24) (args:=#[.pointer (some ⟨v,0,none⟩),.agg #[.int .u64 1,.int .u64 1,.int .u64 1,.int .u64 3,.int .i64 1,.int .i64 1,.slice none 0 0],.slice none 0 0]) (w':=W) (by unfold execOp;simp only[hfn,q6D,q6F];go_simp) ((wk1 H (.inr hS) (Nat.le_trans qov.out.size hS.1.size)).mono ?_);rintro x W' ⟨rfl,h1⟩;refine⟨_,rfl,?_,⟨fun _=>by simp[zm],fun _=>by simp[zm]⟩,ml _ _ rfl⟩;simp only[zm,n2];exact h1
  ·have q6G:fL v TB AX cX 15 (vs 15) W:=hG 15 (qF 15 (by kernel_rfl));have q6H:ρ (.tmp 173)=.int .i64 2:=(hρ.at_ 173 15 rfl).trans q6G;exact q9 (w':=W) (by unfold execOp;simp only[q6H,hc];go_simp) (next (by decide) (by decide) (fun h=>absurd h (by decide)) _ _ hS rfl)
  ·have q6I:fL v TB AX cX 10 (vs 10) W:=hG 10 (qF 10 (by kernel_rfl));have q6J:ρ (.tmp 168)=.bool false:=(hρ.at_ 168 10 rfl).trans q6I;have q6K:fL v TB AX cX 16 (vs 16) W:=hG 16 (qF 16 (by kernel_rfl));have q6L:ρ (.tmp 174)=.bool false:=(hρ.at_ 174 16 rfl).trans q6K;exact q9 (w':=W) (by unfold execOp;simp only[q6J,q6L,hc];go_simp) (next (by decide) (by decide) (fun h=>absurd h (by decide)) _ _ hS rfl)
  ·have q6M:fL v TB AX cX 17 (vs 17) W:=hG 17 (qF 17 (by kernel_rfl));have q6N:ρ (.tmp 175)=.bool false:=(hρ.at_ 175 17 rfl).trans q6M;exact q9 (w':=W) (by unfold execOp;simp only[q6N,hc];go_simp) (next (by decide) (by decide) (fun _=>qF 15 (by kernel_rfl)) _ _ hS rfl)
  ·have o4:ρ (.tmp 4)=.pointer (some ⟨v,0,none⟩):=hρ.out 4 rfl;exact q9 (w':=W) (by unfold execOp;simp only[o4,hc];go_simp) (next (by decide) (by decide) (fun h=>absurd h (by decide)) _ _ hS rfl)
  ·have q6O:fL v TB AX cX 19 (vs 19) W:=hG 19 (qF 19 (by kernel_rfl));have q6P:ρ (.tmp 177)=.pointer (some ⟨v,0,none⟩):=(hρ.at_ 177 19 rfl).trans q6O;have yq1:L 15=true:=hC.2 (qF 18 (by kernel_rfl));rw[ny,yq1]at hS;refine qi (f:=34) (args:=#[.pointer (some ⟨v,0,none⟩),.int .i64 1]) (w':=W) (by unfold execOp;simp only[hfn,q6P];go_simp) ((wk2 H hS (Nat.le_trans qov.out.size hS.1.size)).mono ?_);rintro x W' ⟨rfl,h1⟩;refine⟨_,rfl,?_,⟨fun _=>by simp[zm,yq1],fun _=>by simp[zm,yq1]⟩,ml _ _ rfl⟩;simp only[zm,yq1];exact h1
  ·have q6Q:fL v TB AX cX 20 (vs 20) W:=hG 20 (qF 20 (by kernel_rfl));have q6R:ρ (.tmp 178)=.int .i64 0:=(hρ.at_ 178 20 rfl).trans q6Q;exact q9 (w':=W) (by unfold execOp;simp only[q6R,hc];go_simp) (next (by decide) (by decide) (fun h=>absurd h (by decide)) _ _ hS rfl)
  ·have q6S:fL v TB AX cX 18 (vs 18) W:=hG 18 (qF 18 (by kernel_rfl));have q6T:ρ (.tmp 176)=.bool false:=(hρ.at_ 176 18 rfl).trans q6S;have q6U:fL v TB AX cX 21 (vs 21) W:=hG 21 (qF 21 (by kernel_rfl));have q6V:ρ (.tmp 179)=.bool false:=(hρ.at_ 179 21 rfl).trans q6U;exact q9 (w':=W) (by unfold execOp;simp only[q6T,q6V,hc];go_simp) (next (by decide) (by decide) (fun h=>absurd h (by decide)) _ _ hS rfl)
 ·intro i o L vs W j want ho ny qF hg hv hI;obtain⟨_,_,aT⟩:=hI;have qqO:i<23:=(Array.getElem?_eq_some_iff.1 ho).1;rcases i with _|_|_|_|_|_|_|_|_|_|_|_|_|_|_|_|_|_|_|_|_|_|_|i;all_goals (first|omega|skip)
  all_goals simp only[QA,QB,QC,Option.some.injEq]at ho
  all_goals subst ho
  all_goals simp only[Option.some.injEq,Prod.mk.injEq,reduceCtorEq]at hg
  ·obtain⟨rfl,rfl⟩:=hg;exact(hv (aT 4 (qF 4 (by kernel_rfl)) (by decide))).elim
  ·obtain⟨rfl,rfl⟩:=hg;exact(hv (aT 4 (qF 4 (by kernel_rfl)) (by decide))).elim
  ·obtain⟨rfl,rfl⟩:=hg;exact(hv (aT 4 (qF 4 (by kernel_rfl)) (by decide))).elim
  ·obtain⟨rfl,rfl⟩:=hg;exact(hv (aT 4 (qF 4 (by kernel_rfl)) (by decide))).elim
  ·obtain⟨rfl,rfl⟩:=hg;exact(hv (aT 10 (qF 10 (by kernel_rfl)) (by decide))).elim
  ·obtain⟨rfl,rfl⟩:=hg;exact(hv (aT 10 (qF 10 (by kernel_rfl)) (by decide))).elim
  ·obtain⟨rfl,rfl⟩:=hg;exact(hv (aT 10 (qF 10 (by kernel_rfl)) (by decide))).elim
  ·obtain⟨rfl,rfl⟩:=hg;exact(hv (aT 10 (qF 10 (by kernel_rfl)) (by decide))).elim
  ·obtain⟨rfl,rfl⟩:=hg;exact(hv (aT 10 (qF 10 (by kernel_rfl)) (by decide))).elim
  ·obtain⟨rfl,rfl⟩:=hg;exact(hv (aT 10 (qF 10 (by kernel_rfl)) (by decide))).elim
  ·obtain⟨rfl,rfl⟩:=hg;exact(hv (aT 18 (qF 18 (by kernel_rfl)) (by decide))).elim
  ·obtain⟨rfl,rfl⟩:=hg;exact(hv (aT 18 (qF 18 (by kernel_rfl)) (by decide))).elim
  ·obtain⟨rfl,rfl⟩:=hg;exact(hv (aT 18 (qF 18 (by kernel_rfl)) (by decide))).elim
 intro vs WE hI;obtain⟨hS,_,hG⟩:=hI;have HKE:Hid (Ke w.heap.size (fun j=>j=TB∨∃o,AX=some ⟨j,o,none⟩) W34 WE):=hS.1;have HVE:Hid (VW IV WE w.heap.size (fun j=>j=TB∨∃o,AX=some ⟨j,o,none⟩) v pd Q7):=hS.2;have gu:Hid (Below w.heap.size w WE):=qov.out.trans (qjW HKE.out qov.out.size);have g22:vs 22=.bool false:=hG 22 rfl (by decide);simp only[qW,qK,if_true];rw[g22];clear hG hS q1K qov HKE jR T2 HNB rz;generalize vs 0=y0;generalize vs 1=y1;generalize vs 2=y2;generalize vs 3=y3;generalize vs 4=y4;generalize vs 5=y5;generalize vs 6=y6;generalize vs 7=y7;generalize vs 8=y8;generalize vs 9=y9;generalize vs 10=y10;generalize vs 11=y11;generalize vs 12=y12;generalize vs 13=y13;generalize vs 14=y14;generalize vs 15=y15;generalize vs 16=y16;generalize vs 17=y17;generalize vs 18=y18;generalize vs 19=y19;generalize vs 20=y20;generalize vs 21=y21;clear g22;simp only[Act.put,List.setIfInBounds_toArray,List.set_cons_succ,List.set_cons_zero];have qr3:=QH HVE.out;have qwf:=QH gu.out;clear HVE gu;obtain⟨W35,q1L⟩:=QE WE;rw[q1L]at qr3 qwf ⊢;clear q1L;go_wp2_with fail;refine(qb0 H qr3.out (l:=[la,zz]) (by intro t m h;rw[h])).mono ?_;rintro e W36 ⟨A36,c36,rfl,ht,_,hb⟩;have q1M:=QH (qr3.out.below H hb);have q1N:=QH (qc qwf.out hb);dsimp only at ht ⊢;have T3:=QH ht;clear ht;clear hb qr3 qwf;go_wp2_with fail;refine(ch.jo _ _ [la,zz] _ W36 T3.out (by decide) vb1.2.1).mono ?_;rintro e W37 ⟨rfl,hb⟩;have zdH:=QH (q1M.out.below H hb);have q6W:=QH (qc q1N.out hb);have T3n:=QH (T3.out.below hb);clear T3;have T3:=QH T3n.out;clear T3n;clear hb q1M q1N;go_wp2_with fail;go_ret;exact⟨rfl,q6W.out⟩
end Go.Proofs.YtdagdllomphidaaGreatDoor.vt
namespace Go.Proofs.YtdagdllomphidaaGreatDoor
open _root_.Go.Proofs.Tryz Go.RowKit
def cZs:List Int:=ew.map Int.ofNat
theorem qwg:(prog.globals[0]?).map (·.type)=some 279:=by kernel_rfl
theorem qr4:prog.cellsOf 279=16:=by kernel_rfl
theorem qwh:prog.cellsOf 250=1:=by kernel_rfl
theorem qb1{W:World}{name:String}{rest:List (String × DataW Unit)}(h:laidMet prog ((name,Lib.tabData .u32 cZs)::rest) W)(cg:prog.globalNamed name=some 0):xQ W:=by
 have hT:=Lib.tabIs_of_head cg qwg underlying279 underlying250 qwh qr4 h;have hc:∀i,i<16→W.cell? ⟨0,i,none⟩=some (.int .u32 ((ew.getD i 0:Nat):Int)):=by
  intro i hi;have:=hT.cell cg i (by simpa[cZs,ew]using hi);rw[this];have:∀i:Nat,i<16→cZs.getD i 0=((ew.getD i 0:Nat):Int):=by decide
  rw[this i hi]
 exact⟨World.block_lt_of_cell? W _ (hc 0 (by omega)),hc⟩
noncomputable def tW (os:Os):World :=
 { World.holding prog os ⟨#[],#[],[]⟩with heap:=(World.holding prog os ⟨#[],#[],[]⟩).heap.modify 0 fun
     | .cells _ t frozen=>.cells (cZs.map fun z=>Value.int .u32 z).toArray t frozen
     | o=>o }
end Go.Proofs.YtdagdllomphidaaGreatDoor
