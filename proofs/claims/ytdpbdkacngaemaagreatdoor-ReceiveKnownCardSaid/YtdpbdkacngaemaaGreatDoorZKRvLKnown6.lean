/- RvWKn. -/
import Derived.Test.YtdpbdkacngaemaaGreatDoorZKRvLKnown4
import Derived.Test.YtdpbdkacngaemaaGreatDoorZKRvLKnown5
set_option linter.unusedVariables false
set_option linter.unusedSimpArgs false
set_option maxHeartbeats 30000000
set_option maxRecDepth 100000
namespace Go.Proofs.YtdpbdkacngaemaaGreatDoor.rv
open _root_.Go.Proofs.Tryz Go Go.RowKit Go.Sort ib mt st
open vt (jq ju VP DD Ke gN)
theorem dF (W:World)(k:Int)(c:UInt8)(z:Int)(hk:zJ k)(hz:(c.toNat:Int)=z):PtL (W.alloc (.cells #[.int .i64 k,.int .u8 z] 79)) (some ⟨W.heap.size,0,none⟩) [(k,c)]:=by
 intro i hi;have hi2:i<1:=by simpa using hi
 match i,hi2 with
 | 0,_=>exact⟨W.heap.size,0,rfl,by simp,(qh.new W _ _).cell 0,by rw[← hz];exact(qh.new W _ _).cell 1,hk⟩
theorem qoL(W:World)(k:Int)(c:UInt8)(z:Int)(k2:Int)(c2:UInt8)(z2:Int)(hk:zJ k)(hz:(c.toNat:Int)=z)(hk2:zJ k2)(hz2:(c2.toNat:Int)=z2):PtL (W.alloc (.cells #[.int .i64 k,.int .u8 z,.int .i64 k2,.int .u8 z2] 79)) (some ⟨W.heap.size,0,none⟩) [(k,c),(k2,c2)]:=by
 intro i hi;have hi2:i<2:=by simpa using hi
 match i,hi2 with
 | 0,_=>exact⟨W.heap.size,0,rfl,by simp,(qh.new W _ _).cell 0,by rw[← hz];exact(qh.new W _ _).cell 1,hk⟩
 | 1,_=>exact⟨W.heap.size,0,rfl,by simp,(qh.new W _ _).cell 2,by rw[← hz2];exact(qh.new W _ _).cell 3,hk2⟩
theorem tN (W:World):ch.kX W none []:=fun i hi=>absurd hi (by simp)
theorem kb4:zV k4.base∧zV k4.target∧zJ k4.fr∧zJ k4.all:=⟨⟨by decide,by decide⟩,⟨by decide,by decide⟩,by unfold zJ;decide,by unfold zJ;decide⟩
theorem kc4:ud [(0,97)]=k4.zF:=rfl
theorem kx4:∀x∈k4.zF,zJ x.1:=by
 intro x hx;unfold k4 at hx;simp only[List.mem_cons,List.not_mem_nil,or_false]at hx;subst hx;unfold zJ;dsimp only;decide
theorem kb5:zV k5.base∧zV k5.target∧zJ k5.fr∧zJ k5.all:=⟨⟨by decide,by decide⟩,⟨by decide,by decide⟩,by unfold zJ;decide,by unfold zJ;decide⟩
theorem kc5:ud [(4,97)]=k5.zF:=rfl
theorem kx5:∀x∈k5.zF,zJ x.1:=by
 intro x hx;unfold k5 at hx;simp only[List.mem_cons,List.not_mem_nil,or_false]at hx;subst hx;unfold zJ;dsimp only;decide
theorem kb6:zV k6.base∧zV k6.target∧zJ k6.fr∧zJ k6.all:=⟨⟨by decide,by decide⟩,⟨by decide,by decide⟩,by unfold zJ;decide,by unfold zJ;decide⟩
theorem kb7:zV k7.base∧zV k7.target∧zJ k7.fr∧zJ k7.all:=⟨⟨by decide,by decide⟩,⟨by decide,by decide⟩,by unfold zJ;decide,by unfold zJ;decide⟩
theorem kb8:zV k8.base∧zV k8.target∧zJ k8.fr∧zJ k8.all:=⟨⟨by decide,by decide⟩,⟨by decide,by decide⟩,by unfold zJ;decide,by unfold zJ;decide⟩
theorem kb9:zV k9.base∧zV k9.target∧zJ k9.fr∧zJ k9.all:=⟨⟨by decide,by decide⟩,⟨by decide,by decide⟩,by unfold zJ;decide,by unfold zJ;decide⟩
theorem kc9:ud [(0,97)]=k9.zF:=rfl
theorem kx9:∀x∈k9.zF,zJ x.1:=by
 intro x hx;unfold k9 at hx;simp only[List.mem_cons,List.not_mem_nil,or_false]at hx;subst hx;unfold zJ;dsimp only;decide
theorem qoM:zV uO.base∧zV uO.target∧zJ uO.fr∧zJ uO.all:=⟨⟨by decide,by decide⟩,⟨by decide,by decide⟩,by unfold zJ;decide,by unfold zJ;decide⟩
theorem q3c:ud [(1,97)]=uO.zF:=rfl
theorem q3d:∀x∈uO.zF,zJ x.1:=by
 intro x hx;unfold uO at hx;simp only[List.mem_cons,List.not_mem_nil,or_false]at hx;subst hx;unfold zJ;dsimp only;decide
theorem qoN:zV k11.base∧zV k11.target∧zJ k11.fr∧zJ k11.all:=⟨⟨by decide,by decide⟩,⟨by decide,by decide⟩,by unfold zJ;decide,by unfold zJ;decide⟩
theorem q3e:ud [(1,97)]=k11.zF:=rfl
theorem q3f:∀x∈k11.zF,zJ x.1:=by
 intro x hx;unfold k11 at hx;simp only[List.mem_cons,List.not_mem_nil,or_false]at hx;subst hx;unfold zJ;dsimp only;decide
theorem qoO:zV k12.base∧zV k12.target∧zJ k12.fr∧zJ k12.all:=⟨⟨by decide,by decide⟩,⟨by decide,by decide⟩,by unfold zJ;decide,by unfold zJ;decide⟩
theorem q3g:ud [(2,120)]=k12.zF:=rfl
theorem q3h:∀x∈k12.zF,zJ x.1:=by
 intro x hx;unfold k12 at hx;simp only[List.mem_cons,List.not_mem_nil,or_false]at hx;subst hx;unfold zJ;dsimp only;decide
theorem qoP:zV k14.base∧zV k14.target∧zJ k14.fr∧zJ k14.all:=⟨⟨by decide,by decide⟩,⟨by decide,by decide⟩,by unfold zJ;decide,by unfold zJ;decide⟩
theorem q3i:ud [(0,121),(3,122)]=k14.zF:=rfl
theorem q3j:∀x∈k14.zF,zJ x.1:=by
 intro x hx;unfold k14 at hx;simp only[List.mem_cons,List.not_mem_nil,or_false]at hx;rcases hx with rfl|rfl <;> (unfold zJ;dsimp only;decide)
def zu (gT br or cr g17 g18:Nat)(S0 S1 S2 S3:ByteArray):Nat→Value→World→Prop
 | 0,v,_=>v=.bool true
 | 1,v,_=>v=.bool true
 | 2,v,_=>v=.bool true
 | 3,v,_=>v=.bool true
 | 4,v,_=>v=.int .i64 2
 | 5,v,_=>v=.bool true
 | 6,v,_=>v=.bool true
 | 7,v,_=>v=.bool true
 | 8,v,_=>v=.int .i64 2
 | 9,v,_=>v=.bool true
 | 10,v,_=>v=.bool true
 | 11,v,_=>v=.bool true
 | 12,v,_=>v=.int .i64 2
 | 13,v,_=>v=.bool true
 | 14,v,_=>v=.bool true
 | 15,v,_=>v=.bool true
 | 16,v,_=>v=.int .i64 9
 | 17,v,_=>v=.bool true
 | 18,v,_=>v=.bool true
 | 19,v,_=>v=.bool true
 | 20,v,_=>v=.int .i64 0
 | 21,v,_=>v=.bool true
 | 22,v,_=>v=.bool true
 | 23,v,_=>v=.bool true
 | 24,v,_=>v=.int .i64 0
 | 25,v,_=>v=.bool true
 | 26,v,_=>v=.bool true
 | 27,v,_=>v=.bool true
 | 28,v,_=>v=.int .i64 10
 | 29,v,_=>v=.bool true
 | 30,v,_=>v=.bool true
 | 31,v,_=>v=.bool true
 | 32,v,_=>v=.int .i64 10
 | 33,v,_=>v=.bool true
 | 34,v,_=>v=.bool true
 | 35,v,_=>v=.bool true
 | 36,v,_=>v=.int .i64 0
 | 37,v,_=>v=.bool true
 | 38,v,_=>v=.bool true
 | 39,v,_=>v=.bool true
 | 40,v,_=>v=.pointer (some ⟨gT,2,none⟩)
 | 41,v,_=>v=.agg #[.int .u64 1,.int .u64 3]
 | 42,v,_=>v=.agg #[.int .u64 1,.int .u64 3]
 | 43,v,_=>v=.bool true
 | 44,v,_=>v=.bool true
 | 45,v,_=>v=.bool true
 | 46,v,_=>v=.pointer (some ⟨gT,4,none⟩)
 | 47,v,_=>v=.int .i64 1
 | 48,v,_=>v=.bool true
 | 49,v,_=>v=.bool true
 | 50,v,_=>v=.bool true
 | 51,v,_=>v=.int .i64 0
 | 52,v,_=>v=.bool true
 | 53,v,_=>v=.bool true
 | 54,v,_=>v=.bool true
 | 55,v,_=>v=.int .i64 0
 | 56,v,_=>v=.bool true
 | 57,v,_=>v=.bool true
 | 58,v,_=>v=.bool true
 | 59,v,_=>v=.slice (some ⟨br,or,none⟩) 4 cr
 | 60,v,_=>v=.int .i64 4
 | 61,v,_=>v=.bool true
 | 62,v,_=>v=.bool true
 | 63,v,_=>v=.bool true
 | 64,v,_=>v=.slice (some ⟨br,or,none⟩) 4 cr
 | 65,v,_=>v=.pointer (some ⟨br,or+0,none⟩)
 | 66,v,_=>v=.string S0
 | 67,v,_=>v=.string S0
 | 68,v,_=>v=.bool true
 | 69,v,_=>v=.bool true
 | 70,v,_=>v=.bool true
 | 71,v,_=>v=.slice (some ⟨br,or,none⟩) 4 cr
 | 72,v,_=>v=.pointer (some ⟨br,or+1,none⟩)
 | 73,v,_=>v=.string S1
 | 74,v,_=>v=.string S1
 | 75,v,_=>v=.bool true
 | 76,v,_=>v=.bool true
 | 77,v,_=>v=.bool true
 | 78,v,_=>v=.slice (some ⟨br,or,none⟩) 4 cr
 | 79,v,_=>v=.pointer (some ⟨br,or+2,none⟩)
 | 80,v,_=>v=.string S2
 | 81,v,_=>v=.string S2
 | 82,v,_=>v=.bool true
 | 83,v,_=>v=.bool true
 | 84,v,_=>v=.bool true
 | 85,v,_=>v=.slice (some ⟨br,or,none⟩) 4 cr
 | 86,v,_=>v=.pointer (some ⟨br,or+3,none⟩)
 | 87,v,_=>v=.string S3
 | 88,v,_=>v=.string S3
 | 89,v,_=>v=.bool true
 | 90,v,_=>v=.bool true
 | 91,v,_=>v=.bool true
 | 92,v,_=>v=.agg #[.int .u64 1,.int .u64 1]
 | 93,v,_=>v=.agg #[.int .u64 0,.int .u64 0,.int .u64 1,.int .u64 1,.int .i64 0,.int .i64 0,.slice none 0 0]
 | 94,v,_=>v=.int .i64 1
 | 95,v,_=>v=.bool true
 | 96,v,_=>v=.bool true
 | 97,v,_=>v=.bool true
 | 98,v,_=>v=.int .i64 0
 | 99,v,_=>v=.bool true
 | 100,v,_=>v=.bool true
 | 101,v,_=>v=.bool true
 | 102,v,_=>v=.agg #[.int .u64 0,.int .u64 0]
 | 103,v,_=>v=.agg #[.int .u64 0,.int .u64 0]
 | 104,v,_=>v=.bool true
 | 105,v,_=>v=.bool true
 | 106,v,_=>v=.bool true
 | 107,v,_=>v=.agg #[.int .u64 0,.int .u64 0]
 | 108,v,_=>v=.agg #[.int .u64 0,.int .u64 0]
 | 109,v,_=>v=.bool true
 | 110,v,_=>v=.bool true
 | 111,v,_=>v=.bool true
 | 112,v,_=>v=.int .i64 0
 | 113,v,_=>v=.bool true
 | 114,v,_=>v=.bool true
 | 115,v,_=>v=.bool true
 | _,_,_=>True
theorem qlL(gT br or cr g17 g18:Nat)(S0 S1 S2 S3:ByteArray)(i:Nat)(v:Value)(w w':World)(hi:i<116)(h:zu gT br or cr g17 g18 S0 S1 S2 S3 i v w)(hb:Below w.heap.size w w'):zu gT br or cr g17 g18 S0 S1 S2 S3 i v w':=by
 match i,hi,h with
 | 0,_,h | 1,_,h | 2,_,h | 3,_,h | 4,_,h | 5,_,h | 6,_,h | 7,_,h | 8,_,h | 9,_,h | 10,_,h | 11,_,h | 12,_,h | 13,_,h | 14,_,h | 15,_,h | 16,_,h | 17,_,h | 18,_,h | 19,_,h | 20,_,h | 21,_,h | 22,_,h | 23,_,h | 24,_,h | 25,_,h | 26,_,h | 27,_,h | 28,_,h | 29,_,h | 30,_,h | 31,_,h | 32,_,h | 33,_,h | 34,_,h | 35,_,h | 36,_,h | 37,_,h | 38,_,h | 39,_,h | 40,_,h | 41,_,h | 42,_,h | 43,_,h | 44,_,h | 45,_,h | 46,_,h | 47,_,h | 48,_,h | 49,_,h | 50,_,h | 51,_,h | 52,_,h | 53,_,h | 54,_,h | 55,_,h | 56,_,h | 57,_,h | 58,_,h | 59,_,h | 60,_,h | 61,_,h | 62,_,h | 63,_,h | 64,_,h | 65,_,h | 66,_,h | 67,_,h | 68,_,h | 69,_,h | 70,_,h | 71,_,h | 72,_,h | 73,_,h | 74,_,h | 75,_,h | 76,_,h | 77,_,h | 78,_,h | 79,_,h | 80,_,h | 81,_,h | 82,_,h | 83,_,h | 84,_,h | 85,_,h | 86,_,h | 87,_,h | 88,_,h | 89,_,h | 90,_,h | 91,_,h | 92,_,h | 93,_,h | 94,_,h | 95,_,h | 96,_,h | 97,_,h | 98,_,h | 99,_,h | 100,_,h | 101,_,h | 102,_,h | 103,_,h | 104,_,h | 105,_,h | 106,_,h | 107,_,h | 108,_,h | 109,_,h | 110,_,h | 111,_,h | 112,_,h | 113,_,h | 114,_,h | 115,_,h=>exact h
 | j+116,hi,_=>exact absurd hi (by omega)
theorem cz {IV:jq}(H:ju IV)(w:World)(ht:xK w):Calls prog 6 #[] w (qin w):=by
 have oa:Hid (gN<w.heap.size):=vt.xx ht;have HMD:=QH (qbR H 4 (by decide) (by decide) w ht);have dX:=QH ht;clear ht;go_enter func6,ntmps6;go_wp2_with fail;refine HMD.out.mono ?_;rintro e U4 ⟨vp,pd,t,d,o1,o2,rfl,hv,hj,hr,hf,hb,ho⟩;have HW:Hid (Kn IV U4 w.heap.size (fun _=>False) vp pd (0,0) 0 wm Q0):=⟨t,d,_,⟨o1,o2,hv,fun j hj=>⟨ho j hj,id⟩,fun j h=>h.elim,oa.out,id⟩,hr,hj,hf,⟨rfl,rfl,rfl,rfl⟩,trivial⟩;have yc:=QH hb;clear hv hj hr hf hb ho HMD;have HR:=QH (Below.refl U4.heap.size U4);go_upto_region 4 with fail;go_wp2_with fail;refine(qF 1 1 U4).mono ?_;rintro e qoQ ⟨rfl,hb⟩
 replace HR:=QH (qc HR.out hb)
 rw[show ch.gv (1,1)=.agg #[.int .u64 1,.int .u64 1]from rfl];clear hb;go_wp2_with fail;have hpl:=dF qoQ 0 97 97 (by unfold zJ;decide) rfl;have cb:=(Below.refl qoQ.heap.size qoQ).alloc (Nat.le_refl _) (.cells #[.int .i64 0,.int .u8 97] 79);have hsz:=HR.out.size;refine(xQ (some ⟨qoQ.heap.size,0,none⟩) 1 [(0,97)] _ hpl (by decide)).mono ?_;rintro e U4c ⟨vl,rfl,dw,hb⟩;rw[kc4]at dw;obtain⟨Al,cl,rfl,hcl,hlo,-⟩:=ch.pg.xy.ij dw kx4;have eU:Hid (∀b o,Al=some ⟨b,o,none⟩→U4.heap.size≤b∧b<U4c.heap.size):=fun b o e=>⟨Nat.le_trans hsz (Nat.le_trans cb.size (hlo b o e).1),(hlo b o e).2⟩;have yK:=QH hcl
 replace HR:=QH (qc (qc HR.out cb) hb)
 rw[show k4.zF.length=1 from rfl];clear hb cb dw hpl hsz hcl hlo;go_wp2_with fail;have vZ:Hid (w.heap.size≤U4c.heap.size):=Nat.le_trans yc.out.size HR.out.size;have xY:=QH (rj H (Kn.more H HW.out HR.out (Y:=(fun j=>U4.heap.size≤j∧j<U4c.heap.size)) (fun j hj=>.inr hj)) vZ.out Al cl k4 ⟨yK.out,kb4.1,kb4.2.1,kb4.2.2.1,kb4.2.2.2⟩ (by decide) (fun b o e=>(eU.out b o e)) a4 (by decide));rw[show jg k4 Al cl = #[.int .u64 0,.int .u64 0,.int .u64 1,.int .u64 1,.int .i64 0,.int .i64 5,.slice Al 1 cl]from rfl]at xY;refine xY.out.mono ?_;rintro e U5 ⟨rfl,hw,hk⟩
 replace HW:=QH (Kn.more H hw (Below.refl _ _) (Y:=fun _=>False) (fun j hj=>hj.elim))
 replace yc:=QH (yc.out.trans ((HR.out.mono yc.out.size).trans (hk.below vZ.out)))
 clear hw hk xY HR vZ yK eU;have HR:=QH (Below.refl U5.heap.size U5);go_wp2_with fail;refine(qF 1 1 U5).mono ?_;rintro e qoR ⟨rfl,hb⟩
 replace HR:=QH (qc HR.out hb)
 rw[show ch.gv (1,1)=.agg #[.int .u64 1,.int .u64 1]from rfl];clear hb;go_wp2_with fail;have hpl:=dF qoR 4 97 97 (by unfold zJ;decide) rfl;have cb:=(Below.refl qoR.heap.size qoR).alloc (Nat.le_refl _) (.cells #[.int .i64 4,.int .u8 97] 79);have hsz:=HR.out.size;refine(xQ (some ⟨qoR.heap.size,0,none⟩) 1 [(4,97)] _ hpl (by decide)).mono ?_;rintro e U5c ⟨vl,rfl,dw,hb⟩;rw[kc5]at dw;obtain⟨Al,cl,rfl,hcl,hlo,-⟩:=ch.pg.xy.ij dw kx5;have eU:Hid (∀b o,Al=some ⟨b,o,none⟩→U5.heap.size≤b∧b<U5c.heap.size):=fun b o e=>⟨Nat.le_trans hsz (Nat.le_trans cb.size (hlo b o e).1),(hlo b o e).2⟩;have yK:=QH hcl
 replace HR:=QH (qc (qc HR.out cb) hb)
 rw[show k5.zF.length=1 from rfl];clear hb cb dw hpl hsz hcl hlo;go_wp2_with fail;have vZ:Hid (w.heap.size≤U5c.heap.size):=Nat.le_trans yc.out.size HR.out.size;have xY:=QH (rj H (Kn.more H HW.out HR.out (Y:=(fun j=>U5.heap.size≤j∧j<U5c.heap.size)) (fun j hj=>.inr hj)) vZ.out Al cl k5 ⟨yK.out,kb5.1,kb5.2.1,kb5.2.2.1,kb5.2.2.2⟩ (by decide) (fun b o e=>(eU.out b o e)) a5 (by decide));rw[show jg k5 Al cl = #[.int .u64 0,.int .u64 0,.int .u64 1,.int .u64 1,.int .i64 0,.int .i64 1,.slice Al 1 cl]from rfl]at xY;refine xY.out.mono ?_;rintro e U6 ⟨rfl,hw,hk⟩
 replace HW:=QH (Kn.more H hw (Below.refl _ _) (Y:=fun _=>False) (fun j hj=>hj.elim))
 replace yc:=QH (yc.out.trans ((HR.out.mono yc.out.size).trans (hk.below vZ.out)))
 clear hw hk xY HR vZ yK eU;have HR:=QH (Below.refl U6.heap.size U6);go_wp2_with fail;have vZ:Hid (w.heap.size≤U6.heap.size):=Nat.le_trans yc.out.size HR.out.size;have xY:=QH (rj H (Kn.more H HW.out HR.out (Y:=(fun j=>U6.heap.size≤j∧j<U6.heap.size)) (fun j hj=>.inr hj)) vZ.out none 0 k6 ⟨tN _,kb6.1,kb6.2.1,kb6.2.2.1,kb6.2.2.2⟩ (by decide) (fun b o e=>nomatch e) a6 (by decide));rw[show jg k6 none 0 = #[.int .u64 0,.int .u64 0,.int .u64 0,.int .u64 0,.int .i64 0,.int .i64 0,.slice none 0 0]from rfl]at xY;refine xY.out.mono ?_;rintro e U7 ⟨rfl,hw,hk⟩
 replace HW:=QH (Kn.more H hw (Below.refl _ _) (Y:=fun _=>False) (fun j hj=>hj.elim))
 replace yc:=QH (yc.out.trans ((HR.out.mono yc.out.size).trans (hk.below vZ.out)))
 clear hw hk xY HR vZ;have HR:=QH (Below.refl U7.heap.size U7);go_wp2_with fail;refine(qF 1 1 U7).mono ?_;rintro e q3m ⟨rfl,hb⟩
 replace HR:=QH (qc HR.out hb)
 rw[show ch.gv (1,1)=.agg #[.int .u64 1,.int .u64 1]from rfl];clear hb;go_wp2_with fail;refine(qF 1 2 q3m).mono ?_;rintro e qxZ ⟨rfl,hb⟩
 replace HR:=QH (qc HR.out hb)
 rw[show ch.gv (1,2)=.agg #[.int .u64 1,.int .u64 2]from rfl];clear hb;go_wp2_with fail;have vZ:Hid (w.heap.size≤qxZ.heap.size):=Nat.le_trans yc.out.size HR.out.size;have xY:=QH (rj H (Kn.more H HW.out HR.out (Y:=(fun j=>U7.heap.size≤j∧j<qxZ.heap.size)) (fun j hj=>.inr hj)) vZ.out none 0 k7 ⟨tN _,kb7.1,kb7.2.1,kb7.2.2.1,kb7.2.2.2⟩ (by decide) (fun b o e=>nomatch e) a7 (by decide));rw[show jg k7 none 0 = #[.int .u64 1,.int .u64 1,.int .u64 1,.int .u64 2,.int .i64 0,.int .i64 0,.slice none 0 0]from rfl]at xY;refine xY.out.mono ?_;rintro e U8 ⟨rfl,hw,hk⟩
 replace HW:=QH (Kn.more H hw (Below.refl _ _) (Y:=fun _=>False) (fun j hj=>hj.elim))
 replace yc:=QH (yc.out.trans ((HR.out.mono yc.out.size).trans (hk.below vZ.out)))
 clear hw hk xY HR vZ;have HR:=QH (Below.refl U8.heap.size U8);go_wp2_with fail;refine(qF 1 1 U8).mono ?_;rintro e qya ⟨rfl,hb⟩
 replace HR:=QH (qc HR.out hb)
 rw[show ch.gv (1,1)=.agg #[.int .u64 1,.int .u64 1]from rfl];clear hb;go_wp2_with fail;have vZ:Hid (w.heap.size≤qya.heap.size):=Nat.le_trans yc.out.size HR.out.size;have xY:=QH (qfr H (Kn.more H HW.out HR.out (Y:=(fun j=>U8.heap.size≤j∧j<qya.heap.size)) (fun j hj=>.inr hj)) vZ.out none 0 k8 ⟨tN _,kb8.1,kb8.2.1,kb8.2.2.1,kb8.2.2.2⟩ (by decide) (fun b o e=>nomatch e) a8 e8 (g':=(1,1)) (n':=1) (f':=wm) (by rw[if_pos (by decide)];exact⟨rfl,rfl,rfl⟩) (Q':=Q1) q8);rw[show jg k8 none 0 = #[.int .u64 0,.int .u64 0,.int .u64 1,.int .u64 1,.int .i64 0,.int .i64 0,.slice none 0 0]from rfl]at xY;refine xY.out.mono ?_;rintro e U9 ⟨rfl,hw,hk⟩
 replace HW:=QH (Kn.more H hw (Below.refl _ _) (Y:=fun _=>False) (fun j hj=>hj.elim))
 replace yc:=QH (yc.out.trans ((HR.out.mono yc.out.size).trans (hk.below vZ.out)))
 clear hw hk xY HR vZ;have HR:=QH (Below.refl U9.heap.size U9);go_wp2_with fail;refine(qF 1 1 U9).mono ?_;rintro e q3n ⟨rfl,hb⟩
 replace HR:=QH (qc HR.out hb)
 rw[show ch.gv (1,1)=.agg #[.int .u64 1,.int .u64 1]from rfl];clear hb;go_wp2_with fail;refine(qF 1 2 q3n).mono ?_;rintro e qoS ⟨rfl,hb⟩
 replace HR:=QH (qc HR.out hb)
 rw[show ch.gv (1,2)=.agg #[.int .u64 1,.int .u64 2]from rfl];clear hb;go_wp2_with fail;have hpl:=dF qoS 0 97 97 (by unfold zJ;decide) rfl;have cb:=(Below.refl qoS.heap.size qoS).alloc (Nat.le_refl _) (.cells #[.int .i64 0,.int .u8 97] 79);have hsz:=HR.out.size;refine(xQ (some ⟨qoS.heap.size,0,none⟩) 1 [(0,97)] _ hpl (by decide)).mono ?_;rintro e U9c ⟨vl,rfl,dw,hb⟩;rw[kc9]at dw;obtain⟨Al,cl,rfl,hcl,hlo,-⟩:=ch.pg.xy.ij dw kx9;have eU:Hid (∀b o,Al=some ⟨b,o,none⟩→U9.heap.size≤b∧b<U9c.heap.size):=fun b o e=>⟨Nat.le_trans hsz (Nat.le_trans cb.size (hlo b o e).1),(hlo b o e).2⟩;have yK:=QH hcl
 replace HR:=QH (qc (qc HR.out cb) hb)
 rw[show k9.zF.length=1 from rfl];clear hb cb dw hpl hsz hcl hlo;go_wp2_with fail;have vZ:Hid (w.heap.size≤U9c.heap.size):=Nat.le_trans yc.out.size HR.out.size;have xY:=QH (qfr H (Kn.more H HW.out HR.out (Y:=(fun j=>U9.heap.size≤j∧j<U9c.heap.size)) (fun j hj=>.inr hj)) vZ.out Al cl k9 ⟨yK.out,kb9.1,kb9.2.1,kb9.2.2.1,kb9.2.2.2⟩ (by decide) (fun b o e=>(eU.out b o e)) a9 e9 (g':=(1,1)) (n':=1) (f':=fA) (by rw[if_neg (by decide)];exact⟨rfl,rfl,rfl⟩) (Q':=Q1) q9);rw[show jg k9 Al cl = #[.int .u64 1,.int .u64 1,.int .u64 1,.int .u64 2,.int .i64 0,.int .i64 2,.slice Al 1 cl]from rfl]at xY;refine xY.out.mono ?_;rintro e U10 ⟨rfl,hw,hk⟩
 replace HW:=QH (Kn.more H hw (Below.refl _ _) (Y:=fun _=>False) (fun j hj=>hj.elim))
 replace yc:=QH (yc.out.trans ((HR.out.mono yc.out.size).trans (hk.below vZ.out)))
 clear hw hk xY HR vZ yK eU;have HR:=QH (Below.refl U10.heap.size U10);go_wp2_with fail;refine(qF 1 1 U10).mono ?_;rintro e qyc ⟨rfl,hb⟩
 replace HR:=QH (qc HR.out hb)
 rw[show ch.gv (1,1)=.agg #[.int .u64 1,.int .u64 1]from rfl];clear hb;go_wp2_with fail;refine(qF 1 3 qyc).mono ?_;rintro e qft ⟨rfl,hb⟩
 replace HR:=QH (qc HR.out hb)
 rw[show ch.gv (1,3)=.agg #[.int .u64 1,.int .u64 3]from rfl];clear hb;go_wp2_with fail;have hpl:=dF qft 1 97 97 (by unfold zJ;decide) rfl;have cb:=(Below.refl qft.heap.size qft).alloc (Nat.le_refl _) (.cells #[.int .i64 1,.int .u8 97] 79);have hsz:=HR.out.size;refine(xQ (some ⟨qft.heap.size,0,none⟩) 1 [(1,97)] _ hpl (by decide)).mono ?_;rintro e qtp ⟨vl,rfl,dw,hb⟩;rw[q3c]at dw;obtain⟨Al,cl,rfl,hcl,hlo,-⟩:=ch.pg.xy.ij dw q3d;have eU:Hid (∀b o,Al=some ⟨b,o,none⟩→U10.heap.size≤b∧b<qtp.heap.size):=fun b o e=>⟨Nat.le_trans hsz (Nat.le_trans cb.size (hlo b o e).1),(hlo b o e).2⟩;have yK:=QH hcl
 replace HR:=QH (qc (qc HR.out cb) hb)
 rw[show uO.zF.length=1 from rfl];clear hb cb dw hpl hsz hcl hlo;go_wp2_with fail;have vZ:Hid (w.heap.size≤qtp.heap.size):=Nat.le_trans yc.out.size HR.out.size;have xY:=QH (rj H (Kn.more H HW.out HR.out (Y:=(fun j=>U10.heap.size≤j∧j<qtp.heap.size)) (fun j hj=>.inr hj)) vZ.out Al cl uO ⟨yK.out,qoM.1,qoM.2.1,qoM.2.2.1,qoM.2.2.2⟩ (by decide) (fun b o e=>(eU.out b o e)) a10 (by decide));rw[show jg uO Al cl = #[.int .u64 1,.int .u64 1,.int .u64 1,.int .u64 3,.int .i64 1,.int .i64 2,.slice Al 1 cl]from rfl]at xY;refine xY.out.mono ?_;rintro e U11 ⟨rfl,hw,hk⟩
 replace HW:=QH (Kn.more H hw (Below.refl _ _) (Y:=fun _=>False) (fun j hj=>hj.elim))
 replace yc:=QH (yc.out.trans ((HR.out.mono yc.out.size).trans (hk.below vZ.out)))
 clear hw hk xY HR vZ yK eU;have HR:=QH (Below.refl U11.heap.size U11);go_wp2_with fail;refine(qF 1 1 U11).mono ?_;rintro e qye ⟨rfl,hb⟩
 replace HR:=QH (qc HR.out hb)
 rw[show ch.gv (1,1)=.agg #[.int .u64 1,.int .u64 1]from rfl];clear hb;go_wp2_with fail;refine(qF 1 2 qye).mono ?_;rintro e qfu ⟨rfl,hb⟩
 replace HR:=QH (qc HR.out hb)
 rw[show ch.gv (1,2)=.agg #[.int .u64 1,.int .u64 2]from rfl];clear hb;go_wp2_with fail;have hpl:=dF qfu 1 97 97 (by unfold zJ;decide) rfl;have cb:=(Below.refl qfu.heap.size qfu).alloc (Nat.le_refl _) (.cells #[.int .i64 1,.int .u8 97] 79);have hsz:=HR.out.size;refine(xQ (some ⟨qfu.heap.size,0,none⟩) 1 [(1,97)] _ hpl (by decide)).mono ?_;rintro e qtq ⟨vl,rfl,dw,hb⟩;rw[q3e]at dw;obtain⟨Al,cl,rfl,hcl,hlo,-⟩:=ch.pg.xy.ij dw q3f;have eU:Hid (∀b o,Al=some ⟨b,o,none⟩→U11.heap.size≤b∧b<qtq.heap.size):=fun b o e=>⟨Nat.le_trans hsz (Nat.le_trans cb.size (hlo b o e).1),(hlo b o e).2⟩;have yK:=QH hcl
 replace HR:=QH (qc (qc HR.out cb) hb)
 rw[show k11.zF.length=1 from rfl];clear hb cb dw hpl hsz hcl hlo;go_wp2_with fail;have vZ:Hid (w.heap.size≤qtq.heap.size):=Nat.le_trans yc.out.size HR.out.size;have xY:=QH (rj H (Kn.more H HW.out HR.out (Y:=(fun j=>U11.heap.size≤j∧j<qtq.heap.size)) (fun j hj=>.inr hj)) vZ.out Al cl k11 ⟨yK.out,qoN.1,qoN.2.1,qoN.2.2.1,qoN.2.2.2⟩ (by decide) (fun b o e=>(eU.out b o e)) a11 (by decide));rw[show jg k11 Al cl = #[.int .u64 1,.int .u64 1,.int .u64 1,.int .u64 2,.int .i64 1,.int .i64 3,.slice Al 1 cl]from rfl]at xY;refine xY.out.mono ?_;rintro e U12 ⟨rfl,hw,hk⟩
 replace HW:=QH (Kn.more H hw (Below.refl _ _) (Y:=fun _=>False) (fun j hj=>hj.elim))
 replace yc:=QH (yc.out.trans ((HR.out.mono yc.out.size).trans (hk.below vZ.out)))
 clear hw hk xY HR vZ yK eU;have HR:=QH (Below.refl U12.heap.size U12);go_wp2_with fail;refine(qF 1 1 U12).mono ?_;rintro e qyg ⟨rfl,hb⟩
 replace HR:=QH (qc HR.out hb)
 rw[show ch.gv (1,1)=.agg #[.int .u64 1,.int .u64 1]from rfl];clear hb;go_wp2_with fail;refine(qF 1 3 qyg).mono ?_;rintro e qfv ⟨rfl,hb⟩
 replace HR:=QH (qc HR.out hb)
 rw[show ch.gv (1,3)=.agg #[.int .u64 1,.int .u64 3]from rfl];clear hb;go_wp2_with fail;have hpl:=dF qfv 2 120 120 (by unfold zJ;decide) rfl;have cb:=(Below.refl qfv.heap.size qfv).alloc (Nat.le_refl _) (.cells #[.int .i64 2,.int .u8 120] 79);have hsz:=HR.out.size;refine(xQ (some ⟨qfv.heap.size,0,none⟩) 1 [(2,120)] _ hpl (by decide)).mono ?_;rintro e qtr ⟨vl,rfl,dw,hb⟩;rw[q3g]at dw;obtain⟨Al,cl,rfl,hcl,hlo,-⟩:=ch.pg.xy.ij dw q3h;have eU:Hid (∀b o,Al=some ⟨b,o,none⟩→U12.heap.size≤b∧b<qtr.heap.size):=fun b o e=>⟨Nat.le_trans hsz (Nat.le_trans cb.size (hlo b o e).1),(hlo b o e).2⟩;have yK:=QH hcl
 replace HR:=QH (qc (qc HR.out cb) hb)
 rw[show k12.zF.length=1 from rfl];clear hb cb dw hpl hsz hcl hlo;go_wp2_with fail;have vZ:Hid (w.heap.size≤qtr.heap.size):=Nat.le_trans yc.out.size HR.out.size;have xY:=QH (qfr H (Kn.more H HW.out HR.out (Y:=(fun j=>U12.heap.size≤j∧j<qtr.heap.size)) (fun j hj=>.inr hj)) vZ.out Al cl k12 ⟨yK.out,qoO.1,qoO.2.1,qoO.2.2.1,qoO.2.2.2⟩ (by decide) (fun b o e=>(eU.out b o e)) a12 e12 (g':=(1,1)) (n':=1) (f':=fB) (by rw[if_neg (by decide)];exact⟨rfl,rfl,rfl⟩) (Q':=Q2) q12);rw[show jg k12 Al cl = #[.int .u64 1,.int .u64 1,.int .u64 1,.int .u64 3,.int .i64 0,.int .i64 3,.slice Al 1 cl]from rfl]at xY;refine xY.out.mono ?_;rintro e U13 ⟨rfl,hw,hk⟩
 replace HW:=QH (Kn.more H hw (Below.refl _ _) (Y:=fun _=>False) (fun j hj=>hj.elim))
 replace yc:=QH (yc.out.trans ((HR.out.mono yc.out.size).trans (hk.below vZ.out)))
 clear hw hk xY HR vZ yK eU;go_wp2_with fail;refine(qlI H HW.out).mono ?_;rintro e T1 ⟨At,nt,ct,rfl,hb⟩;rw[show vt.tkV fB At nt ct=.agg #[.int .u64 1,.int .u64 1,.int .u64 1,.int .u64 3,.int .i64 1,.int .i64 3,.slice At nt ct]from rfl];have cb:=(Below.refl T1.heap.size T1).alloc (Nat.le_refl _) (.cells #[.int .u64 1,.int .u64 1,.int .u64 1,.int .u64 3,.int .i64 1,.int .i64 3,.slice At nt ct] 82);have kb:=qh.new T1 82 #[.int .u64 1,.int .u64 1,.int .u64 1,.int .u64 3,.int .i64 1,.int .i64 3,.slice At nt ct];obtain⟨U14,hU⟩:=QE (T1.alloc (.cells #[.int .u64 1,.int .u64 1,.int .u64 1,.int .u64 3,.int .i64 1,.int .i64 3,.slice At nt ct] 82));rw[hU]at cb kb;obtain⟨gT,hg⟩:=QE T1.heap.size;have nX:Hid (w.heap.size≤gT):=by have h1:=yc.out.size;have h2:=hb.size;unfold Hid;omega
 replace HW:=QH (Kn.more H (Kn.more H HW.out hb (Y:=fun _=>False) (fun j hj=>hj.elim)) cb (Y:=fun j=>j=gT) (fun j hj=>.inr ⟨by omega,by have:=kb.lt;omega⟩))
 rw[hg]at kb;have rR:=QH kb
 replace yc:=QH (qc (qc yc.out hb) cb)
 have HU:=QH hU;have Hg:=QH hg;clear hb cb kb hU hg;go_upto_region 14 with fail;try rw[HU.out]
 try rw[Hg.out]
 clear HU Hg;have HR:=QH (Below.refl U14.heap.size U14);go_wp2_with fail;refine(qF 1 1 U14).mono ?_;rintro e qyi ⟨rfl,hb⟩
 replace HR:=QH (qc HR.out hb)
 rw[show ch.gv (1,1)=.agg #[.int .u64 1,.int .u64 1]from rfl];clear hb;go_wp2_with fail;refine(qF 1 3 qyi).mono ?_;rintro e qfw ⟨rfl,hb⟩
 replace HR:=QH (qc HR.out hb)
 rw[show ch.gv (1,3)=.agg #[.int .u64 1,.int .u64 3]from rfl];clear hb;go_wp2_with fail;have hpl:=qoL qfw 0 121 121 3 122 122 (by unfold zJ;decide) rfl (by unfold zJ;decide) rfl;have cb:=(Below.refl qfw.heap.size qfw).alloc (Nat.le_refl _) (.cells #[.int .i64 0,.int .u8 121,.int .i64 3,.int .u8 122] 79);have hsz:=HR.out.size;refine(xQ (some ⟨qfw.heap.size,0,none⟩) 2 [(0,121),(3,122)] _ hpl (by decide)).mono ?_;rintro e qts ⟨vl,rfl,dw,hb⟩;rw[q3i]at dw;obtain⟨Al,cl,rfl,hcl,hlo,-⟩:=ch.pg.xy.ij dw q3j;have eU:Hid (∀b o,Al=some ⟨b,o,none⟩→U14.heap.size≤b∧b<qts.heap.size):=fun b o e=>⟨Nat.le_trans hsz (Nat.le_trans cb.size (hlo b o e).1),(hlo b o e).2⟩;have yK:=QH hcl
 replace HR:=QH (qc (qc HR.out cb) hb)
 rw[show k14.zF.length=2 from rfl];clear hb cb dw hpl hsz hcl hlo;go_wp2_with fail;have vZ:Hid (w.heap.size≤qts.heap.size):=Nat.le_trans yc.out.size HR.out.size;have xY:=QH (qfr H (Kn.more H HW.out HR.out (Y:=(fun j=>j=gT∨(U14.heap.size≤j∧j<qts.heap.size))) (fun j hj=>hj.elim .inl .inr)) vZ.out Al cl k14 ⟨yK.out,qoP.1,qoP.2.1,qoP.2.2.1,qoP.2.2.2⟩ (by decide) (fun b o e=>.inr (eU.out b o e)) a14 e14 (g':=(1,3)) (n':=2) (f':=wm) (by rw[if_pos (by decide)];exact⟨rfl,rfl,rfl⟩) (Q':=Q3) q14);rw[show jg k14 Al cl = #[.int .u64 1,.int .u64 1,.int .u64 1,.int .u64 3,.int .i64 1,.int .i64 3,.slice Al 2 cl]from rfl]at xY;refine xY.out.mono ?_;rintro e U15 ⟨rfl,hw,hk⟩
 replace HW:=QH (Kn.more H hw (Below.refl _ _) (Y:=fun j=>j=gT) (fun j hj=>.inl (.inl hj)))
 replace yc:=QH (yc.out.trans ((HR.out.mono yc.out.size).trans (hk.below vZ.out)))
 replace rR:=QH ((rR.out.below HR.out).of_block (hk.block (rR.out.below HR.out).lt (.inl (.inl rfl))))
 clear hw hk xY HR vZ yK eU;go_wp2_with fail;refine(qF 1 3 U15).mono ?_;rintro e T2 ⟨rfl,hb⟩
 replace HW:=QH (Kn.more H HW.out hb (Y:=fun _=>False) (fun j hj=>hj.elim))
 replace yc:=QH (qc yc.out hb)
 replace rR:=QH (rR.out.below hb)
 clear hb;go_wp2_with fail;refine(qoK H HW.out (g':=(1,3)) ⟨by decide,by decide⟩ r15).mono ?_;rintro e T3 ⟨Ar,cr,rfl,htx,-,hb⟩
 replace yc:=QH (qc yc.out hb)
 replace rR:=QH (rR.out.below hb)
 obtain⟨br,or,rfl,hlr,x0⟩:=htx 0 (by decide);obtain⟨_,_,e1,_,x1⟩:=htx 1 (by decide);obtain⟨_,_,e2,_,x2⟩:=htx 2 (by decide);obtain⟨_,_,e3,_,x3⟩:=htx 3 (by decide);simp only[Option.some.injEq,Addr.mk.injEq,and_true]at e1 e2 e3;obtain⟨rfl,rfl⟩:=e1;obtain⟨rfl,rfl⟩:=e2;obtain⟨rfl,rfl⟩:=e3;have HX0:=QH x0;have HX1:=QH x1;have HX2:=QH x2;have HX3:=QH x3;have HLR:=QH hlr;rw[show kV2.length=4 from rfl];clear hb htx x0 x1 x2 x3 hlr HW;go_wp2_with fail;refine(qlJ H T3).mono ?_;rintro e T4 ⟨rfl,hb⟩;rw[show nE 0 (0,0) (0,0) 0=.tuple #[.int .i64 0,.agg #[.int .u64 0,.int .u64 0],.agg #[.int .u64 0,.int .u64 0],.int .i64 0]from rfl];dsimp only;have cb1:=(Below.refl T4.heap.size T4).alloc (Nat.le_refl _) (.cells #[.int .u64 0,.int .u64 0] 38);have kb1:=qh.new T4 38 #[.int .u64 0,.int .u64 0];obtain⟨T5,hT5⟩:=QE (T4.alloc (.cells #[.int .u64 0,.int .u64 0] 38));have hs5:T5.heap.size=T4.heap.size+1:=by rw[← hT5];simp
 rw[hT5]at cb1 kb1;have cb2:=(Below.refl T5.heap.size T5).alloc (Nat.le_refl _) (.cells #[.int .u64 0,.int .u64 0] 38);have kb2:=qh.new T5 38 #[.int .u64 0,.int .u64 0];obtain⟨V0,hV0⟩:=QE (T5.alloc (.cells #[.int .u64 0,.int .u64 0] 38));rw[hV0]at cb2 kb2;rw[hs5]at kb2;obtain⟨g17,qtt⟩:=QE T4.heap.size;rw[qtt]at kb1 kb2;obtain⟨g18,qtu⟩:=QE (g17+1);rw[qtu]at kb2;have tB:=QH (qc hb (qc cb1 cb2));have B17:=QH (kb1.below cb2);have B18:=QH kb2;have lp:=QH hT5;have fz:=QH hV0;have qyj:=QH qtt;have qyk:=QH qtu
 replace rR:=QH (rR.out.below tB.out)
 obtain⟨S0,hS0⟩:=QE (str (rep 121 32));obtain⟨S1,hS1⟩:=QE (str (rep 0 32));obtain⟨S2,hS2⟩:=QE (str (rep 120 32));obtain⟨S3,hS3⟩:=QE (str (rep 122 32));have HY0:Hid (V0.cell? ⟨br,or+0,none⟩=some (.string S0)):=by unfold Hid;rw[tB.out.cell (p:=⟨br,or+0,none⟩) HLR.out,HX0.out,← hS0];rfl
 have HY1:Hid (V0.cell? ⟨br,or+1,none⟩=some (.string S1)):=by unfold Hid;rw[tB.out.cell (p:=⟨br,or+1,none⟩) HLR.out,HX1.out,← hS1];rfl
 have HY2:Hid (V0.cell? ⟨br,or+2,none⟩=some (.string S2)):=by unfold Hid;rw[tB.out.cell (p:=⟨br,or+2,none⟩) HLR.out,HX2.out,← hS2];rfl
 have HY3:Hid (V0.cell? ⟨br,or+3,none⟩=some (.string S3)):=by unfold Hid;rw[tB.out.cell (p:=⟨br,or+3,none⟩) HLR.out,HX3.out,← hS3];rfl
 have HD0:Hid (∀W,Calls prog 14 #[.int .u8 121] W fun e w'=>e=.returned (.string S0)∧Below W.heap.size W w'):=fun W=>by rw[← hS0];exact gW 121 W
 have HD1:Hid (∀W,Calls prog 14 #[.int .u8 0] W fun e w'=>e=.returned (.string S1)∧Below W.heap.size W w'):=fun W=>by rw[← hS1];exact gW 0 W
 have HD2:Hid (∀W,Calls prog 14 #[.int .u8 120] W fun e w'=>e=.returned (.string S2)∧Below W.heap.size W w'):=fun W=>by rw[← hS2];exact gW 120 W
 have HD3:Hid (∀W,Calls prog 14 #[.int .u8 122] W fun e w'=>e=.returned (.string S3)∧Below W.heap.size W w'):=fun W=>by rw[← hS3];exact gW 122 W
 have qlM:Hid (br<V0.heap.size):=Nat.lt_of_lt_of_le HLR.out tB.out.size;have yX:=QH (qc yc.out tB.out);clear hb cb1 kb1 cb2 kb2 hs5 hT5 hV0 qtt qtu hS0 hS1 hS2 hS3 HX0 HX1 HX2 HX3 HLR tB yc;go_upto_region 17 with fail;try rw[lp.out]
 try rw[fz.out]
 try rw[qyj.out]
 try rw[qyk.out]
 clear lp fz qyj qyk;refine xX (by kernel_rfl) [107,108,109,110,111,112,113,114,115,116,117,118,119,120,121,122,123,124,125,126,127,128,129,130,131,132,133,134,135,136,137,138,139,140,141,142,143,144,145,146,147,148,149,150,151,152,153,154,155,156,157,158,159,160,161,162,163,164,165,166,167,168,169,170,171,172,173,174,175,176,177,178,179,180,181,182,183,184,185,186,187,188,189,190,191,192,193,194,195,196,197,198,199,200,201,202,203,204,205,206,207,208,209,210,211,212,213,214,215,216,217,218,219,220,221,0] (by kernel_rfl) (fun L vs W=>Below V0.heap.size V0 W∧∀i,L i=true→i<116→zu gT br or cr g17 g18 S0 S1 S2 S3 i (vs i) W) ⟨(Below.refl _ _).drew,fun i hi=>by cases hi⟩ ?_ ?_ ?_
 ·intro i o L vs ρ W ho cE qf hρ hgd hI;obtain⟨hb,cS⟩:=hI;have hG:∀j,L j=true→zu gT br or cr g17 g18 S0 S1 S2 S3 j (vs j) W:=fun j hj=>by
   by_cases uj:j<116
   ·exact cS j hj uj
   ·match j,uj with
    | j+116,_=>exact trivial
  have rM:i<116:=(Array.getElem?_eq_some_iff.1 ho).1;have hc:=hρ.const;have hfn:=hρ.fn;have next:∀v W',Below W.heap.size W W'→zu gT br or cr g17 g18 S0 S1 S2 S3 i v W'→Below V0.heap.size V0 W'∧∀j,qN L i j=true→j<116→zu gT br or cr g17 g18 S0 S1 S2 S3 j (zZ vs i v j) W':=fun v W' h1 h2=>by
   refine⟨qc hb h1,fun j hj uj=>?_⟩;by_cases uR:j=i
   ·subst uR;simpa[zZ]using h2
   ·simp only[qN,if_neg uR]at hj;simpa[zZ,uR]using qlL gT br or cr g17 g18 S0 S1 S2 S3 j _ W W' uj (cS j hj uj) h1
  have kT:=rR.out.below hb;have k17:=B17.out.below hb;have k18:=B18.out.below hb;have y2:=kT.cell 2;have y3:=kT.cell 3;have y4:=kT.cell 4;have yl:=kT.lt;have z0:=k17.cell 0;have z1:=k17.cell 1;have zl:=k17.lt;have u0:=k18.cell 0;have u1:=k18.cell 1;have ul:=k18.lt;have x0:W.cell? ⟨br,or,none⟩=some (.string S0):=(hb.cell (p:=⟨br,or+0,none⟩) qlM.out).trans HY0.out;have x1:=(hb.cell (p:=⟨br,or+1,none⟩) qlM.out).trans HY1.out;have x2:=(hb.cell (p:=⟨br,or+2,none⟩) qlM.out).trans HY2.out;have x3:=(hb.cell (p:=⟨br,or+3,none⟩) qlM.out).trans HY3.out;have xl:=Nat.lt_of_lt_of_le qlM.out hb.size;simp only[QA,QB,QC]at y2 y3 y4 z0 z1 u0 u1;simp only[List.append_eq,List.cons_append,List.nil_append]at ho;rcases i with _|_|_|_|_|_|_|_|_|_|_|_|_|_|_|_|_|_|_|_|_|_|_|_|_|_|_|_|_|_|_|_|_|_|_|_|_|_|_|_|_|_|_|_|_|_|_|_|_|_|_|_|_|_|_|_|_|_|_|_|_|_|_|_|_|_|_|_|_|_|_|_|_|_|_|_|_|_|_|_|_|_|_|_|_|_|_|_|_|_|_|_|_|_|_|_|_|_|_|_|_|_|_|_|_|_|_|_|_|_|_|_|_|_|_|_|i;all_goals (first|omega|skip)
  all_goals simp only[QA,QB,QC,Option.some.injEq]at ho
  all_goals subst ho
  ·exact qa (w':=W) (by unfold execOp;simp only[hc];go_simp) (next _ _ (Below.refl _ _) rfl)
  ·refine qi (f:=32) (args:=#[]) (w':=W) (by unfold execOp;simp only[hfn,];go_simp) (((qhM H W (vt.yA dX.out (qc yX.out hb) oa.out))).mono ?_);rintro x W' ⟨rfl,hb'⟩;exact⟨_,rfl,next _ _ hb' rfl⟩
  ·have qsR:zu gT br or cr g17 g18 S0 S1 S2 S3 0 (vs 0) W:=hG 0 (qf 0 (by kernel_rfl));have qsS:ρ (.tmp 107)=.bool true:=(hρ.at_ 107 0 rfl).trans qsR;have qsT:zu gT br or cr g17 g18 S0 S1 S2 S3 1 (vs 1) W:=hG 1 (qf 1 (by kernel_rfl));have qsU:ρ (.tmp 108)=.bool true:=(hρ.at_ 108 1 rfl).trans qsT;exact qa (w':=W) (by unfold execOp;simp only[qsS,qsU,hc];go_simp) (next _ _ (Below.refl _ _) rfl)
  ·have qsX:zu gT br or cr g17 g18 S0 S1 S2 S3 2 (vs 2) W:=hG 2 (qf 2 (by kernel_rfl));have qsY:ρ (.tmp 109)=.bool true:=(hρ.at_ 109 2 rfl).trans qsX;exact qa (w':=W) (by unfold execOp;simp only[qsY,hc];go_simp) (next _ _ (Below.refl _ _) rfl)
  ·have o3:ρ (.tmp 3)=.int .i64 2:=hρ.out 3 rfl;exact qa (w':=W) (by unfold execOp;simp only[o3,hc];go_simp) (next _ _ (Below.refl _ _) rfl)
  ·have qsZ:zu gT br or cr g17 g18 S0 S1 S2 S3 4 (vs 4) W:=hG 4 (qf 4 (by kernel_rfl));have qta:ρ (.tmp 111)=.int .i64 2:=(hρ.at_ 111 4 rfl).trans qsZ;exact qa (w':=W) (by unfold execOp;simp only[qta,hc];go_simp) (next _ _ (Below.refl _ _) rfl)
  ·have qsV:zu gT br or cr g17 g18 S0 S1 S2 S3 3 (vs 3) W:=hG 3 (qf 3 (by kernel_rfl));have qsW:ρ (.tmp 110)=.bool true:=(hρ.at_ 110 3 rfl).trans qsV;have qtb:zu gT br or cr g17 g18 S0 S1 S2 S3 5 (vs 5) W:=hG 5 (qf 5 (by kernel_rfl));have qtc:ρ (.tmp 112)=.bool true:=(hρ.at_ 112 5 rfl).trans qtb;exact qa (w':=W) (by unfold execOp;simp only[qsW,qtc,hc];go_simp) (next _ _ (Below.refl _ _) rfl)
  ·have qtj:zu gT br or cr g17 g18 S0 S1 S2 S3 6 (vs 6) W:=hG 6 (qf 6 (by kernel_rfl));have qtk:ρ (.tmp 113)=.bool true:=(hρ.at_ 113 6 rfl).trans qtj;exact qa (w':=W) (by unfold execOp;simp only[qtk,hc];go_simp) (next _ _ (Below.refl _ _) rfl)
  ·have o4:ρ (.tmp 4)=.int .i64 2:=hρ.out 4 rfl;exact qa (w':=W) (by unfold execOp;simp only[o4,hc];go_simp) (next _ _ (Below.refl _ _) rfl)
  ·have qtf:zu gT br or cr g17 g18 S0 S1 S2 S3 8 (vs 8) W:=hG 8 (qf 8 (by kernel_rfl));have qtg:ρ (.tmp 115)=.int .i64 2:=(hρ.at_ 115 8 rfl).trans qtf;exact qa (w':=W) (by unfold execOp;simp only[qtg,hc];go_simp) (next _ _ (Below.refl _ _) rfl)
  ·have qtd:zu gT br or cr g17 g18 S0 S1 S2 S3 7 (vs 7) W:=hG 7 (qf 7 (by kernel_rfl));have qte:ρ (.tmp 114)=.bool true:=(hρ.at_ 114 7 rfl).trans qtd;have qth:zu gT br or cr g17 g18 S0 S1 S2 S3 9 (vs 9) W:=hG 9 (qf 9 (by kernel_rfl));have qti:ρ (.tmp 116)=.bool true:=(hρ.at_ 116 9 rfl).trans qth;exact qa (w':=W) (by unfold execOp;simp only[qte,qti,hc];go_simp) (next _ _ (Below.refl _ _) rfl)
  ·have qtl:zu gT br or cr g17 g18 S0 S1 S2 S3 10 (vs 10) W:=hG 10 (qf 10 (by kernel_rfl));have qtm:ρ (.tmp 117)=.bool true:=(hρ.at_ 117 10 rfl).trans qtl;exact qa (w':=W) (by unfold execOp;simp only[qtm,hc];go_simp) (next _ _ (Below.refl _ _) rfl)
  ·have o5:ρ (.tmp 5)=.int .i64 2:=hρ.out 5 rfl;exact qa (w':=W) (by unfold execOp;simp only[o5,hc];go_simp) (next _ _ (Below.refl _ _) rfl)
  ·have q3r:zu gT br or cr g17 g18 S0 S1 S2 S3 12 (vs 12) W:=hG 12 (qf 12 (by kernel_rfl));have q3s:ρ (.tmp 119)=.int .i64 2:=(hρ.at_ 119 12 rfl).trans q3r;exact qa (w':=W) (by unfold execOp;simp only[q3s,hc];go_simp) (next _ _ (Below.refl _ _) rfl)
  ·have qtn:zu gT br or cr g17 g18 S0 S1 S2 S3 11 (vs 11) W:=hG 11 (qf 11 (by kernel_rfl));have qto:ρ (.tmp 118)=.bool true:=(hρ.at_ 118 11 rfl).trans qtn;have q3t:zu gT br or cr g17 g18 S0 S1 S2 S3 13 (vs 13) W:=hG 13 (qf 13 (by kernel_rfl));have q3u:ρ (.tmp 120)=.bool true:=(hρ.at_ 120 13 rfl).trans q3t;exact qa (w':=W) (by unfold execOp;simp only[qto,q3u,hc];go_simp) (next _ _ (Below.refl _ _) rfl)
  ·have q3v:zu gT br or cr g17 g18 S0 S1 S2 S3 14 (vs 14) W:=hG 14 (qf 14 (by kernel_rfl));have q3w:ρ (.tmp 121)=.bool true:=(hρ.at_ 121 14 rfl).trans q3v;exact qa (w':=W) (by unfold execOp;simp only[q3w,hc];go_simp) (next _ _ (Below.refl _ _) rfl)
  ·have o6:ρ (.tmp 6)=.int .i64 9:=hρ.out 6 rfl;exact qa (w':=W) (by unfold execOp;simp only[o6,hc];go_simp) (next _ _ (Below.refl _ _) rfl)
  ·have q3x:zu gT br or cr g17 g18 S0 S1 S2 S3 16 (vs 16) W:=hG 16 (qf 16 (by kernel_rfl));have q3y:ρ (.tmp 123)=.int .i64 9:=(hρ.at_ 123 16 rfl).trans q3x;exact qa (w':=W) (by unfold execOp;simp only[q3y,hc];go_simp) (next _ _ (Below.refl _ _) rfl)
  ·have q3z:zu gT br or cr g17 g18 S0 S1 S2 S3 15 (vs 15) W:=hG 15 (qf 15 (by kernel_rfl));have q30:ρ (.tmp 122)=.bool true:=(hρ.at_ 122 15 rfl).trans q3z;have q31:zu gT br or cr g17 g18 S0 S1 S2 S3 17 (vs 17) W:=hG 17 (qf 17 (by kernel_rfl));have q32:ρ (.tmp 124)=.bool true:=(hρ.at_ 124 17 rfl).trans q31;exact qa (w':=W) (by unfold execOp;simp only[q30,q32,hc];go_simp) (next _ _ (Below.refl _ _) rfl)
  ·have q33:zu gT br or cr g17 g18 S0 S1 S2 S3 18 (vs 18) W:=hG 18 (qf 18 (by kernel_rfl));have q34:ρ (.tmp 125)=.bool true:=(hρ.at_ 125 18 rfl).trans q33;exact qa (w':=W) (by unfold execOp;simp only[q34,hc];go_simp) (next _ _ (Below.refl _ _) rfl)
  ·have o7:ρ (.tmp 7)=.int .i64 0:=hρ.out 7 rfl;exact qa (w':=W) (by unfold execOp;simp only[o7,hc];go_simp) (next _ _ (Below.refl _ _) rfl)
  ·have q35:zu gT br or cr g17 g18 S0 S1 S2 S3 20 (vs 20) W:=hG 20 (qf 20 (by kernel_rfl));have q36:ρ (.tmp 127)=.int .i64 0:=(hρ.at_ 127 20 rfl).trans q35;exact qa (w':=W) (by unfold execOp;simp only[q36,hc];go_simp) (next _ _ (Below.refl _ _) rfl)
  ·have q37:zu gT br or cr g17 g18 S0 S1 S2 S3 19 (vs 19) W:=hG 19 (qf 19 (by kernel_rfl));have q38:ρ (.tmp 126)=.bool true:=(hρ.at_ 126 19 rfl).trans q37;have q39:zu gT br or cr g17 g18 S0 S1 S2 S3 21 (vs 21) W:=hG 21 (qf 21 (by kernel_rfl));have q3A:ρ (.tmp 128)=.bool true:=(hρ.at_ 128 21 rfl).trans q39;exact qa (w':=W) (by unfold execOp;simp only[q38,q3A,hc];go_simp) (next _ _ (Below.refl _ _) rfl)
  ·have q3B:zu gT br or cr g17 g18 S0 S1 S2 S3 22 (vs 22) W:=hG 22 (qf 22 (by kernel_rfl));have q3C:ρ (.tmp 129)=.bool true:=(hρ.at_ 129 22 rfl).trans q3B;exact qa (w':=W) (by unfold execOp;simp only[q3C,hc];go_simp) (next _ _ (Below.refl _ _) rfl)
  ·have o8:ρ (.tmp 8)=.int .i64 0:=hρ.out 8 rfl;exact qa (w':=W) (by unfold execOp;simp only[o8,hc];go_simp) (next _ _ (Below.refl _ _) rfl)
  ·have q3D:zu gT br or cr g17 g18 S0 S1 S2 S3 24 (vs 24) W:=hG 24 (qf 24 (by kernel_rfl));have q3E:ρ (.tmp 131)=.int .i64 0:=(hρ.at_ 131 24 rfl).trans q3D;exact qa (w':=W) (by unfold execOp;simp only[q3E,hc];go_simp) (next _ _ (Below.refl _ _) rfl)
  ·have q3F:zu gT br or cr g17 g18 S0 S1 S2 S3 23 (vs 23) W:=hG 23 (qf 23 (by kernel_rfl));have q3G:ρ (.tmp 130)=.bool true:=(hρ.at_ 130 23 rfl).trans q3F;have q3H:zu gT br or cr g17 g18 S0 S1 S2 S3 25 (vs 25) W:=hG 25 (qf 25 (by kernel_rfl));have q3I:ρ (.tmp 132)=.bool true:=(hρ.at_ 132 25 rfl).trans q3H;exact qa (w':=W) (by unfold execOp;simp only[q3G,q3I,hc];go_simp) (next _ _ (Below.refl _ _) rfl)
  ·have q3J:zu gT br or cr g17 g18 S0 S1 S2 S3 26 (vs 26) W:=hG 26 (qf 26 (by kernel_rfl));have q3K:ρ (.tmp 133)=.bool true:=(hρ.at_ 133 26 rfl).trans q3J;exact qa (w':=W) (by unfold execOp;simp only[q3K,hc];go_simp) (next _ _ (Below.refl _ _) rfl)
  ·have o9:ρ (.tmp 9)=.int .i64 10:=hρ.out 9 rfl;exact qa (w':=W) (by unfold execOp;simp only[o9,hc];go_simp) (next _ _ (Below.refl _ _) rfl)
  ·have q3L:zu gT br or cr g17 g18 S0 S1 S2 S3 28 (vs 28) W:=hG 28 (qf 28 (by kernel_rfl));have q3M:ρ (.tmp 135)=.int .i64 10:=(hρ.at_ 135 28 rfl).trans q3L;exact qa (w':=W) (by unfold execOp;simp only[q3M,hc];go_simp) (next _ _ (Below.refl _ _) rfl)
  ·have q3N:zu gT br or cr g17 g18 S0 S1 S2 S3 27 (vs 27) W:=hG 27 (qf 27 (by kernel_rfl));have q3O:ρ (.tmp 134)=.bool true:=(hρ.at_ 134 27 rfl).trans q3N;have q3P:zu gT br or cr g17 g18 S0 S1 S2 S3 29 (vs 29) W:=hG 29 (qf 29 (by kernel_rfl));have q3Q:ρ (.tmp 136)=.bool true:=(hρ.at_ 136 29 rfl).trans q3P;exact qa (w':=W) (by unfold execOp;simp only[q3O,q3Q,hc];go_simp) (next _ _ (Below.refl _ _) rfl)
  ·have q3R:zu gT br or cr g17 g18 S0 S1 S2 S3 30 (vs 30) W:=hG 30 (qf 30 (by kernel_rfl));have q3S:ρ (.tmp 137)=.bool true:=(hρ.at_ 137 30 rfl).trans q3R;exact qa (w':=W) (by unfold execOp;simp only[q3S,hc];go_simp) (next _ _ (Below.refl _ _) rfl)
  ·have o10:ρ (.tmp 10)=.int .i64 10:=hρ.out 10 rfl;exact qa (w':=W) (by unfold execOp;simp only[o10,hc];go_simp) (next _ _ (Below.refl _ _) rfl)
  ·have q3T:zu gT br or cr g17 g18 S0 S1 S2 S3 32 (vs 32) W:=hG 32 (qf 32 (by kernel_rfl));have q3U:ρ (.tmp 139)=.int .i64 10:=(hρ.at_ 139 32 rfl).trans q3T;exact qa (w':=W) (by unfold execOp;simp only[q3U,hc];go_simp) (next _ _ (Below.refl _ _) rfl)
  ·have q3V:zu gT br or cr g17 g18 S0 S1 S2 S3 31 (vs 31) W:=hG 31 (qf 31 (by kernel_rfl));have q3W:ρ (.tmp 138)=.bool true:=(hρ.at_ 138 31 rfl).trans q3V;have q3X:zu gT br or cr g17 g18 S0 S1 S2 S3 33 (vs 33) W:=hG 33 (qf 33 (by kernel_rfl));have q3Y:ρ (.tmp 140)=.bool true:=(hρ.at_ 140 33 rfl).trans q3X;exact qa (w':=W) (by unfold execOp;simp only[q3W,q3Y,hc];go_simp) (next _ _ (Below.refl _ _) rfl)
  ·have q3Z:zu gT br or cr g17 g18 S0 S1 S2 S3 34 (vs 34) W:=hG 34 (qf 34 (by kernel_rfl));have q4a:ρ (.tmp 141)=.bool true:=(hρ.at_ 141 34 rfl).trans q3Z;exact qa (w':=W) (by unfold execOp;simp only[q4a,hc];go_simp) (next _ _ (Below.refl _ _) rfl)
  ·have o11:ρ (.tmp 11)=.int .i64 0:=hρ.out 11 rfl;exact qa (w':=W) (by unfold execOp;simp only[o11,hc];go_simp) (next _ _ (Below.refl _ _) rfl)
  ·have q4b:zu gT br or cr g17 g18 S0 S1 S2 S3 36 (vs 36) W:=hG 36 (qf 36 (by kernel_rfl));have q4c:ρ (.tmp 143)=.int .i64 0:=(hρ.at_ 143 36 rfl).trans q4b;exact qa (w':=W) (by unfold execOp;simp only[q4c,hc];go_simp) (next _ _ (Below.refl _ _) rfl)
  ·have q4d:zu gT br or cr g17 g18 S0 S1 S2 S3 35 (vs 35) W:=hG 35 (qf 35 (by kernel_rfl));have q4e:ρ (.tmp 142)=.bool true:=(hρ.at_ 142 35 rfl).trans q4d;have q4f:zu gT br or cr g17 g18 S0 S1 S2 S3 37 (vs 37) W:=hG 37 (qf 37 (by kernel_rfl));have q4g:ρ (.tmp 144)=.bool true:=(hρ.at_ 144 37 rfl).trans q4f;exact qa (w':=W) (by unfold execOp;simp only[q4e,q4g,hc];go_simp) (next _ _ (Below.refl _ _) rfl)
  ·have q4h:zu gT br or cr g17 g18 S0 S1 S2 S3 38 (vs 38) W:=hG 38 (qf 38 (by kernel_rfl));have q4i:ρ (.tmp 145)=.bool true:=(hρ.at_ 145 38 rfl).trans q4h;exact qa (w':=W) (by unfold execOp;simp only[q4i,hc];go_simp) (next _ _ (Below.refl _ _) rfl)
  ·have o12:ρ (.tmp 12)=pt gT:=hρ.out 12 rfl;exact qa (w':=W) (by unfold execOp;simp only[o12,hc];go_simp) (next _ _ (Below.refl _ _) rfl)
  ·have q4k:zu gT br or cr g17 g18 S0 S1 S2 S3 40 (vs 40) W:=hG 40 (qf 40 (by kernel_rfl));have q4l:ρ (.tmp 147)=.pointer (some ⟨gT,2,none⟩):=(hρ.at_ 147 40 rfl).trans q4k;exact qa (w':=W) (by unfold execOp;simp only[q4l,hc];go_simp) (next _ _ (Below.refl _ _) rfl)
  ·refine qi (f:=40) (args:=#[.int .u64 1,.int .u64 3]) (w':=W) (by unfold execOp;simp only[hfn,];go_simp) (((qF 1 3 W)).mono ?_);rintro x W' ⟨rfl,hb'⟩;exact⟨_,rfl,next _ _ hb' rfl⟩
  ·have q4m:zu gT br or cr g17 g18 S0 S1 S2 S3 41 (vs 41) W:=hG 41 (qf 41 (by kernel_rfl));have q4n:ρ (.tmp 148)=.agg #[.int .u64 1,.int .u64 3]:=(hρ.at_ 148 41 rfl).trans q4m;have q4o:zu gT br or cr g17 g18 S0 S1 S2 S3 42 (vs 42) W:=hG 42 (qf 42 (by kernel_rfl));have q4p:ρ (.tmp 149)=.agg #[.int .u64 1,.int .u64 3]:=(hρ.at_ 149 42 rfl).trans q4o;exact qa (w':=W) (by unfold execOp;simp only[q4n,q4p,hc];go_simp) (next _ _ (Below.refl _ _) rfl)
  ·have q4q:zu gT br or cr g17 g18 S0 S1 S2 S3 39 (vs 39) W:=hG 39 (qf 39 (by kernel_rfl));have q4r:ρ (.tmp 146)=.bool true:=(hρ.at_ 146 39 rfl).trans q4q;have q4s:zu gT br or cr g17 g18 S0 S1 S2 S3 43 (vs 43) W:=hG 43 (qf 43 (by kernel_rfl));have q4t:ρ (.tmp 150)=.bool true:=(hρ.at_ 150 43 rfl).trans q4s;exact qa (w':=W) (by unfold execOp;simp only[q4r,q4t,hc];go_simp) (next _ _ (Below.refl _ _) rfl)
  ·have q4u:zu gT br or cr g17 g18 S0 S1 S2 S3 44 (vs 44) W:=hG 44 (qf 44 (by kernel_rfl));have q4v:ρ (.tmp 151)=.bool true:=(hρ.at_ 151 44 rfl).trans q4u;exact qa (w':=W) (by unfold execOp;simp only[q4v,hc];go_simp) (next _ _ (Below.refl _ _) rfl)
  ·have o12:ρ (.tmp 12)=pt gT:=hρ.out 12 rfl;exact qa (w':=W) (by unfold execOp;simp only[o12,hc];go_simp) (next _ _ (Below.refl _ _) rfl)
  ·have q4w:zu gT br or cr g17 g18 S0 S1 S2 S3 46 (vs 46) W:=hG 46 (qf 46 (by kernel_rfl));have q4x:ρ (.tmp 153)=.pointer (some ⟨gT,4,none⟩):=(hρ.at_ 153 46 rfl).trans q4w;exact qa (w':=W) (by unfold execOp;simp only[q4x,hc];go_simp) (next _ _ (Below.refl _ _) rfl)
  ·have q4y:zu gT br or cr g17 g18 S0 S1 S2 S3 47 (vs 47) W:=hG 47 (qf 47 (by kernel_rfl));have q4z:ρ (.tmp 154)=.int .i64 1:=(hρ.at_ 154 47 rfl).trans q4y;exact qa (w':=W) (by unfold execOp;simp only[q4z,hc];go_simp) (next _ _ (Below.refl _ _) rfl)
  ·have q40:zu gT br or cr g17 g18 S0 S1 S2 S3 45 (vs 45) W:=hG 45 (qf 45 (by kernel_rfl));have q41:ρ (.tmp 152)=.bool true:=(hρ.at_ 152 45 rfl).trans q40;have q42:zu gT br or cr g17 g18 S0 S1 S2 S3 48 (vs 48) W:=hG 48 (qf 48 (by kernel_rfl));have q43:ρ (.tmp 155)=.bool true:=(hρ.at_ 155 48 rfl).trans q42;exact qa (w':=W) (by unfold execOp;simp only[q41,q43,hc];go_simp) (next _ _ (Below.refl _ _) rfl)
  ·have q44:zu gT br or cr g17 g18 S0 S1 S2 S3 49 (vs 49) W:=hG 49 (qf 49 (by kernel_rfl));have q45:ρ (.tmp 156)=.bool true:=(hρ.at_ 156 49 rfl).trans q44;exact qa (w':=W) (by unfold execOp;simp only[q45,hc];go_simp) (next _ _ (Below.refl _ _) rfl)
  ·have o13:ρ (.tmp 13)=.int .i64 0:=hρ.out 13 rfl;exact qa (w':=W) (by unfold execOp;simp only[o13,hc];go_simp) (next _ _ (Below.refl _ _) rfl)
  ·have q46:zu gT br or cr g17 g18 S0 S1 S2 S3 51 (vs 51) W:=hG 51 (qf 51 (by kernel_rfl));have q47:ρ (.tmp 158)=.int .i64 0:=(hρ.at_ 158 51 rfl).trans q46;exact qa (w':=W) (by unfold execOp;simp only[q47,hc];go_simp) (next _ _ (Below.refl _ _) rfl)
  ·have q48:zu gT br or cr g17 g18 S0 S1 S2 S3 50 (vs 50) W:=hG 50 (qf 50 (by kernel_rfl));have q49:ρ (.tmp 157)=.bool true:=(hρ.at_ 157 50 rfl).trans q48;have q4A:zu gT br or cr g17 g18 S0 S1 S2 S3 52 (vs 52) W:=hG 52 (qf 52 (by kernel_rfl));have q4B:ρ (.tmp 159)=.bool true:=(hρ.at_ 159 52 rfl).trans q4A;exact qa (w':=W) (by unfold execOp;simp only[q49,q4B,hc];go_simp) (next _ _ (Below.refl _ _) rfl)
  ·have q4C:zu gT br or cr g17 g18 S0 S1 S2 S3 53 (vs 53) W:=hG 53 (qf 53 (by kernel_rfl));have q4D:ρ (.tmp 160)=.bool true:=(hρ.at_ 160 53 rfl).trans q4C;exact qa (w':=W) (by unfold execOp;simp only[q4D,hc];go_simp) (next _ _ (Below.refl _ _) rfl)
  ·have o15:ρ (.tmp 15)=.int .i64 0:=hρ.out 15 rfl;exact qa (w':=W) (by unfold execOp;simp only[o15,hc];go_simp) (next _ _ (Below.refl _ _) rfl)
  ·have q4E:zu gT br or cr g17 g18 S0 S1 S2 S3 55 (vs 55) W:=hG 55 (qf 55 (by kernel_rfl));have q4F:ρ (.tmp 162)=.int .i64 0:=(hρ.at_ 162 55 rfl).trans q4E;exact qa (w':=W) (by unfold execOp;simp only[q4F,hc];go_simp) (next _ _ (Below.refl _ _) rfl)
  ·have q4G:zu gT br or cr g17 g18 S0 S1 S2 S3 54 (vs 54) W:=hG 54 (qf 54 (by kernel_rfl));have q4H:ρ (.tmp 161)=.bool true:=(hρ.at_ 161 54 rfl).trans q4G;have q4I:zu gT br or cr g17 g18 S0 S1 S2 S3 56 (vs 56) W:=hG 56 (qf 56 (by kernel_rfl));have q4J:ρ (.tmp 163)=.bool true:=(hρ.at_ 163 56 rfl).trans q4I;exact qa (w':=W) (by unfold execOp;simp only[q4H,q4J,hc];go_simp) (next _ _ (Below.refl _ _) rfl)
  ·have q4K:zu gT br or cr g17 g18 S0 S1 S2 S3 57 (vs 57) W:=hG 57 (qf 57 (by kernel_rfl));have q4L:ρ (.tmp 164)=.bool true:=(hρ.at_ 164 57 rfl).trans q4K;exact qa (w':=W) (by unfold execOp;simp only[q4L,hc];go_simp) (next _ _ (Below.refl _ _) rfl)
  ·have o14:ρ (.tmp 14)=.slice (some ⟨br,or,none⟩) 4 cr:=hρ.out 14 rfl;exact qa (w':=W) (by unfold execOp;simp only[o14,hc];go_simp) (next _ _ (Below.refl _ _) rfl)
  ·have q4M:zu gT br or cr g17 g18 S0 S1 S2 S3 59 (vs 59) W:=hG 59 (qf 59 (by kernel_rfl));have q4N:ρ (.tmp 166)=.slice (some ⟨br,or,none⟩) 4 cr:=(hρ.at_ 166 59 rfl).trans q4M;exact qa (w':=W) (by unfold execOp;simp only[q4N,hc];go_simp) (next _ _ (Below.refl _ _) rfl)
  ·have q4O:zu gT br or cr g17 g18 S0 S1 S2 S3 60 (vs 60) W:=hG 60 (qf 60 (by kernel_rfl));have q4P:ρ (.tmp 167)=.int .i64 4:=(hρ.at_ 167 60 rfl).trans q4O;exact qa (w':=W) (by unfold execOp;simp only[q4P,hc];go_simp) (next _ _ (Below.refl _ _) rfl)
  ·have q4Q:zu gT br or cr g17 g18 S0 S1 S2 S3 58 (vs 58) W:=hG 58 (qf 58 (by kernel_rfl));have q4R:ρ (.tmp 165)=.bool true:=(hρ.at_ 165 58 rfl).trans q4Q;have q4S:zu gT br or cr g17 g18 S0 S1 S2 S3 61 (vs 61) W:=hG 61 (qf 61 (by kernel_rfl));have q4T:ρ (.tmp 168)=.bool true:=(hρ.at_ 168 61 rfl).trans q4S;exact qa (w':=W) (by unfold execOp;simp only[q4R,q4T,hc];go_simp) (next _ _ (Below.refl _ _) rfl)
  ·have q4U:zu gT br or cr g17 g18 S0 S1 S2 S3 62 (vs 62) W:=hG 62 (qf 62 (by kernel_rfl));have q4V:ρ (.tmp 169)=.bool true:=(hρ.at_ 169 62 rfl).trans q4U;exact qa (w':=W) (by unfold execOp;simp only[q4V,hc];go_simp) (next _ _ (Below.refl _ _) rfl)
  ·have o14:ρ (.tmp 14)=.slice (some ⟨br,or,none⟩) 4 cr:=hρ.out 14 rfl;exact qa (w':=W) (by unfold execOp;simp only[o14,hc];go_simp) (next _ _ (Below.refl _ _) rfl)
  ·have q4W:zu gT br or cr g17 g18 S0 S1 S2 S3 64 (vs 64) W:=hG 64 (qf 64 (by kernel_rfl));have q4X:ρ (.tmp 171)=.slice (some ⟨br,or,none⟩) 4 cr:=(hρ.at_ 171 64 rfl).trans q4W;exact qa (w':=W) (by unfold execOp;simp only[q4X,hc];go_simp) (next _ _ (Below.refl _ _) rfl)
  ·have q4Y:zu gT br or cr g17 g18 S0 S1 S2 S3 65 (vs 65) W:=hG 65 (qf 65 (by kernel_rfl));have q4Z:ρ (.tmp 172)=.pointer (some ⟨br,or+0,none⟩):=(hρ.at_ 172 65 rfl).trans q4Y;exact qa (w':=W) (by unfold execOp;simp only[q4Z,hc];go_simp) (next _ _ (Below.refl _ _) rfl)
  ·refine qi (f:=14) (args:=#[.int .u8 121]) (w':=W) (by unfold execOp;simp only[hfn,];go_simp) (((HD0.out W)).mono ?_);rintro x W' ⟨rfl,hb'⟩;exact⟨_,rfl,next _ _ hb' rfl⟩
  ·have q5a:zu gT br or cr g17 g18 S0 S1 S2 S3 66 (vs 66) W:=hG 66 (qf 66 (by kernel_rfl));have q5b:ρ (.tmp 173)=.string S0:=(hρ.at_ 173 66 rfl).trans q5a;have q5c:zu gT br or cr g17 g18 S0 S1 S2 S3 67 (vs 67) W:=hG 67 (qf 67 (by kernel_rfl));have q5d:ρ (.tmp 174)=.string S0:=(hρ.at_ 174 67 rfl).trans q5c;exact qa (w':=W) (by unfold execOp;simp only[q5b,q5d,hc];go_simp) (next _ _ (Below.refl _ _) rfl)
  ·have q5e:zu gT br or cr g17 g18 S0 S1 S2 S3 63 (vs 63) W:=hG 63 (qf 63 (by kernel_rfl));have q5f:ρ (.tmp 170)=.bool true:=(hρ.at_ 170 63 rfl).trans q5e;have q5g:zu gT br or cr g17 g18 S0 S1 S2 S3 68 (vs 68) W:=hG 68 (qf 68 (by kernel_rfl));have q5h:ρ (.tmp 175)=.bool true:=(hρ.at_ 175 68 rfl).trans q5g;exact qa (w':=W) (by unfold execOp;simp only[q5f,q5h,hc];go_simp) (next _ _ (Below.refl _ _) rfl)
  ·have q5i:zu gT br or cr g17 g18 S0 S1 S2 S3 69 (vs 69) W:=hG 69 (qf 69 (by kernel_rfl));have q5j:ρ (.tmp 176)=.bool true:=(hρ.at_ 176 69 rfl).trans q5i;exact qa (w':=W) (by unfold execOp;simp only[q5j,hc];go_simp) (next _ _ (Below.refl _ _) rfl)
  ·have o14:ρ (.tmp 14)=.slice (some ⟨br,or,none⟩) 4 cr:=hρ.out 14 rfl;exact qa (w':=W) (by unfold execOp;simp only[o14,hc];go_simp) (next _ _ (Below.refl _ _) rfl)
  ·have q5k:zu gT br or cr g17 g18 S0 S1 S2 S3 71 (vs 71) W:=hG 71 (qf 71 (by kernel_rfl));have q5l:ρ (.tmp 178)=.slice (some ⟨br,or,none⟩) 4 cr:=(hρ.at_ 178 71 rfl).trans q5k;exact qa (w':=W) (by unfold execOp;simp only[q5l,hc];go_simp) (next _ _ (Below.refl _ _) rfl)
  ·have q5m:zu gT br or cr g17 g18 S0 S1 S2 S3 72 (vs 72) W:=hG 72 (qf 72 (by kernel_rfl));have q5n:ρ (.tmp 179)=.pointer (some ⟨br,or+1,none⟩):=(hρ.at_ 179 72 rfl).trans q5m;exact qa (w':=W) (by unfold execOp;simp only[q5n,hc];go_simp) (next _ _ (Below.refl _ _) rfl)
  ·refine qi (f:=14) (args:=#[.int .u8 0]) (w':=W) (by unfold execOp;simp only[hfn,];go_simp) (((HD1.out W)).mono ?_);rintro x W' ⟨rfl,hb'⟩;exact⟨_,rfl,next _ _ hb' rfl⟩
  ·have q5o:zu gT br or cr g17 g18 S0 S1 S2 S3 73 (vs 73) W:=hG 73 (qf 73 (by kernel_rfl));have q5p:ρ (.tmp 180)=.string S1:=(hρ.at_ 180 73 rfl).trans q5o;have q5q:zu gT br or cr g17 g18 S0 S1 S2 S3 74 (vs 74) W:=hG 74 (qf 74 (by kernel_rfl));have q5r:ρ (.tmp 181)=.string S1:=(hρ.at_ 181 74 rfl).trans q5q;exact qa (w':=W) (by unfold execOp;simp only[q5p,q5r,hc];go_simp) (next _ _ (Below.refl _ _) rfl)
  ·have q5s:zu gT br or cr g17 g18 S0 S1 S2 S3 70 (vs 70) W:=hG 70 (qf 70 (by kernel_rfl));have q5t:ρ (.tmp 177)=.bool true:=(hρ.at_ 177 70 rfl).trans q5s;have q5u:zu gT br or cr g17 g18 S0 S1 S2 S3 75 (vs 75) W:=hG 75 (qf 75 (by kernel_rfl));have q5v:ρ (.tmp 182)=.bool true:=(hρ.at_ 182 75 rfl).trans q5u;exact qa (w':=W) (by unfold execOp;simp only[q5t,q5v,hc];go_simp) (next _ _ (Below.refl _ _) rfl)
  ·have q5w:zu gT br or cr g17 g18 S0 S1 S2 S3 76 (vs 76) W:=hG 76 (qf 76 (by kernel_rfl));have q5x:ρ (.tmp 183)=.bool true:=(hρ.at_ 183 76 rfl).trans q5w;exact qa (w':=W) (by unfold execOp;simp only[q5x,hc];go_simp) (next _ _ (Below.refl _ _) rfl)
  ·have o14:ρ (.tmp 14)=.slice (some ⟨br,or,none⟩) 4 cr:=hρ.out 14 rfl;exact qa (w':=W) (by unfold execOp;simp only[o14,hc];go_simp) (next _ _ (Below.refl _ _) rfl)
  ·have q5y:zu gT br or cr g17 g18 S0 S1 S2 S3 78 (vs 78) W:=hG 78 (qf 78 (by kernel_rfl));have q5z:ρ (.tmp 185)=.slice (some ⟨br,or,none⟩) 4 cr:=(hρ.at_ 185 78 rfl).trans q5y;exact qa (w':=W) (by unfold execOp;simp only[q5z,hc];go_simp) (next _ _ (Below.refl _ _) rfl)
  ·have q50:zu gT br or cr g17 g18 S0 S1 S2 S3 79 (vs 79) W:=hG 79 (qf 79 (by kernel_rfl));have q51:ρ (.tmp 186)=.pointer (some ⟨br,or+2,none⟩):=(hρ.at_ 186 79 rfl).trans q50;exact qa (w':=W) (by unfold execOp;simp only[q51,hc];go_simp) (next _ _ (Below.refl _ _) rfl)
  ·refine qi (f:=14) (args:=#[.int .u8 120]) (w':=W) (by unfold execOp;simp only[hfn,];go_simp) (((HD2.out W)).mono ?_);rintro x W' ⟨rfl,hb'⟩;exact⟨_,rfl,next _ _ hb' rfl⟩
  ·have q52:zu gT br or cr g17 g18 S0 S1 S2 S3 80 (vs 80) W:=hG 80 (qf 80 (by kernel_rfl));have q53:ρ (.tmp 187)=.string S2:=(hρ.at_ 187 80 rfl).trans q52;have q54:zu gT br or cr g17 g18 S0 S1 S2 S3 81 (vs 81) W:=hG 81 (qf 81 (by kernel_rfl));have q55:ρ (.tmp 188)=.string S2:=(hρ.at_ 188 81 rfl).trans q54;exact qa (w':=W) (by unfold execOp;simp only[q53,q55,hc];go_simp) (next _ _ (Below.refl _ _) rfl)
  ·have q56:zu gT br or cr g17 g18 S0 S1 S2 S3 77 (vs 77) W:=hG 77 (qf 77 (by kernel_rfl));have q57:ρ (.tmp 184)=.bool true:=(hρ.at_ 184 77 rfl).trans q56;have q58:zu gT br or cr g17 g18 S0 S1 S2 S3 82 (vs 82) W:=hG 82 (qf 82 (by kernel_rfl));have q59:ρ (.tmp 189)=.bool true:=(hρ.at_ 189 82 rfl).trans q58;exact qa (w':=W) (by unfold execOp;simp only[q57,q59,hc];go_simp) (next _ _ (Below.refl _ _) rfl)
  ·have q5A:zu gT br or cr g17 g18 S0 S1 S2 S3 83 (vs 83) W:=hG 83 (qf 83 (by kernel_rfl));have q5B:ρ (.tmp 190)=.bool true:=(hρ.at_ 190 83 rfl).trans q5A;exact qa (w':=W) (by unfold execOp;simp only[q5B,hc];go_simp) (next _ _ (Below.refl _ _) rfl)
  ·have o14:ρ (.tmp 14)=.slice (some ⟨br,or,none⟩) 4 cr:=hρ.out 14 rfl;exact qa (w':=W) (by unfold execOp;simp only[o14,hc];go_simp) (next _ _ (Below.refl _ _) rfl)
  ·have q5C:zu gT br or cr g17 g18 S0 S1 S2 S3 85 (vs 85) W:=hG 85 (qf 85 (by kernel_rfl));have q5D:ρ (.tmp 192)=.slice (some ⟨br,or,none⟩) 4 cr:=(hρ.at_ 192 85 rfl).trans q5C;exact qa (w':=W) (by unfold execOp;simp only[q5D,hc];go_simp) (next _ _ (Below.refl _ _) rfl)
  ·have q5E:zu gT br or cr g17 g18 S0 S1 S2 S3 86 (vs 86) W:=hG 86 (qf 86 (by kernel_rfl));have q5F:ρ (.tmp 193)=.pointer (some ⟨br,or+3,none⟩):=(hρ.at_ 193 86 rfl).trans q5E;exact qa (w':=W) (by unfold execOp;simp only[q5F,hc];go_simp) (next _ _ (Below.refl _ _) rfl)
  ·refine qi (f:=14) (args:=#[.int .u8 122]) (w':=W) (by unfold execOp;simp only[hfn,];go_simp) (((HD3.out W)).mono ?_);rintro x W' ⟨rfl,hb'⟩;exact⟨_,rfl,next _ _ hb' rfl⟩
  ·have q5G:zu gT br or cr g17 g18 S0 S1 S2 S3 87 (vs 87) W:=hG 87 (qf 87 (by kernel_rfl));have q5H:ρ (.tmp 194)=.string S3:=(hρ.at_ 194 87 rfl).trans q5G;have q5I:zu gT br or cr g17 g18 S0 S1 S2 S3 88 (vs 88) W:=hG 88 (qf 88 (by kernel_rfl));have q5J:ρ (.tmp 195)=.string S3:=(hρ.at_ 195 88 rfl).trans q5I;exact qa (w':=W) (by unfold execOp;simp only[q5H,q5J,hc];go_simp) (next _ _ (Below.refl _ _) rfl)
  ·have q5K:zu gT br or cr g17 g18 S0 S1 S2 S3 84 (vs 84) W:=hG 84 (qf 84 (by kernel_rfl));have q5L:ρ (.tmp 191)=.bool true:=(hρ.at_ 191 84 rfl).trans q5K;have q5M:zu gT br or cr g17 g18 S0 S1 S2 S3 89 (vs 89) W:=hG 89 (qf 89 (by kernel_rfl));have q5N:ρ (.tmp 196)=.bool true:=(hρ.at_ 196 89 rfl).trans q5M;exact qa (w':=W) (by unfold execOp;simp only[q5L,q5N,hc];go_simp) (next _ _ (Below.refl _ _) rfl)
  ·have q5O:zu gT br or cr g17 g18 S0 S1 S2 S3 90 (vs 90) W:=hG 90 (qf 90 (by kernel_rfl));have q5P:ρ (.tmp 197)=.bool true:=(hρ.at_ 197 90 rfl).trans q5O;exact qa (w':=W) (by unfold execOp;simp only[q5P,hc];go_simp) (next _ _ (Below.refl _ _) rfl)
  ·refine qi (f:=40) (args:=#[.int .u64 1,.int .u64 1]) (w':=W) (by unfold execOp;simp only[hfn,];go_simp) (((qF 1 1 W)).mono ?_);rintro x W' ⟨rfl,hb'⟩;exact⟨_,rfl,next _ _ hb' rfl⟩
  ·have q5Q:zu gT br or cr g17 g18 S0 S1 S2 S3 92 (vs 92) W:=hG 92 (qf 92 (by kernel_rfl));have q5R:ρ (.tmp 199)=.agg #[.int .u64 1,.int .u64 1]:=(hρ.at_ 199 92 rfl).trans q5Q;exact qa (w':=W) (by unfold execOp;simp only[q5R,hc];go_simp) (next _ _ (Below.refl _ _) rfl)
  ·have q5S:zu gT br or cr g17 g18 S0 S1 S2 S3 93 (vs 93) W:=hG 93 (qf 93 (by kernel_rfl));have q5T:ρ (.tmp 200)=.agg #[.int .u64 0,.int .u64 0,.int .u64 1,.int .u64 1,.int .i64 0,.int .i64 0,.slice none 0 0]:=(hρ.at_ 200 93 rfl).trans q5S;refine qi (f:=25) (args:=#[.pointer none,.agg #[.int .u64 0,.int .u64 0,.int .u64 1,.int .u64 1,.int .i64 0,.int .i64 0,.slice none 0 0]]) (w':=W) (by unfold execOp;simp only[hfn,q5T];go_simp) (((take_nil H none 0 k8 W)).mono ?_);rintro x W' ⟨rfl,hb'⟩;exact⟨_,rfl,next _ _ hb' rfl⟩
  ·have q5U:zu gT br or cr g17 g18 S0 S1 S2 S3 94 (vs 94) W:=hG 94 (qf 94 (by kernel_rfl));have q5V:ρ (.tmp 201)=.int .i64 1:=(hρ.at_ 201 94 rfl).trans q5U;exact qa (w':=W) (by unfold execOp;simp only[q5V,hc];go_simp) (next _ _ (Below.refl _ _) rfl)
  ·have q5W:zu gT br or cr g17 g18 S0 S1 S2 S3 91 (vs 91) W:=hG 91 (qf 91 (by kernel_rfl));have q5X:ρ (.tmp 198)=.bool true:=(hρ.at_ 198 91 rfl).trans q5W;have q5Y:zu gT br or cr g17 g18 S0 S1 S2 S3 95 (vs 95) W:=hG 95 (qf 95 (by kernel_rfl));have q5Z:ρ (.tmp 202)=.bool true:=(hρ.at_ 202 95 rfl).trans q5Y;exact qa (w':=W) (by unfold execOp;simp only[q5X,q5Z,hc];go_simp) (next _ _ (Below.refl _ _) rfl)
  ·have q6a:zu gT br or cr g17 g18 S0 S1 S2 S3 96 (vs 96) W:=hG 96 (qf 96 (by kernel_rfl));have q6b:ρ (.tmp 203)=.bool true:=(hρ.at_ 203 96 rfl).trans q6a;exact qa (w':=W) (by unfold execOp;simp only[q6b,hc];go_simp) (next _ _ (Below.refl _ _) rfl)
  ·have o16:ρ (.tmp 16)=.int .i64 0:=hρ.out 16 rfl;exact qa (w':=W) (by unfold execOp;simp only[o16,hc];go_simp) (next _ _ (Below.refl _ _) rfl)
  ·have q6c:zu gT br or cr g17 g18 S0 S1 S2 S3 98 (vs 98) W:=hG 98 (qf 98 (by kernel_rfl));have q6d:ρ (.tmp 205)=.int .i64 0:=(hρ.at_ 205 98 rfl).trans q6c;exact qa (w':=W) (by unfold execOp;simp only[q6d,hc];go_simp) (next _ _ (Below.refl _ _) rfl)
  ·have q6e:zu gT br or cr g17 g18 S0 S1 S2 S3 97 (vs 97) W:=hG 97 (qf 97 (by kernel_rfl));have q6f:ρ (.tmp 204)=.bool true:=(hρ.at_ 204 97 rfl).trans q6e;have q6g:zu gT br or cr g17 g18 S0 S1 S2 S3 99 (vs 99) W:=hG 99 (qf 99 (by kernel_rfl));have q6h:ρ (.tmp 206)=.bool true:=(hρ.at_ 206 99 rfl).trans q6g;exact qa (w':=W) (by unfold execOp;simp only[q6f,q6h,hc];go_simp) (next _ _ (Below.refl _ _) rfl)
  ·have q6i:zu gT br or cr g17 g18 S0 S1 S2 S3 100 (vs 100) W:=hG 100 (qf 100 (by kernel_rfl));have q6j:ρ (.tmp 207)=.bool true:=(hρ.at_ 207 100 rfl).trans q6i;exact qa (w':=W) (by unfold execOp;simp only[q6j,hc];go_simp) (next _ _ (Below.refl _ _) rfl)
  ·have o17:ρ (.tmp 17)=pt g17:=hρ.out 17 rfl;exact qa (w':=W) (by unfold execOp;simp only[o17,hc];go_simp) (next _ _ (Below.refl _ _) rfl)
  ·refine qi (f:=40) (args:=#[.int .u64 0,.int .u64 0]) (w':=W) (by unfold execOp;simp only[hfn,];go_simp) (((qF 0 0 W)).mono ?_);rintro x W' ⟨rfl,hb'⟩;exact⟨_,rfl,next _ _ hb' rfl⟩
  ·have q6k:zu gT br or cr g17 g18 S0 S1 S2 S3 102 (vs 102) W:=hG 102 (qf 102 (by kernel_rfl));have q6l:ρ (.tmp 209)=.agg #[.int .u64 0,.int .u64 0]:=(hρ.at_ 209 102 rfl).trans q6k;have q6m:zu gT br or cr g17 g18 S0 S1 S2 S3 103 (vs 103) W:=hG 103 (qf 103 (by kernel_rfl));have q6n:ρ (.tmp 210)=.agg #[.int .u64 0,.int .u64 0]:=(hρ.at_ 210 103 rfl).trans q6m;exact qa (w':=W) (by unfold execOp;simp only[q6l,q6n,hc];go_simp) (next _ _ (Below.refl _ _) rfl)
  ·have q6o:zu gT br or cr g17 g18 S0 S1 S2 S3 101 (vs 101) W:=hG 101 (qf 101 (by kernel_rfl));have q6p:ρ (.tmp 208)=.bool true:=(hρ.at_ 208 101 rfl).trans q6o;have q6q:zu gT br or cr g17 g18 S0 S1 S2 S3 104 (vs 104) W:=hG 104 (qf 104 (by kernel_rfl));have q6r:ρ (.tmp 211)=.bool true:=(hρ.at_ 211 104 rfl).trans q6q;exact qa (w':=W) (by unfold execOp;simp only[q6p,q6r,hc];go_simp) (next _ _ (Below.refl _ _) rfl)
  ·have q6s:zu gT br or cr g17 g18 S0 S1 S2 S3 105 (vs 105) W:=hG 105 (qf 105 (by kernel_rfl));have q6t:ρ (.tmp 212)=.bool true:=(hρ.at_ 212 105 rfl).trans q6s;exact qa (w':=W) (by unfold execOp;simp only[q6t,hc];go_simp) (next _ _ (Below.refl _ _) rfl)
  ·have o18:ρ (.tmp 18)=pt g18:=hρ.out 18 rfl;exact qa (w':=W) (by unfold execOp;simp only[o18,hc];go_simp) (next _ _ (Below.refl _ _) rfl)
  ·refine qi (f:=40) (args:=#[.int .u64 0,.int .u64 0]) (w':=W) (by unfold execOp;simp only[hfn,];go_simp) (((qF 0 0 W)).mono ?_);rintro x W' ⟨rfl,hb'⟩;exact⟨_,rfl,next _ _ hb' rfl⟩
  ·have q6u:zu gT br or cr g17 g18 S0 S1 S2 S3 107 (vs 107) W:=hG 107 (qf 107 (by kernel_rfl));have q6v:ρ (.tmp 214)=.agg #[.int .u64 0,.int .u64 0]:=(hρ.at_ 214 107 rfl).trans q6u;have q6w:zu gT br or cr g17 g18 S0 S1 S2 S3 108 (vs 108) W:=hG 108 (qf 108 (by kernel_rfl));have q6x:ρ (.tmp 215)=.agg #[.int .u64 0,.int .u64 0]:=(hρ.at_ 215 108 rfl).trans q6w;exact qa (w':=W) (by unfold execOp;simp only[q6v,q6x,hc];go_simp) (next _ _ (Below.refl _ _) rfl)
  ·have q6y:zu gT br or cr g17 g18 S0 S1 S2 S3 106 (vs 106) W:=hG 106 (qf 106 (by kernel_rfl));have q6z:ρ (.tmp 213)=.bool true:=(hρ.at_ 213 106 rfl).trans q6y;have q61:zu gT br or cr g17 g18 S0 S1 S2 S3 109 (vs 109) W:=hG 109 (qf 109 (by kernel_rfl));have q62:ρ (.tmp 216)=.bool true:=(hρ.at_ 216 109 rfl).trans q61;exact qa (w':=W) (by unfold execOp;simp only[q6z,q62,hc];go_simp) (next _ _ (Below.refl _ _) rfl)
  ·have q63:zu gT br or cr g17 g18 S0 S1 S2 S3 110 (vs 110) W:=hG 110 (qf 110 (by kernel_rfl));have q64:ρ (.tmp 217)=.bool true:=(hρ.at_ 217 110 rfl).trans q63;exact qa (w':=W) (by unfold execOp;simp only[q64,hc];go_simp) (next _ _ (Below.refl _ _) rfl)
  ·have o19:ρ (.tmp 19)=.int .i64 0:=hρ.out 19 rfl;exact qa (w':=W) (by unfold execOp;simp only[o19,hc];go_simp) (next _ _ (Below.refl _ _) rfl)
  ·have q65:zu gT br or cr g17 g18 S0 S1 S2 S3 112 (vs 112) W:=hG 112 (qf 112 (by kernel_rfl));have q66:ρ (.tmp 219)=.int .i64 0:=(hρ.at_ 219 112 rfl).trans q65;exact qa (w':=W) (by unfold execOp;simp only[q66,hc];go_simp) (next _ _ (Below.refl _ _) rfl)
  ·have q67:zu gT br or cr g17 g18 S0 S1 S2 S3 111 (vs 111) W:=hG 111 (qf 111 (by kernel_rfl));have q68:ρ (.tmp 218)=.bool true:=(hρ.at_ 218 111 rfl).trans q67;have q69:zu gT br or cr g17 g18 S0 S1 S2 S3 113 (vs 113) W:=hG 113 (qf 113 (by kernel_rfl));have q6A:ρ (.tmp 220)=.bool true:=(hρ.at_ 220 113 rfl).trans q69;exact qa (w':=W) (by unfold execOp;simp only[q68,q6A,hc];go_simp) (next _ _ (Below.refl _ _) rfl)
  ·have q6B:zu gT br or cr g17 g18 S0 S1 S2 S3 114 (vs 114) W:=hG 114 (qf 114 (by kernel_rfl));have q6C:ρ (.tmp 221)=.bool true:=(hρ.at_ 221 114 rfl).trans q6B;exact qa (w':=W) (by unfold execOp;simp only[q6C,hc];go_simp) (next _ _ (Below.refl _ _) rfl)
 ·intro i o L vs W j want ho cE qf hg hv hI;obtain⟨hb,cS⟩:=hI;have hG:∀j,L j=true→zu gT br or cr g17 g18 S0 S1 S2 S3 j (vs j) W:=fun j hj=>by
   by_cases uj:j<116
   ·exact cS j hj uj
   ·match j,uj with
    | j+116,_=>exact trivial
  have rM:i<116:=(Array.getElem?_eq_some_iff.1 ho).1;simp only[List.append_eq,List.cons_append,List.nil_append]at ho;rcases i with _|_|_|_|_|_|_|_|_|_|_|_|_|_|_|_|_|_|_|_|_|_|_|_|_|_|_|_|_|_|_|_|_|_|_|_|_|_|_|_|_|_|_|_|_|_|_|_|_|_|_|_|_|_|_|_|_|_|_|_|_|_|_|_|_|_|_|_|_|_|_|_|_|_|_|_|_|_|_|_|_|_|_|_|_|_|_|_|_|_|_|_|_|_|_|_|_|_|_|_|_|_|_|_|_|_|_|_|_|_|_|_|_|_|_|_|i;all_goals (first|omega|skip)
  all_goals simp only[QA,QB,QC,Option.some.injEq]at ho
  all_goals subst ho
  all_goals simp only[reduceCtorEq,Option.some.injEq,Prod.mk.injEq]at hg
  ·obtain⟨rfl,rfl⟩:=hg;exact(hv (hG 0 (qf 0 (by kernel_rfl)))).elim
  ·obtain⟨rfl,rfl⟩:=hg;exact(hv (hG 3 (qf 3 (by kernel_rfl)))).elim
  ·obtain⟨rfl,rfl⟩:=hg;exact(hv (hG 3 (qf 3 (by kernel_rfl)))).elim
  ·obtain⟨rfl,rfl⟩:=hg;exact(hv (hG 7 (qf 7 (by kernel_rfl)))).elim
  ·obtain⟨rfl,rfl⟩:=hg;exact(hv (hG 7 (qf 7 (by kernel_rfl)))).elim
  ·obtain⟨rfl,rfl⟩:=hg;exact(hv (hG 11 (qf 11 (by kernel_rfl)))).elim
  ·obtain⟨rfl,rfl⟩:=hg;exact(hv (hG 11 (qf 11 (by kernel_rfl)))).elim
  ·obtain⟨rfl,rfl⟩:=hg;exact(hv (hG 15 (qf 15 (by kernel_rfl)))).elim
  ·obtain⟨rfl,rfl⟩:=hg;exact(hv (hG 15 (qf 15 (by kernel_rfl)))).elim
  ·obtain⟨rfl,rfl⟩:=hg;exact(hv (hG 19 (qf 19 (by kernel_rfl)))).elim
  ·obtain⟨rfl,rfl⟩:=hg;exact(hv (hG 19 (qf 19 (by kernel_rfl)))).elim
  ·obtain⟨rfl,rfl⟩:=hg;exact(hv (hG 23 (qf 23 (by kernel_rfl)))).elim
  ·obtain⟨rfl,rfl⟩:=hg;exact(hv (hG 23 (qf 23 (by kernel_rfl)))).elim
  ·obtain⟨rfl,rfl⟩:=hg;exact(hv (hG 27 (qf 27 (by kernel_rfl)))).elim
  ·obtain⟨rfl,rfl⟩:=hg;exact(hv (hG 27 (qf 27 (by kernel_rfl)))).elim
  ·obtain⟨rfl,rfl⟩:=hg;exact(hv (hG 31 (qf 31 (by kernel_rfl)))).elim
  ·obtain⟨rfl,rfl⟩:=hg;exact(hv (hG 31 (qf 31 (by kernel_rfl)))).elim
  ·obtain⟨rfl,rfl⟩:=hg;exact(hv (hG 35 (qf 35 (by kernel_rfl)))).elim
  ·obtain⟨rfl,rfl⟩:=hg;exact(hv (hG 35 (qf 35 (by kernel_rfl)))).elim
  ·obtain⟨rfl,rfl⟩:=hg;exact(hv (hG 39 (qf 39 (by kernel_rfl)))).elim
  ·obtain⟨rfl,rfl⟩:=hg;exact(hv (hG 39 (qf 39 (by kernel_rfl)))).elim
  ·obtain⟨rfl,rfl⟩:=hg;exact(hv (hG 39 (qf 39 (by kernel_rfl)))).elim
  ·obtain⟨rfl,rfl⟩:=hg;exact(hv (hG 39 (qf 39 (by kernel_rfl)))).elim
  ·obtain⟨rfl,rfl⟩:=hg;exact(hv (hG 45 (qf 45 (by kernel_rfl)))).elim
  ·obtain⟨rfl,rfl⟩:=hg;exact(hv (hG 45 (qf 45 (by kernel_rfl)))).elim
  ·obtain⟨rfl,rfl⟩:=hg;exact(hv (hG 45 (qf 45 (by kernel_rfl)))).elim
  ·obtain⟨rfl,rfl⟩:=hg;exact(hv (hG 50 (qf 50 (by kernel_rfl)))).elim
  ·obtain⟨rfl,rfl⟩:=hg;exact(hv (hG 50 (qf 50 (by kernel_rfl)))).elim
  ·obtain⟨rfl,rfl⟩:=hg;exact(hv (hG 54 (qf 54 (by kernel_rfl)))).elim
  ·obtain⟨rfl,rfl⟩:=hg;exact(hv (hG 54 (qf 54 (by kernel_rfl)))).elim
  ·obtain⟨rfl,rfl⟩:=hg;exact(hv (hG 58 (qf 58 (by kernel_rfl)))).elim
  ·obtain⟨rfl,rfl⟩:=hg;exact(hv (hG 58 (qf 58 (by kernel_rfl)))).elim
  ·obtain⟨rfl,rfl⟩:=hg;exact(hv (hG 58 (qf 58 (by kernel_rfl)))).elim
  ·obtain⟨rfl,rfl⟩:=hg;exact(hv (hG 63 (qf 63 (by kernel_rfl)))).elim
  ·obtain⟨rfl,rfl⟩:=hg;exact(hv (hG 63 (qf 63 (by kernel_rfl)))).elim
  ·obtain⟨rfl,rfl⟩:=hg;exact(hv (hG 63 (qf 63 (by kernel_rfl)))).elim
  ·obtain⟨rfl,rfl⟩:=hg;exact(hv (hG 63 (qf 63 (by kernel_rfl)))).elim
  ·obtain⟨rfl,rfl⟩:=hg;exact(hv (hG 63 (qf 63 (by kernel_rfl)))).elim
  ·obtain⟨rfl,rfl⟩:=hg;exact(hv (hG 70 (qf 70 (by kernel_rfl)))).elim
  ·obtain⟨rfl,rfl⟩:=hg;exact(hv (hG 70 (qf 70 (by kernel_rfl)))).elim
  ·obtain⟨rfl,rfl⟩:=hg;exact(hv (hG 70 (qf 70 (by kernel_rfl)))).elim
  ·obtain⟨rfl,rfl⟩:=hg;exact(hv (hG 70 (qf 70 (by kernel_rfl)))).elim
  ·obtain⟨rfl,rfl⟩:=hg;exact(hv (hG 70 (qf 70 (by kernel_rfl)))).elim
  ·obtain⟨rfl,rfl⟩:=hg;exact(hv (hG 77 (qf 77 (by kernel_rfl)))).elim
  ·obtain⟨rfl,rfl⟩:=hg;exact(hv (hG 77 (qf 77 (by kernel_rfl)))).elim
  ·obtain⟨rfl,rfl⟩:=hg;exact(hv (hG 77 (qf 77 (by kernel_rfl)))).elim
  ·obtain⟨rfl,rfl⟩:=hg;exact(hv (hG 77 (qf 77 (by kernel_rfl)))).elim
  ·obtain⟨rfl,rfl⟩:=hg;exact(hv (hG 77 (qf 77 (by kernel_rfl)))).elim
  ·obtain⟨rfl,rfl⟩:=hg;exact(hv (hG 84 (qf 84 (by kernel_rfl)))).elim
  ·obtain⟨rfl,rfl⟩:=hg;exact(hv (hG 84 (qf 84 (by kernel_rfl)))).elim
  ·obtain⟨rfl,rfl⟩:=hg;exact(hv (hG 84 (qf 84 (by kernel_rfl)))).elim
  ·obtain⟨rfl,rfl⟩:=hg;exact(hv (hG 84 (qf 84 (by kernel_rfl)))).elim
  ·obtain⟨rfl,rfl⟩:=hg;exact(hv (hG 84 (qf 84 (by kernel_rfl)))).elim
  ·obtain⟨rfl,rfl⟩:=hg;exact(hv (hG 91 (qf 91 (by kernel_rfl)))).elim
  ·obtain⟨rfl,rfl⟩:=hg;exact(hv (hG 91 (qf 91 (by kernel_rfl)))).elim
  ·obtain⟨rfl,rfl⟩:=hg;exact(hv (hG 91 (qf 91 (by kernel_rfl)))).elim
  ·obtain⟨rfl,rfl⟩:=hg;exact(hv (hG 91 (qf 91 (by kernel_rfl)))).elim
  ·obtain⟨rfl,rfl⟩:=hg;exact(hv (hG 97 (qf 97 (by kernel_rfl)))).elim
  ·obtain⟨rfl,rfl⟩:=hg;exact(hv (hG 97 (qf 97 (by kernel_rfl)))).elim
  ·obtain⟨rfl,rfl⟩:=hg;exact(hv (hG 101 (qf 101 (by kernel_rfl)))).elim
  ·obtain⟨rfl,rfl⟩:=hg;exact(hv (hG 101 (qf 101 (by kernel_rfl)))).elim
  ·obtain⟨rfl,rfl⟩:=hg;exact(hv (hG 101 (qf 101 (by kernel_rfl)))).elim
  ·obtain⟨rfl,rfl⟩:=hg;exact(hv (hG 106 (qf 106 (by kernel_rfl)))).elim
  ·obtain⟨rfl,rfl⟩:=hg;exact(hv (hG 106 (qf 106 (by kernel_rfl)))).elim
  ·obtain⟨rfl,rfl⟩:=hg;exact(hv (hG 106 (qf 106 (by kernel_rfl)))).elim
  ·obtain⟨rfl,rfl⟩:=hg;exact(hv (hG 111 (qf 111 (by kernel_rfl)))).elim
  ·obtain⟨rfl,rfl⟩:=hg;exact(hv (hG 111 (qf 111 (by kernel_rfl)))).elim
 intro vs WE hI;obtain⟨hb,hG⟩:=hI;have gl:vs 115=.bool true:=hG 115 (by kernel_rfl) (by decide);have HBE:=QH (qc yX.out hb);clear hb hG;simp only[qZ,qM,if_true];rw[gl];generalize vs 0=y0;generalize vs 1=y1;generalize vs 2=y2;generalize vs 3=y3;generalize vs 4=y4;generalize vs 5=y5;generalize vs 6=y6;generalize vs 7=y7;generalize vs 8=y8;generalize vs 9=y9;generalize vs 10=y10;generalize vs 11=y11;generalize vs 12=y12;generalize vs 13=y13;generalize vs 14=y14;generalize vs 15=y15;generalize vs 16=y16;generalize vs 17=y17;generalize vs 18=y18;generalize vs 19=y19;generalize vs 20=y20;generalize vs 21=y21;generalize vs 22=y22;generalize vs 23=y23;generalize vs 24=y24;generalize vs 25=y25;generalize vs 26=y26;generalize vs 27=y27;generalize vs 28=y28;generalize vs 29=y29;generalize vs 30=y30;generalize vs 31=y31;generalize vs 32=y32;generalize vs 33=y33;generalize vs 34=y34;generalize vs 35=y35;generalize vs 36=y36;generalize vs 37=y37;generalize vs 38=y38;generalize vs 39=y39;generalize vs 40=y40;generalize vs 41=y41;generalize vs 42=y42;generalize vs 43=y43;generalize vs 44=y44;generalize vs 45=y45;generalize vs 46=y46;generalize vs 47=y47;generalize vs 48=y48;generalize vs 49=y49;generalize vs 50=y50;generalize vs 51=y51;generalize vs 52=y52;generalize vs 53=y53;generalize vs 54=y54;generalize vs 55=y55;generalize vs 56=y56;generalize vs 57=y57;generalize vs 58=y58;generalize vs 59=y59;generalize vs 60=y60;generalize vs 61=y61;generalize vs 62=y62;generalize vs 63=y63;generalize vs 64=y64;generalize vs 65=y65;generalize vs 66=y66;generalize vs 67=y67;generalize vs 68=y68;generalize vs 69=y69;generalize vs 70=y70;generalize vs 71=y71;generalize vs 72=y72;generalize vs 73=y73;generalize vs 74=y74;generalize vs 75=y75;generalize vs 76=y76;generalize vs 77=y77;generalize vs 78=y78;generalize vs 79=y79;generalize vs 80=y80;generalize vs 81=y81;generalize vs 82=y82;generalize vs 83=y83;generalize vs 84=y84;generalize vs 85=y85;generalize vs 86=y86;generalize vs 87=y87;generalize vs 88=y88;generalize vs 89=y89;generalize vs 90=y90;generalize vs 91=y91;generalize vs 92=y92;generalize vs 93=y93;generalize vs 94=y94;generalize vs 95=y95;generalize vs 96=y96;generalize vs 97=y97;generalize vs 98=y98;generalize vs 99=y99;generalize vs 100=zdG;generalize vs 101=zdH;generalize vs 102=zdI;generalize vs 103=zdJ;generalize vs 104=zdK;generalize vs 105=zdL;generalize vs 106=zdM;generalize vs 107=zdN;generalize vs 108=zdO;generalize vs 109=zdP;generalize vs 110=zdQ;generalize vs 111=zdR;generalize vs 112=zdS;generalize vs 113=zdT;generalize vs 114=zdU;clear gl;simp only[Act.put,List.setIfInBounds_toArray,List.set_cons_succ,List.set_cons_zero];go_wp2_with fail;go_ret;exact⟨rfl,HBE.out⟩
end Go.Proofs.YtdpbdkacngaemaaGreatDoor.rv
