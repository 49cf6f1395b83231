/- A vault is a chain, and opened again it is the same. -/
import Derived.Test.YtdagdllomphidaaGreatDoorZC13
import Derived.Test.YtdagdllomphidaaGreatDoorCards
import Derived.Test.YtdagdllomphidaaGreatDoorTie
import Derived.SevenTiedAt
import Derived.ProofKit
import Derived.ShutString
import Derived.SizedLaws
import Derived.ChangeOld
import Derived.SliceStrings
set_option linter.unusedVariables false
set_option linter.unusedSimpArgs false
set_option maxHeartbeats 30000000
set_option maxRecDepth 100000
namespace Go.Proofs.YtdagdllomphidaaGreatDoor.vt
open _root_.Go.Proofs.Tryz Go Go.RowKit ib jr mt im sp
def qsW (w:World)(A:Option Addr)(l:List DoP):Prop :=
 ∀i (h:i<l.length),∃b o,A=some ⟨b,o,none⟩∧b<w.heap.size∧w.cell? ⟨b,o+i*3,none⟩=some (.int .u8 (l[i].k:Int))∧w.cell? ⟨b,o+i*3+1,none⟩=some (.int .u8 (l[i].n:Int))∧w.cell? ⟨b,o+i*3+2,none⟩=some (.int .u8 (l[i].z.toNat:Int))∧l[i].k<256∧l[i].n<256
def q1F (IV:yZ)(IC:ch.lL)(w:World)(pd p:Nat)(v i:Value)(wr:World):Prop :=
 ∃(k vp:Nat) (c:ch.CH),k≤30∧i=.int .i64 (k:Int)∧v=.pointer (some ⟨vp,0,none⟩)∧VC IV IC 400 wr w.heap.size vp pd p c∧Below w.heap.size w wr
theorem mH {IV:yZ}{IC:ch.lL}(H:j9 IV)(HI:ch.Impl IC)(HW:∀w,xJ w→Calls prog 8 #[] w (tV w))(A:Option Addr)(cp:Nat)(l:List DoP)(w:World)(hT:qsW w A l)(hl:l.length≤9223372036854775807)(ht:xJ w) :
    Calls prog 3 #[.slice A l.length cp] w (tV w):=by
 have HT:=QH hT;have gW:=QH ht;clear ht;have HC:=HI.toOps;clear hT;go_enter func3,ntmps3;go_wp2_with fail;refine(HW w gW.out).mono ?_;rintro e W0 ⟨rfl,hb0⟩;have xn:=QH hb0;clear hb0;go_wp2_with fail;refine(qog H 8 (by decide) (by decide) W0 (xo gW.out xn.out (zK gW.out))).mono ?_;rintro e W1 ⟨v,pd,t,d,o1,o2,rfl,hv,hj,hr,hf,hb1,ho⟩;have qP:=QH (qc xn.out hb1);have HN1:Hid (∀(W2:World) (p:Nat) (o3:Nat→Prop),IC o3 W2 p (ch.kO 8)→Below W1.heap.size W1 W2→(∀j,o3 j→W1.heap.size≤j)→VC IV IC 400 W2 w.heap.size v pd p (ch.kO 8)):=fun W2 p o3 hc hb ho3 =>
  qvK (w:=w) H HC hv hj hr hf (fun j hj=>Nat.le_trans xn.out.size (ho j hj)) hc hb qP.out.size (zK gW.out) ho3
 clear hv hj hr hf hb1 ho xn;go_wp2_with fail;refine(HI.ux 8 W1 (by decide) (by decide)).mono ?_;rintro e W2 ⟨p,o3,rfl,hc,hb2,ho3⟩;have HV:=QH (HN1.out W2 p o3 hc hb2 ho3);have qy:=QH (qc qP.out hb2);clear hc hb2 ho3 HN1 qP;go_wp2_with fail;go_loopw [4,6] (fun v i wr=>q1F IV IC w pd p v i wr) (fun _ i _=>31-(intOf i).toNat);case atStart=>exact⟨0,v,_,by omega,rfl,rfl,HV.out,qy.out⟩
 case round =>
  clear HV qy;obtain⟨k,vp,c,hk,rfl,rfl,hv,hb⟩:=hrel;have HV:=QH hv;have HB:=QH hb;have HM:Hid (w.heap.size≤wr.heap.size):=hb.size;clear hv hb;by_cases hlt:k<l.length
  ·have jD:(k:Int)<(l.length:Int):=by omega
   by_cases h30:k<30
   ·have q6L:(k:Int)<30:=by omega
    obtain⟨b,o,rfl,hbl,g0,g1,g2,rE,hgn⟩:=HT.out k hlt;have c0:wr.cell? ⟨b,o+k*3,none⟩=some (.int .u8 (l[k].k:Int)):=by rw[HB.out.cell (p:=⟨b,o+k*3,none⟩) hbl];exact g0
    have c1:wr.cell? ⟨b,o+k*3+1,none⟩=some (.int .u8 (l[k].n:Int)):=by rw[HB.out.cell (p:=⟨b,o+k*3+1,none⟩) hbl];exact g1
    have c2:wr.cell? ⟨b,o+k*3+2,none⟩=some (.int .u8 (l[k].z.toNat:Int)):=by rw[HB.out.cell (p:=⟨b,o+k*3+2,none⟩) hbl];exact g2
    have l0:b<wr.heap.size:=Nat.lt_of_lt_of_le hbl HB.out.size;have q6M:=wrap_u64 (k+1) (by omega);rw[Int.natCast_add]at q6M;have aZ:=qru H HC HV.out HM.out (by decide) l[k] (k+1) rE hgn (by omega);unfold yP at aZ;obtain⟨er,hs⟩:=QE ((xp c l[k] (k+1)).2);obtain⟨c',hc'⟩:=QE ((xp c l[k] (k+1)).1);rw[hs,hc']at aZ;clear hs hc' g0 g1 g2 hbl;have hee:(er != er)=false:=by simp
    go_wp2_with fail;refine aZ.mono ?_;clear aZ c0 c1 c2 l0;rintro e W3 ⟨rfl,hv3,hb3⟩;have HV3:=QH hv3;have qV:=QH (HB.out.trans hb3);have HM3:Hid (w.heap.size≤W3.heap.size):=Nat.le_trans HM.out hb3.size;clear hv3 hb3 HV HB HM;by_cases h3:k%4=3
    ·have hm:(k:Int).tmod 4=3:=by rw[Int.tmod_eq_emod_of_nonneg (by omega)];omega
     go_wp2_with fail;refine(qrv H HC HV3.out HM3.out).mono ?_;rintro e W4 ⟨v',rfl,hv4,hb4⟩;have HV4:=QH hv4;have zO:=QH (qV.out.trans hb4);clear hv4 hb4 HV3 qV HM3;go_wp2_with fail;refine(qsT H HC HV4.out).mono ?_;rintro e W5 ⟨rfl,hb5⟩;have HV5:=QH (HV4.out.below H HC hb5);have jx:=QH (qc zO.out hb5);clear hb5 HV4 zO;go_wp2_with fail;go_roundw;case rel=>exact⟨k+1,v',c',by omega,by go_num,rfl,HV5.out,jx.out⟩
     case measure=>simp[intOf];omega
    ·obtain⟨m4,hm⟩:=QE ((k:Int).tmod 4);have hm4:(m4 == 3)=false:=by
      rw[beq_eq_false_iff_ne];intro h;rw[← hm,Int.tmod_eq_emod_of_nonneg (by omega)]at h;omega
     go_wp2_with fail;refine(qsT H HC HV3.out).mono ?_;rintro e W5 ⟨rfl,hb5⟩;have HV5:=QH (HV3.out.below H HC hb5);have jx:=QH (qc qV.out hb5);clear hb5 HV3 qV;go_wp2_with fail;go_roundw;case rel=>exact⟨k+1,vp,c',by omega,by go_num,rfl,HV5.out,jx.out⟩
     case measure=>simp[intOf];omega
   ·have q6L:¬ (k:Int)<30:=by omega
    go_wp2_with fail;go_ret;exact⟨rfl,HB.out⟩
  ·have jD:¬ (k:Int)<(l.length:Int):=by omega
   go_wp2_with fail;go_ret;exact⟨rfl,HB.out⟩
end Go.Proofs.YtdagdllomphidaaGreatDoor.vt
namespace Go.Proofs.YtdagdllomphidaaGreatDoor
open _root_.Go.Proofs.Tryz Go Go.ChangeShapes Go.WideShapes Go.Deep
theorem fz {H:Type}{enc:TypeId × Value→H}{P:Program}{w:World}{base:Nat}{spare:Nat→Bool}{held:Bool}{t e:TypeId}{fs:Array Field}{fuel:Nat}{cs:List Value}{x:DataW H × List MemPlace}
    (ht:P.underlying t=some (.slice e)) (he:P.underlying e=some (.struct fs)) (qjE:∀(i:Nat) (f:Field),fs[i]?=some f→f.offset=i∧P.cellsOf f.type=1) (ce:P.cellsOf e=fs.size)
    (h:DataW.trod enc P w base spare held fuel t cs=some x) :
    (cs=[.slice none 0 0]∧x=(.nil,[])) ∨
    ∃(a:Addr) (len cap m:Nat),cs=[.slice (some a) len cap]∧base≤a.block∧len≤cap∧cap≤maxLen∧m=(if spare a.block then cap else len) ∧
     ∀i,i<m→∀k f,fs[k]?=some f→∃v y n,w.cell? (a.add (i*fs.size+k))=some v∧DataW.trod enc P w base spare held n f.type [v]=some y:=by
 rcases open_slice ht h with h0|⟨a,len,cap,m,n,D,Pl,rfl,hb,hl,hm,hmm,rfl,hx⟩
 ·exact Or.inl h0
 right
 refine⟨a,len,cap,m,rfl,hb,hl,hm,hmm,fun i hi k f hk=>?_⟩;obtain⟨cs',h1,h2⟩:=hx i hi;rw[ce]at h1;obtain⟨_,hlen,hcell⟩:=World.cells?_some h1;obtain⟨xs,n',_,_,_,aw,hf⟩:=DataW.trod_struct he h2;have hlt:k<fs.size:=(Array.getElem?_eq_some_iff.1 hk).1;obtain⟨ho,hc1⟩:=qjE k f hk;have g:=hf k f hk;rw[ho,hc1,take1_drop cs' k undef (by omega),List.getElem?_eq_getElem (by omega)]at g;have hcl:=hcell k hlt;rw[add_add,List.getElem?_eq_getElem (by omega)]at hcl;refine⟨cs'.getD k undef,_,n',?_,g⟩;rw[hcl];simp[List.getD,List.getElem?_eq_getElem (show k<cs'.length by omega)]
end Go.Proofs.YtdagdllomphidaaGreatDoor
namespace Go.Proofs.YtdagdllomphidaaGreatDoor.vt
open _root_.Go.Proofs.Tryz Go Go.RowKit Go.ChangeShapes Go.WideShapes Go.Deep ib
theorem qsX{x:Int}(h:(Lit.int .u8 x).wf=true):∃c:Nat,x=(c:Int)∧c<256:=by
 have hb:=bounds_u8 h;exact⟨x.toNat,by omega,by omega⟩
theorem q1G{x:Int}(h:(Lit.int .u8 x).wf=true):∃c:UInt8,x=(c.toNat:Int):=by
 have hb:=bounds_u8 h;exact⟨UInt8.ofNat x.toNat,by rw[UInt8.toNat_ofNat'];omega⟩
theorem qr5{P:Program}{fs:Array Field}(h:(List.range fs.size).all (fun i=>match fs[i]? with|some f=>decide (f.offset=i)&&decide (P.cellsOf f.type=1)|none=>true)=true):∀(i:Nat) (f:Field),fs[i]?=some f→f.offset=i∧P.cellsOf f.type=1:=by
 intro i f hf;have hi:=(Array.getElem?_eq_some_iff.1 hf).1;have:=List.all_eq_true.1 h i (List.mem_range.2 hi);rw[hf]at this;simpa using this
section
variable {H:Type} {enc:TypeId × Value→H} {w:World} {held:Bool} {a:Option Addr} {l c:Nat} {d:DataW H} {pl:List MemPlace}
theorem qwd(h:DataW.Trod enc prog w 0 (fun _=>true) held 22 (.slice a l c) d pl):∃zs:List DoP,zs.length=l∧l≤9223372036854775807∧qsW w a zs:=by
 obtain⟨fuel,hf⟩:=h;rcases fz underlying22 underlying34 (qr5 (by kernel_rfl)) (by kernel_rfl) hf with⟨hcs,_⟩|⟨x,l',c',m,hcs,_,hl,hm,hmm,hi⟩
 ·simp[Value.cells]at hcs;obtain⟨rfl,rfl,rfl⟩:=hcs;exact⟨[],rfl,by omega,fun i h=>absurd h (by simp)⟩
 ·simp[Value.cells]at hcs;obtain⟨rfl,rfl,rfl⟩:=hcs;simp only[if_true]at hmm;subst hmm;unfold maxLen at hm;obtain⟨zs,hzl,hz⟩:=dc (p:=fun i (z:DoP)=>w.cell? (x.add (i*3))=some (.int .u8 (z.k:Int))∧w.cell? (x.add (i*3+1))=some (.int .u8 (z.n:Int))∧w.cell? (x.add (i*3+2))=some (.int .u8 (z.z.toNat:Int))∧z.k<256∧z.n<256) l (fun i cy=>by
   obtain⟨v0,y0,n0,e0,g0⟩:=hi i (by omega) 0 _ rfl;obtain⟨v1,y1,n1,e1,g1⟩:=hi i (by omega) 1 _ rfl;obtain⟨v2,y2,n2,e2,g2⟩:=hi i (by omega) 2 _ rfl;obtain⟨k0,h0,_,b0⟩:=DataW.trod_int underlying5 g0;obtain⟨k1,h1,_,b1⟩:=DataW.trod_int underlying5 g1;obtain⟨k2,h2,_,b2⟩:=DataW.trod_int underlying5 g2;obtain⟨c0,rfl,l0⟩:=qsX b0;obtain⟨c1,rfl,l1⟩:=qsX b1;obtain⟨c2,rfl⟩:=q1G b2;obtain rfl:v0=_:=by simpa using h0
   obtain rfl:v1=_:=by simpa using h1
   obtain rfl:v2=_:=by simpa using h2
   exact⟨⟨c0,c1,c2⟩,e0,e1,e2,l0,l1⟩)
  refine⟨zs,hzl,by omega,fun i cy=>?_⟩;have h0:=(hz 0 (by omega)).1;rw[Nat.zero_mul]at h0;obtain⟨b,o,rfl,hb⟩:=qwZ h0;have:=hz i cy;rw[addr_add,addr_add,addr_add]at this;simp only[Nat.add_assoc]at this ⊢;exact⟨b,o,rfl,hb,this⟩
end
end Go.Proofs.YtdagdllomphidaaGreatDoor.vt
namespace Go.Proofs.YtdagdllomphidaaGreatDoor.vaultChain
open _root_.Go.Proofs.Tryz Go.ChangeShapes Go.WideShapes Go.ChangeAt Go.RowKit
open Go.ChangeMaps (open_string shut_string)
open _root_.Go.Proofs.Tryz ib vt
theorem own:ownKnob prog.godebug=none:=by kernel_rfl
theorem laidOut:laidOutB prog=true:=by kernel_rfl
theorem qot(os:Os)(args:Array Value):laidMet prog Rows.vaultChainRow.laid ((wY os).forCall (fun _ _=>0) ⟨#[],args,[]⟩).memory :=
 laidMet_of_run3 8 (by kernel_rfl) (by kernel_rfl) (by kernel_rfl)
theorem witness(os:Os){H:Type}(enc:TypeId × Value→H) :
    (OpenSpec.ofChange Rows.vaultChainSpec).preRow enc prog Tryz.f3 Rows.vaultChainRow.domain false Rows.vaultChainRow.laid ((wY os).forCall (fun _ _=>0) ⟨#[],#[.slice none 0 0],[]⟩).memory #[.slice none 0 0]:=by
 have hw:(DataW.whole enc prog ((wY os).forCall (fun _ _=>0) ⟨#[],#[.slice none 0 0],[]⟩).memory Tryz.f3.params.toList (OpenSpec.ofChange Rows.vaultChainSpec).vars false (#[.slice none 0 0]:Array Value).toList 8).map (fun x=>(x.1,x.2.1)) =
     some ([.nil],[]):=by kernel_rfl
 obtain⟨⟨x1,x2,x3⟩,hx,hx1⟩:=Option.map_eq_some_iff.1 hw;simp only[Prod.mk.injEq]at hx1;obtain⟨rfl,rfl⟩:=hx1;exact OpenSpec.preRow_of_cond 8 hx (by kernel_rfl) (fun k hk=>by cases hk) (by kernel_rfl) (qot os _)
theorem lifted(os:Os)(started:os.Started)(H:Type)(enc:TypeId × Value→H)(F:Stop.Interp) :
    ReturnsInHanded {} Tryz.checked os 3 .any ((OpenSpec.ofChange Rows.vaultChainSpec).preRow enc prog Tryz.f3 Rows.vaultChainRow.domain false Rows.vaultChainRow.laid) (((OpenSpec.ofChange Rows.vaultChainSpec).at F).post enc prog Tryz.f3 false true false false):=by
 refine returnsInHanded_of_row (C:=Tryz.checked) (s:=OpenSpec.ofChange Rows.vaultChainSpec) own started (by kernel_rfl) func3
  (witness_row_at (enc:=enc) (C:=Tryz.checked) false (wY os) #[.slice none 0 0] rfl (by kernel_rfl) (by kernel_rfl) (by kernel_rfl) (witness os enc)) ?_
 intro W base args ds gs before qsY hW _ _ q6N hL _ _;have ht:xJ W:=qby (laidMet.tail hL) (by kernel_rfl);have hval:∀(j:Nat) t v,Tryz.f3.params[j]?=some t→args[j]?=some v→Value.okWide prog W .any base t v:=qsY;have hW':=hW;obtain⟨p,q,hA0,hV,rfl,hfz,hnd⟩:=hW;have hA:DataW.TrodAll enc prog W 0 (fun _=>true) true Tryz.f3.params.toList args.toList ds p:=hA0;rw[Tryz.params3]at hA hval;obtain⟨v0,vs0,d0,ds0,p0,q0,q9o,rfl,rfl,h0,r0⟩:=trodAll_cons hA;obtain⟨rfl,rfl,rfl⟩:=trodAll_nil r0;obtain rfl:args = #[v0]:=by cases args;simp_all
 obtain⟨rfl,rfl⟩:=trodVars_none hV;obtain⟨a0,l0,c0,rfl⟩:=okWide_slice underlying22 (hval 0 22 v0 rfl rfl);have k0:=h0;have lt0:∀x∈p0,x.block<W.heap.size:=by obtain⟨m,hm⟩:=k0;exact DataW.trod_lt m _ _ _ hm
 obtain⟨zs0,q6O,hl0,hT0⟩:=qwd k0;subst q6O;clear hA0 qsY q6N;simp only[List.append_nil]at hW';refine(mH qhr ch.pg.qhr (qjU qhr) a0 c0 zs0 W hT0 hl0 ht).mono fun e W' ⟨he,hg⟩=>?_;subst he;exact⟨_,rfl,_,_,_,[],_,[],hW',trodAll_mk1 (shut_bool underlying4 _),(trodAll_cons_mk (Below.trod laidOut (by kernel_rfl) (of_decide_eq_true (by kernel_rfl)) k0 hg lt0) trodAll_mk0),rfl,hg.frame _,fun h=>by cases h⟩
theorem over:Rows.VaultChainSaid :=
 OpenClaim.holds_of_cond 3 Tryz.f3 rfl rfl rfl rfl rfl rfl rfl ⟨rfl,rfl,rfl,rfl,rfl⟩ rfl rfl rfl rfl rfl (by kernel_rfl) func3 (by kernel_rfl)
  (of_decide_eq_true (by kernel_rfl)) (by unfold Func.isWrapper;first|(rw[if_pos (by decide +kernel)];kernel_rfl)|(rw[if_neg (by decide +kernel)];exact⟨rfl,rfl⟩))
  (fun os started H enc _ F=>by rw[OpenClaim.pre_eq_preRow];exact lifted os started H enc F)
theorem proved:Rows.VaultChainCardSaid :=
 Claim7.holds_tied_plain_at .later [] [.data,.data,.pinned] true Rows.vaultChainCard.stood.harness true
  over (fun _ h=>by cases h) (by kernel_rfl) (fun _ h=>by cases h) vaultChain_row_tie rfl ⟨rfl,rfl⟩ (by kernel_rfl) rfl
  (fun f fn hf hfn=>by
   obtain rfl:f=3:=Option.some.inj ((show prog.funcNamed Rows.vaultChainRow.func=some 3 by kernel_rfl).symm.trans hf) |>.symm;obtain rfl:fn=Tryz.f3:=(Option.some.inj (func3.symm.trans hfn)).symm;exact⟨by kernel_rfl,fun j t ht=>by
    rw[Tryz.params3]at ht;rcases j with _|j
    ·have:t=22:=by simpa using ht.symm
     subst this;exact(show prog.wantsStandIn 22=false by kernel_rfl)
    simp at ht⟩)
  (by kernel_rfl)
#print axioms proved
end Go.Proofs.YtdagdllomphidaaGreatDoor.vaultChain
