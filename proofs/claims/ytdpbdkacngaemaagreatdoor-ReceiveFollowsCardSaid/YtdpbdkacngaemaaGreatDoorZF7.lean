/- SpPlaces, SpFind, SpRef, SpFree, SpRefC, SpTake, SpCellR, SpProg, VgPl, ImRef, ImOwn, ImRef2, ImHyp, ImProg, JShelf, ChLst, PgBase, PgMem, PgOne, PgLast, PgList, VgPut, VgStg, VgHid. -/
import Derived.Test.YtdpbdkacngaemaaGreatDoorZF6
import Derived.Lib.SliceRun
import Derived.Shelf.Strings.Repeat
set_option linter.unusedVariables false
set_option linter.unusedSimpArgs false
set_option maxHeartbeats 30000000
set_option maxRecDepth 100000
namespace Go.Proofs.YtdpbdkacngaemaaGreatDoor.sp
open _root_.Go.Proofs.Tryz Go Go.RowKit Go.Shelf ib
attribute [local go_sem] Oper.semAt_some
abbrev I64:={ x:Int // qD x }
abbrev Plain(L:List (List I64)):List (List Int):=L.map fun l=>l.map fun x=>x.1
theorem qom:∀(zT:List (List Int)),(∀l∈zT,∀z∈l,qD z)→∃L,Plain L=zT
 | [],_=>⟨[],rfl⟩
 | l::r,h=>by
  obtain⟨L,hL⟩:=qom r (fun l' hl'=>h l' (List.mem_cons_of_mem _ hl'));obtain⟨l',hl'⟩:∃l':List I64,l'.map (fun x=>x.1)=l:=⟨l.attachWith qD (h l (by simp)),by simp[List.attachWith,List.map_pmap]⟩;refine⟨l'::L,?_⟩;show l'.map (fun x=>x.1)::Plain L=_;rw[hL,hl']
theorem pM {α:Type}(zT:List (List α))(k:Nat)(h:k<zT.length):(zT.take (k+1)).flatten=(zT.take k).flatten++zT[k]:=by
 rw[List.take_succ_eq_append_getElem h,List.flatten_append];simp
theorem qon{α:Type}(zT:List (List α))(k:Nat)(h:k<zT.length):(zT.take k).flatten++zT[k] <+: zT.flatten:=by
 rw[← pM zT k h];refine⟨(zT.drop (k+1)).flatten,?_⟩;rw[← List.flatten_append,List.take_append_drop]
theorem qkd{α:Type}(zT:List (List α))(k:Nat)(h:k<zT.length)(j:Nat)(hj:j<zT[k].length):(zT.take k).flatten++zT[k].take j++[zT[k][j]] <+: zT.flatten:=by
 refine List.IsPrefix.trans ?_ (qon zT k h);rw[List.append_assoc,← List.take_succ_eq_append_getElem hj];exact(List.prefix_append_right_inj _).2 (List.take_prefix _ _)
def qnV (n₀:Nat)(L:List (List I64))(J:List I64→World→Prop)(W:World)(i:Value)(wr:World):Prop :=
 ∃k:Nat,k≤L.length∧i=.int .i64 (k:Int)∧J (L.take k).flatten wr∧Below n₀ W wr
def qvM (n₀:Nat)(pre l:List I64)(J:List I64→World→Prop)(W:World)(i:Value)(wr:World):Prop :=
 ∃j:Nat,j≤l.length∧i=.int .i64 (j:Int)∧J (pre++l.take j) wr∧Below n₀ W wr
theorem qg0(F:Fence)(nn:Nat)(hF:F.fn 268)(hro:F.round=none)(hn:1≤nn)(l Bs:Nat)(A:Option Addr)(c:Nat)(L:List (List I64))(w0:World)(J Jx:List I64→World→Prop)
    (hA:fB w0 A (Plain L)) (hL:L.length≤9223372036854775807)
    (hY:∀pre x W,J pre W→pre.length<L.flatten.length→YieldAt F (nn-1) prog l #[.int .i64 x.1] W fun e W' =>
     (e=.returned (.bool true)∧J (pre++[x]) W'∧Below w0.heap.size W W')∨(e=.returned (.bool false)∧Jx (pre++[x]) W'))
    (W:World) (hb:Below w0.heap.size w0 W) (hBs:W.cell? ⟨Bs,0,none⟩=some (.slice A L.length c)) (h0:J [] W) :
    CallsIn F nn prog 268 #[.func (.yield l) #[] #[],.pointer (some ⟨Bs,0,none⟩)] W fun e W'=>(∃v,e=.returned v) ∧
     ((∃ys,ys=L.flatten∧J ys W')∨(∃pre,pre <+: L.flatten∧Jx pre W')):=by
 have HA:=QH hA;have HY:=QH hY;have HB:=QH hb;have HJ:=QH h0;clear hA hY hb h0;refine callsIn_of_wp func268 rfl hF ?_ hro;simp only[ntmps268,List.size_toArray,List.length_cons,List.length_nil,Nat.reduceAdd,Nat.reduceSub,Array.replicate_succ,Array.replicate_zero,List.push_toArray,List.append_toArray,List.nil_append,List.cons_append]
 gi_wp2
 gi_loopw [9] (fun i wr=>qnV w0.heap.size L J W i wr) (fun i _=>L.length-(intOf i).toNat)
 case atStart=>exact⟨0,Nat.zero_le _,rfl,HJ.out,Below.refl _ _⟩
 case round =>
  obtain⟨k,hk,rfl,hj,hkb⟩:=hrel;have HJK:=QH hj;have HKB:=QH hkb;clear hj hkb HJ;by_cases hlt:k<L.length
  ·have qvZ:(k:Int)<(L.length:Int):=by omega
   have hft:=pM L k hlt;have hpr:=qkd L k hlt;obtain⟨b,o,A1,c1,rfl,hbl,hc,hz,hzl⟩:=HA.out k (by rw[List.length_map];exact hlt);have ec:wr.cell? ⟨b,o+k,none⟩=some (.slice A1 ((Plain L)[k]'(by rw[List.length_map];exact hlt)).length c1):=by
    rw[HKB.out.cell (p:=⟨b,o+k,none⟩) hbl,HB.out.cell (p:=⟨b,o+k,none⟩) hbl];exact hc
   have lb:b<wr.heap.size:=Nat.lt_of_lt_of_le hbl (Nat.le_trans HB.out.size HKB.out.size);have HFT:=QH hft;have HPR:=QH hpr;have HZ:=QH hz;clear hft hpr hz hc;have eO:(Plain L)[k]'(by rw[List.length_map];exact hlt)=L[k].map (fun x=>x.1):=List.getElem_map _;rw[eO]at ec HZ hzl;rw[List.length_map]at ec hzl;clear eO;generalize hzs:L[k]=zs at *;clear hzs
   gi_wp2
   gi_loopw [15] (fun i wr=>qvM w0.heap.size (L.take k).flatten zs J W i wr) (fun i _=>zs.length-(intOf i).toNat)
   case atStart=>exact⟨0,Nat.zero_le _,rfl,by rw[List.take_zero,List.append_nil];exact HJK.out,HKB.out⟩
   case round =>
    clear HJK HKB ec lb;obtain⟨j,hjl,rfl,hj,hkb⟩:=hrel;have HJK:=QH hj;have HKB:=QH hkb;clear hj hkb;by_cases hjt:j<zs.length
    ·have q5l:(j:Int)<(zs.length:Int):=by omega
     obtain⟨b1,o1,rfl,qwa,hc1,hz1⟩:=HZ.out j (by rw[List.length_map];exact hjt);rw[List.getElem_map]at hc1 hz1;have e1:wr.cell? ⟨b1,o1+j,none⟩=some (.int .i64 zs[j].1):=by
      rw[HKB.out.cell (p:=⟨b1,o1+j,none⟩) qwa,HB.out.cell (p:=⟨b1,o1+j,none⟩) qwa];exact hc1
     have l1:b1<wr.heap.size:=Nat.lt_of_lt_of_le qwa (Nat.le_trans HB.out.size HKB.out.size);have hp:=HPR.out j hjt;have rV:zs.take (j+1)=zs.take j++[zs[j]]:=List.take_succ_eq_append_getElem hjt;have gI:=hp.length_le;rw[List.length_append]at gI;obtain⟨fn,tmps,assign,body,hy,hR⟩:=HY.out _ zs[j] wr HJK.out (by simp only[List.length_cons,List.length_nil]at gI;omega);have HP:=QH hp;have jH:=QH rV;have HR:=QH hR;clear hp rV hR hc1 hz1 gI;generalize zs[j]=x at *
     gi_wp2
     refine HR.out.mono ?_;rintro e W3 (⟨rfl,hJ3,hk3⟩|⟨rfl,hJx3⟩)
     ·have HJ3:=QH hJ3;have sF:=QH (HKB.out.trans hk3);clear hJ3 hk3 HR
      gi_wp2
      refine⟨⟨j+1,by omega,by go_num,by rw[jH.out,← List.append_assoc];exact HJ3.out,sF.out⟩,?_⟩;simp[intOf];omega
     ·gi_wp2
      refine bodyPost_ret (results_none rfl _ _ _) rfl ?_;exact⟨⟨_,rfl⟩,.inr ⟨_,HP.out,hJx3⟩⟩
    ·have q5l:¬ (j:Int)<(zs.length:Int):=by omega
     have hj:=HJK.out;rw[List.take_of_length_le (l:=zs) (by omega),← HFT.out]at hj;have HJ2:=QH hj;clear hj
     gi_wp2
     refine⟨⟨k+1,by omega,by go_num,HJ2.out,HKB.out⟩,?_⟩;simp[intOf];omega
  ·have qvZ:¬ (k:Int)<(L.length:Int):=by omega
   have hj:=HJK.out;rw[List.take_of_length_le (by omega)]at hj;have HJ2:=QH hj;clear hj
   gi_wp2
   go_end0
   exact⟨⟨_,rfl⟩,.inl HJ2.out⟩
theorem qke(F:Fence)(n:Nat)(hF:F.fn 220)(hro:F.round=none)(a:Option Addr)(len cap:Nat)(w:World) :
    CallsIn F n prog 220 #[.slice a len cap] w fun e w'=>e=.returned (.func (.func 268) #[] #[.pointer (some ⟨w.heap.size,0,none⟩)])∧w'=w.alloc (.cells #[.slice a len cap] 218):=by
 refine callsIn_of_wp func220 rfl hF ?_ hro;simp only[ntmps220,List.size_toArray,List.length_cons,List.length_nil,Nat.reduceAdd,Nat.reduceSub,Array.replicate_succ,Array.replicate_zero,List.push_toArray,List.append_toArray,List.nil_append,List.cons_append]
 gi_wp2
 go_ret;exact⟨rfl,rfl⟩
theorem qbB(F:Fence)(nn:Nat)(hF:F.fn 268)(hro:F.round=none)(hn:1≤nn)(Bs:Nat)(A:Option Addr)(c:Nat)(L:List (List I64))(w0 w:World)
    (hA:fB w0 A (Plain L)) (hL:L.length≤9223372036854775807) (hb:Below w0.heap.size w0 w) (hBs:qf w Bs 218 #[.slice A L.length c]) :
    SeqStopsK F nn prog 268 #[.pointer (some ⟨Bs,0,none⟩)] (fun x:I64=>#[.int .i64 x.1]) (Below w0.heap.size) (fun ys=>ys=L.flatten) (fun pre=>pre <+: L.flatten) L.flatten.length w:=fun l J Jx W hW _ _ hY h0 =>
 qg0 F nn hF hro hn l Bs A c L w0 J Jx hA hL hY W (qa hb hW) ((hBs.below hW).cell 0) h0
end Go.Proofs.YtdpbdkacngaemaaGreatDoor.sp
namespace Go.Proofs.YtdpbdkacngaemaaGreatDoor.sp
open _root_.Go.Proofs.Tryz Go Go.RowKit ib
structure kY(w0 w:World)(B0 B1:Nat)(A:Option Addr)(c:Nat)(cs:List Int)(k:Nat):Prop where
 box:qf w B0 80 #[.slice A cs.length c]
 at_:qf w B1 3 #[.int .i64 (k:Int)]
 low:w0.heap.size≤B0
 lt:B0<B1
 k1:193≤k
 k2:k≤cs.length∨k=193
 below:Below w0.heap.size w0 w
def qoo (B0 B1:Nat):Value:=.func (.func 269) #[] #[.pointer (some ⟨B1,0,none⟩),.pointer (some ⟨B0,0,none⟩)]
def qd5 (w0:World)(B0 B1:Nat)(A:Option Addr)(c:Nat)(cs:List Int)(k:Nat)(w:World)(e:Ending)(w':World):Prop :=
 qz (fun j=>j=B1) w w' ∧
 ((∃t:Nat,t<cs.length∧qV cs (t+1)=qV cs k++[(t:Int)]∧e=.returned (.tuple #[.int .i64 (t:Int),.bool true])∧kY w0 w' B0 B1 A c cs (t+1)) ∨
  (yr cs=(qV cs k).length∧e=.returned (.tuple #[.int .i64 0,.bool false])))
def cellOf (w:World)(B:Nat):Nat:=match w.cell? ⟨B,0,none⟩with
 | some (.int _ z)=>z.toNat
 | _=>0
theorem qan{w:World}{B k:Nat}{t:TypeId}(h:qf w B t #[.int .i64 (k:Int)]):cellOf w B=k:=by
 unfold cellOf;rw[h.cell 0];simp
theorem kY.move{w0 w w':World}{B0 B1:Nat}{A:Option Addr}{c:Nat}{cs:List Int}{k k':Nat}(h:kY w0 w B0 B1 A c cs k)(hb:qz (fun j=>j=B1) w w')(ha:qf w' B1 3 #[.int .i64 (k':Int)])(h1:193≤k')(h2:k'≤cs.length∨k'=193):kY w0 w' B0 B1 A c cs k' :=
 ⟨h.box.of_block (hb.block _ h.box.lt (Nat.ne_of_lt h.lt)),ha,h.low,h.lt,h1,h2,(h.below).trans (hb.below (fun i e=>by rw[e];have:=h.low;have:=h.lt;omega) h.below.size)⟩
def qrX (w0 w:World)(B0 B1:Nat)(A:Option Addr)(c:Nat)(cs:List Int)(k:Nat)(wr:World):Prop :=
 ∃j:Nat,kY w0 wr B0 B1 A c cs j∧qV cs j=qV cs k∧qz (fun i=>i=B1) w wr
theorem qkf{cs:List Int}{k:Nat}(h:k≤cs.length∨k=193)(he:cs.length≤k):yr cs=(qV cs k).length:=by
 rcases h with h|h
 ·rw[show k=cs.length by omega];rfl
 ·unfold yr;rw[h,yY cs 193 (by omega),yY cs cs.length (by omega)]
theorem uS {w0 w:World}{B0 B1:Nat}{A:Option Addr}{c:Nat}{cs:List Int}{k:Nat}(h:kY w0 w B0 B1 A c cs k)(hA:qI w0 A cs)(hl:cs.length≤9223372036854775807) :
    Calls prog 269 #[.pointer (some ⟨B1,0,none⟩),.pointer (some ⟨B0,0,none⟩)] w (qd5 w0 B0 B1 A c cs k w):=by
 have HF:=QH h;have HA:=QH hA;clear h hA;go_enter func269,ntmps269;go_wp2_with fail;go_loopw [] (fun wr=>qrX w0 w B0 B1 A c cs k wr) (fun wr=>cs.length-cellOf wr B1);case atStart=>exact⟨k,HF.out,rfl,qz.refl _ _⟩
 case round =>
  obtain⟨j,hf,hfr,hb⟩:=hrel;have HFR:=QH hfr;have HB:=QH hb;have HFJ:=QH hf;have q0:wr.cell? ⟨B0,0,none⟩=some (.slice A cs.length c):=hf.box.cell 0;have q1:wr.cell? ⟨B1,0,none⟩=some (.int .i64 (j:Int)):=hf.at_.cell 0;have l0:=hf.box.lt;have l1:=hf.at_.lt;have f1:=hf.at_.frozen 0;have hne:=Nat.ne_of_lt hf.lt;have zt:=hf.k1;have hk2:=hf.k2;clear hf hfr hb HF;by_cases hlt:j<cs.length
  ·obtain⟨b,o,rfl,hbl,hc,hz⟩:=HA.out j hlt;have qvK:(j:Int)<(cs.length:Int):=by omega
   have hg:cs.getD j 0=cs[j]:=by simp[List.getD,hlt]
   have hs:=cz cs j;rw[hg]at hs;have HS:=QH hs;have ec:wr.cell? ⟨b,o+j,none⟩=some (.int .i64 cs[j]):=by rw[HFJ.out.below.cell (p:=⟨b,o+j,none⟩) hbl];exact hc
   have lb:b<B0:=Nat.lt_of_lt_of_le hbl HFJ.out.low;have zy:Hid (qf (wr.setCell ⟨B1,0,none⟩ (.int .i64 (((j+1:Nat)):Int))) B1 3 #[.int .i64 ((j+1:Nat):Int)]):=by
    have h:=HFJ.out.at_.qg 0 (.int .i64 ((j+1:Nat):Int));exact h
   have hbb:Hid (qz (fun i=>i=B1) w (wr.setCell ⟨B1,0,none⟩ (.int .i64 (((j+1:Nat)):Int)))):=HB.out.setCell ⟨B1,0,none⟩ _ (.inl rfl);have hbj:Hid (qz (fun i=>i=B1) wr (wr.setCell ⟨B1,0,none⟩ (.int .i64 (((j+1:Nat)):Int)))):=(qz.refl _ _).setCell ⟨B1,0,none⟩ _ (.inl rfl);have ej:((j+1:Nat):Int)=(j:Int)+1:=by omega
   rw[ej]at zy hbb hbj;clear hs hg hc hz;generalize cs[j]=x at *;by_cases hx:x=0
   ·subst hx;have hs:=HS.out;rw[if_pos ⟨zt,rfl⟩]at hs;have kT:=QH hs;clear hs;go_wp2_with fail;go_ret2;exact⟨hbb.out,.inl ⟨j,hlt,by rw[kT.out,HFR.out],rfl,HFJ.out.move hbj.out (by rw[ej];exact zy.out) (by omega) (by omega)⟩⟩
   ·have hxb:(x == 0)=false:=by simpa using hx
    have hs:=HS.out;rw[if_neg (fun h=>hx h.2),List.append_nil]at hs;have kT:=QH hs;have hm:Hid (cellOf wr B1=j):=qan HFJ.out.at_;have hm2:Hid (cellOf (wr.setCell ⟨B1,0,none⟩ (.int .i64 ((j:Int)+1))) B1=j+1):=by
     refine qan (t:=3) ?_;rw[ej];exact zy.out
    clear hs;go_wp2_with fail;refine⟨⟨j+1,HFJ.out.move hbj.out (by rw[ej];exact zy.out) (by omega) (by omega),by rw[kT.out,HFR.out],hbb.out⟩,?_⟩;rw[hm.out,hm2.out];omega
  ·have qvK:¬ (j:Int)<(cs.length:Int):=by omega
   have HD:=QH (qkf hk2 (show cs.length≤j by omega));go_wp2_with fail;go_ret2;exact⟨HB.out,.inr ⟨by rw[HD.out,HFR.out],rfl⟩⟩
theorem pN (A:Option Addr)(c:Nat)(cs:List Int)(w0 w:World)(hb:Below w0.heap.size w0 w) :
    Calls prog 222 #[.slice A cs.length c] w fun e w'=>e=.returned (qoo w.heap.size (w.heap.size+1))∧kY w0 w' w.heap.size (w.heap.size+1) A c cs 193∧Below w.heap.size w w':=by
 go_enter func222,ntmps222;go_wp2_with fail;go_ret;have h0:qf (w.alloc (.cells #[.slice A cs.length c] 80)) w.heap.size 80 #[.slice A cs.length c]:=qf.new _ _ _;have h1:qf ((w.alloc (.cells #[.slice A cs.length c] 80)).alloc (.cells #[.int .i64 193] 3)) (w.alloc (.cells #[.slice A cs.length c] 80)).heap.size 3 #[.int .i64 ((193:Nat):Int)]:=qf.new _ _ _;have b1:=((Below.refl w.heap.size w).alloc (Nat.le_refl _) (.cells #[.slice A cs.length c] 80)).alloc (by simp) (.cells #[.int .i64 193] 3);rw[World.size_alloc]at h1;exact⟨rfl,⟨h0.of_block (Below.heap_alloc _ _ _ h0.lt),h1,hb.size,by omega,by omega,.inr rfl,qa hb b1⟩,b1⟩
theorem qkg{cs:List Int}{i:Nat}(h:i≤9223372036854775807):∀z∈qV cs i,qD z:=by
 intro z hz;unfold qV at hz;obtain⟨j,hj,rfl⟩:=List.mem_map.1 hz;have:=List.mem_range.1 (List.mem_filter.1 hj).1;unfold qD;omega
def q0y (w:World)(B0 B1:Nat)(A:Option Addr)(c:Nat)(cs:List Int)(n:Nat)(i:Bool)(wr:World):Prop :=
 Below w.heap.size w wr∧((i=true∧∃k,kY w wr B0 B1 A c cs k∧(qV cs k).length=n+1)∨(i=false∧n=yr cs))
def q0z (w:World)(B0 B1:Nat)(A:Option Addr)(c:Nat)(cs:List Int)(v i:Value)(wr:World):Prop :=
 ∃(n:Nat) (b:Bool),v=.int .i64 (n:Int)∧i=.bool b∧q0y w B0 B1 A c cs n b wr
theorem qtN{w W W':World}{B0 B1:Nat}{A:Option Addr}{c:Nat}{cs:List Int}{k:Nat}{e:Ending}(h:kY w W B0 B1 A c cs k)(hp:qd5 w B0 B1 A c cs k W e W'):∃(x:Int) (b:Bool),e=.returned (.tuple #[.int .i64 x,.bool b])∧q0y w B0 B1 A c cs (qV cs k).length b W':=by
 obtain⟨hb,⟨t,ht,hf,rfl,hF⟩|⟨hs,rfl⟩⟩:=hp
 ·exact⟨_,_,rfl,hF.below,.inl ⟨rfl,t+1,hF,by rw[hf,List.length_append];rfl⟩⟩
 ·exact⟨_,_,rfl,h.below.trans (hb.below (fun i e=>by rw[e];have:=h.low;have:=h.lt;omega) h.below.size),.inr ⟨rfl,hs.symm⟩⟩
theorem qg1{w w':World}{B0 B1:Nat}{A:Option Addr}{c:Nat}{cs:List Int}{k:Nat}(h:kY w w' B0 B1 A c cs k):(qV cs k).length≤yr cs:=by
 rcases h.k2 with h1|h1
 ·obtain⟨r,hr⟩:=iO cs k cs.length h1;unfold yr;rw[hr,List.length_append];omega
 ·rw[h1,yY cs 193 (by omega)];exact Nat.zero_le _
theorem pO (cs:List Int):yr cs≤cs.length:=qju cs cs.length
theorem q00:q0x:=by
 intro A c cs w hp hl;have HP:=QH hp;have HFI:=QH (pN A c cs w w (Below.refl _ _));have hsm:=pO cs;clear hp;go_enter func221,ntmps221;go_wp2_with fail;refine HFI.out.mono ?_;rintro e W1 ⟨rfl,hf,hb⟩;have HF:=QH hf;clear hf hb HFI;unfold qoo;have hl0:=HF.out.low;obtain⟨B0,hB0⟩:=QE w.heap.size;rw[hB0]at HF hl0 ⊢;go_wp2_with fail;refine(uS HF.out HP.out hl).mono ?_;rintro e W2 hp;obtain⟨x,b,rfl,hs⟩:=qtN HF.out hp;rw[yY cs 193 (by omega)]at hs;have HS:=QH hs;clear hp hs HF;go_wp2_with fail;go_loopw [3,6] (fun v i wr=>q0z w B0 (B0+1) A c cs v i wr) (fun v _ _=>cs.length-(intOf v).toNat);case atStart=>exact⟨0,b,rfl,rfl,HS.out⟩
 case round =>
  clear HS;obtain⟨n,b,rfl,rfl,hb,h⟩:=hrel;have HB:=QH hb;rcases h with⟨rfl,k,hf,hk⟩|⟨rfl,rfl⟩
  ·have hm:=qg1 hf;have HF:=QH hf;have HK:=QH hk;clear hf;go_wp2_with fail;refine(uS HF.out HP.out hl).mono ?_;rintro e W3 hp;obtain⟨x,b,rfl,hs⟩:=qtN HF.out hp;rw[HK.out]at hs;have HS:=QH hs;clear hp hs HF;go_wp2_with fail;go_roundw;case rel=>exact⟨n+1,b,by go_num,rfl,HS.out⟩
   case measure=>simp[intOf];omega
  ·go_wp2_with fail;go_ret;exact⟨rfl,HB.out⟩
theorem qd6{zT:List (List Int)}{n:Int}(h:kV n (List.replicate n.toNat 0) zT.flatten=none):yX zT n=([],2):=by
 unfold yX;rw[h];split <;> rfl
theorem qg2{zT:List (List Int)}{n:Int}{cs:List Int}(h0:0≤n)(h1:n≤1024)(h:kV n (List.replicate n.toNat 0) zT.flatten=some cs):yX zT n=(cs,0):=by
 unfold yX;rw[h,if_neg (by omega)]
theorem qhX{w wr:World}{g c:Nat}{n:Nat}{cs:List Int}{r:List Int × Int}(hk:qf wr g 3 (zC cs))(hb:Below w.heap.size w wr)(hg:w.heap.size≤g)(hn:cs.length=n)(hc:n≤c)(hz:∀z∈cs,qD z)(hr:r=(cs,0)) :
    okL r w (.returned (.tuple #[.slice (some ⟨g,0,none⟩) n c,.int .i64 0])) wr:=by
 subst hr hn;refine⟨_,c,rfl,qf.ints hk hz,hb,fun b o h=>?_,hc⟩;simp only[Option.some.injEq,Addr.mk.injEq,and_true]at h;rw[← h.1];exact⟨hg,hk.lt⟩
theorem qd7(n:Int)(h0:0≤n)(h:n*8≤140737488355328)(W:World):(Instr.makeSlice 80 (.int .i64 n) (.int .i64 n)).run prog W=.ok (.slice (some ⟨W.heap.size,0,none⟩) n.toNat n.toNat) (W.alloc (.cells (zC (List.replicate n.toNat 0)) 3)):=by
 obtain⟨i0,hi,hz0,hz1,hz2⟩:=info_parts wN;have hmk:=run_make (P:=prog) W 80 3 i0 (.int .i64 0) underlying80 hi hz0 .i64 .i64 n n h0 (Int.le_refl _) (by rw[hz2];omega) (by omega);rw[hz1]at hmk;rw[← pL];simpa[Value.cells]using hmk
def q01 (w W:World)(g B0 B1:Nat)(A:Option Addr)(c:Nat)(cs:List Int)(m:Nat)(v:Value)(wr:World):Prop :=
 ∃(n k:Nat),n≤m∧v=.int .i64 (n:Int)∧kY W wr B0 B1 A c cs k∧(qV cs k).length=n∧qf wr g 3 (zC (qV cs k++List.replicate (m-n) 0))∧Below w.heap.size w wr
theorem qrY{cs:List Int}{k m:Nat}(h:(qV cs k).length=m)(hk:k≤cs.length∨k=193):(qV cs cs.length).take m=qV cs k:=by
 rcases hk with h1|h1
 ·obtain⟨r,hr⟩:=iO cs k cs.length h1;rw[hr,← h,List.take_left]
 ·rw[h1,yY cs 193 (by omega)]at h;rw[h1,yY cs 193 (by omega),← h];rfl
theorem ot (l:List Int)(r:Nat)(x:Int):(l++List.replicate (r+1) 0).set l.length x=(l++[x])++List.replicate r 0:=by
 rw[List.set_append_right _ _ (Nat.le_refl _),Nat.sub_self,List.replicate_succ,List.append_assoc];rfl
theorem q02:q0w:=by
 intro A c cs n w hp hl hn;have HP:=QH hp;have hsm:=pO cs;obtain⟨res,hres⟩:=QE (jn cs n);rw[hres];unfold jn at hres;by_cases h0:n<0
 ·rw[if_pos h0]at hres;subst hres;clear hp;go_enter func139,ntmps139;go_wp2_with fail;go_ret2;exact fN (Below.refl _ _)
 rw[if_neg h0]at hres;have HF:=QH (q00 A c cs w hp (by omega));obtain⟨fr,hfr⟩:=QE (yr cs);have HFR:=QH hfr;rw[hfr]at HF hres hsm;clear hfr hp;by_cases h1:(fr:Int)<n
 ·rw[if_pos h1]at hres;subst hres;go_enter func139,ntmps139;go_wp2_with fail;refine HF.out.mono ?_;rintro e W ⟨rfl,hb⟩;go_wp2_with fail;go_ret2;exact fN hb
 rw[if_neg h1]at hres;have hmk:=qd7 n (by omega) (by omega);obtain⟨m,rfl⟩:=Int.eq_ofNat_of_zero_le (show 0≤n by omega);rw[Int.toNat_natCast]at hmk hres;have xj:=QH hres;have HMK:=QH hmk;clear hres hmk;go_enter func139,ntmps139;go_wp2_with fail;refine HF.out.mono ?_;rintro e W ⟨rfl,hb⟩;have HB:=QH hb;have HPW:=QH (HP.out.below hb);clear hb HF;have hmk:=HMK.out;go_wp2_with fail;clear hmk;have hkb:qf (W.alloc (.cells (zC (List.replicate m 0)) 3)) W.heap.size 3 (zC (List.replicate m 0)):=qf.new _ _ _;have hb2:=(Below.refl W.heap.size W).alloc (Nat.le_refl _) (.cells (zC (List.replicate m 0)) 3);have hsz:(W.alloc (.cells (zC (List.replicate m 0)) 3)).heap.size=W.heap.size+1:=by simp
 obtain⟨W1,hW1⟩:=QE (W.alloc (.cells (zC (List.replicate m 0)) 3));rw[hW1]at hkb hb2 hsz ⊢;obtain⟨g,hg⟩:=QE W.heap.size;rw[hg]at hkb hb2 hsz ⊢;have HG:=QH hg;have HK:=QH hkb;have qO:=QH (qa HB.out (by rw[hg];exact hb2));have HP1:=HPW;have hfi:=pN A c cs W W1 (by rw[hg];exact hb2);rw[hsz]at hfi;have HWS:Hid (w.heap.size≤W.heap.size):=HB.out.size;have q03:Hid (w.heap.size≤g):=by rw[← hg];exact HB.out.size
 clear hkb hb2 hW1 hg HB HPW HMK;refine hfi.mono ?_;clear hfi;rintro e W2 ⟨rfl,hf,hb⟩;have HF:=QH hf;have jV:=QH (HK.out.below (by rw[hsz];exact hb));have qA:=QH (qa qO.out (by rw[hsz];exact hb));have tO:=QH hsz;clear hf hb HK qO hsz;unfold qoo;go_wp2_with fail;go_loopw [21] (fun v wr=>q01 w W g (g+1) (g+1+1) A c cs m v wr) (fun v _=>m-(intOf v).toNat);case atStart=>exact⟨0,193,Nat.zero_le _,rfl,HF.out,by rw[yY cs 193 (by omega)];rfl,by rw[yY cs 193 (by omega)];exact jV.out,qA.out⟩
 case round =>
  clear HF jV qA;obtain⟨n,k,hnm,rfl,hf,gW,hk,hb⟩:=hrel;have HF:=QH hf;have HFL:=QH gW;have HK:=QH hk;have HB:=QH hb;have hk2:=hf.k2;clear hf gW hk hb;by_cases hlt:n<m
  ·have qvZ:(n:Int)<(m:Int):=by omega
   go_wp2_with fail;refine(uS HF.out HP1.out (by omega)).mono ?_;rintro e W3 ⟨hb3,⟨t,ht,hft,rfl,hf3⟩|⟨hs,_⟩⟩
   ·have hk3:=HK.out.of_block (hb3.block g HK.out.lt (by omega));have mF:=hk3.qg n (.int .i64 (t:Int));have hlo:=HF.out.low;have hbl:Below w.heap.size w W3:=HB.out.trans (hb3.below (fun i e=>by rw[e];have:=q03.out;omega) HB.out.size);have xJ:qz (fun j=>j=g) W3 (W3.setCell ⟨g,n,none⟩ (.int .i64 (t:Int))):=(qz.refl _ _).setCell ⟨g,n,none⟩ _ (.inl rfl);have hcl:W3.cell? ⟨g,n,none⟩=some (.int .i64 0):=by
     rw[hk3.cell n,aW _ n (by rw[List.length_append,List.length_replicate,HFL.out];omega),List.getElem_append_right (by rw[HFL.out];exact Nat.le_refl _)];simp
    have jG:=hk3.lt;have hfz:=hk3.frozen n;rw[pK,show m-n=m-(n+1)+1 by omega]at mF;have hfo:=ot (qV cs k) (m-(n+1)) (t:Int);rw[HFL.out]at hfo;rw[hfo,← hft]at mF;have hf4:kY W (W3.setCell ⟨g,n,none⟩ (.int .i64 (t:Int))) (g+1) (g+1+1) A c cs (t+1) :=
     ⟨hf3.box.of_block (xJ.block _ hf3.box.lt (by omega)),hf3.at_.of_block (xJ.block _ hf3.at_.lt (by omega)),hf3.low,hf3.lt,hf3.k1,hf3.k2,hf3.below.trans (xJ.below (fun i e=>by rw[e,HG.out];exact Nat.le_refl _) hf3.below.size)⟩
    have q04:(qV cs (t+1)).length=n+1:=by rw[hft,List.length_append,HFL.out];rfl
    have hb4:Below w.heap.size w (W3.setCell ⟨g,n,none⟩ (.int .i64 (t:Int))):=hbl.trans (xJ.below (fun i e=>by rw[e];exact q03.out) hbl.size);have ed:=QH mF;have HF4:=QH hf4;have q5o:=QH q04;have zx:=QH hb4;clear mF hf4 q04 hb4 hk3 hbl xJ hfo hft hb3 hf3;go_wp2_with fail;go_roundw;case rel=>exact⟨n+1,t+1,by omega,by go_num,HF4.out,q5o.out,ed.out,zx.out⟩
    case measure=>simp[intOf];omega
   ·exact absurd hs (by rw[HFR.out,HFL.out];omega)
  ·have qvZ:¬ (n:Int)<(m:Int):=by omega
   have qrZ:n=m:=by omega
   have dA:=HK.out;rw[qrZ,Nat.sub_self,List.replicate_zero,List.append_nil]at dA;have HKE:=QH dA;have rV:=qrY (HFL.out.trans qrZ) hk2;have hr:res=(qV cs k,0):=by rw[← xj.out,rV]
   have HR:=QH hr;have HZ:=QH (qkg (cs:=cs) (i:=k) (by omega));have vI:=QH (HFL.out.trans qrZ);clear dA rV hr qrZ;go_wp2_with fail;go_ret2;exact qhX HKE.out HB.out (by rw[← HG.out];exact HWS.out) vI.out (Nat.le_refl _) HZ.out HR.out
theorem vR {fn:Func}{p u:Tmp}{ty uy:TypeId}(h:fn.results = #[.cell p ty,.cell u uy])(tmps:Array Value)(P:Program)(w:World)(a b:Addr)(v1 v2:Value)
    (hp:tmps.getD p undef=.pointer (some a)) (hu:tmps.getD u undef=.pointer (some b)) (h1:(loadVar ty a).run P w=.ok v1 w) (h2:(loadVar uy b).run P w=.ok v2 w) :
    (results fn tmps).run P w=.ok (.tuple #[v1,v2]) w:=by
 simp only[results,h];simp only[Array.getD_eq_getD_getElem?]at hp hu;simp[Sem.run_bind,Result.andThen,asAddr,hp,hu,h1,h2]
theorem l9 (w:World):(isAgg 80).run prog w=.ok false w:=by kernel_rfl
theorem ld (w:World):(isAgg 27).run prog w=.ok false w:=by kernel_rfl
theorem wK {t:TypeId}{w:World}(ha:(isAgg t).run prog w=.ok false w){a:Addr}{v:Value}(hc:w.cell? a=some v):(loadVar t a).run prog w=.ok v w:=by
 unfold loadVar;rw[Sem.run_bind,ha];simp[Result.andThen,hc]
end Go.Proofs.YtdpbdkacngaemaaGreatDoor.sp
namespace Go.Proofs.YtdpbdkacngaemaaGreatDoor.sp
open _root_.Go.Proofs.Tryz Go Go.RowKit Go.Shelf ib
attribute [local go_sem] Oper.semAt_some
theorem qbC{S:Nat→Prop}{w w':World}{row:Option Nat}(h:w.grownBy w' row)(hs:∀k,row=some k→S k):qz S w w' :=
 ⟨h.os,h.tape,h.output,h.size,fun k hk hn=>h.block k hk (fun e=>hn (hs k e.symm))⟩
theorem jA {S:Nat→Prop}{a w w':World}{row:Option Nat}(h:qz S a w)(hg:w.grownBy w' row)(hs:∀k,row=some k→S k∨a.heap.size≤k):qz S a w' :=
 h.trans (S':=fun k=>row=some k) (qbC hg (fun _ e=>e)) hs
structure qop(w W:World)(n e:Int):Prop where
 num:qf W w.heap.size 3 #[.int .i64 n]
 one:qf W (w.heap.size+1) 80 #[.slice none 0 0]
 two:qf W (w.heap.size+1+1) 27 #[.int .i64 e]
 below:Below w.heap.size w W
 size:W.heap.size=w.heap.size+1+1+1
theorem three(w:World)(n e:Int):qop w (((w.alloc (.cells #[.int .i64 n] 3)).alloc (.cells #[.slice none 0 0] 80)).alloc (.cells #[.int .i64 e] 27)) n e:=by
 have s1:(w.alloc (.cells #[.int .i64 n] 3)).heap.size=w.heap.size+1:=by simp
 have s2:((w.alloc (.cells #[.int .i64 n] 3)).alloc (.cells #[.slice none 0 0] 80)).heap.size=w.heap.size+1+1:=by simp
 have k1:=qf.new w 3 #[.int .i64 n];have k2:=qf.new (w.alloc (.cells #[.int .i64 n] 3)) 80 #[.slice none 0 0];have k3:=qf.new ((w.alloc (.cells #[.int .i64 n] 3)).alloc (.cells #[.slice none 0 0] 80)) 27 #[.int .i64 e];refine⟨(k1.of_block (Below.heap_alloc _ _ _ k1.lt)).of_block (Below.heap_alloc _ _ _ ?_),?_,?_,?_,by simp⟩
 ·rw[s2];omega
 ·rw[← s1];exact k2.of_block (Below.heap_alloc _ _ _ k2.lt)
 ·rw[← s2];exact k3
 ·exact(((Below.refl w.heap.size w).alloc (Nat.le_refl _) _).alloc (by simp) _).alloc (by simp;omega) _
theorem qhY{fn:Func}{w W:World}{n e:Int}(h:qop w W n e)(hf:fn.results = #[.cell 4 80,.cell 5 27])(tmps:Array Value)
    (h4:tmps.getD 4 undef=.pointer (some ⟨w.heap.size+1,0,none⟩)) (h5:tmps.getD 5 undef=.pointer (some ⟨w.heap.size+1+1,0,none⟩)) :
    (results fn tmps).run prog W=.ok (.tuple #[.slice none 0 0,.int .i64 e]) W :=
 vR hf _ _ _ _ _ _ _ h4 h5 (wK (l9 _) (h.one.cell 0)) (wK (ld _) (h.two.cell 0))
structure Six(w W:World)(m:Nat)(A:Option Addr)(l c:Nat):Prop where
 num:qf W w.heap.size 3 #[.int .i64 (m:Int)]
 one:qf W (w.heap.size+1) 80 #[.slice none 0 0]
 two:qf W (w.heap.size+1+1) 27 #[.int .i64 0]
 cnt:qf W (w.heap.size+1+1+1) 3 (zC (List.replicate m 0))
 box:qf W (w.heap.size+1+1+1+1) 80 #[.slice (some ⟨w.heap.size+1+1+1,0,none⟩) m m]
 ims:qf W (w.heap.size+1+1+1+1+1) 218 #[.slice A l c]
 below:Below w.heap.size w W
 size:W.heap.size=w.heap.size+1+1+1+1+1+1
theorem six{w W0:World}{m:Nat}(h:qop w W0 m 0)(A:Option Addr)(l c:Nat) :
    Six w (((W0.alloc (.cells (zC (List.replicate m 0)) 3)).alloc (.cells #[.slice (some ⟨w.heap.size+1+1+1,0,none⟩) m m] 80)).alloc (.cells #[.slice A l c] 218)) m A l c:=by
 obtain⟨h1,h2,h3,h4,h5⟩:=h;have k4:=qf.new W0 3 (zC (List.replicate m 0));have b4:=(Below.refl W0.heap.size W0).alloc (Nat.le_refl _) (.cells (zC (List.replicate m 0)) 3);have s4:(W0.alloc (.cells (zC (List.replicate m 0)) 3)).heap.size=w.heap.size+1+1+1+1:=by simp[h5]
 generalize W0.alloc (.cells (zC (List.replicate m 0)) 3)=W4 at *;have k5:=qf.new W4 80 #[.slice (some ⟨w.heap.size+1+1+1,0,none⟩) m m];have b5:=(Below.refl W4.heap.size W4).alloc (Nat.le_refl _) (.cells #[.slice (some ⟨w.heap.size+1+1+1,0,none⟩) m m] 80);have s5:(W4.alloc (.cells #[.slice (some ⟨w.heap.size+1+1+1,0,none⟩) m m] 80)).heap.size=w.heap.size+1+1+1+1+1:=by simp[s4]
 generalize W4.alloc (.cells #[.slice (some ⟨w.heap.size+1+1+1,0,none⟩) m m] 80)=W5 at *;have k6:=qf.new W5 218 #[.slice A l c];have b6:=(Below.refl W5.heap.size W5).alloc (Nat.le_refl _) (.cells #[.slice A l c] 218);have s6:(W5.alloc (.cells #[.slice A l c] 218)).heap.size=w.heap.size+1+1+1+1+1+1:=by simp[s5]
 generalize W5.alloc (.cells #[.slice A l c] 218)=W6 at *;rw[h5]at k4;rw[s4]at k5;rw[s5]at k6;exact⟨((h1.below b4).below b5).below b6,((h2.below b4).below b5).below b6,((h3.below b4).below b5).below b6,(k4.below b5).below b6,k5.below b6,k6,qa (qa (qa h4 b4) b5) b6,s6⟩
def CI (m:Nat)(g:Nat)(W0:World)(pre:List I64)(W:World):Prop :=
 ∃cs,kV (m:Int) (List.replicate m 0) (pre.map fun x=>x.1)=some cs∧qf W g 3 (zC cs)∧qz (fun k=>k=g) W0 W
def CX (m:Nat)(g b:Nat)(W0:World)(c:Code)(pre:List I64)(W:World):Prop :=
 c=.ret∧kV (m:Int) (List.replicate m 0) (pre.map fun x=>x.1)=none∧qf W b 80 #[.slice none 0 0]∧qf W (b+1) 27 #[.int .i64 2]∧qz (fun k=>k=g∨k=b∨k=b+1) W0 W
theorem pP (L:List (List I64)):(Plain L).flatten=L.flatten.map fun x=>x.1:=by
 rw[List.map_flatten]
theorem qsa:qrV:=by
 intro A c zT n w hp hl hn;have HP:=QH hp;obtain⟨res,hres⟩:=QE (yX zT n);rw[hres];by_cases h0:n<0
 ·have hr:res=([],2):=by rw[← hres];unfold yX;rw[if_pos (.inl h0)]
  subst hr;clear hp hres;refine(callsIn_wide (n:=9)).1 (callsIn_of_wp_marks func137 rfl trivial ?_ rfl);refine wpIn_wide.2 ?_;simp only[ntmps137,List.size_toArray,List.length_cons,List.length_nil,Nat.reduceAdd,Nat.reduceSub,Array.replicate_succ,Array.replicate_zero,List.push_toArray,List.append_toArray,List.nil_append,List.cons_append];go_wp2_with fail;exact⟨_,qhY (three w n 2) rfl _ rfl rfl,fN (three w n 2).below⟩
 by_cases h1:1024<n
 ·have hr:res=([],2):=by rw[← hres];unfold yX;rw[if_pos (.inr h1)]
  subst hr;clear hp hres;refine(callsIn_wide (n:=9)).1 (callsIn_of_wp_marks func137 rfl trivial ?_ rfl);refine wpIn_wide.2 ?_;simp only[ntmps137,List.size_toArray,List.length_cons,List.length_nil,Nat.reduceAdd,Nat.reduceSub,Array.replicate_succ,Array.replicate_zero,List.push_toArray,List.append_toArray,List.nil_append,List.cons_append];go_wp2_with fail;exact⟨_,qhY (three w n 2) rfl _ rfl rfl,fN (three w n 2).below⟩
 have hmk:=qkb n (by omega) (by omega);obtain⟨m,rfl⟩:=Int.eq_ofNat_of_zero_le (show 0≤n by omega);rw[Int.toNat_natCast]at hmk;have hm:m≤1024:=by omega
 have xj:=QH hres;obtain⟨L,rfl⟩:=qom zT (fun l hl' z hz=>by
  obtain⟨i,hi,rfl⟩:=List.getElem_of_mem hl';obtain⟨_,_,_,_,_,_,_,h5,_⟩:=hp i hi;exact h5.mem z hz)
 have HT:=QH (three w m 0);rw[List.length_map]at hl ⊢;clear hp hres;refine(callsIn_wide (n:=9)).1 (callsIn_of_wp_marks func137 rfl trivial ?_ rfl);refine wpIn_wide.2 ?_;simp only[ntmps137,List.size_toArray,List.length_cons,List.length_nil,Nat.reduceAdd,Nat.reduceSub,Array.replicate_succ,Array.replicate_zero,List.push_toArray,List.append_toArray,List.nil_append,List.cons_append];go_wp2_with fail;clear hmk;obtain⟨W0,hW0⟩:=QE (((w.alloc (.cells #[.int .i64 (m:Int)] 3)).alloc (.cells #[.slice none 0 0] 80)).alloc (.cells #[.int .i64 0] 27));rw[hW0]at HT ⊢;clear hW0;refine(callsIn_wide (n:=9).1 (qke Fence.wide 9 trivial rfl _ _ _ _)).mono ?_;rintro e w' ⟨rfl,rfl⟩;have q05:((W0.alloc (.cells (zC (List.replicate m 0)) 3)).alloc (.cells #[.slice (some ⟨w.heap.size+1+1+1,0,none⟩) m m] 80)).heap.size=w.heap.size+1+1+1+1+1:=by simp[HT.out.size]
 rw[q05];have H6:=QH (six HT.out A L.length c);clear q05;obtain⟨W2,hW2⟩:=QE (((W0.alloc (.cells (zC (List.replicate m 0)) 3)).alloc (.cells #[.slice (some ⟨w.heap.size+1+1+1,0,none⟩) m m] 80)).alloc (.cells #[.slice A L.length c] 218));rw[hW2]at H6 ⊢;clear hW2 HT;obtain⟨q,hq⟩:=QE w.heap.size;obtain⟨d1,d2,d3,d4,d5,d6,d7,d8⟩:=H6.out;rw[hq]at d1 d2 d3 d4 d5 d6 d8 ⊢;have HQ:=QH hq;have HST:=QH (qbB Fence.wide 8 trivial rfl (by decide) (q+1+1+1+1+1) A c L w W2 HP.out hl d7 d6);clear hq;go_wp2_with fail;refine wpIn_wide.1 (wpIn_rangeFunc_ownF (F:=Fence.wide) (n:=9) rfl (by decide) (gf:=268) (lb:=#[.pointer (some ⟨q+1+1+1+1+1,0,none⟩)]) rfl trivial (enters_of func268 (by kernel_rfl) rfl) HST.out
  belowK_t (belowK_b d7.size) (Below.refl _ _) (fun _=>rfl)
  (CI m (q+1+1+1) W2) (CX m (q+1+1+1) (q+1) W2) ?hI ?hIx ⟨_,rfl,d4,qz.refl _ _⟩
  (fun x=>{ tmps:=#[.slice A L.length c,.int .i64 (m:Int),undef,.pointer (some ⟨q,0,none⟩),.pointer (some ⟨q+1,0,none⟩),.pointer (some ⟨q+1+1,0,none⟩),.pointer (some ⟨q+1+1+1+1,0,none⟩),.int .i64 x.1,.int .i64 (m:Int),.bool false,.bool false,.int .i64 (m:Int),.bool false,.bool false,.int .i64 (m:Int),.slice (some ⟨q+1+1+1,0,none⟩) m m,.slice A L.length c,.func (.func 268) #[] #[.pointer (some ⟨q+1+1+1+1+1,0,none⟩)],.int .i64 x.1,undef,undef,undef,undef,undef,undef,undef,undef,undef,undef,undef,undef,undef,undef,undef,undef,undef,undef],defers:=[] })
  ?assign ?body ?done ?stop)
 case hI =>
  intro pre W W' row ⟨cs,h1,h2,h3⟩ hg hr;refine⟨cs,h1,h2.of_block (hg.block _ h2.lt (fun e=>?_)),jA h3 hg (fun k e=>.inr (hr k e).1)⟩;have:=(hr _ e.symm).1;omega
 case hIx =>
  intro cc pre W W' row ⟨h0,h1,h2,h2',h3⟩ hg hr;refine⟨h0,h1,h2.of_block (hg.block _ h2.lt (fun e=>?_)),h2'.of_block (hg.block _ h2'.lt (fun e=>?_)),jA h3 hg (fun k e=>.inr (hr k e).1)⟩;all_goals
   have:=(hr _ e.symm).1;omega
 case assign =>
  intro l x W K hK
  gi_wp2
  exact hK
 case body =>
  rintro l pre x W ⟨cs,hcs,zy,jx⟩ _;have hsz:=jx.size;have e1:qf W q 3 _:=d1.of_block (jx.block _ d1.lt (by omega));have e2:qf W (q+1) 80 _:=d2.of_block (jx.block _ d2.lt (by omega));have e3:qf W (q+1+1) 27 _:=d3.of_block (jx.block _ d3.lt (by omega));have e5:qf W (q+1+1+1+1) 80 _:=d5.of_block (jx.block _ d5.lt (by omega));have yO:∀cs',kV (m:Int) (List.replicate m 0) ((pre++[x]).map fun x=>x.1)=some cs'→∀W',qf W' (q+1+1+1) 3 (zC cs')→qz (fun k=>k=q+1+1+1) W W'→CI m (q+1+1+1) W2 (pre++[x]) W' :=
   fun cs' h1 W' h2 h3=>⟨cs',h1,h2,jx.trans h3 (fun i e=>.inl e)⟩
  have hbl:∀W',qz (fun k=>k=q+1+1+1) W W'→Below w.heap.size W W':=fun W' h=>h.below (fun i e=>by rw[e,HQ.out];omega) (by rw[HQ.out];omega);have hsn:=qjs hcs x.1;rw[show pre.map (fun x=>x.1)++[x.1]=(pre++[x]).map (fun x=>x.1)by simp]at hsn;have kn:W.cell? ⟨q,0,none⟩=some (.int .i64 (m:Int)):=e1.cell 0;have kb:W.cell? ⟨q+1+1+1+1,0,none⟩=some (.slice (some ⟨q+1+1+1,0,none⟩) m m):=e5.cell 0;have ko:W.cell? ⟨q+1,0,none⟩=some (.slice none 0 0):=e2.cell 0;have kt:W.cell? ⟨q+1+1,0,none⟩=some (.int .i64 0):=e3.cell 0;have ln:=e1.lt;have lo:=e2.lt;have lt:=e3.lt;have lb:=e5.lt;have fo:=e2.frozen 0;have ft:=e3.frozen 0;have HPO:=QH yO;have bK:=QH hbl;have xP:=QH hsn;have kX:=QH zy;have q5p:=QH jx;have HCS:=QH hcs;have E2:=QH e2;have E3:=QH e3;have zbB:=x.2;clear yO hbl hsn zy jx hcs e1 e2 e3 e5 hsz d1 d2 d3 d4 d5 d6 d7 d8;generalize x.1=y at *;by_cases hy0:y=0
  ·subst hy0;have hs:=xP.out;rw[if_pos rfl]at hs;have kT:=QH hs;clear hs
   gi_wp2
   exact⟨KeepsOthers.refl _,Below.refl _ _,HPO.out _ kT.out _ kX.out (qz.refl _ _)⟩
  ·have zbC:(y == 0)=false:=by simpa using hy0
   by_cases dh:y<193∨(m:Int)≤y
   ·have hs:=xP.out;rw[if_neg hy0,if_pos dh]at hs;have kT:=QH hs;clear hs;have qmb:Hid (KeepsOthers W ((W.setCell ⟨q+1,0,none⟩ (.slice none 0 0)).setCell ⟨q+1+1,0,none⟩ (.int .i64 2))∧CX m (q+1+1+1) (q+1) W2 .ret (pre++[x]) ((W.setCell ⟨q+1,0,none⟩ (.slice none 0 0)).setCell ⟨q+1+1,0,none⟩ (.int .i64 2))):=by
     have b1:qz (fun k=>k=q+1) W (W.setCell ⟨q+1,0,none⟩ (.slice none 0 0)):=(qz.refl _ _).setCell ⟨q+1,0,none⟩ _ (.inl rfl);have b2:qz (fun k=>k=q+1+1) (W.setCell ⟨q+1,0,none⟩ (.slice none 0 0)) ((W.setCell ⟨q+1,0,none⟩ (.slice none 0 0)).setCell ⟨q+1+1,0,none⟩ (.int .i64 2)):=(qz.refl _ _).setCell ⟨q+1+1,0,none⟩ _ (.inl rfl);have k1:=E2.out.qg 0 (.slice none 0 0);have k2:=(E3.out.of_block (b1.block _ E3.out.lt (by omega))).qg 0 (.int .i64 2);refine⟨(KeepsOthers.setCell _ _ _).trans (KeepsOthers.setCell _ _ _),rfl,kT.out,k1.of_block (b2.block _ k1.lt (by omega)),k2,?_⟩;have b3:qz (fun k=>k=q+1∨k=q+1+1) W _:=(b1.mono (S':=fun k=>k=q+1∨k=q+1+1) (fun i e=>.inl e)).trans b2 (fun i e=>.inl (.inr e));exact(q5p.out.mono (S':=fun k=>k=q+1+1+1∨k=q+1∨k=q+1+1) (fun i e=>.inl e)).trans b3 (fun i e=>.inl (.inr e))
    by_cases xu:y<193
    ·gi_wp2
     exact qmb.out
    ·have hge:(m:Int)≤y:=by omega
     gi_wp2
     exact qmb.out
   ·have hs:=xP.out;rw[if_neg hy0,if_neg dh]at hs;have xu:¬ y<193:=fun h=>dh (.inl h);have hge:¬ (m:Int)≤y:=fun h=>dh (.inr h);obtain⟨t,rfl⟩:=Int.eq_ofNat_of_zero_le (show 0≤y by omega);rw[Int.toNat_natCast]at hs;have htm:t<m:=by omega
    have hti:(t:Int)<(m:Int):=by omega
    have hcl:cs.length=m:=by rw[fx HCS.out,List.length_replicate]
    have htd:t<cs.length:=by rw[hcl];exact htm
    have qsb:=QH hs;have hq':=kX.out.cell t;rw[aW cs t htd]at hq';have hfz:=kX.out.frozen t;have jG:=kX.out.lt;have hgd:cs.getD t 0=cs[t]:=by simp[List.getD,htd]
    have mF:=pK cs t (wrap64 (cs[t]+1));have qwe:=kX.out.qg t (.int .i64 (wrap64 (cs[t]+1)));rw[mF,← hgd]at qwe;have q06:Hid (qf (W.setCell ⟨q+1+1+1,t,none⟩ (.int .i64 (wrap64 (cs.getD t 0+1)))) (q+1+1+1) 3 (zC (bump cs t))):=qwe;have qA:Hid (qz (fun k=>k=q+1+1+1) W (W.setCell ⟨q+1+1+1,t,none⟩ (.int .i64 (wrap64 (cs.getD t 0+1))))):=(qz.refl _ _).setCell ⟨q+1+1+1,t,none⟩ _ (.inl rfl);rw[hgd]at q06 qA;have hv:=fM HCS.out (qam _) cs[t] (List.getElem_mem htd);unfold qD at hv;clear hs hgd mF qwe hcl;generalize cs[t]=v at *
    gi_wp2
    exact⟨KeepsOthers.setCell _ _ _,bK.out _ qA.out,HPO.out _ qsb.out _ q06.out qA.out⟩
 case stop =>
  rintro D cc pre W hD hpre ⟨rfl,hx,h1,h2,h3⟩ hK;have hr:res=([],2):=by
   rw[← xj.out];refine qd6 ?_;obtain⟨r,hr⟩:=hpre;rw[pP,← hr,List.map_append];exact qjt hx _
  subst hr
  gi_wp2
  refine⟨by simp,.inl ⟨_,_,rfl,run_takeDeferred hK,?_⟩⟩;have p1:qf (W.putObj D (.deferred none)) (q+1) 80 _:=h1.of_block (World.putObj_heap_other (by omega));have p2:qf (W.putObj D (.deferred none)) (q+1+1) 27 _:=h2.of_block (World.putObj_heap_other (by omega));have hb1:Below w.heap.size w W:=d7.trans (h3.below (fun i e=>by rw[HQ.out];omega) d7.size);have hb2:Below w.heap.size w (W.putObj D (.deferred none)):=hb1.grown (grownBy_putObj' W D _) hb1.size (fun k e=>by cases e;rw[HQ.out];omega);exact⟨_,vR rfl _ _ _ ⟨q+1,0,none⟩ ⟨q+1+1,0,none⟩ _ _ rfl rfl (wK (l9 _) (p1.cell 0)) (wK (ld _) (p2.cell 0)),fN hb2⟩
 case done =>
  rintro D ys W hD rfl ⟨cs,hcs,zy,jx⟩ hK;have hr:res=(cs,0):=by
   rw[← xj.out];refine qg2 (by omega) (by omega) ?_;rw[pP,Int.toNat_natCast];exact hcs
  have hcl:cs.length=m:=by rw[fx hcs,List.length_replicate]
  have hz:=fM hcs (qam _);have hsz:=jx.size;have e2:qf W (q+1) 80 _:=d2.of_block (jx.block _ d2.lt (by omega));have e3:qf W (q+1+1) 27 _:=d3.of_block (jx.block _ d3.lt (by omega));have e5:qf W (q+1+1+1+1) 80 _:=d5.of_block (jx.block _ d5.lt (by omega));have hb1:Below w.heap.size w W:=d7.trans (jx.below (fun i e=>by rw[e,HQ.out];omega) d7.size);have kb:W.cell? ⟨q+1+1+1+1,0,none⟩=some (.slice (some ⟨q+1+1+1,0,none⟩) m m):=e5.cell 0;have ko:W.cell? ⟨q+1,0,none⟩=some (.slice none 0 0):=e2.cell 0;have kt:W.cell? ⟨q+1+1,0,none⟩=some (.int .i64 0):=e3.cell 0;have lo:=e2.lt;have lt:=e3.lt;have lb:=e5.lt;have fo:=e2.frozen 0;have ft:=e3.frozen 0;have HR:=QH hr;have kJ:=QH hcl;have HZ:=QH hz;have E2:=QH e2;have E3:=QH e3;have kX:=QH zy;have qO:=QH hb1;have HK:=QH hK;clear hr hcl hz hsz e2 e3 e5 zy hb1 hcs jx hK d1 d2 d3 d4 d5 d6 d7;go_wp2_with fail;have b1:qz (fun k=>k=q+1) W (W.setCell ⟨q+1,0,none⟩ (.slice (some ⟨q+1+1+1,0,none⟩) m m)):=(qz.refl _ _).setCell ⟨q+1,0,none⟩ _ (.inl rfl);have b2:qz (fun k=>k=q+1+1) (W.setCell ⟨q+1,0,none⟩ (.slice (some ⟨q+1+1+1,0,none⟩) m m)) ((W.setCell ⟨q+1,0,none⟩ (.slice (some ⟨q+1+1+1,0,none⟩) m m)).setCell ⟨q+1+1,0,none⟩ (.int .i64 0)):=(qz.refl _ _).setCell ⟨q+1+1,0,none⟩ _ (.inl rfl);have k1:=E2.out.qg 0 (.slice (some ⟨q+1+1+1,0,none⟩) m m);have k2:=(E3.out.of_block (b1.block _ E3.out.lt (by omega))).qg 0 (.int .i64 0);have k1':=k1.of_block (b2.block _ k1.lt (by omega));have b3:qz (fun k=>k=q+1∨k=q+1+1) W _:=(b1.mono (S':=fun k=>k=q+1∨k=q+1+1) (fun i e=>.inl e)).trans b2 (fun i e=>.inl (.inr e));generalize (W.setCell ⟨q+1,0,none⟩ (.slice (some ⟨q+1+1+1,0,none⟩) m m)).setCell ⟨q+1+1,0,none⟩ (.int .i64 0)=W' at *;have hKD:W'.heap[D]?=some (.deferred (some [])):=(b3.block D (Array.getElem?_eq_some_iff.1 HK.out).1 (by omega)).trans HK.out;refine⟨by simp,.inl ⟨_,_,rfl,run_takeDeferred hKD,?_⟩⟩;have p1:qf (W'.putObj D (.deferred none)) (q+1) 80 _:=k1'.of_block (World.putObj_heap_other (by omega));have p2:qf (W'.putObj D (.deferred none)) (q+1+1) 27 _:=k2.of_block (World.putObj_heap_other (by omega));have p3:qf (W'.putObj D (.deferred none)) (q+1+1+1) 3 _:=(kX.out.of_block (b3.block _ kX.out.lt (by omega))).of_block (World.putObj_heap_other (by omega));have hw1:Below w.heap.size w W':=qO.out.trans (b3.below (fun i e=>by rw[HQ.out];omega) qO.out.size);have hw2:Below w.heap.size w (W'.putObj D (.deferred none)):=hw1.grown (grownBy_putObj' W' D _) hw1.size (fun k e=>by cases e;rw[HQ.out];omega);exact⟨_,vR rfl _ _ _ ⟨q+1,0,none⟩ ⟨q+1+1,0,none⟩ _ _ rfl rfl (wK (l9 _) (p1.cell 0)) (wK (ld _) (p2.cell 0)),qhX p3 hw2 (by rw[HQ.out];omega) kJ.out (Nat.le_refl _) HZ.out HR.out⟩
end Go.Proofs.YtdpbdkacngaemaaGreatDoor.sp
namespace Go.Proofs.YtdpbdkacngaemaaGreatDoor.vt.pg
open _root_.Go.Proofs.Tryz Go Go.RowKit Go.Sort ib mt im sp
abbrev Pl:=Int × Int × Bt
theorem qwf:(prog.info? 214).map (fun i=>(i.zero,i.size,i.bytes))=some (some (.agg #[.int .i64 0,.int .i64 0,.string ByteArray.empty]),3,32):=by kernel_rfl
def je:List Pl→List Value
 | []=>[]
 | x::r=>.int .i64 x.1 :: .int .i64 x.2.1 :: .string (str x.2.2)::je r
theorem bM:∀(l r:List Pl),je (l++r)=je l++je r
 | [],_=>rfl
 | x::l,r=>by simp[je,bM l r]
theorem pQ:∀l:List Pl,(je l).length=l.length*3
 | []=>rfl
 | x::l=>by simp[je,pQ l];omega
theorem pR:∀(l:List Pl) (i:Nat) (h:i<l.length),(je l)[i*3]?=some (.int .i64 l[i].1)∧(je l)[i*3+1]?=some (.int .i64 l[i].2.1)∧(je l)[i*3+2]?=some (.string (str l[i].2.2))
 | x::l,0,_=>⟨rfl,rfl,rfl⟩
 | x::l,i+1,h=>by
  have:=pR l i (by simpa using h);rw[show(i+1)*3=i*3+1+1+1 from by omega];exact this
theorem pS:∀(l:List Pl) (k:Nat) (h:k<l.length) (a:Int),(je l).set (k*3+1) (.int .i64 a)=je (l.set k (l[k].1,a,l[k].2.2))
 | y::l,0,_,a=>rfl
 | y::l,k+1,hk,a=>by
  have ih:=pS l k (by simpa using hk) a;rw[show(k+1)*3+1=k*3+1+1+1+1 by omega];simp only[je,List.set_cons_succ];exact congrArg _ (congrArg _ (congrArg _ ih))
def OPl (w:World)(B:Nat)(v:Value)(l:List Pl):Prop:=w.ownsRow B 214 3 v l.length (je l)
def PlL (w:World)(A:Option Addr)(l:List Pl):Prop:=∀i (h:i<l.length),∃b o,A=some ⟨b,o,none⟩∧b<w.heap.size∧w.cell? ⟨b,o+i*3,none⟩=some (.int .i64 l[i].1)∧w.cell? ⟨b,o+i*3+1,none⟩=some (.int .i64 l[i].2.1)∧w.cell? ⟨b,o+i*3+2,none⟩=some (.string (str l[i].2.2))
theorem PlL.below{w w':World}{A:Option Addr}{l:List Pl}(h:PlL w A l)(hb:Below w.heap.size w w'):PlL w' A l:=by
 intro i hi;obtain⟨b,o,h1,h2,h3,h4,h5⟩:=h i hi;exact⟨b,o,h1,Nat.lt_of_lt_of_le h2 hb.size,(hb.cell (p:=⟨b,o+i*3,none⟩) h2).trans h3,(hb.cell (p:=⟨b,o+i*3+1,none⟩) h2).trans h4,(hb.cell (p:=⟨b,o+i*3+2,none⟩) h2).trans h5⟩
theorem OPl.view{w:World}{B:Nat}{v:Value}{l:List Pl}(h:OPl w B v l):∃a c,v=.slice a l.length c∧PlL w a l:=by
 rcases h.2 with⟨rfl,h0⟩|⟨g,cap,cur,rfl,hg,hh,hcc,hm,hcs,xC⟩
 ·obtain rfl:l=[]:=List.length_eq_zero_iff.1 h0;exact⟨none,0,rfl,fun i h=>by simp at h⟩
 ·refine⟨some ⟨g,0,none⟩,cap,rfl,fun i hi=>?_⟩;have key:∀(j:Nat) (u:Value),(je l)[j]?=some u→w.cell? ⟨g,j,none⟩=some u:=by
   intro j u hu;rw[cell_of_row w g j cur 214 (0,0) hh];rw[← xC,List.getElem?_take]at hu;split at hu
   ·simpa using hu
   ·cases hu
  obtain⟨g0,g1,g2⟩:=pR l i hi;exact⟨g,0,rfl,(Array.getElem?_eq_some_iff.1 hh).1,by rw[Nat.zero_add];exact key _ _ g0,by rw[Nat.zero_add];exact key _ _ g1,by rw[Nat.zero_add];exact key _ _ g2⟩
theorem OPl.below{w w':World}{B:Nat}{v:Value}{l:List Pl}(h:OPl w B v l)(hb:Below w.heap.size w w'):OPl w' B v l:=qC h (fun j hj=>hb.block j (h.lt j hj).2)
theorem OPl.set{w:World}{B:Nat}{l:List Pl}{g c n:Nat}(h:OPl w B (.slice (some ⟨g,0,none⟩) n c) l)(k:Nat)(hk:k<l.length)(a:Int) :
    OPl (w.setCell ⟨g,k*3+1,none⟩ (.int .i64 a)) B (.slice (some ⟨g,0,none⟩) n c) (l.set k (l[k].1,a,l[k].2.2))∧w.frozen? ⟨g,k*3+1,none⟩=false∧B≤g∧g<w.heap.size:=by
 rcases h.2 with⟨e,h0⟩|⟨g',cap,cur,e,hg,hh,hcc,hm,hcs,xC⟩
 ·cases e
 ·simp only[Value.slice.injEq,Option.some.injEq,Addr.mk.injEq,and_true]at e;obtain⟨rfl,rfl,rfl⟩:=e;have dA:qf w g 214 cur:=hh;have rU:(l.set k (l[k].1,a,l[k].2.2)).length=l.length:=by rw[List.length_set]
  refine⟨⟨by rw[pQ],.inr ⟨g,c,_,by rw[rU],hg,dA.qg (k*3+1) (.int .i64 a),by rw[rU];exact hcc,hm,by simpa using hcs,?_⟩⟩,dA.frozen _,hg,dA.lt⟩;rw[rU,Array.toList_setIfInBounds,List.take_set,xC];exact pS l k hk a
def PL (x:List (Int × Bt))(at_:List Int):List Pl:=List.zipWith (fun c a=>(c.1,a,c.2)) x at_
def P0 (x:List (Int × Bt)):List Pl:=x.map fun c=>(c.1,0,c.2)
theorem qki{x:List (Int × Bt)}{k:Nat}(h:k<x.length):full (x.take (k+1))=full (x.take k)+if x[k].2=zb then 0 else 1:=by
 unfold full;rw[List.take_succ_eq_append_getElem h,List.filter_append,List.length_append]
 congr 1
 by_cases e:x[k].2=zb <;> simp[e]
def pT (P:List Pl):List Wr:=P.filterMap fun p=>if p.2.1=0 then none else some (p.2.1,p.2.2)
theorem lf:∀(x:List (Int × Bt)) (fr:List Int),(∀f∈fr,f≠0)→full x≤fr.length→pT (PL x (qd fr x).1)=(qd fr x).2
 | [],fr,_,_=>by simp[qd,PL,pT]
 | (k,s)::r,fr,hf,h=>by
  rw[wD]at h;by_cases hs:s=zb
  ·rw[if_pos hs]at h;have ih:=lf r fr hf (by omega);have e:qd fr ((k,s)::r)=(0::(qd fr r).1,(qd fr r).2):=by
    cases fr <;> simp[qd,hs]
   rw[e];simpa[PL,pT]using ih
  ·rw[if_neg hs]at h;cases fr with
   | nil=>simp at h
   | cons f fr =>
    have ih:=lf r fr (fun z hz=>hf z (by simp[hz])) (by simp at h;omega);have hf0:=hf f (by simp);have e:qd (f::fr) ((k,s)::r)=(f::(qd fr r).1,(f,s)::(qd fr r).2):=by
     simp[qd,hs]
    rw[e];simpa[PL,pT,hf0]using ih
def PlR (x:List (Int × Bt))(w:World)(v f i:Value)(wr:World):Prop :=
 ∃k:Nat,k≤x.length∧i=.int .i64 (k:Int)∧f=.int .i64 ((full (x.take k):Nat):Int)∧OPl wr w.heap.size v (P0 (x.take k))∧Below w.heap.size w wr
def PcG (v pd N:Nat)(T:Value)(n1 n2:Nat)(ims:List (List Int))(cs:List Int):Nat→Value→World→Prop
 | 0,u,_=>u=pt v
 | 1,u,_=>u=pt v
 | 2,u,_=>u=pt v
 | 3,u,_=>u=T
 | 4,u,W=>∃A c,u=.slice A n1 c∧fB W A ims
 | 5,u,_=>u=pt v
 | 6,u,_=>u=pt v
 | 7,u,_=>u=.pointer (some ⟨v,9,none⟩)
 | 8,u,_=>u=pt pd
 | 9,u,_=>u=.int .i64 (N:Int)
 | 10,u,W=>∃A c,u=.tuple #[.slice A n2 c,.int .i64 0]∧ib.qI W A cs
 | 11,u,W=>∃A c,u=.tuple #[.slice A n2 c,.int .i64 0]∧ib.qI W A cs
 | 12,u,W=>∃A c,u=.slice A n2 c∧ib.qI W A cs
 | 13,u,_=>u=.int .i64 0
 | 14,u,W=>∃A c,u=.slice A n2 c∧ib.qI W A cs
 | 15,u,_=>u=.int .i64 0
 | _,_,_=>True
theorem qor(v pd N:Nat)(T:Value)(n1 n2:Nat)(ims:List (List Int))(cs:List Int)(i:Nat)(u:Value)(w w':World)(hi:i<16)(h:PcG v pd N T n1 n2 ims cs i u w)(hb:Below w.heap.size w w'):PcG v pd N T n1 n2 ims cs i u w':=by
 match i,hi,h with
 | 0,_,h | 1,_,h | 2,_,h | 3,_,h | 5,_,h | 6,_,h | 7,_,h | 8,_,h | 9,_,h | 13,_,h | 15,_,h=>exact h
 | 4,_,⟨A,c,h1,h2⟩=>exact⟨A,c,h1,h2.below hb⟩
 | 10,_,⟨A,c,h1,h2⟩ | 11,_,⟨A,c,h1,h2⟩ | 12,_,⟨A,c,h1,h2⟩ | 14,_,⟨A,c,h1,h2⟩=>exact⟨A,c,h1,h2.below hb⟩
 | j+16,hi,_=>exact absurd hi (by omega)
def qsc (r:(List Int × List Wr) × Int)(x:List (Int × Bt))(w:World)(e:Ending)(w':World):Prop:=Below w.heap.size w w'∧((r.2≠0∧e=.returned (.tuple #[.slice none 0 0,.int .i64 r.2]))∨(r.2=0∧∃v,e=.returned (.tuple #[v,.int .i64 0])∧OPl w' w.heap.size v (PL x r.1.1)))
end Go.Proofs.YtdpbdkacngaemaaGreatDoor.vt.pg
namespace Go.Proofs.YtdpbdkacngaemaaGreatDoor.im
open _root_.Go.Proofs.Tryz Go Go.RowKit ib
def okO (r:List Int)(w:World)(e:Ending)(w':World):Prop:=∃v,e=.returned v∧zg w' w.heap.size v r∧Below w.heap.size w w'
theorem qot{w:World}{ad:Addr}{zs:List Int}(h:qI w (some ad) zs)(m:Nat):∀(j:Nat) (u:Value),((zs.take m).map (Value.int .i64))[j]?=some u→w.cell? (ad.add j)=some u:=by
 intro j u hu;rw[List.getElem?_map]at hu;cases hz:(zs.take m)[j]? with
 | none=>rw[hz]at hu;cases hu
 | some z =>
  rw[hz]at hu;injection hu with hu
  subst hu;obtain⟨hj,rfl⟩:=List.getElem?_eq_some_iff.1 hz;have hj':j<zs.length:=by simp at hj;omega
  obtain⟨b,o,h1,_,h3,_⟩:=h j hj';injection h1 with h1
  subst h1;rw[addr_add,h3,List.getElem_take]
theorem qou(zs:List Int):∀u∈zs.map (Value.int .i64),u.oneCell'=true:=by
 intro u hu;obtain⟨z,_,rfl⟩:=List.mem_map.1 hu;rfl
def q07:Prop:=∀(A:Option Addr) (c:Nat) (l:List Int) (b s:Int) (w:World),js w A l c→l.length≤1000→qD b→qD s →
 Calls prog 143 #[.slice A l.length c,.int .i64 b,.int .i64 s] w (qi9 (qcn l b s) w)
theorem qsd(w:World):(w.alloc (.cells #[] 3)).ownsRow w.heap.size 3 1 (.slice (some ⟨w.heap.size,0,none⟩) 0 0) 0 [] :=
 ⟨rfl,.inr ⟨w.heap.size,0,#[],rfl,Nat.le_refl _,heap_alloc_new w _,Nat.le_refl _,by unfold maxLen;omega,rfl,rfl⟩⟩
theorem qov(w:World)(A:Option Addr)(l:List Int)(h:qI w A l)(h1:1≤l.length):∃b o,A=some ⟨b,o,none⟩:=by
 obtain⟨b,o,h2,_⟩:=h 0 (by omega);exact⟨b,o,h2⟩
theorem lg (A:Option Addr)(c:Nat)(l:List Int)(w:World)(hp:qI w A l)(hl:l.length≤1000)(h1:1≤l.length) :
    Calls prog 224 #[.slice A l.length c] w (okO l w):=by
 obtain⟨i0,hi,hz0,hz1,hz2⟩:=info_parts wN;obtain⟨b,o,rfl⟩:=qov w A l hp h1;have H0:=QH (qsd w);have HB:=QH ((Below.refl w.heap.size w).alloc (Nat.le_refl _) (.cells #[] 3));have qtQ:=QH (qot (hp.below ((Below.refl w.heap.size w).alloc (Nat.le_refl _) (.cells #[] 3))) l.length);rw[List.take_length]at qtQ;have qkj:=QH (qou l);have qn:(binOp .eql 80 (.slice (some ⟨b,o,none⟩) l.length c) (.slice none 0 0)).run prog w=.ok (.bool false) w:=Lib.run_eql_slice_nil w _ _ _ _ _ _ _ underlying80;clear hp;go_enter func224,ntmps224;go_wp2_with (at_builtin;refine wpList_append_own _ rfl (.tmp 5) (.tmp 6) 80 rfl w.heap.size 3 i0 (.int .i64 0) 1 8 underlying80 hi hz0 hz1 hz2 rfl (by decide) _ 0 [] rfl H0.out ⟨b,o,none⟩ l.length c (l.map (Value.int .i64)) rfl (by rw[List.length_map,Nat.mul_one]) qtQ.out qkj.out ?_ ?_ HB.out.size ?_)
 ·unfold maxLen;omega
 ·omega
 ·intro v' w1 hown hgrow _;have hb1:=HB.out.grown hgrow HB.out.size (fun j hj=>(H0.out.lt j hj).1);have hos:zg w1 w.heap.size v' l:=hown;have HO:=QH hos;have qO:=QH hb1;clear hown hgrow hb1 hos;go_wp2_with fail;go_ret;exact⟨_,rfl,HO.out,qO.out⟩
theorem qse{w:World}{B:Nat}{v:Value}{l:List Int}(h:zg w B v l)(k:Nat)(hk:k<l.length)(z:Int) :
    ∃g cap,v=.slice (some ⟨g,0,none⟩) l.length cap∧l.length≤cap∧B≤g∧g<w.heap.size∧(∃u,w.cell? ⟨g,k,none⟩=some u)∧w.frozen? ⟨g,k,none⟩=false∧zg (w.setCell ⟨g,k,none⟩ (.int .i64 z)) B v (l.set k z):=by
 rcases h.2 with⟨_,h0⟩|⟨g,cap,cur,rfl,hg,hh,hcc,hm,hcs,xC⟩
 ·omega
 ·have hb:qf w g 3 cur:=hh;have hsz:k<cur.size:=by omega
  refine⟨g,cap,rfl,hcc,hg,hb.lt,⟨cur[k],by rw[hb.cell k,Array.getElem?_eq_getElem hsz]⟩,hb.frozen k,?_⟩;have hs:=hb.qg k (.int .i64 z);refine⟨by simp,.inr ⟨g,cap,cur.setIfInBounds k (.int .i64 z),by simp,hg,hs,by simpa using hcc,hm,by simpa using hcs,?_⟩⟩;rw[Nat.mul_one]at xC ⊢;rw[List.length_set,Array.toList_setIfInBounds,List.take_set,xC,List.map_set]
theorem q08:q07:=by
 intro A c l b s w hs hl hb hn;have HP:=QH hs.ints;have HM:=QH hs.ints.mem;have HB:=QH hb;have HN:=QH hn;obtain⟨res,hres⟩:=QE (qcn l b s);rw[hres];unfold qcn at hres;clear hs hb hn;by_cases h0:b<0
 ·rw[if_pos (.inl h0)]at hres;subst hres;go_enter func143,ntmps143;go_wp2_with fail;go_ret2;exact nN (Below.refl _ _)
 by_cases h1:(l.length:Int)≤b
 ·rw[if_pos (.inr (.inl h1))]at hres;subst hres;go_enter func143,ntmps143;go_wp2_with fail;go_ret2;exact nN (Below.refl _ _)
 by_cases h2:s<0
 ·rw[if_pos (.inr (.inr h2))]at hres;subst hres;go_enter func143,ntmps143;go_wp2_with fail;go_ret2;exact nN (Below.refl _ _)
 rw[if_neg (by omega)]at hres;obtain⟨k,rfl⟩:=Int.eq_ofNat_of_zero_le (show 0≤b by omega);rw[Int.toNat_natCast]at hres;have hk:k<l.length:=by omega
 have xj:=QH hres;have HC:=QH (lg A c l w HP.out hl (by omega));clear hres;go_enter func143,ntmps143;go_wp2_with fail;refine HC.out.mono ?_;rintro e W ⟨v,rfl,ho,hw⟩;obtain⟨g,cap,rfl,qaF,hg,jG,⟨u,hu⟩,hf,ho2⟩:=qse ho k hk s;have HO:=QH ho2;have HG:=QH hg;have HW:=QH hw;have yt:(k:Int)<(l.length:Int):=by omega
 clear ho ho2 hw;go_wp2_with fail;go_ret2;refine qeW HO.out ?_ (HW.out.setCell (p:=⟨g,k,none⟩) HG.out _) xj.out.symm;intro z hz;rcases List.mem_or_eq_of_mem_set hz with h|h
 ·exact HM.out z h
 ·rw[h];exact HN.out
theorem qow{w w':World}{B:Nat}{v:Value}{l:List Int}(h:zg w B v l)(hk:∀g,v.ownBlock=some g→w'.heap[g]?=w.heap[g]?):zg w' B v l:=by
 refine⟨h.1,?_⟩;rcases h.2 with h0|⟨g,cap,cur,rfl,hg,hh,hcc,hm,hcs,xC⟩
 ·exact .inl h0
 ·exact .inr ⟨g,cap,cur,rfl,hg,(hk g rfl).trans hh,hcc,hm,hcs,xC⟩
theorem iK {w:World}{B:Nat}{v:Value}{l:List Int}(h:zg w B v l)(g:Nat)(hg:v.ownBlock=some g):B≤g∧g<w.heap.size:=by
 rcases h.2 with⟨rfl,_⟩|⟨g',cap,cur,rfl,hg',hh,_⟩
 ·cases hg
 ·injection hg with e
  have e':g'=g:=e;subst e';exact⟨hg',(Array.getElem?_eq_some_iff.1 hh).1⟩
structure qbE(w:World)(U V:List Int)(b:Nat)(v:Value)(r:List Int)(wr:World):Prop where
 one:qf wr b 276 (qh U)
 two:qf wr (b+1) 276 (qh V)
 own:zg wr w.heap.size v r
 apart:v.ownBlock≠some b∧v.ownBlock≠some (b+1)
 below:Below w.heap.size w wr
theorem qbE.drew{w wr:World}{U V:List Int}{b:Nat}{v:Value}{r:List Int}(h:qbE w U V b v r wr)(n:Nat):qbE w U V b v r (wr.drewN n) :=
 ⟨h.one,h.two,h.own,h.apart,qzg h.below n⟩
theorem qbE.new{w wr:World}{U V:List Int}{b:Nat}{v:Value}{r:List Int}(h:qbE w U V b v r wr)(o:Obj):qbE w U V b v r (wr.alloc o) :=
 ⟨h.one.of_block (Below.heap_alloc _ _ _ h.one.lt),h.two.of_block (Below.heap_alloc _ _ _ h.two.lt),qow h.own fun g hg=>Below.heap_alloc _ _ _ (iK h.own g hg).2,h.apart,h.below.alloc h.below.size _⟩
theorem qbE.put{w wr w1:World}{U V:List Int}{b:Nat}{v v':Value}{r r':List Int}(h:qbE w U V b v r wr)(ho:zg w1 w.heap.size v' r')(hg:wr.grownBy w1 v.ownBlock)(hw:v'.ownBlock=v.ownBlock∨v'.ownBlock=some wr.heap.size):qbE w U V b v' r' w1:=by
 have l1:=h.one.lt;have l2:=h.two.lt;refine⟨h.one.of_block (hg.block _ l1 fun e=>h.apart.1 e.symm),h.two.of_block (hg.block _ l2 fun e=>h.apart.2 e.symm),ho,?_,h.below.grown hg h.below.size fun k hk=>(iK h.own k hk).1⟩;rcases hw with e|e
 ·rw[e];exact h.apart
 ·rw[e];exact⟨fun e=>by injection e;omega,fun e=>by injection e;omega⟩
end Go.Proofs.YtdpbdkacngaemaaGreatDoor.im
namespace Go.Proofs
open _root_.Go.Proofs.Tryz Go.Shelf
def Tryz.mq:Go.Shelf.Ren:=⟨fun | 105=>162 | 212=>232 | 99=>233 | 165=>234 | 166=>235 | 170=>236 | 169=>237 | 263=>270 | 264=>271 | 206=>272 | 240=>273 | 241=>274 | 276=>289 | 277=>290|n=>n,fun | 9=>9 | 3=>3 | 4=>4 | 0=>0 | 46=>281 | 109=>291 | 5=>5 | 72=>296 | 76=>299 | 51=>244 | 146=>326 | 53=>36 | 148=>328 | 70=>294 | 37=>64 | 75=>298 | 127=>330 | 164=>345 | 80=>226|n=>n,fun|n=>n⟩
theorem Tryz.qsf:Go.Proofs.Lays.n105 prog Tryz.mq:={
 mixed:=by kernel_rfl
 f99:=func233.trans (congrArg some (by kernel_rfl))
 f105:=func162.trans (congrArg some (by kernel_rfl))
 f165:=func234.trans (congrArg some (by kernel_rfl))
 f166:=func235.trans (congrArg some (by kernel_rfl))
 f169:=func237.trans (congrArg some (by kernel_rfl))
 f170:=func236.trans (congrArg some (by kernel_rfl))
 f206:=func272.trans (congrArg some (by kernel_rfl))
 f212:=func232.trans (congrArg some (by kernel_rfl))
 f240:=func273.trans (congrArg some (by kernel_rfl))
 f241:=func274.trans (congrArg some (by kernel_rfl))
 f263:=func270.trans (congrArg some (by kernel_rfl))
 f264:=func271.trans (congrArg some (by kernel_rfl))
 f276:=func289.trans (congrArg some (by kernel_rfl))
 f277:=func290.trans (congrArg some (by kernel_rfl))
 t0:=underlying0
 a0:=isAgg0
 z0:=sizeOf0
 v0:=zeroValue0
 t3:=underlying3
 a3:=isAgg3
 z3:=sizeOf3
 v3:=zeroValue3
 t4:=underlying4
 a4:=isAgg4
 z4:=sizeOf4
 v4:=zeroValue4
 t5:=underlying5
 a5:=isAgg5
 z5:=sizeOf5
 v5:=zeroValue5
 t9:=underlying9
 a9:=isAgg9
 z9:=sizeOf9
 v9:=zeroValue9
 t20:=underlying20
 a20:=isAgg20
 z20:=sizeOf20
 v20:=zeroValue20
 t37:=underlying64
 a37:=isAgg64
 z37:=sizeOf64
 v37:=zeroValue64
 t46:=underlying281
 a46:=isAgg281
 z46:=sizeOf281
 v46:=zeroValue281
 t51:=underlying244
 a51:=isAgg244
 z51:=sizeOf244
 v51:=zeroValue244
 t53:=underlying36
 a53:=isAgg36
 z53:=sizeOf36
 v53:=zeroValue36
 t70:=underlying294
 a70:=isAgg294
 z70:=sizeOf294
 v70:=zeroValue294
 t72:=underlying296
 a72:=isAgg296
 z72:=sizeOf296
 v72:=zeroValue296
 t75:=underlying298
 a75:=isAgg298
 z75:=sizeOf298
 v75:=zeroValue298
 t76:=underlying299
 a76:=isAgg299
 z76:=sizeOf299
 v76:=zeroValue299
 t109:=underlying291
 a109:=isAgg291
 z109:=sizeOf291
 v109:=zeroValue291
 t127:=underlying330
 a127:=isAgg330
 z127:=sizeOf330
 v127:=zeroValue330
 t146:=underlying326
 a146:=isAgg326
 z146:=sizeOf326
 v146:=zeroValue326
 t148:=underlying328
 a148:=isAgg328
 z148:=sizeOf328
 v148:=zeroValue328
 t164:=underlying345
 a164:=isAgg345
 z164:=sizeOf345
 v164:=zeroValue345 }
theorem Tryz.fO:Builder.Extra prog Tryz.mq:={
 sizeBuilder:=by kernel_rfl
 liesBuilder:=by kernel_rfl
 t5:=underlying5
 a5:=isAgg5
 z5:=sizeOf5
 v5:=zeroValue5
 infoByte:=by kernel_rfl
 cellsByte:=by kernel_rfl
 sizeByte:=by kernel_rfl
 neB5:=by decide }
open Go.RowKit Go.Lib in
theorem Tryz.strings_Repeat(s:ByteArray)(c:Nat)(w:World)(hc:c≤9223372036854775807)(hlen:s.size*c≤140737488355328) :
    Calls prog 162 #[.string s,.int .i64 c] w fun e w'=>e=.returned (.string ⟨(Lib.repeatL s.data.toList c).toArray⟩)∧Below w.heap.size w w':=Any.strings_Repeat Tryz.qsf Tryz.fO s c w hc hlen
end Go.Proofs
namespace Go.Proofs.YtdpbdkacngaemaaGreatDoor.ch
open _root_.Go.Proofs.Tryz Go Go.RowKit ib
theorem jQ:(prog.info? 122).map (fun i=>(i.zero,i.size,i.bytes))=some (some (.agg #[.int .i64 0,.string ByteArray.empty]),2,24):=by kernel_rfl
def xe:List (Int × Bt)→List Value
 | []=>[]
 | x::r=>.int .i64 x.1 :: .string (str x.2)::xe r
def xK (w:World)(B:Nat)(v:Value)(l:List (Int × Bt)):Prop:=w.ownsRow B 122 2 v l.length (xe l)
theorem bN:∀(l r:List (Int × Bt)),xe (l++r)=xe l++xe r
 | [],_=>rfl
 | x::l,r=>by simp[xe,bN l r]
theorem pU:∀(l:List (Int × Bt)) (i:Nat) (h:i<l.length),(xe l)[i*2]?=some (.int .i64 l[i].1)∧(xe l)[i*2+1]?=some (.string (str l[i].2))
 | x::l,0,_=>⟨rfl,rfl⟩
 | x::l,i+1,h=>by
  have:=pU l i (by simpa using h);rw[show(i+1)*2=i*2+1+1 from by omega];exact this
theorem xK.view{w:World}{B:Nat}{v:Value}{l:List (Int × Bt)}(h:xK w B v l)(hz:∀x∈l,kA x.1):∃a c,v=.slice a l.length c∧kR w a l:=by
 rcases h.2 with⟨rfl,h0⟩|⟨g,cap,cur,rfl,hg,hh,hcc,hm,hcs,xC⟩
 ·obtain rfl:l=[]:=List.length_eq_zero_iff.1 h0;exact⟨none,0,rfl,fun i h=>by simp at h⟩
 ·refine⟨some ⟨g,0,none⟩,cap,rfl,fun i hi=>?_⟩;have key:∀(j:Nat) (u:Value),(xe l)[j]?=some u→w.cell? ⟨g,j,none⟩=some u:=by
   intro j u hu;rw[cell_of_row w g j cur 122 (0,0) hh];rw[← xC,List.getElem?_take]at hu;split at hu
   ·simpa using hu
   ·cases hu
  obtain⟨g0,g1⟩:=pU l i hi;exact⟨g,0,rfl,(Array.getElem?_eq_some_iff.1 hh).1,by rw[Nat.zero_add];exact key _ _ g0,by rw[Nat.zero_add];exact key _ _ g1,hz _ (List.getElem_mem hi)⟩
theorem qb7(x:Int × Bt):∀u∈([Value.int .i64 x.1,.string (str x.2)]:List Value),u.oneCell'=true:=by
 intro u hu;simp at hu;rcases hu with rfl|rfl <;> rfl
theorem xK.snoc{w1:World}{B:Nat}{v':Value}{l:List (Int × Bt)}{x:Int × Bt}(h:w1.ownsRow B 122 2 v' (l.length+1) (xe l++[.int .i64 x.1,.string (str x.2)])):xK w1 B v' (l++[x]):=by
 unfold xK;rw[List.length_append,bN];exact h
def q09 (l:List (Int × Bt))(w:World)(e:Ending)(w':World):Prop:=∃v,e=.returned v∧xK w' w.heap.size v l∧Below w.heap.size w w'
theorem xK.qox{w:World}{B:Nat}{v:Value}{l:List (Int × Bt)}(h:xK w B v l)(hz:∀x∈l,kA x.1):∃a c,v=.slice a l.length c∧kR w a l∧∀b o,a=some ⟨b,o,none⟩→B≤b∧b<w.heap.size:=by
 obtain⟨a,c,hv,hl⟩:=h.view hz;refine⟨a,c,hv,hl,fun b o e=>?_⟩;rcases h.2 with⟨rfl,_⟩|⟨g,cap,cur,rfl,hg,hh,_⟩
 ·simp only[Value.slice.injEq]at hv;rw[e]at hv;cases hv.1
 ·simp only[Value.slice.injEq]at hv;rw[e]at hv;obtain⟨h1,_⟩:=hv;simp only[Option.some.injEq,Addr.mk.injEq,and_true]at h1;obtain⟨rfl,_⟩:=h1;exact⟨hg,(Array.getElem?_eq_some_iff.1 hh).1⟩
end Go.Proofs.YtdpbdkacngaemaaGreatDoor.ch
namespace Go.Proofs.YtdpbdkacngaemaaGreatDoor.ch.pg
open _root_.Go.Proofs.Tryz Go Go.RowKit ib
theorem vS:prog.follows .mixedOrders=true:=by kernel_rfl
@[go_sem] theorem qy1 (a b c d:Int) (w:World):(Op.equalIn 10000 38 (.agg #[.int .u64 a,.int .u64 b]) (.agg #[.int .u64 c,.int .u64 d])).run prog w=.ok (a == c&&b == d) w:=by
 have u3:=underlying36;have a3:=isAgg36;have z3:=sizeOf36;rw[show(10000:Nat)=9999+1 from rfl,run_equalIn_agg w 9999 38 _ _ (by kernel_rfl) (by kernel_rfl)];simp only[Program.fieldsOf,underlying38];go_simp;by_cases h1:a=c <;> by_cases h2:b=d <;> simp[h1,h2]
theorem qmj(x y:Gd):((x.1:Int) == (y.1:Int)&&(x.2:Int) == (y.2:Int))=decide (x=y):=by
 obtain⟨a,b⟩:=x;obtain⟨c,d⟩:=y;rw[Bool.eq_iff_iff];simp;omega
def sP (p q:List Bt)(k:Nat):List (Int × Bt):=(List.range k).filterMap fun i=>if q.getD i []=p.getD i []then none else some ((i:Int),q.getD i [])
theorem qd8(p q:List Bt)(k:Nat)(h:q.getD k []=p.getD k []):sP p q (k+1)=sP p q k:=by
 unfold sP;rw[List.range_succ,List.filterMap_append,List.filterMap_cons,if_pos h];simp
theorem qoy(p q:List Bt)(k:Nat)(h:¬ q.getD k []=p.getD k []):sP p q (k+1)=sP p q k++[((k:Int),q.getD k [])]:=by
 unfold sP;rw[List.range_succ,List.filterMap_append,List.filterMap_cons,if_neg h];rfl
theorem qhZ(p q:List Bt)(k:Nat)(hk:k≤1000):∀x∈sP p q k,kA x.1:=by
 intro x hx;unfold sP at hx;obtain⟨i,hi,h⟩:=List.mem_filterMap.1 hx;have:=List.mem_range.1 hi;split at h
 ·cases h
 ·injection h with h
  subst h;unfold kA;dsimp only;omega
theorem qsg(p q:List Bt)(k:Nat):(sP p q k).length≤k:=by
 unfold sP;have:=List.length_filterMap_le (fun i=>if q.getD i []=p.getD i []then none else some ((i:Int),q.getD i [])) (List.range k);simpa using this
theorem qia{w wr:World}(h:Below w.heap.size w wr)(n:Nat):Below w.heap.size w (wr.drewN n):=⟨h.os,h.tape,h.output,h.size,h.block⟩
theorem qg3:(prog.info? 38).map (fun i=>(i.zero,i.size,i.bytes))=some (some (.agg #[.int .u64 0,.int .u64 0]),2,16):=by kernel_rfl
theorem qwg(w:World)(t:TypeId)(v u:Value):∀(j:Nat) (x:Value),([v,u]:List Value)[j]?=some x→(w.alloc (.cells #[v,u] t)).cell? ((⟨w.heap.size,0,none⟩:Addr).add j)=some x:=by
 intro j x hj
 match j,hj with
 | 0,hj =>
  simp at hj;subst hj;rw[addr_add];exact(qf.new w t #[v,u]).cell 0
 | 1,hj =>
  simp at hj;subst hj;rw[addr_add];exact(qf.new w t #[v,u]).cell 1
section
variable {α β:Type} {f:α→List β} {m:Nat}
theorem aw:∀ {l:List α},(∀x∈l,(f x).length=m)→(l.flatMap f).length=l.length*m
 | [],_=>by simp
 | x::l,h=>by
  rw[List.flatMap_cons,List.length_append,aw (l:=l) (fun y hy=>h y (by simp[hy])),h x (by simp),List.length_cons,Nat.succ_mul];omega
theorem qib(l:List α)(k:Nat)(h:∀x∈l,(f x).length=m):(l.flatMap f).take (k*m)=(l.take k).flatMap f:=by
 by_cases hk:k≤l.length
 ·have e:l.flatMap f=(l.take k).flatMap f++(l.drop k).flatMap f:=by rw[← List.flatMap_append,List.take_append_drop]
  rw[e,List.take_left'];rw[aw (fun x hx=>h x (List.mem_of_mem_take hx)),List.length_take,Nat.min_eq_left hk]
 ·rw[List.take_of_length_le (i:=k) (by omega),List.take_of_length_le];rw[aw h];exact Nat.mul_le_mul_right m (by omega)
theorem qbF(l:List α)(k:Nat)(h:∀x∈l,(f x).length=m):(l.flatMap f).drop (k*m)=(l.drop k).flatMap f:=by
 by_cases hk:k≤l.length
 ·have e:l.flatMap f=(l.take k).flatMap f++(l.drop k).flatMap f:=by rw[← List.flatMap_append,List.take_append_drop]
  rw[e,List.drop_left'];rw[aw (fun x hx=>h x (List.mem_of_mem_take hx)),List.length_take,Nat.min_eq_left hk]
 ·rw[List.drop_of_length_le (i:=k) (by omega),List.drop_of_length_le]
  ·rfl
  ·rw[aw h];exact Nat.mul_le_mul_right m (by omega)
theorem qbG(l:List α)(k:Nat)(hk:k<l.length)(h:∀x∈l,(f x).length=m)(j:Nat)(u:β)(hu:(f l[k])[j]?=some u):(l.flatMap f)[k*m+j]?=some u:=by
 have e:=qbF l k h;rw[List.drop_eq_getElem_cons hk,List.flatMap_cons]at e;have:((l.flatMap f).drop (k*m))[j]?=some u:=by
  rw[e,List.getElem?_append_left (List.getElem?_eq_some_iff.1 hu).1];exact hu
 rwa [List.getElem?_drop]at this
theorem qoz(l:List α)(k:Nat)(s:α)(hk:k<l.length)(h:∀x∈l,(f x).length=m):(l.flatMap f).take (k*m)++f s++(l.flatMap f).drop (k*m+m)=(l.set k s).flatMap f:=by
 rw[show k*m+m=(k+1)*m by rw[Nat.succ_mul],qib l k h,qbF l (k+1) h,List.set_eq_take_append_cons_drop,if_pos hk,List.flatMap_append,List.flatMap_cons,List.append_assoc]
end
def pad (l:List Bt):List Bt:=l++List.replicate (8-l.length) zz
def vc (l:List Bt):List Value:=(pad l).flatMap Lib.byteCells
theorem vA {n:Nat}{l:List Bt}(h:qT n l)(h8:n≤8):(pad l).length=8:=by
 unfold pad;rw[List.length_append,List.length_replicate,h.1];omega
theorem pV {n:Nat}{l:List Bt}(h:qT n l):∀v∈pad l,v.length=32:=by
 intro v hv;rcases List.mem_append.1 hv with h1|h1
 ·exact h.2 v h1
 ·rw[List.eq_of_mem_replicate h1];exact ze
theorem qo0{n:Nat}{l:List Bt}(h:qT n l):∀v∈pad l,(Lib.byteCells v).length=32:=fun v hv=>by rw[Lib.byteCells_length,pV h v hv]
theorem ya {n:Nat}{l:List Bt}(h:qT n l)(h8:n≤8):(vc l).length=256:=by
 unfold vc;rw[aw (qo0 h),vA h h8]
theorem qg4(l:List Bt):∀u∈vc l,u.oneCell'=true:=by
 intro u hu;obtain⟨s,_,h⟩:=List.mem_flatMap.1 hu;exact Lib.byteCells_one _ u h
theorem qsh(l:List Bt)(k:Nat)(s:Bt)(hk:k<l.length):pad (l.set k s)=(pad l).set k s:=by
 unfold pad;rw[List.set_append_left _ _ hk,List.length_set]
theorem qwh{n:Nat}{l:List Bt}(h:qT n l)(k:Nat)(s:Bt)(hk:k<l.length):(vc l).take (k*32)++Lib.byteCells s++(vc l).drop (k*32+32)=vc (l.set k s):=by
 unfold vc;rw[qsh l k s hk];exact qoz (pad l) k s (by unfold pad;rw[List.length_append];omega) (qo0 h)
theorem qg5{n:Nat}{l:List Bt}(h:qT n l)(k:Nat)(hk:k<(pad l).length)(j:Nat)(u:Value)(hu:(Lib.byteCells (pad l)[k])[j]?=some u):(vc l)[k*32+j]?=some u:=qbG (pad l) k hk (qo0 h) j u hu
theorem qwi(l:List Bt)(k:Nat)(hk:k<l.length)(hp:k<(pad l).length):(pad l)[k]=l[k]:=List.getElem_append_left hk
theorem qsi{l q:List Bt}(h:l.length=q.length)(e:pad l=pad q):l=q:=List.append_inj_left e h
theorem qo1(n:Nat)(h8:n≤8):pad (uM n)=List.replicate 8 zz:=by
 unfold pad uM;rw[List.length_replicate,List.replicate_append_replicate]
 congr 1
 omega
theorem qic(n:Nat)(h8:n≤8):vc (uM n)=vc []:=by
 unfold vc;rw[qo1 n h8];rfl
def sc (s:Sn):List Value:=vc s.bs++[.int .u64 (s.g.1:Int),.int .u64 (s.g.2:Int),.bool s.hid]
def dt (l:List Sn):List Value:=l.flatMap sc
theorem kZ {n:Nat}{s:Sn}(h:qT n s.bs)(h8:n≤8):(sc s).length=259:=by
 unfold sc;rw[List.length_append,ya h h8];rfl
theorem qbH(s:Sn):∀u∈sc s,u.oneCell'=true:=by
 intro u hu;rcases List.mem_append.1 hu with h|h
 ·exact qg4 _ u h
 ·simp at h;rcases h with rfl|rfl|rfl <;> rfl
theorem qtR{n:Nat}{s:Sn}(h:qT n s.bs)(h8:n≤8):(sc s)[256]?=some (.int .u64 (s.g.1:Int)):=by
 unfold sc;rw[List.getElem?_append_right (by rw[ya h h8];omega),ya h h8];rfl
theorem qtS{n:Nat}{s:Sn}(h:qT n s.bs)(h8:n≤8):(sc s)[257]?=some (.int .u64 (s.g.2:Int)):=by
 unfold sc;rw[List.getElem?_append_right (by rw[ya h h8];omega),ya h h8];rfl
theorem qwj{n:Nat}{s:Sn}(h:qT n s.bs)(h8:n≤8):(sc s)[258]?=some (.bool s.hid):=by
 unfold sc;rw[List.getElem?_append_right (by rw[ya h h8];omega),ya h h8];rfl
theorem qtT(s:Sn)(j:Nat)(u:Value)(h:(vc s.bs)[j]?=some u):(sc s)[j]?=some u:=by
 unfold sc;rw[List.getElem?_append_left (List.getElem?_eq_some_iff.1 h).1];exact h
def z0:Sn:=⟨(0,0),[],false⟩
theorem nu:(prog.info? 174).map (fun i=>(i.zero,i.size,i.bytes))=some (some (.agg (sc z0).toArray),259,280):=by kernel_rfl
theorem kD:(prog.info? 174).map (·.size)=some 259:=by kernel_rfl
theorem aX:(prog.info? 169).map (·.size)=some 256:=by kernel_rfl
theorem qsj:(prog.info? 172).map (·.size)=some 258:=by kernel_rfl
theorem vB:(prog.info? 145).map (·.size)=some 32:=by kernel_rfl
def zi (n:Nat)(l:List Bt)(v:Value):List Value:=.int .i64 (n:Int)::(vc l++[v])
theorem qsk:(prog.info? 172).map (fun i=>(i.zero,i.size,i.bytes))=some (some (.agg (zi 0 [] (.slice none 0 0)).toArray),258,288):=by kernel_rfl
theorem pX {n m:Nat}{l:List Bt}{v:Value}(h:qT n l)(h8:n≤8):(zi m l v).length=258:=by
 unfold zi;rw[List.length_cons,List.length_append,ya h h8];rfl
theorem qo2{n m:Nat}{l:List Bt}{v:Value}(h:qT n l)(h8:n≤8):(zi m l v)[257]?=some v:=by
 unfold zi;rw[show 257=256+1 from rfl,List.getElem?_cons_succ,List.getElem?_append_right (by rw[ya h h8];omega),ya h h8];rfl
theorem qkk{m:Nat}{l:List Bt}{v:Value}(j:Nat)(u:Value)(h:(vc l)[j]?=some u):(zi m l v)[1+j]?=some u:=by
 unfold zi;rw[Nat.add_comm,List.getElem?_cons_succ,List.getElem?_append_left (List.getElem?_eq_some_iff.1 h).1];exact h
theorem qd9{n m:Nat}{l:List Bt}{v u:Value}(h:qT n l)(h8:n≤8):(zi m l v).toArray.setIfInBounds 257 u=(zi m l u).toArray:=by
 unfold zi;rw[List.setIfInBounds_toArray,show 257=256+1 from rfl,List.set_cons_succ,List.set_append_right _ _ (by rw[ya h h8];omega),ya h h8];rfl
theorem qdA{n m:Nat}{l:List Bt}{v:Value}(h:qT n l)(h8:n≤8)(k:Nat)(s:Bt)(hk:k<l.length):(zi m l v).take (1+k*32)++Lib.byteCells s++(zi m l v).drop (1+k*32+32)=zi m (l.set k s) v:=by
 have hl:=ya h h8;have hn:=h.1;unfold zi;rw[show 1+k*32+32=(k*32+32)+1 by omega,Nat.add_comm 1,List.take_succ_cons,List.drop_succ_cons,List.take_append_of_le_length (by omega),List.drop_append_of_le_length (by omega),← qwh h k s hk];simp
theorem qo3{n:Nat}{l:List Sn}(h:∀s∈l,qT n s.bs)(h8:n≤8):(dt l).length=l.length*259:=aw (fun s hs=>kZ (h s hs) h8)
theorem qo4{n:Nat}{l:List Sn}(h:∀s∈l,qT n s.bs)(h8:n≤8)(k:Nat)(hk:k<l.length)(j:Nat)(u:Value)(hu:(sc l[k])[j]?=some u):(dt l)[k*259+j]?=some u:=qbG l k hk (fun s hs=>kZ (h s hs) h8) j u hu
theorem qkl(l:List Sn)(s:Sn):dt (l++[s])=dt l++sc s:=by simp[dt]
def vT (w:World)(v:Value)(l:List Sn):Prop:=∃A c,v=.slice A l.length c∧l.length≤c∧c≤maxLen ∧
 ((A=none∧l.length=0∧c=0)∨∃g cur,A=some ⟨g,0,none⟩∧qf w g 174 cur∧cur.toList.take (l.length*259)=dt l)
theorem qkm{w:World}{n k m c:Nat}{A:Option Addr}{l:List Sn}(h:vT w (.slice A m c) l)(ho:∀s∈l,qT n s.bs)(h8:n≤8)(hk:k≤l.length)(c2:Nat)(hc2:k≤c2)(hc:c2≤c):vT w (.slice A k c2) (l.take k):=by
 have hlk:(l.take k).length=k:=by rw[List.length_take];omega
 obtain⟨A',c',e,h1,h2,h3⟩:=h;simp only[Value.slice.injEq]at e;obtain⟨rfl,rfl,rfl⟩:=e;refine⟨A,c2,by rw[hlk],by omega,by omega,?_⟩;rcases h3 with⟨rfl,h0,rfl⟩|⟨g,cur,rfl,hb,xC⟩
 ·exact .inl ⟨rfl,by omega,by omega⟩
 ·refine .inr ⟨g,cur,rfl,hb,?_⟩;have e2:=qib (f:=sc) l k (fun s hs=>kZ (ho s hs) h8);rw[hlk];unfold dt at xC ⊢;rw[← e2,← xC,List.take_take,Nat.min_eq_left (Nat.mul_le_mul_right 259 hk)]
theorem yZ {w:World}{n:Nat}{v:Value}{l:List Sn}(h:vT w v l)(ho:∀s∈l,qT n s.bs)(h8:n≤8) :
    ∃A c,v=.slice A l.length c∧l.length≤c∧(A=none→l.length=0∧c=0)∧∀i (hi:i<l.length),∃g cur,A=some ⟨g,0,none⟩∧qf w g 174 cur∧∀j u,(sc l[i])[j]?=some u→cur[i*259+j]?=some u:=by
 obtain⟨A,c,rfl,h1,h2,h3⟩:=h;rcases h3 with⟨rfl,h0,rfl⟩|⟨g,cur,rfl,hb,xC⟩
 ·exact⟨none,0,rfl,h1,fun _=>⟨h0,rfl⟩,fun i hi=>by omega⟩
 ·refine⟨some ⟨g,0,none⟩,c,rfl,h1,(fun h=>by cases h),fun i hi=>⟨g,cur,rfl,hb,fun j u hu=>?_⟩⟩;have hr:=qo4 ho h8 i hi j u hu;rw[← xC,List.getElem?_take]at hr;split at hr
  ·simpa using hr
  ·cases hr
theorem vT.of_block{w w':World}{v:Value}{l:List Sn}(h:vT w v l)(hb:∀k,v.ownBlock=some k→w'.heap[k]?=w.heap[k]?):vT w' v l:=by
 obtain⟨A,c,rfl,h1,h2,h3⟩:=h;refine⟨A,c,rfl,h1,h2,?_⟩;rcases h3 with h3|⟨g,cur,rfl,h4,h5⟩
 ·exact .inl h3
 ·exact .inr ⟨g,cur,rfl,h4.of_block (hb g rfl),h5⟩
theorem vT.lt{w:World}{v:Value}{l:List Sn}(h:vT w v l):∀k,v.ownBlock=some k→k<w.heap.size:=by
 obtain⟨A,c,rfl,h1,h2,h3⟩:=h;intro k hk;rcases h3 with⟨rfl,_⟩|⟨g,cur,rfl,h4,h5⟩
 ·cases hk
 ·simp[Value.ownBlock]at hk;subst hk;exact h4.lt
theorem vT.ne{w:World}{v:Value}{l:List Sn}{a:Nat}{t:TypeId}{x:Array Value}(h:vT w v l)(k:qf w a t x)(hn:t≠174):∀j,v.ownBlock=some j→j≠a:=by
 obtain⟨A,c,rfl,h1,h2,h3⟩:=h;intro j hj;rcases h3 with⟨rfl,_⟩|⟨g,cur,rfl,h4,h5⟩
 ·cases hj
 ·simp[Value.ownBlock]at hj;subst hj;exact(uE k h4 hn).symm
theorem vT.cells{w:World}{A:Option Addr}{n c:Nat}{l:List Sn}(h:vT w (.slice A n c) l):n=l.length∧(A=none→n=0)∧∀b,A=some b→∀j u,(dt l)[j]?=some u→w.cell? (b.add j)=some u:=by
 obtain⟨A',c',e,h1,h2,h3⟩:=h;simp only[Value.slice.injEq]at e;obtain⟨rfl,rfl,rfl⟩:=e;rcases h3 with⟨rfl,h0,rfl⟩|⟨g,cur,rfl,hb,xC⟩
 ·exact⟨rfl,(fun _=>h0),fun b hb=>by cases hb⟩
 ·refine⟨rfl,(fun h=>by cases h),fun b e j u hu=>?_⟩;simp only[Option.some.injEq]at e;subst e;rw[addr_add,Nat.zero_add,hb.cell j];rw[← xC,List.getElem?_take]at hu;split at hu
  ·simpa using hu
  ·cases hu
structure uW(w:World)(own:Nat→Prop)(p:Nat)(v:Value)(d:CH):Prop where
 blk:qf w p 172 (zi d.live.length d.live v).toArray
 row:vT w v d.qc
 op:own p
 om:∀k,v.ownBlock=some k→own k
 low:∀k,own k→k<w.heap.size
def Is0:rX:=fun own w p d=>d.ok∧∃v,uW w own p v d
section
variable {w w':World} {own:Nat→Prop} {p:Nat} {v:Value} {d:CH}
theorem uW.vp(h:uW w own p v d):∀j,v.ownBlock=some j→j≠p:=h.row.ne h.blk (by decide)
theorem uW.keep(h:uW w own p v d)(hs:w.heap.size≤w'.heap.size)(hb:∀k,own k→w'.heap[k]?=w.heap[k]?):uW w' own p v d :=
 ⟨h.blk.of_block (hb _ h.op),h.row.of_block (fun k hk=>hb k (h.om k hk)),h.op,h.om,fun k hk=>Nat.lt_of_lt_of_le (h.low k hk) hs⟩
theorem uW.below(h:uW w own p v d)(hb:Below w.heap.size w w'):uW w' own p v d:=h.keep hb.size (fun k hk=>hb.block k (h.low k hk))
theorem uW.c0(h:uW w own p v d):w.cell? ⟨p,0,none⟩=some (.int .i64 (d.live.length:Int)):=by
 rw[h.blk.cell 0];rfl
theorem uW.c2(h:uW w own p v d)(ho:d.ok):w.cell? ⟨p,257,none⟩=some v:=by
 rw[h.blk.cell 257];simpa using qo2 (m:=d.live.length) (v:=v) ho.live ho.n8
theorem vT.below{l:List Sn}(h:vT w v l)(hb:Below w.heap.size w w'):vT w' v l:=h.of_block (fun k hk=>hb.block k (h.lt k hk))
end
end Go.Proofs.YtdpbdkacngaemaaGreatDoor.ch.pg
namespace Go.Proofs.YtdpbdkacngaemaaGreatDoor.ch.pg
open _root_.Go.Proofs.Tryz Go Go.RowKit Go.Sort ib
theorem km (a b:Gd)(w:World):Calls prog 241 #[gv a,gv b] w fun e w'=>e=.returned (.bool (above a b))∧Below w.heap.size w w':=by
 obtain⟨a1,a2⟩:=a;obtain⟨b1,b2⟩:=b;have HR:Hid (above (a1,a2) (b1,b2)=(decide ((b1:Int)<(a1:Int)) || (decide ((a1:Int)=(b1:Int))&&decide ((b2:Int)<(a2:Int))))):=by
  unfold Hid above;simp[Int.ofNat_inj]
 show Calls prog 241 #[.agg #[.int .u64 (a1:Int),.int .u64 (a2:Int)],.agg #[.int .u64 (b1:Int),.int .u64 (b2:Int)]] w _;obtain⟨r,hr⟩:=QE (above (a1,a2) (b1,b2));rw[hr]at HR ⊢;generalize (a1:Int)=x1 at *;generalize (a2:Int)=x2 at *;generalize (b1:Int)=y1 at *;generalize (b2:Int)=y2 at *;clear hr;have hB1:=(Below.refl w.heap.size w).alloc (Nat.le_refl _) (.cells #[.int .u64 x1,.int .u64 x2] 38);have HB:=QH (hB1.alloc hB1.size (.cells #[.int .u64 y1,.int .u64 y2] 38));clear hB1;by_cases h2:x1=y1
 ·subst h2;have HT:Hid (r=decide (y2<x2)):=by unfold Hid;rw[HR.out];simp
  clear HR;go_enter func241,ntmps241;go_wp2_with fail;go_ret;rw[HT.out];exact⟨rfl,HB.out⟩
 ·have HT:Hid (r=decide (y1<x1)):=by unfold Hid;rw[HR.out];simp[h2]
  have hq:(x1 == y1)=false:=by simpa using h2
  clear HR;go_enter func241,ntmps241;go_wp2_with fail;go_ret;rw[HT.out];exact⟨rfl,HB.out⟩
theorem lh {w:World}{p n:Nat}(c0:w.cell? ⟨p,0,none⟩=some (.int .i64 (n:Int)))(k:Int)(s:Bt):Calls prog 239 #[.pointer (some ⟨p,0,none⟩),.int .i64 k,.string (str s)] w fun e w'=>e=.returned (.bool (decide (0≤k∧k<(n:Int)∧s.length=32)))∧Below w.heap.size w w':=by
 have HS:Hid ((str s).size=s.length):=qN s;obtain⟨t,ht⟩:=QE (str s);rw[ht]at HS ⊢;clear ht;by_cases h0:(0:Int)≤k
 ·by_cases h1:k<(n:Int)
  ·have HR:Hid (decide (0≤k∧k<(n:Int)∧s.length=32)=((t.size:Int) == 32)):=by
      unfold Hid;rw[Bool.eq_iff_iff];simp only[decide_eq_true_eq,beq_iff_eq];rw[HS.out];omega
   rw[HR.out];clear HR;go_enter func239,ntmps239;go_wp2_with fail;go_ret;exact⟨rfl,Below.refl _ _⟩
  ·have HR:Hid (decide (0≤k∧k<(n:Int)∧s.length=32)=false):=decide_eq_false (fun h=>h1 h.2.1);rw[HR.out];clear HR;go_enter func239,ntmps239;go_wp2_with fail;go_ret;exact⟨rfl,Below.refl _ _⟩
 ·have HR:Hid (decide (0≤k∧k<(n:Int)∧s.length=32)=false):=decide_eq_false (fun h=>h0 h.1);rw[HR.out];clear HR;go_enter func239,ntmps239;go_wp2_with fail;go_ret;exact⟨rfl,Below.refl _ _⟩
theorem qsl{w:World}{b o:Nat}{t:TypeId}{cs:Array Value}(h:qf w b t cs)(hl:o+256≤cs.size)(k:Nat)(hk:k<8)(s:Bt)(hs:s.length=32) :
    Calls prog 240 #[.pointer (some ⟨b,o,none⟩),.int .i64 (k:Int),.string (str s)] w fun e w'=>e=.returned (.tuple #[])∧w'=w.setRow b (cs.toList.take (o+k*32)++Lib.byteCells s++cs.toList.drop (o+k*32+32)).toArray:=by
 have HB:=QH h;have HL:Hid (o+k*32+32≤cs.size):=by unfold Hid;omega
 have HS:Hid ((str s).size=32):=(qN s).trans hs;have hk8:(k:Int)<8:=by omega
 have bK:Hid (bl (str s)=s):=zw s;obtain⟨t2,ht⟩:=QE (str s);rw[ht]at HS bK ⊢;clear ht hl hs h;obtain⟨iu,hi,hz0,hz1,hz2⟩:=info_parts Tryz.nI;go_enter func240,ntmps240;go_wp2_with (refine qi rfl (pj w (.tmp 10) (.tmp 11) 64 9 5 t2 b (o+k*32) 32 _ t cs iu rfl rfl rfl HS.out HB.out HL.out underlying64 hi hz1) ?_)
 go_end0
 rw[bK.out];exact⟨rfl,rfl⟩
def jq (n:Nat)(l:List Sn):Sn:=(l.getLast?).getD ⟨(0,0),uM n,false⟩
theorem pY {n:Nat}{l:List Sn}(h:∀s∈l,qT n s.bs):qT n (jq n l).bs:=by
 unfold jq;cases hl:l.getLast? with
 | none=>exact qbh n
 | some s=>exact h s (List.mem_of_getLast? hl)
theorem qsn(d:CH):(jq d.live.length d.qc).g=d.last:=by
 unfold jq CH.last;cases d.qc.getLast? <;> rfl
theorem qkn(n:Nat):jq n []=⟨(0,0),uM n,false⟩:=rfl
theorem qko(n:Nat)(l:List Sn)(k:Nat)(hk:k<l.length)(hl:k+1=l.length):jq n l=l[k]:=by
 unfold jq;rw[List.getLast?_eq_getElem?,show l.length-1=k by omega,List.getElem?_eq_getElem hk];rfl
theorem qso(n:Nat)(h8:n≤8):sc ⟨(0,0),uM n,false⟩=sc z0:=by
 unfold sc z0;dsimp only;rw[qic n h8]
theorem qkp{ρ:Operand→Value}{o:Oper}{w:World}{i:TypeInfo}{z:Array Value}(ho:o.op=.build 174 #[])(hi:prog.info? 174=some i)(hz:i.zero=some (.agg z)) :
    (execOp ρ o).run prog w=.ok (.value (.agg z)) w:=by
 have hz:∀w,(zeroValue 174).run prog w=.ok (.agg z) w:=fun w=>by simp[zeroValue,typeInfo,hi,hz]
 simp[execOp,ho,Instr.build,hz,Result.andThen,go_sem,Value.cells]
theorem qdB{w:World}{n:Nat}{v:Value}{l:List Sn}(h:vT w v l)(ho:∀s∈l,qT n s.bs)(h8:n≤8)(h20:l.length≤20) :
    Calls prog 168 #[v] w fun e w'=>e=.returned (.agg (sc (jq n l)).toArray)∧Below w.heap.size w w':=by
 obtain⟨i0,hi,hz0,hz1,hz2⟩:=info_parts nu;obtain⟨A,c,rfl,hlc,hA,hx⟩:=yZ h ho h8;have HX:=QH hx;have HI:=QH hi;have HZ:=QH hz0;have HB:=QH ((Below.refl w.heap.size w).alloc (Nat.le_refl _) (.cells (sc (jq n l)).toArray 174));have HN:Hid (qf (w.alloc (.cells (sc (jq n l)).toArray 174)) w.heap.size 174 (sc (jq n l)).toArray):=qf.new _ _ _;have HLEN:Hid ((sc (jq n l)).length=259):=kZ (pY ho) h8;have HZL:Hid ((sc z0).length=259):=by unfold Hid z0;exact kZ (n:=0) ⟨rfl,fun v hv=>by simp at hv⟩ (by omega)
 have HZZ:=QH (fun(e:l.length=0)=>show sc (jq n l)=sc z0 by rw[List.length_eq_zero_iff.1 e,qkn,qso n h8]);have HP:=QH (fun k hk hl=>qko n l k hk hl);obtain⟨S,hS⟩:=QE (sc (jq n l));have HS:=QH hS;rw[hS]at HB HN HLEN HZZ ⊢;have H1:Hid (∀u∈S,u.oneCell'=true):=by unfold Hid;rw[← hS];exact qbH _
 clear h hi hz0 hz1 hz2 hx hS;have xj:Hid (∀W,qf W w.heap.size 174 S.toArray→(loadVar 174 ⟨w.heap.size,0,none⟩).run prog W=.ok (.agg S.toArray) W):=fun W hW =>
  yT W w.heap.size 0 174 174 S.toArray S (0,0) _ hW underlying174 rfl (by rw[kD,HLEN.out]) (fun j u hu=>by rw[Nat.zero_add];simpa using hu)
 by_cases hz:l.length=0
 ·obtain⟨Z,hZ⟩:=QE (sc z0);have hzz:=HZZ.out hz;rw[hZ]at HZ HZL hzz;subst hzz;rw[hz];clear HZZ HP hZ HS HX;go_enter func168,ntmps168;go_wp2_with (first|(refine qi rfl (gq 174 i0 S.toArray rfl HI.out HZ.out) ?_)|(refine qi rfl (qkp rfl HI.out HZ.out) ?_)|(refine wpList_skip rfl (zJ w 174 S.toArray S.toArray (.tmp 2) (.tmp 6) rfl rfl rfl (by rw[kD,List.size_toArray,HLEN.out]) rfl (kr H1.out)) ?_));refine bodyPost_ret (v:=.agg S.toArray) ?_ rfl ?_
  ·exact zf rfl _ _ _ ⟨w.heap.size,0,none⟩ _ rfl (xj.out _ HN.out)
  exact⟨rfl,HB.out⟩
 ·obtain⟨k,hk⟩:=QE (l.length-1);have iY:k<l.length:=by omega
  have hSk:=HP.out k iY (by omega);obtain⟨g,cur,rfl,hb,hc⟩:=HX.out k iY;rw[← hSk,HS.out]at hc;have HC:=QH hc;have HBG:Hid (qf (w.alloc (.cells (sc z0).toArray 174)) g 174 cur):=hb.of_block (Below.heap_alloc w _ _ hb.lt);have hw:IntKind.i64.wrap ((l.length:Int)-1)=(k:Int):=by rw[IntWalk.i64_in _ (by omega)];omega
  have yt:(k:Int)<(l.length:Int):=by omega
  have hnz:((l.length:Int) == 0)=false:=beq_false_of_ne (by omega);obtain⟨Z,hZ⟩:=QE (sc z0);rw[hZ]at HZ HZL HBG;clear HZZ HP hZ HS HX hb hc hSk hk hz;go_enter func168,ntmps168;go_wp2_with (first|(refine qi rfl (gq 174 i0 Z.toArray rfl HI.out HZ.out) ?_)|(refine qi rfl (qU 174 (.tmp 11) rfl g (k*259) rfl _ cur S _ _ HBG.out underlying174 rfl (by rw[kD,HLEN.out]) HC.out) ?_)|(refine wpList_skip rfl (zJ w 174 Z.toArray S.toArray (.tmp 2) (.tmp 12) rfl rfl rfl (by rw[kD,List.size_toArray,HLEN.out]) (by rw[List.size_toArray,List.size_toArray,HLEN.out,HZL.out]) (kr H1.out)) ?_));refine bodyPost_ret (v:=.agg S.toArray) ?_ rfl ?_
  ·exact zf rfl _ _ _ ⟨w.heap.size,0,none⟩ _ rfl (xj.out _ HN.out)
  exact⟨rfl,HB.out⟩
def xL (l:List Bt):Array Value:=(l.map fun s=>Value.string (str s)).toArray
theorem ku (l:List Bt)(i:Nat)(h:i<l.length):(xL l)[i]?=some (.string (str l[i])):=by simp[xL,h]
theorem r8 (l:List Bt)(i:Nat)(v:Bt):(xL l).setIfInBounds i (.string (str v))=xL (l.set i v):=by
 unfold xL;rw[List.setIfInBounds_toArray,List.map_set]
theorem qg7(n:Nat):madeCells #[.string ByteArray.empty] n=xL (List.replicate n []):=by
 apply Array.ext
 ·simp[size_madeCells,xL]
 ·intro j h1 h2;have e:(xL (List.replicate n []))[j]?=some (.string (str [])):=by
   have hj:j<n:=by simpa[xL]using h2
   rw[ku _ _ (by simpa using hj),List.getElem_replicate]
  rw[Array.getElem?_eq_getElem h2]at e;rw[Option.some.inj e];simp[madeCells,Nat.mod_one];rfl
theorem qg8(n:Nat)(h:n≤1000)(W:World):(Instr.makeSlice 57 (.int .i64 (n:Int)) (.int .i64 (n:Int))).run prog W=.ok (.slice (some ⟨W.heap.size,0,none⟩) n n) (W.alloc (.cells (xL (List.replicate n [])) 9)):=by
 obtain⟨i0,hi,hz0,hz1,hz2⟩:=info_parts Tryz.qlT;have hmk:=run_make (P:=prog) W 57 9 i0 (.string ByteArray.empty) underlying57 hi hz0 .i64 .i64 (n:Int) (n:Int) (by omega) (Int.le_refl _) (by rw[hz2];omega) (by omega);rw[hz1]at hmk;rw[← qg7];simpa[Value.cells]using hmk
theorem r9 {ρ:Operand→Value}{o:Oper}{w:World}(x y:Operand)(n:Nat)(ho:o.op=.makeSlice 57 x y)(hx:ρ x=.int .i64 (n:Int))(hy:ρ y=.int .i64 (n:Int))(h:n≤1000) :
    (execOp ρ o).run prog w=.ok (.value (.slice (some ⟨w.heap.size,0,none⟩) n n)) (w.alloc (.cells (xL (List.replicate n [])) 9)):=by
 simp[execOp,ho,hx,hy,qg8 n h w,Result.andThen]
theorem qsp(P:Bt)(cs:Array Value)(b o:Nat)(t:TypeId)(w:World)(hp:P.length=32)(h:qf w b t cs)(hc:∀(j:Nat) (u:Value),(Lib.byteCells P)[j]?=some u→cs[o+j]?=some u) :
    (convert 64 9 (.slice (some ⟨b,o,none⟩) 32 32)).run prog w=.ok (.string (str P)) w:=by
 have:=run_convert_bytes_back (P:=prog) w 64 9 5 ⟨b,o,none⟩ 32 P underlying64 underlying5 underlying9 ?_
 ·rw[hp]at this;exact this
 ·intro j hj;rw[addr_add,h.cell];exact hc j _ (by simp[Lib.byteCells,hj])
def qwk (l:List Bt)(n:Nat)(w:World)(i:Value)(wr:World):Prop :=
 ∃k:Nat,k≤n∧i=.int .i64 (k:Int)∧qf wr w.heap.size 9 (xL (l.take k++List.replicate (n-k) []))∧Below w.heap.size w wr
theorem take_set{l:List Bt}{n k:Nat}(hl:l.length=n)(hk:k<n):(l.take k++List.replicate (n-k) []).set k (l[k]'(by omega))=l.take (k+1)++List.replicate (n-(k+1)) []:=by
 rw[List.set_append_right _ _ (by rw[List.length_take];omega),List.length_take,Nat.min_eq_left (by omega),Nat.sub_self,show n-k=(n-(k+1))+1 by omega,List.replicate_succ,List.set_cons_zero,List.take_succ_eq_append_getElem (by omega),List.append_assoc];rfl
theorem dH {w:World}{b o n:Nat}{t:TypeId}{cs:Array Value}{l:List Bt}(h:qf w b t cs)(hc:∀j u,(vc l)[j]?=some u→cs[o+j]?=some u)(ho:qT n l)(h8:n≤8) :
    Calls prog 170 #[.pointer (some ⟨b,o,none⟩),.int .i64 (n:Int)] w (q43 l w):=by
 have HB:=QH h;have HC:=QH hc;have HO:=QH ho;have bK:Hid (b<w.heap.size):=h.lt;clear h hc ho;go_enter func170,ntmps170;go_wp2_with (at_make;refine qi rfl (r9 _ _ n rfl rfl rfl (by omega)) ?_);go_loopw [6,11] (fun _ i wr=>qwk l n w i wr) (fun _ i _=>n-(intOf i).toNat);case atStart=>exact⟨0,Nat.zero_le _,rfl,by simpa using qf.new w 9 (xL (List.replicate n [])),(Below.refl _ _).alloc (Nat.le_refl _) _⟩
 case round =>
  obtain⟨k,hk,rfl,zy,bj⟩:=hrel;have HK:=QH zy;have bG:=QH bj;clear zy bj;by_cases hlt:k<n
  ·have yt:(k:Int)<(n:Int):=by omega
   have hk8:(k:Int)<8:=by omega
   have gI:k<l.length:=by rw[HO.out.1];exact hlt
   have hp:k<(pad l).length:=by rw[vA HO.out h8];omega
   have tT:=qsp l[k] cs b (o+k*32) t wr (HO.out.2 _ (List.getElem_mem gI)) (HB.out.of_block (bG.out.block b bK.out)) (fun j u hu=>by
    rw[Nat.add_assoc];refine HC.out _ _ (qg5 HO.out k hp j u ?_);rw[qwi l k gI hp];exact hu)
   have f1:=HK.out.frozen k;have HS:Hid ((xL (l.take k++List.replicate (n-k) [])).setIfInBounds k (.string (str l[k]))=xL (l.take (k+1)++List.replicate (n-(k+1)) [])):=by
    unfold Hid;rw[r8,take_set HO.out.1 hlt]
   obtain⟨z,hz⟩:∃z,wr.cell? ⟨w.heap.size,k,none⟩=some z:=by
    rw[HK.out.cell k,ku _ _ (by rw[List.length_append,List.length_take,List.length_replicate];omega)];exact⟨_,rfl⟩
   have jV:=QH (HK.out.qg k (.string (str l[k])));have qA:=QH (bG.out.setCell (p:=⟨w.heap.size,k,none⟩) (Nat.le_refl _) (.string (str l[k])));clear HK bG hp;go_wp2_with fail;go_roundw;case rel=>exact⟨k+1,by omega,by go_num,by rw[← HS.out];exact jV.out,qA.out⟩
   case measure=>simp[intOf];omega
  ·obtain rfl:k=n:=by omega
   have yt:¬ (k:Int)<(k:Int):=by omega
   have hl:=HO.out.1;have HT:Hid (TxL wr (some ⟨w.heap.size,0,none⟩) l):=fun i hi=>⟨w.heap.size,0,rfl,HK.out.lt,by
    rw[Nat.zero_add,HK.out.cell i,ku _ _ (by rw[List.length_append,List.length_take];omega)];rw[List.getElem_append_left (by rw[List.length_take];omega),List.getElem_take]⟩
   have mH:=QH HK.out.lt;have vI:=QH hl;clear hl HK;go_wp2_with fail;go_ret;refine⟨_,k,by rw[vI.out];rfl,HT.out,fun b o e=>?_,bG.out⟩;simp only[Option.some.injEq,Addr.mk.injEq,and_true]at e;obtain⟨rfl,_⟩:=e;exact⟨Nat.le_refl _,mH.out⟩
end Go.Proofs.YtdpbdkacngaemaaGreatDoor.ch.pg
namespace Go.Proofs.YtdpbdkacngaemaaGreatDoor.vt.pg
open _root_.Go.Proofs.Tryz Go Go.RowKit Go.Sort ib mt im sp
def cQ:List Int→List Pl→List Int
 | l,[]=>l
 | l,p::r=>cQ (l.set p.1.toNat p.2.1) r
theorem qao:∀(P:List Pl) (l:List Int) (p:Pl),cQ l (P++[p])=(cQ l P).set p.1.toNat p.2.1
 | [],_,_=>rfl
 | q::P,l,p=>qao P (l.set q.1.toNat q.2.1) p
theorem ra:∀(P:List Pl) (l:List Int),(cQ l P).length=l.length
 | [],_=>rfl
 | q::P,l=>by
  show(cQ (l.set q.1.toNat q.2.1) P).length=_;rw[ra P,List.length_set]
theorem qid:∀(x:List (Int × Bt)) (at_:List Int) (l:List Int),cQ l (PL x at_)=x9 l x at_
 | [],_,_=>by rw[gj];rfl
 | _::_,[],_=>by rw[cI];rfl
 | (k,s)::r,a::at_,l=>by
  rw[vu];exact qid r at_ (l.set k.toNat a)
def PuR (G:Nat→Prop)(l:List Int)(P:List Pl)(w:World)(s i:Value)(wr:World):Prop :=
 ∃(k:Nat) (A:Option Addr) (c:Nat),k≤P.length∧i=.int .i64 (k:Int)∧s=.slice A l.length c∧bu G wr A (cQ l (P.take k)) c∧Below w.heap.size w wr
theorem kz {G:Nat→Prop}{w:World}{A:Option Addr}{c:Nat}{l:List Int}(hl:bu G w A l c)(h1:0<l.length)(qtU:l.length≤1000){B:Option Addr}{cb:Nat}{P:List Pl}(hP:PlL w B P)(hp:∀p∈P,0≤p.1∧p.1<(l.length:Int)∧0≤p.2.1∧qD p.2.1)(hpl:P.length≤1000)(hG:∀j,w.heap.size≤j→G j) :
    Calls prog 65 #[.slice A l.length c,.slice B P.length cb] w (qj9 G (cQ l P) w):=by
 have HL:=QH hl;have HP:=QH hP;have HPP:=QH hp;have HG:=QH hG;clear hl hP hp hG;go_enter func65,ntmps65;go_wp2_with fail;go_loopw [0,9] (fun s i wr=>PuR G l P w s i wr) (fun _ i _=>P.length-(intOf i).toNat);case atStart=>exact⟨0,A,c,Nat.zero_le _,rfl,rfl,HL.out,Below.refl _ _⟩
 case round =>
  obtain⟨k,A1,c1,hk,rfl,rfl,hs,hB⟩:=hrel;have HS:=QH hs;have HB:=QH hB;clear hs hB;by_cases hlt:k<P.length
  ·have yt:(k:Int)<(P.length:Int):=by omega
   have hk0:¬ (k:Int)<0:=by omega
   obtain⟨b,o,rfl,s1,s2,s3,s4⟩:=(HP.out.below HB.out) k hlt;obtain⟨p0,p1,p2,p3⟩:=HPP.out _ (List.getElem_mem hlt);have xP:Hid (cQ l (P.take (k+1))=(cQ l (P.take k)).set P[k].1.toNat P[k].2.1):=by unfold Hid;rw[List.take_succ_eq_append_getElem hlt,qao]
   obtain⟨x,hx⟩:=QE (P[k]);rw[hx]at s2 s3 s4 p0 p1 p2 p3 xP;clear hx;obtain⟨bk,at_,s⟩:=x;dsimp only at s2 s3 s4 p0 p1 p2 p3 xP;obtain⟨S,hS⟩:=QE (str s);rw[hS]at s4;clear hS;have rU:=ra (P.take k) l;have hw:qcn (cQ l (P.take k)) bk at_=((cQ l (P.take k)).set bk.toNat at_,0):=by
    unfold qcn;rw[if_neg (by omega)]
   have vk:=(Below.refl _ wr).alloc (Nat.le_refl _) (.cells #[.int .i64 bk,.int .i64 at_,.string S] 214);have nk:=qf.new wr 214 #[.int .i64 bk,.int .i64 at_,.string S];obtain⟨W2,hW2⟩:=QE (wr.alloc (.cells #[.int .i64 bk,.int .i64 at_,.string S] 214));rw[hW2]at vk nk;have v0:=nk.cell 0;have v1:=nk.cell 1;have hvl:=nk.lt;simp only[QA,QB,QC]at v0 v1;have hwc:=q08 A1 c1 (cQ l (P.take k)) bk at_ W2 (HS.out.at_.below vk) (by omega) (by unfold qD;omega) p3;rw[hw,rU]at hwc;have HWC:=QH hwc;have qA:=QH (qa HB.out vk);have HL1:Hid (((cQ l (P.take k)).set bk.toNat at_).length=l.length):=by unfold Hid;rw[List.length_set,rU]
   clear hw hwc vk nk rU p0 p1 p2 p3;go_upto_region 4 with fail;try rw[hW2]
   clear hW2 s1 s2 s3 s4;go_wp2_with fail;refine HWC.out.mono ?_;rintro e W3 ⟨A3,c3,rfl,hn,hb3⟩;have zv:=QH (qa qA.out hb3);have HN:Hid (bu G W3 A3 ((cQ l (P.take k)).set bk.toNat at_) c3):=bu.qvx (w0:=w) hn (fun j h1 h2=>HG.out j (Nat.le_trans qA.out.size h1)) (fun b o s e=>by
    obtain⟨b',o',e',_⟩:=hn.ints 0 (by have:=HL1.out;dsimp only;omega);rw[e]at e';injection e' with e'
    injection e')
   have hlen:=HL1.out;dsimp only;rw[hlen];clear hn hb3 HWC hlen;go_wp2_with fail;go_roundw;case rel=>exact⟨k+1,A3,c3,by omega,by go_num,rfl,by rw[xP.out];exact HN.out,zv.out⟩
   case measure=>simp[intOf];omega
  ·obtain rfl:k=P.length:=by omega
   have yt:¬ (P.length:Int)<(P.length:Int):=by omega
   have hs:=HS.out;rw[List.take_length]at hs;have HSS:=QH hs;have vY:=QH (ra P l);clear hs;go_wp2_with fail;go_ret;exact⟨A1,c1,by rw[vY.out];rfl,HSS.out,HB.out⟩
def RdR (t:Tg)(l:List Int)(g:Nat)(w:World)(i:Value)(wr:World):Prop :=
 ∃k:Nat,k≤l.length∧i=.int .i64 (k:Int)∧qf wr g 9 (ch.pg.xL ((volume t l).take k++List.replicate (l.length-k) []))∧ib.qz (fun j=>j=g) w wr
theorem rf {o1 o2:Nat→Prop}{w:World}{v pd N:Nat}{d:DD}{m:Mt}{lo:Bool}{t:Tg}(h:VP ag w o1 o2 v pd d m lo)(hJ:jr.JJ N t d){A:Option Addr}{c:Nat}{l:List Int}(hl:js w A l c)(qtU:l.length≤1000)(hz:∀z∈l,z=0∨(193≤z∧z<(N:Int))) :
    Calls prog 88 #[pt v,.slice A l.length c] w (ch.p8 (volume t l,0) w):=by
 have HV:=QH h;have HL:=QH hl;have HZ:=QH hz;have HJ:=QH hJ;have hb1:=(Below.refl _ w).alloc (Nat.le_refl _) (.cells (ch.pg.xL (List.replicate l.length [])) 9);have zt:=qf.new w 9 (ch.pg.xL (List.replicate l.length []));obtain⟨W1,hW1⟩:=QE (w.alloc (.cells (ch.pg.xL (List.replicate l.length [])) 9));rw[hW1]at hb1 zt;have qO:=QH hb1;have bz:=QH zt;have HVL:Hid ((volume t l).length=l.length):=by unfold Hid volume;rw[List.length_map]
 have qsr:Hid (∀W,Calls prog 162 #[.string ⟨#[0]⟩,.int .i64 32] W fun e w'=>e=.returned (.string (str zb))∧Below W.heap.size W w'):=fun W=>by
  have h:=Tryz.strings_Repeat ⟨#[0]⟩ 32 W (by omega) (by decide);have e:(⟨(Lib.repeatL (⟨#[0]⟩:ByteArray).data.toList 32).toArray⟩:ByteArray)=str zb:=by rfl
  rw[e]at h;exact h
 clear h hl hz hJ hb1 zt;go_enter func88,ntmps88;go_wp2_with (at_make;refine qi rfl (ch.pg.r9 _ _ l.length rfl rfl rfl (by omega)) ?_);try rw[hW1]
 clear hW1;go_loopw [16] (fun i wr=>RdR t l w.heap.size W1 i wr) (fun i _=>l.length-(intOf i).toNat);case atStart=>exact⟨0,Nat.zero_le _,rfl,by simpa using bz.out,ib.qz.refl _ _⟩
 case round =>
  obtain⟨k,hk,rfl,zy,hU⟩:=hrel;have kX:=QH zy;have HU:=QH hU;have HB:Hid (Below w.heap.size w wr):=qO.out.trans (hU.below (fun i e=>by rw[e];exact Nat.le_refl _) qO.out.size);clear zy hU;by_cases hlt:k<l.length
  ·have yt:(k:Int)<(l.length:Int):=by omega
   have hk0:¬ (k:Int)<0:=by omega
   obtain⟨b,o,rfl,s1,s2,s3⟩:=HL.out.ints k hlt;have q1:=Nat.lt_of_lt_of_le s1 HB.out.size;have q2:=(HB.out.cell (p:=⟨b,o+k,none⟩) s1).trans s2;have hzz:=HZ.out _ (List.getElem_mem hlt);have hvl:k<(volume t l).length:=by rw[HVL.out];exact hlt
   have HVK:Hid ((volume t l)[k]=eL t l[k]):=by unfold Hid;simp[volume]
   have HTS:=QH (ch.pg.take_set (l:=volume t l) (n:=l.length) HVL.out hlt);obtain⟨z,hz⟩:=QE (l[k]);rw[hz]at q2 hzz HVK;have f1:=kX.out.frozen k;have jG:=kX.out.lt;obtain⟨u,hu⟩:∃u,wr.cell? ⟨w.heap.size,k,none⟩=some u:=by
    rw[kX.out.cell k,ch.pg.ku _ _ (by rw[List.length_append,List.length_take,List.length_replicate,HVL.out];omega)];exact⟨_,rfl⟩
   have HST:Hid (∀W (s:Bt),qf W w.heap.size 9 (ch.pg.xL ((volume t l).take k++List.replicate (l.length-k) []))→ib.qz (fun j=>j=w.heap.size) W1 W→eL t z=s→qf (W.setCell ⟨w.heap.size,k,none⟩ (.string (str s))) w.heap.size 9 (ch.pg.xL ((volume t l).take (k+1)++List.replicate (l.length-(k+1)) []))∧ib.qz (fun j=>j=w.heap.size) W1 (W.setCell ⟨w.heap.size,k,none⟩ (.string (str s)))):=fun W s h1 h2 h3=>by
    refine⟨?_,h2.setCell _ _ (.inl rfl)⟩;have h:=h1.qg k (.string (str s));have e:s=(volume t l)[k]:=by rw[HVK.out];exact h3.symm
    have e2:((volume t l).take k++List.replicate (l.length-k) []).set k s=(volume t l).take (k+1)++List.replicate (l.length-(k+1)) []:=by rw[e];exact HTS.out
    rw[ch.pg.r8,e2]at h;exact h
   clear s1 s2 s3 hz hvl HVK HTS;by_cases h0:z=0
   ·subst h0;have hvz:eL t 0=zb:=by unfold eL;rw[if_pos rfl]
    have HVZ:=QH hvz;clear hvz hzz;go_wp2_with fail;refine(qsr.out wr).mono ?_;rintro e W2 ⟨rfl,hb2⟩;have jV:=QH (kX.out.below hb2);have lj:Hid (ib.qz (fun j=>j=w.heap.size) W1 W2):=HU.out.trans (S':=fun _=>False) (ib.qz.of_below hb2) (fun _ h=>h.elim);obtain⟨hk3,hu3⟩:=HST.out W2 zb jV.out lj.out HVZ.out;have sF:=QH hk3;have HU3:=QH hu3;have f1:=jV.out.frozen k;have jG:=jV.out.lt;obtain⟨u,hu⟩:∃u,W2.cell? ⟨w.heap.size,k,none⟩=some u:=by
     rw[jV.out.cell k,ch.pg.ku _ _ (by rw[List.length_append,List.length_take,List.length_replicate,HVL.out];omega)];exact⟨_,rfl⟩
    obtain⟨S,hS⟩:=QE (str zb);rw[hS]at sF HU3 ⊢;clear hb2 hk3 hu3 HST HVZ hS qsr;go_wp2_with fail;go_roundw;case rel=>exact⟨k+1,by omega,by go_num,sF.out,HU3.out⟩
    case measure=>simp[intOf];omega
   ·have hzr:193≤z∧z<(N:Int):=by
       rcases hzz with h|h
       ·exact absurd h h0
       ·exact h
    have hvz:eL t z=t z:=by unfold eL;rw[if_neg h0]
    have HVZ:=QH hvz;have hV2:=qZ HV.out HB.out;obtain⟨p1,p2,p3⟩:=qoj hV2;have bw:=l8 hV2.dk z;rw[qbA HJ.out z (by omega) hzr.2]at bw;unfold dk.wm at bw;have dv:=QH bw;dsimp only at dv;have hz0:(z == 0)=false:=beq_false_of_ne h0;clear hvz hzz hV2 bw hzr h0;go_wp2_with fail;refine dv.out.mono ?_;rintro e W2 ⟨rfl,hb2⟩;have jV:=QH (kX.out.below hb2);have lj:Hid (ib.qz (fun j=>j=w.heap.size) W1 W2):=HU.out.trans (S':=fun _=>False) (ib.qz.of_below hb2) (fun _ h=>h.elim);obtain⟨hk3,hu3⟩:=HST.out W2 (t z) jV.out lj.out HVZ.out;have sF:=QH hk3;have HU3:=QH hu3;have f1:=jV.out.frozen k;have jG:=jV.out.lt;obtain⟨u,hu⟩:∃u,W2.cell? ⟨w.heap.size,k,none⟩=some u:=by
     rw[jV.out.cell k,ch.pg.ku _ _ (by rw[List.length_append,List.length_take,List.length_replicate,HVL.out];omega)];exact⟨_,rfl⟩
    obtain⟨S,hS⟩:=QE (str (t z));rw[hS]at sF HU3 ⊢;clear hb2 hk3 hu3 HST HVZ hS qsr dv;go_wp2_with fail;go_roundw;case rel=>exact⟨k+1,by omega,by go_num,sF.out,HU3.out⟩
    case measure=>simp[intOf];omega
  ·obtain rfl:k=l.length:=by omega
   have yt:¬ (l.length:Int)<(l.length:Int):=by omega
   have HT:Hid (TxL wr (some ⟨w.heap.size,0,none⟩) (volume t l)):=fun i hi=>⟨w.heap.size,0,rfl,kX.out.lt,by
    have hvl:=HVL.out;rw[Nat.zero_add,kX.out.cell i,ch.pg.ku _ _ (by rw[List.length_append,List.length_take];omega)];rw[List.getElem_append_left (by rw[List.length_take];omega),List.getElem_take]⟩
   have mH:=QH kX.out.lt;clear kX qsr;go_wp2_with fail;go_ret2;refine⟨_,l.length,by dsimp only;rw[HVL.out];rfl,HT.out,fun b o e=>?_,HB.out⟩;simp only[Option.some.injEq,Addr.mk.injEq,and_true]at e;obtain⟨rfl,_⟩:=e;exact⟨Nat.le_refl _,mH.out⟩
end Go.Proofs.YtdpbdkacngaemaaGreatDoor.vt.pg
namespace Go.Proofs.YtdpbdkacngaemaaGreatDoor.vt.pg
open _root_.Go.Proofs.Tryz Go Go.RowKit ib mt im sp
def rh (f:Tk)(A:Option Addr)(n c:Nat):Array Value:=#[.int .u64 (f.base.1:Int),.int .u64 (f.base.2:Int),.int .u64 (f.target.1:Int),.int .u64 (f.target.2:Int),.int .i64 f.next,.int .i64 f.all,.slice A n c]
theorem cf {W:World}{g:Nat}{A0 A1 A2 A:Option Addr}{c0 c1 c2 c:Nat}{m:Mt}(t:Tk)(h:qf W g 96 (zF A0 A1 A2 c0 c1 c2 m)):qf (xS W g (.slice A t.qp.length c) t) g 96 (zF A0 A1 A c0 c1 c { m with tok:=t }):=by
 have h9:=((((((h.qg 2 (.int .u64 (t.base.1:Int))).qg 3 (.int .u64 (t.base.2:Int))).qg 4 (.int .u64 (t.target.1:Int))).qg 5 (.int .u64 (t.target.2:Int))).qg 6 (.int .i64 t.next)).qg 7 (.int .i64 t.all)).qg 8 (.slice A t.qp.length c);simp only[zF,List.setIfInBounds_toArray,List.set_cons_succ,List.set_cons_zero]at h9;exact h9
theorem qdC{G:Nat→Prop}{W:World}{g:Nat}{v:Value}{t:Tk}(hg:∀j,G j→j≠g):wG G W (xS W g v t):=by
 refine⟨by simp[xS,World.setCell],fun j hj _=>?_⟩;have hn:=hg j hj;unfold xS;rw[qw _ _ _ _ _ hn,qw _ _ _ _ _ hn,qw _ _ _ _ _ hn,qw _ _ _ _ _ hn,qw _ _ _ _ _ hn,qw _ _ _ _ _ hn,qw _ _ _ _ _ hn]
theorem qg9(w W:World)(g:Nat)(v:Value)(t:Tk)(h:ib.qz (fun j=>j=g) w W):ib.qz (fun j=>j=g) w (xS W g v t) :=
 ((((((h.setCell ⟨g,2,none⟩ _ (.inl rfl)).setCell ⟨g,3,none⟩ _ (.inl rfl)).setCell ⟨g,4,none⟩ _ (.inl rfl)).setCell ⟨g,5,none⟩ _ (.inl rfl)).setCell ⟨g,6,none⟩ _ (.inl rfl)).setCell ⟨g,7,none⟩ _ (.inl rfl)).setCell ⟨g,8,none⟩ _ (.inl rfl)
theorem qbI{W0 W:World}{g:Nat}{v:Value}{t:Tk}(h:Below W0.heap.size W0 W)(hg:W0.heap.size≤g):Below W0.heap.size W0 (xS W g v t) :=
 ((((((h.setCell (p:=⟨g,2,none⟩) hg _).setCell (p:=⟨g,3,none⟩) hg _).setCell (p:=⟨g,4,none⟩) hg _).setCell (p:=⟨g,5,none⟩) hg _).setCell (p:=⟨g,6,none⟩) hg _).setCell (p:=⟨g,7,none⟩) hg _).setCell (p:=⟨g,8,none⟩) hg _
structure TkB(t:Tk):Prop where
 base:xB t.base
 target:xB t.target
 next:qD t.next
 all:qD t.all
theorem qdD{G:Nat→Prop}{W0 w:World}{g pb:Nat}{m:Mt}{t:Tk}{A:Option Addr}{c:Nat}(hb:Below W0.heap.size W0 w)(hg:W0.heap.size≤g)(hN:Nx G w g m)(hp:qf W0 pb 82 (rh t A t.qp.length c))(hl:js W0 A t.qp c)(h1:t.qp.length≤1000)(hB:TkB t)(hG:∀j,W0.heap.size≤j→G j) :
    Calls prog 148 #[pt g,pt pb] w (qr6 G g { m with tok:=t } w):=by
 obtain⟨A0,A1,A2,c0,c1,c2,hk,ht⟩:=hN.ex;have hpw:=hp.below hb;have hb2:=qbI (v:=.slice A t.qp.length c) (t:=t) hb hg;have sB:=QH (hp.below hb2);have HC:=QH (gu A c t.qp _ (hl.below hb2) h1);have hk2:=cf (A:=A) (c:=c) t hk;have ht2:ui (fun j=>G j∧j≠g) (xS w g (.slice A t.qp.length c) t) A0 A1 A2 c0 c1 c2 m:=ht.stay (qdC fun j hj=>hj.2);have jV:=QH hk2;have HT2:=QH ht2;have qA:=QH (qg9 w w g (.slice A t.qp.length c) t (ib.qz.refl _ w));have tL:Hid (W0.heap.size≤w.heap.size∧g<w.heap.size∧w.heap.size≤(xS w g (.slice A t.qp.length c) t).heap.size):=⟨hb.size,hk.lt,qA.out.size⟩;have HG:=QH hG;have HZ:=QH (hl.ints.mem);have HTB:=QH hB;have p0:=hpw.cell 0;have p1:=hpw.cell 1;have p2:=hpw.cell 2;have p3:=hpw.cell 3;have p4:=hpw.cell 4;have p5:=hpw.cell 5;have p6:=hpw.cell 6;have k2:=hk.cell 2;have k3:=hk.cell 3;have k4:=hk.cell 4;have k5:=hk.cell 5;have k6:=hk.cell 6;have k7:=hk.cell 7;have k8:=hk.cell 8;have f2:=hk.frozen 2;have f3:=hk.frozen 3;have f4:=hk.frozen 4;have f5:=hk.frozen 5;have f6:=hk.frozen 6;have f7:=hk.frozen 7;have f8:=hk.frozen 8;have jG:=hk.lt;have hpl:=hpw.lt;simp only[zF,rh,QA,QB,QC]at k2 k3 k4 k5 k6 k7 k8 p0 p1 p2 p3 p4 p5 p6;clear hb hg hN hp hl hG hB hk ht hpw hb2 hk2 ht2 h1;go_enter func148,ntmps148;go_upto_region 1 with fail;show Code.wp _ _ _ _ (xS w g (.slice A t.qp.length c) t);obtain⟨W1,hW1⟩:=QE (xS w g (.slice A t.qp.length c) t);rw[hW1]at sB HC jV HT2 qA tL ⊢;clear hW1 p0 p1 p2 p3 p4 p5 p6 k2 k3 k4 k5 k6 k7 k8 f2 f3 f4 f5 f6 f7 f8 jG hpl;have q6:=sB.out.cell 6;have ma:=sB.out.lt;simp only[rh,QA,QB,QC]at q6;go_wp2_with fail;refine HC.out.mono ?_;rintro e W2 eo;obtain rfl:=eo.1;have hb3:=eo.2.2;have hk3:=jV.out.below hb3;have hle:=tL.out;have hs:=eo.sl HZ.out (fun j=>G j∧j≠g) ⟨HG.out _ (by omega),by omega⟩;have ht3:=HT2.out.below hb3;have hbb:=HTB.out;have HN2:Hid (Nx G (W2.setCell ⟨g,8,none⟩ (.slice (some ⟨W1.heap.size,0,none⟩) t.qp.length t.qp.length)) g { m with tok:=t }) :=
  ⟨A0,A1,_,c0,c1,_,by have:=hk3.qg 8 (.slice (some ⟨W1.heap.size,0,none⟩) t.qp.length t.qp.length);simpa[zF]using this,(ui.mk (m:={ m with tok:=t }) ht3.live ht3.qc ht3.room hs hbb.base hbb.target hbb.next hbb.all).stay (ai fun j hj=>hj.2)⟩
 have zv:Hid (ib.qz (fun j=>j=g) w (W2.setCell ⟨g,8,none⟩ (.slice (some ⟨W1.heap.size,0,none⟩) t.qp.length t.qp.length))):=(qA.out.trans (ib.qz.of_below (S:=fun _=>False) hb3) (fun _ h=>h.elim)).setCell _ _ (.inl rfl);have k8:=hk3.cell 8;have f8:=hk3.frozen 8;have jG:=hk3.lt;simp only[zF,QA,QB,QC]at k8;clear eo hb3 hk3 hs ht3 HC jV HT2 sB qA hle hbb q6 ma;go_wp2_with fail
 go_end0
 exact⟨rfl,HN2.out,zv.out⟩
theorem ri {G:Nat→Prop}{w:World}{t:Tk}{A:Option Addr}{c:Nat}(hl:js w A t.qp c)(h1:t.qp.length≤1000)(hB:TkB t)(hG:∀j,w.heap.size≤j→G j) :
    Calls prog 72 #[.agg (rh t A t.qp.length c)] w (MkP G (fun m m'=>m'={ m with tok:=t }) w):=by
 have HB:=QH ((Below.refl w.heap.size w).alloc (Nat.le_refl _) (.cells (rh t A t.qp.length c) 82));have HK:=QH (qf.new w 82 (rh t A t.qp.length c));have HL:=QH hl;have HG:=QH hG;have HTB:=QH hB;obtain⟨W1,hW1⟩:=QE (w.alloc (.cells (rh t A t.qp.length c) 82));rw[hW1]at HB HK;unfold rh at hW1;clear hl hG hB;unfold rh;go_enter func72,ntmps72;go_wp2_with fail;try rw[hW1]
 go_ret;refine⟨_,rfl,fun m m' hR=>?_,HB.out⟩;subst hR;exact⟨_,_,rfl,fun a W=>by go_simp,fun W g hb hg hN=>qdD hb hg hN HK.out (HL.out.below HB.out) h1 HTB.out (fun j hj=>HG.out j (Nat.le_trans HB.out.size hj))⟩
end Go.Proofs.YtdpbdkacngaemaaGreatDoor.vt.pg
