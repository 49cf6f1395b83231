/- VgWr, VgDel, VgShelf, WiEnd, JTake, JRec. -/
import Derived.Test.YtdpbdkacngaemaaGreatDoorZK14
import Derived.Shelf.Strings.Trim
set_option linter.unusedVariables false
set_option linter.unusedSimpArgs false
set_option maxHeartbeats 30000000
set_option maxRecDepth 100000
namespace Go.Proofs.YtdpbdkacngaemaaGreatDoor.vt.pg
open _root_.Go.Proofs.Tryz Go Go.RowKit ib mt im sp
abbrev Wr:=jr.Wr
theorem sX:(prog.info? 105).map (fun i=>(i.zero,i.size,i.bytes))=some (some (.agg #[.int .i64 0,.string ByteArray.empty]),2,24):=by kernel_rfl
def wz (n:Nat):List Value:=jr.zI (List.replicate n (0,[]))
theorem qkx(n:Nat):(wz n).length=n*2:=by unfold wz;rw[jr.yZ,List.length_replicate]
theorem qrB(n:Nat):madeCells #[.int .i64 0,.string ByteArray.empty] (n*2)=(wz n).toArray:=by
 apply Array.ext
 ·rw[size_madeCells,List.size_toArray,qkx]
 ·intro j h1 h2;have hj:j<n*2:=by simpa[qkx]using h2
  have hm:j%2<2:=Nat.mod_lt _ (by omega);have hg:=jr.kW (List.replicate n ((0:Int),([]:List UInt8))) (j/2) (by simp;omega);rw[List.getElem_replicate]at hg;have e2:(wz n).toArray[j]?=some (if j%2=0 then .int .i64 0 else .string (str [])):=by
   rw[List.getElem?_toArray];unfold wz;by_cases h0:j%2=0
   ·rw[if_pos h0];have:=hg.1;rw[show j/2*2=j by omega]at this;exact this
   ·rw[if_neg h0];have:=hg.2;rw[show j/2*2+1=j by omega]at this;exact this
  rw[Array.getElem?_eq_getElem h2]at e2;rw[Option.some.inj e2];obtain⟨q,hq⟩:=QE (j%2);rw[hq]at hm ⊢
  match q,hm with
  | 0,_=>simp[madeCells,hq]
  | 1,_=>simp[madeCells,hq];rfl
theorem qd7{ρ:Operand→Value}{o:Oper}{w:World}(x y:Operand)(n:Nat)(ho:o.op=.makeSlice 89 x y)(hx:ρ x=.int .i64 (n:Int))(hy:ρ y=.int .i64 (n:Int))(h:n≤1000) :
    (execOp ρ o).run prog w=.ok (.value (.slice (some ⟨w.heap.size,0,none⟩) n n)) (w.alloc (.cells (wz n).toArray 105)):=by
 obtain⟨i0,hi,hz0,hz1,hz2⟩:=info_parts sX;have hmk:=run_make (P:=prog) w 89 105 i0 (.agg #[.int .i64 0,.string ByteArray.empty]) underlying89 hi hz0 .i64 .i64 (n:Int) (n:Int) (by omega) (Int.le_refl _) (by rw[hz2];omega) (by omega);rw[hz1]at hmk;have:(Instr.makeSlice 89 (.int .i64 (n:Int)) (.int .i64 (n:Int))).run prog w=.ok (.slice (some ⟨w.heap.size,0,none⟩) n n) (w.alloc (.cells (wz n).toArray 105)):=by
  rw[← qrB];simpa[Value.cells]using hmk
 simp[execOp,ho,hx,hy,this,Result.andThen]
theorem aI:∀(l:List Wr) (k:Nat) (_:k<l.length) (x:Wr),((jr.zI l).set (k*2) (.int .i64 x.1)).set (k*2+1) (.string (str x.2))=jr.zI (l.set k x)
 | y::l,0,_,x=>rfl
 | y::l,k+1,hk,x=>by
  have ih:=aI l k (by simpa using hk) x;rw[show(k+1)*2=k*2+1+1 by omega];simp only[jr.zI,List.set_cons_succ];exact congrArg _ (congrArg _ ih)
theorem qnJ{ss:List Bt}{n k:Nat}(hl:ss.length=n)(hk:k<n):(jr.zf 145 (ss.take k)++List.replicate (n-k) ((0:Int),([]:List UInt8))).set k (((145+k:Nat):Int),ss[k]'(by omega))=jr.zf 145 (ss.take (k+1))++List.replicate (n-(k+1)) ((0:Int),([]:List UInt8)):=by
 have rS:(jr.zf 145 (ss.take k)).length=k:=by rw[jr.qX,List.length_take];omega
 rw[List.set_append_right _ _ (by omega),rS,Nat.sub_self,show n-k=(n-(k+1))+1 by omega,List.replicate_succ,List.set_cons_zero,List.take_succ_eq_append_getElem (by omega),jr.ay,List.length_take,Nat.min_eq_left (by omega),List.append_assoc];rfl
def WrR (ss:List Bt)(g:Nat)(w:World)(i:Value)(wr:World):Prop :=
 ∃k:Nat,k≤ss.length∧i=.int .i64 (k:Int)∧qh wr g 105 (jr.zI (jr.zf 145 (ss.take k)++List.replicate (ss.length-k) ((0:Int),([]:List UInt8)))).toArray∧ib.qB (fun j=>j=g) w wr
def q0B (m:Mt)(w:World)(e:Ending)(w':World):Prop:=∃v,e=.returned (.tuple #[v,.int .i64 0])∧jr.fY w' w.heap.size v (jr.zf 145 (xD m))∧Below w.heap.size w w'
theorem mI {w:World}{A0 A1 A2:Option Addr}{c0 c1 c2:Nat}{m:Mt}(ht:MtL w A0 A1 A2 c0 c1 c2 m)(hsz:mtS m)(hE:wx m=(zq m,0))(q0C:(zq m).length≤999)(hT:xK w) :
    Calls prog 44 #[.agg (zw A0 A1 A2 c0 c1 c2 m)] w (q0B m w):=by
 obtain⟨W1,hW1,zQ,hb1⟩:=xL w (zw A0 A1 A2 c0 c1 c2 m);have qU:=QH hb1;have he:=mt.pg.qe9 (.agg (zw A0 A1 A2 c0 c1 c2 m)) m W1 ⟨A0,A1,A2,c0,c1,c2,rfl,ht.below hb1⟩ hsz;rw[hE]at he;have HE:=QH he;have hPk:∀W,xK W→Calls prog 101 #[.string (str (zq m))] W (qkg (str (zq m)) W):=fun W h=>bR _ W (by rw[qO];omega) h;have pN:qJ (bl (str (zq m)))=xD m:=by rw[zn];rfl
 obtain⟨S,hS⟩:=QE (str (zq m));rw[hS]at hPk pN;have HPK:=QH hPk;have HSE:=QH pN;have h48:(xD m).length≤48:=by
  unfold xD;rw[xP];unfold nsec;omega
 have HTT:Hid (∀W,Below w.heap.size w W→xK W):=fun W h=>hT.below h hT.1;have q0:=zQ.cell 0;have q1:=zQ.cell 1;have q2:=zQ.cell 2;have q3:=zQ.cell 3;have q4:=zQ.cell 4;have q5:=zQ.cell 5;have q6:=zQ.cell 6;have q7:=zQ.cell 7;have q8:=zQ.cell 8;have fS:=zQ.lt;simp only[zw,QA,QB,QC]at q0 q1 q2 q3 q4 q5 q6 q7 q8;unfold qqv at HE;dsimp only at HE;rw[hS]at HE;clear ht zQ hb1 he hPk pN hT hS hsz hE q0C;unfold zw at hW1 HE ⊢;go_enter func44,ntmps44;go_upto_region 1 with fail;try rw[hW1]
 clear hW1;go_wp2_with fail;refine HE.out.mono ?_;rintro e W2 ⟨rfl,hb2⟩;have qG:=QH (qc qU.out hb2);clear hb2 HE q0 q1 q2 q3 q4 q5 q6 q7 q8 fS;go_wp2_with fail;refine(HPK.out W2 (HTT.out W2 qG.out)).mono ?_;rintro e W3 ⟨v,rfl,ho,hb3⟩;rw[HSE.out]at ho;obtain⟨A,c,hv,_,_,hp,_,_⟩:=ho.view;subst hv;have HP:=QH hp;have zG:=QH (qc qG.out hb3);obtain⟨ss,hss⟩:=QE (xD m);have HM:=QH hss;rw[hss]at HP h48 ⊢;clear ho hp hb3 HSE HPK HTT hss;have hb4:=(Below.refl _ W3).alloc (Nat.le_refl _) (.cells (wz ss.length).toArray 105);have hk4:=qh.new W3 105 (wz ss.length).toArray;obtain⟨W4,tP⟩:=QE (W3.alloc (.cells (wz ss.length).toArray 105));rw[tP]at hb4 hk4;have zY:=QH (qc zG.out hb4);have pj:=QH hk4;have fZ:Hid (∀i (h:i<ss.length),∃b o,A=some ⟨b,o,none⟩∧b<W3.heap.size∧W4.cell? ⟨b,o+i,none⟩=some (.string (str ss[i]))):=fun i hi=>by
  obtain⟨b,o,h1,h2,h3⟩:=HP.out i hi;exact⟨b,o,h1,h2,(hb4.cell (p:=⟨b,o+i,none⟩) h2).trans h3⟩
 have q0E:Hid (W3.heap.size≤W4.heap.size):=hb4.size;have dm:Hid (w.heap.size≤W3.heap.size):=zG.out.size;clear hb4 hk4 HP;go_wp2_with (at_make;refine qx rfl (qd7 _ _ ss.length rfl rfl rfl (by omega)) ?_);try rw[tP]
 clear tP;go_loopw [37] (fun i wr=>WrR ss W3.heap.size W4 i wr) (fun i _=>ss.length-(intOf i).toNat);case atStart=>exact⟨0,Nat.zero_le _,rfl,pj.out,ib.qB.refl _ _⟩
 case round =>
  obtain⟨k,hk,rfl,jH,hB⟩:=hrel;have vU:=QH jH;have HU:=QH hB;have HB:Hid (Below w.heap.size w wr):=zY.out.trans (hB.below (fun i e=>by rw[e];exact dm.out) zY.out.size);clear jH hB;by_cases hlt:k<ss.length
  ·have ja:(k:Int)<(ss.length:Int):=by omega
   have hk0:¬ (k:Int)<0:=by omega
   obtain⟨b,o,rfl,s1,s2⟩:=fZ.out k hlt;have s0:b<W4.heap.size:=Nat.lt_of_lt_of_le s1 q0E.out;have s3:b<wr.heap.size:=Nat.lt_of_lt_of_le s0 HU.out.size;have s4:=(World.cell?_of_block (a:=⟨b,o+k,none⟩) (HU.out.block b s0 (by show ¬ b=W3.heap.size;omega))).trans s2;have HLS:=QH (qnJ (ss:=ss) rfl hlt);have hlen:(jr.zf 145 (ss.take k)++List.replicate (ss.length-k) ((0:Int),([]:List UInt8))).length=ss.length:=by
    rw[List.length_append,jr.qX,List.length_take,List.length_replicate];omega
   have HVS:=QH (aI (jr.zf 145 (ss.take k)++List.replicate (ss.length-k) ((0:Int),([]:List UInt8))) k (by omega) (((145+k:Nat):Int),ss[k]));rw[HLS.out]at HVS;obtain⟨x,hx⟩:=QE (ss[k]);rw[hx]at HVS s4;obtain⟨g0,g1⟩:=jr.kW (jr.zf 145 (ss.take k)++List.replicate (ss.length-k) ((0:Int),([]:List UInt8))) k (by omega);have k0:wr.cell? ⟨W3.heap.size,k*2,none⟩=some (.int .i64 ((jr.zf 145 (ss.take k)++List.replicate (ss.length-k) ((0:Int),([]:List UInt8)))[k]'(by omega)).1):=by rw[vU.out.cell];simpa using g0
   have k1:wr.cell? ⟨W3.heap.size,k*2+1,none⟩=some (.string (str ((jr.zf 145 (ss.take k)++List.replicate (ss.length-k) ((0:Int),([]:List UInt8)))[k]'(by omega)).2)):=by rw[vU.out.cell];simpa using g1
   obtain⟨z0,hz0⟩:∃z,wr.cell? ⟨W3.heap.size,k*2,none⟩=some z:=⟨_,k0⟩;obtain⟨z1,hz1⟩:∃z,wr.cell? ⟨W3.heap.size,k*2+1,none⟩=some z:=⟨_,k1⟩;have f0:=vU.out.frozen (k*2);have f1:=vU.out.frozen (k*2+1);have jQ:=vU.out.lt;have HK5:Hid (qh ((wr.setCell ⟨W3.heap.size,k*2,none⟩ (.int .i64 (145+(k:Int)))).setCell ⟨W3.heap.size,k*2+1,none⟩ (.string (str x))) W3.heap.size 105 (jr.zI (jr.zf 145 (ss.take (k+1))++List.replicate (ss.length-(k+1)) ((0:Int),([]:List UInt8)))).toArray):=by
    have h:=(vU.out.qu (k*2) (.int .i64 (145+(k:Int)))).qu (k*2+1) (.string (str x));rw[List.setIfInBounds_toArray,List.setIfInBounds_toArray]at h;rw[← HVS.out];have e:(((145+k:Nat):Int))=145+(k:Int):=by omega
    dsimp only;rw[e];exact h
   have jU:Hid (ib.qB (fun j=>j=W3.heap.size) W4 ((wr.setCell ⟨W3.heap.size,k*2,none⟩ (.int .i64 (145+(k:Int)))).setCell ⟨W3.heap.size,k*2+1,none⟩ (.string (str x)))):=(HU.out.setCell ⟨W3.heap.size,k*2,none⟩ _ (.inl rfl)).setCell ⟨W3.heap.size,k*2+1,none⟩ _ (.inl rfl);have hw:IntKind.i64.wrap (145+(k:Int))=145+(k:Int):=by rw[IntWalk.i64_in _ (by omega)]
   clear hx hlen HVS HLS g0 g1 k0 k1 s0 s1 s2;go_wp2_with fail;go_roundw;case rel=>exact⟨k+1,by omega,by go_num,HK5.out,jU.out⟩
   case measure=>simp[intOf];omega
  ·obtain rfl:k=ss.length:=by omega
   have ja:¬ (ss.length:Int)<(ss.length:Int):=by omega
   have jH:=vU.out;rw[List.take_length,Nat.sub_self,List.replicate_zero,List.append_nil]at jH;have HO:Hid (jr.fY wr w.heap.size (.slice (some ⟨W3.heap.size,0,none⟩) ss.length ss.length) (jr.zf 145 ss)):=by
    refine⟨by rw[jr.yZ],.inr ⟨W3.heap.size,ss.length,_,by rw[jr.qX],dm.out,jH,by rw[jr.qX];exact Nat.le_refl _,by unfold maxLen;omega,?_,?_⟩⟩
    ·rw[List.size_toArray,jr.yZ,jr.qX]
    ·rw[jr.qX];have:(jr.zI (jr.zf 145 ss)).length=ss.length*2:=by rw[jr.yZ,jr.qX]
     show(jr.zI (jr.zf 145 ss)).take (ss.length*2)=_;rw[← this,List.take_length]
   clear jH;go_wp2_with fail;go_ret2;exact⟨_,rfl,by rw[HM.out];exact HO.out,HB.out⟩
def qky (w:World)(k:FuncId)(b:Value)(h:Wr→Bool)(l:List Wr):Prop:=∀W,Below w.heap.size w W→∀x∈l,Calls prog k #[b,.agg #[.int .i64 x.1,.string (str x.2)]] W (kE (h x) W)
structure vu(w:World)(g n c:Nat)(l:List Wr):Prop where
 ex:∃cur,qh w g 105 cur∧cur.size=c*2∧cur.toList.take (n*2)=jr.zI l
 len:l.length=n
 cap:n≤c
theorem vu.cells{w:World}{g n c:Nat}{l:List Wr}(h:vu w g n c l)(i:Nat)(hi:i<l.length):w.cell? ⟨g,i*2,none⟩=some (.int .i64 l[i].1)∧w.cell? ⟨g,i*2+1,none⟩=some (.string (str l[i].2)):=by
 obtain⟨cur,h1,h2,h3⟩:=h.ex;obtain⟨a,b⟩:=jr.kW l i hi;exact⟨uH h1 h3 _ _ a,uH h1 h3 _ _ b⟩
theorem vu.lt{w:World}{g n c:Nat}{l:List Wr}(h:vu w g n c l):g<w.heap.size:=by
 obtain⟨cur,h1,_⟩:=h.ex;exact h1.lt
theorem vu.fro{w:World}{g n c:Nat}{l:List Wr}(h:vu w g n c l)(i:Nat):w.frozen? ⟨g,i,none⟩=false:=by
 obtain⟨cur,h1,_⟩:=h.ex;exact h1.frozen i
theorem vu.below{w w':World}{g n c:Nat}{l:List Wr}(h:vu w g n c l)(hb:Below w.heap.size w w'):vu w' g n c l:=by
 obtain⟨cur,h1,h2,h3⟩:=h.ex;exact⟨⟨cur,h1.below hb,h2,h3⟩,h.len,h.cap⟩
theorem vu.set{w:World}{g n c:Nat}{l:List Wr}(h:vu w g n c l)(i:Nat)(hi:i<l.length)(x:Wr):vu ((w.setCell ⟨g,i*2,none⟩ (.int .i64 x.1)).setCell ⟨g,i*2+1,none⟩ (.string (str x.2))) g n c (l.set i x):=by
 obtain⟨cur,h1,h2,h3⟩:=h.ex;refine⟨⟨_,(h1.qu (i*2) _).qu (i*2+1) _,by simpa using h2,?_⟩,by rw[List.length_set];exact h.len,h.cap⟩;rw[Array.toList_setIfInBounds,Array.toList_setIfInBounds,List.take_set,List.take_set,h3];exact aI l i hi x
theorem vu.ows{w:World}{g n c B:Nat}{l:List Wr}(h:vu w g n c l)(hB:B≤g)(hc:c≤maxLen):jr.fY w B (.slice (some ⟨g,0,none⟩) n c) l:=by
 obtain⟨cur,h1,h2,h3⟩:=h.ex;refine⟨by rw[jr.yZ],.inr ⟨g,c,cur,by rw[h.len],hB,h1,by rw[h.len];exact h.cap,hc,h2,by rw[h.len];exact h3⟩⟩
theorem vu.qrC{w:World}{B:Nat}{v:Value}{l:List Wr}(h:jr.fY w B v l)(h1:0<l.length):∃g c,v=.slice (some ⟨g,0,none⟩) l.length c∧B≤g∧vu w g l.length c l∧c≤maxLen:=by
 rcases h.2 with⟨_,h0⟩|⟨g,cap,cur,hv,hg,hh,hcc,hm,hcs,yb⟩
 ·omega
 ·exact⟨g,cap,hv,hg,⟨⟨cur,hh,hcs,yb⟩,rfl,hcc⟩,hm⟩
def IxW (l:List Wr)(h:Wr→Bool)(w:World)(i:Value)(wr:World):Prop :=
 ∃k:Nat,k≤l.length∧i=.int .i64 (k:Int)∧(∀j (hj:j<l.length),j<k→h l[j]=false)∧Below w.heap.size w wr
def qwc (l:List Wr)(h:Wr→Bool)(w:World)(e:Ending)(w':World):Prop:=Below w.heap.size w w'∧((∃(k:Nat) (hk:k<l.length),e=.returned (.int .i64 (k:Int))∧h l[k]=true∧∀j (hj:j<l.length),j<k→h l[j]=false)∨(e=.returned (.int .i64 (-1))∧∀j (hj:j<l.length),h l[j]=false))
theorem qkz{w0 w:World}{g n c:Nat}{b:Value}{h:Wr→Bool}{l:List Wr}(hR:vu w g n c l)(hb:Below w0.heap.size w0 w)(hC:qky w0 141 b h l)(hl:l.length≤1000) :
    Calls prog 223 #[.slice (some ⟨g,0,none⟩) n c,.func (.func 141) #[b] #[]] w (qwc l h w):=by
 have HR:=QH hR;have jT:=QH hb;have HC:=QH hC;have fy:=hR.len;subst fy;clear hR hb hC;go_enter func223,ntmps223;go_wp2_with fail;go_loopw [8] (fun i wr=>IxW l h w i wr) (fun i _=>l.length-(intOf i).toNat);case atStart=>exact⟨0,Nat.zero_le _,rfl,fun j _ h=>absurd h (by omega),Below.refl _ _⟩
 case round =>
  obtain⟨k,hk,rfl,hno,hB⟩:=hrel;have jK:=QH hno;have HB:=QH hB;clear hno hB;by_cases hlt:k<l.length
  ·have ja:(k:Int)<(l.length:Int):=by omega
   have hk0:¬ (k:Int)<0:=by omega
   have hr:=HR.out.below HB.out;obtain⟨s0,s1⟩:=hr.cells k hlt;have jQ:=hr.lt;have yK:=QH (HC.out wr (qc jT.out HB.out) l[k] (List.getElem_mem hlt));have HNX:Hid (h l[k]=false→∀j (hj:j<l.length),j<k+1→h l[j]=false):=fun hne j hj hjk=>by
    by_cases qrD:j<k
    ·exact jK.out j hj qrD
    ·obtain rfl:j=k:=by omega
     exact hne
   obtain⟨q,hq⟩:=QE (h l[k]);have HQ:Hid (h l[k]=q):=hq;rw[hq]at yK HNX;have HLK:Hid (l[k]=l[k]):=rfl;obtain⟨x,hx⟩:=QE (l[k]);rw[hx]at s0 s1 yK;clear hx HLK;clear hr hq;go_wp2_with fail;refine yK.out.mono ?_;rintro e W1 ⟨rfl,hb1⟩;have qU:=QH (HB.out.trans (hb1.mono HB.out.size));clear hb1;cases q with
   | true =>
    clear HNX yK;go_wp2_with fail;go_ret;exact⟨qU.out,.inl ⟨k,hlt,rfl,HQ.out,jK.out⟩⟩
   | false =>
    have HN:=QH (HNX.out rfl);clear HNX yK;go_wp2_with fail;go_roundw;case rel=>exact⟨k+1,by omega,by go_num,HN.out,qU.out⟩
    case measure=>simp[intOf];omega
  ·have ja:¬ (k:Int)<(l.length:Int):=by omega
   go_wp2_with fail;go_ret;exact⟨HB.out,.inr ⟨rfl,fun j hj=>jK.out j hj (by omega)⟩⟩
theorem qdA(w:World)(ty:TypeId)(g o n c:Nat)(cur:Array Value)(hg:qh w g 105 cur)(hn:0<n)(qjE:o+n*2≤cur.size) :
    ∃zs:List Value,zs.length=n*2∧(Builtin.clear_ #[89] ty #[.slice (some ⟨g,o,none⟩) n c]).run prog w=.ok (.tuple #[]) (w.setRow g (cur.toList.take o++zs++cur.toList.drop (o+zs.length)).toArray):=by
 obtain⟨i0,hi,hz0,hz1,hz2⟩:=info_parts sX;obtain⟨m,rfl⟩:∃m,n=m+1:=⟨n-1,by omega⟩;have hz:(zeroValue 105).run prog w=.ok (.agg #[.int .i64 0,.string ByteArray.empty]) w:=by
  simp[zeroValue,typeInfo,hi,hz0]
 refine⟨(Builtin.zeroCells (Value.agg #[.int .i64 0,.string ByteArray.empty]).cells (m+1)).toList,?_,?_⟩
 ·simp[Builtin.zeroCells,Value.cells]
 ·have hst:=run_storeCells_at prog g o 105 (Builtin.zeroCells (Value.agg #[.int .i64 0,.string ByteArray.empty]).cells (m+1)).toList 0 cur w hg (by simp[Builtin.zeroCells,Value.cells];omega) (by
     intro v hv;simp only[Builtin.zeroCells,Value.cells,Array.toList_map,List.mem_map]at hv;obtain⟨i,_,rfl⟩:=hv;have hm:i%2<2:=Nat.mod_lt _ (by omega);show(#[Value.int .i64 0,.string ByteArray.empty][i%2]!).oneCell'=true;obtain⟨q,hq⟩:=QE (i%2);rw[hq]at hm ⊢
     match q,hm with
     | 0,_=>rfl
     | 1,_=>rfl)
  simp[Builtin.clear_,run_underlying underlying89,hz,Result.andThen];simp at hst;rw[hst]
def dW (h:Wr→Bool)(l:List Wr):List Wr:=l.filter fun x=>!h x
theorem aJ {h:Wr→Bool}{l:List Wr}{j:Nat}(hj:j<l.length):dW h (l.take (j+1))=dW h (l.take j)++(if h l[j]then[]else[l[j]]):=by
 unfold dW;rw[List.take_succ_eq_append_getElem hj,List.filter_append];cases hq:h l[j] <;> simp[hq]
theorem mJ {h:Wr→Bool}{l:List Wr}(hn:∀j (hj:j<l.length),h l[j]=false):dW h l=l:=by
 unfold dW;rw[List.filter_eq_self];intro x hx;obtain⟨j,hj,rfl⟩:=List.getElem_of_mem hx;rw[hn j hj];rfl
structure DlS(l K:List Wr)(h:Wr→Bool)(i j:Nat):Prop where
 len:K.length=l.length
 lt:i<j
 le:j≤l.length
 kept:K.take i=dW h (l.take j)
 rest:K.drop j=l.drop j
theorem DlS.at_{l K:List Wr}{h:Wr→Bool}{i j:Nat}(s:DlS l K h i j)(hj:j<l.length)(hk:j<K.length):K[j]=l[j]:=by
 have e:=congrArg (fun x=>x[0]?) s.rest;simp only[List.getElem?_drop,Nat.add_zero]at e;rw[List.getElem?_eq_getElem hj,List.getElem?_eq_getElem hk]at e;exact Option.some.inj e
theorem DlS.q0F{l K:List Wr}{h:Wr→Bool}{i j:Nat}(s:DlS l K h i j)(hj:j<l.length)(hd:h l[j]=true):DlS l K h i (j+1):=by
 refine⟨s.len,by have:=s.lt;omega,by omega,?_,?_⟩
 ·rw[aJ hj,hd,s.kept];simp
 ·have:=congrArg (List.drop 1) s.rest
  rwa [List.drop_drop,List.drop_drop]at this
theorem DlS.keep{l K:List Wr}{h:Wr→Bool}{i j:Nat}(s:DlS l K h i j)(hj:j<l.length)(hd:h l[j]=false):DlS l (K.set i l[j]) h (i+1) (j+1):=by
 have hlt:=s.lt;have hle:=s.len;refine⟨by rw[List.length_set];exact s.len,by omega,by omega,?_,?_⟩
 ·rw[aJ hj,hd,← s.kept];apply List.ext_getElem?;intro k;simp only[List.getElem?_take,List.getElem?_set,List.getElem?_append,List.length_take];by_cases h1:k<i
  ·rw[if_pos (by omega),if_neg (by omega),if_pos (by omega),if_pos h1]
  ·by_cases h2:k=i
   ·subst h2;rw[if_pos (by omega),if_pos rfl,if_pos (by omega),if_neg (by omega),show k-min k K.length=0 by omega];rfl
   ·rw[if_neg (by omega),if_neg (by omega)];obtain⟨q,hq⟩:∃q,k-min i K.length=q+1:=⟨k-min i K.length-1,by omega⟩;rw[hq];rfl
 ·have:=congrArg (List.drop 1) s.rest;rw[List.drop_drop,List.drop_drop]at this;rw[List.drop_set_of_lt (by omega)];exact this
def DlR (l:List Wr)(h:Wr→Bool)(g c:Nat)(w0:World)(i j:Value)(wr:World):Prop :=
 ∃(a b:Nat) (K:List Wr),i=.int .i64 (a:Int)∧j=.int .i64 (b:Int)∧DlS l K h a b∧vu wr g l.length c K∧Below w0.heap.size w0 wr
def qk0 (l:List Wr)(h:Wr→Bool)(w0:World)(e:Ending)(w':World):Prop:=∃v,e=.returned v∧jr.fY w' w0.heap.size v (dW h l)∧Below w0.heap.size w0 w'
theorem qnK{w0 w:World}{v b:Value}{h:Wr→Bool}{l:List Wr}(ho:jr.fY w w0.heap.size v l)(h1:0<l.length)(hl:l.length≤1000)(hb:Below w0.heap.size w0 w)(hC:qky w0 141 b h l) :
    Calls prog 140 #[v,.func (.func 141) #[b] #[]] w (qk0 l h w0):=by
 obtain⟨g,c,rfl,hg,hR,hcm⟩:=vu.qrC ho h1;have HI:=QH (qkz hR hb hC hl);have HR:=QH hR;have jT:=QH hb;have HC:=QH hC;have HG:=QH hg;have HCM:=QH hcm;clear ho hg hR hcm hb hC;go_enter func140,ntmps140;go_wp2_with fail;refine HI.out.mono ?_;rintro e W1 ⟨hb1,qk1⟩;have qU:=QH (qc jT.out hb1);have tO:=QH (HR.out.below hb1);clear hb1 HI;rcases qk1 with⟨k,hk,rfl,hd,hno⟩|⟨rfl,hno⟩
 case' inr =>
  have jK:=QH (mJ hno);clear hno;go_wp2_with fail;go_ret;exact⟨_,rfl,by rw[jK.out];exact tO.out.ows HG.out HCM.out,qU.out⟩
 have HS0:Hid (DlS l l h k (k+1)):=by
  refine⟨rfl,by omega,by omega,?_,rfl⟩;rw[aJ hk,hd,if_pos rfl,List.append_nil];exact(mJ (l:=l.take k) (fun j hj=>by
   have hjk:j<k:=by rw[List.length_take]at hj;omega
   rw[List.getElem_take];exact hno j _ hjk)).symm
 clear hd hno;have hkw:IntKind.i64.wrap ((k:Int)+1)=((k+1:Nat):Int):=by rw[IntWalk.i64_in _ (by omega)];omega
 have hkn:((k:Int) == -1)=false:=beq_false_of_ne (by omega);go_wp2_with fail;go_loopw [5,6] (fun i j wr=>DlR l h g c w0 i j wr) (fun _ j _=>l.length-(intOf j).toNat);case atStart=>exact⟨k,k+1,l,rfl,by go_num,HS0.out,tO.out,qU.out⟩
 case round =>
  obtain⟨a,b',K,rfl,rfl,hs,hr,hB⟩:=hrel;have HS:=QH hs;have HRW:=QH hr;have HB:=QH hB;have hle:=hs.le;have zaq:=hs.lt;have nM:=hs.len;clear hs hr hB;by_cases hlt:b'<l.length
  ·have hbi:(b':Int)<(l.length:Int):=by omega
   have hb0:¬ (b':Int)<0:=by omega
   have hai:(a:Int)<(l.length:Int):=by omega
   have ha0:¬ (a:Int)<0:=by omega
   have hKb:b'<K.length:=by omega
   obtain⟨s0,s1⟩:=HRW.out.cells b' hKb;have HAT:=QH (HS.out.at_ hlt hKb);have qnL:=QH (HS.out.q0F hlt);have qbr:=QH (HS.out.keep hlt);have jQ:=HRW.out.lt;rw[HAT.out]at s0 s1;have yK:Hid (∀W,Below w0.heap.size w0 W→Calls prog 141 #[b,.agg #[.int .i64 l[b'].1,.string (str l[b'].2)]] W (kE (h l[b']) W)):=fun W hW=>HC.out W hW l[b'] (List.getElem_mem hlt);obtain⟨q,hq⟩:=QE (h l[b']);rw[hq]at yK qnL qbr;obtain⟨x,hx⟩:=QE (l[b']);rw[hx]at s0 s1 yK qbr;clear hx hq HAT;have uo:=(Below.refl _ wr).alloc (Nat.le_refl _) (.cells #[.int .i64 x.1,.string (str x.2)] 105);have iO:=qh.new wr 105 #[.int .i64 x.1,.string (str x.2)];obtain⟨W2,hW2⟩:=QE (wr.alloc (.cells #[.int .i64 x.1,.string (str x.2)] 105));rw[hW2]at uo iO;have uS:=QH (HRW.out.below uo);have qG:=QH (qc HB.out uo);have HKX:=QH iO;have v0:=iO.cell 0;have v1:=iO.cell 1;have hvl:=iO.lt;simp only[QA,QB,QC]at v0 v1;clear uo iO;go_upto_region 8 with fail;try rw[hW2]
   clear hW2 s0 s1;go_wp2_with fail;refine(yK.out _ qG.out).mono ?_;rintro e W3 ⟨rfl,hb3⟩;have cV:=QH (uS.out.below hb3);have zG:=QH (qc qG.out hb3);have hk3:=HKX.out.below hb3;have v0:=hk3.cell 0;have v1:=hk3.cell 1;have hvl:=hk3.lt;simp only[QA,QB,QC]at v0 v1;have iy:IntKind.i64.wrap ((b':Int)+1)=((b'+1:Nat):Int):=by rw[IntWalk.i64_in _ (by omega)];omega
   clear hb3 yK uS HKX hk3;cases q with
   | true =>
    have HO:=QH (qnL.out rfl);clear qnL qbr;go_wp2_with fail;go_roundw;case rel=>exact⟨a,b'+1,K,rfl,by go_num,HO.out,cV.out,zG.out⟩
    case measure=>simp[intOf];omega
   | false =>
    have HO:=QH (qbr.out rfl);clear qnL qbr;have haK:a<K.length:=by omega
    obtain⟨t0,t1⟩:=cV.out.cells a haK;obtain⟨z0,hz0⟩:∃z,W3.cell? ⟨g,a*2,none⟩=some z:=⟨_,t0⟩;obtain⟨z1,hz1⟩:∃z,W3.cell? ⟨g,a*2+1,none⟩=some z:=⟨_,t1⟩;have f0:=cV.out.fro (a*2);have f1:=cV.out.fro (a*2+1);have jQ:=cV.out.lt;have tV:=QH (cV.out.set a haK x);have zY:Hid (Below w0.heap.size w0 ((W3.setCell ⟨g,a*2,none⟩ (.int .i64 x.1)).setCell ⟨g,a*2+1,none⟩ (.string (str x.2)))):=(zG.out.setCell (p:=⟨g,a*2,none⟩) HG.out _).setCell (p:=⟨g,a*2+1,none⟩) HG.out _;have haw:IntKind.i64.wrap ((a:Int)+1)=((a+1:Nat):Int):=by rw[IntWalk.i64_in _ (by omega)];omega
    clear t0 t1;go_wp2_with fail;go_roundw;case rel=>exact⟨a+1,b'+1,_,by go_num,by go_num,HO.out,tV.out,zY.out⟩
    case measure=>simp[intOf];omega
  ·obtain rfl:b'=l.length:=by omega
   have hbi:¬ (l.length:Int)<(l.length:Int):=by omega
   have ha0:(0:Int)≤(a:Int):=by omega
   have hai:(a:Int)≤(l.length:Int):=by omega
   have hac:(a:Int)≤(c:Int):=by have:=HRW.out.cap;omega
   have qbs:=HS.out.kept;rw[List.take_length]at qbs;have HKP:=QH qbs;obtain⟨cur,c1,c2,c3⟩:=HRW.out.ex;have rD:=HRW.out.cap;have hcl:∀ty,∃W4,(Builtin.clear_ #[89] ty #[.slice (some ⟨g,a*2,none⟩) (l.length-a) (c-a)]).run prog wr=.ok (.tuple #[]) W4∧vu W4 g a c (dW h l)∧Below w0.heap.size w0 W4:=fun ty=>by
    obtain⟨zs,hzl,hrun⟩:=qdA wr ty g (a*2) (l.length-a) (c-a) cur c1 (by omega) (by omega);refine⟨_,hrun,⟨⟨_,oU c1,?_,?_⟩,?_,by omega⟩,vI HB.out _ HG.out⟩
    ·simp[hzl];omega
    ·have hcl:cur.toList.length=c*2:=by simpa using c2
     show(cur.toList.take (a*2)++zs++cur.toList.drop (a*2+zs.length)).take (a*2)=_;rw[List.append_assoc,List.take_append_of_le_length (by rw[List.length_take];omega),List.take_take,Nat.min_self];have h5:jr.zI (K.take a)=(jr.zI K).take (a*2):=by
      have e:jr.zI K=jr.zI (K.take a)++jr.zI (K.drop a):=by rw[← jr.uI,List.take_append_drop]
      rw[e,List.take_left' (by rw[jr.yZ,List.length_take];omega)]
     rw[← qbs,h5,← c3,List.take_take]
     congr 1
     omega
    ·rw[← qbs,List.length_take];omega
   obtain⟨W4,hc4,hr4,hb4⟩:=hcl 0;have zas:∀ty,(Builtin.clear_ #[89] ty #[.slice (some ⟨g,a*2,none⟩) (l.length-a) (c-a)]).run prog wr=.ok (.tuple #[]) W4:=fun ty=>hc4;have tV:=QH hr4;have zY:=QH hb4;have hcc:(l.length:Int)≤(c:Int):=by omega
   clear hc4 hr4 hb4 hcl qbs c1 c2 c3;go_wp2_with fail;go_ret;exact⟨_,rfl,tV.out.ows HG.out HCM.out,zY.out⟩
end Go.Proofs.YtdpbdkacngaemaaGreatDoor.vt.pg
namespace Go.Proofs
open _root_.Go.Proofs.Tryz Go.Shelf
def Tryz.qbt:Go.Shelf.Ren:=⟨fun | 160=>219 | 232=>262 | 231=>261 | 227=>263 | 234=>265 | 233=>264 | 236=>267 | 235=>266 | 228=>285 | 271=>288 | 151=>287 | 197=>286 | 120=>294 | 152=>293 | 260=>292 | 137=>296 | 119=>297 | 224=>298 | 225=>299 | 217=>300 | 266=>301|n=>n,fun | 9=>9 | 4=>4 | 3=>3 | 5=>5 | 117=>322 | 116=>321 | 0=>0 | 124=>325 | 21=>21 | 105=>342 | 46=>281 | 119=>350 | 139=>353 | 138=>352|n=>n,fun | 3=>2 | 4=>3|n=>n⟩
theorem Tryz.qnM:Go.Proofs.Lays.n160 prog Tryz.qbt:={
 mixed:=by kernel_rfl
 f119:=func297.trans (congrArg some (by kernel_rfl))
 f120:=func294.trans (congrArg some (by kernel_rfl))
 f137:=func296.trans (congrArg some (by kernel_rfl))
 f151:=func287.trans (congrArg some (by kernel_rfl))
 f152:=func293.trans (congrArg some (by kernel_rfl))
 f160:=func219.trans (congrArg some (by kernel_rfl))
 f197:=func286.trans (congrArg some (by kernel_rfl))
 f217:=func300.trans (congrArg some (by kernel_rfl))
 f224:=func298.trans (congrArg some (by kernel_rfl))
 f225:=func299.trans (congrArg some (by kernel_rfl))
 f227:=func263.trans (congrArg some (by kernel_rfl))
 f228:=func285.trans (congrArg some (by kernel_rfl))
 f231:=func261.trans (congrArg some (by kernel_rfl))
 f232:=func262.trans (congrArg some (by kernel_rfl))
 f233:=func264.trans (congrArg some (by kernel_rfl))
 f234:=func265.trans (congrArg some (by kernel_rfl))
 f235:=func266.trans (congrArg some (by kernel_rfl))
 f236:=func267.trans (congrArg some (by kernel_rfl))
 f260:=func292.trans (congrArg some (by kernel_rfl))
 f266:=func301.trans (congrArg some (by kernel_rfl))
 f271:=func288.trans (congrArg some (by kernel_rfl))
 t0:=underlying0
 a0:=isAgg0
 z0:=sizeOf0
 v0:=zeroValue0
 t3:=underlying3
 a3:=isAgg3
 z3:=sizeOf3
 v3:=zeroValue3
 t4:=underlying4
 a4:=isAgg4
 z4:=sizeOf4
 v4:=zeroValue4
 t5:=underlying5
 a5:=isAgg5
 z5:=sizeOf5
 v5:=zeroValue5
 t9:=underlying9
 a9:=isAgg9
 z9:=sizeOf9
 v9:=zeroValue9
 t21:=underlying21
 a21:=isAgg21
 z21:=sizeOf21
 v21:=zeroValue21
 t46:=underlying281
 a46:=isAgg281
 z46:=sizeOf281
 v46:=zeroValue281
 t105:=underlying342
 a105:=isAgg342
 z105:=sizeOf342
 v105:=zeroValue342
 t116:=underlying321
 a116:=isAgg321
 z116:=sizeOf321
 t117:=underlying322
 a117:=isAgg322
 z117:=sizeOf322
 v117:=zeroValue322
 t119:=underlying350
 a119:=isAgg350
 z119:=sizeOf350
 t124:=underlying325
 a124:=isAgg325
 z124:=sizeOf325
 v124:=zeroValue325
 t138:=underlying352
 a138:=isAgg352
 z138:=sizeOf352
 v138:=zeroValue352
 t139:=underlying353
 a139:=isAgg353
 z139:=sizeOf353
 v139:=zeroValue353
 g3:=by kernel_rfl
 g4:=by kernel_rfl }
open Go.RowKit in
theorem Tryz.strings_Trim_one(s:ByteArray)(c:UInt8)(hc:c.toNat<128)(w:World)(hs:s.size≤9223372036854775807) :
    Calls prog 219 #[.string s,.string ⟨#[c]⟩] w fun e w'=>e=.returned (.string ⟨(Lib.trimB s.data.toList c).toArray⟩)∧(w'=w∨w'=w.drew):=Any.strings_Trim_one Tryz.qnM s c hc w hs
end Go.Proofs
namespace Go.Proofs.YtdpbdkacngaemaaGreatDoor.wi
open _root_.Go.Proofs.Tryz Go.RowKit
theorem qnN(b:Nat)(l:List UInt8)(w:World)(h:zj b l true w) :
    Calls prog 256 #[.pointer (some ⟨b,0,none⟩)] w fun e w'=>e=.returned (.bool false)∧w=w':=by
 go_enter func256,ntmps256;go_wp2_with (go_at_call 280;refine(qi4 b l _ h).mono ?_;rintro e w' ⟨rfl,rfl⟩);go_ret;exact⟨rfl,rfl⟩
theorem qk2(b:Nat)(l:List UInt8)(w:World)(h:zj b l false w) :
    Calls prog 256 #[.pointer (some ⟨b,0,none⟩)] w fun e w'=>e=.returned (.bool l.isEmpty)∧w=w':=by
 obtain⟨g,o,cap,hb,hr⟩:=h;have h1:w.cell? ⟨b,0,none⟩=some (.slice (some ⟨g,o,none⟩) l.length cap):=by simp[World.cell?,hb]
 have he:((l.length:Int) == 0)=l.isEmpty:=by cases l <;> simp;omega
 have hR:zj b l false w:=⟨g,o,cap,hb,hr⟩;have hlen:l.length≤140737488355328:=hr.2.2;clear hb hr;go_enter func256,ntmps256;go_wp2_with (go_at_call 280;refine(qcr b l _ hR).mono ?_;rintro e w' ⟨rfl,rfl⟩);go_ret;exact⟨rfl,rfl⟩
end Go.Proofs.YtdpbdkacngaemaaGreatDoor.wi
namespace Go.Proofs.YtdpbdkacngaemaaGreatDoor.jr
open _root_.Go.Proofs.Tryz Go Go.RowKit dk wi
def uw (t:Bt):Option (Wr × Bt):=match rdNum t with
 | none=>none
 | some (a,t1)=>match yJ t1 with
  | none=>none
  | some (v,t2)=>some ((((min a 1024:Nat):Int),v),t2)
theorem bV (n:Nat)(t:Bt):ey (n+1) t=match uw t with|none=>none|some (x,r)=>match ey n r with|none=>none|some (l,q)=>some (x::l,q):=by
 rw[ey];unfold uw;cases rdNum t with
 | none=>rfl
 | some p =>
  obtain⟨a,t1⟩:=p;dsimp only;cases yJ t1 with
  | none=>rfl
  | some q=>rfl
theorem gO:∀(k:Nat) (t:Bt),ey (k+1) t=match ey k t with|none=>none|some (l,r)=>match uw r with|none=>none|some (x,q)=>some (l++[x],q)
 | 0,t=>by
  rw[bV];show _=match uw t with|none=>none|some (x,q)=>some ([]++[x],q)
  cases uw t with
  | none=>rfl
  | some p=>rfl
 | k+1,t=>by
  rw[bV];cases h:uw t with
  | none =>
   have h2:ey (k+1) t=none:=by rw[bV,h]
   rw[h2]
  | some p =>
   obtain⟨x,r⟩:=p;have h2:ey (k+1) t=match ey k r with|none=>none|some (l,q)=>some (x::l,q):=by rw[bV,h]
   rw[h2];dsimp only;rw[gO k r];cases ey k r with
   | none=>rfl
   | some p2 =>
    obtain⟨l,q⟩:=p2;dsimp only;cases uw q with
    | none=>rfl
    | some p3=>rfl
theorem mK:∀(n k:Nat) (t:Bt),k≤n→ey k t=none→ey n t=none
 | 0,k,t,h,hk=>by
  obtain rfl:k=0:=by omega
  exact hk
 | n+1,k,t,h,hk=>by
  by_cases e:k=n+1
  ·rw[← e];exact hk
  ·rw[gO,mK n k t (by omega) hk]
theorem iP:∀(n:Nat) (t:Bt) (l:List Wr) (r:Bt),ey n t=some (l,r)→l.length=n
 | 0,t,l,r,h=>by simp[ey]at h;simp[← h.1]
 | n+1,t,l,r,h=>by
  rw[bV]at h;cases h1:uw t with
  | none=>rw[h1]at h;cases h
  | some p =>
   obtain⟨x,q⟩:=p;rw[h1]at h;dsimp only at h;cases h2:ey n q with
   | none=>rw[h2]at h;cases h
   | some p2 =>
    obtain⟨l2,q2⟩:=p2;rw[h2]at h;simp at h;rw[← h.1];simp[iP n q l2 q2 h2]
def Fill (cs:Array Value)(n:Nat)(l:List Wr):Prop:=cs.size=n*2∧∀i (h:i<l.length),cs[i*2]?=some (.int .i64 l[i].1)∧cs[i*2+1]?=some (.string (str l[i].2))
theorem qgT{cs:Array Value}{n:Nat}{l:List Wr}(h:Fill cs n l)(hl:l.length<n)(x:Wr):Fill ((cs.setIfInBounds (l.length*2) (.int .i64 x.1)).setIfInBounds (l.length*2+1) (.string (str x.2))) n (l++[x]):=by
 obtain⟨h1,h2⟩:=h;refine⟨by simpa using h1,fun i hi=>?_⟩;by_cases hil:i<l.length
 ·rw[List.getElem_append_left hil];obtain⟨g1,g2⟩:=h2 i hil;constructor
  ·rw[Array.getElem?_setIfInBounds_ne (by omega),Array.getElem?_setIfInBounds_ne (by omega)];exact g1
  ·rw[Array.getElem?_setIfInBounds_ne (by omega),Array.getElem?_setIfInBounds_ne (by omega)];exact g2
 ·have e:i=l.length:=by simp at hi;omega
  subst e;rw[List.getElem_append_right (Nat.le_refl _)];simp only[Nat.sub_self,List.getElem_cons_zero];constructor
  ·rw[Array.getElem?_setIfInBounds_ne (by omega),Array.getElem?_setIfInBounds_self_of_lt (by omega)]
  ·rw[Array.getElem?_setIfInBounds_self_of_lt (by rw[Array.size_setIfInBounds];omega)]
def S0 (n:Nat)(r0:Bt)(rb k:Nat)(cs:Array Value)(wr:World):Prop :=
 (∃l r,ey k r0=some (l,r)∧Fill cs n l∧zj rb r false wr∧∀x∈l,qA x.1)∨(ey n r0=none∧∃m,zj rb m true wr)
def S1 (n:Nat)(r0:Bt)(rb k:Nat)(cs:Array Value)(z:Nat)(wr:World):Prop :=
 (∃l r r1,ey k r0=some (l,r)∧Fill cs n l∧rdNum r=some (z,r1)∧zj rb r1 false wr∧∀x∈l,qA x.1)∨(ey n r0=none∧∃m,zj rb m true wr)
def S2 (n:Nat)(r0:Bt)(rb k:Nat)(cs:Array Value)(z:Nat)(t:Bt)(wr:World):Prop :=
 (∃l r,ey k r0=some (l,r)∧Fill cs n l∧(∀x∈l,qA x.1)∧∃q,ey (k+1) r0=some (l++[(((min z 1024:Nat):Int),t)],q)∧zj rb q false wr)∨(ey n r0=none∧∃m,zj rb m true wr)
def qnO (n:Nat)(r0:Bt)(rb k:Nat)(cs:Array Value)(w:World)(e:Ending)(w':World):Prop :=
 ∃z:Nat,e=.returned (.int .u64 (z:Int))∧z<18446744073709551616∧w.grownBy w' (some rb)∧S1 n r0 rb k cs z w'
def qk3 (n:Nat)(r0:Bt)(rb k:Nat)(cs:Array Value)(z:Nat)(w:World)(e:Ending)(w':World):Prop :=
 ∃t:Bt,e=.returned (.string (str t))∧w.grownBy w' (some rb)∧S2 n r0 rb k cs z t w'
theorem qgU{n:Nat}{r0:Bt}{rb k:Nat}{cs:Array Value}{w:World}(hk:k<n)(h:S0 n r0 rb k cs w):Calls prog 191 #[.pointer (some ⟨rb,0,none⟩)] w (qnO n r0 rb k cs w):=by
 rcases h with⟨l,r,h1,h2,h3,h4⟩|⟨h1,m,h2⟩
 ·refine(uP rb r w h3).mono ?_;rintro e w' ⟨hg,⟨z,r1,hn,rfl,hr⟩|⟨hn,rfl,hm⟩⟩
  ·exact⟨z,rfl,(wI _ _ _ hn).2,hg,.inl ⟨l,r,r1,h1,h2,hn,hr,h4⟩⟩
  ·refine⟨0,rfl,by decide,hg,.inr ⟨?_,hm⟩⟩;refine mK n (k+1) r0 (by omega) ?_;rw[gO,h1];dsimp only;have:uw r=none:=by unfold uw;rw[hn]
   rw[this]
 ·refine(l7 rb m w h2).mono ?_;rintro e w' ⟨rfl,rfl⟩;exact⟨0,rfl,by decide,jx _ _,.inr ⟨h1,m,h2⟩⟩
theorem qdB{n:Nat}{r0:Bt}{rb k:Nat}{cs:Array Value}{z:Nat}{w:World}(hk:k<n)(h:S1 n r0 rb k cs z w):Calls prog 255 #[.pointer (some ⟨rb,0,none⟩)] w (qk3 n r0 rb k cs z w):=by
 rcases h with⟨l,r,r1,h1,h2,hn,h3,h4⟩|⟨h1,m,h2⟩
 ·refine(qd4 rb r1 w h3).mono ?_;rintro e w' ⟨hg,⟨t,r2,ht,rfl,hr⟩|⟨ht,rfl,hm⟩⟩
  ·refine⟨t,rfl,hg,.inl ⟨l,r,h1,h2,h4,r2,?_,hr⟩⟩;rw[gO,h1];dsimp only;have:uw r=some ((((min z 1024:Nat):Int),t),r2):=by
    unfold uw;rw[hn];dsimp only;rw[ht]
   rw[this]
  ·refine⟨[],rfl,hg,.inr ⟨?_,hm⟩⟩;refine mK n (k+1) r0 (by omega) ?_;rw[gO,h1];dsimp only;have:uw r=none:=by
    unfold uw;rw[hn];dsimp only;rw[ht]
   rw[this]
 ·refine(qgO rb m w h2).mono ?_;rintro e w' ⟨rfl,rfl⟩;exact⟨[],rfl,jx _ _,.inr ⟨h1,m,h2⟩⟩
def qnP (w:World)(rb g n:Nat)(r0:Bt)(i:Value)(wr:World):Prop :=
 ∃(k:Nat) (cs:Array Value),k≤n∧i=.int .i64 (k:Int)∧qh wr g 105 cs∧cs.size=n*2∧Below w.heap.size w wr∧S0 n r0 rb k cs wr
def mL (r:Option (List Wr))(w:World)(e:Ending)(w':World):Prop :=
 Below w.heap.size w w'∧match r with
  | some l=>∃A c,e=.returned (.tuple #[.slice A l.length c,.bool true])∧kV w' A l
  | none=>∃A n c,e=.returned (.tuple #[.slice A n c,.bool false])
theorem qnQ(n:Nat)(h:n≤60)(W:World):(Instr.makeSlice 89 (.int .u64 (n:Int)) (.int .u64 (n:Int))).run prog W=.ok (.slice (some ⟨W.heap.size,0,none⟩) n n) (W.alloc (.cells (madeCells #[.int .i64 0,.string ByteArray.empty] (n*2)) 105)):=by
 obtain⟨i0,hi,hz0,hz1,hz2⟩:=info_parts qkt;have hmk:=run_make (P:=prog) W 89 105 i0 (.agg #[.int .i64 0,.string ByteArray.empty]) underlying89 hi hz0 .u64 .u64 (n:Int) (n:Int) (by omega) (by omega) (by rw[hz2];omega) (by omega);rw[hz1]at hmk;simpa[Value.cells]using hmk
theorem bW {rb g i:Nat}{l:Bt}{x:Bool}{W:World}{cs:Array Value}{u:Value}(h:zj rb l x W)(hB:qh W g 105 cs):zj rb l x (W.setCell ⟨g,i,none⟩ u):=by
 obtain⟨q,o,cap,h1,h2,h3,h4⟩:=h;have n1:rb≠g:=by
  rintro rfl;unfold qh at hB;rw[h1]at hB;simp at hB
 have n2:q≠g:=by
  rintro rfl;obtain⟨cs',fr,hq,_⟩:=h2;unfold qh at hB;rw[hq]at hB;simp at hB
 exact⟨q,o,cap,by rw[Below.heap_setCell W ⟨g,i,none⟩ u rb n1];exact h1,h2.keep (Below.heap_setCell W ⟨g,i,none⟩ u q n2),h3,h4⟩
theorem jL (s:ByteArray)(w:World)(hs:s.size≤140737488355328) :
    Calls prog 193 #[.string s] w (mL (dU (bl s)) w):=by
 obtain⟨res,hres⟩:=QE (dU (bl s));rw[hres];have xn:=QH hres;clear hres;go_enter func193,ntmps193;go_wp2_with fail;refine(rC s w hs).mono ?_;rintro e W1 ⟨rb,rfl,hrb,hR,b1⟩;have HR:=QH hR;have qU:=QH b1;clear hR b1;go_wp2_with fail;refine(uP rb (bl s) W1 HR.out).mono ?_;rintro e W2 ⟨g2,⟨n,r0,hn,rfl,hR2⟩|⟨hn,rfl,m,hR2⟩⟩
 ·have hres:res=if n<1∨60<n then none else match ey n r0 with|some (l,[])=>some l|_=>none:=by
     have h:=xn.out;unfold dU at h;rw[hn]at h;exact h.symm
  have uS:=QH hR2;have qG:=QH (qU.out.grown g2 qU.out.size (fun j hj=>by simp at hj;omega));clear hR2 g2 HR qU xn hn;by_cases hlo:n<1
  ·have c1:((n:Int)<1):=by omega
   rw[if_pos (.inl hlo)]at hres;subst hres;go_wp2_with fail;go_ret2;exact⟨qG.out,_,_,_,rfl⟩
  ·by_cases hhi:60<n
   ·have c1:¬ ((n:Int)<1):=by omega
    have c2:(60:Int)<(n:Int):=by omega
    rw[if_pos (.inr hhi)]at hres;subst hres;go_wp2_with fail;go_ret2;exact⟨qG.out,_,_,_,rfl⟩
   ·rw[if_neg (by omega)]at hres;have c1:¬ ((n:Int)<1):=by omega
    have c2:¬ (60:Int)<(n:Int):=by omega
    have xn:=QH hres;clear hres;have hmk:=qnQ n (by omega);have kb:qh (W2.alloc (.cells (madeCells #[.int .i64 0,.string ByteArray.empty] (n*2)) 105)) W2.heap.size _ _:=qh.new W2 _ _;have hR3:zj rb r0 false (W2.alloc (.cells (madeCells #[.int .i64 0,.string ByteArray.empty] (n*2)) 105)):=uS.out.below ((Below.refl W2.heap.size W2).alloc (Nat.le_refl _) _);have hB3:Below w.heap.size w (W2.alloc (.cells (madeCells #[.int .i64 0,.string ByteArray.empty] (n*2)) 105)):=qG.out.alloc qG.out.size _;have hgg:w.heap.size≤W2.heap.size:=qG.out.size;have hcz:(madeCells #[.int .i64 0,.string ByteArray.empty] (n*2)).size=n*2:=size_madeCells _ _;have HCZ:=QH hcz;clear hcz;go_wp2_with fail;clear hmk;generalize W2.heap.size=g at *;generalize madeCells #[.int .i64 0,.string ByteArray.empty] (n*2)=cs0 at *;generalize W2.alloc (.cells cs0 105)=W3 at *;go_loopw [22] (fun i wr=>qnP w rb g n r0 i wr) (fun i _=>n-(intOf i).toNat);case atStart=>exact⟨0,cs0,Nat.zero_le _,rfl,kb,HCZ.out,hB3,.inl ⟨[],r0,rfl,⟨HCZ.out,fun i h=>by simp at h⟩,hR3,fun x hx=>by cases hx⟩⟩
    case round =>
     clear kb hR3 hB3 qG uS HCZ;obtain⟨k,cs,hk,rfl,jH,hcs,hB,hst⟩:=hrel;have vU:=QH jH;have HB:=QH hB;have HST:=QH hst;clear jH hB hst;have jQ:=vU.out.lt;have qwd:rb≠g:=by
      intro e;have hb2:=vU.out;unfold qh at hb2;rcases HST.out with⟨_,_,_,_,⟨_,_,_,h,_⟩,_⟩|⟨_,_,_,_,_,h,_⟩;all_goals
       rw[e,hb2]at h;simp at h
     by_cases hlt:k<n
     ·have qbn:(k:Int)<(n:Int):=by omega
      go_wp2_with fail;refine(qgU hlt HST.out).mono ?_;rintro e Wa ⟨z,rfl,zat,ga,hs1⟩;have hba:qh Wa g 105 cs:=vU.out.of_block (ga.block g jQ (by simpa using Ne.symm qwd));have HBA:=QH hba;have oY:=QH hs1;have qU:=QH (HB.out.grown ga HB.out.size (fun j hj=>by simp at hj;omega));have dI:=hba.lt;obtain⟨q0J,hc0⟩:∃u,cs[k*2]?=some u:=⟨_,Array.getElem?_eq_getElem (by omega)⟩;have ea:Wa.cell? ⟨g,k*2,none⟩=some q0J:=by rw[hba.cell];exact hc0
      have fa:Wa.frozen? ⟨g,k*2,none⟩=false:=hba.frozen _;have q0K:min (z:Int) 1024=((min z 1024:Nat):Int):=by omega
      have hmn:min z 1024≤1024:=Nat.min_le_right _ _;obtain⟨mz,hmz⟩:=QE (min z 1024);rw[hmz]at q0K hmn;have HMZ:=QH hmz;have hmi:(mz:Int)≤1024:=by omega
      clear hba ga hs1 hc0 hmz HB vU HST;go_wp2_with fail;have hbb:=HBA.out.qu (k*2) (.int .i64 (mz:Int));have qwe:S1 n r0 rb k cs z (Wa.setCell ⟨g,k*2,none⟩ (.int .i64 (mz:Int))):=by
       rcases oY.out with⟨l,r,r1,h1,h2,h3,h4,h5⟩|⟨h1,m,h2⟩
       ·exact .inl ⟨l,r,r1,h1,h2,h3,bW h4 HBA.out,h5⟩
       ·exact .inr ⟨h1,m,bW h2 HBA.out⟩
      have HBB:=QH hbb;have qwf:=QH qwe;have qrF:=QH (qU.out.setCell (p:=⟨g,k*2,none⟩) (Nat.le_trans hgg (Nat.le_refl _)) (.int .i64 (mz:Int)));clear hbb qwe ea fa HBA oY qU;refine(qdB hlt qwf.out).mono ?_;rintro e Wc ⟨t,rfl,gc,hs2⟩;have hbc:qh Wc g 105 (cs.setIfInBounds (k*2) (.int .i64 (mz:Int))):=HBB.out.of_block (gc.block g HBB.out.lt (by simpa using Ne.symm qwd));have HBC:=QH hbc;have kY:=QH hs2;have qG:=QH (qrF.out.grown gc qrF.out.size (fun j hj=>by simp at hj;omega));have hlc:=hbc.lt;obtain⟨q0N,hc1⟩:∃u,(cs.setIfInBounds (k*2) (.int .i64 (mz:Int)))[k*2+1]?=some u:=⟨_,Array.getElem?_eq_getElem (by rw[Array.size_setIfInBounds];omega)⟩;have ec:Wc.cell? ⟨g,k*2+1,none⟩=some q0N:=by rw[hbc.cell];exact hc1
      have fc:Wc.frozen? ⟨g,k*2+1,none⟩=false:=hbc.frozen _;clear hbc gc hs2 hc1 HBB qwf qrF;go_wp2_with fail;go_roundw;case rel =>
       refine⟨k+1,_,by omega,by go_num,HBC.out.qu (k*2+1) (.string (str t)),by simp[hcs],qG.out.setCell (p:=⟨g,k*2+1,none⟩) (Nat.le_trans hgg (Nat.le_refl _)) _,?_⟩;rcases kY.out with⟨l,r,h1,h2,h3,q,h4,h5⟩|⟨h1,m,h2⟩
       ·have hl:=iP k r0 l r h1;subst hl;rw[HMZ.out]at h4;refine .inl ⟨_,q,h4,qgT h2 hlt ((mz:Int),t),bW h5 HBC.out,fun x hx=>?_⟩;rcases List.mem_append.1 hx with hx|hx
        ·exact h3 x hx
        ·obtain rfl:x=_:=by simpa using hx
         unfold qA;dsimp only;omega
       ·exact .inr ⟨h1,m,bW h2 HBC.out⟩
      case measure=>simp[intOf];omega
     ·obtain rfl:k=n:=by omega
      have hres:=xn.out;rcases HST.out with⟨l,r,h1,h2,h3,h4⟩|⟨h1,m,h2⟩
      ·have hl:=iP k r0 l r h1;rw[h1]at hres;have H3:=QH h3;have H2:=QH h2;have H4:=QH h4;have oA:=QH hres;clear h1 h2 h3 h4 hres xn HST;go_wp2_with (go_at_call 256;refine(qk2 rb r _ H3.out).mono ?_;rintro e w' ⟨rfl,rfl⟩);go_ret2;refine⟨HB.out,?_⟩;rw[oA.out];cases r with
       | nil =>
        subst hl;refine⟨_,_,rfl,fun i hi=>⟨g,0,rfl,jQ,?_,?_,H4.out _ (List.getElem_mem hi)⟩⟩
        ·rw[Nat.zero_add,vU.out.cell];exact(H2.out.2 i hi).1
        ·rw[Nat.zero_add,vU.out.cell];exact(H2.out.2 i hi).2
       | cons x r=>exact⟨_,_,_,rfl⟩
      ·rw[h1]at hres;dsimp only at hres;have H2:=QH h2;have oA:=QH hres;clear h1 h2 hres xn HST;go_wp2_with (go_at_call 256;refine(qnN rb m _ H2.out).mono ?_;rintro e w' ⟨rfl,rfl⟩);go_ret2;refine⟨HB.out,?_⟩;rw[oA.out];exact⟨_,_,_,rfl⟩
 ·have hres:res=none:=by rw[← xn.out];unfold dU;rw[hn]
  subst hres;have qG:=QH (qU.out.grown g2 qU.out.size (fun j hj=>by simp at hj;omega));clear hR2 g2 HR qU;go_wp2_with fail;go_ret2;exact⟨qG.out,_,_,_,rfl⟩
theorem sY (s:qE)(a k:Nat):zL s a (k+1)=zL s a k++[rd s ((1+a*72+k:Nat):Int)]:=by
 unfold zL;rw[List.range_succ,List.map_append];rfl
theorem ia (s:qE)(a k:Nat):(zL s a k).length=k:=by simp[zL]
def qrG (w:World)(s:qE)(a c:Nat)(v i:Value)(wr:World):Prop :=
 ∃k:Nat,k≤c∧i=.int .i64 (k:Int)∧zC wr w.heap.size v (zL s a k)∧Below w.heap.size w wr
theorem qdC{most:Nat}{w:World}{own:Nat→Prop}{p:Nat}{d:DD}(h:zH most w own p d)(zW:d.on=true)(hn:145<d.n)(a c:Nat)(ha:a<2)(hc:c≤72)(ht:xK w) :
    Calls prog 118 #[.agg #[.int .i64 (a:Int),.int .i64 (c:Int)],.pointer (some ⟨p,0,none⟩)] w (mL (gu d.now a c) w):=by
 obtain⟨i0,hi,hz0,hz1,hz2⟩:=info_parts Tryz.qiz;have HD:=QH h;have HT:=QH ht;have hg:=ht.1;have fH:=QH h.1;have eI:∀k,k<c→d.read ((1+a*72+k:Nat):Int)=(rd d.now ((1+a*72+k:Nat):Int),0):=by
  intro k hk;unfold DD.read;have:d.has ((1+a*72+k:Nat):Int)=true:=by
   have h72:a*72≤72:=by omega
   simp only[DD.has,Bool.and_eq_true,decide_eq_true_eq];omega
  rw[if_neg (by rw[zW];simp),if_neg (by rw[this];simp)];rfl
 have h32:∀k,(rd d.now ((1+a*72+k:Nat):Int)).length=32:=by
  intro k;unfold rd;cases hx:dk.look d.now ((1+a*72+k:Nat):Int)with
  | none=>exact zh
  | some u=>exact fH.out.pw hx
 have H32:=QH h32;have iG:=QH eI;have qgS:=fun(W:World)=>pP a c ha W;have HF:=QH qgS;obtain⟨res,hres⟩:=QE (gu d.now a c);rw[hres];have xn:=QH hres;have kb:qh (w.alloc (.cells #[.int .i64 (a:Int),.int .i64 (c:Int)] 188)) w.heap.size _ _:=qh.new w _ _;have k0:=kb.lt;have hb0:Below w.heap.size w (w.alloc (.cells #[.int .i64 (a:Int),.int .i64 (c:Int)] 188)):=(Below.refl w.heap.size w).alloc (Nat.le_refl _) _;clear h ht eI h32 qgS hres;go_enter func118,ntmps118;go_wp2_with fail;obtain⟨w0,hw0⟩:=QE (w.alloc (.cells #[.int .i64 (a:Int),.int .i64 (c:Int)] 188));rw[hw0]at kb k0 hb0;rw[hw0];clear hw0;have KB:=QH kb;have jT:=QH hb0;clear kb hb0;go_loopw [6,14] (fun v i wr=>qrG w0 d.now a c v i wr) (fun _ i _=>c-(intOf i).toNat);case atStart=>exact⟨0,Nat.zero_le _,rfl,World.ownsRow_nil _ _ _ _,Below.refl _ _⟩
 case round =>
  obtain⟨k,hk,rfl,ho,hB⟩:=hrel;have HO:=QH ho;have HB:=QH hB;have yX:=QH (jT.out.trans (hB.mono jT.out.size));clear ho hB;by_cases hlt:k<c
  ·have hkb:qh wr w.heap.size _ _:=KB.out.of_block (HB.out.block _ k0);have q0:=hkb.cell 0;have q1:=hkb.cell 1;have lt2:=hkb.lt;have qbn:(k:Int)<(c:Int):=by omega
   have hsn:=sY d.now a k;have hr1:=iG.out k hlt;have zav:=H32.out k;have fy:=ia d.now a k;clear hkb;generalize rd d.now ((1+a*72+k:Nat):Int)=x at *;have uh:=QH hsn;have tO:=QH hr1;have dH:=QH fy;obtain⟨o1,ho1⟩:=QE (1+a*72);have qwb:o1≤73:=by omega
   have HF1:=HF;rw[ho1]at HF1 tO;have hadd:(o1:Int)+(k:Int)=((o1+k:Nat):Int):=by omega
   have HAD:=QH hadd;clear hsn hr1 ho1 hadd;go_wp2_with fail;refine(HF1.out _).mono ?_;rintro e W1 ⟨rfl,b1⟩;have ho1:=dD HO.out b1;have HO1:=QH ho1;have qU:=QH (HB.out.trans (b1.mono HB.out.size));clear b1 ho1 q0 q1;go_wp2_with fail;rw[HAD.out];have HBX:=QH (jT.out.trans (qU.out.mono jT.out.size));refine(qeW (B:=0) ⟨own,HD.out.below HBX.out,fun _ _=>Nat.zero_le _⟩ ((o1+k:Nat):Int) x (str x) rfl 0 tO.out).mono ?_;rintro e W2 ⟨rfl,_,b2⟩;have ho2:=dD HO1.out b2;rw[show zC W2 w0.heap.size _ (zL d.now a k)=W2.ownsRow w0.heap.size 9 1 _ (zL d.now a k).length (yf (zL d.now a k))from rfl]at ho2;have qG:=QH (qU.out.trans (b2.mono qU.out.size));have hown2:=ho2.alloc (.cells #[.string (str x)] 9);have hnews:=bU W2 9 (.string (str x));have wk:=QH hown2;have eJ:=QH hnews;have zG:=QH (qG.out.alloc qG.out.size (.cells #[.string (str x)] 9));clear b2 ho2 hown2 hnews HO HO1;have hkb:k≤1000:=by omega
   go_wp2_with (at_builtin;refine wpList_append_own _ rfl (.tmp 28) (.tmp 30) 57 rfl w0.heap.size 9 i0 (.string ByteArray.empty) 1 16 underlying57 hi hz0 hz1 hz2 rfl (by decide) _ (zL d.now a k).length _ rfl wk.out ⟨W2.heap.size,0,none⟩ 1 1 [.string (str x)] rfl rfl eJ.out (fun u hu=>by simp at hu;subst hu;rfl) ?_ ?_ zG.out.size ?_)
   ·rw[dH.out];unfold maxLen;omega
   ·rw[dH.out];omega
   ·intro v' w1 hown1 hgrow _;have hb1:=zG.out.grown hgrow zG.out.size (fun j hj=>(wk.out.lt j hj).1);have hos:zC w1 w0.heap.size v' (zL d.now a k++[x]):=by
     unfold zC;rw[bO,List.length_append];rw[dH.out];first|exact hown1|(rw[dH.out]at hown1;exact hown1)
    have HOS:=QH hos;have zY:=QH hb1;clear hb1 hos hown1 hgrow;go_wp2_with fail;go_roundw;case rel=>exact⟨k+1,by omega,by go_num,by rw[uh.out];exact HOS.out,zY.out⟩
    case measure=>simp[intOf];omega
  ·obtain rfl:k=c:=by omega
   obtain⟨A,cc,rfl,_,_,hsa,_,_⟩:=HO.out.view;have fy:=ia d.now a k;have HSA:=QH hsa;have cH:=HT.out.below yX.out hg;have dX:=QH cH;clear hsa cH;have hres:=xn.out;unfold gu at hres;have wA:(zL d.now a k).flatten.length≤100000:=by
    rw[vh _ (fun i hi=>by simp only[zL,List.getElem_map,List.getElem_range];exact H32.out i),fy];omega
   have tT:=QH wA;clear wA;generalize zL d.now a k=ps at *;have HLP:=QH fy;by_cases hx:∃t,uF ps t
   ·obtain⟨t,htx⟩:=hx;have nU:unB ps=some t:=by
     have hx:∃u,uF ps u:=⟨t,htx⟩;unfold unB;rw[dif_pos hx];exact congrArg some (lN _ _ _ hx.choose_spec htx)
    rw[nU]at hres;have HR:=QH (show dU t=res from hres);have HTX:=QH htx;clear hres nU htx fy;go_wp2_with fail;refine(fU A cc ps t _ HSA.out HTX.out dX.out).mono ?_;rintro e W3 ⟨rfl,b3⟩;have zG:=QH (yX.out.trans (b3.mono yX.out.size));clear b3;go_wp2_with fail;refine(jL (str t) _ (by rw[qO];have:=HTX.out.1;omega)).mono ?_;rintro e W4 ⟨b4,hq⟩;rw[zn,HR.out]at hq;have zY:=QH (zG.out.trans (b4.mono zG.out.size));clear b4;cases res with
    | some l =>
     obtain⟨A2,c2,rfl,hw⟩:=hq;have HW:=QH hw;clear hw;go_wp2_with fail;go_ret2;exact⟨zY.out,_,_,rfl,HW.out⟩
    | none =>
     obtain⟨A2,n2,c2,rfl⟩:=hq;go_wp2_with fail;go_ret2;exact⟨zY.out,_,_,_,rfl⟩
   ·have nU:unB ps=none:=by
       unfold unB;rw[dif_neg hx]
    rw[nU]at hres;have qwj:none=res:=hres;subst qwj;have HX:=QH hx;clear hres nU hx fy;go_wp2_with fail;refine(fV A cc ps _ HSA.out (by have:=HLP.out;omega) tT.out (fun t ht=>HX.out ⟨t,ht⟩) dX.out).mono ?_;rintro e W3 ⟨rfl,b3⟩;have zG:=QH (yX.out.trans (b3.mono yX.out.size));clear b3;go_wp2_with fail;go_ret2;exact⟨zG.out,_,_,_,rfl⟩
end Go.Proofs.YtdpbdkacngaemaaGreatDoor.jr
