/- VgDel, VgShelf, WiEnd, JTake, JRec, JPoss, JHeadP, JRecov, VgHld, VgTxt, SpMem, SpHyp, SpPlaces, SpFind, SpRef, SpFree, SpRefC, SpTake, SpCellR. -/
import Derived.Test.YtdagdllomphidaaGreatDoorZR6
import Derived.Shelf.Strings.Trim
set_option linter.unusedVariables false
set_option linter.unusedSimpArgs false
set_option maxHeartbeats 30000000
set_option maxRecDepth 100000
namespace Go.Proofs.YtdagdllomphidaaGreatDoor.vt.pg
open _root_.Go.Proofs.Tryz Go Go.RowKit ib mt im sp
def qoc (w:World)(k:FuncId)(b:Value)(h:Wr→Bool)(l:List Wr):Prop:=∀W,Below w.heap.size w W→∀x∈l,Calls prog k #[b,.agg #[.int .i64 x.1,.string (str x.2)]] W (dP (h x) W)
structure wP(w:World)(g n c:Nat)(l:List Wr):Prop where
 ex:∃cur,qg w g 182 cur∧cur.size=c*2∧cur.toList.take (n*2)=jr.zW l
 len:l.length=n
 cap:n≤c
theorem wP.cells{w:World}{g n c:Nat}{l:List Wr}(h:wP w g n c l)(i:Nat)(hi:i<l.length):w.cell? ⟨g,i*2,none⟩=some (.int .i64 l[i].1)∧w.cell? ⟨g,i*2+1,none⟩=some (.string (str l[i].2)):=by
 obtain⟨cur,h1,h2,h3⟩:=h.ex;obtain⟨a,b⟩:=jr.ve l i hi;exact⟨jm h1 h3 _ _ a,jm h1 h3 _ _ b⟩
theorem wP.lt{w:World}{g n c:Nat}{l:List Wr}(h:wP w g n c l):g<w.heap.size:=by
 obtain⟨cur,h1,_⟩:=h.ex;exact h1.lt
theorem wP.fro{w:World}{g n c:Nat}{l:List Wr}(h:wP w g n c l)(i:Nat):w.frozen? ⟨g,i,none⟩=false:=by
 obtain⟨cur,h1,_⟩:=h.ex;exact h1.frozen i
theorem wP.below{w w':World}{g n c:Nat}{l:List Wr}(h:wP w g n c l)(hb:Below w.heap.size w w'):wP w' g n c l:=by
 obtain⟨cur,h1,h2,h3⟩:=h.ex;exact⟨⟨cur,h1.below hb,h2,h3⟩,h.len,h.cap⟩
theorem wP.set{w:World}{g n c:Nat}{l:List Wr}(h:wP w g n c l)(i:Nat)(hi:i<l.length)(x:Wr):wP ((w.setCell ⟨g,i*2,none⟩ (.int .i64 x.1)).setCell ⟨g,i*2+1,none⟩ (.string (str x.2))) g n c (l.set i x):=by
 obtain⟨cur,h1,h2,h3⟩:=h.ex;refine⟨⟨_,(h1.ql (i*2) _).ql (i*2+1) _,by simpa using h2,?_⟩,by rw[List.length_set];exact h.len,h.cap⟩;rw[Array.toList_setIfInBounds,Array.toList_setIfInBounds,List.take_set,List.take_set,h3];exact ee l i hi x
theorem wP.ows{w:World}{g n c B:Nat}{l:List Wr}(h:wP w g n c l)(hB:B≤g)(hc:c≤maxLen):jr.mR w B (.slice (some ⟨g,0,none⟩) n c) l:=by
 obtain⟨cur,h1,h2,h3⟩:=h.ex;refine⟨by rw[jr.jy],.inr ⟨g,c,cur,by rw[h.len],hB,h1,by rw[h.len];exact h.cap,hc,h2,by rw[h.len];exact h3⟩⟩
theorem wP.qwt{w:World}{B:Nat}{v:Value}{l:List Wr}(h:jr.mR w B v l)(h1:0<l.length):∃g c,v=.slice (some ⟨g,0,none⟩) l.length c∧B≤g∧wP w g l.length c l∧c≤maxLen:=by
 rcases h.2 with⟨_,h0⟩|⟨g,cap,cur,hv,hg,hh,hcc,hm,hcs,xo⟩
 ·omega
 ·exact⟨g,cap,hv,hg,⟨⟨cur,hh,hcs,xo⟩,rfl,hcc⟩,hm⟩
def IxW (l:List Wr)(h:Wr→Bool)(w:World)(i:Value)(wr:World):Prop :=
 ∃k:Nat,k≤l.length∧i=.int .i64 (k:Int)∧(∀j (hj:j<l.length),j<k→h l[j]=false)∧Below w.heap.size w wr
def q00 (l:List Wr)(h:Wr→Bool)(w:World)(e:Ending)(w':World):Prop:=Below w.heap.size w w'∧((∃(k:Nat) (hk:k<l.length),e=.returned (.int .i64 (k:Int))∧h l[k]=true∧∀j (hj:j<l.length),j<k→h l[j]=false)∨(e=.returned (.int .i64 (-1))∧∀j (hj:j<l.length),h l[j]=false))
theorem qod{w0 w:World}{g n c:Nat}{b:Value}{h:Wr→Bool}{l:List Wr}(hR:wP w g n c l)(hb:Below w0.heap.size w0 w)(hC:qoc w0 106 b h l)(hl:l.length≤1000) :
    Calls prog 164 #[.slice (some ⟨g,0,none⟩) n c,.func (.func 106) #[b] #[]] w (q00 l h w):=by
 have HR:=QH hR;have xz:=QH hb;have HC:=QH hC;have dz:=hR.len;subst dz;clear hR hb hC;go_enter func164,ntmps164;go_wp2_with fail;go_loopw [8] (fun i wr=>IxW l h w i wr) (fun i _=>l.length-(intOf i).toNat);case atStart=>exact⟨0,Nat.zero_le _,rfl,fun j _ h=>absurd h (by omega),Below.refl _ _⟩
 case round =>
  obtain⟨k,hk,rfl,hno,hB⟩:=hrel;have vr:=QH hno;have HB:=QH hB;clear hno hB;by_cases hlt:k<l.length
  ·have jW:(k:Int)<(l.length:Int):=by omega
   have hk0:¬ (k:Int)<0:=by omega
   have hr:=HR.out.below HB.out;obtain⟨s0,s1⟩:=hr.cells k hlt;have dx:=hr.lt;have bI:=QH (HC.out wr (qc xz.out HB.out) l[k] (List.getElem_mem hlt));have HNX:Hid (h l[k]=false→∀j (hj:j<l.length),j<k+1→h l[j]=false):=fun hne j hj hjk=>by
    by_cases qoe:j<k
    ·exact vr.out j hj qoe
    ·obtain rfl:j=k:=by omega
     exact hne
   obtain⟨q,hq⟩:=QE (h l[k]);have HQ:Hid (h l[k]=q):=hq;rw[hq]at bI HNX;have HLK:Hid (l[k]=l[k]):=rfl;obtain⟨x,hx⟩:=QE (l[k]);rw[hx]at s0 s1 bI;clear hx HLK;clear hr hq;go_wp2_with fail;refine bI.out.mono ?_;rintro e W1 ⟨rfl,hb1⟩;have qV:=QH (HB.out.trans (hb1.mono HB.out.size));clear hb1;cases q with
   | true =>
    clear HNX bI;go_wp2_with fail;go_ret;exact⟨qV.out,.inl ⟨k,hlt,rfl,HQ.out,vr.out⟩⟩
   | false =>
    have HN:=QH (HNX.out rfl);clear HNX bI;go_wp2_with fail;go_roundw;case rel=>exact⟨k+1,by omega,by go_num,HN.out,qV.out⟩
    case measure=>simp[intOf];omega
  ·have jW:¬ (k:Int)<(l.length:Int):=by omega
   go_wp2_with fail;go_ret;exact⟨HB.out,.inr ⟨rfl,fun j hj=>vr.out j hj (by omega)⟩⟩
theorem qgC(w:World)(ty:TypeId)(g o n c:Nat)(cur:Array Value)(hg:qg w g 182 cur)(hn:0<n)(qnh:o+n*2≤cur.size) :
    ∃zs:List Value,zs.length=n*2∧(Builtin.clear_ #[136] ty #[.slice (some ⟨g,o,none⟩) n c]).run prog w=.ok (.tuple #[]) (w.setRow g (cur.toList.take o++zs++cur.toList.drop (o+zs.length)).toArray):=by
 obtain⟨i0,hi,hz0,hz1,hz2⟩:=info_parts qbL;obtain⟨m,rfl⟩:∃m,n=m+1:=⟨n-1,by omega⟩;have hz:(zeroValue 182).run prog w=.ok (.agg #[.int .i64 0,.string ByteArray.empty]) w:=by
  simp[zeroValue,typeInfo,hi,hz0]
 refine⟨(Builtin.zeroCells (Value.agg #[.int .i64 0,.string ByteArray.empty]).cells (m+1)).toList,?_,?_⟩
 ·simp[Builtin.zeroCells,Value.cells]
 ·have hst:=run_storeCells_at prog g o 182 (Builtin.zeroCells (Value.agg #[.int .i64 0,.string ByteArray.empty]).cells (m+1)).toList 0 cur w hg (by simp[Builtin.zeroCells,Value.cells];omega) (by
     intro v hv;simp only[Builtin.zeroCells,Value.cells,Array.toList_map,List.mem_map]at hv;obtain⟨i,_,rfl⟩:=hv;have hm:i%2<2:=Nat.mod_lt _ (by omega);show(#[Value.int .i64 0,.string ByteArray.empty][i%2]!).oneCell'=true;obtain⟨q,hq⟩:=QE (i%2);rw[hq]at hm ⊢
     match q,hm with
     | 0,_=>rfl
     | 1,_=>rfl)
  simp[Builtin.clear_,run_underlying underlying136,hz,Result.andThen];simp at hst;rw[hst]
def bS (h:Wr→Bool)(l:List Wr):List Wr:=l.filter fun x=>!h x
theorem eo {h:Wr→Bool}{l:List Wr}{j:Nat}(hj:j<l.length):bS h (l.take (j+1))=bS h (l.take j)++(if h l[j]then[]else[l[j]]):=by
 unfold bS;rw[List.take_succ_eq_append_getElem hj,List.filter_append];cases hq:h l[j] <;> simp[hq]
theorem rh {h:Wr→Bool}{l:List Wr}(hn:∀j (hj:j<l.length),h l[j]=false):bS h l=l:=by
 unfold bS;rw[List.filter_eq_self];intro x hx;obtain⟨j,hj,rfl⟩:=List.getElem_of_mem hx;rw[hn j hj];rfl
structure DlS(l K:List Wr)(h:Wr→Bool)(i j:Nat):Prop where
 len:K.length=l.length
 lt:i<j
 le:j≤l.length
 kept:K.take i=bS h (l.take j)
 rest:K.drop j=l.drop j
theorem DlS.at_{l K:List Wr}{h:Wr→Bool}{i j:Nat}(s:DlS l K h i j)(hj:j<l.length)(hk:j<K.length):K[j]=l[j]:=by
 have e:=congrArg (fun x=>x[0]?) s.rest;simp only[List.getElem?_drop,Nat.add_zero]at e;rw[List.getElem?_eq_getElem hj,List.getElem?_eq_getElem hk]at e;exact Option.some.inj e
theorem DlS.q6j{l K:List Wr}{h:Wr→Bool}{i j:Nat}(s:DlS l K h i j)(hj:j<l.length)(hd:h l[j]=true):DlS l K h i (j+1):=by
 refine⟨s.len,by have:=s.lt;omega,by omega,?_,?_⟩
 ·rw[eo hj,hd,s.kept];simp
 ·have:=congrArg (List.drop 1) s.rest
  rwa [List.drop_drop,List.drop_drop]at this
theorem DlS.keep{l K:List Wr}{h:Wr→Bool}{i j:Nat}(s:DlS l K h i j)(hj:j<l.length)(hd:h l[j]=false):DlS l (K.set i l[j]) h (i+1) (j+1):=by
 have hlt:=s.lt;have hle:=s.len;refine⟨by rw[List.length_set];exact s.len,by omega,by omega,?_,?_⟩
 ·rw[eo hj,hd,← s.kept];apply List.ext_getElem?;intro k;simp only[List.getElem?_take,List.getElem?_set,List.getElem?_append,List.length_take];by_cases h1:k<i
  ·rw[if_pos (by omega),if_neg (by omega),if_pos (by omega),if_pos h1]
  ·by_cases h2:k=i
   ·subst h2;rw[if_pos (by omega),if_pos rfl,if_pos (by omega),if_neg (by omega),show k-min k K.length=0 by omega];rfl
   ·rw[if_neg (by omega),if_neg (by omega)];obtain⟨q,hq⟩:∃q,k-min i K.length=q+1:=⟨k-min i K.length-1,by omega⟩;rw[hq];rfl
 ·have:=congrArg (List.drop 1) s.rest;rw[List.drop_drop,List.drop_drop]at this;rw[List.drop_set_of_lt (by omega)];exact this
def DlR (l:List Wr)(h:Wr→Bool)(g c:Nat)(w0:World)(i j:Value)(wr:World):Prop :=
 ∃(a b:Nat) (K:List Wr),i=.int .i64 (a:Int)∧j=.int .i64 (b:Int)∧DlS l K h a b∧wP wr g l.length c K∧Below w0.heap.size w0 wr
def qof (l:List Wr)(h:Wr→Bool)(w0:World)(e:Ending)(w':World):Prop:=∃v,e=.returned v∧jr.mR w' w0.heap.size v (bS h l)∧Below w0.heap.size w0 w'
theorem qrI{w0 w:World}{v b:Value}{h:Wr→Bool}{l:List Wr}(ho:jr.mR w w0.heap.size v l)(h1:0<l.length)(hl:l.length≤1000)(hb:Below w0.heap.size w0 w)(hC:qoc w0 106 b h l) :
    Calls prog 105 #[v,.func (.func 106) #[b] #[]] w (qof l h w0):=by
 obtain⟨g,c,rfl,hg,hR,hcm⟩:=wP.qwt ho h1;have HI:=QH (qod hR hb hC hl);have HR:=QH hR;have xz:=QH hb;have HC:=QH hC;have HG:=QH hg;have HCM:=QH hcm;clear ho hg hR hcm hb hC;go_enter func105,ntmps105;go_wp2_with fail;refine HI.out.mono ?_;rintro e W1 ⟨hb1,mU⟩;have qV:=QH (qc xz.out hb1);have jo:=QH (HR.out.below hb1);clear hb1 HI;rcases mU with⟨k,hk,rfl,hd,hno⟩|⟨rfl,hno⟩
 case' inr =>
  have vr:=QH (rh hno);clear hno;go_wp2_with fail;go_ret;exact⟨_,rfl,by rw[vr.out];exact jo.out.ows HG.out HCM.out,qV.out⟩
 have sH:Hid (DlS l l h k (k+1)):=by
  refine⟨rfl,by omega,by omega,?_,rfl⟩;rw[eo hk,hd,if_pos rfl,List.append_nil];exact(rh (l:=l.take k) (fun j hj=>by
   have hjk:j<k:=by rw[List.length_take]at hj;omega
   rw[List.getElem_take];exact hno j _ hjk)).symm
 clear hd hno;have hkw:IntKind.i64.wrap ((k:Int)+1)=((k+1:Nat):Int):=by rw[IntWalk.i64_in _ (by omega)];omega
 have hkn:((k:Int) == -1)=false:=beq_false_of_ne (by omega);go_wp2_with fail;go_loopw [5,6] (fun i j wr=>DlR l h g c w0 i j wr) (fun _ j _=>l.length-(intOf j).toNat);case atStart=>exact⟨k,k+1,l,rfl,by go_num,sH.out,jo.out,qV.out⟩
 case round =>
  obtain⟨a,b',K,rfl,rfl,hs,hr,hB⟩:=hrel;have HS:=QH hs;have HRW:=QH hr;have HB:=QH hB;have hle:=hs.le;have q01:=hs.lt;have hkl:=hs.len;clear hs hr hB;by_cases hlt:b'<l.length
  ·have hbi:(b':Int)<(l.length:Int):=by omega
   have hb0:¬ (b':Int)<0:=by omega
   have hai:(a:Int)<(l.length:Int):=by omega
   have ha0:¬ (a:Int)<0:=by omega
   have hKb:b'<K.length:=by omega
   obtain⟨s0,s1⟩:=HRW.out.cells b' hKb;have HAT:=QH (HS.out.at_ hlt hKb);have qrK:=QH (HS.out.q6j hlt);have qdQ:=QH (HS.out.keep hlt);have dx:=HRW.out.lt;rw[HAT.out]at s0 s1;have bI:Hid (∀W,Below w0.heap.size w0 W→Calls prog 106 #[b,.agg #[.int .i64 l[b'].1,.string (str l[b'].2)]] W (dP (h l[b']) W)):=fun W hW=>HC.out W hW l[b'] (List.getElem_mem hlt);obtain⟨q,hq⟩:=QE (h l[b']);rw[hq]at bI qrK qdQ;obtain⟨x,hx⟩:=QE (l[b']);rw[hx]at s0 s1 bI qdQ;clear hx hq HAT;have kF:=(Below.refl _ wr).alloc (Nat.le_refl _) (.cells #[.int .i64 x.1,.string (str x.2)] 182);have nO:=qg.new wr 182 #[.int .i64 x.1,.string (str x.2)];obtain⟨W2,hW2⟩:=QE (wr.alloc (.cells #[.int .i64 x.1,.string (str x.2)] 182));rw[hW2]at kF nO;have jK:=QH (HRW.out.below kF);have qC:=QH (qc HB.out kF);have HKX:=QH nO;have v0:=nO.cell 0;have v1:=nO.cell 1;have hvl:=nO.lt;simp only[QA,QB,QC]at v0 v1;clear kF nO;go_upto_region 8 with fail;try rw[hW2]
   clear hW2 s0 s1;go_wp2_with fail;refine(bI.out _ qC.out).mono ?_;rintro e W3 ⟨rfl,hb3⟩;have eG:=QH (jK.out.below hb3);have qZ:=QH (qc qC.out hb3);have hk3:=HKX.out.below hb3;have v0:=hk3.cell 0;have v1:=hk3.cell 1;have hvl:=hk3.lt;simp only[QA,QB,QC]at v0 v1;have mA:IntKind.i64.wrap ((b':Int)+1)=((b'+1:Nat):Int):=by rw[IntWalk.i64_in _ (by omega)];omega
   clear hb3 bI jK HKX hk3;cases q with
   | true =>
    have HO:=QH (qrK.out rfl);clear qrK qdQ;go_wp2_with fail;go_roundw;case rel=>exact⟨a,b'+1,K,rfl,by go_num,HO.out,eG.out,qZ.out⟩
    case measure=>simp[intOf];omega
   | false =>
    have HO:=QH (qdQ.out rfl);clear qrK qdQ;have haK:a<K.length:=by omega
    obtain⟨t0,t1⟩:=eG.out.cells a haK;obtain⟨z0,hz0⟩:∃z,W3.cell? ⟨g,a*2,none⟩=some z:=⟨_,t0⟩;obtain⟨z1,hz1⟩:∃z,W3.cell? ⟨g,a*2+1,none⟩=some z:=⟨_,t1⟩;have f0:=eG.out.fro (a*2);have f1:=eG.out.fro (a*2+1);have dx:=eG.out.lt;have HR4:=QH (eG.out.set a haK x);have x9:Hid (Below w0.heap.size w0 ((W3.setCell ⟨g,a*2,none⟩ (.int .i64 x.1)).setCell ⟨g,a*2+1,none⟩ (.string (str x.2)))):=(qZ.out.setCell (p:=⟨g,a*2,none⟩) HG.out _).setCell (p:=⟨g,a*2+1,none⟩) HG.out _;have haw:IntKind.i64.wrap ((a:Int)+1)=((a+1:Nat):Int):=by rw[IntWalk.i64_in _ (by omega)];omega
    clear t0 t1;go_wp2_with fail;go_roundw;case rel=>exact⟨a+1,b'+1,_,by go_num,by go_num,HO.out,HR4.out,x9.out⟩
    case measure=>simp[intOf];omega
  ·obtain rfl:b'=l.length:=by omega
   have hbi:¬ (l.length:Int)<(l.length:Int):=by omega
   have ha0:(0:Int)≤(a:Int):=by omega
   have hai:(a:Int)≤(l.length:Int):=by omega
   have hac:(a:Int)≤(c:Int):=by have:=HRW.out.cap;omega
   have qdR:=HS.out.kept;rw[List.take_length]at qdR;have HKP:=QH qdR;obtain⟨cur,c1,c2,c3⟩:=HRW.out.ex;have qmc:=HRW.out.cap;have hcl:∀ty,∃W4,(Builtin.clear_ #[136] ty #[.slice (some ⟨g,a*2,none⟩) (l.length-a) (c-a)]).run prog wr=.ok (.tuple #[]) W4∧wP W4 g a c (bS h l)∧Below w0.heap.size w0 W4:=fun ty=>by
    obtain⟨zs,hzl,hrun⟩:=qgC wr ty g (a*2) (l.length-a) (c-a) cur c1 (by omega) (by omega);refine⟨_,hrun,⟨⟨_,tV c1,?_,?_⟩,?_,by omega⟩,gq HB.out _ HG.out⟩
    ·simp[hzl];omega
    ·have hcl:cur.toList.length=c*2:=by simpa using c2
     show(cur.toList.take (a*2)++zs++cur.toList.drop (a*2+zs.length)).take (a*2)=_;rw[List.append_assoc,List.take_append_of_le_length (by rw[List.length_take];omega),List.take_take,Nat.min_self];have h5:jr.zW (K.take a)=(jr.zW K).take (a*2):=by
      have e:jr.zW K=jr.zW (K.take a)++jr.zW (K.drop a):=by rw[← jr.vW,List.take_append_drop]
      rw[e,List.take_left' (by rw[jr.jy,List.length_take];omega)]
     rw[← qdR,h5,← c3,List.take_take]
     congr 1
     omega
    ·rw[← qdR,List.length_take];omega
   obtain⟨W4,hc4,hr4,hb4⟩:=hcl 0;have zcB:∀ty,(Builtin.clear_ #[136] ty #[.slice (some ⟨g,a*2,none⟩) (l.length-a) (c-a)]).run prog wr=.ok (.tuple #[]) W4:=fun ty=>hc4;have HR4:=QH hr4;have x9:=QH hb4;have hcc:(l.length:Int)≤(c:Int):=by omega
   clear hc4 hr4 hb4 hcl qdR c1 c2 c3;go_wp2_with fail;go_ret;exact⟨_,rfl,HR4.out.ows HG.out HCM.out,x9.out⟩
end Go.Proofs.YtdagdllomphidaaGreatDoor.vt.pg
namespace Go.Proofs
open _root_.Go.Proofs.Tryz Go.Shelf
def Tryz.qdS:Go.Shelf.Ren:=⟨fun | 160=>160 | 232=>193 | 231=>192 | 227=>194 | 234=>196 | 233=>195 | 236=>198 | 235=>197 | 228=>214 | 271=>217 | 151=>216 | 197=>215 | 120=>222 | 152=>221 | 260=>220 | 137=>224 | 119=>225 | 224=>226 | 225=>227 | 217=>228 | 266=>229|n=>n,fun | 9=>9 | 4=>4 | 3=>3 | 5=>5 | 117=>274 | 116=>273 | 0=>0 | 124=>277 | 21=>21 | 105=>295 | 46=>224 | 119=>300 | 139=>303 | 138=>302|n=>n,fun | 3=>2 | 4=>3|n=>n⟩
theorem Tryz.qrL:Go.Proofs.Lays.n160 prog Tryz.qdS:={
 mixed:=by kernel_rfl
 f119:=func225.trans (congrArg some (by kernel_rfl))
 f120:=func222.trans (congrArg some (by kernel_rfl))
 f137:=func224.trans (congrArg some (by kernel_rfl))
 f151:=func216.trans (congrArg some (by kernel_rfl))
 f152:=func221.trans (congrArg some (by kernel_rfl))
 f160:=func160.trans (congrArg some (by kernel_rfl))
 f197:=func215.trans (congrArg some (by kernel_rfl))
 f217:=func228.trans (congrArg some (by kernel_rfl))
 f224:=func226.trans (congrArg some (by kernel_rfl))
 f225:=func227.trans (congrArg some (by kernel_rfl))
 f227:=func194.trans (congrArg some (by kernel_rfl))
 f228:=func214.trans (congrArg some (by kernel_rfl))
 f231:=func192.trans (congrArg some (by kernel_rfl))
 f232:=func193.trans (congrArg some (by kernel_rfl))
 f233:=func195.trans (congrArg some (by kernel_rfl))
 f234:=func196.trans (congrArg some (by kernel_rfl))
 f235:=func197.trans (congrArg some (by kernel_rfl))
 f236:=func198.trans (congrArg some (by kernel_rfl))
 f260:=func220.trans (congrArg some (by kernel_rfl))
 f266:=func229.trans (congrArg some (by kernel_rfl))
 f271:=func217.trans (congrArg some (by kernel_rfl))
 t0:=underlying0
 a0:=isAgg0
 z0:=sizeOf0
 v0:=zeroValue0
 t3:=underlying3
 a3:=isAgg3
 z3:=sizeOf3
 v3:=zeroValue3
 t4:=underlying4
 a4:=isAgg4
 z4:=sizeOf4
 v4:=zeroValue4
 t5:=underlying5
 a5:=isAgg5
 z5:=sizeOf5
 v5:=zeroValue5
 t9:=underlying9
 a9:=isAgg9
 z9:=sizeOf9
 v9:=zeroValue9
 t21:=underlying21
 a21:=isAgg21
 z21:=sizeOf21
 v21:=zeroValue21
 t46:=underlying224
 a46:=isAgg224
 z46:=sizeOf224
 v46:=zeroValue224
 t105:=underlying295
 a105:=isAgg295
 z105:=sizeOf295
 v105:=zeroValue295
 t116:=underlying273
 a116:=isAgg273
 z116:=sizeOf273
 t117:=underlying274
 a117:=isAgg274
 z117:=sizeOf274
 v117:=zeroValue274
 t119:=underlying300
 a119:=isAgg300
 z119:=sizeOf300
 t124:=underlying277
 a124:=isAgg277
 z124:=sizeOf277
 v124:=zeroValue277
 t138:=underlying302
 a138:=isAgg302
 z138:=sizeOf302
 v138:=zeroValue302
 t139:=underlying303
 a139:=isAgg303
 z139:=sizeOf303
 v139:=zeroValue303
 g3:=by kernel_rfl
 g4:=by kernel_rfl }
open Go.RowKit in
theorem Tryz.strings_Trim_one(s:ByteArray)(c:UInt8)(hc:c.toNat<128)(w:World)(hs:s.size≤9223372036854775807) :
    Calls prog 160 #[.string s,.string ⟨#[c]⟩] w fun e w'=>e=.returned (.string ⟨(Lib.trimB s.data.toList c).toArray⟩)∧(w'=w∨w'=w.drew):=Any.strings_Trim_one Tryz.qrL s c hc w hs
end Go.Proofs
namespace Go.Proofs.YtdagdllomphidaaGreatDoor.wi
open _root_.Go.Proofs.Tryz Go.RowKit
theorem qrM(b:Nat)(l:List UInt8)(w:World)(h:zo b l true w) :
    Calls prog 178 #[.pointer (some ⟨b,0,none⟩)] w fun e w'=>e=.returned (.bool false)∧w=w':=by
 go_enter func178,ntmps178;go_wp2_with (go_at_call 204;refine(qmd b l _ h).mono ?_;rintro e w' ⟨rfl,rfl⟩);go_ret;exact⟨rfl,rfl⟩
theorem qog(b:Nat)(l:List UInt8)(w:World)(h:zo b l false w) :
    Calls prog 178 #[.pointer (some ⟨b,0,none⟩)] w fun e w'=>e=.returned (.bool l.isEmpty)∧w=w':=by
 obtain⟨g,o,cap,hb,hr⟩:=h;have h1:w.cell? ⟨b,0,none⟩=some (.slice (some ⟨g,o,none⟩) l.length cap):=by simp[World.cell?,hb]
 have he:((l.length:Int) == 0)=l.isEmpty:=by cases l <;> simp;omega
 have hR:zo b l false w:=⟨g,o,cap,hb,hr⟩;have hlen:l.length≤140737488355328:=hr.2.2;clear hb hr;go_enter func178,ntmps178;go_wp2_with (go_at_call 204;refine(qfo b l _ hR).mono ?_;rintro e w' ⟨rfl,rfl⟩);go_ret;exact⟨rfl,rfl⟩
end Go.Proofs.YtdagdllomphidaaGreatDoor.wi
namespace Go.Proofs.YtdagdllomphidaaGreatDoor.jr
open _root_.Go.Proofs.Tryz Go Go.RowKit dk wi
def vK (t:Bt):Option (Wr × Bt):=match rdNum t with
 | none=>none
 | some (a,t1)=>match js t1 with
  | none=>none
  | some (v,t2)=>some ((((min a 1024:Nat):Int),v),t2)
theorem fY (n:Nat)(t:Bt):l8 (n+1) t=match vK t with|none=>none|some (x,r)=>match l8 n r with|none=>none|some (l,q)=>some (x::l,q):=by
 rw[l8];unfold vK;cases rdNum t with
 | none=>rfl
 | some p =>
  obtain⟨a,t1⟩:=p;dsimp only;cases js t1 with
  | none=>rfl
  | some q=>rfl
theorem aH:∀(k:Nat) (t:Bt),l8 (k+1) t=match l8 k t with|none=>none|some (l,r)=>match vK r with|none=>none|some (x,q)=>some (l++[x],q)
 | 0,t=>by
  rw[fY];show _=match vK t with|none=>none|some (x,q)=>some ([]++[x],q)
  cases vK t with
  | none=>rfl
  | some p=>rfl
 | k+1,t=>by
  rw[fY];cases h:vK t with
  | none =>
   have h2:l8 (k+1) t=none:=by rw[fY,h]
   rw[h2]
  | some p =>
   obtain⟨x,r⟩:=p;have h2:l8 (k+1) t=match l8 k r with|none=>none|some (l,q)=>some (x::l,q):=by rw[fY,h]
   rw[h2];dsimp only;rw[aH k r];cases l8 k r with
   | none=>rfl
   | some p2 =>
    obtain⟨l,q⟩:=p2;dsimp only;cases vK q with
    | none=>rfl
    | some p3=>rfl
theorem ri:∀(n k:Nat) (t:Bt),k≤n→l8 k t=none→l8 n t=none
 | 0,k,t,h,hk=>by
  obtain rfl:k=0:=by omega
  exact hk
 | n+1,k,t,h,hk=>by
  by_cases e:k=n+1
  ·rw[← e];exact hk
  ·rw[aH,ri n k t (by omega) hk]
theorem nP:∀(n:Nat) (t:Bt) (l:List Wr) (r:Bt),l8 n t=some (l,r)→l.length=n
 | 0,t,l,r,h=>by simp[l8]at h;simp[← h.1]
 | n+1,t,l,r,h=>by
  rw[fY]at h;cases h1:vK t with
  | none=>rw[h1]at h;cases h
  | some p =>
   obtain⟨x,q⟩:=p;rw[h1]at h;dsimp only at h;cases h2:l8 n q with
   | none=>rw[h2]at h;cases h
   | some p2 =>
    obtain⟨l2,q2⟩:=p2;rw[h2]at h;simp at h;rw[← h.1];simp[nP n q l2 q2 h2]
def Fill (cs:Array Value)(n:Nat)(l:List Wr):Prop:=cs.size=n*2∧∀i (h:i<l.length),cs[i*2]?=some (.int .i64 l[i].1)∧cs[i*2+1]?=some (.string (str l[i].2))
theorem qkl{cs:Array Value}{n:Nat}{l:List Wr}(h:Fill cs n l)(hl:l.length<n)(x:Wr):Fill ((cs.setIfInBounds (l.length*2) (.int .i64 x.1)).setIfInBounds (l.length*2+1) (.string (str x.2))) n (l++[x]):=by
 obtain⟨h1,h2⟩:=h;refine⟨by simpa using h1,fun i hi=>?_⟩;by_cases bG:i<l.length
 ·rw[List.getElem_append_left bG];obtain⟨g1,g2⟩:=h2 i bG;constructor
  ·rw[Array.getElem?_setIfInBounds_ne (by omega),Array.getElem?_setIfInBounds_ne (by omega)];exact g1
  ·rw[Array.getElem?_setIfInBounds_ne (by omega),Array.getElem?_setIfInBounds_ne (by omega)];exact g2
 ·have e:i=l.length:=by simp at hi;omega
  subst e;rw[List.getElem_append_right (Nat.le_refl _)];simp only[Nat.sub_self,List.getElem_cons_zero];constructor
  ·rw[Array.getElem?_setIfInBounds_ne (by omega),Array.getElem?_setIfInBounds_self_of_lt (by omega)]
  ·rw[Array.getElem?_setIfInBounds_self_of_lt (by rw[Array.size_setIfInBounds];omega)]
def S0 (n:Nat)(r0:Bt)(rb k:Nat)(cs:Array Value)(wr:World):Prop :=
 (∃l r,l8 k r0=some (l,r)∧Fill cs n l∧zo rb r false wr∧∀x∈l,qG x.1)∨(l8 n r0=none∧∃m,zo rb m true wr)
def S1 (n:Nat)(r0:Bt)(rb k:Nat)(cs:Array Value)(z:Nat)(wr:World):Prop :=
 (∃l r r1,l8 k r0=some (l,r)∧Fill cs n l∧rdNum r=some (z,r1)∧zo rb r1 false wr∧∀x∈l,qG x.1)∨(l8 n r0=none∧∃m,zo rb m true wr)
def S2 (n:Nat)(r0:Bt)(rb k:Nat)(cs:Array Value)(z:Nat)(t:Bt)(wr:World):Prop :=
 (∃l r,l8 k r0=some (l,r)∧Fill cs n l∧(∀x∈l,qG x.1)∧∃q,l8 (k+1) r0=some (l++[(((min z 1024:Nat):Int),t)],q)∧zo rb q false wr)∨(l8 n r0=none∧∃m,zo rb m true wr)
def qrN (n:Nat)(r0:Bt)(rb k:Nat)(cs:Array Value)(w:World)(e:Ending)(w':World):Prop :=
 ∃z:Nat,e=.returned (.int .u64 (z:Int))∧z<18446744073709551616∧w.grownBy w' (some rb)∧S1 n r0 rb k cs z w'
def qoh (n:Nat)(r0:Bt)(rb k:Nat)(cs:Array Value)(z:Nat)(w:World)(e:Ending)(w':World):Prop :=
 ∃t:Bt,e=.returned (.string (str t))∧w.grownBy w' (some rb)∧S2 n r0 rb k cs z t w'
theorem qkm{n:Nat}{r0:Bt}{rb k:Nat}{cs:Array Value}{w:World}(hk:k<n)(h:S0 n r0 rb k cs w):Calls prog 127 #[.pointer (some ⟨rb,0,none⟩)] w (qrN n r0 rb k cs w):=by
 rcases h with⟨l,r,h1,h2,h3,h4⟩|⟨h1,m,h2⟩
 ·refine(wh rb r w h3).mono ?_;rintro e w' ⟨hg,⟨z,r1,hn,rfl,hr⟩|⟨hn,rfl,hm⟩⟩
  ·exact⟨z,rfl,(dM _ _ _ hn).2,hg,.inl ⟨l,r,r1,h1,h2,hn,hr,h4⟩⟩
  ·refine⟨0,rfl,by decide,hg,.inr ⟨?_,hm⟩⟩;refine ri n (k+1) r0 (by omega) ?_;rw[aH,h1];dsimp only;have:vK r=none:=by unfold vK;rw[hn]
   rw[this]
 ·refine(oh rb m w h2).mono ?_;rintro e w' ⟨rfl,rfl⟩;exact⟨0,rfl,by decide,wX _ _,.inr ⟨h1,m,h2⟩⟩
theorem qgD{n:Nat}{r0:Bt}{rb k:Nat}{cs:Array Value}{z:Nat}{w:World}(hk:k<n)(h:S1 n r0 rb k cs z w):Calls prog 177 #[.pointer (some ⟨rb,0,none⟩)] w (qoh n r0 rb k cs z w):=by
 rcases h with⟨l,r,r1,h1,h2,hn,h3,h4⟩|⟨h1,m,h2⟩
 ·refine(qg8 rb r1 w h3).mono ?_;rintro e w' ⟨hg,⟨t,r2,ht,rfl,hr⟩|⟨ht,rfl,hm⟩⟩
  ·refine⟨t,rfl,hg,.inl ⟨l,r,h1,h2,h4,r2,?_,hr⟩⟩;rw[aH,h1];dsimp only;have:vK r=some ((((min z 1024:Nat):Int),t),r2):=by
    unfold vK;rw[hn];dsimp only;rw[ht]
   rw[this]
  ·refine⟨[],rfl,hg,.inr ⟨?_,hm⟩⟩;refine ri n (k+1) r0 (by omega) ?_;rw[aH,h1];dsimp only;have:vK r=none:=by
    unfold vK;rw[hn];dsimp only;rw[ht]
   rw[this]
 ·refine(qkf rb m w h2).mono ?_;rintro e w' ⟨rfl,rfl⟩;exact⟨[],rfl,wX _ _,.inr ⟨h1,m,h2⟩⟩
def qrO (w:World)(rb g n:Nat)(r0:Bt)(i:Value)(wr:World):Prop :=
 ∃(k:Nat) (cs:Array Value),k≤n∧i=.int .i64 (k:Int)∧qg wr g 182 cs∧cs.size=n*2∧Below w.heap.size w wr∧S0 n r0 rb k cs wr
def rj (r:Option (List Wr))(w:World)(e:Ending)(w':World):Prop :=
 Below w.heap.size w w'∧match r with
  | some l=>∃A c,e=.returned (.tuple #[.slice A l.length c,.bool true])∧vd w' A l
  | none=>∃A n c,e=.returned (.tuple #[.slice A n c,.bool false])
theorem qrP(n:Nat)(h:n≤60)(W:World):(Instr.makeSlice 136 (.int .u64 (n:Int)) (.int .u64 (n:Int))).run prog W=.ok (.slice (some ⟨W.heap.size,0,none⟩) n n) (W.alloc (.cells (madeCells #[.int .i64 0,.string ByteArray.empty] (n*2)) 182)):=by
 obtain⟨i0,hi,hz0,hz1,hz2⟩:=info_parts qnX;have hmk:=run_make (P:=prog) W 136 182 i0 (.agg #[.int .i64 0,.string ByteArray.empty]) underlying136 hi hz0 .u64 .u64 (n:Int) (n:Int) (by omega) (by omega) (by rw[hz2];omega) (by omega);rw[hz1]at hmk;simpa[Value.cells]using hmk
theorem fZ {rb g i:Nat}{l:Bt}{x:Bool}{W:World}{cs:Array Value}{u:Value}(h:zo rb l x W)(hB:qg W g 182 cs):zo rb l x (W.setCell ⟨g,i,none⟩ u):=by
 obtain⟨q,o,cap,h1,h2,h3,h4⟩:=h;have n1:rb≠g:=by
  rintro rfl;unfold qg at hB;rw[h1]at hB;simp at hB
 have n2:q≠g:=by
  rintro rfl;obtain⟨cs',fr,hq,_⟩:=h2;unfold qg at hB;rw[hq]at hB;simp at hB
 exact⟨q,o,cap,by rw[Below.heap_setCell W ⟨g,i,none⟩ u rb n1];exact h1,h2.keep (Below.heap_setCell W ⟨g,i,none⟩ u q n2),h3,h4⟩
theorem jh (s:ByteArray)(w:World)(hs:s.size≤140737488355328) :
    Calls prog 130 #[.string s] w (rj (bP (bl s)) w):=by
 obtain⟨res,hres⟩:=QE (bP (bl s));rw[hres];have xB:=QH hres;clear hres;go_enter func130,ntmps130;go_wp2_with fail;refine(qaY s w hs).mono ?_;rintro e W1 ⟨rb,rfl,hrb,hR,b1⟩;have HR:=QH hR;have qV:=QH b1;clear hR b1;go_wp2_with fail;refine(wh rb (bl s) W1 HR.out).mono ?_;rintro e W2 ⟨g2,⟨n,r0,hn,rfl,hR2⟩|⟨hn,rfl,m,hR2⟩⟩
 ·have hres:res=if n<1∨60<n then none else match l8 n r0 with|some (l,[])=>some l|_=>none:=by
     have h:=xB.out;unfold bP at h;rw[hn]at h;exact h.symm
  have jK:=QH hR2;have qC:=QH (qV.out.grown g2 qV.out.size (fun j hj=>by simp at hj;omega));clear hR2 g2 HR qV xB hn;by_cases hlo:n<1
  ·have c1:((n:Int)<1):=by omega
   rw[if_pos (.inl hlo)]at hres;subst hres;go_wp2_with fail;go_ret2;exact⟨qC.out,_,_,_,rfl⟩
  ·by_cases hhi:60<n
   ·have c1:¬ ((n:Int)<1):=by omega
    have c2:(60:Int)<(n:Int):=by omega
    rw[if_pos (.inr hhi)]at hres;subst hres;go_wp2_with fail;go_ret2;exact⟨qC.out,_,_,_,rfl⟩
   ·rw[if_neg (by omega)]at hres;have c1:¬ ((n:Int)<1):=by omega
    have c2:¬ (60:Int)<(n:Int):=by omega
    have xB:=QH hres;clear hres;have hmk:=qrP n (by omega);have kb:qg (W2.alloc (.cells (madeCells #[.int .i64 0,.string ByteArray.empty] (n*2)) 182)) W2.heap.size _ _:=qg.new W2 _ _;have hR3:zo rb r0 false (W2.alloc (.cells (madeCells #[.int .i64 0,.string ByteArray.empty] (n*2)) 182)):=jK.out.below ((Below.refl W2.heap.size W2).alloc (Nat.le_refl _) _);have hB3:Below w.heap.size w (W2.alloc (.cells (madeCells #[.int .i64 0,.string ByteArray.empty] (n*2)) 182)):=qC.out.alloc qC.out.size _;have hgg:w.heap.size≤W2.heap.size:=qC.out.size;have hcz:(madeCells #[.int .i64 0,.string ByteArray.empty] (n*2)).size=n*2:=size_madeCells _ _;have HCZ:=QH hcz;clear hcz;go_wp2_with fail;clear hmk;generalize W2.heap.size=g at *;generalize madeCells #[.int .i64 0,.string ByteArray.empty] (n*2)=cs0 at *;generalize W2.alloc (.cells cs0 182)=W3 at *;go_loopw [22] (fun i wr=>qrO w rb g n r0 i wr) (fun i _=>n-(intOf i).toNat);case atStart=>exact⟨0,cs0,Nat.zero_le _,rfl,kb,HCZ.out,hB3,.inl ⟨[],r0,rfl,⟨HCZ.out,fun i h=>by simp at h⟩,hR3,fun x hx=>by cases hx⟩⟩
    case round =>
     clear kb hR3 hB3 qC jK HCZ;obtain⟨k,cs,hk,rfl,yE,hcs,hB,hst⟩:=hrel;have yP:=QH yE;have HB:=QH hB;have HST:=QH hst;clear yE hB hst;have dx:=yP.out.lt;have q02:rb≠g:=by
      intro e;have hb2:=yP.out;unfold qg at hb2;rcases HST.out with⟨_,_,_,_,⟨_,_,_,h,_⟩,_⟩|⟨_,_,_,_,_,h,_⟩;all_goals
       rw[e,hb2]at h;simp at h
     by_cases hlt:k<n
     ·have ra:(k:Int)<(n:Int):=by omega
      go_wp2_with fail;refine(qkm hlt HST.out).mono ?_;rintro e Wa ⟨z,rfl,zcC,ga,hs1⟩;have hba:qg Wa g 182 cs:=yP.out.of_block (ga.block g dx (by simpa using Ne.symm q02));have HBA:=QH hba;have gZ:=QH hs1;have qV:=QH (HB.out.grown ga HB.out.size (fun j hj=>by simp at hj;omega));have iE:=hba.lt;obtain⟨q6o,hc0⟩:∃u,cs[k*2]?=some u:=⟨_,Array.getElem?_eq_getElem (by omega)⟩;have ea:Wa.cell? ⟨g,k*2,none⟩=some q6o:=by rw[hba.cell];exact hc0
      have fa:Wa.frozen? ⟨g,k*2,none⟩=false:=hba.frozen _;have q6p:min (z:Int) 1024=((min z 1024:Nat):Int):=by omega
      have hmn:min z 1024≤1024:=Nat.min_le_right _ _;obtain⟨mz,hmz⟩:=QE (min z 1024);rw[hmz]at q6p hmn;have HMZ:=QH hmz;have hmi:(mz:Int)≤1024:=by omega
      clear hba ga hs1 hc0 hmz HB yP HST;go_wp2_with fail;have hbb:=HBA.out.ql (k*2) (.int .i64 (mz:Int));have q03:S1 n r0 rb k cs z (Wa.setCell ⟨g,k*2,none⟩ (.int .i64 (mz:Int))):=by
       rcases gZ.out with⟨l,r,r1,h1,h2,h3,h4,h5⟩|⟨h1,m,h2⟩
       ·exact .inl ⟨l,r,r1,h1,h2,h3,fZ h4 HBA.out,h5⟩
       ·exact .inr ⟨h1,m,fZ h2 HBA.out⟩
      have HBB:=QH hbb;have qkc:=QH q03;have qwv:=QH (qV.out.setCell (p:=⟨g,k*2,none⟩) (Nat.le_trans hgg (Nat.le_refl _)) (.int .i64 (mz:Int)));clear hbb q03 ea fa HBA gZ qV;refine(qgD hlt qkc.out).mono ?_;rintro e Wc ⟨t,rfl,gc,hs2⟩;have hbc:qg Wc g 182 (cs.setIfInBounds (k*2) (.int .i64 (mz:Int))):=HBB.out.of_block (gc.block g HBB.out.lt (by simpa using Ne.symm q02));have HBC:=QH hbc;have uK:=QH hs2;have qC:=QH (qwv.out.grown gc qwv.out.size (fun j hj=>by simp at hj;omega));have hlc:=hbc.lt;obtain⟨q6s,hc1⟩:∃u,(cs.setIfInBounds (k*2) (.int .i64 (mz:Int)))[k*2+1]?=some u:=⟨_,Array.getElem?_eq_getElem (by rw[Array.size_setIfInBounds];omega)⟩;have ec:Wc.cell? ⟨g,k*2+1,none⟩=some q6s:=by rw[hbc.cell];exact hc1
      have fc:Wc.frozen? ⟨g,k*2+1,none⟩=false:=hbc.frozen _;clear hbc gc hs2 hc1 HBB qkc qwv;go_wp2_with fail;go_roundw;case rel =>
       refine⟨k+1,_,by omega,by go_num,HBC.out.ql (k*2+1) (.string (str t)),by simp[hcs],qC.out.setCell (p:=⟨g,k*2+1,none⟩) (Nat.le_trans hgg (Nat.le_refl _)) _,?_⟩;rcases uK.out with⟨l,r,h1,h2,h3,q,h4,h5⟩|⟨h1,m,h2⟩
       ·have hl:=nP k r0 l r h1;subst hl;rw[HMZ.out]at h4;refine .inl ⟨_,q,h4,qkl h2 hlt ((mz:Int),t),fZ h5 HBC.out,fun x hx=>?_⟩;rcases List.mem_append.1 hx with hx|hx
        ·exact h3 x hx
        ·obtain rfl:x=_:=by simpa using hx
         unfold qG;dsimp only;omega
       ·exact .inr ⟨h1,m,fZ h2 HBC.out⟩
      case measure=>simp[intOf];omega
     ·obtain rfl:k=n:=by omega
      have hres:=xB.out;rcases HST.out with⟨l,r,h1,h2,h3,h4⟩|⟨h1,m,h2⟩
      ·have hl:=nP k r0 l r h1;rw[h1]at hres;have H3:=QH h3;have H2:=QH h2;have H4:=QH h4;have nQ:=QH hres;clear h1 h2 h3 h4 hres xB HST;go_wp2_with (go_at_call 178;refine(qog rb r _ H3.out).mono ?_;rintro e w' ⟨rfl,rfl⟩);go_ret2;refine⟨HB.out,?_⟩;rw[nQ.out];cases r with
       | nil =>
        subst hl;refine⟨_,_,rfl,fun i hi=>⟨g,0,rfl,dx,?_,?_,H4.out _ (List.getElem_mem hi)⟩⟩
        ·rw[Nat.zero_add,yP.out.cell];exact(H2.out.2 i hi).1
        ·rw[Nat.zero_add,yP.out.cell];exact(H2.out.2 i hi).2
       | cons x r=>exact⟨_,_,_,rfl⟩
      ·rw[h1]at hres;dsimp only at hres;have H2:=QH h2;have nQ:=QH hres;clear h1 h2 hres xB HST;go_wp2_with (go_at_call 178;refine(qrM rb m _ H2.out).mono ?_;rintro e w' ⟨rfl,rfl⟩);go_ret2;refine⟨HB.out,?_⟩;rw[nQ.out];exact⟨_,_,_,rfl⟩
 ·have hres:res=none:=by rw[← xB.out];unfold bP;rw[hn]
  subst hres;have qC:=QH (qV.out.grown g2 qV.out.size (fun j hj=>by simp at hj;omega));clear hR2 g2 HR qV;go_wp2_with fail;go_ret2;exact⟨qC.out,_,_,_,rfl⟩
theorem qbM(s:qB)(a k:Nat):zY s a (k+1)=zY s a k++[rd s ((1+a*72+k:Nat):Int)]:=by
 unfold zY;rw[List.range_succ,List.map_append];rfl
theorem mV (s:qB)(a k:Nat):(zY s a k).length=k:=by simp[zY]
def qww (w:World)(s:qB)(a c:Nat)(v i:Value)(wr:World):Prop :=
 ∃k:Nat,k≤c∧i=.int .i64 (k:Int)∧zQ wr w.heap.size v (zY s a k)∧Below w.heap.size w wr
theorem qgE{most:Nat}{w:World}{own:Nat→Prop}{p:Nat}{d:DD}(h:zA most w own p d)(zS:d.on=true)(hn:145<d.n)(a c:Nat)(ha:a<2)(hc:c≤72)(ht:xL w) :
    Calls prog 85 #[.agg #[.int .i64 (a:Int),.int .i64 (c:Int)],.pointer (some ⟨p,0,none⟩)] w (rj (aj d.now a c) w):=by
 obtain⟨i0,hi,hz0,hz1,hz2⟩:=info_parts Tryz.qlW;have HD:=QH h;have HT:=QH ht;have hg:=ht.1;have HOK:=QH h.1;have wM:∀k,k<c→d.read ((1+a*72+k:Nat):Int)=(rd d.now ((1+a*72+k:Nat):Int),0):=by
  intro k hk;unfold DD.read;have:d.has ((1+a*72+k:Nat):Int)=true:=by
   have h72:a*72≤72:=by omega
   simp only[DD.has,Bool.and_eq_true,decide_eq_true_eq];omega
  rw[if_neg (by rw[zS];simp),if_neg (by rw[this];simp)];rfl
 have h32:∀k,(rd d.now ((1+a*72+k:Nat):Int)).length=32:=by
  intro k;unfold rd;cases hx:dk.look d.now ((1+a*72+k:Nat):Int)with
  | none=>exact qJ
  | some u=>exact HOK.out.qah hx
 have H32:=QH h32;have xF:=QH wM;have qkk:=fun(W:World)=>qa4 a c ha W;have HF:=QH qkk;obtain⟨res,hres⟩:=QE (aj d.now a c);rw[hres];have xB:=QH hres;have kb:qg (w.alloc (.cells #[.int .i64 (a:Int),.int .i64 (c:Int)] 149)) w.heap.size _ _:=qg.new w _ _;have k0:=kb.lt;have hb0:Below w.heap.size w (w.alloc (.cells #[.int .i64 (a:Int),.int .i64 (c:Int)] 149)):=(Below.refl w.heap.size w).alloc (Nat.le_refl _) _;clear h ht wM h32 qkk hres;go_enter func85,ntmps85;go_wp2_with fail;obtain⟨w0,hw0⟩:=QE (w.alloc (.cells #[.int .i64 (a:Int),.int .i64 (c:Int)] 149));rw[hw0]at kb k0 hb0;rw[hw0];clear hw0;have KB:=QH kb;have xz:=QH hb0;clear kb hb0;go_loopw [6,14] (fun v i wr=>qww w0 d.now a c v i wr) (fun _ i _=>c-(intOf i).toNat);case atStart=>exact⟨0,Nat.zero_le _,rfl,World.ownsRow_nil _ _ _ _,Below.refl _ _⟩
 case round =>
  obtain⟨k,hk,rfl,ho,hB⟩:=hrel;have HO:=QH ho;have HB:=QH hB;have kJ:=QH (xz.out.trans (hB.mono xz.out.size));clear ho hB;by_cases hlt:k<c
  ·have hkb:qg wr w.heap.size _ _:=KB.out.of_block (HB.out.block _ k0);have q0:=hkb.cell 0;have q1:=hkb.cell 1;have lt2:=hkb.lt;have ra:(k:Int)<(c:Int):=by omega
   have hsn:=qbM d.now a k;have hr1:=xF.out k hlt;have zcD:=H32.out k;have dz:=mV d.now a k;clear hkb;generalize rd d.now ((1+a*72+k:Nat):Int)=x at *;have kX:=QH hsn;have jo:=QH hr1;have bF:=QH dz;obtain⟨o1,ho1⟩:=QE (1+a*72);have q0z:o1≤73:=by omega
   have HF1:=HF;rw[ho1]at HF1 jo;have hadd:(o1:Int)+(k:Int)=((o1+k:Nat):Int):=by omega
   have HAD:=QH hadd;clear hsn hr1 ho1 hadd;go_wp2_with fail;refine(HF1.out _).mono ?_;rintro e W1 ⟨rfl,b1⟩;have ho1:=bz HO.out b1;have HO1:=QH ho1;have qV:=QH (HB.out.trans (b1.mono HB.out.size));clear b1 ho1 q0 q1;go_wp2_with fail;rw[HAD.out];have HBX:=QH (xz.out.trans (qV.out.mono xz.out.size));refine(qij (B:=0) ⟨own,HD.out.below HBX.out,fun _ _=>Nat.zero_le _⟩ ((o1+k:Nat):Int) x (str x) rfl 0 jo.out).mono ?_;rintro e W2 ⟨rfl,_,b2⟩;have ho2:=bz HO1.out b2;rw[show zQ W2 w0.heap.size _ (zY d.now a k)=W2.ownsRow w0.heap.size 9 1 _ (zY d.now a k).length (yA (zY d.now a k))from rfl]at ho2;have qC:=QH (qV.out.trans (b2.mono qV.out.size));have hown2:=ho2.alloc (.cells #[.string (str x)] 9);have hnews:=fW W2 9 (.string (str x));have uX:=QH hown2;have bH:=QH hnews;have qZ:=QH (qC.out.alloc qC.out.size (.cells #[.string (str x)] 9));clear b2 ho2 hown2 hnews HO HO1;have hkb:k≤1000:=by omega
   go_wp2_with (at_builtin;refine wpList_append_own _ rfl (.tmp 28) (.tmp 30) 43 rfl w0.heap.size 9 i0 (.string ByteArray.empty) 1 16 underlying43 hi hz0 hz1 hz2 rfl (by decide) _ (zY d.now a k).length _ rfl uX.out ⟨W2.heap.size,0,none⟩ 1 1 [.string (str x)] rfl rfl bH.out (fun u hu=>by simp at hu;subst hu;rfl) ?_ ?_ qZ.out.size ?_)
   ·rw[bF.out];unfold maxLen;omega
   ·rw[bF.out];omega
   ·intro v' w1 hown1 hgrow _;have hb1:=qZ.out.grown hgrow qZ.out.size (fun j hj=>(uX.out.lt j hj).1);have hos:zQ w1 w0.heap.size v' (zY d.now a k++[x]):=by
     unfold zQ;rw[fO,List.length_append];rw[bF.out];first|exact hown1|(rw[bF.out]at hown1;exact hown1)
    have HOS:=QH hos;have x9:=QH hb1;clear hb1 hos hown1 hgrow;go_wp2_with fail;go_roundw;case rel=>exact⟨k+1,by omega,by go_num,by rw[kX.out];exact HOS.out,x9.out⟩
    case measure=>simp[intOf];omega
  ·obtain rfl:k=c:=by omega
   obtain⟨A,cc,rfl,_,_,hsa,_,_⟩:=HO.out.view;have dz:=mV d.now a k;have HSA:=QH hsa;have iJ:=HT.out.below kJ.out hg;have dK:=QH iJ;clear hsa iJ;have hres:=xB.out;unfold aj at hres;have dw:(zY d.now a k).flatten.length≤100000:=by
    rw[wG _ (fun i hi=>by simp only[zY,List.getElem_map,List.getElem_range];exact H32.out i),dz];omega
   have HFL:=QH dw;clear dw;generalize zY d.now a k=ps at *;have HLP:=QH dz;by_cases hx:∃t,vT ps t
   ·obtain⟨t,htx⟩:=hx;have hun:unB ps=some t:=by
     have hx:∃u,vT ps u:=⟨t,htx⟩;unfold unB;rw[dif_pos hx];exact congrArg some (oX _ _ _ hx.choose_spec htx)
    rw[hun]at hres;have HR:=QH (show bP t=res from hres);have HTX:=QH htx;clear hres hun htx dz;go_wp2_with fail;refine(mM A cc ps t _ HSA.out HTX.out dK.out).mono ?_;rintro e W3 ⟨rfl,b3⟩;have qZ:=QH (kJ.out.trans (b3.mono kJ.out.size));clear b3;go_wp2_with fail;refine(jh (str t) _ (by rw[qT];have:=HTX.out.1;omega)).mono ?_;rintro e W4 ⟨b4,hq⟩;rw[zh,HR.out]at hq;have x9:=QH (qZ.out.trans (b4.mono qZ.out.size));clear b4;cases res with
    | some l =>
     obtain⟨A2,c2,rfl,hw⟩:=hq;have HW:=QH hw;clear hw;go_wp2_with fail;go_ret2;exact⟨x9.out,_,_,rfl,HW.out⟩
    | none =>
     obtain⟨A2,n2,c2,rfl⟩:=hq;go_wp2_with fail;go_ret2;exact⟨x9.out,_,_,_,rfl⟩
   ·have hun:unB ps=none:=by
       unfold unB;rw[dif_neg hx]
    rw[hun]at hres;have q07:none=res:=hres;subst q07;have HX:=QH hx;clear hres hun hx dz;go_wp2_with fail;refine(mN A cc ps _ HSA.out (by have:=HLP.out;omega) HFL.out (fun t ht=>HX.out ⟨t,ht⟩) dK.out).mono ?_;rintro e W3 ⟨rfl,b3⟩;have qZ:=QH (kJ.out.trans (b3.mono kJ.out.size));clear b3;go_wp2_with fail;go_ret2;exact⟨qZ.out,_,_,_,rfl⟩
def qrQ (N:Nat)(l:List Wr)(w:World)(i:Value)(wr:World):Prop :=
 ∃k:Nat,k≤l.length∧i=.int .i64 (k:Int)∧yy wr w.heap.size (found [] (l.take k))∧(l.take k).all (okW N)=true∧Below w.heap.size w wr
theorem qgF(l:List Wr)(k:Nat)(h:k<l.length):found [] (l.take (k+1))=ya (found [] (l.take k)) l[k].1:=by
 rw[List.take_succ_eq_append_getElem h];unfold found;rw[List.foldl_append];rfl
theorem qdT{w wr:World}(h:Below w.heap.size w wr)(n:Nat):Below w.heap.size w (wr.drewN n):=⟨h.os,h.tape,h.output,h.size,h.block⟩
theorem qdU{most:Nat}{w:World}{own:Nat→Prop}{p:Nat}{d:DD}(h:zA most w own p d)(a:Option Addr)(c:Nat)(l:List Wr)(hT:vd w a l)(hl:l.length≤1000000) :
    Calls prog 86 #[.pointer (some ⟨p,0,none⟩),.slice a l.length c] w (okB (vU d.n l) w):=by
 obtain⟨h0,m,v,hd⟩:=h;have HD:=QH hd;have HN:=QH h0.n1;have HT:=QH hT;have hmm:=@run_makeMap prog;clear h0 hd hT;go_enter func86,ntmps86;go_wp2_with fail;clear hmm;go_loopw [11] (fun i wr=>qrQ d.n l w i wr) (fun i _=>l.length-(intOf i).toNat);case atStart=>exact⟨0,Nat.zero_le _,rfl,yy.made w,rfl,(Below.refl _ w).alloc (Nat.le_refl _) _⟩
 case round =>
  obtain⟨k,hk,rfl,hs,hall,hB⟩:=hrel;have HS:=QH hs;have HB:=QH hB;have HA:=QH hall;clear hs hB hall;by_cases hlt:k<l.length
  ·obtain⟨b,o,rfl,hb,q0,q1,qb⟩:=HT.out k hlt;have hfs:=qgF l k hlt;have q08:(l.take (k+1)).all (okW d.n)=((l.take k).all (okW d.n)&&okW d.n l[k]):=by rw[List.take_succ_eq_append_getElem hlt,List.all_append,List.all_cons,List.all_nil,Bool.and_true]
   have hin:okW d.n l[k]=false→vU d.n l=false:=fun hh=>by
    unfold vU;rw[Bool.and_eq_false_iff]
    left
    rw[List.all_eq_false];exact⟨l[k],List.getElem_mem hlt,by rw[hh];simp⟩
   generalize hxx:l[k]=x at *;have e0:wr.cell? ⟨b,o+k*2,none⟩=some (.int .i64 x.1):=by rw[HB.out.cell (p:=⟨b,o+k*2,none⟩) hb];exact q0
   have e1:wr.cell? ⟨b,o+k*2+1,none⟩=some (.string (str x.2)):=by rw[HB.out.cell (p:=⟨b,o+k*2+1,none⟩) hb];exact q1
   have hb2:b<wr.heap.size:=Nat.lt_of_lt_of_le hb HB.out.size;have ra:(k:Int)<(l.length:Int):=by omega
   have HF:=QH hfs;have HAS:=QH q08;have HIN:=QH hin;have HQB:=QH qb;clear q0 q1 hfs q08 hin qb hxx;have d0:wr.cell? ⟨p,0,none⟩=some (.int .i64 (d.n:Int)):=by rw[HB.out.cell (p:=⟨p,0,none⟩) HD.out.1.lt];exact HD.out.1.cell 0
   have hpl:p<wr.heap.size:=Nat.lt_of_lt_of_le HD.out.1.lt HB.out.size;have hdw:∀n,uM ((wr.alloc (.cells #[.int .i64 x.1,.string (str x.2)] 182)).drewN n) own p m v d:=fun n=>by
    have hb':=qdT (HB.out.alloc HB.out.size (.cells #[.int .i64 x.1,.string (str x.2)] 182)) n;exact HD.out.keep hb'.size (fun j hj=>hb'.block j (HD.out.2.2.2.2.2.2 j hj))
   have dz:∀n,Calls prog 45 #[.pointer (some ⟨p,0,none⟩)] ((wr.alloc (.cells #[.int .i64 x.1,.string (str x.2)] 182)).drewN n) fun e w'=>e=.returned (.int .i64 (d.n:Int))∧w'=(wr.alloc (.cells #[.int .i64 x.1,.string (str x.2)] 182)).drewN n:=fun n=>(qbo (hdw n)).mono fun e w' g=>⟨g.1,g.2.symm⟩;have bF:=QH dz;clear hdw dz;by_cases c1:x.1<145
   ·have hf:=QH (HIN.out (by simp[okW];omega));go_wp2_with fail;go_quiet (fail);go_wp2_with fail;go_ret;exact⟨by rw[hf.out];rfl,qdT (HB.out.alloc HB.out.size _) _⟩
   ·have c1':decide (x.1<145)=false:=by simpa using c1
    by_cases c2:(d.n:Int)≤x.1
    ·have hf:=QH (HIN.out (by simp[okW];omega));go_wp2_with fail;go_quiet (first|(go_at_call 45;exact Calls.quiet_of_same (bF.out _)));go_wp2_with fail;go_ret;exact⟨by rw[hf.out];rfl,qdT (HB.out.alloc HB.out.size _) _⟩
    ·have c2':decide ((d.n:Int)≤x.1)=false:=by simpa using c2
     by_cases c3:x.2.length=32
     ·have c3':(((str x.2).size:Int) != 32)=false:=by rw[bne_eq_false_iff_eq,qT];omega
      have jV:okW d.n x=true:=by simp[okW];omega
      have HOK:=QH jV;clear jV;go_wp2_with fail;go_quiet (first|(go_at_call 45;exact Calls.quiet_of_same (bF.out _)));have hsw:yy ((wr.alloc (.cells #[.int .i64 x.1,.string (str x.2)] 182)).drewN nq) w.heap.size (found [] (l.take k)):=HS.out.of_block (Below.heap_alloc wr _ _ HS.out.lt);have HSW:=QH hsw;have kJ:=QH (qdT (HB.out.alloc HB.out.size (.cells #[.int .i64 x.1,.string (str x.2)] 182)) nq);have dw:(found [] (l.take k)).length<maxLen:=by
       have:=qj2 (l.take k) [];simp at this;unfold maxLen;omega
      have HFL:=QH dw;clear hsw dw;go_wp2_with (at_mapUpdate;refine wD rfl _ _ _ rfl rfl HSW.out x.1 rfl rfl HQB.out.1 HQB.out.2 HFL.out ?_;intro w2 hs2 cu;have uK:=QH hs2;have qC:=QH (yL cu);clear hs2 cu);go_roundw;case rel=>exact⟨k+1,by omega,by go_num,by rw[HF.out];exact uK.out,by rw[HAS.out,HA.out,HOK.out];rfl,kJ.out.trans (qC.out.below (fun i e=>by subst e;exact Nat.le_refl _) kJ.out.size)⟩
      case measure=>simp[intOf];omega
     ·have c3':(((str x.2).size:Int) != 32)=true:=by rw[bne_iff_ne,qT];omega
      have hf:=QH (HIN.out (by simp[okW];omega));go_wp2_with fail;go_quiet (first|(go_at_call 45;exact Calls.quiet_of_same (bF.out _)));go_wp2_with fail;go_ret;exact⟨by rw[hf.out];rfl,qdT (HB.out.alloc HB.out.size _) _⟩
  ·obtain rfl:k=l.length:=by omega
   have dz:=QH (HS.out);have hres:vU d.n l=((((found [] l).length:Int)) == (l.length:Int)):=by
    have ha:=HA.out;rw[List.take_length]at ha;unfold vU;rw[ha,Bool.true_and,Bool.eq_iff_iff];simp;omega
   have HR:=QH hres;clear hres;go_wp2_with (at_len;refine qf rfl (fk _ rfl rfl HS.out) ?_);go_ret;exact⟨by rw[HR.out];rfl,HB.out⟩
def qok:Prop:=∀(a c:Nat) (w:World),a<2→c≤72 →
 Calls prog 128 #[.agg #[.int .i64 (a:Int),.int .i64 (c:Int)]] w fun e w'=>e=.returned (.agg #[.int .i64 0,.string (str (kW a c))])∧Below w.heap.size w w'
def rk (r:Option (Nat × Nat))(w:World)(e:Ending)(w':World):Prop :=
 Below w.heap.size w w'∧match r with
  | some (a,c)=>e=.returned (.tuple #[.agg #[.int .i64 (a:Int),.int .i64 (c:Int)],.bool true])
  | none=>∃x y:Int,e=.returned (.tuple #[.agg #[.int .i64 x,.int .i64 y],.bool false])
def qol:Prop:=∀(most:Nat) (w:World) (own:Nat→Prop) (p:Nat) (d:DD),zA most w own p d→d.on=true→0<d.n →
 Calls prog 84 #[.pointer (some ⟨p,0,none⟩)] w (rk (dD (rd d.now 0)) w)
section
variable {most:Nat} {w:World} {own:Nat→Prop} {p:Nat} {d:DD}
theorem qdV{W:World}{A:Option Addr}{c:Nat}{l:List Wr}(h:vd W A l):qdO (W.alloc (.cells #[.slice A l.length c] 136)) (some ⟨W.heap.size,0,none⟩) [l]:=fun i hi=>by
 obtain rfl:i=0:=by simp at hi;exact hi
 exact⟨W.heap.size,0,A,c,rfl,by simp,(qg.new W _ _).cell 0,h.below ((Below.refl W.heap.size W).alloc (Nat.le_refl _) _) (Nat.le_refl _)⟩
theorem qdW{W:World}(k:Int)(x:Bt)(hk:qG k):vd (W.alloc (.cells #[.int .i64 k,.string (str x)] 182)) (some ⟨W.heap.size,0,none⟩) [(k,x)]:=fun i hi=>by
 obtain rfl:i=0:=by simp at hi;exact hi
 exact⟨W.heap.size,0,rfl,by simp,(qg.new W _ _).cell 0,(qg.new W _ _).cell 1,hk⟩
theorem qgG(HW:qok)(h:zA most w own p d)(hm:d.more.length+2≤most)(yZ:most≤100000) :
    Calls prog 117 #[.pointer (some ⟨p,0,none⟩)] w (xh most own p (uo d).2 (.int .i64 (uo d).1) w):=by
 have HD:=QH h;have HP:=QH (bA h);obtain⟨h0,m,v,hd⟩:=h;have HL:=QH (qbo hd);have hpl:=hd.1.lt;have HW':=QH HW;clear h0 hd HW;unfold uo;cases zS:d.on with
 | false =>
  rw[zS]at HP;rw[if_pos rfl];go_enter func117,ntmps117;go_wp2_with (go_at_call 83;refine HP.out.mono ?_;rintro e w' ⟨rfl,rfl⟩);go_ret;exact⟨rfl,own,HD.out,qz.refl _ _,ue.refl _ _⟩
 | true =>
  rw[zS]at HP;rw[if_neg (by simp)];by_cases hn:d.n≤145
  ·rw[if_pos hn];have hn':(d.n:Int)≤145:=by omega
   go_enter func117,ntmps117;go_wp2_with (first|(go_at_call 83;refine HP.out.mono ?_;rintro e w' ⟨rfl,rfl⟩)|(go_at_call 45;refine HL.out.mono ?_;rintro e w' ⟨rfl,rfl⟩));go_ret;exact⟨rfl,own,HD.out,qz.refl _ _,ue.refl _ _⟩
  ·rw[if_neg hn];have hn':¬ (d.n:Int)≤145:=by omega
   go_enter func117,ntmps117;go_wp2_with (first|(go_at_call 83;refine HP.out.mono ?_;rintro e w' ⟨rfl,rfl⟩)|(go_at_call 45;refine HL.out.mono ?_;rintro e w' ⟨rfl,rfl⟩));refine(HW'.out 0 0 _ (by decide) (by decide)).mono ?_;rintro e W1 ⟨rfl,b1⟩;have qV:=QH b1;clear b1;go_wp2_with fail;have hb2:Below w.heap.size w ((W1.alloc (.cells #[.int .i64 0,.string (str (kW 0 0))] 182)).alloc (.cells #[.slice (some ⟨W1.heap.size,0,none⟩) 1 1] 136)):=(zF qV.out _).alloc (zF qV.out _).size _;have hw1:=qdW (W:=W1) 0 (kW 0 0) (by unfold qG;omega);have hbs:=qdV (c:=1) hw1;have hsz:(W1.alloc (.cells #[.int .i64 0,.string (str (kW 0 0))] 182)).heap.size=W1.heap.size+1:=by simp
   rw[hsz]at hbs;have qC:=QH hb2;have HBS:=QH hbs;clear hw1 hbs hsz hb2;refine(aG p _ 1 [[(0,kW 0 0)]] _ (Nat.lt_of_lt_of_le hpl qC.out.size) HBS.out (by decide) (fun l hl=>by simp at hl;subst hl;decide)).mono ?_;rintro e W3 ⟨v,rfl,hg⟩;have HG:=QH hg;clear hg;go_wp2_with fail;refine(lD (HD.out.below qC.out) HG.out (by simpa[qH,jZ]using hm) yZ).mono ?_;rintro e W4 yc;have HPO:=QH (xh.from yc qC.out HD.out.low);obtain⟨rfl,_⟩:=yc;go_wp2_with fail;go_ret;exact HPO.out
end
end Go.Proofs.YtdagdllomphidaaGreatDoor.jr
namespace Go.Proofs.YtdagdllomphidaaGreatDoor.jr
open _root_.Go.Proofs.Tryz Go Go.RowKit dk wi
section
variable {most:Nat} {w:World} {own:Nat→Prop} {p:Nat} {d:DD}
theorem rp {r:Option (List Wr)}{w:World}{e:Ending}{w':World}(h:rj r w e w'):Below w.heap.size w w'∧((∃l A c,r=some l∧e=.returned (.tuple #[.slice A l.length c,.bool true])∧vd w' A l)∨(r=none∧∃A n c,e=.returned (.tuple #[.slice A n c,.bool false]))):=by
 obtain⟨h1,h2⟩:=h;refine⟨h1,?_⟩;cases r with
 | some l =>
  obtain⟨A,c,g1,g2⟩:=h2;exact .inl ⟨l,A,c,rfl,g1,g2⟩
 | none =>
  obtain⟨A,n,c,g⟩:=h2;exact .inr ⟨rfl,A,n,c,g⟩
theorem vg {r:Option (Nat × Nat)}{w:World}{e:Ending}{w':World}(h:rk r w e w'):Below w.heap.size w w'∧((∃a c:Nat,r=some (a,c)∧e=.returned (.tuple #[.agg #[.int .i64 (a:Int),.int .i64 (c:Int)],.bool true]))∨(r=none∧∃x y:Int,e=.returned (.tuple #[.agg #[.int .i64 x,.int .i64 y],.bool false]))):=by
 obtain⟨h1,h2⟩:=h;refine⟨h1,?_⟩;cases r with
 | some q =>
  obtain⟨a,c⟩:=q;exact .inl ⟨a,c,rfl,h2⟩
 | none =>
  obtain⟨x,y,g⟩:=h2;exact .inr ⟨rfl,x,y,g⟩
theorem xA {w':World}{r:Value}(h:zA most w own p d)(hb:Below w.heap.size w w'):xh most own p d r w (.returned r) w':=⟨rfl,own,h.below hb,qz.of_below hb,ue.refl _ _⟩
theorem qkn{t:Bt}{l:List Wr}(h:bP t=some l):l.length≤60:=by
 unfold bP at h;cases hn:rdNum t with
 | none=>rw[hn]at h;cases h
 | some q =>
  obtain⟨n,r⟩:=q;rw[hn]at h;dsimp only at h;split at h
  ·cases h
  ·rename_i hh;cases hr:l8 n r with
   | none=>rw[hr]at h;cases h
   | some q2 =>
    obtain⟨l2,r2⟩:=q2;have hl:=nP n r l2 r2 hr;rw[hr]at h;cases r2 with
    | nil =>
     simp at h;subst h;omega
    | cons=>cases h
theorem qko{s:qB}{a c:Nat}{l:List Wr}(h:aj s a c=some l):l.length≤60:=by
 unfold aj at h;cases hu:unB (zY s a c)with
 | none=>rw[hu]at h;cases h
 | some t=>rw[hu]at h;exact qkn h
theorem tE (HR:qol)(h:zA most w own p d)(hn:145<d.n)(ht:xL w)(hm:d.more.length+100≤most)(yZ:most≤100000) :
    Calls prog 41 #[.pointer (some ⟨p,0,none⟩)] w (xh most own p (xm d).2 (.int .i64 (xm d).1) w):=by
 have HD:=QH h;have HP:=QH (bA h);have hpl:p<w.heap.size:=by obtain⟨_,_,_,hd⟩:=h;exact hd.1.lt
 have HT:=QH ht;have hg:=ht.1;have HH:=QH HR;clear ht HR h;obtain⟨R,hR⟩:=QE (xm d);rw[hR];unfold xm at hR;cases zS:d.on with
 | false =>
  rw[zS]at HP;rw[if_pos zS]at hR;subst hR;go_enter func41,ntmps41;go_wp2_with (go_at_call 83;refine HP.out.mono ?_;rintro e w' ⟨rfl,rfl⟩);go_ret;exact xA HD.out (Below.refl _ _)
 | true =>
  rw[zS]at HP;rw[if_neg (by rw[zS];simp)]at hR;have iD:=QH hR;have HON:=QH zS;clear hR zS;go_enter func41,ntmps41;go_wp2_with (go_at_call 83;refine HP.out.mono ?_;rintro e w' ⟨rfl,rfl⟩);refine(HH.out most w own p d HD.out HON.out (by omega)).mono ?_;intro e W1 yc;obtain⟨b1,⟨a,c,hq,rfl⟩|⟨hq,x,y,rfl⟩⟩:=vg yc
  ·have vw:=iD.out;rw[hq]at vw;dsimp only at vw;obtain⟨ha,hc,_⟩:=uv hq;have qV:=QH b1;clear b1 yc hq iD;by_cases hc0:c=0
   ·subst hc0;rw[if_pos rfl]at vw;subst vw;go_wp2_with fail;go_ret;exact xA HD.out (zF qV.out _)
   ·rw[if_neg hc0]at vw;have zcI:((c:Int) == 0)=false:=by simpa using hc0
    have hkb:qg (W1.alloc (.cells #[.int .i64 (a:Int),.int .i64 (c:Int)] 149)) W1.heap.size _ _:=qg.new W1 _ _;have qC:=QH (zF qV.out (.cells #[.int .i64 (a:Int),.int .i64 (c:Int)] 149));have iD:=QH vw;clear vw hkb;go_wp2_with fail;refine(qgE (HD.out.below qC.out) HON.out hn a c ha hc (HT.out.below qC.out hg)).mono ?_;intro e W3 yc;obtain⟨b3,⟨l,A,c3,hq,rfl,hw⟩|⟨hq,A,n3,c3,rfl⟩⟩:=rp yc
    ·have vw:=iD.out;rw[hq]at vw;dsimp only at vw;have qwz:=qko hq;have qZ:=QH (qc qC.out b3);have HW:=QH hw;clear yc b3 hw hq iD;have my:=QH (qdU (HD.out.below qZ.out) A c3 l HW.out (by omega));cases hps:vU d.n l with
     | false =>
      rw[hps]at my vw;rw[if_pos rfl]at vw;subst vw;go_wp2_with (go_at_call 86;refine my.out.mono ?_;rintro e w' ⟨rfl,b4⟩);go_wp2_with fail;go_ret;exact xA HD.out (qc qZ.out b4)
     | true =>
      rw[hps]at my vw;rw[if_neg (by simp)]at vw;have iD:=QH vw;clear vw;go_wp2_with (go_at_call 86;refine my.out.mono ?_);rintro e W4 ⟨rfl,b4⟩;have x9:=QH (qc qZ.out b4);have HW4:=QH (HW.out.below b4 (Nat.le_refl _));clear b4 HW;go_wp2_with fail;have HBS:=QH (qdV (c:=c3) HW4.out);have jX:=QH (zF x9.out (.cells #[.slice A l.length c3] 136));refine(aG p _ 1 [l] _ (Nat.lt_of_lt_of_le hpl jX.out.size) HBS.out (by simp) (fun m hm2=>by simp at hm2;subst hm2;omega)).mono ?_;rintro e W5 ⟨v,rfl,hgg⟩;have HG:=QH hgg;clear hgg;go_wp2_with fail;refine(lD (HD.out.below jX.out) HG.out (by simp[qH,jZ];omega) yZ).mono ?_;rintro e W6 yc;have HPO:=QH (xh.from yc jX.out HD.out.low);obtain⟨rfl,_⟩:=yc;rw[iD.out]at HPO ⊢;go_wp2_with fail;go_ret;exact HPO.out
    ·have vw:=iD.out;rw[hq]at vw;dsimp only at vw;subst vw;have qZ:=QH (qc qC.out b3);clear yc b3 hq iD;go_wp2_with fail;go_ret;exact xA HD.out qZ.out
  ·have vw:=iD.out;rw[hq]at vw;dsimp only at vw;subst vw;have qV:=QH b1;clear b1 yc hq iD;go_wp2_with fail;go_ret;exact xA HD.out (zF qV.out _)
end
end Go.Proofs.YtdagdllomphidaaGreatDoor.jr
namespace Go.Proofs.YtdagdllomphidaaGreatDoor.vt.pg
open _root_.Go.Proofs.Tryz Go Go.RowKit Go.Sort ib mt im sp
theorem qrR:prog.follows .mixedOrders=true:=by kernel_rfl
theorem qbN{N:Nat}{t:Tg}{d:DD}(h:jr.JJ N t d)(k:Int)(h0:145≤k)(h1:k<(N:Int)):d.read k=(t k,0):=by
 have hn:d.n=N:=h.rb.1;have qnf:d.now=d.base:=by unfold dk.DD.now;rw[h.more];rfl
 unfold dk.DD.read;have:d.has k=true:=by
  unfold dk.DD.has;rw[hn];simp;omega
 rw[if_neg (by rw[h.on];simp),if_neg (by rw[this];simp),qnf];exact congrArg (fun x=>(x,(0:Int))) (h.is k h0)
theorem lF {w:World}{o:Nat→Prop}{pd:Nat}{d:DD}(h:dk.zA 1000 w o pd d)(k:Int):Calls prog 89 #[pt pd,.int .i64 k] w (dk.wC (d.read k) w):=by
 obtain⟨h0,m,v,h1⟩:=h;unfold dk.DD.read;by_cases zS:d.on=false
 ·rw[if_pos zS];exact dk.qde h1 zS k
 ·rw[if_neg zS];by_cases hh:d.has k=false
  ·rw[if_pos hh];exact dk.qdf h1 (by simpa using zS) k hh
  ·rw[if_neg hh];exact dk.qhR h0 h1 (by simpa using zS) k (by simpa using hh)
theorem ia {w:World}{o:Nat→Prop}{pd:Nat}{d:DD}(h:dk.zA 1000 w o pd d):Calls prog 45 #[pt pd] w fun e w'=>e=.returned (.int .i64 (d.n:Int))∧w=w':=by
 obtain⟨h0,m,v,h1⟩:=h;exact dk.qbo h1
theorem qim{w:World}{o:Nat→Prop}{pd:Nat}{d:DD}(h:dk.zA 1000 w o pd d):Calls prog 99 #[pt pd] w fun e w'=>e=.returned (.bool d.on)∧w=w':=by
 obtain⟨h0,m,v,h1⟩:=h;exact dk.qmR h1
section
variable {o1 o2:Nat→Prop} {w:World} {v pd N:Nat} {d:DD} {m:Mt} {l:Bool} {t:Tg}
theorem qin(h:VP jL w o1 o2 v pd d m l):v<w.heap.size∧w.cell? ⟨v,9,none⟩=some (pt pd)∧w.cell? ⟨v,10,none⟩=some (.bool l):=by
 obtain⟨A0,A1,A2,c0,c1,c2,h1⟩:=h.is;exact⟨h1.cells.lt,h1.cells.k9,h1.cells.cV⟩
theorem qkp(h:VP jL w o1 o2 v pd d m l)(hJ:jr.JJ N t d)(x:Wr)(h0:145≤x.1)(h1:x.1<(N:Int)):Calls prog 106 #[pt v,.agg #[.int .i64 x.1,.string (str x.2)]] w (dP (decide (t x.1=x.2)) w):=by
 obtain⟨xk,xs⟩:=x;dsimp only at h0 h1 ⊢;have hb1:=(Below.refl _ w).alloc (Nat.le_refl _) (.cells #[.int .i64 xk,.string (str xs)] 182);have zO:=qg.new w 182 #[.int .i64 xk,.string (str xs)];obtain⟨W,hW⟩:=QE (w.alloc (.cells #[.int .i64 xk,.string (str xs)] 182));rw[hW]at hb1 zO;have h2:=qX h hb1;have wM:=qbN hJ xk h0 h1;obtain⟨q1,q2,q3⟩:=qin h2;have p0:=zO.cell 0;have p1:=zO.cell 1;have hpl:=zO.lt;simp only[QA,QB,QC]at p0 p1;have e0:=fun d os=>cell_regrown p0 d os;have e1:=fun d os=>cell_regrown p1 d os;have e2:=fun d os=>cell_regrown q2 d os;have cR:∀b os,Calls prog 89 #[pt pd,.int .i64 xk] (grow (redrawn W b) os) fun e w''=>e=.returned (.tuple #[.string (str (t xk)),.int .i64 0])∧∃q:Regrown,w''=grow (redrawn W q.d) q.os :=
  fun b os=>by
   have:=lF (qX h2 (below_regrown W b os)).dk xk;rw[wM]at this;exact Calls.regrown_of this
 have hq:((str (t xk)).toList == (str xs).toList)=decide (t xk=xs):=by
  have h:=iM (str (t xk)) xs;rw[zh]at h;exact h
 have qV:=QH hb1;obtain⟨r,hr⟩:=QE (decide (t xk=xs));rw[hr]at hq ⊢;obtain⟨S1,hS1⟩:=QE (str (t xk));obtain⟨S2,hS2⟩:=QE (str xs);rw[hS1]at hq cR;rw[hS2]at hq hW p1 e1 ⊢;have HK:=QH p1;have HPL:=QH hpl;clear h hb1 zO h2 wM hr hS1 hS2 p0 p1 q2 q3;go_enter func106,ntmps106;go_upto_region 1 with fail;try rw[hW]
 clear hW;refine wp_region_quiet_below qrR (by kernel_rfl) ?_;repeat (any_goals (first|go_big_quiet_step (first|exact cR _ _)|quiet_step (first|exact cR _ _)))
 refine wpQuiet_nil ?_;intro _ hw';obtain⟨⟨dq,osq⟩,hw''⟩:=hw';subst hw'';have p1:=e1 dq osq;have hb:=below_regrown W dq osq;have qC:=QH (qc qV.out hb);have hpl:=Nat.lt_of_lt_of_le HPL.out hb.size;clear hb e0 e1 e2 cR qV HK HPL q1;generalize grow (redrawn W dq) osq=W3 at *;cases r;all_goals
  go_wp2_with fail;go_ret;exact⟨rfl,qC.out⟩
theorem jS (h:VP jL w o1 o2 v pd d m false)(zS:d.on=true):Calls prog 52 #[pt v] w fun e w'=>e=.returned (.int .i64 0)∧w=w':=by
 obtain⟨q1,q2,q3⟩:=qin h;have HO:=QH (qim h.dk);rw[zS]at HO;clear h;go_enter func52,ntmps52;go_wp2_with fail;refine HO.out.mono ?_;rintro e W1 ⟨rfl,rfl⟩;go_wp2_with fail;go_ret;exact⟨rfl,rfl⟩
theorem q09(h:VP jL w o1 o2 v pd d m l):VP jL (w.setCell ⟨v,10,none⟩ (.bool true)) o1 o2 v pd d m true∧ib.qz (fun j=>j=v) w (w.setCell ⟨v,10,none⟩ (.bool true)):=by
 obtain⟨A0,A1,A2,c0,c1,c2,h1⟩:=h.is;have hb:=qic w v 10 (.bool true);refine⟨⟨⟨A0,A1,A2,c0,c1,c2,?_⟩,h.dk.keep hb.size (fun j hj=>hb.block j (cU h.dk j hj) (fun e=>?_)),h.dj⟩,hb⟩
 ·refine⟨by have:=h1.blk.ql 10 (.bool true);simpa[vC]using this,h1.tab.stay (wN fun j hj=>hj.2),h1.sz,?_,h1.own,fun j hj=>Nat.lt_of_lt_of_le (h1.low j hj) hb.size,h1.gv,h1.tk⟩;exact wK h1.ct hb.size (qD _ _ _ _ _ h1.gv)
 ·have:=h.dj v (.inl h1.own);rw[e]at hj;exact this hj
theorem bB (h:VP jL w o1 o2 v pd d m l)(hl:l=true∨d.on=false):Calls prog 52 #[pt v] w fun e w'=>e=.returned (.int .i64 6)∧VP jL w' o1 o2 v pd d m true∧ib.qz (fun j=>j=v) w w':=by
 obtain⟨q1,q2,q3⟩:=qin h;have HO:=QH (qim h.dk);have HL:=QH (q09 h);have hf:w.frozen? ⟨v,10,none⟩=false:=by
  obtain⟨A0,A1,A2,c0,c1,c2,h1⟩:=h.is;exact h1.blk.frozen 10
 clear h;cases l with
 | true =>
  go_enter func52,ntmps52;go_wp2_with fail;go_ret;exact⟨rfl,HL.out.1,HL.out.2⟩
 | false =>
  have zS:d.on=false:=by simpa using hl
  rw[zS]at HO;clear hl zS;go_enter func52,ntmps52;go_wp2_with fail;refine HO.out.mono ?_;rintro e W1 ⟨rfl,rfl⟩;go_wp2_with fail;go_ret;exact⟨rfl,HL.out.1,HL.out.2⟩
end
theorem yh (w:World):Calls prog 52 #[.pointer none] w fun e w'=>e=.returned (.int .i64 1)∧w=w':=by
 go_enter func52,ntmps52;go_wp2_with fail;go_ret;exact⟨rfl,rfl⟩
theorem qom(l:List UInt8)(c:UInt8):Lib.trimB l c=[] ↔ ∀b∈l,b=c:=by
 have key:∀L:List UInt8,L.dropWhile (· == c)=[] ↔ ∀b∈L,b=c:=by
  intro L
  induction L with
  | nil=>simp
  | cons x r ih =>
   by_cases hx:x=c
   ·subst hx;simp[List.dropWhile_cons,ih]
   ·have:(x == c)=false:=by simpa using hx
    rw[List.dropWhile_cons,this];simp[hx]
 have q6u:∀L:List UInt8,(∀b∈L.dropWhile (· == c),b=c)→∀b∈L,b=c:=by
  intro L
  induction L with
  | nil=>simp
  | cons x r ih =>
   intro h;by_cases hx:x=c
   ·subst hx;simp only[List.dropWhile_cons,BEq.rfl,if_true]at h;intro b hb;rcases List.mem_cons.1 hb with rfl|hb
    ·rfl
    ·exact ih h b hb
   ·have:(x == c)=false:=by simpa using hx
    rw[List.dropWhile_cons,this]at h;exact fun b hb=>h b hb
 unfold Lib.trimB Lib.trimLeftB Lib.trimRightB;rw[key];constructor
 ·intro h b hb;exact q6u l.reverse (fun b hb=>h b (by simpa using hb)) b (by simpa using hb)
 ·intro h b hb;have hb:b∈l.reverse.dropWhile (· == c):=by simpa using hb
  exact h b (by simpa using(List.dropWhile_suffix (fun x=>x == c)).mem hb)
theorem qw0(s:Bt)(hs:s.length=32):s=zb ↔ ∀b∈s,b=0:=by
 constructor
 ·rintro rfl b hb;exact List.eq_of_mem_replicate hb
 ·intro h;exact List.eq_replicate_iff.2 ⟨hs,h⟩
theorem mW (s:Bt)(hs:s.length=32)(w:World):Calls prog 101 #[.string (str s)] w (dP (decide (s=zb)) w):=by
 have ht:=Tryz.strings_Trim_one (str s) 0 (by decide) w (by rw[qT];omega);have hd:(⟨(Lib.trimB (str s).data.toList 0).toArray⟩:ByteArray).toList.isEmpty=decide (s=zb):=by
  have h:=iM (⟨(Lib.trimB (str s).data.toList 0).toArray⟩:ByteArray) [];have h0:(str []).toList=[]:=by first|rfl|(simp[str];done)|decide +kernel
  have e:∀L:List UInt8,L.isEmpty=(L == []):=fun L=>by cases L <;> rfl
  rw[h0]at h;rw[e,h,Bool.eq_iff_iff];simp only[decide_eq_true_eq];rw[qw0 s hs,← qom];show Lib.trimB (bl (str s)) 0=[]↔_;rw[zh]
 have HT:=QH ht;obtain⟨r,hr⟩:=QE (decide (s=zb));rw[hr]at hd ⊢;obtain⟨S,hS⟩:=QE (⟨(Lib.trimB (str s).data.toList 0).toArray⟩:ByteArray);rw[hS]at HT hd;clear ht hS hr;go_enter func101,ntmps101;go_wp2_with fail;refine HT.out.mono ?_;rintro e W1 ⟨rfl,hw⟩;have HB:Hid (Below w.heap.size w W1):=by
  rcases hw with rfl|rfl
  ·exact Below.refl _ _
  ·exact(Below.refl _ _).drew
 clear hw HT;go_wp2_with fail;go_ret;exact⟨rfl,HB.out⟩
end Go.Proofs.YtdagdllomphidaaGreatDoor.vt.pg
namespace Go.Proofs.YtdagdllomphidaaGreatDoor.vt.pg
open _root_.Go.Proofs.Tryz Go Go.RowKit ib mt im sp
theorem qw1:(prog.info? 9).map (fun i=>(i.zero,i.size,i.bytes))=some (some (.string ByteArray.empty),1,16):=by kernel_rfl
def TxR (w:World)(ps:List Bt)(v i:Value)(wr:World):Prop:=∃k:Nat,k<ps.length∧i=.int .i64 (k:Int)∧zQ wr w.heap.size v (ps.take k)∧Below w.heap.size w wr
theorem qkq(u:Bt)(hu:u.length≤8192)(k:Nat):((qP u).take k).flatten.length≤100000:=by
 have h2:(qP u).flatten=((qP u).take k).flatten++((qP u).drop k).flatten:=by rw[← List.flatten_append,List.take_append_drop]
 have h3:=congrArg List.length h2;rw[yS,jk,List.length_append]at h3;unfold nsec at h3;omega
theorem qgH{o:Nat→Prop}{w:World}{pd N:Nat}{d:DD}{t:Tg}{u:Bt}(h:dk.zA 1000 w o pd d)(iJ:xL w)(hJ:jr.JJ N t d)(hN:193≤N)(hu:u.length≤8192)(hn:(qP u).length≤48)(home:∀i (h:i<(qP u).length),t ((145+i:Nat):Int)=(qP u)[i]) :
    Calls prog 42 #[pt pd] w (qtS (str u) w):=by
 obtain⟨i0,hi,hz0,hz1,hz2⟩:=info_parts qw1;have qw2:0<(qP u).length:=by rw[yb];exact fz _
 have q0A:=QH qw2;have HD:=QH h;have HT:=QH iJ;have HJ:=QH hJ;have HN:=QH hn;have HNN:=QH hN;have HU:=QH hu;have q0B:=QH home;have vr:=QH (fun k (hk:k<(qP u).length) v=>qd2 u v hu k hk);have HFL:=QH (qkq u hu);have HIT:Hid (vT (qP u) u):=⟨hu,rfl⟩;obtain⟨ps,hps⟩:=QE (qP u);rw[hps]at q0A HN q0B vr HFL HIT;clear h iJ hJ hn hN home qw2 hps hu;go_enter func42,ntmps42;go_wp2_with fail;go_loopw [4,10] (fun v i wr=>TxR w ps v i wr) (fun _ i _=>ps.length-(intOf i).toNat);case atStart=>exact⟨0,q0A.out,rfl,World.ownsRow_nil _ _ _ _,Below.refl _ _⟩
 case round =>
  obtain⟨k,hk,rfl,ho,hB⟩:=hrel;have HO:=QH ho;have HB:=QH hB;have h48:(k:Int)<48:=by have:=HN.out;omega
  have wM:=lF (HD.out.below hB) ((145:Int)+(k:Int));rw[qbN HJ.out ((145:Int)+(k:Int)) (by omega) (by have:=HNN.out;omega)]at wM;have ht:t ((145:Int)+(k:Int))=ps[k]:=by
   have:=q0B.out k hk;rw[← this]
   congr 1
  rw[ht]at wM;have xF:=QH wM;have kX:Hid (ps.take (k+1)=ps.take k++[ps[k]]):=List.take_succ_eq_append_getElem hk;have bF:Hid ((ps.take k).length=k):=by unfold Hid;rw[List.length_take];omega
  obtain⟨x,hx⟩:=QE (ps[k]);rw[hx]at xF kX;have HK:=QH hk;clear ho hB wM ht hx hk;go_wp2_with fail;refine xF.out.mono ?_;rintro e W2 ⟨rfl,hb2⟩;have qC:=QH (qc HB.out hb2);have uX:=QH (bz HO.out hb2);clear hb2 xF HO;have hby:=(Below.refl _ W2).alloc (Nat.le_refl _) (.cells #[.string (str x)] 9);have sM:Hid (World.ownsRow (W2.alloc (.cells #[.string (str x)] 9)) w.heap.size 9 1 _ (ps.take k).length (yA (ps.take k))):=zX uX.out (fun j hj=>hby.block j (uX.out.lt j hj).2);have qZ:=QH (qc qC.out hby);have bH:Hid (∀j u,([.string (str x)]:List Value)[j]?=some u→(W2.alloc (.cells #[.string (str x)] 9)).cell? ((⟨W2.heap.size,0,none⟩:Addr).add j)=some u):=fun j u hu=>by
   rw[addr_add,Nat.zero_add,(qg.new W2 9 #[.string (str x)]).cell j];simpa using hu
  have e1:∀u∈([.string (str x)]:List Value),u.oneCell'=true:=by intro u hu;simp at hu;subst hu;rfl
  have E1:=QH e1;have E2:Hid ((ps.take k).length+1≤maxLen):=by unfold Hid;rw[bF.out];unfold maxLen;omega
  have E3:Hid (((ps.take k).length+1)*16≤140737488355328):=by unfold Hid;rw[bF.out];omega
  obtain⟨Lw,hLw⟩:=QE (ps.take k);rw[hLw]at sM kX E2 E3 bF;clear hby e1 hLw uX;go_wp2_with (at_builtin;refine xt rfl (.tmp 23) (.tmp 25) 43 rfl w.heap.size 9 i0 (.string ByteArray.empty) 1 16 underlying43 hi hz0 hz1 hz2 rfl (by decide) _ _ _ rfl sM.out ⟨W2.heap.size,0,none⟩ 1 1 [.string (str x)] rfl rfl bH.out E1.out E2.out E3.out qZ.out.size ?_);intro v' w1 hown hgrow _;have x9:Hid (Below w.heap.size w w1):=qZ.out.grown hgrow qZ.out.size (fun j hj=>(sM.out.lt j hj).1);have HO4:Hid (zQ w1 w.heap.size v' (ps.take (k+1))):=by
   rw[kX.out];refine qaz bF.out ?_;rw[bF.out]at hown;exact hown
  obtain⟨A4,c4,hv4,hs4⟩:=HO4.out.view;subst hv4;have HS4:=QH hs4.2.2.1;have iJ:=xi HT.out x9.out (zP HT.out);have dK:=QH iJ;have HL4:Hid ((ps.take (k+1)).length=k+1):=by unfold Hid;rw[List.length_take];have:=HK.out;omega
  clear hown hgrow hs4 iJ sM bH E1 E2 E3;by_cases w6:k+1<ps.length
  ·have hup:=mN A4 c4 (ps.take (k+1)) w1 HS4.out (by rw[HL4.out];omega) (HFL.out (k+1)) (fun v=>vr.out (k+1) w6 v) dK.out;have HUP:=QH hup;have HLT:=QH w6;have hfo:((4:Int) == 0)=false:=rfl;clear hup w6;generalize (ps.take (k+1)).length=q at *;go_wp2_with fail;refine HUP.out.mono ?_;rintro e W5 ⟨rfl,hb5⟩;have jX:=QH (qc x9.out hb5);have HO5:=QH (bz HO4.out hb5);clear hb5 HUP;go_wp2_with fail;go_roundw;case rel=>exact⟨k+1,HLT.out,by go_num,HO5.out,jX.out⟩
   case measure=>simp[intOf];have:=HLT.out;omega
  ·have zO:k+1=ps.length:=by have:=HK.out;omega
   have wx:ps.take (k+1)=ps:=by rw[zO];exact List.take_length
   rw[wx]at HS4;have hup:=mM A4 c4 ps u w1 HS4.out HIT.out dK.out;have mL:(ps.take (k+1)).length=ps.length:=by rw[wx]
   rw[← mL]at hup;have HUP:=QH hup;clear hup w6 zO wx mL HO4;generalize (ps.take (k+1)).length=q at *;go_wp2_with fail;refine HUP.out.mono ?_;rintro e W5 ⟨rfl,hb5⟩;have jX:=QH (qc x9.out hb5);clear hb5 HUP;go_wp2_with fail;go_ret2;exact⟨rfl,jX.out⟩
end Go.Proofs.YtdagdllomphidaaGreatDoor.vt.pg
namespace Go.Proofs.YtdagdllomphidaaGreatDoor.sp
open _root_.Go.Proofs.Tryz Go Go.RowKit ib
def zH (cs:List Int):Array Value:=(cs.map (Value.int .i64)).toArray
theorem bC (cs:List Int)(i:Nat)(h:i<cs.length):(zH cs)[i]?=some (.int .i64 cs[i]):=by simp[zH,h]
theorem rq (cs:List Int)(i:Nat)(v:Int):(zH cs).setIfInBounds i (.int .i64 v)=zH (cs.set i v):=by
 unfold zH;rw[List.setIfInBounds_toArray,List.map_set]
theorem rr (n:Nat):madeCells #[.int .i64 0] n=zH (List.replicate n 0):=by
 apply Array.ext
 ·simp[size_madeCells,zH]
 ·intro j h1 h2;have e:(zH (List.replicate n 0))[j]?=some (.int .i64 0):=by
   have hj:j<n:=by simpa[zH]using h2
   rw[bC _ _ (by simpa using hj),List.getElem_replicate]
  rw[Array.getElem?_eq_getElem h2]at e;rw[Option.some.inj e];simp[madeCells,Nat.mod_one]
theorem wrap_i64(x:Int):qG (wrap64 x):=by unfold qG wrap64;omega
theorem qon{cs:List Int}(h:∀z∈cs,qG z)(k:Nat):∀z∈bump cs k,qG z:=by
 intro z hz;unfold bump at hz;rcases List.mem_or_eq_of_mem_set hz with h1|h1
 ·exact h z h1
 ·rw[h1];exact wrap_i64 _
theorem ic {n:Int}:∀ {l cs cs':List Int},kZ n cs l=some cs'→(∀z∈cs,qG z)→∀z∈cs',qG z
 | [],cs,cs',h,hz=>by
  simp only[kZ,Option.some.injEq]at h;rw[← h];exact hz
 | k::r,cs,cs',h,hz=>by
  rw[bq]at h;split at h
  ·exact ic h hz
  ·split at h
   ·cases h
   ·exact ic h (qon hz _)
theorem qa5(n:Nat):∀z∈List.replicate n (0:Int),qG z:=by
 intro z hz;rw[List.eq_of_mem_replicate hz];unfold qG;omega
theorem qg.ints{w:World}{g:Nat}{cs:List Int}(h:qg w g 3 (zH cs))(hz:∀z∈cs,qG z):qM w (some ⟨g,0,none⟩) cs:=fun i hi =>
 ⟨g,0,rfl,h.lt,by rw[Nat.zero_add,h.cell i];exact bC cs i hi,hz _ (List.getElem_mem hi)⟩
def okL (r:List Int × Int)(w:World)(e:Ending)(w':World):Prop :=
 ∃A cc,e=.returned (.tuple #[.slice A r.1.length cc,.int .i64 r.2])∧qM w' A r.1∧Below w.heap.size w w'∧(∀b o,A=some ⟨b,o,none⟩→w.heap.size≤b∧b<w'.heap.size)∧r.1.length≤cc
theorem ie {c:Int}{w w':World}(h:Below w.heap.size w w'):okL ([],c) w (.returned (.tuple #[.slice none 0 0,.int .i64 c])) w' :=
 ⟨none,0,rfl,qM.nil _ _,h,(fun _ _ h=>by cases h),Nat.le_refl _⟩
theorem qkr(n:Int)(h0:0≤n)(h:n≤1024)(W:World):(Instr.makeSlice 57 (.int .i64 n) (.int .i64 n)).run prog W=.ok (.slice (some ⟨W.heap.size,0,none⟩) n.toNat n.toNat) (W.alloc (.cells (zH (List.replicate n.toNat 0)) 3)):=by
 obtain⟨i0,hi,hz0,hz1,hz2⟩:=info_parts wY;have hmk:=run_make (P:=prog) W 57 3 i0 (.int .i64 0) underlying57 hi hz0 .i64 .i64 n n h0 (Int.le_refl _) (by rw[hz2];omega) (by omega);rw[hz1]at hmk;rw[← rr];simpa[Value.cells]using hmk
def qrS:Prop:=∀(A:Option Addr) (c:Nat) (vu:List (List Int)) (n:Int) (w:World),fN w A vu→vu.length≤9223372036854775807→qG n →
 Calls prog 102 #[.slice A vu.length c,.int .i64 n] w (okL (yU vu n) w)
def q0D:Prop:=∀(A:Option Addr) (c:Nat) (cs:List Int) (n:Int) (w:World),qM w A cs→cs.length*8≤140737488355328→qG n →
 Calls prog 104 #[.slice A cs.length c,.int .i64 n] w (okL (jl cs n) w)
def okI (r:Int)(w:World)(e:Ending)(w':World):Prop:=e=.returned (.int .i64 r)∧Below w.heap.size w w'
def q0E:Prop:=∀(A:Option Addr) (c:Nat) (cs:List Int) (w:World),qM w A cs→cs.length≤9223372036854775807 →
 Calls prog 162 #[.slice A cs.length c] w (okI (yn cs:Int) w)
theorem qM.some{w:World}{A:Option Addr}{cs:List Int}(h:qM w A cs)(h0:0<cs.length):∃b o,A=some ⟨b,o,none⟩∧b<w.heap.size:=by
 obtain⟨b,o,h1,h2,_⟩:=h 0 h0;exact⟨b,o,h1,h2⟩
end Go.Proofs.YtdagdllomphidaaGreatDoor.sp
namespace Go.Proofs.YtdagdllomphidaaGreatDoor.sp
open _root_.Go.Proofs.Tryz Go Go.RowKit Go.Shelf ib
attribute [local go_sem] Oper.semAt_some
abbrev I64:={ x:Int // qG x }
abbrev Plain(L:List (List I64)):List (List Int):=L.map fun l=>l.map fun x=>x.1
theorem qoo:∀(vu:List (List Int)),(∀l∈vu,∀z∈l,qG z)→∃L,Plain L=vu
 | [],_=>⟨[],rfl⟩
 | l::r,h=>by
  obtain⟨L,hL⟩:=qoo r (fun l' hl'=>h l' (List.mem_cons_of_mem _ hl'));obtain⟨l',hl'⟩:∃l':List I64,l'.map (fun x=>x.1)=l:=⟨l.attachWith qG (h l (by simp)),by simp[List.attachWith,List.map_pmap]⟩;refine⟨l'::L,?_⟩;show l'.map (fun x=>x.1)::Plain L=_;rw[hL,hl']
theorem ru {α:Type}(vu:List (List α))(k:Nat)(h:k<vu.length):(vu.take (k+1)).flatten=(vu.take k).flatten++vu[k]:=by
 rw[List.take_succ_eq_append_getElem h,List.flatten_append];simp
theorem qop{α:Type}(vu:List (List α))(k:Nat)(h:k<vu.length):(vu.take k).flatten++vu[k] <+: vu.flatten:=by
 rw[← ru vu k h];refine⟨(vu.drop (k+1)).flatten,?_⟩;rw[← List.flatten_append,List.take_append_drop]
theorem qkt{α:Type}(vu:List (List α))(k:Nat)(h:k<vu.length)(j:Nat)(hj:j<vu[k].length):(vu.take k).flatten++vu[k].take j++[vu[k][j]] <+: vu.flatten:=by
 refine List.IsPrefix.trans ?_ (qop vu k h);rw[List.append_assoc,← List.take_succ_eq_append_getElem hj];exact(List.prefix_append_right_inj _).2 (List.take_prefix _ _)
def qnY (n₀:Nat)(L:List (List I64))(J:List I64→World→Prop)(W:World)(i:Value)(wr:World):Prop :=
 ∃k:Nat,k≤L.length∧i=.int .i64 (k:Int)∧J (L.take k).flatten wr∧Below n₀ W wr
def qwq (n₀:Nat)(pre l:List I64)(J:List I64→World→Prop)(W:World)(i:Value)(wr:World):Prop :=
 ∃j:Nat,j≤l.length∧i=.int .i64 (j:Int)∧J (pre++l.take j) wr∧Below n₀ W wr
theorem qgI(F:Fence)(nn:Nat)(hF:F.fn 199)(hro:F.round=none)(hn:1≤nn)(l Bs:Nat)(A:Option Addr)(c:Nat)(L:List (List I64))(w0:World)(J Jx:List I64→World→Prop)
    (hA:fN w0 A (Plain L)) (hL:L.length≤9223372036854775807)
    (hY:∀pre x W,J pre W→pre.length<L.flatten.length→YieldAt F (nn-1) prog l #[.int .i64 x.1] W fun e W' =>
     (e=.returned (.bool true)∧J (pre++[x]) W'∧Below w0.heap.size W W')∨(e=.returned (.bool false)∧Jx (pre++[x]) W'))
    (W:World) (hb:Below w0.heap.size w0 W) (hBs:W.cell? ⟨Bs,0,none⟩=some (.slice A L.length c)) (h0:J [] W) :
    CallsIn F nn prog 199 #[.func (.yield l) #[] #[],.pointer (some ⟨Bs,0,none⟩)] W fun e W'=>(∃v,e=.returned v) ∧
     ((∃ys,ys=L.flatten∧J ys W')∨(∃pre,pre <+: L.flatten∧Jx pre W')):=by
 have HA:=QH hA;have HY:=QH hY;have HB:=QH hb;have HJ:=QH h0;clear hA hY hb h0;refine callsIn_of_wp func199 rfl hF ?_ hro;simp only[ntmps199,List.size_toArray,List.length_cons,List.length_nil,Nat.reduceAdd,Nat.reduceSub,Array.replicate_succ,Array.replicate_zero,List.push_toArray,List.append_toArray,List.nil_append,List.cons_append]
 gi_wp2
 gi_loopw [9] (fun i wr=>qnY w0.heap.size L J W i wr) (fun i _=>L.length-(intOf i).toNat)
 case atStart=>exact⟨0,Nat.zero_le _,rfl,HJ.out,Below.refl _ _⟩
 case round =>
  obtain⟨k,hk,rfl,hj,hkb⟩:=hrel;have HJK:=QH hj;have HKB:=QH hkb;clear hj hkb HJ;by_cases hlt:k<L.length
  ·have qw3:(k:Int)<(L.length:Int):=by omega
   have hft:=ru L k hlt;have hpr:=qkt L k hlt;obtain⟨b,o,A1,c1,rfl,hbl,hc,hz,hzl⟩:=HA.out k (by rw[List.length_map];exact hlt);have ec:wr.cell? ⟨b,o+k,none⟩=some (.slice A1 ((Plain L)[k]'(by rw[List.length_map];exact hlt)).length c1):=by
    rw[HKB.out.cell (p:=⟨b,o+k,none⟩) hbl,HB.out.cell (p:=⟨b,o+k,none⟩) hbl];exact hc
   have lb:b<wr.heap.size:=Nat.lt_of_lt_of_le hbl (Nat.le_trans HB.out.size HKB.out.size);have HFT:=QH hft;have HPR:=QH hpr;have HZ:=QH hz;clear hft hpr hz hc;have hpk:(Plain L)[k]'(by rw[List.length_map];exact hlt)=L[k].map (fun x=>x.1):=List.getElem_map _;rw[hpk]at ec HZ hzl;rw[List.length_map]at ec hzl;clear hpk;generalize hzs:L[k]=zs at *;clear hzs
   gi_wp2
   gi_loopw [15] (fun i wr=>qwq w0.heap.size (L.take k).flatten zs J W i wr) (fun i _=>zs.length-(intOf i).toNat)
   case atStart=>exact⟨0,Nat.zero_le _,rfl,by rw[List.take_zero,List.append_nil];exact HJK.out,HKB.out⟩
   case round =>
    clear HJK HKB ec lb;obtain⟨j,hjl,rfl,hj,hkb⟩:=hrel;have HJK:=QH hj;have HKB:=QH hkb;clear hj hkb;by_cases hjt:j<zs.length
    ·have q6w:(j:Int)<(zs.length:Int):=by omega
     obtain⟨b1,o1,rfl,aI,hc1,hz1⟩:=HZ.out j (by rw[List.length_map];exact hjt);rw[List.getElem_map]at hc1 hz1;have e1:wr.cell? ⟨b1,o1+j,none⟩=some (.int .i64 zs[j].1):=by
      rw[HKB.out.cell (p:=⟨b1,o1+j,none⟩) aI,HB.out.cell (p:=⟨b1,o1+j,none⟩) aI];exact hc1
     have l1:b1<wr.heap.size:=Nat.lt_of_lt_of_le aI (Nat.le_trans HB.out.size HKB.out.size);have hp:=HPR.out j hjt;have wx:zs.take (j+1)=zs.take j++[zs[j]]:=List.take_succ_eq_append_getElem hjt;have dz:=hp.length_le;rw[List.length_append]at dz;obtain⟨fn,tmps,assign,body,hy,hR⟩:=HY.out _ zs[j] wr HJK.out (by simp only[List.length_cons,List.length_nil]at dz;omega);have HP:=QH hp;have eF:=QH wx;have HR:=QH hR;clear hp wx hR hc1 hz1 dz;generalize zs[j]=x at *
     gi_wp2
     refine HR.out.mono ?_;rintro e W3 (⟨rfl,hJ3,hk3⟩|⟨rfl,hJx3⟩)
     ·have HJ3:=QH hJ3;have l6:=QH (HKB.out.trans hk3);clear hJ3 hk3 HR
      gi_wp2
      refine⟨⟨j+1,by omega,by go_num,by rw[eF.out,← List.append_assoc];exact HJ3.out,l6.out⟩,?_⟩;simp[intOf];omega
     ·gi_wp2
      refine bodyPost_ret (results_none rfl _ _ _) rfl ?_;exact⟨⟨_,rfl⟩,.inr ⟨_,HP.out,hJx3⟩⟩
    ·have q6w:¬ (j:Int)<(zs.length:Int):=by omega
     have hj:=HJK.out;rw[List.take_of_length_le (l:=zs) (by omega),← HFT.out]at hj;have HJ2:=QH hj;clear hj
     gi_wp2
     refine⟨⟨k+1,by omega,by go_num,HJ2.out,HKB.out⟩,?_⟩;simp[intOf];omega
  ·have qw3:¬ (k:Int)<(L.length:Int):=by omega
   have hj:=HJK.out;rw[List.take_of_length_le (by omega)]at hj;have HJ2:=QH hj;clear hj
   gi_wp2
   go_end0
   exact⟨⟨_,rfl⟩,.inl HJ2.out⟩
theorem qku(F:Fence)(n:Nat)(hF:F.fn 161)(hro:F.round=none)(a:Option Addr)(len cap:Nat)(w:World) :
    CallsIn F n prog 161 #[.slice a len cap] w fun e w'=>e=.returned (.func (.func 199) #[] #[.pointer (some ⟨w.heap.size,0,none⟩)])∧w'=w.alloc (.cells #[.slice a len cap] 175):=by
 refine callsIn_of_wp func161 rfl hF ?_ hro;simp only[ntmps161,List.size_toArray,List.length_cons,List.length_nil,Nat.reduceAdd,Nat.reduceSub,Array.replicate_succ,Array.replicate_zero,List.push_toArray,List.append_toArray,List.nil_append,List.cons_append]
 gi_wp2
 go_ret;exact⟨rfl,rfl⟩
theorem qbP(F:Fence)(nn:Nat)(hF:F.fn 199)(hro:F.round=none)(hn:1≤nn)(Bs:Nat)(A:Option Addr)(c:Nat)(L:List (List I64))(w0 w:World)
    (hA:fN w0 A (Plain L)) (hL:L.length≤9223372036854775807) (hb:Below w0.heap.size w0 w) (hBs:qg w Bs 175 #[.slice A L.length c]) :
    SeqStopsK F nn prog 199 #[.pointer (some ⟨Bs,0,none⟩)] (fun x:I64=>#[.int .i64 x.1]) (Below w0.heap.size) (fun ys=>ys=L.flatten) (fun pre=>pre <+: L.flatten) L.flatten.length w:=fun l J Jx W hW _ _ hY h0 =>
 qgI F nn hF hro hn l Bs A c L w0 J Jx hA hL hY W (qc hb hW) ((hBs.below hW).cell 0) h0
end Go.Proofs.YtdagdllomphidaaGreatDoor.sp
namespace Go.Proofs.YtdagdllomphidaaGreatDoor.sp
open _root_.Go.Proofs.Tryz Go Go.RowKit ib
structure ub(w0 w:World)(B0 B1:Nat)(A:Option Addr)(c:Nat)(cs:List Int)(k:Nat):Prop where
 box:qg w B0 57 #[.slice A cs.length c]
 at_:qg w B1 3 #[.int .i64 (k:Int)]
 low:w0.heap.size≤B0
 lt:B0<B1
 k1:193≤k
 k2:k≤cs.length∨k=193
 below:Below w0.heap.size w0 w
def qoq (B0 B1:Nat):Value:=.func (.func 200) #[] #[.pointer (some ⟨B1,0,none⟩),.pointer (some ⟨B0,0,none⟩)]
def qdX (w0:World)(B0 B1:Nat)(A:Option Addr)(c:Nat)(cs:List Int)(k:Nat)(w:World)(e:Ending)(w':World):Prop :=
 qz (fun j=>j=B1) w w' ∧
 ((∃t:Nat,t<cs.length∧qY cs (t+1)=qY cs k++[(t:Int)]∧e=.returned (.tuple #[.int .i64 (t:Int),.bool true])∧ub w0 w' B0 B1 A c cs (t+1)) ∨
  (yn cs=(qY cs k).length∧e=.returned (.tuple #[.int .i64 0,.bool false])))
def cellOf (w:World)(B:Nat):Nat:=match w.cell? ⟨B,0,none⟩with
 | some (.int _ z)=>z.toNat
 | _=>0
theorem qa6{w:World}{B k:Nat}{t:TypeId}(h:qg w B t #[.int .i64 (k:Int)]):cellOf w B=k:=by
 unfold cellOf;rw[h.cell 0];simp
theorem ub.move{w0 w w':World}{B0 B1:Nat}{A:Option Addr}{c:Nat}{cs:List Int}{k k':Nat}(h:ub w0 w B0 B1 A c cs k)(hb:qz (fun j=>j=B1) w w')(ha:qg w' B1 3 #[.int .i64 (k':Int)])(h1:193≤k')(h2:k'≤cs.length∨k'=193):ub w0 w' B0 B1 A c cs k' :=
 ⟨h.box.of_block (hb.block _ h.box.lt (Nat.ne_of_lt h.lt)),ha,h.low,h.lt,h1,h2,(h.below).trans (hb.below (fun i e=>by rw[e];have:=h.low;have:=h.lt;omega) h.below.size)⟩
def qrU (w0 w:World)(B0 B1:Nat)(A:Option Addr)(c:Nat)(cs:List Int)(k:Nat)(wr:World):Prop :=
 ∃j:Nat,ub w0 wr B0 B1 A c cs j∧qY cs j=qY cs k∧qz (fun i=>i=B1) w wr
theorem qkv{cs:List Int}{k:Nat}(h:k≤cs.length∨k=193)(he:cs.length≤k):yn cs=(qY cs k).length:=by
 rcases h with h|h
 ·rw[show k=cs.length by omega];rfl
 ·unfold yn;rw[h,yV cs 193 (by omega),yV cs cs.length (by omega)]
theorem jT {w0 w:World}{B0 B1:Nat}{A:Option Addr}{c:Nat}{cs:List Int}{k:Nat}(h:ub w0 w B0 B1 A c cs k)(hA:qM w0 A cs)(hl:cs.length≤9223372036854775807) :
    Calls prog 200 #[.pointer (some ⟨B1,0,none⟩),.pointer (some ⟨B0,0,none⟩)] w (qdX w0 B0 B1 A c cs k w):=by
 have HF:=QH h;have HA:=QH hA;clear h hA;go_enter func200,ntmps200;go_wp2_with fail;go_loopw [] (fun wr=>qrU w0 w B0 B1 A c cs k wr) (fun wr=>cs.length-cellOf wr B1);case atStart=>exact⟨k,HF.out,rfl,qz.refl _ _⟩
 case round =>
  obtain⟨j,hf,hfr,hb⟩:=hrel;have HFR:=QH hfr;have HB:=QH hb;have HFJ:=QH hf;have q0:wr.cell? ⟨B0,0,none⟩=some (.slice A cs.length c):=hf.box.cell 0;have q1:wr.cell? ⟨B1,0,none⟩=some (.int .i64 (j:Int)):=hf.at_.cell 0;have l0:=hf.box.lt;have l1:=hf.at_.lt;have f1:=hf.at_.frozen 0;have hne:=Nat.ne_of_lt hf.lt;have zO:=hf.k1;have hk2:=hf.k2;clear hf hfr hb HF;by_cases hlt:j<cs.length
  ·obtain⟨b,o,rfl,hbl,hc,hz⟩:=HA.out j hlt;have qnU:(j:Int)<(cs.length:Int):=by omega
   have hg:cs.getD j 0=cs[j]:=by simp[List.getD,hlt]
   have hs:=cH cs j;rw[hg]at hs;have HS:=QH hs;have ec:wr.cell? ⟨b,o+j,none⟩=some (.int .i64 cs[j]):=by rw[HFJ.out.below.cell (p:=⟨b,o+j,none⟩) hbl];exact hc
   have lb:b<B0:=Nat.lt_of_lt_of_le hbl HFJ.out.low;have yE:Hid (qg (wr.setCell ⟨B1,0,none⟩ (.int .i64 (((j+1:Nat)):Int))) B1 3 #[.int .i64 ((j+1:Nat):Int)]):=by
    have h:=HFJ.out.at_.ql 0 (.int .i64 ((j+1:Nat):Int));exact h
   have hbb:Hid (qz (fun i=>i=B1) w (wr.setCell ⟨B1,0,none⟩ (.int .i64 (((j+1:Nat)):Int)))):=HB.out.setCell ⟨B1,0,none⟩ _ (.inl rfl);have hbj:Hid (qz (fun i=>i=B1) wr (wr.setCell ⟨B1,0,none⟩ (.int .i64 (((j+1:Nat)):Int)))):=(qz.refl _ _).setCell ⟨B1,0,none⟩ _ (.inl rfl);have ej:((j+1:Nat):Int)=(j:Int)+1:=by omega
   rw[ej]at yE hbb hbj;clear hs hg hc hz;generalize cs[j]=x at *;by_cases hx:x=0
   ·subst hx;have hs:=HS.out;rw[if_pos ⟨zO,rfl⟩]at hs;have uK:=QH hs;clear hs;go_wp2_with fail;go_ret2;exact⟨hbb.out,.inl ⟨j,hlt,by rw[uK.out,HFR.out],rfl,HFJ.out.move hbj.out (by rw[ej];exact yE.out) (by omega) (by omega)⟩⟩
   ·have hxb:(x == 0)=false:=by simpa using hx
    have hs:=HS.out;rw[if_neg (fun h=>hx h.2),List.append_nil]at hs;have uK:=QH hs;have hm:Hid (cellOf wr B1=j):=qa6 HFJ.out.at_;have hm2:Hid (cellOf (wr.setCell ⟨B1,0,none⟩ (.int .i64 ((j:Int)+1))) B1=j+1):=by
     refine qa6 (t:=3) ?_;rw[ej];exact yE.out
    clear hs;go_wp2_with fail;refine⟨⟨j+1,HFJ.out.move hbj.out (by rw[ej];exact yE.out) (by omega) (by omega),by rw[uK.out,HFR.out],hbb.out⟩,?_⟩;rw[hm.out,hm2.out];omega
  ·have qnU:¬ (j:Int)<(cs.length:Int):=by omega
   have HD:=QH (qkv hk2 (show cs.length≤j by omega));go_wp2_with fail;go_ret2;exact⟨HB.out,.inr ⟨by rw[HD.out,HFR.out],rfl⟩⟩
theorem ry (A:Option Addr)(c:Nat)(cs:List Int)(w0 w:World)(hb:Below w0.heap.size w0 w) :
    Calls prog 163 #[.slice A cs.length c] w fun e w'=>e=.returned (qoq w.heap.size (w.heap.size+1))∧ub w0 w' w.heap.size (w.heap.size+1) A c cs 193∧Below w.heap.size w w':=by
 go_enter func163,ntmps163;go_wp2_with fail;go_ret;have h0:qg (w.alloc (.cells #[.slice A cs.length c] 57)) w.heap.size 57 #[.slice A cs.length c]:=qg.new _ _ _;have h1:qg ((w.alloc (.cells #[.slice A cs.length c] 57)).alloc (.cells #[.int .i64 193] 3)) (w.alloc (.cells #[.slice A cs.length c] 57)).heap.size 3 #[.int .i64 ((193:Nat):Int)]:=qg.new _ _ _;have b1:=((Below.refl w.heap.size w).alloc (Nat.le_refl _) (.cells #[.slice A cs.length c] 57)).alloc (by simp) (.cells #[.int .i64 193] 3);rw[World.size_alloc]at h1;exact⟨rfl,⟨h0.of_block (Below.heap_alloc _ _ _ h0.lt),h1,hb.size,by omega,by omega,.inr rfl,qc hb b1⟩,b1⟩
theorem qkw{cs:List Int}{i:Nat}(h:i≤9223372036854775807):∀z∈qY cs i,qG z:=by
 intro z hz;unfold qY at hz;obtain⟨j,hj,rfl⟩:=List.mem_map.1 hz;have:=List.mem_range.1 (List.mem_filter.1 hj).1;unfold qG;omega
def q0G (w:World)(B0 B1:Nat)(A:Option Addr)(c:Nat)(cs:List Int)(n:Nat)(i:Bool)(wr:World):Prop :=
 Below w.heap.size w wr∧((i=true∧∃k,ub w wr B0 B1 A c cs k∧(qY cs k).length=n+1)∨(i=false∧n=yn cs))
def q0H (w:World)(B0 B1:Nat)(A:Option Addr)(c:Nat)(cs:List Int)(v i:Value)(wr:World):Prop :=
 ∃(n:Nat) (b:Bool),v=.int .i64 (n:Int)∧i=.bool b∧q0G w B0 B1 A c cs n b wr
theorem qtZ{w W W':World}{B0 B1:Nat}{A:Option Addr}{c:Nat}{cs:List Int}{k:Nat}{e:Ending}(h:ub w W B0 B1 A c cs k)(hp:qdX w B0 B1 A c cs k W e W'):∃(x:Int) (b:Bool),e=.returned (.tuple #[.int .i64 x,.bool b])∧q0G w B0 B1 A c cs (qY cs k).length b W':=by
 obtain⟨hb,⟨t,ht,hf,rfl,hF⟩|⟨hs,rfl⟩⟩:=hp
 ·exact⟨_,_,rfl,hF.below,.inl ⟨rfl,t+1,hF,by rw[hf,List.length_append];rfl⟩⟩
 ·exact⟨_,_,rfl,h.below.trans (hb.below (fun i e=>by rw[e];have:=h.low;have:=h.lt;omega) h.below.size),.inr ⟨rfl,hs.symm⟩⟩
theorem qgJ{w w':World}{B0 B1:Nat}{A:Option Addr}{c:Nat}{cs:List Int}{k:Nat}(h:ub w w' B0 B1 A c cs k):(qY cs k).length≤yn cs:=by
 rcases h.k2 with h1|h1
 ·obtain⟨r,hr⟩:=l9 cs k cs.length h1;unfold yn;rw[hr,List.length_append];omega
 ·rw[h1,yV cs 193 (by omega)];exact Nat.zero_le _
theorem rz (cs:List Int):yn cs≤cs.length:=qjB cs cs.length
theorem q0I:q0E:=by
 intro A c cs w hp hl;have HP:=QH hp;have sL:=QH (ry A c cs w w (Below.refl _ _));have hsm:=rz cs;clear hp;go_enter func162,ntmps162;go_wp2_with fail;refine sL.out.mono ?_;rintro e W1 ⟨rfl,hf,hb⟩;have HF:=QH hf;clear hf hb sL;unfold qoq;have hl0:=HF.out.low;obtain⟨B0,hB0⟩:=QE w.heap.size;rw[hB0]at HF hl0 ⊢;go_wp2_with fail;refine(jT HF.out HP.out hl).mono ?_;rintro e W2 hp;obtain⟨x,b,rfl,hs⟩:=qtZ HF.out hp;rw[yV cs 193 (by omega)]at hs;have HS:=QH hs;clear hp hs HF;go_wp2_with fail;go_loopw [3,6] (fun v i wr=>q0H w B0 (B0+1) A c cs v i wr) (fun v _ _=>cs.length-(intOf v).toNat);case atStart=>exact⟨0,b,rfl,rfl,HS.out⟩
 case round =>
  clear HS;obtain⟨n,b,rfl,rfl,hb,h⟩:=hrel;have HB:=QH hb;rcases h with⟨rfl,k,hf,hk⟩|⟨rfl,rfl⟩
  ·have hm:=qgJ hf;have HF:=QH hf;have HK:=QH hk;clear hf;go_wp2_with fail;refine(jT HF.out HP.out hl).mono ?_;rintro e W3 hp;obtain⟨x,b,rfl,hs⟩:=qtZ HF.out hp;rw[HK.out]at hs;have HS:=QH hs;clear hp hs HF;go_wp2_with fail;go_roundw;case rel=>exact⟨n+1,b,by go_num,rfl,HS.out⟩
   case measure=>simp[intOf];omega
  ·go_wp2_with fail;go_ret;exact⟨rfl,HB.out⟩
theorem qdY{vu:List (List Int)}{n:Int}(h:kZ n (List.replicate n.toNat 0) vu.flatten=none):yU vu n=([],2):=by
 unfold yU;rw[h];split <;> rfl
theorem qgK{vu:List (List Int)}{n:Int}{cs:List Int}(h0:0≤n)(h1:n≤1024)(h:kZ n (List.replicate n.toNat 0) vu.flatten=some cs):yU vu n=(cs,0):=by
 unfold yU;rw[h,if_neg (by omega)]
theorem qio{w wr:World}{g c:Nat}{n:Nat}{cs:List Int}{r:List Int × Int}(hk:qg wr g 3 (zH cs))(hb:Below w.heap.size w wr)(hg:w.heap.size≤g)(hn:cs.length=n)(hc:n≤c)(hz:∀z∈cs,qG z)(hr:r=(cs,0)) :
    okL r w (.returned (.tuple #[.slice (some ⟨g,0,none⟩) n c,.int .i64 0])) wr:=by
 subst hr hn;refine⟨_,c,rfl,qg.ints hk hz,hb,fun b o h=>?_,hc⟩;simp only[Option.some.injEq,Addr.mk.injEq,and_true]at h;rw[← h.1];exact⟨hg,hk.lt⟩
theorem qdZ(n:Int)(h0:0≤n)(h:n*8≤140737488355328)(W:World):(Instr.makeSlice 57 (.int .i64 n) (.int .i64 n)).run prog W=.ok (.slice (some ⟨W.heap.size,0,none⟩) n.toNat n.toNat) (W.alloc (.cells (zH (List.replicate n.toNat 0)) 3)):=by
 obtain⟨i0,hi,hz0,hz1,hz2⟩:=info_parts wY;have hmk:=run_make (P:=prog) W 57 3 i0 (.int .i64 0) underlying57 hi hz0 .i64 .i64 n n h0 (Int.le_refl _) (by rw[hz2];omega) (by omega);rw[hz1]at hmk;rw[← rr];simpa[Value.cells]using hmk
def q0J (w W:World)(g B0 B1:Nat)(A:Option Addr)(c:Nat)(cs:List Int)(m:Nat)(v:Value)(wr:World):Prop :=
 ∃(n k:Nat),n≤m∧v=.int .i64 (n:Int)∧ub W wr B0 B1 A c cs k∧(qY cs k).length=n∧qg wr g 3 (zH (qY cs k++List.replicate (m-n) 0))∧Below w.heap.size w wr
theorem qrV{cs:List Int}{k m:Nat}(h:(qY cs k).length=m)(hk:k≤cs.length∨k=193):(qY cs cs.length).take m=qY cs k:=by
 rcases hk with h1|h1
 ·obtain⟨r,hr⟩:=l9 cs k cs.length h1;rw[hr,← h,List.take_left]
 ·rw[h1,yV cs 193 (by omega)]at h;rw[h1,yV cs 193 (by omega),← h];rfl
theorem oO (l:List Int)(r:Nat)(x:Int):(l++List.replicate (r+1) 0).set l.length x=(l++[x])++List.replicate r 0:=by
 rw[List.set_append_right _ _ (Nat.le_refl _),Nat.sub_self,List.replicate_succ,List.append_assoc];rfl
theorem q0K:q0D:=by
 intro A c cs n w hp hl hn;have HP:=QH hp;have hsm:=rz cs;obtain⟨res,hres⟩:=QE (jl cs n);rw[hres];unfold jl at hres;by_cases h0:n<0
 ·rw[if_pos h0]at hres;subst hres;clear hp;go_enter func104,ntmps104;go_wp2_with fail;go_ret2;exact ie (Below.refl _ _)
 rw[if_neg h0]at hres;have HF:=QH (q0I A c cs w hp (by omega));obtain⟨fr,hfr⟩:=QE (yn cs);have HFR:=QH hfr;rw[hfr]at HF hres hsm;clear hfr hp;by_cases h1:(fr:Int)<n
 ·rw[if_pos h1]at hres;subst hres;go_enter func104,ntmps104;go_wp2_with fail;refine HF.out.mono ?_;rintro e W ⟨rfl,hb⟩;go_wp2_with fail;go_ret2;exact ie hb
 rw[if_neg h1]at hres;have hmk:=qdZ n (by omega) (by omega);obtain⟨m,rfl⟩:=Int.eq_ofNat_of_zero_le (show 0≤n by omega);rw[Int.toNat_natCast]at hmk hres;have xB:=QH hres;have HMK:=QH hmk;clear hres hmk;go_enter func104,ntmps104;go_wp2_with fail;refine HF.out.mono ?_;rintro e W ⟨rfl,hb⟩;have HB:=QH hb;have HPW:=QH (HP.out.below hb);clear hb HF;have hmk:=HMK.out;go_wp2_with fail;clear hmk;have hkb:qg (W.alloc (.cells (zH (List.replicate m 0)) 3)) W.heap.size 3 (zH (List.replicate m 0)):=qg.new _ _ _;have hb2:=(Below.refl W.heap.size W).alloc (Nat.le_refl _) (.cells (zH (List.replicate m 0)) 3);have hsz:(W.alloc (.cells (zH (List.replicate m 0)) 3)).heap.size=W.heap.size+1:=by simp
 obtain⟨W1,hW1⟩:=QE (W.alloc (.cells (zH (List.replicate m 0)) 3));rw[hW1]at hkb hb2 hsz ⊢;obtain⟨g,hg⟩:=QE W.heap.size;rw[hg]at hkb hb2 hsz ⊢;have HG:=QH hg;have HK:=QH hkb;have qV:=QH (qc HB.out (by rw[hg];exact hb2));have sX:=HPW;have sP:=ry A c cs W W1 (by rw[hg];exact hb2);rw[hsz]at sP;have HWS:Hid (w.heap.size≤W.heap.size):=HB.out.size;have q0L:Hid (w.heap.size≤g):=by rw[← hg];exact HB.out.size
 clear hkb hb2 hW1 hg HB HPW HMK;refine sP.mono ?_;clear sP;rintro e W2 ⟨rfl,hf,hb⟩;have HF:=QH hf;have kh:=QH (HK.out.below (by rw[hsz];exact hb));have qC:=QH (qc qV.out (by rw[hsz];exact hb));have iX:=QH hsz;clear hf hb HK qV hsz;unfold qoq;go_wp2_with fail;go_loopw [21] (fun v wr=>q0J w W g (g+1) (g+1+1) A c cs m v wr) (fun v _=>m-(intOf v).toNat);case atStart=>exact⟨0,193,Nat.zero_le _,rfl,HF.out,by rw[yV cs 193 (by omega)];rfl,by rw[yV cs 193 (by omega)];exact kh.out,qC.out⟩
 case round =>
  clear HF kh qC;obtain⟨n,k,hnm,rfl,hf,dw,hk,hb⟩:=hrel;have HF:=QH hf;have HFL:=QH dw;have HK:=QH hk;have HB:=QH hb;have hk2:=hf.k2;clear hf dw hk hb;by_cases hlt:n<m
  ·have qw3:(n:Int)<(m:Int):=by omega
   go_wp2_with fail;refine(jT HF.out sX.out (by omega)).mono ?_;rintro e W3 ⟨hb3,⟨t,ht,hft,rfl,hf3⟩|⟨hs,_⟩⟩
   ·have hk3:=HK.out.of_block (hb3.block g HK.out.lt (by omega));have cf:=hk3.ql n (.int .i64 (t:Int));have hlo:=HF.out.low;have hbl:Below w.heap.size w W3:=HB.out.trans (hb3.below (fun i e=>by rw[e];have:=q0L.out;omega) HB.out.size);have sJ:qz (fun j=>j=g) W3 (W3.setCell ⟨g,n,none⟩ (.int .i64 (t:Int))):=(qz.refl _ _).setCell ⟨g,n,none⟩ _ (.inl rfl);have hcl:W3.cell? ⟨g,n,none⟩=some (.int .i64 0):=by
     rw[hk3.cell n,bC _ n (by rw[List.length_append,List.length_replicate,HFL.out];omega),List.getElem_append_right (by rw[HFL.out];exact Nat.le_refl _)];simp
    have dx:=hk3.lt;have hfz:=hk3.frozen n;rw[rq,show m-n=m-(n+1)+1 by omega]at cf;have hfo:=oO (qY cs k) (m-(n+1)) (t:Int);rw[HFL.out]at hfo;rw[hfo,← hft]at cf;have hf4:ub W (W3.setCell ⟨g,n,none⟩ (.int .i64 (t:Int))) (g+1) (g+1+1) A c cs (t+1) :=
     ⟨hf3.box.of_block (sJ.block _ hf3.box.lt (by omega)),hf3.at_.of_block (sJ.block _ hf3.at_.lt (by omega)),hf3.low,hf3.lt,hf3.k1,hf3.k2,hf3.below.trans (sJ.below (fun i e=>by rw[e,HG.out];exact Nat.le_refl _) hf3.below.size)⟩
    have q0M:(qY cs (t+1)).length=n+1:=by rw[hft,List.length_append,HFL.out];rfl
    have hb4:Below w.heap.size w (W3.setCell ⟨g,n,none⟩ (.int .i64 (t:Int))):=hbl.trans (sJ.below (fun i e=>by rw[e];exact q0L.out) hbl.size);have mv:=QH cf;have HF4:=QH hf4;have q6y:=QH q0M;have x9:=QH hb4;clear cf hf4 q0M hb4 hk3 hbl sJ hfo hft hb3 hf3;go_wp2_with fail;go_roundw;case rel=>exact⟨n+1,t+1,by omega,by go_num,HF4.out,q6y.out,mv.out,x9.out⟩
    case measure=>simp[intOf];omega
   ·exact absurd hs (by rw[HFR.out,HFL.out];omega)
  ·have qw3:¬ (n:Int)<(m:Int):=by omega
   have qrW:n=m:=by omega
   have vB:=HK.out;rw[qrW,Nat.sub_self,List.replicate_zero,List.append_nil]at vB;have HKE:=QH vB;have wx:=qrV (HFL.out.trans qrW) hk2;have hr:res=(qY cs k,0):=by rw[← xB.out,wx]
   have HR:=QH hr;have HZ:=QH (qkw (cs:=cs) (i:=k) (by omega));have bF:=QH (HFL.out.trans qrW);clear vB wx hr qrW;go_wp2_with fail;go_ret2;exact qio HKE.out HB.out (by rw[← HG.out];exact HWS.out) bF.out (Nat.le_refl _) HZ.out HR.out
theorem vX {fn:Func}{p u:Tmp}{ty uy:TypeId}(h:fn.results = #[.cell p ty,.cell u uy])(tmps:Array Value)(P:Program)(w:World)(a b:Addr)(v1 v2:Value)
    (hp:tmps.getD p undef=.pointer (some a)) (hu:tmps.getD u undef=.pointer (some b)) (h1:(loadVar ty a).run P w=.ok v1 w) (h2:(loadVar uy b).run P w=.ok v2 w) :
    (results fn tmps).run P w=.ok (.tuple #[v1,v2]) w:=by
 simp only[results,h];simp only[Array.getD_eq_getD_getElem?]at hp hu;simp[Sem.run_bind,Result.andThen,asAddr,hp,hu,h1,h2]
theorem lG (w:World):(isAgg 57).run prog w=.ok false w:=by kernel_rfl
theorem lH (w:World):(isAgg 30).run prog w=.ok false w:=by kernel_rfl
theorem wQ {t:TypeId}{w:World}(ha:(isAgg t).run prog w=.ok false w){a:Addr}{v:Value}(hc:w.cell? a=some v):(loadVar t a).run prog w=.ok v w:=by
 unfold loadVar;rw[Sem.run_bind,ha];simp[Result.andThen,hc]
end Go.Proofs.YtdagdllomphidaaGreatDoor.sp
