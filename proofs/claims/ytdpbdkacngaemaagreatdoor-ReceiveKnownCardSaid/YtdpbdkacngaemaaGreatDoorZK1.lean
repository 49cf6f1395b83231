/- WiRead, WiNum, WiNumG, WiNumR, Ints, Blk, ICells, StillW, Dat, Lists, MtMem, MtEq, WiRefR0, WiRefN, WiRefG. -/
import Derived.Test.YtdpbdkacngaemaaGreatDoorZK0
import Derived.Lib.ConvBytes
import Derived.OpenShut
import Derived.Deep.Slices
import Derived.Deep.SlicePairs
import Derived.Deep.Fields
import Derived.ChangeSlices
import Derived.ChangeSame
import Derived.Maps.AppendAt
import Derived.OwnWalk
import Derived.Deep.Draws
import Derived.StillTailTactics
import Derived.LoopTactic
import Derived.Deep.WholeRow
import Derived.Deep.AppendSrc
import Derived.Carry
import Derived.Laws.StructEq
import Derived.Laws.Cover2
import Derived.KernelRfl
import Derived.Deep.QuietTactic
import Derived.BigQuiet
set_option linter.unusedVariables false
set_option linter.unusedSimpArgs false
set_option maxHeartbeats 30000000
set_option maxRecDepth 100000
namespace Go.Proofs.YtdpbdkacngaemaaGreatDoor.wi
open _root_.Go.Proofs.Tryz Go.RowKit
def Row (w:World)(g o:Nat)(l:List UInt8):Prop :=
 ∃cs fr,w.heap[g]?=some (.cells cs 5 fr)∧∀i (h:i<l.length),cs[o+i]?=some (.int .u8 (l[i].toNat:Int))
def qcq (b g o cap:Nat)(l:List UInt8)(bad:Bool)(w:World):Prop :=
 w.heap[b]?=some (.cells #[.slice (some ⟨g,o,none⟩) l.length cap,.bool bad] 274 (0,0))∧Row w g o l∧l.length≤cap∧l.length≤140737488355328
def zj (b:Nat)(l:List UInt8)(bad:Bool)(w:World):Prop:=∃g o cap,qcq b g o cap l bad w
theorem kC {w:World}{b:Nat}{o:Obj}(h:w.heap[b]?=some o):b<w.heap.size:=by
 rcases Nat.lt_or_ge b w.heap.size with h' | h'
 ·exact h'
 ·simp[Array.getElem?_eq_none h']at h
theorem Row.cell{w:World}{g o:Nat}{l:List UInt8}(h:Row w g o l)(i:Nat)(hi:i<l.length):w.cell? ⟨g,o+i,none⟩=some (.int .u8 (l[i].toNat:Int)):=by
 obtain⟨cs,fr,hg,hc⟩:=h;simp[World.cell?,hg,hc i hi]
theorem Row.keep{w w':World}{g o:Nat}{l:List UInt8}(h:Row w g o l)(hk:w'.heap[g]?=w.heap[g]?):Row w' g o l:=by
 obtain⟨cs,fr,hg,hc⟩:=h;exact⟨cs,fr,hk.trans hg,hc⟩
theorem Row.drop{w:World}{g o:Nat}{l:List UInt8}(h:Row w g o l)(n:Nat):Row w g (o+n) (l.drop n):=by
 obtain⟨cs,fr,hg,hc⟩:=h;refine⟨cs,fr,hg,fun i hi=>?_⟩;have:=hc (n+i) (by simp at hi;omega);rw[Nat.add_assoc,this];simp
theorem Row.take{w:World}{g o:Nat}{l:List UInt8}(h:Row w g o l)(n:Nat):Row w g o (l.take n):=by
 obtain⟨cs,fr,hg,hc⟩:=h;refine⟨cs,fr,hg,fun i hi=>?_⟩;have:=hc i (by simp at hi;omega);rw[this];simp
theorem Row.nil0{w:World}{g o:Nat}{l:List UInt8}(h:Row w g o l)(o':Nat):Row w g o' []:=by
 obtain⟨cs,fr,hg,_⟩:=h;exact⟨cs,fr,hg,fun i hi=>by simp at hi⟩
theorem zj.keep{b c:Nat}{l m:List UInt8}{x y:Bool}{w w':World}(h:zj b l x w)(k:zj c m y w)(hne:b≠c)(hg:w.grownBy w' (some c)):zj b l x w':=by
 obtain⟨g,o,cap,hb,hr,h1,h2⟩:=h;obtain⟨_,_,_,hc,_⟩:=k;have hgc:g≠c:=by
  intro e;subst e;obtain⟨cs,fr,hg',_⟩:=hr;rw[hc]at hg';simp at hg'
 have jQ:g<w.heap.size:=by obtain⟨cs,fr,hg',_⟩:=hr;exact kC hg'
 exact⟨g,o,cap,(hg.block b (kC hb) (by simpa using hne)).trans hb,hr.keep (hg.block g jQ (by simpa using hgc)),h1,h2⟩
theorem zj.below{b:Nat}{l:List UInt8}{x:Bool}{w w':World}(h:zj b l x w)(hg:Below w.heap.size w w'):zj b l x w':=by
 obtain⟨g,o,cap,hb,hr,h1,h2⟩:=h;have jQ:g<w.heap.size:=by obtain⟨cs,fr,hg',_⟩:=hr;exact kC hg'
 exact⟨g,o,cap,(hg.block b (kC hb)).trans hb,hr.keep (hg.block g jQ),h1,h2⟩
theorem zj.lt{b:Nat}{l:List UInt8}{x:Bool}{w:World}(h:zj b l x w):b<w.heap.size:=by
 obtain⟨_,_,_,hb,_⟩:=h;exact kC hb
def qul (s:ByteArray)(w:World)(e:Ending)(w':World):Prop :=
 ∃b,e=.returned (.pointer (some ⟨b,0,none⟩))∧w.heap.size≤b∧zj b (bl s) false w'∧Below w.heap.size w w'
theorem rC (s:ByteArray)(w:World)(hs:s.size≤140737488355328) :
    Calls prog 125 #[.string s] w (qul s w):=by
 have hcv:=Lib.run_convert_string_bytes (P:=prog) w 9 64 5 s underlying9 underlying64 underlying5;have hsz:=Lib.bytesWorld_size w 5 s;have hnew:=Lib.bytesWorld_at_new w 5 s;have hold:=Lib.bytesWorld_at_old w 5 s;have rD:=grownCap_ge w s.size 0 5;have hcell:∀i (h:i<(bl s).length),(Lib.bytesCells w 5 s)[0+i]?=some (.int .u8 ((bl s)[i].toNat:Int)):=by
  intro i hi;have hi':i<s.size:=by rw[← zg];exact hi
  have:=Lib.bytesWorld_cell w 5 s i hi';simp[World.cell?,hnew]at this;rw[Nat.zero_add,this];simp[bl,hi']
 have hos:(Lib.bytesWorld w 5 s).os=w.os∧(Lib.bytesWorld w 5 s).tape=w.tape∧(Lib.bytesWorld w 5 s).output=w.output:=⟨rfl,rfl,rfl⟩;have nQ:Below w.heap.size w (Lib.bytesWorld w 5 s):=⟨hos.1,hos.2.1,hos.2.2,by omega,fun k hk=>hold k hk⟩;have hlen:=zg s;generalize Lib.bytesWorld w 5 s=W1 at *;generalize grownCap w s.size 0 5=cap at *;have Hsz:=QH hsz;have qz3:=QH hnew;have qum:=QH hcell;have qz4:=QH hlen;clear hsz hnew hcell hold hos hlen;go_enter func125,ntmps125;go_wp2;go_ret;have Hl:=qz4.out;have hW:(W1.alloc (.cells #[.slice (some ⟨w.heap.size,0,none⟩) s.size cap,.bool false] 274)).heap[W1.heap.size]?=some (.cells #[.slice (some ⟨w.heap.size,0,none⟩) s.size cap,.bool false] 274 (0,0)):=by
  show(W1.heap.push _)[W1.heap.size]?=_;simp
 have hO:=Below.heap_alloc W1 (.cells #[.slice (some ⟨w.heap.size,0,none⟩) s.size cap,.bool false] 274) w.heap.size (by have:=Hsz.out;omega);refine⟨W1.heap.size,rfl,by have:=Hsz.out;omega,⟨w.heap.size,0,cap,by rw[Hl];exact hW,⟨_,_,hO.trans qz3.out,qum.out⟩,by omega,by omega⟩,zD nQ _⟩
theorem qcr(b:Nat)(l:List UInt8)(w:World)(h:zj b l false w) :
    Calls prog 280 #[.pointer (some ⟨b,0,none⟩)] w fun e w'=>e=.returned (.bool true)∧w=w':=by
 obtain⟨g,o,cap,hb,_⟩:=h;have h1:w.cell? ⟨b,1,none⟩=some (.bool false):=by simp[World.cell?,hb]
 clear hb;go_enter func280,ntmps280;go_wp2;go_ret;exact⟨rfl,rfl⟩
theorem qi4(b:Nat)(l:List UInt8)(w:World)(h:zj b l true w) :
    Calls prog 280 #[.pointer (some ⟨b,0,none⟩)] w fun e w'=>e=.returned (.bool false)∧w=w':=by
 obtain⟨g,o,cap,hb,_⟩:=h;have h1:w.cell? ⟨b,1,none⟩=some (.bool true):=by simp[World.cell?,hb]
 clear hb;go_enter func280,ntmps280;go_wp2;go_ret;exact⟨rfl,rfl⟩
def tailOff(o len n:Nat):Nat:=if len=n then o else o+n
def qqt (b g o:Nat)(l:List UInt8)(n:Nat)(x:Bool)(w:World)(e:Ending)(w':World):Prop :=
 e=.returned (.tuple #[.slice (some ⟨g,o,none⟩) n n,.bool true])∧qcq b g (tailOff o l.length n) (l.length-n) (l.drop n) x w'∧w.grownBy w' (some b)∧Row w' g o (l.take n)
theorem qcs(g o len cap:Nat)(n:Int)(h0:0≤n)(hn:n.toNat≤cap)(w:World) :
    (Instr.slice 64 (.slice (some ⟨g,o,none⟩) len cap) none (some (.int .u64 n)) (some (.int .u64 n))).run prog w=.ok (.slice (some ⟨g,o,none⟩) n.toNat n.toNat) w:=by
 have h1:n≤(cap:Int):=by omega
 rw[run_slice_any (P:=prog) w 64 (some ⟨g,o,none⟩) len cap underlying64];simp[Instr.sliceBounds,run_sliceBound,h0,h1,go_sem];intro h;omega
theorem qct(g o len cap:Nat)(n:Int)(h0:0≤n)(hn:n.toNat≤len)(hc:len≤cap)(w:World) :
    (Instr.slice 64 (.slice (some ⟨g,o,none⟩) len cap) (some (.int .u64 n)) (some (.int .i64 (len:Int))) (some (.int .i64 (len:Int)))).run prog w=.ok (.slice (some ⟨g,tailOff o len n.toNat,none⟩) (len-n.toNat) (len-n.toNat)) w:=by
 have h1:n≤(len:Int):=by omega
 have h2:(len:Int)≤(cap:Int):=by omega
 rw[run_slice_any (P:=prog) w 64 (some ⟨g,o,none⟩) len cap underlying64];unfold tailOff;by_cases hl:len=n.toNat
 ·simp[Instr.sliceBounds,run_sliceBound,h0,h1,hc,go_sem];rw[if_pos hl,if_pos hl]
 ·simp[Instr.sliceBounds,run_sliceBound,h0,h1,hc,hl,go_sem]
theorem qi5{w:World}{g o:Nat}{l:List UInt8}(h:Row w g o l)(n:Nat):Row w g (tailOff o l.length n) (l.drop n):=by
 unfold tailOff;split
 ·have e:l.drop n=[]:=by simp;omega
  rw[e];exact h.nil0 o
 ·exact h.drop n
theorem kD (b g o cap:Nat)(l:List UInt8)(x:Bool)(n:Int)(w:World)(hR:qcq b g o cap l x w)(h0:0≤n)(hn:n.toNat≤l.length) :
    Calls prog 281 #[.pointer (some ⟨b,0,none⟩),.int .u64 n] w (qqt b g o l n.toNat x w):=by
 obtain⟨hb,hr,hc,hl⟩:=hR;have h1:w.cell? ⟨b,0,none⟩=some (.slice (some ⟨g,o,none⟩) l.length cap):=by simp[World.cell?,hb]
 have h2:w.frozen? ⟨b,0,none⟩=false:=by simp[World.frozen?,hb]
 have hs1:=qcs g o l.length cap n h0 (by omega) w;have hs2:=qct g o l.length cap n h0 hn hc w;have ht:¬ ((l.length:Int)<n):=by omega
 have hw:=heap_setCell_same w b 0 _ 274 (.slice (some ⟨g,tailOff o l.length n.toNat,none⟩) (l.length-n.toNat) (l.length-n.toNat)) hb;have hgr:w.grownBy (w.setCell ⟨b,0,none⟩ (.slice (some ⟨g,tailOff o l.length n.toNat,none⟩) (l.length-n.toNat) (l.length-n.toNat))) (some b) :=
  ⟨rfl,rfl,rfl,by simp[World.setCell],fun k _ hk=>Below.heap_setCell _ _ _ _ (fun e=>hk (by simp[e]))⟩
 have hgb:g≠b:=by
  intro e;subst e;obtain⟨cs,fr,hg',_⟩:=hr;rw[hb]at hg';simp at hg'
 have hgk:=Below.heap_setCell w ⟨b,0,none⟩ (.slice (some ⟨g,tailOff o l.length n.toNat,none⟩) (l.length-n.toNat) (l.length-n.toNat)) g hgb;have hr1:=(qi5 hr n.toNat).keep hgk;have hr2:=(hr.take n.toNat).keep hgk;have qi6:qcq b g (tailOff o l.length n.toNat) (l.length-n.toNat) (l.drop n.toNat) x (w.setCell ⟨b,0,none⟩ (.slice (some ⟨g,tailOff o l.length n.toNat,none⟩) (l.length-n.toNat) (l.length-n.toNat))):=by
  refine⟨?_,hr1,by simp,by simp;omega⟩;rw[hw];simp
 have Hf:=QH qi6;have Hg:=QH hgr;have Hr2:=QH hr2;clear qi6 hgr hr1 hr2 hgk hw hb;go_enter func281,ntmps281;go_wp2;go_ret2;exact⟨rfl,Hf.out,Hg.out,Hr2.out⟩
def qi7 (w:World)(e:Ending)(w':World):Prop:=e=.returned (.tuple #[.slice none 0 0,.bool false])∧w=w'
theorem rE (b g o cap:Nat)(l:List UInt8)(x:Bool)(n:Int)(w:World)(hR:qcq b g o cap l x w)(hn:(l.length:Int)<n) :
    Calls prog 281 #[.pointer (some ⟨b,0,none⟩),.int .u64 n] w (qi7 w):=by
 obtain⟨hb,_,_,hl⟩:=hR;have h1:w.cell? ⟨b,0,none⟩=some (.slice (some ⟨g,o,none⟩) l.length cap):=by simp[World.cell?,hb]
 clear hb;go_enter func281,ntmps281;go_wp2;go_ret2;exact⟨rfl,rfl⟩
def oN (b:Nat)(l:List UInt8)(x:Bool)(w:World)(e:Ending)(w':World):Prop :=
 w.grownBy w' (some b) ∧
  ((∃n r,rdNum l=some (n,r)∧e=.returned (.tuple #[.int .u64 (n:Int),.bool true])∧zj b r x w') ∨
   (rdNum l=none∧e=.returned (.tuple #[.int .u64 0,.bool false])∧∃m,zj b m x w'))
theorem qf2(b:Nat)(x:Bool)(w:World)(h:zj b [] x w) :
    Calls prog 254 #[.func (.func 281) #[.pointer (some ⟨b,0,none⟩)] #[]] w (oN b [] x w):=by
 obtain⟨g,o,cap,hR⟩:=h;have hR':zj b [] x w:=⟨g,o,cap,hR⟩;go_enter func254,ntmps254;go_wp2_with (go_at_call 281;refine(rE b g o cap [] x 1 _ hR (by simp)).mono ?_;rintro e w' ⟨rfl,rfl⟩);go_ret2;exact⟨jx _ _,.inr ⟨rfl,rfl,[],hR'⟩⟩
theorem Row.cell0{w:World}{g o:Nat}{k:UInt8}{r:List UInt8}(h:Row w g o (k::r)):w.cell? ⟨g,o,none⟩=some (.int .u8 (k.toNat:Int)):=by
 have:=h.cell 0 (by simp);simpa using this
theorem qm0(b:Nat)(k:UInt8)(r:List UInt8)(x:Bool)(w:World)(h:zj b (k::r) x w)(hk:8<k.toNat) :
    Calls prog 254 #[.func (.func 281) #[.pointer (some ⟨b,0,none⟩)] #[]] w (oN b (k::r) x w):=by
 obtain⟨g,o,cap,hR⟩:=h;have ja:(8:Int)<(k.toNat:Int):=by omega
 have hnone:rdNum (k::r)=none:=by simp[rdNum,hk]
 have Hn:=QH hnone;clear hnone;go_enter func254,ntmps254;go_wp2_with (go_at_call 281;refine(kD b g o cap (k::r) x 1 _ hR (by decide) (by simp)).mono ?_);rintro e w1 ⟨rfl,h1,h2,h3⟩;have hc:w1.cell? ⟨g,o,none⟩=some (.int .u8 (k.toNat:Int)):=Row.cell0 (r:=[]) h3;have H1:=QH h1;have H2:=QH h2;clear h1 h2 h3;go_wp2;go_ret2;exact⟨H2.out,.inr ⟨Hn.out,rfl,r,⟨_,_,_,H1.out⟩⟩⟩
theorem qf3(b:Nat)(k:UInt8)(r:List UInt8)(x:Bool)(w:World)(h:zj b (k::r) x w)(hk:k.toNat≤8)(hr:r.length<k.toNat) :
    Calls prog 254 #[.func (.func 281) #[.pointer (some ⟨b,0,none⟩)] #[]] w (oN b (k::r) x w):=by
 obtain⟨g,o,cap,hR⟩:=h;have ja:¬ (8:Int)<(k.toNat:Int):=by omega
 have hnone:rdNum (k::r)=none:=by simp[rdNum,Nat.not_lt.2 hk,hr]
 have Hn:=QH hnone;clear hnone;go_enter func254,ntmps254;go_wp2_with (go_at_call 281;refine(kD b g o cap (k::r) x 1 _ hR (by decide) (by simp)).mono ?_);rintro e w1 ⟨rfl,h1,h2,h3⟩;have hc:w1.cell? ⟨g,o,none⟩=some (.int .u8 (k.toNat:Int)):=Row.cell0 (r:=[]) h3;have H1:=QH h1;have H2:=QH h2;clear h1 h2 h3;go_wp2_with (go_at_call 281;refine(rE b g _ _ r x _ _ H1.out (by omega)).mono ?_;rintro e w' ⟨rfl,rfl⟩);go_ret2;exact⟨H2.out,.inr ⟨Hn.out,rfl,r,⟨_,_,_,H1.out⟩⟩⟩
theorem qi8(b:Nat)(k:UInt8)(r:List UInt8)(x:Bool)(w:World)(h:zj b (k::r) x w)(hk:k.toNat≤8)(hr:k.toNat≤r.length)(h0:(r.take k.toNat).head? = some 0) :
    Calls prog 254 #[.func (.func 281) #[.pointer (some ⟨b,0,none⟩)] #[]] w (oN b (k::r) x w):=by
 obtain⟨g,o,cap,hR⟩:=h;have ja:¬ (8:Int)<(k.toNat:Int):=by omega
 have hnone:rdNum (k::r)=none:=by simp[rdNum,Nat.not_lt.2 hk,Nat.not_lt.2 hr];exact h0
 have Hn:=QH hnone;have hkp:(0:Int)<(k.toNat:Int):=by
  have:k.toNat≠0:=by
   intro e;rw[e]at h0;simp at h0
  omega
 have H0:=QH h0;clear hnone h0;go_enter func254,ntmps254;go_wp2_with (go_at_call 281;refine(kD b g o cap (k::r) x 1 _ hR (by decide) (by simp)).mono ?_);rintro e w1 ⟨rfl,h1,h2,h3⟩;have hc:w1.cell? ⟨g,o,none⟩=some (.int .u8 (k.toNat:Int)):=Row.cell0 (r:=[]) h3;obtain⟨o1,c1,h1⟩:∃o1 c1,qcq b g o1 c1 r x w1:=⟨_,_,h1⟩;have H1:=QH h1;have H2:=QH h2;clear h1 h2 h3;go_wp2_with (go_at_call 281;refine(kD b g o1 c1 r x (k.toNat:Int) _ H1.out (by omega) (by omega)).mono ?_);rintro e w2 ⟨rfl,h1,h2,h3⟩;rw[Int.toNat_natCast]at h1 h3;have hc0:w2.cell? ⟨g,o1,none⟩=some (.int .u8 0):=by
  have e0:=H0.out;cases hd:r.take k.toNat with
  | nil=>rw[hd]at e0;simp at e0
  | cons y q =>
   rw[hd]at e0 h3;simp at e0;subst e0;exact Row.cell0 h3
 have H3:=QH h1;have H4:=QH h2;clear h1 h2 h3 hc;go_wp2;go_ret2;exact⟨zN H2.out H4.out,.inr ⟨Hn.out,rfl,_,⟨_,_,_,H3.out⟩⟩⟩
theorem qm1(v z:Nat)(hv:v<72057594037927936)(hz:z<256):bits BinOp.or IntKind.u64 ((v:Int)*256) (z:Int)=((v*256+z:Nat):Int):=by
 have e:(v:Int)*256=((v*256:Nat):Int):=by omega
 rw[e,u64_or_nat _ _ (by omega) (by omega)];have:=Nat.shiftLeft_add_eq_or_of_lt (i:=8) (b:=z) (by omega) v;rw[Nat.shiftLeft_eq,show(2:Nat) ^ 8=256 from rfl]at this;rw[← this]
def qi9 (d:List UInt8)(n i:Value):Prop:=∃j:Nat,j≤d.length∧i=.int .i64 (j:Int)∧n=.int .u64 (val (d.take j):Int)
theorem qiA(b:Nat)(k:UInt8)(r:List UInt8)(x:Bool)(w:World)(h:zj b (k::r) x w)(hk:k.toNat≤8)(hr:k.toNat≤r.length)(h0:¬ (r.take k.toNat).head? = some 0) :
    Calls prog 254 #[.func (.func 281) #[.pointer (some ⟨b,0,none⟩)] #[]] w (oN b (k::r) x w):=by
 obtain⟨g,o,cap,hR⟩:=h;have ja:¬ (8:Int)<(k.toNat:Int):=by omega
 have hsome:rdNum (k::r)=some (val (r.take k.toNat),r.drop k.toNat):=by simp[rdNum,Nat.not_lt.2 hk,Nat.not_lt.2 hr,h0]
 have Hn:=QH hsome;have H0:=QH h0;clear hsome h0;go_enter func254,ntmps254;go_wp2_with (go_at_call 281;refine(kD b g o cap (k::r) x 1 _ hR (by decide) (by simp)).mono ?_);rintro e w1 ⟨rfl,h1,h2,h3⟩;have hc:w1.cell? ⟨g,o,none⟩=some (.int .u8 (k.toNat:Int)):=Row.cell0 (r:=[]) h3;obtain⟨o1,c1,h1⟩:∃o1 c1,qcq b g o1 c1 r x w1:=⟨_,_,h1⟩;have H1:=QH h1;have H2:=QH h2;clear h1 h2 h3;go_wp2_with (go_at_call 281;refine(kD b g o1 c1 r x (k.toNat:Int) _ H1.out (by omega) (by omega)).mono ?_);rintro e w2 ⟨rfl,h1,h2,h3⟩;rw[Int.toNat_natCast]at h1 h3;have H3:=QH h1;have H4:=QH h2;have hlen:(r.take k.toNat).length=k.toNat:=by simp;omega
 obtain⟨d,hd⟩:∃d,d=r.take k.toNat:=⟨_,rfl⟩;have hE:Hid (rdNum (k::r)=some (val d,r.drop k.toNat)):=by rw[hd];exact Hn
 have hZ:Hid (¬ d.head? = some 0):=by rw[hd];exact H0
 rw[← hd]at hlen h3;clear hd Hn H0 h1 h2 hc hR;have hkb:k.toNat≤8:=hk;cases d with
 | nil =>
  have hk0:¬ (0:Int)<(k.toNat:Int):=by simp at hlen;omega
  have Hl:=QH hlen;have H5:=QH h3;clear hlen h3 hZ;go_wp2;go_loop [7,47] (fun n i=>qi9 [] n i) (fun _ i=>k.toNat-(intOf i).toNat);case atStart=>exact⟨0,Nat.zero_le _,rfl,rfl⟩
  case round =>
   obtain⟨j,hj,rfl,rfl⟩:=hrel;have hlt:¬ j<k.toNat:=by omega
   go_wp2;go_ret2;exact⟨zN H2.out H4.out,.inl ⟨val [],_,hE.out,by simp,_,_,_,H3.out⟩⟩
 | cons y q =>
  have hk0:(0:Int)<(k.toNat:Int):=by simp at hlen;omega
  have hc:=Row.cell0 h3;have hy:((y.toNat:Int) == 0)=false:=by
   have hz:=hZ.out;simp at hz;have:y.toNat≠0:=fun e=>hz (by apply UInt8.toNat_inj.1;simpa using e);simp;omega
  have Hl:=QH hlen;have H5:=QH h3;clear hlen h3 hZ;go_wp2;go_loop [7,47] (fun n i=>qi9 (y::q) n i) (fun _ i=>k.toNat-(intOf i).toNat);case atStart=>exact⟨0,Nat.zero_le _,rfl,rfl⟩
  case round =>
   obtain⟨j,hj,rfl,rfl⟩:=hrel;by_cases hlt:j<k.toNat
   ·have hl:=Hl.out;have hc:=H5.out.cell j (by omega);have hb:val ((y::q).take j)<72057594037927936:=by
     have a:=qcl ((y::q).take j);have b:256 ^ ((y::q).take j).length≤256 ^ 7:=Nat.pow_le_pow_right (by omega) (by rw[List.length_take];omega);have e:(256:Nat) ^ 7=72057594037927936:=by decide
     omega
    have hs:=qah (y::q) j (by omega);have Hs:=QH hs;generalize val ((y::q).take j)=v at *;generalize (y::q)[j]=z at *;have hzb:z.toNat<256:=z.toNat_lt;clear hs;go_wp2;rw[qm1 v z.toNat hb hzb];exact⟨⟨j+1,by omega,by go_num,by rw[Hs.out]⟩,by simp[intOf];omega⟩
   ·have hl:=Hl.out;have hjl:j=(y::q).length:=by omega
    have ht:val ((y::q).take j)=val (y::q):=by rw[hjl,List.take_length]
    have Ht:=QH ht;clear ht hjl hl;go_wp2;go_ret2;exact⟨zN H2.out H4.out,.inl ⟨val (y::q),_,hE.out,by rw[← Ht.out];rfl,_,_,_,H3.out⟩⟩
theorem aX (b:Nat)(l:List UInt8)(x:Bool)(w:World)(h:zj b l x w) :
    Calls prog 254 #[.func (.func 281) #[.pointer (some ⟨b,0,none⟩)] #[]] w (oN b l x w):=by
 cases l with
 | nil=>exact qf2 b x w h
 | cons k r =>
  by_cases hk:k.toNat≤8
  ·by_cases hr:k.toNat≤r.length
   ·by_cases h0:(r.take k.toNat).head? = some 0
    ·exact qi8 b k r x w h hk hr h0
    ·exact qiA b k r x w h hk hr h0
   ·exact qf3 b k r x w h hk (by omega)
  ·exact qm0 b k r x w h (by omega)
theorem zj.flag{b:Nat}{l:List UInt8}{x:Bool}{w:World}(h:zj b l x w)(y:Bool):zj b l y (w.setCell ⟨b,1,none⟩ (.bool y)):=by
 obtain⟨g,o,cap,hb,hr,h1,h2⟩:=h;have hgb:g≠b:=by
  intro e;subst e;obtain⟨cs,fr,hg',_⟩:=hr;rw[hb]at hg';simp at hg'
 have hw:=heap_setCell_same w b 1 _ 274 (.bool y) hb;exact⟨g,o,cap,by rw[hw];simp,hr.keep (Below.heap_setCell w _ _ g hgb),h1,h2⟩
theorem zj.dc(b:Nat)(w:World)(v:Value):w.grownBy (w.setCell ⟨b,1,none⟩ v) (some b) :=
 ⟨rfl,rfl,rfl,by simp[World.setCell],fun k _ hk=>Below.heap_setCell _ _ _ _ (fun e=>hk (by simp[e]))⟩
theorem zj.cell1{b:Nat}{l:List UInt8}{x:Bool}{w:World}(h:zj b l x w):w.cell? ⟨b,1,none⟩=some (.bool x)∧w.frozen? ⟨b,1,none⟩=false:=by
 obtain⟨g,o,cap,hb,_⟩:=h;exact⟨by simp[World.cell?,hb],by simp[World.frozen?,hb]⟩
def iF (b:Nat)(l:List UInt8)(w:World)(e:Ending)(w':World):Prop :=
 w.grownBy w' (some b) ∧
  ((∃n r,rdNum l=some (n,r)∧e=.returned (.int .u64 (n:Int))∧zj b r false w') ∨
   (rdNum l=none∧e=.returned (.int .u64 0)∧∃m,zj b m true w'))
theorem qak(b:Nat)(l:List UInt8)(w:World)(h:zj b l false w) :
    Calls prog 253 #[.pointer (some ⟨b,0,none⟩),.func (.func 254) #[] #[]] w (iF b l w):=by
 go_enter func253,ntmps253;go_wp2_with (go_at_call 280;refine(qcr b l _ h).mono ?_;rintro e w' ⟨rfl,rfl⟩);go_wp2_with (go_at_call 254;refine(aX b l false _ h).mono ?_);rintro e w1 ⟨hg,⟨n,r,hn,rfl,hr⟩|⟨hn,rfl,m,hm⟩⟩
 ·have Hn:=QH hn;have Hg:=QH hg;obtain⟨hc,hf⟩:=hr.cell1;have Hr:=QH (hr.flag false);clear hn hg hr;go_wp2;go_ret;exact⟨zN Hg.out (zj.dc _ _ _),.inl ⟨n,r,Hn.out,rfl,Hr.out⟩⟩
 ·have Hn:=QH hn;have Hg:=QH hg;obtain⟨hc,hf⟩:=hm.cell1;have Hr:=QH (hm.flag true);clear hn hg hm;go_wp2;go_ret;exact⟨zN Hg.out (zj.dc _ _ _),.inr ⟨Hn.out,rfl,m,Hr.out⟩⟩
theorem qal(b:Nat)(l:List UInt8)(w:World)(h:zj b l true w) :
    Calls prog 253 #[.pointer (some ⟨b,0,none⟩),.func (.func 254) #[] #[]] w fun e w'=>e=.returned (.int .u64 0)∧w=w':=by
 go_enter func253,ntmps253;go_wp2_with (go_at_call 280;refine(qi4 b l _ h).mono ?_;rintro e w' ⟨rfl,rfl⟩);go_ret;exact⟨rfl,rfl⟩
theorem uP (b:Nat)(l:List UInt8)(w:World)(h:zj b l false w):Calls prog 191 #[.pointer (some ⟨b,0,none⟩)] w (iF b l w):=by
 go_enter func191,ntmps191;go_wp2_with (go_at_call 253;refine(qak b l _ h).mono ?_);rintro e w1 ⟨hg,⟨n,r,hn,rfl,hr⟩|⟨hn,rfl,hm⟩⟩
 ·have H:Hid (iF b l w (.returned (.int .u64 (n:Int))) w1):=⟨hg,.inl ⟨n,r,hn,rfl,hr⟩⟩;clear hg hn hr;go_wp2;go_ret;exact H.out
 ·have H:Hid (iF b l w (.returned (.int .u64 0)) w1):=⟨hg,.inr ⟨hn,rfl,hm⟩⟩;clear hg hn hm;go_wp2;go_ret;exact H.out
theorem l7 (b:Nat)(l:List UInt8)(w:World)(h:zj b l true w):Calls prog 191 #[.pointer (some ⟨b,0,none⟩)] w fun e w'=>e=.returned (.int .u64 0)∧w=w':=by
 go_enter func191,ntmps191;go_wp2_with (go_at_call 253;refine(qal b l _ h).mono ?_;rintro e w' ⟨rfl,rfl⟩);go_ret;exact⟨rfl,rfl⟩
end Go.Proofs.YtdpbdkacngaemaaGreatDoor.wi
namespace Go.Proofs.YtdpbdkacngaemaaGreatDoor.ib
open _root_.Go.Proofs.Tryz Go Go.RowKit Go.ChangeShapes Go.WideShapes Go.Deep
def qA (x:Int):Prop:=-9223372036854775808≤x∧x≤9223372036854775807
def qH (w:World)(a:Option Addr)(zs:List Int):Prop :=
 ∀i (h:i<zs.length),∃b o,a=some ⟨b,o,none⟩∧b<w.heap.size∧w.cell? ⟨b,o+i,none⟩=some (.int .i64 zs[i])∧qA zs[i]
theorem qH.below{w w':World}{a:Option Addr}{zs:List Int}(h:qH w a zs)(hb:Below w.heap.size w w'):qH w' a zs:=by
 intro i hi;obtain⟨b,o,h1,h2,h3,h4⟩:=h i hi;exact⟨b,o,h1,Nat.lt_of_lt_of_le h2 hb.size,by rw[hb.cell (p:=⟨b,o+i,none⟩) h2];exact h3,h4⟩
theorem qH.nil(w:World)(a:Option Addr):qH w a []:=fun i h=>absurd h (by simp)
theorem qH.mem{w:World}{a:Option Addr}{zs:List Int}(h:qH w a zs):∀z∈zs,qA z:=by
 intro z hz;obtain⟨i,hi,rfl⟩:=List.getElem_of_mem hz;obtain⟨_,_,_,_,_,h4⟩:=h i hi;exact h4
theorem qH.take{w:World}{a:Option Addr}{zs:List Int}(h:qH w a zs)(n:Nat):qH w a (zs.take n):=fun i hi=>by
 have:=h i (by simp at hi;omega);simpa using this
def qV (w:World)(B:Nat)(v:Value)(zs:List Int):Prop:=w.ownsRow B 3 1 v zs.length (zs.map (Value.int .i64))
theorem vE:(prog.info? 3).map (fun i=>(i.zero,i.size,i.bytes))=some (some (.int .i64 0),1,8):=by kernel_rfl
theorem qV.view{w:World}{B:Nat}{v:Value}{zs:List Int}(h:qV w B v zs)(hz:∀z∈zs,qA z):∃a c,v=.slice a zs.length c∧qH w a zs∧∀b o,a=some ⟨b,o,none⟩→B≤b∧b<w.heap.size:=by
 rcases h.2 with⟨rfl,h0⟩|⟨g,cap,cur,rfl,hg,hh,hcc,hm,hcs,yb⟩
 ·obtain rfl:zs=[]:=List.length_eq_zero_iff.1 h0;exact⟨none,0,rfl,(fun i h=>by simp at h),fun b o h=>by cases h⟩
 ·refine⟨some ⟨g,0,none⟩,cap,rfl,fun i hi=>⟨g,0,rfl,(Array.getElem?_eq_some_iff.1 hh).1,?_,hz _ (List.getElem_mem hi)⟩,fun b o h=>?_⟩
  ·rw[Nat.zero_add,cell_of_row w g i cur 3 (0,0) hh];have h3:(cur.toList.take (zs.length*1))[i]?=some (.int .i64 zs[i]):=by rw[yb];simp[hi]
   rw[List.getElem?_take]at h3;split at h3
   ·simpa using h3
   ·cases h3
  ·simp only[Option.some.injEq,Addr.mk.injEq,and_true]at h;obtain⟨rfl,_⟩:=h;exact⟨hg,(Array.getElem?_eq_some_iff.1 hh).1⟩
theorem fp {α:Type}{p:Nat→α→Prop}:∀(n:Nat),(∀i,i<n→∃x,p i x)→∃l:List α,l.length=n∧∀i (h:i<l.length),p i l[i]
 | 0,_=>⟨[],rfl,fun i h=>absurd h (by simp)⟩
 | n+1,h=>by
  obtain⟨l,hl,hp⟩:=fp n (fun i hi=>h i (by omega));obtain⟨x,hx⟩:=h n (by omega);refine⟨l++[x],by simp[hl],fun i hi=>?_⟩;by_cases hin:i<l.length
  ·rw[List.getElem_append_left hin];exact hp i hin
  ·have:i=l.length:=by simp at hi;omega
   subst this;rw[List.getElem_append_right (Nat.le_refl _)];simpa[hl]using hx
section
variable {H:Type} {enc:TypeId × Value→H} {w:World} {held:Bool} {a:Option Addr} {l c:Nat} {d:DataW H} {pl:List MemPlace}
end
end Go.Proofs.YtdpbdkacngaemaaGreatDoor.ib
namespace Go.Proofs.YtdpbdkacngaemaaGreatDoor.ib
open _root_.Go.Proofs.Tryz Go Go.RowKit
def qh (w:World)(g:Nat)(t:TypeId)(cs:Array Value):Prop:=w.heap[g]?=some (.cells cs t (0,0))
section
variable {w w':World} {g:Nat} {t:TypeId} {cs:Array Value}
theorem qh.lt(h:qh w g t cs):g<w.heap.size:=by
 unfold qh at h;exact(Array.getElem?_eq_some_iff.1 h).1
theorem qh.cell(h:qh w g t cs)(i:Nat):w.cell? ⟨g,i,none⟩=cs[i]? :=cell_of_row w g i cs t (0,0) h
theorem qh.frozen(h:qh w g t cs)(i:Nat):w.frozen? ⟨g,i,none⟩=false:=by
 unfold qh at h;simp[World.frozen?,h]
theorem qh.new(w:World)(t:TypeId)(cs:Array Value):qh (w.alloc (.cells cs t)) w.heap.size t cs:=heap_alloc_new w _
theorem qh.of_block(h:qh w g t cs)(hb:w'.heap[g]?=w.heap[g]?):qh w' g t cs:=hb.trans h
theorem qh.below(h:qh w g t cs)(hb:Below w.heap.size w w'):qh w' g t cs:=h.of_block (hb.block _ h.lt)
theorem qh.qu(h:qh w g t cs)(i:Nat)(u:Value):qh (w.setCell ⟨g,i,none⟩ u) g t (cs.setIfInBounds i u):=heap_setCell_same w g i cs t u h
end
structure qB(S:Nat→Prop)(w w':World):Prop where
 os:w'.os=w.os
 tape:w'.tape=w.tape
 output:w'.output=w.output
 size:w.heap.size≤w'.heap.size
 block:∀k,k<w.heap.size→¬ S k→w'.heap[k]?=w.heap[k]?
section
variable {S S':Nat→Prop} {a b c w w':World}
theorem qB.refl(S:Nat→Prop)(w:World):qB S w w:=⟨rfl,rfl,rfl,Nat.le_refl _,fun _ _ _=>rfl⟩
theorem qB.trans(h:qB S a b)(k:qB S' b c)(hs:∀i,S' i→S i∨a.heap.size≤i):qB S a c :=
 ⟨k.os.trans h.os,k.tape.trans h.tape,k.output.trans h.output,Nat.le_trans h.size k.size,fun i hi hn=>by
  refine(k.block i (Nat.lt_of_lt_of_le hi h.size) (fun e=>?_)).trans (h.block i hi hn);rcases hs i e with h1|h1
  ·exact hn h1
  ·omega⟩
theorem qB.mono(h:qB S w w')(hs:∀i,S i→S' i):qB S' w w':=⟨h.os,h.tape,h.output,h.size,fun k hk hn=>h.block k hk (fun e=>hn (hs k e))⟩
theorem qB.of_below(h:Below w.heap.size w w'):qB S w w':=⟨h.os,h.tape,h.output,h.size,fun k hk _=>h.block k hk⟩
theorem qB.drew(h:qB S a w):qB S a w.drew:=⟨h.os,h.tape,h.output,h.size,h.block⟩
theorem qB.drewN(h:qB S a w)(n:Nat):qB S a (w.drewN n):=⟨h.os,h.tape,h.output,h.size,h.block⟩
theorem qB.alloc(h:qB S a w)(o:Obj):qB S a (w.alloc o) :=
 h.trans (S':=fun _=>False) ⟨rfl,rfl,rfl,by simp,fun k hk _=>Below.heap_alloc _ _ _ hk⟩ (fun _ e=>e.elim)
theorem qB.setCell(h:qB S a w)(p:Addr)(u:Value)(hp:S p.block∨a.heap.size≤p.block):qB S a (w.setCell p u) :=
 h.trans (S':=fun k=>k=p.block) ⟨rfl,rfl,rfl,by simp[World.setCell],fun k _ hn=>Below.heap_setCell _ _ _ _ hn⟩ (fun i e=>by rw[e];exact hp)
theorem qB.below{B:Nat}(h:qB S a w)(hs:∀i,S i→B≤i)(hB:B≤a.heap.size):Below B a w :=
 ⟨h.os,h.tape,h.output,h.size,fun k hk=>h.block k (by omega) (fun e=>by have:=hs k e;omega)⟩
end
end Go.Proofs.YtdpbdkacngaemaaGreatDoor.ib
namespace Go.Proofs.YtdpbdkacngaemaaGreatDoor.ib
open _root_.Go.Proofs.Tryz Go Go.RowKit
def qj (cs:List Int):Array Value:=(cs.map (Value.int .i64)).toArray
theorem kr (cs:List Int)(i:Nat)(h:i<cs.length):(qj cs)[i]?=some (.int .i64 cs[i]):=by simp[qj,h]
theorem jI (cs:List Int):(qj cs).size=cs.length:=by simp[qj]
theorem l8 (cs:List Int)(i:Nat)(v:Int):(qj cs).setIfInBounds i (.int .i64 v)=qj (cs.set i v):=by
 unfold qj;rw[List.setIfInBounds_toArray,List.map_set]
theorem qcv(n:Nat):madeCells #[.int .i64 0] n=qj (List.replicate n 0):=by
 apply Array.ext
 ·simp[size_madeCells,qj]
 ·intro j h1 h2;have e:(qj (List.replicate n 0))[j]?=some (.int .i64 0):=by
   have hj:j<n:=by simpa[qj]using h2
   rw[kr _ _ (by simpa using hj),List.getElem_replicate]
  rw[Array.getElem?_eq_getElem h2]at e;rw[Option.some.inj e];simp[madeCells,Nat.mod_one]
theorem qh.nums{w:World}{g:Nat}{cs:List Int}(h:qh w g 3 (qj cs))(hz:∀z∈cs,qA z):qH w (some ⟨g,0,none⟩) cs:=fun i hi =>
 ⟨g,0,rfl,h.lt,by rw[Nat.zero_add,h.cell i];exact kr cs i hi,hz _ (List.getElem_mem hi)⟩
theorem wL (W:World)(zs:List Int)(hz:∀z∈zs,qA z):qH (W.alloc (.cells (qj zs) 3)) (some ⟨W.heap.size,0,none⟩) zs:=qh.nums (qh.new W 3 (qj zs)) hz
theorem oO (n:Int)(h0:0≤n)(h:n*8≤140737488355328)(W:World):(Instr.makeSlice 80 (.int .i64 n) (.int .i64 n)).run prog W=.ok (.slice (some ⟨W.heap.size,0,none⟩) n.toNat n.toNat) (W.alloc (.cells (qj (List.replicate n.toNat 0)) 3)):=by
 obtain⟨i0,hi,hz0,hz1,hz2⟩:=info_parts vE;have hmk:=run_make (P:=prog) W 80 3 i0 (.int .i64 0) underlying80 hi hz0 .i64 .i64 n n h0 (Int.le_refl _) (by rw[hz2];omega) (by omega);rw[hz1]at hmk;rw[← qcv];simpa[Value.cells]using hmk
def kE (r:Bool)(w:World)(e:Ending)(w':World):Prop:=e=.returned (.bool r)∧Below w.heap.size w w'
def ai (r:Int)(w:World)(e:Ending)(w':World):Prop:=e=.returned (.int .i64 r)∧Below w.heap.size w w'
structure New(w w':World)(A:Option Addr)(r:List Int)(cc:Nat):Prop where
 ints:qH w' A r
 free:∀i,i<r.length→∀b o,A=some ⟨b,o,none⟩→w'.frozen? ⟨b,o+i,none⟩=false
 new:∀b o,A=some ⟨b,o,none⟩→w.heap.size≤b∧b<w'.heap.size
 cap:r.length≤cc
 nil:A=none→r.length=0∧cc=0
structure yU(w:World)(A:Option Addr)(l:List Int)(c:Nat):Prop where
 ints:qH w A l
 cap:l.length≤c
 nil:A=none→l.length=0∧c=0
theorem yU.below{w w':World}{A:Option Addr}{l:List Int}{c:Nat}(h:yU w A l c)(hb:Below w.heap.size w w'):yU w' A l c:=⟨h.ints.below hb,h.cap,h.nil⟩
theorem New.sl{w w':World}{A:Option Addr}{r:List Int}{cc:Nat}(h:New w w' A r cc):yU w' A r cc:=⟨h.ints,h.cap,h.nil⟩
theorem yU.none(w:World):yU w none [] 0:=⟨qH.nil _ _,Nat.le_refl _,fun _=>⟨rfl,rfl⟩⟩
theorem qqu(W:World)(zs:List Int)(hz:∀z∈zs,qA z):yU (W.alloc (.cells (qj zs) 3)) (some ⟨W.heap.size,0,Option.none⟩) zs zs.length:=⟨wL W zs hz,Nat.le_refl _,fun h=>by cases h⟩
def qf4 (r:List Int × Int)(w:World)(e:Ending)(w':World):Prop:=∃A cc,e=.returned (.tuple #[.slice A r.1.length cc,.int .i64 r.2])∧New w w' A r.1 cc∧Below w.heap.size w w'
theorem New.empty(w w':World):New w w' none [] 0:=⟨qH.nil _ _,fun _ h=>absurd h (by simp),(fun _ _ h=>by cases h),Nat.le_refl _,fun _=>⟨rfl,rfl⟩⟩
theorem l9 {c:Int}{w w':World}(h:Below w.heap.size w w'):qf4 ([],c) w (.returned (.tuple #[.slice none 0 0,.int .i64 c])) w' :=
 ⟨none,0,rfl,New.empty _ _,h⟩
theorem qV.new{w w':World}{v:Value}{zs:List Int}(h:qV w' w.heap.size v zs)(hz:∀z∈zs,qA z):∃A cc,v=.slice A zs.length cc∧New w w' A zs cc:=by
 rcases h.2 with⟨rfl,h0⟩|⟨g,cap,cur,rfl,hg,hh,hcc,hm,hcs,yb⟩
 ·obtain rfl:zs=[]:=List.length_eq_zero_iff.1 h0;exact⟨none,0,rfl,New.empty _ _⟩
 ·obtain⟨A,cc,hv,hi,hb⟩:=h.view hz;simp only[Value.slice.injEq]at hv;obtain⟨rfl,_,rfl⟩:=hv;refine⟨_,_,rfl,hi,fun i _ b o hA=>?_,hb,by omega,fun h=>by cases h⟩;simp only[Option.some.injEq,Addr.mk.injEq,and_true]at hA;obtain⟨rfl,_⟩:=hA;simp[World.frozen?,hh]
theorem qcw{w w':World}{v:Value}{zs:List Int}{c:Int}{r:List Int × Int}(ho:qV w' w.heap.size v zs)(hz:∀z∈zs,qA z)(hb:Below w.heap.size w w')(hr:r=(zs,c)) :
    qf4 r w (.returned (.tuple #[v,.int .i64 c])) w':=by
 subst hr;obtain⟨A,cc,rfl,hn⟩:=ho.new hz;exact⟨A,cc,rfl,hn,hb⟩
end Go.Proofs.YtdpbdkacngaemaaGreatDoor.ib
namespace Go.Proofs.YtdpbdkacngaemaaGreatDoor
open _root_.Go.Proofs.Tryz Go Go.RowKit
theorem aY {P:Program}{id:Nat}{Q:Exit→Act→World→Prop}{a:Act}{w:World}{l:List Oper}(n:Nat)(hm:P.follows .mixedOrders=true)(hB:Region.lexTailB .any l.toArray n=true)
    (h:wpStill P l.toArray w.drew (fun a'=>wpList P l.toArray Q (l.drop n) a' w.drew) (l.take n) a):(Code.region id l.toArray true).wp P Q a w :=
 wp_region_still_tail n hm hB h
theorem qam{P:Program}{ops:Array Oper}{w:World}{Q:Act→Prop}{o:Oper}{rest:List Oper}{a:Act}{v:Value}(hg:o.guard=none)(h:(execOp a.eval o).run P w=.ok (.value v) w)
    (hn:wpStill P ops w Q rest (a.put o.dst v)):wpStill P ops w Q (o::rest) a:=by
 have hw:Region.wanted o (yielded ops a.tmps)=true:=by simp[Region.wanted,hg]
 unfold wpStill;rw[if_pos hw];unfold Oper.still;rw[h];exact⟨rfl,hn⟩
theorem qiB{P:Program}{o:Oper}{a:Act}{w w':World}{v:Value}{K:Act→World→Prop}{Q:Exit→Act→World→Prop}(h:(execOp a.eval o).run P w=.ok (.value v) w')(hn:K (a.put o.dst v) w'):o.wp P a w K Q:=by
 unfold Oper.wp;rw[h];exact hn
theorem qx {P:Program}{ops:Array Oper}{rest:List Oper}{o:Oper}{a:Act}{w w':World}{v:Value}{Q:Exit→Act→World→Prop}(hg:o.guard=none)(h:(execOp a.eval o).run P w=.ok (.value v) w')
    (hn:wpList P ops Q rest (a.put o.dst v) w'):wpList P ops Q (o::rest) a w :=
 wpList_plain hg fun _ hK=>qiB h (hK _ _ hn)
theorem wp_skip{P:Program}{o:Oper}{a:Act}{w w':World}{K:Act→World→Prop}{Q:Exit→Act→World→Prop}(h:(execOp a.eval o).run P w=.ok .skip w')(hn:K (a.put o.dst undef) w'):o.wp P a w K Q:=by
 unfold Oper.wp;rw[h];exact hn
theorem wpList_skip{P:Program}{ops:Array Oper}{rest:List Oper}{o:Oper}{a:Act}{w w':World}{Q:Exit→Act→World→Prop}(hg:o.guard=none)(h:(execOp a.eval o).run P w=.ok .skip w')
    (hn:wpList P ops Q rest (a.put o.dst undef) w'):wpList P ops Q (o::rest) a w :=
 wpList_plain hg fun _ hK=>wp_skip h (hK _ _ hn)
end Go.Proofs.YtdpbdkacngaemaaGreatDoor
namespace Go.Proofs.YtdpbdkacngaemaaGreatDoor.ib
open _root_.Go.Proofs.Tryz Go Go.RowKit
abbrev Bt:=List UInt8
def zz:Bt:=List.replicate 32 0
def rep (c:UInt8)(n:Nat):Bt:=List.replicate n c
def dat (c:UInt8):Bt:=if c.toNat≤250 then rep c 32 else rep c (c.toNat%31)
theorem zh:zz.length=32:=by simp[zz]
theorem fu (z:Nat):madeCells #[Value.int .u8 0] z=(Lib.byteCells (List.replicate z 0)).toArray:=by
 apply Array.ext';apply List.ext_getElem?;intro j;by_cases hj:j<z <;> simp[madeCells,Lib.byteCells,hj,Nat.mod_one]
theorem qcx(e:Int)(z:Nat)(w:World)(he:e=(z:Int))(hz:z≤1000000) :
    (Instr.makeSlice 64 (.int .i64 e) (.int .i64 e)).run prog w=.ok (.slice (some ⟨w.heap.size,0,none⟩) z z) (w.alloc (.cells (Lib.byteCells (List.replicate z 0)).toArray 5)):=by
 subst he;obtain⟨i0,hi,hz0,hz1,hz2⟩:=info_parts Tryz.qae;have hmk:=run_make (P:=prog) w 64 5 i0 (.int .u8 0) underlying64 hi hz0 .i64 .i64 (z:Int) (z:Int) (by omega) (by omega) (by rw[hz2];omega) (by omega);rw[hz1]at hmk;rw[← fu];simpa[Value.cells]using hmk
theorem qan{ρ:Operand→Value}{o:Oper}{w:World}(x y:Operand)(z:Nat)(ho:o.op=.makeSlice 64 x y)(hx:ρ x=.int .i64 (z:Int))(hy:ρ y=.int .i64 (z:Int))(hz:z≤1000000) :
    (execOp ρ o).run prog w=.ok (.value (.slice (some ⟨w.heap.size,0,none⟩) z z)) (w.alloc (.cells (Lib.byteCells (List.replicate z 0)).toArray 5)):=by
 have hr:=qcx (z:Int) z w rfl hz;simp[execOp,ho,hx,hy,hr,Result.andThen]
theorem aj (P:Bt)(b k:Nat)(t:TypeId)(w:World)(hk:P.length=k)(h:w.heap[b]?=some (.cells (Lib.byteCells P).toArray t (0,0))) :
    (convert 64 9 (.slice (some ⟨b,0,none⟩) k k)).run prog w=.ok (.string (str P)) w:=by
 subst hk;refine run_convert_bytes_back (P:=prog) w 64 9 5 ⟨b,0,none⟩ P.length P underlying64 underlying5 underlying9 ?_;intro j hj;rw[addr_add,Nat.zero_add,cell_of_row w b j _ _ _ h];simp[Lib.byteCells,hj]
def okS (v:Bt)(w:World)(e:Ending)(w':World):Prop:=e=.returned (.string (str v))∧Below w.heap.size w w'
def uQ (c:UInt8)(k:Nat):Array Value:=(Lib.byteCells (List.replicate k c++List.replicate (32-k) 0)).toArray
theorem qcy(c:UInt8):uQ c 0=(Lib.byteCells (List.replicate 32 0)).toArray:=rfl
theorem qcz(c:UInt8)(k:Nat)(h:k≤32):(uQ c k).size=32:=by simp[uQ,Lib.byteCells];omega
theorem qf5(c:UInt8)(k:Nat)(h:k<32):(uQ c k).setIfInBounds k (.int .u8 (c.toNat:Int))=uQ c (k+1):=by
 unfold uQ Lib.byteCells;simp only[List.setIfInBounds_toArray,List.map_append,List.map_replicate];rw[List.set_append_right _ _ (by simp)]
 congr 1
 rw[show 32-k=(32-(k+1))+1 by omega,List.replicate_succ,List.replicate_succ'];simp
theorem qc0(c:UInt8)(n:Nat):(rep c n).length=n:=by simp[rep]
theorem qc1(c:UInt8):uQ c 32=(Lib.byteCells (rep c 32)).toArray:=by simp[uQ,rep]
def zJ (x:Int):Prop:=-9223372036854775808≤x∧x≤9223372036854775807
def TxL (w:World)(A:Option Addr)(ts:List Bt):Prop :=
 ∀i (h:i<ts.length),∃b o,A=some ⟨b,o,none⟩∧b<w.heap.size∧w.cell? ⟨b,o+i,none⟩=some (.string (str ts[i]))
theorem TxL.kept{w w':World}{A:Option Addr}{ts:List Bt}(h:TxL w A ts)(hs:w.heap.size≤w'.heap.size)(hk:∀b o,A=some ⟨b,o,none⟩→w'.heap[b]?=w.heap[b]?):TxL w' A ts:=by
 intro i hi;obtain⟨b,o,h1,h2,h3⟩:=h i hi;exact⟨b,o,h1,Nat.lt_of_lt_of_le h2 hs,by rw[World.cell?_of_block (a:=⟨b,o+i,none⟩) (hk b o h1)];exact h3⟩
theorem TxL.below{w w':World}{A:Option Addr}{ts:List Bt}(h:TxL w A ts)(hb:Below w.heap.size w w'):TxL w' A ts:=by
 intro i hi;obtain⟨b,o,h1,h2,h3⟩:=h i hi;exact⟨b,o,h1,Nat.lt_of_lt_of_le h2 hb.size,by rw[hb.cell (p:=⟨b,o+i,none⟩) h2];exact h3⟩
def ir (w w':World)(A:Option Addr):Prop:=∀b o,A=some ⟨b,o,none⟩→w.heap.size≤b∧b<w'.heap.size
theorem ir.none(w w':World):ir w w' none:=fun _ _ h=>by cases h
end Go.Proofs.YtdpbdkacngaemaaGreatDoor.ib
namespace Go.Proofs.YtdpbdkacngaemaaGreatDoor.mt
open _root_.Go.Proofs.Tryz Go Go.RowKit ib wi
def ji (w:World)(A:Option Addr)(xs:List Sp):Prop :=
 ∀i (h:i<xs.length),∃b o B c,A=some ⟨b,o,none⟩∧b<w.heap.size∧w.cell? ⟨b,o+i*4,none⟩=some (.int .u64 (xs[i].g.1:Int))∧w.cell? ⟨b,o+i*4+1,none⟩=some (.int .u64 (xs[i].g.2:Int)) ∧
  w.cell? ⟨b,o+i*4+2,none⟩=some (.slice B xs[i].qp.length c)∧w.cell? ⟨b,o+i*4+3,none⟩=some (.bool xs[i].hid)∧yU w B xs[i].qp c∧zV xs[i].g
theorem ji.below{w w':World}{A:Option Addr}{xs:List Sp}(h:ji w A xs)(hb:Below w.heap.size w w'):ji w' A xs:=by
 intro i hi;obtain⟨b,o,B,c,h1,h2,h3,h4,h5,h6,h7,h8⟩:=h i hi;exact⟨b,o,B,c,h1,Nat.lt_of_lt_of_le h2 hb.size,by rw[hb.cell (p:=⟨b,o+i*4,none⟩) h2];exact h3,by rw[hb.cell (p:=⟨b,o+i*4+1,none⟩) h2];exact h4,by rw[hb.cell (p:=⟨b,o+i*4+2,none⟩) h2];exact h5,by rw[hb.cell (p:=⟨b,o+i*4+3,none⟩) h2];exact h6,h7.below hb,h8⟩
theorem ji.nil(w:World)(A:Option Addr):ji w A []:=fun i h=>absurd h (by simp)
theorem ji.gds{w:World}{A:Option Addr}{xs:List Sp}(h:ji w A xs):∀s∈xs,zV s.g:=by
 intro s hs;obtain⟨i,hi,rfl⟩:=List.getElem_of_mem hs;obtain⟨_,_,_,_,_,_,_,_,_,_,_,h8⟩:=h i hi;exact h8
def zw (A0 A1 A2:Option Addr)(c0 c1 c2:Nat)(m:Mt):Array Value:=#[.slice A0 m.live.length c0,.slice A1 m.qd.length c1,.int .u64 (m.tok.base.1:Int),.int .u64 (m.tok.base.2:Int),.int .u64 (m.tok.target.1:Int),.int .u64 (m.tok.target.2:Int),.int .i64 m.tok.next,.int .i64 m.tok.all,.slice A2 m.tok.qp.length c2]
structure MtL(w:World)(A0 A1 A2:Option Addr)(c0 c1 c2:Nat)(m:Mt):Prop where
 live:yU w A0 m.live c0
 qd:ji w A1 m.qd
 room:m.qd.length≤c1∧(A1=none→m.qd.length=0∧c1=0)
 qp:yU w A2 m.tok.qp c2
 base:zV m.tok.base
 target:zV m.tok.target
 next:qA m.tok.next
 all:qA m.tok.all
theorem MtL.below{w w':World}{A0 A1 A2:Option Addr}{c0 c1 c2:Nat}{m:Mt}(h:MtL w A0 A1 A2 c0 c1 c2 m)(hb:Below w.heap.size w w'):MtL w' A0 A1 A2 c0 c1 c2 m :=
 ⟨h.live.below hb,h.qd.below hb,h.room,h.qp.below hb,h.base,h.target,h.next,h.all⟩
theorem MtL.mB{w:World}{A0 A1 A2:Option Addr}{c0 c1 c2:Nat}{m:Mt}(h:MtL w A0 A1 A2 c0 c1 c2 m):mB m:=⟨h.qd.gds,h.base,h.target⟩
structure mtS(m:Mt):Prop where
 live:m.live.length≤1000
 qd:m.qd.length≤1000
 wM:∀s∈m.qd,s.qp.length≤1000
 qp:m.tok.qp.length≤1000
def nR (w:World)(v:Value)(m:Mt):Prop:=∃A0 A1 A2 c0 c1 c2,v=.agg (zw A0 A1 A2 c0 c1 c2 m)∧MtL w A0 A1 A2 c0 c1 c2 m
theorem nR.below{w w':World}{v:Value}{m:Mt}(h:nR w v m)(hb:Below w.heap.size w w'):nR w' v m:=by
 obtain⟨A0,A1,A2,c0,c1,c2,h1,h2⟩:=h;exact⟨A0,A1,A2,c0,c1,c2,h1,h2.below hb⟩
theorem nR.mB{w:World}{v:Value}{m:Mt}(h:nR w v m):mB m:=by
 obtain⟨A0,A1,A2,c0,c1,c2,h1,h2⟩:=h;exact h2.mB
def qqv (r:List UInt8 × Int)(w:World)(e:Ending)(w':World):Prop:=e=.returned (.tuple #[.string (str r.1),.int .i64 r.2])∧Below w.heap.size w w'
end Go.Proofs.YtdpbdkacngaemaaGreatDoor.mt
namespace Go.Proofs.YtdpbdkacngaemaaGreatDoor.mt
open _root_.Go.Proofs.Tryz Go Go.RowKit ib
@[go_sem] theorem qup (a b c d:Int) (w:World):(Op.equalIn 10000 38 (.agg #[.int .u64 a,.int .u64 b]) (.agg #[.int .u64 c,.int .u64 d])).run prog w=.ok (a == c&&b == d) w:=by
 have u3:=underlying36;have a3:=isAgg36;have z3:=sizeOf36;rw[show(10000:Nat)=9999+1 from rfl,run_equalIn_agg w 9999 38 _ _ (by kernel_rfl) (by kernel_rfl)];simp only[Program.fieldsOf,underlying38];go_simp;by_cases h1:a=c <;> by_cases h2:b=d <;> simp[h1,h2]
def gv (g:Gd):Value:=.agg #[.int .u64 (g.1:Int),.int .u64 (g.2:Int)]
theorem quq(x y:Gd):((x.1:Int) == (y.1:Int)&&(x.2:Int) == (y.2:Int))=decide (x=y):=by
 obtain⟨a,b⟩:=x;obtain⟨c,d⟩:=y;rw[Bool.eq_iff_iff];simp;omega
end Go.Proofs.YtdpbdkacngaemaaGreatDoor.mt
namespace Go.Proofs.YtdpbdkacngaemaaGreatDoor.wi
open _root_.Go.Proofs.Tryz Go.RowKit
def dR (c:Nat)(s:ByteArray)(bad:Bool)(w:World):Prop:=w.heap[c]?=some (.cells #[.string s,.bool bad] 208 (0,0))∧s.size≤1000000
theorem dR.cells{c:Nat}{s:ByteArray}{bad:Bool}{w:World}(h:dR c s bad w) :
    w.cell? ⟨c,0,none⟩=some (.string s)∧w.cell? ⟨c,1,none⟩=some (.bool bad)∧w.frozen? ⟨c,0,none⟩=false∧w.frozen? ⟨c,1,none⟩=false:=by
 obtain⟨hb,_⟩:=h;exact⟨by simp[World.cell?,hb],by simp[World.cell?,hb],by simp[World.frozen?,hb],by simp[World.frozen?,hb]⟩
theorem dR.qiD{c:Nat}{s:ByteArray}{bad:Bool}{w:World}(h:dR c s bad w)(t:ByteArray)(ht:t.size≤1000000):dR c t bad (w.setCell ⟨c,0,none⟩ (.string t)):=by
 have:=heap_setCell_same w c 0 _ 208 (.string t) h.1;exact⟨by rw[this];simp,ht⟩
theorem dR.qiE{c:Nat}{s:ByteArray}{bad:Bool}{w:World}(h:dR c s bad w)(x:Bool):dR c s x (w.setCell ⟨c,1,none⟩ (.bool x)):=by
 have:=heap_setCell_same w c 1 _ 208 (.bool x) h.1;exact⟨by rw[this];simp,h.2⟩
theorem dh (c o:Nat)(w:World)(v:Value):w.grownBy (w.setCell ⟨c,o,none⟩ v) (some c) :=
 ⟨rfl,rfl,rfl,by simp[World.setCell],fun k _ hk=>Below.heap_setCell _ _ _ _ (fun e=>hk (by simp[e]))⟩
theorem grown_drewN{w w':World}{r:Option Nat}(h:w.grownBy w' r)(n:Nat):w.grownBy (w'.drewN n) r:=⟨h.os,h.tape,h.output,h.size,h.block⟩
theorem kG {w w':World}{r:Option Nat}{n:Nat}(h:(w.drewN n).grownBy w' r):w.grownBy w' r:=⟨h.os,h.tape,h.output,h.size,h.block⟩
theorem wN (c:Nat)(s:ByteArray)(bad:Bool)(w:World)(h:dR c s bad w) :
    Calls prog 260 #[.pointer (some ⟨c,0,none⟩)] w fun e w'=>e=.returned (.tuple #[])∧dR c ⟨#[]⟩ true w'∧w.grownBy w' (some c):=by
 obtain⟨h1,h2,h3,h4⟩:=h.cells;have H:=QH ((h.qiD ⟨#[]⟩ (by decide)).qiE true);have G:=QH (zN (dh c 0 w (.string ⟨#[]⟩)) (dh c 1 _ (.bool true)));clear h;go_enter func260,ntmps260;go_wp2
 go_end0
 exact⟨rfl,H.out,G.out⟩
def qc2 (c:Nat)(s:ByteArray)(w:World)(e:Ending)(w':World):Prop :=
 w.grownBy w' (some c) ∧
  ((∃n r s',rdNum (bl s)=some (n,r)∧e=.returned (.int .u64 (n:Int))∧bl s'=r∧dR c s' false w') ∨
   (rdNum (bl s)=none∧e=.returned (.int .u64 0)∧dR c ⟨#[]⟩ true w'))
def oP (c:Nat)(w:World)(e:Ending)(w':World):Prop :=
 w.grownBy w' (some c)∧e=.returned (.int .u64 0)∧dR c ⟨#[]⟩ true w'
theorem qqw(s:ByteArray)(i:Nat)(h:i<s.size):(bl s)[i]'(by rw[zg];exact h)=s[i]:=rfl
theorem qm3(s:ByteArray)(h:0<s.size):bl s=s[0]::(bl s).drop 1:=by
 have hl:0<(bl s).length:=by rw[zg];exact h
 have:=List.drop_eq_getElem_cons hl;rw[List.drop_zero]at this;rw[this];rfl
theorem qur(c:Nat)(s:ByteArray)(w:World)(h:dR c s true w) :
    Calls prog 214 #[.pointer (some ⟨c,0,none⟩)] w (oP c w):=by
 obtain⟨h1,h2,h3,h4⟩:=h.cells;go_enter func214,ntmps214;go_wp2;go_quiet (fail);have hq:dR c s true (w.drewN nq):=h;go_wp2_with (go_at_call 260;refine(wN c s true _ hq).mono ?_);rintro e w2 ⟨rfl,nS,hg2⟩;have Hg:=QH (kG hg2);clear hg2;go_wp2;go_ret;exact⟨Hg.out,rfl,nS⟩
theorem qm4(c:Nat)(s:ByteArray)(w:World)(h:dR c s false w)(hp:s.size=0) :
    Calls prog 214 #[.pointer (some ⟨c,0,none⟩)] w (oP c w):=by
 obtain⟨h1,h2,h3,h4⟩:=h.cells;have e1:=QH (show((s.size:Int) == 0)=true by rw[beq_iff_eq];omega);clear hp;go_enter func214,ntmps214;go_wp2;have f1:=e1.out;go_quiet (fail);have hq:dR c s false (w.drewN nq):=h;go_wp2_with (go_at_call 260;refine(wN c s false _ hq).mono ?_);rintro e w2 ⟨rfl,nS,hg2⟩;have Hg:=QH (kG hg2);clear hg2;go_wp2;go_ret;exact⟨Hg.out,rfl,nS⟩
theorem qus(c:Nat)(s:ByteArray)(w:World)(h:dR c s false w)(hp:0<s.size)(hk:8<s[0].toNat) :
    Calls prog 214 #[.pointer (some ⟨c,0,none⟩)] w (oP c w):=by
 obtain⟨h1,h2,h3,h4⟩:=h.cells;have hp0:0<s.size:=by omega
 have hpi:(0:Int)<(s.size:Int):=by omega
 have e1:=QH (show((s.size:Int) == 0)=false by rw[beq_eq_false_iff_ne];omega);have e2:=QH (show decide ((8:Int)<(s[0].toNat:Int))=true by rw[decide_eq_true_iff];omega);go_enter func214,ntmps214;go_wp2;have f1:=e1.out;have f2:=e2.out;go_quiet (fail);have hq:dR c s false (w.drewN nq):=h;go_wp2_with (go_at_call 260;refine(wN c s false _ hq).mono ?_);rintro e w2 ⟨rfl,nS,hg2⟩;have Hg:=QH (kG hg2);clear hg2;go_wp2;go_ret;exact⟨Hg.out,rfl,nS⟩
theorem qm5(c:Nat)(s:ByteArray)(w:World)(h:dR c s false w)(hp:0<s.size)(hk:s[0].toNat≤8)(hl:s.size<1+s[0].toNat) :
    Calls prog 214 #[.pointer (some ⟨c,0,none⟩)] w (oP c w):=by
 obtain⟨h1,h2,h3,h4⟩:=h.cells;have hp0:0<s.size:=by omega
 have hpi:(0:Int)<(s.size:Int):=by omega
 have e1:=QH (show((s.size:Int) == 0)=false by rw[beq_eq_false_iff_ne];omega);have e2:=QH (show decide ((8:Int)<(s[0].toNat:Int))=false by rw[decide_eq_false_iff_not];omega);have e3:=QH (show decide ((s.size:Int)<(1:Int)+(s[0].toNat:Int))=true by rw[decide_eq_true_iff];omega);go_enter func214,ntmps214;go_wp2;have f1:=e1.out;have f2:=e2.out;have f3:=e3.out;go_quiet (fail);have hq:dR c s false (w.drewN nq):=h;go_wp2_with (go_at_call 260;refine(wN c s false _ hq).mono ?_);rintro e w2 ⟨rfl,nS,hg2⟩;have Hg:=QH (kG hg2);clear hg2;go_wp2;go_ret;exact⟨Hg.out,rfl,nS⟩
theorem qqx(c:Nat)(s:ByteArray)(w:World)(h:dR c s false w)(hp:1<s.size)(hk:s[0].toNat≤8)(hl:1+s[0].toNat≤s.size)(hk0:0<s[0].toNat)(h0:s[1].toNat=0) :
    Calls prog 214 #[.pointer (some ⟨c,0,none⟩)] w (oP c w):=by
 obtain⟨h1,h2,h3,h4⟩:=h.cells;have hp0:0<s.size:=by omega
 have hpi:(0:Int)<(s.size:Int):=by omega
 have e1:=QH (show((s.size:Int) == 0)=false by rw[beq_eq_false_iff_ne];omega);have qz8:(1:Int)<(s.size:Int):=by omega
 have e2:=QH (show decide ((8:Int)<(s[0].toNat:Int))=false by rw[decide_eq_false_iff_not];omega);have e3:=QH (show decide ((s.size:Int)<(1:Int)+(s[0].toNat:Int))=false by rw[decide_eq_false_iff_not];omega);have e4:=QH (show decide ((0:Int)<(s[0].toNat:Int))=true by rw[decide_eq_true_iff];omega);have e5:=QH (show((s[1].toNat:Int) == 0)=true by rw[beq_iff_eq];omega);clear h0;go_enter func214,ntmps214;go_wp2;have f1:=e1.out;have f2:=e2.out;have f3:=e3.out;have f4:=e4.out;have f5:=e5.out;go_quiet (fail);have hq:dR c s false (w.drewN nq):=h;go_wp2_with (go_at_call 260;refine(wN c s false _ hq).mono ?_);rintro e w2 ⟨rfl,nS,hg2⟩;have Hg:=QH (kG hg2);clear hg2;go_wp2;go_ret;exact⟨Hg.out,rfl,nS⟩
theorem vB (s:ByteArray)(k:Nat):bl (s.extract k s.size)=(bl s).drop k:=by
 obtain⟨⟨l⟩⟩:=s;simp only[bl,ByteArray.size];simp;exact List.take_of_length_le (by simp)
def yo (s:ByteArray):List UInt8:=(bl s).drop 1
theorem cP (s:ByteArray):(yo s).length=s.size-1:=by unfold yo;rw[List.length_drop,zg]
theorem oQ (s:ByteArray)(j:Nat)(h:j+1<s.size):(yo s)[j]'(by rw[cP];omega)=s[j+1]:=by
 unfold yo;rw[List.getElem_drop];have:=qqw s (j+1) h;rw[← this]
 congr 1
 omega
def qiF (c:Nat)(s:ByteArray)(k:Nat)(w:World)(e:Ending)(w':World):Prop :=
 w.grownBy w' (some c)∧e=.returned (.int .u64 ((val ((yo s).take k):Nat):Int))∧dR c (s.extract (1+k) s.size) false w'
def qz9 (d:List UInt8)(k:Nat)(n i:Value):Prop:=∃j:Nat,j≤k∧i=.int .i64 ((j:Int)+1)∧n=.int .u64 ((val (d.take j):Nat):Int)
theorem qqy(c:Nat)(s:ByteArray)(w:World)(h:dR c s false w)(hp:1<s.size)(hk:s[0].toNat≤8)(hl:1+s[0].toNat≤s.size)(hk0:0<s[0].toNat)(h0:s[1].toNat≠0) :
    Calls prog 214 #[.pointer (some ⟨c,0,none⟩)] w (qiF c s s[0].toNat w):=by
 obtain⟨h1,h2,h3,h4⟩:=h.cells;have hp0:0<s.size:=by omega
 have hpi:(0:Int)<(s.size:Int):=by omega
 have e1:=QH (show((s.size:Int) == 0)=false by rw[beq_eq_false_iff_ne];omega);have qz8:(1:Int)<(s.size:Int):=by omega
 have e2:=QH (show decide ((8:Int)<(s[0].toNat:Int))=false by rw[decide_eq_false_iff_not];omega);have e3:=QH (show decide ((s.size:Int)<(1:Int)+(s[0].toNat:Int))=false by rw[decide_eq_false_iff_not];omega);have e4:=QH (show decide ((0:Int)<(s[0].toNat:Int))=true by rw[decide_eq_true_iff];omega);have e5:=QH (show((s[1].toNat:Int) == 0)=false by rw[beq_eq_false_iff_ne];omega);clear h0;go_enter func214,ntmps214;go_wp2;have f1:=e1.out;have f2:=e2.out;have f3:=e3.out;have f4:=e4.out;have f5:=e5.out;go_quiet (fail);obtain⟨W,hW⟩:∃W,W=w.drewN nq:=⟨_,rfl⟩;have hq:dR c s false W:=by rw[hW];exact h
 have hgW:=QH (show w.grownBy W (some c)from by rw[hW];exact grown_drewN (jx w _) nq);rw[← hW];clear hW h h1 h2 h3 h4;obtain⟨h1,h2,h3,h4⟩:=hq.cells;have hx:(s.extract (1+s[0].toNat) s.size).size≤1000000:=by have:=hq.2;simp;omega
 have HQ:=QH (hq.qiD _ hx);have HG:=QH (dh c 0 W (.string (s.extract (1+s[0].toNat) s.size)));have hs1:s.size≤1000000:=hq.2;have hdl:=QH (cP s);have HL:=QH hl;clear hq;go_wp2;go_loop [3,5] (fun n i=>qz9 (yo s) s[0].toNat n i) (fun _ i=>s[0].toNat+1-(intOf i).toNat);case atStart=>exact⟨0,Nat.zero_le _,rfl,rfl⟩
 case round =>
  obtain⟨j,hj,rfl,rfl⟩:=hrel;have hl2:=HL.out;by_cases hlt:j<s[0].toNat
  ·have hd:=hdl.out;have hs:=qah (yo s) j (by omega);have hb:val ((yo s).take j)<72057594037927936:=by
    have a:=qcl ((yo s).take j);have b:256 ^ ((yo s).take j).length≤256 ^ 7:=Nat.pow_le_pow_right (by omega) (by rw[List.length_take];omega);have e:(256:Nat) ^ 7=72057594037927936:=by decide
    omega
   have uR:j+1<s.size:=by omega
   have hg:=oQ s j uR;rw[hg]at hs;have Hs:=QH hs;have hzb:s[j+1].toNat<256:=s[j+1].toNat_lt;have q9c:(j:Int)+1<(s.size:Int):=by omega
   clear hs hg hd;generalize val ((yo s).take j)=v at *;go_wp2;exact⟨⟨j+1,by omega,by go_num,by rw[Hs.out];go_num⟩,by simp[intOf];omega⟩
  ·have hjk:s[0].toNat≤j:=by omega
   have hjj:j=s[0].toNat:=by omega
   have Hj:=QH hjj;clear hjj;go_wp2;go_ret;exact⟨zN hgW.out HG.out,by rw[← Hj.out];rfl,HQ.out⟩
end Go.Proofs.YtdpbdkacngaemaaGreatDoor.wi
