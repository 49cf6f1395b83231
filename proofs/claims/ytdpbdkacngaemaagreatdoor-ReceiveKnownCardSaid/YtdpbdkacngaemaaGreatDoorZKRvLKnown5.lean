/- RvKnP, RvKnT. -/
import Derived.Test.YtdpbdkacngaemaaGreatDoorZKRvLKnown2
set_option linter.unusedVariables false
set_option linter.unusedSimpArgs false
set_option maxHeartbeats 30000000
set_option maxRecDepth 100000
namespace Go.Proofs.YtdpbdkacngaemaaGreatDoor.rv
open _root_.Go.Proofs.Tryz Go Go.RowKit ib mt st
open vt (jq ju VP DD Ke gN)
def Kn (IV:jq)(w:World)(B:Nat)(X:Nat→Prop)(v pd:Nat)(g:Gd)(n:Nat)(f:vt.Tf)(Q:vt.Tg→Mt→Prop):Prop :=
 ∃t d m,V2 IV w B X v pd d m false∧vt.yz 4 500 t m∧jr.JJ 500 t d∧d.qz=0∧WkF m g n f∧Q t m
section
variable {IV:jq} (H:ju IV) {w w':World} {B v pd n:Nat} {X Y:Nat→Prop} {g:Gd} {f:vt.Tf} {Q:vt.Tg→Mt→Prop}
include H
theorem Kn.more(h:Kn IV w B X v pd g n f Q)(hb:Below w.heap.size w w')(hY:∀j,Y j→X j∨(w.heap.size≤j∧j<w'.heap.size)):Kn IV w' B Y v pd g n f Q:=by
 obtain⟨t,d,m,h1,h2⟩:=h;exact⟨t,d,m,h1.more H hb hY,h2⟩
theorem rj (h:Kn IV w B X v pd g n f Q)(hB:B≤w.heap.size)(A:Option Addr)(cp:Nat)(p:Pa)(hp:iR w A cp p)(hs:p.zF.length≤1000)(hA:∀b o,A=some ⟨b,o,none⟩→X b){c:Int}(ha:km 4 g f p=c)(hc:c≠0) :
    Calls prog 25 #[pt v,.agg (jg p A cp)] w fun e w'=>e=.returned (.int .i64 c)∧Kn IV w' B X v pd g n f Q∧Ke B X w w':=by
 obtain⟨t,d,m,h1,h2,h3,h4,h5,h6⟩:=h;refine(iT H h1 hB A cp p h3 (by omega) h2 hp hs hA).mono ?_;rintro e w' ⟨r,d',m',l',rfl,hv,hk,hq⟩;obtain⟨rfl,rfl,rfl,rfl⟩:=qqh h5 ha hc hq;exact⟨rfl,⟨t,_,_,hv,h2,h3,h4,h5,h6⟩,hk⟩
theorem qfr(h:Kn IV w B X v pd g n f Q)(hB:B≤w.heap.size)(A:Option Addr)(cp:Nat)(p:Pa)(hp:iR w A cp p)(hx:p.zF.length≤8)(hA:∀b o,A=some ⟨b,o,none⟩→X b)(ha:km 4 g f p=0)(he:vt.zm 4 n g (yO p) p.zF=0){g':Gd}{n':Nat}{f':vt.Tf}(hn:if (yO p).next=(yO p).all then p.target=g'∧n+1=n'∧wm=f' else g=g'∧n=n'∧yO p=f')
    {Q':vt.Tg→Mt→Prop} (hQ:∀t m t' m',WkF m g n f→Q t m→WkN t t' m m' g n p→Q' t' m') :
    Calls prog 25 #[pt v,.agg (jg p A cp)] w fun e w'=>e=.returned (.int .i64 0)∧Kn IV w' B X v pd g' n' f' Q'∧Ke B X w w':=by
 obtain⟨t,d,m,h1,h2,h3,h4,h5,h6⟩:=h;refine(iT H h1 hB A cp p h3 (by omega) h2 hp (by omega) hA).mono ?_;rintro e w' ⟨r,d',m',l',rfl,hv,hk,hq⟩;obtain⟨rfl,rfl,hf',t',hj',hr',hw⟩:=qqi h5 h2 (by decide) h3 h4 ha he hp.target hx hq;refine⟨rfl,⟨t',d',m',hv,hr',hj',hf',?_,hQ t m t' m' h5 h6 hw⟩,hk⟩;unfold WkN at hw;split at hw
 ·rename_i hif;rw[if_pos hif]at hn;obtain⟨rfl,rfl,rfl⟩:=hn;exact hw.1
 ·rename_i hif;rw[if_neg hif]at hn;obtain⟨rfl,rfl,rfl⟩:=hn;exact hw.1
theorem qlI(h:Kn IV w B X v pd g n f Q):Calls prog 41 #[pt v] w fun e w'=>∃A l c,e=.returned (vt.tkV f A l c)∧Below w.heap.size w w':=by
 obtain⟨t,d,m,⟨o1,o2,hv,_⟩,h2,h3,h4,h5,h6⟩:=h;refine(H.token hv.is).mono ?_;rintro e w' ⟨A,c,rfl,-,-,hb⟩;rw[h5.tok];exact⟨A,_,c,rfl,hb⟩
theorem qoK(h:Kn IV w B X v pd g n f Q){g':Gd}(hg:zV g'){r:List Bt × Int}(hr:∀t m,Q t m→(vt.jM t m).read g'=r):Calls prog 42 #[pt v,ch.gv g'] w (ch.qbc r w):=by
 obtain⟨t,d,m,⟨o1,o2,hv,_⟩,h2,h3,h4,h5,h6⟩:=h;have:=H.read g' hv h3 h2 hg;rw[hr t m h6]at this;exact this
theorem qlJ(w:World):Calls prog 27 #[.pointer none] w fun e w'=>e=.returned (nE 0 (0,0) (0,0) 0)∧Below w.heap.size w w' :=
 qbU (gs:=[]) (t:=yg) (p:=.pointer none) (w:=w) (by decide) (fun W _=>H.qps W) (fun W _=>H.qjT W)
end
def k4:Pa:=⟨(0,0),(1,1),0,5,[(0,rep 97 32)]⟩
def k5:Pa:=⟨(0,0),(1,1),0,1,[(4,rep 97 32)]⟩
def k6:Pa:=⟨(0,0),(0,0),0,0,[]⟩
def k7:Pa:=⟨(1,1),(1,2),0,0,[]⟩
def k8:Pa:=⟨(0,0),(1,1),0,0,[]⟩
def k9:Pa:=⟨(1,1),(1,2),0,2,[(0,rep 97 32)]⟩
def uO:Pa:=⟨(1,1),(1,3),1,2,[(1,rep 97 32)]⟩
def k11:Pa:=⟨(1,1),(1,2),1,3,[(1,rep 97 32)]⟩
def k12:Pa:=⟨(1,1),(1,3),0,3,[(2,rep 120 32)]⟩
def k14:Pa:=⟨(1,1),(1,3),1,3,[(0,rep 121 32),(3,rep 122 32)]⟩
def fA:vt.Tf:=⟨(1,1),(1,2),1,2⟩
def fB:vt.Tf:=⟨(1,1),(1,3),1,3⟩
theorem a4:km 4 (0,0) wm k4=2:=by decide +kernel
theorem a5:km 4 (0,0) wm k5=2:=by decide +kernel
theorem a6:km 4 (0,0) wm k6=2:=by decide +kernel
theorem a7:km 4 (0,0) wm k7=9:=by decide +kernel
theorem a8:km 4 (0,0) wm k8=0:=by decide +kernel
theorem a9:km 4 (1,1) wm k9=0:=by decide +kernel
theorem a10:km 4 (1,1) fA uO=10:=by decide +kernel
theorem a11:km 4 (1,1) fA k11=10:=by decide +kernel
theorem a12:km 4 (1,1) fA k12=0:=by decide +kernel
theorem a14:km 4 (1,1) fB k14=0:=by decide +kernel
theorem e8:vt.zm 4 0 (0,0) (yO k8) k8.zF=0:=by decide +kernel
theorem e9:vt.zm 4 1 (1,1) (yO k9) k9.zF=0:=by decide +kernel
theorem e12:vt.zm 4 1 (1,1) (yO k12) k12.zF=0:=by decide +kernel
theorem e14:vt.zm 4 1 (1,1) (yO k14) k14.zF=0:=by decide +kernel
def kZ:List Bt:=[vt.zb,vt.zb,vt.zb,vt.zb]
def kV1:List Bt:=[vt.zb,vt.zb,rep 120 32,vt.zb]
def kV2:List Bt:=[rep 121 32,vt.zb,rep 120 32,rep 122 32]
def Q0 (_:vt.Tg)(_:Mt):Prop:=True
def Q1 (t:vt.Tg)(m:Mt):Prop:=(vt.jM t m).qd=[⟨(1,1),kZ,false⟩]
def Q2 (t:vt.Tg)(m:Mt):Prop:=(vt.jM t m).qd=[⟨(1,1),kZ,false⟩]∧vt.qD t m.tok.qp=kV1
def Q3 (t:vt.Tg)(m:Mt):Prop:=(vt.jM t m).qd=[⟨(1,1),kZ,false⟩,⟨(1,3),kV2,false⟩]
theorem nI {m:Mt}{g:Gd}{n:Nat}{f:vt.Tf}(h:WkF m g n f):m.tok.base=f.base∧m.tok.target=f.target∧m.tok.all=f.all:=by
 have:=h.tok;refine⟨?_,?_,?_⟩ <;> rw[← this] <;> rfl
theorem qbX{t:vt.Tg}{m:Mt}{g:Gd}{n:Nat}{f:vt.Tf}(h:WkF m g n f){F:vt.Tf}(hf:f.target≠F.target):vt.qD t (vt.zo m F)=(vt.jM t m).base:=by
 obtain⟨_,h2,_⟩:=nI h;unfold vt.zo;rw[if_neg (fun e=>hf (h2.symm.trans e.2.1)),vt.qjL]
theorem q8 (t:vt.Tg)(m:Mt)(t':vt.Tg)(m':Mt)(h:WkF m (0,0) 0 wm)(_:Q0 t m)(hw:WkN t t' m m' (0,0) 0 k8):Q1 t' m':=by
 unfold WkN at hw;rw[if_pos (by decide),qbX h (by decide)]at hw;have hs:(vt.jM t m).qd=[]:=by
  show m.qd.map _=[];rw[List.length_eq_zero_iff.1 h.n];rfl
 have hl:(vt.jM t m).live.length=4:=by
  show(m.live.map _).length=4;rw[List.length_map,h.len]
 have hb:(vt.jM t m).base=kZ:=by
  unfold ch.CH.base;rw[hs];show ch.dM (vt.jM t m).live.length=kZ;rw[hl];rfl
 unfold Q1;rw[hw.2,hs,hb];rfl
theorem q9 (t:vt.Tg)(m:Mt)(t':vt.Tg)(m':Mt)(_:WkF m (1,1) 1 wm)(hq:Q1 t m)(hw:WkN t t' m m' (1,1) 1 k9):Q1 t' m':=by
 unfold WkN at hw;rw[if_neg (by decide)]at hw;unfold Q1;rw[hw.2.1];exact hq
theorem q12(t:vt.Tg)(m:Mt)(t':vt.Tg)(m':Mt)(h:WkF m (1,1) 1 fA)(hq:Q1 t m)(hw:WkN t t' m m' (1,1) 1 k12):Q2 t' m':=by
 unfold WkN at hw;rw[if_neg (by decide),qbX h (by decide)]at hw;have hb:(vt.jM t m).base=kZ:=by
  unfold ch.CH.base;rw[hq];rfl
 refine⟨?_,?_⟩
 ·rw[hw.2.1];exact hq
 ·rw[hw.2.2,hb];rfl
theorem q14(t:vt.Tg)(m:Mt)(t':vt.Tg)(m':Mt)(h:WkF m (1,1) 1 fB)(hq:Q2 t m)(hw:WkN t t' m m' (1,1) 1 k14):Q3 t' m':=by
 obtain⟨h1,h2,h3⟩:=nI h;unfold WkN at hw;have hs:vt.qD t (vt.zo m (yO k14))=kV1:=by
  unfold vt.zo;rw[if_pos ⟨h1.trans rfl,h2.trans rfl,h3.trans rfl⟩];exact hq.2
 rw[if_pos (by decide),hs]at hw;unfold Q3;rw[hw.2,hq.1];rfl
theorem r15(t:vt.Tg)(m:Mt)(h:Q3 t m):(vt.jM t m).read (1,3)=(kV2,0):=by
 unfold ch.CH.read ch.CH.find;rw[show(vt.jM t m).qd=_ from h];rfl
end Go.Proofs.YtdpbdkacngaemaaGreatDoor.rv
namespace Go.Proofs.YtdpbdkacngaemaaGreatDoor.rv
open _root_.Go.Proofs.Tryz Go Go.RowKit ib mt st
open vt (jq ju VP DD Ke gN)
theorem take_nil{IV:jq}(H:ju IV)(A:Option Addr)(cp:Nat)(p:Pa)(w:World) :
    Calls prog 25 #[.pointer none,.agg (jg p A cp)] w fun e w'=>e=.returned (.int .i64 1)∧Below w.heap.size w w':=by
 obtain⟨W,hW,hk,hb⟩:=vz w (jg p A cp);have HB:=QH hb;have HNB:=QH (H.qeR W);obtain⟨gp,hgp⟩:=QE w.heap.size;have HGP:=QH hgp;have HW:=QH hW;clear hW hk hb hgp;obtain⟨PN,hPN⟩:=QE (jg p A cp);rw[hPN]at HW ⊢;clear hPN;go_enter func25,ntmps25;go_upto_region 1 with fail;try rw[HW.out]
 try rw[HGP.out]
 clear HW;go_wp2_with fail;refine HNB.out.mono ?_;rintro e W1 ⟨rfl,hb⟩;have qU:=QH (qc HB.out hb);clear hb HB HNB;go_wp2_with fail;go_ret;exact⟨rfl,qU.out⟩
end Go.Proofs.YtdpbdkacngaemaaGreatDoor.rv
