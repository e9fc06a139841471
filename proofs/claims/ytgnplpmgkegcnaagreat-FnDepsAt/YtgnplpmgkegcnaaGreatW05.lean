/- Texts. -/
import Derived.Test.YtgnplpmgkegcnaaGreatW02
import Derived.Test.YtgnplpmgkegcnaaGreatW03
set_option maxRecDepth 100000
set_option maxHeartbeats 12800000
namespace Go.Proofs.YtgnplpmgkegcnaaGreat
namespace Kit
open Go.RowKit
variable {Z : ZT}
theorem zam{P:Program}(W:Wd){ops:Array Oper}{o:Oper}{a:Act}{K:Act->Wd->Prop}{Q:Exit->Act->Wd->Prop}{E:Prop}(hgd:o.guard=none)(s x:Operand)(t:TypeId)
  (ho:o.op=.call { callee:=.builtin .append,args:=#[s,x],argTypes:=#[t,t] }) (base:Nat) (e:TypeId) (ht:P.underlying t=some (.slice e)) (z:Va) (bytes:Nat)
  (hi:(P.info? e).map (fun i=>(i.zero,i.size,i.bytes))=some (some z,1,bytes)) (hzc:z.cells.size=1) (hby:bytes<=640) (v:Va) (l:List Va) (hs:a.eval s=v) (hown:ROwns W base e v l) (hbase:base<=W.1.size)
  (g:Nat) (y:Va) (hx:a.eval x=.slice (aA g 0) 1 1) (hc:W.cell? ⟨g,0,none⟩=some y) (h1:y.oneCell'=true) (hl:l.length<=100000000000)
  (h:∀v' w',ROwns w' base e v' (l++[y])->W.grownBy w' v.ownBlock->(∀k,v'.ownBlock=some k->v.ownBlock=some k\/W.1.size<=k)->K (a.put o.dst v') w') :
  if Region.wanted o (yielded ops a.tmps)=true then Oper.wp P o a W K Q else E:=by
 obtain⟨i0,hi,aG,aF,aD⟩:=info_parts hi;refine step_append_lies _ hgd s x t ho base e i0 z 1 bytes ht hi aG aF aD hzc dC v l.length l hs hown ⟨g,0,none⟩ 1 1 [y] hx rfl ?_ (by simpa using h1) dC ?_ ?_ hbase W.1.size rfl ?_
 ·intro j u hj
  cases j with
  | zero=>simp only[List.getElem?_cons_zero,oJ]at hj;subst hj;simpa[Addr.add]using hc
  | succ j=>simp at hj
 ·unfold maxLen;omega
 ·have:(l.length+1)*bytes<=100000000001*640:=Nat.mul_le_mul oM hby;omega
 intro g' cap w' aB aC hat _;refine h _ w' ?_ aC fun k hk=>?_
 ·unfold ROwns;rw[lA];exact aB
 exact cQ60
def BT(Z:ZT)(w:Wd)(T:Nat->Prop)(b:Nat):Prop:=∃(S:Nat->Prop)(u v iv bv dv pv:Va)(m:MD),PM w S b u v iv bv dv pv m/\(∀k,S k->T k)/\T b/\Sh Z m
theorem BT.below{w w':Wd}{T:Nat->Prop}{b:Nat}(h:BT Z w T b)(hb:Bw w w'):BT Z w' T b:=by
 exact cQ128
theorem BT.mono{w:Wd}{T T':Nat->Prop}{b:Nat}(h:BT Z w T b)(hs:∀k,T k->T' k):BT Z w T' b:=by
 obtain⟨S,u,v,iv,bv,dv,pv,m,h1,h2,h3,h4⟩:=h;exact⟨S,u,v,iv,bv,dv,pv,m,h1,fun k hk=>hs k (h2 k hk),hs b h3,h4⟩
theorem BT.lt{w:Wd}{T:Nat->Prop}{b:Nat}(h:BT Z w T b):b<w.1.size/\T b:=by
 obtain⟨S,u,v,iv,bv,dv,pv,m,h1,h2,h3,h4⟩:=h;exact⟨h1.box.lt,h3⟩
theorem BT.weak{Z':ZT}{w:Wd}{T:Nat->Prop}{b:Nat}(h:BT Z' w T b)(hz:∀i p,Z i p->Z' i p):BT Z w T b:=by
 obtain⟨S,u,v,iv,bv,dv,pv,m,h1,h2,h3,h4⟩:=h;exact⟨S,u,v,iv,bv,dv,pv,m,h1,h2,h3,h4.weak hz⟩
theorem BX.bt{w:Wd}{L b:Nat}(h:BX Z w L b):BT Z w (fun k=>L<=k) b:=h
theorem BT.bx{w:Wd}{L b:Nat}(h:BT Z w (fun k=>L<=k) b):BX Z w L b:=h
end Kit
open Go.RowKit Kit
variable {Z : ZT}
theorem zfc(id kd io pt bk sl:Int)(nm:BA)(bt ot:Bool)(af:Int)(bl:List Int)(p:Va)(u v iv bv dv pv:Va)(m:MD)(w:Wd)(h:MR w u v iv bv dv pv m)(hS:Sh Z m)(hv:RInts w p bl)
  (hd:DOkN ⟨m.nx,kd,io,pt,bk,sl,nm,bt,ot,af,bl⟩) (hr5:kd=5->Kz.Room Z m bl) :
  Calls Tryz.prog 202 #[.agg #[u,v,iv,bv,dv,pv,nI m.nx],.agg #[nI id,nI kd,nI io,nI pt,nI bk,nI sl,.string nm,.bool bt,.bool ot,nI af,p]] w fun e w'=>∃u' v' i' b' d' p' m' r,e=.returned (.tuple #[.agg #[u',v',i',b',d',p',nI m'.nx],nI r])/\MO w' (fun k=>w.1.size<=k) u' v' i' b' d' p' m'/\Sh Z m'/\0<=r/\r<=99999/\Bw w w':=by
 have aB:bl.length<=1048576:=lT hd.bn dC;by_cases hf:40<=m.6.length
 ·refine(zhp id kd io pt bk sl nm bt ot af bl p u v iv bv dv pv m w h hS.big hv aB hf).mono ?_;rintro e w' ⟨u1,u2,u3,u4,u5,u6,rfl,O,B⟩;exact⟨u1,u2,u3,u4,u5,u6,m,0,rfl,O,hS,oM,oM,B⟩
 cases hx:inB m.nx 1 99999 with
 | false =>
  refine(zhq id kd io pt bk sl nm bt ot af bl p u v iv bv dv pv m w h hS.big hv aB oM hx).mono ?_;rintro e w' ⟨u1,u2,u3,u4,u5,u6,rfl,O,B⟩;exact⟨u1,u2,u3,u4,u5,u6,m,0,rfl,O,hS,oM,oM,B⟩
 | true =>
  have hr:=zay hx;refine(zjp id kd io pt bk sl nm bt ot af bl p u v iv bv dv pv m w h hS.big hv aB oM hx).mono ?_;rintro e w' ⟨u1,u2,u3,u4,u5,u6,rfl,O,B⟩;refine⟨u1,u2,u3,u4,u5,u6,_,m.nx,rfl,O,⟨hS.x,hS.y,hS.i,hS.ii,hS.b,hS.bb,hS.f,?_,?_,?_,hS.k.put _ rfl rfl rfl hr5⟩,oM,oM,B⟩
  ·rw[lA];simp;omega
  ·exact cQ88
  show 1<=m.nx+1/\m.nx+1<=100000;omega
namespace Kit
variable {Z : ZT}
def BX5(Z:ZT)(B:Nat)(w:Wd)(T:Nat->Prop)(b bx:Nat)(kd lx:Int)(pp:Va)(ps:List Int)(j:Nat):Prop:=∃(S:Nat->Prop)(u v iv bv dv pv:Va)(m:MD),PM w S b u v iv bv dv pv m/\Sh Z m/\(∀k,S k->T k/\k≠bx)/\AtC w bx 59 #[nI kd,nI lx,pp]/\ROwns w B 3 pp (ic ps)/\∃h:j<m.3.length,m.is[j].2.2=ps
theorem cnt00(p:Int)(h:1<=p):([0,0]:List Int).count p=0:=by
 simp[List.count_cons];omega
end Kit
variable {Z : ZT}
theorem zg4(T:Nat->Prop)(b:Nat)(x:Int)(w:Wd)(h:BT Z w T b)(hT:∀k,w.1.size<=k->T k)(hx1:1<=x)(hx8:x<=8):
  Calls Tryz.prog 214 #[.pointer (aA b 0),nI x] w fun e w'=>e=.returned (.tuple #[])/\BT Z w' T b/\Chg T w w':=by
 have HBX:=hJ h;obtain⟨S0,du,dy,iv,bv,dv,pv,m,hP0,hSL0,hLb,hS⟩:=h;have hP:=hP0.bound;have hSL:∀k,(S0 k/\k<w.1.size)->T k:=fun k hk=>hSL0 k hk.1;have hSs:∀k,(S0 k/\k<w.1.size)->k<w.1.size:=fun k hk=>hk.2;obtain⟨S,hSd⟩:∃S:Nat->Prop,S=fun k=>S0 k/\k<w.1.size:=⟨_,rfl⟩
 rw[←hSd]at hP
 replace hSL:∀k,S k->T k:=fun k hk=>hSL k (by rw[hSd]at hk;exact hk)
 replace hSs:∀k,S k->k<w.1.size:=fun k hk=>hSs k (by rw[hSd]at hk;exact hk)
 clear hSd hP0 hSL0;obtain⟨j,rfl⟩:∃j:Nat,x=(j:Int)+1:=⟨(x-1).toNat,oM⟩
 have hj:j<m.3.length:=by rw[hS.i];omega
 obtain⟨gi,ci,p,e1,i0,i1,i2,rp,hzi,hgi,gS⟩:=hP.inoAt j hj;subst e1;obtain⟨a1,c1,a2,c2,a3,c3,a4,c4,a5,c5,a6,c6,rfl,rfl,e3,rfl,rfl,rfl⟩:=hP.form;clear e3 a3 c3;have hix:=hS.ii _ (gM_ hj);obtain⟨⟨kd,ln,ps⟩,hX⟩:∃X,m.is[j]=X:=⟨_,rfl⟩
 rw[hX]at i0 i1 rp hix;simp only at i0 i1 rp;have HPX:Hid (m.is[j].2.2=ps):=by show _=_;rw[hX]
 have HPN:Hid (ps.length=2):=hix.n;have hpl:ps.length<=2:=Nat.le_of_eq hix.n;have hln0:0<=ln:=hix.l.1;have hln2:ln<=200:=hix.l.2;have HKZ:Hid (∀l,0<=l->l<=ln->l<=200/\(kd=1\/kd=2\/(kd=0/\l=0/\∀p∈ps,p=0))):=fun l h1 h2=>⟨oM,hix.z.elim .inl fun z=>z.elim (fun z=>.inr (.inl z)) fun z=>.inr (.inr ⟨z.1,by have e1:ln=0:=z.2.1;omega,z.2.2⟩)⟩
 obtain⟨pa,pc,rfl,hpc⟩:=rp;have HRP:Hid (RInts w (sL pa ps pc) ps):=⟨pa,pc,rfl,hpc⟩
 have HPS:Hid (∀p∈ps,(0:Int)<=p/\p<=16):=hix.p;have HP:=hJ hP;have HS:=hJ hS;have HSL:=hJ hSL;have HSs:=hJ hSs;have HLB:Hid (T b/\b<w.1.size):=⟨hLb,hP.box.lt⟩
 have HTT:=hJ hT;clear hT;have HGS:=hJ gS;obtain⟨x0,x1,x2,x3,x4,x5,x6⟩:=AtC.sev hP.box;have hil:j<8:=by rw[hS.i]at hj;exact hj
 have his:=hS.i;have HIS:=hJ his;clear his;have HDL:=hJ hS.l;clear hP hS hSL hSs hLb gS hpc hix hX;by_cases hf:40<=m.6.length
 ·have hf1:(40:Int)<=(m.6.length:Int):=oM
  go_enter Tryz.func214,Tryz.ntmps214
  go_wp2;exact bY (results_none rfl _ _ _) rfl ⟨rfl,HBX.o,Chg.refl _ _⟩
 have hf1:¬((40:Int)<=(m.6.length:Int)):=oM
 cases hnx:inB m.nx 1 99999 with
 | false =>
  have HX:=hJ hnx;clear hnx;go_enter Tryz.func214,Tryz.ntmps214
  go_wp2_with fail
  refine(zak m.nx 1 99999 _).mono ?_;rintro e w3 ⟨rfl,hw3⟩;rw[hw3,HX.o];clear hw3 w3;go_wp2;exact bY (results_none rfl _ _ _) rfl ⟨rfl,HBX.o,Chg.refl _ _⟩
 | true =>
  have HX:=hJ hnx;have HNX:=hJ (zay hnx);clear hnx;have j0:(0:Int)<=(j:Int):=oM
  have j1:(j:Int)<(m.3.length:Int):=oM
  have j8:(j:Int)<8:=oM
  have hwj:IntKind.i64.wrap (j:Int)=(j:Int):=by
   have hjj:j=0\/j=1\/j=2\/j=3\/j=4\/j=5\/j=6\/j=7:=oM
   rcases hjj with e|e|e|e|e|e|e|e<;>rw[e]<;>decide
  go_enter Tryz.func214,Tryz.ntmps214
  go_wp2_with fail
  refine(zak m.nx 1 99999 _).mono ?_;rintro e w3 ⟨rfl,hw3⟩;rw[hw3,HX.o];clear hw3 w3;go_wp2_with fail
  refine(ze5 kd ln _ ps w HRP.o oM).mono ?_;rintro e w1 ⟨uu,rfl,O1,B1⟩;obtain⟨s1,t1,rfl⟩:=O1.rints.form;have P1:P7 (w1.n #[nI kd,nI ln,sL s1 ps t1] 59) S b m a1 c1 a2 c2 (aA gi 0) ci a4 c4 a5 c5 a6 c6:=(HP.o.below B1).alloc _;have hb1:Bw w (w1.n #[nI kd,nI ln,sL s1 ps t1] 59):=B1.alloc B1.size _;have X1:AtC (w1.n #[nI kd,nI ln,sL s1 ps t1] 59) w1.1.size 59 #[nI kd,nI ln,sL s1 ps t1]:=AtC.new w1 59 _;have O2:ROwns (w1.n #[nI kd,nI ln,sL s1 ps t1] 59) w.1.size 3 (sL s1 ps t1) (ic ps):=O1.alloc _;have HO1:Hid (∀k,(sL s1 ps t1).ownBlock=some k->w.1.size<=k/\k<w1.1.size):=fun k hk=>O1.lt k hk;have hs1:=B1.size;have H1:=hJ (aI P1 (aI hb1 (aI X1 O2)));clear P1 hb1 X1 O2 O1 B1;obtain⟨U,hU⟩:∃U,uoI ((j:Int)+1)=U:=⟨_,rfl⟩
  have CU:Hid (∀W,Calls Tryz.prog 198 #[nI ((j:Int)+1)] W fun e w'=>e=.returned (nI U)/\w'=W):=fun W=>by rw[←hU];exact zbp _ W
  clear hU;go_wp2_with fail
  refine(CU.out _).mono ?_;rintro e w3 ⟨rfl,rfl⟩;go_wp2_with fail
  refine(zbz S b U _ _ _ _ _ _ m _ H1.o.1).mono ?_;rintro e w2 ⟨rfl,P2,C2⟩;have hbx:¬S w1.1.size:=fun e=>by have:=HSs.o _ e;omega
  have X2:AtC w2 w1.1.size 59 #[nI kd,nI ln,sL s1 ps t1]:=(C2.block _ H1.o.2.2.1.lt hbx).trans H1.o.2.2.1;have O2:=H1.o.2.2.2.of_heap fun k hk=>C2.block k (by have:=(HO1.o k hk).2;simp;omega) (fun e=>by have:=HSs.o _ e;have:=(HO1.o k hk).1;omega);have B2:=(Chg.of_below H1.o.2.1).trans (C2.mono HSL.o);have z2:w1.1.size+1<=w2.1.size:=by have:=C2.size;simp at this;exact this
  generalize hbxn:w1.1.size=bx at*;obtain⟨M2,hM2⟩:∃M2,markU U m=M2:=⟨_,rfl⟩
  have HM2:Hid (Sh Z M2/\M2.is=m.is/\M2.ds=m.ds/\M2.nx=m.nx):=by
   rw[←hM2];exact⟨HS.o.mark U,by unfold markU;split<;>rfl,by unfold markU;split<;>rfl,markU_nx U m⟩
  rw[hM2]at P2;have H2:=hJ (aI P2 (aI X2 (aI O2 B2)));obtain⟨g0,g1,g2⟩:=X2.k3;have v1:=X2.frozen 1;clear P2 C2 X2 O2 B2 hM2 CU H1 x0 x1 x2 x3 x4 x5 x6 i0 i1 i2 hzi;go_upto_if 42 with fail
  go_cut []from 12 to 46 (fun wx=>∃lx:Int,0<=lx/\lx<=ln/\PM wx S b (.slice a1 m.1.length c1) (.slice a2 m.2.length c2) (.slice (some ⟨gi,0,none⟩) m.3.length ci) (.slice a4 m.4.length c4) (.slice a5 m.5.length c5) (.slice a6 m.6.length c6) M2/\AtC wx bx 59 #[.int .i64 kd,.int .i64 lx,.slice s1 ps.length t1]/\ROwns wx w.1.size 3 (.slice s1 ps.length t1) (ic ps)/\Chg T w wx/\w2.1.size<=wx.1.size)
  case first =>
   by_cases hln:0<ln
   ·obtain⟨lx,hlx⟩:∃lx,ln-1=lx:=⟨_,rfl⟩
    have H3:Hid (PM (w2.setCell ⟨bx,1,none⟩ (nI lx)) S b (sL a1 m.1 c1) (sL a2 m.2 c2) (sL (aA gi 0) m.3 ci) (sL a4 m.4 c4) (sL a5 m.5 c5) (sL a6 m.6 c6) M2/\AtC (w2.setCell ⟨bx,1,none⟩ (nI lx)) bx 59 #[nI kd,nI lx,sL s1 ps t1]/\ROwns (w2.setCell ⟨bx,1,none⟩ (nI lx)) w.1.size 3 (sL s1 ps t1) (ic ps)/\Chg T w (w2.setCell ⟨bx,1,none⟩ (nI lx))/\w2.1.size<=(w2.setCell ⟨bx,1,none⟩ (nI lx)).1.size):=by
     obtain⟨k1,k2,k3,k4⟩:=H2.o;have hne:∀k,S k->k≠bx:=fun k hk e=>by have:=HSs.o k hk;omega
     have hlb:=HLB.o;exact⟨⟨k1.box.other oM _,k1.own.of_heap fun k hk _=>hO_ _ ⟨bx,1,none⟩ k _ (hne k hk),k1.nb⟩,k2.set 1 _,k3.of_heap fun k hk=>hO_ _ ⟨bx,1,none⟩ k _ (by have:=(HO1.o k hk).2;show k≠bx;omega),k4.setCell (HTT.o bx oM) _,sI⟩
    have HLX:=hJ hlx;go_wp2_with fail
    go_meet
    case rel=>exact⟨lx,by have:=HLX.o;omega,by have:=HLX.o;omega,H3.o⟩
   ·go_wp2_with fail
    go_meet
    case rel=>exact⟨ln,hln0,Int.le_refl _,H2.o.1,H2.o.2.1,H2.o.2.2.1,H2.o.2.2.2,Nat.le_refl _⟩
  case rest =>
   obtain⟨lx,hl0,hl2,hcut⟩:=hcut;have H3:=hJ hcut;clear hcut H2 g0 g1 g2 v1 hln0 hln2;go_upto_region 5 with fail
   go_cut []from 47 to 55 (fun wx=>BX5 Z w.1.size wx T b bx kd lx (.slice s1 ps.length t1) ps j/\Chg T w wx/\w.1.size<=bx)
   case first =>
    have q2:=H3.o.1.box.c2;obtain⟨q4,q5,q6⟩:=H3.o.2.1.k3;obtain⟨r0,r1,r2,hfz⟩:∃r0 r1 r2,wc.cell? ⟨gi,j*3,none⟩=some r0/\wc.cell? ⟨gi,j*3+1,none⟩=some r1/\wc.cell? ⟨gi,j*3+2,none⟩=some r2/\(∀k,wc.frozen? ⟨gi,k,none⟩=false):=by
     obtain⟨g,c,p,e,k0,k1,k2,-,k4,-⟩:=H3.o.1.inoAt j (by have:=HM2.o.2.1;rw[this];exact hj);simp only[vJ,oJ,aJ]at e;obtain⟨⟨rfl,-⟩,-⟩:=e;exact⟨_,_,_,k0,k1,k2,k4⟩
    obtain⟨f0,f1,f2,hfz⟩:=hfz;have z0:=hfz (j*3);have z1:=hfz (j*3+1);have z2:=hfz (j*3+2);have hj3:j*3+2<24:=oM
    clear hfz;obtain⟨P3,X3,O3,B3,z3⟩:=H3.o;have hpi:=P3.putI rfl j (by have:=HM2.o.2.1;rw[this];exact hj) (nI kd,nI lx,sL s1 ps t1) (kd,lx,ps) ⟨rfl,rfl,O3.base_le (zL _)⟩ (fun k hk=>⟨fun e=>by have:=HSs.o k e;have:=(HO1.o k hk).1;omega,by have:=(HO1.o k hk).1;have:=HLB.o;omega⟩);have hbg:bx≠gi:=oM
    have HQ2:Hid (∀h:j<M2.is.length,M2.is[j].2.2=ps):=by have e2:=HM2.o.2.1;intro h;simp only[e2];exact HPX.o
    have HQ3:Hid (∃h:j<(M2.is.set j (kd,lx,ps)).length,(M2.is.set j (kd,lx,ps))[j].2.2=ps):=by have e2:=HM2.o.2.1;exact⟨by rw[lS,e2];exact hj,by rw[gS_]⟩
    have HF:Hid (BX5 Z w.1.size (set3 wc gi j (nI kd,nI lx,sL s1 ps t1)).drew T b bx kd lx (sL s1 ps t1) ps j/\Chg T w (set3 wc gi j (nI kd,nI lx,sL s1 ps t1)).drew/\w.1.size<=bx):=by
     have hgL:=HSL.o gi HGS.o;refine⟨⟨_,_,_,_,_,_,_,_,hpi.1.drew,HM2.o.1.inode j ⟨⟨hl0,(HKZ.o _ hl0 hl2).1⟩,HPN.o,HPS.o,(HKZ.o _ hl0 hl2).2⟩ (fun _ p _=>by rw[HQ2.o];exact Nat.le_refl _),fun k hk=>?_,?_,?_,HQ3.o⟩,?_,hs1⟩
     ·rcases hk with hk|hk
      ·exact⟨HSL.o k hk,fun e=>by have:=HSs.o k hk;omega⟩
      ·have:=HO1.o k hk;exact⟨HTT.o k oM,oM⟩
     ·exact(((X3.other oM _).other oM _).other oM _).over (zac bR)
     ·exact(O3.of_heap fun k hk=>zaz _ _ _ _ k (by have:=(HO1.o k hk).1;omega)).drew
     ·exact((((B3.setCell hgL _).setCell hgL _).setCell hgL _)).trans (Chg.of_below (zac bR))
    clear P3 X3 O3 B3 z3 hpi
    go_big_region
    go_wp2_with fail
    go_meet
    case rel=>exact HF.o
   case rest =>
    obtain⟨⟨S5,u,v,iv,bv,dv,pv,M5,P5,hS5,hk5,X5,R5,Q5⟩,B5,hbx5⟩:=hcut;clear HPX H3 HM2 HP HS HSL HSs HGS HO1 HRP HX HNX HIS HDL hf1 hf hil hj j1 hgi hs1 z2 hbx;obtain⟨a1,c1,a2,c2,a3,c3,a4,c4,a5,c5,a6,c6,rfl,rfl,rfl,rfl,rfl,rfl⟩:=P5.form;obtain⟨ts,hln,hro,hnt,hkeep⟩:=P5.bound.keepD;obtain⟨g0,g1,g2⟩:=X5.k3;have x5:=P5.box.c5;have HP5:=hJ P5;have HS5:=hJ hS5;have HK5:=hJ hk5;have HX5:=hJ X5;have HQ5:=hJ Q5;clear Q5;have HR5:=hJ R5;have HB5:=hJ B5;have HRO:=hJ hro;have HNT:=hJ hnt;have HKP:=hJ hkeep;have hl5:=hS5.l;have HEND:Hid (BT Z wc T b/\Chg T w wc):=⟨⟨S5,_,_,_,_,_,_,M5,P5,fun k hk=>(hk5 k hk).1,HLB.o.1,hS5⟩,B5⟩
    clear P5 hS5 hk5 X5 R5 B5 hro hnt hkeep;by_cases hlp:0<lx
    ·go_wp2;exact bY (results_none rfl _ _ _) rfl ⟨rfl,HEND.o⟩
    by_cases hkz:kd=0
    ·subst hkz;go_wp2;exact bY (results_none rfl _ _ _) rfl ⟨rfl,HEND.o⟩
    go_wp2_with fail
    have HF:Hid (∃f:Dp->Bool,∀d,f d=((!(d.kd==1)&&!(d.kd==6))|| !(d.io==(j:Int)+1))):=⟨_,fun _=>rfl⟩
    obtain⟨f,hf⟩:=HF.o;have HFF:=hJ hf;clear HF hf HEND;go_loopw [6,5] (fun i lv wr=>∃q:Nat,q<=M5.ds.length/\i=.int .i64 q/\Hid (NOwns wr 42 11 lv (rowsP f (ts.take q) (M5.ds.take q))/\(∀k,lv.ownBlock=some k->wc.1.size<=k)/\Bw wc wr)) (fun i lv _=>M5.ds.length-(intOf i).toNat)
    case atStart =>
     refine⟨0,zL _,rfl,?_,?_,bR.alloc nR _⟩
     ·have:=NOwns.of_at (n:=11) (ts:=[]) (AtC.new wc 42 #[]) rfl (Even.nil _) (zL _);simpa[rowsP]using this
     ·intro k hk;simp[Value.ownBlock]at hk;omega
    case round =>
     obtain⟨q,hq,rfl,HR⟩:=hrel;obtain⟨hn,hlo,hbl⟩:=HR.o;have xb5:=(HP5.o.box.over hbl).c5;by_cases hlt:q<M5.ds.length
     ·obtain⟨g,cap,ei,hcell,-,hg,-⟩:=HNT.o.at q oM;rw[hln]at ei;simp only[vJ,true_and]at ei;obtain⟨rfl,rfl⟩:=ei;obtain⟨p,hrow,hpo⟩:=HRO.o q oM hlt;have hst:=zkn f ts M5.ds hln q oM hlt;rw[hrow]at hst;have nn:=DCells.of fun i hi=>by rw[←hrow];exact(hbl.cell (p:=⟨g,q*11+i,none⟩) (by exact hg)).trans (hcell i hi)
      have hff:=HFF.o M5.ds[q];obtain⟨X,hX⟩:∃X,M5.ds[q]=X:=⟨_,rfl⟩
      rw[hX]at nn hpo hst hff;obtain⟨id2,kk,io,pt,bk,sl,nm,bt,ot,af,bl⟩:=X;obtain⟨pa,pc,rfl⟩:=hpo.rints.form;simp only[DCells]at nn;simp only at hff;obtain⟨n0,n1,n2,n3,n4,n5,n6,n7,n8,n9,n10⟩:=nn;have HRR:=hJ (aI hn (aI hlo hbl));have HST:=hJ hst;have HXF:=hJ hff;have q0:(0:Int)<=(q:Int):=oM
      have q1:(q:Int)<(M5.ds.length:Int):=oM
      clear hn hlo hbl hcell hg hrow hpo hX hst HR hff;by_cases hk1:kk=1
      ·subst hk1;by_cases hio:io=(j:Int)+1
       ·subst hio;have hfx:f (⟨id2,1,(j:Int)+1,pt,bk,sl,nm,bt,ot,af,bl⟩:Dp)=false:=by rw[HXF.o];simp
        exact cQ39
       ·have hfx:f (⟨id2,1,io,pt,bk,sl,nm,bt,ot,af,bl⟩:Dp)=true:=by rw[HXF.o];simp[hio]
        have HT:Hid (NOwns (wr.n (K7 id2 1 io pt bk sl nm bt ot af pa bl.length pc) 42) 42 11 u5 (rowsP f (ts.take q) (M5.ds.take q))):=HRR.o.1.of_heap fun k hk=>((bF _ wr).alloc nR _).block k (HRR.o.1.lt k hk);have HTL:Hid ((rowsP f (ts.take q) (M5.ds.take q)).length<=100000000000):=by
         exact cQ90
        have HSTEP:Hid (∀v' w',NOwns w' 42 11 v' (rowsP f (ts.take q) (M5.ds.take q)++[(⟨id2,1,io,pt,bk,sl,nm,bt,ot,af,bl⟩:Dp).row (sL pa bl pc)])->(wr.n (K7 id2 1 io pt bk sl nm bt ot af pa bl.length pc) 42).grownBy w' u5.ownBlock->(∀k,v'.ownBlock=some k->u5.ownBlock=some k\/(wr.n (K7 id2 1 io pt bk sl nm bt ot af pa bl.length pc) 42).1.size<=k)->NOwns w' 42 11 v' (rowsP f (ts.take (q+1)) (M5.ds.take (q+1)))/\(∀k,v'.ownBlock=some k->wc.1.size<=k)/\Bw wc w'):=fun v' w' k1 k2 k3=>by
         exact cQ33
        clear HRR HST HXF hfx;go_wp2_with (at_builtin;refine wS fun K' hK'=>?_;refine zap _ rfl (.tmp 100) (.tmp 108) 31 rfl 42 Tryz.u31 _ 11 104 Tryz.i42 rfl dC dC u5 _ rfl HT.o wr.1.size ((⟨id2,1,io,pt,bk,sl,nm,bt,ot,af,bl⟩:Dp).row (sL pa bl pc)) rfl rfl (fun i u hu=>(AtC.new wr 42 (K7 id2 1 io pt bk sl nm bt ot af pa bl.length pc)).at_ i u hu) (by simp[Dp.row,Value.oneCell']) HTL.o ?_;intro v12 w12 T12 G12 V12;refine hK' _ _ ?_;have HR12:=hJ (HSTEP.o v12 w12 T12 G12 V12);clear T12 G12 V12 hK')
        go_roundw
        case rel=>exact⟨q+1,oM,gK,HR12.o⟩
        case measure=>simp[intOf];omega
      by_cases hk6:kk=6
      ·subst hk6;by_cases hio:io=(j:Int)+1
       ·subst hio;have hfx:f (⟨id2,6,(j:Int)+1,pt,bk,sl,nm,bt,ot,af,bl⟩:Dp)=false:=by rw[HXF.o];simp
        exact cQ39
       ·have hfx:f (⟨id2,6,io,pt,bk,sl,nm,bt,ot,af,bl⟩:Dp)=true:=by rw[HXF.o];simp[hio]
        have HT:Hid (NOwns (wr.n (K7 id2 6 io pt bk sl nm bt ot af pa bl.length pc) 42) 42 11 u5 (rowsP f (ts.take q) (M5.ds.take q))):=HRR.o.1.of_heap fun k hk=>((bF _ wr).alloc nR _).block k (HRR.o.1.lt k hk);have HTL:Hid ((rowsP f (ts.take q) (M5.ds.take q)).length<=100000000000):=by
         exact cQ90
        have HSTEP:Hid (∀v' w',NOwns w' 42 11 v' (rowsP f (ts.take q) (M5.ds.take q)++[(⟨id2,6,io,pt,bk,sl,nm,bt,ot,af,bl⟩:Dp).row (sL pa bl pc)])->(wr.n (K7 id2 6 io pt bk sl nm bt ot af pa bl.length pc) 42).grownBy w' u5.ownBlock->(∀k,v'.ownBlock=some k->u5.ownBlock=some k\/(wr.n (K7 id2 6 io pt bk sl nm bt ot af pa bl.length pc) 42).1.size<=k)->NOwns w' 42 11 v' (rowsP f (ts.take (q+1)) (M5.ds.take (q+1)))/\(∀k,v'.ownBlock=some k->wc.1.size<=k)/\Bw wc w'):=fun v' w' k1 k2 k3=>by
         exact cQ33
        clear HRR HST HXF hfx;go_wp2_with (at_builtin;refine wS fun K' hK'=>?_;refine zap _ rfl (.tmp 100) (.tmp 108) 31 rfl 42 Tryz.u31 _ 11 104 Tryz.i42 rfl dC dC u5 _ rfl HT.o wr.1.size ((⟨id2,6,io,pt,bk,sl,nm,bt,ot,af,bl⟩:Dp).row (sL pa bl pc)) rfl rfl (fun i u hu=>(AtC.new wr 42 (K7 id2 6 io pt bk sl nm bt ot af pa bl.length pc)).at_ i u hu) (by simp[Dp.row,Value.oneCell']) HTL.o ?_;intro v12 w12 T12 G12 V12;refine hK' _ _ ?_;have HR12:=hJ (HSTEP.o v12 w12 T12 G12 V12);clear T12 G12 V12 hK')
        go_roundw
        case rel=>exact⟨q+1,oM,gK,HR12.o⟩
        case measure=>simp[intOf];omega
      have hfx:f (⟨id2,kk,io,pt,bk,sl,nm,bt,ot,af,bl⟩:Dp)=true:=by rw[HXF.o];simp[hk1,hk6]
      have HT:Hid (NOwns (wr.n (K7 id2 kk io pt bk sl nm bt ot af pa bl.length pc) 42) 42 11 u5 (rowsP f (ts.take q) (M5.ds.take q))):=HRR.o.1.of_heap fun k hk=>((bF _ wr).alloc nR _).block k (HRR.o.1.lt k hk);have HTL:Hid ((rowsP f (ts.take q) (M5.ds.take q)).length<=100000000000):=by
       exact cQ90
      have HSTEP:Hid (∀v' w',NOwns w' 42 11 v' (rowsP f (ts.take q) (M5.ds.take q)++[(⟨id2,kk,io,pt,bk,sl,nm,bt,ot,af,bl⟩:Dp).row (sL pa bl pc)])->(wr.n (K7 id2 kk io pt bk sl nm bt ot af pa bl.length pc) 42).grownBy w' u5.ownBlock->(∀k,v'.ownBlock=some k->u5.ownBlock=some k\/(wr.n (K7 id2 kk io pt bk sl nm bt ot af pa bl.length pc) 42).1.size<=k)->NOwns w' 42 11 v' (rowsP f (ts.take (q+1)) (M5.ds.take (q+1)))/\(∀k,v'.ownBlock=some k->wc.1.size<=k)/\Bw wc w'):=fun v' w' k1 k2 k3=>by
       exact cQ33
      clear HRR HST HXF hfx;go_wp2_with (at_builtin;refine wS fun K' hK'=>?_;refine zap _ rfl (.tmp 100) (.tmp 108) 31 rfl 42 Tryz.u31 _ 11 104 Tryz.i42 rfl dC dC u5 _ rfl HT.o wr.1.size ((⟨id2,kk,io,pt,bk,sl,nm,bt,ot,af,bl⟩:Dp).row (sL pa bl pc)) rfl rfl (fun i u hu=>(AtC.new wr 42 (K7 id2 kk io pt bk sl nm bt ot af pa bl.length pc)).at_ i u hu) (by simp[Dp.row,Value.oneCell']) HTL.o ?_;intro v12 w12 T12 G12 V12;refine hK' _ _ ?_;have HR12:=hJ (HSTEP.o v12 w12 T12 G12 V12);clear T12 G12 V12 hK')
      go_roundw
      case rel=>exact⟨q+1,oM,gK,HR12.o⟩
      case measure=>simp[intOf];omega
     ·have hq2:q=M5.ds.length:=oM
      subst hq2;rw[List.take_length,show ts.take M5.ds.length=ts by rw[←hln,List.take_length]]at hn;obtain⟨ga,gc,rfl,-⟩:=hn.form;have hzz:=HP5.o.box.frozen 5;have hzr:=(HP5.o.box.over hbl).frozen 5;clear hzz;have HNE:Hid (BX5 Z w.1.size (wr.setCell ⟨b,5,none⟩ (.slice ga (rowsP f ts M5.ds).length gc)) T b bx kd lx (sL s1 ps t1) ps j/\Chg T w (wr.setCell ⟨b,5,none⟩ (.slice ga (rowsP f ts M5.ds).length gc))):=by
       have hlb:=HLB.o;have hb5:=HB5.o.size;have pk:=HKP.o wr (.slice ga (rowsP f ts M5.ds).length gc) f (fun k hk _=>hbl.block k hk.2) (hbl.block b HP5.o.box.lt) hn (fun k hk=>⟨fun e=>by have:=hlo k hk;omega,by have:=hlo k hk;omega⟩);refine⟨⟨_,_,_,_,_,_,_,_,pk,HS5.o.deps (lT (List.length_filter_le _ _) hl5) (fun d hd=>HS5.o.dd d (List.mem_filter.mp hd).1) (ze9 _ _),fun k hk=>?_,(HX5.o.over hbl).other oM _,(HR5.o.below hbl nR).of_heap fun k hk=>hO_ _ ⟨b,5,none⟩ k _ (by have:=(HR5.o.lt k hk).1;show k≠b;omega),HQ5.o⟩,(HB5.o.trans (Chg.of_below hbl)).setCell hlb.1 _⟩
       ·rcases hk with hk|hk
        ·exact HK5.o k hk.1
        ·have:=hlo k hk;have:=HX5.o.lt;exact⟨HTT.o k oM,oM⟩
      have xb0:=(HX5.o.over hbl).c2;generalize hLN:(rowsP f ts M5.ds).length=LN at*;have HLN:=hJ hLN;clear hn hlo hbl HR HP5 HS5 HK5 HX5 HR5 HB5 HRO HNT HKP HFF g0 g1 g2 x5 hLN;go_wp2_with fail
      have hsz6:(wr.setCell ⟨b,5,none⟩ (.slice ga LN gc)).1.size=wr.1.size:=sI
      generalize wr.setCell ⟨b,5,none⟩ (.slice ga LN gc)=w6 at*;have HSZ6:=hJ hsz6;clear hsz6;obtain⟨⟨S6,u,v,iv,bv,dv,pv,M6,P6,hS6,hk6,X6,R6,Q6⟩,B6⟩:=HNE.o
      replace P6:=P6.bound
      obtain⟨gi,ci,p9,e9,i0,i1,i2,-,hfz,hgi,gS⟩:=P6.inoAt j (by rw[hS6.i];omega);subst e9;have HP6:=hJ P6;have HS6:=hJ hS6;have HK6:=hJ hk6;have HX6:=hJ X6;have HQ6:=hJ Q6;clear Q6;have HR6:=hJ R6;have HB6:=hJ B6;have HI6:Hid ((∃r0,w6.cell? ⟨gi,j*3,none⟩=some r0)/\(∃r1,w6.cell? ⟨gi,j*3+1,none⟩=some r1)/\(∃r2,w6.cell? ⟨gi,j*3+2,none⟩=some r2)/\(∀k,w6.frozen? ⟨gi,k,none⟩=false)/\gi<w6.1.size/\T gi):=⟨⟨_,i0⟩,⟨_,i1⟩,⟨_,i2⟩,hfz,hgi,(hk6 gi gS.1).1⟩
      have his6:=hS6.i;have HIS6:=hJ his6;have j1:(j:Int)<(M6.is.length:Int):=oM
      clear P6 hS6 hk6 X6 R6 B6 HNE i0 i1 i2 hfz gS his6 xb5 xb0 hzr;go_loopw [9,8] (fun i lv wr2=>∃(q:Nat)(bl:List Int),q<=ps.length/\i=.int .i64 q/\Hid (ROwns wr2 w6.1.size 3 lv (ic bl)/\bl.length<=q/\BlQ ps q bl/\Bw w6 wr2)) (fun i lv _=>ps.length-(intOf i).toNat)
      case atStart=>exact⟨0,[],zL _,rfl,by rw[←HSZ6.o];exact ROwns.lit0 w6 _ 3 nR,Nat.le_refl _,BlQ.nil ps,bR.alloc nR _⟩
      case round =>
       obtain⟨q,bl,hq,rfl,HR⟩:=hrel;obtain⟨hn,hbq,hbp,hbl⟩:=HR.o;have xb0:=(HX6.o.over hbl).c2;by_cases hlt:q<ps.length
       ·obtain⟨sa,sc,es,hsc⟩:=(HR6.o.below hbl nR).rints;simp only[vJ,true_and]at es;obtain⟨rfl,rfl⟩:=es;obtain⟨g,off,rfl,-,k1⟩:=hsc q hlt;have hpp:=HPS.o ps[q] (gM_ hlt);obtain⟨t,ht⟩:∃t,ps[q]=t:=⟨_,rfl⟩
        rw[ht]at k1 hpp;have HPP:=hJ hpp;have HTQ:=hJ ht;have HRR:=hJ (aI hn (aI hbq (aI hbp hbl)));have q0:(0:Int)<=(q:Int):=oM
        have q1:(q:Int)<(ps.length:Int):=oM
        clear hsc ht hn hbq hbp hbl HR hpp;by_cases htp:0<t
        ·have HT:Hid (ROwns (wr.n #[nI t] 3) w6.1.size 3 u8 (ic bl)):=HRR.o.1.alloc _;have HTL:Hid ((ic bl).length<=100000000000):=by have:=HRR.o.2.1;rw[zaf];show _<=_;omega
         have HSZ:Hid (w6.1.size<=(wr.n #[nI t] 3).1.size):=by have:=HRR.o.2.2.2.size;show _<=_;simp;omega
         have HSTEP:Hid (∀v' w',ROwns w' w6.1.size 3 v' (ic bl++[nI t])->(wr.n #[nI t] 3).grownBy w' u8.ownBlock->(∀k,v'.ownBlock=some k->u8.ownBlock=some k\/(wr.n #[nI t] 3).1.size<=k)->ROwns w' w6.1.size 3 v' (ic (bl++[t]))/\(bl++[t]).length<=q+1/\BlQ ps (q+1) (bl++[t])/\Bw w6 w'):=fun v' w' k1 k2 k3=>by
          obtain⟨hn,hbq,hbp,hbl⟩:=HRR.o;have hsz:=hbl.size;have hpp:=HPP.o;refine⟨by rw[show ic (bl++[t])=ic bl++[nI t]by simp[ic]];exact k1,sO,hbp.more hlt HTQ.o oM hpp.2,?_⟩
          ·exact(hbl.alloc hsz _).grown k2 (by simp at hsz ⊢;omega) (fun k hk=>(hn.lt k hk).1)
         have k2:=(AtC.new wr 3 #[nI t]).c0;have HK2:=hJ k2;clear HRR HPP k2;go_wp2_with (at_builtin;refine wS fun K' hK'=>?_;refine zam _ rfl (.tmp 128) (.tmp 134) 40 rfl w6.1.size 3 Tryz.u40 _ 8 Tryz.i3 rfl dC u8 _ rfl HT.o HSZ.o wr.1.size (nI t) rfl HK2.o rfl HTL.o ?_;intro v12 w12 T12 G12 V12;refine hK' _ _ ?_;have HR12:=hJ (HSTEP.o v12 w12 T12 G12 V12);clear T12 G12 V12 hK')
         go_roundw
         case rel=>exact⟨q+1,bl++[t],oM,gK,HR12.o⟩
         case measure=>simp[intOf];omega
        ·go_wp2;go_roundw
         case rel=>exact⟨q+1,bl,oM,gK,HRR.o.1,by have:=HRR.o.2.1;omega,HRR.o.2.2.1.skip hlt,HRR.o.2.2.2⟩
         case measure=>simp[intOf];omega
       ·have hb2:bl.length<=2:=oM
        have HQ:=hJ (aI hn (aI hb2 (aI hbp hbl)));clear hn hbq hbp hbl HR hb2;obtain⟨ba,bc,rfl,-⟩:=HQ.o.1.form;rw[zaf]at*;go_upto_region 21 with fail
        go_cut []from 136 to 144 (fun wx=>∃(S8:Nat->Prop)(u v iv bv dv pv:Va)(M8:MD),PM wx S8 b u v iv bv dv pv M8/\Sh Z M8/\(∀k,S8 k->T k)/\RInts wx (.slice ba bl.length bc) bl/\Chg T w wx/\Kz.Room Z M8 bl)
        case first =>
         have HAL:Hid (∀W,Bw wr W->PM W (fun k=>S6 k/\k<w6.1.size) b u v (sL (aA gi 0) M6.is ci) bv dv pv M6/\(∃r0,W.cell? ⟨gi,j*3,none⟩=some r0)/\(∃r1,W.cell? ⟨gi,j*3+1,none⟩=some r1)/\(∃r2,W.cell? ⟨gi,j*3+2,none⟩=some r2)/\(∀k,W.frozen? ⟨gi,k,none⟩=false)/\ROwns W w6.1.size 3 (sL ba bl bc) (ic bl)/\Chg T w W):=fun W bb=>by
          obtain⟨hn,-,-,hbl⟩:=HQ.o;have b2:=hbl.trans (bb.mono hbl.size);obtain⟨⟨r0,q0⟩,⟨r1,q1⟩,⟨r2,q2⟩,q3,q4,q5⟩:=HI6.o;have hb6:=HB6.o;have hlb:=HLB.o;have hsz:=hb6.size;exact⟨HP6.o.below b2,⟨r0,(b2.cell (p:=⟨gi,j*3,none⟩) q4).trans q0⟩,⟨r1,(b2.cell (p:=⟨gi,j*3+1,none⟩) q4).trans q1⟩,⟨r2,(b2.cell (p:=⟨gi,j*3+2,none⟩) q4).trans q2⟩,fun k=>(b2.frozen (p:=⟨gi,k,none⟩) q4).trans (q3 k),hn.below bb nR,hb6.trans (Chg.of_below b2)⟩
         obtain⟨A1,-,-,-,-,-,-⟩:=HAL.o wr bR;have y2:=A1.box.c2;clear A1;have HRM:Hid (Kz.Room Z { M6 with is:=M6.is.set j (0,zan 0,[0,0]) } bl):=by
          obtain⟨hj6,e6⟩:=HQ6.o;exact HS6.o.k.lose j hj6 _ bl (fun p p1=>cnt00 p p1) (fun p _=>by rw[e6];exact lT (HQ.o.2.2.1.2 p) (by exact(List.take_sublist q ps).count_le p))
         have HREL:Hid (∀w9 v9,Bw wr w9->ROwns w9 wr.1.size 3 v9 (ic [0,0])->∃(S8:Nat->Prop)(u v iv bv dv pv:Va)(M8:MD),PM (set3 w9 gi j (nI 0,nI (zan 0),v9)) S8 b u v iv bv dv pv M8/\Sh Z M8/\(∀k,S8 k->T k)/\RInts (set3 w9 gi j (nI 0,nI (zan 0),v9)) (sL ba bl bc) bl/\Chg T w (set3 w9 gi j (nI 0,nI (zan 0),v9))/\Kz.Room Z M8 bl):=fun w9 v9 bb o9=>by
          obtain⟨A1,-,-,-,-,A6,A7⟩:=HAL.o w9 bb;have hsz:=HQ.o.2.2.2.size;have hb6:=HB6.o.size;have hlb:=HLB.o;have q5:=HI6.o.2.2.2.2;have hpi:=A1.putI rfl j (by rw[HIS6.o];omega) (nI 0,nI (zan 0),v9) (0,zan 0,[0,0]) ⟨rfl,rfl,o9.base_le (zL _)⟩ (fun k hk=>⟨fun e=>by have:=(o9.lt k hk).1;omega,by have:=(o9.lt k hk).1;omega⟩);refine⟨_,_,_,_,_,_,_,_,hpi.1,HS6.o.inode j IOk.none (fun _ p p1=>by rw[cnt00 p p1];exact zL _),fun k hk=>?_,(A6.of_heap fun k hk=>zaz _ _ _ _ k (by have:=(A6.lt k hk).1;omega)).rints,((A7.setCell q5.2 _).setCell q5.2 _).setCell q5.2 _,HRM.o⟩;rcases hk with hk|hk
          ·exact(HK6.o k hk.1).1
          ·have:=(o9.lt k hk).1;exact HTT.o k oM
         go_region_with (go_at_call 119;refine(zbc 0 _).mono ?_;rintro e w9 ⟨v9,rfl,O9,B9⟩;obtain⟨n1,n2,rfl,-⟩:=O9.form;rw[zaf]at*;obtain⟨A1,⟨r0,k0⟩,⟨r1,k1⟩,⟨r2,k2⟩,k3,-,-⟩:=HAL.o w9 (zac B9);have y9:w9.cell? ⟨b,2,none⟩=some (.slice (some ⟨gi,0,none⟩) M6.is.length ci):=A1.box.cell 2;have z0:=k3 (j*3);have z1:=k3 (j*3+1);have z2:=k3 (j*3+2);have HB9:=hJ B9;have HO9:=hJ O9;clear A1 k3 B9 O9)
         all_goals (go_wp2_with fail;go_meet;exact HREL.o w9 _ (zac HB9.o) HO9.o)
        case rest =>
         obtain⟨S8,u,v,iv,bv,dv,pv,M8,P8,hS8,hk8,R8,B8,K8⟩:=hcut;have HK8R:=hJ K8;clear K8;clear HP6 HS6 HK6 HX6 HR6 HI6 HIS6 xb0;obtain⟨a1,c1,a2,c2,a3,c3,a4,c4,a5,c5,a6,c6,rfl,rfl,rfl,rfl,rfl,rfl⟩:=P8.form;obtain⟨x0,x1,x2,x3,x4,x5,x6⟩:=AtC.sev P8.box;have HP8:=hJ P8;have HS8:=hJ hS8;have HK8:=hJ hk8;have HR8:=hJ R8;have HB8:=hJ B8;have HDO:Hid (DOkN ⟨M8.nx,5,(j:Int)+1,0,0,0,⟨#[]⟩,false,false,0,bl⟩):=⟨⟨by show 1<=(j:Int)+1;omega,by show(j:Int)+1<=8;omega⟩,sI,sI,sI,HQ.o.2.2.1.1,HQ.o.2.1,by show(0:Nat)<=6;omega⟩
         clear P8 hS8 hk8 R8 B8;go_wp2_with fail
         refine(zfc 0 5 ((j:Int)+1) 0 0 0 ⟨#[]⟩ false false 0 bl _ _ _ _ _ _ _ M8 wc HP8.o.mr HS8.o HR8.o HDO.o (fun _=>HK8R.o)).mono ?_;rintro e wn ⟨u1,u2,u3,u4,u5,u6,mn,r,rfl,On,hSn,hr0,hr9,Bn⟩;obtain⟨b1,d1,b2,d2,b3,d3,b4,d4,b5,d5,b6,d6,rfl,rfl,rfl,rfl,rfl,rfl⟩:=On.mr.form;have A2:AtC (wn.n (M7 mn b1 d1 b2 d2 b3 d3 b4 d4 b5 d5 b6 d6) 33) b 33 (M7 M8 a1 c1 a2 c2 a3 c3 a4 c4 a5 c5 a6 c6):=(HP8.o.box.over Bn).over ((bF _ wn).alloc nR _);have HFIN:Hid (BT Z ((wn.n (M7 mn b1 d1 b2 d2 b3 d3 b4 d4 b5 d5 b6 d6) 33).s0 b mn b1 d1 b2 d2 b3 d3 b4 d4 b5 d5 b6 d6) T b/\Chg T w ((wn.n (M7 mn b1 d1 b2 d2 b3 d3 b4 d4 b5 d5 b6 d6) 33).s0 b mn b1 d1 b2 d2 b3 d3 b4 d4 b5 d5 b6 d6)):=by
          have hlb:=HLB.o;have hz8:=HB8.o.size;have hzb:=HP8.o.box.lt;refine⟨⟨fun k=>wc.1.size<=k,_,_,_,_,_,_,mn,PM.store A2 (On.below ((bF _ wn).alloc nR _) nR) oM,fun k hk=>HTT.o k oM,hlb.1,hSn⟩,(((((((HB8.o.trans (Chg.of_below (Bn.alloc Bn.size _))).setCell hlb.1 _).setCell hlb.1 _).setCell hlb.1 _).setCell hlb.1 _).setCell hlb.1 _).setCell hlb.1 _).setCell hlb.1 _⟩
         obtain⟨r0,r1,r2,r3,r4,r5,r6⟩:=A2.k7;obtain⟨v0,v1,v2,v3,v4,v5,v6⟩:=A2.f7;obtain⟨s0,s1,s2,s3,s4,s5,s6⟩:=(AtC.new wn 33 (M7 mn b1 d1 b2 d2 b3 d3 b4 d4 b5 d5 b6 d6)).k7;clear A2 On hSn Bn x0 x1 x2 x3 x4 x5 x6 hr0 hr9 HP8 HS8 HR8 HDO HQ;go_wp2
         go_end0
         exact⟨rfl,HFIN.o⟩
namespace Kit
variable {Z : ZT}
theorem BT.bitX{w:Wd}{T:Nat->Prop}{b:Nat}(h:BT Z w T b)(j:Nat)(hj:j<16):∃g c r,w.cell? ⟨b,0,none⟩=some (.slice (aA g 0) 16 c)/\w.cell? ⟨g,j,none⟩=some (.bool r)/\w.frozen? ⟨g,j,none⟩=false/\T g/\g<w.1.size/\∀x,(x=true\/∀i,Z i ((j:Int)+1))->BT Z (w.setCell ⟨g,j,none⟩ (.bool x)) T b:=by
 obtain⟨S,u,v,iv,bv,dv,pv,m,hP,hS,hb,hm⟩:=h;obtain⟨S1,S2,S3,ts,h1,h2,h3,h4,h5,h6,h7⟩:=hP.own;obtain⟨T1,T2,T3,ti,tb,k1,k2,k3,k4,k5,k6,k7⟩:=h1;have hn:=hm.x;obtain⟨g,cap,e1,q1,q2,q3,q4,-⟩:=(k1.a).at j (by rw[zad,hn];exact hj);rw[zad,hn]at e1;have so:=h7 g (.inl (k7 g (.inl (k2 g (.inl (by rw[e1];rfl))))));have hr:=ROwns.stored (l:=fc m.xs) (g:=g) (cap:=cap) (by rw[zad,hn,←e1];exact k1.a) j;refine⟨g,cap,m.xs[j]'oM,?_,q1.trans (by simp[fc,hn,hj]),q2,hS g so,q4,fun x hx=>?_⟩
 ·have:=hP.box.cell 0;rw[←e1];exact this
 have q:=(hr (.bool x)).1;have qg:=(hr (.bool x)).2;rw[zad,hn,←zcl,←e1]at q;exact⟨S,u,v,iv,bv,dv,pv,{ m with xs:=m.xs.set j x },⟨hP.box.grown qg (fun e=>hP.nb (by simp only[oJ]at e;subst e;exact so)),hP.own.turnX q (by rw[e1];exact qg),hP.nb⟩,hS,hb,⟨by rw[lS];exact hm.x,hm.y,hm.i,hm.ii,hm.b,hm.bb,hm.f,hm.l,hm.dd,hm.nx,hx.elim (fun e=>by rw[e];exact hm.k.mark j m.fs) (fun e=>by cases x;exact hm.k.clear j e;exact hm.k.mark j m.fs)⟩⟩
theorem BT.bitY{w:Wd}{T:Nat->Prop}{b:Nat}(h:BT Z w T b)(j:Nat)(hj:j<8):∃g c r,w.cell? ⟨b,1,none⟩=some (.slice (aA g 0) 8 c)/\w.cell? ⟨g,j,none⟩=some (.bool r)/\w.frozen? ⟨g,j,none⟩=false/\T g/\g<w.1.size/\∀x,BT Z (w.setCell ⟨g,j,none⟩ (.bool x)) T b:=by
 obtain⟨S,u,v,iv,bv,dv,pv,m,hP,hS,hb,hm⟩:=h;obtain⟨S1,S2,S3,ts,h1,h2,h3,h4,h5,h6,h7⟩:=hP.own;obtain⟨T1,T2,T3,ti,tb,k1,k2,k3,k4,k5,k6,k7⟩:=h1;have hn:=hm.y;obtain⟨g,cap,e1,q1,q2,q3,q4,-⟩:=(k1.b).at j (by rw[zad,hn];exact hj);rw[zad,hn]at e1;have so:=h7 g (.inl (k7 g (.inl (k2 g (.inr (by rw[e1];rfl))))));have hr:=ROwns.stored (l:=fc m.ys) (g:=g) (cap:=cap) (by rw[zad,hn,←e1];exact k1.b) j;refine⟨g,cap,m.ys[j]'oM,?_,q1.trans (by simp[fc,hn,hj]),q2,hS g so,q4,fun x=>?_⟩
 ·have:=hP.box.cell 1;rw[←e1];exact this
 have q:=(hr (.bool x)).1;have qg:=(hr (.bool x)).2;rw[zad,hn,←zcl,←e1]at q;exact⟨S,u,v,iv,bv,dv,pv,{ m with ys:=m.ys.set j x },⟨hP.box.grown qg (fun e=>hP.nb (by simp only[oJ]at e;subst e;exact so)),hP.own.turnY q (by rw[e1];exact qg),hP.nb⟩,hS,hb,⟨hm.x,by rw[lS];exact hm.y,hm.i,hm.ii,hm.b,hm.bb,hm.f,hm.l,hm.dd,hm.nx,hm.k.of rfl rfl rfl⟩⟩
theorem BT.bitF{w:Wd}{T:Nat->Prop}{b:Nat}(h:BT Z w T b)(j:Nat)(hj:j<21):∃g c r,w.cell? ⟨b,4,none⟩=some (.slice (aA g 0) 21 c)/\w.cell? ⟨g,j,none⟩=some (.bool r)/\w.frozen? ⟨g,j,none⟩=false/\T g/\g<w.1.size/\∀x,BT Z (w.setCell ⟨g,j,none⟩ (.bool x)) T b:=by
 obtain⟨S,u,v,iv,bv,dv,pv,m,hP,hS,hb,hm⟩:=h;obtain⟨S1,S2,S3,ts,h1,h2,h3,h4,h5,h6,h7⟩:=hP.own;obtain⟨T1,T2,T3,ti,tb,k1,k2,k3,k4,k5,k6,k7⟩:=h1;have hn:=hm.f;obtain⟨g,cap,e1,q1,q2,q3,q4,-⟩:=(h2).at j (by rw[zad,hn];exact hj);rw[zad,hn]at e1;have so:=h7 g (.inr (.inl (h3 g (by rw[e1];rfl))));have hr:=ROwns.stored (l:=fc m.fs) (g:=g) (cap:=cap) (by rw[zad,hn,←e1];exact h2) j;refine⟨g,cap,m.fs[j]'oM,?_,q1.trans (by simp[fc,hn,hj]),q2,hS g so,q4,fun x=>?_⟩
 ·have:=hP.box.cell 4;rw[←e1];exact this
 have q:=(hr (.bool x)).1;have qg:=(hr (.bool x)).2;rw[zad,hn,←zcl,←e1]at q;exact⟨S,u,v,iv,bv,dv,pv,{ m with fs:=m.fs.set j x },⟨hP.box.grown qg (fun e=>hP.nb (by simp only[oJ]at e;subst e;exact so)),hP.own.turnF q (by rw[e1];exact qg),hP.nb⟩,hS,hb,⟨hm.x,hm.y,hm.i,hm.ii,hm.b,hm.bb,by rw[lS];exact hm.f,hm.l,hm.dd,hm.nx,hm.k.of rfl rfl rfl⟩⟩
theorem zh4{w w2:Wd}{T:Nat->Prop}{b:Nat}{x0 x1 x2 x3 x4 x5 x6 u v iv bv dv pv:Va}{m:MD}(h:AtC w2 b 33 #[x0,x1,x2,x3,x4,x5,x6])(O:MO w2 (fun k=>w.1.size<=k) u v iv bv dv pv m)(hB:Chg T w w2)(hm:Sh Z m)(hb:T b)(hl:b<w.1.size)(hT:∀k,w.1.size<=k->T k):
  BT Z (((((((w2.setCell ⟨b,0,none⟩ u).setCell ⟨b,1,none⟩ v).setCell ⟨b,2,none⟩ iv).setCell ⟨b,3,none⟩ bv).setCell ⟨b,4,none⟩ dv).setCell ⟨b,5,none⟩ pv).setCell ⟨b,6,none⟩ (nI m.nx)) T b/\Chg T w (((((((w2.setCell ⟨b,0,none⟩ u).setCell ⟨b,1,none⟩ v).setCell ⟨b,2,none⟩ iv).setCell ⟨b,3,none⟩ bv).setCell ⟨b,4,none⟩ dv).setCell ⟨b,5,none⟩ pv).setCell ⟨b,6,none⟩ (nI m.nx)) :=
 ⟨⟨fun k=>w.1.size<=k,u,v,iv,bv,dv,pv,m,PM.store h O oM,hT,hb,hm⟩,((((((hB.setCell hb _).setCell hb _).setCell hb _).setCell hb _).setCell hb _).setCell hb _).setCell hb _⟩
end Kit
variable {Z : ZT}
theorem zdx(T:Nat->Prop)(b:Nat)(x:Int)(w:Wd)(h:BT Z w T b):
  Calls Tryz.prog 197 #[.pointer (aA b 0),nI x] w fun e w'=>e=.returned (.tuple #[])/\BT Z w' T b/\Chg T w w':=by
 obtain⟨S,u,v,iv,bv,dv,pv,m,hP,hS,hb,hm⟩:=h;refine(zbz S b x _ _ _ _ _ _ m w hP).mono ?_;rintro e w' ⟨rfl,P2,C2⟩;exact⟨rfl,⟨S,u,v,iv,bv,dv,pv,_,P2,hS,hb,hm.mark x⟩,C2.mono hS⟩
theorem zmy{Y:ZT}(id:Int)(u v iv bv dv pv:Va)(m:MD)(w:Wd)(h:MR w u v iv bv dv pv m)(hm:Sh Z m)(hk:Kz Y { m with ds:=za4 id m.ds }):
  Calls Tryz.prog 14 #[.agg #[u,v,iv,bv,dv,pv,nI m.nx],nI id] w fun e w'=>∃u' v' i' b' d' p' m',e=.returned (.agg #[u',v',i',b',d',p',nI m'.nx])/\MO w' (fun k=>w.1.size<=k) u' v' i' b' d' p' m'/\Sh Y m'/\Bw w w':=by
 refine(zct id u v iv bv dv pv m w h hm.big).mono ?_;rintro e w' ⟨u1,u2,u3,u4,u5,u6,rfl,O,B⟩;exact⟨u1,u2,u3,u4,u5,u6,{ m with ds:=za4 id m.ds },rfl,O,(zd6 hm id).with_k hk,B⟩
theorem zd9(id:Int)(u v iv bv dv pv:Va)(m:MD)(w:Wd)(h:MR w u v iv bv dv pv m)(hm:Sh Z m):
  Calls Tryz.prog 14 #[.agg #[u,v,iv,bv,dv,pv,nI m.nx],nI id] w fun e w'=>∃u' v' i' b' d' p' m',e=.returned (.agg #[u',v',i',b',d',p',nI m'.nx])/\MO w' (fun k=>w.1.size<=k) u' v' i' b' d' p' m'/\Sh Z m'/\Bw w w':=by
 refine(zct id u v iv bv dv pv m w h hm.big).mono ?_;rintro e w' ⟨u1,u2,u3,u4,u5,u6,rfl,O,B⟩;exact⟨u1,u2,u3,u4,u5,u6,{ m with ds:=za4 id m.ds },rfl,O,zd6 hm id,B⟩
end Go.Proofs.YtgnplpmgkegcnaaGreat
