/- Texts. -/
import Derived.Test.YtgnplpmgkegcnaaGreatW06
import Derived.Test.YtgnplpmgkegcnaaGreatW07
set_option maxRecDepth 100000
set_option maxHeartbeats 12800000
namespace Go.Proofs.YtgnplpmgkegcnaaGreat
open Go.RowKit Kit
variable {Z : ZT}
theorem zif(u v iv bv dv pv:Va)(m:MD)(i:Int)(nx:BA)(w:Wd)(h:MR w u v iv bv dv pv m)(hm:Sh Z m)(hi1:1<=i)(hi8:i<=8):
  Calls Tryz.prog 194 #[.agg #[u,v,iv,bv,dv,pv,nI m.nx],nI i,.string nx] w fun e w'=>AnyB e/\Bw w w':=by
 obtain⟨a1,c1,a2,c2,a3,c3,a4,c4,a5,c5,a6,c6,rfl,rfl,rfl,rfl,rfl,rfl⟩:=h.form;have HH:=hJ h;have HM:=hJ hm;have hdl:=hm.l;obtain⟨j,rfl⟩:∃j:Nat,i=(j:Int)+1:=⟨(i-1).toNat,oM⟩
 have hwj:IntKind.i64.wrap (j:Int)=(j:Int):=wrap_small _ oM oM;have hj:j<m.3.length:=by rw[hm.i];omega
 obtain⟨qa,qc,qe,-,qh⟩:=h.d.i;simp only[vJ,true_and]at qe;obtain⟨rfl,rfl⟩:=qe;obtain⟨g2,o2,⟨t0,t1,t2⟩,rfl,hg2,-,-,r2,-,-,rr⟩:=qh j hj;simp only at r2 rr;obtain⟨sa,sc,rfl⟩:=rr.form;have hio:=(hm.ii _ (gM_ hj)).n;obtain⟨ps,hps⟩:∃ps,m.is[j].2.2=ps:=⟨_,rfl⟩
 rw[hps]at r2 rr hio;have HRR:=hJ rr;have hpl:=Nat.le_of_eq hio;have hbn:∀d∈m.ds,d.bl.length<=2:=fun d hd=>(hm.dd d hd).bn;have HG2:Hid (g2<w.1.size/\w.cell? ⟨g2,o2+j*3+2,none⟩=some (.slice sa ps.length sc)):=⟨hg2,r2⟩
 have j0:(0:Int)<=(j:Int):=oM
 have j1:(j:Int)<(m.3.length:Int):=oM
 obtain⟨a,c,ei,-,hc⟩:=h.p.dep;simp only[vJ,true_and]at ei;obtain⟨rfl,rfl⟩:=ei;have HC:=hJ hc;have HW:Hid (∀W,Bw (w.alloc (.cells (M7 m a1 c1 a2 c2 (aA g2 o2) c3 a4 c4 a5 c5 a6 c6) 33)) W->Bw w W/\AtC W w.1.size 33 (M7 m a1 c1 a2 c2 (aA g2 o2) c3 a4 c4 a5 c5 a6 c6)):=fun W bb=>⟨((bF _ w).alloc nR _).trans (bb.mono sI),(AtC.new w 33 _).over bb⟩
 clear h hm qh hc rr hio hps r2 hg2 hbn;go_enter Tryz.func194,Tryz.ntmps194
 go_wp2_with fail
 generalize hW0:(w.alloc (.cells (M7 m a1 c1 a2 c2 (some ⟨g2,o2,none⟩) c3 a4 c4 a5 c5 a6 c6) 33))=W0 at*;clear hW0;go_loopw [7] (fun i' wr=>∃q:Nat,q<=m.6.length/\i'=.int .i64 q/\Hid (Bw W0 wr)) (fun i' _=>m.6.length-(intOf i').toNat)
 case atStart=>exact⟨0,zL _,rfl,bF _ _⟩
 case round =>
  obtain⟨q,hq,rfl,HR⟩:=hrel;obtain⟨hbw,hmb⟩:=HW.o wr HR.o;have x5:=hmb.c5;by_cases hlt:q<m.6.length
  ·obtain⟨g6,o6,p,rfl,hg6,nn,hp⟩:=HC.o q hlt;obtain⟨X,hX⟩:∃X,m.ds[q]=X:=⟨_,rfl⟩
   rw[hX]at nn hp;obtain⟨id,kk,io,pt,bk,sl,nm,bt,ot,af,bl⟩:=X;simp only at hp;obtain⟨pa,pc,rfl,-⟩:=hp;simp only[DCells]at nn;obtain⟨m0,m1,m2,m3,m4,m5,m6,m7,m8,m9,m10⟩:=nn;have k0:=(hbw.cell (p:=⟨g6,o6+q*11,none⟩) hg6).trans m0;have k1:=(hbw.cell (p:=⟨g6,o6+q*11+1,none⟩) hg6).trans m1;have k2:=(hbw.cell (p:=⟨g6,o6+q*11+2,none⟩) hg6).trans m2;have k3:=(hbw.cell (p:=⟨g6,o6+q*11+3,none⟩) hg6).trans m3;have k4:=(hbw.cell (p:=⟨g6,o6+q*11+4,none⟩) hg6).trans m4;have k5:=(hbw.cell (p:=⟨g6,o6+q*11+5,none⟩) hg6).trans m5;have k6:=(hbw.cell (p:=⟨g6,o6+q*11+6,none⟩) hg6).trans m6;have k7:=(hbw.cell (p:=⟨g6,o6+q*11+7,none⟩) hg6).trans m7;have k8:=(hbw.cell (p:=⟨g6,o6+q*11+8,none⟩) hg6).trans m8;have k9:=(hbw.cell (p:=⟨g6,o6+q*11+9,none⟩) hg6).trans m9;have k10:wr.cell? ⟨g6,o6+q*11+10,none⟩=some (.slice pa bl.length pc):=(hbw.cell (p:=⟨g6,o6+q*11+10,none⟩) hg6).trans m10;have q0:(0:Int)<=(q:Int):=oM
   have q1:(q:Int)<(m.6.length:Int):=oM
   have b1:Bw wr (wr.alloc (.cells (K7 id kk io pt bk sl nm bt ot af pa bl.length pc) 42)):=(bF _ wr).alloc nR _;have HA:Hid (Bw W0 (wr.alloc (.cells (K7 id kk io pt bk sl nm bt ot af pa bl.length pc) 42))/\AtC (wr.alloc (.cells (K7 id kk io pt bk sl nm bt ot af pa bl.length pc) 42)) wr.1.size 42 (K7 id kk io pt bk sl nm bt ot af pa bl.length pc)):=⟨HR.o.trans (b1.mono HR.o.size),AtC.new wr 42 _⟩
   clear m0 m1 m2 m3 m4 m5 m6 m7 m8 m9 m10 hX hbw hmb b1;go_upto_region 5 with fail
   generalize hbd:wr.1.size=bd at*;clear hbd HR k0 k1 k2 k3 k4 k5 k6 k7 k8 k9 k10 x5;generalize wr.alloc (.cells (K7 id kk io pt bk sl nm bt ot af pa bl.length pc) 42)=wA at*;obtain⟨hbw,hmb⟩:=HW.o wA HA.o.1;have x2:=hmb.c2;obtain⟨-,d1,-,-,d4,-,d6,-,-,d9⟩:=HA.o.2.k10;have y2:=(hbw.cell (p:=⟨g2,o2+j*3+2,none⟩) HG2.o.1).trans HG2.o.2;have CH:Hid (∀W,wA.1=W.heap->Bw w W->Calls Tryz.prog 217 #[.slice sa ps.length sc,nI bk] W fun e w'=>(∃r:Bool,e=.returned (.bool r))/\w'=W):=fun W _ bb=>(ze7 _ ps bk W (HRR.o.below bb nR) oM).mono fun e w' ⟨h1,h2⟩=>⟨⟨_,h1⟩,h2⟩
   have HBW:=hJ hbw;clear hbw hmb;go_cut [47]from 9 to 47 (fun c wx=>(∃r,c=.bool r)/\Bw wA wx)
   case first =>
    by_cases hk:kk=4
    ·subst hk;by_cases ha:0<af
     ·have had:=dT ha;by_cases hs:nm=nx
      ·subst hs;go_quiet((go_at_call 217;exact Calls.quiet_of_same (ze7 _ ps bk _ (HRR.o.below (bD HBW.o _) nR) oM)))
       exact cQ56
      ·have hsb:=zbm hs;go_quiet(fail)
       exact cQ56
     ·have had:=dF ha;go_quiet(fail)
      exact cQ56
    ·have hkb:(kk==4)=false:=by simp[hk]
     go_quiet(fail)
     exact cQ56
   case rest =>
    exact cQ52
  ·exact cQ143
theorem held_any(u v iv bv dv pv:Va)(m:MD)(i:Int)(w:Wd)(h:MR w u v iv bv dv pv m)(hm:Sh Z m)(hi1:1<=i)(hi8:i<=8):
  Calls Tryz.prog 205 #[.agg #[u,v,iv,bv,dv,pv,nI m.nx],nI i] w fun e w'=>AnyB e/\Bw w w':=by
 obtain⟨a1,c1,a2,c2,a3,c3,a4,c4,a5,c5,a6,c6,rfl,rfl,rfl,rfl,rfl,rfl⟩:=h.form;have HH:=hJ h;have HM:=hJ hm;have hdl:=hm.l;obtain⟨j,rfl⟩:∃j:Nat,i=(j:Int)+1:=⟨(i-1).toNat,oM⟩
 have hwj:IntKind.i64.wrap (j:Int)=(j:Int):=wrap_small _ oM oM;have hj:j<m.3.length:=by rw[hm.i];omega
 obtain⟨qa,qc,qe,-,qh⟩:=h.d.i;simp only[vJ,true_and]at qe;obtain⟨rfl,rfl⟩:=qe;obtain⟨g2,o2,⟨t0,t1,t2⟩,rfl,hg2,-,-,r2,-,-,rr⟩:=qh j hj;simp only at r2 rr;obtain⟨sa,sc,rfl⟩:=rr.form;have hio:=(hm.ii _ (gM_ hj)).n;obtain⟨ps,hps⟩:∃ps,m.is[j].2.2=ps:=⟨_,rfl⟩
 rw[hps]at r2 rr hio;have HRR:=hJ rr;have hpl:=Nat.le_of_eq hio;have hbn:∀d∈m.ds,d.bl.length<=2:=fun d hd=>(hm.dd d hd).bn;have HG2:Hid (g2<w.1.size/\w.cell? ⟨g2,o2+j*3+2,none⟩=some (.slice sa ps.length sc)):=⟨hg2,r2⟩
 have j0:(0:Int)<=(j:Int):=oM
 have j1:(j:Int)<(m.3.length:Int):=oM
 obtain⟨a,c,ei,-,hc⟩:=h.p.dep;simp only[vJ,true_and]at ei;obtain⟨rfl,rfl⟩:=ei;have HC:=hJ hc;have HW:Hid (∀W,Bw (w.alloc (.cells (M7 m a1 c1 a2 c2 (aA g2 o2) c3 a4 c4 a5 c5 a6 c6) 33)) W->Bw w W/\AtC W w.1.size 33 (M7 m a1 c1 a2 c2 (aA g2 o2) c3 a4 c4 a5 c5 a6 c6)):=fun W bb=>⟨((bF _ w).alloc nR _).trans (bb.mono sI),(AtC.new w 33 _).over bb⟩
 clear h hm qh hc rr hio hps r2 hg2 hbn;go_enter Tryz.func205,Tryz.ntmps205
 go_wp2_with fail
 generalize hW0:(w.alloc (.cells (M7 m a1 c1 a2 c2 (some ⟨g2,o2,none⟩) c3 a4 c4 a5 c5 a6 c6) 33))=W0 at*;clear hW0;go_loopw [5] (fun i' wr=>∃q:Nat,q<=m.6.length/\i'=.int .i64 q/\Hid (Bw W0 wr)) (fun i' _=>m.6.length-(intOf i').toNat)
 case atStart=>exact⟨0,zL _,rfl,bF _ _⟩
 case round =>
  obtain⟨q,hq,rfl,HR⟩:=hrel;obtain⟨hbw,hmb⟩:=HW.o wr HR.o;have x5:=hmb.c5;by_cases hlt:q<m.6.length
  ·obtain⟨g6,o6,p,rfl,hg6,nn,hp⟩:=HC.o q hlt;obtain⟨X,hX⟩:∃X,m.ds[q]=X:=⟨_,rfl⟩
   rw[hX]at nn hp;obtain⟨id,kk,io,pt,bk,sl,nm,bt,ot,af,bl⟩:=X;simp only at hp;obtain⟨pa,pc,rfl,-⟩:=hp;simp only[DCells]at nn;obtain⟨m0,m1,m2,m3,m4,m5,m6,m7,m8,m9,m10⟩:=nn;have k0:=(hbw.cell (p:=⟨g6,o6+q*11,none⟩) hg6).trans m0;have k1:=(hbw.cell (p:=⟨g6,o6+q*11+1,none⟩) hg6).trans m1;have k2:=(hbw.cell (p:=⟨g6,o6+q*11+2,none⟩) hg6).trans m2;have k3:=(hbw.cell (p:=⟨g6,o6+q*11+3,none⟩) hg6).trans m3;have k4:=(hbw.cell (p:=⟨g6,o6+q*11+4,none⟩) hg6).trans m4;have k5:=(hbw.cell (p:=⟨g6,o6+q*11+5,none⟩) hg6).trans m5;have k6:=(hbw.cell (p:=⟨g6,o6+q*11+6,none⟩) hg6).trans m6;have k7:=(hbw.cell (p:=⟨g6,o6+q*11+7,none⟩) hg6).trans m7;have k8:=(hbw.cell (p:=⟨g6,o6+q*11+8,none⟩) hg6).trans m8;have k9:=(hbw.cell (p:=⟨g6,o6+q*11+9,none⟩) hg6).trans m9;have k10:wr.cell? ⟨g6,o6+q*11+10,none⟩=some (.slice pa bl.length pc):=(hbw.cell (p:=⟨g6,o6+q*11+10,none⟩) hg6).trans m10;have q0:(0:Int)<=(q:Int):=oM
   have q1:(q:Int)<(m.6.length:Int):=oM
   have b1:Bw wr (wr.alloc (.cells (K7 id kk io pt bk sl nm bt ot af pa bl.length pc) 42)):=(bF _ wr).alloc nR _;have HA:Hid (Bw W0 (wr.alloc (.cells (K7 id kk io pt bk sl nm bt ot af pa bl.length pc) 42))/\AtC (wr.alloc (.cells (K7 id kk io pt bk sl nm bt ot af pa bl.length pc) 42)) wr.1.size 42 (K7 id kk io pt bk sl nm bt ot af pa bl.length pc)):=⟨HR.o.trans (b1.mono HR.o.size),AtC.new wr 42 _⟩
   clear m0 m1 m2 m3 m4 m5 m6 m7 m8 m9 m10 hX hbw hmb b1;go_upto_region 5 with fail
   generalize hbd:wr.1.size=bd at*;clear hbd HR k0 k1 k2 k3 k4 k5 k6 k7 k8 k9 k10 x5;generalize wr.alloc (.cells (K7 id kk io pt bk sl nm bt ot af pa bl.length pc) 42)=wA at*;obtain⟨hbw,hmb⟩:=HW.o wA HA.o.1;have x2:=hmb.c2;obtain⟨-,d1,-,-,d4,-,d6,-,-,d9⟩:=HA.o.2.k10;have y2:=(hbw.cell (p:=⟨g2,o2+j*3+2,none⟩) HG2.o.1).trans HG2.o.2;have CH:Hid (∀W,wA.1=W.heap->Bw w W->Calls Tryz.prog 217 #[.slice sa ps.length sc,nI bk] W fun e w'=>(∃r:Bool,e=.returned (.bool r))/\w'=W):=fun W _ bb=>(ze7 _ ps bk W (HRR.o.below bb nR) oM).mono fun e w' ⟨h1,h2⟩=>⟨⟨_,h1⟩,h2⟩
   have HBW:=hJ hbw;clear hbw hmb;go_cut [39]from 7 to 39 (fun c wx=>(∃r,c=.bool r)/\Bw wA wx)
   case first =>
    by_cases hk:kk=4
    ·subst hk;by_cases ha:0<af
     ·have had:=dT ha;go_quiet((go_at_call 217;exact Calls.quiet_of_same (ze7 _ ps bk _ (HRR.o.below (bD HBW.o _) nR) oM)))
      exact cQ56
     ·have had:=dF ha;go_quiet(fail)
      exact cQ56
    ·have hkb:(kk==4)=false:=by simp[hk]
     go_quiet(fail)
     exact cQ56
   case rest =>
    exact cQ52
  ·exact cQ143
structure DirS(w wr:Wd)(s:BA)(v:Va)(j p:Nat)(ys:List Sl):Prop where
 res:AtC wr w.1.size 95 #[.bool false,nZ,eT]
 var:AtC wr (w.1.size+1) 95 #[.bool true,v,eT]
 own:SOwns wr (w.1.size+1+1) 90 v ys
 bel:Bw w wr
 up:Upto s j p ys
theorem DirS.over{w wr w':Wd}{s:BA}{v:Va}{j p:Nat}{ys:List Sl}(h:DirS w wr s v j p ys)(hb:Bw wr w'):DirS w w' s v j p ys :=
 ⟨h.res.over hb,h.var.over hb,h.own.below hb nR,h.bel.trans (hb.mono h.bel.size),h.up⟩
theorem DirS.next{w wr w':Wd}{s t:BA}{v v':Va}{j p q:Nat}{x:Int}{ys:List Sl}(h:DirS w wr s v j p ys)(O:SOwns w' (w.1.size+1+1) 90 v' (ys++[(t,x)]))(B:Below (w.1.size+1+1) wr w')(U:Upto s (j+1) q (ys++[(t,x)])):
  DirS w (w'.setCell ⟨w.1.size+1,1,none⟩ v') s v' (j+1) q (ys++[(t,x)]) :=
 ⟨(h.res.below B oM).other oM _,(h.var.below B oM).set 1 _,O.setCell_low oM _,(h.bel.trans (B.mono oM)).setCell sI _,U⟩
theorem zfz(s:BA)(w:Wd)(h:s.size=0):
  Calls Tryz.prog 121 #[.string s] w fun e w'=>e=.returned (.tuple #[.agg #[.bool false,nZ,eT],.bool false])/\Bw w w':=by
 have he:=zex h;go_enter Tryz.func121,Tryz.ntmps121
 go_wp2;refine bY (v:=.tuple #[.agg #[.bool false,nZ,eT],.bool false]) sR0 rfl ⟨rfl,gW_⟩
set_option linter.unusedSimpArgs false in
theorem zhd(s:BA)(w:Wd)(hs:s.size<=1048576)(h0:0<s.size)(hd:s[0]=100):
  Calls Tryz.prog 121 #[.string s] w fun e w'=>∃v,e=.returned (.tuple #[.agg #[.bool (rD s),v,.string (rT s)],.bool (rOk s)])/\SOwns w' w.1.size 90 v (rX s)/\Bw w w':=by
 have he:=zbq h0;have hx:((s[0]).toNat:Int)=100:=by rw[hd];rfl
 have bH:(1:Int)<=(s.size:Int):=oM
 have bC:(0:Int)<(s.size:Int):=oM
 go_enter Tryz.func121,Tryz.ntmps121
 go_wp2_with fail
 go_loopw [5,6,7,8,9] (fun a i _ _ _ wr=>∃(j p:Nat)(v:Va)(ys:List Sl),j<=4/\i=.int .i64 j/\a=.int .i64 p/\DirS w wr s v j p ys) (fun _ i _ _ _ _=>4-(intOf i).toNat)
 case atStart =>
  refine⟨0,1,nZ,[],zL _,rfl,rfl,(AtC.new w 95 _).alloc _,?_,SOwns.nil _ _ _,((bF _ w).alloc nR _).alloc sI _,Upto.start h0⟩;have:=AtC.new (w.alloc (.cells #[.bool false,nZ,eT] 95)) 95 #[.bool true,nZ,eT];simpa using this
 obtain⟨j,p,v,ys,hj,rfl,rfl,aD⟩:=hrel;have HD:=hJ aD;have aU:=aD.up.1;have aV:=hJ aU;have aZ:ys.length<=4:=oM
 clear aU;have bL:=aD.up.2.1;obtain⟨va,vc,rfl,-⟩:=aD.own.form;obtain⟨c0,c1,c2,cl⟩:=aD.var.three;obtain⟨r0,r1,r2,rl⟩:=aD.res.three;obtain⟨f0,f1,f2⟩:=aD.res.frz;clear aD;by_cases hgo:j<4/\p<s.size
 ·obtain⟨aR,hp⟩:=hgo;have bG:(p:Int)<(s.size:Int):=oM
  have bK:(0:Int)<=(p:Int):=oM
  have C1:=hJ (fun W=>znz s (p+1) W hs oM);rw[show((p+1:Nat):Int)=(p:Int)+1 from rfl]at C1
  cases hr:rsO s (p+1)with
  | none =>
   obtain⟨e1,e2,e3,e4⟩:=zik (zgi h0 hd (HD.o.up.none aR hp hr));rw[zi7 hr]at C1;have HE:=hJ (aI e1 (aI e2 (aI e3 e4)));clear e1 e2 e3 e4 hr c0 c1 c2;go_wp2_with (go_at_call 149;refine(C1.out _).mono ?_;rintro e w2 ⟨rfl,B2⟩;obtain⟨x0,x1,x2,xl⟩:=(HD.o.res.over B2).three;obtain⟨g0,g1,g2⟩:=(HD.o.res.over B2).frz;have aH:=hJ (HD.o.bel.trans (B2.mono HD.o.bel.size));clear B2)
   refine bY (v:=.tuple #[.agg #[.bool false,nZ,eT],.bool false]) (by simp[results,go_sem,x0,x1,x2]) rfl ?_;rw[HE.o.1,HE.o.2.1,HE.o.2.2.1,HE.o.2.2.2];exact⟨_,rfl,SOwns.nil _ _ _,((aH.o.setCell nR _).setCell nR _).setCell nR _⟩
  | some tq =>
   obtain⟨t,q⟩:=tq;have HU:=hJ (HD.o.up.next aR hp hr);rw[zi8 hr]at C1;obtain⟨x,aQ⟩:∃x:Nat,(s[p]).toNat=x:=⟨_,rfl⟩
   rw[aQ]at HU;have bI:x<256:=by rw[←aQ];exact(s[p]).toNat_lt
   have bJ:IntKind.i64.wrap (x:Int)=(x:Int):=zdd oM oM;clear hr;clear c0 c1 c2 r0 r1 r2 f0 f1 f2;go_wp2_with (go_at_call 149;refine(C1.out _).mono ?_;rintro e wz ⟨rfl,B2⟩;have HD2:=hJ (HD.o.over B2);clear B2)
   obtain⟨c0,c1,c2,bE⟩:=HD2.o.var.three;have hsz2:w.1.size+1+1<=wz.1.size:=oM
   refine wp_region_held_drew (S:=fun _=>True) kL trivial (fun hHeld=>?_);refine tk 0 hHeld ?_;simp only[Act.put];refine tk 2 hHeld ?_;simp only[Act.put];refine tk 3 hHeld ?_;simp only[Act.put];refine tk 4 hHeld ?_;simp only[Act.put];refine tk 5 hHeld ?_;simp only[Act.put];refine tk 6 hHeld ?_;simp only[Act.put];refine tk 7 hHeld ?_;simp only[Act.put];refine wH (rs:=[1,8]) kL sI ?_;refine rC (o:={ dst:=some 44,op:=Op.load 87 (Operand.tmp 43),type:=_,pos:=_,after:=_,guard:=none }) rfl (fun K hK=>?_) ?_
   ·go_simp;refine hK.out _ _ (trivial) (fun hHeld=>?_);clear hK K;try simp only[Act.put,sA,cZ,cS]
    refine wH (rs:=[8]) kL sI ?_;refine rC (o:={ dst:=some 51,op:=Op.buildSlice 87 1 #[(0,Operand.tmp 50)],type:=_,pos:=_,after:=_,guard:=none }) rfl (fun K hK=>?_) ?_
    ·exact cQ7
    exact rN
   refine rC (o:={ dst:=some 51,op:=Op.buildSlice 87 1 #[(0,Operand.tmp 50)],type:=_,pos:=_,after:=_,guard:=none }) rfl (fun K hK=>?_) ?_
   ·go_simp;refine hK.out _ _ (trivial) (fun hHeld=>?_);clear hK K;try simp only[Act.put,sA,cZ,cS]
    refine wH (rs:=[1]) kL sI ?_;refine rC (o:={ dst:=some 44,op:=Op.load 87 (Operand.tmp 43),type:=_,pos:=_,after:=_,guard:=none }) rfl (fun K hK=>?_) ?_
    ·exact cQ7
    exact rN
   exact rN
 have aF:j=4\/(j<4/\¬p<s.size):=oM
 have aM:=hJ aF;have aK:∀(i:Nat)(h:i<ys.length),ys[i].1.size<=1048576:=fun i hi=>by have:=HD.o.up.2.2.2.2 _ (gM_ hi);omega
 have C4:=hJ (fun W h=>zcg true (sL va ys vc) ⟨#[]⟩ ys W h aK);have aB:Hid (∀w',Bw wr w'->AtC w' (w.1.size+1) 95 #[.bool true,sL va ys vc,eT]/\AtC w' w.1.size 95 #[.bool false,nZ,eT]/\SOwns w' (w.1.size+1+1) 90 (sL va ys vc) ys/\Bw w w'):=fun w' h=>⟨HD.o.var.over h,HD.o.res.over h,HD.o.own.below h nR,HD.o.bel.trans (h.mono HD.o.bel.size)⟩
 have aO:(zao true ys ⟨#[]⟩=true/\zbd true ys ⟨#[]⟩=s/\readR s=some (true,ys,⟨#[]⟩))\/((zao true ys ⟨#[]⟩=false\/(zao true ys ⟨#[]⟩=true/\¬zbd true ys ⟨#[]⟩=s))/\readR s=none):=by
  rw[zb0 ys ⟨#[]⟩ rfl];by_cases aG:j=4
  ·subst aG;have aX:=HD.o.up.done;have hw:=HD.o.up.whole h0 hd;rw[znw h0 hd aX]
   cases hok:zbb ys with
   | false=>right;exact⟨.inl rfl,sI⟩
   | true =>
    have eb:zbd true ys ⟨#[]⟩=accB (100::encs ys):=by unfold zbd;rw[zb0 ys ⟨#[]⟩ rfl,hok];rfl
    by_cases hpp:p=s.size
    ·left;exact⟨rfl,by rw[eb];exact hw.2 hpp,by simp[hpp]⟩
    right;exact⟨.inr ⟨rfl,by rw[eb];exact fun h=>hpp (hw.1 h)⟩,by simp[hpp]⟩
  right
  refine⟨.inl ?_,zgi h0 hd (HD.o.up.short oM oM)⟩;rw[zjv (by have:=aV.o;omega)]
 have aC:=hJ aO;obtain⟨k,hk⟩:∃k,zao true ys ⟨#[]⟩=k:=⟨_,rfl⟩
 obtain⟨bk,aT⟩:∃bk,zbd true ys ⟨#[]⟩=bk:=⟨_,rfl⟩
 rw[hk,aT]at C4 aC;clear aO hk aT aK aF hgo;rcases aC.o with⟨rfl,aN,aL⟩| ⟨aY,aL⟩
 ·obtain⟨e1,e2,e3,e4⟩:=znx aL;have HE:=hJ (aI e1 (aI e2 (aI e3 e4)));have hq:=zgz aN;clear e1 e2 e3 e4 aL aC aN;rcases aM.o with aG|⟨aG,aS⟩
  all_goals
   go_wp2_with (go_at_call 138;refine(C4.out _ HD.o.own.rsl).mono ?_;rintro e w2 ⟨rfl,B2⟩;obtain⟨y0,y1,y2,yl⟩:=(aB.o _ B2).1.three;obtain⟨x0,x1,x2,xl⟩:=(aB.o _ B2).2.1.three;obtain⟨g0,g1,g2⟩:=(aB.o _ B2).2.1.frz;have aW:=hJ (aB.o _ B2).2.2.1;have aH:=hJ (aB.o _ B2).2.2.2;clear B2)
   refine bY (v:=.tuple #[.agg #[.bool true,sL va ys vc,eT],.bool true]) (by simp[results,go_sem,x0,x1,x2]) rfl ?_;rw[HE.o.1,HE.o.2.1,HE.o.2.2.1,HE.o.2.2.2];exact⟨_,rfl,(((aW.o.setCell_low oM _).setCell_low oM _).setCell_low oM _).base_le oM,((aH.o.setCell nR _).setCell nR _).setCell nR _⟩
 obtain⟨e1,e2,e3,e4⟩:=zik aL;have HE:=hJ (aI e1 (aI e2 (aI e3 e4)));clear e1 e2 e3 e4 aL aC;rcases aY with rfl|⟨rfl,aP⟩
 ·rcases aM.o with aG|⟨aG,aS⟩
  all_goals
   go_wp2_with (go_at_call 138;refine(C4.out _ HD.o.own.rsl).mono ?_;rintro e w2 ⟨rfl,B2⟩;obtain⟨x0,x1,x2,xl⟩:=(aB.o _ B2).2.1.three;obtain⟨g0,g1,g2⟩:=(aB.o _ B2).2.1.frz;have aH:=hJ (aB.o _ B2).2.2.2;clear B2)
   refine bY (v:=.tuple #[.agg #[.bool false,nZ,eT],.bool false]) (by simp[results,go_sem,x0,x1,x2]) rfl ?_;rw[HE.o.1,HE.o.2.1,HE.o.2.2.1,HE.o.2.2.2];exact⟨_,rfl,SOwns.nil _ _ _,((aH.o.setCell nR _).setCell nR _).setCell nR _⟩
 have hq:=zbm aP;clear aP;rcases aM.o with aG|⟨aG,aS⟩
 all_goals
  go_wp2_with (go_at_call 138;refine(C4.out _ HD.o.own.rsl).mono ?_;rintro e w2 ⟨rfl,B2⟩;obtain⟨x0,x1,x2,xl⟩:=(aB.o _ B2).2.1.three;obtain⟨g0,g1,g2⟩:=(aB.o _ B2).2.1.frz;have aH:=hJ (aB.o _ B2).2.2.2;clear B2)
  refine bY (v:=.tuple #[.agg #[.bool false,nZ,eT],.bool false]) (by simp[results,go_sem,x0,x1,x2]) rfl ?_;rw[HE.o.1,HE.o.2.1,HE.o.2.2.1,HE.o.2.2.2];exact⟨_,rfl,SOwns.nil _ _ _,((aH.o.setCell nR _).setCell nR _).setCell nR _⟩
theorem head_iff{s:BA}(h0:0<s.size)(b:UInt8):oneB b++s.extract 1 s.size=s↔s[0]=b:=by
 have hl:s.data.toList.length=s.size:=rfl;have e1:(oneB b++s.extract 1 s.size).data.toList=b::s.data.toList.drop 1:=by
  rw[ByteArray.data_append,Array.toList_append,zb9,tL (by rw[List.length_drop,hl];omega)];rfl
 have e2:s.data.toList=s[0]::s.data.toList.drop 1:=by
  conv=>lhs;rw[←List.drop_zero (l:=s.data.toList),dG (show 0<s.data.toList.length by omega)]
  rfl
 constructor
 ·intro h;have h2:(oneB b++s.extract 1 s.size).data.toList=s.data.toList:=by rw[h]
  rw[e1,e2]at h2;simp only[List.cons.injEq]at h2;exact h2.1.symm
 intro h;refine ByteArray.ext (Array.toList_inj.1 ?_);rw[e1]
 conv=>rhs;rw[e2]
 rw[h]
theorem zf0(s:BA)(w:Wd)(hs:s.size<=1048576)(h0:0<s.size)(hd:s[0]≠100):
  Calls Tryz.prog 121 #[.string s] w fun e w'=>∃v,e=.returned (.tuple #[.agg #[.bool (rD s),v,.string (rT s)],.bool (rOk s)])/\SOwns w' w.1.size 90 v (rX s)/\Bw w w':=by
 have he:=zbq h0;obtain⟨x,hx⟩:∃x:Nat,(s[0]).toNat=x:=⟨_,rfl⟩
 have x1:((x:Int)==100)=false:=by
  have:x≠100:=fun e=>hd (UInt8.toNat_inj.1 (by rw[hx,e];rfl));simp;omega
 have aN:(1:Int)<=(s.size:Int):=oM
 have aO:(0:Int)<(s.size:Int):=oM
 obtain⟨t,ht⟩:∃t,s.extract 1 s.size=t:=⟨_,rfl⟩
 have hz:t.size=s.size-1:=by rw[←ht,ByteArray.size_extract];omega
 have C4:=hJ (fun W=>zcg false (nZ) t [] W ⟨none,0,rfl,Nat.le_refl _,fun j hj=>absurd hj (Nat.not_lt_zero _)⟩ (fun j hj=>absurd hj (Nat.not_lt_zero _)));have aG:(zao false [] t=true/\zbd false [] t=s/\readR s=some (false,[],t))\/((zao false [] t=false\/(zao false [] t=true/\¬zbd false [] t=s))/\readR s=none):=by
  rw[zlf h0 hd,ht];by_cases h17:s.size<=17
  ·have aD:zao false [] t=true:=by rw[zb6];exact dT ⟨rfl,oM⟩
   have eb:zbd false [] t=oneB 116++s.extract 1 s.size:=by rw[ht];simp[zbd,aD]
   have hh:=head_iff h0 116;by_cases h6:s[0]=116
   ·left;exact⟨aD,by rw[eb];exact hh.2 h6,by simp[h6,h17]⟩
   right;exact⟨.inr ⟨aD,by rw[eb];exact fun h=>h6 (hh.1 h)⟩,by simp[h6]⟩
  right
  exact⟨.inl (by rw[zb6];exact dF oM),by simp[h17]⟩
 have aB:=hJ aG;obtain⟨k,hk⟩:∃k,zao false [] t=k:=⟨_,rfl⟩
 obtain⟨bk,aK⟩:∃bk,zbd false [] t=bk:=⟨_,rfl⟩
 rw[hk,aK]at C4 aB;have V0:AtC ((w.n #[.bool false,nZ,eT] 95).n #[.bool false,nZ,.string t] 95) (w.1.size+1) 95 #[.bool false,nZ,.string t]:=by
  have:=AtC.new (w.alloc (.cells #[.bool false,nZ,eT] 95)) 95 #[.bool false,nZ,.string t];simpa using this
 have aM:=hJ V0;have HR0:=hJ ((AtC.new w 95 #[.bool false,nZ,eT]).alloc (.cells #[.bool false,nZ,.string t] 95));have HW0:=hJ (((bF _ w).alloc nR (.cells #[.bool false,nZ,eT] 95)).alloc sI (.cells #[.bool false,nZ,.string t] 95));clear aG hk aK hz V0;rcases aB.o with⟨rfl,aF,aC⟩| ⟨aL,aC⟩
 ·obtain⟨e1,e2,e3,e4⟩:=znx aC;have HE:=hJ (aI e1 (aI e2 (aI e3 e4)));have hq:=zgz aF;clear e1 e2 e3 e4 aC aB aF;go_enter Tryz.func121,Tryz.ntmps121
  go_wp2_with (go_at_call 138;refine(C4.out _).mono ?_;rintro e w2 ⟨rfl,B2⟩;obtain⟨y0,y1,y2,yl⟩:=(aM.o.over B2).three;obtain⟨x0,x1',x2,xl⟩:=(HR0.o.over B2).three;obtain⟨g0,g1,g2⟩:=(HR0.o.over B2).frz;have HB2:=hJ (HW0.o.trans (B2.mono sO));clear B2)
  refine bY (v:=.tuple #[.agg #[.bool false,nZ,.string t],.bool true]) (by simp[results,go_sem,x0,x1',x2]) rfl ?_;rw[HE.o.1,HE.o.2.1,HE.o.2.2.1,HE.o.2.2.2];exact⟨_,rfl,SOwns.nil _ _ _,((HB2.o.setCell nR _).setCell nR _).setCell nR _⟩
 obtain⟨e1,e2,e3,e4⟩:=zik aC;have HE:=hJ (aI e1 (aI e2 (aI e3 e4)));clear e1 e2 e3 e4 aC aB;rcases aL with rfl|⟨rfl,aH⟩
 ·go_enter Tryz.func121,Tryz.ntmps121
  exact cQ36
 have hq:=zbm aH;clear aH;go_enter Tryz.func121,Tryz.ntmps121
 exact cQ36
theorem zhe(s:BA)(w:Wd)(hs:s.size<=1048576):
  Calls Tryz.prog 121 #[.string s] w fun e w'=>∃v,e=.returned (.tuple #[.agg #[.bool (rD s),v,.string (rT s)],.bool (rOk s)])/\SOwns w' w.1.size 90 v (rX s)/\Bw w w':=by
 by_cases h0:0<s.size
 ·by_cases hd:s[0]=100
  ·exact zhd s w hs h0 hd
  exact zf0 s w hs h0 hd
 obtain⟨e1,e2,e3,e4⟩:=zik (zi6 (s:=s) oM);rw[e1,e2,e3,e4];refine(zfz s w oM).mono ?_;rintro e w1 ⟨rfl,B1⟩;exact⟨_,rfl,SOwns.nil _ _ _,B1⟩
end Go.Proofs.YtgnplpmgkegcnaaGreat
