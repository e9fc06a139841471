/- Texts. -/
import Derived.Test.YtgnplpmgkegcnaaGreatW09
import Derived.Test.YtgnplpmgkegcnaaGreatW10
set_option maxRecDepth 100000
set_option maxHeartbeats 12800000
namespace Go.Proofs.YtgnplpmgkegcnaaGreat
namespace Kit
open Go.RowKit
variable {Z : ZT}
theorem Chg.belowT{w w':Wd}{L:Nat}(h:Chg (fun k=>L<=k) w w')(hL:L<=w.1.size):Below L w w':=h.below hL fun _ hk=>hk
end Kit
open Go.RowKit Kit
variable {Z : ZT}
theorem done_in(u v iv bv dv pv:Va)(m:MD)(x:Int)(w:Wd)(h:MR w u v iv bv dv pv m)(hm:Sh Z m)(hzz:∀d∈m.ds,d.kd=5->∀p∈d.bl,Z d.id p):
  Calls Tryz.prog 177 #[.agg #[u,v,iv,bv,dv,pv,.int .i64 m.nx],.int .i64 x] w fun e w'=>∃u' v' i' b' d' p' m',e=.returned (.agg #[u',v',i',b',d',p',.int .i64 m'.nx])/\MO w' (fun k=>w.1.size<=k) u' v' i' b' d' p' m'/\Sh Z m'/\Below w.1.size w w':=by
 obtain⟨a1,c1,a2,c2,a3,c3,a4,c4,a5,c5,a6,c6,rfl,rfl,rfl,rfl,rfl,rfl⟩:=h.form;have HH:=hJ h;have HM:=hJ hm;have bQ:=hJ hzz;clear hzz;have cE:m.6.length<=40:=hm.l;have aL:Hid (∀W,Below ((w.alloc (.cells (M7 m a1 c1 a2 c2 a3 c3 a4 c4 a5 c5 a6 c6) 33)).alloc (.cells noM 33)).1.size ((w.alloc (.cells (M7 m a1 c1 a2 c2 a3 c3 a4 c4 a5 c5 a6 c6) 33)).alloc (.cells noM 33)) W->Below w.1.size w W/\AtC W (w.1.size+1) 33 noM/\AtC W w.1.size 33 (M7 m a1 c1 a2 c2 a3 c3 a4 c4 a5 c5 a6 c6)/\w.1.size+1+1<=W.1.size):=fun W b2=>by
  have k1:=(AtC.new (w.alloc (.cells (M7 m a1 c1 a2 c2 a3 c3 a4 c4 a5 c5 a6 c6) 33)) 33 noM).over b2;have k2:=((AtC.new w 33 (M7 m a1 c1 a2 c2 a3 c3 a4 c4 a5 c5 a6 c6)).over ((bF _ (w.alloc (.cells (M7 m a1 c1 a2 c2 a3 c3 a4 c4 a5 c5 a6 c6) 33))).alloc nR (.cells noM 33))).over b2;have sz:=b2.size;simp at k1 sz;exact⟨(((bF _ w).alloc nR _).alloc sI _).trans (b2.mono sO),k1,k2,sz⟩
 have x0:((w.alloc (.cells (M7 m a1 c1 a2 c2 a3 c3 a4 c4 a5 c5 a6 c6) 33)).alloc (.cells noM 33)).cell? ⟨w.1.size,0,none⟩=some (.slice a1 m.1.length c1):=(aL.o _ bR).2.2.1.cell 0;have x1:((w.alloc (.cells (M7 m a1 c1 a2 c2 a3 c3 a4 c4 a5 c5 a6 c6) 33)).alloc (.cells noM 33)).cell? ⟨w.1.size,1,none⟩=some (.slice a2 m.2.length c2):=(aL.o _ bR).2.2.1.cell 1;have x2:((w.alloc (.cells (M7 m a1 c1 a2 c2 a3 c3 a4 c4 a5 c5 a6 c6) 33)).alloc (.cells noM 33)).cell? ⟨w.1.size,2,none⟩=some (.slice a3 m.3.length c3):=(aL.o _ bR).2.2.1.cell 2;have x3:((w.alloc (.cells (M7 m a1 c1 a2 c2 a3 c3 a4 c4 a5 c5 a6 c6) 33)).alloc (.cells noM 33)).cell? ⟨w.1.size,3,none⟩=some (.slice a4 m.4.length c4):=(aL.o _ bR).2.2.1.cell 3;have x4:((w.alloc (.cells (M7 m a1 c1 a2 c2 a3 c3 a4 c4 a5 c5 a6 c6) 33)).alloc (.cells noM 33)).cell? ⟨w.1.size,4,none⟩=some (.slice a5 m.5.length c5):=(aL.o _ bR).2.2.1.cell 4;have x5:((w.alloc (.cells (M7 m a1 c1 a2 c2 a3 c3 a4 c4 a5 c5 a6 c6) 33)).alloc (.cells noM 33)).cell? ⟨w.1.size,5,none⟩=some (.slice a6 m.6.length c6):=(aL.o _ bR).2.2.1.cell 5;have x6:((w.alloc (.cells (M7 m a1 c1 a2 c2 a3 c3 a4 c4 a5 c5 a6 c6) 33)).alloc (.cells noM 33)).cell? ⟨w.1.size,6,none⟩=some (.int .i64 m.nx):=(aL.o _ bR).2.2.1.cell 6;clear h hm;go_enter Tryz.func177,Tryz.ntmps177
 go_wp2_with fail
 refine(zax _ _ _ _ _ _ m _ (HH.o.below (aL.o _ bR).1 nR) HM.o.big).mono ?_;rintro e w1 ⟨u1,u2,u3,u4,u5,u6,rfl,O1,B1⟩;obtain⟨n1,o1,n2,o2,n3,o3,n4,o4,n5,o5,n6,o6,rfl,rfl,rfl,rfl,rfl,rfl⟩:=O1.mr.form;have k1:=aL.o w1 B1;have bM:=k1.2.2.2;have bJ:Hid (BX Z (w1.alloc (.cells (M7 m n1 o1 n2 o2 n3 o3 n4 o4 n5 o5 n6 o6) 33)) (w.1.size+2) w1.1.size):=⟨_,_,_,_,_,_,_,m,PM.new O1,fun k hk=>by have:=hk.1;simp at this;omega,oM,HM.o⟩
 have aD:Hid (∀W,Below (w.1.size+2) (w1.alloc (.cells (M7 m n1 o1 n2 o2 n3 o3 n4 o4 n5 o5 n6 o6) 33)) W->Below w.1.size w W/\AtC W (w.1.size+1) 33 noM/\AtC W w.1.size 33 (M7 m a1 c1 a2 c2 a3 c3 a4 c4 a5 c5 a6 c6)/\w1.1.size+1<=W.1.size):=fun W bb=>by
  have b3:Below w1.1.size w1 (w1.alloc (.cells (M7 m n1 o1 n2 o2 n3 o3 n4 o4 n5 o5 n6 o6) 33)):=(bF _ w1).alloc nR _;have k2:=aL.o _ (B1.trans (b3.mono B1.size));have sz:=bb.size;simp at sz;exact⟨k2.1.trans (bb.mono oM),(bb.block _ oM).trans k2.2.1,(bb.block _ oM).trans k2.2.2.1,sz⟩
 have bX:=hJ k1;clear O1 B1 k1 x0 x1 x2 x3 x4 x5 x6;go_upto_region 2 with fail
 generalize hb:w1.1.size=b at*;have HB:=hJ hb;generalize hW2:w1.alloc (.cells (M7 m n1 o1 n2 o2 n3 o3 n4 o4 n5 o5 n6 o6) 33)=W2 at*;clear hW2 hb;have cD:w.1.size+2<=b:=bM;have A2:=(aD.o W2 bR).2.2.1;obtain⟨y0,y1,y2,y3,y4,y5,y6⟩:=AtC.sev A2;have CM:Hid (∀W,Below w.1.size w W->Calls Tryz.prog 192 #[.agg (M7 m a1 c1 a2 c2 a3 c3 a4 c4 a5 c5 a6 c6)] W fun e w'=>AnyB e/\Below W.1.size W w'):=fun W bb=>zb2 _ _ _ _ _ _ m W (HH.o.below bb nR) HM.o;clear A2;go_cut [18]from 9 to 18 (fun c wx=>(∃r,c=.bool r/\(r=false->0<=x/\x<=20))/\Below W2.1.size W2 wx)
 case first =>
  go_wp2_with (first| (go_at_call 192;refine(CM.out _ (aD.o _ bR).1).mono ?_;rintro e w2 ⟨⟨r,rfl⟩,B2⟩;have aU:=hJ B2;clear B2;cases r)| (go_at_call 50;refine(zak x 0 20 _).mono ?_;rintro e w3 ⟨rfl,rfl⟩;have aZ:Hid (inB x 0 20=true->0<=x/\x<=20):=zay;generalize inB x 0 20=ri at*;cases ri))
  all_goals (go_meet;first| exact⟨⟨_,rfl,fun _=>aZ.o rfl⟩,aU.o⟩| exact⟨⟨_,rfl,fun _=>aZ.o⟩,aU.o⟩| exact⟨⟨_,rfl,fun _=>aZ.o trivial⟩,aU.o⟩| exact⟨⟨_,rfl,fun e=>absurd e dC⟩,aU.o⟩)
 obtain⟨⟨r,rfl,bG⟩,aB⟩:=hcut;obtain⟨w3,rfl⟩:∃w3,w3=wc:=⟨wc,rfl⟩
 have aK:Hid (BX Z w3 (w.1.size+2) b/\Below (w.1.size+2) W2 w3):=⟨bJ.o.below aB,aB.mono (by have:=(aD.o W2 bR).2.2.2;omega)⟩
 have bV:Hid (b<w3.1.size):=by have:=(aD.o W2 bR).2.2.2;have:=aB.size;show _<_;omega
 clear aB y0 y1 y2 y3 y4 y5 y6 bJ
 cases r
 case true =>
  obtain⟨S,pu,pv,pi,pb,pd,pp,mp,hP,aH,aQ,aG⟩:=aK.o.1;obtain⟨p1,r1,p2,r2,p3,r3,p4,r4,p5,r5,p6,r6,rfl,rfl,rfl,rfl,rfl,rfl⟩:=hP.form;have RS:=(aD.o w3 aK.o.2).2.1;obtain⟨y0,y1,y2,y3,y4,y5,y6⟩:=AtC.sev hP.box;obtain⟨s0,s1,s2,s3,s4,s5,s6⟩:=RS.k7;obtain⟨z0,z1,z2,z3,z4,z5,z6⟩:=RS.f7;have aN:Hid (∃m',Sh Z m'/\m'.nx=mp.nx/\MO (((((((w3.setCell ⟨w.1.size+1,0,none⟩ (.slice p1 mp.1.length r1)).setCell ⟨w.1.size+1,1,none⟩ (.slice p2 mp.2.length r2)).setCell ⟨w.1.size+1,2,none⟩ (.slice p3 mp.3.length r3)).setCell ⟨w.1.size+1,3,none⟩ (.slice p4 mp.4.length r4)).setCell ⟨w.1.size+1,4,none⟩ (.slice p5 mp.5.length r5)).setCell ⟨w.1.size+1,5,none⟩ (.slice p6 mp.6.length r6)).setCell ⟨w.1.size+1,6,none⟩ (.int .i64 mp.nx)) (fun k=>w.1.size<=k) (.slice p1 mp.1.length r1) (.slice p2 mp.2.length r2) (.slice p3 mp.3.length r3) (.slice p4 mp.4.length r4) (.slice p5 mp.5.length r5) (.slice p6 mp.6.length r6) m'/\Below w.1.size w (((((((w3.setCell ⟨w.1.size+1,0,none⟩ (.slice p1 mp.1.length r1)).setCell ⟨w.1.size+1,1,none⟩ (.slice p2 mp.2.length r2)).setCell ⟨w.1.size+1,2,none⟩ (.slice p3 mp.3.length r3)).setCell ⟨w.1.size+1,3,none⟩ (.slice p4 mp.4.length r4)).setCell ⟨w.1.size+1,4,none⟩ (.slice p5 mp.5.length r5)).setCell ⟨w.1.size+1,5,none⟩ (.slice p6 mp.6.length r6)).setCell ⟨w.1.size+1,6,none⟩ (.int .i64 mp.nx))):=by
   have oth:∀k,k≠w.1.size+1->(((((((w3.setCell ⟨w.1.size+1,0,none⟩ (.slice p1 mp.1.length r1)).setCell ⟨w.1.size+1,1,none⟩ (.slice p2 mp.2.length r2)).setCell ⟨w.1.size+1,2,none⟩ (.slice p3 mp.3.length r3)).setCell ⟨w.1.size+1,3,none⟩ (.slice p4 mp.4.length r4)).setCell ⟨w.1.size+1,4,none⟩ (.slice p5 mp.5.length r5)).setCell ⟨w.1.size+1,5,none⟩ (.slice p6 mp.6.length r6)).setCell ⟨w.1.size+1,6,none⟩ (.int .i64 mp.nx)).1[k]?=w3.1[k]?:=fun k hk=>zaa _ _ _ _ _ _ _ _ _ k hk;refine⟨mp,aG,rfl,(hP.own.of_heap fun k hk _=>oth k (by have:=aH k hk;omega)).mono (fun k hk=>by have:=aH k hk;omega),?_⟩;exact zab ((aD.o w3 aK.o.2).1) oM _ _ _ _ _ _ _
  clear hP aH aG RS;go_wp2;obtain⟨mf,q1,q2,q3,q4⟩:=aN.o;refine bY (v:=.agg (M7 mp p1 r1 p2 r2 p3 r3 p4 r4 p5 r5 p6 r6)) (by simp[results,go_sem,s0,s1,s2,s3,s4,s5,s6]) rfl ⟨_,_,_,_,_,_,mf,by rw[q2],q3,q1,q4⟩
 obtain⟨cC,bU⟩:=bG rfl;obtain⟨n,rfl⟩:∃n:Nat,x=(n:Int):=⟨x.toNat,oM⟩
 have hn:n<21:=oM
 obtain⟨g,c,r,x0,x1,x2,x3,x4,x5⟩:=aK.o.1.bt.bitF n hn;have aV:Hid (BX Z (w3.setCell ⟨g,n,none⟩ (.bool false)) (w.1.size+2) b/\Below (w.1.size+2) W2 (w3.setCell ⟨g,n,none⟩ (.bool false))):=⟨(x5 false).bx,aK.o.2.setCell x3 _⟩
 have n0:(0:Int)<=(n:Int):=oM
 have n1:(n:Int)<21:=oM
 clear x3 x4 x5 bG;go_wp2_with fail
 generalize w3.setCell ⟨g,n,none⟩ (.bool false)=w4 at*;refine(flag_any (w.1.size+2) b n w4 aV.o.1).mono ?_;rintro e w5 ⟨rfl,b5,c5⟩;have bH:Hid (BX Z w5 (w.1.size+2) b/\Below (w.1.size+2) W2 w5):=⟨b5,aV.o.2.trans c5⟩
 clear b5 c5 x0 x1 x2 aV aK bV;have z5:=(aD.o w5 bH.o.2).2.2.1.c5;obtain⟨a,c,ei,-,hc⟩:=HH.o.p.dep;simp only[vJ,true_and]at ei;obtain⟨rfl,rfl⟩:=ei;have HC:=hJ hc;clear hc;go_wp2_with fail
 go_loopw [7] (fun i' wr=>∃q:Nat,q<=m.6.length/\i'=.int .i64 q/\Hid (BX Z wr (w.1.size+2) b/\Below (w.1.size+2) W2 wr)) (fun i' _=>m.6.length-(intOf i').toNat)
 case atStart=>exact⟨0,zL _,rfl,bH.o⟩
 obtain⟨q,hq,rfl,HR⟩:=hrel;by_cases hlt:q<m.6.length
 ·obtain⟨g6,o6,p,rfl,aF,nn,hp⟩:=HC.o q hlt;have aR:=HM.o.dd _ (gM_ hlt);obtain⟨X,hX⟩:∃X,m.ds[q]=X:=⟨_,rfl⟩
  rw[hX]at nn hp aR;obtain⟨id,kd,io,pt,bk,sl,nm,bt,ot,af,bl⟩:=X;simp only at hp;have bP:Hid (∀W,Below (w.1.size+2) W2 W->RInts W p bl):=fun W bb=>hp.below ((aD.o W bb).1) nR;obtain⟨pa,pc,rfl,-⟩:=hp;simp only[DCells]at nn;obtain⟨m0,m1,m2,m3,m4,m5,m6,m7,m8,m9,bL⟩:=nn;have aB:=(aD.o wr HR.o.2).1;have k0:wr.cell? ⟨g6,o6+q*11,none⟩=some (.int .i64 id):=(aB.cell (p:=⟨g6,o6+q*11,none⟩) aF).trans m0;have k1:wr.cell? ⟨g6,o6+q*11+1,none⟩=some (.int .i64 kd):=(aB.cell (p:=⟨g6,o6+q*11+1,none⟩) aF).trans m1;have k2:wr.cell? ⟨g6,o6+q*11+2,none⟩=some (.int .i64 io):=(aB.cell (p:=⟨g6,o6+q*11+2,none⟩) aF).trans m2;have k3:wr.cell? ⟨g6,o6+q*11+3,none⟩=some (.int .i64 pt):=(aB.cell (p:=⟨g6,o6+q*11+3,none⟩) aF).trans m3;have k4:wr.cell? ⟨g6,o6+q*11+4,none⟩=some (.int .i64 bk):=(aB.cell (p:=⟨g6,o6+q*11+4,none⟩) aF).trans m4;have k5:wr.cell? ⟨g6,o6+q*11+5,none⟩=some (.int .i64 sl):=(aB.cell (p:=⟨g6,o6+q*11+5,none⟩) aF).trans m5;have k6:wr.cell? ⟨g6,o6+q*11+6,none⟩=some (.string nm):=(aB.cell (p:=⟨g6,o6+q*11+6,none⟩) aF).trans m6;have k7:wr.cell? ⟨g6,o6+q*11+7,none⟩=some (.bool bt):=(aB.cell (p:=⟨g6,o6+q*11+7,none⟩) aF).trans m7;have k8:wr.cell? ⟨g6,o6+q*11+8,none⟩=some (.bool ot):=(aB.cell (p:=⟨g6,o6+q*11+8,none⟩) aF).trans m8;have k9:wr.cell? ⟨g6,o6+q*11+9,none⟩=some (.int .i64 af):=(aB.cell (p:=⟨g6,o6+q*11+9,none⟩) aF).trans m9;have k10:wr.cell? ⟨g6,o6+q*11+10,none⟩=some (.slice pa bl.length pc):=(aB.cell (p:=⟨g6,o6+q*11+10,none⟩) aF).trans bL;have bE:=hJ aR;have bN:Hid (kd=5->∀p∈bl,Z id p):=by have:=bQ.o _ (gM_ hlt);rw[hX]at this;exact this
  have aP:1<=io:=aR.io.1;have aT:io<=8:=aR.io.2;have q0:(0:Int)<=(q:Int):=oM
  have q1:(q:Int)<(m.6.length:Int):=oM
  have aM:Hid (b<wr.1.size/\w.1.size+2<=wr.1.size):=by obtain⟨q1,q2,q3,q4,q5,q6,q7,q8,hP,q9,hL,cB⟩:=HR.o.1;have:=hP.box.lt;exact⟨this,oM⟩
  clear m0 m1 m2 m3 m4 m5 m6 m7 m8 m9 bL aR hX aB;go_upto_region 11 with fail
  have HA:Hid (BX Z (wr.alloc (.cells (K7 id kd io pt bk sl nm bt ot af pa bl.length pc) 42)) (w.1.size+2) b/\Below (w.1.size+2) W2 (wr.alloc (.cells (K7 id kd io pt bk sl nm bt ot af pa bl.length pc) 42))/\AtC (wr.alloc (.cells (K7 id kd io pt bk sl nm bt ot af pa bl.length pc) 42)) wr.1.size 42 (K7 id kd io pt bk sl nm bt ot af pa bl.length pc)):=by
   have b1:Below wr.1.size wr (wr.alloc (.cells (K7 id kd io pt bk sl nm bt ot af pa bl.length pc) 42)):=(bF _ wr).alloc nR _;exact⟨HR.o.1.below b1,HR.o.2.trans (b1.mono aM.o.2),AtC.new wr 42 _⟩
  clear k0 k1 k2 k3 k4 k5 k6 k7 k8 k9 k10 HR;generalize hbd:wr.1.size=bd at*;clear hbd;generalize wr.alloc (.cells (K7 id kd io pt bk sl nm bt ot af pa bl.length pc) 42)=wA at*;obtain⟨d0,d1,d2,d3,d4,d5,d6,d7,d8,d9,bZ⟩:=AtC.elv HA.o.2.2;have CU:Hid (∀(y:Int) W,Calls Tryz.prog 198 #[.int .i64 y] W fun e w'=>(∃z:Int,e=.returned (.int .i64 z))/\w'=W):=fun y W=>(zbp y W).mono fun e w' ⟨h1,h2⟩=>⟨⟨_,h1⟩,h2⟩
  have CV:Hid (∀(y:Int) W,Calls Tryz.prog 203 #[.int .i64 y] W fun e w'=>(∃z:Int,e=.returned (.int .i64 z))/\w'=W):=fun y W=>(zbl y W).mono fun e w' ⟨h1,h2⟩=>⟨⟨_,h1⟩,h2⟩
  have bC:Hid (∀k,wA.1.size<=k->w.1.size+2<=k):=fun k hk=>by have:=HA.o.2.2.lt;have:=aM.o.2;omega
  go_cut [38]from 28 to 102 (fun c wx=>(∃r,c=.bool r)/\wA=wx)
  case first =>
   by_cases hk:kd=6
   ·exact cQ64
   have aW:(kd==6)=false:=by simp[hk]
   exact cQ63
  obtain⟨⟨r,rfl⟩,rfl⟩:=hcut
  cases r
  case true =>
   obtain⟨S,pu,pv,pi,pb,pd,pp,mp,hP,aH,aQ,aG⟩:=HA.o.1;obtain⟨p1,r1,p2,r2,p3,r3,p4,r4,p5,r5,p6,r6,rfl,rfl,rfl,rfl,rfl,rfl⟩:=hP.form;obtain⟨y0,y1,y2,y3,y4,y5,y6⟩:=AtC.sev hP.box;have HP:=hJ hP;have aY:=hJ aG;clear hP aG aH;go_wp2_with fail
   refine(zd9 id _ _ _ _ _ _ mp wA HP.o.mr aY.o).mono ?_;rintro e w2 ⟨u1,u2,u3,u4,u5,u6,mn,rfl,O2,aO,B2⟩;obtain⟨n1,o1,n2,o2,n3,o3,n4,o4,n5,o5,n6,o6,rfl,rfl,rfl,rfl,rfl,rfl⟩:=O2.mr.form;have A2:=HP.o.box.over B2;obtain⟨r0,r1,r2,r3,r4,r5,r6⟩:=A2.k7;obtain⟨v0,v1,v2,v3,v4,v5,v6⟩:=A2.f7;have hF:=zh4 (w:=wA) (T:=fun k=>w.1.size+2<=k) A2 O2 (Chg.of_below B2) aO aQ HP.o.box.lt bC.o;have HZ:Hid (BX Z (((((((w2.setCell ⟨b,0,none⟩ (.slice n1 mn.1.length o1)).setCell ⟨b,1,none⟩ (.slice n2 mn.2.length o2)).setCell ⟨b,2,none⟩ (.slice n3 mn.3.length o3)).setCell ⟨b,3,none⟩ (.slice n4 mn.4.length o4)).setCell ⟨b,4,none⟩ (.slice n5 mn.5.length o5)).setCell ⟨b,5,none⟩ (.slice n6 mn.6.length o6)).setCell ⟨b,6,none⟩ (.int .i64 mn.nx)) (w.1.size+2) b/\Below (w.1.size+2) W2 (((((((w2.setCell ⟨b,0,none⟩ (.slice n1 mn.1.length o1)).setCell ⟨b,1,none⟩ (.slice n2 mn.2.length o2)).setCell ⟨b,2,none⟩ (.slice n3 mn.3.length o3)).setCell ⟨b,3,none⟩ (.slice n4 mn.4.length o4)).setCell ⟨b,4,none⟩ (.slice n5 mn.5.length o5)).setCell ⟨b,5,none⟩ (.slice n6 mn.6.length o6)).setCell ⟨b,6,none⟩ (.int .i64 mn.nx))):=⟨hF.1.bx,HA.o.2.1.trans (hF.2.belowT (by have:=HA.o.2.2.lt;have:=aM.o.2;omega))⟩
   have aS:=HA.o.2.2.over B2;have aC:bd≠b:=by have:=aM.o.1;omega
   have HD:Hid ((((((((w2.setCell ⟨b,0,none⟩ (.slice n1 mn.1.length o1)).setCell ⟨b,1,none⟩ (.slice n2 mn.2.length o2)).setCell ⟨b,2,none⟩ (.slice n3 mn.3.length o3)).setCell ⟨b,3,none⟩ (.slice n4 mn.4.length o4)).setCell ⟨b,4,none⟩ (.slice n5 mn.5.length o5)).setCell ⟨b,5,none⟩ (.slice n6 mn.6.length o6)).setCell ⟨b,6,none⟩ (.int .i64 mn.nx)).cell? ⟨bd,2,none⟩=some (.int .i64 io)):=(((((((aS.other aC _).other aC _).other aC _).other aC _).other aC _).other aC _).other aC _).cell 2;clear A2 O2 aO B2 hF aS aC y0 y1 y2 y3 y4 y5 y6;clear HD HA;go_wp2;go_roundw
   case rel=>exact⟨q+1,oM,gK,HZ.o⟩
   simp[intOf];omega
  go_upto_region 13 with fail
  go_cut [53]from 28 to 102 (fun c wx=>(∃r,c=.bool r/\(r=true->kd=5))/\wA=wx)
  case first =>
   by_cases hk:kd=5
   ·subst hk;go_wp2_with (first| (go_at_call 198;refine(CU.out _ _).mono ?_;rintro e w7 ⟨⟨z,rfl⟩,rfl⟩)| (go_at_call 203;refine(CV.out _ _).mono ?_;rintro e w7 ⟨⟨z,rfl⟩,rfl⟩))
    (go_meet;exact⟨⟨_,rfl,sI⟩,rfl⟩)
   have aW:(kd==5)=false:=by simp[hk]
   exact cQ114
  obtain⟨⟨r,rfl,aX⟩,rfl⟩:=hcut
  cases r
  case true =>
   have bS:Hid (∀p∈bl,Z id p):=bN.o (aX sI);clear aX;go_wp2_with fail
   refine(zmz (fun k=>w.1.size+2<=k) b id kd io pt bk sl nm bt ot af bl pa pc wA HA.o.1.bt bC.o aP aT bE.o.bl bE.o.bn (fun W hc=>bP.o W (HA.o.2.1.trans (hc.belowT (by have:=HA.o.2.2.lt;have:=aM.o.2;omega)))) bS.o).mono ?_;rintro e w8 ⟨rfl,b8,c8⟩;have HZ:Hid (BX Z w8 (w.1.size+2) b/\Below (w.1.size+2) W2 w8):=⟨b8.bx,HA.o.2.1.trans (c8.belowT (by have:=HA.o.2.2.lt;have:=aM.o.2;omega))⟩
   exact cQ111
  clear aX;go_upto_region 15 with fail
  go_cut [66]from 28 to 102 (fun c wx=>(∃r,c=.bool r)/\wA=wx)
  case first =>
   by_cases hk:kd=3
   ·exact cQ64
   have aW:(kd==3)=false:=by simp[hk]
   exact cQ63
  obtain⟨⟨r,rfl⟩,rfl⟩:=hcut
  cases r
  case true =>
   go_wp2_with fail
   refine(zma (w.1.size+2) b id 0 wA HA.o.1).mono ?_;rintro e w8 ⟨rfl,b8,c8⟩;have HZ:Hid (BX Z w8 (w.1.size+2) b/\Below (w.1.size+2) W2 w8):=⟨b8,HA.o.2.1.trans c8⟩
   exact cQ111
  go_upto_region 17 with fail
  go_cut [80]from 28 to 102 (fun c wx=>(∃r,c=.bool r)/\wA=wx)
  case first =>
   by_cases hk:kd=4
   ·subst hk;by_cases hz:af=0
    ·subst hz;go_wp2_with (first| (go_at_call 198;refine(CU.out _ _).mono ?_;rintro e w7 ⟨⟨z,rfl⟩,rfl⟩)| (go_at_call 203;refine(CV.out _ _).mono ?_;rintro e w7 ⟨⟨z,rfl⟩,rfl⟩))
     (go_meet;exact⟨⟨_,rfl⟩,rfl⟩)
    have cA:(af==0)=false:=by simp[hz]
    go_wp2_with fail
    (go_meet;exact⟨⟨_,rfl⟩,rfl⟩)
   have aW:(kd==4)=false:=by simp[hk]
   exact cQ63
  obtain⟨⟨r,rfl⟩,rfl⟩:=hcut
  cases r
  case true =>
   obtain⟨S,pu,pv,pi,pb,pd,pp,mp,hP,aH,aQ,aG⟩:=HA.o.1;obtain⟨p1,r1,p2,r2,p3,r3,p4,r4,p5,r5,p6,r6,rfl,rfl,rfl,rfl,rfl,rfl⟩:=hP.form;obtain⟨y0,y1,y2,y3,y4,y5,y6⟩:=AtC.sev hP.box;have HP:=hJ hP;have aY:=hJ aG;clear hP aG aH;go_wp2_with fail
   refine(zd9 id _ _ _ _ _ _ mp wA HP.o.mr aY.o).mono ?_;rintro e w2 ⟨u1,u2,u3,u4,u5,u6,mn,rfl,O2,aO,B2⟩;obtain⟨n1,o1,n2,o2,n3,o3,n4,o4,n5,o5,n6,o6,rfl,rfl,rfl,rfl,rfl,rfl⟩:=O2.mr.form;have A2:=HP.o.box.over B2;obtain⟨r0,r1,r2,r3,r4,r5,r6⟩:=A2.k7;obtain⟨v0,v1,v2,v3,v4,v5,v6⟩:=A2.f7;have hF:=zh4 (w:=wA) (T:=fun k=>w.1.size+2<=k) A2 O2 (Chg.of_below B2) aO aQ HP.o.box.lt bC.o;have HZ:Hid (BX Z (((((((w2.setCell ⟨b,0,none⟩ (.slice n1 mn.1.length o1)).setCell ⟨b,1,none⟩ (.slice n2 mn.2.length o2)).setCell ⟨b,2,none⟩ (.slice n3 mn.3.length o3)).setCell ⟨b,3,none⟩ (.slice n4 mn.4.length o4)).setCell ⟨b,4,none⟩ (.slice n5 mn.5.length o5)).setCell ⟨b,5,none⟩ (.slice n6 mn.6.length o6)).setCell ⟨b,6,none⟩ (.int .i64 mn.nx)) (w.1.size+2) b/\Below (w.1.size+2) W2 (((((((w2.setCell ⟨b,0,none⟩ (.slice n1 mn.1.length o1)).setCell ⟨b,1,none⟩ (.slice n2 mn.2.length o2)).setCell ⟨b,2,none⟩ (.slice n3 mn.3.length o3)).setCell ⟨b,3,none⟩ (.slice n4 mn.4.length o4)).setCell ⟨b,4,none⟩ (.slice n5 mn.5.length o5)).setCell ⟨b,5,none⟩ (.slice n6 mn.6.length o6)).setCell ⟨b,6,none⟩ (.int .i64 mn.nx))):=⟨hF.1.bx,HA.o.2.1.trans (hF.2.belowT (by have:=HA.o.2.2.lt;have:=aM.o.2;omega))⟩
   have aS:=HA.o.2.2.over B2;have aC:bd≠b:=by have:=aM.o.1;omega
   have HD:Hid ((((((((w2.setCell ⟨b,0,none⟩ (.slice n1 mn.1.length o1)).setCell ⟨b,1,none⟩ (.slice n2 mn.2.length o2)).setCell ⟨b,2,none⟩ (.slice n3 mn.3.length o3)).setCell ⟨b,3,none⟩ (.slice n4 mn.4.length o4)).setCell ⟨b,4,none⟩ (.slice n5 mn.5.length o5)).setCell ⟨b,5,none⟩ (.slice n6 mn.6.length o6)).setCell ⟨b,6,none⟩ (.int .i64 mn.nx)).cell? ⟨bd,2,none⟩=some (.int .i64 io)):=(((((((aS.other aC _).other aC _).other aC _).other aC _).other aC _).other aC _).other aC _).cell 2;clear A2 O2 aO B2 hF aS aC y0 y1 y2 y3 y4 y5 y6;have bO:=HD.o;go_upto_region 19 with fail
   generalize (((((((w2.setCell ⟨b,0,none⟩ (.slice n1 mn.1.length o1)).setCell ⟨b,1,none⟩ (.slice n2 mn.2.length o2)).setCell ⟨b,2,none⟩ (.slice n3 mn.3.length o3)).setCell ⟨b,3,none⟩ (.slice n4 mn.4.length o4)).setCell ⟨b,4,none⟩ (.slice n5 mn.5.length o5)).setCell ⟨b,5,none⟩ (.slice n6 mn.6.length o6)).setCell ⟨b,6,none⟩ (.int .i64 mn.nx))=wF at*;clear r0 r1 r2 r3 r4 r5 r6 v0 v1 v2 v3 v4 v5 v6;go_wp2_with fail
   refine(zg4 (fun k=>w.1.size+2<=k) b io wF HZ.o.1.bt (fun k hk=>by have:=HZ.o.2.size;have:=(aD.o wF HZ.o.2).2.2.2;omega) aP aT).mono ?_;rintro e w8 ⟨rfl,b8,c8⟩
   replace HZ:Hid (BX Z w8 (w.1.size+2) b/\Below (w.1.size+2) W2 w8):=⟨b8.bx,HZ.o.2.trans (c8.belowT (by have:=(aD.o wF HZ.o.2).2.2.2;omega))⟩
   clear b8 c8 bO HD HA;go_wp2;go_roundw
   case rel=>exact⟨q+1,oM,gK,HZ.o⟩
   simp[intOf];omega
  have HZ:Hid (BX Z wA (w.1.size+2) b/\Below (w.1.size+2) W2 wA):=⟨HA.o.1,HA.o.2.1⟩
  clear HA;go_wp2;go_roundw
  case rel=>exact⟨q+1,oM,gK,HZ.o⟩
  simp[intOf];omega
 have bK:w.1.size+2<=wr.1.size:=by have:=(aD.o wr HR.o.2).2.2.2;have:=(aD.o W2 bR).2.2.2;omega
 have bI:=hJ bK;clear HC bK;go_wp2_with fail
 refine(zm1 (fun k=>w.1.size+2<=k) b wr HR.o.1.bt (fun k hk=>by have:=bI.o;omega)).mono ?_;rintro e w8 ⟨rfl,b8,c8⟩;have aK:Hid (BX Z w8 (w.1.size+2) b/\Below (w.1.size+2) W2 w8):=⟨b8.bx,HR.o.2.trans (c8.belowT bI.o)⟩
 clear b8 c8 HR z5;obtain⟨S,pu,pv,pi,pb,pd,pp,mp,hP,aH,aQ,aG⟩:=aK.o.1;obtain⟨p1,r1,p2,r2,p3,r3,p4,r4,p5,r5,p6,r6,rfl,rfl,rfl,rfl,rfl,rfl⟩:=hP.form;have RS:=(aD.o w8 aK.o.2).2.1;obtain⟨y0,y1,y2,y3,y4,y5,y6⟩:=AtC.sev hP.box;obtain⟨s0,s1,s2,s3,s4,s5,s6⟩:=RS.k7;obtain⟨z0,z1,z2,z3,z4,z5,z6⟩:=RS.f7;have aN:Hid (∃m',Sh Z m'/\m'.nx=mp.nx/\MO (((((((w8.setCell ⟨w.1.size+1,0,none⟩ (.slice p1 mp.1.length r1)).setCell ⟨w.1.size+1,1,none⟩ (.slice p2 mp.2.length r2)).setCell ⟨w.1.size+1,2,none⟩ (.slice p3 mp.3.length r3)).setCell ⟨w.1.size+1,3,none⟩ (.slice p4 mp.4.length r4)).setCell ⟨w.1.size+1,4,none⟩ (.slice p5 mp.5.length r5)).setCell ⟨w.1.size+1,5,none⟩ (.slice p6 mp.6.length r6)).setCell ⟨w.1.size+1,6,none⟩ (.int .i64 mp.nx)) (fun k=>w.1.size<=k) (.slice p1 mp.1.length r1) (.slice p2 mp.2.length r2) (.slice p3 mp.3.length r3) (.slice p4 mp.4.length r4) (.slice p5 mp.5.length r5) (.slice p6 mp.6.length r6) m'/\Below w.1.size w (((((((w8.setCell ⟨w.1.size+1,0,none⟩ (.slice p1 mp.1.length r1)).setCell ⟨w.1.size+1,1,none⟩ (.slice p2 mp.2.length r2)).setCell ⟨w.1.size+1,2,none⟩ (.slice p3 mp.3.length r3)).setCell ⟨w.1.size+1,3,none⟩ (.slice p4 mp.4.length r4)).setCell ⟨w.1.size+1,4,none⟩ (.slice p5 mp.5.length r5)).setCell ⟨w.1.size+1,5,none⟩ (.slice p6 mp.6.length r6)).setCell ⟨w.1.size+1,6,none⟩ (.int .i64 mp.nx))):=by
  have oth:∀k,k≠w.1.size+1->(((((((w8.setCell ⟨w.1.size+1,0,none⟩ (.slice p1 mp.1.length r1)).setCell ⟨w.1.size+1,1,none⟩ (.slice p2 mp.2.length r2)).setCell ⟨w.1.size+1,2,none⟩ (.slice p3 mp.3.length r3)).setCell ⟨w.1.size+1,3,none⟩ (.slice p4 mp.4.length r4)).setCell ⟨w.1.size+1,4,none⟩ (.slice p5 mp.5.length r5)).setCell ⟨w.1.size+1,5,none⟩ (.slice p6 mp.6.length r6)).setCell ⟨w.1.size+1,6,none⟩ (.int .i64 mp.nx)).1[k]?=w8.1[k]?:=fun k hk=>zaa _ _ _ _ _ _ _ _ _ k hk;refine⟨mp,aG,rfl,(hP.own.of_heap fun k hk _=>oth k (by have:=aH k hk;omega)).mono (fun k hk=>by have:=aH k hk;omega),?_⟩;exact zab ((aD.o w8 aK.o.2).1) oM _ _ _ _ _ _ _
 clear hP aH aG RS;go_wp2;obtain⟨mf,q1,q2,q3,q4⟩:=aN.o;refine bY (v:=.agg (M7 mp p1 r1 p2 r2 p3 r3 p4 r4 p5 r5 p6 r6)) (by simp[results,go_sem,s0,s1,s2,s3,s4,s5,s6]) rfl ⟨_,_,_,_,_,_,mf,by rw[q2],q3,q1,q4⟩
theorem done_any(u v iv bv dv pv:Va)(m:MD)(x:Int)(w:Wd)(h:MR w u v iv bv dv pv m)(hm:Sh Z m):
  Calls Tryz.prog 177 #[.agg #[u,v,iv,bv,dv,pv,.int .i64 m.nx],.int .i64 x] w fun e w'=>∃u' v' i' b' d' p' m',e=.returned (.agg #[u',v',i',b',d',p',.int .i64 m'.nx])/\MO w' (fun k=>w.1.size<=k) u' v' i' b' d' p' m'/\Sh Z0 m'/\Below w.1.size w w':=by
 refine(done_in (Z:=Kz.zof m.ds) u v iv bv dv pv m x w h (hm.with_k hm.k.zof_of) (fun d hd h5 p hp=>⟨d,hd,h5,rfl,hp⟩)).mono ?_;rintro e w' ⟨u1,u2,u3,u4,u5,u6,m',he,O,hS,B⟩;exact⟨u1,u2,u3,u4,u5,u6,m',he,O,hS.none,B⟩
variable {Z : ZT}
theorem zmw(x:Blk):(blkB x).size<=60:=by
 obtain⟨d,xs,t⟩:=x;show(zbd d xs t).size<=60;unfold zbd
 split
 ·rename_i h
  cases d with
  | true =>
   have hs:zbb xs=true:=by unfold zao at h;rw[if_pos rfl]at h;exact(aE _ _ ▸ h).2
   obtain⟨h4,hb⟩:=zcv hs;rw[if_pos rfl,ze2,lC];have:=zfi xs fun s hx=>by
    obtain⟨i,hi,rfl⟩:=List.mem_iff_getElem.mp hx;exact(hb i hi).2.2
   omega
  | false =>
   have ht:xs.length=0/\t.size<=16:=by unfold zao at h;rw[if_neg dC]at h;exact of_decide_eq_true h
   rw[if_neg dC,bA_,ze1];omega
 decide
theorem zgd(xs ys:List Bool)(is:List Ino)(bs:List Blk)(u:Int):(unitT xs ys is bs u).size<=60:=by
 unfold unitT
 split
 ·unfold unitB
  split
  ·show 3<=60;decide
  split
  ·rw[bA_];have h1:=zdb (is.getD (2*u.toNat-2) zI).1 (is.getD (2*u.toNat-2) zI).2.1 (is.getD (2*u.toNat-2) zI).2.2;have h2:=zdb (is.getD (2*u.toNat-1) zI).1 (is.getD (2*u.toNat-1) zI).2.1 (is.getD (2*u.toNat-1) zI).2.2;unfold inoB;omega
  exact zmw _
 decide
structure DvOk(ts:List BA):Prop where
 n:ts.length=21
 s:∀(j:Nat)(h:j<ts.length),ts[j].size<=60
theorem fsOk_any(u v iv bv dv pv tv:Va)(m:MD)(ts:List BA)(w:Wd)(h:MR w u v iv bv dv pv m)(hm:Sh Z m)(ht:RSt w tv ts)(hd:DvOk ts):
  Calls Tryz.prog 175 #[.agg #[u,v,iv,bv,dv,pv,nI m.nx,tv]] w fun e w'=>AnyB e/\Bw w w':=by
 obtain⟨a1,c1,a2,c2,a3,c3,a4,c4,a5,c5,a6,c6,rfl,rfl,rfl,rfl,rfl,rfl⟩:=h.form;obtain⟨e1,f1,rfl⟩:=ht.form;have HW:Hid (∀W,Bw (w.n (M9 m a1 c1 a2 c2 a3 c3 a4 c4 a5 c5 a6 c6 e1 ts.length f1) 119) W->Bw w W/\AtC W w.1.size 119 (M9 m a1 c1 a2 c2 a3 c3 a4 c4 a5 c5 a6 c6 e1 ts.length f1)):=fun W bb=>⟨((bF _ w).alloc nR _).trans (bb.mono sI),(AtC.new w 119 _).over bb⟩
 obtain⟨x0,x1,x2,x3,x4,x5,x6,x7⟩:=(AtC.new w 119 (M9 m a1 c1 a2 c2 a3 c3 a4 c4 a5 c5 a6 c6 e1 ts.length f1)).k8;have CM:Hid (∀W,Bw w W->Calls Tryz.prog 192 #[.agg (M7 m a1 c1 a2 c2 a3 c3 a4 c4 a5 c5 a6 c6)] W fun e w'=>AnyB e/\Bw W w'):=fun W bb=>zb2 _ _ _ _ _ _ m W (h.below bb nR) hm;have CD:Hid (∀W,Bw w W->Calls Tryz.prog 19 #[.agg #[sL e1 ts f1]] W fun e w'=>AnyB e/\Bw W w'):=fun W bb=>(zdj _ ts W (ht.below bb nR) (by rw[hd.n];decide) (fun j hj=>lT (hd.s j hj) dC)).mono fun e w' ⟨h1,h2⟩=>⟨⟨_,h1⟩,h2⟩
 clear h hm ht hd;go_enter Tryz.func175,Tryz.ntmps175
 go_wp2_with (first| (go_at_call 192;refine(CM.out _ (HW.o _ bR).1).mono ?_;rintro e w2 ⟨⟨r,rfl⟩,B2⟩;have aB:=hJ (HW.o _ B2);have y7:w2.cell? ⟨w.1.size,7,none⟩=some (sL e1 ts f1):=(HW.o _ B2).2.cell 7;clear B2;cases r)| (go_at_call 19;refine(CD.out _ aB.o.1).mono ?_;rintro e w3 ⟨⟨r,rfl⟩,B3⟩;have aC:=hJ (aB.o.1.trans (B3.mono aB.o.1.size));clear B3))
 ·go_ret;exact⟨⟨_,rfl⟩,aB.o.1⟩
 go_ret;exact⟨⟨_,rfl⟩,aC.o⟩
namespace Kit
variable {Z : ZT}
def DBx(w:Wd)(lo b:Nat)(u v iv bv:Va)(xs ys:List Bool):Prop:=∃(S:Nat->Prop)(is:List Ino)(bs:List Blk),AtC w b 30 #[u,v,iv,bv]/\DO w S u v iv bv xs ys is bs/\(∀k,S k->lo<k/\k≠b)/\is.length=8/\bs.length=16/\(∀(j:Nat)(h:j<bs.length),bigB 1048576 bs[j])
theorem DBx.below{w w':Wd}{lo b:Nat}{u v iv bv:Va}{xs ys:List Bool}(h:DBx w lo b u v iv bv xs ys)(hb:Bw w w'):DBx w' lo b u v iv bv xs ys:=by
 obtain⟨S,is,bs,h1,h2,h3⟩:=h;exact⟨S,is,bs,h1.over hb,h2.below hb nR,h3⟩
theorem bigB_set{l:List Blk}{n:Nat}(h:∀(j:Nat)(h:j<l.length),bigB n l[j]){j:Nat}{x:Blk}(hx:bigB n x)(i:Nat)(hi:i<(l.set j x).length):bigB n (l.set j x)[i]:=by
 rw[List.getElem_set]
 split
 ·exact hx
 exact h i (by simpa using hi)
theorem imgS_ok(p:Int)(ds:List Dp)(hd:∀d∈ds,DOk d)(ss:List Sl)(hs:∀s∈ss,SOk s):∀s∈imgS p ds ss,SOk s:=by
 induction ds generalizing ss with
 | nil=>exact hs
 | cons d ds ih =>
  have:imgS p (d::ds) ss=imgS p ds (stepS p ss d):=rfl;rw[this];refine ih (fun x hx=>hd x (mC _ hx)) _ fun s hx=>?_;have aB:=hd d (List.mem_cons_self);unfold stepS at hx
  split at hx
  ·split at hx
   ·rcases mS hx with e|e
    ·exact hs s e
    subst e;exact⟨zL _,.inl ⟨rfl,rfl⟩⟩
   split at hx
   ·rcases mS hx with e|e
    ·exact hs s e
    subst e;exact⟨aB.nm,.inr aB.io⟩
   exact hs s hx
  exact hs s hx
theorem imgB_ok{m:MD}(h:Sh Z m)(p:Int):KOk0 (imgB m p):=by
 unfold imgB
 split
 ·rename_i hp;have hq:=zay hp;have hl:(p-1).toNat<m.4.length:=by rw[h.b];omega
  have e:m.bs.getD (p-1).toNat (false,[],⟨#[]⟩)=m.bs[(p-1).toNat]:=by rw[gD_,gE hl];rfl
  have hk:=h.bb _ (gM_ hl);rw[e];exact⟨fun q=>by rw[zbe];exact hk.n q,by rw[zbe];exact hk.m,imgS_ok p m.ds h.dd _ hk.s,hk.t⟩
 exact⟨fun q=>absurd q dC,dC,fun s hs=>absurd hs sI,dC⟩
end Kit
variable {Z : ZT}
theorem zk5(u v iv bv dv pv:Va)(m:MD)(x:Int)(w:Wd)(h:MR w u v iv bv dv pv m)(hm:Sh Z m):
  Calls Tryz.prog 174 #[.agg #[u,v,iv,bv,dv,pv,nI m.nx],nI x] w fun e w'=>(∃(s:BA)(r:Bool),e=.returned (.tuple #[.string s,.bool r])/\s.size<=60/\(r=true->0<=x/\x<=20))/\Bw w w':=by
 obtain⟨a1,c1,a2,c2,a3,c3,a4,c4,a5,c5,a6,c6,rfl,rfl,rfl,rfl,rfl,rfl⟩:=h.form;have HH:=hJ h;have HM:=hJ hm;have bC:=hm.l;have HW:Hid (∀W,Bw (w.alloc (.cells (M7 m a1 c1 a2 c2 a3 c3 a4 c4 a5 c5 a6 c6) 33)) W->Bw w W/\AtC W w.1.size 33 (M7 m a1 c1 a2 c2 a3 c3 a4 c4 a5 c5 a6 c6)/\w.1.size+1<=W.1.size):=fun W bb=>⟨((bF _ w).alloc nR _).trans (bb.mono sI),(AtC.new w 33 _).over bb,by have:=bb.size;simp at this;exact this⟩
 obtain⟨x0,x1,x2,x3,x4,x5,x6⟩:=(AtC.new w 33 (M7 m a1 c1 a2 c2 a3 c3 a4 c4 a5 c5 a6 c6)).k7;have CM:Hid (∀W,Bw w W->Calls Tryz.prog 192 #[.agg (M7 m a1 c1 a2 c2 a3 c3 a4 c4 a5 c5 a6 c6)] W fun e w'=>AnyB e/\Bw W w'):=fun W bb=>zb2 _ _ _ _ _ _ m W (HH.o.below bb nR) HM.o;clear h hm;go_enter Tryz.func174,Tryz.ntmps174
 go_upto_region 1 with fail
 generalize hW0:(w.alloc (.cells (M7 m a1 c1 a2 c2 a3 c3 a4 c4 a5 c5 a6 c6) 33))=W0 at*;clear hW0;go_cut [16]from 9 to 16 (fun c wx=>(∃r,c=.bool r/\(r=false->0<=x/\x<=20))/\Bw W0 wx)
 case first =>
  go_wp2_with (first| (go_at_call 192;refine(CM.out _ (HW.o _ bR).1).mono ?_;rintro e w2 ⟨⟨r,rfl⟩,B2⟩;have aH:=hJ B2;clear B2;cases r)| (go_at_call 50;refine(zak x 0 20 _).mono ?_;rintro e w3 ⟨rfl,rfl⟩;have aL:Hid (inB x 0 20=true->0<=x/\x<=20):=zay;generalize inB x 0 20=ri at*;cases ri))
  all_goals (go_meet;first| exact⟨⟨_,rfl,fun _=>aL.o rfl⟩,aH.o⟩| exact⟨⟨_,rfl,fun _=>aL.o⟩,aH.o⟩| exact⟨⟨_,rfl,fun _=>aL.o trivial⟩,aH.o⟩| exact⟨⟨_,rfl,fun e=>absurd e dC⟩,aH.o⟩)
 obtain⟨⟨r,rfl,aN⟩,aM⟩:=hcut;obtain⟨w2,rfl⟩:∃w2,w2=wc:=⟨wc,rfl⟩
 have k2:=HW.o w2 aM;have aD:=hJ k2;clear x0 x1 x2 x3 x4 x5 x6 aM
 cases r
 case true =>
  clear k2;go_wp2
  go_ret2
  exact⟨⟨_,_,rfl,dC,fun e=>absurd e dC⟩,aD.o.1⟩
 have HX:=hJ (aN rfl);clear aN;obtain⟨y0,y1,y2,y3⟩:=AtC.four k2.2.1;clear k2;go_wp2_with fail
 refine(zbo _ _ _ _ m.xs m.ys m.is m.bs w2 (HH.o.below aD.o.1 nR).d HM.o.big.d).mono ?_;rintro e w3 ⟨u1,u2,u3,u4,rfl,O3,B3⟩;obtain⟨b1,d1,b2,d2,b3,d3,b4,d4,rfl,rfl,rfl,rfl⟩:=O3.dr.form;have bG:=aD.o.2.2;have HN:Hid (DBx (w3.alloc (.cells #[sL b1 m.1 d1,sL b2 m.2 d2,sL b3 m.3 d3,sL b4 m.4 d4] 30)) w.1.size w3.1.size (sL b1 m.1 d1) (sL b2 m.2 d2) (sL b3 m.3 d3) (sL b4 m.4 d4) m.xs m.ys):=⟨_,m.is,m.bs,AtC.new w3 30 _,O3.bound.alloc _,fun k hk=>⟨by have:=hk.1;omega,by have:=hk.2;omega⟩,HM.o.i,HM.o.b,fun j hj=>zgx (HM.o.bb _ (gM_ hj)).toKOk0⟩
 have HT:Hid (∀W,Chg (fun k=>w.1.size<k/\k≠w3.1.size) (w3.alloc (.cells #[sL b1 m.1 d1,sL b2 m.2 d2,sL b3 m.3 d3,sL b4 m.4 d4] 30)) W->Bw w W/\AtC W w.1.size 33 (M7 m a1 c1 a2 c2 a3 c3 a4 c4 a5 c5 a6 c6)/\w3.1.size+1<=W.1.size):=fun W hc=>by
  have b3:Bw w2 (w3.alloc (.cells #[sL b1 m.1 d1,sL b2 m.2 d2,sL b3 m.3 d3,sL b4 m.4 d4] 30)):=B3.alloc B3.size _;have bE:=B3.size;have lo:∀k,k<=w.1.size->W.1[k]?=w2.1[k]?:=fun k hk=>(hc.block k sO (fun e=>oM)).trans (b3.block k oM);refine⟨⟨hc.os.trans (b3.os.trans aD.o.1.os),hc.tape.trans (b3.tape.trans aD.o.1.tape),hc.output.trans (b3.output.trans aD.o.1.output),by have:=hc.size;simp at this;omega,fun k hk=>(lo k oM).trans (aD.o.1.block k hk)⟩,(lo _ nR).trans aD.o.2.1,by have:=hc.size;simp at this;exact this⟩
 have aP:Hid (w.1.size<w3.1.size):=by have:=B3.size;show _<_;omega
 obtain⟨gi,aS⟩:∃gi,b3=some ⟨gi,0,none⟩:=by
  obtain⟨S1,S2,S3,ti,tb,-,-,z,-⟩:=O3;obtain⟨g,cap,e,-⟩:=z.row.at 0 (by rw[z.len,HM.o.i];decide);simp only[vJ]at e;exact⟨g,e.1⟩
 obtain⟨gb,aY⟩:∃gb,b4=some ⟨gb,0,none⟩:=by
  obtain⟨S1,S2,S3,ti,tb,-,-,-,z,-⟩:=O3;obtain⟨g,cap,e,-⟩:=z.row.at 0 (by rw[z.len,HM.o.b];decide);simp only[vJ]at e;exact⟨g,e.1⟩
 subst aS aY;clear O3 B3 y0 y1 y2 y3;go_wp2_with fail
 generalize aK:w3.1.size=b6 at*;clear aK;generalize w3.alloc (.cells #[.slice b1 m.1.length d1,.slice b2 m.2.length d2,.slice (some ⟨gi,0,none⟩) m.3.length d3,.slice (some ⟨gb,0,none⟩) m.4.length d4] 30)=W3 at*;go_loopw [7] (fun i' wr=>∃j:Nat,j<=8/\i'=.int .i64 ((j:Int)+1)/\Hid (DBx wr w.1.size b6 (.slice b1 m.1.length d1) (.slice b2 m.2.length d2) (.slice (some ⟨gi,0,none⟩) m.3.length d3) (.slice (some ⟨gb,0,none⟩) m.4.length d4) m.xs m.ys/\Chg (fun k=>w.1.size<k/\k≠b6) W3 wr)) (fun i' _=>8+1-(intOf i').toNat)
 case atStart=>exact⟨0,zL _,rfl,HN.o,Chg.refl _ _⟩
 obtain⟨j,hj,rfl,HR⟩:=hrel;by_cases hlt:j<8
 ·have j0:(0:Int)<=(j:Int):=oM
  have j1:(j:Int)<8:=oM
  have j2:(j:Int)+1<=8:=oM
  have j4:(j:Int)<(m.3.length:Int):=by rw[HM.o.i];omega
  have aX:=wrap_small _ oM oM;go_upto_region 7 with fail
  have aC:Hid (∀W,Bw wr W->W.cell? ⟨b6,2,none⟩=some (sL (aA gi 0) m.3 d3)/\AtC W w.1.size 33 (M7 m a1 c1 a2 c2 a3 c3 a4 c4 a5 c5 a6 c6)/\(∃r0,W.cell? ⟨gi,j*3,none⟩=some r0)/\(∃r1,W.cell? ⟨gi,j*3+1,none⟩=some r1)/\(∃r2,W.cell? ⟨gi,j*3+2,none⟩=some r2)/\(∀k,W.frozen? ⟨gi,k,none⟩=false)/\Bw w W):=fun W bb=>by
   obtain⟨S,is,bs,z1,z2,z3,z4,z5,z6⟩:=HR.o.1.below bb;have c2:=HR.o.2.trans (Chg.of_below bb);obtain⟨⟨q0,q1,q2,q3,q4,q5,-⟩,q6,-⟩:=z2.atI rfl j (by rw[z4];omega);exact⟨z1.cell 2,(HT.o W c2).2.1,⟨_,q3⟩,⟨_,q4⟩,⟨_,q5⟩,q6,(HT.o W c2).1⟩
  obtain⟨x1,xm,-,-,-,-,-⟩:=aC.o wr bR;obtain⟨m0,m1,m2,m3,m4,m5,m6⟩:=AtC.sev xm;have aB:Hid (∀w9 v9,Bw wr w9->ROwns w9 wr.1.size 3 v9 (ic (imgI m ((j:Int)+1)).2.2)->DBx (set3 w9 gi j (nI (imgI m ((j:Int)+1)).1,nI (imgI m ((j:Int)+1)).2.1,v9)) w.1.size b6 (sL b1 m.1 d1) (sL b2 m.2 d2) (sL (aA gi 0) m.3 d3) (sL (aA gb 0) m.4 d4) m.xs m.ys/\Chg (fun k=>w.1.size<k/\k≠b6) W3 (set3 w9 gi j (nI (imgI m ((j:Int)+1)).1,nI (imgI m ((j:Int)+1)).2.1,v9))):=fun w9 v9 bb o9=>by
   obtain⟨S,is,bs,z1,z2,z3,z4,z5,z6⟩:=HR.o.1;have hz:=HR.o.2.size;have aT:=z1.lt;have aK:=aP.o;obtain⟨-,-,-,-,sg⟩:=z2.atI rfl j (by rw[z4];omega);have sg:=z3 _ sg;have P:=z2.putI rfl j (by rw[z4];omega) (nI (imgI m ((j:Int)+1)).1,nI (imgI m ((j:Int)+1)).2.1,v9) (imgI m ((j:Int)+1)) bb ⟨rfl,rfl,o9.base_le (zL _)⟩ (fun k hk=>(o9.lt k hk).1);refine⟨⟨_,_,_,(((z1.over bb).other (Ne.symm sg.2) _).other (Ne.symm sg.2) _).other (Ne.symm sg.2) _,P,fun k hk=>?_,by rw[lS];exact z4,z5,z6⟩,(((HR.o.2.trans (Chg.of_below bb)).setCell sg _).setCell sg _).setCell sg _⟩;rcases hk with hk|hk
   ·exact z3 k hk
   exact⟨oM,oM⟩
  clear xm
  go_region_with (go_at_call 208;refine(zk3 _ _ _ _ _ _ m ((j:Int)+1) _ (HH.o.below (aC.o _ (zac bR)).2.2.2.2.2.2 nR) HM.o).mono ?_;rintro e w9 ⟨v9,rfl,O9,B9⟩;obtain⟨n1,n2,rfl,-⟩:=O9.form;obtain⟨y1,-,⟨r0,k0⟩,⟨r1,k1⟩,⟨r2,k2⟩,k3,-⟩:=aC.o w9 (zac B9);have z0:=k3 (j*3);have z1:=k3 (j*3+1);have z2:=k3 (j*3+2);have aG:=hJ B9;have aF:=hJ O9;clear k3 B9 O9)
  all_goals
   (have HZ:=hJ (aB.o w9 _ (zac aG.o) aF.o)
    clear aB aC aG aF HR;go_wp2;go_roundw
    case rel=>exact⟨j+1,oM,gK,HZ.o⟩
    case measure=>simp[intOf];omega)
 have j3:¬((j:Int)+1<=8):=oM
 have aU:=hJ HR.o;clear HR HN;go_wp2_with fail
 go_loopw [8] (fun i' wr=>∃j:Nat,j<=16/\i'=.int .i64 ((j:Int)+1)/\Hid (DBx wr w.1.size b6 (.slice b1 m.1.length d1) (.slice b2 m.2.length d2) (.slice (some ⟨gi,0,none⟩) m.3.length d3) (.slice (some ⟨gb,0,none⟩) m.4.length d4) m.xs m.ys/\Chg (fun k=>w.1.size<k/\k≠b6) W3 wr)) (fun i' _=>16+1-(intOf i').toNat)
 case atStart=>exact⟨0,zL _,rfl,aU.o⟩
 obtain⟨j,hj,rfl,HR⟩:=hrel;by_cases hlt:j<16
 ·have j0:(0:Int)<=(j:Int):=oM
  have j1:(j:Int)<16:=oM
  have j2:(j:Int)+1<=16:=oM
  have j4:(j:Int)<(m.4.length:Int):=by rw[HM.o.b];omega
  have aX:=wrap_small _ oM oM;go_upto_region 11 with fail
  have aC:Hid (∀W,Bw wr W->W.cell? ⟨b6,3,none⟩=some (sL (aA gb 0) m.4 d4)/\AtC W w.1.size 33 (M7 m a1 c1 a2 c2 a3 c3 a4 c4 a5 c5 a6 c6)/\(∃r0,W.cell? ⟨gb,j*3,none⟩=some r0)/\(∃r1,W.cell? ⟨gb,j*3+1,none⟩=some r1)/\(∃r2,W.cell? ⟨gb,j*3+2,none⟩=some r2)/\(∀k,W.frozen? ⟨gb,k,none⟩=false)/\Bw w W):=fun W bb=>by
   obtain⟨S,is,bs,z1,z2,z3,z4,z5,z6⟩:=HR.o.1.below bb;have c2:=HR.o.2.trans (Chg.of_below bb);obtain⟨⟨q0,q1,q2,q3,q4,q5,-⟩,q6,-⟩:=z2.atB rfl j (by rw[z5];omega);exact⟨z1.cell 3,(HT.o W c2).2.1,⟨_,q3⟩,⟨_,q4⟩,⟨_,q5⟩,q6,(HT.o W c2).1⟩
  obtain⟨x1,xm,-,-,-,-,-⟩:=aC.o wr bR;obtain⟨m0,m1,m2,m3,m4,m5,m6⟩:=AtC.sev xm;have aB:Hid (∀w9 v9,Bw wr w9->SOwns w9 wr.1.size 90 v9 (imgB m ((j:Int)+1)).2.1->DBx (set3 w9 gb j (.bool (imgB m ((j:Int)+1)).1,v9,.string (imgB m ((j:Int)+1)).2.2)) w.1.size b6 (sL b1 m.1 d1) (sL b2 m.2 d2) (sL (aA gi 0) m.3 d3) (sL (aA gb 0) m.4 d4) m.xs m.ys/\Chg (fun k=>w.1.size<k/\k≠b6) W3 (set3 w9 gb j (.bool (imgB m ((j:Int)+1)).1,v9,.string (imgB m ((j:Int)+1)).2.2))):=fun w9 v9 bb o9=>by
   obtain⟨S,is,bs,z1,z2,z3,z4,z5,z6⟩:=HR.o.1;have hz:=HR.o.2.size;have aT:=z1.lt;have aK:=aP.o;obtain⟨-,-,-,-,sg⟩:=z2.atB rfl j (by rw[z5];omega);have sg:=z3 _ sg;have P:=z2.putB rfl j (by rw[z5];omega) (.bool (imgB m ((j:Int)+1)).1,v9,.string (imgB m ((j:Int)+1)).2.2) (imgB m ((j:Int)+1)) bb ⟨rfl,o9.base_le (zL _),rfl⟩ (fun k hk=>(o9.lt k hk).1);refine⟨⟨_,_,_,(((z1.over bb).other (Ne.symm sg.2) _).other (Ne.symm sg.2) _).other (Ne.symm sg.2) _,P,fun k hk=>?_,z4,by rw[lS];exact z5,fun i hi=>bigB_set z6 (zgx (imgB_ok HM.o _)) i hi⟩,(((HR.o.2.trans (Chg.of_below bb)).setCell sg _).setCell sg _).setCell sg _⟩;rcases hk with hk|hk
   ·exact z3 k hk
   exact⟨oM,oM⟩
  clear xm
  go_region_with (go_at_call 209;refine(zk4 _ _ _ _ _ _ m ((j:Int)+1) _ (HH.o.below (aC.o _ (zac bR)).2.2.2.2.2.2 nR) HM.o).mono ?_;rintro e w9 ⟨v9,rfl,O9,B9⟩;obtain⟨n1,n2,rfl,-⟩:=O9.form;obtain⟨y1,-,⟨r0,k0⟩,⟨r1,k1⟩,⟨r2,k2⟩,k3,-⟩:=aC.o w9 (zac B9);have z0:=k3 (j*3);have z1:=k3 (j*3+1);have z2:=k3 (j*3+2);have aG:=hJ B9;have aF:=hJ O9;clear k3 B9 O9)
  all_goals
   (have HZ:=hJ (aB.o w9 _ (zac aG.o) aF.o)
    clear aB aC aG aF HR;go_wp2;go_roundw
    case rel=>exact⟨j+1,oM,gK,HZ.o⟩
    case measure=>simp[intOf];omega)
 have j3:¬((j:Int)+1<=16):=oM
 obtain⟨S,is,bs,z1,z2,z3,z4,z5,z6⟩:=HR.o.1;have aQ:=(HT.o wr HR.o.2).1;obtain⟨e0,e1,e2,e3⟩:=AtC.four z1;have aV:Hid (Calls Tryz.prog 210 #[.agg #[sL b1 m.1 d1,sL b2 m.2 d2,sL (aA gi 0) m.3 d3,sL (aA gb 0) m.4 d4],nI x] wr fun e w'=>(∃(s:BA)(r:Bool),e=.returned (.tuple #[.string s,.bool r])/\s.size<=60)/\Bw wr w'):=(zk0 _ _ _ _ m.xs m.ys is bs x 0 wr z2.dr z2.two z6).mono fun e w' ⟨h1,h2⟩=>⟨⟨_,_,h1,zgd _ _ _ _ _⟩,h2⟩
 have aO:=hJ aQ;clear z1 z2 z3 z4 z5 z6 HR aQ;go_wp2_with (go_at_call 210;refine aV.out.mono ?_;rintro e w8 ⟨⟨s8,r8,rfl,aR⟩,B8⟩;have aZ:=hJ B8;have aW:=hJ aR;clear B8 aR)
 go_ret2
 exact⟨⟨_,_,rfl,aW.o,fun _=>HX.o⟩,aO.o.trans (aZ.o.mono aO.o.size)⟩
namespace Kit
theorem zmx{w:Wd}{b:Nat}{T:TypeId}{x0 x1 x2 x3 x4 x5 x6 x7:Va}(h:AtC w b T #[x0,x1,x2,x3,x4,x5,x6,x7])(v0 v1 v2 v3 v4 v5 v6 v7:Va):
  AtC ((((((((w.setCell ⟨b,0,none⟩ v0).setCell ⟨b,1,none⟩ v1).setCell ⟨b,2,none⟩ v2).setCell ⟨b,3,none⟩ v3).setCell ⟨b,4,none⟩ v4).setCell ⟨b,5,none⟩ v5).setCell ⟨b,6,none⟩ v6).setCell ⟨b,7,none⟩ v7) b T #[v0,v1,v2,v3,v4,v5,v6,v7]:=by
 have h1:AtC (w.setCell ⟨b,0,none⟩ v0) b T #[v0,x1,x2,x3,x4,x5,x6,x7]:=h.set 0 v0;have h2:AtC ((w.setCell ⟨b,0,none⟩ v0).setCell ⟨b,1,none⟩ v1) b T #[v0,v1,x2,x3,x4,x5,x6,x7]:=h1.set 1 v1;have h3:AtC (w.s3 b v0 v1 v2) b T #[v0,v1,v2,x3,x4,x5,x6,x7]:=h2.set 2 v2;have h4:AtC (w.s4 b v0 v1 v2 v3) b T #[v0,v1,v2,v3,x4,x5,x6,x7]:=h3.set 3 v3;have h5:AtC (w.s5 b v0 v1 v2 v3 v4) b T #[v0,v1,v2,v3,v4,x5,x6,x7]:=h4.set 4 v4;have h6:AtC (w.s6 b v0 v1 v2 v3 v4 v5) b T #[v0,v1,v2,v3,v4,v5,x6,x7]:=h5.set 5 v5;have h7:AtC (w.s7 b v0 v1 v2 v3 v4 v5 v6) b T #[v0,v1,v2,v3,v4,v5,v6,x7]:=h6.set 6 v6;exact h7.set 7 v7
theorem zag(w:Wd)(b:Nat)(v0 v1 v2 v3 v4 v5 v6 v7:Va)(k:Nat)(hk:k≠b):(w.s8 b v0 v1 v2 v3 v4 v5 v6 v7).heap[k]?=w.1[k]?:=by
 rw[hO_ _ ⟨b,7,none⟩ k _ hk,hO_ _ ⟨b,6,none⟩ k _ hk,hO_ _ ⟨b,5,none⟩ k _ hk,hO_ _ ⟨b,4,none⟩ k _ hk,hO_ _ ⟨b,3,none⟩ k _ hk,hO_ _ ⟨b,2,none⟩ k _ hk,hO_ _ ⟨b,1,none⟩ k _ hk,hO_ _ ⟨b,0,none⟩ k _ hk]
theorem zav{w w':Wd}{B b:Nat}(h:Below B w w')(hb:B<=b)(v0 v1 v2 v3 v4 v5 v6 v7:Va):Below B w (w'.s8 b v0 v1 v2 v3 v4 v5 v6 v7) :=
 (((((((h.setCell hb _).setCell hb _).setCell hb _).setCell hb _).setCell hb _).setCell hb _).setCell hb _).setCell hb _
def MkMem(k:Nat)(m:MD):Mk:=.val [k] (fun lo _ w v=>∃a1 c1 a2 c2 a3 c3 a4 c4 a5 c5 a6 c6,v=.agg (M7 m a1 c1 a2 c2 a3 c3 a4 c4 a5 c5 a6 c6)/\N7 w (fun q=>lo<=q) m a1 c1 a2 c2 a3 c3 a4 c4 a5 c5 a6 c6)
 (fun _ _ _ _ _ h hb=>by obtain⟨a1,c1,a2,c2,a3,c3,a4,c4,a5,c5,a6,c6,h1,h2⟩:=h;exact⟨a1,c1,a2,c2,a3,c3,a4,c4,a5,c5,a6,c6,h1,h2.below hb nR⟩)
def MkTx(ds:List Nat)(ts:List BA)(B:Nat):Mk:=.val ds (fun _ _ w v=>∃a c,v=.slice a ts.length c/\ROwns w B 9 (.slice a ts.length c) (stc ts))
 (fun _ _ _ _ _ h hb=>by obtain⟨a,c,h1,h2⟩:=h;exact⟨a,c,h1,h2.below hb nR⟩)
theorem RSt.rc{w:Wd}{v:Va}{xs:List BA}(h:RSt w v xs):RC w v xs.length (stc xs):=by
 obtain⟨a,c,rfl,h⟩:=h;refine⟨a,c,rfl,fun j u hj=>?_⟩;have hl:j<xs.length:=by have:=(List.getElem?_eq_some_iff.1 hj).1;rwa[zaj]at this
 obtain⟨g,aB,e1,-,e2⟩:=h j hl;refine⟨g,aB,e1,e2.trans ?_⟩;rw[zi3 xs j hl]at hj;exact hj
end Kit
theorem zfj(u v iv bv dv pv tv:Va)(m:MD)(ts:List BA)(w:Wd)(h:MR w u v iv bv dv pv m)(hB:BigM 1048576 m)(ht:RSt w tv ts)(hl:ts.length<=1048576):
  Calls Tryz.prog 176 #[.agg #[u,v,iv,bv,dv,pv,.int .i64 m.nx,tv]] w fun e w'=>∃u' v' i' b' d' p' t',e=.returned (.agg #[u',v',i',b',d',p',.int .i64 m.nx,t'])/\MO w' (fun k=>w.1.size<=k) u' v' i' b' d' p' m/\ROwns w' w.1.size 9 t' (stc ts)/\Bw w w':=by
 obtain⟨a1,c1,a2,c2,a3,c3,a4,c4,a5,c5,a6,c6,rfl,rfl,rfl,rfl,rfl,rfl⟩:=h.form;obtain⟨ta,tc,rfl⟩:=ht.form;have H:=hJ h;have HT:=hJ ht;have HG:=hJ hB;have HL:Hid (ts.length<=100000000000):=lT hl dC;clear h ht hB hl;go_enter Tryz.func176,Tryz.ntmps176
 go_wp2_with fail
 have HC:Hid (∀W,Bw ((w.n (M9 m a1 c1 a2 c2 a3 c3 a4 c4 a5 c5 a6 c6 ta ts.length tc) 119).n #[.slice none 0 0,.slice none 0 0,.slice none 0 0,.slice none 0 0,.slice none 0 0,.slice none 0 0,.int .i64 0,.slice none 0 0] 119).drew W->AtC W w.1.size 119 (M9 m a1 c1 a2 c2 a3 c3 a4 c4 a5 c5 a6 c6 ta ts.length tc)/\AtC W (w.1.size+1) 119 #[.slice none 0 0,.slice none 0 0,.slice none 0 0,.slice none 0 0,.slice none 0 0,.slice none 0 0,.int .i64 0,.slice none 0 0]/\Bw w W/\w.1.size+1+1<=W.1.size):=fun W b=>by
  have b2:=zac b;have k1:=(AtC.new (w.alloc (.cells (M9 m a1 c1 a2 c2 a3 c3 a4 c4 a5 c5 a6 c6 ta ts.length tc) 119)) 119 #[.slice none 0 0,.slice none 0 0,.slice none 0 0,.slice none 0 0,.slice none 0 0,.slice none 0 0,.int .i64 0,.slice none 0 0]).over b2;have sz:=b2.size;simp at k1 sz;exact⟨((AtC.new w 119 _).alloc _).over b2,k1,(((bF _ w).alloc nR _).alloc sI _).trans (b2.mono sO),sz⟩
 refine zau kL [0,1,2,3,4,5,6,7] [8,9,10] (fun i=>match i with|0=>.const [] (.pointer (some ⟨w.1.size,0,none⟩))|1=>.const [0] (.agg (M7 m a1 c1 a2 c2 a3 c3 a4 c4 a5 c5 a6 c6))|2=>MkMem 1 m|3=>MkE 9|4=>.const [] (.pointer (some ⟨w.1.size,7,none⟩))|5=>.const [4] (.pointer (some ⟨w.1.size,7,none⟩))|6=>.const [5] (.slice ta ts.length tc)|7=>MkTx [3,6] ts (w.1.size+1+1)|_=>.triv) (fun x=>⟨#[.agg (M9 m a1 c1 a2 c2 a3 c3 a4 c4 a5 c5 a6 c6 ta ts.length tc),.pointer (some ⟨w.1.size,0,none⟩),.pointer (some ⟨w.1.size+1,0,none⟩),x 0,x 1,x 2,x 3,x 4,x 5,x 6,x 7,undef,undef],[]⟩) (fun i=>match i with|0=>undef|1=>undef|2=>undef|3=>undef|4=>undef|5=>undef|6=>undef|7=>undef|_=>undef) rfl kL kL kL rfl ?_ ?_
 ·intro jo hj so x iw W hd hp K hK;simp only[mN,nN,or_false]at hj;rcases hj with rfl|rfl|rfl|rfl|rfl|rfl|rfl|rfl<;>refine wpOp_step (o:=_) rfl fun K' hK'=>?_<;>have HK:=hJ (fun(v:Va) (W':Wd) h1 h2=>hK' _ _ (hK v W' h1 h2))<;>simp only[upd,Nat.reduceEqDiff,if_true,if_false]at HK
  ·exact cQ6
  ·have e0:x 0=.pointer (some ⟨w.1.size,0,none⟩):=hp.post 0 (hd 0 mz0);have k0:=(HC.o W hp.bel).1;obtain⟨q0,q1,q2,q3,q4,q5,q6⟩:=AtC.sev k0;clear k0;simp only[e0]at HK ⊢;go_simp;exact HK.o _ _ bR rfl
  ·have e1:x 1=.agg (M7 m a1 c1 a2 c2 a3 c3 a4 c4 a5 c5 a6 c6):=hp.post 1 (hd 1 mz0);have bl:=(HC.o W hp.bel).2.2.1;simp only[e1]at HK ⊢;go_simp;refine(zax _ _ _ _ _ _ m W (H.out.below bl nR) HG.o).mono ?_;rintro e w6 ⟨u1,u2,u3,u4,u5,u6,rfl,O6,B6⟩;obtain⟨b1,d1,b2,d2,b3,d3,b4,d4,b5,d5,b6,d6,rfl,rfl,rfl,rfl,rfl,rfl⟩:=O6.mr.form;go_simp;exact HK.o _ _ B6 ⟨b1,d1,b2,d2,b3,d3,b4,d4,b5,d5,b6,d6,rfl,O6⟩
  ·clear hK hK' hp hd;go_simp;exact HK.o _ _ ((bF _ W).alloc nR _) ⟨rfl,sI,AtC.new W 9 _⟩
  ·exact cQ6
  ·have e4:x 4=.pointer (some ⟨w.1.size,7,none⟩):=hp.post 4 (hd 4 mz0);simp only[e4]at HK ⊢;go_simp;exact HK.o _ _ bR rfl
  ·have e5:x 5=.pointer (some ⟨w.1.size,7,none⟩):=hp.post 5 (hd 5 mz0);have q0:=(HC.o W hp.bel).1.c7;simp only[e5]at HK ⊢;go_simp;exact HK.o _ _ bR rfl
  have e3:x 3=.slice (some ⟨(iw 3).1,0,none⟩) 0 0/\(iw 3).2=(iw 3).1+1/\AtC W (iw 3).1 9 #[]:=hp.post 3 (hd 3 mz0);have e6:x 6=.slice ta ts.length tc:=hp.post 6 (hd 6 mz1);have bl:=HC.o W hp.bel;have l0:=(hp.lo 3 (hd 3 mz0)).1;simp[World.drew]at l0;obtain⟨f0,-,A0⟩:=e3;refine zbf W rfl (.tmp 6) (.tmp 9) 44 rfl (w.1.size+1+1) 9 Tryz.u44 _ 1 16 Tryz.i9 rfl dC dC (some ⟨(iw 3).1,0,none⟩) (by exact f0) (A0.empty _ oM 1) bl.2.2.2 (.slice ta ts.length tc) (by exact e6) ts.length (stc ts) (HT.o.below bl.2.2.1 nR).rc (by rw[zaj,Nat.mul_one]) (fun u hu=>by simp only[stc,List.mem_map]at hu;obtain⟨_,-,rfl⟩:=hu;rfl) HL.o ?_;intro v' w' R1 R2 R3;have O1:ROwns w' (w.1.size+1+1) 9 v' (stc ts):=by unfold ROwns;rw[zaj];exact R1
  obtain⟨a8,c8,e8⟩:=O1.rst.form;subst e8;exact HK.o _ w' R2 ⟨a8,c8,rfl,O1⟩
 intro x iw W hp;obtain⟨b1,d1,b2,d2,b3,d3,b4,d4,b5,d5,b6,d6,e2,O2⟩:=hp.post 2 dC;obtain⟨b7,d7,e7,O7⟩:=hp.post 7 dC;have l2:=hp.lo 2 dC;simp[World.drew]at l2;obtain⟨kA,kR,aB,-⟩:=HC.o W hp.bel;obtain⟨r0,r1,r2,r3,r4,r5,r6,r7⟩:=kR.k8;obtain⟨v0,v1,v2,v3,v4,v5,v6,v7⟩:=kR.f8;have HO:=hJ (aI O2 (aI O7 aB));have aC:Hid (w.1.size+1+1<=(iw 2).1):=by show _<=_;omega
 clear hp O2 O7 aB kA kR l2 HC;simp only[e2,e7];clear e2 e7;go_wp2;rw[List.filterMap_nil];go_wp2;refine bY (v:=.agg (M9 m b1 d1 b2 d2 b3 d3 b4 d4 b5 d5 b6 d6 b7 ts.length d7)) sR8 rfl ⟨_,_,_,_,_,_,_,rfl,?_,?_,?_⟩
 ·exact(HO.o.1.of_heap fun k hk _=>zag _ _ _ _ _ _ _ _ _ _ k (by have:(iw 2).1<=k:=hk;have:=aC.o;omega)).mono (fun k hk=>by have:(iw 2).1<=k:=hk;have:=aC.o;omega)
 ·exact(HO.o.2.1.of_heap fun k hk=>zag _ _ _ _ _ _ _ _ _ _ k (by have:=(HO.o.2.1.lt k hk).1;omega)).base_le oM
 exact zav HO.o.2.2 oM _ _ _ _ _ _ _ _
def FsW(w:Wd)(B:Nat)(a:Va):Prop:=∃(a1:OA)(c1:Nat)(a2:OA)(c2:Nat)(a3:OA)(c3:Nat)(a4:OA)(c4:Nat)(a5:OA)(c5:Nat)(a6:OA)(c6:Nat)(ta:OA)(tc:Nat)(m:MD)(ts:List BA),a=.agg (M9 m a1 c1 a2 c2 a3 c3 a4 c4 a5 c5 a6 c6 ta ts.length tc)/\N7 w (fun k=>B<=k) m a1 c1 a2 c2 a3 c3 a4 c4 a5 c5 a6 c6/\ROwns w B 9 (.slice ta ts.length tc) (stc ts)/\Sh Z0 m/\DvOk ts
theorem FsW.below{w w':Wd}{B:Nat}{a:Va}(h:FsW w B a)(hb:Bw w w'):FsW w' B a:=by
 obtain⟨a1,c1,a2,c2,a3,c3,a4,c4,a5,c5,a6,c6,ta,tc,m,ts,h1,h2,h3,h4⟩:=h;exact⟨a1,c1,a2,c2,a3,c3,a4,c4,a5,c5,a6,c6,ta,tc,m,ts,h1,h2.below hb nR,h3.below hb nR,h4⟩
theorem FsW.mono{w:Wd}{B B':Nat}{a:Va}(h:FsW w B a)(hb:B'<=B):FsW w B' a:=by
 obtain⟨a1,c1,a2,c2,a3,c3,a4,c4,a5,c5,a6,c6,ta,tc,m,ts,h1,h2,h3,h4⟩:=h;exact⟨a1,c1,a2,c2,a3,c3,a4,c4,a5,c5,a6,c6,ta,tc,m,ts,h1,h2.mono (fun k hk=>lT hb hk),h3.base_le hb,h4⟩
theorem wrD_ok{xs:List BA}{u:Int}{s:BA}(h:DvOk xs)(hs:s.size<=60):DvOk (wrD xs u s):=by
 unfold wrD
 split
 ·exact⟨by rw[lS];exact h.n,fun j hj=>by
   rw[List.getElem_set]
   split
   ·omega
   exact h.s j (by rw[lS]at hj;exact hj)⟩
 exact h
theorem wb_any(u v iv bv dv pv tv:Va)(m:MD)(ts:List BA)(x:Int)(w:Wd)(h:MR w u v iv bv dv pv m)(ht:RSt w tv ts)(hm:Sh Z0 m)(hd:DvOk ts):
  Calls Tryz.prog 144 #[.agg #[u,v,iv,bv,dv,pv,nI m.nx,tv],nI x] w fun e w'=>∃a r,e=.returned (.tuple #[a,.bool r])/\FsW w' w.1.size a/\Bw w w':=by
 obtain⟨a1,c1,a2,c2,a3,c3,a4,c4,a5,c5,a6,c6,rfl,rfl,rfl,rfl,rfl,rfl⟩:=h.form;obtain⟨ta,tc,rfl⟩:=ht.form;obtain⟨W0,hW0⟩:∃W0,((w.alloc (.cells (M9 m a1 c1 a2 c2 a3 c3 a4 c4 a5 c5 a6 c6 ta ts.length tc) 119)).alloc (.cells #[nZ,nZ,nZ,nZ,nZ,nZ,nI 0,nZ] 119))=W0:=⟨_,rfl⟩
 have HC:Hid (∀W,Bw W0 W->AtC W w.1.size 119 (M9 m a1 c1 a2 c2 a3 c3 a4 c4 a5 c5 a6 c6 ta ts.length tc)/\AtC W (w.1.size+1) 119 #[nZ,nZ,nZ,nZ,nZ,nZ,nI 0,nZ]/\Bw w W/\w.1.size+1+1<=W.1.size):=fun W b2=>by
  exact cQ34
 have HH:=hJ h;have HT:=hJ ht;have HM:=hJ hm;have HD:=hJ hd;have aP:Hid (ts.length<=1048576):=by have:=hd.n;show _<=_;omega
 have aU:Hid (Bw W0 W0):=bF _ _;obtain⟨x0,x1,x2,x3,x4,x5,x6,x7⟩:=AtC.eig ((HC.o W0 aU.o).1);have aV:Hid (R7 W0 m a1 c1 a2 c2 a3 c3 a4 c4 a5 c5 a6 c6):=HH.o.below (HC.o W0 aU.o).2.2.1 nR;clear h ht hm hd;go_enter Tryz.func144,Tryz.ntmps144
 go_wp2_with fail
 refine(zk5 _ _ _ _ _ _ m x W0 aV.o HM.o).mono ?_;rintro e w1 ⟨⟨s,q1,rfl,hs,-⟩,B1⟩;have aL:Hid (Bw W0 w1):=B1;have HS:=hJ hs;clear B1 hs aV x0 x1 x2 x3 x4 x5 x6 x7 hW0;obtain⟨x0,x1,x2,x3,x4,x5,x6,x7⟩:=AtC.eig ((HC.o w1 aL.o).1);have aQ:Hid (R7 w1 m a1 c1 a2 c2 a3 c3 a4 c4 a5 c5 a6 c6/\RSt w1 (sL ta ts tc) ts):=⟨HH.o.below (HC.o w1 aL.o).2.2.1 nR,HT.o.below (HC.o w1 aL.o).2.2.1 nR⟩
 go_wp2_with fail
 refine(fsOk_any _ _ _ _ _ _ _ m ts w1 aQ.o.1 HM.o aQ.o.2 HD.o).mono ?_;rintro e w2 ⟨⟨q2,rfl⟩,B2⟩;have aF:Hid (Bw W0 w2):=aL.o.trans (B2.mono aL.o.size);clear B2 aQ aL x0 x1 x2 x3 x4 x5 x6 x7;by_cases hq:q2=true/\q1=true
 rotate_left
 ·have bC:((!q2)|| (!q1))=true:=by cases q2<;>cases q1<;>simp_all
  cases q2<;>cases q1<;>first| (exfalso;exact hq ⟨rfl,rfl⟩)| skip
  all_goals clear hq bC
  all_goals
   obtain⟨x0,x1,x2,x3,x4,x5,x6,x7⟩:=AtC.eig ((HC.o w2 aF.o).1);have aG:Hid (R7 w2 m a1 c1 a2 c2 a3 c3 a4 c4 a5 c5 a6 c6/\RSt w2 (sL ta ts tc) ts):=⟨HH.o.below (HC.o w2 aF.o).2.2.1 nR,HT.o.below (HC.o w2 aF.o).2.2.1 nR⟩
   have aD:Hid (w.1.size+1+1<=w2.1.size):=(HC.o w2 aF.o).2.2.2;go_wp2_with fail
   refine(zfj _ _ _ _ _ _ _ m ts w2 aG.o.1 HM.o.big aG.o.2 aP.o).mono ?_;rintro e w9 ⟨u1,u2,u3,u4,u5,u6,t1,rfl,M9,T9,B9⟩;have aK:Hid (Bw W0 w9):=(aF.o).trans (B9.mono (aF.o).size);obtain⟨b1,d1,b2,d2,b3,d3,b4,d4,b5,d5,b6,d6,rfl,rfl,rfl,rfl,rfl,rfl⟩:=M9.mr.form;obtain⟨b7,d7,rfl⟩:=T9.rst.form;obtain⟨r0,r1,r2,r3,r4,r5,r6,r7⟩:=AtC.eig ((HC.o w9 aK.o).2.1);obtain⟨v0,v1,v2,v3,v4,v5,v6,v7⟩:=(HC.o w9 aK.o).2.1.f8;have aH:=hJ (aI M9 T9);clear M9 T9 B9 aG;go_wp2;exact bY (v:=.tuple #[.agg (M9 m b1 d1 b2 d2 b3 d3 b4 d4 b5 d5 b6 d6 b7 ts.length d7),.bool false]) sR8 rfl ⟨_,_,rfl,⟨b1,d1,b2,d2,b3,d3,b4,d4,b5,d5,b6,d6,b7,d7,_,_,rfl,(aH.o.1.of_heap fun k hk _=>zag _ _ _ _ _ _ _ _ _ _ k (by have:=aD.o;have:_<=k:=hk;omega)).mono (fun k hk=>by have:=aD.o;have:_<=k:=hk;omega),(aH.o.2.of_heap fun k hk=>zag _ _ _ _ _ _ _ _ _ _ k (by have:=aD.o;have:=(aH.o.2.lt k hk).1;omega)).base_le (by have:=aD.o;omega),HM.o,HD.o⟩,zav (HC.o w9 aK.o).2.2.1 oM _ _ _ _ _ _ _ _⟩
 obtain⟨rfl,rfl⟩:=hq;obtain⟨x0,x1,x2,x3,x4,x5,x6,x7⟩:=AtC.eig ((HC.o w2 aF.o).1);have aT:Hid (RSt w2 (sL ta ts tc) ts):=HT.o.below (HC.o w2 aF.o).2.2.1 nR;go_wp2_with fail
 refine(zg3 _ ts x s w2 aT.o aP.o (fun j hj=>by have:=HD.o.s j hj;omega) (by have:=HS.o;omega)).mono ?_;rintro e w3 ⟨tw,rfl,T3,B3⟩;have aS:Hid (Bw W0 w3):=aF.o.trans (B3.mono aF.o.size);have aM:=hJ T3;have bG:Hid (w.1.size+1+1<=w2.1.size):=(HC.o w2 aF.o).2.2.2;have aN:Hid (w2.1.size<=w3.1.size):=B3.size;clear B3 T3 aT aF x0 x1 x2 x3 x4 x5 x6 x7;obtain⟨b7,d7,rfl⟩:=aM.o.rst.form;obtain⟨q3,aY⟩:∃q3,okW ts x s=q3:=⟨_,rfl⟩
 rw[aY];clear aY;obtain⟨nl,aO⟩:∃nl,(wrD ts x s).length=nl:=⟨_,rfl⟩
 rw[aO]at aM ⊢;obtain⟨W4,bH⟩:∃W4,w3.alloc (.cells #[.slice b7 nl d7] 46)=W4:=⟨_,rfl⟩
 have aC:Hid (Bw W0 W4/\ROwns W4 w2.1.size 9 (.slice b7 nl d7) (stc (wrD ts x s))/\AtC W4 w3.1.size 46 #[.slice b7 nl d7]/\w3.1.size+1=W4.1.size):=by
  rw[←bH];exact⟨aS.o.alloc aS.o.size _,aM.o.alloc _,AtC.new w3 46 _,sI⟩
 have bE:Hid (DvOk (wrD ts x s)):=wrD_ok HD.o HS.o;have aR:=hJ aO;clear aO aM
 cases q3 with
 | false =>
  obtain⟨x0,x1,x2,x3,x4,x5,x6,x7⟩:=AtC.eig ((HC.o W4 aC.o.1).1);have aG:Hid (R7 W4 m a1 c1 a2 c2 a3 c3 a4 c4 a5 c5 a6 c6/\RSt W4 (sL ta ts tc) ts):=⟨HH.o.below (HC.o W4 aC.o.1).2.2.1 nR,HT.o.below (HC.o W4 aC.o.1).2.2.1 nR⟩
  have aD:Hid (w.1.size+1+1<=W4.1.size):=(HC.o W4 aC.o.1).2.2.2;go_wp2_with fail
  refine(zfj _ _ _ _ _ _ _ m ts W4 aG.o.1 HM.o.big aG.o.2 aP.o).mono ?_;rintro e w9 ⟨u1,u2,u3,u4,u5,u6,t1,rfl,M9,T9,B9⟩;have aK:Hid (Bw W0 w9):=(aC.o.1).trans (B9.mono (aC.o.1).size);obtain⟨b1,d1,b2,d2,b3,d3,b4,d4,b5,d5,b6,d6,rfl,rfl,rfl,rfl,rfl,rfl⟩:=M9.mr.form;obtain⟨b7,d7,rfl⟩:=T9.rst.form;obtain⟨r0,r1,r2,r3,r4,r5,r6,r7⟩:=AtC.eig ((HC.o w9 aK.o).2.1);obtain⟨v0,v1,v2,v3,v4,v5,v6,v7⟩:=(HC.o w9 aK.o).2.1.f8;have aH:=hJ (aI M9 T9);clear M9 T9 B9 aG;go_wp2;exact bY (v:=.tuple #[.agg (M9 m b1 d1 b2 d2 b3 d3 b4 d4 b5 d5 b6 d6 b7 ts.length d7),.bool false]) sR8 rfl ⟨_,_,rfl,⟨b1,d1,b2,d2,b3,d3,b4,d4,b5,d5,b6,d6,b7,d7,_,_,rfl,(aH.o.1.of_heap fun k hk _=>zag _ _ _ _ _ _ _ _ _ _ k (by have:=aD.o;have:_<=k:=hk;omega)).mono (fun k hk=>by have:=aD.o;have:_<=k:=hk;omega),(aH.o.2.of_heap fun k hk=>zag _ _ _ _ _ _ _ _ _ _ k (by have:=aD.o;have:=(aH.o.2.lt k hk).1;omega)).base_le (by have:=aD.o;omega),HM.o,HD.o⟩,zav (HC.o w9 aK.o).2.2.1 oM _ _ _ _ _ _ _ _⟩
 | true =>
  obtain⟨x0,x1,x2,x3,x4,x5,x6,x7⟩:=AtC.eig ((HC.o W4 aC.o.1).1);have bI:Hid (R7 W4.drew m a1 c1 a2 c2 a3 c3 a4 c4 a5 c5 a6 c6):=HH.o.below (HC.o W4.drew (aC.o.1.trans (by exact(show Below W0.1.size W4 W4.drew from(zac bR).mono aC.o.1.size)))).2.2.1 nR;have y8:=aC.o.2.2.1.c0;go_upto_region 7 with fail
  have aD:Hid (w.1.size+1+1<=w2.1.size/\w2.1.size<=w3.1.size/\w3.1.size+1=W4.1.size):=⟨bG.o,aN.o,aC.o.2.2.2⟩
  have HF:Hid (∀w5,Bw W4.drew w5->Bw W0 w5/\AtC w5 w3.1.size 46 #[.slice b7 nl d7]/\ROwns w5 w2.1.size 9 (.slice b7 nl d7) (stc (wrD ts x s))):=fun w5 b=>by
   have b5:=zac b;exact⟨aC.o.1.trans (b5.mono aC.o.1.size),aC.o.2.2.1.over b5,aC.o.2.1.below b5 nR⟩
  go_region_with (go_at_call 177;refine(done_any _ _ _ _ _ _ m x W4.drew bI.o HM.o).mono ?_;rintro e w5 ⟨u1,u2,u3,u4,u5,u6,mn,rfl,O5,aX,B5⟩;obtain⟨b1,d1,b2,d2,b3,d3,b4,d4,b5,d5,b6,d6,rfl,rfl,rfl,rfl,rfl,rfl⟩:=O5.mr.form;have aB:=hJ (HF.o w5 B5);have y9:w5.cell? ⟨w3.1.size,0,none⟩=some (.slice b7 nl d7):=aB.o.2.1.cell 0;have r0:w5.cell? ⟨w.1.size+1,0,none⟩=some (.slice none 0 0):=(HC.o w5 aB.o.1).2.1.cell 0;have r1:w5.cell? ⟨w.1.size+1,1,none⟩=some (.slice none 0 0):=(HC.o w5 aB.o.1).2.1.cell 1;have r2:w5.cell? ⟨w.1.size+1,2,none⟩=some (.slice none 0 0):=(HC.o w5 aB.o.1).2.1.cell 2;have r3:w5.cell? ⟨w.1.size+1,3,none⟩=some (.slice none 0 0):=(HC.o w5 aB.o.1).2.1.cell 3;have r4:w5.cell? ⟨w.1.size+1,4,none⟩=some (.slice none 0 0):=(HC.o w5 aB.o.1).2.1.cell 4;have r5:w5.cell? ⟨w.1.size+1,5,none⟩=some (.slice none 0 0):=(HC.o w5 aB.o.1).2.1.cell 5;have r6:w5.cell? ⟨w.1.size+1,6,none⟩=some (.int .i64 0):=(HC.o w5 aB.o.1).2.1.cell 6;have r7:w5.cell? ⟨w.1.size+1,7,none⟩=some (.slice none 0 0):=(HC.o w5 aB.o.1).2.1.cell 7;have v0:=(HC.o w5 aB.o.1).2.1.frozen 0;have v1:=(HC.o w5 aB.o.1).2.1.frozen 1;have v2:=(HC.o w5 aB.o.1).2.1.frozen 2;have v3:=(HC.o w5 aB.o.1).2.1.frozen 3;have v4:=(HC.o w5 aB.o.1).2.1.frozen 4;have v5:=(HC.o w5 aB.o.1).2.1.frozen 5;have v6:=(HC.o w5 aB.o.1).2.1.frozen 6;have v7:=(HC.o w5 aB.o.1).2.1.frozen 7;have aW:Hid (N7 w5 (fun k=>W4.1.size<=k) mn b1 d1 b2 d2 b3 d3 b4 d4 b5 d5 b6 d6/\Sh Z0 mn):=⟨O5,aX⟩;clear O5 aX B5)
  all_goals go_wp2
  all_goals have aZ:Hid (ROwns w5 w2.1.size 9 (.slice b7 (wrD ts x s).length d7) (stc (wrD ts x s))):=by rw[aR.o];exact aB.o.2.2
  all_goals rw[←aR.o]
  all_goals exact bY (v:=.tuple #[.agg #[sL b1 mn.1 d1,sL b2 mn.2 d2,sL b3 mn.3 d3,sL b4 mn.4 d4,sL b5 mn.5 d5,sL b6 mn.6 d6,nI mn.nx,.slice b7 (wrD ts x s).length d7],.bool true]) (by simp[results,go_sem,r0,r1,r2,r3,r4,r5,r6,r7,aR.o]) rfl ⟨_,_,rfl,⟨b1,d1,b2,d2,b3,d3,b4,d4,b5,d5,b6,d6,b7,d7,_,_,rfl,(aW.o.1.of_heap fun k hk _=>zag _ _ _ _ _ _ _ _ _ _ k (by have:=aD.o;have:_<=k:=hk;omega)).mono (fun k hk=>by have:=aD.o;have:_<=k:=hk;omega),(aZ.o.of_heap fun k hk=>zag _ _ _ _ _ _ _ _ _ _ k (by have:=aD.o;have:=(aZ.o.lt k hk).1;omega)).base_le (by have:=aD.o;omega),aW.o.2,bE.o⟩,zav (HC.o w5 aB.o.1).2.2.1 oM _ _ _ _ _ _ _ _⟩
theorem zm4(u v iv bv dv pv tv:Va)(m:MD)(ts:List BA)(w:Wd)(h:MR w u v iv bv dv pv m)(ht:RSt w tv ts)(hm:Sh Z0 m)(hd:DvOk ts):
  Calls Tryz.prog 145 #[.agg #[u,v,iv,bv,dv,pv,.int .i64 m.nx,tv]] w fun e w'=>∃a,e=.returned a/\FsW w' w.1.size a/\Below w.1.size w w':=by
 obtain⟨a1,c1,a2,c2,a3,c3,a4,c4,a5,c5,a6,c6,rfl,rfl,rfl,rfl,rfl,rfl⟩:=h.form;obtain⟨ta,tc,rfl⟩:=ht.form;obtain⟨W0,hW0⟩:∃W0,((w.alloc (.cells (M9 m a1 c1 a2 c2 a3 c3 a4 c4 a5 c5 a6 c6 ta ts.length tc) 119)).alloc (.cells #[.slice none 0 0,.slice none 0 0,.slice none 0 0,.slice none 0 0,.slice none 0 0,.slice none 0 0,.int .i64 0,.slice none 0 0] 119))=W0:=⟨_,rfl⟩
 have HC:Hid (∀W,Below W0.1.size W0 W->AtC W w.1.size 119 (M9 m a1 c1 a2 c2 a3 c3 a4 c4 a5 c5 a6 c6 ta ts.length tc)/\AtC W (w.1.size+1) 119 #[.slice none 0 0,.slice none 0 0,.slice none 0 0,.slice none 0 0,.slice none 0 0,.slice none 0 0,.int .i64 0,.slice none 0 0]/\Below w.1.size w W/\w.1.size+1+1<=W.1.size):=fun W b2=>by
  exact cQ34
 have aF:Hid (Below W0.1.size W0 W0):=bF _ _;have aC:Hid (R7 W0 m a1 c1 a2 c2 a3 c3 a4 c4 a5 c5 a6 c6/\RSt W0 (.slice ta ts.length tc) ts/\Sh Z0 m/\DvOk ts/\ts.length<=1048576):=⟨h.below (HC.o W0 aF.o).2.2.1 nR,ht.below (HC.o W0 aF.o).2.2.1 nR,hm,hd,by have:=hd.n;omega⟩
 have aL:Hid (w.1.size+1+1<=W0.1.size):=(HC.o W0 aF.o).2.2.2;obtain⟨x0,x1,x2,x3,x4,x5,x6,x7⟩:=AtC.eig ((HC.o W0 aF.o).1);clear h ht hm hd;go_enter Tryz.func145,Tryz.ntmps145
 go_wp2_with fail
 refine(zfj _ _ _ _ _ _ _ m ts W0 aC.o.1 aC.o.2.2.1.big aC.o.2.1 aC.o.2.2.2.2).mono ?_;rintro e w1 ⟨u1,u2,u3,u4,u5,u6,t1,rfl,M1,T1,B1⟩;obtain⟨b1,d1,b2,d2,b3,d3,b4,d4,b5,d5,b6,d6,rfl,rfl,rfl,rfl,rfl,rfl⟩:=M1.mr.form;obtain⟨b7,d7,rfl⟩:=T1.rst.form;obtain⟨bo,aT⟩:∃bo,w1.1.size=bo:=⟨_,rfl⟩
 have aR:Hid (∀wr,w1.alloc (.cells (M9 m b1 d1 b2 d2 b3 d3 b4 d4 b5 d5 b6 d6 b7 ts.length d7) 119)=wr->∃(b1:OA)(d1:Nat)(b2:OA)(d2:Nat)(b3:OA)(d3:Nat)(b4:OA)(d4:Nat)(b5:OA)(d5:Nat)(b6:OA)(d6:Nat)(b7:OA)(d7:Nat)(mo:MD)(tx:List BA),AtC wr bo 119 (M9 mo b1 d1 b2 d2 b3 d3 b4 d4 b5 d5 b6 d6 b7 tx.length d7)/\N7 wr (fun k=>w.1.size+1+1<=k/\k≠bo) mo b1 d1 b2 d2 b3 d3 b4 d4 b5 d5 b6 d6/\ROwns wr (w.1.size+1+1) 9 (.slice b7 tx.length d7) (stc tx)/\(∀k,(Value.slice b7 tx.length d7).ownBlock=some k->k≠bo)/\Sh Z0 mo/\DvOk tx/\AtC wr (w.1.size+1) 119 #[.slice none 0 0,.slice none 0 0,.slice none 0 0,.slice none 0 0,.slice none 0 0,.slice none 0 0,.int .i64 0,.slice none 0 0]/\Below w.1.size w wr):=by
  rintro wr rfl;have z1:=B1.size;have z0:=aL.o;refine⟨b1,d1,b2,d2,b3,d3,b4,d4,b5,d5,b6,d6,b7,d7,m,ts,?_,(M1.bound.below ((bF _ w1).alloc nR _) nR).mono (fun k hk=>?_),(T1.alloc _).base_le aL.o,fun k hk=>?_,aC.o.2.2.1,aC.o.2.2.2.1,(HC.o _ (B1.alloc z1 _)).2.1,(HC.o _ (B1.alloc z1 _)).2.2.1⟩
  ·rw[←aT];exact AtC.new w1 119 _
  ·have:W0.1.size<=k/\k<w1.1.size:=hk;omega
  have:=(T1.lt k hk).2;omega
 have bC:w.1.size+1+1<=bo:=by have:=B1.size;have:=aL.o;omega
 clear M1 T1 B1 aC HC aF x0 x1 x2 x3 x4 x5 x6 x7 hW0;go_wp2_with fail
 generalize hwa:w1.alloc (.cells (M9 m b1 d1 b2 d2 b3 d3 b4 d4 b5 d5 b6 d6 b7 ts.length d7) 119)=wa at*;have aN:=hJ (aR.o wa rfl);clear aR hwa aT;go_loopw [4] (fun i wr=>∃n:Nat,n<=400/\i=.int .i64 n/\Hid (∃(b1:OA)(d1:Nat)(b2:OA)(d2:Nat)(b3:OA)(d3:Nat)(b4:OA)(d4:Nat)(b5:OA)(d5:Nat)(b6:OA)(d6:Nat)(b7:OA)(d7:Nat)(mo:MD)(tx:List BA),AtC wr bo 119 (M9 mo b1 d1 b2 d2 b3 d3 b4 d4 b5 d5 b6 d6 b7 tx.length d7)/\N7 wr (fun k=>w.1.size+1+1<=k/\k≠bo) mo b1 d1 b2 d2 b3 d3 b4 d4 b5 d5 b6 d6/\ROwns wr (w.1.size+1+1) 9 (.slice b7 tx.length d7) (stc tx)/\(∀k,(Value.slice b7 tx.length d7).ownBlock=some k->k≠bo)/\Sh Z0 mo/\DvOk tx/\AtC wr (w.1.size+1) 119 #[.slice none 0 0,.slice none 0 0,.slice none 0 0,.slice none 0 0,.slice none 0 0,.slice none 0 0,.int .i64 0,.slice none 0 0]/\Below w.1.size w wr)) (fun i _=>400-(intOf i).toNat)
 case atStart=>exact⟨0,oM,rfl,aN.o⟩
 obtain⟨n,hn,rfl,HR⟩:=hrel;obtain⟨b1,d1,b2,d2,b3,d3,b4,d4,b5,d5,b6,d6,b7,d7,mo,tx,aU⟩:=HR.o;have HQ:=hJ aU;clear aU HR aN;obtain⟨x0,x1,x2,x3,x4,x5,x6,x7⟩:=AtC.eig HQ.o.1;by_cases hlt:n<400
 rotate_left
 ·have n1:¬((n:Int)<400):=oM
  obtain⟨r0,r1,r2,r3,r4,r5,r6,r7⟩:=AtC.eig HQ.o.2.2.2.2.2.2.1;obtain⟨v0,v1,v2,v3,v4,v5,v6,v7⟩:=HQ.o.2.2.2.2.2.2.1.f8;go_wp2;exact bY (v:=.agg (M9 mo b1 d1 b2 d2 b3 d3 b4 d4 b5 d5 b6 d6 b7 tx.length d7)) sR8 rfl ⟨_,rfl,⟨b1,d1,b2,d2,b3,d3,b4,d4,b5,d5,b6,d6,b7,d7,mo,tx,rfl,(HQ.o.2.1.of_heap fun k hk _=>zag _ _ _ _ _ _ _ _ _ _ k (by have:w.1.size+1+1<=k/\k≠bo:=hk;omega)).mono (fun k hk=>by have:w.1.size+1+1<=k/\k≠bo:=hk;omega),(HQ.o.2.2.1.of_heap fun k hk=>zag _ _ _ _ _ _ _ _ _ _ k (by have:=(HQ.o.2.2.1.lt k hk).1;omega)).base_le oM,HQ.o.2.2.2.2.1,HQ.o.2.2.2.2.2.1⟩,zav HQ.o.2.2.2.2.2.2.2 oM _ _ _ _ _ _ _ _⟩
 have n1:(n:Int)<400:=oM
 have aO:mo.5.length=21:=HQ.o.2.2.2.2.1.f;have aY:=hJ aO;clear aO;have aV:Hid (RFl wr (.slice b5 mo.5.length d5) mo.fs):=HQ.o.2.1.mr.f;go_wp2_with fail
 go_loopw [5] (fun uu wx=>∃q:Nat,q<=mo.5.length/\uu=.int .i64 q/\wr=wx) (fun uu _=>mo.5.length-(intOf uu).toNat)
 case atStart=>exact⟨0,zL _,rfl,rfl⟩
 obtain⟨q,hq,rfl,rfl⟩:=hrel;have q0:(0:Int)<=(q:Int):=oM
 by_cases hql:q<mo.5.length
 ·obtain⟨fa,aW,aQ,aS⟩:=aV.o;simp only[vJ,true_and]at aQ;obtain⟨rfl,rfl⟩:=aQ;obtain⟨gf,of,rfl,-,kf⟩:=aS q hql;obtain⟨fb,aP⟩:∃fb,mo.fs[q]=fb:=⟨_,rfl⟩
  rw[aP]at kf;have q1:(q:Int)<(mo.5.length:Int):=oM
  clear aS aP
  cases fb with
  | false =>
   have bH:q<21:=by have:=aY.o;omega
   go_wp2;go_roundw
   case rel=>exact⟨q+1,oM,gK,trivial⟩
   simp[intOf];omega
  | true =>
   have bE:((q:Int)==(mo.5.length:Int))=false:=beq_eq_false_iff_ne.mpr oM;have aH:Hid (R7 wr mo b1 d1 b2 d2 b3 d3 b4 d4 (some ⟨gf,of,none⟩) d5 b6 d6/\RSt wr (.slice b7 tx.length d7) tx):=⟨HQ.o.2.1.mr,HQ.o.2.2.1.rst⟩
   go_wp2_with fail
   refine(wb_any _ _ _ _ _ _ _ mo tx q wr aH.o.1 aH.o.2 HQ.o.2.2.2.2.1 HQ.o.2.2.2.2.2.1).mono ?_;rintro e w4 ⟨a4,r4,rfl,F4,B4⟩;obtain⟨aG,o1,n2,o2,n3,o3,n4,o4,n5,o5,n6,o6,n7,o7,mx,tn,rfl,M4,T4,S4,D4⟩:=F4;obtain⟨W5,aX⟩:∃W5,w4.alloc (.cells (M9 mx aG o1 n2 o2 n3 o3 n4 o4 n5 o5 n6 o6 n7 tn.length o7) 119)=W5:=⟨_,rfl⟩
   have aM:Hid (Below wr.1.size wr W5/\AtC W5 w4.1.size 119 (M9 mx aG o1 n2 o2 n3 o3 n4 o4 n5 o5 n6 o6 n7 tn.length o7)/\N7 W5 (fun k=>wr.1.size<=k/\k<w4.1.size) mx aG o1 n2 o2 n3 o3 n4 o4 n5 o5 n6 o6/\ROwns W5 wr.1.size 9 (.slice n7 tn.length o7) (stc tn)/\Sh Z0 mx/\DvOk tn/\wr.1.size<=w4.1.size):=by
    rw[←aX];exact⟨B4.alloc B4.size _,AtC.new w4 119 _,M4.bound.below ((bF _ w4).alloc nR _) nR,T4.alloc _,S4,D4,B4.size⟩
   have aB:Hid (AtC W5 bo 119 (M9 mo b1 d1 b2 d2 b3 d3 b4 d4 (some ⟨gf,of,none⟩) d5 b6 d6 b7 tx.length d7)/\N7 W5 (fun k=>w.1.size+1+1<=k/\k≠bo) mo b1 d1 b2 d2 b3 d3 b4 d4 (some ⟨gf,of,none⟩) d5 b6 d6/\ROwns W5 (w.1.size+1+1) 9 (.slice b7 tx.length d7) (stc tx)/\(∀k,(Value.slice b7 tx.length d7).ownBlock=some k->k≠bo)/\Sh Z0 mo/\DvOk tx/\AtC W5 (w.1.size+1) 119 #[.slice none 0 0,.slice none 0 0,.slice none 0 0,.slice none 0 0,.slice none 0 0,.slice none 0 0,.int .i64 0,.slice none 0 0]/\Below w.1.size w W5):=by
    obtain⟨k1,k2,k3,k4,k5,k6,k7,k8⟩:=HQ.o;have b5:=aM.o.1;exact⟨k1.over b5,k2.below b5 nR,k3.below b5 nR,k4,k5,k6,k7.over b5,k8.trans (b5.mono k8.size)⟩
   have bG:bo<wr.1.size:=HQ.o.1.lt;obtain⟨y0,y1,y2,y3,y4,y5,y6,y7⟩:=AtC.eig aB.o.1;obtain⟨z0,z1,z2,z3,z4,z5,z6,z7⟩:=AtC.eig aM.o.2.1;clear M4 T4 S4 D4 B4 aH kf x0 x1 x2 x3 x4 x5 x6 x7 aV
   cases r4 with
   | false =>
    obtain⟨r0,r1,r2,r3,r4,r5,r6,r7⟩:=AtC.eig aB.o.2.2.2.2.2.2.1;obtain⟨v0,v1,v2,v3,v4,v5,v6,v7⟩:=aB.o.2.2.2.2.2.2.1.f8;go_wp2;exact bY (v:=.agg (M9 mo b1 d1 b2 d2 b3 d3 b4 d4 (some ⟨gf,of,none⟩) d5 b6 d6 b7 tx.length d7)) sR8 rfl ⟨_,rfl,⟨b1,d1,b2,d2,b3,d3,b4,d4,some ⟨gf,of,none⟩,d5,b6,d6,b7,d7,mo,tx,rfl,(aB.o.2.1.of_heap fun k hk _=>zag _ _ _ _ _ _ _ _ _ _ k (by have:w.1.size+1+1<=k/\k≠bo:=hk;omega)).mono (fun k hk=>by have:w.1.size+1+1<=k/\k≠bo:=hk;omega),(aB.o.2.2.1.of_heap fun k hk=>zag _ _ _ _ _ _ _ _ _ _ k (by have:=(aB.o.2.2.1.lt k hk).1;omega)).base_le oM,aB.o.2.2.2.2.1,aB.o.2.2.2.2.2.1⟩,zav aB.o.2.2.2.2.2.2.2 oM _ _ _ _ _ _ _ _⟩
   | true =>
    obtain⟨f0,f1,f2,f3,f4,f5,f6,f7⟩:=aB.o.1.f8;have aK:Hid (∀aD,((((((((W5.setCell ⟨bo,0,none⟩ (.slice aG mx.1.length o1)).setCell ⟨bo,1,none⟩ (.slice n2 mx.2.length o2)).setCell ⟨bo,2,none⟩ (.slice n3 mx.3.length o3)).setCell ⟨bo,3,none⟩ (.slice n4 mx.4.length o4)).setCell ⟨bo,4,none⟩ (.slice n5 mx.5.length o5)).setCell ⟨bo,5,none⟩ (.slice n6 mx.6.length o6)).setCell ⟨bo,6,none⟩ (.int .i64 mx.nx)).setCell ⟨bo,7,none⟩ (.slice n7 tn.length o7))=aD->∃(b1:OA)(d1:Nat)(b2:OA)(d2:Nat)(b3:OA)(d3:Nat)(b4:OA)(d4:Nat)(b5:OA)(d5:Nat)(b6:OA)(d6:Nat)(b7:OA)(d7:Nat)(mo:MD)(tx:List BA),AtC aD bo 119 (M9 mo b1 d1 b2 d2 b3 d3 b4 d4 b5 d5 b6 d6 b7 tx.length d7)/\N7 aD (fun k=>w.1.size+1+1<=k/\k≠bo) mo b1 d1 b2 d2 b3 d3 b4 d4 b5 d5 b6 d6/\ROwns aD (w.1.size+1+1) 9 (.slice b7 tx.length d7) (stc tx)/\(∀k,(Value.slice b7 tx.length d7).ownBlock=some k->k≠bo)/\Sh Z0 mo/\DvOk tx/\AtC aD (w.1.size+1) 119 #[.slice none 0 0,.slice none 0 0,.slice none 0 0,.slice none 0 0,.slice none 0 0,.slice none 0 0,.int .i64 0,.slice none 0 0]/\Below w.1.size w aD):=by
     rintro aD rfl;obtain⟨k1,k2,k3,k4,k5,k6,k7⟩:=aM.o;obtain⟨j1,-,-,-,-,-,j7,j8⟩:=aB.o;refine⟨_,_,_,_,_,_,_,_,_,_,_,_,_,_,mx,tn,zmx j1 _ _ _ _ _ _ _ _,(k3.of_heap fun k hk _=>zag _ _ _ _ _ _ _ _ _ _ k (by have:wr.1.size<=k/\k<w4.1.size:=hk;omega)).mono (fun k hk=>by have:wr.1.size<=k/\k<w4.1.size:=hk;omega),(k4.of_heap fun k hk=>zag _ _ _ _ _ _ _ _ _ _ k (by have:=(k4.lt k hk).1;omega)).base_le oM,fun k hk=>by have:=(k4.lt k hk).1;omega,k5,k6,?_,zav j8 oM _ _ _ _ _ _ _ _⟩;exact(zag _ _ _ _ _ _ _ _ _ _ _ oM).trans j7
    go_wp2;go_roundw
    case rel=>exact⟨n+1,oM,gK,aK.o _ rfl⟩
    simp[intOf];omega
 have aZ:((q:Int)==(mo.5.length:Int))=true:=sO
 have q1:¬((q:Int)<(mo.5.length:Int)):=oM
 obtain⟨r0,r1,r2,r3,r4,r5,r6,r7⟩:=AtC.eig HQ.o.2.2.2.2.2.2.1;obtain⟨v0,v1,v2,v3,v4,v5,v6,v7⟩:=HQ.o.2.2.2.2.2.2.1.f8;go_wp2;exact bY (v:=.agg (M9 mo b1 d1 b2 d2 b3 d3 b4 d4 b5 d5 b6 d6 b7 tx.length d7)) sR8 rfl ⟨_,rfl,⟨b1,d1,b2,d2,b3,d3,b4,d4,b5,d5,b6,d6,b7,d7,mo,tx,rfl,(HQ.o.2.1.of_heap fun k hk _=>zag _ _ _ _ _ _ _ _ _ _ k (by have:w.1.size+1+1<=k/\k≠bo:=hk;omega)).mono (fun k hk=>by have:w.1.size+1+1<=k/\k≠bo:=hk;omega),(HQ.o.2.2.1.of_heap fun k hk=>zag _ _ _ _ _ _ _ _ _ _ k (by have:=(HQ.o.2.2.1.lt k hk).1;omega)).base_le oM,HQ.o.2.2.2.2.1,HQ.o.2.2.2.2.2.1⟩,zav HQ.o.2.2.2.2.2.2.2 oM _ _ _ _ _ _ _ _⟩
namespace Kit
abbrev Nd:=ByteArray×Bool×ByteArray×ByteArray
def ndRow(x:Nd):Row:=[.string x.1,.bool x.2.1,.string x.2.2.1,.string x.2.2.2]
def NdO(w:Wd)(B:Nat)(v:Va)(ns:List Nd):Prop:=NOwns w 194 4 v (ns.map ndRow)/\∀k,v.ownBlock=some k->B<=k
namespace NdO
variable {w w' : World} {B : Nat} {v : Value} {ns : List Nd}
theorem lt(h:NdO w B v ns):∀k,v.ownBlock=some k->B<=k/\k<w.1.size:=fun k hk=>⟨h.2 k hk,h.1.lt k hk⟩
theorem of_heap(h:NdO w B v ns)(hh:∀k,v.ownBlock=some k->w'.1[k]?=w.1[k]?):NdO w' B v ns:=⟨h.1.of_heap hh,h.2⟩
theorem below(h:NdO w B v ns)(hb:Below w.1.size w w'):NdO w' B v ns:=h.of_heap fun k hk=>hb.block k (h.lt k hk).2
theorem mono{B':Nat}(h:NdO w B v ns)(hB:B'<=B):NdO w B' v ns:=⟨h.1,fun k hk=>Nat.le_trans hB (h.2 k hk)⟩
theorem nil(w:World)(B:Nat):NdO w B (.slice none 0 0) []:=⟨NOwns.nil _ _ _,fun k hk=>by simp[Value.ownBlock]at hk⟩
theorem lit0(w:World):NdO (w.alloc (.cells #[] 194)) w.1.size (.slice (some ⟨w.1.size,0,none⟩) 0 0) []:=by
 refine⟨?_,fun k hk=>by simp[Value.ownBlock]at hk;omega⟩;have:=NOwns.of_at (n:=4) (ts:=[]) (AtC.new w 194 #[]) rfl (Even.nil _) (Nat.zero_le _);simpa using this
theorem form(h:NdO w B v ns):∃a cap,v=.slice a ns.length cap:=by
 obtain⟨a,cap,e,-⟩:=h.1.form;rw[List.length_map]at e;exact⟨a,cap,e⟩
theorem rc(h:NdO w B v ns):RC w v ns.length (ns.map ndRow).flatten:=by
 have:=h.1.rc
 rwa[List.length_map]at this
theorem at_(h:NdO w B v ns)(j:Nat)(hj:j<ns.length):∃g cap,v=.slice (some ⟨g,0,none⟩) ns.length cap/\w.cell? ⟨g,j*4,none⟩=some (.string ns[j].1)/\w.cell? ⟨g,j*4+1,none⟩=some (.bool ns[j].2.1)/\w.cell? ⟨g,j*4+2,none⟩=some (.string ns[j].2.2.1)/\w.cell? ⟨g,j*4+3,none⟩=some (.string ns[j].2.2.2)/\(∀k,w.frozen? ⟨g,k,none⟩=false)/\g<w.1.size/\B<=g:=by
 obtain⟨g,cap,e,hc,hf,hg,-⟩:=h.1.at j (by rw[List.length_map];exact hj);rw[List.length_map]at e;refine⟨g,cap,e,?_,?_,?_,?_,hf,hg,h.2 g (by rw[e];rfl)⟩
 ·have:=hc 0 dC;rw[List.getElem_map]at this;exact this
 ·have:=hc 1 dC;rw[List.getElem_map]at this;exact this
 ·have:=hc 2 dC;rw[List.getElem_map]at this;exact this
 have:=hc 3 dC;rw[List.getElem_map]at this;exact this
theorem put{g cap:Nat}(h:NdO w B (.slice (some ⟨g,0,none⟩) ns.length cap) ns)(j:Nat)(hj:j<ns.length)(x:Nd):NdO ((((w.setCell ⟨g,j*4,none⟩ (.string x.1)).setCell ⟨g,j*4+1,none⟩ (.bool x.2.1)).setCell ⟨g,j*4+2,none⟩ (.string x.2.2.1)).setCell ⟨g,j*4+3,none⟩ (.string x.2.2.2)) B (.slice (some ⟨g,0,none⟩) ns.length cap) (ns.set j x):=by
 refine⟨?_,h.2⟩;have h1:NOwns w 194 4 (.slice (some ⟨g,0,none⟩) (ns.map ndRow).length cap) (ns.map ndRow):=by rw[List.length_map];exact h.1
 have:=NOwns.setRow j (ndRow x) w (ns.map ndRow) (by rw[List.length_map];exact hj) [] h1 rfl sI;rw[List.length_map]at this;rw[List.map_set];exact this
end NdO
end Kit
def SubN(ms ns:List Nd):Prop:=∀x∈ms,x∈ns
theorem Tryz.u152:Tryz.prog.underlying 152=some (.slice 194):=by kernel_rfl
theorem Tryz.i194:(Tryz.prog.info? 194).map (fun i=>(i.zero,i.size,i.bytes))=some (some (.agg #[eT,.bool false,eT,eT]),4,56):=by kernel_rfl
theorem zeb(ns:List Nd):(ns.map ndRow).flatten.length=ns.length*4:=by
 induction ns with
 | nil=>rfl
 | cons x r ih=>simp only[List.map_cons,List.flatten_cons,lA,ih,lC];show 4+_=_;omega
theorem zec(ns:List Nd):∀u∈(ns.map ndRow).flatten,u.oneCell'=true:=fun u hu=>by
 obtain⟨r,hr,hu⟩:=List.mem_flatten.mp hu;obtain⟨x,-,rfl⟩:=List.mem_map.mp hr;simp only[ndRow,mN,nN,or_false]at hu;rcases hu with rfl|rfl|rfl|rfl<;>rfl
theorem NdO.of_owns{w:Wd}{B:Nat}{v:Va}{ns:List Nd}(h:w.ownsRow B 194 4 v ns.length (ns.map ndRow).flatten):NdO w B v ns:=by
 refine⟨⟨fun t ht=>?_,?_⟩,fun k hk=>(World.ownsRow.lt h k hk).1⟩
 ·obtain⟨x,-,rfl⟩:=List.mem_map.mp ht;rfl
 rw[lM];refine⟨h.1,h.2.imp id ?_⟩;rintro⟨g,cap,cur,h1,h2,h3⟩;exact⟨g,cap,cur,h1,zL _,h3⟩
theorem zed(B:Nat)(v:Va)(ns:List Nd)(w:Wd)(h:NdO w B v ns)(hl:ns.length<=1000):
  Calls Tryz.prog 172 #[v] w fun e w'=>∃v' ns',e=.returned v'/\NdO w' w.1.size v' ns'/\ns'.length=ns.length/\SubN ns' ns/\Bw w w':=by
 obtain⟨a0,c0,rfl⟩:=h.form;have aL:Hid (RC (w.n #[] 194) (sL a0 ns c0) ns.length (ns.map ndRow).flatten):=(h.below ((bF _ w).alloc nR _)).rc;have HE:Hid ((w.n #[] 194).ownsRow w.1.size 194 4 (.slice (aA w.1.size 0) 0 0) 0 []):=(AtC.new w 194 #[]).empty _ nR 4;have aP:Hid (ns.length<=100000000000):=by show _<=_;omega
 clear h;go_enter Tryz.func172,Tryz.ntmps172
 go_wp2_with (at_builtin;refine zai _ rfl _ _ 152 rfl w.1.size 194 Tryz.u152 _ 4 56 Tryz.i194 rfl dC dC (.slice (aA w.1.size 0) 0 0) rfl HE.o sI _ rfl ns.length (ns.map ndRow).flatten aL.o (zeb ns) (zec ns) aP.o ?_;intro v1 w1 R1 R2 R3)
 have aD:Hid (NdO w1 w.1.size v1 ns/\Bw w w1):=by
  refine⟨NdO.of_owns R1,((bF _ w).alloc nR (.cells #[] 194)).grown R2 sI (fun k hk=>?_)⟩;simp[Value.ownBlock]at hk;omega
 obtain⟨a1,c1,rfl⟩:=aD.o.1.form;clear R1 R2 R3 aL HE;go_loopw [4] (fun i wr=>∃n:Nat,1<=n/\n<=1001/\i=.int .i64 n/\Hid (∃ms:List Nd,NdO wr w.1.size (.slice a1 ns.length c1) ms/\ms.length=ns.length/\SubN ms ns/\Bw w wr)) (fun i _=>1001-(intOf i).toNat)
 case atStart=>exact⟨1,Nat.le_refl _,oM,rfl,ns,aD.o.1,rfl,fun x hx=>hx,aD.o.2⟩
 obtain⟨n,aV,aU,rfl,HR⟩:=hrel;by_cases hlt:n<ns.length
 rotate_left
 ·have n1:¬((n:Int)<(ns.length:Int)):=oM
  obtain⟨ms,aF⟩:=HR.o;have HQ:=hJ aF;clear aF HR aD;go_wp2;go_ret;exact⟨sL a1 ns c1,rfl,ms,HQ.o⟩
 have n1:(n:Int)<(ns.length:Int):=oM
 have n2:n<1000:=oM
 clear aD;go_wp2_with fail
 go_loopw [5] (fun kk wr=>∃q:Nat,q<=n/\kk=.int .i64 q/\Hid (∃ms:List Nd,NdO wr w.1.size (.slice a1 ns.length c1) ms/\ms.length=ns.length/\SubN ms ns/\Bw w wr)) (fun kk _=>(intOf kk).toNat)
 case atStart=>exact⟨n,Nat.le_refl _,rfl,HR.o⟩
 obtain⟨q,hq,rfl,HS⟩:=hrel;have aM:Hid (∀k,∃ms:List Nd,NdO (wr.drewN k) w.1.size (sL a1 ns c1) ms/\ms.length=ns.length/\SubN ms ns/\Bw w (wr.drewN k)):=fun k=>by
  obtain⟨ms,h1,h2,h3,h4⟩:=HS.o;exact⟨ms,h1.below (bD bR _),h2,h3,bD h4 _⟩
 clear HR
 cases q with
 | zero =>
  go_upto_region 6 with fail
  go_quiet(fail)
  go_wp2;go_roundw
  case rel=>exact⟨n+1,oM,oM,gK,aM.o _⟩
  simp[intOf];omega
 | succ q =>
  obtain⟨ms,aF⟩:=HS.o;have HQ:=hJ aF;clear aF HS;obtain⟨g,cap,e1,p0,p1,p2,p3,aB,hg,aC⟩:=HQ.o.1.at_ q (by rw[HQ.o.2.1];omega);obtain⟨g',aR,e2,r0,r1,r2,r3,-,-,-⟩:=HQ.o.1.at_ (q+1) (by rw[HQ.o.2.1];omega);rw[HQ.o.2.1]at e1 e2;simp only[vJ,true_and]at e1 e2;obtain⟨rfl,rfl⟩:=e1;simp only[oJ,aJ,and_true]at e2;obtain⟨rfl,-⟩:=e2;obtain⟨⟨xa,xb,xc,xd⟩,hX⟩:∃X,ms[q]'(by rw[HQ.o.2.1];omega)=X:=⟨_,rfl⟩
  obtain⟨⟨ya,yb,yc,yd⟩,hY⟩:∃Y,ms[q+1]'(by rw[HQ.o.2.1];omega)=Y:=⟨_,rfl⟩
  rw[hX]at p0 p1 p2 p3;rw[hY]at r0 r1 r2 r3;have aH:Hid ((xa,xb,xc,xd)∈ns/\(ya,yb,yc,yd)∈ns):=⟨by rw[←hX];exact HQ.o.2.2.1 _ (gM_ _),by rw[←hY];exact HQ.o.2.2.1 _ (gM_ _)⟩
  clear hX hY;simp only at p0 p1 p2 p3 r0 r1 r2 r3;have aY:(0:Int)<(q:Int)+1:=oM
  have aW:IntKind.i64.wrap (q:Int)=(q:Int):=wrap_small _ oM oM;have q0:(0:Int)<=(q:Int):=oM
  have q1:(q:Int)<(ns.length:Int):=oM
  have q2:(q:Int)+1<(ns.length:Int):=oM
  have q3:q<1000:=oM
  clear aM;go_upto_region 6 with fail
  go_cut [32]from 17 to 51 (fun c wx=>(∃r,c=.bool r)/\NdO wx w.1.size (.slice (some ⟨g,0,none⟩) ns.length c1) ms/\Bw w wx)
  case first =>
   go_quiet(fail)
   go_wp2_with fail
   go_meet
   exact⟨⟨_,rfl⟩,HQ.o.1.below (bD bR _),bD HQ.o.2.2.2 _⟩
  obtain⟨⟨r,rfl⟩,hN,aN⟩:=hcut;have HN:=hJ (aI hN aN);clear p0 p1 p2 p3 r0 r1 r2 r3 aB hg hN aN
  cases r with
  | false =>
   go_wp2;go_roundw
   case rel=>exact⟨n+1,oM,oM,gK,ms,HN.o.1,HQ.o.2.1,HQ.o.2.2.1,HN.o.2⟩
   simp[intOf];omega
  | true =>
   obtain⟨g2,aS,e1,p0,p1,p2,p3,aB,hg,-⟩:=HN.o.1.at_ q (by rw[HQ.o.2.1];omega);obtain⟨g3,aT,e2,r0,r1,r2,r3,-,-,-⟩:=HN.o.1.at_ (q+1) (by rw[HQ.o.2.1];omega);rw[HQ.o.2.1]at e1 e2;simp only[vJ,oJ,aJ,true_and,and_true]at e1 e2;obtain⟨rfl,rfl⟩:=e1;obtain⟨rfl,-⟩:=e2;obtain⟨⟨xa,xb,xc,xd⟩,hX⟩:∃X,ms[q]'(by rw[HQ.o.2.1];omega)=X:=⟨_,rfl⟩
   obtain⟨⟨ya,yb,yc,yd⟩,hY⟩:∃Y,ms[q+1]'(by rw[HQ.o.2.1];omega)=Y:=⟨_,rfl⟩
   rw[hX]at p0 p1 p2 p3;rw[hY]at r0 r1 r2 r3;have aH:Hid ((xa,xb,xc,xd)∈ns/\(ya,yb,yc,yd)∈ns):=⟨by rw[←hX];exact HQ.o.2.2.1 _ (gM_ _),by rw[←hY];exact HQ.o.2.2.1 _ (gM_ _)⟩
   clear hX hY;simp only at p0 p1 p2 p3 r0 r1 r2 r3;have f0:=aB (q*4);have f1:=aB (q*4+1);have f2:=aB (q*4+2);have f3:=aB (q*4+3);have k0:=aB ((q+1)*4);have k1:=aB ((q+1)*4+1);have k2:=aB ((q+1)*4+2);have k3:=aB ((q+1)*4+3);have aG:Hid (∃q':Nat,q'<=n/\nI (q:Int)=nI q'/\Hid (∃ms:List Nd,NdO (((((((((wc.setCell ⟨g,(q+1)*4,none⟩ (.string xa)).setCell ⟨g,(q+1)*4+1,none⟩ (.bool xb)).setCell ⟨g,(q+1)*4+2,none⟩ (.string xc)).setCell ⟨g,(q+1)*4+3,none⟩ (.string xd)).setCell ⟨g,q*4,none⟩ (.string ya)).setCell ⟨g,q*4+1,none⟩ (.bool yb)).setCell ⟨g,q*4+2,none⟩ (.string yc)).setCell ⟨g,q*4+3,none⟩ (.string yd)).n #[.string ya,.bool yb,.string yc,.string yd] 194) w.1.size (sL (aA g 0) ns c1) ms/\ms.length=ns.length/\SubN ms ns/\Bw w (((((((((wc.setCell ⟨g,(q+1)*4,none⟩ (.string xa)).setCell ⟨g,(q+1)*4+1,none⟩ (.bool xb)).setCell ⟨g,(q+1)*4+2,none⟩ (.string xc)).setCell ⟨g,(q+1)*4+3,none⟩ (.string xd)).setCell ⟨g,q*4,none⟩ (.string ya)).setCell ⟨g,q*4+1,none⟩ (.bool yb)).setCell ⟨g,q*4+2,none⟩ (.string yc)).setCell ⟨g,q*4+3,none⟩ (.string yd)).n #[.string ya,.bool yb,.string yc,.string yd] 194))):=by
    have aK:=HQ.o.2.1;have N0:=HN.o.1;rw[←aK]at N0;have N1:=N0.put (q+1) oM (xa,xb,xc,xd);have aQ:NdO ((((wc.setCell ⟨g,(q+1)*4,none⟩ (.string xa)).setCell ⟨g,(q+1)*4+1,none⟩ (.bool xb)).setCell ⟨g,(q+1)*4+2,none⟩ (.string xc)).setCell ⟨g,(q+1)*4+3,none⟩ (.string xd)) w.1.size (.slice (aA g 0) (ms.set (q+1) (xa,xb,xc,xd)).length c1) (ms.set (q+1) (xa,xb,xc,xd)):=by rw[lS];exact N1
    have N2:=aQ.put q (by rw[lS];omega) (ya,yb,yc,yd);rw[lS,aK]at N2;refine⟨q,oM,rfl,_,N2.below (bR.alloc nR _),by rw[lS,lS];exact aK,fun x hx=>?_,?_⟩
    ·rcases mS hx with hx|rfl
     ·rcases mS hx with hx|rfl
      ·exact HQ.o.2.2.1 x hx
      exact aH.o.1
     exact aH.o.2
    have b0:=(((((((HN.o.2.setCell (p:=⟨g,(q+1)*4,none⟩) aC (.string xa)).setCell (p:=⟨g,(q+1)*4+1,none⟩) aC (.bool xb)).setCell (p:=⟨g,(q+1)*4+2,none⟩) aC (.string xc)).setCell (p:=⟨g,(q+1)*4+3,none⟩) aC (.string xd)).setCell (p:=⟨g,q*4,none⟩) aC (.string ya)).setCell (p:=⟨g,q*4+1,none⟩) aC (.bool yb)).setCell (p:=⟨g,q*4+2,none⟩) aC (.string yc)).setCell (p:=⟨g,q*4+3,none⟩) aC (.string yd);exact b0.alloc b0.size _
   have aX:¬g=wc.1.size:=oM
   have aO:¬wc.1.size=g:=oM
   have z0:((q+1)*4=q*4)=False:=sO
   clear HQ HN aB aH;go_wp2;go_roundw
   case rel=>first| exact aG.o|((repeat apply Exists.intro);exact⟨aG.o,rfl⟩)
   simp[intOf]
namespace Kit
def NdB(L:Nat)(ns:List Nd):Prop:=∀x∈ns,x.1.size<=L
theorem NdB.set{L:Nat}{ns:List Nd}(h:NdB L ns)(j:Nat){x:Nd}(hx:x.1.size<=L):NdB L (ns.set j x):=fun y hy=>(mS hy).elim (h y) (fun e=>e ▸ hx)
theorem NdB.app{L:Nat}{ns:List Nd}(h:NdB L ns){x:Nd}(hx:x.1.size<=L):NdB L (ns++[x]):=fun y hy=>(List.mem_append.mp hy).elim (h y) (fun e=>by simp at e;subst e;exact hx)
theorem NdB.sub{L:Nat}{ns ms:List Nd}(h:NdB L ns)(hs:SubN ms ns):NdB L ms:=fun y hy=>h y (hs y hy)
theorem NdB.mono{L L':Nat}{ns:List Nd}(h:NdB L ns)(hl:L<=L'):NdB L' ns:=fun y hy=>lT (h y hy) hl
namespace NdO
variable {w w' : World} {B : Nat} {v : Value} {ns : List Nd}
theorem cellSet{g cap:Nat}(h:NdO w B (.slice (some ⟨g,0,none⟩) ns.length cap) ns)(j i:Nat)(hj:j<ns.length)(hi:i<4)(x:Value)(y:Nd)(hy:(ndRow ns[j]).set i x=ndRow y):NdO (w.setCell ⟨g,j*4+i,none⟩ x) B (.slice (some ⟨g,0,none⟩) ns.length cap) (ns.set j y):=by
 refine⟨?_,h.2⟩;have h1:NOwns w 194 4 (.slice (some ⟨g,0,none⟩) (ns.map ndRow).length cap) (ns.map ndRow):=by rw[List.length_map];exact h.1
 have h2:=h1.set j i (by rw[List.length_map];exact hj) hi x;have e1:(ns.map ndRow).length=ns.length:=List.length_map _;have e2:(ns.map ndRow).set j (((ns.map ndRow)[j]'(by rw[e1];exact hj)).set i x)=(ns.set j y).map ndRow:=by rw[List.map_set,←hy,List.getElem_map]
 rw[e2]at h2;rw[show(Value.slice (some ⟨g,0,none⟩) ns.length cap)=.slice (some ⟨g,0,none⟩) (ns.map ndRow).length cap by rw[e1]];exact h2
theorem app{lv':Value}{x:Nd}(h:NdO w B v ns)(ho:NOwns w' 194 4 lv' (ns.map ndRow++[ndRow x]))(hv:∀k,lv'.ownBlock=some k->v.ownBlock=some k\/w.1.size<=k)(hB:B<=w.1.size):NdO w' B lv' (ns++[x]) :=
 ⟨by rw[List.map_append];exact ho,fun k hk=>(hv k hk).elim (h.2 k) (fun e=>Nat.le_trans hB e)⟩
end NdO
end Kit
def ModR(L n B:Nat)(w':Wd)(e:Ending):Prop:=∃v' ns',e=.returned v'/\NdO w' B v' ns'/\ns'.length<=n+1/\NdB L ns'
theorem ModR.mk{L n B:Nat}{w':Wd}{e:Ending}(v':Va)(ns':List Nd)(h1:e=.returned v')(h2:NdO w' B v' ns')(h3:ns'.length<=n+1)(h4:NdB L ns'):ModR L n B w' e:=⟨v',ns',h1,h2,h3,h4⟩
theorem znp(p t:BA)(ht:t.size<=1048576):
  ∃r:Bool,∀w:Wd,Calls Tryz.prog 173 #[.string p,.string t] w fun e w'=>e=.returned (.bool r)/\w'=w:=by
 obtain⟨q,hq⟩:∃q,(p.toList==t.toList)=q:=⟨_,rfl⟩
 cases q with
 | true =>
  refine⟨true,fun w=>?_⟩;go_enter Tryz.func173,Tryz.ntmps173
  go_wp2;go_ret;exact⟨rfl,rfl⟩
 | false =>
  by_cases hl:t.size<p.size
  ·have h1:(t.size:Int)<(p.size:Int):=oM
   have h2:((t.size:Int)+1)<=(p.size:Int):=oM
   have h3:¬9223372036854775807<t.size+1:=oM
   obtain⟨q2,hq2⟩:∃q2,((p.extract 0 (t.size+1)).toList==(t++(⟨#[47]⟩:BA)).toList)=q2:=⟨_,rfl⟩
   refine⟨q2,fun w=>?_⟩;go_enter Tryz.func173,Tryz.ntmps173
   go_wp2;go_ret;exact⟨rfl,rfl⟩
  ·have h1:¬(t.size:Int)<(p.size:Int):=oM
   refine⟨false,fun w=>?_⟩;go_enter Tryz.func173,Tryz.ntmps173
   go_wp2;go_ret;exact⟨rfl,rfl⟩
theorem znq(L B:Nat)(v:Va)(ns:List Nd)(kd:Int)(p q:BA)(at_:Int)(tx:BA)(w:Wd)(h:NdO w B v ns)(hl:ns.length<=900)(hL:NdB L ns)(hp:p.size<=L)(hq:q.size<=L)(hL6:L<=1048576):
  Calls Tryz.prog 143 #[v,.agg #[nI kd,.string p,.string q,nI at_,.string tx]] w fun e w'=>ModR L ns.length w.1.size w' e/\Bw w w':=by
 obtain⟨a0,c0,rfl⟩:=h.form;obtain⟨W0,hW0⟩:∃W0,((w.alloc (.cells #[nI kd,.string p,.string q,nI at_,.string tx] 158)).alloc (.cells #[] 194))=W0:=⟨_,rfl⟩
 have HW0:Hid (Bw w W0/\AtC W0 w.1.size 158 #[nI kd,.string p,.string q,nI at_,.string tx]/\W0.1.size=w.1.size+1+1/\RC W0 (.slice a0 ns.length c0) ns.length (ns.map ndRow).flatten/\W0.ownsRow (w.1.size+1) 194 4 (.slice (aA (w.1.size+1) 0) 0 0) 0 []):=by
  rw[←hW0];have b0:Bw w ((w.alloc (.cells #[nI kd,.string p,.string q,nI at_,.string tx] 158)).alloc (.cells #[] 194)):=((bF _ w).alloc nR _).alloc sI _;have k:=(AtC.new (w.alloc (.cells #[nI kd,.string p,.string q,nI at_,.string tx] 158)) 194 #[]).empty (w.1.size+1) sI 4;have e0:(w.alloc (.cells #[nI kd,.string p,.string q,nI at_,.string tx] 158)).1.size=w.1.size+1:=sI
  rw[e0]at k;exact⟨b0,(AtC.new w 158 _).alloc _,sI,(h.below b0).rc,k⟩
 have HLN:Hid (ns.length<=100000000000):=by show _<=_;omega
 have HSZ0:Hid (w.1.size+1<=W0.1.size):=by have:=HW0.o.2.2.1;show _<=_;omega
 have HNB:=hJ hL;clear h hL;have HMK:Hid (∀v1 w1,w1.ownsRow (w.1.size+1) 194 4 v1 ns.length (ns.map ndRow).flatten->W0.grownBy w1 (Value.slice (aA (w.1.size+1) 0) 0 0).ownBlock->NdO w1 (w.1.size+1) v1 ns/\AtC w1 w.1.size 158 #[nI kd,.string p,.string q,nI at_,.string tx]/\Bw w w1):=fun v1 w1 R1 R2=>by
  obtain⟨k1,k2,k3,-⟩:=HW0.o;exact⟨NdO.of_owns R1,k2.grown R2 (by simp[Value.ownBlock]),k1.grown R2 oM (fun k hk=>by simp[Value.ownBlock]at hk;omega)⟩
 go_enter Tryz.func143,Tryz.ntmps143
 go_upto_region 3 with(at_builtin;refine zai _ rfl _ _ 152 rfl (w.1.size+1) 194 Tryz.u152 _ 4 56 Tryz.i194 rfl dC dC (.slice (aA (w.1.size+1) 0) 0 0) rfl HW0.o.2.2.2.2 HSZ0.o _ rfl ns.length (ns.map ndRow).flatten HW0.o.2.2.2.1 (zeb ns) (zec ns) HLN.o ?_;intro v1 w1 R1 R2 R3;have HO1:=hJ (HMK.o v1 w1 R1 R2);clear R1 R2 R3;obtain⟨a1,c1,rfl⟩:=HO1.o.1.form;have e0:w1.cell? ⟨w.1.size,0,none⟩=some (nI kd):=HO1.o.2.1.cell 0)
 clear HMK HW0 HSZ0 HLN hW0 e0;have HO2:Hid (w.1.size+1<=w1.1.size):=HO1.o.2.1.lt;by_cases h3:kd=3
 ·subst h3;go_wp2_with fail
  go_loopw [6] (fun i wr=>∃n:Nat,n<=ns.length/\i=.int .i64 n/\Hid (∃ms:List Nd,NdO wr (w.1.size+1) (.slice a1 ns.length c1) ms/\ms.length=ns.length/\NdB L ms/\AtC wr w.1.size 158 #[.int .i64 3,.string p,.string q,.int .i64 at_,.string tx]/\Bw w wr)) (fun i _=>ns.length-(intOf i).toNat)
  case atStart=>exact⟨0,zL _,rfl,ns,HO1.o.1,rfl,HNB.o,HO1.o.2.1,HO1.o.2.2⟩
  case round =>
   obtain⟨n,hn,rfl,HR⟩:=hrel;clear HO1;by_cases hlt:n<ns.length
   rotate_left
   ·have n1:¬((n:Int)<(ns.length:Int)):=oM
    obtain⟨ms,hms⟩:=HR.o;have HQ:=hJ hms;clear hms HR;go_wp2;go_ret;exact⟨ModR.mk _ ms rfl (HQ.o.1.mono oM) (by have:=HQ.o.2.1;omega) HQ.o.2.2.1,HQ.o.2.2.2.2⟩
   have n1:(n:Int)<(ns.length:Int):=oM
   have n2:n<900:=oM
   have n0:(0:Int)<=(n:Int):=oM
   obtain⟨ms,hms⟩:=HR.o;have HQ:=hJ hms;clear hms HR;obtain⟨g,cap,e1,p0,p1,p2,p3,hfz,hg,hgB⟩:=HQ.o.1.at_ n (by rw[HQ.o.2.1];exact hlt);rw[HQ.o.2.1]at e1;simp only[vJ,true_and]at e1;obtain⟨rfl,rfl⟩:=e1;obtain⟨⟨xa,xb,xc,xd⟩,hX⟩:∃X,ms[n]'(by rw[HQ.o.2.1];exact hlt)=X:=⟨_,rfl⟩
   rw[hX]at p0 p1 p2 p3;simp only at p0 p1 p2 p3;have HXS:Hid (xa.size<=L):=by have:=HQ.o.2.2.1 _ (gM_ (show n<ms.length by rw[HQ.o.2.1];exact hlt));rw[hX]at this;exact this
   have HXX:=hJ hX;clear hX;obtain⟨x0,x1,x2,x3,x4⟩:=HQ.o.2.2.2.1.k5;go_upto_region 10 with fail
   go_cut [50]from 30 to 65 (fun c wx=>(∃r,c=.bool r)/\∃k,wx=wr.drewN k)
   case first =>
    by_cases hx:xa=p
    ·subst hx;go_quiet(fail)
     exact cQ75
    ·have hx2:=zbm hx;have hx3:(xa.toList != p.toList)=true:=by simp[bne,hx2]
     go_quiet(fail)
     exact cQ75
   case rest =>
    obtain⟨⟨r,rfl⟩,kk,rfl⟩:=hcut;have HBD:Hid (Bw wr (wr.drewN kk)):=bD bR _;obtain⟨W5,hW5⟩:∃W5,wr.drewN kk=W5:=⟨_,rfl⟩
    rw[hW5]at HBD ⊢;have HQ5:Hid (NdO W5 (w.1.size+1) (.slice (aA g 0) ns.length c1) ms/\AtC W5 w.1.size 158 #[nI 3,.string p,.string q,nI at_,.string tx]/\Bw w W5):=⟨HQ.o.1.below HBD.o,HQ.o.2.2.2.1.over HBD.o,HQ.o.2.2.2.2.trans (HBD.o.mono HQ.o.2.2.2.2.size)⟩
    clear hW5 p0 p1 p2 p3 hfz x0 x1 x2 x3 x4
    cases r with
    | true =>
     exact cQ91
    | false =>
     obtain⟨g',cap',e1,p0,p1,p2,p3,hfz,hg',-⟩:=HQ5.o.1.at_ n (by rw[HQ.o.2.1];exact hlt);rw[HQ.o.2.1]at e1;simp only[vJ,oJ,aJ,and_true,true_and]at e1;obtain⟨rfl,rfl⟩:=e1;obtain⟨v2,p2⟩:∃v2,W5.cell? ⟨g,n*4+2,none⟩=some v2:=⟨_,p2⟩
     obtain⟨v3,p3⟩:∃v3,W5.cell? ⟨g,n*4+3,none⟩=some v3:=⟨_,p3⟩
     have f2:=hfz (n*4+2);have f3:=hfz (n*4+3);obtain⟨x0,x1,x2,x3,x4⟩:=HQ5.o.2.1.k5;have HST:Hid (∀(i:Nat)(y:Nd),i<4->0<i->(ndRow (xa,xb,xc,xd)).set i (.string tx)=ndRow y->y.1=xa->∃ms:List Nd,NdO (W5.setCell ⟨g,n*4+i,none⟩ (.string tx)) (w.1.size+1) (.slice (aA g 0) ns.length c1) ms/\ms.length=ns.length/\NdB L ms/\AtC (W5.setCell ⟨g,n*4+i,none⟩ (.string tx)) w.1.size 158 #[nI 3,.string p,.string q,nI at_,.string tx]/\Bw w (W5.setCell ⟨g,n*4+i,none⟩ (.string tx))):=fun i y hi hi0 hy hy1=>by
      have hnl:n<ms.length:=by rw[HQ.o.2.1];exact hlt
      have hl:=HQ.o.2.1;have hg1:w.1.size<=g:=oM
      have ho:=HQ5.o.1;rw[←hl]at ho;have:=ho.cellSet n i hnl hi (.string tx) y (by rw[HXX.o];exact hy);rw[hl]at this;exact⟨ms.set n y,this,by rw[lS];exact hl,HQ.o.2.2.1.set n (by rw[hy1];exact HXS.o),HQ5.o.2.1.other oM _,HQ5.o.2.2.setCell (p:=⟨g,n*4+i,none⟩) hg1 _⟩
     clear hfz p0 p1;by_cases ha:at_=0
     ·subst ha;go_wp2;go_roundw
      case rel=>exact⟨n+1,oM,gK,HST.o 2 (xa,xb,tx,xd) dC dC rfl rfl⟩
      case measure=>simp[intOf];omega
     ·have hab:(at_==0)=false:=beq_eq_false_iff_ne.mpr ha;go_wp2;go_roundw
      case rel=>exact⟨n+1,oM,gK,HST.o 3 (xa,xb,xc,tx) dC dC rfl rfl⟩
      case measure=>simp[intOf];omega
 by_cases h4:kd=4
 ·subst h4;have HE:Hid (NdO (w1.alloc (.cells #[] 194)) w1.1.size (.slice (aA w1.1.size 0) 0 0) []/\Bw w1 (w1.alloc (.cells #[] 194))):=⟨NdO.lit0 w1,(bF _ w1).alloc nR _⟩
  go_wp2_with fail
  go_loopw [7,8] (fun x7 i wr=>∃(lv:Va)(l:List Nd)(n:Nat),lv=x7/\n<=ns.length/\i=.int .i64 n/\Hid (NdO wr w1.1.size lv l/\Bw w1 wr/\l.length<=n/\NdB L l)) (fun _ i _=>ns.length-(intOf i).toNat)
  case atStart=>exact⟨_,[],0,rfl,zL _,rfl,HE.o.1,HE.o.2,Nat.le_refl _,fun x hx=>by simp at hx⟩
  case round =>
   clear HE;obtain⟨lv,l,n,hlv,hn,rfl,HR⟩:=hrel;subst hlv;by_cases hlt:n<ns.length
   rotate_left
   ·have n1:¬((n:Int)<(ns.length:Int)):=oM
    go_wp2;go_ret;have zz:=HO2.o;have bb:=HR.o.2.1;exact⟨ModR.mk _ l rfl (HR.o.1.mono oM) (by have:=HR.o.2.2.1;omega) HR.o.2.2.2,HO1.o.2.2.trans (bb.mono oM)⟩
   have n1:(n:Int)<(ns.length:Int):=oM
   have n2:n<900:=oM
   have n0:(0:Int)<=(n:Int):=oM
   have HQO:Hid (∀W,Bw w1 W->NdO W (w.1.size+1) (.slice a1 ns.length c1) ns/\AtC W w.1.size 158 #[nI 4,.string p,.string q,nI at_,.string tx]):=fun W b=>⟨HO1.o.1.below b,HO1.o.2.1.over b⟩
   obtain⟨g,cap,e1,p0,p1,p2,p3,-,hg,-⟩:=(HQO.o wr HR.o.2.1).1.at_ n hlt;simp only[vJ,true_and]at e1;obtain⟨rfl,rfl⟩:=e1;obtain⟨⟨xa,xb,xc,xd⟩,hX⟩:∃X,ns[n]=X:=⟨_,rfl⟩
   rw[hX]at p0 p1 p2 p3;simp only at p0 p1 p2 p3;have HXS:Hid (xa.size<=L):=by have:=HNB.o _ (gM_ hlt);rw[hX]at this;exact this
   have hp6:p.size<=1048576:=oM
   obtain⟨r,CB⟩:=znp xa p hp6;have HCB:=hJ CB;clear hX CB;obtain⟨x0,x1,x2,x3,x4⟩:=(HQO.o wr HR.o.2.1).2.k5;go_upto_region 19 with fail
   go_cut [83]from 69 to 83 (fun c wx=>(∃r,c=.bool r)/\∃k,wx=wr.drewN k)
   case first =>
    go_quiet((go_at_call 173;exact Calls.quiet_of_same (HCB.o _)))
    exact cQ75
   case rest =>
    obtain⟨⟨r2,rfl⟩,kk,rfl⟩:=hcut;have HBD:Hid (Bw wr (wr.drewN kk)):=bD bR _;obtain⟨W5,hW5⟩:∃W5,wr.drewN kk=W5:=⟨_,rfl⟩
    rw[hW5]at HBD ⊢;have HR5:Hid (NdO W5 w1.1.size lv l/\Bw w1 W5/\l.length<=n/\NdB L l):=⟨HR.o.1.below HBD.o,HR.o.2.1.trans (HBD.o.mono HR.o.2.1.size),HR.o.2.2.1,HR.o.2.2.2⟩
    replace p0:=(HBD.o.cell (p:=⟨g,n*4,none⟩) hg).trans p0
    replace p1:=(HBD.o.cell (p:=⟨g,n*4+1,none⟩) hg).trans p1
    replace p2:=(HBD.o.cell (p:=⟨g,n*4+2,none⟩) hg).trans p2
    replace p3:=(HBD.o.cell (p:=⟨g,n*4+3,none⟩) hg).trans p3
    clear hW5 HR x0 x1 x2 x3 x4 HQO HCB HBD
    cases r2 with
    | false =>
     clear p0 p1 p2 p3;go_wp2;go_roundw
     case rel=>exact⟨lv,l,n+1,rfl,oM,gK,HR5.o.1,HR5.o.2.1,by have:=HR5.o.2.2.1;omega,HR5.o.2.2.2⟩
     case measure=>simp[intOf];omega
    | true =>
     have HT:Hid (NOwns (W5.alloc (.cells #[.string xa,.bool xb,.string xc,.string xd] 194)) 194 4 lv (l.map ndRow)):=(HR5.o.1.below ((bF _ W5).alloc nR _)).1;have HK2:Hid (∀(j:Nat)(u:Va),(ndRow (xa,xb,xc,xd))[j]?=some u->(W5.alloc (.cells #[.string xa,.bool xb,.string xc,.string xd] 194)).cell? ⟨W5.1.size,j,none⟩=some u):=fun j u hj=>(AtC.new W5 194 #[.string xa,.bool xb,.string xc,.string xd]).at_ j u hj;have HTL:Hid ((l.map ndRow).length<=100000000000):=by have:=HR5.o.2.2.1;show _<=_;rw[lM];omega
     have HOC:Hid (∀u∈ndRow (xa,xb,xc,xd),u.oneCell'=true):=fun u hu=>by simp[ndRow]at hu;rcases hu with rfl|rfl|rfl|rfl<;>rfl
     go_wp2_with (at_builtin;refine wS fun K' hK'=>?_;refine zap _ rfl (.tmp 84) (.tmp 89) 152 rfl 194 Tryz.u152 _ 4 56 Tryz.i194 rfl dC dC lv _ rfl HT.o W5.1.size (ndRow (xa,xb,xc,xd)) rfl rfl HK2.o HOC.o HTL.o ?_;intro v12 w12 T12 G12 V12;refine hK' _ _ ?_;have HR12:=hJ (aI T12 (aI G12 V12));clear T12 G12 V12 hK')
     have HRL:Hid (NdO w12 w1.1.size v12 (l++[(xa,xb,xc,xd)])/\Bw w1 w12/\(l++[(xa,xb,xc,xd)]).length<=n+1/\NdB L (l++[(xa,xb,xc,xd)])):=by
      obtain⟨T12,G12,V12⟩:=HR12.o;obtain⟨k1,k2,k3,k4⟩:=HR5.o;have ba:=k2.alloc k2.size (.cells #[.string xa,.bool xb,.string xc,.string xd] 194);have n1:=k1.below ((bF _ W5).alloc nR (.cells #[.string xa,.bool xb,.string xc,.string xd] 194));exact⟨n1.app T12 V12 ba.size,ba.grown G12 ba.size (fun k hk=>k1.2 k hk),sO,k4.app HXS.o⟩
     go_roundw
     case rel=>exact⟨v12,l++[(xa,xb,xc,xd)],n+1,rfl,oM,gK,HRL.o⟩
     case measure=>simp[intOf];omega
 by_cases h5:kd=5
 ·subst h5;go_wp2_with fail
  go_loopw [9] (fun i wr=>∃n:Nat,n<=ns.length/\i=.int .i64 n/\Hid (∃ms:List Nd,NdO wr (w.1.size+1) (.slice a1 ns.length c1) ms/\ms.length=ns.length/\NdB L ms/\AtC wr w.1.size 158 #[.int .i64 5,.string p,.string q,.int .i64 at_,.string tx]/\Bw w wr)) (fun i _=>ns.length-(intOf i).toNat)
  case atStart=>exact⟨0,zL _,rfl,ns,HO1.o.1,rfl,HNB.o,HO1.o.2.1,HO1.o.2.2⟩
  case round =>
   obtain⟨n,hn,rfl,HR⟩:=hrel;clear HO1;by_cases hlt:n<ns.length
   rotate_left
   ·have n1:¬((n:Int)<(ns.length:Int)):=oM
    obtain⟨ms,hms⟩:=HR.o;have HQ:=hJ hms;have HML:Hid (ms.length<=1000):=by have:=hms.2.1;show _<=_;omega
    clear hms HR;go_wp2_with fail
    refine(zed _ _ ms wr HQ.o.1 HML.o).mono ?_;rintro e w6 ⟨v6,ns6,rfl,O6,hl6,hs6,B6⟩;have HO6:Hid (NdO w6 w.1.size v6 ns6/\ns6.length<=ns.length+1/\NdB L ns6/\Bw w w6):=⟨O6.mono HQ.o.2.2.2.2.size,by have:=HQ.o.2.1;omega,HQ.o.2.2.1.sub hs6,HQ.o.2.2.2.2.trans (B6.mono HQ.o.2.2.2.2.size)⟩
    clear O6 hl6 hs6 B6;go_wp2;go_ret;exact⟨ModR.mk _ ns6 rfl HO6.o.1 HO6.o.2.1 HO6.o.2.2.1,HO6.o.2.2.2⟩
   have n1:(n:Int)<(ns.length:Int):=oM
   have n2:n<900:=oM
   have n0:(0:Int)<=(n:Int):=oM
   obtain⟨ms,hms⟩:=HR.o;have HQ:=hJ hms;clear hms HR;obtain⟨g,cap,e1,p0,p1,p2,p3,hfz,hg,hgB⟩:=HQ.o.1.at_ n (by rw[HQ.o.2.1];exact hlt);rw[HQ.o.2.1]at e1;simp only[vJ,true_and]at e1;obtain⟨rfl,rfl⟩:=e1;obtain⟨⟨xa,xb,xc,xd⟩,hX⟩:∃X,ms[n]'(by rw[HQ.o.2.1];exact hlt)=X:=⟨_,rfl⟩
   rw[hX]at p0 p1 p2 p3;simp only at p0 p1 p2 p3;have HXX:=hJ hX;clear hX;obtain⟨x0,x1,x2,x3,x4⟩:=HQ.o.2.2.2.1.k5;go_upto_region 26 with fail
   go_cut [115]from 94 to 121 (fun c wx=>(∃r,c=.bool r)/\∃k,wx=wr.drewN k)
   case first =>
    by_cases hx:xa=p
    ·subst hx;go_quiet(fail)
     exact cQ75
    ·have hx2:=zbm hx;go_quiet(fail)
     exact cQ75
   case rest =>
    obtain⟨⟨r,rfl⟩,kk,rfl⟩:=hcut;have HBD:Hid (Bw wr (wr.drewN kk)):=bD bR _;obtain⟨W5,hW5⟩:∃W5,wr.drewN kk=W5:=⟨_,rfl⟩
    rw[hW5]at HBD ⊢;have HQ5:Hid (NdO W5 (w.1.size+1) (.slice (aA g 0) ns.length c1) ms/\AtC W5 w.1.size 158 #[nI 5,.string p,.string q,nI at_,.string tx]/\Bw w W5):=⟨HQ.o.1.below HBD.o,HQ.o.2.2.2.1.over HBD.o,HQ.o.2.2.2.2.trans (HBD.o.mono HQ.o.2.2.2.2.size)⟩
    clear hW5 p0 p1 p2 p3 hfz x0 x1 x2 x3 x4
    cases r with
    | false =>
     exact cQ91
    | true =>
     obtain⟨g',cap',e1,p0,p1,p2,p3,hfz,hg',-⟩:=HQ5.o.1.at_ n (by rw[HQ.o.2.1];exact hlt);rw[HQ.o.2.1]at e1;simp only[vJ,oJ,aJ,and_true,true_and]at e1;obtain⟨rfl,rfl⟩:=e1;obtain⟨v0,p0⟩:∃v0,W5.cell? ⟨g,n*4,none⟩=some v0:=⟨_,p0⟩
     have f0:=hfz (n*4);obtain⟨x0,x1,x2,x3,x4⟩:=HQ5.o.2.1.k5;have HST:Hid (∃ms:List Nd,NdO (W5.setCell ⟨g,n*4,none⟩ (.string q)) (w.1.size+1) (.slice (aA g 0) ns.length c1) ms/\ms.length=ns.length/\NdB L ms/\AtC (W5.setCell ⟨g,n*4,none⟩ (.string q)) w.1.size 158 #[nI 5,.string p,.string q,nI at_,.string tx]/\Bw w (W5.setCell ⟨g,n*4,none⟩ (.string q))):=by
      have hnl:n<ms.length:=by rw[HQ.o.2.1];exact hlt
      have hl:=HQ.o.2.1;have hg1:w.1.size<=g:=oM
      have ho:=HQ5.o.1;rw[←hl]at ho;have:=ho.cellSet n 0 hnl dC (.string q) (q,xb,xc,xd) (by rw[HXX.o];rfl);rw[hl]at this;exact⟨ms.set n (q,xb,xc,xd),this,by rw[lS];exact hl,HQ.o.2.2.1.set n hq,HQ5.o.2.1.other oM _,HQ5.o.2.2.setCell (p:=⟨g,n*4,none⟩) hg1 _⟩
     clear hfz p1 p2 p3;go_wp2;go_roundw
     case rel=>exact⟨n+1,oM,gK,HST.o⟩
     case measure=>simp[intOf];omega
 by_cases h12:kd=1\/kd=2
 rotate_left
 ·have q1:(kd==1)=false:=beq_eq_false_iff_ne.mpr (fun e=>h12 (.inl e));have q2:(kd==2)=false:=beq_eq_false_iff_ne.mpr (fun e=>h12 (.inr e));have q3:(kd==3)=false:=beq_eq_false_iff_ne.mpr h3;have q4:(kd==4)=false:=beq_eq_false_iff_ne.mpr h4;have q5:(kd==5)=false:=beq_eq_false_iff_ne.mpr h5;clear h12 h3 h4 h5;go_wp2;go_ret;exact⟨ModR.mk _ ns rfl (HO1.o.1.mono oM) oM HNB.o,HO1.o.2.2⟩
 rcases h12 with rfl|rfl
 ·have HT:Hid (NOwns (w1.alloc (.cells #[.string p,.bool false,.string ⟨#[]⟩,.string ⟨#[]⟩] 194)) 194 4 (.slice a1 ns.length c1) (ns.map ndRow)):=(HO1.o.1.below ((bF _ w1).alloc nR _)).1;have HK2:Hid (∀(j:Nat)(u:Va),(ndRow ((p,false,⟨#[]⟩,⟨#[]⟩):Nd))[j]?=some u->(w1.alloc (.cells #[.string p,.bool false,.string ⟨#[]⟩,.string ⟨#[]⟩] 194)).cell? ⟨w1.1.size,j,none⟩=some u):=fun j u hj=>(AtC.new w1 194 #[.string p,.bool false,.string ⟨#[]⟩,.string ⟨#[]⟩]).at_ j u hj;have HTL:Hid ((ns.map ndRow).length<=100000000000):=by show _<=_;rw[lM];omega
  have HOC:Hid (∀u∈ndRow ((p,false,⟨#[]⟩,⟨#[]⟩):Nd),u.oneCell'=true):=fun u hu=>by simp[ndRow]at hu;rcases hu with rfl|rfl|rfl<;>rfl
  have HMK:Hid (∀v12 w12,NOwns w12 194 4 v12 (ns.map ndRow++[ndRow ((p,false,⟨#[]⟩,⟨#[]⟩):Nd)])->(w1.alloc (.cells #[.string p,.bool false,.string ⟨#[]⟩,.string ⟨#[]⟩] 194)).grownBy w12 (Value.slice a1 ns.length c1).ownBlock->(∀k,v12.ownBlock=some k->(Value.slice a1 ns.length c1).ownBlock=some k\/(w1.alloc (.cells #[.string p,.bool false,.string ⟨#[]⟩,.string ⟨#[]⟩] 194)).1.size<=k)->NdO w12 (w.1.size+1) v12 (ns++[((p,false,⟨#[]⟩,⟨#[]⟩):Nd)])/\Bw w w12):=fun v12 w12 T12 G12 V12=>by
   obtain⟨k1,k2,k3⟩:=HO1.o;have ba:=k3.alloc k3.size (.cells #[.string p,.bool false,.string ⟨#[]⟩,.string ⟨#[]⟩] 194);have n1:=k1.below ((bF _ w1).alloc nR (.cells #[.string p,.bool false,.string ⟨#[]⟩,.string ⟨#[]⟩] 194));exact⟨n1.app T12 V12 (by simp;have:=HO2.o;omega),ba.grown G12 ba.size (fun k hk=>by have:=k1.2 k hk;omega)⟩
  have HML:Hid ((ns++[((p,false,⟨#[]⟩,⟨#[]⟩):Nd)]).length<=1000):=by show _<=_;simp;omega
  obtain⟨x0,x1,x2,x3,x4⟩:=HO1.o.2.1.k5;have HTAIL:Hid (∀v6 ns6 w6 w12,NdO w6 w12.1.size v6 ns6->ns6.length=(ns++[((p,false,⟨#[]⟩,⟨#[]⟩):Nd)]).length->SubN ns6 (ns++[((p,false,⟨#[]⟩,⟨#[]⟩):Nd)])->Bw w12 w6->Bw w w12->(NdO w6 w.1.size v6 ns6/\ns6.length<=ns.length+1/\NdB L ns6)/\Bw w w6):=fun v6 ns6 w6 w12 O6 hl6 hs6 B6 b=>⟨⟨O6.mono b.size,by simp at hl6;omega,(HNB.o.app hp).sub hs6⟩,b.trans (B6.mono b.size)⟩
  clear h3 h4 h5;go_wp2_with (first| (at_builtin;refine wS fun K' hK'=>?_;refine zap _ rfl (.tmp 18) (.tmp 25) 152 rfl 194 Tryz.u152 _ 4 56 Tryz.i194 rfl dC dC (.slice a1 ns.length c1) _ rfl HT.o w1.1.size (ndRow ((p,false,⟨#[]⟩,⟨#[]⟩):Nd)) rfl rfl HK2.o HOC.o HTL.o ?_;intro v12 w12 T12 G12 V12;refine hK' _ _ ?_;have HR12:=hJ (HMK.o v12 w12 T12 G12 V12);clear T12 G12 V12 hK')| (go_at_call 172;refine(zed _ _ (ns++[((p,false,⟨#[]⟩,⟨#[]⟩):Nd)]) w12 HR12.o.1 HML.o).mono ?_;rintro e w6 ⟨v6,ns6,rfl,O6,hl6,hs6,B6⟩;have HO6:=hJ (HTAIL.o v6 ns6 w6 w12 O6 hl6 hs6 B6 HR12.o.2);clear O6 hl6 hs6 B6))
  go_ret;exact⟨ModR.mk _ ns6 rfl HO6.o.1.1 HO6.o.1.2.1 HO6.o.1.2.2,HO6.o.2⟩
 ·have HT:Hid (NOwns (w1.alloc (.cells #[.string p,.bool true,.string ⟨#[]⟩,.string ⟨#[]⟩] 194)) 194 4 (.slice a1 ns.length c1) (ns.map ndRow)):=(HO1.o.1.below ((bF _ w1).alloc nR _)).1;have HK2:Hid (∀(j:Nat)(u:Va),(ndRow ((p,true,⟨#[]⟩,⟨#[]⟩):Nd))[j]?=some u->(w1.alloc (.cells #[.string p,.bool true,.string ⟨#[]⟩,.string ⟨#[]⟩] 194)).cell? ⟨w1.1.size,j,none⟩=some u):=fun j u hj=>(AtC.new w1 194 #[.string p,.bool true,.string ⟨#[]⟩,.string ⟨#[]⟩]).at_ j u hj;have HTL:Hid ((ns.map ndRow).length<=100000000000):=by show _<=_;rw[lM];omega
  have HOC:Hid (∀u∈ndRow ((p,true,⟨#[]⟩,⟨#[]⟩):Nd),u.oneCell'=true):=fun u hu=>by simp[ndRow]at hu;rcases hu with rfl|rfl|rfl<;>rfl
  have HMK:Hid (∀v12 w12,NOwns w12 194 4 v12 (ns.map ndRow++[ndRow ((p,true,⟨#[]⟩,⟨#[]⟩):Nd)])->(w1.alloc (.cells #[.string p,.bool true,.string ⟨#[]⟩,.string ⟨#[]⟩] 194)).grownBy w12 (Value.slice a1 ns.length c1).ownBlock->(∀k,v12.ownBlock=some k->(Value.slice a1 ns.length c1).ownBlock=some k\/(w1.alloc (.cells #[.string p,.bool true,.string ⟨#[]⟩,.string ⟨#[]⟩] 194)).1.size<=k)->NdO w12 (w.1.size+1) v12 (ns++[((p,true,⟨#[]⟩,⟨#[]⟩):Nd)])/\Bw w w12):=fun v12 w12 T12 G12 V12=>by
   obtain⟨k1,k2,k3⟩:=HO1.o;have ba:=k3.alloc k3.size (.cells #[.string p,.bool true,.string ⟨#[]⟩,.string ⟨#[]⟩] 194);have n1:=k1.below ((bF _ w1).alloc nR (.cells #[.string p,.bool true,.string ⟨#[]⟩,.string ⟨#[]⟩] 194));exact⟨n1.app T12 V12 (by simp;have:=HO2.o;omega),ba.grown G12 ba.size (fun k hk=>by have:=k1.2 k hk;omega)⟩
  have HML:Hid ((ns++[((p,true,⟨#[]⟩,⟨#[]⟩):Nd)]).length<=1000):=by show _<=_;simp;omega
  obtain⟨x0,x1,x2,x3,x4⟩:=HO1.o.2.1.k5;have HTAIL:Hid (∀v6 ns6 w6 w12,NdO w6 w12.1.size v6 ns6->ns6.length=(ns++[((p,true,⟨#[]⟩,⟨#[]⟩):Nd)]).length->SubN ns6 (ns++[((p,true,⟨#[]⟩,⟨#[]⟩):Nd)])->Bw w12 w6->Bw w w12->(NdO w6 w.1.size v6 ns6/\ns6.length<=ns.length+1/\NdB L ns6)/\Bw w w6):=fun v6 ns6 w6 w12 O6 hl6 hs6 B6 b=>⟨⟨O6.mono b.size,by simp at hl6;omega,(HNB.o.app hp).sub hs6⟩,b.trans (B6.mono b.size)⟩
  clear h3 h4 h5;go_wp2_with (first| (at_builtin;refine wS fun K' hK'=>?_;refine zap _ rfl (.tmp 18) (.tmp 25) 152 rfl 194 Tryz.u152 _ 4 56 Tryz.i194 rfl dC dC (.slice a1 ns.length c1) _ rfl HT.o w1.1.size (ndRow ((p,true,⟨#[]⟩,⟨#[]⟩):Nd)) rfl rfl HK2.o HOC.o HTL.o ?_;intro v12 w12 T12 G12 V12;refine hK' _ _ ?_;have HR12:=hJ (HMK.o v12 w12 T12 G12 V12);clear T12 G12 V12 hK')| (go_at_call 172;refine(zed _ _ (ns++[((p,true,⟨#[]⟩,⟨#[]⟩):Nd)]) w12 HR12.o.1 HML.o).mono ?_;rintro e w6 ⟨v6,ns6,rfl,O6,hl6,hs6,B6⟩;have HO6:=hJ (HTAIL.o v6 ns6 w6 w12 O6 hl6 hs6 B6 HR12.o.2);clear O6 hl6 hs6 B6))
  go_ret;exact⟨ModR.mk _ ns6 rfl HO6.o.1.1 HO6.o.1.2.1 HO6.o.1.2.2,HO6.o.2⟩
namespace Kit
def SzB(L:Nat)(l:List BA):Prop:=∀s∈l,s.size<=L
theorem SzB.nil(L:Nat):SzB L []:=fun s hs=>by simp at hs
theorem SzB.app{L:Nat}{l:List BA}(h:SzB L l){x:BA}(hx:x.size<=L):SzB L (l++[x]):=fun y hy=>(List.mem_append.mp hy).elim (h y) (fun e=>by simp at e;subst e;exact hx)
theorem ROwns.lit1(w:Wd)(base:Nat)(e:TypeId)(v:Va)(hb:base<=w.1.size):ROwns (w.alloc (.cells #[v] e)) base e (.slice (aA w.1.size 0) 1 1) [v]:=World.ownsRow_lit (base:=base) (e:=e) (size:=1) w #[v] 1 hb dC sI
structure Nx(w0 w wr:Wd)(c:Nat)(a:OA)(len cap:Nat)(WD E:Array Va)(be:Nat)(fv dv av:Va)(fl dl al:List BA):Prop where
 cur:Cur 103 w0 wr c a len cap
 hc:c<w.1.size
 gr:w.grownBy wr (some c)
 bx:AtC wr w.1.size 154 WD
 rs:AtC wr (w.1.size+1) 158 #[nI 0,.string ⟨#[]⟩,.string ⟨#[]⟩,nI 0,.string ⟨#[]⟩]
 ev:AtC wr be 158 E
 f:ROwns wr (w.1.size+1+1) 9 fv (stc fl)
 d:ROwns wr (w.1.size+1+1) 9 dv (stc dl)
 l:ROwns wr (w.1.size+1+1) 9 av (stc al)
 nf:∀k,fv.ownBlock=some k->k≠be/\dv.ownBlock≠some k/\av.ownBlock≠some k
 nd:∀k,dv.ownBlock=some k->k≠be/\av.ownBlock≠some k
 na:∀k,av.ownBlock=some k->k≠be
 hb:w.1.size+1+1<=be
namespace Nx
variable {w0 w wr wr' : World} {c : Nat} {a : Option Addr} {len cap : Nat} {WD E : Array Value} {be : Nat} {fv dv av : Value} {fl dl al : List ByteArray}
theorem size(h:Nx w0 w wr c a len cap WD E be fv dv av fl dl al):w.1.size<=wr.1.size:=h.gr.size
theorem below(h:Nx w0 w wr c a len cap WD E be fv dv av fl dl al)(hb:Below wr.1.size wr wr'):Nx w0 w wr' c a len cap WD E be fv dv av fl dl al:=by
 have z:=h.gr.size;have aB:=h.hc;obtain⟨k1,k2,i,x,k3,k4⟩:=h.cur;exact⟨⟨k1,k2.trans (hb.mono k2.size),i,x,(hb.block c oM).trans k3,k4⟩,h.hc,zae h.gr (zal hb _),h.bx.over hb,h.rs.over hb,h.ev.over hb,h.f.below hb nR,h.d.below hb nR,h.l.below hb nR,h.nf,h.nd,h.na,h.hb⟩
theorem drew(h:Nx w0 w wr c a len cap WD E be fv dv av fl dl al)(hd:Drew w0 wr wr' c a len cap):Nx w0 w wr' c a len cap WD E be fv dv av fl dl al:=by
 have aB:=h.hc;have aC:=h.hb;refine⟨hd.1,h.hc,zae h.gr hd.2,h.bx.grown hd.2 sO,h.rs.grown hd.2 sO,h.ev.grown hd.2 sO,h.f.grown hd.2 (fun k hk=>?_),h.d.grown hd.2 (fun k hk=>?_),h.l.grown hd.2 (fun k hk=>?_),h.nf,h.nd,h.na,h.hb⟩
 ·have:=(h.f.lt k hk).1;simp;omega
 ·have:=(h.d.lt k hk).1;simp;omega
 have:=(h.l.lt k hk).1;simp;omega
theorem turnG(h:Nx w0 w wr c a len cap WD E be fv dv av fl dl al){row:Option Nat}(hg:wr.grownBy wr' row)(hr:∀k,row=some k->w.1.size+1+1<=k):Cur 103 w0 wr' c a len cap/\w.grownBy wr' (some c)/\AtC wr' w.1.size 154 WD/\AtC wr' (w.1.size+1) 158 #[.int .i64 0,.string ⟨#[]⟩,.string ⟨#[]⟩,.int .i64 0,.string ⟨#[]⟩]:=by
 have aD:=h.hc;have z:=h.gr.size;obtain⟨k1,k2,i,x,k3,k4⟩:=h.cur;have hn:∀k,k<w.1.size+1+1->row≠some k:=fun k hk e=>by have:=hr k e;omega
 have aC:=k2.size;refine⟨⟨k1,k2.grown hg aC (fun k hk=>by have:=hr k hk;omega),i,x,(hg.block c oM (fun e=>hn c oM e.symm)).trans k3,k4⟩,⟨hg.os.trans h.gr.os,hg.tape.trans h.gr.tape,hg.output.trans h.gr.output,Nat.le_trans z hg.size,fun k hk aB=>(hg.block k oM (fun e=>hn k oM e.symm)).trans (h.gr.block k hk aB)⟩,h.bx.grown hg (hn _ oM),h.rs.grown hg (hn _ oM)⟩
theorem setE(h:Nx w0 w wr c a len cap WD E be fv dv av fl dl al)(i:Nat)(x:Value):Nx w0 w (wr.setCell ⟨be,i,none⟩ x) c a len cap WD (E.setIfInBounds i x) be fv dv av fl dl al:=by
 have aB:=h.hb;have hg:wr.grownBy (wr.setCell ⟨be,i,none⟩ x) (some be):=⟨rfl,rfl,rfl,by simp,fun k _ hk=>heap_setCell_other wr ⟨be,i,none⟩ k _ (fun e=>hk (by simp[e]))⟩
 obtain⟨t1,t2,t3,t4⟩:=h.turnG hg (fun k hk=>by simp at hk;omega);exact⟨t1,h.hc,t2,t3,t4,h.ev.set i x,h.f.grown hg (fun k hk e=>by simp at e;exact(h.nf k hk).1 e.symm),h.d.grown hg (fun k hk e=>by simp at e;exact(h.nd k hk).1 e.symm),h.l.grown hg (fun k hk e=>by simp at e;exact h.na k hk e.symm),h.nf,h.nd,h.na,h.hb⟩
theorem appF(h:Nx w0 w wr c a len cap WD E be fv dv av fl dl al){v:Value}{l:List ByteArray}(ho:ROwns wr' (w.1.size+1+1) 9 v (stc l))(hg:wr.grownBy wr' fv.ownBlock)(hv:∀k,v.ownBlock=some k->fv.ownBlock=some k\/wr.1.size<=k):Nx w0 w wr' c a len cap WD E be v dv av l dl al:=by
 obtain⟨t1,t2,t3,t4⟩:=h.turnG hg (fun k hk=>(h.f.lt k hk).1);refine⟨t1,h.hc,t2,t3,t4,h.ev.grown hg (fun e=>(h.nf _ e).1 rfl),ho,h.d.grown hg (fun k hk e=>(h.nf k e).2.1 hk),h.l.grown hg (fun k hk e=>(h.nf k e).2.2 hk),fun k hk=>(hv k hk).elim (h.nf k) (fun e=>⟨fun q=>?_,fun q=>?_,fun q=>?_⟩),h.nd,h.na,h.hb⟩
 ·have:=h.ev.lt;omega
 ·have:=(h.d.lt k q).2;omega
 have:=(h.l.lt k q).2;omega
theorem appD(h:Nx w0 w wr c a len cap WD E be fv dv av fl dl al){v:Value}{l:List ByteArray}(ho:ROwns wr' (w.1.size+1+1) 9 v (stc l))(hg:wr.grownBy wr' dv.ownBlock)(hv:∀k,v.ownBlock=some k->dv.ownBlock=some k\/wr.1.size<=k):Nx w0 w wr' c a len cap WD E be fv v av fl l al:=by
 obtain⟨t1,t2,t3,t4⟩:=h.turnG hg (fun k hk=>(h.d.lt k hk).1);refine⟨t1,h.hc,t2,t3,t4,h.ev.grown hg (fun e=>(h.nd _ e).1 rfl),h.f.grown hg (fun k hk e=>(h.nf k hk).2.1 e),ho,h.l.grown hg (fun k hk e=>(h.nd k e).2 hk),fun k hk=>⟨(h.nf k hk).1,fun q=>(hv k q).elim (h.nf k hk).2.1 (fun e=>?_),(h.nf k hk).2.2⟩,fun k hk=>(hv k hk).elim (h.nd k) (fun e=>⟨fun q=>?_,fun q=>?_⟩),h.na,h.hb⟩
 ·have:=(h.f.lt k hk).2;omega
 ·have:=h.ev.lt;omega
 have:=(h.l.lt k q).2;omega
theorem appA(h:Nx w0 w wr c a len cap WD E be fv dv av fl dl al){v:Value}{l:List ByteArray}(ho:ROwns wr' (w.1.size+1+1) 9 v (stc l))(hg:wr.grownBy wr' av.ownBlock)(hv:∀k,v.ownBlock=some k->av.ownBlock=some k\/wr.1.size<=k):Nx w0 w wr' c a len cap WD E be fv dv v fl dl l:=by
 obtain⟨t1,t2,t3,t4⟩:=h.turnG hg (fun k hk=>(h.l.lt k hk).1);refine⟨t1,h.hc,t2,t3,t4,h.ev.grown hg (fun e=>h.na _ e rfl),h.f.grown hg (fun k hk e=>(h.nf k hk).2.2 e),h.d.grown hg (fun k hk e=>(h.nd k hk).2 e),ho,fun k hk=>⟨(h.nf k hk).1,(h.nf k hk).2.1,fun q=>(hv k q).elim (h.nf k hk).2.2 (fun e=>?_)⟩,fun k hk=>⟨(h.nd k hk).1,fun q=>(hv k q).elim (h.nd k hk).2 (fun e=>?_)⟩,fun k hk=>(hv k hk).elim (h.na k) (fun e q=>?_),h.hb⟩
 ·have:=(h.f.lt k hk).2;omega
 ·have:=(h.d.lt k hk).2;omega
 have:=h.ev.lt;omega
end Nx
end Kit
namespace Xd
def MkS1(k:Nat)(t:BA):Mk:=.val [k] (fun lo hi w v=>v=.slice (some ⟨lo,0,none⟩) 1 1/\hi=lo+1/\AtC w lo 9 #[.string t]) (fun _ _ _ _ _ h hb=>⟨h.1,h.2.1,h.2.2.over hb⟩)
theorem zk6{xs ys:List Bool}{is:List Ino}{bs:List Blk}(hok:za9 xs ys is bs=true){j:Nat}(hj:j<=20):(unitB xs ys is bs j).size<=60:=by
 have:=zgd xs ys is bs (j:Int);unfold unitT at this;rw[hok]at this;simp only[Bool.true_and]at this;rw[if_pos sO]at this;simpa using this
theorem zm7(S:Nat->Prop)(u v iv bv:Va)(xs ys:List Bool)(is:List Ino)(bs:List Blk)(w:Wd)(h:DO w S u v iv bv xs ys is bs)(hok:za9 xs ys is bs=true)(hB:∀(j:Nat)(h:j<bs.length),bigB 1048576 bs[j]):
  Calls Tryz.prog 75 #[.agg #[u,v,iv,bv]] w fun e w'=>∃tv ts,e=.returned (.tuple #[.agg #[tv],.bool true])/\ROwns w' w.1.size 9 tv (stc ts)/\DvOk ts/\Bw w w':=by
 have HH:=hJ h;have aP:=hJ hok;have HG:=hJ hB;obtain⟨a1,c1,a2,c2,a3,c3,a4,c4,rfl,rfl,rfl,rfl⟩:=h.dr.form;have aY:Hid (∃base,Two w base (.slice a1 xs.length c1) (.slice a2 ys.length c2) xs ys):=by
  obtain⟨T1,T2,T3,ti,tb,k1,-⟩:=h;exact⟨_,k1⟩
 obtain⟨base,aT⟩:=aY.o;have bI:=hJ aT;clear aT aY;obtain⟨W0,aU⟩:∃W0,((w.alloc (.cells #[.slice a1 xs.length c1,.slice a2 ys.length c2,.slice a3 is.length c3,.slice a4 bs.length c4] 30)).alloc (.cells #[.slice none 0 0] 46))=W0:=⟨_,rfl⟩
 have HC:Hid (∀W,Bw W0 W->AtC W w.1.size 30 #[.slice a1 xs.length c1,.slice a2 ys.length c2,.slice a3 is.length c3,.slice a4 bs.length c4]/\AtC W (w.1.size+1) 46 #[.slice none 0 0]/\Bw w W/\w.1.size+1+1<=W.1.size):=fun W b2=>by
  rw[←aU]at b2;have k1:=(AtC.new (w.alloc (.cells #[.slice a1 xs.length c1,.slice a2 ys.length c2,.slice a3 is.length c3,.slice a4 bs.length c4] 30)) 46 #[.slice none 0 0]).over b2;have sz:=b2.size;simp at k1 sz;exact⟨((AtC.new w 30 _).alloc _).over b2,k1,(((bF _ w).alloc nR _).alloc sI _).trans (b2.mono sO),sz⟩
 have aL:Hid (Bw W0 W0):=bF _ _;obtain⟨x0,x1,x2,x3⟩:=AtC.four ((HC.o W0 aL.o).1);have aX:Hid (DR W0 (.slice a1 xs.length c1) (.slice a2 ys.length c2) (.slice a3 is.length c3) (.slice a4 bs.length c4) xs ys is bs):=HH.o.dr.below (HC.o W0 aL.o).2.2.1 nR;have C0:Hid (Calls Tryz.prog 108 #[.agg #[.slice a1 xs.length c1,.slice a2 ys.length c2,.slice a3 is.length c3,.slice a4 bs.length c4]] W0 fun e w'=>e=.returned (.bool true)/\Bw W0 w'):=by
  have:=zdg _ _ _ _ xs ys is bs W0 aX.o (fun j hj=>(HG.o j hj).2.1);rw[aP.o]at this;exact this
 clear h hok hB;go_enter Tryz.func75,Tryz.ntmps75
 go_wp2_with fail
 refine C0.out.mono ?_;rintro e w1 ⟨rfl,B1⟩;obtain⟨bo,aS⟩:∃bo,w1.1.size=bo:=⟨_,rfl⟩
 have bL:w.1.size+1+1<=bo:=by rw[←aS];exact(HC.o w1 B1).2.2.2
 have aZ:Hid (∀wr,w1.alloc (.cells #[.slice none 0 0] 46)=wr->∃(l:List BA)(lv:Va),AtC wr bo 46 #[lv]/\ROwns wr (w.1.size+1+1) 9 lv (stc l)/\(∀k,lv.ownBlock=some k->k≠bo)/\l.length=0/\(∀s∈l,s.size<=60)/\AtC wr w.1.size 30 #[.slice a1 xs.length c1,.slice a2 ys.length c2,.slice a3 is.length c3,.slice a4 bs.length c4]/\AtC wr (w.1.size+1) 46 #[.slice none 0 0]/\Bw w wr):=by
  rintro wr rfl;have b2:=B1.alloc B1.size (.cells #[.slice none 0 0] 46);obtain⟨k1,k2,k3,k4⟩:=HC.o _ b2;refine⟨[],.slice none 0 0,?_,ROwns.nil _ _ _,fun k hk=>by simp[Value.ownBlock]at hk,rfl,fun s hs=>by simp at hs,k1,k2,k3⟩;rw[←aS];exact AtC.new w1 46 _
 clear B1 HC aL x0 x1 x2 x3 aU C0 aX;go_wp2_with fail
 generalize hwa:w1.alloc (.cells #[.slice none 0 0] 46)=wa at*;have aV:=hJ (aZ.o wa rfl);clear aZ hwa aS;go_loopw [5] (fun i wr=>∃j:Nat,j<=21/\i=.int .i64 j/\Hid (∃(l:List BA)(lv:Va),AtC wr bo 46 #[lv]/\ROwns wr (w.1.size+1+1) 9 lv (stc l)/\(∀k,lv.ownBlock=some k->k≠bo)/\l.length=j/\(∀s∈l,s.size<=60)/\AtC wr w.1.size 30 #[.slice a1 xs.length c1,.slice a2 ys.length c2,.slice a3 is.length c3,.slice a4 bs.length c4]/\AtC wr (w.1.size+1) 46 #[.slice none 0 0]/\Bw w wr)) (fun i _=>21-(intOf i).toNat)
 case atStart=>exact⟨0,oM,rfl,aV.o⟩
 obtain⟨j,hj,rfl,HR⟩:=hrel;obtain⟨l,lv,bC⟩:=HR.o;have HQ:=hJ bC;clear bC HR aV;obtain⟨la,lc,rfl,-⟩:=HQ.o.2.1.form;obtain⟨ln,aQ⟩:∃ln,(stc l).length=ln:=⟨_,rfl⟩
 rw[aQ]at HQ;have bK:=hJ aQ;clear aQ;by_cases hlt:j<21
 rotate_left
 ·have j1:¬((j:Int)<21):=oM
  have x0:=HQ.o.1.c0;have r0:=HQ.o.2.2.2.2.2.2.1.c0;have v0:=HQ.o.2.2.2.2.2.2.1.frozen 0;go_wp2;refine bY (v:=.tuple #[.agg #[.slice la ln lc],.bool true]) (by simp[results,go_sem,r0]) rfl ⟨_,rfl,l,?_,⟨by have:=HQ.o.2.2.2.1;omega,fun k hk=>by have:=HQ.o.2.2.2.2.1 _ (gM_ hk);omega⟩,?_⟩
  ·exact(HQ.o.2.1.of_heap fun k hk=>hO_ _ ⟨w.1.size+1,0,none⟩ k _ (by have:=(HQ.o.2.1.lt k hk).1;show k≠w.1.size+1;omega)).base_le oM
  exact HQ.o.2.2.2.2.2.2.2.setCell oE _
 have j1:(j:Int)<21:=oM
 obtain⟨t,ht⟩:∃t,unitB xs ys is bs j=t:=⟨_,rfl⟩
 have bG:Hid (t.size<=60):=by rw[←ht];exact zk6 aP.o oM
 have CU:Hid (∀W,Bw wr W->Calls Tryz.prog 109 #[.agg #[.slice a1 xs.length c1,.slice a2 ys.length c2,.slice a3 is.length c3,.slice a4 bs.length c4],.int .i64 j] W fun e w'=>e=.returned (.string t)/\Bw W w'):=fun W b=>by
  rw[←ht];have bw:Bw w W:=HQ.o.2.2.2.2.2.2.2.trans (b.mono HQ.o.2.2.2.2.2.2.2.size);have o2:Two W base (.slice a1 xs.length c1) (.slice a2 ys.length c2) xs ys:=bI.o.below bw nR;exact zem _ _ _ _ xs ys is bs j base W (HH.o.dr.below bw nR) o2 aP.o oM HG.o
 clear ht;have aG:Hid (∀W,Bw wr.drew W->AtC W bo 46 #[.slice la ln lc]/\AtC W w.1.size 30 #[.slice a1 xs.length c1,.slice a2 ys.length c2,.slice a3 is.length c3,.slice a4 bs.length c4]/\AtC W (w.1.size+1) 46 #[.slice none 0 0]/\ROwns W (w.1.size+1+1) 9 (.slice la ln lc) (stc l)/\Bw w W/\wr.1.size<=W.1.size):=fun W b=>by
  have b2:=zac b;obtain⟨k1,k2,-,-,-,k5,k6,k7⟩:=HQ.o;exact⟨k1.over b2,k5.over b2,k6.over b2,k2.below b2 nR,k7.trans (b2.mono k7.size),b2.size⟩
 go_upto_region 7 with fail
 refine zau kL [0,1,2,3,4,5] [6,7,8] (fun i=>match i with|0=>.const [] (.pointer (some ⟨bo,0,none⟩))|1=>.const [0] (.slice la ln lc)|2=>.const [] (.agg #[.slice a1 xs.length c1,.slice a2 ys.length c2,.slice a3 is.length c3,.slice a4 bs.length c4])|3=>.const [] (.int .i64 (j:Int))|4=>.const [2,3] (.string t)|5=>MkS1 4 t|_=>.triv) (fun x=>⟨#[.agg #[.slice a1 xs.length c1,.slice a2 ys.length c2,.slice a3 is.length c3,.slice a4 bs.length c4],.pointer (some ⟨w.1.size,0,none⟩),.pointer (some ⟨w.1.size+1,0,none⟩),.bool false,.pointer (some ⟨bo,0,none⟩),.int .i64 ↑j,.agg #[.slice a1 xs.length c1,.slice a2 ys.length c2,.slice a3 is.length c3,.slice a4 bs.length c4],.bool true,.bool false,undef,.agg #[.slice none 0 0],.int .i64 ↑j,.bool true,u13,u14,x 0,x 1,x 2,x 3,x 4,x 5,u21,u22,undef],[]⟩) (fun i=>match i with|0=>u15|1=>u16|2=>u17|3=>u18|4=>u19|5=>u20|_=>undef) rfl kL kL kL rfl ?_ ?_
 ·intro jo hj so x iw W hd hp K hK;simp only[mN,nN,or_false]at hj;rcases hj with rfl|rfl|rfl|rfl|rfl|rfl<;>refine wpOp_step (o:=_) rfl fun K' hK'=>?_<;>have HK:=hJ (fun(v:Va) (W':Wd) h1 h2=>hK' _ _ (hK v W' h1 h2))<;>simp only[upd,Nat.reduceEqDiff,if_true,if_false]at HK
  ·exact cQ6
  ·have e0:x 0=.pointer (some ⟨bo,0,none⟩):=hp.post 0 (hd 0 mz0);have q0:=(aG.o W hp.bel).1.c0;simp only[e0]at HK ⊢;go_simp;exact HK.o _ _ bR rfl
  ·have k0:=(aG.o W hp.bel).2.1;obtain⟨q0,q1,q2,q3⟩:=AtC.four k0;clear k0;go_simp;exact HK.o _ _ bR rfl
  ·exact cQ6
  ·have e2:x 2=.agg #[.slice a1 xs.length c1,.slice a2 ys.length c2,.slice a3 is.length c3,.slice a4 bs.length c4]:=hp.post 2 (hd 2 mz0);have e3:x 3=.int .i64 (j:Int):=hp.post 3 (hd 3 mz1);have bw:=zac hp.bel;simp only[e2,e3]at HK ⊢;clear e2 e3;go_simp;refine(CU.out W bw).mono ?_;rintro e w6 ⟨rfl,B6⟩;go_simp;exact HK.o _ _ B6 rfl
  have e4:x 4=.string t:=hp.post 4 (hd 4 mz0);simp only[e4]at HK ⊢;go_simp;exact HK.o _ _ ((bF _ W).alloc nR _) ⟨rfl,sI,AtC.new W 9 _⟩
 intro x iw W hp;have e1:x 1=.slice la ln lc:=hp.post 1 dC;obtain⟨e5,z5,A5⟩:=hp.post 5 dC;obtain⟨k1,k2,k3,k4,k5,k6⟩:=aG.o W hp.bel;have l5:=hp.lo 5 dC;have HW:=hJ (aI k1 (aI k2 (aI k3 (aI k4 (aI k5 k6)))));have bH:Hid (W.cell? ⟨(iw 5).1,0,none⟩=some (.string t)):=A5.cell 0;have bJ:Hid (w.1.size+1+1<=W.1.size):=by have:=k1.lt;show _<=_;omega
 have bE:Hid ((stc l).length<=100000000000):=by have:=HQ.o.2.2.2.1;show _<=_;rw[zaj];omega
 have q0:=k1.c0;generalize (iw 5).1=g5 at*;clear hp A5 z5 l5 k1 k2 k3 k4 k5 k6 aG CU;simp only[e1,e5];clear e1 e5;simp only[List.filterMap_cons,List.filterMap_nil,List.getElem?_toArray,List.getElem?_cons_succ,List.getElem?_cons_zero];refine wS fun K' hK'=>?_;refine zam _ rfl (.tmp 16) (.tmp 20) 44 rfl (w.1.size+1+1) 9 Tryz.u44 _ 16 Tryz.i9 rfl dC (.slice la ln lc) _ rfl HW.o.2.2.2.1 bJ.o g5 (.string t) rfl bH.o rfl bE.o ?_;intro bM aW aF aB aH;refine hK' _ _ ?_;obtain⟨va,vc,hv,-⟩:=aF.form;obtain⟨aD,aC⟩:∃aD,(stc l++[Value.string t]).length=aD:=⟨_,rfl⟩
 rw[aC]at hv;clear aC;subst hv;have aO:=hJ (aI aF (aI aB aH));have aK:AtC aW bo 46 #[.slice la ln lc]:=HW.o.1.grown aB (fun e=>HQ.o.2.2.1 bo e rfl);have y0:=aK.c0;have f0:=aK.frozen 0;have aN:=hJ aK;clear aF aB aH hK' aK;have aM:Hid (∀wz,aW.setCell ⟨bo,0,none⟩ (.slice va aD vc)=wz->∃(l:List BA)(lv:Va),AtC wz bo 46 #[lv]/\ROwns wz (w.1.size+1+1) 9 lv (stc l)/\(∀k,lv.ownBlock=some k->k≠bo)/\l.length=j+1/\(∀s∈l,s.size<=60)/\AtC wz w.1.size 30 #[.slice a1 xs.length c1,.slice a2 ys.length c2,.slice a3 is.length c3,.slice a4 bs.length c4]/\AtC wz (w.1.size+1) 46 #[.slice none 0 0]/\Bw w wz):=by
  rintro wz rfl;obtain⟨k1,k2,k3,k4,k5,k6⟩:=HW.o;obtain⟨aF,aB,aH⟩:=aO.o;have own:∀k,(Value.slice va aD vc).ownBlock=some k->k≠bo:=fun k hk=>(aH k hk).elim (fun e=>HQ.o.2.2.1 k e) (fun e=>by have:=k1.lt;omega);have aR:∀k,(Value.slice la ln lc).ownBlock=some k->w.1.size+1+1<=k:=fun k hk=>(k4.lt k hk).1;have bN:w.1.size+1<W.1.size:=k3.lt;refine⟨l++[t],.slice va aD vc,aN.o.set 0 _,?_,own,by rw[lA,HQ.o.2.2.2.1];rfl,fun s hs=>?_,?_,?_,?_⟩
  ·rw[zbj];exact aF.of_heap fun k hk=>hO_ _ ⟨bo,0,none⟩ k _ (own k hk)
  ·rcases List.mem_append.mp hs with e|e
   ·exact HQ.o.2.2.2.2.1 s e
   simp only[mN,nN,or_false]at e;subst e;exact bG.o
  ·exact(k2.grown aB (fun e=>by have:=aR _ e;omega)).other oM _
  ·exact(k3.grown aB (fun e=>by have:=aR _ e;omega)).other oM _
  exact(k5.trans ⟨aB.os,aB.tape,aB.output,aB.size,fun k hk=>aB.block k (by have:=k5.size;omega) (fun e=>by have:=aR k e.symm;omega)⟩).setCell (by show w.1.size<=bo;omega) _
 try rw[List.filterMap_nil]
 go_wp2;go_roundw
 case rel=>exact⟨j+1,oM,gK,aM.o _ rfl⟩
 simp[intOf];omega
end Xd
end Go.Proofs.YtgnplpmgkegcnaaGreat
