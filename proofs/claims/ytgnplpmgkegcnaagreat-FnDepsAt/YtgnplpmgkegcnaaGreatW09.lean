/- Texts. -/
import Derived.Test.YtgnplpmgkegcnaaGreatRows
import Derived.Test.YtgnplpmgkegcnaaGreatW05
import Derived.Test.YtgnplpmgkegcnaaGreatW07
import Derived.Test.YtgnplpmgkegcnaaGreatW06
import Derived.Test.YtgnplpmgkegcnaaGreatW08
set_option maxRecDepth 100000
set_option maxHeartbeats 12800000
namespace Go.Proofs.YtgnplpmgkegcnaaGreat
open Go.RowKit Kit
variable {Z : ZT}
theorem zmz(T:Nat->Prop)(b:Nat)(id kd io pt bk sl:Int)(nm:BA)(bt ot:Bool)(af:Int)(bl:List Int)(pa:OA)(pc:Nat)(w:Wd)(h:BT Z w T b)(hT:∀k,w.1.size<=k->T k)(aH:1<=io)(aG:io<=8)(hbl:∀p∈bl,(1:Int)<=p/\p<=16)(hbn:bl.length<=2)
  (hp:∀W,Chg T w W->RInts W (sL pa bl pc) bl) (hzb:∀p∈bl,Z id p) :
  Calls Tryz.prog 212 #[.pointer (aA b 0),.agg (K7 id kd io pt bk sl nm bt ot af pa bl.length pc)] w fun e w'=>e=.returned (.tuple #[])/\BT Z w' T b/\Chg T w w':=by
 obtain⟨Y,hY⟩:∃Y:ZT,Y=fun i p=>Z i p\/p∈bl:=⟨_,rfl⟩
 have bZ:Hid (∀M:MD,Kz Z M->Kz Y { M with ds:=za4 id M.ds }):=fun M hM=>by rw[hY];exact hM.drop id bl hzb
 have aY:Hid (∀i p,Z i p->Y i p):=fun i p h=>by rw[hY];exact .inl h
 have bX:Hid (∀p∈bl,∀i,Y i p):=fun p h i=>by rw[hY];exact .inr h
 clear hY hzb;have aW:=hJ hp;have cA:=hJ hbl;have aV:Hid (∀k,(w.alloc (.cells (K7 id kd io pt bk sl nm bt ot af pa bl.length pc) 42)).1.size<=k->(fun k=>T k/\k≠w.1.size) k):=fun k hk=>by simp at hk;exact⟨hT k oM,oM⟩
 have aR:Hid (BT Z (w.alloc (.cells (K7 id kd io pt bk sl nm bt ot af pa bl.length pc) 42)) (fun k=>T k/\k≠w.1.size) b):=by
  obtain⟨S,u,v,iv,bv,dv,pv,m,hP,hS,aC,hm⟩:=h;have:=hP.box.lt;exact⟨_,u,v,iv,bv,dv,pv,m,hP.bound.alloc _,fun k hk=>⟨hS k hk.1,by have:=hk.2;omega⟩,⟨aC,oM⟩,hm⟩
 have bL:Hid (∀W,Chg (fun k=>T k/\k≠w.1.size) (w.alloc (.cells (K7 id kd io pt bk sl nm bt ot af pa bl.length pc) 42)) W->AtC W w.1.size 42 (K7 id kd io pt bk sl nm bt ot af pa bl.length pc)/\Chg T w W/\RInts W (sL pa bl pc) bl/\w.1.size+1<=W.1.size):=fun W hc=>by
  have c2:Chg T w W:=(Chg.of_below ((bF _ w).alloc nR _)).trans (hc.mono fun k hk=>hk.1);exact⟨(hc.block _ sI (fun e=>e.2 rfl)).trans (AtC.new w 42 (K7 id kd io pt bk sl nm bt ot af pa bl.length pc)),c2,aW.o W c2,by have:=hc.size;simp at this;exact this⟩
 have y0:=(AtC.new w 42 (K7 id kd io pt bk sl nm bt ot af pa bl.length pc)).c0;have cE:b<w.1.size:=h.lt.1;clear h hT hp hbl;obtain⟨j,rfl⟩:∃j:Nat,io=(j:Int)+1:=⟨(io-1).toNat,oM⟩
 have cL:IntKind.i64.wrap (j:Int)=(j:Int):=wrap_small _ oM oM;go_enter Tryz.func212,Tryz.ntmps212
 go_upto_region 1 with fail
 go_cut []from 7 to 14 (fun wx=>BT Y wx (fun k=>T k/\k≠w.1.size) b/\Chg (fun k=>T k/\k≠w.1.size) (w.alloc (.cells (K7 id kd ((j:Int)+1) pt bk sl nm bt ot af pa bl.length pc) 42)) wx)
 case first =>
  have aO:Hid (∃S u v iv bv dv pv m,PM (w.alloc (.cells (K7 id kd ((j:Int)+1) pt bk sl nm bt ot af pa bl.length pc) 42)) S b u v iv bv dv pv m/\Sh Z m):=by
   obtain⟨S,u,v,iv,bv,dv,pv,m,hP,hS,aC,hm⟩:=aR.o;exact⟨S,u,v,iv,bv,dv,pv,m,hP,hm⟩
  have bO:Hid ((fun k=>T k/\k≠w.1.size) b):=aR.o.lt.2;obtain⟨S,u,v,iv,bv,dv,pv,m,hP,hm⟩:=aO.o;obtain⟨a1,c1,a2,c2,a3,c3,a4,c4,a5,c5,a6,c6,rfl,rfl,rfl,rfl,rfl,rfl⟩:=hP.form;obtain⟨x0,x1,x2,x3,x4,x5,x6⟩:=hP.box.k7;have HP:=hJ hP;have HM:=hJ hm;clear hP hm
  go_region_with (go_at_call 14;refine(zmy id _ _ _ _ _ _ m _ HP.o.drew.mr HM.o (bZ.o m HM.o.k)).mono ?_;rintro e w2 ⟨u1,u2,u3,u4,u5,u6,mn,rfl,O2,aK,B2⟩;obtain⟨n1,o1,n2,o2,n3,o3,n4,o4,n5,o5,n6,o6,rfl,rfl,rfl,rfl,rfl,rfl⟩:=O2.mr.form;have A2:=HP.o.drew.box.over B2;have r0:w2.cell? ⟨b,0,none⟩=some (.slice a1 m.1.length c1):=A2.cell 0;have v0:=A2.frozen 0;have r1:w2.cell? ⟨b,1,none⟩=some (.slice a2 m.2.length c2):=A2.cell 1;have v1:=A2.frozen 1;have r2:w2.cell? ⟨b,2,none⟩=some (.slice a3 m.3.length c3):=A2.cell 2;have v2:=A2.frozen 2;have r3:w2.cell? ⟨b,3,none⟩=some (.slice a4 m.4.length c4):=A2.cell 3;have v3:=A2.frozen 3;have r4:w2.cell? ⟨b,4,none⟩=some (.slice a5 m.5.length c5):=A2.cell 4;have v4:=A2.frozen 4;have r5:w2.cell? ⟨b,5,none⟩=some (.slice a6 m.6.length c6):=A2.cell 5;have v5:=A2.frozen 5;have r6:w2.cell? ⟨b,6,none⟩=some (.int .i64 m.nx):=A2.cell 6;have v6:=A2.frozen 6;have HF:=hJ (zh4 (w:=(w.alloc (.cells (K7 id kd ((j:Int)+1) pt bk sl nm bt ot af pa bl.length pc) 42))) (T:=(fun k=>T k/\k≠w.1.size)) A2 O2 (Chg.of_below (zac B2)) aK bO.o HP.o.box.lt aV.o);clear A2 O2 aK B2)
  all_goals (go_wp2_with fail;go_meet;exact HF.o)
 have bP:=hJ hcut;clear hcut y0 aR;generalize hw0:(w.alloc (.cells (K7 id kd ((j:Int)+1) pt bk sl nm bt ot af pa bl.length pc) 42))=w0 at*;have cM:=hJ hw0;clear hw0;go_wp2_with fail
 go_loopw [4] (fun i wr=>∃q:Nat,q<=bl.length/\i=.int .i64 q/\Hid (BT Y wr (fun k=>T k/\k≠w.1.size) b/\Chg (fun k=>T k/\k≠w.1.size) w0 wr)) (fun i _=>bl.length-(intOf i).toNat)
 case atStart=>exact⟨0,zL _,rfl,bP.o⟩
 obtain⟨q,hq,rfl,HR⟩:=hrel;obtain⟨ka,-,kr,-⟩:=bL.o wr HR.o.2;have y2:=ka.c2;have aP:=ka.c10;by_cases hlt:q<bl.length
 ·obtain⟨sa,sc,es,aZ⟩:=kr;simp only[vJ,true_and]at es;obtain⟨rfl,rfl⟩:=es;obtain⟨g,cG,rfl,-,k1⟩:=aZ q hlt;have bE:=cA.o bl[q] (gM_ hlt);obtain⟨t,ht⟩:∃t,bl[q]=t:=⟨_,rfl⟩
  rw[ht]at k1 bE;have bQ:Hid (∀i,Y i t):=by rw[←ht];exact bX.o bl[q] (gM_ hlt)
  obtain⟨n,rfl⟩:∃n:Nat,t=(n:Int)+1:=⟨(t-1).toNat,oM⟩
  have bU:Hid (∀i,Y i ((n:Int)+1)):=bQ.o;have hn:n<16:=oM
  have cO:IntKind.i64.wrap (n:Int)=(n:Int):=wrap_small _ oM oM;obtain⟨gx,cx,rx,x0,x1,x2,x3,x4,x5⟩:=HR.o.1.bitX n hn;have HN:Hid (BT Y (wr.setCell ⟨gx,n,none⟩ (.bool false)).drew (fun k=>T k/\k≠w.1.size) b/\Chg (fun k=>T k/\k≠w.1.size) w0 (wr.setCell ⟨gx,n,none⟩ (.bool false)).drew):=⟨(x5 false (.inr (bU.o))).below (zac bR),(HR.o.2.setCell x3 _).trans (Chg.of_below (zac bR))⟩
  have q0:(0:Int)<=(q:Int):=oM
  have q1:(q:Int)<(bl.length:Int):=oM
  have n0:(0:Int)<=(n:Int):=oM
  have n1:(n:Int)<16:=oM
  clear ka aZ bE x3 x4 x5 ht;go_upto_region 5 with fail
  go_big_region
  go_wp2;go_roundw
  case rel=>exact⟨q+1,oM,gK,HN.o⟩
  simp[intOf];omega
 clear ka kr;obtain⟨gx,cx,rx,x0,x1,x2,x3,x4,x5⟩:=HR.o.1.bitY j oM;have HN:Hid (BT Y (wr.setCell ⟨gx,j,none⟩ (.bool false)).drew (fun k=>T k/\k≠w.1.size) b/\Chg (fun k=>T k/\k≠w.1.size) w0 (wr.setCell ⟨gx,j,none⟩ (.bool false)).drew):=⟨(x5 false).below (zac bR),(HR.o.2.setCell x3 _).trans (Chg.of_below (zac bR))⟩
 have n0:(0:Int)<=(j:Int):=oM
 have n1:(j:Int)<8:=oM
 clear x3 x4 x5 HR;go_upto_region 6 with fail
 go_big_region
 generalize (wr.setCell ⟨gx,j,none⟩ (.bool false)).drew=w4 at*;clear x0 x1 x2 aP y2;go_wp2_with fail
 refine(zdx _ b 0 w4 HN.o.1).mono ?_;rintro e w5 ⟨rfl,b5,c5⟩;have aT:=hJ (HN.o.2.trans c5);clear HN c5;obtain⟨S5,u,v,iv,bv,dv,pv,m5,hP,hS,aC,hm⟩:=b5
 replace hP:=hP.bound
 obtain⟨a1,c1,a2,c2,a3,c3,a4,c4,a5,c5,a6,c6,rfl,rfl,rfl,rfl,rfl,rfl⟩:=hP.form;have x5:=hP.box.c5;have HP:=hJ hP;have HM:=hJ hm;have bN:=hJ hS;have aM:=hJ aC;have cH:m5.6.length<=40:=hm.l;clear hP hm hS aC;have bJ:Hid (∀W,Chg (fun k=>k=b\/w5.1.size<=k) w5 W->AtC W w.1.size 42 (K7 id kd ((j:Int)+1) pt bk sl nm bt ot af pa bl.length pc)/\RInts W (sL pa bl pc) bl/\Chg T w W):=fun W c=>by
  have z5:=bL.o w5 aT.o;have cc:Chg T w W:=z5.2.1.trans (c.mono fun k hk=>hk.elim (fun e=>by rw[e];exact aM.o.1) (fun e=>(aV.o k (by have:=aT.o.size;omega)).1));exact⟨(c.block _ (by have:=z5.2.2.2;omega) (fun e=>e.elim (fun e=>aM.o.2 e.symm) (fun e=>by have:=z5.2.2.2;omega))).trans z5.1,aW.o W cc,cc⟩
 go_wp2_with fail
 go_loopw [6] (fun i wr=>∃q:Nat,q<=m5.6.length/\i=.int .i64 q/\Hid ((Bw w5 wr\/BT Y wr (fun k=>k=b\/w5.1.size<=k) b)/\Chg (fun k=>k=b\/w5.1.size<=k) w5 wr)) (fun i _=>m5.6.length-(intOf i).toNat)
 case atStart=>exact⟨0,zL _,rfl,.inl bR,Chg.refl _ _⟩
 obtain⟨q,hq,rfl,HR⟩:=hrel;obtain⟨ka,kr,-⟩:=bJ.o wr HR.o.2;have aP:=ka.c10;have bG:=hJ kr;clear ka kr;by_cases hlt:q<m5.6.length
 ·obtain⟨g,cg,p,e6,nn,-,-,gS,gl,-⟩:=HP.o.dep_at q hlt;simp only[vJ,true_and]at e6;obtain⟨rfl,rfl⟩:=e6;have aL:wr.1[g]?=w5.1[g]?:=HR.o.2.block g gl (fun e=>e.elim (fun e=>HP.o.nb (e ▸ gS)) (fun e=>oM));have aN:=HM.o.dd _ (gM_ hlt);obtain⟨X,hX⟩:∃X,m5.ds[q]=X:=⟨_,rfl⟩
  rw[hX]at nn aN;obtain⟨aS,kk,jo,cK,bK,cF,cN,cD,cC,cI,cP⟩:=X;simp only[DCells]at nn;obtain⟨n0,n1,n2,n3,n4,n5,n6,n7,n8,n9,bS⟩:=nn;have c0:wr.cell? ⟨g,q*11,none⟩=some (nI aS):=(World.cell?_of_block (w:=w5) (a:=⟨g,q*11,none⟩) aL).trans n0;have c1:wr.cell? ⟨g,q*11+1,none⟩=some (nI kk):=(World.cell?_of_block (w:=w5) (a:=⟨g,q*11+1,none⟩) aL).trans n1;have c2:wr.cell? ⟨g,q*11+2,none⟩=some (nI jo):=(World.cell?_of_block (w:=w5) (a:=⟨g,q*11+2,none⟩) aL).trans n2;have c4:wr.cell? ⟨g,q*11+4,none⟩=some (nI bK):=(World.cell?_of_block (w:=w5) (a:=⟨g,q*11+4,none⟩) aL).trans n4;have aH:1<=jo:=aN.io.1;have aG:jo<=8:=aN.io.2;have q0:(0:Int)<=(q:Int):=oM
  have q1:(q:Int)<(m5.6.length:Int):=oM
  have aU:=hJ (aI c1 (aI c4 (aI c0 c2)));have aD:Hid (g<w5.1.size/\S5 g):=⟨gl,gS.1⟩
  clear n0 n1 n2 n3 n4 n5 n6 n7 n8 n9 bS aN hX aL gl gS;go_upto_region 12 with fail
  go_cut [72]from 51 to 90 (fun c wx=>(∃r,c=.bool r)/\Bw wr wx)
  case first =>
   by_cases h4:kk=4
   ·subst h4
    go_region_with (go_at_call 217;refine(ze7 _ bl bK _ bG.o.drew oM).mono ?_;rintro e w7 ⟨rfl,rfl⟩)
    all_goals (go_wp2_with fail;go_meet;exact⟨⟨_,rfl⟩,zac bR⟩)
   have cJ:(kk==4)=false:=by simp[h4]
   go_big_region
   go_wp2_with fail
   go_meet
   exact⟨⟨_,rfl⟩,zac bR⟩
  obtain⟨⟨r,rfl⟩,aF⟩:=hcut;have aB:Hid ((Bw w5 wc\/BT Y wc (fun k=>k=b\/w5.1.size<=k) b)/\Chg (fun k=>k=b\/w5.1.size<=k) w5 wc/\wc.cell? ⟨g,q*11,none⟩=some (nI aS)/\wc.cell? ⟨g,q*11+2,none⟩=some (nI jo)):=by
   have hz:=HR.o.2.size;refine⟨HR.o.1.imp (fun e=>e.trans (aF.mono hz)) (fun e=>e.below aF),HR.o.2.trans (Chg.of_below aF),(aF.cell (p:=⟨g,q*11,none⟩) (by have:=aD.o.1;show g<_;omega)).trans aU.o.2.2.1,(aF.cell (p:=⟨g,q*11+2,none⟩) (by have:=aD.o.1;show g<_;omega)).trans aU.o.2.2.2⟩
  clear aF HR c0 c1 c2 c4 aU aP bG
  cases r
  ·go_wp2;go_roundw
   case rel=>exact⟨q+1,oM,gK,aB.o.1,aB.o.2.1⟩
   simp[intOf];omega
  have aO:Hid (∃S u v iv bv dv pv m,PM wc S b u v iv bv dv pv m/\Sh Y m):=by
   rcases aB.o.1 with e|⟨S,u,v,iv,bv,dv,pv,m,hP,hS,aC,hm⟩
   ·exact⟨_,_,_,_,_,_,_,m5,HP.o.below e,HM.o⟩
   exact⟨S,u,v,iv,bv,dv,pv,m,hP,hm⟩
  have bC:Hid (∀k,wc.1.size<=k->(fun k=>k=b\/w5.1.size<=k) k):=fun k hk=>.inr (by have:=aB.o.2.1.size;omega);have bM:Hid (g≠b):=fun e=>by have:=aD.o.2;rw[e]at this;exact HP.o.nb ⟨this,by have:=aD.o.1;omega⟩
  have d0:=aB.o.2.2.1;go_upto_region 13 with fail
  go_cut []from 51 to 90 (fun wx=>BT Y wx (fun k=>k=b\/w5.1.size<=k) b/\Chg (fun k=>k=b\/w5.1.size<=k) w5 wx/\wx.cell? ⟨g,q*11+2,none⟩=some (.int .i64 jo))
  case first =>
   obtain⟨S,u,v,iv,bv,dv,pv,m,hP,hm⟩:=aO.o;obtain⟨a1,c1,a2,c2,a3,c3,a4,c4,a5,c5,a6,c6,rfl,rfl,rfl,rfl,rfl,rfl⟩:=hP.form;obtain⟨x0,x1,x2,x3,x4,x5,x6⟩:=AtC.sev hP.box;have HP:=hJ hP;have HM:=hJ hm;clear hP hm
   go_region_with (go_at_call 14;refine(zd9 aS _ _ _ _ _ _ m _ HP.o.drew.mr HM.o).mono ?_;rintro e w2 ⟨u1,u2,u3,u4,u5,u6,mn,rfl,O2,aK,B2⟩;obtain⟨n1,o1,n2,o2,n3,o3,n4,o4,n5,o5,n6,o6,rfl,rfl,rfl,rfl,rfl,rfl⟩:=O2.mr.form;have A2:=HP.o.drew.box.over B2;have r0:w2.cell? ⟨b,0,none⟩=some (.slice a1 m.1.length c1):=A2.cell 0;have v0:=A2.frozen 0;have r1:w2.cell? ⟨b,1,none⟩=some (.slice a2 m.2.length c2):=A2.cell 1;have v1:=A2.frozen 1;have r2:w2.cell? ⟨b,2,none⟩=some (.slice a3 m.3.length c3):=A2.cell 2;have v2:=A2.frozen 2;have r3:w2.cell? ⟨b,3,none⟩=some (.slice a4 m.4.length c4):=A2.cell 3;have v3:=A2.frozen 3;have r4:w2.cell? ⟨b,4,none⟩=some (.slice a5 m.5.length c5):=A2.cell 4;have v4:=A2.frozen 4;have r5:w2.cell? ⟨b,5,none⟩=some (.slice a6 m.6.length c6):=A2.cell 5;have v5:=A2.frozen 5;have r6:w2.cell? ⟨b,6,none⟩=some (.int .i64 m.nx):=A2.cell 6;have v6:=A2.frozen 6;have HF:=hJ (zh4 (w:=wc) (T:=(fun k=>k=b\/w5.1.size<=k)) A2 O2 (Chg.of_below (zac B2)) aK (.inl rfl) HP.o.box.lt bC.o);have bV:Hid ((w2.s0 b mn n1 o1 n2 o2 n3 o3 n4 o4 n5 o5 n6 o6).cell? ⟨g,q*11+2,none⟩=some (.int .i64 jo)):=(by have:=HF.o.2.block g (by have:=aD.o.1;have:=aB.o.2.1.size;omega) (fun e=>e.elim bM.o (fun e=>by have:=aD.o.1;omega));exact(World.cell?_of_block (w:=wc) (a:=⟨g,q*11+2,none⟩) this).trans aB.o.2.2.2);clear A2 O2 aK B2)
   all_goals (go_wp2_with fail;go_meet;exact⟨HF.o.1,aB.o.2.1.trans HF.o.2,bV.o⟩)
  obtain⟨aX,bH,cB⟩:=hcut;have bI:=hJ aX;have aQ:=hJ bH;clear aX bH aB aO bC d0;go_wp2_with fail
  refine(zg4 (fun k=>k=b\/w5.1.size<=k) b jo wc bI.o (fun k hk=>.inr (by have:=aQ.o.size;omega)) aH aG).mono ?_;rintro e wz ⟨rfl,bz,cz⟩;have HZ:Hid ((Bw w5 wz\/BT Y wz (fun k=>k=b\/w5.1.size<=k) b)/\Chg (fun k=>k=b\/w5.1.size<=k) w5 wz):=⟨.inr bz,aQ.o.trans cz⟩
  clear bz cz bI aQ cB;go_wp2;go_roundw
  case rel=>exact⟨q+1,oM,gK,HZ.o⟩
  simp[intOf];omega
 have HN:Hid (BT Z wr T b/\Chg T w wr):=by
  refine⟨?_,(bJ.o wr HR.o.2).2.2⟩;rcases HR.o.1 with e|e
  ·exact⟨_,_,_,_,_,_,_,m5,HP.o.below e,fun k hk=>(bN.o k hk.1).1,aM.o.1,HM.o.weak aY.o⟩
  exact(e.weak aY.o).mono fun k hk=>hk.elim (fun e=>by rw[e];exact aM.o.1) (fun e=>(aV.o k (by have:=aT.o.size;omega)).1)
 clear HR;go_wp2
 go_end0
 exact⟨rfl,HN.o⟩
namespace Kit
def more(s:BA):Nat->Nat->Nat->List BA
 | 0,b,_=>[s.extract b s.size]
 | f+1,b,i=>if h:i<s.size then(if (s[i]).toNat=47 then s.extract b i::more s f (i+1) (i+1)else more s f b (i+1))else[s.extract b s.size]
def rest(s:BA)(b i:Nat):List BA:=more s (s.size-i) b i
theorem zjr(s:BA)(b i:Nat)(h:s.size<=i):rest s b i=[s.extract b s.size]:=by
 unfold rest;rw[Nat.sub_eq_zero_of_le h];rfl
theorem zjs(s:BA)(b i:Nat)(h:i<s.size)(hc:(s[i]).toNat=47):rest s b i=s.extract b i::rest s (i+1) (i+1):=by
 exact cQ141
theorem zhr(s:BA)(b i:Nat)(h:i<s.size)(hc:(s[i]).toNat≠47):rest s b i=rest s b (i+1):=by
 exact cQ141
theorem zd7(s:BA)(b:Nat):∀(k i:Nat),(∀j,i<=j->j<i+k->∃h:j<s.size,(s[j]).toNat≠47)->rest s b i=rest s b (i+k)
 | 0,_,_=>rfl
 | k+1,i,h=>by
  obtain⟨h1,h2⟩:=h i nR oM;rw[zhr s b i h1 h2,zd7 s b k (i+1) (fun j a c=>h j oM oM)];congr 1;omega
def good(l:List BA):Prop:=(∀s∈l,zat s=true)/\l.length<=4
def zcm(p:BA):Prop:=∃h:0<p.size,(p[0]).toNat=47
def Ans(p:BA)(l:List BA)(ok:Bool):Prop:=(¬zcm p/\l=[]/\ok=false)\/(zcm p/\p.size=1/\l=[]/\ok=true)\/(zcm p/\1<p.size/\good (rest p 1 1)/\l=rest p 1 1/\ok=true)\/(zcm p/\1<p.size/\¬good (rest p 1 1)/\l=[]/\ok=false)
theorem ans_ex(p:BA):∃l ok,Ans p l ok/\l.length<=4:=by
 by_cases h:zcm p
 ·obtain⟨h0,_⟩:=id h;by_cases h1:p.size=1
  ·exact⟨[],true,.inr (.inl ⟨h,h1,rfl,rfl⟩),sI⟩
  by_cases h2:good (rest p 1 1)
  ·exact⟨_,true,.inr (.inr (.inl ⟨h,oM,h2,rfl,rfl⟩)),h2.2⟩
  exact⟨[],false,.inr (.inr (.inr ⟨h,oM,h2,rfl,rfl⟩)),sI⟩
 exact⟨[],false,.inl ⟨h,rfl,rfl⟩,sI⟩
theorem Ans.none{p:BA}{l:List BA}{ok:Bool}(h:Ans p l ok)(hb:¬zcm p):l=[]/\ok=false:=by
 rcases h with h|h|h|h
 ·exact h.2
 all_goals exact absurd h.1 hb
theorem Ans.root{p:BA}{l:List BA}{ok:Bool}(h:Ans p l ok)(hb:zcm p)(h1:p.size=1):l=[]/\ok=true:=by
 rcases h with h|h|h|h
 ·exact absurd hb h.1
 ·exact h.2.2
 ·omega
 omega
theorem Ans.bad{p:BA}{l:List BA}{ok:Bool}(h:Ans p l ok)(hb:zcm p)(h1:1<p.size)(hg:¬good (rest p 1 1)):l=[]/\ok=false:=by
 rcases h with h|h|h|h
 ·exact absurd hb h.1
 ·omega
 ·exact absurd h.2.2.1 hg
 exact h.2.2.2
theorem Ans.good{p:BA}{l:List BA}{ok:Bool}(h:Ans p l ok)(hb:zcm p)(h1:1<p.size)(hg:good (rest p 1 1)):l=rest p 1 1/\ok=true:=by
 rcases h with h|h|h|h
 ·exact absurd hb h.1
 ·omega
 ·exact h.2.2.2
 exact absurd hg h.2.2.1
theorem zek{l a b:List BA}{x:BA}(h:l=a++x::b)(hx:zat x=false):¬good l:=fun hg=>by
 have:=hg.1 x (by rw[h];simp);rw[hx]at this;exact absurd this dC
theorem zhs{l:List BA}(h:4<l.length):¬good l:=fun hg=>by have:=hg.2;omega
theorem zmc{p:BA}(h:0<p.size){c:Nat}(hc:(p[0]).toNat=c)(h47:c=47):zcm p:=⟨h,by rw[hc,h47]⟩
theorem zkp{p:BA}(h:0<p.size){c:Nat}(hc:(p[0]).toNat=c)(h47:c≠47):¬zcm p:=fun⟨_,e⟩=>h47 (by rw[←hc];exact e)
theorem zfd{p:BA}(h:p.size=0):¬zcm p:=fun⟨e,_⟩=>by omega
theorem one_iff(p:BA)(h:0<p.size)(hc:(p[0]).toNat=47):(p.toList==([47]:List UInt8))=decide (p.size=1):=by
 have hl:p.toList=p.data.toList:=ByteArray.toList_eq ..;have hz:p.data.toList.length=p.size:=rfl;by_cases h1:p.size=1
 ·have:p.toList=[47]:=by
   rw[hl]
   cases he:p.data.toList with
   | nil=>rw[he]at hz;simp at hz;omega
   | cons a r =>
    rw[he]at hz
    cases r with
    | nil =>
     have:p[0]=a:=by
      show p.data[0]=a;have e2:p.data.toList[0]?=some a:=by rw[he];rfl
      rw[Array.getElem?_toList]at e2;exact Option.some.inj ((Array.getElem?_eq_getElem (by exact h)).symm.trans e2)
     rw[this]at hc;have:a=47:=UInt8.toNat_inj.1 (by rw[hc];rfl);rw[this]
    | cons b r=>simp at hz;omega
  rw[this];simp[h1]
 rw[dF h1];apply beq_eq_false_iff_ne.mpr;intro e;rw[hl]at e;rw[e]at hz;simp at hz;omega
theorem Ans.one{p:BA}{l l2:List BA}{r r2:Bool}(h:Ans p l r)(h2:Ans p l2 r2):l=l2/\r=r2:=by
 rcases h2 with h2|h2|h2|h2
 ·rw[h2.2.1,h2.2.2];exact h.none h2.1
 ·rw[h2.2.2.1,h2.2.2.2];exact h.root h2.1 h2.2.1
 ·rw[h2.2.2.2.1,h2.2.2.2.2];exact h.good h2.1 h2.2.1 h2.2.2.1
 rw[h2.2.2.2.1,h2.2.2.2.2];exact h.bad h2.1 h2.2.1 h2.2.2.1
theorem Ans.all{p:BA}{l:List BA}{r:Bool}(h:Ans p l r):(r=true->l.length<=4/\∀s∈l,zat s=true)/\(r=false->l=[]):=by
 rcases h with⟨_,rfl,rfl⟩| ⟨_,_,rfl,rfl⟩| ⟨_,_,g,rfl,rfl⟩| ⟨_,_,_,rfl,rfl⟩
 ·exact⟨fun e=>absurd e dC,fun _=>rfl⟩
 ·exact⟨fun _=>⟨dC,fun s hs=>by simp at hs⟩,fun _=>rfl⟩
 ·exact⟨fun _=>⟨g.2,g.1⟩,fun e=>absurd e dC⟩
 exact⟨fun e=>absurd e dC,fun _=>rfl⟩
def stc(l:List BA):List Va:=l.map fun z=>Value.string z
theorem zaj(l:List BA):(stc l).length=l.length:=by simp[stc]
theorem zbj(a b:List BA):stc (a++b)=stc a++stc b:=by simp[stc]
end Kit
def SpE(B:Nat)(w:Wd)(e:Ending)(l:List BA)(ok:Bool):Prop:=∃lv:Value,e=.returned (.tuple #[lv,.bool ok])/\ROwns w B 9 lv (stc l)
theorem SpE.eq{B:Nat}{w:Wd}{l l':List BA}{ok ok':Bool}(h:l'=l/\ok'=ok){lv:Va}(ho:ROwns w B 9 lv (stc l)):SpE B w (.returned (.tuple #[lv,.bool ok])) l' ok':=by
 obtain⟨rfl,rfl⟩:=h;exact⟨lv,rfl,ho⟩
def SpR(p:BA)(B:Nat)(w:Wd)(e:Ending):Prop:=∃(lv:Va)(l:List BA)(r:Bool),e=.returned (.tuple #[lv,.bool r])/\ROwns w B 9 lv (stc l)/\(r=true->l.length<=4/\∀s∈l,zat s=true)/\(r=false->l=[])/\Ans p l r
def left(p:BA)(b n:Nat):List BA:=if n<=p.size then rest p b n else[]
theorem zjt{p:BA}{b n:Nat}(h:n<p.size)(hc:(p[n]).toNat=47):left p b n=p.extract b n::left p (n+1) (n+1):=by
 unfold left;rw[if_pos oM,if_pos oM,zjs p b n h hc]
theorem zmd{p:BA}{b n:Nat}(h:n<p.size)(hc:(p[n]).toNat≠47):left p b n=left p b (n+1):=by
 unfold left;rw[if_pos oM,if_pos oM,zhr p b n h hc]
theorem zju{p:BA}{b n:Nat}(h:n=p.size):left p b n=p.extract b n::left p (n+1) (n+1):=by
 unfold left;rw[if_pos oM,if_neg oM,zjr p b n oM,h]
theorem zme{p:BA}{b n:Nat}(h:p.size<n):left p b n=[]:=if_neg oM
theorem Tryz.u44:Tryz.prog.underlying 44=some (.slice 9):=by kernel_rfl
theorem Tryz.i9:(Tryz.prog.info? 9).map (fun i=>(i.zero,i.size,i.bytes))=some (some (eT),1,16):=by kernel_rfl
theorem zgy(p:BA)(w:Wd)(hp:p.size<=1048576)(al:List BA)(ok:Bool)(ha:Ans p al ok):
  Calls Tryz.prog 200 #[.string p] w fun e w'=>SpE w.1.size w' e al ok/\Bw w w':=by
 have aC:=hJ ha;clear ha;have H0:Hid (ROwns (w.n #[] 9) w.1.size 9 (.slice (aA w.1.size 0) 0 0) (stc [])/\Bw w (w.n #[] 9)):=⟨ROwns.lit0 w _ 9 nR,(bF _ w).alloc nR _⟩
 by_cases h0:p.size=0
 ·have HN:=hJ (aC.o.none (zfd h0));have e0:p=⟨#[]⟩:=by
   cases p with| mk d=>cases d with| mk l=>cases l with| nil=>rfl|cons a b=>simp[ByteArray.size]at h0
  clear aC;subst e0;go_enter Tryz.func200,Tryz.ntmps200
  go_wp2
  go_ret2
  exact⟨SpE.eq HN.o H0.o.1,H0.o.2⟩
 have h1:0<p.size:=oM
 have hz:((p.size:Int)==0)=false:=beq_eq_false_iff_ne.mpr oM;obtain⟨c0,aR⟩:∃c0:Nat,(p[0]'h1).toNat=c0:=⟨_,rfl⟩
 by_cases hc:c0=47
 rotate_left
 ·have HN:=hJ (aC.o.none (zkp h1 aR hc));have bH:((c0:Int) != 47)=true:=sO
  go_enter Tryz.func200,Tryz.ntmps200
  go_wp2
  go_ret2
  exact⟨SpE.eq HN.o H0.o.1,H0.o.2⟩
 have aN:=hJ (zmc h1 aR hc);have aK:=one_iff p h1 (by rw[aR,hc]);subst hc;by_cases hq:p.size=1
 ·have HN:=hJ (aC.o.root aN.o hq);rw[dT hq]at aK;go_enter Tryz.func200,Tryz.ntmps200
  go_wp2
  go_ret2
  exact⟨SpE.eq HN.o H0.o.1,H0.o.2⟩
 have aT:1<p.size:=oM
 rw[dF hq]at aK;go_enter Tryz.func200,Tryz.ntmps200
 go_wp2_with fail
 clear hz aR aK;go_loopw [6,5,4] (fun i bg lv wr=>∃(n b:Nat)(l:List BA),1<=b/\b<=n/\n<=p.size+1/\i=.int .i64 n/\bg=.int .i64 b/\Hid (ROwns wr w.1.size 9 lv (stc l)/\l.length<=n/\(∀s∈l,zat s=true)/\rest p 1 1=l++left p b n/\Bw w wr)) (fun i bg lv _=>p.size+2-(intOf i).toNat)
 case atStart=>exact⟨1,1,[],Nat.le_refl _,Nat.le_refl _,oM,rfl,rfl,H0.o.1,zL _,fun s hs=>by simp at hs,by unfold left;rw[if_pos oM];rfl,H0.o.2⟩
 obtain⟨n,b,l,bI,bK,bL,rfl,rfl,HR⟩:=hrel;have n0:(0:Int)<=(n:Int):=oM
 have b0:(0:Int)<=(b:Int):=oM
 by_cases hle:n<=p.size
 ·have n1:(n:Int)<=(p.size:Int):=oM
  have bJ:(b:Int)<=(n:Int):=oM
  have HX:Hid ((p.extract b n).size<=1048576):=by show _<=_;rw[ByteArray.size_extract];omega
  obtain⟨r,hr⟩:∃r,zat (p.extract b n)=r:=⟨_,rfl⟩
  have CN:Hid (∀W,Calls Tryz.prog 165 #[.string (p.extract b n)] W fun e w'=>e=.returned (.bool r)/\Bw W w'):=fun W=>by rw[←hr];exact zca _ W HX.o
  have HNR:=hJ hr;clear hr HX;have bC:Hid ((stc l).length<=100000000000):=by have:=HR.o.2.1;show _<=_;rw[zaj];omega
  by_cases hlt:n<p.size
  ·obtain⟨c,hc⟩:∃c:Nat,(p[n]).toNat=c:=⟨_,rfl⟩
   have HC:=hJ hc;have n2:(n:Int)<(p.size:Int):=oM
   by_cases h47:c=47
   ·subst h47
    cases r with
    | false =>
     have aF:=hJ (aC.o.bad aN.o aT (zek (HR.o.2.2.2.1.trans (by rw[zjt hlt HC.o])) HNR.o));go_wp2_with (go_at_call 165;refine(CN.out _).mono ?_;rintro e w2 ⟨rfl,B2⟩;have aB:=hJ (HR.o.2.2.2.2.trans (B2.mono HR.o.2.2.2.2.size));clear B2)
     go_ret2
     exact⟨SpE.eq aF.o (ROwns.lit0 _ _ 9 aB.o.size),aB.o.alloc aB.o.size _⟩
    | true =>
     go_wp2_with (first| (go_at_call 165;refine(CN.out _).mono ?_;rintro e w2 ⟨rfl,B2⟩;have aB:=hJ (HR.o.2.2.2.2.trans (B2.mono HR.o.2.2.2.2.size));have HT:Hid (ROwns (w2.n #[.string (p.extract b n)] 9) w.1.size 9 u4 (stc l)):=(HR.o.1.below B2 nR).alloc _;have aU:Hid ((w2.n #[.string (p.extract b n)] 9).cell? ⟨w2.1.size,0,none⟩=some (.string (p.extract b n))):=(AtC.new w2 9 #[.string (p.extract b n)]).cell 0;have aL:Hid (w.1.size<=(w2.n #[.string (p.extract b n)] 9).1.size):=(aB.o.alloc aB.o.size _).size;clear B2)| (at_builtin;refine wS fun K' aP=>?_;refine zam _ rfl (.tmp 43) (.tmp 48) 44 rfl w.1.size 9 Tryz.u44 _ 16 Tryz.i9 rfl dC u4 _ rfl HT.o aL.o w2.1.size (.string (p.extract b n)) rfl aU.o rfl bC.o ?_;intro aV aQ aM aO aW;refine aP _ _ ?_;have aG:=hJ (aI aM ((aB.o.alloc aB.o.size _).grown aO aL.o (fun k hk=>(HT.o.lt k hk).1)));clear aM aO aW aP))
     have aD:Hid (∃(n' b':Nat)(l':List BA),1<=b'/\b'<=n'/\n'<=p.size+1/\nI ((n:Int)+1)=nI n'/\nI ((n:Int)+1)=nI b'/\Hid (ROwns aQ w.1.size 9 aV (stc l')/\l'.length<=n'/\(∀s∈l',zat s=true)/\rest p 1 1=l'++left p b' n'/\Bw w aQ)):=by
      refine⟨n+1,n+1,l++[p.extract b n],oM,Nat.le_refl _,oM,gK,gK,by rw[zbj];exact aG.o.1,by have:=HR.o.2.1;simp;omega,fun s hs=>?_,?_,aG.o.2⟩
      ·exact cQ92
      rw[HR.o.2.2.2.1,zjt hlt HC.o,List.append_assoc];rfl
     go_roundw
     case rel=>first| exact aD.o|((repeat apply Exists.intro);exact⟨aD.o,rfl⟩)
     simp[intOf];omega
   have bH:((c:Int) != 47)=true:=sO
   have HS:Hid (left p b n=left p b (n+1)):=zmd hlt (by rw[HC.o];exact h47);go_wp2;go_roundw
   case rel=>exact⟨n+1,b,l,bI,oM,oM,gK,rfl,HR.o.1,by have:=HR.o.2.1;omega,HR.o.2.2.1,by rw[←HS.o];exact HR.o.2.2.2.1,HR.o.2.2.2.2⟩
   simp[intOf];omega
  have n2:¬((n:Int)<(p.size:Int)):=oM
  have aX:Hid (n=p.size):=by show _=_;omega
  cases r with
  | false =>
   have aF:=hJ (aC.o.bad aN.o aT (zek (HR.o.2.2.2.1.trans (by rw[zju aX.o])) HNR.o));go_wp2_with (go_at_call 165;refine(CN.out _).mono ?_;rintro e w2 ⟨rfl,B2⟩;have aB:=hJ (HR.o.2.2.2.2.trans (B2.mono HR.o.2.2.2.2.size));clear B2)
   go_ret2
   exact⟨SpE.eq aF.o (ROwns.lit0 _ _ 9 aB.o.size),aB.o.alloc aB.o.size _⟩
  | true =>
   go_wp2_with (first| (go_at_call 165;refine(CN.out _).mono ?_;rintro e w2 ⟨rfl,B2⟩;have aB:=hJ (HR.o.2.2.2.2.trans (B2.mono HR.o.2.2.2.2.size));have HT:Hid (ROwns (w2.n #[.string (p.extract b n)] 9) w.1.size 9 u4 (stc l)):=(HR.o.1.below B2 nR).alloc _;have aU:Hid ((w2.n #[.string (p.extract b n)] 9).cell? ⟨w2.1.size,0,none⟩=some (.string (p.extract b n))):=(AtC.new w2 9 #[.string (p.extract b n)]).cell 0;have aL:Hid (w.1.size<=(w2.n #[.string (p.extract b n)] 9).1.size):=(aB.o.alloc aB.o.size _).size;clear B2)| (at_builtin;refine wS fun K' aP=>?_;refine zam _ rfl (.tmp 43) (.tmp 48) 44 rfl w.1.size 9 Tryz.u44 _ 16 Tryz.i9 rfl dC u4 _ rfl HT.o aL.o w2.1.size (.string (p.extract b n)) rfl aU.o rfl bC.o ?_;intro aV aQ aM aO aW;refine aP _ _ ?_;have aG:=hJ (aI aM ((aB.o.alloc aB.o.size _).grown aO aL.o (fun k hk=>(HT.o.lt k hk).1)));clear aM aO aW aP))
   have aD:Hid (∃(n' b':Nat)(l':List BA),1<=b'/\b'<=n'/\n'<=p.size+1/\nI ((n:Int)+1)=nI n'/\nI ((n:Int)+1)=nI b'/\Hid (ROwns aQ w.1.size 9 aV (stc l')/\l'.length<=n'/\(∀s∈l',zat s=true)/\rest p 1 1=l'++left p b' n'/\Bw w aQ)):=by
    refine⟨n+1,n+1,l++[p.extract b n],oM,Nat.le_refl _,oM,gK,gK,by rw[zbj];exact aG.o.1,by have:=HR.o.2.1;simp;omega,fun s hs=>?_,?_,aG.o.2⟩
    ·exact cQ92
    rw[HR.o.2.2.2.1,zju aX.o,List.append_assoc];rfl
   go_roundw
   case rel=>first| exact aD.o|((repeat apply Exists.intro);exact⟨aD.o,rfl⟩)
   simp[intOf];omega
 have n1:¬((n:Int)<=(p.size:Int)):=oM
 have aH:Hid (rest p 1 1=l):=by have:=HR.o.2.2.2.1;rw[zme oM,List.append_nil]at this;exact this
 obtain⟨la,lc,rfl,-⟩:=HR.o.1.form;obtain⟨ll,aS⟩:∃ll,(stc l).length=ll:=⟨_,rfl⟩
 have aY:l.length=ll:=by rw[←aS,zaj]
 rw[aS]at HR;rw[aS];have aZ:=hJ aY;clear aS aY;by_cases h4:4<ll
 ·have bG:(4:Int)<(ll:Int):=oM
  have aF:=hJ (aC.o.bad aN.o aT (zhs (by rw[aH.o,aZ.o];exact h4)));have HE:Hid (ROwns (wr.n #[] 9) w.1.size 9 (.slice (aA wr.1.size 0) 0 0) (stc [])/\Bw w (wr.n #[] 9)):=⟨ROwns.lit0 wr _ 9 HR.o.2.2.2.2.size,HR.o.2.2.2.2.alloc HR.o.2.2.2.2.size _⟩
  clear HR;go_wp2
  go_ret2
  exact⟨SpE.eq aF.o HE.o.1,HE.o.2⟩
 have bG:¬((4:Int)<(ll:Int)):=oM
 have bE:Hid (al=l/\ok=true):=by
  have:=aC.o.good aN.o aT ⟨fun s hs=>HR.o.2.2.1 s (by rwa[aH.o]at hs),by rw[aH.o,aZ.o];omega⟩;rw[aH.o]at this;exact this
 go_wp2
 go_ret2
 exact⟨SpE.eq bE.o HR.o.1,HR.o.2.2.2.2⟩
theorem zdu(p:BA)(w:Wd)(hp:p.size<=1048576):
  Calls Tryz.prog 200 #[.string p] w fun e w'=>SpR p w.1.size w' e/\Bw w w':=by
 obtain⟨al,ok,ha,-⟩:=ans_ex p;exact(zgy p w hp al ok ha).mono fun _ _ ⟨⟨lv,h1,h2⟩,h3⟩=>⟨⟨lv,al,ok,h1,h2,ha.all.1,ha.all.2,ha⟩,h3⟩
namespace Kit
theorem zi3(l:List BA)(j:Nat)(h:j<l.length):(stc l)[j]?=some (.string l[j]):=by simp[stc,h]
theorem stc_set(l:List BA)(j:Nat)(t:BA):(stc l).set j (.string t)=stc (l.set j t):=by simp[stc,List.map_set]
def RSt(w:Wd)(v:Va)(xs:List BA):Prop:=∃a cap,v=.slice a xs.length cap/\∀(j:Nat)(h:j<xs.length),∃g off,a=some ⟨g,off,none⟩/\g<w.1.size/\w.cell? ⟨g,off+j,none⟩=some (.string xs[j])
theorem RSt.below{w w':Wd}{B:Nat}{v:Va}{xs:List BA}(h:RSt w v xs)(hb:Below B w w')(hB:w.1.size<=B):RSt w' v xs:=by
 exact cQ43
theorem ROwns.rst{w:Wd}{base:Nat}{e:TypeId}{v:Va}{xs:List BA}(h:ROwns w base e v (stc xs)):RSt w v xs:=by
 obtain⟨a,cap,rfl,_⟩:=h.form;refine⟨a,cap,by rw[zaj],fun j hj=>?_⟩;obtain⟨g,c,e1,k1,_,_,k4,_⟩:=h.at j (by rw[zaj];exact hj);simp only[vJ]at e1;refine⟨g,0,e1.1,k4,?_⟩;rw[zA_,k1];simp[stc,hj]
theorem RSt.alloc{w:Wd}{v:Va}{xs:List BA}(h:RSt w v xs)(o:Obj):RSt (w.alloc o) v xs:=h.below ((bF _ w).alloc nR o) nR
theorem RSt.drew{w:Wd}{v:Va}{xs:List BA}(h:RSt w v xs):RSt w.drew v xs:=h.below (bF w.1.size w).drew nR
theorem RSt.form{w:Wd}{v:Va}{xs:List BA}(h:RSt w v xs):∃a c,v=.slice a xs.length c:=by
 obtain⟨a,c,h,_⟩:=h;exact⟨a,c,h⟩
end Kit
namespace Kit
def AtO(T:TypeId)(w:Wd)(b:Nat)(v:Va):Prop:=w.1[b]?=some (.cells #[v] T (0,0))
theorem AtO.lt{T:TypeId}{w:Wd}{b:Nat}{v:Va}(h:AtO T w b v):b<w.1.size:=(Array.getElem?_eq_some_iff.1 h).1
theorem AtO.new(T:TypeId)(w:Wd)(v:Va):AtO T (w.alloc (.cells #[v] T)) w.1.size v:=za2 w _
theorem AtO.alloc{T:TypeId}{w:Wd}{b:Nat}{v:Va}(h:AtO T w b v)(o:Obj):AtO T (w.alloc o) b v:=(Below.heap_alloc _ _ _ h.lt).trans h
theorem AtO.below{T:TypeId}{w w':Wd}{b B:Nat}{v:Va}(h:AtO T w b v)(hb:Below B w w')(hB:b<B):AtO T w' b v:=(hb.block b hB).trans h
theorem AtO.grown{T:TypeId}{w w':Wd}{b:Nat}{v:Va}{row:Option Nat}(h:AtO T w b v)(hg:w.grownBy w' row)(hr:row≠some b):AtO T w' b v:=(hg.block b h.lt (fun e=>hr e.symm)).trans h
theorem AtO.cell{T:TypeId}{w:Wd}{b:Nat}{v:Va}(h:AtO T w b v):w.cell? ⟨b,0,none⟩=some v:=by
 have h':w.1[b]?=some (.cells #[v] T (0,0)):=h;simp[World.cell?,h']
theorem AtO.frozen{T:TypeId}{w:Wd}{b:Nat}{v:Va}(h:AtO T w b v):w.frozen? ⟨b,0,none⟩=false:=by
 have h':w.1[b]?=some (.cells #[v] T (0,0)):=h;simp[World.frozen?,h']
theorem AtO.set_other{T:TypeId}{w:Wd}{b:Nat}{v:Va}(h:AtO T w b v){B j:Nat}(hne:b≠B)(x:Va):AtO T (w.setCell ⟨B,j,none⟩ x) b v:=(hO_ w ⟨B,j,none⟩ b x hne).trans h
theorem AtO.set{T:TypeId}{w:Wd}{b:Nat}{v:Va}(h:AtO T w b v)(x:Va):AtO T (w.setCell ⟨b,0,none⟩ x) b x:=heap_setCell_same w b 0 _ T x h
theorem AtO.drew{T:TypeId}{w:Wd}{b:Nat}{v:Va}(h:AtO T w b v):AtO T w.drew b v:=h
def zbu(xs:List BA):Bool:=xs.all fun t=>decide (t.size<=60)
def okD(xs:List BA):Bool:=(xs.length==21)&&zbu xs
theorem short_of{xs:List BA}{j:Nat}(h:∀k (hk:k<xs.length),k<j->xs[k].size<=60)(hj:xs.length<=j):zbu xs=true:=by
 unfold zbu;rw[List.all_eq_true];intro t ht;obtain⟨k,hk,rfl⟩:=List.getElem_of_mem ht;simpa using h k hk oM
theorem short_no{xs:List BA}{j:Nat}(hj:j<xs.length)(h:60<xs[j].size):zbu xs=false:=by
 unfold zbu;rw[List.all_eq_false];exact⟨xs[j],gM_ hj,by simpa using h⟩
theorem okD_no{xs:List BA}(h:zbu xs=false):okD xs=false:=by simp[okD,h]
theorem zmu{xs:List BA}(h:zbu xs=true):okD xs=((xs.length:Int)==21):=by
 unfold okD;rw[h,Bool.and_true,Bool.eq_iff_iff];simp;omega
end Kit
theorem zdj(v:Va)(xs:List BA)(w:Wd)(hv:RSt w v xs)(hl:xs.length<=1048576)(hs:∀(j:Nat)(h:j<xs.length),xs[j].size<=1048576):
  Calls Tryz.prog 19 #[.agg #[v]] w fun e w'=>e=.returned (.bool (okD xs))/\Bw w w':=by
 obtain⟨a,c,rfl,hc⟩:=hv;have HC:=hJ hc;have HS:=hJ hs;obtain⟨r,hr⟩:∃r,okD xs=r:=⟨_,rfl⟩
 rw[hr];have HR:=hJ hr;clear hc hs hr;have hB:=(bF w.1.size w).alloc nR (.cells #[sL a xs c] 46);have c0:=(AtO.new 46 w (sL a xs c)).cell;have l0:=(AtO.new 46 w (sL a xs c)).lt;obtain⟨W,hW⟩:∃W,w.alloc (.cells #[sL a xs c] 46)=W:=⟨_,rfl⟩
 rw[hW]at hB c0 l0;have HB:=hJ hB;clear hB;go_enter Tryz.func19,Tryz.ntmps19
 go_wp2;go_loopw [3] (fun i wr=>∃j:Nat,j<=xs.length/\i=.int .i64 j/\Hid (∀(k:Nat)(h:k<xs.length),k<j->xs[k].size<=60)/\W=wr) (fun i _=>xs.length-(intOf i).toNat)
 case atStart=>exact⟨0,zL _,rfl,fun _ _ h=>absurd h (Nat.not_lt_zero _),rfl⟩
 obtain⟨j,hj,rfl,HK,rfl⟩:=hrel;clear hW;by_cases hlt:j<xs.length
 ·obtain⟨g,aB,rfl,hg,m1⟩:=HC.o j hlt;have m2:=(HB.o.cell (p:=⟨g,aB+j,none⟩) hg).trans m1;have aC:=HS.o j hlt;obtain⟨t,ht⟩:∃t,xs[j]=t:=⟨_,rfl⟩
  rw[ht]at m2 aC;have HT:=hJ ht;have j0:(0:Int)<=(j:Int):=oM
  have j1:(j:Int)<(xs.length:Int):=oM
  clear ht m1;by_cases hs:60<t.size
  ·go_wp2;go_ret;exact⟨by rw[←HR.o,okD_no (short_no hlt (by rw[HT.o];exact hs))];rfl,HB.o⟩
  go_wp2;go_roundw
  case rel=>exact⟨j+1,oM,gK,fun k hk h=>by
    by_cases hkj:k<j
    ·exact HK.o k hk hkj
    have:k=j:=oM
    subst this;rw[HT.o];omega,by trivial⟩
  simp[intOf];omega
 have HF:=hJ (short_of HK.o oM);go_wp2;go_ret;exact⟨by rw[←HR.o,zmu HF.o];rfl,HB.o⟩
namespace Kit
theorem zet{P:Program}(w:Wd)(t ty:TypeId)(base:Nat)(e:TypeId)(ht:P.underlying t=some (.slice e))(z:Va)(bytes:Nat)
  (hi:(P.info? e).map (fun i=>(i.zero,i.size,i.bytes))=some (some z,1,bytes)) (hzc:z.cells.size=1) (hby:bytes<=64) (v:Va) (ys xs:List BA) (hown:ROwns w base e v (stc ys))
  (hbase:base<=w.1.size) (x:Va) (hx:RSt w x xs) (hl:ys.length+xs.length<=1000000000000) :
  ∃v' w',(Builtin.append_ #[t,t] ty #[v,x]).run P w=.ok v' w'/\ROwns w' base e v' (stc (ys++xs))/\w.grownBy w' v.ownBlock/\(v'.ownBlock=v.ownBlock\/v'.ownBlock=some w.1.size):=by
 obtain⟨i0,hi,aH,aK,aF⟩:=info_parts hi;obtain⟨a,c,rfl,hc⟩:=hx
 cases a with
 | none =>
  have aG:xs=[]:=by
   cases xs with
   | nil=>rfl
   | cons y r=>obtain⟨_,_,h,_⟩:=hc 0 sI;cases h
  subst aG;obtain⟨av,cv,rfl,-⟩:=hown.form;have aL:(stc ys).length<=cv:=by
   rcases hown.2 with⟨h1,h0⟩| ⟨g,cap,cur,h1,-,-,h4,-⟩
   ·rw[h0];exact zL _
   simp only[vJ]at h1;omega
  have hr:=run_append_nothing (P:=P) w t t ty e i0 ht hi av (stc ys).length cv aL (.slice none 0 c) (Src.ofNil w ht c);exact⟨_,w,hr,by rw[List.append_nil];exact hown,zal bR _,.inl rfl⟩
 | some ad =>
  have aM:=Nat.mul_le_mul hl hby;have aB:w.ownsRow base e 1 v ys.length (stc ys):=by have:w.ownsRow base e 1 v (stc ys).length (stc ys):=hown;rwa[zaj]at this
  obtain⟨v',w',hr,h2,h3,_,h5⟩:=run_append_own_at (P:=P) w base t ty e i0 z 1 bytes ht hi aH aK aF hzc dC v ys.length (stc ys) aB ad xs.length c (stc xs) (by rw[zaj,Nat.mul_one])
   (fun j u hj=>by
    have aC:j<xs.length:=by have:=(List.getElem?_eq_some_iff.1 hj).1;rwa[zaj]at this
    rw[zi3 xs j aC]at hj
    cases hj
    obtain⟨g,aD,e1,-,h4⟩:=hc j aC
    cases e1
    have ha:(⟨g,aD,none⟩:Addr).add j=⟨g,aD+j,none⟩:=by cases j<;>simp[Addr.add]
    rw[ha,h4])
   (fun u hu=>by simp only[stc,List.mem_map]at hu;obtain⟨_,-,rfl⟩:=hu;rfl)
   (by unfold maxLen;omega) oM hbase
  refine⟨v',w',hr,?_,h3,h5⟩;unfold ROwns;rw[zbj,lA,zaj,zaj];exact h2
theorem zdk{P:Program}(w:Wd){ops:Array Oper}{rest:List Oper}{o:Oper}{a:Act}{Q:Exit->Act->Wd->Prop}(hgd:o.guard=none)(s x:Operand)(t:TypeId)
  (ho:o.op=.call { callee:=.builtin .append,args:=#[s,x],argTypes:=#[t,t] }) (base:Nat) (e:TypeId) (ht:P.underlying t=some (.slice e)) (z:Va) (bytes:Nat)
  (hi:(P.info? e).map (fun i=>(i.zero,i.size,i.bytes))=some (some z,1,bytes)) (hzc:z.cells.size=1) (hby:bytes<=64) (v u:Va) (ys xs:List BA) (hs:a.eval s=v) (hu:a.eval x=u) (hown:ROwns w base e v (stc ys))
  (hbase:base<=w.1.size) (hx:RSt w u xs) (hl:ys.length+xs.length<=1000000000000)
  (h:∀v' w',ROwns w' base e v' (stc (ys++xs))->w.grownBy w' v.ownBlock->(v'.ownBlock=v.ownBlock\/v'.ownBlock=some w.1.size)->wpList P ops Q rest (a.put o.dst v') w'):wpList P ops Q (o::rest) a w:=by
 refine wpList_plain hgd fun K hK=>?_;obtain⟨v',w',hr,h2,h3,h4⟩:=zet (P:=P) w t o.type base e ht z bytes hi hzc hby v ys xs hown hbase u hx hl;unfold Oper.wp execOp;simp only[ho,resolve,invoke,builtin,Sem.run_bind,Sem.run_pure,Result.andThen_ok,List.map_toArray,List.map_cons,List.map_nil,hs,hu,hr];exact hK _ _ (h v' w' h2 h3 h4)
theorem ROwns.whole{w:Wd}{base g:Nat}{e:TypeId}{l:List Va}(h:ROwns w base e (.slice (aA g 0) l.length l.length) l):w.1[g]?=some (.cells l.toArray e (0,0)):=by
 rcases h.2 with⟨h1,h0⟩| ⟨g',cap,cur,h1,-,h3,-,-,h6,h7⟩
 ·cases h1
 simp only[vJ,oJ,aJ]at h1;obtain⟨⟨rfl,-,-⟩,-,rfl⟩:=h1;rw[h3];congr 2
 apply Array.ext';rw[Nat.mul_one,tL (by rw[Array.length_toList];omega)]at h7;simpa using h7
def okW(xs:List BA)(u:Int)(s:BA):Bool:=okD xs&&(decide (0<=u)&&decide (u<21))&&decide (s.size<=60)
def wrD(xs:List BA)(u:Int)(s:BA):List BA:=if okW xs u s then xs.set u.toNat s else xs
theorem zmv{xs:List BA}{u:Int}{s:BA}(h:okW xs u s=false):wrD xs u s=xs:=by simp[wrD,h]
theorem wrD_yes{xs:List BA}{u:Int}{s:BA}(h:okW xs u s=true):wrD xs u s=xs.set u.toNat s:=by simp[wrD,h]
end Kit
theorem in_any(u:Int)(w:Wd):Calls Tryz.prog 50 #[nI u,nI 0,nI 20] w fun e w'=>e=.returned (.bool (decide (0<=u)&&decide (u<21)))/\w=w':=by
 by_cases h:0<=u
 ·have b0:decide (0<=u)=true:=by simpa using h
  by_cases h2:u<21
  ·have b1:decide (u<21)=true:=by simpa using h2
   exact cQ133
  have b1:decide (u<21)=false:=by simpa using h2
  exact cQ133
 have b0:decide (0<=u)=false:=by simpa using h
 rw[b0,Bool.false_and];go_enter Tryz.func50,Tryz.ntmps50
 go_wp2;go_ret;exact⟨gK,rfl⟩
theorem zg3(v:Va)(xs:List BA)(u:Int)(s:BA)(w:Wd)(hv:RSt w v xs)(hl:xs.length<=1048576)(hs:∀(j:Nat)(h:j<xs.length),xs[j].size<=1048576)(hz:s.size<=1048576):
  Calls Tryz.prog 17 #[.agg #[v],nI u,.string s] w fun e w'=>∃v',e=.returned (.tuple #[.agg #[v'],.bool (okW xs u s)])/\ROwns w' w.1.size 9 v' (stc (wrD xs u s))/\Bw w w':=by
 obtain⟨a,c,rfl⟩:=hv.form;obtain⟨r,hr⟩:∃r,okD xs=r:=⟨_,rfl⟩
 have HR:=hJ hr;have HL:=hJ hl;have C1:=hJ (fun(v:Va)(w:Wd)(hv:RSt w v xs)=>zdj v xs w hv hl hs);rw[hr]at C1
 -- the blocks ahead of the append
 have HV:=hJ hv;clear hs hr hv;obtain⟨W,hW⟩:∃W,((w.alloc (.cells #[sL a xs c] 46)).alloc (.cells #[nZ] 46)).alloc (.cells #[] 9)=W:=⟨_,rfl⟩
 have z0:W.1.size=w.1.size+1+1+1:=by rw[←hW];simp
 have A1:AtO 46 W w.1.size (sL a xs c):=by rw[←hW];exact((AtO.new 46 w _).alloc _).alloc _
 have A2:AtO 46 W (w.1.size+1) (nZ):=by
  rw[←hW];have:=(AtO.new 46 (w.alloc (.cells #[sL a xs c] 46)) (nZ)).alloc (.cells #[] 9)
  rwa[wA_]at this
 have A3:ROwns W (w.1.size+1+1) 9 (.slice (aA (w.1.size+1+1) 0) 0 0) (stc []):=by
  rw[←hW];have:=ROwns.lit0 ((w.alloc (.cells #[sL a xs c] 46)).alloc (.cells #[nZ] 46)) (w.1.size+1+1) 9 sI
  rwa[wA_,wA_]at this
 have A4:Bw w W:=by rw[←hW];exact(((bF _ w).alloc nR _).alloc sI _).alloc sO _
 have A5:RSt W (sL a xs c) xs:=by rw[←hW];exact((HV.o.alloc _).alloc _).alloc _
 have c0:=A1.cell;have l0:=A1.lt;have HA:=hJ (aI A1 (aI A2 (aI A3 (aI A4 A5))));have aD:=hJ z0;clear A1 A2 A3 A4 A5;go_enter Tryz.func17,Tryz.ntmps17
 go_wp2_with (at_builtin;refine zdk W rfl _ _ 44 rfl (w.1.size+1+1) 9 Tryz.u44 (.string ByteArray.empty) 16 Tryz.i9 rfl dC (.slice (aA (w.1.size+1+1) 0) 0 0) (sL a xs c) [] xs (by rfl) (by rfl) HA.o.2.2.1 (by rw[aD.out];omega) HA.o.2.2.2.2 (by have:=HL.o;simp;omega) ?_;intro v1 w1 R1 R2 R3;clear R3;rw[List.nil_append]at R1;obtain⟨a1,c1,rfl⟩:=R1.rst.form;have X1:=HA.o.1.grown R2 (fun e=>by simp[Value.ownBlock]at e;omega);have aK:=X1.cell;have l1:=X1.lt;have aB:=hJ (aI R1 (aI R2 X1));clear R1 R2 X1)
 clear c0 l0 hW;obtain⟨X1,X2,X3⟩:AtO 46 w1 w.1.size (sL a xs c)/\AtO 46 w1 (w.1.size+1) (nZ)/\Bw w w1:=by
  have G:=aB.o.2.1;have b1:Below (w.1.size+1+1) W w1:=⟨G.os,G.tape,G.output,G.size,fun k hk=>G.block k (by rw[aD.out];omega) (fun e=>by simp[Value.ownBlock]at e;omega)⟩
  exact⟨aB.o.2.2,HA.o.2.1.below b1 oM,HA.o.2.2.2.1.trans (b1.mono oM)⟩
 have X4:=HV.o.below X3 nR;have hO:=aB.o.1;have H1:=hJ (aI X1 (aI X2 (aI X3 (aI X4 hO))));clear X1 X2 X3 X4 hO aB HA aD z0 aK l1;refine(C1.out _ _ (H1.o.2.2.2.1.alloc _)).mono ?_;rintro e w2 ⟨rfl,B2⟩;have aM:=H1.o.2.2.1.size;have Y2:=(H1.o.2.1.alloc (.cells #[sL a1 xs c1] 46)).below B2 (by have:=H1.o.2.1.lt;simp;omega);have Y3:=(H1.o.2.2.1.alloc aM (.cells #[sL a1 xs c1] 46)).trans (B2.mono sO);have Y4:=(H1.o.2.2.2.2.alloc (.cells #[sL a1 xs c1] 46)).below B2 nR;have Y5:=(AtO.new 46 w1 _).below B2 sI;have aP:=H1.o.2.1.lt;have aL:=hJ Y2;have aN:=hJ Y5;have d2:=Y2.cell;have f2:=Y2.frozen;have k2:=Y2.lt;have d5:=Y5.cell;have k5:=Y5.lt;have H2:=hJ (aI Y3 Y4);have HG:=hJ H1.o.2.2.2.2.lt;clear Y2 Y3 Y4 Y5 H1 B2 C1 HV;obtain⟨q,hq⟩:∃q,(decide (0<=u)&&decide (u<21))=q:=⟨_,rfl⟩
 have C2:=hJ (in_any u);rw[hq]at C2;have HQ:=hJ hq;clear hq
 cases r with
 | false =>
  have e1:Hid (okW xs u s=false):=hJ (by unfold okW;rw[HR.o];rfl);go_wp2;refine bY (v:=.tuple #[.agg #[sL a1 xs c1],.bool false]) (by simp[results,go_sem,d2]) rfl ⟨_,by rw[e1.out],?_,?_⟩
  ·exact cQ95
  exact H2.o.1.setCell sI _
 | true =>
  cases q with
  | false =>
   have e1:Hid (okW xs u s=false):=hJ (by unfold okW;rw[HR.o,HQ.o];rfl);go_wp2_with (go_at_call 50;refine(C2.out _).mono ?_;rintro e w3 ⟨rfl,rfl⟩)
   refine bY (v:=.tuple #[.agg #[sL a1 xs c1],.bool false]) (by simp[results,go_sem,d2]) rfl ⟨_,by rw[e1.out],?_,?_⟩
   ·exact cQ95
   exact H2.o.1.setCell sI _
  | true =>
   by_cases h60:s.size<=60
   ·have e1:Hid (okW xs u s=true):=hJ (by unfold okW;rw[HR.o,HQ.o];simpa using h60);obtain⟨k,hk,rfl⟩:∃k:Nat,k<21/\u=k:=by have:=HQ.o;simp at this;exact⟨u.toNat,oM,oM⟩
    have aC:xs.length=21:=by have h:=HR.o;unfold okD at h;simp at h;exact h.1
    have aF:k<xs.length:=oM
    obtain⟨g,c2,e2,p1,p2,p3,p4,p5⟩:=H2.o.2.at k (by rw[zaj];exact aF);rw[zi3 xs k aF]at p1;obtain⟨t,ht⟩:∃t,xs[k]=t:=⟨_,rfl⟩
    rw[ht]at p1;simp only[vJ]at e2;obtain⟨rfl,-,rfl⟩:=e2;have hg:=(HG.o g rfl).2;have O2:ROwns w2 (w.1.size+1+1) 9 (.slice (aA g 0) (stc xs).length c1) (stc xs):=by rw[zaj];exact H2.o.2
    have O3:=(O2.stored k (.string s)).1;rw[stc_set,zaj]at O3;have Y2:=aL.out.set_other (B:=g) (j:=k) oM (.string s);have Y5:=aN.out.set_other (B:=g) (j:=k) oM (.string s);have Y3:=H2.o.1.setCell (p:=⟨g,k,none⟩) oG (.string s);have j0:(0:Int)<=(k:Int):=oM
    have j1:(k:Int)<(xs.length:Int):=oM
    obtain⟨w3,aH⟩:∃w3,w2.setCell ⟨g,k,none⟩ (.string s)=w3:=⟨_,rfl⟩
    rw[aH]at O3 Y2 Y5 Y3;have aG:=Y2.cell;have aR:=Y2.frozen;have aQ:=Y2.lt;have aS:=Y5.cell;have aO:=Y5.lt;have H3:=hJ (aI Y3 O3);clear Y2 Y5 Y3 O3 O2 ht aC d2 f2 k2 H2;go_wp2_with (go_at_call 50;refine(C2.out _).mono ?_;rintro e w3 ⟨rfl,rfl⟩)
    refine bY (v:=.tuple #[.agg #[sL (aA g 0) xs c1],.bool true]) (by simp[results,go_sem,aG]) rfl ⟨_,by rw[e1.out],?_,?_⟩
    ·rw[wrD_yes e1.out];exact(H3.o.2.setCell_other oM _).base_le oM
    exact H3.o.1.setCell sI _
   have e1:Hid (okW xs u s=false):=hJ (by unfold okW;rw[HR.o,HQ.o];simpa using h60);go_wp2_with (go_at_call 50;refine(C2.out _).mono ?_;rintro e w3 ⟨rfl,rfl⟩)
   refine bY (v:=.tuple #[.agg #[sL a1 xs c1],.bool false]) (by simp[results,go_sem,d2]) rfl ⟨_,by rw[e1.out],?_,?_⟩
   ·exact cQ95
   exact H2.o.1.setCell sI _
namespace Kit
def mkB:ByteArray:=⟨#[47]⟩
def jn:List BA->ByteArray
 | []=>⟨#[]⟩
 | n::r=>mkB++n++jn r
theorem znf(a:BA):a++(⟨#[]⟩:BA)=a:=by
 apply ByteArray.ext;rw[ByteArray.data_append];simp
theorem zng(a:BA):(⟨#[]⟩:BA)++a=a:=by
 apply ByteArray.ext;rw[ByteArray.data_append];simp
theorem jn_snoc(l:List BA)(n:BA):jn (l++[n])=jn l++mkB++n:=by
 induction l with
 | nil=>show mkB++n++(⟨#[]⟩:BA)=(⟨#[]⟩:BA)++mkB++n;rw[znf,zng]
 | cons a r ih=>show mkB++a++jn (r++[n])=mkB++a++jn r++mkB++n;rw[ih];simp only[ByteArray.append_assoc]
theorem ch_ne{c:Nat}(h:chN c=true):c≠47:=fun e=>by subst e;exact absurd h dC
theorem zg6(a n c:BA)(j:Nat)(h1:a.size<=j)(h2:j<a.size+n.size):∃h:j<(a++n++c).size,∃h':j-a.size<n.size,(a++n++c)[j]=n[j-a.size]:=by
 have hs:(a++n++c).size=a.size+n.size+c.size:=by rw[bA_,bA_]
 refine⟨oM,oM,?_⟩;rw[ByteArray.getElem_append_left (by rw[bA_];omega),ByteArray.getElem_append_right h1]
theorem znh(a n c:BA):(a++n++c).extract a.size (a.size+n.size)=n:=by
 apply ByteArray.ext;rw[ByteArray.data_extract,ByteArray.data_append,ByteArray.data_append];show(a.data++n.data++c.data).extract a.data.size (a.data.size+n.data.size)=n.data;rw[Array.append_assoc,Array.extract_append_right,Array.extract_append_left];simp
theorem zni:∀(r:List BA)(a n:BA),(∀s∈n::r,zat s=true)->rest (a++n++jn r) a.size a.size=n::r
 | [],a,n,h=>by
  have hn:=(of_decide_eq_true (h n sI)).2;rw[zd7 _ _ n.size a.size (fun j h1 h2=>by
   obtain⟨h3,h4,e⟩:=zg6 a n (jn []) j h1 h2;exact⟨h3,by rw[e];exact ch_ne (hn _ h4)⟩)]
  have e0:a++n++jn []=a++n:=znf _;have e2:=znh a n (jn []);rw[zjr _ _ _ (by rw[e0,bA_];exact Nat.le_refl _)];rw[show(a++n++jn []).size=a.size+n.size by rw[e0,bA_],e2]
 | m::r,a,n,h=>by
  have hn:=(of_decide_eq_true (h n sI)).2;have hs:(a++n++jn (m::r)).size=a.size+n.size+(1+m.size+(jn r).size):=by
   rw[bA_,bA_];show _+(mkB++m++jn r).size=_;rw[bA_,bA_];rfl
  rw[zd7 _ _ n.size a.size (fun j h1 h2=>by
   obtain⟨h3,h4,e⟩:=zg6 a n (jn (m::r)) j h1 h2;exact⟨h3,by rw[e];exact ch_ne (hn _ h4)⟩)]
  have hp:a++n++jn (m::r)=(a++n++mkB)++m++jn r:=by show a++n++(mkB++m++jn r)=_;simp only[ByteArray.append_assoc]
  have hz:(a++n++mkB).size=a.size+n.size+1:=by rw[bA_,bA_];rfl
  rw[zjs _ _ _ oM (by
   obtain⟨h3,h4,e⟩:=zg6 (a++n) mkB (m++jn r) (a.size+n.size) (by rw[bA_];exact Nat.le_refl _) (by rw[bA_];show _<_+1;omega);have e5:a++n++jn (m::r)=a++n++mkB++(m++jn r):=by rw[hp];simp only[ByteArray.append_assoc]
   simp only[e5,e,bA_,Nat.sub_self];rfl),znh a n (jn (m::r))]
  have ih:=zni r (a++n++mkB) m (fun s hs=>h s (mC _ hs));rw[hz]at ih;rw[hp,ih]
theorem ans_jn{l:List BA}(h:∀s∈l,zat s=true)(h4:l.length<=4):Ans (if l=[]then mkB else jn l) l true:=by
 cases l with
 | nil=>exact .inr (.inl ⟨⟨dC,rfl⟩,rfl,rfl,rfl⟩)
 | cons n r =>
  rw[if_neg sI];have hz:(jn (n::r)).size=1+n.size+(jn r).size:=by
   show(mkB++n++jn r).size=_;rw[bA_,bA_];rfl
  have hn:=(za1 (h n sI)).1;have hr:rest (jn (n::r)) 1 1=n::r:=zni r mkB n h;refine .inr (.inr (.inl ⟨⟨oM,?_⟩,oM,by rw[hr];exact⟨h,h4⟩,hr.symm,rfl⟩));have e5:jn (n::r)=⟨#[]⟩++mkB++(n++jn r):=by show mkB++n++jn r=_;rw[zng,ByteArray.append_assoc]
  obtain⟨h3,h4,e⟩:=zg6 ⟨#[]⟩ mkB (n++jn r) 0 nR dC;simp only[e5,e];rfl
end Kit
theorem zbh(w0 w:Wd)(c g:Nat)(a:OA)(len cap:Nat)(xs:List Int)(hcode:za0 w0 a len)(hlen:len<=1048576)(hcur:Cur 103 w0 w c a len cap)(hg:AtC w g 3 (ic xs).toArray)(hne:c≠g)(hx0:0<xs.length)(hx1:xs.length<=256):
  Calls Tryz.prog 66 #[.pointer (aA c 0),sL (aA g 0) xs xs.length] w fun e w'=>∃z:Int,z∈xs/\e=.returned (nI z)/\Drew w0 w w' c a len cap:=by
 have HC:=hJ hcur;have HO:=hJ hcode;have HG:=hJ hg;clear hcur hcode hg;go_enter Tryz.func66,Tryz.ntmps66
 go_wp2_with fail
 refine(zah w0 w c a len cap xs.length HO.o hlen HC.o hx0 oM).mono ?_;rintro e w1 ⟨x,hx,rfl,hd⟩;have HD:=hJ hd;obtain⟨z,hz⟩:∃z,xs[x]=z:=⟨_,rfl⟩
 have aB:z∈xs:=by rw[←hz];exact gM_ _
 have aC:w1.cell? ⟨g,x,none⟩=some (nI z):=(HG.o.grown hd.2 (by simpa using hne)).at_ x _ (by simp[ic,hx,hz]);have HM:=hJ aB;clear hd hz aB;go_wp2;go_ret;exact⟨z,HM.o,rfl,HD.o⟩
theorem zdv(w0 w:Wd)(c g:Nat)(a:OA)(len cap:Nat)(xs:List BA)(hcode:za0 w0 a len)(hlen:len<=1048576)(hcur:Cur 103 w0 w c a len cap)(hg:AtC w g 9 (stc xs).toArray)(hne:c≠g)(hx0:0<xs.length)(hx1:xs.length<=256):
  Calls Tryz.prog 128 #[.pointer (aA c 0),sL (aA g 0) xs xs.length] w fun e w'=>∃z:ByteArray,z∈xs/\e=.returned (.string z)/\Drew w0 w w' c a len cap:=by
 have HC:=hJ hcur;have HO:=hJ hcode;have HG:=hJ hg;clear hcur hcode hg;go_enter Tryz.func128,Tryz.ntmps128
 go_wp2_with fail
 refine(zah w0 w c a len cap xs.length HO.o hlen HC.o hx0 oM).mono ?_;rintro e w1 ⟨x,hx,rfl,hd⟩;have HD:=hJ hd;obtain⟨z,hz⟩:∃z,xs[x]=z:=⟨_,rfl⟩
 have aB:z∈xs:=by rw[←hz];exact gM_ _
 have aC:w1.cell? ⟨g,x,none⟩=some (.string z):=(HG.o.grown hd.2 (by simpa using hne)).at_ x _ (by simp[stc,hx,hz]);have HM:=hJ aB;clear hd hz aB;go_wp2;go_ret;exact⟨z,HM.o,rfl,HD.o⟩
def nmS:List BA:=[⟨#[97]⟩,⟨#[98]⟩,⟨#[99]⟩,⟨#[100,100]⟩,⟨#[101,49]⟩]
theorem nmS_size:∀z∈nmS,z.size<=2:=dC
theorem name_any(w0 w:Wd)(c:Nat)(a:OA)(len cap:Nat)(hcode:za0 w0 a len)(hlen:len<=1048576)(hcur:Cur 103 w0 w c a len cap)(hc:c<w.1.size):
  Calls Tryz.prog 139 #[.pointer (aA c 0)] w fun e w'=>∃z:ByteArray,z.size<=2/\e=.returned (.string z)/\Drew w0 w w' c a len cap:=by
 obtain⟨W1,hW1⟩:∃W1,w.alloc (.cells #[.string ⟨#[97]⟩,.string ⟨#[98]⟩,.string ⟨#[99]⟩,.string ⟨#[100,100]⟩,.string ⟨#[101,49]⟩] 9)=W1:=⟨_,rfl⟩
 have HC:Hid (Cur 103 w0 W1 c a len cap/\AtC W1 w.1.size 9 (stc nmS).toArray/\w.grownBy W1 (some c)):=by
  exact cQ140
 have HO:=hJ hcode;have aB:c≠w.1.size:=oM
 clear hcur hcode;go_enter Tryz.func139,Tryz.ntmps139
 go_wp2_with fail
 refine(zdv w0 W1 c w.1.size a len cap nmS HO.o hlen HC.o.1 HC.o.2.1 aB dC dC).mono ?_;rintro e w1 ⟨z,hz,rfl,hd⟩;have HD:Hid (z.size<=2/\Drew w0 w w1 c a len cap):=⟨nmS_size z hz,hd.1,zae HC.o.2.2 hd.2⟩
 clear hd hz hW1;go_wp2;go_ret;exact⟨z,HD.o.1,rfl,HD.o.2⟩
namespace Kit
theorem AtT.set_other{T:TypeId}{w:Wd}{b:Nat}{k l:Int}{v:Va}(h:AtT T w b k l v){B j:Nat}(hne:b≠B)(x:Va):AtT T (w.setCell ⟨B,j,none⟩ x) b k l v:=(hO_ w ⟨B,j,none⟩ b x hne).trans h
theorem AtT.set0{T:TypeId}{w:Wd}{b:Nat}{k l:Int}{v:Va}(h:AtT T w b k l v)(z:Int):AtT T (w.setCell ⟨b,0,none⟩ (nI z)) b z l v:=by
 have:=heap_setCell_same w b 0 _ T (nI z) h;exact this
theorem AtT.set1{T:TypeId}{w:Wd}{b:Nat}{k l:Int}{v:Va}(h:AtT T w b k l v)(z:Int):AtT T (w.setCell ⟨b,1,none⟩ (nI z)) b k z v:=by
 have:=heap_setCell_same w b 1 _ T (nI z) h;exact this
theorem AtT.set2{T:TypeId}{w:Wd}{b:Nat}{k l:Int}{v:Va}(h:AtT T w b k l v)(u:Va):AtT T (w.setCell ⟨b,2,none⟩ u) b k l u:=by
 have:=heap_setCell_same w b 2 _ T u h;exact this
theorem AtT.frozen{T:TypeId}{w:Wd}{b:Nat}{k l:Int}{v:Va}(h:AtT T w b k l v):w.frozen? ⟨b,0,none⟩=false/\w.frozen? ⟨b,1,none⟩=false/\w.frozen? ⟨b,2,none⟩=false:=by
 have h':w.1[b]?=some (.cells #[nI k,nI l,v] T (0,0)):=h;exact⟨by simp[World.frozen?,h'],by simp[World.frozen?,h'],by simp[World.frozen?,h']⟩
theorem AtT.drew{T:TypeId}{w:Wd}{b:Nat}{k l:Int}{v:Va}(h:AtT T w b k l v):AtT T w.drew b k l v:=h
end Kit
theorem Drew.refl{w0 w:Wd}{c len cap:Nat}{a:OA}(h:Cur 103 w0 w c a len cap):Drew w0 w w c a len cap:=⟨h,zal bR _⟩
theorem Drew.drew{w0 w w':Wd}{c len cap:Nat}{a:OA}(h:Drew w0 w w' c a len cap):Drew w0 w w'.drew c a len cap:=⟨⟨h.1.1,h.1.2.1.drew,h.1.2.2⟩,⟨h.2.os,h.2.tape,h.2.output,h.2.size,h.2.block⟩⟩
theorem Drew.below{w0 w w' w2:Wd}{c len cap:Nat}{a:OA}(h:Drew w0 w w' c a len cap)(hc:c<w.1.size)(hb:Bw w' w2):Drew w0 w w2 c a len cap:=by
 have h1:=h.1.2.1.size;have h2:=h.2.size;refine⟨⟨h.1.1,h.1.2.1.trans (hb.mono h1),?_⟩,zae h.2 (zal hb _)⟩;obtain⟨i,x,hk,hi⟩:=h.1.2.2;exact⟨i,x,by rw[hb.block c oM];exact hk,hi⟩
theorem Drew.setCell{w0 w w':Wd}{c len cap:Nat}{a:OA}(h:Drew w0 w w' c a len cap)(hc:c<w.1.size){B j:Nat}(hB:w.1.size<=B)(x:Va):Drew w0 w (w'.setCell ⟨B,j,none⟩ x) c a len cap:=by
 have h1:=h.1.1;refine⟨⟨h.1.1,h.1.2.1.setCell (p:=⟨B,j,none⟩) (by show w0.1.size<=B;omega) _,?_⟩,⟨h.2.os,h.2.tape,h.2.output,by simpa using h.2.size,fun k hk hr=>(hO_ w' ⟨B,j,none⟩ k x (by show k≠B;omega)).trans (h.2.block k hk hr)⟩⟩;obtain⟨i,y,hk,hi⟩:=h.1.2.2;exact⟨i,y,(hO_ w' ⟨B,j,none⟩ c x (by show c≠B;omega)).trans hk,hi⟩
structure St(w0 w w':Wd)(c:Nat)(a:OA)(len cap:Nat)(bx g cap2:Nat)(k l p q:Int):Prop where
 res:AtT 59 w' w.1.size 0 0 (.slice none 0 0)
 x:AtT 59 w' bx k l (.slice (aA g 0) 2 cap2)
 own:ROwns w' (w.1.size+1) 3 (.slice (aA g 0) 2 cap2) (ic [p,q])
 dr:Drew w0 w w' c a len cap
 hx:w.1.size<bx
 hne:bx≠g
 hc:c<w.1.size
namespace St
variable {w0 w w' : World} {c len cap bx g cap2 : Nat} {a : Option Addr} {k l p q : Int}
theorem hg(h:St w0 w w' c a len cap bx g cap2 k l p q):w.1.size<g/\g<w'.1.size:=h.own.lt g rfl
theorem drews(h:St w0 w w' c a len cap bx g cap2 k l p q){w2:World}(hd:Drew w0 w' w2 c a len cap):St w0 w w2 c a len cap bx g cap2 k l p q:=by
 have h1:=h.hc;have h2:=h.hx;have h3:=h.hg;exact⟨h.res.grown hd.2 (by intro e;cases e;omega),h.x.grown hd.2 (by intro e;cases e;omega),h.own.grown hd.2 (fun j hj e=>by cases e;have:=(h.own.lt _ hj).1;omega),h.dr.trans hd,h.hx,h.hne,h.hc⟩
theorem drew(h:St w0 w w' c a len cap bx g cap2 k l p q):St w0 w w'.drew c a len cap bx g cap2 k l p q:=⟨h.res.drew,h.x.drew,h.own.drew,h.dr.drew,h.hx,h.hne,h.hc⟩
theorem alloc(h:St w0 w w' c a len cap bx g cap2 k l p q)(o:Obj):St w0 w (w'.alloc o) c a len cap bx g cap2 k l p q:=⟨h.res.alloc o,h.x.alloc o,h.own.alloc o,h.dr.alloc h.hc o,h.hx,h.hne,h.hc⟩
theorem setLinks(h:St w0 w w' c a len cap bx g cap2 k l p q)(z:Int):St w0 w (w'.setCell ⟨bx,1,none⟩ (.int .i64 z)) c a len cap bx g cap2 k z p q :=
 ⟨h.res.set_other (by have:=h.hx;omega) _,h.x.set1 z,h.own.of_heap fun j hj=>heap_setCell_other _ ⟨bx,1,none⟩ j _ (by have e1:=(by simpa[Value.ownBlock]using hj);have e2:=h.hne;show j≠bx;omega),h.dr.setCell h.hc (by have:=h.hx;omega) _,h.hx,h.hne,h.hc⟩
theorem setP(h:St w0 w w' c a len cap bx g cap2 k l p q)(z:Int):St w0 w (w'.setCell ⟨g,0,none⟩ (.int .i64 z)) c a len cap bx g cap2 k l z q :=
 ⟨h.res.set_other (by have:=h.hg;omega) _,h.x.set_other h.hne _,(ROwns.stored (l:=ic [p,q]) h.own 0 (.int .i64 z)).1,h.dr.setCell h.hc (by have:=h.hg;omega) _,h.hx,h.hne,h.hc⟩
theorem setQ(h:St w0 w w' c a len cap bx g cap2 k l p q)(z:Int):St w0 w (w'.setCell ⟨g,1,none⟩ (.int .i64 z)) c a len cap bx g cap2 k l p z :=
 ⟨h.res.set_other (by have:=h.hg;omega) _,h.x.set_other h.hne _,(ROwns.stored (l:=ic [p,q]) h.own 1 (.int .i64 z)).1,h.dr.setCell h.hc (by have:=h.hg;omega) _,h.hx,h.hne,h.hc⟩
theorem cells(h:St w0 w w' c a len cap bx g cap2 k l p q):w'.cell? ⟨bx,0,none⟩=some (.int .i64 k)/\w'.cell? ⟨bx,1,none⟩=some (.int .i64 l)/\w'.cell? ⟨bx,2,none⟩=some (.slice (some ⟨g,0,none⟩) 2 cap2)/\w'.frozen? ⟨bx,0,none⟩=false/\w'.frozen? ⟨bx,1,none⟩=false/\w'.frozen? ⟨bx,2,none⟩=false/\bx<w'.1.size:=by
 obtain⟨a1,a2,a3⟩:=h.x.cells;obtain⟨b1,b2,b3⟩:=h.x.frozen;exact⟨a1,a2,a3,b1,b2,b3,h.x.lt⟩
theorem ptrs(h:St w0 w w' c a len cap bx g cap2 k l p q):w'.cell? ⟨g,0,none⟩=some (.int .i64 p)/\w'.cell? ⟨g,1,none⟩=some (.int .i64 q)/\w'.frozen? ⟨g,0,none⟩=false/\w'.frozen? ⟨g,1,none⟩=false:=by
 have h':w'.ownsRow (w.1.size+1) 3 1 (.slice (some ⟨g,0,none⟩) 2 cap2) 2 (ic [p,q]):=h.own;exact⟨h'.cellAt 0 dC,h'.cellAt 1 dC,h'.frozenAt 0,h'.frozenAt 1⟩
end St
theorem text_any(w0 w:Wd)(c:Nat)(a:OA)(len cap:Nat)(n:Nat)(hcode:za0 w0 a len)(hlen:len<=1048576)(hcur:Cur 103 w0 w c a len cap)(hcw:c<w.1.size)(hn1:n<=5000):
  Calls Tryz.prog 76 #[.pointer (aA c 0),nI n] w fun e w'=>∃l:List UInt8,l.length=n/\e=.returned (.string ⟨l.toArray⟩)/\Drew w0 w w' c a len cap:=by
 have HC:=hJ hcur;have HO:=hJ hcode;clear hcur hcode;go_enter Tryz.func76,Tryz.ntmps76
 go_wp2;go_loopw [5,6] (fun v i wr=>∃(j:Nat)(pre:List UInt8),j<=n/\i=.int .i64 j/\pre.length=j/\Owns wr w.1.size 5 v pre/\Drew w0 w wr c a len cap) (fun _ i _=>n-(intOf i).toNat)
 case atStart=>exact⟨0,[],zL _,rfl,rfl,Owns.lit0 w _ 5 nR,⟨⟨HC.o.1,HC.o.2.1.alloc (by have:=HC.o.2.1.size;omega) _,by obtain⟨i,h,hb,hi⟩:=HC.o.2.2;exact⟨i,h,by rw[←hb];exact Below.heap_alloc _ _ _ hcw,hi⟩⟩,gA _ _ _⟩⟩
 obtain⟨j,pre,hj,rfl,hl,aD,hd⟩:=hrel;have HL:=hJ hl;have HD:=hJ hd;have aH:=hJ aD;have aK:pre.length<=1000000000000:=oM
 have aO:=hd.2.size;clear hl hd aD;by_cases hlt:j<n
 ·go_wp2_with fail
  refine(zcb w0 wr c a len cap HO.o hlen HD.o.cur).mono ?_;rintro e w1 ⟨x,hx,rfl,aG⟩;have aB:=hJ (HD.o.trans aG);have aC:=aH.o.grown aG.2 (fun k hk=>by cases hk;exact hcw);have aF:=aB.o.2.size;clear aG aH HD;go_wp2_with (at_builtin;refine zd2 w1 w1 rfl _ _ 22 rfl w.1.size 5 Tryz.underlying22 Tryz.info5 _ pre (by rfl) aC bR aF (by rfl) (lowB x) _ (byte_low x hx) aK ?_;intro v' w2 R1 R2 R3)
  have aM:c<w1.1.size:=oM
  have RC:Cur 103 w0 w2 c a len cap:=⟨aB.o.1.1,⟨R2.os.trans aB.o.1.2.1.os,R2.tape.trans aB.o.1.2.1.tape,R2.output.trans aB.o.1.2.1.output,lT aB.o.1.2.1.size R2.size,fun k hk=>(R2.block k (by have:=HC.o.2.1.size;omega)).trans (aB.o.1.2.1.block k hk)⟩,by obtain⟨i,h,hb,hi⟩:=aB.o.1.2.2;exact⟨i,h,by rw[R2.block c hcw,hb],hi⟩⟩
  have RG:w.grownBy w2 (some c):=⟨R2.os.trans aB.o.2.os,R2.tape.trans aB.o.2.tape,R2.output.trans aB.o.2.output,lT aB.o.2.size R2.size,fun k hk aL=>(R2.block k hk).trans (aB.o.2.block k hk aL)⟩
  have HR:=hJ (aI RC RG);clear RC RG R2 R3 aC;go_wp2;go_roundw
  case rel=>exact⟨j+1,_,oM,gK,by have:=HL.o;simp;omega,R1,HR.o⟩
  simp[intOf];omega
 have aN:=zev (P:=Tryz.prog) 22 9 5 Tryz.underlying22 Tryz.underlying5 Tryz.underlying9 aH.o;go_wp2;go_ret;exact⟨pre,by have:=HL.o;omega,rfl,HD.o⟩
theorem zmj(w0 w:Wd)(c:Nat)(a:OA)(len cap:Nat)(hcode:za0 w0 a len)(hlen:len<=1048576)(hcur:Cur 103 w0 w c a len cap)(hc:c<w.1.size):
  Calls Tryz.prog 139 #[.pointer (aA c 0)] w fun e w'=>∃z:ByteArray,z∈nmS/\e=.returned (.string z)/\Drew w0 w w' c a len cap:=by
 obtain⟨W1,hW1⟩:∃W1,w.alloc (.cells #[.string ⟨#[97]⟩,.string ⟨#[98]⟩,.string ⟨#[99]⟩,.string ⟨#[100,100]⟩,.string ⟨#[101,49]⟩] 9)=W1:=⟨_,rfl⟩
 have HC:Hid (Cur 103 w0 W1 c a len cap/\AtC W1 w.1.size 9 (stc nmS).toArray/\w.grownBy W1 (some c)):=by
  exact cQ140
 have HO:=hJ hcode;have aB:c≠w.1.size:=oM
 clear hcur hcode;go_enter Tryz.func139,Tryz.ntmps139
 go_wp2_with fail
 refine(zdv w0 W1 c w.1.size a len cap nmS HO.o hlen HC.o.1 HC.o.2.1 aB dC dC).mono ?_;rintro e w1 ⟨z,hz,rfl,hd⟩;have HD:Hid (z∈nmS/\Drew w0 w w1 c a len cap):=⟨hz,hd.1,zae HC.o.2.2 hd.2⟩
 clear hd hz hW1;go_wp2;go_ret;exact⟨z,HD.o.1,rfl,HD.o.2⟩
theorem five_ok:∀n∈nmS,zat n=true:=dC
def Once(xs:List Sl):Prop:=xs.length=4/\(∀s∈xs,s=(⟨#[]⟩,0)\/(s.1∈nmS/\1<=s.2/\s.2<=8))/\Unl xs
theorem nmS_sz:∀n∈nmS,n.size≠0/\n.size<=6:=dC
theorem Once.kok{xs:List Sl}(h:Once xs):KOk ((true,xs,⟨#[]⟩):Blk):=by
 refine⟨⟨fun _=>h.1,by show xs.length<=4;rw[h.1];decide,fun s hs=>?_,by show(0:Nat)<=16;decide⟩,fun e=>(by cases e),fun _=>rfl,fun s hs=>?_,h.2.2⟩
 ·rcases h.2.1 s hs with rfl|⟨q,z⟩
  ·exact⟨dC,.inl ⟨rfl,rfl⟩⟩
  exact⟨(nmS_sz _ q).2,.inr z⟩
 rcases h.2.1 s hs with rfl|⟨q,z⟩
 ·exact .inl ⟨rfl,rfl⟩
 exact .inr (five_ok _ q)
theorem data_ok{t:BA}(h:t.size<=16):KOk ((false,[],t):Blk) :=
 ⟨⟨fun e=>(by cases e),by show(0:Nat)<=4;decide,fun s hs=>by simp at hs,h⟩,fun _=>rfl,fun e=>(by cases e),fun s hs=>by simp at hs,Unl.nil⟩
theorem zmk{xs:List Sl}{n:BA}{r:Int}(h:zmb xs n r)(hr:r<0)(hz:n.size≠0):∀s∈xs,s.1≠n:=by
 rcases h with⟨-,h|h⟩| ⟨j,-,rfl,-⟩
 ·exact absurd h hz
 ·intro s hs;obtain⟨i,hi,rfl⟩:=List.getElem_of_mem hs;exact h i hi
 omega
theorem once_new:Once noSl:=⟨rfl,fun s hs=>by simp[noSl]at hs;exact .inl hs,zi0.u⟩
theorem once_set{xs:List Sl}{j:Nat}{n:BA}{z:Int}(h:Once xs)(hn:n∈nmS)(hne:∀s∈xs,s.1≠n)(hz:1<=z/\z<=8):Once (xs.set j (n,z)):=by
 refine⟨by simp[h.1],fun s hs=>?_,fun a b ha hb aB e=>?_⟩
 ·rcases mS hs with h1|rfl
  ·exact h.2.1 s h1
  exact .inr ⟨hn,hz⟩
 rw[lS]at ha hb;by_cases h1:j=a
 ·subst h1;rw[gS_,gN aB]at e;exact absurd e.symm (hne _ (gM_ hb))
 by_cases h2:j=b
 ·subst h2;rw[gS_,gN h1]at e;exact absurd e (hne _ (gM_ ha))
 rw[gN h1,gN h2]at e;rw[gN h1];exact h.2.2 a b ha hb aB e
structure Sb(w0 w w':Wd)(c:Nat)(a:OA)(len cap:Nat)(V g c4:Nat)(xs:List Sl):Prop where
 res:AtC w' w.1.size 95 #[.bool false,nZ,eT]
 var:AtC w' V 95 #[.bool true,.slice (aA g 0) 4 c4,eT]
 own:SOwns w' (w.1.size+1) 90 (.slice (aA g 0) 4 c4) xs
 dr:Drew w0 w w' c a len cap
 hv:w.1.size<V
 hgv:g<V
 hc:c<w.1.size
 once:Once xs
namespace Sb
variable {w0 w w' : World} {c len cap V g c4 : Nat} {a : Option Addr} {xs : List Sl}
theorem hg(h:Sb w0 w w' c a len cap V g c4 xs):w.1.size<g:=(h.own.lt g rfl).1
theorem drews(h:Sb w0 w w' c a len cap V g c4 xs){w2:World}(hd:Drew w0 w' w2 c a len cap):Sb w0 w w2 c a len cap V g c4 xs:=by
 have h1:=h.hc;have h2:=h.hv;have h3:=h.hg;exact⟨h.res.grown hd.2 sO,h.var.grown hd.2 sO,h.own.grown hd.2 (fun j hj e=>by have:=(h.own.lt _ hj).1;simp at e;omega),h.dr.trans hd,h.hv,h.hgv,h.hc,h.once⟩
theorem over(h:Sb w0 w w' c a len cap V g c4 xs){w2:World}(hb:Below w'.1.size w' w2):Sb w0 w w2 c a len cap V g c4 xs :=
 ⟨h.res.over hb,h.var.over hb,h.own.below hb nR,h.dr.below h.hc hb,h.hv,h.hgv,h.hc,h.once⟩
theorem alloc(h:Sb w0 w w' c a len cap V g c4 xs)(o:Obj):Sb w0 w (w'.alloc o) c a len cap V g c4 xs:=h.over ((Below.refl _ w').alloc nR o)
theorem put(h:Sb w0 w w' c a len cap V g c4 xs){j:Nat}(hj:j<4)(n:ByteArray)(z:Int)(hn:n∈nmS)(hne:∀s∈xs,s.1≠n)(hz:1<=z/\z<=8):
  Sb w0 w ((w'.setCell ⟨g,j*2,none⟩ (.string n)).setCell ⟨g,j*2+1,none⟩ (.int .i64 z)) c a len cap V g c4 (xs.set j (n,z)):=by
 have h1:=h.hg;have h2:=h.hgv;have hl:=h.once.1;have O:SOwns w' (w.1.size+1) 90 (.slice (some ⟨g,0,none⟩) xs.length c4) xs:=by rw[hl];exact h.own
 have O2:=(O.set_both j oM n z).1;rw[hl]at O2;exact⟨(h.res.other oM _).other oM _,(h.var.other oM _).other oM _,O2,(h.dr.setCell h.hc oM _).setCell h.hc oM _,h.hv,h.hgv,h.hc,once_set h.once hn hne hz⟩
end Sb
theorem zgb(w0 w:World)(c:Nat)(a:Option Addr)(len cap:Nat)(hcode:za0 w0 a len)(hlen:len<=1048576)(hcur:Cur 103 w0 w c a len cap)(hcw:c<w.1.size):
  Calls Tryz.prog 112 #[.pointer (some ⟨c,0,none⟩)] w fun e w'=>∃(d:Bool)(v:Value)(t:ByteArray)(xs:List Sl),e=.returned (.agg #[.bool d,v,.string t])/\SOwns w' w.1.size 90 v xs/\KOk ((d,xs,t):Blk)/\Drew w0 w w' c a len cap:=by
 have HC:=hJ hcur;have HO:=hJ hcode;clear hcur hcode;go_enter Tryz.func112,Tryz.ntmps112
 go_wp2_with fail
 refine(zaw w0 _ c a len cap 2 HO.o hlen (za6 HC.o hcw _) dC dC).mono ?_;rintro e w1 ⟨x,rfl,D1⟩;have d1:=((Drew.refl HC.o).alloc hcw _).trans D1;have r1:AtC w1 w.1.size 95 #[.bool false,.slice none 0 0,.string ⟨#[]⟩]:=(AtC.new w 95 _).grown D1.2 sO;have s1:=r1.lt;have H1:=hJ (And.intro d1 r1);clear D1 d1 r1
 cases hx:(x==0)with
 | true =>
  clear hx;go_wp2_with fail
  refine(zah w0 _ c a len cap 17 HO.o hlen H1.o.1.cur dC dC).mono ?_;rintro e w2 ⟨n,hn,rfl,D2⟩;have d2:=H1.o.1.trans D2;have r2:=H1.o.2.grown D2.2 sO;have s2:=r2.lt;have H2:=hJ (And.intro d2 r2);clear D2 d2 r2 H1;go_wp2_with fail
  refine(text_any w0 _ c a len cap n HO.o hlen H2.o.1.cur oM oM).mono ?_;rintro e w3 ⟨l,hl,rfl,D3⟩;have d3:=H2.o.1.trans D3;have r3:=H2.o.2.grown D3.2 sO;obtain⟨t,ht⟩:∃t:ByteArray,(⟨l.toArray⟩:ByteArray)=t:=⟨_,rfl⟩
  have aG:t.size<=16:=by rw[←ht];simp[ByteArray.size];omega
  rw[ht];obtain⟨q0,q1,q2,ql⟩:=r3.three;obtain⟨f0,f1,f2⟩:=r3.frz;have H3:=hJ d3;have HT:=hJ aG;clear D3 d3 r3 H2 ht hl aG;go_wp2;refine bodyPost_ret (v:=.agg #[.bool false,.slice none 0 0,.string t]) sQ3 rfl ⟨false,_,t,[],rfl,SOwns.nil _ _ _,data_ok HT.o,?_⟩;exact((H3.o.setCell hcw nR _).setCell hcw nR _).setCell hcw nR _
 | false =>
  clear hx;go_wp2_with fail
  refine(zd8 w1).mono ?_;rintro e w2 ⟨a2,c4,rfl,O2,B2⟩;obtain⟨g,c5,e1,-,-,-,aL,aK,-⟩:=O2.at 0 dC;simp only[Value.slice.injEq]at e1;obtain⟨rfl,-,rfl⟩:=e1;obtain⟨V,hV⟩:∃V,w2.1.size=V:=⟨_,rfl⟩
  have st:Sb w0 w (w2.alloc (.cells #[.bool true,.slice (some ⟨g,0,none⟩) 4 c4,.string ⟨#[]⟩] 95)) c a len cap V g c4 noSl :=
   ⟨(H1.o.2.over B2).alloc _,by rw[←hV];exact AtC.new w2 95 _,(O2.base_le oM).alloc _,(H1.o.1.below hcw B2).alloc hcw _,by have:=B2.size;omega,by omega,hcw,once_new⟩
  have HS:=hJ st;clear st O2 B2 H1 aL aK;go_wp2_with fail
  go_loopw [4,5] (fun i _ wr=>∃(j:Nat)(xs:List Sl),j<=4/\i=.int .i64 j/\Sb w0 w wr c a len cap V g c4 xs) (fun i _ _=>4-(intOf i).toNat)
  case atStart=>exact⟨0,noSl,Nat.zero_le _,rfl,HS.o⟩
  obtain⟨j,xs,hj,rfl,aB⟩:=hrel;have HT:=hJ aB;have aO:=aB.hv;have aN:=aB.hg;have aM:=aB.hgv;clear aB;by_cases hlt:j<4
  ·have j0:(0:Int)<=(j:Int):=by omega
   have j1:(j:Int)<4:=by omega
   go_wp2_with fail
   refine(zmj w0 wr c a len cap HO.o hlen HT.o.dr.cur (by have:=HT.o.var.lt;omega)).mono ?_;rintro e w3 ⟨n,hn,rfl,D3⟩;have H3:=hJ (HT.o.drews D3);clear D3;go_wp2_with fail
   refine(zah w0 w3 c a len cap 8 HO.o hlen H3.o.dr.cur dC dC).mono ?_;rintro e w4 ⟨z,hz,rfl,D4⟩;have H4:=hJ (H3.o.drews D4);have H5:=hJ (H4.o.alloc (.cells #[.string n,.int .i64 (1+(z:Int))] 90));have aF:=hJ (AtC.new w4 90 #[.string n,.int .i64 (1+(z:Int))]);obtain⟨v0,v1,v2,vl⟩:=H4.o.var.three;have aR:=vl;clear D4 H3;go_wp2_with fail
   have aP:=hJ H5.o.once.1;refine(zjq true _ xs ⟨#[]⟩ n _ (by have:=H5.o.own.rsl;exact this) (by have:=H5.o.once.1;omega)).mono ?_;rintro e w5 ⟨r,rfl,aH,B5⟩;have H6:=hJ (H5.o.over B5);have aC:=hJ (aF.o.over B5);have HR:=hJ (fun hr=>zmk aH hr (nmS_sz n hn).1);clear aH B5 H5 aF H4 v0 v1 v2;by_cases hneg:r<0
   ·have hd:decide (r<0)=true:=by simpa using hneg
    have aS:=H6.o.var.lt;go_wp2_with fail
    refine(zaw w0 w5 c a len cap 2 HO.o hlen H6.o.dr.cur dC dC).mono ?_;rintro e w6 ⟨x6,rfl,D6⟩;have H7:=hJ (H6.o.drews D6);have aD:=hJ (aC.o.grown D6.2 sO);clear D6 H6 aC
    cases hx6:(x6==0)with
    | true =>
     clear hx6;obtain⟨v0,v1,v2,aQ⟩:=H7.o.var.three;obtain⟨n0,n1,nl⟩:=aD.o.two;have O7:SOwns w6 (w.1.size+1) 90 (.slice (some ⟨g,0,none⟩) xs.length c4) xs:=by rw[H7.o.once.1];exact H7.o.own
     obtain⟨g3,c3,e3,k1,k2,k3,k4,k5,-⟩:=O7.at j (by rw[H7.o.once.1];exact hlt);simp only[Value.slice.injEq,Option.some.injEq,Addr.mk.injEq]at e3;obtain⟨⟨rfl,-,-⟩,-,rfl⟩:=e3;have H8:=hJ (H7.o.put hlt n (1+(z:Int)) hn (HR.o hneg) oM);clear O7 k4 aD;go_wp2;go_roundw
     case rel=>exact⟨j+1,_,by omega,by go_num,H8.o⟩
     simp[intOf];omega
    | false =>
     clear hx6 aD;go_wp2;go_roundw
     case rel=>exact⟨j+1,_,by omega,by go_num,H7.o⟩
     simp[intOf];omega
   have hd:decide (r<0)=false:=by simpa using hneg
   clear aC;go_wp2;go_roundw
   case rel=>exact⟨j+1,_,by omega,by go_num,H6.o⟩
   simp[intOf];omega
  have H3:=HT;obtain⟨q0,q1,q2,ql⟩:=HT.o.res.three;obtain⟨f0,f1,f2⟩:=HT.o.res.frz;obtain⟨v0,v1,v2,vl⟩:=HT.o.var.three;go_wp2;refine bodyPost_ret (v:=.agg #[.bool true,.slice (some ⟨g,0,none⟩) 4 c4,.string ⟨#[]⟩]) sQ3 rfl ⟨true,_,⟨#[]⟩,xs,rfl,?_,HT.o.once.kok,?_⟩
  ·exact(((HT.o.own.setCell_low oM _).setCell_low oM _).setCell_low oM _).base_le oM
  exact((HT.o.dr.setCell hcw nR _).setCell hcw nR _).setCell hcw nR _
theorem ROwns.slice2{w:Wd}{base:Nat}{v:Va}{p q:Int}(h:ROwns w base 3 v (ic [p,q])):∃g cap,v=.slice (aA g 0) 2 cap/\base<=g/\g<w.1.size:=by
 obtain⟨g,cap,h1,_,_,h2,h3,_⟩:=h.at 0 (by simp[ic]);exact⟨g,cap,h1,h2,h3⟩
theorem zhy{w0 w w':Wd}{c len cap bx g cap2:Nat}{a:OA}{k l p q:Int}(h:St w0 w w' c a len cap bx g cap2 k l p q)(x y z:Va):
  ROwns (((w'.setCell ⟨w.1.size,0,none⟩ x).setCell ⟨w.1.size,1,none⟩ y).setCell ⟨w.1.size,2,none⟩ z) w.1.size 3 (.slice (aA g 0) 2 cap2) (ic [p,q]) /\
  Drew w0 w (((w'.setCell ⟨w.1.size,0,none⟩ x).setCell ⟨w.1.size,1,none⟩ y).setCell ⟨w.1.size,2,none⟩ z) c a len cap :=
 ⟨((((h.own.setCell_other oM _).setCell_other oM _).setCell_other oM _).base_le oM),((h.dr.setCell h.hc nR _).setCell h.hc nR _).setCell h.hc nR _⟩
theorem zhz(w0 w:Wd)(c:Nat)(a:OA)(len cap:Nat)(hcode:za0 w0 a len)(hlen:len<=1048576)(hcur:Cur 103 w0 w c a len cap)(hcw:c<w.1.size):
  Calls Tryz.prog 111 #[.pointer (aA c 0)] w fun e w'=>∃(k l p q:Int)(v:Va),okR k l p q=true/\e=.returned (.agg #[nI k,nI l,v])/\ROwns w' w.1.size 3 v (ic [p,q])/\Drew w0 w w' c a len cap:=by
 have HC:=hJ hcur;have HO:=hJ hcode;clear hcur hcode;go_enter Tryz.func111,Tryz.ntmps111
 go_wp2_with fail
 refine(zbh w0 _ c (w.1.size+1) a len cap [0,1,2] HO.o hlen (za6 (za6 HC.o hcw _) sO _) ?_ oM dC dC).mono ?_
 ·have:=za2 (w.alloc (Obj.cells #[nI 0,nI 0,nZ] 59)) (Obj.cells #[nI 0,nI 1,nI 2] 3);rw[wA_]at this;exact this
 rintro e w1 ⟨k,hk,rfl,D1⟩;have d1:=(((Drew.refl HC.o).alloc hcw _).alloc hcw _).trans D1;have r1:=((AtT.new 59 w 0 0 (nZ)).alloc _).grown D1.2 (by intro e;cases e;omega);have H1:=hJ (aI d1 r1);have s1:=r1.lt;have aT:=hJ (by have h:=hk;simp only[mN,nN,or_false]at h;exact h)
 clear D1 d1 r1 hk;go_wp2_with fail
 refine(zbc k w1).mono ?_;rintro e w2 ⟨v,rfl,O2,B2⟩;obtain⟨g,aB,rfl,aV,aU⟩:=ROwns.slice2 O2;obtain⟨l,hl⟩:∃l,zan k=l:=⟨_,rfl⟩
 have aR:=hJ hl;rw[hl];have R2:=H1.o.2.below B2 H1.o.2.lt;have D2:=H1.o.1.below hcw B2;have O3:ROwns w2 (w.1.size+1) 3 (.slice (aA g 0) 2 aB) (ic [0,0]):=O2.base_le oM;have aF:=R2.lt;have st:St w0 w (w2.alloc (Obj.cells #[nI k,nI l,.slice (aA g 0) 2 aB] 59)) c a len cap w2.1.size g aB k l 0 0 :=
  ⟨R2.alloc _,AtT.new 59 w2 k l _,O3.alloc _,D2.alloc hcw _,aF,oM,hcw⟩
 have HS:=hJ st;have H2:=hJ (aI R2 (aI D2 O3));clear st O2 B2 H1 hl R2 D2 O3;by_cases hz:k=0
 ·subst hz;have aP:((0:Int) != 0)=false:=dC
  obtain⟨q0,q1,q2,z0,z1,z2,m0⟩:=zbk (w1:=w2) (b:=w.1.size) H2.o.1;clear HS;go_wp2;refine bY (v:=.agg #[nI 0,nI l,.slice (aA g 0) 2 aB]) (by simp[results,go_sem,q0,q1,q2,m0]) rfl ⟨0,l,0,0,_,(zc5 (.inl ⟨rfl,by rw[←aR.o];rfl,rfl,rfl⟩)).symm,rfl,?_,?_⟩
  ·exact(((((H2.o.2.2.setCell_other oM _).setCell_other oM _).setCell_other oM _).base_le oM)).alloc _
  exact((((H2.o.2.1.setCell hcw nR _).setCell hcw nR _).setCell hcw nR _)).alloc hcw _
 have aP:(k != 0)=true:=by simpa using hz
 clear H2;go_wp2_with fail
 refine(zah w0 _ c a len cap 4 HO.o hlen HS.o.dr.cur dC dC).mono ?_;rintro e w3 ⟨z3,aK,rfl,D3⟩;have aN:=hJ aK;clear aK;have aD:=HS.o.drews D3;obtain⟨p0,p1,p2,f0,f1,f2,m3⟩:=aD.cells;have H4:=hJ (aD.setLinks z3);clear D3 aD HS;go_wp2;obtain⟨w4,aM⟩:∃w4,w3.setCell ⟨w2.1.size,1,none⟩ (nI (z3:Int))=w4:=⟨_,rfl⟩
 rw[aM]at H4 ⊢;clear aM p0 p1 p2 f0 f1 f2 m3
 go_region_held3 (fun w'=>w'.cell? ⟨w2.1.size,2,none⟩=some (.slice (some ⟨g,0,none⟩) 2 aB)) (first| exact H4.o.drew.cells.2.2.1|exact(H4.o.drew.drews D5).cells.2.2.1|exact((H4.o.drew.drews D5).setP z5).cells.2.2.1) (first| (go_at_call 36;refine(zah w0 _ c a len cap 17 HO.o hlen H4.o.drew.dr.cur dC dC).mono ?_;rintro e w5 ⟨z5,aH,rfl,D5⟩;have aQ:=hJ aH;clear aH;obtain⟨t0,t1,t2,t3⟩:=(H4.o.drew.drews D5).ptrs))
 have H6:=hJ ((H4.o.drew.drews D5).setP z5);clear D5 t0 t1 t2 t3 H4;generalize w5.setCell ⟨g,0,none⟩ (nI (z5:Int))=w6 at*;go_wp2
 go_region_held3 (fun w'=>w'.cell? ⟨w2.1.size,2,none⟩=some (.slice (some ⟨g,0,none⟩) 2 aB)) (first| exact H6.o.drew.cells.2.2.1|exact(H6.o.drew.drews D7).cells.2.2.1|exact((H6.o.drew.drews D7).alloc _).cells.2.2.1|exact(((H6.o.drew.drews D7).alloc _).drews D8).cells.2.2.1|exact((((H6.o.drew.drews D7).alloc _).drews D8).setQ z8).cells.2.2.1) (first| (go_at_call 36;refine(zah w0 _ c a len cap 17 HO.o hlen H6.o.drew.dr.cur dC dC).mono ?_;rintro e w7 ⟨z7,aL,rfl,D7⟩;have aO:=hJ aL;clear aL)| (go_at_call 66;refine(zbh w0 _ c w7.1.size a len cap [0,0,(z7:Int)] HO.o hlen ((H6.o.drew.drews D7).alloc _).dr.cur (za2 w7 _) (by have h1:=(H6.o.drew.drews D7).dr.2.size;omega) sI sI).mono ?_;rintro e w8 ⟨z8,aG,rfl,D8⟩;have aS:Hid (0<=z8/\z8<=16):=(by have h7:=aO.o;simp at aG;show _/\_;omega);clear aG;obtain⟨t0,t1,t2,t3⟩:=(((H6.o.drew.drews D7).alloc _).drews D8).ptrs))
 have aC:=(((H6.o.drew.drews D7).alloc _).drews D8).setQ z8;clear D7 D8 t0 t1 t2 t3 H6;generalize w8.setCell ⟨g,1,none⟩ (nI z8)=w9 at*;obtain⟨q0,q1,q2,z0,z1,z2,m0⟩:=zbk (w1:=w9) (b:=w.1.size) aC.res;obtain⟨p0,p1,p2,f0,f1,f2,m9⟩:=aC.cells;have H9:=hJ (zhy aC (nI k) (nI (z3:Int)) (.slice (aA g 0) 2 aB));clear aC;go_wp2;refine bY (v:=.agg #[nI k,nI (z3:Int),.slice (aA g 0) 2 aB]) sQ3 rfl ⟨k,z3,_,_,_,(zc5 (.inr (by have h1:=aT.o;have h3:=aN.o;have h5:=aQ.o;have h8:=aS.o;omega))).symm,rfl,H9.o.1,H9.o.2⟩
namespace Kit
structure DkR(xs ys:List Bool)(is:List Ino)(bs:List Blk):Prop where
 x:xs.length=16
 y:ys.length=8
 i:is.length=8
 ii:∀q∈is,IOk q
 b:bs.length=16
 bb:∀q∈bs,KOk q
theorem DkR.bit{xs ys:List Bool}{is:List Ino}{bs:List Blk}(h:DkR xs ys is bs)(j:Nat)(z:Bool):DkR (xs.set j z) ys is bs:=⟨by rw[lS];exact h.x,h.y,h.i,h.ii,h.b,h.bb⟩
theorem DkR.ino{xs ys:List Bool}{is:List Ino}{bs:List Blk}(h:DkR xs ys is bs)(j:Nat){z:Ino}(hz:IOk z):DkR xs ys (is.set j z) bs :=
 ⟨h.x,h.y,by rw[lS];exact h.i,fun q hq=>(mS hq).elim (h.ii q) (fun e=>e ▸ hz),h.b,h.bb⟩
theorem DkR.blk{xs ys:List Bool}{is:List Ino}{bs:List Blk}(h:DkR xs ys is bs)(j:Nat){z:Blk}(hz:KOk z):DkR xs ys is (bs.set j z) :=
 ⟨h.x,h.y,h.i,h.ii,by rw[lS];exact h.b,fun q hq=>(mS hq).elim (h.bb q) (fun e=>e ▸ hz)⟩
section
variable {w : World} {S : Nat -> Prop} {u v iv bv : Value} {xs ys : List Bool} {is : List Ino} {bs : List Blk}
theorem DO.setI(h:DO w S u v iv bv xs ys is bs){g n cap:Nat}(hv:iv=.slice (aA g 0) n cap)(j:Nat)(hj:j<is.length)(t':V3)(x':Ino)(hO:KI.O w t' x')(hn:∀k,t'.2.2.ownBlock=some k->¬S k):
  DO (set3 w g j t') (fun k=>S k\/t'.2.2.ownBlock=some k) u v iv bv xs ys (is.set j x') bs:=by
 obtain⟨T1,T2,T3,ti,tb,z1,z2,z3,z4,z5,z6,z7⟩:=h;have gT:=z3.so g vR;have un:∀k,k≠g->(set3 w g j t').heap[k]?=w.1[k]?:=fun k hk=>zaz w g j t' k hk;have zz:=z3.putX hv j (by rw[z3.len];exact hj) t' x' hO (fun k hk e=>hn k hk (z7 k (.inr (.inl e))));refine⟨T1,fun k=>T2 k\/t'.2.2.ownBlock=some k,T3,ti.set j t',tb,⟨z1.a.of_heap fun k hk=>un k fun e=>(z5 k (z2 k (.inl hk))).1 (e ▸ gT),z1.b.of_heap fun k hk=>un k fun e=>(z5 k (z2 k (.inr hk))).1 (e ▸ gT),z1.ne⟩,z2,zz,z4.of_heap fun k hk _=>un k fun e=>z6 g gT (e ▸ hk),fun k hk=>⟨fun e=>?_,(z5 k hk).2⟩,fun k hk e=>?_,fun k hk=>?_⟩
 ·rcases e with e|e
  ·exact(z5 k hk).1 e
  exact hn k e (z7 k (.inl hk))
 ·rcases hk with hk|hk
  ·exact z6 k hk e
  exact hn k hk (z7 k (.inr (.inr e)))
 exact cQ84
theorem DO.setBk(h:DO w S u v iv bv xs ys is bs){g n cap:Nat}(hv:bv=.slice (aA g 0) n cap)(j:Nat)(hj:j<bs.length)(t':V3)(x':Blk)(hO:KB.O w t' x')(hn:∀k,t'.2.1.ownBlock=some k->¬S k):
  DO (set3 w g j t') (fun k=>S k\/t'.2.1.ownBlock=some k) u v iv bv xs ys is (bs.set j x'):=by
 obtain⟨T1,T2,T3,ti,tb,z1,z2,z3,z4,z5,z6,z7⟩:=h;have gT:=z4.so g vR;have un:∀k,k≠g->(set3 w g j t').heap[k]?=w.1[k]?:=fun k hk=>zaz w g j t' k hk;have zz:=z4.putX hv j (by rw[z4.len];exact hj) t' x' hO (fun k hk e=>hn k hk (z7 k (.inr (.inr e))));refine⟨T1,T2,fun k=>T3 k\/t'.2.1.ownBlock=some k,ti,tb.set j t',⟨z1.a.of_heap fun k hk=>un k fun e=>(z5 k (z2 k (.inl hk))).2 (e ▸ gT),z1.b.of_heap fun k hk=>un k fun e=>(z5 k (z2 k (.inr hk))).2 (e ▸ gT),z1.ne⟩,z2,z3.of_heap fun k hk _=>un k fun e=>z6 k hk (e ▸ gT),zz,fun k hk=>⟨(z5 k hk).1,fun e=>?_⟩,fun k hk e=>?_,fun k hk=>?_⟩
 ·rcases e with e|e
  ·exact(z5 k hk).2 e
  exact hn k e (z7 k (.inl hk))
 ·rcases e with e|e
  ·exact z6 k hk e
  exact hn k e (z7 k (.inr (.inl hk)))
 exact cQ86
theorem DO.setX(h:DO w S u v iv bv xs ys is bs){g n cap:Nat}(hv:u=.slice (aA g 0) n cap)(j:Nat)(z:Bool):
  DO (w.setCell ⟨g,j,none⟩ (.bool z)) S u v iv bv (xs.set j z) ys is bs:=by
 obtain⟨T1,T2,T3,ti,tb,z1,z2,z3,z4,z5,z6,z7⟩:=h;have gT:=z2 g (.inl vR);have un:∀k,k≠g->(w.setCell ⟨g,j,none⟩ (.bool z)).1[k]?=w.1[k]?:=fun k hk=>hO_ w ⟨g,j,none⟩ k _ hk;have ha:ROwns (w.setCell ⟨g,j,none⟩ (.bool z)) 0 4 u (fc (xs.set j z)):=by
  have k1:=z1.a;obtain⟨a,c,e⟩:=k1.rfl.form;rw[hv]at e;simp only[vJ]at e;obtain⟨-,rfl,-⟩:=e;subst hv;have hl:xs.length=(fc xs).length:=by simp[fc]
  rw[hl]at k1 ⊢;have k2:=(k1.stored j (.bool z)).1;have e2:(fc xs).set j (.bool z)=fc (xs.set j z):=by simp[fc,List.map_set]
  rwa[e2]at k2
 exact⟨T1,T2,T3,ti,tb,⟨ha,z1.b.of_heap fun k hk=>un k fun e=>z1.ne g vR (e ▸ hk),z1.ne⟩,z2,z3.of_heap fun k hk _=>un k fun e=>(z5 g gT).1 (e ▸ hk),z4.of_heap fun k hk _=>un k fun e=>(z5 g gT).2 (e ▸ hk),z5,z6,z7⟩
end
section
variable {w : World} {S : Nat -> Prop} {u v iv bv : Value} {xs ys : List Bool} {is : List Ino} {bs : List Blk}
theorem DO.forms(h:DO w S u v iv bv xs ys is bs)(h1:0<xs.length)(h2:0<is.length)(h3:0<bs.length):∃g1 c1 g2 c2 g3 c3,u=.slice (aA g1 0) xs.length c1/\iv=.slice (aA g2 0) is.length c2/\bv=.slice (aA g3 0) bs.length c3:=by
 obtain⟨T1,T2,T3,ti,tb,z1,z2,z3,z4,z5,z6,z7⟩:=h;obtain⟨g1,c1,e1,-⟩:=z1.a.at 0 (by simpa[fc]using h1);obtain⟨g2,c2,e2,-⟩:=z3.row.at 0 (by rw[z3.len];exact h2);obtain⟨g3,c3,e3,-⟩:=z4.row.at 0 (by rw[z4.len];exact h3);exact⟨g1,c1,g2,c2,g3,c3,by simpa[fc]using e1,by rw[←z3.len];exact e2,by rw[←z4.len];exact e3⟩
theorem DO.ptAt(h:DO w S u v iv bv xs ys is bs){g n cap:Nat}(hv:iv=.slice (aA g 0) n cap)(j:Nat)(hj:j<is.length){p q:Int}(hp:is[j].2.2=[p,q]):
  ∃gp cp,∀w2:Wd,(∀k,S k->k<w.1.size->w2.1[k]?=w.1[k]?)->w2.cell? ⟨g,j*3+2,none⟩=some (.slice (aA gp 0) 2 cp)/\w2.cell? ⟨gp,0,none⟩=some (nI p):=by
 obtain⟨T1,T2,T3,ti,tb,z1,z2,z3,z4,z5,z6,z7⟩:=h;have aB:j<ti.length:=by rw[z3.len];exact hj
 have e3:=(z3.inn j aB hj).2.2;rw[hp]at e3;obtain⟨gp,cp,e,-⟩:=e3.at 0 (by simp[ic]);refine⟨gp,cp,fun w2 hh=>?_⟩;have z:=z3.of_heap (w':=w2) fun k hs hk=>hh k (z7 k (.inr (.inl hs))) hk;obtain⟨g',c',e',k1,k2,k3,-⟩:=z.row.at j aB;rw[hv]at e';simp only[vJ,oJ,aJ]at e';obtain⟨⟨rfl,-⟩,-,-⟩:=e';have f3:=(z.inn j aB hj).2.2;rw[hp]at f3;obtain⟨gq,cq,f,m1,-⟩:=f3.at 0 (by simp[ic]);rw[e]at f;simp only[vJ,oJ,aJ]at f;obtain⟨⟨rfl,-⟩,-,rfl⟩:=f;exact⟨by rw[k3,e];simp[ic],by rw[m1];simp[ic]⟩
theorem DO.slAt(h:DO w S u v iv bv xs ys is bs){g n cap:Nat}(hv:bv=.slice (aA g 0) n cap)(j:Nat)(hj:j<bs.length)(h4:bs[j].2.1.length=4):
  ∃gs cs,S gs/\∀w2:Wd,(∀k,S k->k<w.1.size->w2.1[k]?=w.1[k]?) ->
   w2.cell? ⟨g,j*3+1,none⟩=some (.slice (aA gs 0) 4 cs)/\gs<w2.1.size/\(∀k,w2.frozen? ⟨gs,k,none⟩=false) /\
   ∀i,i<4->(∃(n:BA)(z:Int),w2.cell? ⟨gs,i*2,none⟩=some (.string n)/\w2.cell? ⟨gs,i*2+1,none⟩=some (nI z)) /\
    ∀(nm:BA)(z:Int),DO ((w2.setCell ⟨gs,i*2,none⟩ (.string nm)).setCell ⟨gs,i*2+1,none⟩ (nI z)) S u v iv bv xs ys is (bs.set j (bs[j].1,bs[j].2.1.set i (nm,z),bs[j].2.2)):=by
 have H:=h;obtain⟨T1,T2,T3,ti,tb,z1,z2,z3,z4,z5,z6,z7⟩:=h;have aB:j<tb.length:=by rw[z4.len];exact hj
 obtain⟨gs,cs,e,-⟩:=(z4.inn j aB hj).2.1.at 0 oM;have gT:=z4.si j aB gs (by show(tb[j].2.1).ownBlock=some gs;rw[e];rfl);refine⟨gs,cs,z7 gs (.inr (.inr gT)),fun w2 hh=>?_⟩;have z:=z4.of_heap (w':=w2) fun k hs hk=>hh k (z7 k (.inr (.inr hs))) hk;obtain⟨g',c',e',k1,k2,k3,-⟩:=z.row.at j aB;rw[hv]at e';simp only[vJ,oJ,aJ]at e';obtain⟨⟨rfl,-⟩,-,-⟩:=e';have f3:=(z.inn j aB hj).2.1;have aD:SOwns w2 0 90 (.slice (aA gs 0) bs[j].2.1.length cs) bs[j].2.1:=by rw[←e];exact f3
 obtain⟨gq,cq,f,-,-,mf,-,ml,-⟩:=f3.at 0 oM;rw[e]at f;simp only[vJ,oJ,aJ]at f;obtain⟨⟨rfl,-⟩,-,rfl⟩:=f;refine⟨by rw[k2,e,h4],ml,mf,fun i hi=>⟨?_,fun nm x=>?_⟩⟩
 ·obtain⟨gr,cr,f,m1,m2,-⟩:=f3.at i oM;rw[e]at f;simp only[vJ,oJ,aJ]at f;obtain⟨⟨rfl,-⟩,-,-⟩:=f;exact⟨_,_,m1,m2⟩
 have aG:=H.of_heap (w':=w2) hh;have sz:=(aD.set_both i oM nm x).1;obtain⟨W,hW⟩:∃W,(w2.setCell ⟨gs,i*2,none⟩ (.string nm)).setCell ⟨gs,i*2+1,none⟩ (nI x)=W:=⟨_,rfl⟩
 have un:∀k,k≠gs->W.1[k]?=w2.1[k]?:=fun k hk=>by
  rw[←hW,hO_ _ ⟨gs,i*2+1,none⟩ k _ hk,hO_ _ ⟨gs,i*2,none⟩ k _ hk]
 rw[hW]at sz ⊢;have aC:=z.out j aB gs (by show(tb[j].2.1).ownBlock=some gs;rw[e];rfl);have es:=List.set_getElem_self aB;have z':GO KB W T3 bv tb (bs.set j (bs[j].1,bs[j].2.1.set i (nm,x),bs[j].2.2)):=by
  have q:=z.turn (w':=W) (S':=T3) j aB tb[j] (bs[j].1,bs[j].2.1.set i (nm,x),bs[j].2.2) (by rw[es];exact z.row.of_heap fun k hk=>un k fun e2=>aC (e2 ▸ hk)) ⟨(z.inn j aB hj).1,by show SOwns W 0 90 tb[j].2.1 _;rw[e];exact sz,(z.inn j aB hj).2.2⟩
   (fun k _ _ h2=>un k fun e2=>h2 (by rw[e2];show(tb[j].2.1).ownBlock=some gs;rw[e];rfl)) (fun k hk=>.inl hk) (fun k hk=>hk) (fun k hk=>z.si j aB k hk)
  rw[es]at q;exact q
 have t1:=fun k hk aF=>hh k (z7 k (.inl (z2 k hk))) aF;refine⟨T1,T2,T3,ti,tb,⟨(z1.a.of_heap (w':=w2) fun k hk=>t1 k (.inl hk) (z1.a.lt k hk).2).of_heap fun k hk=>un k fun e2=>(z5 k (z2 k (.inl hk))).2 (e2 ▸ gT),(z1.b.of_heap (w':=w2) fun k hk=>t1 k (.inr hk) (z1.b.lt k hk).2).of_heap fun k hk=>un k fun e2=>(z5 k (z2 k (.inr hk))).2 (e2 ▸ gT),z1.ne⟩,z2,(z3.of_heap (w':=w2) fun k hs hk=>hh k (z7 k (.inr (.inl hs))) hk).of_heap fun k hs _=>un k fun e2=>z6 k hs (e2 ▸ gT),z',z5,z6,z7⟩
end
structure WdQ(w0 w w':Wd)(c:Nat)(a:OA)(len cap b:Nat)(u v iv bv:Va)(xs ys:List Bool)(is:List Ino)(bs:List Blk):Prop where
 res:AtC w' w.1.size 30 Xd.zD
 box:AtC w' b 30 #[u,v,iv,bv]
 dsk:DO w' (fun k=>w.1.size<k/\k≠b) u v iv bv xs ys is bs
 dr:Drew w0 w w' c a len cap
 hb:w.1.size<b
 hc:c<w.1.size
 ok:DkR xs ys is bs
namespace WdQ
variable {w0 w w' w2 : World} {c len cap b : Nat} {a : Option Addr} {u v iv bv : Value} {xs ys : List Bool} {is : List Ino} {bs : List Blk}
theorem drews(h:WdQ w0 w w' c a len cap b u v iv bv xs ys is bs)(hd:Drew w0 w' w2 c a len cap):WdQ w0 w w2 c a len cap b u v iv bv xs ys is bs:=by
 have h1:=h.hc;have h2:=h.hb;exact⟨h.res.grown hd.2 sO,h.box.grown hd.2 sO,h.dsk.of_heap fun k hk aB=>hd.2.block k aB sO,h.dr.trans hd,h.hb,h.hc,h.ok⟩
theorem over(h:WdQ w0 w w' c a len cap b u v iv bv xs ys is bs)(hb:Below w'.1.size w' w2):WdQ w0 w w2 c a len cap b u v iv bv xs ys is bs :=
 ⟨h.res.over hb,h.box.over hb,h.dsk.below hb nR,h.dr.below h.hc hb,h.hb,h.hc,h.ok⟩
theorem drew(h:WdQ w0 w w' c a len cap b u v iv bv xs ys is bs):WdQ w0 w w'.drew c a len cap b u v iv bv xs ys is bs:=h.over bR.drew
theorem alloc(h:WdQ w0 w w' c a len cap b u v iv bv xs ys is bs)(o:Obj):WdQ w0 w (w'.alloc o) c a len cap b u v iv bv xs ys is bs:=h.over ((Below.refl _ w').alloc nR o)
theorem away(h:WdQ w0 w w' c a len cap b u v iv bv xs ys is bs){g:Nat}(hg:w.1.size<g/\g≠b)(j:Nat)(x:Value){xs':List Bool}{is':List Ino}{bs':List Blk}{S:Nat->Prop}(d:DO (w'.setCell ⟨g,j,none⟩ x) S u v iv bv xs' ys is' bs')(hS:∀k,S k->w.1.size<k/\k≠b)(ok:DkR xs' ys is' bs'):
  WdQ w0 w (w'.setCell ⟨g,j,none⟩ x) c a len cap b u v iv bv xs' ys is' bs' :=
 ⟨h.res.other oM _,h.box.other (Ne.symm hg.2) _,d.mono hS,h.dr.setCell h.hc oM _,h.hb,h.hc,ok⟩
theorem away3(h:WdQ w0 w w' c a len cap b u v iv bv xs ys is bs){g:Nat}(hg:w.1.size<g/\g≠b)(j:Nat)(t:V3){xs':List Bool}{is':List Ino}{bs':List Blk}{S:Nat->Prop}(d:DO (set3 w' g j t) S u v iv bv xs' ys is' bs')(hS:∀k,S k->w.1.size<k/\k≠b)(ok:DkR xs' ys is' bs'):
  WdQ w0 w (set3 w' g j t) c a len cap b u v iv bv xs' ys is' bs' :=
 ⟨((h.res.other oM _).other oM _).other oM _,((h.box.other (Ne.symm hg.2) _).other (Ne.symm hg.2) _).other (Ne.symm hg.2) _,d.mono hS,((h.dr.setCell h.hc oM _).setCell h.hc oM _).setCell h.hc oM _,h.hb,h.hc,ok⟩
theorem putI(h:WdQ w0 w w' c a len cap b u v iv bv xs ys is bs){g n cp:Nat}(hv:iv=.slice (some ⟨g,0,none⟩) n cp)(j:Nat)(hj:j<8)(hd:Drew w0 w' w2 c a len cap)(k l p q:Int)(pv:Value)(hO:ROwns w2 w'.1.size 3 pv (ic [p,q]))(hz:okR k l p q=true):
  WdQ w0 w (set3 w2 g j (.int .i64 k,.int .i64 l,pv)) c a len cap b u v iv bv xs ys (is.set j (k,l,[p,q])) bs:=by
 have h2:=h.drews hd;have aB:j<is.length:=by rw[h.ok.i];exact hj
 obtain⟨-,-,-,-,hg⟩:=h.dsk.atI hv j aB;have aD:=h.box.lt;have d:=((h.dsk.bound.of_heap (w':=w2) fun k hk aC=>hd.2.block k aC (by have:=h.hc;simp;omega))).setI hv j aB (.int .i64 k,.int .i64 l,pv) (k,l,[p,q]) ⟨rfl,rfl,hO.base_le (Nat.zero_le _)⟩ (fun m hm=>by have h1:=(hO.lt m hm).1;intro e;have:=e.2;omega);refine h2.away3 hg j _ d (fun m hm=>hm.elim (fun e=>e.1) (fun e=>?_)) (h.ok.ino j (ok.IOk (by exact hz)));have h1:=(hO.lt m e).1;have h3:=h.hb;omega
theorem putB(h:WdQ w0 w w' c a len cap b u v iv bv xs ys is bs){g n cp:Nat}(hv:bv=.slice (some ⟨g,0,none⟩) n cp)(j:Nat)(hj:j<16)(hd:Drew w0 w' w2 c a len cap)(d:Bool)(sv:Value)(t:ByteArray)(ss:List Sl)(hO:SOwns w2 w'.1.size 90 sv ss)(hz:KOk ((d,ss,t):Blk)):
  WdQ w0 w (set3 w2 g j (.bool d,sv,.string t)) c a len cap b u v iv bv xs ys is (bs.set j (d,ss,t)):=by
 have h2:=h.drews hd;have aB:j<bs.length:=by rw[h.ok.b];exact hj
 obtain⟨-,-,-,-,hg⟩:=h.dsk.atB hv j aB;have aD:=h.box.lt;have dd:=((h.dsk.bound.of_heap (w':=w2) fun k hk aC=>hd.2.block k aC (by have:=h.hc;simp;omega))).setBk hv j aB (.bool d,sv,.string t) (d,ss,t) ⟨rfl,hO.base_le (Nat.zero_le _),rfl⟩ (fun m hm=>by have h1:=(hO.lt m hm).1;intro e;have:=e.2;omega);refine h2.away3 hg j _ dd (fun m hm=>hm.elim (fun e=>e.1) (fun e=>?_)) (h.ok.blk j hz);have h1:=(hO.lt m e).1;have h3:=h.hb;omega
theorem putX(h:WdQ w0 w w' c a len cap b u v iv bv xs ys is bs){g n cp:Nat}(hv:u=.slice (some ⟨g,0,none⟩) n cp)(j:Nat)(z:Bool):
  WdQ w0 w (w'.setCell ⟨g,j,none⟩ (.bool z)) c a len cap b u v iv bv (xs.set j z) ys is bs:=by
 refine h.away ?_ j _ (h.dsk.setX hv j z) (fun k hk=>hk) (h.ok.bit j z);obtain⟨T1,T2,T3,ti,tb,z1,z2,z3,z4,z5,z6,z7⟩:=h.dsk;exact z7 g (.inl (z2 g (.inl vR)))
theorem cells(h:WdQ w0 w w' c a len cap b u v iv bv xs ys is bs):w'.cell? ⟨b,0,none⟩=some u/\w'.cell? ⟨b,1,none⟩=some v/\w'.cell? ⟨b,2,none⟩=some iv/\w'.cell? ⟨b,3,none⟩=some bv/\b<w'.1.size :=
 ⟨h.box.cell 0,h.box.cell 1,h.box.cell 2,h.box.cell 3,h.box.lt⟩
theorem inos(h:WdQ w0 w w' c a len cap b u v iv bv xs ys is bs){g n cp:Nat}(hv:iv=.slice (some ⟨g,0,none⟩) n cp)(j:Nat)(hj:j<8):
  ∃x y p,w'.cell? ⟨g,j*3,none⟩=some (.int .i64 x)/\w'.cell? ⟨g,j*3+1,none⟩=some (.int .i64 y)/\w'.cell? ⟨g,j*3+2,none⟩=some p/\w'.frozen? ⟨g,j*3,none⟩=false/\w'.frozen? ⟨g,j*3+1,none⟩=false/\w'.frozen? ⟨g,j*3+2,none⟩=false/\g<w'.1.size:=by
 obtain⟨⟨x,y,p,h1,h2,h3,-⟩,h4,h5,-⟩:=h.dsk.atI hv j (by rw[h.ok.i];exact hj);exact⟨x,y,p,h1,h2,h3,h4 _,h4 _,h4 _,h5⟩
theorem blks(h:WdQ w0 w w' c a len cap b u v iv bv xs ys is bs){g n cp:Nat}(hv:bv=.slice (some ⟨g,0,none⟩) n cp)(j:Nat)(hj:j<16):
  ∃x p t,w'.cell? ⟨g,j*3,none⟩=some (.bool x)/\w'.cell? ⟨g,j*3+1,none⟩=some p/\w'.cell? ⟨g,j*3+2,none⟩=some (.string t)/\w'.frozen? ⟨g,j*3,none⟩=false/\w'.frozen? ⟨g,j*3+1,none⟩=false/\w'.frozen? ⟨g,j*3+2,none⟩=false/\g<w'.1.size:=by
 obtain⟨⟨x,p,t,h1,h2,h3,-⟩,h4,h5,-⟩:=h.dsk.atB hv j (by rw[h.ok.b];exact hj);exact⟨x,p,t,h1,h2,h3,h4 _,h4 _,h4 _,h5⟩
theorem bit(h:WdQ w0 w w' c a len cap b u v iv bv xs ys is bs){g n cp:Nat}(hv:u=.slice (some ⟨g,0,none⟩) n cp)(j:Nat)(hj:j<16):
  ∃x,w'.cell? ⟨g,j,none⟩=some (.bool x)/\w'.frozen? ⟨g,j,none⟩=false/\g<w'.1.size:=by
 have hx:=h.ok.x;obtain⟨g',c',e',k1,k2,-,k3,-⟩:=h.dsk.two.a.at j (by simpa[fc,hx]using hj);rw[hv]at e';simp only[Value.slice.injEq,Option.some.injEq,Addr.mk.injEq]at e';obtain⟨⟨rfl,-⟩,-,-⟩:=e';exact⟨xs[j]'oM,by rw[k1];simp[fc,hx,hj],k2,k3⟩
theorem slot(h:WdQ w0 w w' c a len cap b u v iv bv xs ys is bs){gs j:Nat}{x y:Value}{bs':List Blk}(hs:w.1.size<gs/\gs≠b)(d:DO ((w'.setCell ⟨gs,j,none⟩ x).setCell ⟨gs,j+1,none⟩ y) (fun k=>w.1.size<k/\k≠b) u v iv bv xs ys is bs')(ok:DkR xs ys is bs'):
  WdQ w0 w ((w'.setCell ⟨gs,j,none⟩ x).setCell ⟨gs,j+1,none⟩ y) c a len cap b u v iv bv xs ys is bs' :=
 ⟨(h.res.other oM _).other oM _,(h.box.other (Ne.symm hs.2) _).other (Ne.symm hs.2) _,d,(h.dr.setCell h.hc oM _).setCell h.hc oM _,h.hb,h.hc,ok⟩
theorem keepD(h:WdQ w0 w w' c a len cap b u v iv bv xs ys is bs)(hd:Drew w0 w' w2 c a len cap):∀k,(w.1.size<k/\k≠b)->k<w'.1.size->w2.1[k]?=w'.1[k]?:=fun k hk aB=>hd.2.block k aB (by have:=h.hc;simp;omega)
end WdQ
end Kit
namespace Kit
def PtN(B:Nat)(w:Wd)(v:Va)(ps:List Int):Prop:=∃g o c,v=.slice (aA g o) ps.length c/\B<=g/\g<w.1.size/\∀(j:Nat)(h:j<ps.length),w.cell? ⟨g,o+j,none⟩=some (nI ps[j])
theorem PtN.rints{B:Nat}{w:Wd}{v:Va}{ps:List Int}(h:PtN B w v ps):RInts w v ps:=by
 obtain⟨g,o,c,rfl,-,hg,hc⟩:=h;exact⟨_,_,rfl,fun j hj=>⟨g,o,rfl,hg,hc j hj⟩⟩
theorem PtN.of_own{B:Nat}{w:Wd}{g cap:Nat}{p q:Int}(h:ROwns w B 3 (.slice (aA g 0) 2 cap) (ic [p,q])):PtN B w (.slice (aA g 0) 2 cap) [p,q]/\PtN B w (.slice (aA g 1) 1 (cap-1)) [q]:=by
 have h':w.ownsRow B 3 1 (.slice (aA g 0) 2 cap) 2 (ic [p,q]):=h;have c0:=h'.cellAt 0 dC;have c1:=h'.cellAt 1 dC;obtain⟨l1,l2⟩:=h.lt g rfl;refine⟨⟨g,0,cap,rfl,l1,l2,fun j hj=>?_⟩,g,1,cap-1,rfl,l1,l2,fun j hj=>?_⟩
 ·have aB:j=0\/j=1:=by simp at hj;omega
  rcases aB with rfl|rfl
  ·exact c0
  exact c1
 have aB:j=0:=by simp at hj;omega
 subst aB;exact c1
end Kit
theorem stK{w0 w w':Wd}{c len cap bx g cap2:Nat}{a:OA}{k l p q:Int}(h:St w0 w w' c a len cap bx g cap2 k l p q)(z:Int):St w0 w (w'.setCell ⟨bx,0,none⟩ (nI z)) c a len cap bx g cap2 z l p q :=
 ⟨h.res.set_other (by have:=h.hx;omega) _,h.x.set0 z,h.own.of_heap fun j hj=>hO_ _ ⟨bx,0,none⟩ j _ (by have e1:=(by simpa[Value.ownBlock]using hj);have e2:=h.hne;show j≠bx;omega),h.dr.setCell h.hc (by have:=h.hx;omega) _,h.hx,h.hne,h.hc⟩
theorem inoX_any(w0 w:Wd)(c:Nat)(a:OA)(len cap:Nat)(hcode:za0 w0 a len)(hlen:len<=1048576)(hcur:Cur 103 w0 w c a len cap)(hcw:c<w.1.size):
  Calls Tryz.prog 100 #[.pointer (aA c 0)] w fun e w'=>∃(k l:Int)(v:Va)(ps:List Int),e=.returned (.agg #[nI k,nI l,v])/\PtN w.1.size w' v ps/\ps.length<=2/\Drew w0 w w' c a len cap:=by
 have HC:=hJ hcur;have HO:=hJ hcode;clear hcur hcode;obtain⟨W0,aL⟩:∃W0,w.alloc (.cells #[nI 0,nI 0,nZ] 59)=W0:=⟨_,rfl⟩
 have aK:Hid (AtT 59 W0 w.1.size 0 0 (nZ)/\Drew w0 w W0 c a len cap/\c<W0.1.size/\w.1.size<W0.1.size):=by
  rw[←aL];exact⟨AtT.new 59 w 0 0 _,(Drew.refl HC.o).alloc hcw _,sO,sI⟩
 go_enter Tryz.func100,Tryz.ntmps100
 go_wp2_with fail
 clear aL;refine(zhz w0 W0 c a len cap HO.o hlen aK.o.2.1.cur aK.o.2.2.1).mono ?_;rintro e w2 ⟨k,l,p,q,v,-,rfl,O2,D2⟩;obtain⟨g,aB,rfl,aR,aQ⟩:=ROwns.slice2 O2;have aO:2<=aB:=by
  obtain⟨_,_,e,_,_,_,_,h⟩:=O2.at 0 (by simp[ic]);simp only[vJ]at e;obtain⟨-,-,rfl⟩:=e;simpa[ic]using h
 have HS:Hid (St w0 w (w2.alloc (Obj.cells #[nI k,nI l,.slice (aA g 0) 2 aB] 59)) c a len cap w2.1.size g aB k l p q):=by
  obtain⟨h1,h2,h3,h4⟩:=aK.o;exact⟨(h1.grown D2.2 (by intro e;cases e;omega)).alloc _,AtT.new 59 w2 k l _,(O2.base_le oM).alloc _,(h2.trans D2).alloc hcw _,by have:=D2.2.size;omega,oM,hcw⟩
 clear O2 D2 aK HC;go_wp2_with fail
 refine(zah w0 _ c a len cap 12 HO.o hlen HS.o.dr.cur dC dC).mono ?_;rintro e w3 ⟨x,hx,rfl,D3⟩;have aC:=hJ (HS.o.drews D3);clear D3 HS;have aP:x=0\/x=1\/x=2\/x=3\/4<=x:=oM
 have aD:∀A:Array Va,(w3.n A 3).1[w3.1.size]?=some (.cells A 3):=fun A=>za2 w3 _;have aF:∀h:St w0 w w3 c a len cap w2.1.size g aB k l p q,c≠w3.1.size:=fun h=>by have h1:=h.hc;have h2:=h.dr.2.size;omega
 rcases aP with rfl|rfl|rfl|rfl|h4
 ·go_wp2_with fail
  refine(zbh w0 _ c w3.1.size a len cap [-1,0,3] HO.o hlen (aC.o.alloc _).dr.cur (aD _) (aF aC.o) sI sI).mono ?_;rintro e w5 ⟨z,-,rfl,D5⟩;have aH:=hJ ((aC.o.alloc _).drews D5);clear D5 aC aD aF;obtain⟨p0,p1,p2,f0,f1,f2,m9⟩:=aH.o.cells;have aG:=hJ (stK aH.o z);clear aH;obtain⟨q0,q1,q2,z0,z1,z2,m0⟩:=zbk (w1:=w5.setCell ⟨w2.1.size,0,none⟩ (nI z)) (b:=w.1.size) aG.o.res;obtain⟨s0,s1,s2,r0,r1,r2,r9⟩:=aG.o.cells;have H9:=hJ (zhy aG.o (nI z) (nI l) (.slice (aA g 0) 2 aB));clear aG;go_wp2;exact bY (v:=.agg #[nI z,nI l,.slice (aA g 0) 2 aB]) sQ3 rfl ⟨z,l,_,_,rfl,(PtN.of_own H9.o.1).1,Nat.le_refl _,H9.o.2⟩
 ·go_wp2_with fail
  refine(zbh w0 _ c w3.1.size a len cap [-1,0,200,201] HO.o hlen (aC.o.alloc _).dr.cur (aD _) (aF aC.o) sI sI).mono ?_;rintro e w5 ⟨z,-,rfl,D5⟩;have aH:=hJ ((aC.o.alloc _).drews D5);clear D5 aC aD aF;obtain⟨p0,p1,p2,f0,f1,f2,m9⟩:=aH.o.cells;have aG:=hJ (aH.o.setLinks z);clear aH;obtain⟨q0,q1,q2,z0,z1,z2,m0⟩:=zbk (w1:=w5.setCell ⟨w2.1.size,1,none⟩ (nI z)) (b:=w.1.size) aG.o.res;obtain⟨s0,s1,s2,r0,r1,r2,r9⟩:=aG.o.cells;have H9:=hJ (zhy aG.o (nI k) (nI z) (.slice (aA g 0) 2 aB));clear aG;go_wp2;exact bY (v:=.agg #[nI k,nI z,.slice (aA g 0) 2 aB]) sQ3 rfl ⟨k,z,_,_,rfl,(PtN.of_own H9.o.1).1,Nat.le_refl _,H9.o.2⟩
 ·go_wp2_with fail
  go_region_held3 (fun w'=>w'.cell? ⟨w2.1.size,2,none⟩=some (.slice (some ⟨g,0,none⟩) 2 aB)) (first| exact aC.o.drew.cells.2.2.1|exact(aC.o.drew.alloc _).cells.2.2.1|exact((aC.o.drew.alloc _).drews D8).cells.2.2.1|exact(((aC.o.drew.alloc _).drews D8).setP z8).cells.2.2.1) (first| (go_at_call 66;refine(zbh w0 _ c w3.drew.1.size a len cap [-1,16,17] HO.o hlen (aC.o.drew.alloc _).dr.cur (za2 w3.drew _) (aF aC.o) sI sI).mono ?_;rintro e w8 ⟨z8,-,rfl,D8⟩;obtain⟨t0,t1,t2,t3⟩:=((aC.o.drew.alloc _).drews D8).ptrs))
  have aG:=hJ (((aC.o.drew.alloc _).drews D8).setP z8);clear D8 aC aD aF t0 t1 t2 t3;generalize w8.setCell ⟨g,0,none⟩ (nI z8)=w6 at*;obtain⟨q0,q1,q2,z0,z1,z2,m0⟩:=zbk (w1:=w6) (b:=w.1.size) aG.o.res;obtain⟨p0,p1,p2,f0,f1,f2,m9⟩:=aG.o.cells;have H9:=hJ (zhy aG.o (nI k) (nI l) (.slice (aA g 0) 2 aB));clear aG;go_wp2;exact bY (v:=.agg #[nI k,nI l,.slice (aA g 0) 2 aB]) sQ3 rfl ⟨k,l,_,_,rfl,(PtN.of_own H9.o.1).1,Nat.le_refl _,H9.o.2⟩
 ·obtain⟨p0,p1,p2,f0,f1,f2,m9⟩:=aC.o.cells;obtain⟨w6,aN⟩:∃w6,w3.setCell ⟨w2.1.size,2,none⟩ (.slice (aA g 1) 1 (aB-1))=w6:=⟨_,rfl⟩
  have HX:Hid (AtT 59 w6 w.1.size 0 0 (nZ)/\AtT 59 w6 w2.1.size k l (.slice (aA g 1) 1 (aB-1))/\ROwns w6 (w.1.size+1) 3 (.slice (aA g 0) 2 aB) (ic [p,q])/\Drew w0 w w6 c a len cap):=by
   rw[←aN];have h:=aC.o;exact⟨h.res.set_other (by have:=h.hx;omega) _,h.x.set2 _,h.own.of_heap fun j hj=>hO_ _ ⟨w2.1.size,2,none⟩ j _ (by have e1:=(by simpa[Value.ownBlock]using hj);have e2:=h.hne;show j≠w2.1.size;omega),h.dr.setCell h.hc (by have:=h.hx;omega) _⟩
  have HN:=hJ (aI aC.o.hx aC.o.hc);clear aC aD aF;obtain⟨q0,q1,q2,z0,z1,z2,m0⟩:=zbk (w1:=w6) (b:=w.1.size) HX.o.1;obtain⟨s0,s1,s2⟩:=HX.o.2.1.cells;have aM:=(HX.o.2.2.1.lt g rfl).1;have HE:Hid (∀x y z,ROwns (w6.s3 w.1.size x y z) w.1.size 3 (.slice (aA g 0) 2 aB) (ic [p,q])/\Drew w0 w (w6.s3 w.1.size x y z) c a len cap):=fun x y z =>
   ⟨((((HX.o.2.2.1.setCell_other oM _).setCell_other oM _).setCell_other oM _).base_le oM),((HX.o.2.2.2.setCell HN.o.2 nR _).setCell HN.o.2 nR _).setCell HN.o.2 nR _⟩
  clear HX aM;go_wp2;exact bY (v:=.agg #[nI k,nI l,.slice (aA g 1) 1 (aB-1)]) sQ3 rfl ⟨k,l,_,_,rfl,(PtN.of_own (HE.o _ _ _).1).2,sI,(HE.o _ _ _).2⟩
 have e0:((x:Int)==0)=false:=sO
 have e1:((x:Int)==1)=false:=sO
 have e2:((x:Int)==2)=false:=sO
 have e3:((x:Int)==3)=false:=sO
 clear aD aF;obtain⟨q0,q1,q2,z0,z1,z2,m0⟩:=zbk (w1:=w3) (b:=w.1.size) aC.o.res;obtain⟨p0,p1,p2,f0,f1,f2,m9⟩:=aC.o.cells;have H9:=hJ (zhy aC.o (nI k) (nI l) (.slice (aA g 0) 2 aB));clear aC;go_wp2;exact bY (v:=.agg #[nI k,nI l,.slice (aA g 0) 2 aB]) sQ3 rfl ⟨k,l,_,_,rfl,(PtN.of_own H9.o.1).1,Nat.le_refl _,H9.o.2⟩
end Go.Proofs.YtgnplpmgkegcnaaGreat
