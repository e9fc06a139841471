/- Texts. -/
import Derived.Test.YtgnplpmgkegcnaaGreatW18
set_option maxRecDepth 100000
set_option maxHeartbeats 12800000
namespace Go.Proofs.YtgnplpmgkegcnaaGreat
open Go.RowKit Kit
theorem markU_xs(u:Int)(m:MD):(markU u m).xs=m.xs:=by unfold markU;split<;>rfl
theorem move_any(u v iv bv dv pv:Va)(m:MD)(p q:BA)(w:Wd)(h:MR w u v iv bv dv pv m)(hm:Sh Z0 m)(hp:p.size<=1048576)(hq:q.size<=1048576):
  Calls Tryz.prog 171 #[.agg #[u,v,iv,bv,dv,pv,nI m.nx],.string p,.string q] w fun e w'=>CallR w.1.size w' e/\Bw w w':=by
 obtain⟨a1,c1,a2,c2,a3,c3,a4,c4,a5,c5,a6,c6,rfl,rfl,rfl,rfl,rfl,rfl⟩:=h.form;obtain⟨qa,qc,qe,-,qh⟩:=h.d.i;simp only[vJ,true_and]at qe;obtain⟨rfl,rfl⟩:=qe;obtain⟨g2,o2,⟨q0,q1,q2⟩,rfl,-⟩:=qh 0 (by rw[hm.i];decide);have cU:Hid (∀(W:Wd)(j:Nat)(hj:j<m.3.length),Bw w W->∃ta tc,W.cell? ⟨g2,o2+j*3,none⟩=some (nI m.is[j].1)/\W.cell? ⟨g2,o2+j*3+1,none⟩=some (nI m.is[j].2.1)/\W.cell? ⟨g2,o2+j*3+2,none⟩=some (.slice ta m.is[j].2.2.length tc)/\RInts W (.slice ta m.is[j].2.2.length tc) m.is[j].2.2):=fun W j hj hb=>by
  exact cQ14
 clear qh q0 q1 q2;obtain⟨W0,hW0⟩:∃W0,((w.alloc (.cells (M7 m a1 c1 a2 c2 (aA g2 o2) c3 a4 c4 a5 c5 a6 c6) 33)).alloc (.cells E7 33))=W0:=⟨_,rfl⟩
 have HB0:Hid (Bw w W0/\W0.1.size=w.1.size+1+1/\AtC W0 w.1.size 33 (M7 m a1 c1 a2 c2 (aA g2 o2) c3 a4 c4 a5 c5 a6 c6)/\AtC W0 (w.1.size+1) 33 E7):=by
  exact cQ12
 have HH:=hJ h;have HM:=hJ hm;obtain⟨x0,x1,x2,x3,x4,x5,x6⟩:=AtC.sev HB0.o.2.2.1;have cP:Hid (R7 W0 m a1 c1 a2 c2 (aA g2 o2) c3 a4 c4 a5 c5 a6 c6):=HH.o.below HB0.o.1 nR;clear h hm;go_enter Tryz.func171,Tryz.ntmps171
 go_wp2_with fail
 refine(zax _ _ _ _ _ _ m W0 cP.o HM.o.big).mono ?_;rintro e w1 ⟨u1,u2,u3,u4,u5,u6,rfl,O1,B1⟩;obtain⟨s1,t1,s2,t2,s3,t3,s4,t4,s5,t5,s6,t6,rfl,rfl,rfl,rfl,rfl,rfl⟩:=O1.mr.form;obtain⟨W2,hW2⟩:∃W2,w1.alloc (.cells (M7 m s1 t1 s2 t2 s3 t3 s4 t4 s5 t5 s6 t6) 33)=W2:=⟨_,rfl⟩
 obtain⟨b2,hb2⟩:∃b2,w1.1.size=b2:=⟨_,rfl⟩
 have HC:Hid (∀W,Bw W2 W->AtC W w.1.size 33 (M7 m a1 c1 a2 c2 (aA g2 o2) c3 a4 c4 a5 c5 a6 c6)/\AtC W (w.1.size+1) 33 E7/\AtC W b2 33 (M7 m s1 t1 s2 t2 s3 t3 s4 t4 s5 t5 s6 t6)/\N7 W (fun k=>w.1.size+1+1<=k/\k<b2) m s1 t1 s2 t2 s3 t3 s4 t4 s5 t5 s6 t6/\Bw w W/\w.1.size+1+1<=b2/\b2<W.1.size):=fun W b=>by
  exact cQ11
 have fF:Hid (Bw W2 W2):=bF _ _;clear O1 B1 cP x0 x1 x2 x3 x4 x5 x6 hW0 HB0;go_wp2_with fail
 refine(zdc p W2 hp).mono ?_;rintro e w3 ⟨⟨dn,on,q1,rfl,fK,fJ,-⟩,B3⟩;have cA:Hid (Bw W2 w3):=B3;clear B3 hW2 hb2;have cE:dn.size<=1048576:=oM
 go_wp2_with fail
 refine(zdc q w3 hq).mono ?_;rintro e w4 ⟨⟨tn,nm,q2,rfl,fQ,eW,cL⟩,B4⟩;have cR:=hJ cL;clear cL;have aX:Hid (Bw W2 w4):=cA.o.trans (B4.mono cA.o.size);clear B4 cA;have aY:tn.size<=1048576:=oM
 obtain⟨x0,x1,x2,x3,x4,x5,x6⟩:=AtC.sev ((HC.o w4 aX.o).1);have cO:Hid (R7 w4 m a1 c1 a2 c2 (aA g2 o2) c3 a4 c4 a5 c5 a6 c6):=HH.o.below (HC.o w4 aX.o).2.2.2.2.1 nR;go_wp2_with fail
 refine(zb2 _ _ _ _ _ _ m w4 cO.o HM.o).mono ?_;rintro e w5 ⟨⟨q3,rfl⟩,B5⟩;have HB5:Hid (Bw W2 w5):=aX.o.trans (B5.mono aX.o.size);clear B5 cO aX x0 x1 x2 x3 x4 x5 x6
 cases q3 with
 | false =>
  exact cQ2
 | true =>
 cases q1 with
 | false =>
  exact cQ2
 | true =>
 cases q2 with
 | false =>
  exact cQ2
 | true =>
 have aT:Hid (∀W,Bw w5 W->(W.r4 w.1.size (.slice a1 m.1.length c1) (.slice a2 m.2.length c2) (.slice (aA g2 o2) m.3.length c3) (.slice a4 m.4.length c4))/\DR W (.slice a1 m.1.length c1) (.slice a2 m.2.length c2) (.slice (aA g2 o2) m.3.length c3) (.slice a4 m.4.length c4) m.xs m.ys m.is m.bs/\Bw W2 W):=fun W b=>by
  have b2:=HB5.o.trans (b.mono HB5.o.size);have k:=HC.o W b2;exact⟨⟨k.1.cell 0,k.1.cell 1,k.1.cell 2,k.1.cell 3⟩,(HH.o.below k.2.2.2.2.1 nR).d,b2⟩
 obtain⟨x0,x1,x2,x3,x4,x5,x6⟩:=AtC.sev ((HC.o w5 HB5.o).1);go_upto_region 6 with fail
 go_cut [15,16,17]from 21 to 58 (fun c1 c2 c3 wx=>(∃B s k:Int,c1=.int .i64 B/\c2=.int .i64 s/\c3=.int .i64 k/\FindP m.is m.bs on B s k)/\Bw W2 wx)
 case first =>
  clear x4 x5 x6
  go_region_with (first| (go_at_call 193;refine(zch _ _ _ _ m.xs m.ys m.is m.bs dn _ (aT.o _ (zac bR)).2.1 HM.o.big.d HM.o.i cE).mono ?_;rintro e w7 ⟨⟨i5,rfl,-,-⟩,B7⟩;have HB7:=hJ (zac B7);obtain⟨⟨n0,n1,n2,n3⟩,-,-⟩:=aT.o w7 (zac B7);clear B7)| (go_at_call 204;refine(zh9 i5 on _ _ _ _ m.xs m.ys m.is m.bs _ (aT.o _ HB7.o).2.1 HM.o.big.d).mono ?_;rintro e w8 ⟨B,s,k,rfl,FP,B8⟩;have dN:=hJ (aI FP (HB7.o.trans (B8.mono HB7.o.size)));clear FP B8))
  all_goals (go_wp2_with fail;go_meet;exact⟨⟨_,_,_,rfl,rfl,rfl,dN.o.1⟩,(aT.o _ dN.o.2).2.2⟩)
 obtain⟨⟨B,s,i,rfl,rfl,rfl,dJ⟩,cT⟩:=hcut;obtain⟨w6,eL⟩:∃w6,w6=wc:=⟨_,rfl⟩
 subst eL;have aV:=hJ cT;have cV:=hJ dJ;clear cT dJ aT HB5 x0 x1 x2 x3 x4 x5 x6;obtain⟨x0,x1,x2,x3,x4,x5,x6⟩:=AtC.sev ((HC.o w6 aV.o).1);have cH:Hid (DR w6 (.slice a1 m.1.length c1) (.slice a2 m.2.length c2) (.slice (aA g2 o2) m.3.length c3) (.slice a4 m.4.length c4) m.xs m.ys m.is m.bs):=(HH.o.below (HC.o w6 aV.o).2.2.2.2.1 nR).d;go_wp2_with fail
 refine(zch _ _ _ _ m.xs m.ys m.is m.bs tn w6 cH.o HM.o.big.d HM.o.i aY).mono ?_;rintro e w7 ⟨⟨ia,rfl,fO,fD,cQ⟩,B7⟩;have dI:=hJ (cR.o trivial);have dH:=hJ cQ;clear cQ cR;have HB7:Hid (Bw W2 w7):=aV.o.trans (B7.mono aV.o.size);clear B7 cH aV x0 x1 x2 x3 x4 x5 x6;by_cases hiz:i=0
 ·subst hiz;obtain⟨y0,y1,y2,y3,y4,y5,y6⟩:=AtC.sev ((HC.o w7 HB7.o).2.2.1);obtain⟨r0,r1,r2,r3,r4,r5,r6⟩:=AtC.sev ((HC.o w7 HB7.o).2.1);obtain⟨v0,v1,v2,v3,v4,v5,v6⟩:=(HC.o w7 HB7.o).2.1.f7;have HFF:=hJ (HC.o w7 HB7.o);go_wp2;refine bY (v:=.tuple #[.agg (M7 m s1 t1 s2 t2 s3 t3 s4 t4 s5 t5 s6 t6),nI 1]) sR7 rfl ⟨⟨_,_,_,_,_,_,m,_,rfl,(HFF.o.2.2.2.1.of_heap fun k hk _=>zaa _ _ _ _ _ _ _ _ _ k oF).mono (fun k hk=>by have:w.1.size+1+1<=k/\k<b2:=hk;omega),HM.o⟩,zab HFF.o.2.2.2.2.1 oM _ _ _ _ _ _ _⟩
 have fM:(i==0)=false:=beq_eq_false_iff_ne.mpr hiz;by_cases haz:ia=0
 ·subst haz;obtain⟨y0,y1,y2,y3,y4,y5,y6⟩:=AtC.sev ((HC.o w7 HB7.o).2.2.1);obtain⟨r0,r1,r2,r3,r4,r5,r6⟩:=AtC.sev ((HC.o w7 HB7.o).2.1);obtain⟨v0,v1,v2,v3,v4,v5,v6⟩:=(HC.o w7 HB7.o).2.1.f7;have HFF:=hJ (HC.o w7 HB7.o);go_wp2;refine bY (v:=.tuple #[.agg (M7 m s1 t1 s2 t2 s3 t3 s4 t4 s5 t5 s6 t6),nI 1]) sR7 rfl ⟨⟨_,_,_,_,_,_,m,_,rfl,(HFF.o.2.2.2.1.of_heap fun k hk _=>zaa _ _ _ _ _ _ _ _ _ k oF).mono (fun k hk=>by have:w.1.size+1+1<=k/\k<b2:=hk;omega),HM.o⟩,zab HFF.o.2.2.2.2.1 oM _ _ _ _ _ _ _⟩
 have fE:(ia==0)=false:=beq_eq_false_iff_ne.mpr haz;obtain⟨jb,tt,bO,bQ,rfl,rfl,hk,dU,eC,eH,aD⟩:=FindP.slot HM.o cV.o hiz;have eK:Hid (m.xs[jb]?=some true/\∃s:Sl,slotO m.bs jb tt=some s/\1<=s.2/\s.2<=8):=⟨aD,_,zj3 bO bQ,by rw[hk];exact dU,by rw[hk];exact eC⟩
 obtain⟨j,rfl⟩:∃j:Nat,i=(j:Int)+1:=⟨(i-1).toNat,oM⟩
 have eM:j<8:=oM
 have hj:j<m.3.length:=by rw[HM.o.i];exact eM
 have eY:IntKind.i64.wrap (j:Int)=(j:Int):=wrap_small _ oM oM;have j0:(0:Int)<=(j:Int):=oM
 have j1:(j:Int)<(m.3.length:Int):=oM
 obtain⟨ja,rfl⟩:∃ja:Nat,ia=(ja:Int)+1:=⟨(ia-1).toNat,oM⟩
 have bI:ja<8:=oM
 have dP:ja<m.3.length:=by rw[HM.o.i];exact bI
 have fI:IntKind.i64.wrap (ja:Int)=(ja:Int):=wrap_small _ oM oM;have a0:(0:Int)<=(ja:Int):=oM
 have eX:(ja:Int)<(m.3.length:Int):=oM
 clear hk aD hiz haz cV bO bQ;obtain⟨kd,aP⟩:∃kd,m.is[j].1=kd:=⟨_,rfl⟩
 obtain⟨ln,bU⟩:∃ln,m.is[j].2.1=ln:=⟨_,rfl⟩
 obtain⟨ka,aQ⟩:∃ka,m.is[ja].1=ka:=⟨_,rfl⟩
 have eQ:=hJ bU;have dO:Hid (∀W,Bw W2 W->W.cell? ⟨g2,o2+j*3,none⟩=some (nI kd)/\W.cell? ⟨g2,o2+j*3+1,none⟩=some (nI ln)/\W.cell? ⟨g2,o2+ja*3,none⟩=some (nI ka)):=fun W bb=>by
  have k:=(HC.o W bb).2.2.2.2.1;obtain⟨pa,pc,i0,i1,-,-⟩:=cU.o W j hj k;obtain⟨fL,fH,eU,-,-,-⟩:=cU.o W ja dP k;exact⟨by rw[←aP];exact i0,by rw[←bU];exact i1,by rw[←aQ];exact eU⟩
 have eI:=hJ aQ;have dQ:=hJ aP;clear aP bU aQ;obtain⟨i0,i1,i2⟩:=dO.o w7 HB7.o;obtain⟨x0,x1,x2,x3,x4,x5,x6⟩:=AtC.sev ((HC.o w7 HB7.o).1);by_cases aP:kd=1
 rotate_left
 ·have eE:(kd != 1)=true:=by simp[aP]
  exact cQ21
 subst aP;by_cases aQ:ka=2
 rotate_left
 ·have eE:(ka != 2)=true:=by simp[aQ]
  exact cQ21
 subst aQ;have cJ:Hid (DR w7 (.slice a1 m.1.length c1) (.slice a2 m.2.length c2) (.slice (aA g2 o2) m.3.length c3) (.slice a4 m.4.length c4) m.xs m.ys m.is m.bs):=(HH.o.below (HC.o w7 HB7.o).2.2.2.2.1 nR).d;go_wp2_with fail
 refine(zch _ _ _ _ m.xs m.ys m.is m.bs q w7 cJ.o HM.o.big.d HM.o.i hq).mono ?_;rintro e w8 ⟨⟨iq,rfl,-,-,dK⟩,B8⟩;have dD:=hJ dK;clear dK;have aH:Hid (Bw W2 w8):=HB7.o.trans (B8.mono HB7.o.size);clear B8 cJ HB7 x0 x1 x2 x3 x4 x5 x6 i0 i1 i2;by_cases hqz:iq=0
 rotate_left
 ·have fC:(iq != 0)=true:=by simp[hqz]
  obtain⟨y0,y1,y2,y3,y4,y5,y6⟩:=AtC.sev ((HC.o w8 aH.o).2.2.1);obtain⟨r0,r1,r2,r3,r4,r5,r6⟩:=AtC.sev ((HC.o w8 aH.o).2.1);obtain⟨v0,v1,v2,v3,v4,v5,v6⟩:=(HC.o w8 aH.o).2.1.f7;have HFF:=hJ (HC.o w8 aH.o);go_wp2;refine bY (v:=.tuple #[.agg (M7 m s1 t1 s2 t2 s3 t3 s4 t4 s5 t5 s6 t6),nI 2]) sR7 rfl ⟨⟨_,_,_,_,_,_,m,_,rfl,(HFF.o.2.2.2.1.of_heap fun k hk _=>zaa _ _ _ _ _ _ _ _ _ k oF).mono (fun k hk=>by have:w.1.size+1+1<=k/\k<b2:=hk;omega),HM.o⟩,zab HFF.o.2.2.2.2.1 oM _ _ _ _ _ _ _⟩
 subst hqz;have eS:Hid (Abs ja nm m.is m.bs):=by
  obtain⟨-,l,q1,q2⟩:=dI.o;exact zfn HM.o (dH.o l q2).symm (dD.o _ q1).symm dP eI.o
 clear dD dH;obtain⟨x0,x1,x2,x3,x4,x5,x6⟩:=AtC.sev ((HC.o w8 aH.o).1);have bX:Hid (R7 w8 m a1 c1 a2 c2 (aA g2 o2) c3 a4 c4 a5 c5 a6 c6):=HH.o.below (HC.o w8 aH.o).2.2.2.2.1 nR;go_upto_region 14 with fail
 go_cut [105]from 91 to 105 (fun c wx=>(∃r,c=.bool r)/\Bw W2 wx)
 case first =>
  go_wp2_with fail
  refine(zif _ _ _ _ _ _ m ((ja:Int)+1) nm w8 bX.o HM.o oM oM).mono ?_;rintro e w9 ⟨⟨r9,rfl⟩,B9⟩;have aL:Hid (Bw W2 w9):=aH.o.trans (B9.mono aH.o.size);clear B9 bX aH x0 x1 x2 x3 x4 x5 x6
  cases r9 with
  | true =>
   go_wp2_with fail
   go_meet
   exact⟨⟨_,rfl⟩,aL.o⟩
  | false =>
   obtain⟨x0,x1,x2,x3,x4,x5,x6⟩:=AtC.sev ((HC.o w9 aL.o).1);have dA:Hid (R7 w9 m a1 c1 a2 c2 (aA g2 o2) c3 a4 c4 a5 c5 a6 c6):=HH.o.below (HC.o w9 aL.o).2.2.2.2.1 nR;go_wp2_with fail
   refine(deep_any _ _ _ _ _ _ m tn w9 dA.o HM.o aY).mono ?_;rintro e eR ⟨⟨fB,rfl⟩,cY⟩;have cC:Hid (Bw W2 eR):=aL.o.trans (cY.mono aL.o.size);clear cY dA aL x0 x1 x2 x3 x4 x5 x6;go_wp2_with fail
   go_meet
   exact⟨⟨_,rfl⟩,cC.o⟩
 obtain⟨⟨r,rfl⟩,cF⟩:=hcut;obtain⟨w7,dX⟩:∃w7,w7=wc:=⟨_,rfl⟩
 subst dX;have HB7:=hJ cF;clear cF bX aH x0 x1 x2 x3 x4 x5 x6
 cases r with
 | true =>
  exact cQ3
 | false =>
 have cN:Hid (P7 w7 (fun k=>w.1.size+1+1<=k/\k<b2) b2 m s1 t1 s2 t2 s3 t3 s4 t4 s5 t5 s6 t6):=by
  obtain⟨-,-,k3,k4,-⟩:=HC.o w7 HB7.o;exact⟨k3,k4,fun e=>by have:w.1.size+1+1<=b2/\b2<b2:=e;omega⟩
 go_wp2_with fail
 refine(zd0 _ b2 _ _ _ _ _ _ m w7 cN.o).mono ?_;rintro e bZ ⟨⟨rr,rfl⟩,aU⟩;rw[aU];clear aU bZ cN
 cases rr with
 | false =>
  obtain⟨y0,y1,y2,y3,y4,y5,y6⟩:=AtC.sev ((HC.o w7 HB7.o).2.2.1);obtain⟨r0,r1,r2,r3,r4,r5,r6⟩:=AtC.sev ((HC.o w7 HB7.o).2.1);obtain⟨v0,v1,v2,v3,v4,v5,v6⟩:=(HC.o w7 HB7.o).2.1.f7;have HFF:=hJ (HC.o w7 HB7.o);go_wp2;refine bY (v:=.tuple #[.agg (M7 m s1 t1 s2 t2 s3 t3 s4 t4 s5 t5 s6 t6),nI 4]) sR7 rfl ⟨⟨_,_,_,_,_,_,m,_,rfl,(HFF.o.2.2.2.1.of_heap fun k hk _=>zaa _ _ _ _ _ _ _ _ _ k oF).mono (fun k hk=>by have:w.1.size+1+1<=k/\k<b2:=hk;omega),HM.o⟩,zab HFF.o.2.2.2.2.1 oM _ _ _ _ _ _ _⟩
 | true =>
 obtain⟨i0,i1,i2⟩:=dO.o w7 HB7.o;obtain⟨x0,x1,x2,x3,x4,x5,x6⟩:=AtC.sev ((HC.o w7 HB7.o).1);by_cases h200:200<=ln
 ·have eF:decide ((200:Int)<=ln)=true:=dT h200;obtain⟨y0,y1,y2,y3,y4,y5,y6⟩:=AtC.sev ((HC.o w7 HB7.o).2.2.1);obtain⟨r0,r1,r2,r3,r4,r5,r6⟩:=AtC.sev ((HC.o w7 HB7.o).2.1);obtain⟨v0,v1,v2,v3,v4,v5,v6⟩:=(HC.o w7 HB7.o).2.1.f7;have HFF:=hJ (HC.o w7 HB7.o);go_wp2;refine bY (v:=.tuple #[.agg (M7 m s1 t1 s2 t2 s3 t3 s4 t4 s5 t5 s6 t6),nI 5]) sR7 rfl ⟨⟨_,_,_,_,_,_,m,_,rfl,(HFF.o.2.2.2.1.of_heap fun k hk _=>zaa _ _ _ _ _ _ _ _ _ k oF).mono (fun k hk=>by have:w.1.size+1+1<=k/\k<b2:=hk;omega),HM.o⟩,zab HFF.o.2.2.2.2.1 oM _ _ _ _ _ _ _⟩
 have eF:decide ((200:Int)<=ln)=false:=dF h200;have cG:Hid (R7 w7 m a1 c1 a2 c2 (aA g2 o2) c3 a4 c4 a5 c5 a6 c6):=HH.o.below (HC.o w7 HB7.o).2.2.2.2.1 nR;go_wp2_with fail
 refine(zax _ _ _ _ _ _ m w7 cG.o HM.o.big).mono ?_;rintro e w8 ⟨u1,u2,u3,u4,u5,u6,rfl,O8,B8⟩;obtain⟨n1,o1,n2,bC,n3,o3,n4,o4,n5,o5,n6,o6,rfl,rfl,rfl,rfl,rfl,rfl⟩:=O8.mr.form;obtain⟨W9,hW9⟩:∃W9,w8.alloc (.cells (M7 m n1 o1 n2 bC n3 o3 n4 o4 n5 o5 n6 o6) 33)=W9:=⟨_,rfl⟩
 obtain⟨bo,hbo⟩:∃bo,w8.1.size=bo:=⟨_,rfl⟩
 have aN:Hid (P7 W9 (fun k=>w7.1.size<=k/\k<bo) bo m n1 o1 n2 bC n3 o3 n4 o4 n5 o5 n6 o6/\Bw w7 W9/\w7.1.size<=bo/\bo<W9.1.size):=by
  exact cQ61
 have aL:Hid (Bw W2 W9):=HB7.o.trans (aN.o.2.1.mono HB7.o.size);clear O8 B8 cG;obtain⟨gi,ci,ei,cB,dS,dE,eA,bG⟩:=aN.o.1.lnkAt j hj (HM.o.ii _ (gM_ hj)).n;simp only[vJ,true_and]at ei;obtain⟨rfl,rfl⟩:=ei;obtain⟨vl,cB⟩:∃vl,W9.cell? ⟨gi,j*3+1,none⟩=some vl:=⟨_,cB⟩
 have eJ:=aN.o.1.box.c2;have eG:g2<w7.1.size:=znk i1;have y1:W9.cell? ⟨g2,o2+j*3+1,none⟩=some (nI ln):=(aN.o.2.1.cell (p:=⟨g2,o2+j*3+1,none⟩) eG).trans i1;have y2:=(HC.o W9 aL.o).1.c2;have dZ:=(HM.o.ii _ (gM_ hj)).l;rw[eQ.o]at dZ;have fN:IntKind.i64.wrap (ln+1)=ln+1:=wrap_small _ oM oM;have bK:Hid (∀W,W=W9.setCell ⟨gi,j*3+1,none⟩ (nI (ln+1))->PM W (fun k=>w7.1.size<=k/\k<bo) bo (.slice n1 m.1.length o1) (.slice n2 m.2.length bC) (.slice (aA gi 0) m.3.length o3) (.slice n4 m.4.length o4) (.slice n5 m.5.length o5) (.slice n6 m.6.length o6) { m with is:=m.is.set j (m.is[j].1,ln+1,m.is[j].2.2) }/\Sh Z0 { m with is:=m.is.set j (m.is[j].1,ln+1,m.is[j].2.2) }/\Bw w7 W):=by
  rintro W rfl;have cX:=HM.o.ii _ (gM_ hj);exact⟨bG _,HM.o.inode j ⟨by show 0<=ln+1/\ln+1<=200;omega,cX.n,cX.p,.inl dQ.o⟩ (fun _ p _=>Nat.le_refl _),aN.o.2.1.setCell (p:=⟨gi,j*3+1,none⟩) dE.1 _⟩
 clear bG x0 x1 x2 x3 x4 x5 x6 i0 i1 i2;go_upto_region 21 with fail
 clear hW9 hbo;go_cut [19]from 107 to 137 (fun c wx=>c=.pointer (some ⟨bo,0,none⟩)/\PM wx (fun k=>w7.1.size<=k/\k<bo) bo (.slice n1 m.1.length o1) (.slice n2 m.2.length bC) (.slice (some ⟨gi,0,none⟩) m.3.length o3) (.slice n4 m.4.length o4) (.slice n5 m.5.length o5) (.slice n6 m.6.length o6) { m with is:=m.is.set j (m.is[j].1,ln+1,m.is[j].2.2) }/\Sh Z0 { m with is:=m.is.set j (m.is[j].1,ln+1,m.is[j].2.2) }/\Bw w7 wx)
 case first =>
  go_big_region
  all_goals (go_wp2_with fail;go_meet;exact⟨rfl,(bK.o _ rfl).1.drew,(bK.o _ rfl).2.1,(bK.o _ rfl).2.2.drew⟩)
 obtain⟨rfl,aW,aZ,bH⟩:=hcut;have aG:=hJ (aI aW (aI aZ bH));have bE:w7.1.size<=bo:=aN.o.2.2.1;obtain⟨U,hU⟩:∃U,uoI ((j:Int)+1)=U:=⟨_,rfl⟩
 have CU:Hid (∀W,Calls Tryz.prog 198 #[nI ((j:Int)+1)] W fun e w'=>e=.returned (nI U)/\w'=W):=fun W=>by rw[←hU];exact zbp _ W
 clear hU aW aZ bH aN aL cB dS dE eA eJ y1 y2 bK;go_wp2_with fail
 refine(CU.out _).mono ?_;rintro e bZ ⟨rfl,aU⟩;rw[aU];clear aU bZ;go_wp2_with fail
 refine(zbz _ bo U _ _ _ _ _ _ _ wc aG.o.1).mono ?_;rintro e bM ⟨rfl,PB,dM⟩;have aK:Hid (Bw w7 bM):=aG.o.2.2.trans (dM.below aG.o.2.2.size (fun k hk=>hk.1));obtain⟨mb,bN⟩:∃mb,markU U { m with is:=m.is.set j (m.is[j].1,ln+1,m.is[j].2.2) }=mb:=⟨_,rfl⟩
 have eN:Hid (Abs ja nm mb.is mb.bs):=by
  rw[←bN,zj2,zg8];exact eS.o.setL j hj (ln+1)
 have bV:Hid (Sh Z0 mb/\mb.bs=m.bs/\mb.xs=m.xs):=by
  rw[←bN];exact⟨aG.o.2.1.mark U,zg8 _ _,markU_xs _ _⟩
 rw[bN]at PB;have bP:Hid (PM bM (fun k=>w7.1.size<=k/\k<bo) bo (.slice n1 m.1.length o1) (.slice n2 m.2.length bC) (.slice (aA gi 0) m.3.length o3) (.slice n4 m.4.length o4) (.slice n5 m.5.length o5) (.slice n6 m.6.length o6) mb/\(∀k,(w7.1.size<=k/\k<bo)->w7.1.size<=k)/\(∀k,bM.1.size<=k->w7.1.size<=k)):=⟨PB,fun k hk=>hk.1,fun k hk=>by have:=aK.o.size;omega⟩
 clear PB dM aG CU bN;go_wp2_with fail
 refine(zie (fun k=>w7.1.size<=k) bo ja nm ((j:Int)+1) _ _ _ _ _ _ _ mb bM bP.o.1 bP.o.2.1 bE bP.o.2.2 bV.o.1 bI eW ⟨oM,oM⟩ dI.o.1 eN.o).mono ?_;rintro e aM ⟨⟨id,rfl,-,-⟩,⟨SA,u',v',dY,dW,eV,eO,ma,PA,aR,-,aS,cD⟩,cM⟩;have aF:Hid (Bw w7 aM):=aK.o.trans (cM.below aK.o.size (fun k hk=>hk));have aC:Hid (Bw W2 aM):=HB7.o.trans (aF.o.mono HB7.o.size);clear cM bP aK;by_cases hid:id=0
 ·subst hid;clear PA aR aS cD;obtain⟨y0,y1,y2,y3,y4,y5,y6⟩:=AtC.sev ((HC.o aM aC.o).2.2.1);obtain⟨r0,r1,r2,r3,r4,r5,r6⟩:=AtC.sev ((HC.o aM aC.o).2.1);obtain⟨v0,v1,v2,v3,v4,v5,v6⟩:=(HC.o aM aC.o).2.1.f7;have HFF:=hJ (HC.o aM aC.o);go_wp2;refine bY (v:=.tuple #[.agg (M7 m s1 t1 s2 t2 s3 t3 s4 t4 s5 t5 s6 t6),nI 4]) sR7 rfl ⟨⟨_,_,_,_,_,_,m,_,rfl,(HFF.o.2.2.2.1.of_heap fun k hk _=>zaa _ _ _ _ _ _ _ _ _ k oF).mono (fun k hk=>by have:w.1.size+1+1<=k/\k<b2:=hk;omega),HM.o⟩,zab HFF.o.2.2.2.2.1 oM _ _ _ _ _ _ _⟩
 have eD:(id==0)=false:=beq_eq_false_iff_ne.mpr hid;obtain⟨aD,s,hs,cW,eP⟩:=eK.o;have cI:slotO ma.bs jb tt=some s:=cD jb tt s (by rw[bV.o.2.2];exact aD) (by rw[bV.o.2.1];exact hs) cW;obtain⟨bO,bQ,dL⟩:=zgh cI;have aB:Hid (PM aM SA bo u' v' dY dW eV eO ma/\(∀k,SA k->w7.1.size<=k)/\Sh Z0 ma/\(1<=ma.bs[jb].2.1[tt].2/\ma.bs[jb].2.1[tt].2<=8)/\(∀k,aM.1.size<=k->w7.1.size<=k)):=⟨PA,aR,aS,by rw[dL];exact⟨cW,eP⟩,fun k hk=>by have:=aF.o.size;omega⟩
 clear PA aR aS cD hs cI dL aD;go_wp2_with fail
 refine(zj5 (fun k=>w7.1.size<=k) bo jb tt id _ _ _ _ _ _ _ ma aM aB.o.1 aB.o.2.1 bE aB.o.2.2.2.2 aB.o.2.2.1 bO bQ aB.o.2.2.2.1).mono ?_;rintro e bJ ⟨rfl,⟨SC,u2,v2,fP,fG,eZ,fA,mc,PA,aR,-,aS⟩,cK⟩;have aO:Hid (Bw W2 bJ):=by
  have dV:=aF.o.trans (cK.below aF.o.size (fun k hk=>hk));exact HB7.o.trans (dV.mono HB7.o.size)
 obtain⟨bL,bS⟩:∃bL,bL=mc:=⟨_,rfl⟩
 subst bS;obtain⟨h1,k1,h2,k2,h3,k3,h4,k4,h5,k5,h6,k6,rfl,rfl,rfl,rfl,rfl,rfl⟩:=PA.form;have HZ:Hid (w.1.size+1+1<=w7.1.size):=by have:=(HC.o w7 HB7.o).2.2.2.2.2;show _<=_;omega
 clear cK aB aF aC;obtain⟨y0,y1,y2,y3,y4,y5,y6⟩:=AtC.sev PA.box;obtain⟨r0,r1,r2,r3,r4,r5,r6⟩:=AtC.sev ((HC.o bJ aO.o).2.1);obtain⟨v0,v1,v2,v3,v4,v5,v6⟩:=(HC.o bJ aO.o).2.1.f7;have HF:=hJ (aI PA.own (aI aR aS));clear PA aR aS;go_wp2;refine bY (v:=.tuple #[.agg (M7 bL h1 k1 h2 k2 h3 k3 h4 k4 h5 k5 h6 k6),nI 0]) sR7 rfl ⟨⟨_,_,_,_,_,_,bL,_,rfl,(HF.o.1.of_heap fun k hk _=>zaa _ _ _ _ _ _ _ _ _ k (by have:=HF.o.2.1 k hk;have:=HZ.o;omega)).mono (fun k hk=>by have:=HF.o.2.1 k hk;have:=HZ.o;omega),HF.o.2.2⟩,zab (HC.o bJ aO.o).2.2.2.2.1 oM _ _ _ _ _ _ _⟩
end Go.Proofs.YtgnplpmgkegcnaaGreat
