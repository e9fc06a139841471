/- Texts. -/
import Derived.Test.YtgnplpmgkegcnaaGreatW15
import Derived.Test.YtgnplpmgkegcnaaGreatW14
set_option maxRecDepth 100000
set_option maxHeartbeats 12800000
namespace Go.Proofs.YtgnplpmgkegcnaaGreat
open Go.RowKit Kit
theorem FindP.slot{m:MD}(hm:Sh Z0 m){nm:BA}{B s k:Int}(h:FindP m.is m.bs nm B s k)(hk:k≠0):
  ∃(jb t:Nat)(hj:jb<m.4.length)(ht:t<m.bs[jb].2.1.length),B=(jb:Int)+1/\s=(t:Int)/\m.bs[jb].2.1[t].2=k/\1<=k/\k<=8/\jb<16/\m.xs[jb]?=some true:=by
 obtain⟨h1,h2⟩:=h;rcases h1 with⟨-,-,e⟩| ⟨hb,-,t,ht,e1,e2,e3,e4⟩
 ·exact absurd e hk
 obtain⟨x,hx,hp⟩:=h2 hk;obtain⟨jb,hj,eB,eb⟩:=zb8 hb;have aD:t<m.bs[jb].2.1.length:=by rw[←eb];exact ht
 have ek:m.bs[jb].2.1[t].2=k:=by
  rw[e2];simp only[eb]
 have hs:=(hm.bb _ (gM_ hj)).s _ (gM_ aD);have aB:jb<16:=by rw[←hm.b];exact hj
 have hr:1<=k/\k<=8:=by
  rcases hs.2 with⟨-,e⟩| e
  ·exact absurd (ek ▸ e) hk
  rw[ek]at e;exact e
 have aC:=hm.k.ptr hx hp oM oM;refine⟨jb,t,hj,aD,eB,e1,ek,hr.1,hr.2,aB,?_⟩;rw[eB]at aC;rw[show((jb:Int)+1).toNat-1=jb by omega]at aC;exact aC
theorem zlb(u v iv bv dv pv:Va)(m:MD)(p:BA)(w:Wd)(h:MR w u v iv bv dv pv m)(hm:Sh Z0 m)(hp:p.size<=1048576):
  Calls Tryz.prog 170 #[.agg #[u,v,iv,bv,dv,pv,nI m.nx],.string p] w fun e w'=>CallR w.1.size w' e/\Bw w w':=by
 obtain⟨a1,c1,a2,c2,a3,c3,a4,c4,a5,c5,a6,c6,rfl,rfl,rfl,rfl,rfl,rfl⟩:=h.form;obtain⟨qa,qc,qe,-,qh⟩:=h.d.i;simp only[vJ,true_and]at qe;obtain⟨rfl,rfl⟩:=qe;obtain⟨g2,o2,⟨q0,q1,q2⟩,rfl,-⟩:=qh 0 (by rw[hm.i];decide);have bU:Hid (∀(W:Wd)(j:Nat)(hj:j<m.3.length),Bw w W->∃ta tc,W.cell? ⟨g2,o2+j*3,none⟩=some (nI m.is[j].1)/\W.cell? ⟨g2,o2+j*3+1,none⟩=some (nI m.is[j].2.1)/\W.cell? ⟨g2,o2+j*3+2,none⟩=some (.slice ta m.is[j].2.2.length tc)/\RInts W (.slice ta m.is[j].2.2.length tc) m.is[j].2.2):=fun W j hj hb=>by
  exact cQ14
 clear qh q0 q1 q2;obtain⟨W0,hW0⟩:∃W0,((w.alloc (.cells (M7 m a1 c1 a2 c2 (aA g2 o2) c3 a4 c4 a5 c5 a6 c6) 33)).alloc (.cells E7 33))=W0:=⟨_,rfl⟩
 have HB0:Hid (Bw w W0/\W0.1.size=w.1.size+1+1/\AtC W0 w.1.size 33 (M7 m a1 c1 a2 c2 (aA g2 o2) c3 a4 c4 a5 c5 a6 c6)/\AtC W0 (w.1.size+1) 33 E7):=by
  exact cQ12
 have HH:=hJ h;have HM:=hJ hm;obtain⟨x0,x1,x2,x3,x4,x5,x6⟩:=AtC.sev HB0.o.2.2.1;have bE:Hid (R7 W0 m a1 c1 a2 c2 (aA g2 o2) c3 a4 c4 a5 c5 a6 c6):=HH.o.below HB0.o.1 nR;clear h hm;go_enter Tryz.func170,Tryz.ntmps170
 go_wp2_with fail
 refine(zax _ _ _ _ _ _ m W0 bE.o HM.o.big).mono ?_;rintro e w1 ⟨u1,u2,u3,u4,u5,u6,rfl,O1,B1⟩;obtain⟨s1,t1,s2,t2,s3,t3,s4,t4,s5,t5,s6,t6,rfl,rfl,rfl,rfl,rfl,rfl⟩:=O1.mr.form;obtain⟨W2,hW2⟩:∃W2,w1.alloc (.cells (M7 m s1 t1 s2 t2 s3 t3 s4 t4 s5 t5 s6 t6) 33)=W2:=⟨_,rfl⟩
 obtain⟨b2,hb2⟩:∃b2,w1.1.size=b2:=⟨_,rfl⟩
 have HC:Hid (∀W,Bw W2 W->AtC W w.1.size 33 (M7 m a1 c1 a2 c2 (aA g2 o2) c3 a4 c4 a5 c5 a6 c6)/\AtC W (w.1.size+1) 33 E7/\AtC W b2 33 (M7 m s1 t1 s2 t2 s3 t3 s4 t4 s5 t5 s6 t6)/\N7 W (fun k=>w.1.size+1+1<=k/\k<b2) m s1 t1 s2 t2 s3 t3 s4 t4 s5 t5 s6 t6/\Bw w W/\w.1.size+1+1<=b2/\b2<W.1.size):=fun W b=>by
  exact cQ11
 have cE:Hid (Bw W2 W2):=bF _ _;clear O1 B1 bE x0 x1 x2 x3 x4 x5 x6 hW0 HB0;go_wp2_with fail
 refine(zdc p W2 hp).mono ?_;rintro e w3 ⟨⟨dn,nm,q1,rfl,cG,cN,-⟩,B3⟩;have aH:Hid (Bw W2 w3):=B3;clear B3 hW2 hb2;have aP:dn.size<=1048576:=oM
 obtain⟨x0,x1,x2,x3,x4,x5,x6⟩:=AtC.sev ((HC.o w3 aH.o).1);have bI:Hid (R7 w3 m a1 c1 a2 c2 (aA g2 o2) c3 a4 c4 a5 c5 a6 c6):=HH.o.below (HC.o w3 aH.o).2.2.2.2.1 nR;go_wp2_with fail
 refine(zb2 _ _ _ _ _ _ m w3 bI.o HM.o).mono ?_;rintro e w4 ⟨⟨q2,rfl⟩,B4⟩;have HB4:Hid (Bw W2 w4):=aH.o.trans (B4.mono aH.o.size);clear B4 bI aH x0 x1 x2 x3 x4 x5 x6
 cases q2 with
 | false =>
  exact cQ1
 | true =>
 cases q1 with
 | false =>
  exact cQ1
 | true =>
 have aG:Hid (∀W,Bw w4 W->(W.r4 w.1.size (.slice a1 m.1.length c1) (.slice a2 m.2.length c2) (.slice (aA g2 o2) m.3.length c3) (.slice a4 m.4.length c4))/\DR W (.slice a1 m.1.length c1) (.slice a2 m.2.length c2) (.slice (aA g2 o2) m.3.length c3) (.slice a4 m.4.length c4) m.xs m.ys m.is m.bs/\Bw W2 W):=fun W b=>by
  have b2:=HB4.o.trans (b.mono HB4.o.size);have k:=HC.o W b2;exact⟨⟨k.1.cell 0,k.1.cell 1,k.1.cell 2,k.1.cell 3⟩,(HH.o.below k.2.2.2.2.1 nR).d,b2⟩
 obtain⟨x0,x1,x2,x3,x4,x5,x6⟩:=AtC.sev ((HC.o w4 HB4.o).1);go_upto_region 5 with fail
 go_cut [10,11,12]from 22 to 41 (fun c1 c2 c3 wx=>(∃B s k:Int,c1=.int .i64 B/\c2=.int .i64 s/\c3=.int .i64 k/\FindP m.is m.bs nm B s k)/\Bw W2 wx)
 case first =>
  clear x4 x5 x6
  go_region_with (first| (go_at_call 193;refine(zch _ _ _ _ m.xs m.ys m.is m.bs dn _ (aG.o _ (zac bR)).2.1 HM.o.big.d HM.o.i aP).mono ?_;rintro e w5 ⟨⟨i5,rfl,-,-⟩,B5⟩;have aR:=hJ (zac B5);obtain⟨⟨n0,n1,n2,n3⟩,-,-⟩:=aG.o w5 (zac B5);clear B5)| (go_at_call 204;refine(zh9 i5 nm _ _ _ _ m.xs m.ys m.is m.bs _ (aG.o _ aR.o).2.1 HM.o.big.d).mono ?_;rintro e w6 ⟨B,s,k,rfl,FP,B6⟩;have aV:=hJ (aI FP (aR.o.trans (B6.mono aR.o.size)));clear FP B6))
  all_goals (go_wp2_with fail;go_meet;exact⟨⟨_,_,_,rfl,rfl,rfl,aV.o.1⟩,(aG.o _ aV.o.2).2.2⟩)
 obtain⟨⟨B,s,i,rfl,rfl,rfl,bG⟩,aT⟩:=hcut;obtain⟨w6,bO⟩:∃w6,w6=wc:=⟨_,rfl⟩
 subst bO;have HB6:=hJ aT;have bX:=hJ bG;clear aT bG aG x0 x1 x2 x3 x4 x5 x6;by_cases hiz:i=0
 ·exact cQ19
 have cD:(i==0)=false:=beq_eq_false_iff_ne.mpr hiz;obtain⟨jb,tt,bL,cA,rfl,rfl,hk,bV,bQ,cB,-⟩:=FindP.slot HM.o bX.o hiz;have bN:Hid (1<=m.bs[jb].2.1[tt].2/\m.bs[jb].2.1[tt].2<=8):=by rw[hk];exact⟨bV,bQ⟩
 obtain⟨j,rfl⟩:∃j:Nat,i=(j:Int)+1:=⟨(i-1).toNat,oM⟩
 have bP:j<8:=oM
 have hj:j<m.3.length:=by rw[HM.o.i];exact bP
 have cI:IntKind.i64.wrap (j:Int)=(j:Int):=wrap_small _ oM oM;have j0:(0:Int)<=(j:Int):=oM
 have j1:(j:Int)<(m.3.length:Int):=oM
 obtain⟨x0,x1,x2,x3,x4,x5,x6⟩:=AtC.sev ((HC.o w6 HB6.o).1);have aO:Hid (R7 w6 m a1 c1 a2 c2 (aA g2 o2) c3 a4 c4 a5 c5 a6 c6):=HH.o.below (HC.o w6 HB6.o).2.2.2.2.1 nR;have aM:Hid ((∀q∈m.is,q.2.2.length<=2)/\(∀q∈m.bs,q.2.1.length<=4)):=⟨fun q hq=>by rw[(HM.o.ii q hq).n];decide,fun q hq=>(HM.o.bb q hq).m⟩
 have bK:Hid (m.4.length<=1048576):=by show _<=_;rw[HM.o.b];decide
 clear hk hiz;go_upto_region 8 with fail
 go_cut [70]from 42 to 70 (fun c wx=>(∃r,c=.bool r)/\Bw W2 wx)
 case first =>
  go_wp2_with fail
  refine(znn ((j:Int)+1) _ _ _ _ m.xs m.ys m.is m.bs w6 aO.o.d HM.o.i bK.o aM.o.1 aM.o.2).mono ?_;rintro e w7 ⟨⟨lv,ll,rfl,L7,cK⟩,B7⟩;have HB7:Hid (Bw W2 w7):=HB6.o.trans (B7.mono HB6.o.size);obtain⟨la,lc,rfl,-⟩:=L7.form;obtain⟨n7,aX⟩:∃n7,(stc ll).length=n7:=⟨_,rfl⟩
  rw[aX];clear B7 L7 aX aO HB6 x0 x1 x2 x3 x4 x5 x6;have bC:Hid (∀W,Bw W2 W->P7 W (fun k=>w.1.size+1+1<=k/\k<b2) b2 m s1 t1 s2 t2 s3 t3 s4 t4 s5 t5 s6 t6):=fun W bb=>by
   obtain⟨-,-,k3,k4,-⟩:=HC.o W bb;exact⟨k3,k4,fun e=>by have:w.1.size+1+1<=b2/\b2<b2:=e;omega⟩
  by_cases hn:0<n7
  ·have bZ:(0:Int)<(n7:Int):=oM
   go_wp2_with fail
   go_meet
   exact⟨⟨_,rfl⟩,HB7.o⟩
  have bZ:¬(0:Int)<(n7:Int):=oM
  obtain⟨pa,pc,i0,-,-,-⟩:=bU.o w7 j hj (HC.o w7 HB7.o).2.2.2.2.1;obtain⟨kd,aF⟩:∃kd,m.is[j].1=kd:=⟨_,rfl⟩
  rw[aF]at i0;clear aF;obtain⟨x0,x1,x2,x3,x4,x5,x6⟩:=AtC.sev ((HC.o w7 HB7.o).1);by_cases aF:kd=2
  ·subst aF;have aY:Hid (R7 w7 m a1 c1 a2 c2 (aA g2 o2) c3 a4 c4 a5 c5 a6 c6):=HH.o.below (HC.o w7 HB7.o).2.2.2.2.1 nR;go_wp2_with fail
   refine(held_any _ _ _ _ _ _ m ((j:Int)+1) w7 aY.o HM.o oM oM).mono ?_;rintro e w8 ⟨⟨r8,rfl⟩,B8⟩;have aQ:Hid (Bw W2 w8):=HB7.o.trans (B8.mono HB7.o.size);clear B8 aY HB7 x0 x1 x2 x3 x4 x5 x6 i0
   cases r8 with
   | true =>
    go_wp2_with fail
    go_meet
    exact⟨⟨_,rfl⟩,aQ.o⟩
   | false =>
    go_wp2_with fail
    refine(zd0 _ b2 _ _ _ _ _ _ m w8 (bC.o w8 aQ.o)).mono ?_;rintro e aN ⟨⟨rr,rfl⟩,aD⟩;rw[aD];clear aD aN;go_wp2_with fail
    go_meet
    exact⟨⟨_,rfl⟩,aQ.o⟩
  have cF:(kd==2)=false:=beq_eq_false_iff_ne.mpr aF;go_wp2_with fail
  refine(zd0 _ b2 _ _ _ _ _ _ m w7 (bC.o w7 HB7.o)).mono ?_;rintro e aN ⟨⟨rr,rfl⟩,aD⟩;rw[aD];clear aD aN;go_wp2_with fail
  go_meet
  exact⟨⟨_,rfl⟩,HB7.o⟩
 obtain⟨⟨r,rfl⟩,aS⟩:=hcut;obtain⟨w7,cC⟩:∃w7,w7=wc:=⟨_,rfl⟩
 subst cC;have HB7:=hJ aS;clear aS aO aM bK HB6 x0 x1 x2 x3 x4 x5 x6
 cases r with
 | true =>
  exact cQ3
 | false =>
 obtain⟨x0,x1,x2,x3,x4,x5,x6⟩:=AtC.sev ((HC.o w7 HB7.o).1);have aU:Hid (R7 w7 m a1 c1 a2 c2 (aA g2 o2) c3 a4 c4 a5 c5 a6 c6):=HH.o.below (HC.o w7 HB7.o).2.2.2.2.1 nR;go_wp2_with fail
 refine(zax _ _ _ _ _ _ m w7 aU.o HM.o.big).mono ?_;rintro e w8 ⟨u1,u2,u3,u4,u5,u6,rfl,O8,B8⟩;obtain⟨n1,o1,n2,bH,n3,o3,n4,o4,n5,o5,n6,o6,rfl,rfl,rfl,rfl,rfl,rfl⟩:=O8.mr.form;obtain⟨W9,hW9⟩:∃W9,w8.alloc (.cells (M7 m n1 o1 n2 bH n3 o3 n4 o4 n5 o5 n6 o6) 33)=W9:=⟨_,rfl⟩
 obtain⟨bo,hbo⟩:∃bo,w8.1.size=bo:=⟨_,rfl⟩
 have aC:Hid (P7 W9 (fun k=>w7.1.size<=k/\k<bo) bo m n1 o1 n2 bH n3 o3 n4 o4 n5 o5 n6 o6/\Bw w7 W9/\w7.1.size<=bo/\bo<W9.1.size):=by
  exact cQ61
 have bM:Hid (Bw W2 W9):=HB7.o.trans (aC.o.2.1.mono HB7.o.size);clear O8 B8 aU;have aL:Hid ((∀k,(w7.1.size<=k/\k<bo)->w7.1.size<=k)/\w7.1.size<=bo/\(∀k,W9.1.size<=k->w7.1.size<=k)):=⟨fun k hk=>hk.1,aC.o.2.2.1,fun k hk=>by have:=aC.o.2.1.size;omega⟩
 go_wp2_with fail
 refine(zj5 (fun k=>w7.1.size<=k) bo jb tt 0 _ _ _ _ _ _ _ m W9 aC.o.1 aL.o.1 aL.o.2.1 aL.o.2.2 HM.o bL cA bN.o).mono ?_;rintro e aK ⟨rfl,⟨SA,u',v',cM,cJ,cL,cH,ma,PA,aW,-,bJ⟩,aZ⟩;have aB:Hid (Bw W2 aK):=by
  have bS:=aC.o.2.1.trans (aZ.below aC.o.2.1.size (fun k hk=>hk));exact HB7.o.trans (bS.mono HB7.o.size)
 obtain⟨h1,k1,h2,k2,h3,k3,h4,k4,h5,k5,h6,k6,rfl,rfl,rfl,rfl,rfl,rfl⟩:=PA.form;have HZ:Hid (w.1.size+1+1<=w7.1.size):=by have:=(HC.o w7 HB7.o).2.2.2.2.2;show _<=_;omega
 clear aZ aC aL bM hW9 hbo x0 x1 x2 x3 x4 x5 x6;obtain⟨y0,y1,y2,y3,y4,y5,y6⟩:=AtC.sev PA.box;obtain⟨r0,r1,r2,r3,r4,r5,r6⟩:=AtC.sev ((HC.o aK aB.o).2.1);obtain⟨v0,v1,v2,v3,v4,v5,v6⟩:=(HC.o aK aB.o).2.1.f7;have HF:=hJ (aI PA.own (aI aW bJ));clear PA aW bJ;go_wp2;refine bY (v:=.tuple #[.agg (M7 ma h1 k1 h2 k2 h3 k3 h4 k4 h5 k5 h6 k6),nI 0]) sR7 rfl ⟨⟨_,_,_,_,_,_,ma,_,rfl,(HF.o.1.of_heap fun k hk _=>zaa _ _ _ _ _ _ _ _ _ k (by have:=HF.o.2.1 k hk;have:=HZ.o;omega)).mono (fun k hk=>by have:=HF.o.2.1 k hk;have:=HZ.o;omega),HF.o.2.2⟩,zab (HC.o aK aB.o).2.2.2.2.1 oM _ _ _ _ _ _ _⟩
theorem zig{m:MD}(h:ff m.ys≠0):takeI m={ m with ys:=m.ys.set (ff m.ys-1) true,fs:=m.fs.set 0 true }:=by unfold takeI;rw[if_neg h]
theorem zep(u v iv bv dv pv:Va)(m:MD)(p:BA)(kind:Int)(w:Wd)(h:MR w u v iv bv dv pv m)(hm:Sh Z0 m)(hp:p.size<=1048576):
  Calls Tryz.prog 168 #[.agg #[u,v,iv,bv,dv,pv,nI m.nx],.string p,nI kind] w fun e w'=>CallR w.1.size w' e/\Bw w w':=by
 obtain⟨a1,c1,a2,c2,a3,c3,a4,c4,a5,c5,a6,c6,rfl,rfl,rfl,rfl,rfl,rfl⟩:=h.form;obtain⟨qa,qc,qe,-,qh⟩:=h.d.i;simp only[vJ,true_and]at qe;obtain⟨rfl,rfl⟩:=qe;obtain⟨g2,o2,⟨q0,q1,q2⟩,rfl,-⟩:=qh 0 (by rw[hm.i];decide);have dA:Hid (∀(W:Wd)(j:Nat)(hj:j<m.3.length),Bw w W->∃ta tc,W.cell? ⟨g2,o2+j*3,none⟩=some (nI m.is[j].1)/\W.cell? ⟨g2,o2+j*3+1,none⟩=some (nI m.is[j].2.1)/\W.cell? ⟨g2,o2+j*3+2,none⟩=some (.slice ta m.is[j].2.2.length tc)/\RInts W (.slice ta m.is[j].2.2.length tc) m.is[j].2.2):=fun W j hj hb=>by
  exact cQ14
 clear qh q0 q1 q2;obtain⟨W0,hW0⟩:∃W0,((w.alloc (.cells (M7 m a1 c1 a2 c2 (aA g2 o2) c3 a4 c4 a5 c5 a6 c6) 33)).alloc (.cells E7 33))=W0:=⟨_,rfl⟩
 have HB0:Hid (Bw w W0/\W0.1.size=w.1.size+1+1/\AtC W0 w.1.size 33 (M7 m a1 c1 a2 c2 (aA g2 o2) c3 a4 c4 a5 c5 a6 c6)/\AtC W0 (w.1.size+1) 33 E7):=by
  exact cQ12
 have HH:=hJ h;have HM:=hJ hm;obtain⟨x0,x1,x2,x3,x4,x5,x6⟩:=AtC.sev HB0.o.2.2.1;have cI:Hid (R7 W0 m a1 c1 a2 c2 (aA g2 o2) c3 a4 c4 a5 c5 a6 c6):=HH.o.below HB0.o.1 nR;clear h hm;go_enter Tryz.func168,Tryz.ntmps168
 go_wp2_with fail
 refine(zax _ _ _ _ _ _ m W0 cI.o HM.o.big).mono ?_;rintro e w1 ⟨u1,u2,u3,u4,u5,u6,rfl,O1,B1⟩;obtain⟨s1,t1,s2,t2,s3,t3,s4,t4,s5,t5,s6,t6,rfl,rfl,rfl,rfl,rfl,rfl⟩:=O1.mr.form;obtain⟨W2,hW2⟩:∃W2,w1.alloc (.cells (M7 m s1 t1 s2 t2 s3 t3 s4 t4 s5 t5 s6 t6) 33)=W2:=⟨_,rfl⟩
 obtain⟨b2,hb2⟩:∃b2,w1.1.size=b2:=⟨_,rfl⟩
 have HC:Hid (∀W,Bw W2 W->AtC W w.1.size 33 (M7 m a1 c1 a2 c2 (aA g2 o2) c3 a4 c4 a5 c5 a6 c6)/\AtC W (w.1.size+1) 33 E7/\AtC W b2 33 (M7 m s1 t1 s2 t2 s3 t3 s4 t4 s5 t5 s6 t6)/\N7 W (fun k=>w.1.size+1+1<=k/\k<b2) m s1 t1 s2 t2 s3 t3 s4 t4 s5 t5 s6 t6/\Bw w W/\w.1.size+1+1<=b2/\b2<W.1.size):=fun W b=>by
  exact cQ11
 have dN:Hid (Bw W2 W2):=bF _ _;clear O1 B1 cI x0 x1 x2 x3 x4 x5 x6 hW0 HB0;go_wp2_with fail
 refine(zdc p W2 hp).mono ?_;rintro e w3 ⟨⟨dn,nm,q1,rfl,dS,dM,cE⟩,B3⟩;have bM:=hJ cE;clear cE;have aN:Hid (Bw W2 w3):=B3;clear B3 hW2 hb2;have bE:dn.size<=1048576:=oM
 obtain⟨x0,x1,x2,x3,x4,x5,x6⟩:=AtC.sev ((HC.o w3 aN.o).1);have bG:Hid (R7 w3 m a1 c1 a2 c2 (aA g2 o2) c3 a4 c4 a5 c5 a6 c6):=HH.o.below (HC.o w3 aN.o).2.2.2.2.1 nR;go_upto_region 3 with fail
 go_cut [37]from 17 to 37 (fun c wx=>(∃r,c=.bool r/\(r=false->q1=true/\(kind=1\/kind=2)))/\Bw W2 wx)
 case first =>
  go_wp2_with fail
  refine(zb2 _ _ _ _ _ _ m w3 bG.o HM.o).mono ?_;rintro e w4 ⟨⟨q2,rfl⟩,B4⟩;have HB4:Hid (Bw W2 w4):=aN.o.trans (B4.mono aN.o.size);clear B4 bG aN x0 x1 x2 x3 x4 x5 x6
  cases q2 with
  | false =>
   exact cQ131
  | true =>
  cases q1 with
  | false =>
   exact cQ131
  | true =>
  by_cases hk1:kind=1
  ·subst hk1;go_wp2_with fail
   go_meet
   exact⟨⟨_,rfl,fun _=>⟨trivial,.inl trivial⟩⟩,HB4.o⟩
  have dE:(kind != 1)=true:=by simp[hk1]
  go_wp2_with fail
  go_meet
  exact⟨⟨_,rfl,fun e=>⟨by first| rfl|trivial,.inr (by simpa using e)⟩⟩,HB4.o⟩
 obtain⟨⟨r,rfl,cP⟩,cA⟩:=hcut;have aY:=hJ cP;clear cP;obtain⟨w4,dK⟩:∃w4,w4=wc:=⟨_,rfl⟩
 subst dK;have HB4:=hJ cA;clear cA bG aN x0 x1 x2 x3 x4 x5 x6
 cases r with
 | true =>
  exact cQ1
 | false =>
 obtain⟨x0,x1,x2,x3,x4,x5,x6⟩:=AtC.sev ((HC.o w4 HB4.o).1);have bP:Hid (DR w4 (.slice a1 m.1.length c1) (.slice a2 m.2.length c2) (.slice (aA g2 o2) m.3.length c3) (.slice a4 m.4.length c4) m.xs m.ys m.is m.bs):=(HH.o.below (HC.o w4 HB4.o).2.2.2.2.1 nR).d;go_wp2_with fail
 refine(zch _ _ _ _ m.xs m.ys m.is m.bs p w4 bP.o HM.o.big.d HM.o.i hp).mono ?_;rintro e w5 ⟨⟨i,rfl,-,-,bN⟩,B5⟩;have bX:=hJ (bM.o (aY.o trivial).1);have cM:=hJ (aY.o trivial).2;have cN:=hJ bN;clear bN bM aY;have aF:Hid (Bw W2 w5):=HB4.o.trans (B5.mono HB4.o.size);clear B5 bP HB4 x0 x1 x2 x3 x4 x5 x6;by_cases hiz:i=0
 rotate_left
 ·have cU:(i != 0)=true:=by simp[hiz]
  obtain⟨y0,y1,y2,y3,y4,y5,y6⟩:=AtC.sev ((HC.o w5 aF.o).2.2.1);obtain⟨r0,r1,r2,r3,r4,r5,r6⟩:=AtC.sev ((HC.o w5 aF.o).2.1);obtain⟨v0,v1,v2,v3,v4,v5,v6⟩:=(HC.o w5 aF.o).2.1.f7;have HFF:=hJ (HC.o w5 aF.o);go_wp2;refine bY (v:=.tuple #[.agg (M7 m s1 t1 s2 t2 s3 t3 s4 t4 s5 t5 s6 t6),nI 2]) sR7 rfl ⟨⟨_,_,_,_,_,_,m,_,rfl,(HFF.o.2.2.2.1.of_heap fun k hk _=>zaa _ _ _ _ _ _ _ _ _ k oF).mono (fun k hk=>by have:w.1.size+1+1<=k/\k<b2:=hk;omega),HM.o⟩,zab HFF.o.2.2.2.2.1 oM _ _ _ _ _ _ _⟩
 subst hiz;obtain⟨x0,x1,x2,x3,x4,x5,x6⟩:=AtC.sev ((HC.o w5 aF.o).1);have bZ:Hid (DR w5 (.slice a1 m.1.length c1) (.slice a2 m.2.length c2) (.slice (aA g2 o2) m.3.length c3) (.slice a4 m.4.length c4) m.xs m.ys m.is m.bs):=(HH.o.below (HC.o w5 aF.o).2.2.2.2.1 nR).d;go_wp2_with fail
 refine(zch _ _ _ _ m.xs m.ys m.is m.bs dn w5 bZ.o HM.o.big.d HM.o.i bE).mono ?_;rintro e w6 ⟨⟨i,rfl,dX,dO,cL⟩,B6⟩;have bL:=hJ cL;clear cL;have HB6:Hid (Bw W2 w6):=aF.o.trans (B6.mono aF.o.size);clear B6 bZ aF x0 x1 x2 x3 x4 x5 x6;by_cases hiz:i=0
 ·exact cQ19
 have cU:(i==0)=false:=beq_eq_false_iff_ne.mpr hiz;obtain⟨j,rfl⟩:∃j:Nat,i=(j:Int)+1:=⟨(i-1).toNat,oM⟩
 have bS:j<8:=oM
 have hj:j<m.3.length:=by rw[HM.o.i];exact bS
 have dW:IntKind.i64.wrap (j:Int)=(j:Int):=wrap_small _ oM oM;have j0:(0:Int)<=(j:Int):=oM
 have j1:(j:Int)<(m.3.length:Int):=oM
 obtain⟨pa,pc,i0,-,-,-⟩:=dA.o w6 j hj (HC.o w6 HB6.o).2.2.2.2.1;obtain⟨kd,aM⟩:∃kd,m.is[j].1=kd:=⟨_,rfl⟩
 rw[aM]at i0;have cR:=hJ aM;clear aM;obtain⟨x0,x1,x2,x3,x4,x5,x6⟩:=AtC.sev ((HC.o w6 HB6.o).1);by_cases aM:kd=2
 rotate_left
 ·have dP:(kd != 2)=true:=by simp[aM]
  obtain⟨y0,y1,y2,y3,y4,y5,y6⟩:=AtC.sev ((HC.o w6 HB6.o).2.2.1);obtain⟨r0,r1,r2,r3,r4,r5,r6⟩:=AtC.sev ((HC.o w6 HB6.o).2.1);obtain⟨v0,v1,v2,v3,v4,v5,v6⟩:=(HC.o w6 HB6.o).2.1.f7;have HFF:=hJ (HC.o w6 HB6.o);go_wp2;refine bY (v:=.tuple #[.agg (M7 m s1 t1 s2 t2 s3 t3 s4 t4 s5 t5 s6 t6),nI 3]) sR7 rfl ⟨⟨_,_,_,_,_,_,m,_,rfl,(HFF.o.2.2.2.1.of_heap fun k hk _=>zaa _ _ _ _ _ _ _ _ _ k oF).mono (fun k hk=>by have:w.1.size+1+1<=k/\k<b2:=hk;omega),HM.o⟩,zab HFF.o.2.2.2.2.1 oM _ _ _ _ _ _ _⟩
 subst aM;have cT:Hid (Abs j nm m.is m.bs):=by
  obtain⟨-,l,q1,q2⟩:=bX.o;exact zfn HM.o (bL.o l q2).symm (cN.o _ q1).symm hj cR.o
 clear cN bL;have cB:Hid (R7 w6 m a1 c1 a2 c2 (aA g2 o2) c3 a4 c4 a5 c5 a6 c6):=HH.o.below (HC.o w6 HB6.o).2.2.2.2.1 nR;go_wp2_with fail
 refine(zif _ _ _ _ _ _ m ((j:Int)+1) nm w6 cB.o HM.o oM oM).mono ?_;rintro e w7 ⟨⟨r,rfl⟩,B7⟩;have HB7:Hid (Bw W2 w7):=HB6.o.trans (B7.mono HB6.o.size);clear B7 cB HB6 x0 x1 x2 x3 x4 x5 x6 i0
 cases r with
 | true =>
  exact cQ3
 | false =>
 obtain⟨x0,x1,x2,x3,x4,x5,x6⟩:=AtC.sev ((HC.o w7 HB7.o).1);have cC:Hid (R7 w7 m a1 c1 a2 c2 (aA g2 o2) c3 a4 c4 a5 c5 a6 c6):=HH.o.below (HC.o w7 HB7.o).2.2.2.2.1 nR;by_cases hf:ff m.ys=0
 ·have CT:Hid (Calls Tryz.prog 195 #[.agg (M7 m a1 c1 a2 c2 (aA g2 o2) c3 a4 c4 a5 c5 a6 c6)] w7 fun e w'=>∃(z1:OA)(l1 y1:Nat)(z2:OA)(l2 y2:Nat)(z3:OA)(l3 y3:Nat)(z4:OA)(l4 y4:Nat)(z5:OA)(l5 y5:Nat)(z6:OA)(l6 y6:Nat),e=.returned (.tuple #[.agg #[.slice z1 l1 y1,.slice z2 l2 y2,.slice z3 l3 y3,.slice z4 l4 y4,.slice z5 l5 y5,.slice z6 l6 y6,nI m.nx],nI 0])/\Bw w7 w'):=by
   refine(zf2 _ _ _ _ _ _ m w7 cC.o HM.o.big).mono ?_;rintro e w' ⟨v1,v2,v3,v4,v5,v6,rfl,O8,B8⟩;obtain⟨z1,y1,z2,y2,z3,y3,z4,y4,z5,y5,z6,y6,rfl,rfl,rfl,rfl,rfl,rfl⟩:=O8.mr.form;rw[hf];exact⟨z1,_,y1,z2,_,y2,z3,_,y3,z4,_,y4,z5,_,y5,z6,_,y6,rfl,B8⟩
  exact cQ10
 obtain⟨p1,p2⟩:=zia m.ys hf;obtain⟨qn,dQ⟩:∃qn:Nat,ff m.ys=qn+1:=⟨ff m.ys-1,oM⟩
 have cD:qn<8:=by have:=HM.o.y;omega
 have hz:((ff m.ys:Nat):Int)=(qn:Int)+1:=oM
 have CT:Hid (Calls Tryz.prog 195 #[.agg (M7 m a1 c1 a2 c2 (aA g2 o2) c3 a4 c4 a5 c5 a6 c6)] w7 fun e w'=>∃(z1:OA)(y1:Nat)(z2:OA)(y2:Nat)(z3:OA)(y3:Nat)(z4:OA)(y4:Nat)(z5:OA)(y5:Nat)(z6:OA)(y6:Nat),e=.returned (.tuple #[.agg (M7 m z1 y1 z2 y2 z3 y3 z4 y4 z5 y5 z6 y6),nI ((qn:Int)+1)])/\MO w' (fun k=>w7.1.size<=k) (.slice z1 m.1.length y1) (.slice z2 m.2.length y2) (.slice z3 m.3.length y3) (.slice z4 m.4.length y4) (.slice z5 m.5.length y5) (.slice z6 m.6.length y6) ({ m with ys:=m.ys.set (ff m.ys-1) true,fs:=m.fs.set 0 true }:MD)/\Bw w7 w'):=by
  refine(zf2 _ _ _ _ _ _ m w7 cC.o HM.o.big).mono ?_;rintro e w' ⟨v1,v2,v3,v4,v5,v6,rfl,O8,B8⟩;rw[zig hf]at O8;obtain⟨z1,y1,z2,y2,z3,y3,z4,y4,z5,y5,z6,y6,rfl,e2,rfl,rfl,e5,rfl⟩:=O8.mr.form;have cV:v2=.slice z2 m.2.length y2:=e2.trans (by rw[show({ m with ys:=m.ys.set (ff m.ys-1) true,fs:=m.fs.set 0 true }:MD).ys.length=m.2.length from lS ..]);have dJ:v5=.slice z5 m.5.length y5:=e5.trans (by rw[show({ m with ys:=m.ys.set (ff m.ys-1) true,fs:=m.fs.set 0 true }:MD).fs.length=m.5.length from lS ..]);clear e2 e5;subst cV dJ;rw[hz];exact⟨z1,y1,z2,y2,z3,y3,z4,y4,z5,y5,z6,y6,rfl,O8,B8⟩
 have cO:Hid (Sh Z0 ({ m with ys:=m.ys.set (ff m.ys-1) true,fs:=m.fs.set 0 true }:MD)):=by
  have:=HM.o.takeI;rw[zig hf]at this;exact this
 go_wp2_with fail
 refine CT.out.mono ?_;rintro e w8 ⟨z1,y1,z2,y2,z3,y3,z4,y4,z5,y5,z6,y6,rfl,O8,B8⟩;obtain⟨W9,hW9⟩:∃W9,w8.alloc (.cells (M7 m z1 y1 z2 y2 z3 y3 z4 y4 z5 y5 z6 y6) 33)=W9:=⟨_,rfl⟩
 obtain⟨bn,bK⟩:∃bn,w8.1.size=bn:=⟨_,rfl⟩
 have aH:Hid (PM W9 (fun k=>w7.1.size<=k/\k<bn) bn (.slice z1 m.1.length y1) (.slice z2 m.2.length y2) (.slice z3 m.3.length y3) (.slice z4 m.4.length y4) (.slice z5 m.5.length y5) (.slice z6 m.6.length y6) ({ m with ys:=m.ys.set (ff m.ys-1) true,fs:=m.fs.set 0 true }:MD)/\Bw w7 W9/\w7.1.size<=bn/\bn<W9.1.size):=by
  rw[←hW9];have z8:=B8.size;refine⟨⟨?_,(O8.bound.below ((bF _ w8).alloc nR _) nR).mono (fun k hk=>by have:w7.1.size<=k/\k<w8.1.size:=hk;omega),oM⟩,B8.alloc z8 _,oM,sO⟩;rw[←bK];exact AtC.new w8 33 _
 have HB9:Hid (Bw W2 W9):=HB7.o.trans (aH.o.2.1.mono HB7.o.size);have dY:(((qn:Int)+1)==0)=false:=beq_eq_false_iff_ne.mpr oM;clear O8 B8 CT p1 p2;go_wp2_with fail
 refine(zd0 _ bn _ _ _ _ _ _ ({ m with ys:=m.ys.set (ff m.ys-1) true,fs:=m.fs.set 0 true }:MD) W9 aH.o.1).mono ?_;rintro e aZ ⟨⟨rr,rfl⟩,aO⟩;rw[aO];clear aO aZ hW9 bK x0 x1 x2 x3 x4 x5 x6
 cases rr with
 | false =>
  exact cQ20
 | true =>
 obtain⟨gi,ci,pb,ei,aT,aU,bV,-,aX,aK,cF⟩:=aH.o.1.inoAt qn (show qn<m.3.length by rw[HM.o.i];exact cD);simp only[vJ,true_and]at ei;obtain⟨rfl,rfl⟩:=ei;obtain⟨v0,aT⟩:∃v0,W9.cell? ⟨gi,qn*3,none⟩=some v0:=⟨_,aT⟩
 obtain⟨v1,aU⟩:∃v1,W9.cell? ⟨gi,qn*3+1,none⟩=some v1:=⟨_,aU⟩
 have bO:=aH.o.1.box.c2;have f0:=aX (qn*3);have f1:=aX (qn*3+1);have f2:=aX (qn*3+2);have cH:Hid (∀W,Bw W9 W->W.cell? ⟨bn,2,none⟩=some (.slice (aA gi 0) m.3.length y3)/\W.cell? ⟨gi,qn*3,none⟩=some v0/\W.cell? ⟨gi,qn*3+1,none⟩=some v1/\W.cell? ⟨gi,qn*3+2,none⟩=some pb/\W.frozen? ⟨gi,qn*3,none⟩=false/\W.frozen? ⟨gi,qn*3+1,none⟩=false/\W.frozen? ⟨gi,qn*3+2,none⟩=false):=fun W bb=>⟨(bb.cell (p:=⟨bn,2,none⟩) aH.o.2.2.2).trans bO,(bb.cell (p:=⟨gi,qn*3,none⟩) aK).trans aT,(bb.cell (p:=⟨gi,qn*3+1,none⟩) aK).trans aU,(bb.cell (p:=⟨gi,qn*3+2,none⟩) aK).trans bV,(bb.frozen (p:=⟨gi,qn*3,none⟩) aK).trans f0,(bb.frozen (p:=⟨gi,qn*3+1,none⟩) aK).trans f1,(bb.frozen (p:=⟨gi,qn*3+2,none⟩) aK).trans f2⟩
 have aP:Hid (∀(W:Wd)(pv:Va),ROwns W W9.1.size 3 pv (ic [0,0])->Bw W9 W->BTQ (Abs j nm) (((W.setCell ⟨gi,qn*3,none⟩ (nI kind)).setCell ⟨gi,qn*3+1,none⟩ (nI (zan kind))).setCell ⟨gi,qn*3+2,none⟩ pv) (fun k=>w7.1.size<=k) bn/\Bw w7 (((W.setCell ⟨gi,qn*3,none⟩ (nI kind)).setCell ⟨gi,qn*3+1,none⟩ (nI (zan kind))).setCell ⟨gi,qn*3+2,none⟩ pv)):=fun W pv O bb=>by
  obtain⟨P9,b9,l9,eC⟩:=aH.o;have hp:=(P9.below bb).putI rfl qn (show qn<m.3.length by rw[HM.o.i];exact cD) (nI kind,nI (zan kind),pv) (kind,zan kind,[0,0]) ⟨rfl,rfl,O.base_le (zL _)⟩ (fun k hk=>by
   have h1:=(O.lt k hk).1;exact⟨fun e=>by have:=e.2;omega,oM⟩)
  have hg:w7.1.size<=gi:=cF.1;have bo:=b9.trans (bb.mono b9.size);refine⟨⟨_,_,_,_,_,_,_,_,hp.1,fun k hk=>?_,l9,cO.o.inode qn ⟨by show 0<=zan kind/\zan kind<=200;unfold zan;split<;>omega,rfl,fun p hp=>by simp at hp;omega,cM.o.elim .inl fun z=>.inr (.inl z)⟩ (fun hj p hp=>?_),cT.o.set0 qn (by have:=cM.o;omega)⟩,((bo.setCell (p:=⟨gi,qn*3,none⟩) hg _).setCell (p:=⟨gi,qn*3+1,none⟩) hg _).setCell (p:=⟨gi,qn*3+2,none⟩) hg _⟩
  ·rcases hk with h|h
   ·exact h.1
   have h1:=(O.lt k h).1;have:=b9.size;omega
  have e:List.count p ([0,0]:List Int)=0:=by
   rw[List.count_eq_zero];intro h;simp at h;omega
  show List.count p ([0,0]:List Int)<=_;omega
 have dU:IntKind.i64.wrap (qn:Int)=(qn:Int):=wrap_small _ oM oM;have eA:(0:Int)<=(qn:Int):=oM
 have eD:(qn:Int)<(m.3.length:Int):=by have:=HM.o.i;omega
 clear aX;go_upto_region 17 with fail
 go_cut [13]from 72 to 86 (fun c wx=>c=.pointer (some ⟨bn,0,none⟩)/\BTQ (Abs j nm) wx (fun k=>w7.1.size<=k) bn/\Bw w7 wx)
 case first =>
  go_region_with (go_at_call 119;refine(zbc kind _).mono ?_;rintro e cQ ⟨pv,rfl,bI,aL⟩;obtain⟨dL,dH,rfl⟩:=bI.form2;have aR:=hJ (aI bI aL);obtain⟨n0,n1,n2,n3,n4,n5,n6⟩:=cH.o cQ (zac aL);clear bI aL)
  all_goals (go_wp2_with fail;go_meet;exact⟨rfl,aP.o cQ (.slice dL 2 dH) aR.o.1 (zac aR.o.2)⟩)
 obtain⟨rfl,aQ,aL⟩:=hcut;have aC:=hJ (aI aQ aL);have bH:w7.1.size<=bn:=aH.o.2.2.1;obtain⟨U,hU⟩:∃U,uoI ((qn:Int)+1)=U:=⟨_,rfl⟩
 have CU:Hid (∀W,Calls Tryz.prog 198 #[nI ((qn:Int)+1)] W fun e w'=>e=.returned (nI U)/\w'=W):=fun W=>by rw[←hU];exact zbp _ W
 clear hU aQ aL aP cH aT aU bV f0 f1 f2 bO aK cF cO aH;go_wp2_with fail
 refine(CU.out _).mono ?_;rintro e aZ ⟨rfl,aO⟩;rw[aO];clear aO aZ;go_wp2_with fail
 refine(znl _ bn U wc aC.o.1).mono ?_;rintro e aV ⟨rfl,dI,bQ⟩;have aD:Hid (Bw w7 aV):=aC.o.2.trans (bQ.below aC.o.2.size (fun k hk=>hk));obtain⟨SB,u,v,iv,bv,dv,pv,mb,PB,cK,dD,cJ,bU⟩:=dI;have cY:=hJ bU;clear bU;have aW:Hid (PM aV SB bn u v iv bv dv pv mb/\(∀k,SB k->w7.1.size<=k)/\Sh Z0 mb):=⟨PB,cK,cJ⟩
 have aS:Hid (∀k,aV.1.size<=k->w7.1.size<=k):=fun k hk=>by have:=aD.o.size;omega
 clear PB cK dD cJ bQ aC CU;go_wp2_with fail
 refine(zie (fun k=>w7.1.size<=k) bn j nm ((qn:Int)+1) SB u v iv bv dv pv mb aV aW.o.1 aW.o.2.1 bH aS.o aW.o.2.2 bS dM ⟨oM,oM⟩ bX.o.1 cY.o).mono ?_;rintro e aG ⟨⟨id,rfl,-,-⟩,⟨SA,u',v',eF,dZ,eE,dV,ma,PA,bC,-,bJ,-⟩,cG⟩;have aB:Hid (Bw W2 aG):=by
  have cW:=aD.o.trans (cG.below aD.o.size (fun k hk=>hk));exact HB7.o.trans (cW.mono HB7.o.size)
 obtain⟨h1,k1,h2,k2,h3,k3,h4,k4,h5,k5,h6,k6,rfl,rfl,rfl,rfl,rfl,rfl⟩:=PA.form;clear cG aW aS aD;by_cases hid:id=0
 ·subst hid;clear PA bC bJ;obtain⟨y0,y1,y2,y3,y4,y5,y6⟩:=AtC.sev ((HC.o aG aB.o).2.2.1);obtain⟨r0,r1,r2,r3,r4,r5,r6⟩:=AtC.sev ((HC.o aG aB.o).2.1);obtain⟨v0,v1,v2,v3,v4,v5,v6⟩:=(HC.o aG aB.o).2.1.f7;have HFF:=hJ (HC.o aG aB.o);go_wp2;refine bY (v:=.tuple #[.agg (M7 m s1 t1 s2 t2 s3 t3 s4 t4 s5 t5 s6 t6),nI 4]) sR7 rfl ⟨⟨_,_,_,_,_,_,m,_,rfl,(HFF.o.2.2.2.1.of_heap fun k hk _=>zaa _ _ _ _ _ _ _ _ _ k oF).mono (fun k hk=>by have:w.1.size+1+1<=k/\k<b2:=hk;omega),HM.o⟩,zab HFF.o.2.2.2.2.1 oM _ _ _ _ _ _ _⟩
 have cX:(id==0)=false:=beq_eq_false_iff_ne.mpr hid;have HZ:Hid (w.1.size+1+1<=w7.1.size):=by have:=(HC.o w7 HB7.o).2.2.2.2.2;show _<=_;omega
 obtain⟨y0,y1,y2,y3,y4,y5,y6⟩:=AtC.sev PA.box;obtain⟨r0,r1,r2,r3,r4,r5,r6⟩:=AtC.sev ((HC.o aG aB.o).2.1);obtain⟨v0,v1,v2,v3,v4,v5,v6⟩:=(HC.o aG aB.o).2.1.f7;have HF:=hJ (aI PA.own (aI bC bJ));clear PA bC bJ;go_wp2;refine bY (v:=.tuple #[.agg (M7 ma h1 k1 h2 k2 h3 k3 h4 k4 h5 k5 h6 k6),nI 0]) sR7 rfl ⟨⟨_,_,_,_,_,_,ma,_,rfl,(HF.o.1.of_heap fun k hk _=>zaa _ _ _ _ _ _ _ _ _ k (by have:=HF.o.2.1 k hk;have:=HZ.o;omega)).mono (fun k hk=>by have:=HF.o.2.1 k hk;have:=HZ.o;omega),HF.o.2.2⟩,zab (HC.o aG aB.o).2.2.2.2.1 oM _ _ _ _ _ _ _⟩
end Go.Proofs.YtgnplpmgkegcnaaGreat
