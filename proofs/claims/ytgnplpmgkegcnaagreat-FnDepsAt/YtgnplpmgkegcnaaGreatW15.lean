/- Texts. -/
import Derived.Test.YtgnplpmgkegcnaaGreatW12
import Derived.Test.YtgnplpmgkegcnaaGreatW13
set_option maxRecDepth 100000
set_option maxHeartbeats 12800000
namespace Go.Proofs.YtgnplpmgkegcnaaGreat
open Go.RowKit Kit
theorem znk{w:Wd}{g j:Nat}{x:Va}(h:w.cell? ⟨g,j,none⟩=some x):g<w.1.size:=by
 exact cQ99
def CallR(B:Nat)(w':Wd)(e:Ending):Prop:=∃(u v i b d p:Va)(m':MD)(c:Int),e=.returned (.tuple #[.agg #[u,v,i,b,d,p,nI m'.nx],nI c])/\MO w' (fun k=>B<=k) u v i b d p m'/\Sh Z0 m'
theorem zg7(u v iv bv dv pv:Va)(m:MD)(p:BA)(k:Int)(s:BA)(w:Wd)(h:MR w u v iv bv dv pv m)(hm:Sh Z0 m)(hp:p.size<=1048576)(hs:s.size<=1048576):
  Calls Tryz.prog 169 #[.agg #[u,v,iv,bv,dv,pv,nI m.nx],.string p,nI k,.string s] w fun e w'=>CallR w.1.size w' e/\Bw w w':=by
 obtain⟨a1,c1,a2,c2,a3,c3,a4,c4,a5,c5,a6,c6,rfl,rfl,rfl,rfl,rfl,rfl⟩:=h.form;obtain⟨qa,qc,qe,-,qh⟩:=h.d.i;simp only[vJ,true_and]at qe;obtain⟨rfl,rfl⟩:=qe;obtain⟨g2,o2,⟨q0,q1,q2⟩,rfl,-⟩:=qh 0 (by rw[hm.i];decide);have HIN:Hid (∀(W:Wd)(j:Nat)(hj:j<m.3.length),Bw w W->∃ta tc,W.cell? ⟨g2,o2+j*3,none⟩=some (nI m.is[j].1)/\W.cell? ⟨g2,o2+j*3+1,none⟩=some (nI m.is[j].2.1)/\W.cell? ⟨g2,o2+j*3+2,none⟩=some (.slice ta m.is[j].2.2.length tc)/\RInts W (.slice ta m.is[j].2.2.length tc) m.is[j].2.2):=fun W j hj hb=>by
  exact cQ14
 clear qh q0 q1 q2;obtain⟨W0,hW0⟩:∃W0,((w.alloc (.cells (M7 m a1 c1 a2 c2 (aA g2 o2) c3 a4 c4 a5 c5 a6 c6) 33)).alloc (.cells E7 33))=W0:=⟨_,rfl⟩
 have HB0:Hid (Bw w W0/\W0.1.size=w.1.size+1+1/\AtC W0 w.1.size 33 (M7 m a1 c1 a2 c2 (aA g2 o2) c3 a4 c4 a5 c5 a6 c6)/\AtC W0 (w.1.size+1) 33 E7):=by
  exact cQ12
 have HH:=hJ h;have HM:=hJ hm;obtain⟨x0,x1,x2,x3,x4,x5,x6⟩:=AtC.sev HB0.o.2.2.1;have HM0:Hid (R7 W0 m a1 c1 a2 c2 (aA g2 o2) c3 a4 c4 a5 c5 a6 c6):=HH.o.below HB0.o.1 nR;clear h hm;go_enter Tryz.func169,Tryz.ntmps169
 go_wp2_with fail
 refine(zax _ _ _ _ _ _ m W0 HM0.o HM.o.big).mono ?_;rintro e w1 ⟨u1,u2,u3,u4,u5,u6,rfl,O1,B1⟩;obtain⟨s1,t1,s2,t2,s3,t3,s4,t4,s5,t5,s6,t6,rfl,rfl,rfl,rfl,rfl,rfl⟩:=O1.mr.form;obtain⟨W2,hW2⟩:∃W2,w1.alloc (.cells (M7 m s1 t1 s2 t2 s3 t3 s4 t4 s5 t5 s6 t6) 33)=W2:=⟨_,rfl⟩
 obtain⟨b2,hb2⟩:∃b2,w1.1.size=b2:=⟨_,rfl⟩
 have HC:Hid (∀W,Bw W2 W->AtC W w.1.size 33 (M7 m a1 c1 a2 c2 (aA g2 o2) c3 a4 c4 a5 c5 a6 c6)/\AtC W (w.1.size+1) 33 E7/\AtC W b2 33 (M7 m s1 t1 s2 t2 s3 t3 s4 t4 s5 t5 s6 t6)/\N7 W (fun k=>w.1.size+1+1<=k/\k<b2) m s1 t1 s2 t2 s3 t3 s4 t4 s5 t5 s6 t6/\Bw w W/\w.1.size+1+1<=b2/\b2<W.1.size):=fun W b=>by
  exact cQ11
 have HB2:Hid (Bw W2 W2):=bF _ _;clear O1 B1 HM0 x0 x1 x2 x3 x4 x5 x6 hW0 HB0;have hb:∀(W:Wd),Bw W2 W->True:=fun _ _=>trivial;clear hb;go_wp2_with fail
 refine(zdu p W2 hp).mono ?_;rintro e w3 ⟨⟨lv,l,q1,rfl,L3,-,-⟩,B3⟩;have HB3:Hid (Bw W2 w3):=B3;obtain⟨la,lc,rfl,-⟩:=L3.form;clear B3 L3 hW2 hb2;obtain⟨x0,x1,x2,x3,x4,x5,x6⟩:=AtC.sev ((HC.o w3 HB3.o).1);have HM3:Hid (R7 w3 m a1 c1 a2 c2 (aA g2 o2) c3 a4 c4 a5 c5 a6 c6):=HH.o.below (HC.o w3 HB3.o).2.2.2.2.1 nR;go_wp2_with fail
 refine(zb2 _ _ _ _ _ _ m w3 HM3.o HM.o).mono ?_;rintro e w4 ⟨⟨q2,rfl⟩,B4⟩;have HB4:Hid (Bw W2 w4):=HB3.o.trans (B4.mono HB3.o.size);clear B4 HM3 HB3 x0 x1 x2 x3 x4 x5 x6
 cases q2 with
 | false =>
  exact cQ1
 | true =>
 cases q1 with
 | false =>
  exact cQ1
 | true =>
 cases hk:inB k 0 1 with
 | false =>
  have HK:=hJ hk;clear hk;obtain⟨y0,y1,y2,y3,y4,y5,y6⟩:=AtC.sev ((HC.o w4 HB4.o).2.2.1);obtain⟨r0,r1,r2,r3,r4,r5,r6⟩:=AtC.sev ((HC.o w4 HB4.o).2.1);obtain⟨v0,v1,v2,v3,v4,v5,v6⟩:=(HC.o w4 HB4.o).2.1.f7;have HFF:=hJ (HC.o w4 HB4.o);go_wp2_with (go_at_call 50;refine(zak k 0 1 _).mono ?_;rintro e w9 ⟨rfl,hw9⟩;subst w9;rw[HK.o])
  refine bY (v:=.tuple #[.agg (M7 m s1 t1 s2 t2 s3 t3 s4 t4 s5 t5 s6 t6),nI 6]) sR7 rfl ⟨⟨_,_,_,_,_,_,m,_,rfl,(HFF.o.2.2.2.1.of_heap fun k hk _=>zaa _ _ _ _ _ _ _ _ _ k oF).mono (fun k hk=>by have:w.1.size+1+1<=k/\k<b2:=hk;omega),HM.o⟩,zab HFF.o.2.2.2.2.1 oM _ _ _ _ _ _ _⟩
 | true =>
 have HK:=hJ hk;obtain⟨hk0,hk1⟩:=zay hk;clear hk;by_cases hs16:16<s.size
 ·have hs1:(16:Int)<(s.size:Int):=oM
  obtain⟨y0,y1,y2,y3,y4,y5,y6⟩:=AtC.sev ((HC.o w4 HB4.o).2.2.1);obtain⟨r0,r1,r2,r3,r4,r5,r6⟩:=AtC.sev ((HC.o w4 HB4.o).2.1);obtain⟨v0,v1,v2,v3,v4,v5,v6⟩:=(HC.o w4 HB4.o).2.1.f7;have HFF:=hJ (HC.o w4 HB4.o);go_wp2_with (go_at_call 50;refine(zak k 0 1 _).mono ?_;rintro e w9 ⟨rfl,hw9⟩;subst w9;rw[HK.o])
  refine bY (v:=.tuple #[.agg (M7 m s1 t1 s2 t2 s3 t3 s4 t4 s5 t5 s6 t6),nI 6]) sR7 rfl ⟨⟨_,_,_,_,_,_,m,_,rfl,(HFF.o.2.2.2.1.of_heap fun k hk _=>zaa _ _ _ _ _ _ _ _ _ k oF).mono (fun k hk=>by have:w.1.size+1+1<=k/\k<b2:=hk;omega),HM.o⟩,zab HFF.o.2.2.2.2.1 oM _ _ _ _ _ _ _⟩
 have hs1:¬(16:Int)<(s.size:Int):=oM
 obtain⟨x0,x1,x2,x3,x4,x5,x6⟩:=AtC.sev ((HC.o w4 HB4.o).1);have HD4:Hid (DR w4 (.slice a1 m.1.length c1) (.slice a2 m.2.length c2) (.slice (aA g2 o2) m.3.length c3) (.slice a4 m.4.length c4) m.xs m.ys m.is m.bs):=(HH.o.below (HC.o w4 HB4.o).2.2.2.2.1 nR).d;go_wp2_with (go_at_call 50;refine(zak k 0 1 _).mono ?_;rintro e w9 ⟨rfl,hw9⟩;subst w9;rw[HK.o])
 refine(zch _ _ _ _ m.xs m.ys m.is m.bs p w4 HD4.o HM.o.big.d HM.o.i hp).mono ?_;rintro e w5 ⟨⟨i,rfl,hi0,hi8,-⟩,B5⟩;have HB5:Hid (Bw W2 w5):=HB4.o.trans (B5.mono HB4.o.size);clear B5 HD4 HB4 x0 x1 x2 x3 x4 x5 x6;by_cases hiz:i=0
 ·subst hiz;obtain⟨y0,y1,y2,y3,y4,y5,y6⟩:=AtC.sev ((HC.o w5 HB5.o).2.2.1);obtain⟨r0,r1,r2,r3,r4,r5,r6⟩:=AtC.sev ((HC.o w5 HB5.o).2.1);obtain⟨v0,v1,v2,v3,v4,v5,v6⟩:=(HC.o w5 HB5.o).2.1.f7;have HFF:=hJ (HC.o w5 HB5.o);go_wp2;refine bY (v:=.tuple #[.agg (M7 m s1 t1 s2 t2 s3 t3 s4 t4 s5 t5 s6 t6),nI 1]) sR7 rfl ⟨⟨_,_,_,_,_,_,m,_,rfl,(HFF.o.2.2.2.1.of_heap fun k hk _=>zaa _ _ _ _ _ _ _ _ _ k oF).mono (fun k hk=>by have:w.1.size+1+1<=k/\k<b2:=hk;omega),HM.o⟩,zab HFF.o.2.2.2.2.1 oM _ _ _ _ _ _ _⟩
 have hib:(i==0)=false:=beq_eq_false_iff_ne.mpr hiz;obtain⟨j,rfl⟩:∃j:Nat,i=(j:Int)+1:=⟨(i-1).toNat,oM⟩
 have hj8:j<8:=oM
 have hj:j<m.3.length:=by rw[HM.o.i];exact hj8
 have hwj:IntKind.i64.wrap (j:Int)=(j:Int):=wrap_small _ oM oM;have j0:(0:Int)<=(j:Int):=oM
 have j1:(j:Int)<(m.3.length:Int):=oM
 obtain⟨pa,pc,i0,i1,i2,ri⟩:=HIN.o w5 j hj (HC.o w5 HB5.o).2.2.2.2.1;have hix:=HM.o.ii _ (gM_ hj);obtain⟨⟨kd,ln,ps⟩,hX⟩:∃X,m.is[j]=X:=⟨_,rfl⟩
 rw[hX]at i0 i1 i2 ri hix;simp only at i0 i1 i2 ri;have HIX:=hJ hix;have HXX:=hJ hX;have HRI:=hJ ri;have hkn:∃kn:Nat,k=(kn:Int)/\kn<2:=⟨k.toNat,oM,oM⟩
 obtain⟨kn,rfl,hkn2⟩:=hkn;have hpl:ps.length=2:=HIX.o.n;clear hix hX ri;obtain⟨x0,x1,x2,x3,x4,x5,x6⟩:=AtC.sev ((HC.o w5 HB5.o).1);by_cases hkd:kd=1
 rotate_left
 ·have hkb:(kd != 1)=true:=by simp[hkd]
  obtain⟨y0,y1,y2,y3,y4,y5,y6⟩:=AtC.sev ((HC.o w5 HB5.o).2.2.1);obtain⟨r0,r1,r2,r3,r4,r5,r6⟩:=AtC.sev ((HC.o w5 HB5.o).2.1);obtain⟨v0,v1,v2,v3,v4,v5,v6⟩:=(HC.o w5 HB5.o).2.1.f7;have HFF:=hJ (HC.o w5 HB5.o);go_wp2;refine bY (v:=.tuple #[.agg (M7 m s1 t1 s2 t2 s3 t3 s4 t4 s5 t5 s6 t6),nI 3]) sR7 rfl ⟨⟨_,_,_,_,_,_,m,_,rfl,(HFF.o.2.2.2.1.of_heap fun k hk _=>zaa _ _ _ _ _ _ _ _ _ k oF).mono (fun k hk=>by have:w.1.size+1+1<=k/\k<b2:=hk;omega),HM.o⟩,zab HFF.o.2.2.2.2.1 oM _ _ _ _ _ _ _⟩
 subst hkd;have HM5:Hid (R7 w5 m a1 c1 a2 c2 (aA g2 o2) c3 a4 c4 a5 c5 a6 c6):=HH.o.below (HC.o w5 HB5.o).2.2.2.2.1 nR;go_wp2_with fail
 refine(zax _ _ _ _ _ _ m w5 HM5.o HM.o.big).mono ?_;rintro e w6 ⟨u1,u2,u3,u4,u5,u6,rfl,O6,B6⟩;obtain⟨n1,o1,n2,o2',n3,o3,n4,o4,n5,o5,n6,o6,rfl,rfl,rfl,rfl,rfl,rfl⟩:=O6.mr.form;obtain⟨W7,hW7⟩:∃W7,w6.alloc (.cells (M7 m n1 o1 n2 o2' n3 o3 n4 o4 n5 o5 n6 o6) 33)=W7:=⟨_,rfl⟩
 obtain⟨bo,hbo⟩:∃bo,w6.1.size=bo:=⟨_,rfl⟩
 have HP7:Hid (P7 W7 (fun k=>w5.1.size<=k/\k<bo) bo m n1 o1 n2 o2' n3 o3 n4 o4 n5 o5 n6 o6/\Bw w5 W7/\w5.1.size<=bo/\bo<W7.1.size):=by
  rw[←hW7];have z6:=B6.size;refine⟨⟨?_,(O6.bound.below ((bF _ w6).alloc nR _) nR).mono (fun k hk=>by have:w5.1.size<=k/\k<w6.1.size:=hk;omega),oM⟩,B6.alloc z6 _,oM,sO⟩;rw[←hbo];exact AtC.new w6 33 _
 have HB7:Hid (Bw W2 W7):=HB5.o.trans (HP7.o.2.1.mono HB5.o.size);have b7:=HP7.o.2.1;have g2l:g2<w5.1.size:=znk i2;have y2:W7.cell? ⟨g2,o2+j*3+2,none⟩=some (.slice pa ps.length pc):=(b7.cell (p:=⟨g2,o2+j*3+2,none⟩) g2l).trans i2;obtain⟨pa',pc',ep,hpp⟩:=HRI.o.below b7 nR;simp only[vJ,true_and]at ep;obtain⟨rfl,rfl⟩:=ep;obtain⟨gp,op,rfl,-,kp⟩:=hpp kn oM;have hpr:=HIX.o.p _ (gM_ (show kn<ps.length by omega));obtain⟨bp,hbp⟩:∃bp,ps[kn]'oM=bp:=⟨_,rfl⟩
 rw[hbp]at kp hpr;have HBP:=hJ hbp;have kn0:(0:Int)<=(kn:Int):=oM
 have kn1:(kn:Int)<(ps.length:Int):=oM
 clear O6 B6 b7 hpp hbp i0 i1 i2 x0 x1 x2 x3 x4 x5 x6 HM5;obtain⟨x0,x1,x2,x3,x4,x5,x6⟩:=AtC.sev ((HC.o W7 HB7.o).1);go_upto_if 74 with fail
 go_cut [15]from 16 to 110 (fun c wx=>∃(pn:Nat)(S:Nat->Prop)(u v iv bv dv pv:Va)(m':MD),c=.int .i64 ((pn:Int)+1)/\pn<16/\PM wx S bo u v iv bv dv pv m'/\(∀k,S k->w5.1.size<=k)/\Sh Z0 m'/\Bw w5 wx)
 case first =>
  by_cases hb0:bp=0
  rotate_left
  ·obtain⟨pn,rfl⟩:∃pn:Nat,bp=(pn:Int)+1:=⟨(bp-1).toNat,oM⟩
   have hbb:(((pn:Int)+1)==0)=false:=beq_eq_false_iff_ne.mpr oM;go_wp2_with fail
   go_meet
   exact⟨pn,_,_,_,_,_,_,_,m,rfl,oM,HP7.o.1,fun k hk=>hk.1,HM.o,HP7.o.2.1⟩
  subst hb0;have HM7:Hid (R7 W7 m a1 c1 a2 c2 (aA g2 o2) c3 a4 c4 a5 c5 a6 c6):=HH.o.below (HC.o W7 HB7.o).2.2.2.2.1 nR;by_cases hf:ff m.xs=0
  ·have CT:Hid (Calls Tryz.prog 201 #[.agg (M7 m a1 c1 a2 c2 (aA g2 o2) c3 a4 c4 a5 c5 a6 c6)] W7 fun e w'=>∃(z1:OA)(l1 y1:Nat)(z2:OA)(l2 y2:Nat)(z3:OA)(l3 y3:Nat)(z4:OA)(l4 y4:Nat)(z5:OA)(l5 y5:Nat)(z6:OA)(l6 y6:Nat),e=.returned (.tuple #[.agg #[.slice z1 l1 y1,.slice z2 l2 y2,.slice z3 l3 y3,.slice z4 l4 y4,.slice z5 l5 y5,.slice z6 l6 y6,nI m.nx],nI 0])/\Bw W7 w'):=by
    refine(zc9 _ _ _ _ _ _ m W7 HM7.o HM.o.big).mono ?_;rintro e w' ⟨v1,v2,v3,v4,v5,v6,rfl,O8,B8⟩;obtain⟨z1,y1,z2,y2,z3,y3,z4,y4,z5,y5,z6,y6,rfl,rfl,rfl,rfl,rfl,rfl⟩:=O8.mr.form;rw[hf];exact⟨z1,_,y1,z2,_,y2,z3,_,y3,z4,_,y4,z5,_,y5,z6,_,y6,rfl,B8⟩
   exact cQ10
  ·obtain⟨p1,p2⟩:=zia m.xs hf;obtain⟨qn,hqn⟩:∃qn:Nat,ff m.xs=qn+1:=⟨ff m.xs-1,oM⟩
   have hq16:qn<16:=by have:=HM.o.x;omega
   have hz:((ff m.xs:Nat):Int)=(qn:Int)+1:=oM
   have CT:Hid (Calls Tryz.prog 201 #[.agg (M7 m a1 c1 a2 c2 (aA g2 o2) c3 a4 c4 a5 c5 a6 c6)] W7 fun e w'=>∃(z1:OA)(y1:Nat)(z2:OA)(y2:Nat)(z3:OA)(y3:Nat)(z4:OA)(y4:Nat)(z5:OA)(y5:Nat)(z6:OA)(y6:Nat),e=.returned (.tuple #[.agg (M7 m z1 y1 z2 y2 z3 y3 z4 y4 z5 y5 z6 y6),nI ((qn:Int)+1)])/\MO w' (fun k=>W7.1.size<=k) (.slice z1 m.1.length y1) (.slice z2 m.2.length y2) (.slice z3 m.3.length y3) (.slice z4 m.4.length y4) (.slice z5 m.5.length y5) (.slice z6 m.6.length y6) ({ m with xs:=m.xs.set (ff m.xs-1) true,fs:=m.fs.set 0 true }:MD)/\Bw W7 w'):=by
    refine(zc9 _ _ _ _ _ _ m W7 HM7.o HM.o.big).mono ?_;rintro e w' ⟨v1,v2,v3,v4,v5,v6,rfl,O8,B8⟩;rw[zib hf]at O8;obtain⟨z1,y1,z2,y2,z3,y3,z4,y4,z5,y5,z6,y6,e1,rfl,rfl,rfl,e5,rfl⟩:=O8.mr.form;have e1':v1=.slice z1 m.1.length y1:=e1.trans (by rw[show({ m with xs:=m.xs.set (ff m.xs-1) true,fs:=m.fs.set 0 true }:MD).xs.length=m.1.length from lS ..]);have e5':v5=.slice z5 m.5.length y5:=e5.trans (by rw[show({ m with xs:=m.xs.set (ff m.xs-1) true,fs:=m.fs.set 0 true }:MD).fs.length=m.5.length from lS ..]);clear e1 e5;subst e1' e5';rw[hz];exact⟨z1,y1,z2,y2,z3,y3,z4,y4,z5,y5,z6,y6,rfl,O8,B8⟩
   have HSH:Hid (Sh Z0 { m with xs:=m.xs.set (ff m.xs-1) true,fs:=m.fs.set 0 true,is:=m.is.set j (m.is[j].1,m.is[j].2.1,m.is[j].2.2.set kn ((qn:Int)+1)) }):=by
    rw[←hz];have e0:=HXX.o;exact znj HM.o hf j kn hj (by simp only[e0];omega) (by simp only[e0];exact HBP.o) (by simp only[e0];decide)
   go_wp2_with fail
   refine CT.out.mono ?_;rintro e w8 ⟨z1,y1,z2,y2',z3,y3,z4,y4,z5,y5,z6,y6,rfl,O8,B8⟩;obtain⟨W9,hW9⟩:∃W9,w8.alloc (.cells (M7 m z1 y1 z2 y2' z3 y3 z4 y4 z5 y5 z6 y6) 33)=W9:=⟨_,rfl⟩
   obtain⟨bn,hbn⟩:∃bn,w8.1.size=bn:=⟨_,rfl⟩
   have HP9:Hid (PM W9 (fun k=>W7.1.size<=k/\k<bn) bn (.slice z1 m.1.length y1) (.slice z2 m.2.length y2') (.slice z3 m.3.length y3) (.slice z4 m.4.length y4) (.slice z5 m.5.length y5) (.slice z6 m.6.length y6) ({ m with xs:=m.xs.set (ff m.xs-1) true,fs:=m.fs.set 0 true }:MD)/\Bw W7 W9/\W7.1.size<=bn):=by
    rw[←hW9];have z8:=B8.size;refine⟨⟨?_,(O8.bound.below ((bF _ w8).alloc nR _) nR).mono (fun k hk=>by have:W7.1.size<=k/\k<w8.1.size:=hk;omega),oM⟩,B8.alloc z8 _,oM⟩;rw[←hbn];exact AtC.new w8 33 _
   have HB9:Hid (Bw W2 W9):=HB7.o.trans (HP9.o.2.1.mono HB7.o.size);have HPO:Hid (P7 W9 (fun k=>w5.1.size<=k/\k<bo) bo m n1 o1 n2 o2' n3 o3 n4 o4 n5 o5 n6 o6):=HP7.o.1.below HP9.o.2.1;have hqb:(((qn:Int)+1)==0)=false:=beq_eq_false_iff_ne.mpr oM;clear O8 B8 CT p1 p2;go_wp2_with fail
   refine(zd0 _ bo _ _ _ _ _ _ m W9 HPO.o).mono ?_;rintro e w9' ⟨⟨rr,rfl⟩,hw9⟩;rw[hw9];clear hw9 w9' hW9 hbn
   cases rr with
   | false =>
    exact cQ20
   | true =>
   have hbW:bo<W7.1.size:=HP7.o.2.2.2;obtain⟨gi,ci,gs,cs,ei,k0,k2,kt,kf,kS,kl,hput⟩:=HP9.o.1.ptrAt j hj kn (by have e0:=HXX.o;simp only[e0];omega);simp only[vJ,true_and]at ei;obtain⟨rfl,rfl⟩:=ei;have hps:m.is[j].2.2.length=ps.length:=by have e0:=HXX.o;simp only[e0]
   have k2':W9.cell? ⟨gi,j*3+2,none⟩=some (.slice (aA gs 0) ps.length cs):=by rw[←hps];exact k2
   obtain⟨zv,kt'⟩:∃zv,W9.cell? ⟨gs,kn,none⟩=some zv:=⟨_,kt⟩
   have xn2:=HP9.o.1.box.c2;obtain⟨W10,hW10⟩:∃W10,W9.setCell ⟨gs,kn,none⟩ (nI ((qn:Int)+1))=W10:=⟨_,rfl⟩
   have HBX:Hid (BT Z0 W10 (fun k=>W7.1.size<=k) bn/\Bw W7 W10/\AtC W10 bo 33 (M7 m n1 o1 n2 o2' n3 o3 n4 o4 n5 o5 n6 o6)):=by
    rw[←hW10];have hgs:W7.1.size<=gs:=kS.1;refine⟨⟨_,_,_,_,_,_,_,_,hput _,fun k hk=>hk.1,HP9.o.2.2,HSH.o⟩,HP9.o.2.1.setCell (p:=⟨gs,kn,none⟩) hgs _,HPO.o.box.other oM _⟩
   obtain⟨U,hU⟩:∃U,uoI ((j:Int)+1)=U:=⟨_,rfl⟩
   have CU:Hid (∀W,Calls Tryz.prog 198 #[nI ((j:Int)+1)] W fun e w'=>e=.returned (nI U)/\w'=W):=fun W=>by rw[←hU];exact zbp _ W
   clear hU hput k0 k2 kt hps HSH;go_wp2_with fail
   refine(CU.out _).mono ?_;rintro e w9' ⟨rfl,hw9⟩;rw[hw9];clear hw9 w9' hW10 k2' kt' xn2 kf;go_wp2_with fail
   refine(zdx _ bn U W10 HBX.o.1).mono ?_;rintro e w11 ⟨rfl,b11,c11⟩;have HB11:Hid (Bw W7 w11/\AtC w11 bo 33 (M7 m n1 o1 n2 o2' n3 o3 n4 o4 n5 o5 n6 o6)):=⟨HBX.o.2.1.trans (c11.below HBX.o.2.1.size (fun k hk=>hk)),(c11.block bo HBX.o.2.2.lt oM).trans HBX.o.2.2⟩
   obtain⟨SB,u,v,iv,bv,dv,pv,mb,PB,hSB,hTB,hmB⟩:=b11;obtain⟨h1,k1,h2,k2,h3,k3,h4,k4,h5,k5,h6,k6,rfl,rfl,rfl,rfl,rfl,rfl⟩:=PB.form;obtain⟨t0,t1,t2,t3,t4,t5,t6⟩:=AtC.sev PB.box;have HPB:=hJ (aI PB hmB);have HDO:Hid (DOkN ⟨mb.nx,1,(j:Int)+1,(kn:Int),(qn:Int)+1,0,⟨#[]⟩,false,false,0,[]⟩):=⟨⟨by show 1<=(j:Int)+1;omega,by show(j:Int)+1<=8;omega⟩,⟨by show(0:Int)<=kn;omega,by show(kn:Int)<=1;omega⟩,⟨by show(0:Int)<=(qn:Int)+1;omega,by show(qn:Int)+1<=16;omega⟩,sI,fun p hp=>by simp at hp,sI,by show(0:Nat)<=6;omega⟩
   clear PB hSB hTB hmB c11 HBX CU;go_wp2_with fail
   refine(zfc 0 1 ((j:Int)+1) kn ((qn:Int)+1) 0 ⟨#[]⟩ false false 0 [] _ _ _ _ _ _ _ mb w11 HPB.o.1.mr HPB.o.2 ⟨none,0,rfl,fun j hj=>by simp at hj⟩ HDO.o (fun e=>absurd e dC)).mono ?_;rintro e wn ⟨u1,u2,u3,u4,u5,u6,mn,rr,rfl,On,hSn,-,-,Bn⟩;obtain⟨q1,r1,q2,r2,q3,r3,q4,r4,q5,r5,q6,r6,rfl,rfl,rfl,rfl,rfl,rfl⟩:=On.mr.form;have AO:AtC wn bo 33 (M7 m n1 o1 n2 o2' n3 o3 n4 o4 n5 o5 n6 o6):=HB11.o.2.over Bn;obtain⟨s0,s1,s2,s3,s4,s5,s6⟩:=AtC.sev AO;obtain⟨f0,f1,f2,f3,f4,f5,f6⟩:=AO.f7;have HFN:Hid (PM (wn.s0 bo mn q1 r1 q2 r2 q3 r3 q4 r4 q5 r5 q6 r6) (fun k=>w11.1.size<=k) bo (.slice q1 mn.1.length r1) (.slice q2 mn.2.length r2) (.slice q3 mn.3.length r3) (.slice q4 mn.4.length r4) (.slice q5 mn.5.length r5) (.slice q6 mn.6.length r6) mn/\Sh Z0 mn/\Bw w5 (wn.s0 bo mn q1 r1 q2 r2 q3 r3 q4 r4 q5 r5 q6 r6)/\w5.1.size<=w11.1.size):=by
    have b7:=HP7.o.2.1;have z11:=HB11.o.1.size;have bnn:Bw w5 wn:=(b7.trans (HB11.o.1.mono b7.size)).trans (Bn.mono (by have:=b7.size;omega));exact⟨PM.store AO On (by have:=HB11.o.1.size;omega),hSn,zab bnn HP7.o.2.2.1 _ _ _ _ _ _ _,by have:=b7.size;omega⟩
   clear AO On hSn Bn HPB HDO HB11;go_wp2_with fail
   go_meet
   exact⟨qn,_,_,_,_,_,_,_,mn,rfl,hq16,HFN.o.1,fun k hk=>lT HFN.o.2.2.2 hk,HFN.o.2.1,HFN.o.2.2.1⟩
 case rest =>
  obtain⟨pn,S8,u,v,iv,bv,dv,pv,mo,rfl,hpn,P8,hS8,hm8,B8⟩:=hcut
  replace P8:=P8.bound
  obtain⟨f1,e1,f2,e2,f3,e3,f4,e4,f5,e5,f6,e6,rfl,rfl,rfl,rfl,rfl,rfl⟩:=P8.form;have hbj:pn<mo.4.length:=by rw[hm8.b];exact hpn
  obtain⟨gb,cb,pblk,eb,q0,q1,q2,-,hfz,hgl,gS⟩:=P8.blkAt pn hbj;simp only[vJ,true_and]at eb;obtain⟨rfl,rfl⟩:=eb;have hpb:=P8.putB rfl pn hbj (.bool false,.slice none 0 0,.string s) (false,[],s) ⟨rfl,SOwns.nil _ _ _,rfl⟩ (fun k hk=>by simp[Value.ownBlock]at hk);have hS5:∀k,(S8 k/\k<wc.1.size)->w5.1.size<=k:=fun k hk=>hS8 k hk.1;have hbo5:w5.1.size<=bo:=HP7.o.2.2.1;obtain⟨W9,hW9⟩:∃W9,((wc.setCell ⟨gb,pn*3,none⟩ (.bool false)).setCell ⟨gb,pn*3+1,none⟩ (.slice none 0 0)).setCell ⟨gb,pn*3+2,none⟩ (.string s)=W9:=⟨_,rfl⟩
  have HB9:Hid (BT Z0 W9 (fun k=>w5.1.size<=k) bo/\Bw w5 W9):=by
   rw[←hW9];have g5:=hS5 gb gS;refine⟨⟨_,_,_,_,_,_,_,_,hpb.1,fun k hk=>hk.elim (hS5 k) (fun e=>by simp[Value.ownBlock]at e),hbo5,hm8.block pn ⟨⟨fun e=>by simp at e,sI,fun s hs=>by simp at hs,by show s.size<=16;omega⟩,fun _=>rfl,fun e=>by simp at e,fun s hs=>by simp at hs,Unl.nil⟩⟩,((B8.setCell (p:=⟨gb,pn*3,none⟩) g5 _).setCell (p:=⟨gb,pn*3+1,none⟩) g5 _).setCell (p:=⟨gb,pn*3+2,none⟩) g5 _⟩
  have x3:=P8.box.c3;have z0:=hfz (pn*3);have z1:=hfz (pn*3+1);have z2:=hfz (pn*3+2);have hwp:IntKind.i64.wrap (pn:Int)=(pn:Int):=wrap_small _ oM oM;have pn0:(0:Int)<=(pn:Int):=oM
  have pn1:(pn:Int)<(mo.4.length:Int):=oM
  obtain⟨U,hU⟩:∃U,uoB ((pn:Int)+1)=U:=⟨_,rfl⟩
  have CU:Hid (∀W,Calls Tryz.prog 203 #[nI ((pn:Int)+1)] W fun e w'=>e=.returned (nI U)/\w'=W):=fun W=>by rw[←hU];exact zbl _ W
  clear hU hpb hfz P8;go_wp2_with fail
  refine(CU.out _).mono ?_;rintro e w9' ⟨rfl,hw9⟩;rw[hw9];clear hw9 w9' q0 q1 q2 x3 z0 z1 z2 hW9;go_wp2_with fail
  refine(zdx _ bo U W9 HB9.o.1).mono ?_;rintro e w10 ⟨rfl,b10,c10⟩;have HBA:Hid (Bw w5 w10):=HB9.o.2.trans (c10.below HB9.o.2.size (fun k hk=>hk));obtain⟨SA,u,v,iv,bv,dv,pv,ma,PA,hSA,hTA,hmA⟩:=b10;obtain⟨h1,k1,h2,k2,h3,k3,h4,k4,h5,k5,h6,k6,rfl,rfl,rfl,rfl,rfl,rfl⟩:=PA.form;have HBF:Hid (Bw W2 w10):=HB5.o.trans (HBA.o.mono HB5.o.size);obtain⟨y0,y1,y2,y3,y4,y5,y6⟩:=AtC.sev PA.box;obtain⟨r0,r1,r2,r3,r4,r5,r6⟩:=AtC.sev ((HC.o w10 HBF.o).2.1);obtain⟨v0,v1,v2,v3,v4,v5,v6⟩:=(HC.o w10 HBF.o).2.1.f7;have HF:=hJ (aI PA.own (aI hSA hmA));have HZ5:Hid (w.1.size+1+1<=w5.1.size):=by have:=(HC.o w5 HB5.o).2.2.2.2.2;show _<=_;omega
  clear PA hSA hTA hmA c10 HB9 CU;go_wp2;refine bY (v:=.tuple #[.agg (M7 ma h1 k1 h2 k2 h3 k3 h4 k4 h5 k5 h6 k6),nI 0]) sR7 rfl ⟨⟨_,_,_,_,_,_,ma,_,rfl,(HF.o.1.of_heap fun k hk _=>zaa _ _ _ _ _ _ _ _ _ k (by have:=HF.o.2.1 k hk;have:=HZ5.o;omega)).mono (fun k hk=>by have:=HF.o.2.1 k hk;have:=HZ5.o;omega),HF.o.2.2⟩,zab (HC.o w10 HBF.o).2.2.2.2.1 oM _ _ _ _ _ _ _⟩
end Go.Proofs.YtgnplpmgkegcnaaGreat
