/- Texts of the proof, bundled. -/
import Derived.BigQuiet
import Derived.Deep.DeepCutAuto
import Derived.Deep.CutRange
import Derived.BigRegion
import Derived.Deep.RegionWith
import Derived.Deep.RegionHeld3
import Derived.Deep.QuietTactic
import Derived.Test.YtgnplpmgkegcnaaGreatV01
import Derived.Test.YtgnplpmgkegcnaaGreatV04
import Derived.Test.YtgnplpmgkegcnaaGreatV02
import Derived.Test.YtgnplpmgkegcnaaGreatV03
set_option maxRecDepth 100000
set_option maxHeartbeats 12800000
namespace Go.Proofs.YtgnplpmgkegcnaaGreat
open Go.RowKit Kit
theorem markU_xs(u:Int)(m:MD):(markU u m).xs=m.xs:=by unfold markU;split<;>rfl
theorem move_any(u v iv bv dv pv:Value)(m:MD)(p q:ByteArray)(w:World)(h:MR w u v iv bv dv pv m)(hm:Sh Z0 m)(hp:p.size<=1048576)(hq:q.size<=1048576):
  Calls Tryz.prog 171 #[.agg #[u,v,iv,bv,dv,pv,.int .i64 m.nx],.string p,.string q] w fun e w'=>CallR w.1.size w' e/\Below w.1.size w w':=by
 obtain⟨a1,c1,a2,c2,a3,c3,a4,c4,a5,c5,a6,c6,rfl,rfl,rfl,rfl,rfl,rfl⟩:=h.form;obtain⟨qa,qc,qe,-,qh⟩:=h.d.i;simp only[Value.slice.injEq,true_and]at qe;obtain⟨rfl,rfl⟩:=qe;obtain⟨g2,o2,⟨q0,q1,q2⟩,rfl,-⟩:=qh 0 (by rw[hm.i];decide);have HIN:Hid (∀(W:World)(j:Nat)(hj:j<m.3.length),Below w.1.size w W->∃ta tc,W.cell? ⟨g2,o2+j*3,none⟩=some (.int .i64 m.is[j].1)/\W.cell? ⟨g2,o2+j*3+1,none⟩=some (.int .i64 m.is[j].2.1)/\W.cell? ⟨g2,o2+j*3+2,none⟩=some (.slice ta m.is[j].2.2.length tc)/\RInts W (.slice ta m.is[j].2.2.length tc) m.is[j].2.2):=fun W j hj hb=>by
  exact cQ15
 clear qh q0 q1 q2;obtain⟨W0,hW0⟩:∃W0,((w.alloc (.cells (M7 m a1 c1 a2 c2 (some ⟨g2,o2,none⟩) c3 a4 c4 a5 c5 a6 c6) 33)).alloc (.cells E7 33))=W0:=⟨_,rfl⟩
 have HB0:Hid (Below w.1.size w W0/\W0.1.size=w.1.size+1+1/\AtC W0 w.1.size 33 (M7 m a1 c1 a2 c2 (some ⟨g2,o2,none⟩) c3 a4 c4 a5 c5 a6 c6)/\AtC W0 (w.1.size+1) 33 E7):=by
  exact cQ12
 have HH:=hide h;have HM:=hide hm;obtain⟨x0,x1,x2,x3,x4,x5,x6⟩:=AtC.sev HB0.o.2.2.1;have HM0:Hid (R7 W0 m a1 c1 a2 c2 (some ⟨g2,o2,none⟩) c3 a4 c4 a5 c5 a6 c6):=HH.o.below HB0.o.1 nR;clear h hm;go_enter Tryz.func171,Tryz.ntmps171
 go_wp2_with fail
 refine(zax _ _ _ _ _ _ m W0 HM0.o HM.o.big).mono ?_;rintro e w1 ⟨u1,u2,u3,u4,u5,u6,rfl,O1,B1⟩;obtain⟨s1,t1,s2,t2,s3,t3,s4,t4,s5,t5,s6,t6,rfl,rfl,rfl,rfl,rfl,rfl⟩:=O1.mr.form;obtain⟨W2,hW2⟩:∃W2,w1.alloc (.cells (M7 m s1 t1 s2 t2 s3 t3 s4 t4 s5 t5 s6 t6) 33)=W2:=⟨_,rfl⟩
 obtain⟨b2,hb2⟩:∃b2,w1.1.size=b2:=⟨_,rfl⟩
 have HC:Hid (∀W,Below W2.1.size W2 W->AtC W w.1.size 33 (M7 m a1 c1 a2 c2 (some ⟨g2,o2,none⟩) c3 a4 c4 a5 c5 a6 c6)/\AtC W (w.1.size+1) 33 E7/\AtC W b2 33 (M7 m s1 t1 s2 t2 s3 t3 s4 t4 s5 t5 s6 t6)/\N7 W (fun k=>w.1.size+1+1<=k/\k<b2) m s1 t1 s2 t2 s3 t3 s4 t4 s5 t5 s6 t6/\Below w.1.size w W/\w.1.size+1+1<=b2/\b2<W.1.size):=fun W b=>by
  exact cQ11
 have HB2:Hid (Below W2.1.size W2 W2):=Below.refl _ _;clear O1 B1 HM0 x0 x1 x2 x3 x4 x5 x6 hW0 HB0;go_wp2_with fail
 refine(zdc p W2 hp).mono ?_;rintro e w3 ⟨⟨dn,on,q1,rfl,hdn,hon,-⟩,B3⟩;have HB3:Hid (Below W2.1.size W2 w3):=B3;clear B3 hW2 hb2;have hdn2:dn.size<=1048576:=by omega
 go_wp2_with fail
 refine(zdc q w3 hq).mono ?_;rintro e w4 ⟨⟨tn,nm,q2,rfl,htn,hnm,hsp⟩,B4⟩;have HSP:=hide hsp;clear hsp;have HB4:Hid (Below W2.1.size W2 w4):=HB3.o.trans (B4.mono HB3.o.size);clear B4 HB3;have htn2:tn.size<=1048576:=by omega
 obtain⟨x0,x1,x2,x3,x4,x5,x6⟩:=AtC.sev ((HC.o w4 HB4.o).1);have HM4:Hid (R7 w4 m a1 c1 a2 c2 (some ⟨g2,o2,none⟩) c3 a4 c4 a5 c5 a6 c6):=HH.o.below (HC.o w4 HB4.o).2.2.2.2.1 nR;go_wp2_with fail
 refine(zb4 _ _ _ _ _ _ m w4 HM4.o HM.o).mono ?_;rintro e w5 ⟨⟨q3,rfl⟩,B5⟩;have HB5:Hid (Below W2.1.size W2 w5):=HB4.o.trans (B5.mono HB4.o.size);clear B5 HM4 HB4 x0 x1 x2 x3 x4 x5 x6
 cases q3 with
 | false =>
  exact cQ2
 | true =>
 cases q1 with
 | false =>
  exact cQ2
 | true =>
 cases q2 with
 | false =>
  exact cQ2
 | true =>
 have HXW:Hid (∀W,Below w5.1.size w5 W->(W.cell? ⟨w.1.size,0,none⟩=some (.slice a1 m.1.length c1)/\W.cell? ⟨w.1.size,1,none⟩=some (.slice a2 m.2.length c2)/\W.cell? ⟨w.1.size,2,none⟩=some (.slice (some ⟨g2,o2,none⟩) m.3.length c3)/\W.cell? ⟨w.1.size,3,none⟩=some (.slice a4 m.4.length c4))/\DR W (.slice a1 m.1.length c1) (.slice a2 m.2.length c2) (.slice (some ⟨g2,o2,none⟩) m.3.length c3) (.slice a4 m.4.length c4) m.xs m.ys m.is m.bs/\Below W2.1.size W2 W):=fun W b=>by
  have b2:=HB5.o.trans (b.mono HB5.o.size);have k:=HC.o W b2;exact⟨⟨k.1.cell 0,k.1.cell 1,k.1.cell 2,k.1.cell 3⟩,(HH.o.below k.2.2.2.2.1 nR).d,b2⟩
 obtain⟨x0,x1,x2,x3,x4,x5,x6⟩:=AtC.sev ((HC.o w5 HB5.o).1);go_upto_region 6 with fail
 go_cut [15,16,17]from 21 to 58 (fun c1 c2 c3 wx=>(∃B s k:Int,c1=.int .i64 B/\c2=.int .i64 s/\c3=.int .i64 k/\FindP m.is m.bs on B s k)/\Below W2.1.size W2 wx)
 case first =>
  clear x4 x5 x6
  go_region_with (first| (go_at_call 193;refine(zcm _ _ _ _ m.xs m.ys m.is m.bs dn _ (HXW.o _ (zac bR)).2.1 HM.o.big.d HM.o.i hdn2).mono ?_;rintro e w7 ⟨⟨i5,rfl,-,-⟩,B7⟩;have HB7:=hide (zac B7);obtain⟨⟨n0,n1,n2,n3⟩,-,-⟩:=HXW.o w7 (zac B7);clear B7)| (go_at_call 204;refine(zic i5 on _ _ _ _ m.xs m.ys m.is m.bs _ (HXW.o _ HB7.o).2.1 HM.o.big.d).mono ?_;rintro e w8 ⟨B,s,k,rfl,FP,B8⟩;have HF6:=hide (And.intro FP (HB7.o.trans (B8.mono HB7.o.size)));clear FP B8))
  all_goals (go_wp2_with fail;go_meet;exact⟨⟨_,_,_,rfl,rfl,rfl,HF6.o.1⟩,(HXW.o _ HF6.o.2).2.2⟩)
 case rest =>
  obtain⟨⟨B,s,i,rfl,rfl,rfl,hFP⟩,hb6⟩:=hcut;obtain⟨w6,hw6⟩:∃w6,w6=wc:=⟨_,rfl⟩
  subst hw6;have HB6:=hide hb6;have HFP:=hide hFP;clear hb6 hFP HXW HB5 x0 x1 x2 x3 x4 x5 x6;obtain⟨x0,x1,x2,x3,x4,x5,x6⟩:=AtC.sev ((HC.o w6 HB6.o).1);have HD6:Hid (DR w6 (.slice a1 m.1.length c1) (.slice a2 m.2.length c2) (.slice (some ⟨g2,o2,none⟩) m.3.length c3) (.slice a4 m.4.length c4) m.xs m.ys m.is m.bs):=(HH.o.below (HC.o w6 HB6.o).2.2.2.2.1 nR).d;go_wp2_with fail
  refine(zcm _ _ _ _ m.xs m.ys m.is m.bs tn w6 HD6.o HM.o.big.d HM.o.i htn2).mono ?_;rintro e w7 ⟨⟨ia,rfl,ha0,ha8,hw2⟩,B7⟩;have HSQ:=hide (HSP.o trivial);have HW2:=hide hw2;clear hw2 HSP;have HB7:Hid (Below W2.1.size W2 w7):=HB6.o.trans (B7.mono HB6.o.size);clear B7 HD6 HB6 x0 x1 x2 x3 x4 x5 x6;by_cases hiz:i=0
  ·subst hiz;obtain⟨y0,y1,y2,y3,y4,y5,y6⟩:=AtC.sev ((HC.o w7 HB7.o).2.2.1);obtain⟨r0,r1,r2,r3,r4,r5,r6⟩:=AtC.sev ((HC.o w7 HB7.o).2.1);have v0:=(HC.o w7 HB7.o).2.1.frozen 0;have v1:=(HC.o w7 HB7.o).2.1.frozen 1;have v2:=(HC.o w7 HB7.o).2.1.frozen 2;have v3:=(HC.o w7 HB7.o).2.1.frozen 3;have v4:=(HC.o w7 HB7.o).2.1.frozen 4;have v5:=(HC.o w7 HB7.o).2.1.frozen 5;have v6:=(HC.o w7 HB7.o).2.1.frozen 6;have HFF:=hide (HC.o w7 HB7.o);go_wp2;refine bodyPost_ret (v:=.tuple #[.agg (M7 m s1 t1 s2 t2 s3 t3 s4 t4 s5 t5 s6 t6),.int .i64 1]) sR7 rfl ⟨⟨_,_,_,_,_,_,m,_,rfl,(HFF.o.2.2.2.1.of_heap fun k hk _=>zaa _ _ _ _ _ _ _ _ _ k oF).mono (fun k hk=>by have:w.1.size+1+1<=k/\k<b2:=hk;omega),HM.o⟩,zab HFF.o.2.2.2.2.1 oM _ _ _ _ _ _ _⟩
  have hib:(i==0)=false:=beq_eq_false_iff_ne.mpr hiz;by_cases haz:ia=0
  ·subst haz;obtain⟨y0,y1,y2,y3,y4,y5,y6⟩:=AtC.sev ((HC.o w7 HB7.o).2.2.1);obtain⟨r0,r1,r2,r3,r4,r5,r6⟩:=AtC.sev ((HC.o w7 HB7.o).2.1);have v0:=(HC.o w7 HB7.o).2.1.frozen 0;have v1:=(HC.o w7 HB7.o).2.1.frozen 1;have v2:=(HC.o w7 HB7.o).2.1.frozen 2;have v3:=(HC.o w7 HB7.o).2.1.frozen 3;have v4:=(HC.o w7 HB7.o).2.1.frozen 4;have v5:=(HC.o w7 HB7.o).2.1.frozen 5;have v6:=(HC.o w7 HB7.o).2.1.frozen 6;have HFF:=hide (HC.o w7 HB7.o);go_wp2;refine bodyPost_ret (v:=.tuple #[.agg (M7 m s1 t1 s2 t2 s3 t3 s4 t4 s5 t5 s6 t6),.int .i64 1]) sR7 rfl ⟨⟨_,_,_,_,_,_,m,_,rfl,(HFF.o.2.2.2.1.of_heap fun k hk _=>zaa _ _ _ _ _ _ _ _ _ k oF).mono (fun k hk=>by have:w.1.size+1+1<=k/\k<b2:=hk;omega),HM.o⟩,zab HFF.o.2.2.2.2.1 oM _ _ _ _ _ _ _⟩
  have hab:(ia==0)=false:=beq_eq_false_iff_ne.mpr haz;obtain⟨jb,tt,hjb,htt,rfl,rfl,hk,hi1,hi8,hj16,hbit⟩:=FindP.slot HM.o HFP.o hiz;have HSL:Hid (m.xs[jb]?=some true/\∃s:Sl,slotO m.bs jb tt=some s/\1<=s.2/\s.2<=8):=⟨hbit,_,zj2 hjb htt,by rw[hk];exact hi1,by rw[hk];exact hi8⟩
  obtain⟨j,rfl⟩:∃j:Nat,i=(j:Int)+1:=⟨(i-1).toNat,by omega⟩
  have hj8:j<8:=by omega
  have hj:j<m.3.length:=by rw[HM.o.i];exact hj8
  have hwj:IntKind.i64.wrap (j:Int)=(j:Int):=wrap_small _ oM oM;have j0:(0:Int)<=(j:Int):=by omega
  have j1:(j:Int)<(m.3.length:Int):=by omega
  obtain⟨ja,rfl⟩:∃ja:Nat,ia=(ja:Int)+1:=⟨(ia-1).toNat,by omega⟩
  have hja8:ja<8:=by omega
  have hja:ja<m.3.length:=by rw[HM.o.i];exact hja8
  have hwa:IntKind.i64.wrap (ja:Int)=(ja:Int):=wrap_small _ oM oM;have a0:(0:Int)<=(ja:Int):=by omega
  have a1':(ja:Int)<(m.3.length:Int):=by omega
  clear hk hbit hiz haz HFP hjb htt;obtain⟨kd,hkd⟩:∃kd,m.is[j].1=kd:=⟨_,rfl⟩
  obtain⟨ln,hln⟩:∃ln,m.is[j].2.1=ln:=⟨_,rfl⟩
  obtain⟨ka,hka⟩:∃ka,m.is[ja].1=ka:=⟨_,rfl⟩
  have HLN:=hide hln;have HIC:Hid (∀W,Below W2.1.size W2 W->W.cell? ⟨g2,o2+j*3,none⟩=some (.int .i64 kd)/\W.cell? ⟨g2,o2+j*3+1,none⟩=some (.int .i64 ln)/\W.cell? ⟨g2,o2+ja*3,none⟩=some (.int .i64 ka)):=fun W bb=>by
   have k:=(HC.o W bb).2.2.2.2.1;obtain⟨pa,pc,i0,i1,-,-⟩:=HIN.o W j hj k;obtain⟨pa',pc',i0',-,-,-⟩:=HIN.o W ja hja k;exact⟨by rw[←hkd];exact i0,by rw[←hln];exact i1,by rw[←hka];exact i0'⟩
  have HKA:=hide hka;have HKD:=hide hkd;clear hkd hln hka;obtain⟨i0,i1,i2⟩:=HIC.o w7 HB7.o;obtain⟨x0,x1,x2,x3,x4,x5,x6⟩:=AtC.sev ((HC.o w7 HB7.o).1);by_cases hkd:kd=1
  rotate_left
  ·have hkb:(kd != 1)=true:=by simp[hkd]
   exact cQ21
  subst hkd;by_cases hka:ka=2
  rotate_left
  ·have hkb:(ka != 2)=true:=by simp[hka]
   exact cQ21
  subst hka;have HD7:Hid (DR w7 (.slice a1 m.1.length c1) (.slice a2 m.2.length c2) (.slice (some ⟨g2,o2,none⟩) m.3.length c3) (.slice a4 m.4.length c4) m.xs m.ys m.is m.bs):=(HH.o.below (HC.o w7 HB7.o).2.2.2.2.1 nR).d;go_wp2_with fail
  refine(zcm _ _ _ _ m.xs m.ys m.is m.bs q w7 HD7.o HM.o.big.d HM.o.i hq).mono ?_;rintro e w8 ⟨⟨iq,rfl,-,-,hw1⟩,B8⟩;have HW1:=hide hw1;clear hw1;have HB8:Hid (Below W2.1.size W2 w8):=HB7.o.trans (B8.mono HB7.o.size);clear B8 HD7 HB7 x0 x1 x2 x3 x4 x5 x6 i0 i1 i2;by_cases hqz:iq=0
  rotate_left
  ·have hqb:(iq != 0)=true:=by simp[hqz]
   obtain⟨y0,y1,y2,y3,y4,y5,y6⟩:=AtC.sev ((HC.o w8 HB8.o).2.2.1);obtain⟨r0,r1,r2,r3,r4,r5,r6⟩:=AtC.sev ((HC.o w8 HB8.o).2.1);have v0:=(HC.o w8 HB8.o).2.1.frozen 0;have v1:=(HC.o w8 HB8.o).2.1.frozen 1;have v2:=(HC.o w8 HB8.o).2.1.frozen 2;have v3:=(HC.o w8 HB8.o).2.1.frozen 3;have v4:=(HC.o w8 HB8.o).2.1.frozen 4;have v5:=(HC.o w8 HB8.o).2.1.frozen 5;have v6:=(HC.o w8 HB8.o).2.1.frozen 6;have HFF:=hide (HC.o w8 HB8.o);go_wp2;refine bodyPost_ret (v:=.tuple #[.agg (M7 m s1 t1 s2 t2 s3 t3 s4 t4 s5 t5 s6 t6),.int .i64 2]) sR7 rfl ⟨⟨_,_,_,_,_,_,m,_,rfl,(HFF.o.2.2.2.1.of_heap fun k hk _=>zaa _ _ _ _ _ _ _ _ _ k oF).mono (fun k hk=>by have:w.1.size+1+1<=k/\k<b2:=hk;omega),HM.o⟩,zab HFF.o.2.2.2.2.1 oM _ _ _ _ _ _ _⟩
  subst hqz;have HAB:Hid (Abs ja nm m.is m.bs):=by
   obtain⟨-,l,q1,q2⟩:=HSQ.o;exact zfp HM.o (HW2.o l q2).symm (HW1.o _ q1).symm hja HKA.o
  clear HW1 HW2;obtain⟨x0,x1,x2,x3,x4,x5,x6⟩:=AtC.sev ((HC.o w8 HB8.o).1);have HM8:Hid (R7 w8 m a1 c1 a2 c2 (some ⟨g2,o2,none⟩) c3 a4 c4 a5 c5 a6 c6):=HH.o.below (HC.o w8 HB8.o).2.2.2.2.1 nR;go_upto_region 14 with fail
  go_cut [105]from 91 to 105 (fun c wx=>(∃r,c=.bool r)/\Below W2.1.size W2 wx)
  case first =>
   go_wp2_with fail
   refine(zij _ _ _ _ _ _ m ((ja:Int)+1) nm w8 HM8.o HM.o oM oM).mono ?_;rintro e w9 ⟨⟨r9,rfl⟩,B9⟩;have HB9:Hid (Below W2.1.size W2 w9):=HB8.o.trans (B9.mono HB8.o.size);clear B9 HM8 HB8 x0 x1 x2 x3 x4 x5 x6
   cases r9 with
   | true =>
    go_wp2_with fail
    go_meet
    exact⟨⟨_,rfl⟩,HB9.o⟩
   | false =>
    obtain⟨x0,x1,x2,x3,x4,x5,x6⟩:=AtC.sev ((HC.o w9 HB9.o).1);have HM9:Hid (R7 w9 m a1 c1 a2 c2 (some ⟨g2,o2,none⟩) c3 a4 c4 a5 c5 a6 c6):=HH.o.below (HC.o w9 HB9.o).2.2.2.2.1 nR;go_wp2_with fail
    refine(deep_any _ _ _ _ _ _ m tn w9 HM9.o HM.o htn2).mono ?_;rintro e w10 ⟨⟨r10,rfl⟩,B10⟩;have HB10:Hid (Below W2.1.size W2 w10):=HB9.o.trans (B10.mono HB9.o.size);clear B10 HM9 HB9 x0 x1 x2 x3 x4 x5 x6;go_wp2_with fail
    go_meet
    exact⟨⟨_,rfl⟩,HB10.o⟩
  case rest =>
   obtain⟨⟨r,rfl⟩,hb9⟩:=hcut;obtain⟨w7,hw7⟩:∃w7,w7=wc:=⟨_,rfl⟩
   subst hw7;have HB7:=hide hb9;clear hb9 HM8 HB8 x0 x1 x2 x3 x4 x5 x6
   cases r with
   | true =>
    exact cQ3
   | false =>
   have HP7:Hid (P7 w7 (fun k=>w.1.size+1+1<=k/\k<b2) b2 m s1 t1 s2 t2 s3 t3 s4 t4 s5 t5 s6 t6):=by
    obtain⟨-,-,k3,k4,-⟩:=HC.o w7 HB7.o;exact⟨k3,k4,fun e=>by have:w.1.size+1+1<=b2/\b2<b2:=e;omega⟩
   go_wp2_with fail
   refine(zdz _ b2 _ _ _ _ _ _ m w7 HP7.o).mono ?_;rintro e w9' ⟨⟨rr,rfl⟩,hw9⟩;rw[hw9];clear hw9 w9' HP7
   cases rr with
   | false =>
    obtain⟨y0,y1,y2,y3,y4,y5,y6⟩:=AtC.sev ((HC.o w7 HB7.o).2.2.1);obtain⟨r0,r1,r2,r3,r4,r5,r6⟩:=AtC.sev ((HC.o w7 HB7.o).2.1);have v0:=(HC.o w7 HB7.o).2.1.frozen 0;have v1:=(HC.o w7 HB7.o).2.1.frozen 1;have v2:=(HC.o w7 HB7.o).2.1.frozen 2;have v3:=(HC.o w7 HB7.o).2.1.frozen 3;have v4:=(HC.o w7 HB7.o).2.1.frozen 4;have v5:=(HC.o w7 HB7.o).2.1.frozen 5;have v6:=(HC.o w7 HB7.o).2.1.frozen 6;have HFF:=hide (HC.o w7 HB7.o);go_wp2;refine bodyPost_ret (v:=.tuple #[.agg (M7 m s1 t1 s2 t2 s3 t3 s4 t4 s5 t5 s6 t6),.int .i64 4]) sR7 rfl ⟨⟨_,_,_,_,_,_,m,_,rfl,(HFF.o.2.2.2.1.of_heap fun k hk _=>zaa _ _ _ _ _ _ _ _ _ k oF).mono (fun k hk=>by have:w.1.size+1+1<=k/\k<b2:=hk;omega),HM.o⟩,zab HFF.o.2.2.2.2.1 oM _ _ _ _ _ _ _⟩
   | true =>
   obtain⟨i0,i1,i2⟩:=HIC.o w7 HB7.o;obtain⟨x0,x1,x2,x3,x4,x5,x6⟩:=AtC.sev ((HC.o w7 HB7.o).1);by_cases h200:200<=ln
   ·have hl2:decide ((200:Int)<=ln)=true:=decide_eq_true h200;obtain⟨y0,y1,y2,y3,y4,y5,y6⟩:=AtC.sev ((HC.o w7 HB7.o).2.2.1);obtain⟨r0,r1,r2,r3,r4,r5,r6⟩:=AtC.sev ((HC.o w7 HB7.o).2.1);have v0:=(HC.o w7 HB7.o).2.1.frozen 0;have v1:=(HC.o w7 HB7.o).2.1.frozen 1;have v2:=(HC.o w7 HB7.o).2.1.frozen 2;have v3:=(HC.o w7 HB7.o).2.1.frozen 3;have v4:=(HC.o w7 HB7.o).2.1.frozen 4;have v5:=(HC.o w7 HB7.o).2.1.frozen 5;have v6:=(HC.o w7 HB7.o).2.1.frozen 6;have HFF:=hide (HC.o w7 HB7.o);go_wp2;refine bodyPost_ret (v:=.tuple #[.agg (M7 m s1 t1 s2 t2 s3 t3 s4 t4 s5 t5 s6 t6),.int .i64 5]) sR7 rfl ⟨⟨_,_,_,_,_,_,m,_,rfl,(HFF.o.2.2.2.1.of_heap fun k hk _=>zaa _ _ _ _ _ _ _ _ _ k oF).mono (fun k hk=>by have:w.1.size+1+1<=k/\k<b2:=hk;omega),HM.o⟩,zab HFF.o.2.2.2.2.1 oM _ _ _ _ _ _ _⟩
   have hl2:decide ((200:Int)<=ln)=false:=decide_eq_false h200;have HMC:Hid (R7 w7 m a1 c1 a2 c2 (some ⟨g2,o2,none⟩) c3 a4 c4 a5 c5 a6 c6):=HH.o.below (HC.o w7 HB7.o).2.2.2.2.1 nR;go_wp2_with fail
   refine(zax _ _ _ _ _ _ m w7 HMC.o HM.o.big).mono ?_;rintro e w8 ⟨u1,u2,u3,u4,u5,u6,rfl,O8,B8⟩;obtain⟨n1,o1,n2,o2',n3,o3,n4,o4,n5,o5,n6,o6,rfl,rfl,rfl,rfl,rfl,rfl⟩:=O8.mr.form;obtain⟨W9,hW9⟩:∃W9,w8.alloc (.cells (M7 m n1 o1 n2 o2' n3 o3 n4 o4 n5 o5 n6 o6) 33)=W9:=⟨_,rfl⟩
   obtain⟨bo,hbo⟩:∃bo,w8.1.size=bo:=⟨_,rfl⟩
   have HP9:Hid (P7 W9 (fun k=>w7.1.size<=k/\k<bo) bo m n1 o1 n2 o2' n3 o3 n4 o4 n5 o5 n6 o6/\Below w7.1.size w7 W9/\w7.1.size<=bo/\bo<W9.1.size):=by
    exact cQ55
   have HB9:Hid (Below W2.1.size W2 W9):=HB7.o.trans (HP9.o.2.1.mono HB7.o.size);clear O8 B8 HMC;obtain⟨gi,ci,ei,ki1,kif,kiS,kil,hput⟩:=HP9.o.1.lnkAt j hj (HM.o.ii _ (List.getElem_mem hj)).n;simp only[Value.slice.injEq,true_and]at ei;obtain⟨rfl,rfl⟩:=ei;obtain⟨vl,ki1⟩:∃vl,W9.cell? ⟨gi,j*3+1,none⟩=some vl:=⟨_,ki1⟩
   have xn2:=HP9.o.1.box.c2;have g2l:g2<w7.1.size:=zm7 i1;have y1:W9.cell? ⟨g2,o2+j*3+1,none⟩=some (.int .i64 ln):=(HP9.o.2.1.cell (p:=⟨g2,o2+j*3+1,none⟩) g2l).trans i1;have y2:=(HC.o W9 HB9.o).1.c2;have hlx:=(HM.o.ii _ (List.getElem_mem hj)).l;rw[HLN.o]at hlx;have hwn:IntKind.i64.wrap (ln+1)=ln+1:=wrap_small _ oM oM;have HBL:Hid (∀W,W=W9.setCell ⟨gi,j*3+1,none⟩ (.int .i64 (ln+1))->PM W (fun k=>w7.1.size<=k/\k<bo) bo (.slice n1 m.1.length o1) (.slice n2 m.2.length o2') (.slice (some ⟨gi,0,none⟩) m.3.length o3) (.slice n4 m.4.length o4) (.slice n5 m.5.length o5) (.slice n6 m.6.length o6) { m with is:=m.is.set j (m.is[j].1,ln+1,m.is[j].2.2) }/\Sh Z0 { m with is:=m.is.set j (m.is[j].1,ln+1,m.is[j].2.2) }/\Below w7.1.size w7 W):=by
    rintro W rfl;have hix:=HM.o.ii _ (List.getElem_mem hj);exact⟨hput _,HM.o.inode j ⟨by show 0<=ln+1/\ln+1<=200;omega,hix.n,hix.p,.inl HKD.o⟩ (fun _ p _=>Nat.le_refl _),HP9.o.2.1.setCell (p:=⟨gi,j*3+1,none⟩) kiS.1 _⟩
   clear hput x0 x1 x2 x3 x4 x5 x6 i0 i1 i2;go_upto_region 21 with fail
   clear hW9 hbo;go_cut [19]from 107 to 137 (fun c wx=>c=.pointer (some ⟨bo,0,none⟩)/\PM wx (fun k=>w7.1.size<=k/\k<bo) bo (.slice n1 m.1.length o1) (.slice n2 m.2.length o2') (.slice (some ⟨gi,0,none⟩) m.3.length o3) (.slice n4 m.4.length o4) (.slice n5 m.5.length o5) (.slice n6 m.6.length o6) { m with is:=m.is.set j (m.is[j].1,ln+1,m.is[j].2.2) }/\Sh Z0 { m with is:=m.is.set j (m.is[j].1,ln+1,m.is[j].2.2) }/\Below w7.1.size w7 wx)
   case first =>
    go_big_region
    all_goals (go_wp2_with fail;go_meet;exact⟨rfl,(HBL.o _ rfl).1.drew,(HBL.o _ rfl).2.1,(HBL.o _ rfl).2.2.drew⟩)
   case rest =>
    obtain⟨rfl,hP10,hS10,hB10⟩:=hcut;have HP10:=hide (And.intro hP10 (And.intro hS10 hB10));have hbo7:w7.1.size<=bo:=HP9.o.2.2.1;obtain⟨U,hU⟩:∃U,uoI ((j:Int)+1)=U:=⟨_,rfl⟩
    have CU:Hid (∀W,Calls Tryz.prog 198 #[.int .i64 ((j:Int)+1)] W fun e w'=>e=.returned (.int .i64 U)/\w'=W):=fun W=>by rw[←hU];exact zbr _ W
    clear hU hP10 hS10 hB10 HP9 HB9 ki1 kif kiS kil xn2 y1 y2 HBL;go_wp2_with fail
    refine(CU.out _).mono ?_;rintro e w9' ⟨rfl,hw9⟩;rw[hw9];clear hw9 w9';go_wp2_with fail
    refine(zb1 _ bo U _ _ _ _ _ _ _ wc HP10.o.1).mono ?_;rintro e w11 ⟨rfl,PB,c11⟩;have HB11:Hid (Below w7.1.size w7 w11):=HP10.o.2.2.trans (c11.below HP10.o.2.2.size (fun k hk=>hk.1));obtain⟨mb,hmb⟩:∃mb,markU U { m with is:=m.is.set j (m.is[j].1,ln+1,m.is[j].2.2) }=mb:=⟨_,rfl⟩
    have HQB:Hid (Abs ja nm mb.is mb.bs):=by
     rw[←hmb,zj1,zg7];exact HAB.o.setL j hj (ln+1)
    have HMB:Hid (Sh Z0 mb/\mb.bs=m.bs/\mb.xs=m.xs):=by
     rw[←hmb];exact⟨HP10.o.2.1.mark U,zg7 _ _,markU_xs _ _⟩
    rw[hmb]at PB;have HPB:Hid (PM w11 (fun k=>w7.1.size<=k/\k<bo) bo (.slice n1 m.1.length o1) (.slice n2 m.2.length o2') (.slice (some ⟨gi,0,none⟩) m.3.length o3) (.slice n4 m.4.length o4) (.slice n5 m.5.length o5) (.slice n6 m.6.length o6) mb/\(∀k,(w7.1.size<=k/\k<bo)->w7.1.size<=k)/\(∀k,w11.1.size<=k->w7.1.size<=k)):=⟨PB,fun k hk=>hk.1,fun k hk=>by have:=HB11.o.size;omega⟩
    clear PB c11 HP10 CU hmb;go_wp2_with fail
    refine(zii (fun k=>w7.1.size<=k) bo ja nm ((j:Int)+1) _ _ _ _ _ _ _ mb w11 HPB.o.1 HPB.o.2.1 hbo7 HPB.o.2.2 HMB.o.1 hja8 hnm ⟨by omega,by omega⟩ HSQ.o.1 HQB.o).mono ?_;rintro e w12 ⟨⟨id,rfl,-,-⟩,⟨SA,u',v',iv',bv',dv',pv',ma,PA,hSA,-,hmA,hkA⟩,c12⟩;have HB12:Hid (Below w7.1.size w7 w12):=HB11.o.trans (c12.below HB11.o.size (fun k hk=>hk));have HW12:Hid (Below W2.1.size W2 w12):=HB7.o.trans (HB12.o.mono HB7.o.size);clear c12 HPB HB11;by_cases hid:id=0
    ·subst hid;clear PA hSA hmA hkA;obtain⟨y0,y1,y2,y3,y4,y5,y6⟩:=AtC.sev ((HC.o w12 HW12.o).2.2.1);obtain⟨r0,r1,r2,r3,r4,r5,r6⟩:=AtC.sev ((HC.o w12 HW12.o).2.1);have v0:=(HC.o w12 HW12.o).2.1.frozen 0;have v1:=(HC.o w12 HW12.o).2.1.frozen 1;have v2:=(HC.o w12 HW12.o).2.1.frozen 2;have v3:=(HC.o w12 HW12.o).2.1.frozen 3;have v4:=(HC.o w12 HW12.o).2.1.frozen 4;have v5:=(HC.o w12 HW12.o).2.1.frozen 5;have v6:=(HC.o w12 HW12.o).2.1.frozen 6;have HFF:=hide (HC.o w12 HW12.o);go_wp2;refine bodyPost_ret (v:=.tuple #[.agg (M7 m s1 t1 s2 t2 s3 t3 s4 t4 s5 t5 s6 t6),.int .i64 4]) sR7 rfl ⟨⟨_,_,_,_,_,_,m,_,rfl,(HFF.o.2.2.2.1.of_heap fun k hk _=>zaa _ _ _ _ _ _ _ _ _ k oF).mono (fun k hk=>by have:w.1.size+1+1<=k/\k<b2:=hk;omega),HM.o⟩,zab HFF.o.2.2.2.2.1 oM _ _ _ _ _ _ _⟩
    have hidb:(id==0)=false:=beq_eq_false_iff_ne.mpr hid;obtain⟨hbit,s,hs,hs1,hs8⟩:=HSL.o;have hs2:slotO ma.bs jb tt=some s:=hkA jb tt s (by rw[HMB.o.2.2];exact hbit) (by rw[HMB.o.2.1];exact hs) hs1;obtain⟨hjb,htt,hsx⟩:=zgj hs2;have HP12:Hid (PM w12 SA bo u' v' iv' bv' dv' pv' ma/\(∀k,SA k->w7.1.size<=k)/\Sh Z0 ma/\(1<=ma.bs[jb].2.1[tt].2/\ma.bs[jb].2.1[tt].2<=8)/\(∀k,w12.1.size<=k->w7.1.size<=k)):=⟨PA,hSA,hmA,by rw[hsx];exact⟨hs1,hs8⟩,fun k hk=>by have:=HB12.o.size;omega⟩
    clear PA hSA hmA hkA hs hs2 hsx hbit;go_wp2_with fail
    refine(zj5 (fun k=>w7.1.size<=k) bo jb tt id _ _ _ _ _ _ _ ma w12 HP12.o.1 HP12.o.2.1 hbo7 HP12.o.2.2.2.2 HP12.o.2.2.1 hjb htt HP12.o.2.2.2.1).mono ?_;rintro e w13 ⟨rfl,⟨SC,u2,v2,iv2,bv2,dv2,pv2,mc,PA,hSA,-,hmA⟩,c13⟩;have HW13:Hid (Below W2.1.size W2 w13):=by
     have b13:=HB12.o.trans (c13.below HB12.o.size (fun k hk=>hk));exact HB7.o.trans (b13.mono HB7.o.size)
    obtain⟨ma',hma'⟩:∃ma',ma'=mc:=⟨_,rfl⟩
    subst hma';obtain⟨h1,k1,h2,k2,h3,k3,h4,k4,h5,k5,h6,k6,rfl,rfl,rfl,rfl,rfl,rfl⟩:=PA.form;have HZ:Hid (w.1.size+1+1<=w7.1.size):=by have:=(HC.o w7 HB7.o).2.2.2.2.2;show _<=_;omega
    clear c13 HP12 HB12 HW12;obtain⟨y0,y1,y2,y3,y4,y5,y6⟩:=AtC.sev PA.box;obtain⟨r0,r1,r2,r3,r4,r5,r6⟩:=AtC.sev ((HC.o w13 HW13.o).2.1);have v0:=(HC.o w13 HW13.o).2.1.frozen 0;have v1:=(HC.o w13 HW13.o).2.1.frozen 1;have v2:=(HC.o w13 HW13.o).2.1.frozen 2;have v3:=(HC.o w13 HW13.o).2.1.frozen 3;have v4:=(HC.o w13 HW13.o).2.1.frozen 4;have v5:=(HC.o w13 HW13.o).2.1.frozen 5;have v6:=(HC.o w13 HW13.o).2.1.frozen 6;have HF:=hide (And.intro PA.own (And.intro hSA hmA));clear PA hSA hmA;go_wp2;refine bodyPost_ret (v:=.tuple #[.agg (M7 ma' h1 k1 h2 k2 h3 k3 h4 k4 h5 k5 h6 k6),.int .i64 0]) sR7 rfl ⟨⟨_,_,_,_,_,_,ma',_,rfl,(HF.o.1.of_heap fun k hk _=>zaa _ _ _ _ _ _ _ _ _ k (by have:=HF.o.2.1 k hk;have:=HZ.o;omega)).mono (fun k hk=>by have:=HF.o.2.1 k hk;have:=HZ.o;omega),HF.o.2.2⟩,zab (HC.o w13 HW13.o).2.2.2.2.1 oM _ _ _ _ _ _ _⟩
namespace Kit
abbrev Nd:=ByteArray×Bool×ByteArray×ByteArray
def ndRow(x:Nd):Row:=[.string x.1,.bool x.2.1,.string x.2.2.1,.string x.2.2.2]
def NdO(w:World)(B:Nat)(v:Value)(ns:List Nd):Prop:=NOwns w 194 4 v (ns.map ndRow)/\∀k,v.ownBlock=some k->B<=k
namespace NdO
variable {w w' : World} {B : Nat} {v : Value} {ns : List Nd}
theorem lt(h:NdO w B v ns):∀k,v.ownBlock=some k->B<=k/\k<w.1.size:=fun k hk=>⟨h.2 k hk,h.1.lt k hk⟩
theorem of_heap(h:NdO w B v ns)(hh:∀k,v.ownBlock=some k->w'.1[k]?=w.1[k]?):NdO w' B v ns:=⟨h.1.of_heap hh,h.2⟩
theorem below(h:NdO w B v ns)(hb:Below w.1.size w w'):NdO w' B v ns:=h.of_heap fun k hk=>hb.block k (h.lt k hk).2
theorem mono{B':Nat}(h:NdO w B v ns)(hB:B'<=B):NdO w B' v ns:=⟨h.1,fun k hk=>Nat.le_trans hB (h.2 k hk)⟩
theorem nil(w:World)(B:Nat):NdO w B (.slice none 0 0) []:=⟨NOwns.nil _ _ _,fun k hk=>by simp[Value.ownBlock]at hk⟩
theorem lit0(w:World):NdO (w.alloc (.cells #[] 194)) w.1.size (.slice (some ⟨w.1.size,0,none⟩) 0 0) []:=by
 refine⟨?_,fun k hk=>by simp[Value.ownBlock]at hk;omega⟩;have:=NOwns.of_at (n:=4) (ts:=[]) (AtC.new w 194 #[]) rfl (Even.nil _) (Nat.zero_le _);simpa using this
theorem form(h:NdO w B v ns):∃a cap,v=.slice a ns.length cap:=by
 obtain⟨a,cap,e,-⟩:=h.1.form;rw[List.length_map]at e;exact⟨a,cap,e⟩
theorem rc(h:NdO w B v ns):RC w v ns.length (ns.map ndRow).flatten:=by
 have:=h.1.rc
 rwa[List.length_map]at this
theorem at_(h:NdO w B v ns)(j:Nat)(hj:j<ns.length):∃g cap,v=.slice (some ⟨g,0,none⟩) ns.length cap/\w.cell? ⟨g,j*4,none⟩=some (.string ns[j].1)/\w.cell? ⟨g,j*4+1,none⟩=some (.bool ns[j].2.1)/\w.cell? ⟨g,j*4+2,none⟩=some (.string ns[j].2.2.1)/\w.cell? ⟨g,j*4+3,none⟩=some (.string ns[j].2.2.2)/\(∀k,w.frozen? ⟨g,k,none⟩=false)/\g<w.1.size/\B<=g:=by
 obtain⟨g,cap,e,hc,hf,hg,-⟩:=h.1.at j (by rw[List.length_map];exact hj);rw[List.length_map]at e;refine⟨g,cap,e,?_,?_,?_,?_,hf,hg,h.2 g (by rw[e];rfl)⟩
 ·have:=hc 0 dC;rw[List.getElem_map]at this;exact this
 ·have:=hc 1 dC;rw[List.getElem_map]at this;exact this
 ·have:=hc 2 dC;rw[List.getElem_map]at this;exact this
 ·have:=hc 3 dC;rw[List.getElem_map]at this;exact this
theorem put{g cap:Nat}(h:NdO w B (.slice (some ⟨g,0,none⟩) ns.length cap) ns)(j:Nat)(hj:j<ns.length)(x:Nd):NdO ((((w.setCell ⟨g,j*4,none⟩ (.string x.1)).setCell ⟨g,j*4+1,none⟩ (.bool x.2.1)).setCell ⟨g,j*4+2,none⟩ (.string x.2.2.1)).setCell ⟨g,j*4+3,none⟩ (.string x.2.2.2)) B (.slice (some ⟨g,0,none⟩) ns.length cap) (ns.set j x):=by
 refine⟨?_,h.2⟩;have h1:NOwns w 194 4 (.slice (some ⟨g,0,none⟩) (ns.map ndRow).length cap) (ns.map ndRow):=by rw[List.length_map];exact h.1
 have:=NOwns.setRow j (ndRow x) w (ns.map ndRow) (by rw[List.length_map];exact hj) [] h1 rfl sI;rw[List.length_map]at this;rw[List.map_set];exact this
end NdO
end Kit
def SubN(ms ns:List Nd):Prop:=∀x∈ms,x∈ns
theorem Tryz.u152:Tryz.prog.underlying 152=some (.slice 194):=by kernel_rfl
theorem Tryz.i194:(Tryz.prog.info? 194).map (fun i=>(i.zero,i.size,i.bytes))=some (some (.agg #[.string ⟨#[]⟩,.bool false,.string ⟨#[]⟩,.string ⟨#[]⟩]),4,56):=by kernel_rfl
theorem zec(ns:List Nd):(ns.map ndRow).flatten.length=ns.length*4:=by
 induction ns with
 | nil=>rfl
 | cons x r ih=>simp only[List.map_cons,List.flatten_cons,List.length_append,ih,List.length_cons];show 4+_=_;omega
theorem zed(ns:List Nd):∀u∈(ns.map ndRow).flatten,u.oneCell'=true:=fun u hu=>by
 obtain⟨r,hr,hu⟩:=List.mem_flatten.mp hu;obtain⟨x,-,rfl⟩:=List.mem_map.mp hr;simp only[ndRow,List.mem_cons,List.not_mem_nil,or_false]at hu;rcases hu with rfl|rfl|rfl|rfl<;>rfl
theorem NdO.of_owns{w:World}{B:Nat}{v:Value}{ns:List Nd}(h:w.ownsRow B 194 4 v ns.length (ns.map ndRow).flatten):NdO w B v ns:=by
 refine⟨⟨fun t ht=>?_,?_⟩,fun k hk=>(World.ownsRow.lt h k hk).1⟩
 ·obtain⟨x,-,rfl⟩:=List.mem_map.mp ht;rfl
 ·rw[List.length_map];refine⟨h.1,h.2.imp id ?_⟩;rintro⟨g,cap,cur,h1,h2,h3⟩;exact⟨g,cap,cur,h1,Nat.zero_le _,h3⟩
theorem zee(B:Nat)(v:Value)(ns:List Nd)(w:World)(h:NdO w B v ns)(hl:ns.length<=1000):
  Calls Tryz.prog 172 #[v] w fun e w'=>∃v' ns',e=.returned v'/\NdO w' w.1.size v' ns'/\ns'.length=ns.length/\SubN ns' ns/\Below w.1.size w w':=by
 obtain⟨a0,c0,rfl⟩:=h.form;have HRC:Hid (RC (w.alloc (.cells #[] 194)) (.slice a0 ns.length c0) ns.length (ns.map ndRow).flatten):=(h.below ((Below.refl _ w).alloc nR _)).rc;have HE:Hid ((w.alloc (.cells #[] 194)).ownsRow w.1.size 194 4 (.slice (some ⟨w.1.size,0,none⟩) 0 0) 0 []):=(AtC.new w 194 #[]).empty _ nR 4;have HLN:Hid (ns.length<=100000000000):=by show _<=_;omega
 clear h;go_enter Tryz.func172,Tryz.ntmps172
 go_wp2_with (at_builtin;refine zaj _ rfl _ _ 152 rfl w.1.size 194 Tryz.u152 _ 4 56 Tryz.i194 rfl dC dC (.slice (some ⟨w.1.size,0,none⟩) 0 0) rfl HE.o sI _ rfl ns.length (ns.map ndRow).flatten HRC.o (zec ns) (zed ns) HLN.o ?_;intro v1 w1 R1 R2 R3)
 have HO1:Hid (NdO w1 w.1.size v1 ns/\Below w.1.size w w1):=by
  refine⟨NdO.of_owns R1,((Below.refl _ w).alloc nR (.cells #[] 194)).grown R2 sI (fun k hk=>?_)⟩;simp[Value.ownBlock]at hk;omega
 obtain⟨a1,c1,rfl⟩:=HO1.o.1.form;clear R1 R2 R3 HRC HE;go_loopw [4] (fun i wr=>∃n:Nat,1<=n/\n<=1001/\i=.int .i64 n/\Hid (∃ms:List Nd,NdO wr w.1.size (.slice a1 ns.length c1) ms/\ms.length=ns.length/\SubN ms ns/\Below w.1.size w wr)) (fun i _=>1001-(intOf i).toNat)
 case atStart=>exact⟨1,Nat.le_refl _,by omega,rfl,ns,HO1.o.1,rfl,fun x hx=>hx,HO1.o.2⟩
 case round =>
  obtain⟨n,hn1,hn2,rfl,HR⟩:=hrel;by_cases hlt:n<ns.length
  rotate_left
  ·have n1:¬((n:Int)<(ns.length:Int)):=by omega
   obtain⟨ms,hms⟩:=HR.o;have HQ:=hide hms;clear hms HR HO1;go_wp2;go_ret;exact⟨.slice a1 ns.length c1,rfl,ms,HQ.o⟩
  have n1:(n:Int)<(ns.length:Int):=by omega
  have n2:n<1000:=by omega
  clear HO1;go_wp2_with fail
  go_loopw [5] (fun kk wr=>∃q:Nat,q<=n/\kk=.int .i64 q/\Hid (∃ms:List Nd,NdO wr w.1.size (.slice a1 ns.length c1) ms/\ms.length=ns.length/\SubN ms ns/\Below w.1.size w wr)) (fun kk _=>(intOf kk).toNat)
  case atStart=>exact⟨n,Nat.le_refl _,rfl,HR.o⟩
  case round =>
   obtain⟨q,hq,rfl,HS⟩:=hrel;have HSD:Hid (∀k,∃ms:List Nd,NdO (wr.drewN k) w.1.size (.slice a1 ns.length c1) ms/\ms.length=ns.length/\SubN ms ns/\Below w.1.size w (wr.drewN k)):=fun k=>by
    obtain⟨ms,h1,h2,h3,h4⟩:=HS.o;exact⟨ms,h1.below (below_drewN bR _),h2,h3,below_drewN h4 _⟩
   clear HR
   cases q with
   | zero =>
    go_upto_region 6 with fail
    go_quiet(fail)
    go_wp2;go_roundw
    case rel=>exact⟨n+1,by omega,by omega,by go_num,HSD.o _⟩
    case measure=>simp[intOf];omega
   | succ q =>
    obtain⟨ms,hms⟩:=HS.o;have HQ:=hide hms;clear hms HS;obtain⟨g,cap,e1,p0,p1,p2,p3,hfz,hg,hgB⟩:=HQ.o.1.at_ q (by rw[HQ.o.2.1];omega);obtain⟨g',cap',e2,r0,r1,r2,r3,-,-,-⟩:=HQ.o.1.at_ (q+1) (by rw[HQ.o.2.1];omega);rw[HQ.o.2.1]at e1 e2;simp only[Value.slice.injEq,true_and]at e1 e2;obtain⟨rfl,rfl⟩:=e1;simp only[Option.some.injEq,Addr.mk.injEq,and_true]at e2;obtain⟨rfl,-⟩:=e2;obtain⟨⟨xa,xb,xc,xd⟩,hX⟩:∃X,ms[q]'(by rw[HQ.o.2.1];omega)=X:=⟨_,rfl⟩
    obtain⟨⟨ya,yb,yc,yd⟩,hY⟩:∃Y,ms[q+1]'(by rw[HQ.o.2.1];omega)=Y:=⟨_,rfl⟩
    rw[hX]at p0 p1 p2 p3;rw[hY]at r0 r1 r2 r3;have HXM:Hid ((xa,xb,xc,xd)∈ns/\(ya,yb,yc,yd)∈ns):=⟨by rw[←hX];exact HQ.o.2.2.1 _ (List.getElem_mem _),by rw[←hY];exact HQ.o.2.2.1 _ (List.getElem_mem _)⟩
    clear hX hY;simp only at p0 p1 p2 p3 r0 r1 r2 r3;have hq0:(0:Int)<(q:Int)+1:=by omega
    have hqw:IntKind.i64.wrap (q:Int)=(q:Int):=wrap_small _ oM oM;have q0:(0:Int)<=(q:Int):=by omega
    have q1:(q:Int)<(ns.length:Int):=by omega
    have q2:(q:Int)+1<(ns.length:Int):=by omega
    have q3:q<1000:=by omega
    clear HSD;go_upto_region 6 with fail
    go_cut [32]from 17 to 51 (fun c wx=>(∃r,c=.bool r)/\NdO wx w.1.size (.slice (some ⟨g,0,none⟩) ns.length c1) ms/\Below w.1.size w wx)
    case first =>
     go_quiet(fail)
     go_wp2_with fail
     go_meet
     exact⟨⟨_,rfl⟩,HQ.o.1.below (below_drewN bR _),below_drewN HQ.o.2.2.2 _⟩
    case rest =>
     obtain⟨⟨r,rfl⟩,hN,hBl⟩:=hcut;have HN:=hide (And.intro hN hBl);clear p0 p1 p2 p3 r0 r1 r2 r3 hfz hg hN hBl
     cases r with
     | false =>
      go_wp2;go_roundw
      case rel=>exact⟨n+1,by omega,by omega,by go_num,ms,HN.o.1,HQ.o.2.1,HQ.o.2.2.1,HN.o.2⟩
      case measure=>simp[intOf];omega
     | true =>
      obtain⟨g2,cap2,e1,p0,p1,p2,p3,hfz,hg,-⟩:=HN.o.1.at_ q (by rw[HQ.o.2.1];omega);obtain⟨g3,cap3,e2,r0,r1,r2,r3,-,-,-⟩:=HN.o.1.at_ (q+1) (by rw[HQ.o.2.1];omega);rw[HQ.o.2.1]at e1 e2;simp only[Value.slice.injEq,Option.some.injEq,Addr.mk.injEq,true_and,and_true]at e1 e2;obtain⟨rfl,rfl⟩:=e1;obtain⟨rfl,-⟩:=e2;obtain⟨⟨xa,xb,xc,xd⟩,hX⟩:∃X,ms[q]'(by rw[HQ.o.2.1];omega)=X:=⟨_,rfl⟩
      obtain⟨⟨ya,yb,yc,yd⟩,hY⟩:∃Y,ms[q+1]'(by rw[HQ.o.2.1];omega)=Y:=⟨_,rfl⟩
      rw[hX]at p0 p1 p2 p3;rw[hY]at r0 r1 r2 r3;have HXM:Hid ((xa,xb,xc,xd)∈ns/\(ya,yb,yc,yd)∈ns):=⟨by rw[←hX];exact HQ.o.2.2.1 _ (List.getElem_mem _),by rw[←hY];exact HQ.o.2.2.1 _ (List.getElem_mem _)⟩
      clear hX hY;simp only at p0 p1 p2 p3 r0 r1 r2 r3;have f0:=hfz (q*4);have f1:=hfz (q*4+1);have f2:=hfz (q*4+2);have f3:=hfz (q*4+3);have k0:=hfz ((q+1)*4);have k1:=hfz ((q+1)*4+1);have k2:=hfz ((q+1)*4+2);have k3:=hfz ((q+1)*4+3);have HREL:Hid (∃q':Nat,q'<=n/\Value.int .i64 (q:Int)=.int .i64 q'/\Hid (∃ms:List Nd,NdO (((((((((wc.setCell ⟨g,(q+1)*4,none⟩ (.string xa)).setCell ⟨g,(q+1)*4+1,none⟩ (.bool xb)).setCell ⟨g,(q+1)*4+2,none⟩ (.string xc)).setCell ⟨g,(q+1)*4+3,none⟩ (.string xd)).setCell ⟨g,q*4,none⟩ (.string ya)).setCell ⟨g,q*4+1,none⟩ (.bool yb)).setCell ⟨g,q*4+2,none⟩ (.string yc)).setCell ⟨g,q*4+3,none⟩ (.string yd)).alloc (.cells #[.string ya,.bool yb,.string yc,.string yd] 194)) w.1.size (.slice (some ⟨g,0,none⟩) ns.length c1) ms/\ms.length=ns.length/\SubN ms ns/\Below w.1.size w (((((((((wc.setCell ⟨g,(q+1)*4,none⟩ (.string xa)).setCell ⟨g,(q+1)*4+1,none⟩ (.bool xb)).setCell ⟨g,(q+1)*4+2,none⟩ (.string xc)).setCell ⟨g,(q+1)*4+3,none⟩ (.string xd)).setCell ⟨g,q*4,none⟩ (.string ya)).setCell ⟨g,q*4+1,none⟩ (.bool yb)).setCell ⟨g,q*4+2,none⟩ (.string yc)).setCell ⟨g,q*4+3,none⟩ (.string yd)).alloc (.cells #[.string ya,.bool yb,.string yc,.string yd] 194)))):=by
       have hml:=HQ.o.2.1;have N0:=HN.o.1;rw[←hml]at N0;have N1:=N0.put (q+1) oM (xa,xb,xc,xd);have N1':NdO ((((wc.setCell ⟨g,(q+1)*4,none⟩ (.string xa)).setCell ⟨g,(q+1)*4+1,none⟩ (.bool xb)).setCell ⟨g,(q+1)*4+2,none⟩ (.string xc)).setCell ⟨g,(q+1)*4+3,none⟩ (.string xd)) w.1.size (.slice (some ⟨g,0,none⟩) (ms.set (q+1) (xa,xb,xc,xd)).length c1) (ms.set (q+1) (xa,xb,xc,xd)):=by rw[List.length_set];exact N1
       have N2:=N1'.put q (by rw[List.length_set];omega) (ya,yb,yc,yd);rw[List.length_set,hml]at N2;refine⟨q,by omega,rfl,_,N2.below (bR.alloc nR _),by rw[List.length_set,List.length_set];exact hml,fun x hx=>?_,?_⟩
       ·rcases List.mem_or_eq_of_mem_set hx with hx|rfl
        ·rcases List.mem_or_eq_of_mem_set hx with hx|rfl
         ·exact HQ.o.2.2.1 x hx
         ·exact HXM.o.1
        ·exact HXM.o.2
       ·have b0:=(((((((HN.o.2.setCell (p:=⟨g,(q+1)*4,none⟩) hgB (.string xa)).setCell (p:=⟨g,(q+1)*4+1,none⟩) hgB (.bool xb)).setCell (p:=⟨g,(q+1)*4+2,none⟩) hgB (.string xc)).setCell (p:=⟨g,(q+1)*4+3,none⟩) hgB (.string xd)).setCell (p:=⟨g,q*4,none⟩) hgB (.string ya)).setCell (p:=⟨g,q*4+1,none⟩) hgB (.bool yb)).setCell (p:=⟨g,q*4+2,none⟩) hgB (.string yc)).setCell (p:=⟨g,q*4+3,none⟩) hgB (.string yd);exact b0.alloc b0.size _
      have hne:¬g=wc.1.size:=by omega
      have hne2:¬wc.1.size=g:=by omega
      have z0:((q+1)*4=q*4)=False:=by simp;omega
      clear HQ HN hfz HXM;go_wp2;go_roundw
      case rel=>first| exact HREL.o|((repeat apply Exists.intro);exact⟨HREL.o,rfl⟩)
      case measure=>simp[intOf]
namespace Kit
def NdB(L:Nat)(ns:List Nd):Prop:=∀x∈ns,x.1.size<=L
theorem NdB.set{L:Nat}{ns:List Nd}(h:NdB L ns)(j:Nat){x:Nd}(hx:x.1.size<=L):NdB L (ns.set j x):=fun y hy=>(List.mem_or_eq_of_mem_set hy).elim (h y) (fun e=>e ▸ hx)
theorem NdB.app{L:Nat}{ns:List Nd}(h:NdB L ns){x:Nd}(hx:x.1.size<=L):NdB L (ns++[x]):=fun y hy=>(List.mem_append.mp hy).elim (h y) (fun e=>by simp at e;subst e;exact hx)
theorem NdB.sub{L:Nat}{ns ms:List Nd}(h:NdB L ns)(hs:SubN ms ns):NdB L ms:=fun y hy=>h y (hs y hy)
theorem NdB.mono{L L':Nat}{ns:List Nd}(h:NdB L ns)(hl:L<=L'):NdB L' ns:=fun y hy=>Nat.le_trans (h y hy) hl
namespace NdO
variable {w w' : World} {B : Nat} {v : Value} {ns : List Nd}
theorem cellSet{g cap:Nat}(h:NdO w B (.slice (some ⟨g,0,none⟩) ns.length cap) ns)(j i:Nat)(hj:j<ns.length)(hi:i<4)(x:Value)(y:Nd)(hy:(ndRow ns[j]).set i x=ndRow y):NdO (w.setCell ⟨g,j*4+i,none⟩ x) B (.slice (some ⟨g,0,none⟩) ns.length cap) (ns.set j y):=by
 refine⟨?_,h.2⟩;have h1:NOwns w 194 4 (.slice (some ⟨g,0,none⟩) (ns.map ndRow).length cap) (ns.map ndRow):=by rw[List.length_map];exact h.1
 have h2:=h1.set j i (by rw[List.length_map];exact hj) hi x;have e1:(ns.map ndRow).length=ns.length:=List.length_map _;have e2:(ns.map ndRow).set j (((ns.map ndRow)[j]'(by rw[e1];exact hj)).set i x)=(ns.set j y).map ndRow:=by rw[List.map_set,←hy,List.getElem_map]
 rw[e2]at h2;rw[show(Value.slice (some ⟨g,0,none⟩) ns.length cap)=.slice (some ⟨g,0,none⟩) (ns.map ndRow).length cap by rw[e1]];exact h2
theorem app{lv':Value}{x:Nd}(h:NdO w B v ns)(ho:NOwns w' 194 4 lv' (ns.map ndRow++[ndRow x]))(hv:∀k,lv'.ownBlock=some k->v.ownBlock=some k\/w.1.size<=k)(hB:B<=w.1.size):NdO w' B lv' (ns++[x]) :=
 ⟨by rw[List.map_append];exact ho,fun k hk=>(hv k hk).elim (h.2 k) (fun e=>Nat.le_trans hB e)⟩
end NdO
end Kit
def ModR(L n B:Nat)(w':World)(e:Ending):Prop:=∃v' ns',e=.returned v'/\NdO w' B v' ns'/\ns'.length<=n+1/\NdB L ns'
theorem ModR.mk{L n B:Nat}{w':World}{e:Ending}(v':Value)(ns':List Nd)(h1:e=.returned v')(h2:NdO w' B v' ns')(h3:ns'.length<=n+1)(h4:NdB L ns'):ModR L n B w' e:=⟨v',ns',h1,h2,h3,h4⟩
theorem znc(p t:ByteArray)(ht:t.size<=1048576):
  ∃r:Bool,∀w:World,Calls Tryz.prog 173 #[.string p,.string t] w fun e w'=>e=.returned (.bool r)/\w'=w:=by
 obtain⟨q,hq⟩:∃q,(p.toList==t.toList)=q:=⟨_,rfl⟩
 cases q with
 | true =>
  refine⟨true,fun w=>?_⟩;go_enter Tryz.func173,Tryz.ntmps173
  go_wp2;go_ret;exact⟨rfl,rfl⟩
 | false =>
  by_cases hl:t.size<p.size
  ·have h1:(t.size:Int)<(p.size:Int):=by omega
   have h2:((t.size:Int)+1)<=(p.size:Int):=by omega
   have h3:¬9223372036854775807<t.size+1:=by omega
   obtain⟨q2,hq2⟩:∃q2,((p.extract 0 (t.size+1)).toList==(t++(⟨#[47]⟩:ByteArray)).toList)=q2:=⟨_,rfl⟩
   refine⟨q2,fun w=>?_⟩;go_enter Tryz.func173,Tryz.ntmps173
   go_wp2;go_ret;exact⟨rfl,rfl⟩
  ·have h1:¬(t.size:Int)<(p.size:Int):=by omega
   refine⟨false,fun w=>?_⟩;go_enter Tryz.func173,Tryz.ntmps173
   go_wp2;go_ret;exact⟨rfl,rfl⟩
theorem znd(L B:Nat)(v:Value)(ns:List Nd)(kd:Int)(p q:ByteArray)(at_:Int)(tx:ByteArray)(w:World)(h:NdO w B v ns)(hl:ns.length<=900)(hL:NdB L ns)(hp:p.size<=L)(hq:q.size<=L)(hL6:L<=1048576):
  Calls Tryz.prog 143 #[v,.agg #[.int .i64 kd,.string p,.string q,.int .i64 at_,.string tx]] w fun e w'=>ModR L ns.length w.1.size w' e/\Below w.1.size w w':=by
 obtain⟨a0,c0,rfl⟩:=h.form;obtain⟨W0,hW0⟩:∃W0,((w.alloc (.cells #[.int .i64 kd,.string p,.string q,.int .i64 at_,.string tx] 158)).alloc (.cells #[] 194))=W0:=⟨_,rfl⟩
 have HW0:Hid (Below w.1.size w W0/\AtC W0 w.1.size 158 #[.int .i64 kd,.string p,.string q,.int .i64 at_,.string tx]/\W0.1.size=w.1.size+1+1/\RC W0 (.slice a0 ns.length c0) ns.length (ns.map ndRow).flatten/\W0.ownsRow (w.1.size+1) 194 4 (.slice (some ⟨w.1.size+1,0,none⟩) 0 0) 0 []):=by
  rw[←hW0];have b0:Below w.1.size w ((w.alloc (.cells #[.int .i64 kd,.string p,.string q,.int .i64 at_,.string tx] 158)).alloc (.cells #[] 194)):=((Below.refl _ w).alloc nR _).alloc sI _;have k:=(AtC.new (w.alloc (.cells #[.int .i64 kd,.string p,.string q,.int .i64 at_,.string tx] 158)) 194 #[]).empty (w.1.size+1) sI 4;have e0:(w.alloc (.cells #[.int .i64 kd,.string p,.string q,.int .i64 at_,.string tx] 158)).1.size=w.1.size+1:=by simp
  rw[e0]at k;exact⟨b0,(AtC.new w 158 _).alloc _,by simp,(h.below b0).rc,k⟩
 have HLN:Hid (ns.length<=100000000000):=by show _<=_;omega
 have HSZ0:Hid (w.1.size+1<=W0.1.size):=by have:=HW0.o.2.2.1;show _<=_;omega
 have HNB:=hide hL;clear h hL;have HMK:Hid (∀v1 w1,w1.ownsRow (w.1.size+1) 194 4 v1 ns.length (ns.map ndRow).flatten->W0.grownBy w1 (Value.slice (some ⟨w.1.size+1,0,none⟩) 0 0).ownBlock->NdO w1 (w.1.size+1) v1 ns/\AtC w1 w.1.size 158 #[.int .i64 kd,.string p,.string q,.int .i64 at_,.string tx]/\Below w.1.size w w1):=fun v1 w1 R1 R2=>by
  obtain⟨k1,k2,k3,-⟩:=HW0.o;exact⟨NdO.of_owns R1,k2.grown R2 (by simp[Value.ownBlock]),k1.grown R2 oM (fun k hk=>by simp[Value.ownBlock]at hk;omega)⟩
 go_enter Tryz.func143,Tryz.ntmps143
 go_upto_region 3 with(at_builtin;refine zaj _ rfl _ _ 152 rfl (w.1.size+1) 194 Tryz.u152 _ 4 56 Tryz.i194 rfl dC dC (.slice (some ⟨w.1.size+1,0,none⟩) 0 0) rfl HW0.o.2.2.2.2 HSZ0.o _ rfl ns.length (ns.map ndRow).flatten HW0.o.2.2.2.1 (zec ns) (zed ns) HLN.o ?_;intro v1 w1 R1 R2 R3;have HO1:=hide (HMK.o v1 w1 R1 R2);clear R1 R2 R3;obtain⟨a1,c1,rfl⟩:=HO1.o.1.form;have e0:w1.cell? ⟨w.1.size,0,none⟩=some (.int .i64 kd):=HO1.o.2.1.cell 0)
 clear HMK HW0 HSZ0 HLN hW0 e0;have HO2:Hid (w.1.size+1<=w1.1.size):=HO1.o.2.1.lt;by_cases h3:kd=3
 ·subst h3;go_wp2_with fail
  go_loopw [6] (fun i wr=>∃n:Nat,n<=ns.length/\i=.int .i64 n/\Hid (∃ms:List Nd,NdO wr (w.1.size+1) (.slice a1 ns.length c1) ms/\ms.length=ns.length/\NdB L ms/\AtC wr w.1.size 158 #[.int .i64 3,.string p,.string q,.int .i64 at_,.string tx]/\Below w.1.size w wr)) (fun i _=>ns.length-(intOf i).toNat)
  case atStart=>exact⟨0,Nat.zero_le _,rfl,ns,HO1.o.1,rfl,HNB.o,HO1.o.2.1,HO1.o.2.2⟩
  case round =>
   obtain⟨n,hn,rfl,HR⟩:=hrel;clear HO1;by_cases hlt:n<ns.length
   rotate_left
   ·have n1:¬((n:Int)<(ns.length:Int)):=by omega
    obtain⟨ms,hms⟩:=HR.o;have HQ:=hide hms;clear hms HR;go_wp2;go_ret;exact⟨ModR.mk _ ms rfl (HQ.o.1.mono oM) (by have:=HQ.o.2.1;omega) HQ.o.2.2.1,HQ.o.2.2.2.2⟩
   have n1:(n:Int)<(ns.length:Int):=by omega
   have n2:n<900:=by omega
   have n0:(0:Int)<=(n:Int):=by omega
   obtain⟨ms,hms⟩:=HR.o;have HQ:=hide hms;clear hms HR;obtain⟨g,cap,e1,p0,p1,p2,p3,hfz,hg,hgB⟩:=HQ.o.1.at_ n (by rw[HQ.o.2.1];exact hlt);rw[HQ.o.2.1]at e1;simp only[Value.slice.injEq,true_and]at e1;obtain⟨rfl,rfl⟩:=e1;obtain⟨⟨xa,xb,xc,xd⟩,hX⟩:∃X,ms[n]'(by rw[HQ.o.2.1];exact hlt)=X:=⟨_,rfl⟩
   rw[hX]at p0 p1 p2 p3;simp only at p0 p1 p2 p3;have HXS:Hid (xa.size<=L):=by have:=HQ.o.2.2.1 _ (List.getElem_mem (show n<ms.length by rw[HQ.o.2.1];exact hlt));rw[hX]at this;exact this
   have HXX:=hide hX;clear hX;have x0:=HQ.o.2.2.2.1.c0;have x1:=HQ.o.2.2.2.1.c1;have x2:=HQ.o.2.2.2.1.c2;have x3:=HQ.o.2.2.2.1.c3;have x4:=HQ.o.2.2.2.1.c4;go_upto_region 10 with fail
   go_cut [50]from 30 to 65 (fun c wx=>(∃r,c=.bool r)/\∃k,wx=wr.drewN k)
   case first =>
    by_cases hx:xa=p
    ·subst hx;go_quiet(fail)
     exact cQ68
    ·have hx2:=zbh hx;have hx3:(xa.toList != p.toList)=true:=by simp[bne,hx2]
     go_quiet(fail)
     exact cQ68
   case rest =>
    obtain⟨⟨r,rfl⟩,kk,rfl⟩:=hcut;have HBD:Hid (Below wr.1.size wr (wr.drewN kk)):=below_drewN bR _;obtain⟨W5,hW5⟩:∃W5,wr.drewN kk=W5:=⟨_,rfl⟩
    rw[hW5]at HBD ⊢;have HQ5:Hid (NdO W5 (w.1.size+1) (.slice (some ⟨g,0,none⟩) ns.length c1) ms/\AtC W5 w.1.size 158 #[.int .i64 3,.string p,.string q,.int .i64 at_,.string tx]/\Below w.1.size w W5):=⟨HQ.o.1.below HBD.o,HQ.o.2.2.2.1.over HBD.o,HQ.o.2.2.2.2.trans (HBD.o.mono HQ.o.2.2.2.2.size)⟩
    clear hW5 p0 p1 p2 p3 hfz x0 x1 x2 x3 x4
    cases r with
    | true =>
     exact cQ82
    | false =>
     obtain⟨g',cap',e1,p0,p1,p2,p3,hfz,hg',-⟩:=HQ5.o.1.at_ n (by rw[HQ.o.2.1];exact hlt);rw[HQ.o.2.1]at e1;simp only[Value.slice.injEq,Option.some.injEq,Addr.mk.injEq,and_true,true_and]at e1;obtain⟨rfl,rfl⟩:=e1;obtain⟨v2,p2⟩:∃v2,W5.cell? ⟨g,n*4+2,none⟩=some v2:=⟨_,p2⟩
     obtain⟨v3,p3⟩:∃v3,W5.cell? ⟨g,n*4+3,none⟩=some v3:=⟨_,p3⟩
     have f2:=hfz (n*4+2);have f3:=hfz (n*4+3);have x0:=HQ5.o.2.1.c0;have x1:=HQ5.o.2.1.c1;have x2:=HQ5.o.2.1.c2;have x3:=HQ5.o.2.1.c3;have x4:=HQ5.o.2.1.c4;have HST:Hid (∀(i:Nat)(y:Nd),i<4->0<i->(ndRow (xa,xb,xc,xd)).set i (.string tx)=ndRow y->y.1=xa->∃ms:List Nd,NdO (W5.setCell ⟨g,n*4+i,none⟩ (.string tx)) (w.1.size+1) (.slice (some ⟨g,0,none⟩) ns.length c1) ms/\ms.length=ns.length/\NdB L ms/\AtC (W5.setCell ⟨g,n*4+i,none⟩ (.string tx)) w.1.size 158 #[.int .i64 3,.string p,.string q,.int .i64 at_,.string tx]/\Below w.1.size w (W5.setCell ⟨g,n*4+i,none⟩ (.string tx))):=fun i y hi hi0 hy hy1=>by
      have hnl:n<ms.length:=by rw[HQ.o.2.1];exact hlt
      have hl:=HQ.o.2.1;have hg1:w.1.size<=g:=by omega
      have ho:=HQ5.o.1;rw[←hl]at ho;have:=ho.cellSet n i hnl hi (.string tx) y (by rw[HXX.o];exact hy);rw[hl]at this;exact⟨ms.set n y,this,by rw[List.length_set];exact hl,HQ.o.2.2.1.set n (by rw[hy1];exact HXS.o),HQ5.o.2.1.other oM _,HQ5.o.2.2.setCell (p:=⟨g,n*4+i,none⟩) hg1 _⟩
     clear hfz p0 p1;by_cases ha:at_=0
     ·subst ha;go_wp2;go_roundw
      case rel=>exact⟨n+1,by omega,by go_num,HST.o 2 (xa,xb,tx,xd) dC dC rfl rfl⟩
      case measure=>simp[intOf];omega
     ·have hab:(at_==0)=false:=beq_eq_false_iff_ne.mpr ha;go_wp2;go_roundw
      case rel=>exact⟨n+1,by omega,by go_num,HST.o 3 (xa,xb,xc,tx) dC dC rfl rfl⟩
      case measure=>simp[intOf];omega
 by_cases h4:kd=4
 ·subst h4;have HE:Hid (NdO (w1.alloc (.cells #[] 194)) w1.1.size (.slice (some ⟨w1.1.size,0,none⟩) 0 0) []/\Below w1.1.size w1 (w1.alloc (.cells #[] 194))):=⟨NdO.lit0 w1,(Below.refl _ w1).alloc nR _⟩
  go_wp2_with fail
  go_loopw [7,8] (fun x7 i wr=>∃(lv:Value)(l:List Nd)(n:Nat),lv=x7/\n<=ns.length/\i=.int .i64 n/\Hid (NdO wr w1.1.size lv l/\Below w1.1.size w1 wr/\l.length<=n/\NdB L l)) (fun _ i _=>ns.length-(intOf i).toNat)
  case atStart=>exact⟨_,[],0,rfl,Nat.zero_le _,rfl,HE.o.1,HE.o.2,Nat.le_refl _,fun x hx=>by simp at hx⟩
  case round =>
   clear HE;obtain⟨lv,l,n,hlv,hn,rfl,HR⟩:=hrel;subst hlv;by_cases hlt:n<ns.length
   rotate_left
   ·have n1:¬((n:Int)<(ns.length:Int)):=by omega
    go_wp2;go_ret;have zz:=HO2.o;have bb:=HR.o.2.1;exact⟨ModR.mk _ l rfl (HR.o.1.mono oM) (by have:=HR.o.2.2.1;omega) HR.o.2.2.2,HO1.o.2.2.trans (bb.mono oM)⟩
   have n1:(n:Int)<(ns.length:Int):=by omega
   have n2:n<900:=by omega
   have n0:(0:Int)<=(n:Int):=by omega
   have HQO:Hid (∀W,Below w1.1.size w1 W->NdO W (w.1.size+1) (.slice a1 ns.length c1) ns/\AtC W w.1.size 158 #[.int .i64 4,.string p,.string q,.int .i64 at_,.string tx]):=fun W b=>⟨HO1.o.1.below b,HO1.o.2.1.over b⟩
   obtain⟨g,cap,e1,p0,p1,p2,p3,-,hg,-⟩:=(HQO.o wr HR.o.2.1).1.at_ n hlt;simp only[Value.slice.injEq,true_and]at e1;obtain⟨rfl,rfl⟩:=e1;obtain⟨⟨xa,xb,xc,xd⟩,hX⟩:∃X,ns[n]=X:=⟨_,rfl⟩
   rw[hX]at p0 p1 p2 p3;simp only at p0 p1 p2 p3;have HXS:Hid (xa.size<=L):=by have:=HNB.o _ (List.getElem_mem hlt);rw[hX]at this;exact this
   have hp6:p.size<=1048576:=by omega
   obtain⟨r,CB⟩:=znc xa p hp6;have HCB:=hide CB;clear hX CB;have x0:=(HQO.o wr HR.o.2.1).2.c0;have x1:=(HQO.o wr HR.o.2.1).2.c1;have x2:=(HQO.o wr HR.o.2.1).2.c2;have x3:=(HQO.o wr HR.o.2.1).2.c3;have x4:=(HQO.o wr HR.o.2.1).2.c4;go_upto_region 19 with fail
   go_cut [83]from 69 to 83 (fun c wx=>(∃r,c=.bool r)/\∃k,wx=wr.drewN k)
   case first =>
    go_quiet((go_at_call 173;exact Calls.quiet_of_same (HCB.o _)))
    exact cQ68
   case rest =>
    obtain⟨⟨r2,rfl⟩,kk,rfl⟩:=hcut;have HBD:Hid (Below wr.1.size wr (wr.drewN kk)):=below_drewN bR _;obtain⟨W5,hW5⟩:∃W5,wr.drewN kk=W5:=⟨_,rfl⟩
    rw[hW5]at HBD ⊢;have HR5:Hid (NdO W5 w1.1.size lv l/\Below w1.1.size w1 W5/\l.length<=n/\NdB L l):=⟨HR.o.1.below HBD.o,HR.o.2.1.trans (HBD.o.mono HR.o.2.1.size),HR.o.2.2.1,HR.o.2.2.2⟩
    replace p0:=(HBD.o.cell (p:=⟨g,n*4,none⟩) hg).trans p0
    replace p1:=(HBD.o.cell (p:=⟨g,n*4+1,none⟩) hg).trans p1
    replace p2:=(HBD.o.cell (p:=⟨g,n*4+2,none⟩) hg).trans p2
    replace p3:=(HBD.o.cell (p:=⟨g,n*4+3,none⟩) hg).trans p3
    clear hW5 HR x0 x1 x2 x3 x4 HQO HCB HBD
    cases r2 with
    | false =>
     clear p0 p1 p2 p3;go_wp2;go_roundw
     case rel=>exact⟨lv,l,n+1,rfl,by omega,by go_num,HR5.o.1,HR5.o.2.1,by have:=HR5.o.2.2.1;omega,HR5.o.2.2.2⟩
     case measure=>simp[intOf];omega
    | true =>
     have HT:Hid (NOwns (W5.alloc (.cells #[.string xa,.bool xb,.string xc,.string xd] 194)) 194 4 lv (l.map ndRow)):=(HR5.o.1.below ((Below.refl _ W5).alloc nR _)).1;have HK2:Hid (∀(j:Nat)(u:Value),(ndRow (xa,xb,xc,xd))[j]?=some u->(W5.alloc (.cells #[.string xa,.bool xb,.string xc,.string xd] 194)).cell? ⟨W5.1.size,j,none⟩=some u):=fun j u hj=>(AtC.new W5 194 #[.string xa,.bool xb,.string xc,.string xd]).at_ j u hj;have HTL:Hid ((l.map ndRow).length<=100000000000):=by have:=HR5.o.2.2.1;show _<=_;rw[List.length_map];omega
     have HOC:Hid (∀u∈ndRow (xa,xb,xc,xd),u.oneCell'=true):=fun u hu=>by simp[ndRow]at hu;rcases hu with rfl|rfl|rfl|rfl<;>rfl
     go_wp2_with (at_builtin;refine wpList_step fun K' hK'=>?_;refine zat _ rfl (.tmp 84) (.tmp 89) 152 rfl 194 Tryz.u152 _ 4 56 Tryz.i194 rfl dC dC lv _ rfl HT.o W5.1.size (ndRow (xa,xb,xc,xd)) rfl rfl HK2.o HOC.o HTL.o ?_;intro v12 w12 T12 G12 V12;refine hK' _ _ ?_;have HR12:=hide (And.intro T12 (And.intro G12 V12));clear T12 G12 V12 hK')
     have HRL:Hid (NdO w12 w1.1.size v12 (l++[(xa,xb,xc,xd)])/\Below w1.1.size w1 w12/\(l++[(xa,xb,xc,xd)]).length<=n+1/\NdB L (l++[(xa,xb,xc,xd)])):=by
      obtain⟨T12,G12,V12⟩:=HR12.o;obtain⟨k1,k2,k3,k4⟩:=HR5.o;have ba:=k2.alloc k2.size (.cells #[.string xa,.bool xb,.string xc,.string xd] 194);have n1:=k1.below ((Below.refl _ W5).alloc nR (.cells #[.string xa,.bool xb,.string xc,.string xd] 194));exact⟨n1.app T12 V12 ba.size,ba.grown G12 ba.size (fun k hk=>k1.2 k hk),by simp;omega,k4.app HXS.o⟩
     go_roundw
     case rel=>exact⟨v12,l++[(xa,xb,xc,xd)],n+1,rfl,by omega,by go_num,HRL.o⟩
     case measure=>simp[intOf];omega
 by_cases h5:kd=5
 ·subst h5;go_wp2_with fail
  go_loopw [9] (fun i wr=>∃n:Nat,n<=ns.length/\i=.int .i64 n/\Hid (∃ms:List Nd,NdO wr (w.1.size+1) (.slice a1 ns.length c1) ms/\ms.length=ns.length/\NdB L ms/\AtC wr w.1.size 158 #[.int .i64 5,.string p,.string q,.int .i64 at_,.string tx]/\Below w.1.size w wr)) (fun i _=>ns.length-(intOf i).toNat)
  case atStart=>exact⟨0,Nat.zero_le _,rfl,ns,HO1.o.1,rfl,HNB.o,HO1.o.2.1,HO1.o.2.2⟩
  case round =>
   obtain⟨n,hn,rfl,HR⟩:=hrel;clear HO1;by_cases hlt:n<ns.length
   rotate_left
   ·have n1:¬((n:Int)<(ns.length:Int)):=by omega
    obtain⟨ms,hms⟩:=HR.o;have HQ:=hide hms;have HML:Hid (ms.length<=1000):=by have:=hms.2.1;show _<=_;omega
    clear hms HR;go_wp2_with fail
    refine(zee _ _ ms wr HQ.o.1 HML.o).mono ?_;rintro e w6 ⟨v6,ns6,rfl,O6,hl6,hs6,B6⟩;have HO6:Hid (NdO w6 w.1.size v6 ns6/\ns6.length<=ns.length+1/\NdB L ns6/\Below w.1.size w w6):=⟨O6.mono HQ.o.2.2.2.2.size,by have:=HQ.o.2.1;omega,HQ.o.2.2.1.sub hs6,HQ.o.2.2.2.2.trans (B6.mono HQ.o.2.2.2.2.size)⟩
    clear O6 hl6 hs6 B6;go_wp2;go_ret;exact⟨ModR.mk _ ns6 rfl HO6.o.1 HO6.o.2.1 HO6.o.2.2.1,HO6.o.2.2.2⟩
   have n1:(n:Int)<(ns.length:Int):=by omega
   have n2:n<900:=by omega
   have n0:(0:Int)<=(n:Int):=by omega
   obtain⟨ms,hms⟩:=HR.o;have HQ:=hide hms;clear hms HR;obtain⟨g,cap,e1,p0,p1,p2,p3,hfz,hg,hgB⟩:=HQ.o.1.at_ n (by rw[HQ.o.2.1];exact hlt);rw[HQ.o.2.1]at e1;simp only[Value.slice.injEq,true_and]at e1;obtain⟨rfl,rfl⟩:=e1;obtain⟨⟨xa,xb,xc,xd⟩,hX⟩:∃X,ms[n]'(by rw[HQ.o.2.1];exact hlt)=X:=⟨_,rfl⟩
   rw[hX]at p0 p1 p2 p3;simp only at p0 p1 p2 p3;have HXX:=hide hX;clear hX;have x0:=HQ.o.2.2.2.1.c0;have x1:=HQ.o.2.2.2.1.c1;have x2:=HQ.o.2.2.2.1.c2;have x3:=HQ.o.2.2.2.1.c3;have x4:=HQ.o.2.2.2.1.c4;go_upto_region 26 with fail
   go_cut [115]from 94 to 121 (fun c wx=>(∃r,c=.bool r)/\∃k,wx=wr.drewN k)
   case first =>
    by_cases hx:xa=p
    ·subst hx;go_quiet(fail)
     exact cQ68
    ·have hx2:=zbh hx;go_quiet(fail)
     exact cQ68
   case rest =>
    obtain⟨⟨r,rfl⟩,kk,rfl⟩:=hcut;have HBD:Hid (Below wr.1.size wr (wr.drewN kk)):=below_drewN bR _;obtain⟨W5,hW5⟩:∃W5,wr.drewN kk=W5:=⟨_,rfl⟩
    rw[hW5]at HBD ⊢;have HQ5:Hid (NdO W5 (w.1.size+1) (.slice (some ⟨g,0,none⟩) ns.length c1) ms/\AtC W5 w.1.size 158 #[.int .i64 5,.string p,.string q,.int .i64 at_,.string tx]/\Below w.1.size w W5):=⟨HQ.o.1.below HBD.o,HQ.o.2.2.2.1.over HBD.o,HQ.o.2.2.2.2.trans (HBD.o.mono HQ.o.2.2.2.2.size)⟩
    clear hW5 p0 p1 p2 p3 hfz x0 x1 x2 x3 x4
    cases r with
    | false =>
     exact cQ82
    | true =>
     obtain⟨g',cap',e1,p0,p1,p2,p3,hfz,hg',-⟩:=HQ5.o.1.at_ n (by rw[HQ.o.2.1];exact hlt);rw[HQ.o.2.1]at e1;simp only[Value.slice.injEq,Option.some.injEq,Addr.mk.injEq,and_true,true_and]at e1;obtain⟨rfl,rfl⟩:=e1;obtain⟨v0,p0⟩:∃v0,W5.cell? ⟨g,n*4,none⟩=some v0:=⟨_,p0⟩
     have f0:=hfz (n*4);have x0:=HQ5.o.2.1.c0;have x1:=HQ5.o.2.1.c1;have x2:=HQ5.o.2.1.c2;have x3:=HQ5.o.2.1.c3;have x4:=HQ5.o.2.1.c4;have HST:Hid (∃ms:List Nd,NdO (W5.setCell ⟨g,n*4,none⟩ (.string q)) (w.1.size+1) (.slice (some ⟨g,0,none⟩) ns.length c1) ms/\ms.length=ns.length/\NdB L ms/\AtC (W5.setCell ⟨g,n*4,none⟩ (.string q)) w.1.size 158 #[.int .i64 5,.string p,.string q,.int .i64 at_,.string tx]/\Below w.1.size w (W5.setCell ⟨g,n*4,none⟩ (.string q))):=by
      have hnl:n<ms.length:=by rw[HQ.o.2.1];exact hlt
      have hl:=HQ.o.2.1;have hg1:w.1.size<=g:=by omega
      have ho:=HQ5.o.1;rw[←hl]at ho;have:=ho.cellSet n 0 hnl dC (.string q) (q,xb,xc,xd) (by rw[HXX.o];rfl);rw[hl]at this;exact⟨ms.set n (q,xb,xc,xd),this,by rw[List.length_set];exact hl,HQ.o.2.2.1.set n hq,HQ5.o.2.1.other oM _,HQ5.o.2.2.setCell (p:=⟨g,n*4,none⟩) hg1 _⟩
     clear hfz p1 p2 p3;go_wp2;go_roundw
     case rel=>exact⟨n+1,by omega,by go_num,HST.o⟩
     case measure=>simp[intOf];omega
 by_cases h12:kd=1\/kd=2
 rotate_left
 ·have q1:(kd==1)=false:=beq_eq_false_iff_ne.mpr (fun e=>h12 (.inl e));have q2:(kd==2)=false:=beq_eq_false_iff_ne.mpr (fun e=>h12 (.inr e));have q3:(kd==3)=false:=beq_eq_false_iff_ne.mpr h3;have q4:(kd==4)=false:=beq_eq_false_iff_ne.mpr h4;have q5:(kd==5)=false:=beq_eq_false_iff_ne.mpr h5;clear h12 h3 h4 h5;go_wp2;go_ret;exact⟨ModR.mk _ ns rfl (HO1.o.1.mono oM) oM HNB.o,HO1.o.2.2⟩
 rcases h12 with rfl|rfl
 ·have HT:Hid (NOwns (w1.alloc (.cells #[.string p,.bool false,.string ⟨#[]⟩,.string ⟨#[]⟩] 194)) 194 4 (.slice a1 ns.length c1) (ns.map ndRow)):=(HO1.o.1.below ((Below.refl _ w1).alloc nR _)).1;have HK2:Hid (∀(j:Nat)(u:Value),(ndRow ((p,false,⟨#[]⟩,⟨#[]⟩):Nd))[j]?=some u->(w1.alloc (.cells #[.string p,.bool false,.string ⟨#[]⟩,.string ⟨#[]⟩] 194)).cell? ⟨w1.1.size,j,none⟩=some u):=fun j u hj=>(AtC.new w1 194 #[.string p,.bool false,.string ⟨#[]⟩,.string ⟨#[]⟩]).at_ j u hj;have HTL:Hid ((ns.map ndRow).length<=100000000000):=by show _<=_;rw[List.length_map];omega
  have HOC:Hid (∀u∈ndRow ((p,false,⟨#[]⟩,⟨#[]⟩):Nd),u.oneCell'=true):=fun u hu=>by simp[ndRow]at hu;rcases hu with rfl|rfl|rfl<;>rfl
  have HMK:Hid (∀v12 w12,NOwns w12 194 4 v12 (ns.map ndRow++[ndRow ((p,false,⟨#[]⟩,⟨#[]⟩):Nd)])->(w1.alloc (.cells #[.string p,.bool false,.string ⟨#[]⟩,.string ⟨#[]⟩] 194)).grownBy w12 (Value.slice a1 ns.length c1).ownBlock->(∀k,v12.ownBlock=some k->(Value.slice a1 ns.length c1).ownBlock=some k\/(w1.alloc (.cells #[.string p,.bool false,.string ⟨#[]⟩,.string ⟨#[]⟩] 194)).1.size<=k)->NdO w12 (w.1.size+1) v12 (ns++[((p,false,⟨#[]⟩,⟨#[]⟩):Nd)])/\Below w.1.size w w12):=fun v12 w12 T12 G12 V12=>by
   obtain⟨k1,k2,k3⟩:=HO1.o;have ba:=k3.alloc k3.size (.cells #[.string p,.bool false,.string ⟨#[]⟩,.string ⟨#[]⟩] 194);have n1:=k1.below ((Below.refl _ w1).alloc nR (.cells #[.string p,.bool false,.string ⟨#[]⟩,.string ⟨#[]⟩] 194));exact⟨n1.app T12 V12 (by simp;have:=HO2.o;omega),ba.grown G12 ba.size (fun k hk=>by have:=k1.2 k hk;omega)⟩
  have HML:Hid ((ns++[((p,false,⟨#[]⟩,⟨#[]⟩):Nd)]).length<=1000):=by show _<=_;simp;omega
  have x0:=HO1.o.2.1.c0;have x1:=HO1.o.2.1.c1;have x2:=HO1.o.2.1.c2;have x3:=HO1.o.2.1.c3;have x4:=HO1.o.2.1.c4;have HTAIL:Hid (∀v6 ns6 w6 w12,NdO w6 w12.1.size v6 ns6->ns6.length=(ns++[((p,false,⟨#[]⟩,⟨#[]⟩):Nd)]).length->SubN ns6 (ns++[((p,false,⟨#[]⟩,⟨#[]⟩):Nd)])->Below w12.1.size w12 w6->Below w.1.size w w12->(NdO w6 w.1.size v6 ns6/\ns6.length<=ns.length+1/\NdB L ns6)/\Below w.1.size w w6):=fun v6 ns6 w6 w12 O6 hl6 hs6 B6 b=>⟨⟨O6.mono b.size,by simp at hl6;omega,(HNB.o.app hp).sub hs6⟩,b.trans (B6.mono b.size)⟩
  clear h3 h4 h5;go_wp2_with (first| (at_builtin;refine wpList_step fun K' hK'=>?_;refine zat _ rfl (.tmp 18) (.tmp 25) 152 rfl 194 Tryz.u152 _ 4 56 Tryz.i194 rfl dC dC (.slice a1 ns.length c1) _ rfl HT.o w1.1.size (ndRow ((p,false,⟨#[]⟩,⟨#[]⟩):Nd)) rfl rfl HK2.o HOC.o HTL.o ?_;intro v12 w12 T12 G12 V12;refine hK' _ _ ?_;have HR12:=hide (HMK.o v12 w12 T12 G12 V12);clear T12 G12 V12 hK')| (go_at_call 172;refine(zee _ _ (ns++[((p,false,⟨#[]⟩,⟨#[]⟩):Nd)]) w12 HR12.o.1 HML.o).mono ?_;rintro e w6 ⟨v6,ns6,rfl,O6,hl6,hs6,B6⟩;have HO6:=hide (HTAIL.o v6 ns6 w6 w12 O6 hl6 hs6 B6 HR12.o.2);clear O6 hl6 hs6 B6))
  go_ret;exact⟨ModR.mk _ ns6 rfl HO6.o.1.1 HO6.o.1.2.1 HO6.o.1.2.2,HO6.o.2⟩
 ·have HT:Hid (NOwns (w1.alloc (.cells #[.string p,.bool true,.string ⟨#[]⟩,.string ⟨#[]⟩] 194)) 194 4 (.slice a1 ns.length c1) (ns.map ndRow)):=(HO1.o.1.below ((Below.refl _ w1).alloc nR _)).1;have HK2:Hid (∀(j:Nat)(u:Value),(ndRow ((p,true,⟨#[]⟩,⟨#[]⟩):Nd))[j]?=some u->(w1.alloc (.cells #[.string p,.bool true,.string ⟨#[]⟩,.string ⟨#[]⟩] 194)).cell? ⟨w1.1.size,j,none⟩=some u):=fun j u hj=>(AtC.new w1 194 #[.string p,.bool true,.string ⟨#[]⟩,.string ⟨#[]⟩]).at_ j u hj;have HTL:Hid ((ns.map ndRow).length<=100000000000):=by show _<=_;rw[List.length_map];omega
  have HOC:Hid (∀u∈ndRow ((p,true,⟨#[]⟩,⟨#[]⟩):Nd),u.oneCell'=true):=fun u hu=>by simp[ndRow]at hu;rcases hu with rfl|rfl|rfl<;>rfl
  have HMK:Hid (∀v12 w12,NOwns w12 194 4 v12 (ns.map ndRow++[ndRow ((p,true,⟨#[]⟩,⟨#[]⟩):Nd)])->(w1.alloc (.cells #[.string p,.bool true,.string ⟨#[]⟩,.string ⟨#[]⟩] 194)).grownBy w12 (Value.slice a1 ns.length c1).ownBlock->(∀k,v12.ownBlock=some k->(Value.slice a1 ns.length c1).ownBlock=some k\/(w1.alloc (.cells #[.string p,.bool true,.string ⟨#[]⟩,.string ⟨#[]⟩] 194)).1.size<=k)->NdO w12 (w.1.size+1) v12 (ns++[((p,true,⟨#[]⟩,⟨#[]⟩):Nd)])/\Below w.1.size w w12):=fun v12 w12 T12 G12 V12=>by
   obtain⟨k1,k2,k3⟩:=HO1.o;have ba:=k3.alloc k3.size (.cells #[.string p,.bool true,.string ⟨#[]⟩,.string ⟨#[]⟩] 194);have n1:=k1.below ((Below.refl _ w1).alloc nR (.cells #[.string p,.bool true,.string ⟨#[]⟩,.string ⟨#[]⟩] 194));exact⟨n1.app T12 V12 (by simp;have:=HO2.o;omega),ba.grown G12 ba.size (fun k hk=>by have:=k1.2 k hk;omega)⟩
  have HML:Hid ((ns++[((p,true,⟨#[]⟩,⟨#[]⟩):Nd)]).length<=1000):=by show _<=_;simp;omega
  have x0:=HO1.o.2.1.c0;have x1:=HO1.o.2.1.c1;have x2:=HO1.o.2.1.c2;have x3:=HO1.o.2.1.c3;have x4:=HO1.o.2.1.c4;have HTAIL:Hid (∀v6 ns6 w6 w12,NdO w6 w12.1.size v6 ns6->ns6.length=(ns++[((p,true,⟨#[]⟩,⟨#[]⟩):Nd)]).length->SubN ns6 (ns++[((p,true,⟨#[]⟩,⟨#[]⟩):Nd)])->Below w12.1.size w12 w6->Below w.1.size w w12->(NdO w6 w.1.size v6 ns6/\ns6.length<=ns.length+1/\NdB L ns6)/\Below w.1.size w w6):=fun v6 ns6 w6 w12 O6 hl6 hs6 B6 b=>⟨⟨O6.mono b.size,by simp at hl6;omega,(HNB.o.app hp).sub hs6⟩,b.trans (B6.mono b.size)⟩
  clear h3 h4 h5;go_wp2_with (first| (at_builtin;refine wpList_step fun K' hK'=>?_;refine zat _ rfl (.tmp 18) (.tmp 25) 152 rfl 194 Tryz.u152 _ 4 56 Tryz.i194 rfl dC dC (.slice a1 ns.length c1) _ rfl HT.o w1.1.size (ndRow ((p,true,⟨#[]⟩,⟨#[]⟩):Nd)) rfl rfl HK2.o HOC.o HTL.o ?_;intro v12 w12 T12 G12 V12;refine hK' _ _ ?_;have HR12:=hide (HMK.o v12 w12 T12 G12 V12);clear T12 G12 V12 hK')| (go_at_call 172;refine(zee _ _ (ns++[((p,true,⟨#[]⟩,⟨#[]⟩):Nd)]) w12 HR12.o.1 HML.o).mono ?_;rintro e w6 ⟨v6,ns6,rfl,O6,hl6,hs6,B6⟩;have HO6:=hide (HTAIL.o v6 ns6 w6 w12 O6 hl6 hs6 B6 HR12.o.2);clear O6 hl6 hs6 B6))
  go_ret;exact⟨ModR.mk _ ns6 rfl HO6.o.1.1 HO6.o.1.2.1 HO6.o.1.2.2,HO6.o.2⟩
def CallT(B:Nat)(w':World)(e:Ending):Prop:=∃(z1:Option Addr)(y1:Nat)(z2:Option Addr)(y2:Nat)(z3:Option Addr)(y3:Nat)(z4:Option Addr)(y4:Nat)(z5:Option Addr)(y5:Nat)(z6:Option Addr)(y6:Nat)(m':MD)(c:Int)(r:Bool),e=.returned (.tuple #[.agg (M7 m' z1 y1 z2 y2 z3 y3 z4 y4 z5 y5 z6 y6),.int .i64 c,.bool r])/\(r=true->N7 w' (fun k=>B<=k) m' z1 y1 z2 y2 z3 y3 z4 y4 z5 y5 z6 y6/\Sh Z0 m')
theorem call_any(u v iv bv dv pv:Value)(m:MD)(kd:Int)(p q:ByteArray)(at_:Int)(tx:ByteArray)(w:World)(h:MR w u v iv bv dv pv m)(hm:Sh Z0 m)(hp:p.size<=1048576)(hq:q.size<=1048576)(ht:tx.size<=1048576):
  Calls Tryz.prog 142 #[.agg #[u,v,iv,bv,dv,pv,.int .i64 m.nx],.agg #[.int .i64 kd,.string p,.string q,.int .i64 at_,.string tx]] w fun e w'=>CallT w.1.size w' e/\Below w.1.size w w':=by
 obtain⟨a1,c1,a2,c2,a3,c3,a4,c4,a5,c5,a6,c6,rfl,rfl,rfl,rfl,rfl,rfl⟩:=h.form;obtain⟨W0,hW0⟩:∃W0,(((w.alloc (.cells (M7 m a1 c1 a2 c2 a3 c3 a4 c4 a5 c5 a6 c6) 33)).alloc (.cells #[.int .i64 kd,.string p,.string q,.int .i64 at_,.string tx] 158)).alloc (.cells E7 33))=W0:=⟨_,rfl⟩
 have HC:Hid (∀W,Below W0.1.size W0 W->AtC W w.1.size 33 (M7 m a1 c1 a2 c2 a3 c3 a4 c4 a5 c5 a6 c6)/\AtC W (w.1.size+1) 158 #[.int .i64 kd,.string p,.string q,.int .i64 at_,.string tx]/\AtC W (w.1.size+1+1) 33 E7/\Below w.1.size w W/\w.1.size+1+1<W.1.size):=fun W b=>by
  rw[←hW0]at b;have z:=b.size;simp at z;have k1:AtC (((w.alloc (.cells (M7 m a1 c1 a2 c2 a3 c3 a4 c4 a5 c5 a6 c6) 33)).alloc (.cells #[.int .i64 kd,.string p,.string q,.int .i64 at_,.string tx] 158)).alloc (.cells E7 33)) w.1.size 33 (M7 m a1 c1 a2 c2 a3 c3 a4 c4 a5 c5 a6 c6):=((AtC.new w 33 (M7 m a1 c1 a2 c2 a3 c3 a4 c4 a5 c5 a6 c6)).alloc _).alloc _;have k2:=(AtC.new (w.alloc (.cells (M7 m a1 c1 a2 c2 a3 c3 a4 c4 a5 c5 a6 c6) 33)) 158 #[.int .i64 kd,.string p,.string q,.int .i64 at_,.string tx]).alloc (.cells E7 33);have k3:=AtC.new ((w.alloc (.cells (M7 m a1 c1 a2 c2 a3 c3 a4 c4 a5 c5 a6 c6) 33)).alloc (.cells #[.int .i64 kd,.string p,.string q,.int .i64 at_,.string tx] 158)) 33 E7;have e2:(w.alloc (.cells (M7 m a1 c1 a2 c2 a3 c3 a4 c4 a5 c5 a6 c6) 33)).1.size=w.1.size+1:=by simp
  have e3:((w.alloc (.cells (M7 m a1 c1 a2 c2 a3 c3 a4 c4 a5 c5 a6 c6) 33)).alloc (.cells #[.int .i64 kd,.string p,.string q,.int .i64 at_,.string tx] 158)).1.size=w.1.size+1+1:=by simp
  rw[e2]at k2;rw[e3]at k3;have b0:Below w.1.size w (((w.alloc (.cells (M7 m a1 c1 a2 c2 a3 c3 a4 c4 a5 c5 a6 c6) 33)).alloc (.cells #[.int .i64 kd,.string p,.string q,.int .i64 at_,.string tx] 158)).alloc (.cells E7 33)):=(((Below.refl _ w).alloc nR _).alloc sI _).alloc sO _;exact⟨k1.over b,k2.over b,k3.over b,b0.trans (b.mono b0.size),by omega⟩
 have HB0:Hid (Below W0.1.size W0 W0):=Below.refl _ _;have HM0:Hid (R7 W0 m a1 c1 a2 c2 a3 c3 a4 c4 a5 c5 a6 c6):=h.below (HC.o W0 HB0.o).2.2.2.1 nR;have HM:=hide hm;obtain⟨x0,x1,x2,x3,x4,x5,x6⟩:=AtC.sev ((HC.o W0 HB0.o).1);have e0:=(HC.o W0 HB0.o).2.1.c0;have e1:=(HC.o W0 HB0.o).2.1.c1;have e2:=(HC.o W0 HB0.o).2.1.c2;have e3:=(HC.o W0 HB0.o).2.1.c3;have e4:=(HC.o W0 HB0.o).2.1.c4;clear h hm;go_enter Tryz.func142,Tryz.ntmps142
 by_cases h1:kd=1
 ·subst h1;go_wp2_with fail
  refine(zep _ _ _ _ _ _ m p 1 W0 HM0.o HM.o hp).mono ?_;rintro e w1 ⟨⟨u1,u2,u3,u4,u5,u6,m1,cc,rfl,O1,S1⟩,B1⟩;obtain⟨s1,t1,s2,t2,s3,t3,s4,t4,s5,t5,s6,t6,rfl,rfl,rfl,rfl,rfl,rfl⟩:=O1.mr.form;obtain⟨W2,hW2⟩:∃W2,w1.alloc (.cells (M7 m1 s1 t1 s2 t2 s3 t3 s4 t4 s5 t5 s6 t6) 33)=W2:=⟨_,rfl⟩
  exact cQ0
 by_cases h2:kd=2
 ·subst h2;go_wp2_with fail
  refine(zep _ _ _ _ _ _ m p 2 W0 HM0.o HM.o hp).mono ?_;rintro e w1 ⟨⟨u1,u2,u3,u4,u5,u6,m1,cc,rfl,O1,S1⟩,B1⟩;obtain⟨s1,t1,s2,t2,s3,t3,s4,t4,s5,t5,s6,t6,rfl,rfl,rfl,rfl,rfl,rfl⟩:=O1.mr.form;obtain⟨W2,hW2⟩:∃W2,w1.alloc (.cells (M7 m1 s1 t1 s2 t2 s3 t3 s4 t4 s5 t5 s6 t6) 33)=W2:=⟨_,rfl⟩
  exact cQ0
 by_cases h3:kd=3
 ·subst h3;go_wp2_with fail
  refine(zg6 _ _ _ _ _ _ m p at_ tx W0 HM0.o HM.o hp ht).mono ?_;rintro e w1 ⟨⟨u1,u2,u3,u4,u5,u6,m1,cc,rfl,O1,S1⟩,B1⟩;obtain⟨s1,t1,s2,t2,s3,t3,s4,t4,s5,t5,s6,t6,rfl,rfl,rfl,rfl,rfl,rfl⟩:=O1.mr.form;obtain⟨W2,hW2⟩:∃W2,w1.alloc (.cells (M7 m1 s1 t1 s2 t2 s3 t3 s4 t4 s5 t5 s6 t6) 33)=W2:=⟨_,rfl⟩
  exact cQ0
 by_cases h4:kd=4
 ·subst h4;go_wp2_with fail
  refine(zk4 _ _ _ _ _ _ m p W0 HM0.o HM.o hp).mono ?_;rintro e w1 ⟨⟨u1,u2,u3,u4,u5,u6,m1,cc,rfl,O1,S1⟩,B1⟩;obtain⟨s1,t1,s2,t2,s3,t3,s4,t4,s5,t5,s6,t6,rfl,rfl,rfl,rfl,rfl,rfl⟩:=O1.mr.form;obtain⟨W2,hW2⟩:∃W2,w1.alloc (.cells (M7 m1 s1 t1 s2 t2 s3 t3 s4 t4 s5 t5 s6 t6) 33)=W2:=⟨_,rfl⟩
  exact cQ0
 by_cases h5:kd=5
 ·subst h5;go_wp2_with fail
  refine(move_any _ _ _ _ _ _ m p q W0 HM0.o HM.o hp hq).mono ?_;rintro e w1 ⟨⟨u1,u2,u3,u4,u5,u6,m1,cc,rfl,O1,S1⟩,B1⟩;obtain⟨s1,t1,s2,t2,s3,t3,s4,t4,s5,t5,s6,t6,rfl,rfl,rfl,rfl,rfl,rfl⟩:=O1.mr.form;obtain⟨W2,hW2⟩:∃W2,w1.alloc (.cells (M7 m1 s1 t1 s2 t2 s3 t3 s4 t4 s5 t5 s6 t6) 33)=W2:=⟨_,rfl⟩
  exact cQ0
 have q1:(kd==1)=false:=beq_eq_false_iff_ne.mpr h1;have q2:(kd==2)=false:=beq_eq_false_iff_ne.mpr h2;have q3:(kd==3)=false:=beq_eq_false_iff_ne.mpr h3;have q4:(kd==4)=false:=beq_eq_false_iff_ne.mpr h4;have q5:(kd==5)=false:=beq_eq_false_iff_ne.mpr h5;obtain⟨r0,r1,r2,r3,r4,r5,r6⟩:=AtC.sev ((HC.o W0 HB0.o).2.2.1);have v0:=(HC.o W0 HB0.o).2.2.1.frozen 0;have v1:=(HC.o W0 HB0.o).2.2.1.frozen 1;have v2:=(HC.o W0 HB0.o).2.2.1.frozen 2;have v3:=(HC.o W0 HB0.o).2.2.1.frozen 3;have v4:=(HC.o W0 HB0.o).2.2.1.frozen 4;have v5:=(HC.o W0 HB0.o).2.2.1.frozen 5;have v6:=(HC.o W0 HB0.o).2.2.1.frozen 6;go_wp2;refine bodyPost_ret (v:=.tuple #[.agg (M7 m a1 c1 a2 c2 a3 c3 a4 c4 a5 c5 a6 c6),.int .i64 0,.bool false]) sR7 rfl ⟨⟨_,_,_,_,_,_,_,_,_,_,_,_,m,_,_,rfl,fun e=>by simp at e⟩,zab (HC.o W0 HB0.o).2.2.2.1 oM _ _ _ _ _ _ _⟩
namespace Kit
structure Wp(w:World)(B b n:Nat)(a1 a2 a3 a4 a5 a6 ta ma ka pa:Option Addr)(c1 c2 c3 c4 c5 c6 tc mc kc pl pc:Nat)(m:MD)(ts:List ByteArray)(ns:List Nd)(cs:List Int):Prop where
 mo:N7 w (fun k=>B<=k/\k≠b) m a1 c1 a2 c2 a3 c3 a4 c4 a5 c5 a6 c6
 sh:Sh Z0 m
 dv:ROwns w B 9 (.slice ta ts.length tc) (stc ts)
 dn:∀k,(Value.slice ta ts.length tc).ownBlock=some k->k≠b
 dk:DvOk ts
 nd:NdO w B (.slice ma ns.length mc) ns
 nn:∀k,(Value.slice ma ns.length mc).ownBlock=some k->k≠b
 nl:ns.length<=n
 nb:NdB (8*n) ns
 co:ROwns w B 3 (.slice ka cs.length kc) (ic cs)
 cn:∀k,(Value.slice ka cs.length kc).ownBlock=some k->k≠b
 cl:cs.length<=n
namespace Wp
variable {w w' : World} {B b n : Nat} {a1 a2 a3 a4 a5 a6 ta ma ka pa : Option Addr} {c1 c2 c3 c4 c5 c6 tc mc kc pl pc : Nat} {m : MD} {ts : List ByteArray} {ns : List Nd} {cs : List Int}
theorem of_heap(h:Wp w B b n a1 a2 a3 a4 a5 a6 ta ma ka pa c1 c2 c3 c4 c5 c6 tc mc kc pl pc m ts ns cs)(hh:∀k,k<w.1.size->k≠b->w'.1[k]?=w.1[k]?):Wp w' B b n a1 a2 a3 a4 a5 a6 ta ma ka pa c1 c2 c3 c4 c5 c6 tc mc kc pl pc m ts ns cs :=
 ⟨h.mo.bound.of_heap (fun k hk _=>hh k hk.2 hk.1.2)|>.mono (fun _ hk=>hk.1),h.sh,h.dv.of_heap (fun k hk=>hh k (h.dv.lt k hk).2 (h.dn k hk)),h.dn,h.dk,h.nd.of_heap (fun k hk=>hh k (h.nd.lt k hk).2 (h.nn k hk)),h.nn,h.nl,h.nb,h.co.of_heap (fun k hk=>hh k (h.co.lt k hk).2 (h.cn k hk)),h.cn,h.cl⟩
theorem below(h:Wp w B b n a1 a2 a3 a4 a5 a6 ta ma ka pa c1 c2 c3 c4 c5 c6 tc mc kc pl pc m ts ns cs)(hb:Below w.1.size w w'):Wp w' B b n a1 a2 a3 a4 a5 a6 ta ma ka pa c1 c2 c3 c4 c5 c6 tc mc kc pl pc m ts ns cs:=h.of_heap (fun k hk _=>hb.block k hk)
theorem grown(h:Wp w B b n a1 a2 a3 a4 a5 a6 ta ma ka pa c1 c2 c3 c4 c5 c6 tc mc kc pl pc m ts ns cs)(hg:w.grownBy w' (some b)):Wp w' B b n a1 a2 a3 a4 a5 a6 ta ma ka pa c1 c2 c3 c4 c5 c6 tc mc kc pl pc m ts ns cs:=h.of_heap (fun k hk hn=>hg.block k hk (by simpa using hn))
theorem more{n':Nat}(h:Wp w B b n a1 a2 a3 a4 a5 a6 ta ma ka pa c1 c2 c3 c4 c5 c6 tc mc kc pl pc m ts ns cs)(hn:n<=n'):Wp w B b n' a1 a2 a3 a4 a5 a6 ta ma ka pa c1 c2 c3 c4 c5 c6 tc mc kc pl pc m ts ns cs:=⟨h.mo,h.sh,h.dv,h.dn,h.dk,h.nd,h.nn,Nat.le_trans h.nl hn,h.nb.mono oM,h.co,h.cn,Nat.le_trans h.cl hn⟩
end Wp
def WB(w:World)(B b n:Nat):Prop:=∃(a1 a2 a3 a4 a5 a6 ta ma ka pa:Option Addr)(c1 c2 c3 c4 c5 c6 tc mc kc pl pc:Nat)(m:MD)(ts:List ByteArray)(ns:List Nd)(cs:List Int),AtC w b 154 #[.slice a1 m.1.length c1,.slice a2 m.2.length c2,.slice a3 m.3.length c3,.slice a4 m.4.length c4,.slice a5 m.5.length c5,.slice a6 m.6.length c6,.int .i64 m.nx,.slice ta ts.length tc,.slice ma ns.length mc,.slice ka cs.length kc,.slice pa pl pc]/\Wp w B b n a1 a2 a3 a4 a5 a6 ta ma ka pa c1 c2 c3 c4 c5 c6 tc mc kc pl pc m ts ns cs/\B<=b
theorem WB.below{w w':World}{B b n:Nat}(h:WB w B b n)(hb:Below w.1.size w w'):WB w' B b n:=by
 obtain⟨a1,a2,a3,a4,a5,a6,ta,ma,ka,pa,c1,c2,c3,c4,c5,c6,tc,mc,kc,pl,pc,m,ts,ns,cs,h1,h2,h3⟩:=h;exact⟨a1,a2,a3,a4,a5,a6,ta,ma,ka,pa,c1,c2,c3,c4,c5,c6,tc,mc,kc,pl,pc,m,ts,ns,cs,h1.over hb,h2.below hb,h3⟩
theorem zar{w w':World}{b i:Nat}{x:Value}(h:w.grownBy w' (some b)):w.grownBy (w'.setCell ⟨b,i,none⟩ x) (some b) :=
 ⟨h.os,h.tape,h.output,Nat.le_trans h.size sI,fun k hk hn=>(heap_setCell_other w' ⟨b,i,none⟩ k _ (fun e=>hn (by simp[e]))).trans (h.block k hk hn)⟩
theorem zbp(w:World)(row:Option Nat):w.grownBy w row:=⟨rfl,rfl,rfl,Nat.le_refl _,fun _ _ _=>rfl⟩
end Kit
namespace Kit
section
variable {P : Program} {ops : Array Oper} {Q : Exit -> Act -> World -> Prop}
theorem upd_same{α:Type}(x:Nat->α)(j:Nat):upd x j (x j)=x:=funext fun i=>by
 unfold upd
 split
 ·rename_i e;rw[e]
 ·rfl
theorem zeq{id:Nat}{w:World}{a0:Act}(hm:P.follows .mixedOrders=true)(js:List Nat)(st:Nat)(need:List Nat)(L:Nat->Mk)(act:(Nat->Value)->Act)(x0:Nat->Value)(ha:a0=act x0)(F:(Nat->Value)->(Nat->Nat×Nat)->World->World)
  (ok:zc0 .any ops (st::js) []=true) (okl:zco .any ops (st::js) []=true) (okd:zei ops js (fun i=>(L i).deps)=true) (okn:zei ops [st] (fun _=>need)=true) (hsz:0+(st::js).length=ops.size) (hst:st∉js) (hdj:∀j∈js,st∉(L j).deps)
  (hF:∀j v p x iv W,j∉need->F (upd x j v) (upd iv j p) W=F x iv W)
  (prod:∀j∈js,∀s x iv W,(∀k∈(L j).deps,k∈s)->PX w.drew s (fun i lo hi w x=>(L i).P lo hi w (x i) x) x iv W->∀K:Act->World->Prop,(∀v W',Below W.1.size W W'->(L j).P W.1.size W'.1.size W' v (upd x j v)->K (act (upd x j v)) W')->wpOp P ops Q j K (act x) W)
  (prod2:∀j∈js,j∉need->∀s x iv W',(∀k∈(L j).deps,k∈s)->PX w.drew s (fun i lo hi w x=>(L i).P lo hi w (x i) x) x iv W'->∀(W:World)(K:Act->World->Prop),(∀v,(L j).P W'.1.size W'.1.size W' v (upd x j v)->K (act (upd x j v)) W)->wpOp P ops Q j K (act x) W)
  (store:∀s x iv W,(∀k∈need,k∈s)->PX w.drew s (fun i lo hi w x=>(L i).P lo hi w (x i) x) x iv W->∀K:Act->World->Prop,K (act x) (F x iv W)->wpOp P ops Q st K (act x) W)
  (done:∀x iv W,PX w.drew js (fun i lo hi w x=>(L i).P lo hi w (x i) x) x iv W->Q .normal (act x) (F x iv W)):(Code.region id ops true).wp P Q a0 w:=by
 have depG:∀(D:Nat->List Nat)(l:List Nat),zei ops l D=true->∀j∈l,∀s,j∈Region.ready .any ops (mask ops.size s)->∀k∈D j,k∈s:=by
  intro D l okl j hj s hr k hk;have h:=List.all_eq_true.1 okl j hj
  exact cQ31
 subst ha;refine wp_region_any hm ?_;have h:=zdx (P:=P) (Q:=Q) (md:=.any) (st::js) [] 0 act (fun s x W=>((∀i∈s,i≠st->∀k∈(L i).deps,k∈s)/\∀i∈s,i∈st::js)/\((st∉s/\∃iv,PX w.drew s (fun i lo hi w x=>(L i).P lo hi w (x i) x) x iv W)\/(st∈s/\(∀k∈need,k∈s)/\∃iv W',PX w.drew (s.filter (· != st)) (fun i lo hi w x=>(L i).P lo hi w (x i) x) x iv W'/\W=F x iv W'))) ok ?_ ?_ ?_ (st::js).length 0 [] x0 w.drew (List.length_filter_le _ _) nR (fun i hi=>by cases hi) (fun i hi=>by cases hi) ⟨⟨(fun i hi=>by cases hi),(fun i hi=>by cases hi)⟩,.inl ⟨by simp,fun _=>(0,0),⟨Below.refl _ _,(fun i hi=>by cases hi),(fun i hi=>by cases hi),(fun i hi=>by cases hi)⟩⟩⟩
 ·rw[hsz,zgq]at h;exact h
 ·intro j hj s x W hr hns hI K hK;obtain⟨⟨hcl,hin⟩,hI⟩:=hI;have hin2:∀i∈j::s,i∈st::js:=fun i hi=>(List.mem_cons.1 hi).elim (fun e=>e ▸ hj) (hin i);rcases List.mem_cons.1 hj with rfl|hj
  ·have hnd:=depG (fun _=>need) [j] okn j sI s hr;rcases hI with⟨h1,iv,hp⟩| ⟨h1,-⟩
   ·refine store s x iv W hnd hp K ?_;have:=hK (x j) (F x iv W);rw[upd_same]at this;refine this ⟨⟨fun i hi hne k hk=>?_,hin2⟩,.inr ⟨by simp,fun k hk=>List.mem_cons_of_mem _ (hnd k hk),iv,W,hp.of_mem fun i hi=>?_,rfl⟩⟩
    ·rcases List.mem_cons.1 hi with e|hi
     ·exact absurd e hne
     ·exact List.mem_cons_of_mem _ (hcl i hi hne k hk)
    ·have:=List.mem_filter.1 hi;rcases List.mem_cons.1 this.1 with e|hi
     ·rw[e]at this;simp at this
     ·exact hi
   ·exact absurd h1 hns
  ·have hd:=depG (fun i=>(L i).deps) js okd j hj s hr;have hjst:j≠st:=fun e=>hst (e ▸ hj);rcases hI with⟨h1,iv,hp⟩| ⟨h1,hnd,iv,W',hp,rfl⟩
   ·refine prod j hj s x iv W hd hp K fun v W' hb hpo=>hK v W' ⟨⟨fun i hi hne k hk=>?_,hin2⟩,.inl ⟨fun e=>?_,_,hp.add (fun i=>(L i).deps) (fun i lo hi w w' x h hb=>(L i).st lo hi w w' (x i) x h hb) (fun i lo hi w x x' e1 e2 h=>by rw[←e1];exact(L i).cg lo hi w (x i) x x' e2 h) (fun i hi k hk=>hcl i hi (fun e=>h1 (e ▸ hi)) k hk) hns hb (by rw[za0];exact hpo)⟩⟩
    ·exact cQ88
    ·rcases List.mem_cons.1 e with e|e
     ·exact hjst e.symm
     ·exact h1 e
   ·have hjn:j∉need:=fun e=>hns (hnd j e);have hd2:∀k∈(L j).deps,k∈s.filter (· != st):=fun k hk=>List.mem_filter.2 ⟨hd k hk,by simp;exact fun e=>hdj j hj (e ▸ hk)⟩;refine prod2 j hj hjn _ x iv W' hd2 hp (F x iv W') K fun v hpo=>hK v (F x iv W') ⟨⟨fun i hi hne k hk=>?_,hin2⟩,.inr ⟨List.mem_cons_of_mem _ h1,fun k hk=>List.mem_cons_of_mem _ (hnd k hk),upd iv j (W'.1.size,W'.1.size),W',?_,?_⟩⟩
    ·exact cQ88
    ·have hn2:¬j∈s.filter (· != st):=fun e=>hns (List.mem_filter.1 e).1;have hcl2:∀i∈s.filter (· != st),∀k∈(L i).deps,k∈s.filter (· != st):=fun i hi k hk=>by
      have h3:=List.mem_filter.1 hi;have hne:i≠st:=by simpa using h3.2
      refine List.mem_filter.2 ⟨hcl i h3.1 hne k hk,?_⟩;have hij:i∈js:=(List.mem_cons.1 (hin i h3.1)).elim (fun e=>absurd e hne) (fun e=>e);simp;exact fun e=>hdj i hij (e ▸ hk)
     have:=hp.add (j:=j) (v:=v) (fun i=>(L i).deps) (fun i lo hi w w' x h hb=>(L i).st lo hi w w' (x i) x h hb) (fun i lo hi w x x' e1 e2 h=>by rw[←e1];exact(L i).cg lo hi w (x i) x x' e2 h) hcl2 hn2 bR (by rw[za0];exact hpo);refine this.of_mem fun i hi=>?_;have h3:=List.mem_filter.1 hi;rcases List.mem_cons.1 h3.1 with e|e
     ·rw[e];simp
     ·exact List.mem_cons_of_mem _ (List.mem_filter.2 ⟨e,h3.2⟩)
    ·rw[hF j v _ x iv W' hjn]
 ·intro s x W f hf hs hI;obtain⟨-,hI⟩:=hI;rcases hI with⟨h1,-⟩| ⟨h1,hnd,iv,W',hp,rfl⟩
  ·exact absurd (hs st sI) h1
  ·refine zcf [] (st::js) f (act x) _ okl (Nat.zero_le _) ?_;have:=done x iv W' (hp.of_mem fun i hi=>List.mem_filter.2 ⟨hs i (List.mem_cons_of_mem _ hi),by simp;exact fun e=>hst (e ▸ hi)⟩);simpa[wpList]using this
 ·intro t ht
  cases ht
end
end Kit
namespace Kit
def MkU3(ds:List Nat)(R:Nat->Nat->World->Value->Value->Value->Prop)(hst:∀lo hi w w' a r q,R lo hi w a r q->Below w.1.size w w'->R lo hi w' a r q):Mk:=.val ds (fun lo hi w v=>∃a r q,v=.tuple #[a,r,q]/\R lo hi w a r q)
 (fun lo hi w w' _ h hb=>by obtain⟨a,r,q,h1,h2⟩:=h;exact⟨a,r,q,h1,hst lo hi w w' a r q h2 hb⟩)
def MkId(k:Nat):Mk:=.val1 [k] k sI (fun _ _ _ u v=>v=u) (fun _ _ _ _ _ _ h _=>h)
def CallW(lo hi:Nat)(w:World)(a r q:Value):Prop:=∃(z1:Option Addr)(y1:Nat)(z2:Option Addr)(y2:Nat)(z3:Option Addr)(y3:Nat)(z4:Option Addr)(y4:Nat)(z5:Option Addr)(y5:Nat)(z6:Option Addr)(y6:Nat)(m':MD)(cc:Int)(rr:Bool),a=.agg (M7 m' z1 y1 z2 y2 z3 y3 z4 y4 z5 y5 z6 y6)/\r=.int .i64 cc/\q=.bool rr/\(rr=true->N7 w (fun k=>lo<=k/\k<hi) m' z1 y1 z2 y2 z3 y3 z4 y4 z5 y5 z6 y6/\Sh Z0 m')
theorem CallW.below(lo hi:Nat)(w w':World)(a r q:Value)(h:CallW lo hi w a r q)(hb:Below w.1.size w w'):CallW lo hi w' a r q:=by
 obtain⟨z1,y1,z2,y2,z3,y3,z4,y4,z5,y5,z6,y6,m',cc,rr,h1,h2,h3,h4⟩:=h;exact⟨z1,y1,z2,y2,z3,y3,z4,y4,z5,y5,z6,y6,m',cc,rr,h1,h2,h3,fun e=>⟨(h4 e).1.below hb nR,(h4 e).2⟩⟩
structure WBd(wx w:World)(B b n:Nat)(a1 a2 a3 a4 a5 a6 ta ma ka pa:Option Addr)(c1 c2 c3 c4 c5 c6 tc mc kc pl pc:Nat)(m:MD)(ts:List ByteArray)(ns:List Nd)(cs:List Int)(E:Array Value):Prop where
 bx:AtC wx b 154 #[.slice a1 m.1.length c1,.slice a2 m.2.length c2,.slice a3 m.3.length c3,.slice a4 m.4.length c4,.slice a5 m.5.length c5,.slice a6 m.6.length c6,.int .i64 m.nx,.slice ta ts.length tc,.slice ma ns.length mc,.slice ka cs.length kc,.slice pa pl pc]
 wp:Wp wx B b n a1 a2 a3 a4 a5 a6 ta ma ka pa c1 c2 c3 c4 c5 c6 tc mc kc pl pc m ts ns cs
 ev:AtC wx w.1.size 158 E
 gr:w.grownBy wx (some b)
theorem WBd.below{wx wx' w:World}{B b n:Nat}{a1 a2 a3 a4 a5 a6 ta ma ka pa:Option Addr}{c1 c2 c3 c4 c5 c6 tc mc kc pl pc:Nat}{m:MD}{ts:List ByteArray}{ns:List Nd}{cs:List Int}{E:Array Value}(h:WBd wx w B b n a1 a2 a3 a4 a5 a6 ta ma ka pa c1 c2 c3 c4 c5 c6 tc mc kc pl pc m ts ns cs E)(hb:Below wx.1.size wx wx'):WBd wx' w B b n a1 a2 a3 a4 a5 a6 ta ma ka pa c1 c2 c3 c4 c5 c6 tc mc kc pl pc m ts ns cs E:=⟨h.bx.over hb,h.wp.below hb,h.ev.over hb,zae h.gr (zal hb _)⟩
def WBc(w wx:World)(B b n:Nat)(E:Array Value):Prop:=∃(a1 a2 a3 a4 a5 a6 ta ma ka pa:Option Addr)(c1 c2 c3 c4 c5 c6 tc mc kc pl pc:Nat)(m:MD)(ts:List ByteArray)(ns:List Nd)(cs:List Int),AtC wx b 154 #[.slice a1 m.1.length c1,.slice a2 m.2.length c2,.slice a3 m.3.length c3,.slice a4 m.4.length c4,.slice a5 m.5.length c5,.slice a6 m.6.length c6,.int .i64 m.nx,.slice ta ts.length tc,.slice ma ns.length mc,.slice ka cs.length kc,.slice pa pl pc]/\Wp wx B b (n+1) a1 a2 a3 a4 a5 a6 ta ma ka pa c1 c2 c3 c4 c5 c6 tc mc kc pl pc m ts ns cs/\cs.length<=n/\AtC wx w.1.size 158 E/\w.grownBy wx (some b)
theorem WBd.wbc{wx w:World}{B b n:Nat}{a1 a2 a3 a4 a5 a6 ta ma ka pa:Option Addr}{c1 c2 c3 c4 c5 c6 tc mc kc pl pc:Nat}{m:MD}{ts:List ByteArray}{ns:List Nd}{cs:List Int}{E:Array Value}(h:WBd wx w B b n a1 a2 a3 a4 a5 a6 ta ma ka pa c1 c2 c3 c4 c5 c6 tc mc kc pl pc m ts ns cs E):WBc w wx B b n E:=⟨a1,a2,a3,a4,a5,a6,ta,ma,ka,pa,c1,c2,c3,c4,c5,c6,tc,mc,kc,pl,pc,m,ts,ns,cs,h.bx,h.wp.more oM,h.wp.cl,h.ev,h.gr⟩
def FsI(lo hi:Nat)(w:World)(a:Value):Prop:=∃(n1:Option Addr)(o1:Nat)(n2:Option Addr)(o2:Nat)(n3:Option Addr)(o3:Nat)(n4:Option Addr)(o4:Nat)(n5:Option Addr)(o5:Nat)(n6:Option Addr)(o6:Nat)(n7:Option Addr)(o7:Nat)(mf:MD)(tf:List ByteArray),a=.agg (M9 mf n1 o1 n2 o2 n3 o3 n4 o4 n5 o5 n6 o6 n7 tf.length o7)/\N7 w (fun k=>lo<=k/\k<hi) mf n1 o1 n2 o2 n3 o3 n4 o4 n5 o5 n6 o6/\ROwns w lo 9 (.slice n7 tf.length o7) (stc tf)/\(∀k,(Value.slice n7 tf.length o7).ownBlock=some k->k<hi)/\Sh Z0 mf/\DvOk tf
def FsR(lo hi:Nat)(w:World)(a r:Value):Prop:=FsI lo hi w a/\∃b,r=.bool b
theorem FsR.below(lo hi:Nat)(w w':World)(a r:Value)(h:FsR lo hi w a r)(hb:Below w.1.size w w'):FsR lo hi w' a r:=by
 obtain⟨⟨n1,o1,n2,o2,n3,o3,n4,o4,n5,o5,n6,o6,n7,o7,mf,tf,h1,h2,h3,h4,h5⟩,h6⟩:=h;exact⟨⟨n1,o1,n2,o2,n3,o3,n4,o4,n5,o5,n6,o6,n7,o7,mf,tf,h1,h2.below hb nR,h3.below hb nR,h4,h5⟩,h6⟩
def st8v(W:World)(b:Nat)(v:Value):World:=match v with
 | .agg xs=>(((((((W.setCell ⟨b,0,none⟩ (xs.getD 0 undef)).setCell ⟨b,1,none⟩ (xs.getD 1 undef)).setCell ⟨b,2,none⟩ (xs.getD 2 undef)).setCell ⟨b,3,none⟩ (xs.getD 3 undef)).setCell ⟨b,4,none⟩ (xs.getD 4 undef)).setCell ⟨b,5,none⟩ (xs.getD 5 undef)).setCell ⟨b,6,none⟩ (xs.getD 6 undef)).setCell ⟨b,7,none⟩ (xs.getD 7 undef)
 | _=>W
def st7v(W:World)(b:Nat)(v:Value):World:=match v with
 | .agg xs=>((((((W.setCell ⟨b,0,none⟩ (xs.getD 0 undef)).setCell ⟨b,1,none⟩ (xs.getD 1 undef)).setCell ⟨b,2,none⟩ (xs.getD 2 undef)).setCell ⟨b,3,none⟩ (xs.getD 3 undef)).setCell ⟨b,4,none⟩ (xs.getD 4 undef)).setCell ⟨b,5,none⟩ (xs.getD 5 undef)).setCell ⟨b,6,none⟩ (xs.getD 6 undef)
 | _=>W
end Kit
theorem do_any(B b n:Nat)(kd:Int)(p q:ByteArray)(at_:Int)(tx:ByteArray)(w:World)(h:WB w B b n)(hn:n<=100)(hk1:1<=kd)(hk7:kd<=7)(hp:p.size<=8*n+3)(hq:q.size<=8*n+3)(ht:tx.size<=16):
  Calls Tryz.prog 115 #[.pointer (some ⟨b,0,none⟩),.agg #[.int .i64 kd,.string p,.string q,.int .i64 at_,.string tx]] w fun e w'=>e=.returned (.tuple #[])/\WB w' B b (n+1)/\w.grownBy w' (some b):=by
 obtain⟨a1,a2,a3,a4,a5,a6,ta,ma,ka,pa,c1,c2,c3,c4,c5,c6,tc,mc,kc,pl,pc,m,ts,ns,cs,hbx,hwp,hBb⟩:=h;obtain⟨W0,hW0⟩:∃W0,w.alloc (.cells #[.int .i64 kd,.string p,.string q,.int .i64 at_,.string tx] 158)=W0:=⟨_,rfl⟩
 have HC:Hid (∀W,Below W0.1.size W0 W->AtC W b 154 #[.slice a1 m.1.length c1,.slice a2 m.2.length c2,.slice a3 m.3.length c3,.slice a4 m.4.length c4,.slice a5 m.5.length c5,.slice a6 m.6.length c6,.int .i64 m.nx,.slice ta ts.length tc,.slice ma ns.length mc,.slice ka cs.length kc,.slice pa pl pc]/\AtC W w.1.size 158 #[.int .i64 kd,.string p,.string q,.int .i64 at_,.string tx]/\Wp W B b n a1 a2 a3 a4 a5 a6 ta ma ka pa c1 c2 c3 c4 c5 c6 tc mc kc pl pc m ts ns cs/\Below w.1.size w W/\w.1.size<W.1.size):=fun W bb=>by
  rw[←hW0]at bb;have b0:Below w.1.size w W:=((Below.refl _ w).alloc nR _).trans (bb.mono sI);have z:=bb.size;simp at z;exact⟨hbx.over b0,(AtC.new w 158 _).over bb,hwp.below b0,b0,by omega⟩
 have HB0:Hid (Below W0.1.size W0 W0):=Below.refl _ _;have hbw:b<w.1.size:=hbx.lt;have hp6:p.size<=1048576:=by omega
 have hq6:q.size<=1048576:=by omega
 have ht6:tx.size<=1048576:=by omega
 have HSH:=hide hwp.sh;have HWW:Hid (w.1.size<W0.1.size):=by rw[←hW0];show _<_;simp
 clear hbx hwp;go_enter Tryz.func115,Tryz.ntmps115
 go_upto_region 1 with fail
 clear hW0;have HXW:Hid (∀W,Below W0.1.size W0 W->(W.cell? ⟨b,0,none⟩=some (.slice a1 m.1.length c1)/\W.cell? ⟨b,1,none⟩=some (.slice a2 m.2.length c2)/\W.cell? ⟨b,2,none⟩=some (.slice a3 m.3.length c3)/\W.cell? ⟨b,3,none⟩=some (.slice a4 m.4.length c4)/\W.cell? ⟨b,4,none⟩=some (.slice a5 m.5.length c5)/\W.cell? ⟨b,5,none⟩=some (.slice a6 m.6.length c6)/\W.cell? ⟨b,6,none⟩=some (.int .i64 m.nx))/\(W.cell? ⟨w.1.size,0,none⟩=some (.int .i64 kd)/\W.cell? ⟨w.1.size,1,none⟩=some (.string p)/\W.cell? ⟨w.1.size,2,none⟩=some (.string q)/\W.cell? ⟨w.1.size,3,none⟩=some (.int .i64 at_)/\W.cell? ⟨w.1.size,4,none⟩=some (.string tx))/\R7 W m a1 c1 a2 c2 a3 c3 a4 c4 a5 c5 a6 c6):=fun W bb=>by
  obtain⟨k1,k2,k3,-⟩:=HC.o W bb;exact⟨⟨k1.cell 0,k1.cell 1,k1.cell 2,k1.cell 3,k1.cell 4,k1.cell 5,k1.cell 6⟩,⟨k2.cell 0,k2.cell 1,k2.cell 2,k2.cell 3,k2.cell 4⟩,k3.mo.mr⟩
 go_cut [4,5,6]from 15 to 25 (fun c4 c5 c6 wx=>∃(bm:Nat)(z1:Option Addr)(y1:Nat)(z2:Option Addr)(y2:Nat)(z3:Option Addr)(y3:Nat)(z4:Option Addr)(y4:Nat)(z5:Option Addr)(y5:Nat)(z6:Option Addr)(y6:Nat)(m':MD)(cc:Int)(r:Bool),c4=.pointer (some ⟨bm,0,none⟩)/\c5=.int .i64 cc/\c6=.bool r/\AtC wx bm 33 (M7 m' z1 y1 z2 y2 z3 y3 z4 y4 z5 y5 z6 y6)/\(r=true->N7 wx (fun k=>W0.1.size<=k/\k≠bm) m' z1 y1 z2 y2 z3 y3 z4 y4 z5 y5 z6 y6/\Sh Z0 m')/\Below W0.1.size W0 wx/\W0.1.size<=bm)
 case first =>
  refine zeq kL [0,1,2,3,4,5,6,7,8,9,10,11,13,14] 12 [0,1,2,3,4,5,6,7,8,11] (fun i=>match i with|0=>.const [] (.pointer (some ⟨b,0,none⟩))|1=>.const [0] (.pointer (some ⟨b,0,none⟩))|2=>.const [1] (.pointer (some ⟨b,0,none⟩))|3=>.const [2] (.pointer (some ⟨b,0,none⟩))|4=>.const [3] (.agg (M7 m a1 c1 a2 c2 a3 c3 a4 c4 a5 c5 a6 c6))|5=>.const [] (.agg #[.int .i64 kd,.string p,.string q,.int .i64 at_,.string tx])|6=>MkU3 [4,5] CallW CallW.below|7=>MkMv3 6|8=>MkFs 7|9=>MkSd 7|10=>MkTd 7|11=>MkW 33 E7|13=>MkId 9|14=>MkId 10|_=>.triv) (fun x=>⟨List.toArray ((.pointer (some ⟨b,0,none⟩))::(.agg #[.int .i64 kd,.string p,.string q,.int .i64 at_,.string tx])::undef::(.pointer (some ⟨w.1.size,0,none⟩))::(x 11)::(x 13)::(x 14)::undef::undef::undef::undef::undef::undef::undef::undef::(x 7)::(x 0)::(x 1)::(x 2)::(x 3)::(x 4)::(x 5)::(x 6)::(x 8)::(x 9)::(x 10)::undef::undef::undef::undef::undef::undef::undef::undef::undef::undef::undef::undef::undef::undef::undef::undef::undef::undef::undef::undef::undef::undef::undef::undef::undef::undef::undef::undef::undef::undef::undef::undef::undef::undef::undef::undef::undef::undef::undef::undef::undef::undef::undef::undef::undef::undef::undef::undef::undef::undef::undef::undef::undef::undef::undef::undef::undef::undef::undef::undef::undef::undef::undef::undef::undef::undef::undef::undef::undef::undef::undef::undef::undef::undef::undef::undef::undef::undef::undef::undef::undef::undef::undef::undef::undef::undef::undef::undef::undef::undef::undef::undef::undef::undef::undef::undef::undef::undef::undef::undef::undef::undef::undef::undef::undef::undef::undef::undef::undef::undef::undef::undef::undef::undef::undef::undef::undef::[]),[]⟩) (fun i=>match i with|0=>undef|1=>undef|2=>undef|3=>undef|4=>undef|5=>undef|6=>undef|7=>undef|8=>undef|9=>undef|10=>undef|11=>undef|13=>undef|14=>undef|_=>undef) rfl (fun x iv W=>st7v W (iv 11).1 (x 8)) (za9 kL kL) kL kL kL rfl dC (by intro j hj;simp only[List.mem_cons,List.not_mem_nil,or_false]at hj;rcases hj with rfl|rfl|rfl|rfl|rfl|rfl|rfl|rfl|rfl|rfl|rfl|rfl|rfl|rfl<;>simp[Mk.const,MkU3,MkMv3,MkFs,MkSd,MkTd,MkW,MkId,Mk.val,Mk.val1]) ?_ ?_ ?_ ?_ ?_
  ·intro j v pp x iv W hj;have h8:(8:Nat)≠j:=fun e=>hj (by rw[←e];decide);have h11:(11:Nat)≠j:=fun e=>hj (by rw[←e];decide);show st7v W (upd iv j pp 11).1 (upd x j v 8)=st7v W (iv 11).1 (x 8);rw[zav _ _ _ _ h11,zav _ _ _ _ h8]
  ·intro jo hj so x iw W hd hp K hK;simp only[List.mem_cons,List.not_mem_nil,or_false]at hj;rcases hj with rfl|rfl|rfl|rfl|rfl|rfl|rfl|rfl|rfl|rfl|rfl|rfl|rfl|rfl<;>refine wpOp_step (o:=_) rfl fun K' hK'=>?_<;>have HK:=hide (fun(v:Value) (W':World) h1 h2=>hK' _ _ (hK v W' h1 h2))<;>simp only[upd,Nat.reduceEqDiff,if_true,if_false]at HK
   ·exact cQ10
   ·exact cQ45
   ·exact cQ56
   ·have e2:x 2=.pointer (some ⟨b,0,none⟩):=hp.post 2 (hd 2 mz0);simp only[e2]at HK ⊢;go_simp;exact HK.o _ _ bR rfl
   ·have e3:x 3=.pointer (some ⟨b,0,none⟩):=hp.post 3 (hd 3 mz0);have bw:=zac hp.bel;obtain⟨⟨x0,x1,x2,x3,x4,x5,x6⟩,-,-⟩:=HXW.o W bw;clear bw;simp only[e3]at HK ⊢;go_simp;exact HK.o _ _ bR rfl
   ·have bw:=zac hp.bel;obtain⟨-,⟨e0,e1,e2,e3,e4⟩,-⟩:=HXW.o W bw;clear bw;go_simp;exact HK.o _ _ bR rfl
   ·have e4:x 4=.agg (M7 m a1 c1 a2 c2 a3 c3 a4 c4 a5 c5 a6 c6):=hp.post 4 (hd 4 mz0);have e5:x 5=.agg #[.int .i64 kd,.string p,.string q,.int .i64 at_,.string tx]:=hp.post 5 (hd 5 mz1);have HMR:=hide (HXW.o W (zac hp.bel)).2.2;simp only[e4,e5]at HK ⊢;clear e4 e5;go_simp;refine(call_any _ _ _ _ _ _ m kd p q at_ tx W HMR.o HSH.o hp6 hq6 ht6).mono ?_;rintro e w1 ⟨⟨z1,y1,z2,y2,z3,y3,z4,y4,z5,y5,z6,y6,m',cc,r,rfl,hO⟩,B1⟩;go_simp;exact HK.o _ _ B1 ⟨_,_,_,rfl,z1,y1,z2,y2,z3,y3,z4,y4,z5,y5,z6,y6,m',cc,r,rfl,rfl,rfl,fun e=>⟨(hO e).1.bound,(hO e).2⟩⟩
   ·have e6:∃a r q,x 6=.tuple #[a,r,q]/\CallW (iw 6).1 (iw 6).2 W a r q:=hp.post 6 (hd 6 mz0);obtain⟨a,r,q2,e6,-⟩:=e6;have ea:=hide e6;simp only[e6]at HK ⊢;clear e6;go_simp;exact HK.o _ _ bR ⟨ea.out,a,r,q2,rfl⟩
   ·have e7:x 6=x 7/\∃a r q,x 7=.tuple #[a,r,q]:=hp.post 7 (hd 7 mz0);obtain⟨-,a,r,q2,e7⟩:=e7;have ea:Hid (a=fstOf (x 7)):=by rw[e7];rfl
    simp only[e7]at HK ⊢;clear e7;go_simp;exact HK.o _ _ bR ea.out
   ·have e7:x 6=x 7/\∃a r q,x 7=.tuple #[a,r,q]:=hp.post 7 (hd 7 mz0);obtain⟨-,a,r,q2,e7⟩:=e7;have ea:Hid (r=sndOf (x 7)):=by rw[e7];rfl
    simp only[e7]at HK ⊢;clear e7;go_simp;exact HK.o _ _ bR ea.out
   ·have e7:x 6=x 7/\∃a r q,x 7=.tuple #[a,r,q]:=hp.post 7 (hd 7 mz0);obtain⟨-,a,r,q2,e7⟩:=e7;have ea:Hid (q2=thdOf (x 7)):=by rw[e7];rfl
    simp only[e7]at HK ⊢;clear e7;go_simp;exact HK.o _ _ bR ea.out
   ·exact cQ67
   ·exact cQ10
   ·exact cQ10
  ·intro jo hj hjn so x iw W' hd hp W K hK;simp only[List.mem_cons,List.not_mem_nil,or_false]at hj;rcases hj with rfl|rfl|rfl|rfl|rfl|rfl|rfl|rfl|rfl|rfl|rfl|rfl|rfl|rfl
   ·exact absurd dC hjn
   ·exact absurd dC hjn
   ·exact absurd dC hjn
   ·exact absurd dC hjn
   ·exact absurd dC hjn
   ·exact absurd dC hjn
   ·exact absurd dC hjn
   ·exact absurd dC hjn
   ·exact absurd dC hjn
   ·refine wpOp_step (o:=_) rfl fun K' hK'=>?_;have HK:Hid (∀v,(MkSd 7).P W'.1.size W'.1.size W' v (upd x 9 v)->K' ⟨List.toArray ((Value.pointer (some ⟨b,0,none⟩))::(Value.agg #[Value.int IntKind.i64 kd,Value.string p,Value.string q,Value.int IntKind.i64 at_,Value.string tx])::undef::(Value.pointer (some ⟨w.1.size,0,none⟩))::x 11::x 13::x 14::undef::undef::undef::undef::undef::undef::undef::undef::x 7::x 0::x 1::x 2::x 3::x 4::x 5::x 6::x 8::v::x 10::undef::undef::undef::undef::undef::undef::undef::undef::undef::undef::undef::undef::undef::undef::undef::undef::undef::undef::undef::undef::undef::undef::undef::undef::undef::undef::undef::undef::undef::undef::undef::undef::undef::undef::undef::undef::undef::undef::undef::undef::undef::undef::undef::undef::undef::undef::undef::undef::undef::undef::undef::undef::undef::undef::undef::undef::undef::undef::undef::undef::undef::undef::undef::undef::undef::undef::undef::undef::undef::undef::undef::undef::undef::undef::undef::undef::undef::undef::undef::undef::undef::undef::undef::undef::undef::undef::undef::undef::undef::undef::undef::undef::undef::undef::undef::undef::undef::undef::undef::undef::undef::undef::undef::undef::undef::undef::undef::undef::undef::undef::undef::undef::undef::undef::undef::undef::undef::[]),[]⟩ W):=fun v h2=>hK' _ _ (hK v h2);have e7:x 6=x 7/\∃a r q,x 7=.tuple #[a,r,q]:=hp.post 7 (hd 7 mz0);obtain⟨-,a,r,q2,e7⟩:=e7;have ea:Hid (r=sndOf (x 7)):=by rw[e7];rfl
    simp only[e7]at HK ⊢;clear e7;go_simp;exact HK.o _ ea.out
   ·refine wpOp_step (o:=_) rfl fun K' hK'=>?_;have HK:Hid (∀v,(MkTd 7).P W'.1.size W'.1.size W' v (upd x 10 v)->K' ⟨List.toArray ((Value.pointer (some ⟨b,0,none⟩))::(Value.agg #[Value.int IntKind.i64 kd,Value.string p,Value.string q,Value.int IntKind.i64 at_,Value.string tx])::undef::(Value.pointer (some ⟨w.1.size,0,none⟩))::x 11::x 13::x 14::undef::undef::undef::undef::undef::undef::undef::undef::x 7::x 0::x 1::x 2::x 3::x 4::x 5::x 6::x 8::x 9::v::undef::undef::undef::undef::undef::undef::undef::undef::undef::undef::undef::undef::undef::undef::undef::undef::undef::undef::undef::undef::undef::undef::undef::undef::undef::undef::undef::undef::undef::undef::undef::undef::undef::undef::undef::undef::undef::undef::undef::undef::undef::undef::undef::undef::undef::undef::undef::undef::undef::undef::undef::undef::undef::undef::undef::undef::undef::undef::undef::undef::undef::undef::undef::undef::undef::undef::undef::undef::undef::undef::undef::undef::undef::undef::undef::undef::undef::undef::undef::undef::undef::undef::undef::undef::undef::undef::undef::undef::undef::undef::undef::undef::undef::undef::undef::undef::undef::undef::undef::undef::undef::undef::undef::undef::undef::undef::undef::undef::undef::undef::undef::undef::undef::undef::undef::undef::undef::[]),[]⟩ W):=fun v h2=>hK' _ _ (hK v h2);have e7:x 6=x 7/\∃a r q,x 7=.tuple #[a,r,q]:=hp.post 7 (hd 7 mz0);obtain⟨-,a,r,q2,e7⟩:=e7;have ea:Hid (q2=thdOf (x 7)):=by rw[e7];rfl
    simp only[e7]at HK ⊢;clear e7;go_simp;exact HK.o _ ea.out
   ·exact absurd dC hjn
   ·refine wpOp_step (o:=_) rfl fun K' hK'=>?_;have HK:Hid (∀v,(MkId 9).P W'.1.size W'.1.size W' v (upd x 13 v)->K' ⟨List.toArray ((Value.pointer (some ⟨b,0,none⟩))::(Value.agg #[Value.int IntKind.i64 kd,Value.string p,Value.string q,Value.int IntKind.i64 at_,Value.string tx])::undef::(Value.pointer (some ⟨w.1.size,0,none⟩))::x 11::v::x 14::undef::undef::undef::undef::undef::undef::undef::undef::x 7::x 0::x 1::x 2::x 3::x 4::x 5::x 6::x 8::x 9::x 10::undef::undef::undef::undef::undef::undef::undef::undef::undef::undef::undef::undef::undef::undef::undef::undef::undef::undef::undef::undef::undef::undef::undef::undef::undef::undef::undef::undef::undef::undef::undef::undef::undef::undef::undef::undef::undef::undef::undef::undef::undef::undef::undef::undef::undef::undef::undef::undef::undef::undef::undef::undef::undef::undef::undef::undef::undef::undef::undef::undef::undef::undef::undef::undef::undef::undef::undef::undef::undef::undef::undef::undef::undef::undef::undef::undef::undef::undef::undef::undef::undef::undef::undef::undef::undef::undef::undef::undef::undef::undef::undef::undef::undef::undef::undef::undef::undef::undef::undef::undef::undef::undef::undef::undef::undef::undef::undef::undef::undef::undef::undef::undef::undef::undef::undef::undef::undef::[]),[]⟩ W):=fun v h2=>hK' _ _ (hK v h2);go_simp;exact HK.o _ rfl
   ·refine wpOp_step (o:=_) rfl fun K' hK'=>?_;have HK:Hid (∀v,(MkId 10).P W'.1.size W'.1.size W' v (upd x 14 v)->K' ⟨List.toArray ((Value.pointer (some ⟨b,0,none⟩))::(Value.agg #[Value.int IntKind.i64 kd,Value.string p,Value.string q,Value.int IntKind.i64 at_,Value.string tx])::undef::(Value.pointer (some ⟨w.1.size,0,none⟩))::x 11::x 13::v::undef::undef::undef::undef::undef::undef::undef::undef::x 7::x 0::x 1::x 2::x 3::x 4::x 5::x 6::x 8::x 9::x 10::undef::undef::undef::undef::undef::undef::undef::undef::undef::undef::undef::undef::undef::undef::undef::undef::undef::undef::undef::undef::undef::undef::undef::undef::undef::undef::undef::undef::undef::undef::undef::undef::undef::undef::undef::undef::undef::undef::undef::undef::undef::undef::undef::undef::undef::undef::undef::undef::undef::undef::undef::undef::undef::undef::undef::undef::undef::undef::undef::undef::undef::undef::undef::undef::undef::undef::undef::undef::undef::undef::undef::undef::undef::undef::undef::undef::undef::undef::undef::undef::undef::undef::undef::undef::undef::undef::undef::undef::undef::undef::undef::undef::undef::undef::undef::undef::undef::undef::undef::undef::undef::undef::undef::undef::undef::undef::undef::undef::undef::undef::undef::undef::undef::undef::undef::undef::undef::[]),[]⟩ W):=fun v h2=>hK' _ _ (hK v h2);go_simp;exact HK.o _ rfl
  ·intro so x iw W hne hp K hK;obtain⟨a,r,q2,e6,z1,y1,z2,y2,z3,y3,z4,y4,z5,y5,z6,y6,m',cc,rr,ha,-,-,-⟩:=hp.post 6 (hne 6 dC);obtain⟨e7,-⟩:=hp.post 7 (hne 7 dC);have e8:x 8=fstOf (x 7):=hp.post 8 (hne 8 dC);obtain⟨e11,z11,A11⟩:=hp.post 11 (hne 11 dC);rw[←e7,e6]at e8
   replace e8:x 8=a:=e8
   rw[ha]at e8;have HKS:Hid (K ⟨List.toArray ((Value.pointer (some ⟨b,0,none⟩))::(Value.agg #[Value.int IntKind.i64 kd,Value.string p,Value.string q,Value.int IntKind.i64 at_,Value.string tx])::undef::(Value.pointer (some ⟨w.1.size,0,none⟩))::x 11::x 13::x 14::undef::undef::undef::undef::undef::undef::undef::undef::x 7::x 0::x 1::x 2::x 3::x 4::x 5::x 6::x 8::x 9::x 10::undef::undef::undef::undef::undef::undef::undef::undef::undef::undef::undef::undef::undef::undef::undef::undef::undef::undef::undef::undef::undef::undef::undef::undef::undef::undef::undef::undef::undef::undef::undef::undef::undef::undef::undef::undef::undef::undef::undef::undef::undef::undef::undef::undef::undef::undef::undef::undef::undef::undef::undef::undef::undef::undef::undef::undef::undef::undef::undef::undef::undef::undef::undef::undef::undef::undef::undef::undef::undef::undef::undef::undef::undef::undef::undef::undef::undef::undef::undef::undef::undef::undef::undef::undef::undef::undef::undef::undef::undef::undef::undef::undef::undef::undef::undef::undef::undef::undef::undef::undef::undef::undef::undef::undef::undef::undef::undef::undef::undef::undef::undef::undef::undef::undef::undef::undef::undef::[]),[]⟩ (st7v W (iw 11).1 (.agg (M7 m' z1 y1 z2 y2 z3 y3 z4 y4 z5 y5 z6 y6)))):=by rw[←e8];exact hK
   have y20:=A11.c0;have f0:=A11.frozen 0;have y21:=A11.c1;have f1:=A11.frozen 1;have y22:=A11.c2;have f2:=A11.frozen 2;have y23:=A11.c3;have f3:=A11.frozen 3;have y24:=A11.c4;have f4:=A11.frozen 4;have y25:=A11.c5;have f5:=A11.frozen 5;have y26:=A11.c6;have f6:=A11.frozen 6;refine wpOp_step (o:=_) rfl fun K' hK'=>?_;have HK2:=hide (hK' _ _ HKS.o);simp only[e8,e11]at HK2 ⊢;clear hK hK' hp hne e6 e7 e8 e11 z11 A11 HKS ha;go_simp;exact HK2.o
  ·intro x iw W hp;obtain⟨a,r,q2,e6,z1,y1,z2,y2,z3,y3,z4,y4,z5,y5,z6,y6,m',cc,rr,ha,hr,hq2,hO⟩:=hp.post 6 dC;obtain⟨e7,-⟩:=hp.post 7 dC;have e8:x 8=fstOf (x 7):=hp.post 8 dC;have e9:x 9=sndOf (x 7):=hp.post 9 dC;have e10:x 10=thdOf (x 7):=hp.post 10 dC;obtain⟨e11,z11,A11⟩:=hp.post 11 dC;have e13:x 13=x 9:=hp.post 13 dC;have e14:x 14=x 10:=hp.post 14 dC;have l11:=hp.lo 11 dC;have l6:=hp.lo 6 dC;have bel:=zac hp.bel;have ap:=hp.apart 6 dC 11 dC dC;rw[←e7,e6]at e8 e9 e10;rw[e6]at e7
   replace e7:=e7.symm
   replace e8:x 8=a:=e8
   replace e9:x 9=r:=e9
   replace e10:x 10=q2:=e10
   rw[e9]at e13;rw[e10]at e14;subst ha hr hq2;have h6:W0.1.size<=(iw 6).1:=l6.1;have h11:W0.1.size<=(iw 11).1:=l11.1;have HFI:Hid (AtC (st7v W (iw 11).1 (.agg (M7 m' z1 y1 z2 y2 z3 y3 z4 y4 z5 y5 z6 y6))) (iw 11).1 33 (M7 m' z1 y1 z2 y2 z3 y3 z4 y4 z5 y5 z6 y6)/\(rr=true->N7 (st7v W (iw 11).1 (.agg (M7 m' z1 y1 z2 y2 z3 y3 z4 y4 z5 y5 z6 y6))) (fun k=>W0.1.size<=k/\k≠(iw 11).1) m' z1 y1 z2 y2 z3 y3 z4 y4 z5 y5 z6 y6/\Sh Z0 m')/\Below W0.1.size W0 (st7v W (iw 11).1 (.agg (M7 m' z1 y1 z2 y2 z3 y3 z4 y4 z5 y5 z6 y6)))/\W0.1.size<=(iw 11).1) :=
    ⟨zfb A11 _ _ _ _ _ _ _,fun e=>⟨((hO e).1.of_heap fun k hk _=>zaa _ _ _ _ _ _ _ _ _ k (by have:(iw 6).1<=k/\k<(iw 6).2:=hk;omega)).mono (fun k hk=>by have:(iw 6).1<=k/\k<(iw 6).2:=hk;omega),(hO e).2⟩,zab bel h11 _ _ _ _ _ _ _,h11⟩
   clear hp A11 bel ap l11 l6 z11 h6 h11 hO;simp only[e8,e9,e10,e11,e13,e14,e7,e6]at*;try go_wp2_with fail
   go_meet
   exact⟨_,_,_,_,_,_,_,_,_,_,_,_,_,m',cc,rr,rfl,rfl,rfl,HFI.o.1,HFI.o.2.1,HFI.o.2.2.1,HFI.o.2.2.2⟩
 case rest =>
  obtain⟨bm,z1,y1,z2,y2,z3,y3,z4,y4,z5,y5,z6,y6,m',cc,r,rfl,rfl,rfl,Am,hO,Bm,lm⟩:=hcut;obtain⟨w1,hw1⟩:∃w1,w1=wc:=⟨_,rfl⟩
  subst hw1;have HW1:Hid (AtC w1 b 154 #[.slice a1 m.1.length c1,.slice a2 m.2.length c2,.slice a3 m.3.length c3,.slice a4 m.4.length c4,.slice a5 m.5.length c5,.slice a6 m.6.length c6,.int .i64 m.nx,.slice ta ts.length tc,.slice ma ns.length mc,.slice ka cs.length kc,.slice pa pl pc]/\AtC w1 w.1.size 158 #[.int .i64 kd,.string p,.string q,.int .i64 at_,.string tx]/\Wp w1 B b n a1 a2 a3 a4 a5 a6 ta ma ka pa c1 c2 c3 c4 c5 c6 tc mc kc pl pc m ts ns cs/\w.grownBy w1 (some b)/\w.1.size<w1.1.size/\AtC w1 bm 33 (M7 m' z1 y1 z2 y2 z3 y3 z4 y4 z5 y5 z6 y6)/\w.1.size<bm):=by
   obtain⟨k1,k2,k3,k4,k5⟩:=HC.o w1 Bm;exact⟨k1,k2,k3,zal k4 _,k5,Am,by have:=HWW.o;omega⟩
  have HO:=hide hO;clear Am hO Bm lm HXW HC HB0;go_upto_if 26 with fail
  go_cut [4]from 26 to 47 (fun _ wx=>WBc w wx B b n #[.int .i64 kd,.string p,.string q,.int .i64 at_,.string tx])
  case first =>
   cases r with
   | false =>
    go_wp2_with fail
    go_meet
    exact⟨a1,a2,a3,a4,a5,a6,ta,ma,ka,pa,c1,c2,c3,c4,c5,c6,tc,mc,kc,pl,pc,m,ts,ns,cs,HW1.o.1,HW1.o.2.2.1.more oM,HW1.o.2.2.1.cl,HW1.o.2.1,HW1.o.2.2.2.1⟩
   | true =>
    have x7:=HW1.o.1.c7;obtain⟨x0,x1,x2,x3,x4,x5,x6⟩:=AtC.sev HW1.o.1;have f0:=HW1.o.1.frozen 0;have f1:=HW1.o.1.frozen 1;have f2:=HW1.o.1.frozen 2;have f3:=HW1.o.1.frozen 3;have f4:=HW1.o.1.frozen 4;have f5:=HW1.o.1.frozen 5;have f6:=HW1.o.1.frozen 6;have f7:=HW1.o.1.frozen 7;obtain⟨t0,t1,t2,t3,t4,t5,t6⟩:=AtC.sev HW1.o.2.2.2.2.2.1;have HS8:Hid (WBd ((((((((w1.setCell ⟨b,0,none⟩ (.slice z1 m'.1.length y1)).setCell ⟨b,1,none⟩ (.slice z2 m'.2.length y2)).setCell ⟨b,2,none⟩ (.slice z3 m'.3.length y3)).setCell ⟨b,3,none⟩ (.slice z4 m'.4.length y4)).setCell ⟨b,4,none⟩ (.slice z5 m'.5.length y5)).setCell ⟨b,5,none⟩ (.slice z6 m'.6.length y6)).setCell ⟨b,6,none⟩ (.int .i64 m'.nx)).setCell ⟨b,7,none⟩ (.slice ta ts.length tc)) w B b n z1 z2 z3 z4 z5 z6 ta ma ka pa y1 y2 y3 y4 y5 y6 tc mc kc pl pc m' ts ns cs #[.int .i64 kd,.string p,.string q,.int .i64 at_,.string tx]):=by
     obtain⟨k1,k2,k3,k4,k5,k6,k7⟩:=HW1.o;have hg:=(zar (zar (zar (zar (zar (zar (zar (zar (zbp w1 (some b))))))))):w1.grownBy ((((((((w1.setCell ⟨b,0,none⟩ (.slice z1 m'.1.length y1)).setCell ⟨b,1,none⟩ (.slice z2 m'.2.length y2)).setCell ⟨b,2,none⟩ (.slice z3 m'.3.length y3)).setCell ⟨b,3,none⟩ (.slice z4 m'.4.length y4)).setCell ⟨b,4,none⟩ (.slice z5 m'.5.length y5)).setCell ⟨b,5,none⟩ (.slice z6 m'.6.length y6)).setCell ⟨b,6,none⟩ (.int .i64 m'.nx)).setCell ⟨b,7,none⟩ (.slice ta ts.length tc)) (some b))
     have hO:=HO.o rfl;have hne:w.1.size≠b:=by omega
     refine⟨((((((((k1.set 0 _).set 1 _).set 2 _).set 3 _).set 4 _).set 5 _).set 6 _).set 7 _),?_,k2.grown hg sO,zae k4 hg⟩;have h0:=k3.grown hg;exact⟨(hO.1.bound.of_heap (fun k hk _=>hg.block k hk.2 (by have:W0.1.size<=k/\k≠bm:=hk.1;have:=HWW.o;simp;omega))).mono (fun k hk=>by have:W0.1.size<=k/\k≠bm:=hk.1;have:=HWW.o;exact⟨by omega,by omega⟩),hO.2,h0.dv,h0.dn,h0.dk,h0.nd,h0.nn,h0.nl,h0.nb,h0.co,h0.cn,h0.cl⟩
    go_upto_region 3 with fail
    go_cut [5]from 26 to 36 (fun c5 wx=>c5=.int .i64 cc/\WBd wx w B b n z1 z2 z3 z4 z5 z6 ta ma ka pa y1 y2 y3 y4 y5 y6 tc mc kc pl pc m' ts ns cs #[.int .i64 kd,.string p,.string q,.int .i64 at_,.string tx])
    case first =>
     go_big_region
     all_goals (go_wp2_with fail;go_meet;exact⟨rfl,HS8.o.below bR.drew⟩)
    case rest =>
     obtain⟨rfl,hw2⟩:=hcut;obtain⟨w2,e2⟩:∃w2,w2=wc:=⟨_,rfl⟩
     subst e2;have HW2:=hide hw2;clear hw2 HS8 x0 x1 x2 x3 x4 x5 x6 x7 f0 f1 f2 f3 f4 f5 f6 f7 t0 t1 t2 t3 t4 t5 t6;by_cases hcc:cc=0
     rotate_left
     ·have hcb:(cc==0)=false:=beq_eq_false_iff_ne.mpr hcc;go_wp2_with fail
      go_meet
      exact HW2.o.wbc
     subst hcc;have HMW:Hid (∀W,Below w2.1.size w2 W->WBd W w B b n z1 z2 z3 z4 z5 z6 ta ma ka pa y1 y2 y3 y4 y5 y6 tc mc kc pl pc m' ts ns cs #[.int .i64 kd,.string p,.string q,.int .i64 at_,.string tx]):=fun W bb=>HW2.o.below bb;have HLL:Hid (ns.length<=900/\NdB (8*(n+1)) ns/\p.size<=8*(n+1)/\q.size<=8*(n+1)/\8*(n+1)<=1048576):=⟨by have:=HW2.o.wp.nl;omega,HW2.o.wp.nb.mono oM,by omega,by omega,by omega⟩
     have HMD:Hid (∀(w3:World)(ma3:Option Addr)(mc3:Nat)(n3:List Nd),NdO w3 w2.1.size (.slice ma3 n3.length mc3) n3->n3.length<=ns.length+1->NdB (8*(n+1)) n3->Below w2.1.size w2 w3->WBc w (w3.setCell ⟨b,8,none⟩ (.slice ma3 n3.length mc3)) B b n #[.int .i64 kd,.string p,.string q,.int .i64 at_,.string tx]):=fun w3 ma3 mc3 n3 O3 hl3 hb3 B3=>by
      have k:=HW2.o.below B3;have hg:w3.grownBy (w3.setCell ⟨b,8,none⟩ (.slice ma3 n3.length mc3)) (some b):=zar (zbp _ _);have hb2:b<w2.1.size:=HW2.o.bx.lt;have hz:=HW2.o.gr.size;refine⟨z1,z2,z3,z4,z5,z6,ta,ma3,ka,pa,y1,y2,y3,y4,y5,y6,tc,mc3,kc,pl,pc,m',ts,n3,cs,k.bx.set 8 _,?_,k.wp.cl,k.ev.grown hg sO,zae k.gr hg⟩;have h0:=(k.wp.more (show n<=n+1 by omega)).grown hg;exact⟨h0.mo,h0.sh,h0.dv,h0.dn,h0.dk,(O3.of_heap fun k hk=>hg.block k (O3.lt k hk).2 (by have:=(O3.lt k hk).1;simp;omega)).mono oM,fun k hk=>by have:=(O3.lt k hk).1;omega,by have:=HW2.o.wp.nl;omega,hb3,h0.co,h0.cn,h0.cl⟩
     have HXX:Hid (∀W,Below w2.1.size w2 W->W.cell? ⟨b,8,none⟩=some (.slice ma ns.length mc)/\W.frozen? ⟨b,8,none⟩=false/\W.cell? ⟨w.1.size,0,none⟩=some (.int .i64 kd)/\W.cell? ⟨w.1.size,1,none⟩=some (.string p)/\W.cell? ⟨w.1.size,2,none⟩=some (.string q)/\W.cell? ⟨w.1.size,3,none⟩=some (.int .i64 at_)/\W.cell? ⟨w.1.size,4,none⟩=some (.string tx)):=fun W bb=>by
      have k:=HMW.o W bb;exact⟨k.bx.cell 8,k.bx.frozen 8,k.ev.cell 0,k.ev.cell 1,k.ev.cell 2,k.ev.cell 3,k.ev.cell 4⟩
     obtain⟨x8,g8,e0,e1,e2,e3,e4⟩:=HXX.o w2 bR;go_upto_region 5 with fail
     go_region_with (go_at_call 143;refine(znd (8*(n+1)) B _ ns kd p q at_ tx _ (HMW.o _ (zac bR)).wp.nd HLL.o.1 HLL.o.2.1 HLL.o.2.2.1 HLL.o.2.2.2.1 HLL.o.2.2.2.2).mono ?_;rintro e w3 ⟨⟨v3,n3,rfl,O3,hl3,hb3⟩,B3⟩;obtain⟨ma3,mc3,rfl⟩:=O3.form;have HO3:=hide (And.intro O3 (And.intro hl3 (And.intro hb3 (zac B3))));obtain⟨y8,j8,-⟩:=HXX.o w3 (zac B3);clear O3 hl3 hb3 B3)
     all_goals (go_wp2_with fail;go_meet;exact HMD.o w3 ma3 mc3 n3 HO3.o.1 HO3.o.2.1 HO3.o.2.2.1 HO3.o.2.2.2)
  case rest =>
   clear HW1 HO;obtain⟨a1,a2,a3,a4,a5,a6,ta,ma,ka,pa,c1,c2,c3,c4,c5,c6,tc,mc,kc,pl,pc,m,ts,ns,cs,hbx2,hwp2,hcl2,hev2,hgr2⟩:=hcut;obtain⟨w3,e3⟩:∃w3,w3=wc:=⟨_,rfl⟩
   subst e3;have HW3:Hid (AtC w3 b 154 #[.slice a1 m.1.length c1,.slice a2 m.2.length c2,.slice a3 m.3.length c3,.slice a4 m.4.length c4,.slice a5 m.5.length c5,.slice a6 m.6.length c6,.int .i64 m.nx,.slice ta ts.length tc,.slice ma ns.length mc,.slice ka cs.length kc,.slice pa pl pc]/\Wp w3 B b (n+1) a1 a2 a3 a4 a5 a6 ta ma ka pa c1 c2 c3 c4 c5 c6 tc mc kc pl pc m ts ns cs/\cs.length<=n/\AtC w3 w.1.size 158 #[.int .i64 kd,.string p,.string q,.int .i64 at_,.string tx]/\w.grownBy w3 (some b)):=⟨hbx2,hwp2,hcl2,hev2,hgr2⟩
   have hb3:b<w3.1.size:=hbx2.lt;have hw3:w.1.size<w3.1.size:=hev2.lt;have e0:=hev2.c0;clear hbx2 hwp2 hcl2 hev2 hgr2;have HFS:Hid (∀(w4 W5:World)(L:Nat)(n1:Option Addr)(o1:Nat)(n2:Option Addr)(o2:Nat)(n3:Option Addr)(o3:Nat)(n4:Option Addr)(o4:Nat)(n5:Option Addr)(o5:Nat)(n6:Option Addr)(o6:Nat)(n7:Option Addr)(o7:Nat)(mf:MD)(tf:List ByteArray),N7 w4 (fun k=>w3.1.size<=k/\k≠L) mf n1 o1 n2 o2 n3 o3 n4 o4 n5 o5 n6 o6->ROwns w4 w3.1.size 9 (.slice n7 tf.length o7) (stc tf)->Sh Z0 mf->DvOk tf->Below w3.1.size w3 w4->W5=((((((((w4.setCell ⟨b,0,none⟩ (.slice n1 mf.1.length o1)).setCell ⟨b,1,none⟩ (.slice n2 mf.2.length o2)).setCell ⟨b,2,none⟩ (.slice n3 mf.3.length o3)).setCell ⟨b,3,none⟩ (.slice n4 mf.4.length o4)).setCell ⟨b,4,none⟩ (.slice n5 mf.5.length o5)).setCell ⟨b,5,none⟩ (.slice n6 mf.6.length o6)).setCell ⟨b,6,none⟩ (.int .i64 mf.nx)).setCell ⟨b,7,none⟩ (.slice n7 tf.length o7))->AtC W5 b 154 #[.slice n1 mf.1.length o1,.slice n2 mf.2.length o2,.slice n3 mf.3.length o3,.slice n4 mf.4.length o4,.slice n5 mf.5.length o5,.slice n6 mf.6.length o6,.int .i64 mf.nx,.slice n7 tf.length o7,.slice ma ns.length mc,.slice ka cs.length kc,.slice pa pl pc]/\Wp W5 B b (n+1) n1 n2 n3 n4 n5 n6 n7 ma ka pa o1 o2 o3 o4 o5 o6 o7 mc kc pl pc mf tf ns cs/\cs.length<=n/\AtC W5 w.1.size 158 #[.int .i64 kd,.string p,.string q,.int .i64 at_,.string tx]/\w.grownBy W5 (some b)):=by
    rintro w4 W5 L n1 o1 n2 o2 n3 o3 n4 o4 n5 o5 n6 o6 n7 o7 mf tf hM hT hS hD hB rfl;obtain⟨k1,k2,k3,k4,k5⟩:=HW3.o;have hg:=(zar (zar (zar (zar (zar (zar (zar (zar (zbp w4 (some b))))))))):w4.grownBy ((((((((w4.setCell ⟨b,0,none⟩ (.slice n1 mf.1.length o1)).setCell ⟨b,1,none⟩ (.slice n2 mf.2.length o2)).setCell ⟨b,2,none⟩ (.slice n3 mf.3.length o3)).setCell ⟨b,3,none⟩ (.slice n4 mf.4.length o4)).setCell ⟨b,4,none⟩ (.slice n5 mf.5.length o5)).setCell ⟨b,5,none⟩ (.slice n6 mf.6.length o6)).setCell ⟨b,6,none⟩ (.int .i64 mf.nx)).setCell ⟨b,7,none⟩ (.slice n7 tf.length o7)) (some b))
    have hz:=k5.size;have h0:=(k2.below hB).grown hg;refine⟨(((((((((k1.over hB).set 0 _).set 1 _).set 2 _).set 3 _).set 4 _).set 5 _).set 6 _).set 7 _),⟨(hM.bound.of_heap (fun k hk _=>hg.block k hk.2 (by have:w3.1.size<=k/\k≠L:=hk.1;simp;omega))).mono (fun k hk=>by have:w3.1.size<=k/\k≠L:=hk.1;exact⟨by omega,by omega⟩),hS,(hT.of_heap (fun k hk=>hg.block k (hT.lt k hk).2 (by have:=(hT.lt k hk).1;simp;omega))).base_le oM,fun k hk=>by have:=(hT.lt k hk).1;omega,hD,h0.nd,h0.nn,h0.nl,h0.nb,h0.co,h0.cn,h0.cl⟩,k3,(k4.over hB).grown hg sO,zae (zae k5 (zal hB _)) hg⟩
   by_cases h6:kd=6
   ·subst h6;have HX3:Hid (∀W,Below w3.1.size w3 W->(W.cell? ⟨b,0,none⟩=some (.slice a1 m.1.length c1)/\W.cell? ⟨b,1,none⟩=some (.slice a2 m.2.length c2)/\W.cell? ⟨b,2,none⟩=some (.slice a3 m.3.length c3)/\W.cell? ⟨b,3,none⟩=some (.slice a4 m.4.length c4)/\W.cell? ⟨b,4,none⟩=some (.slice a5 m.5.length c5)/\W.cell? ⟨b,5,none⟩=some (.slice a6 m.6.length c6)/\W.cell? ⟨b,6,none⟩=some (.int .i64 m.nx)/\W.cell? ⟨b,7,none⟩=some (.slice ta ts.length tc))/\(W.cell? ⟨w.1.size,0,none⟩=some (.int .i64 6)/\W.cell? ⟨w.1.size,1,none⟩=some (.string p)/\W.cell? ⟨w.1.size,2,none⟩=some (.string q)/\W.cell? ⟨w.1.size,3,none⟩=some (.int .i64 at_)/\W.cell? ⟨w.1.size,4,none⟩=some (.string tx))/\R7 W m a1 c1 a2 c2 a3 c3 a4 c4 a5 c5 a6 c6/\RSt W (.slice ta ts.length tc) ts/\Sh Z0 m/\DvOk ts):=fun W bb=>by
     obtain⟨k1,k2,k3,k4,k5⟩:=HW3.o;have a1':=k1.over bb;have a2':=k4.over bb;have a3':=k2.below bb;exact⟨⟨a1'.cell 0,a1'.cell 1,a1'.cell 2,a1'.cell 3,a1'.cell 4,a1'.cell 5,a1'.cell 6,a1'.cell 7⟩,⟨a2'.cell 0,a2'.cell 1,a2'.cell 2,a2'.cell 3,a2'.cell 4⟩,a3'.mo.mr,a3'.dv.rst,a3'.sh,a3'.dk⟩
    obtain⟨⟨x0,x1,x2,x3,x4,x5,x6,x7⟩,⟨e0,e1,e2,e3,e4⟩,-⟩:=HX3.o w3 bR;go_upto_region 8 with fail
    clear x0 x1 x2 x3 x4 x5 x6 x7 e0 e1 e2 e3 e4;go_cut [7]from 50 to 61 (fun c7 wx=>∃(bm:Nat)(n1:Option Addr)(o1:Nat)(n2:Option Addr)(o2:Nat)(n3:Option Addr)(o3:Nat)(n4:Option Addr)(o4:Nat)(n5:Option Addr)(o5:Nat)(n6:Option Addr)(o6:Nat)(n7:Option Addr)(o7:Nat)(mf:MD)(tf:List ByteArray),c7=.pointer (some ⟨bm,0,none⟩)/\AtC wx bm 119 (M9 mf n1 o1 n2 o2 n3 o3 n4 o4 n5 o5 n6 o6 n7 tf.length o7)/\N7 wx (fun k=>w3.1.size<=k/\k≠bm) mf n1 o1 n2 o2 n3 o3 n4 o4 n5 o5 n6 o6/\ROwns wx w3.1.size 9 (.slice n7 tf.length o7) (stc tf)/\Sh Z0 mf/\DvOk tf/\Below w3.1.size w3 wx/\w3.1.size<=bm)
    case first =>
     refine zeq kL [0,1,2,3,4,5,6,7,8,9,10,12] 11 [0,1,2,3,4,5,6,7,8,10] (fun i=>match i with|0=>.const [] (.pointer (some ⟨b,0,none⟩))|1=>.const [0] (.pointer (some ⟨b,0,none⟩))|2=>.const [1] (.pointer (some ⟨b,0,none⟩))|3=>.const [2] (.agg (M9 m a1 c1 a2 c2 a3 c3 a4 c4 a5 c5 a6 c6 ta ts.length tc))|4=>.const [] (.pointer (some ⟨w.1.size,3,none⟩))|5=>.const [4] (.int .i64 at_)|6=>MkT2 [3,5] FsR FsR.below|7=>MkMv 6|8=>MkFs 7|9=>MkSd 7|10=>MkW 119 #[.slice none 0 0,.slice none 0 0,.slice none 0 0,.slice none 0 0,.slice none 0 0,.slice none 0 0,.int .i64 0,.slice none 0 0]|12=>MkId 9|_=>.triv) (fun x=>⟨List.toArray ((.pointer (some ⟨b,0,none⟩))::(.agg #[.int .i64 6,.string p,.string q,.int .i64 at_,.string tx])::undef::(.pointer (some ⟨w.1.size,0,none⟩))::u4::(.int .i64 cc)::(.bool r)::(x 10)::(x 12)::undef::undef::undef::undef::undef::undef::u15::u16::u17::u18::u19::u20::u21::u22::u23::u24::u25::u26::u27::u28::u29::u30::u31::u32::u33::u34::u35::u36::u37::u38::u39::u40::u41::u42::u43::u44::u45::u46::u47::(.pointer (some ⟨w.1.size,0,none⟩))::(.int .i64 6)::(.bool true)::(.bool true)::(x 7)::(x 0)::(x 1)::(x 2)::(x 3)::(x 4)::(x 5)::(x 6)::(x 8)::(x 9)::undef::undef::undef::undef::undef::undef::undef::undef::undef::undef::undef::undef::undef::undef::undef::undef::undef::undef::undef::undef::undef::undef::undef::undef::undef::undef::undef::undef::undef::undef::undef::undef::undef::undef::undef::undef::undef::undef::undef::undef::undef::undef::undef::undef::undef::undef::undef::undef::undef::undef::undef::undef::undef::undef::undef::undef::undef::undef::undef::undef::undef::undef::undef::undef::undef::undef::undef::undef::undef::undef::undef::undef::undef::undef::undef::undef::undef::undef::undef::undef::undef::[]),[]⟩) (fun i=>match i with|0=>undef|1=>undef|2=>undef|3=>undef|4=>undef|5=>undef|6=>undef|7=>undef|8=>undef|9=>undef|10=>undef|12=>undef|_=>undef) rfl (fun x iv W=>st8v W (iv 10).1 (x 8)) (za9 kL kL) kL kL kL rfl dC (by intro j hj;simp only[List.mem_cons,List.not_mem_nil,or_false]at hj;rcases hj with rfl|rfl|rfl|rfl|rfl|rfl|rfl|rfl|rfl|rfl|rfl|rfl<;>simp[Mk.const,MkT2,MkMv,MkFs,MkSd,MkW,MkId,Mk.val,Mk.val1]) ?_ ?_ ?_ ?_ ?_
     ·intro j v pp x iv W hj;have h8:(8:Nat)≠j:=fun e=>hj (by rw[←e];decide);have h10:(10:Nat)≠j:=fun e=>hj (by rw[←e];decide);show st8v W (upd iv j pp 10).1 (upd x j v 8)=st8v W (iv 10).1 (x 8);rw[zav _ _ _ _ h10,zav _ _ _ _ h8]
     ·intro jo hj so x iw W hd hp K hK;simp only[List.mem_cons,List.not_mem_nil,or_false]at hj;rcases hj with rfl|rfl|rfl|rfl|rfl|rfl|rfl|rfl|rfl|rfl|rfl|rfl<;>refine wpOp_step (o:=_) rfl fun K' hK'=>?_<;>have HK:=hide (fun(v:Value) (W':World) h1 h2=>hK' _ _ (hK v W' h1 h2))<;>simp only[upd,Nat.reduceEqDiff,if_true,if_false]at HK
      ·exact cQ10
      ·exact cQ45
      ·exact cQ56
      ·have e2:x 2=.pointer (some ⟨b,0,none⟩):=hp.post 2 (hd 2 mz0);have bw:=zac hp.bel;obtain⟨⟨x0,x1,x2,x3,x4,x5,x6,x7⟩,-⟩:=HX3.o W bw;clear bw;simp only[e2]at HK ⊢;go_simp;exact HK.o _ _ bR rfl
      ·exact cQ10
      ·have e4:x 4=.pointer (some ⟨w.1.size,3,none⟩):=hp.post 4 (hd 4 mz0);have bw:=zac hp.bel;obtain⟨-,⟨e0,e1,e2,e3,g4⟩,-⟩:=HX3.o W bw;clear bw;simp only[e4]at HK ⊢;go_simp;exact HK.o _ _ bR rfl
      ·have e3:x 3=.agg (M9 m a1 c1 a2 c2 a3 c3 a4 c4 a5 c5 a6 c6 ta ts.length tc):=hp.post 3 (hd 3 mz0);have e5:x 5=.int .i64 at_:=hp.post 5 (hd 5 mz1);have HMR:=hide (HX3.o W (zac hp.bel)).2.2;simp only[e3,e5]at HK ⊢;clear e3 e5;go_simp;refine(wb_any _ _ _ _ _ _ _ m ts at_ W HMR.o.1 HMR.o.2.1 HMR.o.2.2.1 HMR.o.2.2.2).mono ?_;rintro e w1 ⟨a,r,rfl,⟨n1,o1,n2,o2,n3,o3,n4,o4,n5,o5,n6,o6,n7,o7,mf,tf,rfl,M4,T4,S4,D4⟩,B1⟩;go_simp;exact HK.o _ _ B1 ⟨_,_,rfl,⟨n1,o1,n2,o2,n3,o3,n4,o4,n5,o5,n6,o6,n7,o7,mf,tf,rfl,M4.bound,T4,fun k hk=>(T4.lt k hk).2,S4,D4⟩,_,rfl⟩
      ·have e6:∃a r,x 6=.tuple #[a,r]/\FsR (iw 6).1 (iw 6).2 W a r:=hp.post 6 (hd 6 mz0);obtain⟨a,r,e6,-⟩:=e6;have ea:=hide e6;simp only[e6]at HK ⊢;clear e6;go_simp;exact HK.o _ _ bR ⟨ea.out,a,r,rfl⟩
      ·exact cQ64
      ·exact cQ65
      ·clear hK hK' hp hd;go_simp;exact HK.o _ _ ((Below.refl _ W).alloc nR _) ⟨rfl,by simp,AtC.new W 119 _⟩
      ·exact cQ10
     ·intro jo hj hjn so x iw W' hd hp W K hK;simp only[List.mem_cons,List.not_mem_nil,or_false]at hj;rcases hj with rfl|rfl|rfl|rfl|rfl|rfl|rfl|rfl|rfl|rfl|rfl|rfl
      ·exact absurd dC hjn
      ·exact absurd dC hjn
      ·exact absurd dC hjn
      ·exact absurd dC hjn
      ·exact absurd dC hjn
      ·exact absurd dC hjn
      ·exact absurd dC hjn
      ·exact absurd dC hjn
      ·exact absurd dC hjn
      ·refine wpOp_step (o:=_) rfl fun K' hK'=>?_;have HK:Hid (∀v,(MkSd 7).P W'.1.size W'.1.size W' v (upd x 9 v)->K' ⟨List.toArray ((Value.pointer (some ⟨b,0,none⟩))::(Value.agg #[Value.int IntKind.i64 6,Value.string p,Value.string q,Value.int IntKind.i64 at_,Value.string tx])::undef::(Value.pointer (some ⟨w.1.size,0,none⟩))::u4::(Value.int IntKind.i64 cc)::(Value.bool r)::x 10::x 12::undef::undef::undef::undef::undef::undef::u15::u16::u17::u18::u19::u20::u21::u22::u23::u24::u25::u26::u27::u28::u29::u30::u31::u32::u33::u34::u35::u36::u37::u38::u39::u40::u41::u42::u43::u44::u45::u46::u47::(Value.pointer (some ⟨w.1.size,0,none⟩))::(Value.int IntKind.i64 6)::(Value.bool true)::(Value.bool true)::x 7::x 0::x 1::x 2::x 3::x 4::x 5::x 6::x 8::v::undef::undef::undef::undef::undef::undef::undef::undef::undef::undef::undef::undef::undef::undef::undef::undef::undef::undef::undef::undef::undef::undef::undef::undef::undef::undef::undef::undef::undef::undef::undef::undef::undef::undef::undef::undef::undef::undef::undef::undef::undef::undef::undef::undef::undef::undef::undef::undef::undef::undef::undef::undef::undef::undef::undef::undef::undef::undef::undef::undef::undef::undef::undef::undef::undef::undef::undef::undef::undef::undef::undef::undef::undef::undef::undef::undef::undef::undef::undef::undef::undef::[]),[]⟩ W):=fun v h2=>hK' _ _ (hK v h2);have e7:x 6=x 7/\∃a r,x 7=.tuple #[a,r]:=hp.post 7 (hd 7 mz0);obtain⟨-,a,r,e7⟩:=e7;have ea:Hid (r=sndOf (x 7)):=by rw[e7];rfl
       simp only[e7]at HK ⊢;clear e7;go_simp;exact HK.o _ ea.out
      ·exact absurd dC hjn
      ·refine wpOp_step (o:=_) rfl fun K' hK'=>?_;have HK:Hid (∀v,(MkId 9).P W'.1.size W'.1.size W' v (upd x 12 v)->K' ⟨List.toArray ((Value.pointer (some ⟨b,0,none⟩))::(Value.agg #[Value.int IntKind.i64 6,Value.string p,Value.string q,Value.int IntKind.i64 at_,Value.string tx])::undef::(Value.pointer (some ⟨w.1.size,0,none⟩))::u4::(Value.int IntKind.i64 cc)::(Value.bool r)::x 10::v::undef::undef::undef::undef::undef::undef::u15::u16::u17::u18::u19::u20::u21::u22::u23::u24::u25::u26::u27::u28::u29::u30::u31::u32::u33::u34::u35::u36::u37::u38::u39::u40::u41::u42::u43::u44::u45::u46::u47::(Value.pointer (some ⟨w.1.size,0,none⟩))::(Value.int IntKind.i64 6)::(Value.bool true)::(Value.bool true)::x 7::x 0::x 1::x 2::x 3::x 4::x 5::x 6::x 8::x 9::undef::undef::undef::undef::undef::undef::undef::undef::undef::undef::undef::undef::undef::undef::undef::undef::undef::undef::undef::undef::undef::undef::undef::undef::undef::undef::undef::undef::undef::undef::undef::undef::undef::undef::undef::undef::undef::undef::undef::undef::undef::undef::undef::undef::undef::undef::undef::undef::undef::undef::undef::undef::undef::undef::undef::undef::undef::undef::undef::undef::undef::undef::undef::undef::undef::undef::undef::undef::undef::undef::undef::undef::undef::undef::undef::undef::undef::undef::undef::undef::undef::[]),[]⟩ W):=fun v h2=>hK' _ _ (hK v h2);go_simp;exact HK.o _ rfl
     ·intro so x iw W hne hp K hK;obtain⟨a,rv,e6,⟨n1,o1,n2,o2,n3,o3,n4,o4,n5,o5,n6,o6,n7,o7,mf,tf,ha,-⟩,-⟩:=hp.post 6 (hne 6 dC);obtain⟨e7,-⟩:=hp.post 7 (hne 7 dC);have e8:x 8=fstOf (x 7):=hp.post 8 (hne 8 dC);obtain⟨e10,z10,A10⟩:=hp.post 10 (hne 10 dC);rw[←e7,e6]at e8
      replace e8:x 8=a:=e8
      rw[ha]at e8;have HKS:Hid (K ⟨List.toArray ((Value.pointer (some ⟨b,0,none⟩))::(Value.agg #[Value.int IntKind.i64 6,Value.string p,Value.string q,Value.int IntKind.i64 at_,Value.string tx])::undef::(Value.pointer (some ⟨w.1.size,0,none⟩))::u4::(Value.int IntKind.i64 cc)::(Value.bool r)::x 10::x 12::undef::undef::undef::undef::undef::undef::u15::u16::u17::u18::u19::u20::u21::u22::u23::u24::u25::u26::u27::u28::u29::u30::u31::u32::u33::u34::u35::u36::u37::u38::u39::u40::u41::u42::u43::u44::u45::u46::u47::(Value.pointer (some ⟨w.1.size,0,none⟩))::(Value.int IntKind.i64 6)::(Value.bool true)::(Value.bool true)::x 7::x 0::x 1::x 2::x 3::x 4::x 5::x 6::x 8::x 9::undef::undef::undef::undef::undef::undef::undef::undef::undef::undef::undef::undef::undef::undef::undef::undef::undef::undef::undef::undef::undef::undef::undef::undef::undef::undef::undef::undef::undef::undef::undef::undef::undef::undef::undef::undef::undef::undef::undef::undef::undef::undef::undef::undef::undef::undef::undef::undef::undef::undef::undef::undef::undef::undef::undef::undef::undef::undef::undef::undef::undef::undef::undef::undef::undef::undef::undef::undef::undef::undef::undef::undef::undef::undef::undef::undef::undef::undef::undef::undef::undef::[]),[]⟩ (st8v W (iw 10).1 (.agg (M9 mf n1 o1 n2 o2 n3 o3 n4 o4 n5 o5 n6 o6 n7 tf.length o7)))):=by rw[←e8];exact hK
      have y20:=A10.c0;have f0:=A10.frozen 0;have y21:=A10.c1;have f1:=A10.frozen 1;have y22:=A10.c2;have f2:=A10.frozen 2;have y23:=A10.c3;have f3:=A10.frozen 3;have y24:=A10.c4;have f4:=A10.frozen 4;have y25:=A10.c5;have f5:=A10.frozen 5;have y26:=A10.c6;have f6:=A10.frozen 6;have y27:=A10.c7;have f7:=A10.frozen 7;refine wpOp_step (o:=_) rfl fun K' hK'=>?_;have HK2:=hide (hK' _ _ HKS.o);simp only[e8,e10]at HK2 ⊢;clear hK hK' hp hne e6 e7 e8 e10 z10 A10 HKS ha;go_simp;exact HK2.o
     ·intro x iw W hp;obtain⟨a,r,e6,⟨n1,o1,n2,o2,n3,o3,n4,o4,n5,o5,n6,o6,n7,o7,mf,tf,ha,hM,hT,hTl,hS,hD⟩,bb,hr⟩:=hp.post 6 dC;obtain⟨e7,-⟩:=hp.post 7 dC;have e8:x 8=fstOf (x 7):=hp.post 8 dC;have e9:x 9=sndOf (x 7):=hp.post 9 dC;obtain⟨e10,z10,A10⟩:=hp.post 10 dC;have e12:x 12=x 9:=hp.post 12 dC;have l10:=hp.lo 10 dC;have l6:=hp.lo 6 dC;have bel:=zac hp.bel;have ap:=hp.apart 6 dC 10 dC dC;rw[←e7,e6]at e8 e9;rw[e6]at e7
      replace e7:=e7.symm
      replace e8:x 8=a:=e8
      replace e9:x 9=r:=e9
      rw[e9]at e12;subst ha hr;have h6':w3.1.size<=(iw 6).1:=l6.1;have h10:w3.1.size<=(iw 10).1:=l10.1;have HFI:Hid (AtC (st8v W (iw 10).1 (.agg (M9 mf n1 o1 n2 o2 n3 o3 n4 o4 n5 o5 n6 o6 n7 tf.length o7))) (iw 10).1 119 (M9 mf n1 o1 n2 o2 n3 o3 n4 o4 n5 o5 n6 o6 n7 tf.length o7)/\N7 (st8v W (iw 10).1 (.agg (M9 mf n1 o1 n2 o2 n3 o3 n4 o4 n5 o5 n6 o6 n7 tf.length o7))) (fun k=>w3.1.size<=k/\k≠(iw 10).1) mf n1 o1 n2 o2 n3 o3 n4 o4 n5 o5 n6 o6/\ROwns (st8v W (iw 10).1 (.agg (M9 mf n1 o1 n2 o2 n3 o3 n4 o4 n5 o5 n6 o6 n7 tf.length o7))) w3.1.size 9 (.slice n7 tf.length o7) (stc tf)/\Sh Z0 mf/\DvOk tf/\Below w3.1.size w3 (st8v W (iw 10).1 (.agg (M9 mf n1 o1 n2 o2 n3 o3 n4 o4 n5 o5 n6 o6 n7 tf.length o7)))/\w3.1.size<=(iw 10).1) :=
       ⟨zmk A10 _ _ _ _ _ _ _ _,(hM.of_heap fun k hk _=>zag _ _ _ _ _ _ _ _ _ _ k (by have:(iw 6).1<=k/\k<(iw 6).2:=hk;omega)).mono (fun k hk=>by have:(iw 6).1<=k/\k<(iw 6).2:=hk;omega),(hT.of_heap fun k hk=>zag _ _ _ _ _ _ _ _ _ _ k (by have:=(hT.lt k hk).1;have:=hTl k hk;omega)).base_le oM,hS,hD,zau bel h10 _ _ _ _ _ _ _ _,h10⟩
      clear hp A10 bel ap l10 l6 z10 h6' h10 hM hT hTl hS hD;simp only[e8,e9,e10,e12,e7,e6]at*;try go_wp2_with fail
      go_meet
      exact⟨_,_,_,_,_,_,_,_,_,_,_,_,_,_,_,mf,tf,rfl,HFI.o.1,HFI.o.2.1,HFI.o.2.2.1,HFI.o.2.2.2.1,HFI.o.2.2.2.2.1,HFI.o.2.2.2.2.2.1,HFI.o.2.2.2.2.2.2⟩
    case rest =>
     obtain⟨bm,n1,o1,n2,o2,n3,o3,n4,o4,n5,o5,n6,o6,n7,o7,mf,tf,rfl,Am,M4,T4,S4,D4,B4,lm⟩:=hcut;obtain⟨w4,e4⟩:∃w4,w4=wc:=⟨_,rfl⟩
     subst e4;obtain⟨W5,hW5⟩:∃W5,((((((((w4.setCell ⟨b,0,none⟩ (.slice n1 mf.1.length o1)).setCell ⟨b,1,none⟩ (.slice n2 mf.2.length o2)).setCell ⟨b,2,none⟩ (.slice n3 mf.3.length o3)).setCell ⟨b,3,none⟩ (.slice n4 mf.4.length o4)).setCell ⟨b,4,none⟩ (.slice n5 mf.5.length o5)).setCell ⟨b,5,none⟩ (.slice n6 mf.6.length o6)).setCell ⟨b,6,none⟩ (.int .i64 mf.nx)).setCell ⟨b,7,none⟩ (.slice n7 tf.length o7))=W5:=⟨_,rfl⟩
     have HW5:Hid (AtC W5 b 154 #[.slice n1 mf.1.length o1,.slice n2 mf.2.length o2,.slice n3 mf.3.length o3,.slice n4 mf.4.length o4,.slice n5 mf.5.length o5,.slice n6 mf.6.length o6,.int .i64 mf.nx,.slice n7 tf.length o7,.slice ma ns.length mc,.slice ka cs.length kc,.slice pa pl pc]/\Wp W5 B b (n+1) n1 n2 n3 n4 n5 n6 n7 ma ka pa o1 o2 o3 o4 o5 o6 o7 mc kc pl pc mf tf ns cs/\cs.length<=n/\AtC W5 w.1.size 158 #[.int .i64 6,.string p,.string q,.int .i64 at_,.string tx]/\w.grownBy W5 (some b)):=HFS.o w4 W5 bm n1 o1 n2 o2 n3 o3 n4 o4 n5 o5 n6 o6 n7 o7 mf tf M4 T4 S4 D4 B4 hW5.symm;have AB:AtC w4 b 154 #[.slice a1 m.1.length c1,.slice a2 m.2.length c2,.slice a3 m.3.length c3,.slice a4 m.4.length c4,.slice a5 m.5.length c5,.slice a6 m.6.length c6,.int .i64 m.nx,.slice ta ts.length tc,.slice ma ns.length mc,.slice ka cs.length kc,.slice pa pl pc]:=HW3.o.1.over B4;have hne:¬bm=b:=by omega
     have hne2:¬b=bm:=by omega
     obtain⟨y0,y1,y2,y3,y4,y5,y6,y7⟩:=AtC.eig AB;have f0:=AB.frozen 0;have f1:=AB.frozen 1;have f2:=AB.frozen 2;have f3:=AB.frozen 3;have f4:=AB.frozen 4;have f5:=AB.frozen 5;have f6:=AB.frozen 6;have f7:=AB.frozen 7;obtain⟨t0,t1,t2,t3,t4,t5,t6,t7⟩:=AtC.eig Am;clear M4 T4 S4 D4 AB HFS HX3 Am;go_upto_region 21 with fail
     clear hW5 y0 y1 y2 y3 y4 y5 y6 y7 f0 f1 f2 f3 f4 f5 f6 f7 t0 t1 t2 t3 t4 t5 t6 t7;have HE:Hid (AtC W5 b 154 #[.slice n1 mf.1.length o1,.slice n2 mf.2.length o2,.slice n3 mf.3.length o3,.slice n4 mf.4.length o4,.slice n5 mf.5.length o5,.slice n6 mf.6.length o6,.int .i64 mf.nx,.slice n7 tf.length o7,.slice ma ns.length mc,.slice ka cs.length kc,.slice pa pl pc]/\Wp W5 B b (n+1) n1 n2 n3 n4 n5 n6 n7 ma ka pa o1 o2 o3 o4 o5 o6 o7 mc kc pl pc mf tf ns cs/\cs.length<=n/\w.grownBy W5 (some b)):=⟨HW5.o.1,HW5.o.2.1,HW5.o.2.2.1,HW5.o.2.2.2.2⟩
     have hbW:b<W5.1.size:=HE.o.1.lt;obtain⟨WA,hWA⟩:∃WA,W5.alloc (.cells #[] 3)=WA:=⟨_,rfl⟩
     have HA:Hid (WA.ownsRow W5.1.size 3 1 (.slice (some ⟨W5.1.size,0,none⟩) 0 0) 0 []/\RC WA (.slice ka cs.length kc) cs.length (ic cs)/\Below W5.1.size W5 WA/\W5.1.size<=WA.1.size/\WA.cell? ⟨b,9,none⟩=some (.slice ka cs.length kc)):=by
      rw[←hWA];have bb:=(Below.refl _ W5).alloc nR (.cells #[] 3);have hr:=(HE.o.2.1.co.below bb nR).rints.rc;exact⟨(AtC.new W5 3 #[]).empty _ nR 1,hr,bb,bb.size,(HE.o.1.over bb).cell 9⟩
     have z9:=HA.o.2.2.2.2;have HLC:Hid (cs.length<=100000000000):=by have:=HE.o.2.2.1;show _<=_;omega
     have HIO:Hid (∀u∈ic cs,u.oneCell'=true):=fun u hu=>by simp[ic]at hu;obtain⟨z,-,rfl⟩:=hu;rfl
     have HIL:Hid ((ic cs).length=cs.length*1):=by show _=_;rw[zah];omega
     have HIL2:Hid ((ic cs).length<=100000000000):=by have:=HE.o.2.2.1;show _<=_;rw[zah];omega
     have HM8:Hid (∀(v8:Value)(w8:World),w8.ownsRow W5.1.size 3 1 v8 cs.length (ic cs)->WA.grownBy w8 (Value.slice (some ⟨W5.1.size,0,none⟩) 0 0).ownBlock->ROwns (w8.alloc (.cells #[.int .i64 cc] 3)) W5.1.size 3 v8 (ic cs)/\(w8.alloc (.cells #[.int .i64 cc] 3)).cell? ⟨w8.1.size,0,none⟩=some (.int .i64 cc)/\W5.1.size<=(w8.alloc (.cells #[.int .i64 cc] 3)).1.size/\Below W5.1.size W5 (w8.alloc (.cells #[.int .i64 cc] 3))):=fun v8 w8 R1 R2=>by
      have R1':ROwns w8 W5.1.size 3 v8 (ic cs):=by unfold ROwns;rw[zah];exact R1
      have b8:Below W5.1.size W5 w8:=HA.o.2.2.1.grown R2 HA.o.2.2.2.1 (fun k hk=>by simp[Value.ownBlock]at hk;omega);have b9:=b8.alloc b8.size (.cells #[.int .i64 cc] 3);exact⟨R1'.alloc _,(AtC.new w8 3 #[.int .i64 cc]).cell 0,b9.size,b9⟩
     have HM9:Hid (∀(v8:Value)(w8:World)(v9:Value)(w9:World),ROwns (w8.alloc (.cells #[.int .i64 cc] 3)) W5.1.size 3 v8 (ic cs)->Below W5.1.size W5 (w8.alloc (.cells #[.int .i64 cc] 3))->ROwns w9 W5.1.size 3 v9 (ic cs++[.int .i64 cc])->(w8.alloc (.cells #[.int .i64 cc] 3)).grownBy w9 v8.ownBlock->∃ka9 kc9,v9=.slice ka9 (cs++[cc]).length kc9/\w9.frozen? ⟨b,9,none⟩=false/\(∃x,w9.cell? ⟨b,9,none⟩=some x)/\WB (w9.setCell ⟨b,9,none⟩ v9) B b (n+1)/\w.grownBy (w9.setCell ⟨b,9,none⟩ v9) (some b)):=fun v8 w8 v9 w9 O8 b8 O9 G9=>by
      obtain⟨k1,k2,k3,k4⟩:=HE.o;have O9':ROwns w9 W5.1.size 3 v9 (ic (cs++[cc])):=by simpa[ic]using O9
      obtain⟨ka9,kc9,e9,-⟩:=O9'.form;rw[zah]at e9;subst e9;have b9:Below W5.1.size W5 w9:=b8.grown G9 b8.size (fun k hk=>(O8.lt k hk).1);have hg:w9.grownBy (w9.setCell ⟨b,9,none⟩ (.slice ka9 (cs++[cc]).length kc9)) (some b):=zar (zbp _ _);have h0:=(k2.below b9).grown hg;have hz:=k4.size;refine⟨ka9,kc9,rfl,(k1.over b9).frozen 9,⟨_,(k1.over b9).cell 9⟩,⟨n1,n2,n3,n4,n5,n6,n7,ma,ka9,pa,o1,o2,o3,o4,o5,o6,o7,mc,kc9,pl,pc,mf,tf,ns,cs++[cc],(k1.over b9).set 9 _,⟨h0.mo,h0.sh,h0.dv,h0.dn,h0.dk,h0.nd,h0.nn,h0.nl,h0.nb,(O9'.of_heap (fun k hk=>hg.block k (O9'.lt k hk).2 (by have:=(O9'.lt k hk).1;simp;omega))).base_le oM,fun k hk=>by have:=(O9'.lt k hk).1;omega,by simp;omega⟩,hBb⟩,zae (zae k4 (zal b9 _)) hg⟩
     go_wp2_with (first| (at_builtin;refine zaj _ rfl (.tmp 132) (.tmp 136) 40 rfl W5.1.size 3 Tryz.u40 _ 1 8 Tryz.i3 rfl dC dC (.slice (some ⟨W5.1.size,0,none⟩) 0 0) rfl HA.o.1 HA.o.2.2.2.1 _ rfl cs.length (ic cs) HA.o.2.1 HIL.o HIO.o HLC.o ?_;intro v8 w8 R1 R2 R3;have HR8:=hide (HM8.o v8 w8 R1 R2);clear R1 R2 R3)| (at_builtin;refine wpList_step fun K' hK'=>?_;refine zak _ rfl (.tmp 137) (.tmp 139) 40 rfl W5.1.size 3 Tryz.u40 _ 8 Tryz.i3 rfl dC v8 _ rfl HR8.o.1 HR8.o.2.2.1 w8.1.size (.int .i64 cc) rfl HR8.o.2.1 rfl HIL2.o ?_;intro v9 w9 T9 G9 V9;refine hK' _ _ ?_;obtain⟨ka9,kc9,rfl,hfz,⟨xx,hcx⟩,hWB⟩:=HM9.o v8 w8 v9 w9 HR8.o.1 HR8.o.2.2.2 T9 G9;have HWB:=hide hWB;clear T9 G9 V9 hK' hWB))
     go_end0
     have hfin:=HWB.o;simp only[List.length_append,List.length_cons,List.length_nil,Nat.zero_add]at hfin;exact⟨rfl,hfin.1,hfin.2⟩
   by_cases h7:kd=7
   ·subst h7;obtain⟨x0,x1,x2,x3,x4,x5,x6,x7⟩:=AtC.eig HW3.o.1;have HMR:Hid (R7 w3 m a1 c1 a2 c2 a3 c3 a4 c4 a5 c5 a6 c6/\RSt w3 (.slice ta ts.length tc) ts/\Sh Z0 m/\DvOk ts):=⟨HW3.o.2.1.mo.mr,HW3.o.2.1.dv.rst,HW3.o.2.1.sh,HW3.o.2.1.dk⟩
    go_wp2_with fail
    refine(zmr _ _ _ _ _ _ _ m ts w3 HMR.o.1 HMR.o.2.1 HMR.o.2.2.1 HMR.o.2.2.2).mono ?_;rintro e w4 ⟨fa,rfl,⟨n1,o1,n2,o2,n3,o3,n4,o4,n5,o5,n6,o6,n7,o7,mf,tf,rfl,M4,T4,S4,D4⟩,B4⟩;obtain⟨W5,hW5⟩:∃W5,((((((((w4.setCell ⟨b,0,none⟩ (.slice n1 mf.1.length o1)).setCell ⟨b,1,none⟩ (.slice n2 mf.2.length o2)).setCell ⟨b,2,none⟩ (.slice n3 mf.3.length o3)).setCell ⟨b,3,none⟩ (.slice n4 mf.4.length o4)).setCell ⟨b,4,none⟩ (.slice n5 mf.5.length o5)).setCell ⟨b,5,none⟩ (.slice n6 mf.6.length o6)).setCell ⟨b,6,none⟩ (.int .i64 mf.nx)).setCell ⟨b,7,none⟩ (.slice n7 tf.length o7))=W5:=⟨_,rfl⟩
    have HW5:Hid (AtC W5 b 154 #[.slice n1 mf.1.length o1,.slice n2 mf.2.length o2,.slice n3 mf.3.length o3,.slice n4 mf.4.length o4,.slice n5 mf.5.length o5,.slice n6 mf.6.length o6,.int .i64 mf.nx,.slice n7 tf.length o7,.slice ma ns.length mc,.slice ka cs.length kc,.slice pa pl pc]/\Wp W5 B b (n+1) n1 n2 n3 n4 n5 n6 n7 ma ka pa o1 o2 o3 o4 o5 o6 o7 mc kc pl pc mf tf ns cs/\cs.length<=n/\AtC W5 w.1.size 158 #[.int .i64 7,.string p,.string q,.int .i64 at_,.string tx]/\w.grownBy W5 (some b)):=HFS.o w4 W5 b n1 o1 n2 o2 n3 o3 n4 o4 n5 o5 n6 o6 n7 o7 mf tf (M4.mono (fun k hk=>by have:w3.1.size<=k:=hk;exact⟨this,by omega⟩)) T4 S4 D4 B4 hW5.symm;have AB:AtC w4 b 154 #[.slice a1 m.1.length c1,.slice a2 m.2.length c2,.slice a3 m.3.length c3,.slice a4 m.4.length c4,.slice a5 m.5.length c5,.slice a6 m.6.length c6,.int .i64 m.nx,.slice ta ts.length tc,.slice ma ns.length mc,.slice ka cs.length kc,.slice pa pl pc]:=HW3.o.1.over B4;obtain⟨y0,y1,y2,y3,y4,y5,y6,y7⟩:=AtC.eig AB;have f0:=AB.frozen 0;have f1:=AB.frozen 1;have f2:=AB.frozen 2;have f3:=AB.frozen 3;have f4:=AB.frozen 4;have f5:=AB.frozen 5;have f6:=AB.frozen 6;have f7:=AB.frozen 7;obtain⟨W6,hW6⟩:∃W6,W5.alloc (.cells #[] 194)=W6:=⟨_,rfl⟩
    have HW6:Hid (W6.ownsRow W5.1.size 194 4 (.slice (some ⟨W5.1.size,0,none⟩) 0 0) 0 []/\RC W6 (.slice ma ns.length mc) ns.length (ns.map ndRow).flatten/\Below W5.1.size W5 W6/\W5.1.size<=W6.1.size/\W6.cell? ⟨b,8,none⟩=some (.slice ma ns.length mc)/\W5.1.size=w4.1.size):=by
     rw[←hW6];have bb:=(Below.refl _ W5).alloc nR (.cells #[] 194);refine⟨(AtC.new W5 194 #[]).empty _ nR 4,(HW5.o.2.1.nd.below bb).rc,bb,bb.size,(HW5.o.1.over bb).cell 8,?_⟩;rw[←hW5];simp
    have HLN:Hid (ns.length<=100000000000):=by have:=HW3.o.2.1.nl;show _<=_;omega
    have y8:=HW6.o.2.2.2.2.1;have hsz:W5.1.size=w4.1.size:=HW6.o.2.2.2.2.2;rw[hsz]at HW6;clear M4 T4 S4 D4 AB HMR x0 x1 x2 x3 x4 x5 x6 x7;have HMK:Hid (∀v7 w7,w7.ownsRow w4.1.size 194 4 v7 ns.length (ns.map ndRow).flatten->W6.grownBy w7 (Value.slice (some ⟨w4.1.size,0,none⟩) 0 0).ownBlock->∃pa' pc',v7=.slice pa' ns.length pc'/\w7.frozen? ⟨b,10,none⟩=false/\(∃x,w7.cell? ⟨b,10,none⟩=some x)/\AtC (w7.setCell ⟨b,10,none⟩ (.slice pa' ns.length pc')) b 154 #[.slice n1 mf.1.length o1,.slice n2 mf.2.length o2,.slice n3 mf.3.length o3,.slice n4 mf.4.length o4,.slice n5 mf.5.length o5,.slice n6 mf.6.length o6,.int .i64 mf.nx,.slice n7 tf.length o7,.slice ma ns.length mc,.slice ka cs.length kc,.slice pa' ns.length pc']/\Wp (w7.setCell ⟨b,10,none⟩ (.slice pa' ns.length pc')) B b (n+1) n1 n2 n3 n4 n5 n6 n7 ma ka pa' o1 o2 o3 o4 o5 o6 o7 mc kc ns.length pc' mf tf ns cs/\cs.length<=n/\AtC (w7.setCell ⟨b,10,none⟩ (.slice pa' ns.length pc')) w.1.size 158 #[.int .i64 7,.string p,.string q,.int .i64 at_,.string tx]/\w.grownBy (w7.setCell ⟨b,10,none⟩ (.slice pa' ns.length pc')) (some b)):=fun v7 w7 R1 R2=>by
     obtain⟨k1,k2,k3,k4,k5⟩:=HW5.o;have O7:=NdO.of_owns R1;obtain⟨pa',pc',rfl⟩:=O7.form;have b67:Below w4.1.size W6 w7:=(Below.refl _ W6).mono (by have:=HW6.o.2.2.2.1;omega)|>.grown R2 (by have:=HW6.o.2.2.2.1;omega) (fun k hk=>by simp[Value.ownBlock]at hk;omega);have b57:Below W5.1.size W5 w7:=by
      rw[hsz];exact(HW6.o.2.2.1.mono oM).trans b67
     have hg:w7.grownBy (w7.setCell ⟨b,10,none⟩ (.slice pa' ns.length pc')) (some b):=zar (zbp _ _);refine⟨pa',pc',rfl,(k1.over b57).frozen 10,⟨_,(k1.over b57).cell 10⟩,(k1.over b57).set 10 _,(let h0:=(k2.below b57).grown hg;⟨h0.mo,h0.sh,h0.dv,h0.dn,h0.dk,h0.nd,h0.nn,h0.nl,h0.nb,h0.co,h0.cn,h0.cl⟩),k3,(k4.over b57).grown hg sO,zae (zae k5 (zal b57 _)) hg⟩
    go_upto_region 21 with(at_builtin;refine zaj _ rfl _ _ 152 rfl w4.1.size 194 Tryz.u152 _ 4 56 Tryz.i194 rfl dC dC (.slice (some ⟨w4.1.size,0,none⟩) 0 0) rfl HW6.o.1 HW6.o.2.2.2.1 _ rfl ns.length (ns.map ndRow).flatten HW6.o.2.1 (zec ns) (zed ns) HLN.o ?_;intro v7 w7 R1 R2 R3;obtain⟨pa',pc',rfl,hfz,⟨xx,hcx⟩,hW⟩:=HMK.o v7 w7 R1 R2;obtain⟨W8,hW8⟩:∃W8,(w7.setCell ⟨b,10,none⟩ (.slice pa' ns.length pc'))=W8:=⟨_,rfl⟩;rw[hW8]at hW;have HWF:=hide hW;clear R1 R2 R3 hW)
    clear hfz hcx hW8 HMK HW6 HW5 y8 hW6 hW5 hsz;have HE:Hid (AtC W8 b 154 #[.slice n1 mf.1.length o1,.slice n2 mf.2.length o2,.slice n3 mf.3.length o3,.slice n4 mf.4.length o4,.slice n5 mf.5.length o5,.slice n6 mf.6.length o6,.int .i64 mf.nx,.slice n7 tf.length o7,.slice ma ns.length mc,.slice ka cs.length kc,.slice pa' ns.length pc']/\Wp W8 B b (n+1) n1 n2 n3 n4 n5 n6 n7 ma ka pa' o1 o2 o3 o4 o5 o6 o7 mc kc ns.length pc' mf tf ns cs/\cs.length<=n/\w.grownBy W8 (some b)):=⟨HWF.o.1,HWF.o.2.1,HWF.o.2.2.1,HWF.o.2.2.2.2⟩
    have hbW:b<W8.1.size:=HE.o.1.lt;obtain⟨WA,hWA⟩:∃WA,W8.alloc (.cells #[] 3)=WA:=⟨_,rfl⟩
    have HA:Hid (WA.ownsRow W8.1.size 3 1 (.slice (some ⟨W8.1.size,0,none⟩) 0 0) 0 []/\RC WA (.slice ka cs.length kc) cs.length (ic cs)/\Below W8.1.size W8 WA/\W8.1.size<=WA.1.size/\WA.cell? ⟨b,9,none⟩=some (.slice ka cs.length kc)):=by
     rw[←hWA];have bb:=(Below.refl _ W8).alloc nR (.cells #[] 3);have hr:=(HE.o.2.1.co.below bb nR).rints.rc;exact⟨(AtC.new W8 3 #[]).empty _ nR 1,hr,bb,bb.size,(HE.o.1.over bb).cell 9⟩
    have z9:=HA.o.2.2.2.2;have HLC:Hid (cs.length<=100000000000):=by have:=HE.o.2.2.1;show _<=_;omega
    have HIO:Hid (∀u∈ic cs,u.oneCell'=true):=fun u hu=>by simp[ic]at hu;obtain⟨z,-,rfl⟩:=hu;rfl
    have HIL:Hid ((ic cs).length=cs.length*1):=by show _=_;rw[zah];omega
    have HIL2:Hid ((ic cs).length<=100000000000):=by have:=HE.o.2.2.1;show _<=_;rw[zah];omega
    have HM8:Hid (∀(v8:Value)(w8:World),w8.ownsRow W8.1.size 3 1 v8 cs.length (ic cs)->WA.grownBy w8 (Value.slice (some ⟨W8.1.size,0,none⟩) 0 0).ownBlock->ROwns (w8.alloc (.cells #[.int .i64 cc] 3)) W8.1.size 3 v8 (ic cs)/\(w8.alloc (.cells #[.int .i64 cc] 3)).cell? ⟨w8.1.size,0,none⟩=some (.int .i64 cc)/\W8.1.size<=(w8.alloc (.cells #[.int .i64 cc] 3)).1.size/\Below W8.1.size W8 (w8.alloc (.cells #[.int .i64 cc] 3))):=fun v8 w8 R1 R2=>by
     have R1':ROwns w8 W8.1.size 3 v8 (ic cs):=by unfold ROwns;rw[zah];exact R1
     have b8:Below W8.1.size W8 w8:=HA.o.2.2.1.grown R2 HA.o.2.2.2.1 (fun k hk=>by simp[Value.ownBlock]at hk;omega);have b9:=b8.alloc b8.size (.cells #[.int .i64 cc] 3);exact⟨R1'.alloc _,(AtC.new w8 3 #[.int .i64 cc]).cell 0,b9.size,b9⟩
    have HM9:Hid (∀(v8:Value)(w8:World)(v9:Value)(w9:World),ROwns (w8.alloc (.cells #[.int .i64 cc] 3)) W8.1.size 3 v8 (ic cs)->Below W8.1.size W8 (w8.alloc (.cells #[.int .i64 cc] 3))->ROwns w9 W8.1.size 3 v9 (ic cs++[.int .i64 cc])->(w8.alloc (.cells #[.int .i64 cc] 3)).grownBy w9 v8.ownBlock->∃ka9 kc9,v9=.slice ka9 (cs++[cc]).length kc9/\w9.frozen? ⟨b,9,none⟩=false/\(∃x,w9.cell? ⟨b,9,none⟩=some x)/\WB (w9.setCell ⟨b,9,none⟩ v9) B b (n+1)/\w.grownBy (w9.setCell ⟨b,9,none⟩ v9) (some b)):=fun v8 w8 v9 w9 O8 b8 O9 G9=>by
     obtain⟨k1,k2,k3,k4⟩:=HE.o;have O9':ROwns w9 W8.1.size 3 v9 (ic (cs++[cc])):=by simpa[ic]using O9
     obtain⟨ka9,kc9,e9,-⟩:=O9'.form;rw[zah]at e9;subst e9;have b9:Below W8.1.size W8 w9:=b8.grown G9 b8.size (fun k hk=>(O8.lt k hk).1);have hg:w9.grownBy (w9.setCell ⟨b,9,none⟩ (.slice ka9 (cs++[cc]).length kc9)) (some b):=zar (zbp _ _);have h0:=(k2.below b9).grown hg;have hz:=k4.size;refine⟨ka9,kc9,rfl,(k1.over b9).frozen 9,⟨_,(k1.over b9).cell 9⟩,⟨n1,n2,n3,n4,n5,n6,n7,ma,ka9,pa',o1,o2,o3,o4,o5,o6,o7,mc,kc9,ns.length,pc',mf,tf,ns,cs++[cc],(k1.over b9).set 9 _,⟨h0.mo,h0.sh,h0.dv,h0.dn,h0.dk,h0.nd,h0.nn,h0.nl,h0.nb,(O9'.of_heap (fun k hk=>hg.block k (O9'.lt k hk).2 (by have:=(O9'.lt k hk).1;simp;omega))).base_le oM,fun k hk=>by have:=(O9'.lt k hk).1;omega,by simp;omega⟩,hBb⟩,zae (zae k4 (zal b9 _)) hg⟩
    go_wp2_with (first| (at_builtin;refine zaj _ rfl (.tmp 132) (.tmp 136) 40 rfl W8.1.size 3 Tryz.u40 _ 1 8 Tryz.i3 rfl dC dC (.slice (some ⟨W8.1.size,0,none⟩) 0 0) rfl HA.o.1 HA.o.2.2.2.1 _ rfl cs.length (ic cs) HA.o.2.1 HIL.o HIO.o HLC.o ?_;intro v8 w8 R1 R2 R3;have HR8:=hide (HM8.o v8 w8 R1 R2);clear R1 R2 R3)| (at_builtin;refine wpList_step fun K' hK'=>?_;refine zak _ rfl (.tmp 137) (.tmp 139) 40 rfl W8.1.size 3 Tryz.u40 _ 8 Tryz.i3 rfl dC v8 _ rfl HR8.o.1 HR8.o.2.2.1 w8.1.size (.int .i64 cc) rfl HR8.o.2.1 rfl HIL2.o ?_;intro v9 w9 T9 G9 V9;refine hK' _ _ ?_;obtain⟨ka9,kc9,rfl,hfz,⟨xx,hcx⟩,hWB⟩:=HM9.o v8 w8 v9 w9 HR8.o.1 HR8.o.2.2.2 T9 G9;have HWB:=hide hWB;clear T9 G9 V9 hK' hWB))
    go_end0
    have hfin:=HWB.o;simp only[List.length_append,List.length_cons,List.length_nil,Nat.zero_add]at hfin;exact⟨rfl,hfin.1,hfin.2⟩
   have q6:(kd==6)=false:=beq_eq_false_iff_ne.mpr h6;have q7:(kd==7)=false:=beq_eq_false_iff_ne.mpr h7;have q8:(kd==8)=false:=beq_eq_false_iff_ne.mpr oM;go_upto_region 21 with fail
   have HE:Hid (AtC w3 b 154 #[.slice a1 m.1.length c1,.slice a2 m.2.length c2,.slice a3 m.3.length c3,.slice a4 m.4.length c4,.slice a5 m.5.length c5,.slice a6 m.6.length c6,.int .i64 m.nx,.slice ta ts.length tc,.slice ma ns.length mc,.slice ka cs.length kc,.slice pa pl pc]/\Wp w3 B b (n+1) a1 a2 a3 a4 a5 a6 ta ma ka pa c1 c2 c3 c4 c5 c6 tc mc kc pl pc m ts ns cs/\cs.length<=n/\w.grownBy w3 (some b)):=⟨HW3.o.1,HW3.o.2.1,HW3.o.2.2.1,HW3.o.2.2.2.2⟩
   have hbW:b<w3.1.size:=HE.o.1.lt;obtain⟨WA,hWA⟩:∃WA,w3.alloc (.cells #[] 3)=WA:=⟨_,rfl⟩
   have HA:Hid (WA.ownsRow w3.1.size 3 1 (.slice (some ⟨w3.1.size,0,none⟩) 0 0) 0 []/\RC WA (.slice ka cs.length kc) cs.length (ic cs)/\Below w3.1.size w3 WA/\w3.1.size<=WA.1.size/\WA.cell? ⟨b,9,none⟩=some (.slice ka cs.length kc)):=by
    rw[←hWA];have bb:=(Below.refl _ w3).alloc nR (.cells #[] 3);have hr:=(HE.o.2.1.co.below bb nR).rints.rc;exact⟨(AtC.new w3 3 #[]).empty _ nR 1,hr,bb,bb.size,(HE.o.1.over bb).cell 9⟩
   have z9:=HA.o.2.2.2.2;have HLC:Hid (cs.length<=100000000000):=by have:=HE.o.2.2.1;show _<=_;omega
   have HIO:Hid (∀u∈ic cs,u.oneCell'=true):=fun u hu=>by simp[ic]at hu;obtain⟨z,-,rfl⟩:=hu;rfl
   have HIL:Hid ((ic cs).length=cs.length*1):=by show _=_;rw[zah];omega
   have HIL2:Hid ((ic cs).length<=100000000000):=by have:=HE.o.2.2.1;show _<=_;rw[zah];omega
   have HM8:Hid (∀(v8:Value)(w8:World),w8.ownsRow w3.1.size 3 1 v8 cs.length (ic cs)->WA.grownBy w8 (Value.slice (some ⟨w3.1.size,0,none⟩) 0 0).ownBlock->ROwns (w8.alloc (.cells #[.int .i64 cc] 3)) w3.1.size 3 v8 (ic cs)/\(w8.alloc (.cells #[.int .i64 cc] 3)).cell? ⟨w8.1.size,0,none⟩=some (.int .i64 cc)/\w3.1.size<=(w8.alloc (.cells #[.int .i64 cc] 3)).1.size/\Below w3.1.size w3 (w8.alloc (.cells #[.int .i64 cc] 3))):=fun v8 w8 R1 R2=>by
    have R1':ROwns w8 w3.1.size 3 v8 (ic cs):=by unfold ROwns;rw[zah];exact R1
    have b8:Below w3.1.size w3 w8:=HA.o.2.2.1.grown R2 HA.o.2.2.2.1 (fun k hk=>by simp[Value.ownBlock]at hk;omega);have b9:=b8.alloc b8.size (.cells #[.int .i64 cc] 3);exact⟨R1'.alloc _,(AtC.new w8 3 #[.int .i64 cc]).cell 0,b9.size,b9⟩
   have HM9:Hid (∀(v8:Value)(w8:World)(v9:Value)(w9:World),ROwns (w8.alloc (.cells #[.int .i64 cc] 3)) w3.1.size 3 v8 (ic cs)->Below w3.1.size w3 (w8.alloc (.cells #[.int .i64 cc] 3))->ROwns w9 w3.1.size 3 v9 (ic cs++[.int .i64 cc])->(w8.alloc (.cells #[.int .i64 cc] 3)).grownBy w9 v8.ownBlock->∃ka9 kc9,v9=.slice ka9 (cs++[cc]).length kc9/\w9.frozen? ⟨b,9,none⟩=false/\(∃x,w9.cell? ⟨b,9,none⟩=some x)/\WB (w9.setCell ⟨b,9,none⟩ v9) B b (n+1)/\w.grownBy (w9.setCell ⟨b,9,none⟩ v9) (some b)):=fun v8 w8 v9 w9 O8 b8 O9 G9=>by
    obtain⟨k1,k2,k3,k4⟩:=HE.o;have O9':ROwns w9 w3.1.size 3 v9 (ic (cs++[cc])):=by simpa[ic]using O9
    obtain⟨ka9,kc9,e9,-⟩:=O9'.form;rw[zah]at e9;subst e9;have b9:Below w3.1.size w3 w9:=b8.grown G9 b8.size (fun k hk=>(O8.lt k hk).1);have hg:w9.grownBy (w9.setCell ⟨b,9,none⟩ (.slice ka9 (cs++[cc]).length kc9)) (some b):=zar (zbp _ _);have h0:=(k2.below b9).grown hg;have hz:=k4.size;refine⟨ka9,kc9,rfl,(k1.over b9).frozen 9,⟨_,(k1.over b9).cell 9⟩,⟨a1,a2,a3,a4,a5,a6,ta,ma,ka9,pa,c1,c2,c3,c4,c5,c6,tc,mc,kc9,pl,pc,m,ts,ns,cs++[cc],(k1.over b9).set 9 _,⟨h0.mo,h0.sh,h0.dv,h0.dn,h0.dk,h0.nd,h0.nn,h0.nl,h0.nb,(O9'.of_heap (fun k hk=>hg.block k (O9'.lt k hk).2 (by have:=(O9'.lt k hk).1;simp;omega))).base_le oM,fun k hk=>by have:=(O9'.lt k hk).1;omega,by simp;omega⟩,hBb⟩,zae (zae k4 (zal b9 _)) hg⟩
   go_wp2_with (first| (at_builtin;refine zaj _ rfl (.tmp 132) (.tmp 136) 40 rfl w3.1.size 3 Tryz.u40 _ 1 8 Tryz.i3 rfl dC dC (.slice (some ⟨w3.1.size,0,none⟩) 0 0) rfl HA.o.1 HA.o.2.2.2.1 _ rfl cs.length (ic cs) HA.o.2.1 HIL.o HIO.o HLC.o ?_;intro v8 w8 R1 R2 R3;have HR8:=hide (HM8.o v8 w8 R1 R2);clear R1 R2 R3)| (at_builtin;refine wpList_step fun K' hK'=>?_;refine zak _ rfl (.tmp 137) (.tmp 139) 40 rfl w3.1.size 3 Tryz.u40 _ 8 Tryz.i3 rfl dC v8 _ rfl HR8.o.1 HR8.o.2.2.1 w8.1.size (.int .i64 cc) rfl HR8.o.2.1 rfl HIL2.o ?_;intro v9 w9 T9 G9 V9;refine hK' _ _ ?_;obtain⟨ka9,kc9,rfl,hfz,⟨xx,hcx⟩,hWB⟩:=HM9.o v8 w8 v9 w9 HR8.o.1 HR8.o.2.2.2 T9 G9;have HWB:=hide hWB;clear T9 G9 V9 hK' hWB))
   go_end0
   have hfin:=HWB.o;simp only[List.length_append,List.length_cons,List.length_nil,Nat.zero_add]at hfin;exact⟨rfl,hfin.1,hfin.2⟩
namespace Kit
def SzB(L:Nat)(l:List ByteArray):Prop:=∀s∈l,s.size<=L
theorem SzB.nil(L:Nat):SzB L []:=fun s hs=>by simp at hs
theorem SzB.app{L:Nat}{l:List ByteArray}(h:SzB L l){x:ByteArray}(hx:x.size<=L):SzB L (l++[x]):=fun y hy=>(List.mem_append.mp hy).elim (h y) (fun e=>by simp at e;subst e;exact hx)
theorem ROwns.lit1(w:World)(base:Nat)(e:TypeId)(v:Value)(hb:base<=w.1.size):ROwns (w.alloc (.cells #[v] e)) base e (.slice (some ⟨w.1.size,0,none⟩) 1 1) [v]:=World.ownsRow_lit (base:=base) (e:=e) (size:=1) w #[v] 1 hb dC sI
structure Nx(w0 w wr:World)(c:Nat)(a:Option Addr)(len cap:Nat)(WD E:Array Value)(be:Nat)(fv dv av:Value)(fl dl al:List ByteArray):Prop where
 cur:Cur 103 w0 wr c a len cap
 hc:c<w.1.size
 gr:w.grownBy wr (some c)
 bx:AtC wr w.1.size 154 WD
 rs:AtC wr (w.1.size+1) 158 #[.int .i64 0,.string ⟨#[]⟩,.string ⟨#[]⟩,.int .i64 0,.string ⟨#[]⟩]
 ev:AtC wr be 158 E
 f:ROwns wr (w.1.size+1+1) 9 fv (stc fl)
 d:ROwns wr (w.1.size+1+1) 9 dv (stc dl)
 l:ROwns wr (w.1.size+1+1) 9 av (stc al)
 nf:∀k,fv.ownBlock=some k->k≠be/\dv.ownBlock≠some k/\av.ownBlock≠some k
 nd:∀k,dv.ownBlock=some k->k≠be/\av.ownBlock≠some k
 na:∀k,av.ownBlock=some k->k≠be
 hb:w.1.size+1+1<=be
namespace Nx
variable {w0 w wr wr' : World} {c : Nat} {a : Option Addr} {len cap : Nat} {WD E : Array Value} {be : Nat} {fv dv av : Value} {fl dl al : List ByteArray}
theorem size(h:Nx w0 w wr c a len cap WD E be fv dv av fl dl al):w.1.size<=wr.1.size:=h.gr.size
theorem below(h:Nx w0 w wr c a len cap WD E be fv dv av fl dl al)(hb:Below wr.1.size wr wr'):Nx w0 w wr' c a len cap WD E be fv dv av fl dl al:=by
 have z:=h.gr.size;have hcc:=h.hc;obtain⟨k1,k2,i,x,k3,k4⟩:=h.cur;exact⟨⟨k1,k2.trans (hb.mono k2.size),i,x,(hb.block c oM).trans k3,k4⟩,h.hc,zae h.gr (zal hb _),h.bx.over hb,h.rs.over hb,h.ev.over hb,h.f.below hb nR,h.d.below hb nR,h.l.below hb nR,h.nf,h.nd,h.na,h.hb⟩
theorem drew(h:Nx w0 w wr c a len cap WD E be fv dv av fl dl al)(hd:Drew w0 wr wr' c a len cap):Nx w0 w wr' c a len cap WD E be fv dv av fl dl al:=by
 have hcc:=h.hc;have hbb:=h.hb;refine⟨hd.1,h.hc,zae h.gr hd.2,h.bx.grown hd.2 sO,h.rs.grown hd.2 sO,h.ev.grown hd.2 sO,h.f.grown hd.2 (fun k hk=>?_),h.d.grown hd.2 (fun k hk=>?_),h.l.grown hd.2 (fun k hk=>?_),h.nf,h.nd,h.na,h.hb⟩
 ·have:=(h.f.lt k hk).1;simp;omega
 ·have:=(h.d.lt k hk).1;simp;omega
 ·have:=(h.l.lt k hk).1;simp;omega
theorem turnG(h:Nx w0 w wr c a len cap WD E be fv dv av fl dl al){row:Option Nat}(hg:wr.grownBy wr' row)(hr:∀k,row=some k->w.1.size+1+1<=k):Cur 103 w0 wr' c a len cap/\w.grownBy wr' (some c)/\AtC wr' w.1.size 154 WD/\AtC wr' (w.1.size+1) 158 #[.int .i64 0,.string ⟨#[]⟩,.string ⟨#[]⟩,.int .i64 0,.string ⟨#[]⟩]:=by
 have hcc:=h.hc;have z:=h.gr.size;obtain⟨k1,k2,i,x,k3,k4⟩:=h.cur;have hn:∀k,k<w.1.size+1+1->row≠some k:=fun k hk e=>by have:=hr k e;omega
 have hs0:=k2.size;refine⟨⟨k1,k2.grown hg hs0 (fun k hk=>by have:=hr k hk;omega),i,x,(hg.block c oM (fun e=>hn c oM e.symm)).trans k3,k4⟩,⟨hg.os.trans h.gr.os,hg.tape.trans h.gr.tape,hg.output.trans h.gr.output,Nat.le_trans z hg.size,fun k hk hne=>(hg.block k oM (fun e=>hn k oM e.symm)).trans (h.gr.block k hk hne)⟩,h.bx.grown hg (hn _ oM),h.rs.grown hg (hn _ oM)⟩
theorem setE(h:Nx w0 w wr c a len cap WD E be fv dv av fl dl al)(i:Nat)(x:Value):Nx w0 w (wr.setCell ⟨be,i,none⟩ x) c a len cap WD (E.setIfInBounds i x) be fv dv av fl dl al:=by
 have hbb:=h.hb;have hg:wr.grownBy (wr.setCell ⟨be,i,none⟩ x) (some be):=⟨rfl,rfl,rfl,by simp,fun k _ hk=>heap_setCell_other wr ⟨be,i,none⟩ k _ (fun e=>hk (by simp[e]))⟩
 obtain⟨t1,t2,t3,t4⟩:=h.turnG hg (fun k hk=>by simp at hk;omega);exact⟨t1,h.hc,t2,t3,t4,h.ev.set i x,h.f.grown hg (fun k hk e=>by simp at e;exact(h.nf k hk).1 e.symm),h.d.grown hg (fun k hk e=>by simp at e;exact(h.nd k hk).1 e.symm),h.l.grown hg (fun k hk e=>by simp at e;exact h.na k hk e.symm),h.nf,h.nd,h.na,h.hb⟩
theorem appF(h:Nx w0 w wr c a len cap WD E be fv dv av fl dl al){v:Value}{l:List ByteArray}(ho:ROwns wr' (w.1.size+1+1) 9 v (stc l))(hg:wr.grownBy wr' fv.ownBlock)(hv:∀k,v.ownBlock=some k->fv.ownBlock=some k\/wr.1.size<=k):Nx w0 w wr' c a len cap WD E be v dv av l dl al:=by
 obtain⟨t1,t2,t3,t4⟩:=h.turnG hg (fun k hk=>(h.f.lt k hk).1);refine⟨t1,h.hc,t2,t3,t4,h.ev.grown hg (fun e=>(h.nf _ e).1 rfl),ho,h.d.grown hg (fun k hk e=>(h.nf k e).2.1 hk),h.l.grown hg (fun k hk e=>(h.nf k e).2.2 hk),fun k hk=>(hv k hk).elim (h.nf k) (fun e=>⟨fun q=>?_,fun q=>?_,fun q=>?_⟩),h.nd,h.na,h.hb⟩
 ·have:=h.ev.lt;omega
 ·have:=(h.d.lt k q).2;omega
 ·have:=(h.l.lt k q).2;omega
theorem appD(h:Nx w0 w wr c a len cap WD E be fv dv av fl dl al){v:Value}{l:List ByteArray}(ho:ROwns wr' (w.1.size+1+1) 9 v (stc l))(hg:wr.grownBy wr' dv.ownBlock)(hv:∀k,v.ownBlock=some k->dv.ownBlock=some k\/wr.1.size<=k):Nx w0 w wr' c a len cap WD E be fv v av fl l al:=by
 obtain⟨t1,t2,t3,t4⟩:=h.turnG hg (fun k hk=>(h.d.lt k hk).1);refine⟨t1,h.hc,t2,t3,t4,h.ev.grown hg (fun e=>(h.nd _ e).1 rfl),h.f.grown hg (fun k hk e=>(h.nf k hk).2.1 e),ho,h.l.grown hg (fun k hk e=>(h.nd k e).2 hk),fun k hk=>⟨(h.nf k hk).1,fun q=>(hv k q).elim (h.nf k hk).2.1 (fun e=>?_),(h.nf k hk).2.2⟩,fun k hk=>(hv k hk).elim (h.nd k) (fun e=>⟨fun q=>?_,fun q=>?_⟩),h.na,h.hb⟩
 ·have:=(h.f.lt k hk).2;omega
 ·have:=h.ev.lt;omega
 ·have:=(h.l.lt k q).2;omega
theorem appA(h:Nx w0 w wr c a len cap WD E be fv dv av fl dl al){v:Value}{l:List ByteArray}(ho:ROwns wr' (w.1.size+1+1) 9 v (stc l))(hg:wr.grownBy wr' av.ownBlock)(hv:∀k,v.ownBlock=some k->av.ownBlock=some k\/wr.1.size<=k):Nx w0 w wr' c a len cap WD E be fv dv v fl dl l:=by
 obtain⟨t1,t2,t3,t4⟩:=h.turnG hg (fun k hk=>(h.l.lt k hk).1);refine⟨t1,h.hc,t2,t3,t4,h.ev.grown hg (fun e=>h.na _ e rfl),h.f.grown hg (fun k hk e=>(h.nf k hk).2.2 e),h.d.grown hg (fun k hk e=>(h.nd k hk).2 e),ho,fun k hk=>⟨(h.nf k hk).1,(h.nf k hk).2.1,fun q=>(hv k q).elim (h.nf k hk).2.2 (fun e=>?_)⟩,fun k hk=>⟨(h.nd k hk).1,fun q=>(hv k q).elim (h.nd k hk).2 (fun e=>?_)⟩,fun k hk=>(hv k hk).elim (h.na k) (fun e q=>?_),h.hb⟩
 ·have:=(h.f.lt k hk).2;omega
 ·have:=(h.d.lt k hk).2;omega
 ·have:=h.ev.lt;omega
end Nx
end Kit
theorem Kit.Nx.ret{w0 w wr:World}{c:Nat}{a:Option Addr}{len cap:Nat}{WD E:Array Value}{be:Nat}{fv dv av:Value}{fl dl al:List ByteArray}(h:Nx w0 w wr c a len cap WD E be fv dv av fl dl al)(x0 x1 x2 x3 x4:Value):
  Drew w0 w (((((wr.setCell ⟨w.1.size+1,0,none⟩ x0).setCell ⟨w.1.size+1,1,none⟩ x1).setCell ⟨w.1.size+1,2,none⟩ x2).setCell ⟨w.1.size+1,3,none⟩ x3).setCell ⟨w.1.size+1,4,none⟩ x4) c a len cap:=by
 have hcc:=h.hc;have step:∀(W:World)(i:Nat)(x:Value),Drew w0 w W c a len cap->Drew w0 w (W.setCell ⟨w.1.size+1,i,none⟩ x) c a len cap:=fun W i x hd=>by
  obtain⟨⟨k1,k2,j,y,k3,k4⟩,hg⟩:=hd;have ho:∀k,k≠w.1.size+1->(W.setCell ⟨w.1.size+1,i,none⟩ x).heap[k]?=W.1[k]?:=fun k hk=>heap_setCell_other W ⟨w.1.size+1,i,none⟩ k _ hk;have hz:w0.1.size<=w.1.size+1:=by omega
  exact⟨⟨k1,k2.setCell (p:=⟨w.1.size+1,i,none⟩) hz _,j,y,(ho c oM).trans k3,k4⟩,⟨hg.os,hg.tape,hg.output,Nat.le_trans hg.size sI,fun k hk hn=>(ho k oM).trans (hg.block k hk hn)⟩⟩
 exact step _ _ _ (step _ _ _ (step _ _ _ (step _ _ _ (step _ _ _ ⟨h.cur,h.gr⟩))))
def EvR(L:Nat)(e:Ending):Prop:=∃(kd:Int)(p q:ByteArray)(at_:Int)(tx:ByteArray),e=.returned (.agg #[.int .i64 kd,.string p,.string q,.int .i64 at_,.string tx])/\1<=kd/\kd<=7/\p.size<=L+3/\q.size<=L+3/\tx.size<=16
def zne:List Int:=[1,1,1,2,2,3,3,3,4,4,5,5,6,6,6,6,6,6,6,7]
theorem znf:∀z∈zne,1<=z/\z<=7:=by decide
def txS:List ByteArray:=[⟨#[]⟩,⟨#[120]⟩,⟨#[104,101,108,108,111]⟩,⟨#[48,49,50,51,52,53,54,55,56,57,97,98,99,100,101,102]⟩]
theorem txS_size:∀z∈txS,z.size<=16:=by decide
theorem next_any(L:Nat)(w0:World)(c:Nat)(a:Option Addr)(len cap:Nat)(m:MD)(ns:List Nd)(a1 a2 a3 a4 a5 a6 ta ma ka pa:Option Addr)(c1 c2 c3 c4 c5 c6 tl tc mc kl kc pl pc:Nat)(B:Nat)(w:World)(hcode:zbe w0 a len)(hlen:len<=1048576)(hcur:Cur 103 w0 w c a len cap)(hc:c<w.1.size)
  (hn:NdO w B (.slice ma ns.length mc) ns) (hcB:c<B) (hf:ROwns w 0 4 (.slice a5 m.5.length c5) (fc m.fs)) (hfc:∀k,(Value.slice a5 m.5.length c5).ownBlock=some k->k≠c) (hf21:m.5.length=21) (hnl:ns.length<=900) (hL:NdB L ns) (hL6:L<=1000000) :
  Calls Tryz.prog 116 #[.pointer (some ⟨c,0,none⟩),.agg #[.slice a1 m.1.length c1,.slice a2 m.2.length c2,.slice a3 m.3.length c3,.slice a4 m.4.length c4,.slice a5 m.5.length c5,.slice a6 m.6.length c6,.int .i64 m.nx,.slice ta tl tc,.slice ma ns.length mc,.slice ka kl kc,.slice pa pl pc]] w fun e w'=>EvR L e/\Drew w0 w w' c a len cap:=by
 obtain⟨W1,hW1⟩:∃W1,(((w.alloc (.cells #[.slice a1 m.1.length c1,.slice a2 m.2.length c2,.slice a3 m.3.length c3,.slice a4 m.4.length c4,.slice a5 m.5.length c5,.slice a6 m.6.length c6,.int .i64 m.nx,.slice ta tl tc,.slice ma ns.length mc,.slice ka kl kc,.slice pa pl pc] 154)).alloc (.cells #[.int .i64 0,.string ⟨#[]⟩,.string ⟨#[]⟩,.int .i64 0,.string ⟨#[]⟩] 158)).alloc (.cells #[.int .i64 1,.int .i64 1,.int .i64 1,.int .i64 2,.int .i64 2,.int .i64 3,.int .i64 3,.int .i64 3,.int .i64 4,.int .i64 4,.int .i64 5,.int .i64 5,.int .i64 6,.int .i64 6,.int .i64 6,.int .i64 6,.int .i64 6,.int .i64 6,.int .i64 6,.int .i64 7] 3))=W1:=⟨_,rfl⟩
 have HW1:Hid (Cur 103 w0 W1 c a len cap/\AtC W1 (w.1.size+1+1) 3 (ic zne).toArray/\AtC W1 w.1.size 154 #[.slice a1 m.1.length c1,.slice a2 m.2.length c2,.slice a3 m.3.length c3,.slice a4 m.4.length c4,.slice a5 m.5.length c5,.slice a6 m.6.length c6,.int .i64 m.nx,.slice ta tl tc,.slice ma ns.length mc,.slice ka kl kc,.slice pa pl pc]/\AtC W1 (w.1.size+1) 158 #[.int .i64 0,.string ⟨#[]⟩,.string ⟨#[]⟩,.int .i64 0,.string ⟨#[]⟩]/\w.grownBy W1 (some c)):=by
  rw[←hW1];have k2:=(AtC.new (w.alloc (.cells #[.slice a1 m.1.length c1,.slice a2 m.2.length c2,.slice a3 m.3.length c3,.slice a4 m.4.length c4,.slice a5 m.5.length c5,.slice a6 m.6.length c6,.int .i64 m.nx,.slice ta tl tc,.slice ma ns.length mc,.slice ka kl kc,.slice pa pl pc] 154)) 158 #[.int .i64 0,.string ⟨#[]⟩,.string ⟨#[]⟩,.int .i64 0,.string ⟨#[]⟩]).alloc (.cells #[.int .i64 1,.int .i64 1,.int .i64 1,.int .i64 2,.int .i64 2,.int .i64 3,.int .i64 3,.int .i64 3,.int .i64 4,.int .i64 4,.int .i64 5,.int .i64 5,.int .i64 6,.int .i64 6,.int .i64 6,.int .i64 6,.int .i64 6,.int .i64 6,.int .i64 6,.int .i64 7] 3);have k3:=AtC.new ((w.alloc (.cells #[.slice a1 m.1.length c1,.slice a2 m.2.length c2,.slice a3 m.3.length c3,.slice a4 m.4.length c4,.slice a5 m.5.length c5,.slice a6 m.6.length c6,.int .i64 m.nx,.slice ta tl tc,.slice ma ns.length mc,.slice ka kl kc,.slice pa pl pc] 154)).alloc (.cells #[.int .i64 0,.string ⟨#[]⟩,.string ⟨#[]⟩,.int .i64 0,.string ⟨#[]⟩] 158)) 3 #[.int .i64 1,.int .i64 1,.int .i64 1,.int .i64 2,.int .i64 2,.int .i64 3,.int .i64 3,.int .i64 3,.int .i64 4,.int .i64 4,.int .i64 5,.int .i64 5,.int .i64 6,.int .i64 6,.int .i64 6,.int .i64 6,.int .i64 6,.int .i64 6,.int .i64 6,.int .i64 7];have e2:(w.alloc (.cells #[.slice a1 m.1.length c1,.slice a2 m.2.length c2,.slice a3 m.3.length c3,.slice a4 m.4.length c4,.slice a5 m.5.length c5,.slice a6 m.6.length c6,.int .i64 m.nx,.slice ta tl tc,.slice ma ns.length mc,.slice ka kl kc,.slice pa pl pc] 154)).1.size=w.1.size+1:=by simp
  have e3:((w.alloc (.cells #[.slice a1 m.1.length c1,.slice a2 m.2.length c2,.slice a3 m.3.length c3,.slice a4 m.4.length c4,.slice a5 m.5.length c5,.slice a6 m.6.length c6,.int .i64 m.nx,.slice ta tl tc,.slice ma ns.length mc,.slice ka kl kc,.slice pa pl pc] 154)).alloc (.cells #[.int .i64 0,.string ⟨#[]⟩,.string ⟨#[]⟩,.int .i64 0,.string ⟨#[]⟩] 158)).1.size=w.1.size+1+1:=by simp
  rw[e2]at k2;rw[e3]at k3;exact⟨za5 (za5 (za5 hcur hc _) sO _) sO _,k3,((AtC.new w 154 _).alloc _).alloc _,k2,zae (zae (World.grownBy_alloc _ _ _) (World.grownBy_alloc _ _ _)) (World.grownBy_alloc _ _ _)⟩
 have HO:=hide hcode;have hne:c≠w.1.size+1+1:=by omega
 have HN:Hid (∀wr,w.grownBy wr (some c)->NdO wr B (.slice ma ns.length mc) ns/\ROwns wr 0 4 (.slice a5 m.5.length c5) (fc m.fs)):=fun wr hg=>by
  have n2:NdO wr B (.slice ma ns.length mc) ns:=hn.of_heap fun k hk=>by
   have:=hn.lt k hk;exact hg.block k this.2 sO
  exact⟨n2,hf.of_heap fun k hk=>hg.block k (hf.lt k hk).2 (by simp;exact hfc k hk)⟩
 have HNB:=hide hL;have HF21:=hide hf21;clear hcode hcur hn hf hfc hL hf21;go_enter Tryz.func116,Tryz.ntmps116
 go_wp2_with fail
 refine(zfe w0 W1 c (w.1.size+1+1) a len cap zne HO.o hlen HW1.o.1 HW1.o.2.1 hne dC dC).mono ?_;rintro e w1 ⟨kd,hkm,rfl,hd⟩;have hkr:=znf kd hkm;have HKR:=hide hkr;obtain⟨be,hbe⟩:∃be,w1.1.size=be:=⟨_,rfl⟩
 obtain⟨W5,hW5⟩:∃W5,((((w1.alloc (.cells #[.int .i64 kd,.string ⟨#[]⟩,.string ⟨#[]⟩,.int .i64 0,.string ⟨#[]⟩] 158)).alloc (.cells #[] 9)).alloc (.cells #[.string ⟨#[]⟩] 9)).alloc (.cells #[] 9))=W5:=⟨_,rfl⟩
 have HX5:Hid (Nx w0 w W5 c a len cap #[.slice a1 m.1.length c1,.slice a2 m.2.length c2,.slice a3 m.3.length c3,.slice a4 m.4.length c4,.slice a5 m.5.length c5,.slice a6 m.6.length c6,.int .i64 m.nx,.slice ta tl tc,.slice ma ns.length mc,.slice ka kl kc,.slice pa pl pc] #[.int .i64 kd,.string ⟨#[]⟩,.string ⟨#[]⟩,.int .i64 0,.string ⟨#[]⟩] be (.slice (some ⟨be+1,0,none⟩) 0 0) (.slice (some ⟨be+1+1,0,none⟩) 1 1) (.slice (some ⟨be+1+1+1,0,none⟩) 0 0) [] [⟨#[]⟩] []):=by
  obtain⟨q1,q2,q3,q4,q5⟩:=HW1.o;have g1:=zae q5 hd.2;have z1:w.1.size+1+1<w1.1.size:=by have:=q2.lt;have:=hd.2.size;omega
  rw[←hW5,←hbe];have hcw:c<w1.1.size:=by omega
  have b1:=(Below.refl _ w1).alloc nR (.cells #[.int .i64 kd,.string ⟨#[]⟩,.string ⟨#[]⟩,.int .i64 0,.string ⟨#[]⟩] 158);have e1:(w1.alloc (.cells #[.int .i64 kd,.string ⟨#[]⟩,.string ⟨#[]⟩,.int .i64 0,.string ⟨#[]⟩] 158)).1.size=w1.1.size+1:=by simp
  have e2:((w1.alloc (.cells #[.int .i64 kd,.string ⟨#[]⟩,.string ⟨#[]⟩,.int .i64 0,.string ⟨#[]⟩] 158)).alloc (.cells #[] 9)).1.size=w1.1.size+1+1:=by simp
  have e3:(((w1.alloc (.cells #[.int .i64 kd,.string ⟨#[]⟩,.string ⟨#[]⟩,.int .i64 0,.string ⟨#[]⟩] 158)).alloc (.cells #[] 9)).alloc (.cells #[.string ⟨#[]⟩] 9)).1.size=w1.1.size+1+1+1:=by simp
  have f:=ROwns.lit0 (w1.alloc (.cells #[.int .i64 kd,.string ⟨#[]⟩,.string ⟨#[]⟩,.int .i64 0,.string ⟨#[]⟩] 158)) (w.1.size+1+1) 9 sO;have d:=ROwns.lit1 ((w1.alloc (.cells #[.int .i64 kd,.string ⟨#[]⟩,.string ⟨#[]⟩,.int .i64 0,.string ⟨#[]⟩] 158)).alloc (.cells #[] 9)) (w.1.size+1+1) 9 (.string ⟨#[]⟩) sO;have l:=ROwns.lit0 (((w1.alloc (.cells #[.int .i64 kd,.string ⟨#[]⟩,.string ⟨#[]⟩,.int .i64 0,.string ⟨#[]⟩] 158)).alloc (.cells #[] 9)).alloc (.cells #[.string ⟨#[]⟩] 9)) (w.1.size+1+1) 9 sO;rw[e1]at f;rw[e2]at d;rw[e3]at l;have h1:Below w1.1.size w1 ((((w1.alloc (.cells #[.int .i64 kd,.string ⟨#[]⟩,.string ⟨#[]⟩,.int .i64 0,.string ⟨#[]⟩] 158)).alloc (.cells #[] 9)).alloc (.cells #[.string ⟨#[]⟩] 9)).alloc (.cells #[] 9)):=((b1.alloc sI _).alloc sO _).alloc sO _;obtain⟨k1,k2,i,x,k3,k4⟩:=hd.1;refine⟨⟨k1,k2.trans (h1.mono k2.size),i,x,(h1.block c hcw).trans k3,k4⟩,hc,zae g1 (zal h1 _),(q3.grown hd.2 sO).over h1,(q4.grown hd.2 sO).over h1,(((AtC.new w1 158 _).alloc _).alloc _).alloc _,(f.alloc _).alloc _,d.alloc _,l,?_,?_,?_,by omega⟩
  ·intro k hk;simp[Value.ownBlock]at hk ⊢;omega
  ·intro k hk;simp[Value.ownBlock]at hk ⊢;omega
  ·intro k hk;simp[Value.ownBlock]at hk ⊢;omega
 have x8:=HX5.o.bx.c8;clear hd hkm HW1 hkr;go_wp2_with fail
 clear hW5 hbe hW1 x8;go_loopw [6,7,8,9] (fun xf xd xa i wr=>∃(fv dv av:Value)(fl dl al:List ByteArray)(n:Nat),fv=xf/\dv=xd/\av=xa/\n<=ns.length/\i=.int .i64 n/\Hid (Nx w0 w wr c a len cap #[.slice a1 m.1.length c1,.slice a2 m.2.length c2,.slice a3 m.3.length c3,.slice a4 m.4.length c4,.slice a5 m.5.length c5,.slice a6 m.6.length c6,.int .i64 m.nx,.slice ta tl tc,.slice ma ns.length mc,.slice ka kl kc,.slice pa pl pc] #[.int .i64 kd,.string ⟨#[]⟩,.string ⟨#[]⟩,.int .i64 0,.string ⟨#[]⟩] be fv dv av fl dl al/\fl.length<=n/\dl.length<=n+1/\1<=dl.length/\al.length<=n/\SzB L fl/\SzB L dl/\SzB L al)) (fun _ _ _ i _=>ns.length-(intOf i).toNat)
 case atStart=>exact⟨_,_,_,[],[⟨#[]⟩],[],0,rfl,rfl,rfl,Nat.zero_le _,rfl,HX5.o,Nat.le_refl _,by decide,by decide,Nat.le_refl _,SzB.nil _,fun s hs=>by simp at hs;subst hs;exact Nat.zero_le _,SzB.nil _⟩
 case round =>
  obtain⟨fv,dv,av,fl,dl,al,n,e6,e7,e8,hn,rfl,HR⟩:=hrel;subst e6 e7 e8;obtain⟨wo,hwo⟩:∃wo,wo=wr:=⟨_,rfl⟩
  subst hwo;clear HX5;have x8:=HR.o.1.bx.c8;have n0:(0:Int)<=(n:Int):=by omega
  by_cases hlt:n<ns.length
  ·have n1:(n:Int)<(ns.length:Int):=by omega
   have n2:n<900:=by omega
   obtain⟨g,cap2,e1,p0,p1,-,-,-,hg,-⟩:=(HN.o wo HR.o.1.gr).1.at_ n hlt;simp only[Value.slice.injEq,true_and]at e1;obtain⟨rfl,rfl⟩:=e1;obtain⟨xp,hxp⟩:∃xp,ns[n].1=xp:=⟨_,rfl⟩
   obtain⟨xb,hxb⟩:∃xb,ns[n].2.1=xb:=⟨_,rfl⟩
   have HXP:Hid (xp.size<=L):=by have:=HNB.o _ (List.getElem_mem hlt);rw[hxp]at this;exact this
   rw[hxp]at p0;rw[hxb]at p1;have HXX:Hid (ns[n].1=xp/\ns[n].2.1=xb):=⟨hxp,hxb⟩
   clear hxp hxb;have HAL:Hid (Below wo.1.size wo (wo.alloc (.cells #[.string xp] 9))):=(Below.refl _ wo).alloc nR _;have HT:Hid (ROwns (wo.alloc (.cells #[.string xp] 9)) (w.1.size+1+1) 9 av (stc al)):=HR.o.1.l.alloc _;have HK2:Hid ((wo.alloc (.cells #[.string xp] 9)).cell? ⟨wo.1.size,0,none⟩=some (.string xp)):=(AtC.new wo 9 #[.string xp]).cell 0;have HSZ:Hid (w.1.size+1+1<=(wo.alloc (.cells #[.string xp] 9)).1.size):=by have:=HR.o.1.rs.lt;show _<=_;simp;omega
   have HTL:Hid ((stc al).length<=100000000000):=by have:=HR.o.2.2.2.2.1;show _<=_;rw[zaf];omega
   have HMK:Hid (∀v12 w12,ROwns w12 (w.1.size+1+1) 9 v12 (stc al++[.string xp])->(wo.alloc (.cells #[.string xp] 9)).grownBy w12 av.ownBlock->(∀k,v12.ownBlock=some k->av.ownBlock=some k\/(wo.alloc (.cells #[.string xp] 9)).1.size<=k)->Nx w0 w w12 c a len cap #[.slice a1 m.1.length c1,.slice a2 m.2.length c2,.slice a3 m.3.length c3,.slice a4 m.4.length c4,.slice a5 m.5.length c5,.slice a6 m.6.length c6,.int .i64 m.nx,.slice ta tl tc,.slice (some ⟨g,0,none⟩) ns.length mc,.slice ka kl kc,.slice pa pl pc] #[.int .i64 kd,.string ⟨#[]⟩,.string ⟨#[]⟩,.int .i64 0,.string ⟨#[]⟩] be fv dv v12 fl dl (al++[xp])):=fun v12 w12 T12 G12 V12=>(HR.o.1.below HAL.o).appA (by rw[za3];exact T12) G12 V12;go_upto_region 9 with(at_builtin;refine wpList_step fun K' hK'=>?_;refine zak _ rfl (.tmp 27) (.tmp 34) 44 rfl (w.1.size+1+1) 9 Tryz.u44 _ 16 Tryz.i9 rfl dC av _ rfl HT.o HSZ.o wo.1.size (.string xp) rfl HK2.o rfl HTL.o ?_;intro v12 w12 T12 G12 V12;refine hK' _ _ ?_;have HR12:=hide (HMK.o v12 w12 T12 G12 V12);clear T12 G12 V12 hK')
   clear HT HK2 HSZ HTL HMK HAL p0 p1 x8;have x8:=HR12.o.bx.c8;obtain⟨g',cap3,e1,p0,p1,-,-,-,-,-⟩:=(HN.o w12 HR12.o.gr).1.at_ n hlt;simp only[Value.slice.injEq,Option.some.injEq,Addr.mk.injEq,and_true,true_and]at e1;obtain⟨rfl,-⟩:=e1;rw[HXX.o.1]at p0;rw[HXX.o.2]at p1
   cases xb with
   | true =>
    have HT:Hid (ROwns (w12.alloc (.cells #[.string xp] 9)) (w.1.size+1+1) 9 dv (stc dl)):=HR12.o.d.alloc _;have HK2:Hid ((w12.alloc (.cells #[.string xp] 9)).cell? ⟨w12.1.size,0,none⟩=some (.string xp)):=(AtC.new w12 9 #[.string xp]).cell 0;have HSZ:Hid (w.1.size+1+1<=(w12.alloc (.cells #[.string xp] 9)).1.size):=by have:=HR12.o.rs.lt;show _<=_;simp;omega
    have HTL:Hid ((stc dl).length<=100000000000):=by have:=HR.o.2;show _<=_;rw[zaf];omega
    have HMK:Hid (∀v13 w13,ROwns w13 (w.1.size+1+1) 9 v13 (stc dl++[.string xp])->(w12.alloc (.cells #[.string xp] 9)).grownBy w13 (dv).ownBlock->(∀k,v13.ownBlock=some k->(dv).ownBlock=some k\/(w12.alloc (.cells #[.string xp] 9)).1.size<=k)->Nx w0 w w13 c a len cap #[.slice a1 m.1.length c1,.slice a2 m.2.length c2,.slice a3 m.3.length c3,.slice a4 m.4.length c4,.slice a5 m.5.length c5,.slice a6 m.6.length c6,.int .i64 m.nx,.slice ta tl tc,.slice (some ⟨g,0,none⟩) ns.length mc,.slice ka kl kc,.slice pa pl pc] #[.int .i64 kd,.string ⟨#[]⟩,.string ⟨#[]⟩,.int .i64 0,.string ⟨#[]⟩] be fv v13 v12 fl (dl++[xp]) (al++[xp])):=fun v13 w13 T13 G13 V13=>(HR12.o.below ((Below.refl _ w12).alloc nR _)).appD (by rw[za3];exact T13) G13 V13;go_wp2_with (at_builtin;refine wpList_step fun K' hK'=>?_;refine zak _ rfl (.tmp 42) (.tmp 49) 44 rfl (w.1.size+1+1) 9 Tryz.u44 _ 16 Tryz.i9 rfl dC dv _ rfl HT.o HSZ.o w12.1.size (.string xp) rfl HK2.o rfl HTL.o ?_;intro v13 w13 T13 G13 V13;refine hK' _ _ ?_;have HR13:=hide (HMK.o v13 w13 T13 G13 V13);clear T13 G13 V13 hK')
    go_roundw
    case rel =>
     obtain⟨-,q1,q2,q3,q4,q5,q6,q7⟩:=HR.o;exact⟨fv,v13,v12,fl,dl++[xp],al++[xp],n+1,rfl,rfl,rfl,by omega,by go_num,HR13.o,by omega,by simp;omega,by simp,by simp;omega,q5,q6.app HXP.o,q7.app HXP.o⟩
    case measure=>simp[intOf];omega
   | false =>
    have HT:Hid (ROwns (w12.alloc (.cells #[.string xp] 9)) (w.1.size+1+1) 9 fv (stc fl)):=HR12.o.f.alloc _;have HK2:Hid ((w12.alloc (.cells #[.string xp] 9)).cell? ⟨w12.1.size,0,none⟩=some (.string xp)):=(AtC.new w12 9 #[.string xp]).cell 0;have HSZ:Hid (w.1.size+1+1<=(w12.alloc (.cells #[.string xp] 9)).1.size):=by have:=HR12.o.rs.lt;show _<=_;simp;omega
    have HTL:Hid ((stc fl).length<=100000000000):=by have:=HR.o.2;show _<=_;rw[zaf];omega
    have HMK:Hid (∀v13 w13,ROwns w13 (w.1.size+1+1) 9 v13 (stc fl++[.string xp])->(w12.alloc (.cells #[.string xp] 9)).grownBy w13 (fv).ownBlock->(∀k,v13.ownBlock=some k->(fv).ownBlock=some k\/(w12.alloc (.cells #[.string xp] 9)).1.size<=k)->Nx w0 w w13 c a len cap #[.slice a1 m.1.length c1,.slice a2 m.2.length c2,.slice a3 m.3.length c3,.slice a4 m.4.length c4,.slice a5 m.5.length c5,.slice a6 m.6.length c6,.int .i64 m.nx,.slice ta tl tc,.slice (some ⟨g,0,none⟩) ns.length mc,.slice ka kl kc,.slice pa pl pc] #[.int .i64 kd,.string ⟨#[]⟩,.string ⟨#[]⟩,.int .i64 0,.string ⟨#[]⟩] be v13 dv v12 (fl++[xp]) dl (al++[xp])):=fun v13 w13 T13 G13 V13=>(HR12.o.below ((Below.refl _ w12).alloc nR _)).appF (by rw[za3];exact T13) G13 V13;go_wp2_with (at_builtin;refine wpList_step fun K' hK'=>?_;refine zak _ rfl (.tmp 51) (.tmp 58) 44 rfl (w.1.size+1+1) 9 Tryz.u44 _ 16 Tryz.i9 rfl dC fv _ rfl HT.o HSZ.o w12.1.size (.string xp) rfl HK2.o rfl HTL.o ?_;intro v13 w13 T13 G13 V13;refine hK' _ _ ?_;have HR13:=hide (HMK.o v13 w13 T13 G13 V13);clear T13 G13 V13 hK')
    go_roundw
    case rel =>
     obtain⟨-,q1,q2,q3,q4,q5,q6,q7⟩:=HR.o;exact⟨v13,dv,v12,fl++[xp],dl,al++[xp],n+1,rfl,rfl,rfl,by omega,by go_num,HR13.o,by simp;omega,by omega,q3,by simp;omega,q5.app HXP.o,q6,q7.app HXP.o⟩
    case measure=>simp[intOf];omega
  have n1:¬((n:Int)<(ns.length:Int)):=by omega
  obtain⟨HRN,hfl,hdl,hdl1,hal,hsf,hsd,hsa⟩:=HR.o;have HX:=hide HRN;have HS:=hide (And.intro hsf (And.intro hsd hsa));obtain⟨da,dc,edv,-⟩:=HRN.d.form;rw[zaf]at edv;subst edv;obtain⟨fa,fcc,efv,-⟩:=HRN.f.form;rw[zaf]at efv;subst efv;obtain⟨la,lc,eav,-⟩:=HRN.l.form;rw[zaf]at eav;subst eav;clear HR HRN hsf hsd hsa;have hl3:0<dl.length/\dl.length<=1000:=⟨by omega,by omega⟩
  go_upto_region 12 with fail
  clear x8;go_cut [10]from 20 to 70 (fun c10 wx=>(∃fr:ByteArray,c10=.string fr/\fr.size<=L+3)/\Nx w0 w wx c a len cap #[.slice a1 m.1.length c1,.slice a2 m.2.length c2,.slice a3 m.3.length c3,.slice a4 m.4.length c4,.slice a5 m.5.length c5,.slice a6 m.6.length c6,.int .i64 m.nx,.slice ta tl tc,.slice ma ns.length mc,.slice ka kl kc,.slice pa pl pc] #[.int .i64 kd,.string ⟨#[]⟩,.string ⟨#[]⟩,.int .i64 0,.string ⟨#[]⟩] be (.slice fa fl.length fcc) (.slice da dl.length dc) (.slice la al.length lc) fl dl al)
  case first =>
   obtain⟨gd,cd,ed,-,-⟩:=zc3 HX.o.d 0 hl3.1;simp only[Value.slice.injEq,true_and]at ed;obtain⟨rfl,rfl⟩:=ed;have HDD:Hid (∀W,Nx w0 w W c a len cap #[.slice a1 m.1.length c1,.slice a2 m.2.length c2,.slice a3 m.3.length c3,.slice a4 m.4.length c4,.slice a5 m.5.length c5,.slice a6 m.6.length c6,.int .i64 m.nx,.slice ta tl tc,.slice ma ns.length mc,.slice ka kl kc,.slice pa pl pc] #[.int .i64 kd,.string ⟨#[]⟩,.string ⟨#[]⟩,.int .i64 0,.string ⟨#[]⟩] be (.slice fa fl.length fcc) (.slice (some ⟨gd,0,none⟩) dl.length dc) (.slice la al.length lc) fl dl al->∀x:Nat,x<dl.length->W.cell? ⟨gd,x,none⟩=some (.string (dl.getD x ⟨#[]⟩))/\(dl.getD x ⟨#[]⟩).size<=L):=fun W hN x hx=>by
    obtain⟨gd',cd',e1,k1,-⟩:=zc3 hN.d x hx;simp only[Value.slice.injEq,Option.some.injEq,Addr.mk.injEq,and_true,true_and]at e1;obtain⟨rfl,-⟩:=e1;have e:dl.getD x ⟨#[]⟩=dl[x]:=by simp[hx]
    rw[e];exact⟨k1,HS.o.2.1 _ (List.getElem_mem hx)⟩
   have HXD:Hid (Nx w0 w wo.drew c a len cap #[.slice a1 m.1.length c1,.slice a2 m.2.length c2,.slice a3 m.3.length c3,.slice a4 m.4.length c4,.slice a5 m.5.length c5,.slice a6 m.6.length c6,.int .i64 m.nx,.slice ta tl tc,.slice ma ns.length mc,.slice ka kl kc,.slice pa pl pc] #[.int .i64 kd,.string ⟨#[]⟩,.string ⟨#[]⟩,.int .i64 0,.string ⟨#[]⟩] be (.slice fa fl.length fcc) (.slice (some ⟨gd,0,none⟩) dl.length dc) (.slice la al.length lc) fl dl al):=HX.o.below bR.drew;have hd4:dl.length<=4294967296:=by omega
   have HFS:Hid (∀s z:ByteArray,s.size<=L->z.size<=2->((s++(⟨#[47]⟩:ByteArray))++z).size<=L+3):=fun s z h1 h2=>by
    rw[ByteArray.size_append,ByteArray.size_append];have:(⟨#[47]⟩:ByteArray).size=1:=rfl;omega
   have HCW:Hid (∀W,Nx w0 w W c a len cap #[.slice a1 m.1.length c1,.slice a2 m.2.length c2,.slice a3 m.3.length c3,.slice a4 m.4.length c4,.slice a5 m.5.length c5,.slice a6 m.6.length c6,.int .i64 m.nx,.slice ta tl tc,.slice ma ns.length mc,.slice ka kl kc,.slice pa pl pc] #[.int .i64 kd,.string ⟨#[]⟩,.string ⟨#[]⟩,.int .i64 0,.string ⟨#[]⟩] be (.slice fa fl.length fcc) (.slice (some ⟨gd,0,none⟩) dl.length dc) (.slice la al.length lc) fl dl al->c<W.1.size):=fun W hN=>by have:=hN.size;omega
   go_region_with (first| (go_at_call 36;refine(zao w0 _ c a len cap dl.length HO.o hlen HXD.o.cur hl3.1 hd4).mono ?_;rintro e w13 ⟨x,hx,rfl,hd13⟩;have HX13:=hide (HXD.o.drew hd13);obtain⟨ks,hsz⟩:=HDD.o w13 HX13.o x hx;obtain⟨s,hs⟩:∃s,dl.getD x ⟨#[]⟩=s:=⟨_,rfl⟩;rw[hs]at ks hsz;have HSS:=hide hs;clear hd13 hs;have x0:(0:Int)<=(x:Int):=Int.natCast_nonneg x;have x1:(x:Int)<(dl.length:Int):=Int.ofNat_lt.2 hx;have h3:¬9223372036854775807<s.size+1:=(fun q=>by omega))| (go_at_call 139;refine(name_any w0 _ c a len cap HO.o hlen HX13.o.cur (HCW.o _ HX13.o)).mono ?_;rintro e w14 ⟨z,hz,rfl,hd14⟩;have HX14:=hide (HX13.o.drew hd14);have ks2:=(HDD.o w14 HX14.o x hx).1;rw[HSS.o]at ks2;clear hd14;have h4:¬9223372036854775807<s.size+1+z.size:=(fun q=>by omega)))
   all_goals (go_wp2_with fail;go_meet;exact⟨⟨_,rfl,HFS.o s z hsz hz⟩,HX14.o⟩)
  case rest =>
   obtain⟨⟨fr,rfl,hfr⟩,hx⟩:=hcut;obtain⟨w2,hw2⟩:∃w2,w2=wc:=⟨_,rfl⟩
   subst hw2;have HX2:=hide hx;have hbb:=hx.hb;have ne1:¬be=w.1.size+1:=by omega
   have ne2:¬w.1.size+1=be:=by omega
   clear hbb;have hcw2:c<w2.1.size:=by have:=hx.size;omega
   clear hx HX;have e0:=HX2.o.ev.c0;have e1:=HX2.o.ev.c1;have e2:=HX2.o.ev.c2;have e3:=HX2.o.ev.c3;have e4:=HX2.o.ev.c4;have f0:=HX2.o.ev.frozen 0;have f1:=HX2.o.ev.frozen 1;have f2:=HX2.o.ev.frozen 2;have f3:=HX2.o.ev.frozen 3;have f4:=HX2.o.ev.frozen 4;have r0:=HX2.o.rs.c0;have r1:=HX2.o.rs.c1;have r2:=HX2.o.rs.c2;have r3:=HX2.o.rs.c3;have r4:=HX2.o.rs.c4;have v0:=HX2.o.rs.frozen 0;have v1:=HX2.o.rs.frozen 1;have v2:=HX2.o.rs.frozen 2;have v3:=HX2.o.rs.frozen 3;have v4:=HX2.o.rs.frozen 4;by_cases h1:kd=1
   ·subst h1;go_wp2;refine bodyPost_ret (v:=.agg #[.int .i64 1,.string fr,.string ⟨#[]⟩,.int .i64 0,.string ⟨#[]⟩]) sR5 rfl ⟨⟨_,_,_,_,_,rfl,by decide,by decide,hfr,by show(0:Nat)<=_;omega,by show(0:Nat)<=16;omega⟩,(HX2.o.setE 1 (.string fr)).ret _ _ _ _ _⟩
   by_cases h2:kd=2
   ·subst h2;go_wp2;refine bodyPost_ret (v:=.agg #[.int .i64 2,.string fr,.string ⟨#[]⟩,.int .i64 0,.string ⟨#[]⟩]) sR5 rfl ⟨⟨_,_,_,_,_,rfl,by decide,by decide,hfr,by show(0:Nat)<=_;omega,by show(0:Nat)<=16;omega⟩,(HX2.o.setE 1 (.string fr)).ret _ _ _ _ _⟩
   by_cases h7:kd=7
   ·subst h7;go_wp2;refine bodyPost_ret (v:=.agg #[.int .i64 7,.string ⟨#[]⟩,.string ⟨#[]⟩,.int .i64 0,.string ⟨#[]⟩]) sR5 rfl ⟨⟨_,_,_,_,_,rfl,by decide,by decide,by show(0:Nat)<=_;omega,by show(0:Nat)<=_;omega,by show(0:Nat)<=16;omega⟩,HX2.o.ret _ _ _ _ _⟩
   by_cases h5:kd=5
   ·subst h5;obtain⟨W3,hW3⟩:∃W3,w2.setCell ⟨be,1,none⟩ (.string ⟨#[47,97]⟩)=W3:=⟨_,rfl⟩
    have HX3:Hid (Nx w0 w W3 c a len cap #[.slice a1 m.1.length c1,.slice a2 m.2.length c2,.slice a3 m.3.length c3,.slice a4 m.4.length c4,.slice a5 m.5.length c5,.slice a6 m.6.length c6,.int .i64 m.nx,.slice ta tl tc,.slice ma ns.length mc,.slice ka kl kc,.slice pa pl pc] #[.int .i64 5,.string ⟨#[47,97]⟩,.string ⟨#[]⟩,.int .i64 0,.string ⟨#[]⟩] be (.slice fa fl.length fcc) (.slice da dl.length dc) (.slice la al.length lc) fl dl al):=by rw[←hW3];exact HX2.o.setE 1 (.string ⟨#[47,97]⟩)
    go_upto_if 84 with fail
    clear e0 e1 e2 e3 e4 f0 f1 f2 f3 f4 r0 r1 r2 r3 r4 v0 v1 v2 v3 v4 hW3;go_cut [5]from 82 to 92 (fun cx wx=>cx=.pointer (some ⟨be,0,none⟩)/\∃pp:ByteArray,pp.size<=L+3/\Nx w0 w wx c a len cap #[.slice a1 m.1.length c1,.slice a2 m.2.length c2,.slice a3 m.3.length c3,.slice a4 m.4.length c4,.slice a5 m.5.length c5,.slice a6 m.6.length c6,.int .i64 m.nx,.slice ta tl tc,.slice ma ns.length mc,.slice ka kl kc,.slice pa pl pc] #[.int .i64 5,.string pp,.string ⟨#[]⟩,.int .i64 0,.string ⟨#[]⟩] be (.slice fa fl.length fcc) (.slice da dl.length dc) (.slice la al.length lc) fl dl al)
    case first =>
     exact cQ18
    case rest =>
     obtain⟨rfl,pp,hpp,hx⟩:=hcut;obtain⟨w4,hw4⟩:∃w4,w4=wc:=⟨_,rfl⟩
     subst hw4;have HX4:=hide hx;clear hx HX3;have e0:=HX4.o.ev.c0;have e1:=HX4.o.ev.c1;have e2:=HX4.o.ev.c2;have e3:=HX4.o.ev.c3;have e4:=HX4.o.ev.c4;have f0:=HX4.o.ev.frozen 0;have f1:=HX4.o.ev.frozen 1;have f2:=HX4.o.ev.frozen 2;have f3:=HX4.o.ev.frozen 3;have f4:=HX4.o.ev.frozen 4;have r0:=HX4.o.rs.c0;have r1:=HX4.o.rs.c1;have r2:=HX4.o.rs.c2;have r3:=HX4.o.rs.c3;have r4:=HX4.o.rs.c4;have v0:=HX4.o.rs.frozen 0;have v1:=HX4.o.rs.frozen 1;have v2:=HX4.o.rs.frozen 2;have v3:=HX4.o.rs.frozen 3;have v4:=HX4.o.rs.frozen 4;go_wp2;refine bodyPost_ret (v:=.agg #[.int .i64 5,.string pp,.string fr,.int .i64 0,.string ⟨#[]⟩]) sR5 rfl ⟨⟨_,_,_,_,_,rfl,by decide,by decide,hpp,hfr,by show(0:Nat)<=16;omega⟩,(HX4.o.setE 2 (.string fr)).ret _ _ _ _ _⟩
   by_cases h4:kd=4
   ·subst h4;by_cases hz:0<al.length
    rotate_left
    ·have hz1:¬(0:Int)<(al.length:Int):=by omega
     go_wp2;refine bodyPost_ret (v:=.agg #[.int .i64 4,.string ⟨#[47,98]⟩,.string ⟨#[]⟩,.int .i64 0,.string ⟨#[]⟩]) sR5 rfl ⟨⟨_,_,_,_,_,rfl,by decide,by decide,by show(2:Nat)<=L+3;omega,by show(0:Nat)<=_;omega,by show(0:Nat)<=16;omega⟩,(HX2.o.setE 1 (.string ⟨#[47,98]⟩)).ret _ _ _ _ _⟩
    have hz1:(0:Int)<(al.length:Int):=by omega
    obtain⟨W3,hW3⟩:∃W3,w2.setCell ⟨be,1,none⟩ (.string ⟨#[47,98]⟩)=W3:=⟨_,rfl⟩
    have HX3:Hid (Nx w0 w W3 c a len cap #[.slice a1 m.1.length c1,.slice a2 m.2.length c2,.slice a3 m.3.length c3,.slice a4 m.4.length c4,.slice a5 m.5.length c5,.slice a6 m.6.length c6,.int .i64 m.nx,.slice ta tl tc,.slice ma ns.length mc,.slice ka kl kc,.slice pa pl pc] #[.int .i64 4,.string ⟨#[47,98]⟩,.string ⟨#[]⟩,.int .i64 0,.string ⟨#[]⟩] be (.slice fa fl.length fcc) (.slice da dl.length dc) (.slice la al.length lc) fl dl al):=by rw[←hW3];exact HX2.o.setE 1 (.string ⟨#[47,98]⟩)
    obtain⟨gd,cd,ed,-,-⟩:=zc3 HX3.o.l 0 hz;simp only[Value.slice.injEq,true_and]at ed;obtain⟨rfl,rfl⟩:=ed;go_wp2_with fail
    refine(zao w0 W3 c a len cap al.length HO.o hlen HX3.o.cur hz oM).mono ?_;rintro e w13 ⟨x,hx,rfl,hd13⟩;have HX13:=hide (HX3.o.drew hd13);obtain⟨gd',cd',e1',ks,-⟩:=zc3 HX13.o.l x hx;simp only[Value.slice.injEq,Option.some.injEq,Addr.mk.injEq,and_true,true_and]at e1';obtain⟨rfl,-⟩:=e1';have hsz:=HS.o.2.2 _ (List.getElem_mem hx);obtain⟨s,hs⟩:∃s,al[x]=s:=⟨_,rfl⟩
    rw[hs]at ks hsz;have x0:(0:Int)<=(x:Int):=by omega
    have x1:(x:Int)<(al.length:Int):=by omega
    clear e0 e1 e2 e3 e4 f0 f1 f2 f3 f4 r0 r1 r2 r3 r4 v0 v1 v2 v3 v4 hd13 hs hW3;have e0:=HX13.o.ev.c0;have e1:=HX13.o.ev.c1;have e2:=HX13.o.ev.c2;have e3:=HX13.o.ev.c3;have e4:=HX13.o.ev.c4;have f0:=HX13.o.ev.frozen 0;have f1:=HX13.o.ev.frozen 1;have f2:=HX13.o.ev.frozen 2;have f3:=HX13.o.ev.frozen 3;have f4:=HX13.o.ev.frozen 4;have r0:=HX13.o.rs.c0;have r1:=HX13.o.rs.c1;have r2:=HX13.o.rs.c2;have r3:=HX13.o.rs.c3;have r4:=HX13.o.rs.c4;have v0:=HX13.o.rs.frozen 0;have v1:=HX13.o.rs.frozen 1;have v2:=HX13.o.rs.frozen 2;have v3:=HX13.o.rs.frozen 3;have v4:=HX13.o.rs.frozen 4;go_wp2;refine bodyPost_ret (v:=.agg #[.int .i64 4,.string s,.string ⟨#[]⟩,.int .i64 0,.string ⟨#[]⟩]) sR5 rfl ⟨⟨_,_,_,_,_,rfl,by decide,by decide,by omega,by show(0:Nat)<=_;omega,by show(0:Nat)<=16;omega⟩,(HX13.o.setE 1 (.string s)).ret _ _ _ _ _⟩
   by_cases h3:kd=3
   ·subst h3;obtain⟨W3,hW3⟩:∃W3,w2.setCell ⟨be,1,none⟩ (.string ⟨#[47,97]⟩)=W3:=⟨_,rfl⟩
    have HX3:Hid (Nx w0 w W3 c a len cap #[.slice a1 m.1.length c1,.slice a2 m.2.length c2,.slice a3 m.3.length c3,.slice a4 m.4.length c4,.slice a5 m.5.length c5,.slice a6 m.6.length c6,.int .i64 m.nx,.slice ta tl tc,.slice ma ns.length mc,.slice ka kl kc,.slice pa pl pc] #[.int .i64 3,.string ⟨#[47,97]⟩,.string ⟨#[]⟩,.int .i64 0,.string ⟨#[]⟩] be (.slice fa fl.length fcc) (.slice da dl.length dc) (.slice la al.length lc) fl dl al):=by rw[←hW3];exact HX2.o.setE 1 (.string ⟨#[47,97]⟩)
    go_upto_if 84 with fail
    clear e0 e1 e2 e3 e4 f0 f1 f2 f3 f4 r0 r1 r2 r3 r4 v0 v1 v2 v3 v4 hW3;go_cut [5]from 82 to 92 (fun cx wx=>cx=.pointer (some ⟨be,0,none⟩)/\∃pp:ByteArray,pp.size<=L+3/\Nx w0 w wx c a len cap #[.slice a1 m.1.length c1,.slice a2 m.2.length c2,.slice a3 m.3.length c3,.slice a4 m.4.length c4,.slice a5 m.5.length c5,.slice a6 m.6.length c6,.int .i64 m.nx,.slice ta tl tc,.slice ma ns.length mc,.slice ka kl kc,.slice pa pl pc] #[.int .i64 3,.string pp,.string ⟨#[]⟩,.int .i64 0,.string ⟨#[]⟩] be (.slice fa fl.length fcc) (.slice da dl.length dc) (.slice la al.length lc) fl dl al)
    case first =>
     exact cQ18
    case rest =>
     obtain⟨rfl,pp,hpp,hx⟩:=hcut;obtain⟨w4,hw4⟩:∃w4,w4=wc:=⟨_,rfl⟩
     subst hw4;have HX4:=hide hx;clear hx HX3;have e0:=HX4.o.ev.c0;have e1:=HX4.o.ev.c1;have e2:=HX4.o.ev.c2;have e3:=HX4.o.ev.c3;have e4:=HX4.o.ev.c4;have f0:=HX4.o.ev.frozen 0;have f1:=HX4.o.ev.frozen 1;have f2:=HX4.o.ev.frozen 2;have f3:=HX4.o.ev.frozen 3;have f4:=HX4.o.ev.frozen 4;have r0:=HX4.o.rs.c0;have r1:=HX4.o.rs.c1;have r2:=HX4.o.rs.c2;have r3:=HX4.o.rs.c3;have r4:=HX4.o.rs.c4;have v0:=HX4.o.rs.frozen 0;have v1:=HX4.o.rs.frozen 1;have v2:=HX4.o.rs.frozen 2;have v3:=HX4.o.rs.frozen 3;have v4:=HX4.o.rs.frozen 4;obtain⟨W6,hW6⟩:∃W6,w4.alloc (.cells #[.string ⟨#[]⟩,.string ⟨#[120]⟩,.string ⟨#[104,101,108,108,111]⟩,.string ⟨#[48,49,50,51,52,53,54,55,56,57,97,98,99,100,101,102]⟩] 9)=W6:=⟨_,rfl⟩
     have HX6:Hid (Nx w0 w W6 c a len cap #[.slice a1 m.1.length c1,.slice a2 m.2.length c2,.slice a3 m.3.length c3,.slice a4 m.4.length c4,.slice a5 m.5.length c5,.slice a6 m.6.length c6,.int .i64 m.nx,.slice ta tl tc,.slice ma ns.length mc,.slice ka kl kc,.slice pa pl pc] #[.int .i64 3,.string pp,.string ⟨#[]⟩,.int .i64 0,.string ⟨#[]⟩] be (.slice fa fl.length fcc) (.slice da dl.length dc) (.slice la al.length lc) fl dl al/\AtC W6 w4.1.size 9 (stc txS).toArray/\c≠w4.1.size):=by
      rw[←hW6];exact⟨HX4.o.below ((Below.refl _ w4).alloc nR _),AtC.new w4 9 _,by have:=HX4.o.size;omega⟩
     go_wp2_with fail
     refine(zff w0 W6 c w4.1.size a len cap txS HO.o hlen HX6.o.1.cur HX6.o.2.1 HX6.o.2.2 dC dC).mono ?_;rintro e w7 ⟨tx,htx,rfl,hd7⟩;have htx2:=txS_size tx htx;have HX7:=hide (HX6.o.1.drew hd7);clear e0 e1 e2 e3 e4 f0 f1 f2 f3 f4 r0 r1 r2 r3 r4 v0 v1 v2 v3 v4 hd7 htx hW6;have e0:=HX7.o.ev.c0;have e1:=HX7.o.ev.c1;have e2:=HX7.o.ev.c2;have e3:=HX7.o.ev.c3;have e4:=HX7.o.ev.c4;have f0:=HX7.o.ev.frozen 0;have f1:=HX7.o.ev.frozen 1;have f2:=HX7.o.ev.frozen 2;have f3:=HX7.o.ev.frozen 3;have f4:=HX7.o.ev.frozen 4;have r0:=HX7.o.rs.c0;have r1:=HX7.o.rs.c1;have r2:=HX7.o.rs.c2;have r3:=HX7.o.rs.c3;have r4:=HX7.o.rs.c4;have v0:=HX7.o.rs.frozen 0;have v1:=HX7.o.rs.frozen 1;have v2:=HX7.o.rs.frozen 2;have v3:=HX7.o.rs.frozen 3;have v4:=HX7.o.rs.frozen 4;obtain⟨W8,hW8⟩:∃W8,w7.setCell ⟨be,4,none⟩ (.string tx)=W8:=⟨_,rfl⟩
     have HX8:Hid (Nx w0 w W8 c a len cap #[.slice a1 m.1.length c1,.slice a2 m.2.length c2,.slice a3 m.3.length c3,.slice a4 m.4.length c4,.slice a5 m.5.length c5,.slice a6 m.6.length c6,.int .i64 m.nx,.slice ta tl tc,.slice ma ns.length mc,.slice ka kl kc,.slice pa pl pc] #[.int .i64 3,.string pp,.string ⟨#[]⟩,.int .i64 0,.string tx] be (.slice fa fl.length fcc) (.slice da dl.length dc) (.slice la al.length lc) fl dl al):=by rw[←hW8];exact HX7.o.setE 4 (.string tx)
     go_wp2_with fail
     refine(zao w0 W8 c a len cap 2 HO.o hlen HX8.o.cur dC dC).mono ?_;rintro e w9 ⟨x,hx,rfl,hd9⟩;have HX9:=hide (HX8.o.drew hd9);clear e0 e1 e2 e3 e4 f0 f1 f2 f3 f4 r0 r1 r2 r3 r4 v0 v1 v2 v3 v4 hd9 hW8;have e0:=HX9.o.ev.c0;have e1:=HX9.o.ev.c1;have e2:=HX9.o.ev.c2;have e3:=HX9.o.ev.c3;have e4:=HX9.o.ev.c4;have f0:=HX9.o.ev.frozen 0;have f1:=HX9.o.ev.frozen 1;have f2:=HX9.o.ev.frozen 2;have f3:=HX9.o.ev.frozen 3;have f4:=HX9.o.ev.frozen 4;have r0:=HX9.o.rs.c0;have r1:=HX9.o.rs.c1;have r2:=HX9.o.rs.c2;have r3:=HX9.o.rs.c3;have r4:=HX9.o.rs.c4;have v0:=HX9.o.rs.frozen 0;have v1:=HX9.o.rs.frozen 1;have v2:=HX9.o.rs.frozen 2;have v3:=HX9.o.rs.frozen 3;have v4:=HX9.o.rs.frozen 4;go_wp2;refine bodyPost_ret (v:=.agg #[.int .i64 3,.string pp,.string ⟨#[]⟩,.int .i64 (x:Int),.string tx]) sR5 rfl ⟨⟨_,_,_,_,_,rfl,by decide,by decide,hpp,by show(0:Nat)<=_;omega,htx2⟩,(HX9.o.setE 3 (.int .i64 (x:Int))).ret _ _ _ _ _⟩
   have h6:kd=6:=by have:=HKR.o;omega
   subst h6;clear h1 h2 h7 h5 h4 h3 HKR;go_wp2_with fail
   refine(zao w0 w2 c a len cap 21 HO.o hlen HX2.o.cur dC dC).mono ?_;rintro e w3 ⟨x,hx,rfl,hd3⟩;have HX3:=hide (HX2.o.drew hd3);clear e0 e1 e2 e3 e4 f0 f1 f2 f3 f4 r0 r1 r2 r3 r4 v0 v1 v2 v3 v4 hd3;have e0:=HX3.o.ev.c0;have e1:=HX3.o.ev.c1;have e2:=HX3.o.ev.c2;have e3:=HX3.o.ev.c3;have e4:=HX3.o.ev.c4;have f0:=HX3.o.ev.frozen 0;have f1:=HX3.o.ev.frozen 1;have f2:=HX3.o.ev.frozen 2;have f3:=HX3.o.ev.frozen 3;have f4:=HX3.o.ev.frozen 4;have r0:=HX3.o.rs.c0;have r1:=HX3.o.rs.c1;have r2:=HX3.o.rs.c2;have r3:=HX3.o.rs.c3;have r4:=HX3.o.rs.c4;have v0:=HX3.o.rs.frozen 0;have v1:=HX3.o.rs.frozen 1;have v2:=HX3.o.rs.frozen 2;have v3:=HX3.o.rs.frozen 3;have v4:=HX3.o.rs.frozen 4;obtain⟨W4,hW4⟩:∃W4,w3.setCell ⟨be,3,none⟩ (.int .i64 (x:Int))=W4:=⟨_,rfl⟩
   have HX4:Hid (Nx w0 w W4 c a len cap #[.slice a1 m.1.length c1,.slice a2 m.2.length c2,.slice a3 m.3.length c3,.slice a4 m.4.length c4,.slice a5 m.5.length c5,.slice a6 m.6.length c6,.int .i64 m.nx,.slice ta tl tc,.slice ma ns.length mc,.slice ka kl kc,.slice pa pl pc] #[.int .i64 6,.string ⟨#[]⟩,.string ⟨#[]⟩,.int .i64 (x:Int),.string ⟨#[]⟩] be (.slice fa fl.length fcc) (.slice da dl.length dc) (.slice la al.length lc) fl dl al/\W4.1.size=w3.1.size):=by
    rw[←hW4];exact⟨HX3.o.setE 3 (.int .i64 (x:Int)),by simp⟩
   obtain⟨Wd,hWd⟩:∃Wd,W4.alloc (.cells #[] 3)=Wd:=⟨_,rfl⟩
   have HL0:Hid (ROwns Wd w3.1.size 3 (.slice (some ⟨w3.1.size,0,none⟩) 0 0) (ic [])/\Below w3.1.size W4 Wd):=by
    rw[←hWd,←HX4.o.2];exact⟨ROwns.lit0 W4 _ 3 nR,(Below.refl _ W4).alloc nR _⟩
   have HXB:Hid (∀W,Below w3.1.size W4 W->Nx w0 w W c a len cap #[.slice a1 m.1.length c1,.slice a2 m.2.length c2,.slice a3 m.3.length c3,.slice a4 m.4.length c4,.slice a5 m.5.length c5,.slice a6 m.6.length c6,.int .i64 m.nx,.slice ta tl tc,.slice ma ns.length mc,.slice ka kl kc,.slice pa pl pc] #[.int .i64 6,.string ⟨#[]⟩,.string ⟨#[]⟩,.int .i64 (x:Int),.string ⟨#[]⟩] be (.slice fa fl.length fcc) (.slice da dl.length dc) (.slice la al.length lc) fl dl al):=fun W bb=>HX4.o.1.below (by rw[HX4.o.2];exact bb);have x4:=(HXB.o Wd HL0.o.2).bx.c4;have hsz4:W4.1.size=w3.1.size:=HX4.o.2;go_wp2_with fail
   clear e0 e1 e2 e3 e4 f0 f1 f2 f3 f4 r0 r1 r2 r3 r4 v0 v1 v2 v3 v4 hW4 hWd x4 HX2 HX3;have hf20:(m.5.length:Int)<=21:=by have:=HF21.o;omega
   go_loopw [11,12] (fun x11 i wr=>∃(lv:Value)(l:List Int)(n:Nat),lv=x11/\n<=m.5.length/\i=.int .i64 n/\Hid (ROwns wr w3.1.size 3 lv (ic l)/\Below w3.1.size W4 wr/\l.length<=n)) (fun _ i _=>m.5.length-(intOf i).toNat)
   case atStart=>exact⟨_,[],0,rfl,Nat.zero_le _,rfl,HL0.o.1,HL0.o.2,Nat.le_refl _⟩
   case round =>
    obtain⟨lv,l,n,e11,hn,rfl,HR⟩:=hrel;subst e11;clear HL0;have HXW:=hide (HXB.o wr HR.o.2.1);have x4:=HXW.o.bx.c4;have n0:(0:Int)<=(n:Int):=by omega
    by_cases hlt:n<m.5.length
    ·have n1:(n:Int)<(m.5.length:Int):=by omega
     have n21:n<21:=by have:=HF21.o;omega
     obtain⟨gf,cf,ef,kf,-⟩:=(HN.o wr HXW.o.gr).2.at n (by rw[zad];exact hlt);rw[zad]at ef;simp only[Value.slice.injEq,true_and]at ef;obtain⟨rfl,rfl⟩:=ef;obtain⟨fb,hfb⟩:∃fb,m.fs[n]=fb:=⟨_,rfl⟩
     replace kf:wr.cell? ⟨gf,n,none⟩=some (.bool fb):=kf.trans (by simp[fc,hlt,hfb])
     clear hfb
     cases fb with
     | false =>
      go_wp2;go_roundw
      case rel=>exact⟨lv,l,n+1,rfl,by omega,by go_num,HR.o.1,HR.o.2.1,by have:=HR.o.2.2;omega⟩
      case measure=>simp[intOf];omega
     | true =>
      have HT:Hid (ROwns (wr.alloc (.cells #[.int .i64 (n:Int)] 3)) w3.1.size 3 lv (ic l)):=HR.o.1.alloc _;have HK2:Hid ((wr.alloc (.cells #[.int .i64 (n:Int)] 3)).cell? ⟨wr.1.size,0,none⟩=some (.int .i64 (n:Int))):=(AtC.new wr 3 #[.int .i64 (n:Int)]).cell 0;have HSZ:Hid (w3.1.size<=(wr.alloc (.cells #[.int .i64 (n:Int)] 3)).1.size):=by have:=HR.o.2.1.size;show _<=_;simp;omega
      have HTL:Hid ((ic l).length<=100000000000):=by have:=HR.o.2.2;show _<=_;rw[zah];omega
      have HMK:Hid (∀v12 w12,ROwns w12 w3.1.size 3 v12 (ic l++[.int .i64 (n:Int)])->(wr.alloc (.cells #[.int .i64 (n:Int)] 3)).grownBy w12 lv.ownBlock->ROwns w12 w3.1.size 3 v12 (ic (l++[(n:Int)]))/\Below w3.1.size W4 w12):=fun v12 w12 T12 G12=>by
       have b:=HR.o.2.1;have ba:=b.alloc (by have:=b.size;omega) (.cells #[.int .i64 (n:Int)] 3);exact⟨by simpa[ic]using T12,ba.grown G12 (by have:=ba.size;omega) (fun k hk=>(HR.o.1.lt k hk).1)⟩
      go_wp2_with (at_builtin;refine wpList_step fun K' hK'=>?_;refine zak _ rfl (.tmp 141) (.tmp 143) 40 rfl w3.1.size 3 Tryz.u40 _ 8 Tryz.i3 rfl dC lv _ rfl HT.o HSZ.o wr.1.size (.int .i64 (n:Int)) rfl HK2.o rfl HTL.o ?_;intro v12 w12 T12 G12 V12;refine hK' _ _ ?_;have HR12:=hide (HMK.o v12 w12 T12 G12);clear T12 G12 V12 hK')
      go_roundw
      case rel=>exact⟨v12,l++[(n:Int)],n+1,rfl,by omega,by go_num,HR12.o.1,HR12.o.2,by have:=HR.o.2.2;simp;omega⟩
      case measure=>simp[intOf];omega
    ·have n1:¬((n:Int)<(m.5.length:Int)):=by omega
     obtain⟨va,vc,elv,-⟩:=HR.o.1.form;rw[zah]at elv;subst elv;have hll:l.length<=21:=by have:=HR.o.2.2;have:=HF21.o;omega
     have e0:=HXW.o.ev.c0;have e1:=HXW.o.ev.c1;have e2:=HXW.o.ev.c2;have e3:=HXW.o.ev.c3;have e4:=HXW.o.ev.c4;have f0:=HXW.o.ev.frozen 0;have f1:=HXW.o.ev.frozen 1;have f2:=HXW.o.ev.frozen 2;have f3:=HXW.o.ev.frozen 3;have f4:=HXW.o.ev.frozen 4;have r0:=HXW.o.rs.c0;have r1:=HXW.o.rs.c1;have r2:=HXW.o.rs.c2;have r3:=HXW.o.rs.c3;have r4:=HXW.o.rs.c4;have v0:=HXW.o.rs.frozen 0;have v1:=HXW.o.rs.frozen 1;have v2:=HXW.o.rs.frozen 2;have v3:=HXW.o.rs.frozen 3;have v4:=HXW.o.rs.frozen 4;by_cases hz:0<l.length
     rotate_left
     ·have hz1:¬(0:Int)<(l.length:Int):=by omega
      go_wp2;refine bodyPost_ret (v:=.agg #[.int .i64 6,.string ⟨#[]⟩,.string ⟨#[]⟩,.int .i64 (x:Int),.string ⟨#[]⟩]) sR5 rfl ⟨⟨_,_,_,_,_,rfl,by decide,by decide,by show(0:Nat)<=_;omega,by show(0:Nat)<=_;omega,by show(0:Nat)<=16;omega⟩,HXW.o.ret _ _ _ _ _⟩
     have hz1:(0:Int)<(l.length:Int):=by omega
     go_wp2_with fail
     refine(zbk w0 wr c a len cap 6 HO.o hlen HXW.o.cur dC dC).mono ?_;rintro e w7 ⟨y,rfl,hd7⟩;obtain⟨bb,hbb⟩:∃bb,(y==0)=bb:=⟨_,rfl⟩
     rw[hbb];have HX7:=hide (HXW.o.drew hd7);have HL7:Hid (ROwns w7 w3.1.size 3 (.slice va l.length vc) (ic l)):=HR.o.1.grown hd7.2 (fun k hk=>by have:=(HR.o.1.lt k hk).1;have:=HX4.o.1.size;have:=HX4.o.2;simp;omega);clear e0 e1 e2 e3 e4 f0 f1 f2 f3 f4 r0 r1 r2 r3 r4 v0 v1 v2 v3 v4 hbb hd7 x4;have e0:=HX7.o.ev.c0;have e1:=HX7.o.ev.c1;have e2:=HX7.o.ev.c2;have e3:=HX7.o.ev.c3;have e4:=HX7.o.ev.c4;have f0:=HX7.o.ev.frozen 0;have f1:=HX7.o.ev.frozen 1;have f2:=HX7.o.ev.frozen 2;have f3:=HX7.o.ev.frozen 3;have f4:=HX7.o.ev.frozen 4;have r0:=HX7.o.rs.c0;have r1:=HX7.o.rs.c1;have r2:=HX7.o.rs.c2;have r3:=HX7.o.rs.c3;have r4:=HX7.o.rs.c4;have v0:=HX7.o.rs.frozen 0;have v1:=HX7.o.rs.frozen 1;have v2:=HX7.o.rs.frozen 2;have v3:=HX7.o.rs.frozen 3;have v4:=HX7.o.rs.frozen 4
     cases bb with
     | true =>
      go_wp2;refine bodyPost_ret (v:=.agg #[.int .i64 6,.string ⟨#[]⟩,.string ⟨#[]⟩,.int .i64 (x:Int),.string ⟨#[]⟩]) sR5 rfl ⟨⟨_,_,_,_,_,rfl,by decide,by decide,by show(0:Nat)<=_;omega,by show(0:Nat)<=_;omega,by show(0:Nat)<=16;omega⟩,HX7.o.ret _ _ _ _ _⟩
     | false =>
      go_wp2_with fail
      refine(zao w0 w7 c a len cap l.length HO.o hlen HX7.o.cur hz oM).mono ?_;rintro e w8 ⟨y2,hy2,rfl,hd8⟩;have HX8:=hide (HX7.o.drew hd8);have HL8:=HL7.o.grown hd8.2 (fun k hk=>by have:=(HL7.o.lt k hk).1;have:=HX4.o.1.size;have:=HX4.o.2;simp;omega);obtain⟨gf,cf,ef,kf,-⟩:=HL8.at y2 (by rw[zah];exact hy2);rw[zah]at ef;simp only[Value.slice.injEq,true_and]at ef;obtain⟨rfl,rfl⟩:=ef;obtain⟨zz,hzz⟩:∃zz,l[y2]=zz:=⟨_,rfl⟩
      replace kf:w8.cell? ⟨gf,y2,none⟩=some (.int .i64 zz):=kf.trans (by simp[ic,hy2,hzz])
      have y0:(0:Int)<=(y2:Int):=by omega
      have y1:(y2:Int)<(l.length:Int):=by omega
      clear e0 e1 e2 e3 e4 f0 f1 f2 f3 f4 r0 r1 r2 r3 r4 v0 v1 v2 v3 v4 hzz hd8 HL8;have e0:=HX8.o.ev.c0;have e1:=HX8.o.ev.c1;have e2:=HX8.o.ev.c2;have e3:=HX8.o.ev.c3;have e4:=HX8.o.ev.c4;have f0:=HX8.o.ev.frozen 0;have f1:=HX8.o.ev.frozen 1;have f2:=HX8.o.ev.frozen 2;have f3:=HX8.o.ev.frozen 3;have f4:=HX8.o.ev.frozen 4;have r0:=HX8.o.rs.c0;have r1:=HX8.o.rs.c1;have r2:=HX8.o.rs.c2;have r3:=HX8.o.rs.c3;have r4:=HX8.o.rs.c4;have v0:=HX8.o.rs.frozen 0;have v1:=HX8.o.rs.frozen 1;have v2:=HX8.o.rs.frozen 2;have v3:=HX8.o.rs.frozen 3;have v4:=HX8.o.rs.frozen 4;go_wp2;refine bodyPost_ret (v:=.agg #[.int .i64 6,.string ⟨#[]⟩,.string ⟨#[]⟩,.int .i64 zz,.string ⟨#[]⟩]) sR5 rfl ⟨⟨_,_,_,_,_,rfl,by decide,by decide,by show(0:Nat)<=_;omega,by show(0:Nat)<=_;omega,by show(0:Nat)<=16;omega⟩,(HX8.o.setE 3 (.int .i64 zz)).ret _ _ _ _ _⟩
theorem zca{w0 w W:World}{c:Nat}{a:Option Addr}{len cap:Nat}(hd:Drew w0 w W c a len cap)(hc:c<w.1.size){g:Nat}(hg:w.1.size<=g)(hz:w0.1.size<=g)(i:Nat)(x:Value):Drew w0 w (W.setCell ⟨g,i,none⟩ x) c a len cap:=by
 obtain⟨⟨k1,k2,j,y,k3,k4⟩,hr⟩:=hd;have ho:∀k,k≠g->(W.setCell ⟨g,i,none⟩ x).heap[k]?=W.1[k]?:=fun k hk=>heap_setCell_other W ⟨g,i,none⟩ k _ hk;exact⟨⟨k1,k2.setCell (p:=⟨g,i,none⟩) hz _,j,y,(ho c oM).trans k3,k4⟩,⟨hr.os,hr.tape,hr.output,Nat.le_trans hr.size sI,fun k hk hn=>(ho k oM).trans (hr.block k hk hn)⟩⟩
theorem zk5{w0 w W W':World}{c b:Nat}{a:Option Addr}{len cap:Nat}(hd:Drew w0 w W c a len cap)(hc:c<w.1.size)(hb:w.1.size<=b)(hz:w0.1.size<=b)(hg:W.grownBy W' (some b)):Drew w0 w W' c a len cap:=by
 obtain⟨⟨k1,k2,j,y,k3,k4⟩,hr⟩:=hd;have hs:=hr.size;exact⟨⟨k1,k2.grown hg k2.size (fun k hk=>by simp at hk;omega),j,y,(hg.block c oM sO).trans k3,k4⟩,⟨hg.os.trans hr.os,hg.tape.trans hr.tape,hg.output.trans hr.output,Nat.le_trans hr.size hg.size,fun k hk hn=>(hg.block k oM sO).trans (hr.block k hk hn)⟩⟩
theorem MO.ownF{w:World}{S:Nat->Prop}{u v iv bv dv pv:Value}{m:MD}(h:MO w S u v iv bv dv pv m):ROwns w 0 4 dv (fc m.fs)/\∀k,dv.ownBlock=some k->S k:=by
 obtain⟨S1,S2,S3,ts,-,k2,k3,-,-,-,k7⟩:=h;exact⟨k2,fun k hk=>k7 k (.inr (.inl (k3 k hk)))⟩
theorem zng{w w':World}{B b n c:Nat}{a1 a2 a3 a4 a5 a6 ta ma ka pa:Option Addr}{c1 c2 c3 c4 c5 c6 tc mc kc pl pc:Nat}{m:MD}{ts:List ByteArray}{ns:List Nd}{cs:List Int}(h:Wp w B b n a1 a2 a3 a4 a5 a6 ta ma ka pa c1 c2 c3 c4 c5 c6 tc mc kc pl pc m ts ns cs)(hg:w.grownBy w' (some c))(hc:c<B):Wp w' B b n a1 a2 a3 a4 a5 a6 ta ma ka pa c1 c2 c3 c4 c5 c6 tc mc kc pl pc m ts ns cs :=
 ⟨(h.mo.bound.of_heap (fun k hk _=>hg.block k hk.2 (by have:=hk.1.1;simp;omega))).mono (fun _ hk=>hk.1),h.sh,h.dv.grown hg (fun k hk=>by have:=(h.dv.lt k hk).1;simp;omega),h.dn,h.dk,h.nd.of_heap (fun k hk=>hg.block k (h.nd.lt k hk).2 (by have:=(h.nd.lt k hk).1;simp;omega)),h.nn,h.nl,h.nb,h.co.grown hg (fun k hk=>by have:=(h.co.lt k hk).1;simp;omega),h.cn,h.cl⟩
theorem fs_any(w0 w:World)(c:Nat)(a:Option Addr)(len cap:Nat)(hcode:zbe w0 a len)(hlen:len<=1048576)(hcur:Cur 103 w0 w c a len cap)(hc:c<w.1.size):
  Calls Tryz.prog 82 #[.pointer (some ⟨c,0,none⟩)] w fun e w'=>∃fv,e=.returned fv/\FsW w' w.1.size fv/\Drew w0 w w' c a len cap:=by
 obtain⟨W0,hW0⟩:∃W0,w.alloc (.cells #[.slice none 0 0,.slice none 0 0,.slice none 0 0,.slice none 0 0,.slice none 0 0,.slice none 0 0,.int .i64 0,.slice none 0 0] 119)=W0:=⟨_,rfl⟩
 have HW0:Hid (Cur 103 w0 W0 c a len cap/\AtC W0 w.1.size 119 #[.slice none 0 0,.slice none 0 0,.slice none 0 0,.slice none 0 0,.slice none 0 0,.slice none 0 0,.int .i64 0,.slice none 0 0]/\w.grownBy W0 (some c)/\w.1.size<W0.1.size):=by
  rw[←hW0];exact⟨za5 hcur hc _,AtC.new w 119 _,World.grownBy_alloc _ _ _,by simp⟩
 have HO:=hide hcode;clear hcode hcur;go_enter Tryz.func82,Tryz.ntmps82
 go_wp2_with fail
 refine(Xd.fsNew_any W0).mono ?_;rintro e w1 ⟨fa,rfl,⟨n1,o1,n2,o2,n3,o3,n4,o4,n5,o5,n6,o6,n7,o7,mf,tf,rfl,M1,T1,S1,D1⟩,B1⟩;have HG2:Hid (∀W2 b,w1.alloc (.cells #[.slice n1 mf.1.length o1,.slice n2 mf.2.length o2,.slice n3 mf.3.length o3,.slice n4 mf.4.length o4,.slice n5 mf.5.length o5,.slice n6 mf.6.length o6,.int .i64 mf.nx,.slice n7 tf.length o7,.slice none 0 0,.slice none 0 0,.slice none 0 0] 154)=W2->w1.1.size=b->WB W2 (w.1.size+1) b 0/\Drew w0 w W2 c a len cap/\AtC W2 w.1.size 119 #[.slice none 0 0,.slice none 0 0,.slice none 0 0,.slice none 0 0,.slice none 0 0,.slice none 0 0,.int .i64 0,.slice none 0 0]/\w.1.size<b):=by
  rintro W2 b rfl rfl;obtain⟨k1,k2,k3,k4⟩:=HW0.o;have z1:=B1.size;have bb:Below w1.1.size w1 (w1.alloc (.cells #[.slice n1 mf.1.length o1,.slice n2 mf.2.length o2,.slice n3 mf.3.length o3,.slice n4 mf.4.length o4,.slice n5 mf.5.length o5,.slice n6 mf.6.length o6,.int .i64 mf.nx,.slice n7 tf.length o7,.slice none 0 0,.slice none 0 0,.slice none 0 0] 154)):=(Below.refl _ w1).alloc nR _;refine⟨⟨n1,n2,n3,n4,n5,n6,n7,none,none,none,o1,o2,o3,o4,o5,o6,o7,0,0,0,0,mf,tf,[],[],AtC.new w1 154 _,⟨(M1.bound.below bb nR).mono (fun k hk=>by have:W0.1.size<=k/\k<w1.1.size:=hk;exact⟨by omega,by omega⟩),S1,(T1.below bb nR).base_le oM,fun k hk=>by have:=(T1.lt k hk).2;omega,D1,NdO.nil _ _,fun k hk=>by simp[Value.ownBlock]at hk,Nat.le_refl _,fun x hx=>by simp at hx,World.ownsRow_nil _ _ _ _,fun k hk=>by simp[Value.ownBlock]at hk,Nat.le_refl _⟩,by omega⟩,?_,(k2.over B1).over bb,by omega⟩;obtain⟨j1,j2,i,x,j3,j4⟩:=k1;have b12:Below W0.1.size W0 (w1.alloc (.cells #[.slice n1 mf.1.length o1,.slice n2 mf.2.length o2,.slice n3 mf.3.length o3,.slice n4 mf.4.length o4,.slice n5 mf.5.length o5,.slice n6 mf.6.length o6,.int .i64 mf.nx,.slice n7 tf.length o7,.slice none 0 0,.slice none 0 0,.slice none 0 0] 154)):=B1.trans (bb.mono z1);have hs:=j2.size;exact⟨⟨j1,j2.trans (b12.mono hs),i,x,(b12.block c oM).trans j3,j4⟩,zae k3 (zal b12 _)⟩
 clear M1 T1 S1 D1 B1 HW0;go_wp2_with fail
 clear hW0;generalize hwa:w1.alloc (.cells #[.slice n1 mf.1.length o1,.slice n2 mf.2.length o2,.slice n3 mf.3.length o3,.slice n4 mf.4.length o4,.slice n5 mf.5.length o5,.slice n6 mf.6.length o6,.int .i64 mf.nx,.slice n7 tf.length o7,.slice none 0 0,.slice none 0 0,.slice none 0 0] 154)=W2 at*;generalize hba:w1.1.size=b at*;have HW2:=hide (HG2.o W2 b rfl rfl);clear HG2 hwa hba;have hcb:c≠b:=by have:=HW2.o.2.2.2;omega
 go_loopw [4] (fun i wr=>∃n:Nat,n<=28/\i=.int .i64 n/\Hid (WB wr (w.1.size+1) b n/\Drew w0 w wr c a len cap/\AtC wr w.1.size 119 #[.slice none 0 0,.slice none 0 0,.slice none 0 0,.slice none 0 0,.slice none 0 0,.slice none 0 0,.int .i64 0,.slice none 0 0])) (fun i _=>28-(intOf i).toNat)
 case atStart=>exact⟨0,by omega,rfl,HW2.o.1,HW2.o.2.1,HW2.o.2.2.1⟩
 case round =>
  obtain⟨n,hn,rfl,HR⟩:=hrel;have hwb:w.1.size<b:=HW2.o.2.2.2;clear HW2;go_wp2_with fail
  refine(zao w0 wr c a len cap 24 HO.o hlen HR.o.2.1.1 dC dC).mono ?_;rintro e w3 ⟨x,hx,rfl,hd3⟩;have HR3:Hid (WB w3 (w.1.size+1) b n/\Drew w0 w w3 c a len cap/\AtC w3 w.1.size 119 #[.slice none 0 0,.slice none 0 0,.slice none 0 0,.slice none 0 0,.slice none 0 0,.slice none 0 0,.int .i64 0,.slice none 0 0]):=by
   obtain⟨k1,k2,k3⟩:=HR.o;have hz:=k2.2.size;refine⟨?_,⟨hd3.1,zae k2.2 hd3.2⟩,k3.grown hd3.2 sO⟩;obtain⟨a1,a2,a3,a4,a5,a6,ta,ma,ka,pa,c1,c2,c3,c4,c5,c6,tc,mc,kc,pl,pc,m,ts,ns,cs,h1,h2,h3⟩:=k1;refine⟨a1,a2,a3,a4,a5,a6,ta,ma,ka,pa,c1,c2,c3,c4,c5,c6,tc,mc,kc,pl,pc,m,ts,ns,cs,h1.grown hd3.2 (by simpa using hcb),?_,h3⟩;exact zng h2 hd3.2 oM
  clear hd3 HR;by_cases hlt:n<4+x
  rotate_left
  ·have h1:¬((n:Int)<4+(x:Int)):=by omega
   obtain⟨a1,a2,a3,a4,a5,a6,ta,ma,ka,pa,c1,c2,c3,c4,c5,c6,tc,mc,kc,pl,pc,m,ts,ns,cs,hbx,hwp,hB⟩:=HR3.o.1;obtain⟨x0,x1,x2,x3,x4,x5,x6,x7⟩:=AtC.eig hbx;obtain⟨r0,r1,r2,r3,r4,r5,r6,r7⟩:=AtC.eig HR3.o.2.2;have v0:=HR3.o.2.2.frozen 0;have v1:=HR3.o.2.2.frozen 1;have v2:=HR3.o.2.2.frozen 2;have v3:=HR3.o.2.2.frozen 3;have v4:=HR3.o.2.2.frozen 4;have v5:=HR3.o.2.2.frozen 5;have v6:=HR3.o.2.2.frozen 6;have v7:=HR3.o.2.2.frozen 7;have HE:Hid (Wp w3 (w.1.size+1) b n a1 a2 a3 a4 a5 a6 ta ma ka pa c1 c2 c3 c4 c5 c6 tc mc kc pl pc m ts ns cs/\Drew w0 w w3 c a len cap):=⟨hwp,HR3.o.2.1⟩
   clear hbx hwp HR3;go_wp2;refine bodyPost_ret (v:=.agg (M9 m a1 c1 a2 c2 a3 c3 a4 c4 a5 c5 a6 c6 ta ts.length tc)) sR8 rfl ⟨_,rfl,?_,?_⟩
   ·obtain⟨hwp,hdr⟩:=HE.o;refine⟨a1,c1,a2,c2,a3,c3,a4,c4,a5,c5,a6,c6,ta,tc,m,ts,rfl,((hwp.mo.of_heap fun k hk _=>zag _ _ _ _ _ _ _ _ _ _ k (by have:w.1.size+1<=k/\k≠b:=hk;omega)).mono (fun k hk=>by have:w.1.size+1<=k/\k≠b:=hk;omega)),(hwp.dv.of_heap fun k hk=>zag _ _ _ _ _ _ _ _ _ _ k (by have:=(hwp.dv.lt k hk).1;omega)).base_le oM,hwp.sh,hwp.dk⟩
   ·have hz:=HE.o.2.1.1;have hz0:w0.1.size<=w.1.size:=by omega
    exact zca (zca (zca (zca (zca (zca (zca (zca (HE.o.2) hc nR hz0 _ _) hc nR hz0 _ _) hc nR hz0 _ _) hc nR hz0 _ _) hc nR hz0 _ _) hc nR hz0 _ _) hc nR hz0 _ _) hc nR hz0 _ _
  have h1:(n:Int)<4+(x:Int):=by omega
  obtain⟨a1,a2,a3,a4,a5,a6,ta,ma,ka,pa,c1,c2,c3,c4,c5,c6,tc,mc,kc,pl,pc,m,ts,ns,cs,hbx,hwp,hB⟩:=HR3.o.1;obtain⟨x0,x1,x2,x3,x4,x5,x6,x7,x8,x9,x10⟩:=AtC.elv hbx;have HNX:Hid (NdO w3 (w.1.size+1) (.slice ma ns.length mc) ns/\c<w.1.size+1/\ROwns w3 0 4 (.slice a5 m.5.length c5) (fc m.fs)/\(∀k,(Value.slice a5 m.5.length c5).ownBlock=some k->k≠c)/\m.5.length=21/\ns.length<=900/\NdB (8*n) ns/\8*n<=1000000/\c<w3.1.size):=by
   have hf:=MO.ownF hwp.mo;exact⟨hwp.nd,by omega,hf.1,fun k hk=>by have:w.1.size+1<=k/\k≠b:=hf.2 k hk;omega,hwp.sh.f,by have:=hwp.nl;omega,hwp.nb,by omega,by have:=HR3.o.2.1.2.size;omega⟩
  clear hbx hwp hB;go_wp2_with fail
  refine(next_any (8*n) w0 c a len cap m ns a1 a2 a3 a4 a5 a6 ta ma ka pa c1 c2 c3 c4 c5 c6 ts.length tc mc cs.length kc pl pc (w.1.size+1) w3 HO.o hlen HR3.o.2.1.1 HNX.o.2.2.2.2.2.2.2.2 HNX.o.1 HNX.o.2.1 HNX.o.2.2.1 HNX.o.2.2.2.1 HNX.o.2.2.2.2.1 HNX.o.2.2.2.2.2.1 HNX.o.2.2.2.2.2.2.1 HNX.o.2.2.2.2.2.2.2.1).mono ?_;rintro e w4 ⟨⟨kd,p,q,at_,tx,rfl,hk1,hk7,hp,hq,ht⟩,hd4⟩;have HR4:Hid (WB w4 (w.1.size+1) b n/\Drew w0 w w4 c a len cap/\AtC w4 w.1.size 119 #[.slice none 0 0,.slice none 0 0,.slice none 0 0,.slice none 0 0,.slice none 0 0,.slice none 0 0,.int .i64 0,.slice none 0 0]):=by
   obtain⟨k1,k2,k3⟩:=HR3.o;refine⟨?_,⟨hd4.1,zae k2.2 hd4.2⟩,k3.grown hd4.2 sO⟩;obtain⟨a1,a2,a3,a4,a5,a6,ta,ma,ka,pa,c1,c2,c3,c4,c5,c6,tc,mc,kc,pl,pc,m,ts,ns,cs,h1,h2,h3⟩:=k1;exact⟨a1,a2,a3,a4,a5,a6,ta,ma,ka,pa,c1,c2,c3,c4,c5,c6,tc,mc,kc,pl,pc,m,ts,ns,cs,h1.grown hd4.2 (by simpa using hcb),zng h2 hd4.2 oM,h3⟩
  clear hd4 HR3 HNX x0 x1 x2 x3 x4 x5 x6 x7 x8 x9 x10;have hn100:n<=100:=by omega
  go_wp2_with fail
  refine(do_any (w.1.size+1) b n kd p q at_ tx w4 HR4.o.1 hn100 hk1 hk7 hp hq ht).mono ?_;rintro e w5 ⟨rfl,hW5,hg5⟩;have HR5:Hid (WB w5 (w.1.size+1) b (n+1)/\Drew w0 w w5 c a len cap/\AtC w5 w.1.size 119 #[.slice none 0 0,.slice none 0 0,.slice none 0 0,.slice none 0 0,.slice none 0 0,.slice none 0 0,.int .i64 0,.slice none 0 0]):=by
   obtain⟨k1,k2,k3⟩:=HR4.o;have hz:=k2.1.1;exact⟨hW5,zk5 k2 hc oM oM hg5,k3.grown hg5 sO⟩
  clear hW5 hg5 HR4;go_wp2;go_roundw
  case rel=>exact⟨n+1,by omega,by go_num,HR5.o⟩
  case measure=>simp[intOf];omega
theorem readA(w:World)(a b c d:Int):AtT 59 (((w.alloc (Obj.cells #[.int .i64 0,.int .i64 0,.slice none 0 0] 59)).alloc (Obj.cells #[.int .i64 c,.int .i64 d] 3)).alloc (Obj.cells #[.int .i64 a,.int .i64 b,.slice (some ⟨w.1.size+1,0,none⟩) 2 2] 59)).drew w.1.size 0 0 (.slice none 0 0) /\
  AtT 59 (((w.alloc (Obj.cells #[.int .i64 0,.int .i64 0,.slice none 0 0] 59)).alloc (Obj.cells #[.int .i64 c,.int .i64 d] 3)).alloc (Obj.cells #[.int .i64 a,.int .i64 b,.slice (some ⟨w.1.size+1,0,none⟩) 2 2] 59)).drew (w.1.size+1+1) a b (.slice (some ⟨w.1.size+1,0,none⟩) 2 2) /\
  ROwns (((w.alloc (Obj.cells #[.int .i64 0,.int .i64 0,.slice none 0 0] 59)).alloc (Obj.cells #[.int .i64 c,.int .i64 d] 3)).alloc (Obj.cells #[.int .i64 a,.int .i64 b,.slice (some ⟨w.1.size+1,0,none⟩) 2 2] 59)).drew (w.1.size+1) 3 (.slice (some ⟨w.1.size+1,0,none⟩) 2 2) (ic [c,d]) /\
  Below w.1.size w (((w.alloc (Obj.cells #[.int .i64 0,.int .i64 0,.slice none 0 0] 59)).alloc (Obj.cells #[.int .i64 c,.int .i64 d] 3)).alloc (Obj.cells #[.int .i64 a,.int .i64 b,.slice (some ⟨w.1.size+1,0,none⟩) 2 2] 59)).drew:=by
 refine⟨zhj w _ _ _,?_,?_,?_⟩
 ·have:=AtT.new 59 ((w.alloc (Obj.cells #[.int .i64 0,.int .i64 0,.slice none 0 0] 59)).alloc (Obj.cells #[.int .i64 c,.int .i64 d] 3)) a b (.slice (some ⟨w.1.size+1,0,none⟩) 2 2);rw[World.size_alloc,World.size_alloc]at this;exact this
 ·have:=((ROwns.lit (w.alloc (Obj.cells #[.int .i64 0,.int .i64 0,.slice none 0 0] 59)) (w.1.size+1) 3 #[.int .i64 c,.int .i64 d] sI (by simp[maxLen])).alloc (Obj.cells #[.int .i64 a,.int .i64 b,.slice (some ⟨w.1.size+1,0,none⟩) 2 2] 59)).drew;rw[World.size_alloc]at this;exact this
 ·exact cQ126
theorem readB(w:World)(a b c d:Int):AtT 59 (((w.alloc (Obj.cells #[.int .i64 0,.int .i64 0,.slice none 0 0] 59)).alloc (Obj.cells #[.int .i64 a,.int .i64 b,.slice (some ⟨w.1.size+1+1,0,none⟩) 2 2] 59)).alloc (Obj.cells #[.int .i64 c,.int .i64 d] 3)).drew w.1.size 0 0 (.slice none 0 0) /\
  AtT 59 (((w.alloc (Obj.cells #[.int .i64 0,.int .i64 0,.slice none 0 0] 59)).alloc (Obj.cells #[.int .i64 a,.int .i64 b,.slice (some ⟨w.1.size+1+1,0,none⟩) 2 2] 59)).alloc (Obj.cells #[.int .i64 c,.int .i64 d] 3)).drew (w.1.size+1) a b (.slice (some ⟨w.1.size+1+1,0,none⟩) 2 2) /\
  ROwns (((w.alloc (Obj.cells #[.int .i64 0,.int .i64 0,.slice none 0 0] 59)).alloc (Obj.cells #[.int .i64 a,.int .i64 b,.slice (some ⟨w.1.size+1+1,0,none⟩) 2 2] 59)).alloc (Obj.cells #[.int .i64 c,.int .i64 d] 3)).drew (w.1.size+1) 3 (.slice (some ⟨w.1.size+1+1,0,none⟩) 2 2) (ic [c,d]) /\
  Below w.1.size w (((w.alloc (Obj.cells #[.int .i64 0,.int .i64 0,.slice none 0 0] 59)).alloc (Obj.cells #[.int .i64 a,.int .i64 b,.slice (some ⟨w.1.size+1+1,0,none⟩) 2 2] 59)).alloc (Obj.cells #[.int .i64 c,.int .i64 d] 3)).drew:=by
 refine⟨zhj w _ _ _,?_,?_,?_⟩
 ·have:=(AtT.new 59 (w.alloc (Obj.cells #[.int .i64 0,.int .i64 0,.slice none 0 0] 59)) a b (.slice (some ⟨w.1.size+1+1,0,none⟩) 2 2)).alloc (Obj.cells #[.int .i64 c,.int .i64 d] 3);rw[World.size_alloc]at this;exact this
 ·have:=(ROwns.lit ((w.alloc (Obj.cells #[.int .i64 0,.int .i64 0,.slice none 0 0] 59)).alloc (Obj.cells #[.int .i64 a,.int .i64 b,.slice (some ⟨w.1.size+1+1,0,none⟩) 2 2] 59)) (w.1.size+1) 3 #[.int .i64 c,.int .i64 d] sI (by simp[maxLen])).drew;rw[World.size_alloc,World.size_alloc]at this;exact this
 ·exact cQ126
theorem zil(s:ByteArray)(w:World)(h:s.size≠4)(_h1:s.size<=1048576):
  Calls Tryz.prog 120 #[.string s] w fun e w'=>e=.returned (.tuple #[.agg #[.int .i64 0,.int .i64 0,.slice none 0 0],.bool false])/\Below w.1.size w w':=by
 have h2:((s.size:Int) != 4)=true:=by simp;omega
 go_enter Tryz.func120,Tryz.ntmps120
 go_wp2;refine bodyPost_ret (v:=.tuple #[.agg #[.int .i64 0,.int .i64 0,.slice none 0 0],.bool false]) sR0 rfl ⟨rfl,by go_grown⟩
theorem zg9(s:ByteArray)(w:World)(hs:s.size=4)(a b c d:Nat)(ha:(s[0]).toNat=a)(hb:(s[1]).toNat=b)(hc:(s[2]).toNat=c)(hd:(s[3]).toNat=d)(r:Bool)(hr:okR a b c d=r):
  Calls Tryz.prog 120 #[.string s] w fun e w'=>∃v,e=.returned (.tuple #[.agg #[.int .i64 (if r then(a:Int)else 0),.int .i64 (if r then(b:Int)else 0),v],.bool r])/\ROwns w' w.1.size 3 v (ic (if r then[(c:Int),(d:Int)]else[]))/\Below w.1.size w w':=by
 have C1:=hide (zc7 a b c d);rw[hr]at C1;clear hr;have h4:(s.size:Int)=4:=by omega
 have i0:(0:Int)<(s.size:Int):=by omega
 have i1:(1:Int)<(s.size:Int):=by omega
 have i2:(2:Int)<(s.size:Int):=by omega
 have i3:(3:Int)<(s.size:Int):=by omega
 have a1:a<256:=by have:=(s[0]).toNat_lt;omega
 have b1:b<256:=by have:=(s[1]).toNat_lt;omega
 have c1:c<256:=by have:=(s[2]).toNat_lt;omega
 have d1:d<256:=by have:=(s[3]).toNat_lt;omega
 go_enter Tryz.func120,Tryz.ntmps120
 go_wp2
 go_region
 ·go_wp2_with fail
  obtain⟨X0,X1,O0,B0⟩:=readA w a b c d;refine(C1.out _ _ O0.rints).mono ?_;intro e w1 hh;obtain⟨rfl,B1⟩:=hh;have Y0:AtT 59 w1 w.1.size 0 0 (.slice none 0 0):=X0.below B1 X0.lt;have Y1:AtT 59 w1 (w.1.size+1+1) a b (.slice (some ⟨w.1.size+1,0,none⟩) 2 2):=X1.below B1 X1.lt;have O1:ROwns w1 (w.1.size+1) 3 (.slice (some ⟨w.1.size+1,0,none⟩) 2 2) (ic [(c:Int),(d:Int)]):=O0.below B1 nR;have b1:Below w.1.size w w1:=B0.trans (B1.mono B0.size);obtain⟨q0,q1,q2,z0,z1,z2,m0⟩:=zdo (w1:=w1) (b:=w.1.size) Y0;obtain⟨d0,d1,d2⟩:=Y1.cells;have m1:=Y1.lt;have HO:=hide O1;have HB:=hide b1;clear B1 Y0 Y1 O1 b1 X0 X1 O0 B0 C1 ha hb hc hd hs i0 i1 i2 i3
  cases r with
  | true =>
   go_wp2;refine bodyPost_ret (v:=.tuple #[.agg #[.int .i64 a,.int .i64 b,.slice (some ⟨w.1.size+1,0,none⟩) 2 2],.bool true]) sQ3 rfl ⟨_,rfl,?_,?_⟩
   ·exact cQ101
   ·exact((HB.o.setCell nR _).setCell nR _).setCell nR _
  | false =>
   exact cQ59
 ·go_wp2_with fail
  obtain⟨X0,X1,O0,B0⟩:=readB w a b c d;refine(C1.out _ _ O0.rints).mono ?_;intro e w1 hh;obtain⟨rfl,B1⟩:=hh;have Y0:AtT 59 w1 w.1.size 0 0 (.slice none 0 0):=X0.below B1 X0.lt;have Y1:AtT 59 w1 (w.1.size+1) a b (.slice (some ⟨w.1.size+1+1,0,none⟩) 2 2):=X1.below B1 X1.lt;have O1:ROwns w1 (w.1.size+1) 3 (.slice (some ⟨w.1.size+1+1,0,none⟩) 2 2) (ic [(c:Int),(d:Int)]):=O0.below B1 nR;have b1:Below w.1.size w w1:=B0.trans (B1.mono B0.size);obtain⟨q0,q1,q2,z0,z1,z2,m0⟩:=zdo (w1:=w1) (b:=w.1.size) Y0;obtain⟨d0,d1,d2⟩:=Y1.cells;have m1:=Y1.lt;have HO:=hide O1;have HB:=hide b1;clear B1 Y0 Y1 O1 b1 X0 X1 O0 B0 C1 ha hb hc hd hs i0 i1 i2 i3
  cases r with
  | true =>
   go_wp2;refine bodyPost_ret (v:=.tuple #[.agg #[.int .i64 a,.int .i64 b,.slice (some ⟨w.1.size+1+1,0,none⟩) 2 2],.bool true]) sQ3 rfl ⟨_,rfl,?_,?_⟩
   ·exact cQ101
   ·exact((HB.o.setCell nR _).setCell nR _).setCell nR _
  | false =>
   exact cQ59
def Rd(s:ByteArray)(r:Bool)(k l:Int)(xs:List Int):Prop :=
 (s.size≠4/\r=false/\k=0/\l=0/\xs=[]) \/
 ∃(_:s.size=4)(a b c d:Nat),(s[0]).toNat=a/\(s[1]).toNat=b/\(s[2]).toNat=c/\(s[3]).toNat=d/\okR a b c d=r/\k=(if r then(a:Int)else 0)/\l=(if r then(b:Int)else 0)/\xs=(if r then[(c:Int),(d:Int)]else[])
theorem Rd.none{s:ByteArray}(h:s.size≠4):Rd s false 0 0 []:=.inl ⟨h,rfl,rfl,rfl,rfl⟩
theorem Rd.four{s:ByteArray}(h:s.size=4)(a b c d:Nat)(ha:(s[0]).toNat=a)(hb:(s[1]).toNat=b)(hc:(s[2]).toNat=c)(hd:(s[3]).toNat=d)(r:Bool)(hr:okR a b c d=r):Rd s r (if r then(a:Int)else 0) (if r then(b:Int)else 0) (if r then[(c:Int),(d:Int)]else[]) :=
 .inr ⟨h,a,b,c,d,ha,hb,hc,hd,hr,rfl,rfl,rfl⟩
theorem rd_ex(s:ByteArray):∃r k l xs,Rd s r k l xs/\xs.length<=2:=by
 by_cases h:s.size=4
 ·refine⟨_,_,_,_,.four h _ _ _ _ rfl rfl rfl rfl _ rfl,?_⟩
  split<;>simp
 ·exact⟨_,_,_,_,.none h,by simp⟩
theorem zim{s:ByteArray}{r:Bool}{k l:Int}{xs:List Int}(h:Rd s r k l xs)(w:World)(h1:s.size<=1048576):
  Calls Tryz.prog 120 #[.string s] w fun e w'=>∃v,e=.returned (.tuple #[.agg #[.int .i64 k,.int .i64 l,v],.bool r])/\ROwns w' w.1.size 3 v (ic xs)/\Below w.1.size w w':=by
 rcases h with⟨h,rfl,rfl,rfl,rfl⟩| ⟨h,a,b,c,d,ha,hb,hc,hd,hr,rfl,rfl,rfl⟩
 ·exact(zil s w h h1).mono fun e w' ⟨he,hb⟩=>⟨_,he,ROwns.nil _ _ _,hb⟩
 ·exact zg9 s w h a b c d ha hb hc hd r hr
theorem Rd.ok{s:ByteArray}{r:Bool}{k l:Int}{xs:List Int}(h:Rd s r k l xs)(hr:r=true):IOk (k,l,xs):=by
 rcases h with⟨-,e,-⟩| ⟨h4,a,b,c,d,-,-,-,-,h5,rfl,rfl,rfl⟩
 ·rw[hr]at e;simp at e
 ·subst hr;exact ok.IOk (by simp only[if_true];exact h5)
namespace Kit
def zer(s:ByteArray)(k:Nat):Bool:=bitN (s.data.toList.getD (k/8) 0).toNat (k%8)
def pX(s:ByteArray)(i:Nat):List Bool:=(List.range (min i 16)).map (zer s)
def pY(s:ByteArray)(i:Nat):List Bool:=(List.range (i-16)).map fun k=>zer s (k+16)
theorem zfr(s:ByteArray)(i:Nat):(pX s i).length=min i 16:=by simp[pX]
theorem zfs(s:ByteArray)(i:Nat):(pY s i).length=i-16:=by simp[pY]
theorem pX_lo(s:ByteArray)(i:Nat)(h:i<16):pX s (i+1)=pX s i++[zer s i]:=by
 unfold pX;rw[Nat.min_eq_left oM,Nat.min_eq_left oM,List.range_succ];simp
theorem pY_lo(s:ByteArray)(i:Nat)(h:i<16):pY s (i+1)=pY s i:=by
 unfold pY;rw[show i+1-16=0 by omega,show i-16=0 by omega]
theorem pX_hi(s:ByteArray)(i:Nat)(h:¬i<16):pX s (i+1)=pX s i:=by
 unfold pX;rw[Nat.min_eq_right oM,Nat.min_eq_right oM]
theorem pY_hi(s:ByteArray)(i:Nat)(h:¬i<16):pY s (i+1)=pY s i++[zer s i]:=by
 unfold pY;rw[show i+1-16=(i-16)+1 by omega,List.range_succ];simp;congr 1
 omega
theorem znh{wr w2:World}{base:Nat}{u v u':Value}{xs ys:List Bool}{b:Bool}(h:Two wr base u v xs ys)(R1:ROwns w2 base 4 u' (fc xs++[.bool b]))(R3:Keeps wr w2 u u'):Two w2 base u' v (xs++[b]) ys :=
 ⟨by rw[zhl];exact R1,h.b.of_heap fun k hk=>(R3 k (h.b.lt k hk).2 (fun e=>h.ne k e hk)).2,fun k e1 e2=>(R3 k (h.b.lt k e2).2 (fun e=>h.ne k e e2)).1 e1⟩
theorem zk6{wr w2:World}{base:Nat}{u v v':Value}{xs ys:List Bool}{b:Bool}(h:Two wr base u v xs ys)(R1:ROwns w2 base 4 v' (fc ys++[.bool b]))(R3:Keeps wr w2 v v'):Two w2 base u v' xs (ys++[b]) :=
 ⟨h.a.of_heap fun k hk=>(R3 k (h.a.lt k hk).2 (fun e=>h.ne k hk e)).2,by rw[zhl];exact R1,fun k e1 e2=>(R3 k (h.a.lt k e1).2 (fun e=>h.ne k e1 e)).1 e2⟩
def dv(c j:Nat):Int:=((c/2 ^ j:Nat):Int)
theorem dv_zero(c:Nat):dv c 0=(c:Int):=by simp[dv]
theorem dv_succ(c j:Nat):dv c (j+1)=dv c j/2:=by
 unfold dv;rw[Nat.pow_succ,←Nat.div_div_eq_div_mul];omega
theorem dv_le(c j:Nat)(h:c<256):0<=dv c j/\dv c j<=255:=by
 have:c/2 ^ j<=c:=Nat.div_le_self _ _;unfold dv;generalize c/2 ^ j=p at*;omega
end Kit
theorem zk7(s:ByteArray)(i:Nat)(h:i/8<s.size):zer s i=((((s[i/8]).toNat/2 ^ (i%8)%2:Nat):Int)==1):=by
 rw[←bitN_int,zer];congr 1
 simp[h];rfl
theorem zha(s:ByteArray)(w:World)(h:s.size≠3)(_h1:s.size<=1048576):
  Calls Tryz.prog 117 #[.string s] w fun e w'=>e=.returned (.tuple #[.agg #[.slice none 0 0,.slice none 0 0],.bool false])/\Below w.1.size w w':=by
 have h2:((s.size:Int) != 3)=true:=by simp;omega
 go_enter Tryz.func117,Tryz.ntmps117
 go_wp2;refine bodyPost_ret (v:=.tuple #[.agg #[.slice none 0 0,.slice none 0 0],.bool false]) sR0 rfl ⟨rfl,by go_grown⟩
theorem flag_dv(s:ByteArray)(i:Nat)(h:i/8<s.size):zer s i=(dv (s[i/8]).toNat (i%8)%2==1):=by
 rw[zk7 s i h];unfold dv;generalize (s[i/8]).toNat/2 ^ (i%8)=p;rw[show((p%2:Nat):Int)=(p:Int)%2 by omega]
structure RsB(w wr:World)(u v:Value)(xs ys:List Bool):Prop where
 res:AtP 26 wr w.1.size (.slice none 0 0) (.slice none 0 0)
 var:AtP 26 wr (w.1.size+1) u v
 two:Two wr (w.1.size+1+1) u v xs ys
 bel:Below w.1.size w wr
theorem RsB.first{w wr w2:World}{u v u':Value}{xs ys:List Bool}{b:Bool}(h:RsB w wr u v xs ys)(R1:ROwns w2 (w.1.size+1+1) 4 u' (fc xs++[.bool b]))(R2:Below (w.1.size+1+1) wr w2)(R3:Keeps wr w2 u u'):
  RsB w (w2.setCell ⟨w.1.size+1,0,none⟩ u') u' v (xs++[b]) ys/\w2.cell? ⟨w.1.size+1,0,none⟩=some u/\w2.frozen? ⟨w.1.size+1,0,none⟩=false/\w.1.size+1<w2.1.size:=by
 have k1:=h.var.below R2 oM;exact⟨⟨(h.res.below R2 oM).set_other oM _,k1.set0 u',(znh h.two R1 R3).set_other oM _,(h.bel.trans (R2.mono oM)).setCell oE _⟩,k1.cells.1,k1.frozen.1,k1.lt⟩
theorem RsB.second{w wr w2:World}{u v v':Value}{xs ys:List Bool}{b:Bool}(h:RsB w wr u v xs ys)(R1:ROwns w2 (w.1.size+1+1) 4 v' (fc ys++[.bool b]))(R2:Below (w.1.size+1+1) wr w2)(R3:Keeps wr w2 v v'):
  RsB w (w2.setCell ⟨w.1.size+1,1,none⟩ v') u v' xs (ys++[b])/\w2.cell? ⟨w.1.size+1,1,none⟩=some v/\w2.frozen? ⟨w.1.size+1,1,none⟩=false/\w.1.size+1<w2.1.size:=by
 have k1:=h.var.below R2 oM;exact⟨⟨(h.res.below R2 oM).set_other oM _,k1.set1 v',(zk6 h.two R1 R3).set_other oM _,(h.bel.trans (R2.mono oM)).setCell oE _⟩,k1.cells.2,k1.frozen.2,k1.lt⟩
theorem zft(s:ByteArray)(w:World)(hs:s.size=3):
  Calls Tryz.prog 117 #[.string s] w fun e w'=>∃u v,e=.returned (.tuple #[.agg #[u,v],.bool true])/\Two w' w.1.size u v (pX s 24) (pY s 24)/\Below w.1.size w w':=by
 have h3:(s.size:Int)=3:=by omega
 have R0:RsB w ((w.alloc (Obj.cells #[.slice none 0 0,.slice none 0 0] 26)).alloc (Obj.cells #[.slice none 0 0,.slice none 0 0] 26)) (.slice none 0 0) (.slice none 0 0) (pX s 0) (pY s 0):=by
  refine⟨(AtP.new 26 w _ _).alloc _,?_,Two.nil _ _,((Below.refl _ w).alloc nR _).alloc sI _⟩;have:=AtP.new 26 (w.alloc (Obj.cells #[.slice none 0 0,.slice none 0 0] 26)) (.slice none 0 0) (.slice none 0 0)
  rwa[World.size_alloc]at this
 have HR0:=hide R0;clear R0;go_enter Tryz.func117,Tryz.ntmps117
 go_wp2;go_loopw [5] (fun x wr=>∃(i:Nat)(u v:Value),i<=24/\x=.int .i64 i/\RsB w wr u v (pX s i) (pY s i)) (fun x _=>24-(intOf x).toNat)
 case atStart=>exact⟨0,_,_,by omega,rfl,HR0.o⟩
 case round =>
  obtain⟨i,u,v,hi,rfl,hR⟩:=hrel;by_cases hlt:i<24
  ·have hd0:i/8<s.size:=by omega
   have hfl:=flag_dv s i hd0;obtain⟨t,ht⟩:∃t,zer s i=t:=⟨_,rfl⟩
   obtain⟨d,hd⟩:∃d,i/8=d:=⟨_,rfl⟩
   obtain⟨r,hr⟩:∃r,i%8=r:=⟨_,rfl⟩
   have d1:(i:Int)/8=(d:Int):=by omega
   have r1:(i:Int)%8=(r:Int):=by omega
   have r2:r<8:=by omega
   have hds:d<s.size:=by omega
   obtain⟨c,hc⟩:∃c:Nat,(s[d]).toNat=c:=⟨_,rfl⟩
   have hfl':(dv c r%2==1)=t:=by rw[←ht,hfl];subst hd hr hc;rfl
   have c1:c<256:=by have:=(s[d]).toNat_lt;omega
   have d2:(0:Int)<=(d:Int):=by omega
   have d3:(d:Int)<3:=by omega
   have HT:=hide ht;have HR:=hide hR;have HI:=hide (And.intro hlt (And.intro hd hr));clear ht hfl hd hr hd0 hR HR0;go_wp2;go_loopw [6,7] (fun x y w'=>∃j:Nat,j<=r/\y=.int .i64 j/\x=.int .i64 (dv c j)/\wr=w') (fun _ y _=>r-(intOf y).toNat)
   case atStart=>exact⟨0,Nat.zero_le _,rfl,by rw[dv_zero],rfl⟩
   case round =>
    obtain⟨j,hj,rfl,rfl,rfl⟩:=hrel;obtain⟨p0,p1⟩:=dv_le c j c1;by_cases hjl:j<r
    ·have E1:=hide (dv_succ c j);have j0:(0:Int)<=(j:Int):=by omega
     have j1:(j:Int)<(r:Int):=by omega
     go_wp2;go_roundw
     case rel=>exact⟨j+1,by omega,by go_num,by rw[E1.out],trivial⟩
     case measure=>simp[intOf];omega
    ·obtain rfl:j=r:=by omega
     clear hj hjl;obtain⟨a1,e1,a2,e2,hu,hv⟩:=HR.o.two.form;subst hu hv;obtain⟨v0,v1⟩:=HR.o.var.cells;have m1:=HR.o.var.lt;by_cases h16:i<16
     ·have HP:=hide (And.intro (pX_lo s i h16) (pY_lo s i h16));rw[HT.o]at HP;have lp:(fc (pX s i)).length<=1000000000000:=by rw[zad,zfr];omega
      obtain⟨P,hP⟩:∃P,pX s i=P:=⟨_,rfl⟩
      obtain⟨Q,hQ⟩:∃Q,pY s i=Q:=⟨_,rfl⟩
      rw[hP,hQ]at HP HR;rw[hP]at lp;rw[hP]at v0;rw[hQ]at v1;have hown:=HR.o.two.a;clear hP hQ;go_wp2_with (at_builtin;refine zb7 wr wr rfl _ _ 24 rfl (w.1.size+1+1) 4 Tryz.u24 (.bool false) 1 Tryz.i4 rfl dC _ (fc P) (by rfl) hown bR (by have:=HR.o.var.lt;omega) (.bool t) rfl (by rfl) lp ?_;intro v' w2 R1 R2 R3;obtain⟨b1,f1,hv',-⟩:=R1.form;generalize (fc P++[Value.bool t]).length=n1 at hv';subst hv';obtain⟨hR2,q0,q1,q2⟩:=HR.o.first R1 R2 R3;have HR2:=hide hR2;clear R1 R2 R3 hR2)
      go_roundw
      case rel=>exact⟨i+1,_,_,by omega,by go_num,by rw[HP.o.1,HP.o.2];exact HR2.o⟩
      case measure=>simp[intOf];omega
     ·have HP:=hide (And.intro (pX_hi s i h16) (pY_hi s i h16));rw[HT.o]at HP;have lp:(fc (pY s i)).length<=1000000000000:=by rw[zad,zfs];omega
      obtain⟨P,hP⟩:∃P,pX s i=P:=⟨_,rfl⟩
      obtain⟨Q,hQ⟩:∃Q,pY s i=Q:=⟨_,rfl⟩
      rw[hP,hQ]at HP HR;rw[hQ]at lp;rw[hP]at v0;rw[hQ]at v1;have hown:=HR.o.two.b;clear hP hQ;go_wp2_with (at_builtin;refine zb7 wr wr rfl _ _ 24 rfl (w.1.size+1+1) 4 Tryz.u24 (.bool false) 1 Tryz.i4 rfl dC _ (fc Q) (by rfl) hown bR (by have:=HR.o.var.lt;omega) (.bool t) rfl (by rfl) lp ?_;intro v' w2 R1 R2 R3;obtain⟨b1,f1,hv',-⟩:=R1.form;generalize (fc Q++[Value.bool t]).length=n1 at hv';subst hv';obtain⟨hR2,q0,q1,q2⟩:=HR.o.second R1 R2 R3;have HR2:=hide hR2;clear R1 R2 R3 hR2)
      go_roundw
      case rel=>exact⟨i+1,_,_,by omega,by go_num,by rw[HP.o.1,HP.o.2];exact HR2.o⟩
      case measure=>simp[intOf];omega
  ·obtain rfl:i=24:=by omega
   obtain⟨a1,e1,a2,e2,hu,hv⟩:=hR.two.form;subst hu hv;generalize (pX s 24).length=n1 at*;generalize (pY s 24).length=n2 at*;obtain⟨v0,v1⟩:=hR.var.cells;obtain⟨q0,q1⟩:=hR.res.cells;obtain⟨f0,f1⟩:=hR.res.frozen;have m1:=hR.var.lt;have m0:=hR.res.lt;have HT:=hide hR.two;have HB:=hide hR.bel;clear hR;go_wp2;refine bodyPost_ret (v:=.tuple #[.agg #[.slice a1 n1 e1,.slice a2 n2 e2],.bool true]) (by simp[results,go_sem,q0,q1]) rfl ⟨_,_,rfl,?_,?_⟩
   ·exact((HT.o.set_other oM _).set_other oM _).base_le oM
   ·exact((HB.o.setCell sI _).setCell sI _)
theorem zhb(s:ByteArray)(h1:s.size<=1048576):
  ∃(r:Bool)(xs ys:List Bool),(xs.length<=16/\ys.length<=8)/\(r=true->xs.length=16/\ys.length=8)/\∀w:World,Calls Tryz.prog 117 #[.string s] w fun e w'=>∃u v,e=.returned (.tuple #[.agg #[u,v],.bool r])/\Two w' w.1.size u v xs ys/\Below w.1.size w w':=by
 by_cases h:s.size=3
 ·refine⟨true,pX s 24,pY s 24,?_,?_,fun w=>zft s w h⟩
  ·rw[zfr,zfs];omega
  ·intro _;rw[zfr,zfs];omega
 ·refine⟨false,[],[],?_,?_,fun w=>(zha s w h h1).mono fun e w' ⟨he,hb⟩=>⟨_,_,he,Two.nil _ _,hb⟩⟩
  ·simp
  ·simp
namespace Kit
theorem zin(f:Nat):∀(rest pre:List UInt8)(k n m c:Nat),f+k=5->pre.length=k->(∀b∈pre,128<=b.toNat)->n=val pre->rdF f rest k n=some (m,c)->vb m=(pre++rest).take c/\c<=k+rest.length:=by
 induction f with
 | zero=>intro rest pre k n m c _ _ _ _ h;simp[rdF]at h
 | succ f ih =>
  intro rest pre k n m c hf hk hb hn h
  cases rest with
  | nil=>simp[rdF]at h
  | cons b r =>
   rw[rdF]at h
   split at h
   ·rename_i hge;have:=ih r (pre++[b]) (k+1) _ m c oM (by simp[hk]) (fun x hx=>by
     rcases List.mem_append.1 hx with h1|h1
     ·exact hb x h1
     ·simp at h1;subst h1;exact hge) (by rw[zdt,hk,hn]) h
    simp only[List.append_assoc,List.singleton_append,List.length_cons]at this ⊢;exact⟨this.1,by omega⟩
   ·rename_i hlt
    split at h
    ·cases h
    ·rename_i hno;simp only[Option.some.injEq,Prod.mk.injEq]at h;obtain⟨h1,h2⟩:=h;subst h2;have hv:n+b.toNat%128*128 ^ k=val (pre++[b]):=by rw[zdt,hk,hn]
     refine⟨?_,by simp⟩;rw[←h1,hv,(zf4 pre b oM hb oM).2 (by rw[hk];omega)];rw[show k+1=pre.length+1 by omega,List.take_append];simp[List.take_of_length_le]
theorem rd_canon{s:ByteArray}{p n c:Nat}(h:rd s p=some (n,c)):vb n=(s.data.toList.drop p).take c:=by
 have:=(zin 5 (s.data.toList.drop p) [] 0 0 n c rfl rfl sI rfl h).1;simpa using this
def rsO(s:ByteArray)(p:Nat):Option (ByteArray×Nat):=match rd s p with
 | none=>none
 | some (n,c)=>if 20000<n\/s.size-(p+c)<n then none else some (s.extract (p+c) (p+c+n),p+c+n)
theorem zni{s:ByteArray}{p:Nat}(hp:p<=s.size){t:ByteArray}{q:Nat}(h:rsO s p=some (t,q)):t.size<=20000/\p<=q/\q<=s.size/\vb t.size++t.data.toList=(s.data.toList.drop p).take (q-p):=by
 unfold rsO at h
 cases hr:rd s p with
 | none=>rw[hr]at h;simp at h
 | some nc =>
  obtain⟨n,c⟩:=nc;rw[hr]at h;simp only at h
  split at h
  ·cases h
  ·rename_i hno;simp only[Option.some.injEq,Prod.mk.injEq]at h;obtain⟨rfl,rfl⟩:=h;have hc:=rd_canon hr;have hl:s.data.toList.length=s.size:=rfl;have hcl:p+c<=s.size:=by
    have:=(zin 5 (s.data.toList.drop p) [] 0 0 n c rfl rfl sI rfl hr).2;rw[List.length_drop,hl]at this;omega
   have hz:(s.extract (p+c) (p+c+n)).size=n:=by rw[ByteArray.size_extract];omega
   refine⟨by rw[hz];omega,by omega,by omega,?_⟩;rw[hz,zcc,hc,show p+c+n-p=c+n by omega,show p+c+n-(p+c)=n by omega,List.take_add,List.drop_drop]
def tk(s:ByteArray):Nat->Nat->Option (List Sl×Nat)
 | 0,p=>some ([],p)
 | n+1,p=>if h:p<s.size then(match rsO s (p+1)with
   | none=>none
   | some (t,q)=>(match tk s n q with
     | none=>none
     | some (xs,e)=>some ((t,((s[p]).toNat:Int))::xs,e)))else none
theorem tk_short{s:ByteArray}{n p:Nat}(h:¬p<s.size):tk s (n+1) p=none:=by rw[tk,dif_neg h]
theorem tk_none{s:ByteArray}{n p:Nat}(h:p<s.size)(hr:rsO s (p+1)=none):tk s (n+1) p=none:=by rw[tk,dif_pos h,hr]
theorem tk_some{s:ByteArray}{n p q:Nat}{t:ByteArray}(h:p<s.size)(hr:rsO s (p+1)=some (t,q)):tk s (n+1) p=(tk s n q).map fun x=>((t,((s[p]).toNat:Int))::x.1,x.2):=by
 rw[tk,dif_pos h,hr]
 dsimp only
 cases tk s n q with
 | none=>rfl
 | some x=>rfl
def Upto(s:ByteArray)(j p:Nat)(ys:List Sl):Prop :=
 ys.length=j/\p<=s.size/\tk s 4 1=(tk s (4-j) p).map (fun x=>(ys++x.1,x.2))/\s.data.toList.take p=s.data.toList.take 1++encs ys/\(∀y∈ys,y.1.size<=20000)
theorem Upto.start{s:ByteArray}(h:1<=s.size):Upto s 0 1 []:=by
 refine⟨rfl,h,?_,by simp[encs],by simp⟩
 cases tk s 4 1<;>simp
theorem Upto.short{s:ByteArray}{j p:Nat}{ys:List Sl}(h:Upto s j p ys)(hj:j<4)(hp:¬p<s.size):tk s 4 1=none:=by
 obtain⟨_,_,h3,_⟩:=h;rw[h3,show 4-j=(4-(j+1))+1 by omega,tk_short hp];rfl
theorem Upto.none{s:ByteArray}{j p:Nat}{ys:List Sl}(h:Upto s j p ys)(hj:j<4)(hp:p<s.size)(hr:rsO s (p+1)=.none):tk s 4 1=.none:=by
 obtain⟨_,_,h3,_⟩:=h;rw[h3,show 4-j=(4-(j+1))+1 by omega,tk_none hp hr];rfl
theorem Upto.next{s:ByteArray}{j p q:Nat}{t:ByteArray}{ys:List Sl}(h:Upto s j p ys)(hj:j<4)(hp:p<s.size)(hr:rsO s (p+1)=some (t,q)):Upto s (j+1) q (ys++[(t,((s[p]).toNat:Int))]):=by
 obtain⟨h1,h2,h3,h4,h5⟩:=h;obtain⟨k1,k2,k3,k4⟩:=zni oM hr;refine⟨by simp[h1],k3,?_,?_,?_⟩
 ·rw[h3,show 4-j=(4-(j+1))+1 by omega,tk_some hp hr]
  cases tk s (4-(j+1)) q with
  | none=>rfl
  | some x=>simp
 ·have hp':p<s.data.toList.length:=hp;have e1:s.data.toList.take q=s.data.toList.take p++((s.data.toList.drop p).take (q-p)):=by
   conv=>lhs;rw[show q=p+(q-p)by omega,List.take_add]
  rw[e1,h4,zfj];have e2:(s.data.toList.drop p).take (q-p)=s[p]::(s.data.toList.drop (p+1)).take (q-(p+1)):=by
   rw[List.drop_eq_getElem_cons hp',show q-p=(q-(p+1))+1 by omega,List.take_succ_cons];rfl
  rw[e2,←k4];simp[encs,enc,loB]
 ·intro y hy;rcases List.mem_append.1 hy with h|h
  ·exact h5 y h
  ·simp at h;subst h;exact k1
theorem Upto.done{s:ByteArray}{p:Nat}{ys:List Sl}(h:Upto s 4 p ys):tk s 4 1=some (ys,p):=by
 obtain⟨_,_,h3,_⟩:=h;rw[h3];simp[tk]
theorem Upto.whole{s:ByteArray}{j p:Nat}{ys:List Sl}(h:Upto s j p ys)(h0:1<=s.size)(hd:s[0]=100):accB (100::encs ys)=s↔p=s.size:=by
 obtain⟨_,h2,_,h4,_⟩:=h;have hl:s.data.toList.length=s.size:=rfl;have e1:s.data.toList.take 1=[100]:=by
  rw[List.take_one,List.head?_eq_getElem?,List.getElem?_eq_getElem oM];have:s.data.toList[0]'oM=s[0]:=rfl;rw[this,hd];rfl
 rw[e1]at h4;have e2:accB (100::encs ys)=accB (s.data.toList.take p):=by rw[h4];rfl
 rw[e2];constructor
 ·intro h;have:=congrArg ByteArray.size h;rw[ze3,List.length_take,hl]at this;omega
 ·intro h;rw[List.take_of_length_le oM,zh3]
def readR(s:ByteArray):Option (Bool×List Sl×ByteArray) :=
 if h:0<s.size then
  if s[0]=100 then(match tk s 4 1 with
   | .none=>.none
   | some (xs,e)=>if e=s.size/\za4 xs=true then some (true,xs,⟨#[]⟩)else .none)
  else if s[0]=116/\s.size<=17 then some (false,[],s.extract 1 s.size)else .none
 else .none
theorem zjg{s:ByteArray}(h:s.size=0):readR s=.none:=by simp[readR,h]
theorem znj{s:ByteArray}(h:0<s.size)(hd:s[0]=100){xs:List Sl}{e:Nat}(ht:tk s 4 1=some (xs,e)):readR s=if e=s.size/\za4 xs=true then some (true,xs,⟨#[]⟩)else .none:=by
 rw[readR,dif_pos h,if_pos hd,ht]
theorem zgk{s:ByteArray}(h:0<s.size)(hd:s[0]=100)(ht:tk s 4 1=.none):readR s=.none:=by
 rw[readR,dif_pos h,if_pos hd,ht]
theorem zk8{s:ByteArray}(h:0<s.size)(hd:s[0]≠100):readR s=if s[0]=116/\s.size<=17 then some (false,[],s.extract 1 s.size)else .none:=by
 rw[readR,dif_pos h,if_neg hd]
def rOk(s:ByteArray):Bool:=(readR s).isSome
def rD(s:ByteArray):Bool:=match readR s with| some x=>x.1|_=>false
def rX(s:ByteArray):List Sl:=match readR s with| some x=>x.2.1|_=>[]
def rT(s:ByteArray):ByteArray:=match readR s with| some x=>x.2.2|_=>⟨#[]⟩
theorem zio{s:ByteArray}(h:readR s=.none):rOk s=false/\rD s=false/\rX s=[]/\rT s=⟨#[]⟩:=by simp[rOk,rD,rX,rT,h]
theorem znk{s:ByteArray}{d:Bool}{xs:List Sl}{t:ByteArray}(h:readR s=some (d,xs,t)):rOk s=true/\rD s=d/\rX s=xs/\rT s=t:=by simp[rOk,rD,rX,rT,h]
end Kit
namespace Kit
theorem zcq{P:Program}(w0 w:World){ops:Array Oper}{o:Oper}{a:Act}{K:Act->World->Prop}{Q:Exit->Act->World->Prop}{E:Prop}(hgd:o.guard=none)(s x:Operand)(t:TypeId)
  (ho:o.op=.call { callee:=.builtin .append,args:=#[s,x],argTypes:=#[t,t] }) (base:Nat) (e:TypeId) (ht:P.underlying t=some (.slice e)) (z:Value) (bytes:Nat)
  (hi:(P.info? e).map (fun i=>(i.zero,i.size,i.bytes))=some (some z,2,bytes)) (hzc:z.cells.size=2) (hby:bytes<=64) (v:Value) (xs:List Sl) (hs:a.eval s=v) (hown:SOwns w base e v xs)
  (hb:Below base w0 w) (hbase:base<=w.1.size) (n:ByteArray) (i:Int) (hx:a.eval x=.slice (some ⟨w.1.size,0,none⟩) 1 1) (hl:xs.length<=1000000000000)
  (h:∀v' w',SOwns w' base e v' (xs++[(n,i)])->Below base w0 w'->Keeps w w' v v'->K (a.put o.dst v') w') :
  if Region.wanted o (yielded ops a.tmps)=true then Oper.wp P o a (w.alloc (.cells #[.string n,.int .i64 i] e)).drew K Q else E:=by
 obtain⟨i0,hi,hz0,hz1,hz2⟩:=info_parts hi;have hown2:(w.alloc (.cells #[.string n,.int .i64 i] e)).drew.ownsRow base e 2 v xs.length (sc xs):=(hown.alloc _).drew;refine step_append_lies _ hgd s x t ho base e i0 z 2 bytes ht hi hz0 hz1 hz2 hzc dC v xs.length (sc xs) hs hown2 ⟨w.1.size,0,none⟩ 1 1 (sc [(n,i)]) hx rfl ?_ ?_ dC ?_ ?_ sO (w.1.size+1) sI ?_
 ·intro j y hj
  match j,hj with
  | 0,hj=>simp[sc]at hj;subst hj;simp[Addr.add]
  | 1,hj=>simp[sc]at hj;subst hj;simp[Addr.add]
  | j+2,hj=>simp[sc]at hj
 ·intro y hy;simp[sc]at hy;rcases hy with rfl|rfl<;>rfl
 ·unfold maxLen;omega
 ·exact cQ129
 ·intro g' cap w' hown' hgrow hat _;refine h _ w' ?_ ((hb.alloc hbase _).drew.grown hgrow sO fun k hk=>(hown2.lt k hk).1) ?_
  ·unfold SOwns;rw[List.length_append,zhk];exact hown'
  ·exact cQ33
end Kit
theorem znl(s:ByteArray)(p:Nat)(w:World)(hs:s.size<=1048576)(hp:p<=s.size):
  Calls Tryz.prog 182 #[.string s,.int .i64 p] w fun e w'=>e=.returned (rdVal s p)/\Below w.1.size w w':=by
 have hB:inB p 0 s.size=true:=by simp[inB];omega
 go_enter Tryz.func182,Tryz.ntmps182
 go_wp2_with (go_at_call 50;refine(zai _ _ _ _).mono ?_;rintro e w' ⟨rfl,rfl⟩)
 go_loop [7,8,9] (fun n q i=>∃(k m W:Nat),k<=5/\p+k<=s.size/\Hid (W=128 ^ k)/\W<=34359738368/\m<W/\n=.int .i64 m/\i=.int .i64 (p+k:Nat)/\q=.int .i64 W/\AtK s p k m) (fun _ _ i=>s.size-(intOf i).toNat)
 case atStart=>exact⟨0,0,1,by omega,by omega,hide rfl,by omega,by omega,rfl,rfl,rfl,AtK.start s p⟩
 case round =>
  obtain⟨k,m,W,hk,hl,HW,hW,hm,rfl,rfl,rfl,hat⟩:=hrel;by_cases hlt:p+k<s.size
  ·by_cases h5:k<5
   ·have hW4:W<=268435456:=by rw[HW.o];exact pow_le h5
    obtain⟨c,hc⟩:∃c:Nat,(s[p+k]).toNat=c:=⟨_,rfl⟩
    have hc1:c<256:=by rw[←hc];exact(s[p+k]).toNat_lt
    have hm0:c%128*W<=127*268435456:=Nat.mul_le_mul oM hW4;have HE:=hide (cast3 m c W);have q1:(0:Int)<=(c:Int)%128*(W:Int):=Int.mul_nonneg oM oM;have q2:(c:Int)%128*(W:Int)<=34091302912:=by
     have:((c%128*W:Nat):Int)<=34091302912:=by omega
     simpa using this
    clear hm0;have HC:=hide hc;by_cases h1:127<c
    ·have HN:=hide (at_next hat HW.o hlt h5 hc h1);go_wp2
     go_round
     case rel=>exact⟨k+1,m+c%128*W,W*128,by omega,by omega,hide (by rw[HW.o,Nat.pow_succ]),by omega,HN.o.2,by rw[HE.o],by go_num,by go_num,HN.o.1⟩
     case measure=>simp[intOf];omega
    ·obtain⟨T,hT⟩:∃T:Nat,(m:Int)+(c:Int)%128*(W:Int)=T:=⟨_,(cast3 m c W).symm⟩
     have hT':m+c%128*W=T:=by have:=cast3 m c W;omega
     have HT:=hide hT';clear hT';by_cases h2:1000000000<T
     ·have HN:=hide (zlr hat HW.o hlt h5 hc oM (.inl (by have:=HT.o;omega)));have b2:decide ((1000000000:Int)<(T:Int))=true:=by simp;omega
      go_wp2_with fail
      go_quiet(fail)
      go_wp2
      go_ret3
      exact⟨zcr HN.o,below_drewN bR _⟩
     ·have HF:=hide (form_eq hat HW.o hlt h5 hc oM);have b2:decide ((1000000000:Int)<(T:Int))=false:=by simp;omega
      have s1:(0:Int)<=(p:Int):=by omega
      have s2:(p:Int)<=(p:Int)+(k:Int)+1:=by omega
      have s3:(p:Int)+(k:Int)+1<=(s.size:Int):=by omega
      have s4:(0:Int)<=(p:Int)+(k:Int)+1:=by omega
      have hw:IntKind.i64.wrap ((p:Int)+(k:Int)+1)=(p:Int)+(k:Int)+1:=zef oM oM;go_wp2_with fail
      go_region_held3 (fun _=>True) (trivial) ((go_at_call 167;refine(zcj _ _ oM oM).mono ?_;rintro e w1 ⟨rfl,hb⟩))
      go_wp2
      ·have hx:(!(zbu T).toList==(s.extract p ((p:Int)+(k:Int)+1).toNat).toList)=true:=by assumption
       have HN:=zlr hat HW.o hlt h5 hc oM (.inr (form_no HT.o HF.o hx))
       go_ret3
       exact⟨zcr HN,zac hb⟩
      ·have hx:(!(zbu T).toList==(s.extract p ((p:Int)+(k:Int)+1).toNat).toList)=false:=by assumption
       have hy:=form_yes HT.o HF.o hx;have HN:=at_some hat HW.o hlt h5 hc oM (by have:=HT.o;omega);rw[hT]at HN
       go_ret3
       exact⟨zcr HN,zac hb⟩
   ·have HN:=hide (zda (hat.out (.inr oM)));go_wp2
    go_ret3
    exact⟨zcr HN.o,Below.refl _ _⟩
  ·have HN:=hide (zda (hat.out (.inl oM)));go_wp2
   go_ret3
   exact⟨zcr HN.o,Below.refl _ _⟩
theorem znm(s:ByteArray)(p:Nat)(w:World)(hs:s.size<=1048576)(hp:p<=s.size):
  Calls Tryz.prog 149 #[.string s,.int .i64 p] w fun e w'=>e=.returned (rsVal s p)/\Below w.1.size w w':=by
 have H:=fun w=>znl s p w hs hp
 cases hr:rd s p with
 | none =>
  rw[zda hr]at H;have G:=hide H;have HV:=hide (zkd hr);clear H hr;go_enter Tryz.func149,Tryz.ntmps149
  exact cQ107
 | some nc =>
  obtain⟨n,c⟩:=nc;obtain⟨hn,hc⟩:=rd_bound hp hr;rw[zf8 hr]at H;obtain⟨q,hq⟩:∃q,p+c=q:=⟨_,rfl⟩
  have hB:=fun h=>zlt hr h;have hG:=fun h=>zke hr h;rw[hq]at H hc hB hG;have G:=hide H;have HB:=hide hB;have HG:=hide hG;clear H hr hq hB hG;by_cases h1:20000<n
  ·go_enter Tryz.func149,Tryz.ntmps149
   go_wp2_with (go_at_call 182;refine(G.out _).mono ?_;rintro e w1 ⟨rfl,hb⟩)
   go_ret3
   exact⟨zcr (HB.o (.inl h1)),hb⟩
  ·by_cases h2:(s.size:Int)-(q:Int)<(n:Int)
   ·go_enter Tryz.func149,Tryz.ntmps149
    go_wp2_with (go_at_call 182;refine(G.out _).mono ?_;rintro e w1 ⟨rfl,hb⟩)
    go_ret3
    exact⟨zcr (HB.o (.inr oM)),hb⟩
   ·have hv:=HG.o oM;have e1:((q:Int)+(n:Int)).toNat=q+n:=by omega
    have e2:((q+n:Nat):Int)=(q:Int)+(n:Int):=by omega
    rw[e2]at hv;have HV:=hide hv;clear hv e2;go_enter Tryz.func149,Tryz.ntmps149
    exact cQ107
theorem zjh{s:ByteArray}{p:Nat}(h:rsO s p=none):rsVal s p=.tuple #[.string ⟨#[]⟩,.int .i64 0,.bool false]:=by
 unfold rsO at h;unfold rsVal
 cases hr:rd s p with
 | none=>rfl
 | some nc =>
  obtain⟨n,c⟩:=nc;rw[hr]at h;simp only at h ⊢
  split at h
  ·rename_i hb;rw[if_pos hb]
  ·cases h
theorem zji{s:ByteArray}{p q:Nat}{t:ByteArray}(h:rsO s p=some (t,q)):rsVal s p=.tuple #[.string t,.int .i64 q,.bool true]:=by
 unfold rsO at h;unfold rsVal
 cases hr:rd s p with
 | none=>rw[hr]at h;cases h
 | some nc =>
  obtain⟨n,c⟩:=nc;rw[hr]at h;simp only at h ⊢
  split at h
  ·cases h
  ·rename_i hb;rw[if_neg hb];simp only[Option.some.injEq,Prod.mk.injEq]at h;obtain⟨rfl,rfl⟩:=h;rfl
structure DirS(w wr:World)(s:ByteArray)(v:Value)(j p:Nat)(ys:List Sl):Prop where
 res:AtC wr w.1.size 95 #[.bool false,.slice none 0 0,.string ⟨#[]⟩]
 var:AtC wr (w.1.size+1) 95 #[.bool true,v,.string ⟨#[]⟩]
 own:SOwns wr (w.1.size+1+1) 90 v ys
 bel:Below w.1.size w wr
 up:Upto s j p ys
theorem DirS.over{w wr w':World}{s:ByteArray}{v:Value}{j p:Nat}{ys:List Sl}(h:DirS w wr s v j p ys)(hb:Below wr.1.size wr w'):DirS w w' s v j p ys :=
 ⟨h.res.over hb,h.var.over hb,h.own.below hb nR,h.bel.trans (hb.mono h.bel.size),h.up⟩
theorem DirS.next{w wr w':World}{s t:ByteArray}{v v':Value}{j p q:Nat}{x:Int}{ys:List Sl}(h:DirS w wr s v j p ys)(O:SOwns w' (w.1.size+1+1) 90 v' (ys++[(t,x)]))(B:Below (w.1.size+1+1) wr w')(U:Upto s (j+1) q (ys++[(t,x)])):
  DirS w (w'.setCell ⟨w.1.size+1,1,none⟩ v') s v' (j+1) q (ys++[(t,x)]) :=
 ⟨(h.res.below B oM).other oM _,(h.var.below B oM).set 1 _,O.setCell_low oM _,(h.bel.trans (B.mono oM)).setCell sI _,U⟩
theorem zfx(s:ByteArray)(w:World)(h:s.size=0):
  Calls Tryz.prog 121 #[.string s] w fun e w'=>e=.returned (.tuple #[.agg #[.bool false,.slice none 0 0,.string ⟨#[]⟩],.bool false])/\Below w.1.size w w':=by
 have he:=zck h;go_enter Tryz.func121,Tryz.ntmps121
 go_wp2;refine bodyPost_ret (v:=.tuple #[.agg #[.bool false,.slice none 0 0,.string ⟨#[]⟩],.bool false]) sR0 rfl ⟨rfl,by go_grown⟩
set_option linter.unusedSimpArgs false in
theorem zhc(s:ByteArray)(w:World)(hs:s.size<=1048576)(h0:0<s.size)(hd:s[0]=100):
  Calls Tryz.prog 121 #[.string s] w fun e w'=>∃v,e=.returned (.tuple #[.agg #[.bool (rD s),v,.string (rT s)],.bool (rOk s)])/\SOwns w' w.1.size 90 v (rX s)/\Below w.1.size w w':=by
 have he:=za1 h0;have hx:((s[0]).toNat:Int)=100:=by rw[hd];rfl
 have hi1:(1:Int)<=(s.size:Int):=by omega
 have hi0:(0:Int)<(s.size:Int):=by omega
 go_enter Tryz.func121,Tryz.ntmps121
 go_wp2_with fail
 go_loopw [5,6,7,8,9] (fun a i _ _ _ wr=>∃(j p:Nat)(v:Value)(ys:List Sl),j<=4/\i=.int .i64 j/\a=.int .i64 p/\DirS w wr s v j p ys) (fun _ i _ _ _ _=>4-(intOf i).toNat)
 case atStart =>
  refine⟨0,1,.slice none 0 0,[],Nat.zero_le _,rfl,rfl,(AtC.new w 95 _).alloc _,?_,SOwns.nil _ _ _,((Below.refl _ w).alloc nR _).alloc sI _,Upto.start h0⟩;have:=AtC.new (w.alloc (.cells #[.bool false,.slice none 0 0,.string ⟨#[]⟩] 95)) 95 #[.bool true,.slice none 0 0,.string ⟨#[]⟩];simpa using this
 case round =>
  obtain⟨j,p,v,ys,hj,rfl,rfl,hd0⟩:=hrel;have HD:=hide hd0;have hyl:ys.length=j:=hd0.up.1;have HYL:=hide hyl;have hyl4:ys.length<=4:=by omega
  clear hyl;have hps:p<=s.size:=hd0.up.2.1;obtain⟨va,vc,rfl,-⟩:=hd0.own.form;obtain⟨c0,c1,c2,cl⟩:=hd0.var.three;obtain⟨r0,r1,r2,rl⟩:=hd0.res.three;obtain⟨f0,f1,f2⟩:=hd0.res.frz;clear hd0;by_cases hgo:j<4/\p<s.size
  ·obtain⟨hlt,hp⟩:=hgo;have hp1:(p:Int)<(s.size:Int):=by omega
   have hp0:(0:Int)<=(p:Int):=by omega
   have C1:=hide (fun W=>znm s (p+1) W hs oM);rw[show((p+1:Nat):Int)=(p:Int)+1 from rfl]at C1
   cases hr:rsO s (p+1)with
   | none =>
    obtain⟨e1,e2,e3,e4⟩:=zio (zgk h0 hd (HD.o.up.none hlt hp hr));rw[zjh hr]at C1;have HE:=hide (And.intro e1 (And.intro e2 (And.intro e3 e4)));clear e1 e2 e3 e4 hr c0 c1 c2;go_wp2_with (go_at_call 149;refine(C1.out _).mono ?_;rintro e w2 ⟨rfl,B2⟩;obtain⟨x0,x1,x2,xl⟩:=(HD.o.res.over B2).three;obtain⟨g0,g1,g2⟩:=(HD.o.res.over B2).frz;have HB2:=hide (HD.o.bel.trans (B2.mono HD.o.bel.size));clear B2)
    refine bodyPost_ret (v:=.tuple #[.agg #[.bool false,.slice none 0 0,.string ⟨#[]⟩],.bool false]) (by simp[results,go_sem,x0,x1,x2]) rfl ?_;rw[HE.o.1,HE.o.2.1,HE.o.2.2.1,HE.o.2.2.2];exact⟨_,rfl,SOwns.nil _ _ _,((HB2.o.setCell nR _).setCell nR _).setCell nR _⟩
   | some tq =>
    obtain⟨t,q⟩:=tq;have HU:=hide (HD.o.up.next hlt hp hr);rw[zji hr]at C1;obtain⟨x,hx2⟩:∃x:Nat,(s[p]).toNat=x:=⟨_,rfl⟩
    rw[hx2]at HU;have hx3:x<256:=by rw[←hx2];exact(s[p]).toNat_lt
    have hwx:IntKind.i64.wrap (x:Int)=(x:Int):=zef oM oM;clear hr;clear c0 c1 c2 r0 r1 r2 f0 f1 f2;go_wp2_with (go_at_call 149;refine(C1.out _).mono ?_;rintro e wz ⟨rfl,B2⟩;have HD2:=hide (HD.o.over B2);clear B2)
    obtain⟨c0,c1,c2,cl2⟩:=HD2.o.var.three;have hsz2:w.1.size+1+1<=wz.1.size:=by omega
    refine wp_region_held_drew (S:=fun _=>True) kL trivial (fun hHeld=>?_);refine tk 0 hHeld ?_;simp only[Act.put];refine tk 2 hHeld ?_;simp only[Act.put];refine tk 3 hHeld ?_;simp only[Act.put];refine tk 4 hHeld ?_;simp only[Act.put];refine tk 5 hHeld ?_;simp only[Act.put];refine tk 6 hHeld ?_;simp only[Act.put];refine tk 7 hHeld ?_;simp only[Act.put];refine wpAnyH_ready (rs:=[1,8]) kL sI ?_;refine AllReadyH.cons (o:={ dst:=some 44,op:=Op.load 87 (Operand.tmp 43),type:=_,pos:=_,after:=_,guard:=none }) rfl (fun K hK=>?_) ?_
    ·go_simp;refine hK.out _ _ (trivial) (fun hHeld=>?_);clear hK K;try simp only[Act.put,List.setIfInBounds_toArray,List.set_cons_zero,List.set_cons_succ]
     refine wpAnyH_ready (rs:=[8]) kL sI ?_;refine AllReadyH.cons (o:={ dst:=some 51,op:=Op.buildSlice 87 1 #[(0,Operand.tmp 50)],type:=_,pos:=_,after:=_,guard:=none }) rfl (fun K hK=>?_) ?_
     ·exact cQ6
     ·exact AllReadyH.nil
    refine AllReadyH.cons (o:={ dst:=some 51,op:=Op.buildSlice 87 1 #[(0,Operand.tmp 50)],type:=_,pos:=_,after:=_,guard:=none }) rfl (fun K hK=>?_) ?_
    ·go_simp;refine hK.out _ _ (trivial) (fun hHeld=>?_);clear hK K;try simp only[Act.put,List.setIfInBounds_toArray,List.set_cons_zero,List.set_cons_succ]
     refine wpAnyH_ready (rs:=[1]) kL sI ?_;refine AllReadyH.cons (o:={ dst:=some 44,op:=Op.load 87 (Operand.tmp 43),type:=_,pos:=_,after:=_,guard:=none }) rfl (fun K hK=>?_) ?_
     ·exact cQ6
     ·exact AllReadyH.nil
    ·exact AllReadyH.nil
  ·have hstop:j=4\/(j<4/\¬p<s.size):=by omega
   have HST:=hide hstop;have hbig:∀(i:Nat)(h:i<ys.length),ys[i].1.size<=1048576:=fun i hi=>by have:=HD.o.up.2.2.2.2 _ (List.getElem_mem hi);omega
   have C4:=hide (fun W h=>zcl true (.slice va ys.length vc) ⟨#[]⟩ ys W h hbig);have HC0:Hid (∀w',Below wr.1.size wr w'->AtC w' (w.1.size+1) 95 #[.bool true,.slice va ys.length vc,.string ⟨#[]⟩]/\AtC w' w.1.size 95 #[.bool false,.slice none 0 0,.string ⟨#[]⟩]/\SOwns w' (w.1.size+1+1) 90 (.slice va ys.length vc) ys/\Below w.1.size w w'):=fun w' h=>⟨HD.o.var.over h,HD.o.res.over h,HD.o.own.below h nR,HD.o.bel.trans (h.mono HD.o.bel.size)⟩
   have key:(zaq true ys ⟨#[]⟩=true/\za7 true ys ⟨#[]⟩=s/\readR s=some (true,ys,⟨#[]⟩))\/((zaq true ys ⟨#[]⟩=false\/(zaq true ys ⟨#[]⟩=true/\¬za7 true ys ⟨#[]⟩=s))/\readR s=none):=by
    rw[zb2 ys ⟨#[]⟩ rfl];by_cases hj4:j=4
    ·subst hj4;have hdn:=HD.o.up.done;have hw:=HD.o.up.whole h0 hd;rw[znj h0 hd hdn]
     cases hok:za4 ys with
     | false=>right;exact⟨.inl rfl,by simp⟩
     | true =>
      have eb:za7 true ys ⟨#[]⟩=accB (100::encs ys):=by unfold za7;rw[zb2 ys ⟨#[]⟩ rfl,hok];rfl
      by_cases hpp:p=s.size
      ·left;exact⟨rfl,by rw[eb];exact hw.2 hpp,by simp[hpp]⟩
      ·right;exact⟨.inr ⟨rfl,by rw[eb];exact fun h=>hpp (hw.1 h)⟩,by simp[hpp]⟩
    ·right
     refine⟨.inl ?_,zgk h0 hd (HD.o.up.short oM oM)⟩;rw[zjx (by have:=HYL.o;omega)]
   have HKEY:=hide key;obtain⟨k,hk⟩:∃k,zaq true ys ⟨#[]⟩=k:=⟨_,rfl⟩
   obtain⟨bk,hbk⟩:∃bk,za7 true ys ⟨#[]⟩=bk:=⟨_,rfl⟩
   rw[hk,hbk]at C4 HKEY;clear key hk hbk hbig hstop hgo;rcases HKEY.o with⟨rfl,hbs,hrd⟩| ⟨hno,hrd⟩
   ·obtain⟨e1,e2,e3,e4⟩:=znk hrd;have HE:=hide (And.intro e1 (And.intro e2 (And.intro e3 e4)));have hq:=zey hbs;clear e1 e2 e3 e4 hrd HKEY hbs;rcases HST.o with hj4|⟨hj4,hj5⟩
    all_goals
     go_wp2_with (go_at_call 138;refine(C4.out _ HD.o.own.rsl).mono ?_;rintro e w2 ⟨rfl,B2⟩;obtain⟨y0,y1,y2,yl⟩:=(HC0.o _ B2).1.three;obtain⟨x0,x1,x2,xl⟩:=(HC0.o _ B2).2.1.three;obtain⟨g0,g1,g2⟩:=(HC0.o _ B2).2.1.frz;have HO2:=hide (HC0.o _ B2).2.2.1;have HB2:=hide (HC0.o _ B2).2.2.2;clear B2)
     refine bodyPost_ret (v:=.tuple #[.agg #[.bool true,.slice va ys.length vc,.string ⟨#[]⟩],.bool true]) (by simp[results,go_sem,x0,x1,x2]) rfl ?_;rw[HE.o.1,HE.o.2.1,HE.o.2.2.1,HE.o.2.2.2];exact⟨_,rfl,(((HO2.o.setCell_low oM _).setCell_low oM _).setCell_low oM _).base_le oM,((HB2.o.setCell nR _).setCell nR _).setCell nR _⟩
   ·obtain⟨e1,e2,e3,e4⟩:=zio hrd;have HE:=hide (And.intro e1 (And.intro e2 (And.intro e3 e4)));clear e1 e2 e3 e4 hrd HKEY;rcases hno with rfl|⟨rfl,hne⟩
    ·rcases HST.o with hj4|⟨hj4,hj5⟩
     all_goals
      go_wp2_with (go_at_call 138;refine(C4.out _ HD.o.own.rsl).mono ?_;rintro e w2 ⟨rfl,B2⟩;obtain⟨x0,x1,x2,xl⟩:=(HC0.o _ B2).2.1.three;obtain⟨g0,g1,g2⟩:=(HC0.o _ B2).2.1.frz;have HB2:=hide (HC0.o _ B2).2.2.2;clear B2)
      refine bodyPost_ret (v:=.tuple #[.agg #[.bool false,.slice none 0 0,.string ⟨#[]⟩],.bool false]) (by simp[results,go_sem,x0,x1,x2]) rfl ?_;rw[HE.o.1,HE.o.2.1,HE.o.2.2.1,HE.o.2.2.2];exact⟨_,rfl,SOwns.nil _ _ _,((HB2.o.setCell nR _).setCell nR _).setCell nR _⟩
    ·have hq:=zbh hne;clear hne;rcases HST.o with hj4|⟨hj4,hj5⟩
     all_goals
      go_wp2_with (go_at_call 138;refine(C4.out _ HD.o.own.rsl).mono ?_;rintro e w2 ⟨rfl,B2⟩;obtain⟨x0,x1,x2,xl⟩:=(HC0.o _ B2).2.1.three;obtain⟨g0,g1,g2⟩:=(HC0.o _ B2).2.1.frz;have HB2:=hide (HC0.o _ B2).2.2.2;clear B2)
      refine bodyPost_ret (v:=.tuple #[.agg #[.bool false,.slice none 0 0,.string ⟨#[]⟩],.bool false]) (by simp[results,go_sem,x0,x1,x2]) rfl ?_;rw[HE.o.1,HE.o.2.1,HE.o.2.2.1,HE.o.2.2.2];exact⟨_,rfl,SOwns.nil _ _ _,((HB2.o.setCell nR _).setCell nR _).setCell nR _⟩
theorem head_iff{s:ByteArray}(h0:0<s.size)(b:UInt8):oneB b++s.extract 1 s.size=s↔s[0]=b:=by
 have hl:s.data.toList.length=s.size:=rfl;have e1:(oneB b++s.extract 1 s.size).data.toList=b::s.data.toList.drop 1:=by
  rw[ByteArray.data_append,Array.toList_append,zcc,List.take_of_length_le (by rw[List.length_drop,hl];omega)];rfl
 have e2:s.data.toList=s[0]::s.data.toList.drop 1:=by
  conv=>lhs;rw[←List.drop_zero (l:=s.data.toList),List.drop_eq_getElem_cons (show 0<s.data.toList.length by omega)]
  rfl
 constructor
 ·intro h;have h2:(oneB b++s.extract 1 s.size).data.toList=s.data.toList:=by rw[h]
  rw[e1,e2]at h2;simp only[List.cons.injEq]at h2;exact h2.1.symm
 ·intro h;refine ByteArray.ext (Array.toList_inj.1 ?_);rw[e1]
  conv=>rhs;rw[e2]
  rw[h]
theorem zfy(s:ByteArray)(w:World)(hs:s.size<=1048576)(h0:0<s.size)(hd:s[0]≠100):
  Calls Tryz.prog 121 #[.string s] w fun e w'=>∃v,e=.returned (.tuple #[.agg #[.bool (rD s),v,.string (rT s)],.bool (rOk s)])/\SOwns w' w.1.size 90 v (rX s)/\Below w.1.size w w':=by
 have he:=za1 h0;obtain⟨x,hx⟩:∃x:Nat,(s[0]).toNat=x:=⟨_,rfl⟩
 have x1:((x:Int)==100)=false:=by
  have:x≠100:=fun e=>hd (UInt8.toNat_inj.1 (by rw[hx,e];rfl));simp;omega
 have hi1:(1:Int)<=(s.size:Int):=by omega
 have hi0:(0:Int)<(s.size:Int):=by omega
 obtain⟨t,ht⟩:∃t,s.extract 1 s.size=t:=⟨_,rfl⟩
 have hz:t.size=s.size-1:=by rw[←ht,ByteArray.size_extract];omega
 have C4:=hide (fun W=>zcl false (.slice none 0 0) t [] W ⟨none,0,rfl,Nat.le_refl _,fun j hj=>absurd hj (Nat.not_lt_zero _)⟩ (fun j hj=>absurd hj (Nat.not_lt_zero _)));have key:(zaq false [] t=true/\za7 false [] t=s/\readR s=some (false,[],t))\/((zaq false [] t=false\/(zaq false [] t=true/\¬za7 false [] t=s))/\readR s=none):=by
  rw[zk8 h0 hd,ht];by_cases h17:s.size<=17
  ·have hok:zaq false [] t=true:=by rw[zb9];exact decide_eq_true ⟨rfl,by omega⟩
   have eb:za7 false [] t=oneB 116++s.extract 1 s.size:=by rw[ht];simp[za7,hok]
   have hh:=head_iff h0 116;by_cases h6:s[0]=116
   ·left;exact⟨hok,by rw[eb];exact hh.2 h6,by simp[h6,h17]⟩
   ·right;exact⟨.inr ⟨hok,by rw[eb];exact fun h=>h6 (hh.1 h)⟩,by simp[h6]⟩
  ·right
   exact⟨.inl (by rw[zb9];exact decide_eq_false oM),by simp[h17]⟩
 have HKEY:=hide key;obtain⟨k,hk⟩:∃k,zaq false [] t=k:=⟨_,rfl⟩
 obtain⟨bk,hbk⟩:∃bk,za7 false [] t=bk:=⟨_,rfl⟩
 rw[hk,hbk]at C4 HKEY;have V0:AtC ((w.alloc (.cells #[.bool false,.slice none 0 0,.string ⟨#[]⟩] 95)).alloc (.cells #[.bool false,.slice none 0 0,.string t] 95)) (w.1.size+1) 95 #[.bool false,.slice none 0 0,.string t]:=by
  have:=AtC.new (w.alloc (.cells #[.bool false,.slice none 0 0,.string ⟨#[]⟩] 95)) 95 #[.bool false,.slice none 0 0,.string t];simpa using this
 have HV0:=hide V0;have HR0:=hide ((AtC.new w 95 #[.bool false,.slice none 0 0,.string ⟨#[]⟩]).alloc (.cells #[.bool false,.slice none 0 0,.string t] 95));have HW0:=hide (((Below.refl _ w).alloc nR (.cells #[.bool false,.slice none 0 0,.string ⟨#[]⟩] 95)).alloc sI (.cells #[.bool false,.slice none 0 0,.string t] 95));clear key hk hbk hz V0;rcases HKEY.o with⟨rfl,hbs,hrd⟩| ⟨hno,hrd⟩
 ·obtain⟨e1,e2,e3,e4⟩:=znk hrd;have HE:=hide (And.intro e1 (And.intro e2 (And.intro e3 e4)));have hq:=zey hbs;clear e1 e2 e3 e4 hrd HKEY hbs;go_enter Tryz.func121,Tryz.ntmps121
  go_wp2_with (go_at_call 138;refine(C4.out _).mono ?_;rintro e w2 ⟨rfl,B2⟩;obtain⟨y0,y1,y2,yl⟩:=(HV0.o.over B2).three;obtain⟨x0,x1',x2,xl⟩:=(HR0.o.over B2).three;obtain⟨g0,g1,g2⟩:=(HR0.o.over B2).frz;have HB2:=hide (HW0.o.trans (B2.mono sO));clear B2)
  refine bodyPost_ret (v:=.tuple #[.agg #[.bool false,.slice none 0 0,.string t],.bool true]) (by simp[results,go_sem,x0,x1',x2]) rfl ?_;rw[HE.o.1,HE.o.2.1,HE.o.2.2.1,HE.o.2.2.2];exact⟨_,rfl,SOwns.nil _ _ _,((HB2.o.setCell nR _).setCell nR _).setCell nR _⟩
 ·obtain⟨e1,e2,e3,e4⟩:=zio hrd;have HE:=hide (And.intro e1 (And.intro e2 (And.intro e3 e4)));clear e1 e2 e3 e4 hrd HKEY;rcases hno with rfl|⟨rfl,hne⟩
  ·go_enter Tryz.func121,Tryz.ntmps121
   exact cQ32
  ·have hq:=zbh hne;clear hne;go_enter Tryz.func121,Tryz.ntmps121
   exact cQ32
theorem zhd(s:ByteArray)(w:World)(hs:s.size<=1048576):
  Calls Tryz.prog 121 #[.string s] w fun e w'=>∃v,e=.returned (.tuple #[.agg #[.bool (rD s),v,.string (rT s)],.bool (rOk s)])/\SOwns w' w.1.size 90 v (rX s)/\Below w.1.size w w':=by
 by_cases h0:0<s.size
 ·by_cases hd:s[0]=100
  ·exact zhc s w hs h0 hd
  ·exact zfy s w hs h0 hd
 ·obtain⟨e1,e2,e3,e4⟩:=zio (zjg (s:=s) oM);rw[e1,e2,e3,e4];refine(zfx s w oM).mono ?_;rintro e w1 ⟨rfl,B1⟩;exact⟨_,rfl,SOwns.nil _ _ _,B1⟩
namespace Kit
structure Dy(w w':World)(A:Array Value)(b:Nat)(u v iv bv:Value)(xs ys:List Bool)(is:List Ino)(bs:List Blk):Prop where
 arg:AtC w' w.1.size 46 A
 res:AtC w' (w.1.size+1) 30 noD
 box:AtC w' b 30 #[u,v,iv,bv]
 dsk:DO w' (fun k=>w.1.size+1<k/\k≠b) u v iv bv xs ys is bs
 bel:Below w.1.size w w'
 hb:w.1.size+1<b
namespace Dy
variable {w w' w1 : World} {A : Array Value} {b : Nat} {u v iv bv : Value} {xs ys : List Bool} {is : List Ino} {bs : List Blk}
theorem below(h:Dy w w' A b u v iv bv xs ys is bs)(hb:Below w'.1.size w' w1):Dy w w1 A b u v iv bv xs ys is bs :=
 ⟨h.arg.over hb,h.res.over hb,h.box.over hb,h.dsk.below hb nR,h.bel.trans (hb.mono h.bel.size),h.hb⟩
theorem drew(h:Dy w w' A b u v iv bv xs ys is bs):Dy w w'.drew A b u v iv bv xs ys is bs:=h.below bR.drew
theorem alloc(h:Dy w w' A b u v iv bv xs ys is bs)(o:Obj):Dy w (w'.alloc o) A b u v iv bv xs ys is bs:=h.below (bR.alloc nR o)
theorem other(h:Dy w w' A b u v iv bv xs ys is bs){B j:Nat}(hB:w.1.size+1<B)(hb:B≠b)(hn:∀k,k=B->¬(w.1.size+1<k/\k≠b/\k<w1.1.size))(x:Value)(hw:Below w1.1.size w1 w')(h1:Dy w w1 A b u v iv bv xs ys is bs):Dy w (w'.setCell ⟨B,j,none⟩ x) A b u v iv bv xs ys is bs:=by
 exact cQ36
theorem appI(h:Dy w w' A b u v iv bv xs ys is bs):∃ti,TOwns w' 59 iv ti/\ti.length=is.length/\∀(w1 w2:World)(iv':Value)(t':V3)(x':Ino),Below w'.1.size w' w1->KI.O w1 t' x'->(∀k,t'.2.2.ownBlock=some k->w'.1.size<=k) ->
  TOwns w2 59 iv' (ti++[t'])->w1.grownBy w2 iv.ownBlock->(∀k,iv'.ownBlock=some k->iv.ownBlock=some k\/w1.1.size<=k) ->
  AtC w2 b 30 #[u,v,iv,bv]/\Dy w (w2.setCell ⟨b,2,none⟩ iv') A b u v iv' bv xs ys (is++[x']) bs:=by
 obtain⟨ti,h1,h2,h3⟩:=h.dsk.appI;refine⟨ti,h1,h2,fun w1 w2 iv' t' x' hb hO hn hr hg hv=>?_⟩;have hso:=fun k (hk:iv.ownBlock=some k)=>h.dsk.soI k (.inl hk);have hbs:=h.box.lt;have hsz:=h.bel.size;have hsz1:=hb.size;have hr0:=h.res.lt;have ha0:=h.arg.lt;have e0:AtC w2 w.1.size 46 A:=(hg.block _ oM (fun e=>by have:=hso _ e.symm;omega)).trans (h.arg.over hb);have e1:AtC w2 (w.1.size+1) 30 noD:=(hg.block _ oM (fun e=>by have:=hso _ e.symm;omega)).trans (h.res.over hb);have e2:AtC w2 b 30 #[u,v,iv,bv]:=(hg.block _ oM (fun e=>by have:=hso _ e.symm;omega)).trans (h.box.over hb);have d:=h3 w1 w2 iv' t' x' hb hO hn hr hg hv;have b2:Below w.1.size w w2:=(h.bel.trans (hb.mono hsz)).grown hg oM (fun k hk=>by have:=hso k hk;omega);have hbb:=h.hb;refine⟨e2,⟨e0.other oM _,e1.other oM _,e2.set 2 iv',?_,b2.setCell oD _,h.hb⟩⟩;have d2:=d.mono (S':=fun k=>w.1.size+1<k/\k≠b) fun k hk=>hk.elim id (fun e=>⟨by omega,by omega⟩);exact d2.of_heap fun k hk _=>heap_setCell_other w2 ⟨b,2,none⟩ k iv' (by show k≠b;omega)
theorem appB(h:Dy w w' A b u v iv bv xs ys is bs):∃tb,TOwns w' 95 bv tb/\tb.length=bs.length/\∀(w1 w2:World)(bv':Value)(t':V3)(x':Blk),Below w'.1.size w' w1->KB.O w1 t' x'->(∀k,t'.2.1.ownBlock=some k->w'.1.size<=k) ->
  TOwns w2 95 bv' (tb++[t'])->w1.grownBy w2 bv.ownBlock->(∀k,bv'.ownBlock=some k->bv.ownBlock=some k\/w1.1.size<=k) ->
  AtC w2 b 30 #[u,v,iv,bv]/\Dy w (w2.setCell ⟨b,3,none⟩ bv') A b u v iv bv' xs ys is (bs++[x']):=by
 obtain⟨ti,h1,h2,h3⟩:=h.dsk.appB;refine⟨ti,h1,h2,fun w1 w2 iv' t' x' hb hO hn hr hg hv=>?_⟩;have hso:=fun k (hk:bv.ownBlock=some k)=>h.dsk.soI k (.inr hk);have hbs:=h.box.lt;have hsz:=h.bel.size;have hsz1:=hb.size;have hr0:=h.res.lt;have ha0:=h.arg.lt;have e0:AtC w2 w.1.size 46 A:=(hg.block _ oM (fun e=>by have:=hso _ e.symm;omega)).trans (h.arg.over hb);have e1:AtC w2 (w.1.size+1) 30 noD:=(hg.block _ oM (fun e=>by have:=hso _ e.symm;omega)).trans (h.res.over hb);have e2:AtC w2 b 30 #[u,v,iv,bv]:=(hg.block _ oM (fun e=>by have:=hso _ e.symm;omega)).trans (h.box.over hb);have d:=h3 w1 w2 iv' t' x' hb hO hn hr hg hv;have b2:Below w.1.size w w2:=(h.bel.trans (hb.mono hsz)).grown hg oM (fun k hk=>by have:=hso k hk;omega);have hbb:=h.hb;refine⟨e2,⟨e0.other oM _,e1.other oM _,e2.set 3 iv',?_,b2.setCell oD _,h.hb⟩⟩;have d2:=d.mono (S':=fun k=>w.1.size+1<k/\k≠b) fun k hk=>hk.elim id (fun e=>⟨by omega,by omega⟩);exact d2.of_heap fun k hk _=>heap_setCell_other w2 ⟨b,3,none⟩ k iv' (by show k≠b;omega)
end Dy
structure Dy0(w w':World)(A:Array Value)(b c:Nat)(u v:Value)(xs ys:List Bool):Prop where
 arg:AtC w' w.1.size 46 A
 res:AtC w' (w.1.size+1) 30 noD
 box:AtC w' b 30 noD
 var:AtC w' c 26 #[u,v]
 two:Two w' (w.1.size+2) u v xs ys
 nb:∀k,(u.ownBlock=some k\/v.ownBlock=some k)->k≠b/\k≠c
 bel:Below w.1.size w w'
 hb:w.1.size+1<b
 hc:b<c
namespace Dy0
variable {w w' w1 : World} {A : Array Value} {b c : Nat} {u v : Value} {xs ys : List Bool}
theorem below(h:Dy0 w w' A b c u v xs ys)(hb:Below w'.1.size w' w1):Dy0 w w1 A b c u v xs ys :=
 ⟨h.arg.over hb,h.res.over hb,h.box.over hb,h.var.over hb,h.two.below hb nR,h.nb,h.bel.trans (hb.mono h.bel.size),h.hb,h.hc⟩
theorem anew(h:Dy0 w w' A b c u v xs ys)(hb:Below w'.1.size w' w1){u' v':Value}{xs' ys':List Bool}(hT:Two w1 w'.1.size u' v' xs' ys'):Dy0 w ((w1.setCell ⟨c,0,none⟩ u').setCell ⟨c,1,none⟩ v') A b c u' v' xs' ys':=by
 have h1:=h.hb;have h2:=h.hc;have l1:=h.var.lt;have l2:=hb.size;have own:∀k,(u'.ownBlock=some k\/v'.ownBlock=some k)->w'.1.size<=k:=fun k hk=>hk.elim (fun e=>(hT.a.lt k e).1) (fun e=>(hT.b.lt k e).1);refine⟨((h.arg.over hb).other oM _).other oM _,((h.res.over hb).other oM _).other oM _,((h.box.over hb).other oM _).other oM _,((h.var.over hb).set 0 u').set 1 v',?_,fun k hk=>by have:=own k hk;omega,(((h.bel.trans (hb.mono h.bel.size)).setCell (by show w.1.size<=c;omega) _).setCell (by show w.1.size<=c;omega) _),h.hb,h.hc⟩;exact((hT.set_other oM _).set_other oM _).base_le oM
theorem store(h:Dy0 w w' A b c u v xs ys):Dy w ((w'.setCell ⟨b,0,none⟩ u).setCell ⟨b,1,none⟩ v) A b u v (.slice none 0 0) (.slice none 0 0) xs ys [] []:=by
 have h1:=h.hb;have T2:Two ((w'.setCell ⟨b,0,none⟩ u).setCell ⟨b,1,none⟩ v) (w.1.size+2) u v xs ys:=by
  have hn:∀k,(u.ownBlock=some k\/v.ownBlock=some k)->((w'.setCell ⟨b,0,none⟩ u).setCell ⟨b,1,none⟩ v).heap[k]?=w'.1[k]?:=fun k hk=>(heap_setCell_other _ ⟨b,1,none⟩ k v (by show k≠b;exact(h.nb k hk).1)).trans (heap_setCell_other _ ⟨b,0,none⟩ k u (by show k≠b;exact(h.nb k hk).1));exact⟨h.two.a.of_heap fun k hk=>hn k (.inl hk),h.two.b.of_heap fun k hk=>hn k (.inr hk),h.two.ne⟩
 refine⟨(h.arg.other oM _).other oM _,(h.res.other oM _).other oM _,(h.box.set 0 u).set 1 v,?_,(h.bel.setCell oD _).setCell oD _,h1⟩;exact⟨fun k=>u.ownBlock=some k\/v.ownBlock=some k,fun _=>False,fun _=>False,[],[],T2.base_le (Nat.zero_le _),fun k hk=>hk,⟨rfl,TOwns.nil _ _,fun j hj=>by simp at hj,fun i j hi=>by simp at hi,fun j hj=>by simp at hj,(fun k e=>by cases e),fun j hj=>by simp at hj⟩,⟨rfl,TOwns.nil _ _,fun j hj=>by simp at hj,fun i j hi=>by simp at hi,fun j hj=>by simp at hj,(fun k e=>by cases e),fun j hj=>by simp at hj⟩,fun k hk=>⟨id,id⟩,fun k hk=>hk.elim,fun k hk=>hk.elim (fun hk=>⟨by have:=hk.elim (fun e=>(h.two.a.lt k e).1) (fun e=>(h.two.b.lt k e).1);omega,(h.nb k hk).1⟩) (fun e=>e.elim (fun e=>e.elim) (fun e=>e.elim))⟩
theorem setX(h:Dy0 w w' A b c u v xs ys)(j:Nat)(hj:j<xs.length):∃g cap,u=.slice (some ⟨g,0,none⟩) xs.length cap/\g<w'.1.size/\(∃x,w'.cell? ⟨g,j,none⟩=some (.bool x))/\w'.frozen? ⟨g,j,none⟩=false/\Dy0 w (w'.setCell ⟨g,j,none⟩ (.bool true)) A b c u v (xs.set j true) ys:=by
 obtain⟨g,cap,e,c1,c2,g1,g2,-⟩:=h.two.a.at j (by rw[zad];exact hj);have S0:=h.two.a;rw[e]at S0;have S1:=(S0.stored j (.bool true)).1;rw[zad]at e;rw[zad]at S1;subst e;have h1:=h.hb;have h2:=h.hc;have hn:=h.nb g (.inl rfl);refine⟨g,cap,rfl,g2,⟨xs[j],by rw[c1];simp[fc,hj]⟩,c2,h.arg.other oM _,h.res.other oM _,h.box.other oM _,h.var.other oM _,?_,h.nb,h.bel.setCell oG _,h.hb,h.hc⟩;exact⟨by rw[zdd];exact S1,(h.two.b.of_heap fun k hk=>heap_setCell_other _ ⟨g,j,none⟩ k _ (by show k≠g;exact fun e=>h.two.ne g rfl (e ▸ hk))),h.two.ne⟩
theorem setY(h:Dy0 w w' A b c u v xs ys)(j:Nat)(hj:j<ys.length):∃g cap,v=.slice (some ⟨g,0,none⟩) ys.length cap/\g<w'.1.size/\(∃x,w'.cell? ⟨g,j,none⟩=some (.bool x))/\w'.frozen? ⟨g,j,none⟩=false/\Dy0 w (w'.setCell ⟨g,j,none⟩ (.bool true)) A b c u v xs (ys.set j true):=by
 obtain⟨g,cap,e,c1,c2,g1,g2,-⟩:=h.two.b.at j (by rw[zad];exact hj);have S0:=h.two.b;rw[e]at S0;have S1:=(S0.stored j (.bool true)).1;rw[zad]at e;rw[zad]at S1;subst e;have h1:=h.hb;have h2:=h.hc;have hn:=h.nb g (.inr rfl);refine⟨g,cap,rfl,g2,⟨ys[j],by rw[c1];simp[fc,hj]⟩,c2,h.arg.other oM _,h.res.other oM _,h.box.other oM _,h.var.other oM _,?_,h.nb,h.bel.setCell oG _,h.hb,h.hc⟩;exact⟨(h.two.a.of_heap fun k hk=>heap_setCell_other _ ⟨g,j,none⟩ k _ (by show k≠g;exact fun e=>h.two.ne g (e ▸ hk) rfl)),by rw[zdd];exact S1,h.two.ne⟩
end Dy0
theorem znn{w w1 w3:World}{A:Array Value}{u v:Value}{xs ys:List Bool}(B1:Below ((w.alloc (.cells A 46)).alloc (.cells noD 30)).1.size ((w.alloc (.cells A 46)).alloc (.cells noD 30)) w1)
  (B3:Below (w1.alloc (.cells noD 30)).1.size (w1.alloc (.cells noD 30)) w3) (T:Two w3 (w1.alloc (.cells noD 30)).1.size u v xs ys) :
  Dy0 w (w3.alloc (.cells #[u,v] 26)) A w1.1.size w3.1.size u v xs ys:=by
 have s1:=B1.size;have s3:=B3.size;simp at s1 s3;have k1:=(AtC.new (w.alloc (.cells A 46)) 30 noD).over B1;simp at k1;have own:∀k,(u.ownBlock=some k\/v.ownBlock=some k)->w1.1.size+1<=k/\k<w3.1.size:=fun k hk=>by
  have:=hk.elim (fun e=>T.a.lt k e) (fun e=>T.b.lt k e);simpa using this
 refine⟨(((((AtC.new w 46 A).alloc _).over B1).alloc _).over B3).alloc _,((k1.alloc _).over B3).alloc _,((AtC.new w1 30 noD).over B3).alloc _,AtC.new w3 26 _,(T.alloc _).base_le sO,fun k hk=>by have:=own k hk;omega,?_,by omega,by omega⟩;exact((((((Below.refl _ w).alloc nR _).alloc sI _).trans (B1.mono sO)).alloc oM _).trans (B3.mono sO)).alloc oM _
end Kit
namespace Kit
structure DkOk(xs ys:List Bool)(is:List Ino)(bs:List Blk):Prop where
 x:xs.length=16
 y:ys.length=8
 i:is.length=8
 ii:∀q∈is,IOk q
 b:bs.length=16
 bb:∀q∈bs,KOk q
theorem readR_ok{s:ByteArray}{d:Bool}{xs:List Sl}{t:ByteArray}(h:readR s=some (d,xs,t)):KOk (d,xs,t):=by
 unfold readR at h
 split at h
 ·split at h
  ·split at h
   ·cases h
   ·split at h
    ·rename_i hok;simp only[Option.some.injEq,Prod.mk.injEq]at h;obtain⟨rfl,rfl,rfl⟩:=h;refine ok.KOk ?_;unfold blkOk zaq;simp only[if_true,Bool.and_eq_true,decide_eq_true_eq];exact⟨rfl,hok.2⟩
    ·cases h
  ·split at h
   ·rename_i hok;simp only[Option.some.injEq,Prod.mk.injEq]at h;obtain⟨rfl,rfl,rfl⟩:=h;refine ok.KOk ?_;unfold blkOk zaq;simp only[Bool.false_eq_true,if_false,decide_eq_true_eq];exact⟨rfl,by rw[ByteArray.size_extract];omega⟩
   ·cases h
 ·cases h
theorem rK_ok(s:ByteArray):KOk (rD s,rX s,rT s):=by
 cases h:readR s with
 | none =>
  obtain⟨-,e1,e2,e3⟩:=zio h;rw[e1,e2,e3];exact⟨⟨(fun e=>by cases e),by decide,fun q hq=>by simp at hq,by decide⟩,fun _=>rfl,fun e=>absurd e dC,fun q hq=>by simp at hq,Unl.nil⟩
 | some x =>
  obtain⟨d,xs,t⟩:=x;obtain⟨-,e1,e2,e3⟩:=znk h;rw[e1,e2,e3];exact readR_ok h
theorem RSt.all{w:World}{v:Value}{ts:List ByteArray}(h:RSt w v ts)(h0:0<ts.length):∃g off cap,v=.slice (some ⟨g,off,none⟩) ts.length cap/\g<w.1.size/\∀(j:Nat)(hj:j<ts.length),w.cell? ⟨g,off+j,none⟩=some (.string ts[j]):=by
 obtain⟨a,c,rfl,h⟩:=h;obtain⟨g,off,rfl,hg,-⟩:=h 0 h0;refine⟨g,off,c,rfl,hg,fun j hj=>?_⟩;obtain⟨g1,off1,e,-,hc⟩:=h j hj;simp only[Option.some.injEq,Addr.mk.injEq]at e;obtain⟨rfl,rfl,-⟩:=e;exact hc
theorem okD_all{ts:List ByteArray}(h:okD ts=true):ts.length=21/\∀(j:Nat)(h:j<ts.length),ts[j].size<=60:=by
 simp only[okD,zbv,Bool.and_eq_true,beq_iff_eq,List.all_eq_true,decide_eq_true_eq]at h;exact⟨h.1,fun j hj=>h.2 _ (List.getElem_mem hj)⟩
end Kit
theorem zk9(sv:Value)(ts:List ByteArray)(w:World)(hv:RSt w sv ts)(hl:ts.length<=1048576)(hs:∀(j:Nat)(h:j<ts.length),ts[j].size<=1048576):
  Calls Tryz.prog 83 #[.agg #[sv]] w fun e w'=>∃r u v iv bv xs ys is bs,e=.returned (.tuple #[.agg #[u,v,iv,bv],.bool r])/\DO w' (fun k=>w.1.size<=k) u v iv bv xs ys is bs/\(okD ts=true->DkOk xs ys is bs)/\Below w.1.size w w':=by
 have HV:=hide hv;obtain⟨a0,c0,rfl,-⟩:=hv;have HW0:Hid (∀W,Below ((w.alloc (.cells #[.slice a0 ts.length c0] 46)).alloc (.cells noD 30)).1.size ((w.alloc (.cells #[.slice a0 ts.length c0] 46)).alloc (.cells noD 30)) W->Below w.1.size w W/\AtC W (w.1.size+1) 30 noD/\AtC W w.1.size 46 #[.slice a0 ts.length c0]/\w.1.size+1+1<=W.1.size):=fun W b2=>by
  have k1:=(AtC.new (w.alloc (.cells #[.slice a0 ts.length c0] 46)) 30 noD).over b2;have k2:=((AtC.new w 46 #[.slice a0 ts.length c0]).alloc (.cells noD 30)).over b2;have sz:=b2.size;simp at k1 sz;exact⟨(((Below.refl _ w).alloc nR _).alloc sI _).trans (b2.mono sO),k1,k2,sz⟩
 have x0:((w.alloc (.cells #[.slice a0 ts.length c0] 46)).alloc (.cells noD 30)).cell? ⟨w.1.size,0,none⟩=some (.slice a0 ts.length c0):=(HW0.o _ bR).2.2.1.cell 0;have CO:=hide (fun W (h:Below w.1.size w W)=>zdj (.slice a0 ts.length c0) ts W (HV.o.below h nR) hl hs);obtain⟨r,hr⟩:∃r,okD ts=r:=⟨_,rfl⟩
 rw[hr]at CO;have HR:=hide hr;clear hr hl hs;go_enter Tryz.func83,Tryz.ntmps83
 go_wp2_with fail
 refine(CO.out _ (HW0.o _ bR).1).mono ?_;rintro e w1 ⟨rfl,B1⟩;have HB1:=hide B1;obtain⟨kb,kr,ka,ks⟩:=HW0.o w1 B1;clear x0
 cases r with
 | false =>
  obtain⟨r0,r1,r2,r3⟩:=AtC.four kr;have v0:=kr.frozen 0;have v1:=kr.frozen 1;have v2:=kr.frozen 2;have v3:=kr.frozen 3;have HK:=hide kb;clear kb kr ka B1;go_wp2;refine bodyPost_ret (v:=.tuple #[.agg #[.slice none 0 0,.slice none 0 0,.slice none 0 0,.slice none 0 0],.bool false]) sR4 rfl ⟨false,_,_,_,_,[],[],[],[],rfl,DO.bits (Two.nil _ _),(fun e=>by rw[HR.o]at e;cases e),?_⟩;exact(((HK.o.setCell oE _).setCell oE _).setCell oE _).setCell oE _
 | true =>
  obtain⟨hn,hz⟩:=okD_all HR.o;obtain⟨g,off,cap,e0,hg,-⟩:=HV.o.all oM;obtain⟨rfl,rfl⟩:a0=some ⟨g,off,none⟩/\c0=cap:=by simpa using e0
  have HC:Hid (∀W,Below w.1.size w W->∀(j:Nat)(hj:j<ts.length),W.cell? ⟨g,off+j,none⟩=some (.string ts[j])):=fun W hW j hj=>by
   obtain⟨g',off',cap',e,-,h⟩:=(HV.o.below hW nR).all oM;simp only[Value.slice.injEq,Option.some.injEq,Addr.mk.injEq]at e;obtain⟨⟨rfl,rfl,-⟩,-,-⟩:=e;exact h j hj
  have HZ:=hide hz;have HN:=hide hn;rw[hn]at ka HB1 ⊢;clear e0 hz hn HV CO HW0 B1 HR;obtain⟨s0,hs0⟩:∃s,ts[0]'(by have:=HN.o;omega)=s:=⟨_,rfl⟩
  have z0:s0.size<=60:=by rw[←hs0];exact HZ.o 0 (by have:=HN.o;omega)
  obtain⟨rb,xs0,ys0,lx,lr,CB⟩:=zhb s0 oM;have HCB:=hide CB;have HLR:=hide lr;have B2:Below w.1.size w (w1.alloc (.cells noD 30)):=kb.alloc oM _;have q0:(w1.alloc (.cells #[.slice none 0 0,.slice none 0 0,.slice none 0 0,.slice none 0 0] 30)).cell? ⟨w.1.size,0,none⟩=some (.slice (some ⟨g,off,none⟩) 21 c0):=(ka.alloc _).cell 0;have q1:(w1.alloc (.cells #[.slice none 0 0,.slice none 0 0,.slice none 0 0,.slice none 0 0] 30)).cell? ⟨g,off,none⟩=some (.string s0):=by rw[←hs0];exact HC.o _ B2 0 (by have:=HN.o;omega)
  have HS0:=hide hs0;clear CB lr kb kr hs0 B2;go_wp2_with fail
  refine(HCB.o _).mono ?_;rintro e w3 ⟨u,v,rfl,T3,B3⟩;have HD:=hide (znn HB1.o B3 T3);obtain⟨a1,c1,a2,c2,rfl,rfl⟩:=T3.form;clear T3 B3 HCB HB1 q0 q1 ka;go_upto_if 31 with fail
  generalize hb:w1.1.size=b at*;generalize hc:w3.1.size=c at*;generalize hW4:w3.alloc (.cells #[.slice a1 xs0.length c1,.slice a2 ys0.length c2] 26)=W4 at*;clear hb hc hW4;go_cut [7,8]from 32 to 54 (fun _ _ wx=>∃u v xs ys,xs.length=16/\ys.length=8/\Dy0 w wx #[.slice (some ⟨g,off,none⟩) 21 c0] b c u v xs ys)
  case first =>
   cases rb with
   | true =>
    go_wp2_with fail
    go_meet
    exact⟨_,_,_,_,(HLR.o trivial).1,(HLR.o trivial).2,HD.o⟩
   | false =>
    go_wp2_with fail
    refine(Xd.specNew_anyB _).mono ?_;rintro e w5 ⟨u',v',rfl,T5,B5⟩;have D5:=HD.o.below B5;obtain⟨y0,y1,y2⟩:=D5.var.two;have f0:=D5.var.frozen 0;have f1:=D5.var.frozen 1;have HD5:=hide (HD.o.anew B5 T5);obtain⟨a3,c3,a4,c4,rfl,rfl⟩:=T5.form;clear T5 B5 D5;rw[show newX.length=16 from rfl,show newY.length=8 from rfl]at HD5;try rw[show newX.length=16 from rfl,show newY.length=8 from rfl]
    go_wp2_with fail
    generalize (w5.setCell ⟨c,0,none⟩ (.slice a3 16 c3)).setCell ⟨c,1,none⟩ (.slice a4 8 c4)=W5 at*;clear y0 y1 y2 f0 f1;go_loopw [7] (fun x wr=>∃j:Nat,j<=16/\x=.int .i64 j/\Hid (∃xs ys,xs.length=16/\ys.length=8/\Dy0 w wr #[.slice (some ⟨g,off,none⟩) 21 c0] b c (.slice a3 16 c3) (.slice a4 8 c4) xs ys)) (fun x _=>16-(intOf x).toNat)
    case atStart=>exact⟨0,Nat.zero_le _,rfl,_,_,rfl,rfl,HD5.o⟩
    case round =>
     obtain⟨j,hj,rfl,HJ⟩:=hrel;obtain⟨xs,ys,lx1,ly1,hD⟩:=HJ.o;by_cases hlt:j<16
     ·obtain⟨g3,cp,e3,hg3,⟨xx,hx3⟩,fz3,hD2⟩:=hD.setX j oM;simp only[Value.slice.injEq]at e3;obtain⟨rfl,-,-⟩:=e3;have y0:=hD.var.c0;have j1:(j:Int)<16:=by omega
      have HD2:=hide hD2;have HL:=hide (And.intro lx1 ly1);clear hD hD2 HJ lx1 ly1;go_wp2_with fail
      go_roundw
      case rel=>exact⟨j+1,by omega,by go_num,_,_,by rw[List.length_set];exact HL.o.1,HL.o.2,HD2.o⟩
      case measure=>simp[intOf];omega
     ·obtain rfl:j=16:=by omega
      have y0:=hD.var.c0;have HD6:=hide hD;have HL6:=hide (And.intro lx1 ly1);clear hD HJ lx1 ly1;go_wp2_with fail
      go_loopw [8] (fun x wr=>∃j:Nat,j<=8/\x=.int .i64 j/\Hid (∃xs ys,xs.length=16/\ys.length=8/\Dy0 w wr #[.slice (some ⟨g,off,none⟩) 21 c0] b c (.slice a3 16 c3) (.slice a4 8 c4) xs ys)) (fun x _=>8-(intOf x).toNat)
      case atStart=>exact⟨0,Nat.zero_le _,rfl,_,_,HL6.o.1,HL6.o.2,HD6.o⟩
      case round =>
       obtain⟨j,hj,rfl,HJ⟩:=hrel;obtain⟨xs,ys,lx1,ly1,hD⟩:=HJ.o;by_cases hlt:j<8
       ·obtain⟨g3,cp,e3,hg3,⟨xx,hx3⟩,fz3,hD2⟩:=hD.setY j oM;simp only[Value.slice.injEq]at e3;obtain⟨rfl,-,-⟩:=e3;have y1:=hD.var.c1;have j1:(j:Int)<8:=by omega
        have HD2:=hide hD2;have HL:=hide (And.intro lx1 ly1);clear hD hD2 HJ lx1 ly1;go_wp2_with fail
        go_roundw
        case rel=>exact⟨j+1,by omega,by go_num,_,_,HL.o.1,by rw[List.length_set];exact HL.o.2,HD2.o⟩
        case measure=>simp[intOf];omega
       ·obtain rfl:j=8:=by omega
        have y1:=hD.var.c1;have HD6:=hide hD;have HL6:=hide (And.intro lx1 ly1);clear hD HJ lx1 ly1;go_wp2_with fail
        go_meet
        exact⟨_,_,_,_,HL6.o.1,HL6.o.2,HD6.o⟩
  case rest =>
   obtain⟨u,v,xs,ys,lx1,ly1,hD⟩:=hcut;obtain⟨W5,rfl⟩:∃W5,W5=wc:=⟨wc,rfl⟩
   obtain⟨a3,c3,a4,c4,rfl,rfl⟩:=hD.two.form;have y0:=hD.var.c0;have y1:=hD.var.c1;have y2:=hD.box.c0;have y3:=hD.box.c1;have y4:=hD.box.frozen 0;have y5:=hD.box.frozen 1;have y6:=hD.box.lt;have y7:=hD.var.lt;have HDy:=hide hD.store;have HL:=hide (And.intro lx1 ly1);clear hD lx1 ly1 HLR HD;go_wp2_with fail
   generalize (W5.setCell ⟨b,0,none⟩ (.slice a3 xs.length c3)).setCell ⟨b,1,none⟩ (.slice a4 ys.length c4)=W6 at*;clear y0 y1 y2 y3 y4 y5 y6 y7;go_loopw [9,10,11,12,13] (fun i _ _ _ _ wr=>∃j:Nat,j<=8/\i=.int .i64 j/\Hid (∃iv is,is.length=j/\(∀q∈is,IOk q)/\Dy w wr #[.slice (some ⟨g,off,none⟩) 21 c0] b (.slice a3 xs.length c3) (.slice a4 ys.length c4) iv (.slice none 0 0) xs ys is [])) (fun i _ _ _ _ _=>8-(intOf i).toNat)
   case atStart=>exact⟨0,Nat.zero_le _,rfl,_,_,rfl,(fun q hq=>by simp at hq),HDy.o⟩
   case round =>
    obtain⟨j,hj,rfl,HJ⟩:=hrel;obtain⟨iv,is,li,hi,hD⟩:=HJ.o;by_cases hlt:j<8
    ·obtain⟨m,hm⟩:∃m:Nat,1+j/2=m:=⟨_,rfl⟩
     obtain⟨d,hd⟩:∃d:Nat,j%2=d:=⟨_,rfl⟩
     have j1:(j:Int)<8:=by omega
     have m1:1+(j:Int)/2=(m:Int):=by omega
     have m2:(m:Int)<21:=by omega
     have m3:(0:Int)<=(m:Int):=by omega
     have d1:(j:Int)%2=(d:Int):=by omega
     have d2:d<2:=by omega
     obtain⟨s,hs⟩:∃s,ts[m]'(by have:=HN.o;omega)=s:=⟨_,rfl⟩
     have zs:s.size<=60:=by rw[←hs];exact HZ.o m (by have:=HN.o;omega)
     have q0:=hD.arg.c0;have q1:wr.cell? ⟨g,off+m,none⟩=some (.string s):=by rw[←hs];exact HC.o _ hD.bel m (by have:=HN.o;omega)
     have HDR:=hide hD;have HIS:=hide (And.intro li hi);clear hm hd hs hD li hi HJ;go_wp2_with fail
     refine(za6 0 _).mono ?_;rintro e w7 ⟨p,rfl,O7,B7⟩;obtain⟨s1,t1,rfl⟩:=O7.form2;rw[show zam 0=0 from rfl];have HO7:=hide O7;have HB7:=hide B7;clear O7 B7 q0 q1;go_upto_if 71 with fail
     have HB8:Hid (∀W,Below (w7.alloc (.cells #[.int .i64 0,.int .i64 0,.slice s1 2 t1] 59)).1.size (w7.alloc (.cells #[.int .i64 0,.int .i64 0,.slice s1 2 t1] 59)) W->AtC W w7.1.size 59 #[.int .i64 0,.int .i64 0,.slice s1 2 t1]/\Below wr.1.size wr W/\w7.1.size<W.1.size/\ROwns W wr.1.size 3 (.slice s1 2 t1) (ic [0,0])):=fun W hW=>by
      have sz:=hW.size;have sz7:=HB7.o.size;simp at sz;exact⟨(AtC.new w7 59 _).over hW,(HB7.o.alloc sz7 _).trans (hW.mono sO),by omega,(HO7.o.alloc _).below hW nR⟩
     have k0:wr.1.size<=w7.1.size:=HB7.o.size;generalize hb8:w7.1.size=b8 at*;generalize hW8:w7.alloc (.cells #[.int .i64 0,.int .i64 0,.slice s1 2 t1] 59)=W8 at*;clear hb8 hW8 HO7 HB7;go_cut [12,13]from 68 to 86 (fun _ _ wx=>∃k l p zs,AtC wx b8 59 #[.int .i64 k,.int .i64 l,p]/\ROwns wx wr.1.size 3 p (ic zs)/\IOk (k,l,zs)/\Below wr.1.size wr wx)
     case first =>
      by_cases h8:s.size=8
      ·have h8i:(s.size:Int)=8:=by omega
       have e0:(0:Int)<=4*(d:Int):=by omega
       have e1:4*(d:Int)<=4*(d:Int)+4:=by omega
       have e2:4*(d:Int)+4<=8:=by omega
       go_wp2_with fail
       obtain⟨tt,htt⟩:∃tt,s.extract (4*d) (4*d+4)=tt:=⟨_,rfl⟩
       have ztt:tt.size<=60:=by rw[←htt,ByteArray.size_extract];omega
       obtain⟨r,k,l,zz,hR,hzl⟩:=rd_ex tt;rw[htt];refine(zim hR _ oM).mono ?_;rintro e w9 ⟨p,rfl,O9,B9⟩;obtain⟨s9,t9,rfl,-⟩:=O9.form;obtain⟨X1,X2,X3,X4⟩:=HB8.o _ B9;have kk:=(HB8.o _ bR).2.2.1;have HRk:=hide hR.ok;have A10:AtC (w9.alloc (.cells #[.int .i64 k,.int .i64 l,.slice s9 (ic zz).length t9] 59)) b8 59 #[.int .i64 0,.int .i64 0,.slice s1 2 t1]:=X1.alloc _;have y0:=X1.c0;have y1:=X1.c1;have y2:=X1.c2;have y3:=X1.frozen 0;have y4:=X1.frozen 1;have y5:=X1.frozen 2;have y6:=X1.lt;have HA:=hide A10;have HA9:=hide X1;have HO9:=hide O9;have HX:=hide X2;have HX4:=hide X4;have HO:=hide (O9.alloc (.cells #[.int .i64 k,.int .i64 l,.slice s9 (ic zz).length t9] 59));have B9s:=B9.size;clear hR X1 X2 X4 O9 B9 A10 htt e0 e1 e2
       cases r with
       | true =>
        go_wp2_with fail
        go_meet
        refine⟨k,l,_,zz,(((HA9.o.set 0 _).set 1 _).set 2 _).alloc _,?_,HRk.o (by trivial),?_⟩
        ·exact((((HO9.o.setCell_other kk _).setCell_other kk _).setCell_other kk _).alloc _).base_le oM
        ·exact(((HX.o.setCell k0 _).setCell k0 _).setCell k0 _).alloc sO _
       | false =>
        go_wp2_with fail
        go_meet
        exact⟨0,0,_,_,HA.o,HX4.o.alloc _,IOk.none,HX.o.alloc oM _⟩
      ·have h8b:((s.size:Int)==8)=false:=by simp;omega
       go_wp2_with fail
       go_meet
       obtain⟨r1,r2,r3,r4⟩:=HB8.o _ bR;exact⟨0,0,_,_,r1,r4,IOk.none,r2⟩
     case rest =>
      obtain⟨k,l,p,zz,A9,O9,I9,B9⟩:=hcut;obtain⟨W9,rfl⟩:∃W9,W9=wc:=⟨wc,rfl⟩
      obtain⟨s9,t9,rfl,-⟩:=O9.form;obtain⟨ti,k1,k2,k3⟩:=HDR.o.appI;obtain⟨gi,ci,rfl,-⟩:=k1.form;have x0:=(HDR.o.below B9).box.c2;have x1:=A9.c0;have x2:=A9.c1;have x3:=A9.c2;have x4:=A9.lt;have x5:=(HDR.o.below B9).box.lt;have B10:Below wr.1.size wr (W9.alloc (.cells #[.int .i64 k,.int .i64 l,.slice s9 (ic zz).length t9] 59)):=B9.alloc B9.size _;have HT:=hide (k1.of_heap (w':=W9.alloc (.cells #[.int .i64 k,.int .i64 l,.slice s9 (ic zz).length t9] 59)) fun q hq=>B10.block q (k1.lt q hq));have HN10:=hide (fun v9 w11=>k3 (W9.alloc (.cells #[.int .i64 k,.int .i64 l,.slice s9 (ic zz).length t9] 59)) w11 v9 (.int .i64 k,.int .i64 l,.slice s9 (ic zz).length t9) (k,l,zz) B10 ⟨rfl,rfl,(O9.alloc _).base_le (Nat.zero_le _)⟩ (fun q hq=>(O9.lt q hq).1));have HA10:=hide (AtC.new W9 59 #[.int .i64 k,.int .i64 l,.slice s9 (ic zz).length t9]);have HTL:Hid (ti.length<=1000000000000):=by have:=HIS.o.1;show ti.length<=_;omega
      have HI9:=hide I9;clear k1 k2 k3 B9 B10 A9 O9 I9;go_wp2_with (at_builtin;refine wpList_step fun K' hK'=>?_;refine zaz _ rfl (.tmp 88) (.tmp 90) 27 rfl 59 Tryz.u27 _ 40 Tryz.i59 rfl dC (.slice gi ti.length ci) ti rfl HT.o W9.1.size (.int .i64 k,.int .i64 l,.slice s9 (ic zz).length t9) rfl ⟨HA10.o.cell 0,HA10.o.cell 1,HA10.o.cell 2⟩ ⟨rfl,rfl,rfl⟩ HTL.o ?_;intro v9 w11 T9 G9 V9;refine hK' _ _ ?_;obtain⟨e9,D9⟩:=HN10.o v9 w11 T9 G9 V9;obtain⟨g9,c9,rfl,-⟩:=T9.form;simp only[List.length_append,List.length_cons,List.length_nil,Nat.zero_add]at D9;have z2:=e9.frozen 2;have z3:w11.cell? ⟨b,2,none⟩=some (.slice gi ti.length ci):=e9.cell 2;have z4:=e9.lt;have H9:=hide D9;clear e9 D9 T9 G9 V9 HN10 HA10 HT HTL hK' K' x0 x1 x2 x3 x4 x5)
      go_roundw
      case rel=>exact⟨j+1,by omega,by go_num,_,is++[(k,l,zz)],by rw[List.length_append,HIS.o.1];rfl,fun q hq=>(List.mem_append.1 hq).elim (HIS.o.2 q) (fun e=>by rw[List.mem_singleton]at e;subst e;exact HI9.o),H9.o⟩
      case measure=>simp[intOf];omega
    ·obtain rfl:j=8:=by omega
     have HDR:=hide hD;have HIS:=hide (And.intro li hi);clear hD li hi HJ;go_wp2_with fail
     go_loopw [14,15,16] (fun i _ _ wr=>∃j:Nat,j<=16/\i=.int .i64 j/\Hid (∃bv bs,bs.length=j/\(∀q∈bs,KOk q)/\Dy w wr #[.slice (some ⟨g,off,none⟩) 21 c0] b (.slice a3 xs.length c3) (.slice a4 ys.length c4) iv bv xs ys is bs)) (fun i _ _ _=>16-(intOf i).toNat)
     case atStart=>exact⟨0,Nat.zero_le _,rfl,_,_,rfl,(fun q hq=>by simp at hq),HDR.o⟩
     case round =>
      clear HDR;obtain⟨j,hj,rfl,HJ⟩:=hrel;obtain⟨bv,bs,lb,hbb,hD⟩:=HJ.o;by_cases hlt:j<16
      ·obtain⟨m,hm⟩:∃m:Nat,5+j=m:=⟨_,rfl⟩
       have j1:(j:Int)<16:=by omega
       have m1:5+(j:Int)=(m:Int):=by omega
       have m2:(m:Int)<21:=by omega
       have m3:(0:Int)<=(m:Int):=by omega
       obtain⟨s,hs⟩:∃s,ts[m]'(by have:=HN.o;omega)=s:=⟨_,rfl⟩
       have zs:s.size<=60:=by rw[←hs];exact HZ.o m (by have:=HN.o;omega)
       have q0:=hD.arg.c0;have q1:wr.cell? ⟨g,off+m,none⟩=some (.string s):=by rw[←hs];exact HC.o _ hD.bel m (by have:=HN.o;omega)
       have HDR:=hide hD;have HBS:=hide (And.intro lb hbb);clear hm hs hD lb hbb HJ;go_wp2_with fail
       refine(zhd s _ oM).mono ?_;rintro e w7 ⟨p,rfl,O7,B7⟩;have HKO:=hide (rK_ok s);obtain⟨dd,hdd⟩:∃dd,rD s=dd:=⟨_,rfl⟩
       obtain⟨zz,hzz⟩:∃zz,rX s=zz:=⟨_,rfl⟩
       obtain⟨tt,htt⟩:∃tt,rT s=tt:=⟨_,rfl⟩
       rw[hzz]at O7;rw[hdd,hzz,htt]at HKO;rw[hdd,htt];obtain⟨s9,t9,rfl,-⟩:=O7.form;obtain⟨ti,k1,k2,k3⟩:=HDR.o.appB;obtain⟨gi,ci,rfl,-⟩:=k1.form;have x0:=(HDR.o.below B7).box.c3;have x5:=(HDR.o.below B7).box.lt;have B10:Below wr.1.size wr ((w7.alloc (.cells #[.bool dd,.slice s9 zz.length t9,.string tt] 95)).alloc (.cells #[.bool dd,.slice s9 zz.length t9,.string tt] 95)):=(B7.alloc B7.size _).alloc (by have:=B7.size;simp;omega) _;have HT:=hide (k1.of_heap (w':=(w7.alloc (.cells #[.bool dd,.slice s9 zz.length t9,.string tt] 95)).alloc (.cells #[.bool dd,.slice s9 zz.length t9,.string tt] 95)) fun q hq=>B10.block q (k1.lt q hq));have HN10:=hide (fun v9 w11=>k3 ((w7.alloc (.cells #[.bool dd,.slice s9 zz.length t9,.string tt] 95)).alloc (.cells #[.bool dd,.slice s9 zz.length t9,.string tt] 95)) w11 v9 (.bool dd,.slice s9 zz.length t9,.string tt) (dd,zz,tt) B10 ⟨rfl,((O7.alloc _).alloc _).base_le (Nat.zero_le _),rfl⟩ (fun q hq=>(O7.lt q hq).1));have A10:=AtC.new (w7.alloc (.cells #[.bool dd,.slice s9 zz.length t9,.string tt] 95)) 95 #[.bool dd,.slice s9 zz.length t9,.string tt];rw[World.size_alloc]at A10;have HA10:=hide A10;clear A10;have HTL:Hid (ti.length<=1000000000000):=by have:=HBS.o.1;show ti.length<=_;omega
       clear k1 k2 k3 B7 B10 O7 q0 q1 hdd hzz htt;go_wp2_with (at_builtin;refine wpList_step fun K' hK'=>?_;refine zaz _ rfl (.tmp 108) (.tmp 110) 28 rfl 95 Tryz.u28 _ 48 Tryz.i95 rfl dC (.slice gi ti.length ci) ti rfl HT.o (w7.1.size+1) (.bool dd,.slice s9 zz.length t9,.string tt) rfl ⟨HA10.o.cell 0,HA10.o.cell 1,HA10.o.cell 2⟩ ⟨rfl,rfl,rfl⟩ HTL.o ?_;(intro v9 w11 T9 G9 V9;refine hK' _ _ ?_;obtain⟨e9,D9⟩:=HN10.o v9 w11 T9 G9 V9;obtain⟨g9,c9,rfl,-⟩:=T9.form;simp only[List.length_append,List.length_cons,List.length_nil,Nat.zero_add]at D9;have z2:=e9.frozen 3;have z3:w11.cell? ⟨b,3,none⟩=some (.slice gi ti.length ci):=e9.cell 3;have z4:=e9.lt;have H9:=hide D9;clear e9 D9 T9 G9 V9 HN10 HA10 HT HTL hK' K' x0 x5))
       go_roundw
       case rel=>exact⟨_,_,_,_,_,_,_,_,_,_,_,_,_,_,_,_,_,_,_,_,_,_,_,⟨j+1,by omega,by go_num,_,bs++[(dd,zz,tt)],by rw[List.length_append,HBS.o.1];rfl,fun q hq=>(List.mem_append.1 hq).elim (HBS.o.2 q) (fun e=>by rw[List.mem_singleton]at e;subst e;exact HKO.o),H9.o⟩,rfl⟩
       case measure=>simp[intOf];omega
      ·obtain rfl:j=16:=by omega
       obtain⟨ti,k1,-,-⟩:=hD.appI;obtain⟨gi,ci,rfl,-⟩:=k1.form;obtain⟨tb,k2,-,-⟩:=hD.appB;obtain⟨gb,cb,rfl,-⟩:=k2.form;obtain⟨y0,y1,y2,y3⟩:=AtC.four hD.box;obtain⟨r0,r1,r2,r3⟩:=AtC.four hD.res;have v0:=hD.res.frozen 0;have v1:=hD.res.frozen 1;have v2:=hD.res.frozen 2;have v3:=hD.res.frozen 3;have l0:=hD.box.lt;have l1:=hD.res.lt;have HDE:=hide hD;have HBE:=hide (And.intro lb hbb);clear hD HJ lb hbb k1 k2;go_wp2;refine bodyPost_ret (v:=.tuple #[.agg #[.slice a3 xs.length c3,.slice a4 ys.length c4,.slice gi ti.length ci,.slice gb tb.length cb],.bool true]) sR4 rfl ⟨true,_,_,_,_,xs,ys,is,bs,rfl,?_,fun _=>⟨HL.o.1,HL.o.2,HIS.o.1,HIS.o.2,HBE.o.1,HBE.o.2⟩,?_⟩
       ·exact(HDE.o.dsk.of_heap fun k hk _=>((((heap_setCell_other _ ⟨w.1.size+1,3,none⟩ k _ oA).trans (heap_setCell_other _ ⟨w.1.size+1,2,none⟩ k _ oA)).trans (heap_setCell_other _ ⟨w.1.size+1,1,none⟩ k _ oA)).trans (heap_setCell_other _ ⟨w.1.size+1,0,none⟩ k _ oA))).mono fun k hk=>by omega
       ·exact(((HDE.o.bel.setCell oE _).setCell oE _).setCell oE _).setCell oE _
end Go.Proofs.YtgnplpmgkegcnaaGreat
