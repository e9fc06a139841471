/- Texts of the proof, bundled. -/
import Derived.Deep.RegionHeld3
import Derived.Deep.RegionWith
import Derived.Deep.DeepCutAuto
import Derived.Deep.CutRange
import Derived.BigQuiet
import Derived.BigRegion
import Derived.Test.YtmbimpmebfoglaaGreatU01
import Derived.Test.YtmbimpmebfoglaaGreatU03
import Derived.Test.YtmbimpmebfoglaaGreatU02
set_option maxRecDepth 100000
set_option maxHeartbeats 12800000
namespace Go.Proofs.YtmbimpmebfoglaaGreat
open Go.RowKit Kit
theorem zjl {w:World}{g j:Nat}{x:Value}(h:w.cell? ⟨g,j,none⟩=some x):g < w.heap.size:=by
 exact cQ100
def CallR (B:Nat) (w':World) (e:Ending):Prop:=∃ (u v i b d p:Value) (m':MD) (c:Int),e=.returned (.tuple #[.agg #[u,v,i,b,d,p,.int .i64 m'.nx],.int .i64 c])/\MO w' (fun k=>B<=k) u v i b d p m'/\Sh Z0 m'
theorem ze7 (u v iv bv dv pv:Value)(m:MD)(p:ByteArray)(k:Int)(s:ByteArray)(w:World)(h:MR w u v iv bv dv pv m)(hm:Sh Z0 m)(hp:p.size<=1048576)(hs:s.size<=1048576) :
  Calls Tryz.prog 63 #[.agg #[u,v,iv,bv,dv,pv,.int .i64 m.nx],.string p,.int .i64 k,.string s] w fun e w'=>CallR w.heap.size w' e/\Below w.heap.size w w':=by
 obtain ⟨a1,c1,a2,c2,a3,c3,a4,c4,a5,c5,a6,c6,rfl,rfl,rfl,rfl,rfl,rfl⟩:=h.form;obtain ⟨qa,qc,qe,-,qh⟩:=h.d.i;simp only [Value.slice.injEq,true_and] at qe;obtain ⟨rfl,rfl⟩:=qe;obtain ⟨g2,o2,⟨q0,q1,q2⟩,rfl,-⟩:=qh 0 (by rw [hm.i];decide);have HIN:Hid (∀ (W:World) (j:Nat) (hj:j < m.is.length),Below w.heap.size w W->∃ ta tc,W.cell? ⟨g2,o2+j * 3,none⟩=some (.int .i64 m.is[j].1)/\W.cell? ⟨g2,o2+j * 3+1,none⟩=some (.int .i64 m.is[j].2.1)/\W.cell? ⟨g2,o2+j * 3+2,none⟩=some (.slice ta m.is[j].2.2.length tc)/\RInts W (.slice ta m.is[j].2.2.length tc) m.is[j].2.2):=fun W j hj hb=>by
  exact cQ17
 clear qh q0 q1 q2;obtain ⟨W0,hW0⟩:∃ W0,((w.alloc (.cells #[.slice a1 m.xs.length c1,.slice a2 m.ys.length c2,.slice (some ⟨g2,o2,none⟩) m.is.length c3,.slice a4 m.bs.length c4,.slice a5 m.fs.length c5,.slice a6 m.ds.length c6,.int .i64 m.nx] 33)).alloc (.cells #[.slice none 0 0,.slice none 0 0,.slice none 0 0,.slice none 0 0,.slice none 0 0,.slice none 0 0,.int .i64 0] 33))=W0:=⟨_,rfl⟩
 have HB0:Hid (Below w.heap.size w W0/\W0.heap.size=w.heap.size+1+1/\AtC W0 w.heap.size 33 #[.slice a1 m.xs.length c1,.slice a2 m.ys.length c2,.slice (some ⟨g2,o2,none⟩) m.is.length c3,.slice a4 m.bs.length c4,.slice a5 m.fs.length c5,.slice a6 m.ds.length c6,.int .i64 m.nx]/\AtC W0 (w.heap.size+1) 33 #[.slice none 0 0,.slice none 0 0,.slice none 0 0,.slice none 0 0,.slice none 0 0,.slice none 0 0,.int .i64 0]):=by
  exact cQ15
 have HH:=hide h;have HM:=hide hm;obtain ⟨x0,x1,x2,x3,x4,x5,x6⟩:=AtC.sev HB0.out.2.2.1;have HM0:Hid (MR W0 (.slice a1 m.xs.length c1) (.slice a2 m.ys.length c2) (.slice (some ⟨g2,o2,none⟩) m.is.length c3) (.slice a4 m.bs.length c4) (.slice a5 m.fs.length c5) (.slice a6 m.ds.length c6) m):=HH.out.below HB0.out.1 nR;clear h hm;go_enter Tryz.func63,Tryz.ntmps63
 go_wp2_with fail
 refine (zau _ _ _ _ _ _ m W0 HM0.out HM.out.big).mono ?_;rintro e w1 ⟨u1,u2,u3,u4,u5,u6,rfl,O1,B1⟩;obtain ⟨s1,t1,s2,t2,s3,t3,s4,t4,s5,t5,s6,t6,rfl,rfl,rfl,rfl,rfl,rfl⟩:=O1.mr.form;obtain ⟨W2,hW2⟩:∃ W2,w1.alloc (.cells #[.slice s1 m.xs.length t1,.slice s2 m.ys.length t2,.slice s3 m.is.length t3,.slice s4 m.bs.length t4,.slice s5 m.fs.length t5,.slice s6 m.ds.length t6,.int .i64 m.nx] 33)=W2:=⟨_,rfl⟩
 obtain ⟨b2,hb2⟩:∃ b2,w1.heap.size=b2:=⟨_,rfl⟩
 have HC:Hid (∀ W,Below W2.heap.size W2 W->AtC W w.heap.size 33 #[.slice a1 m.xs.length c1,.slice a2 m.ys.length c2,.slice (some ⟨g2,o2,none⟩) m.is.length c3,.slice a4 m.bs.length c4,.slice a5 m.fs.length c5,.slice a6 m.ds.length c6,.int .i64 m.nx]/\AtC W (w.heap.size+1) 33 #[.slice none 0 0,.slice none 0 0,.slice none 0 0,.slice none 0 0,.slice none 0 0,.slice none 0 0,.int .i64 0]/\AtC W b2 33 #[.slice s1 m.xs.length t1,.slice s2 m.ys.length t2,.slice s3 m.is.length t3,.slice s4 m.bs.length t4,.slice s5 m.fs.length t5,.slice s6 m.ds.length t6,.int .i64 m.nx]/\MO W (fun k=>w.heap.size+1+1<=k/\k < b2) (.slice s1 m.xs.length t1) (.slice s2 m.ys.length t2) (.slice s3 m.is.length t3) (.slice s4 m.bs.length t4) (.slice s5 m.fs.length t5) (.slice s6 m.ds.length t6) m/\Below w.heap.size w W/\w.heap.size+1+1<=b2/\b2 < W.heap.size):=fun W b=>by
  exact cQ14
 have HB2:Hid (Below W2.heap.size W2 W2):=Below.refl _ _;clear O1 B1 HM0 x0 x1 x2 x3 x4 x5 x6 hW0 HB0;have hb:∀ (W:World),Below W2.heap.size W2 W->True:=fun _ _=>trivial;clear hb;go_wp2_with fail
 refine (zcw p W2 hp).mono ?_;rintro e w3 ⟨⟨lv,l,q1,rfl,L3,-,-⟩,B3⟩;have HB3:Hid (Below W2.heap.size W2 w3):=B3;obtain ⟨la,lc,rfl,-⟩:=L3.form;clear B3 L3 hW2 hb2;obtain ⟨x0,x1,x2,x3,x4,x5,x6⟩:=AtC.sev ((HC.out w3 HB3.out).1);have HM3:Hid (MR w3 (.slice a1 m.xs.length c1) (.slice a2 m.ys.length c2) (.slice (some ⟨g2,o2,none⟩) m.is.length c3) (.slice a4 m.bs.length c4) (.slice a5 m.fs.length c5) (.slice a6 m.ds.length c6) m):=HH.out.below (HC.out w3 HB3.out).2.2.2.2.1 nR;go_wp2_with fail
 refine (zbo _ _ _ _ _ _ m w3 HM3.out HM.out).mono ?_;rintro e w4 ⟨⟨q2,rfl⟩,B4⟩;have HB4:Hid (Below W2.heap.size W2 w4):=HB3.out.trans (B4.mono HB3.out.size);clear B4 HM3 HB3 x0 x1 x2 x3 x4 x5 x6
 cases q2 with
 | false =>
  exact cQ2
 | true =>
 cases q1 with
 | false =>
  exact cQ2
 | true =>
 cases hk:inB k 0 1 with
 | false =>
  have HK:=hide hk;clear hk;obtain ⟨y0,y1,y2,y3,y4,y5,y6⟩:=AtC.sev ((HC.out w4 HB4.out).2.2.1);obtain ⟨r0,r1,r2,r3,r4,r5,r6⟩:=AtC.sev ((HC.out w4 HB4.out).2.1);have v0:=(HC.out w4 HB4.out).2.1.frozen 0;have v1:=(HC.out w4 HB4.out).2.1.frozen 1;have v2:=(HC.out w4 HB4.out).2.1.frozen 2;have v3:=(HC.out w4 HB4.out).2.1.frozen 3;have v4:=(HC.out w4 HB4.out).2.1.frozen 4;have v5:=(HC.out w4 HB4.out).2.1.frozen 5;have v6:=(HC.out w4 HB4.out).2.1.frozen 6;have HFF:=hide (HC.out w4 HB4.out);go_wp2_with (go_at_call 20;refine (zaj k 0 1 _).mono ?_;rintro e w9 ⟨rfl,hw9⟩;subst w9;rw [HK.out])
  refine bodyPost_ret (v:=.tuple #[.agg #[.slice s1 m.xs.length t1,.slice s2 m.ys.length t2,.slice s3 m.is.length t3,.slice s4 m.bs.length t4,.slice s5 m.fs.length t5,.slice s6 m.ds.length t6,.int .i64 m.nx],.int .i64 6]) (by simp [results,go_sem,r0,r1,r2,r3,r4,r5,r6]) rfl ⟨⟨_,_,_,_,_,_,m,_,rfl,(HFF.out.2.2.2.1.of_heap fun k hk _=>zaa _ _ _ _ _ _ _ _ _ k (by have:w.heap.size+1+1<=k/\k < b2:=hk;omega)).mono (fun k hk=>by have:w.heap.size+1+1<=k/\k < b2:=hk;omega),HM.out⟩,zab HFF.out.2.2.2.2.1 (by omega) _ _ _ _ _ _ _⟩
 | true =>
 have HK:=hide hk;obtain ⟨hk0,hk1⟩:=zao hk;clear hk;by_cases hs16:16 < s.size
 ·have hs1:(16:Int) < (s.size:Int):=by omega
  obtain ⟨y0,y1,y2,y3,y4,y5,y6⟩:=AtC.sev ((HC.out w4 HB4.out).2.2.1);obtain ⟨r0,r1,r2,r3,r4,r5,r6⟩:=AtC.sev ((HC.out w4 HB4.out).2.1);have v0:=(HC.out w4 HB4.out).2.1.frozen 0;have v1:=(HC.out w4 HB4.out).2.1.frozen 1;have v2:=(HC.out w4 HB4.out).2.1.frozen 2;have v3:=(HC.out w4 HB4.out).2.1.frozen 3;have v4:=(HC.out w4 HB4.out).2.1.frozen 4;have v5:=(HC.out w4 HB4.out).2.1.frozen 5;have v6:=(HC.out w4 HB4.out).2.1.frozen 6;have HFF:=hide (HC.out w4 HB4.out);go_wp2_with (go_at_call 20;refine (zaj k 0 1 _).mono ?_;rintro e w9 ⟨rfl,hw9⟩;subst w9;rw [HK.out])
  refine bodyPost_ret (v:=.tuple #[.agg #[.slice s1 m.xs.length t1,.slice s2 m.ys.length t2,.slice s3 m.is.length t3,.slice s4 m.bs.length t4,.slice s5 m.fs.length t5,.slice s6 m.ds.length t6,.int .i64 m.nx],.int .i64 6]) (by simp [results,go_sem,r0,r1,r2,r3,r4,r5,r6]) rfl ⟨⟨_,_,_,_,_,_,m,_,rfl,(HFF.out.2.2.2.1.of_heap fun k hk _=>zaa _ _ _ _ _ _ _ _ _ k (by have:w.heap.size+1+1<=k/\k < b2:=hk;omega)).mono (fun k hk=>by have:w.heap.size+1+1<=k/\k < b2:=hk;omega),HM.out⟩,zab HFF.out.2.2.2.2.1 (by omega) _ _ _ _ _ _ _⟩
 have hs1:¬ (16:Int) < (s.size:Int):=by omega
 obtain ⟨x0,x1,x2,x3,x4,x5,x6⟩:=AtC.sev ((HC.out w4 HB4.out).1);have HD4:Hid (DR w4 (.slice a1 m.xs.length c1) (.slice a2 m.ys.length c2) (.slice (some ⟨g2,o2,none⟩) m.is.length c3) (.slice a4 m.bs.length c4) m.xs m.ys m.is m.bs):=(HH.out.below (HC.out w4 HB4.out).2.2.2.2.1 nR).d;go_wp2_with (go_at_call 20;refine (zaj k 0 1 _).mono ?_;rintro e w9 ⟨rfl,hw9⟩;subst w9;rw [HK.out])
 refine (zbx _ _ _ _ m.xs m.ys m.is m.bs p w4 HD4.out HM.out.big.d HM.out.i hp).mono ?_;rintro e w5 ⟨⟨i,rfl,hi0,hi8⟩,B5⟩;have HB5:Hid (Below W2.heap.size W2 w5):=HB4.out.trans (B5.mono HB4.out.size);clear B5 HD4 HB4 x0 x1 x2 x3 x4 x5 x6;by_cases hiz:i=0
 ·subst hiz;obtain ⟨y0,y1,y2,y3,y4,y5,y6⟩:=AtC.sev ((HC.out w5 HB5.out).2.2.1);obtain ⟨r0,r1,r2,r3,r4,r5,r6⟩:=AtC.sev ((HC.out w5 HB5.out).2.1);have v0:=(HC.out w5 HB5.out).2.1.frozen 0;have v1:=(HC.out w5 HB5.out).2.1.frozen 1;have v2:=(HC.out w5 HB5.out).2.1.frozen 2;have v3:=(HC.out w5 HB5.out).2.1.frozen 3;have v4:=(HC.out w5 HB5.out).2.1.frozen 4;have v5:=(HC.out w5 HB5.out).2.1.frozen 5;have v6:=(HC.out w5 HB5.out).2.1.frozen 6;have HFF:=hide (HC.out w5 HB5.out);go_wp2;refine bodyPost_ret (v:=.tuple #[.agg #[.slice s1 m.xs.length t1,.slice s2 m.ys.length t2,.slice s3 m.is.length t3,.slice s4 m.bs.length t4,.slice s5 m.fs.length t5,.slice s6 m.ds.length t6,.int .i64 m.nx],.int .i64 1]) (by simp [results,go_sem,r0,r1,r2,r3,r4,r5,r6]) rfl ⟨⟨_,_,_,_,_,_,m,_,rfl,(HFF.out.2.2.2.1.of_heap fun k hk _=>zaa _ _ _ _ _ _ _ _ _ k (by have:w.heap.size+1+1<=k/\k < b2:=hk;omega)).mono (fun k hk=>by have:w.heap.size+1+1<=k/\k < b2:=hk;omega),HM.out⟩,zab HFF.out.2.2.2.2.1 (by omega) _ _ _ _ _ _ _⟩
 have hib:(i == 0)=false:=beq_eq_false_iff_ne.mpr hiz;obtain ⟨j,rfl⟩:∃ j:Nat,i=(j:Int)+1:=⟨(i - 1).toNat,by omega⟩
 have hj8:j < 8:=by omega
 have hj:j < m.is.length:=by rw [HM.out.i];exact hj8
 have hwj:IntKind.i64.wrap (j:Int)=(j:Int):=wrap_small _ (by omega) (by omega);have j0:(0:Int)<=(j:Int):=by omega
 have j1:(j:Int) < (m.is.length:Int):=by omega
 obtain ⟨pa,pc,i0,i1,i2,ri⟩:=HIN.out w5 j hj (HC.out w5 HB5.out).2.2.2.2.1;have hix:=HM.out.ii _ (List.getElem_mem hj);obtain ⟨⟨kd,ln,ps⟩,hX⟩:∃ X,m.is[j]=X:=⟨_,rfl⟩
 rw [hX] at i0 i1 i2 ri hix;simp only at i0 i1 i2 ri;have HIX:=hide hix;have HXX:=hide hX;have HRI:=hide ri;have hkn:∃ kn:Nat,k=(kn:Int)/\kn < 2:=⟨k.toNat,by omega,by omega⟩
 obtain ⟨kn,rfl,hkn2⟩:=hkn;have hpl:ps.length=2:=HIX.out.n;clear hix hX ri;obtain ⟨x0,x1,x2,x3,x4,x5,x6⟩:=AtC.sev ((HC.out w5 HB5.out).1);by_cases hkd:kd=1
 rotate_left
 ·have hkb:(kd != 1)=true:=by simp [hkd]
  obtain ⟨y0,y1,y2,y3,y4,y5,y6⟩:=AtC.sev ((HC.out w5 HB5.out).2.2.1);obtain ⟨r0,r1,r2,r3,r4,r5,r6⟩:=AtC.sev ((HC.out w5 HB5.out).2.1);have v0:=(HC.out w5 HB5.out).2.1.frozen 0;have v1:=(HC.out w5 HB5.out).2.1.frozen 1;have v2:=(HC.out w5 HB5.out).2.1.frozen 2;have v3:=(HC.out w5 HB5.out).2.1.frozen 3;have v4:=(HC.out w5 HB5.out).2.1.frozen 4;have v5:=(HC.out w5 HB5.out).2.1.frozen 5;have v6:=(HC.out w5 HB5.out).2.1.frozen 6;have HFF:=hide (HC.out w5 HB5.out);go_wp2;refine bodyPost_ret (v:=.tuple #[.agg #[.slice s1 m.xs.length t1,.slice s2 m.ys.length t2,.slice s3 m.is.length t3,.slice s4 m.bs.length t4,.slice s5 m.fs.length t5,.slice s6 m.ds.length t6,.int .i64 m.nx],.int .i64 3]) (by simp [results,go_sem,r0,r1,r2,r3,r4,r5,r6]) rfl ⟨⟨_,_,_,_,_,_,m,_,rfl,(HFF.out.2.2.2.1.of_heap fun k hk _=>zaa _ _ _ _ _ _ _ _ _ k (by have:w.heap.size+1+1<=k/\k < b2:=hk;omega)).mono (fun k hk=>by have:w.heap.size+1+1<=k/\k < b2:=hk;omega),HM.out⟩,zab HFF.out.2.2.2.2.1 (by omega) _ _ _ _ _ _ _⟩
 subst hkd;have HM5:Hid (MR w5 (.slice a1 m.xs.length c1) (.slice a2 m.ys.length c2) (.slice (some ⟨g2,o2,none⟩) m.is.length c3) (.slice a4 m.bs.length c4) (.slice a5 m.fs.length c5) (.slice a6 m.ds.length c6) m):=HH.out.below (HC.out w5 HB5.out).2.2.2.2.1 nR;go_wp2_with fail
 refine (zau _ _ _ _ _ _ m w5 HM5.out HM.out.big).mono ?_;rintro e w6 ⟨u1,u2,u3,u4,u5,u6,rfl,O6,B6⟩;obtain ⟨n1,o1,n2,o2',n3,o3,n4,o4,n5,o5,n6,o6,rfl,rfl,rfl,rfl,rfl,rfl⟩:=O6.mr.form;obtain ⟨W7,hW7⟩:∃ W7,w6.alloc (.cells #[.slice n1 m.xs.length o1,.slice n2 m.ys.length o2',.slice n3 m.is.length o3,.slice n4 m.bs.length o4,.slice n5 m.fs.length o5,.slice n6 m.ds.length o6,.int .i64 m.nx] 33)=W7:=⟨_,rfl⟩
 obtain ⟨bo,hbo⟩:∃ bo,w6.heap.size=bo:=⟨_,rfl⟩
 have HP7:Hid (PM W7 (fun k=>w5.heap.size<=k/\k < bo) bo (.slice n1 m.xs.length o1) (.slice n2 m.ys.length o2') (.slice n3 m.is.length o3) (.slice n4 m.bs.length o4) (.slice n5 m.fs.length o5) (.slice n6 m.ds.length o6) m/\Below w5.heap.size w5 W7/\w5.heap.size<=bo/\bo < W7.heap.size):=by
  rw [← hW7];have z6:=B6.size;refine ⟨⟨?_,(O6.bound.below ((Below.refl _ w6).alloc nR _) nR).mono (fun k hk=>by have:w5.heap.size<=k/\k < w6.heap.size:=hk;omega),by omega⟩,B6.alloc z6 _,by omega,by simp;omega⟩;rw [← hbo];exact AtC.new w6 33 _
 have HB7:Hid (Below W2.heap.size W2 W7):=HB5.out.trans (HP7.out.2.1.mono HB5.out.size);have b7:=HP7.out.2.1;have g2l:g2 < w5.heap.size:=zjl i2;have y2:W7.cell? ⟨g2,o2+j * 3+2,none⟩=some (.slice pa ps.length pc):=(b7.cell (p:=⟨g2,o2+j * 3+2,none⟩) g2l).trans i2;obtain ⟨pa',pc',ep,hpp⟩:=HRI.out.below b7 nR;simp only [Value.slice.injEq,true_and] at ep;obtain ⟨rfl,rfl⟩:=ep;obtain ⟨gp,op,rfl,-,kp⟩:=hpp kn (by omega);have hpr:=HIX.out.p _ (List.getElem_mem (show kn < ps.length by omega));obtain ⟨bp,hbp⟩:∃ bp,ps[kn]'(by omega)=bp:=⟨_,rfl⟩
 rw [hbp] at kp hpr;have HBP:=hide hbp;have kn0:(0:Int)<=(kn:Int):=by omega
 have kn1:(kn:Int) < (ps.length:Int):=by omega
 clear O6 B6 b7 hpp hbp i0 i1 i2 x0 x1 x2 x3 x4 x5 x6 HM5;obtain ⟨x0,x1,x2,x3,x4,x5,x6⟩:=AtC.sev ((HC.out W7 HB7.out).1);go_upto_if 74 with fail
 go_cut [15] from 16 to 110 (fun c wx=>∃ (pn:Nat) (S:Nat->Prop) (u v iv bv dv pv:Value) (m':MD),c=.int .i64 ((pn:Int)+1)/\pn < 16/\PM wx S bo u v iv bv dv pv m'/\(∀ k,S k->w5.heap.size<=k)/\Sh Z0 m'/\Below w5.heap.size w5 wx)
 case first =>
  by_cases hb0:bp=0
  rotate_left
  ·obtain ⟨pn,rfl⟩:∃ pn:Nat,bp=(pn:Int)+1:=⟨(bp - 1).toNat,by omega⟩
   have hbb:(((pn:Int)+1) == 0)=false:=beq_eq_false_iff_ne.mpr (by omega);go_wp2_with fail
   go_meet
   exact ⟨pn,_,_,_,_,_,_,_,m,rfl,by omega,HP7.out.1,fun k hk=>hk.1,HM.out,HP7.out.2.1⟩
  subst hb0;have HM7:Hid (MR W7 (.slice a1 m.xs.length c1) (.slice a2 m.ys.length c2) (.slice (some ⟨g2,o2,none⟩) m.is.length c3) (.slice a4 m.bs.length c4) (.slice a5 m.fs.length c5) (.slice a6 m.ds.length c6) m):=HH.out.below (HC.out W7 HB7.out).2.2.2.2.1 nR;by_cases hf:ff m.xs=0
  ·have CT:Hid (Calls Tryz.prog 99 #[.agg #[.slice a1 m.xs.length c1,.slice a2 m.ys.length c2,.slice (some ⟨g2,o2,none⟩) m.is.length c3,.slice a4 m.bs.length c4,.slice a5 m.fs.length c5,.slice a6 m.ds.length c6,.int .i64 m.nx]] W7 fun e w'=>∃ (z1:Option Addr) (l1 y1:Nat) (z2:Option Addr) (l2 y2:Nat) (z3:Option Addr) (l3 y3:Nat) (z4:Option Addr) (l4 y4:Nat) (z5:Option Addr) (l5 y5:Nat) (z6:Option Addr) (l6 y6:Nat),e=.returned (.tuple #[.agg #[.slice z1 l1 y1,.slice z2 l2 y2,.slice z3 l3 y3,.slice z4 l4 y4,.slice z5 l5 y5,.slice z6 l6 y6,.int .i64 m.nx],.int .i64 0])/\Below W7.heap.size W7 w'):=by
    refine (zce _ _ _ _ _ _ m W7 HM7.out HM.out.big).mono ?_;rintro e w' ⟨v1,v2,v3,v4,v5,v6,rfl,O8,B8⟩;obtain ⟨z1,y1,z2,y2,z3,y3,z4,y4,z5,y5,z6,y6,rfl,rfl,rfl,rfl,rfl,rfl⟩:=O8.mr.form;rw [hf];exact ⟨z1,_,y1,z2,_,y2,z3,_,y3,z4,_,y4,z5,_,y5,z6,_,y6,rfl,B8⟩
   exact cQ13
  ·obtain ⟨p1,p2⟩:=zf2 m.xs hf;obtain ⟨qn,hqn⟩:∃ qn:Nat,ff m.xs=qn+1:=⟨ff m.xs - 1,by omega⟩
   have hq16:qn < 16:=by have:=HM.out.x;omega
   have hz:((ff m.xs:Nat):Int)=(qn:Int)+1:=by omega
   have CT:Hid (Calls Tryz.prog 99 #[.agg #[.slice a1 m.xs.length c1,.slice a2 m.ys.length c2,.slice (some ⟨g2,o2,none⟩) m.is.length c3,.slice a4 m.bs.length c4,.slice a5 m.fs.length c5,.slice a6 m.ds.length c6,.int .i64 m.nx]] W7 fun e w'=>∃ (z1:Option Addr) (y1:Nat) (z2:Option Addr) (y2:Nat) (z3:Option Addr) (y3:Nat) (z4:Option Addr) (y4:Nat) (z5:Option Addr) (y5:Nat) (z6:Option Addr) (y6:Nat),e=.returned (.tuple #[.agg #[.slice z1 m.xs.length y1,.slice z2 m.ys.length y2,.slice z3 m.is.length y3,.slice z4 m.bs.length y4,.slice z5 m.fs.length y5,.slice z6 m.ds.length y6,.int .i64 m.nx],.int .i64 ((qn:Int)+1)])/\MO w' (fun k=>W7.heap.size<=k) (.slice z1 m.xs.length y1) (.slice z2 m.ys.length y2) (.slice z3 m.is.length y3) (.slice z4 m.bs.length y4) (.slice z5 m.fs.length y5) (.slice z6 m.ds.length y6) ({ m with xs:=m.xs.set (ff m.xs - 1) true,fs:=m.fs.set 0 true }:MD)/\Below W7.heap.size W7 w'):=by
    refine (zce _ _ _ _ _ _ m W7 HM7.out HM.out.big).mono ?_;rintro e w' ⟨v1,v2,v3,v4,v5,v6,rfl,O8,B8⟩;rw [zf3 hf] at O8;obtain ⟨z1,y1,z2,y2,z3,y3,z4,y4,z5,y5,z6,y6,e1,rfl,rfl,rfl,e5,rfl⟩:=O8.mr.form;have e1':v1=.slice z1 m.xs.length y1:=e1.trans (by rw [show ({ m with xs:=m.xs.set (ff m.xs - 1) true,fs:=m.fs.set 0 true }:MD).xs.length=m.xs.length from List.length_set ..]);have e5':v5=.slice z5 m.fs.length y5:=e5.trans (by rw [show ({ m with xs:=m.xs.set (ff m.xs - 1) true,fs:=m.fs.set 0 true }:MD).fs.length=m.fs.length from List.length_set ..]);clear e1 e5;subst e1' e5';rw [hz];exact ⟨z1,y1,z2,y2,z3,y3,z4,y4,z5,y5,z6,y6,rfl,O8,B8⟩
   have HSH:Hid (Sh Z0 { m with xs:=m.xs.set (ff m.xs - 1) true,fs:=m.fs.set 0 true,is:=m.is.set j (m.is[j].1,m.is[j].2.1,m.is[j].2.2.set kn ((qn:Int)+1)) }):=by
    rw [← hz];have e0:=HXX.out;exact zjk HM.out hf j kn hj (by simp only [e0];omega) (by simp only [e0];exact HBP.out)
   go_wp2_with fail
   refine CT.out.mono ?_;rintro e w8 ⟨z1,y1,z2,y2',z3,y3,z4,y4,z5,y5,z6,y6,rfl,O8,B8⟩;obtain ⟨W9,hW9⟩:∃ W9,w8.alloc (.cells #[.slice z1 m.xs.length y1,.slice z2 m.ys.length y2',.slice z3 m.is.length y3,.slice z4 m.bs.length y4,.slice z5 m.fs.length y5,.slice z6 m.ds.length y6,.int .i64 m.nx] 33)=W9:=⟨_,rfl⟩
   obtain ⟨bn,hbn⟩:∃ bn,w8.heap.size=bn:=⟨_,rfl⟩
   have HP9:Hid (PM W9 (fun k=>W7.heap.size<=k/\k < bn) bn (.slice z1 m.xs.length y1) (.slice z2 m.ys.length y2') (.slice z3 m.is.length y3) (.slice z4 m.bs.length y4) (.slice z5 m.fs.length y5) (.slice z6 m.ds.length y6) ({ m with xs:=m.xs.set (ff m.xs - 1) true,fs:=m.fs.set 0 true }:MD)/\Below W7.heap.size W7 W9/\W7.heap.size<=bn):=by
    rw [← hW9];have z8:=B8.size;refine ⟨⟨?_,(O8.bound.below ((Below.refl _ w8).alloc nR _) nR).mono (fun k hk=>by have:W7.heap.size<=k/\k < w8.heap.size:=hk;omega),by omega⟩,B8.alloc z8 _,by omega⟩;rw [← hbn];exact AtC.new w8 33 _
   have HB9:Hid (Below W2.heap.size W2 W9):=HB7.out.trans (HP9.out.2.1.mono HB7.out.size);have HPO:Hid (PM W9 (fun k=>w5.heap.size<=k/\k < bo) bo (.slice n1 m.xs.length o1) (.slice n2 m.ys.length o2') (.slice n3 m.is.length o3) (.slice n4 m.bs.length o4) (.slice n5 m.fs.length o5) (.slice n6 m.ds.length o6) m):=HP7.out.1.below HP9.out.2.1;have hqb:(((qn:Int)+1) == 0)=false:=beq_eq_false_iff_ne.mpr (by omega);clear O8 B8 CT p1 p2;go_wp2_with fail
   refine (zcy _ bo _ _ _ _ _ _ m W9 HPO.out).mono ?_;rintro e w9' ⟨⟨rr,rfl⟩,hw9⟩;rw [hw9];clear hw9 w9' hW9 hbn
   cases rr with
   | false =>
    exact cQ22
   | true =>
   have hbW:bo < W7.heap.size:=HP7.out.2.2.2;obtain ⟨gi,ci,gs,cs,ei,k0,k2,kt,kf,kS,kl,hput⟩:=HP9.out.1.ptrAt j hj kn (by have e0:=HXX.out;simp only [e0];omega);simp only [Value.slice.injEq,true_and] at ei;obtain ⟨rfl,rfl⟩:=ei;have hps:m.is[j].2.2.length=ps.length:=by have e0:=HXX.out;simp only [e0]
   have k2':W9.cell? ⟨gi,j * 3+2,none⟩=some (.slice (some ⟨gs,0,none⟩) ps.length cs):=by rw [← hps];exact k2
   obtain ⟨zv,kt'⟩:∃ zv,W9.cell? ⟨gs,kn,none⟩=some zv:=⟨_,kt⟩
   have xn2:=HP9.out.1.box.c2;obtain ⟨W10,hW10⟩:∃ W10,W9.setCell ⟨gs,kn,none⟩ (.int .i64 ((qn:Int)+1))=W10:=⟨_,rfl⟩
   have HBX:Hid (BT Z0 W10 (fun k=>W7.heap.size<=k) bn/\Below W7.heap.size W7 W10/\AtC W10 bo 33 #[.slice n1 m.xs.length o1,.slice n2 m.ys.length o2',.slice n3 m.is.length o3,.slice n4 m.bs.length o4,.slice n5 m.fs.length o5,.slice n6 m.ds.length o6,.int .i64 m.nx]):=by
    rw [← hW10];have hgs:W7.heap.size<=gs:=kS.1;refine ⟨⟨_,_,_,_,_,_,_,_,hput _,fun k hk=>hk.1,HP9.out.2.2,HSH.out⟩,HP9.out.2.1.setCell (p:=⟨gs,kn,none⟩) hgs _,HPO.out.box.other (by omega) _⟩
   obtain ⟨U,hU⟩:∃ U,uoI ((j:Int)+1)=U:=⟨_,rfl⟩
   have CU:Hid (∀ W,Calls Tryz.prog 96 #[.int .i64 ((j:Int)+1)] W fun e w'=>e=.returned (.int .i64 U)/\w'=W):=fun W=>by rw [← hU];exact zbe _ W
   clear hU hput k0 k2 kt hps HSH;go_wp2_with fail
   refine (CU.out _).mono ?_;rintro e w9' ⟨rfl,hw9⟩;rw [hw9];clear hw9 w9' hW10 k2' kt' xn2 kf;go_wp2_with fail
   refine (zb7 _ bn U W10 HBX.out.1).mono ?_;rintro e w11 ⟨rfl,b11,c11⟩;have HB11:Hid (Below W7.heap.size W7 w11/\AtC w11 bo 33 #[.slice n1 m.xs.length o1,.slice n2 m.ys.length o2',.slice n3 m.is.length o3,.slice n4 m.bs.length o4,.slice n5 m.fs.length o5,.slice n6 m.ds.length o6,.int .i64 m.nx]):=⟨HBX.out.2.1.trans (c11.below HBX.out.2.1.size (fun k hk=>hk)),(c11.block bo HBX.out.2.2.lt (by omega)).trans HBX.out.2.2⟩
   obtain ⟨SB,u,v,iv,bv,dv,pv,mb,PB,hSB,hTB,hmB⟩:=b11;obtain ⟨h1,k1,h2,k2,h3,k3,h4,k4,h5,k5,h6,k6,rfl,rfl,rfl,rfl,rfl,rfl⟩:=PB.form;obtain ⟨t0,t1,t2,t3,t4,t5,t6⟩:=AtC.sev PB.box;have HPB:=hide (And.intro PB hmB);have HDO:Hid (DOkN ⟨mb.nx,1,(j:Int)+1,(kn:Int),(qn:Int)+1,0,⟨#[]⟩,false,false,0,[]⟩):=⟨⟨by show 1<=(j:Int)+1;omega,by show (j:Int)+1<=8;omega⟩,⟨by show (0:Int)<=kn;omega,by show (kn:Int)<=1;omega⟩,⟨by show (0:Int)<=(qn:Int)+1;omega,by show (qn:Int)+1<=16;omega⟩,by simp,fun p hp=>by simp at hp,by simp,by show (0:Nat)<=6;omega⟩
   clear PB hSB hTB hmB c11 HBX CU;go_wp2_with fail
   refine (zd7 0 1 ((j:Int)+1) kn ((qn:Int)+1) 0 ⟨#[]⟩ false false 0 [] _ _ _ _ _ _ _ mb w11 HPB.out.1.mr HPB.out.2 ⟨none,0,rfl,fun j hj=>by simp at hj⟩ HDO.out (fun e=>absurd e (by decide))).mono ?_;rintro e wn ⟨u1,u2,u3,u4,u5,u6,mn,rr,rfl,On,hSn,-,-,Bn⟩;obtain ⟨q1,r1,q2,r2,q3,r3,q4,r4,q5,r5,q6,r6,rfl,rfl,rfl,rfl,rfl,rfl⟩:=On.mr.form;have AO:AtC wn bo 33 #[.slice n1 m.xs.length o1,.slice n2 m.ys.length o2',.slice n3 m.is.length o3,.slice n4 m.bs.length o4,.slice n5 m.fs.length o5,.slice n6 m.ds.length o6,.int .i64 m.nx]:=HB11.out.2.over Bn;obtain ⟨s0,s1,s2,s3,s4,s5,s6⟩:=AtC.sev AO;have f0:=AO.frozen 0;have f1:=AO.frozen 1;have f2:=AO.frozen 2;have f3:=AO.frozen 3;have f4:=AO.frozen 4;have f5:=AO.frozen 5;have f6:=AO.frozen 6;have HFN:Hid (PM (((((((wn.setCell ⟨bo,0,none⟩ (.slice q1 mn.xs.length r1)).setCell ⟨bo,1,none⟩ (.slice q2 mn.ys.length r2)).setCell ⟨bo,2,none⟩ (.slice q3 mn.is.length r3)).setCell ⟨bo,3,none⟩ (.slice q4 mn.bs.length r4)).setCell ⟨bo,4,none⟩ (.slice q5 mn.fs.length r5)).setCell ⟨bo,5,none⟩ (.slice q6 mn.ds.length r6)).setCell ⟨bo,6,none⟩ (.int .i64 mn.nx)) (fun k=>w11.heap.size<=k) bo (.slice q1 mn.xs.length r1) (.slice q2 mn.ys.length r2) (.slice q3 mn.is.length r3) (.slice q4 mn.bs.length r4) (.slice q5 mn.fs.length r5) (.slice q6 mn.ds.length r6) mn/\Sh Z0 mn/\Below w5.heap.size w5 (((((((wn.setCell ⟨bo,0,none⟩ (.slice q1 mn.xs.length r1)).setCell ⟨bo,1,none⟩ (.slice q2 mn.ys.length r2)).setCell ⟨bo,2,none⟩ (.slice q3 mn.is.length r3)).setCell ⟨bo,3,none⟩ (.slice q4 mn.bs.length r4)).setCell ⟨bo,4,none⟩ (.slice q5 mn.fs.length r5)).setCell ⟨bo,5,none⟩ (.slice q6 mn.ds.length r6)).setCell ⟨bo,6,none⟩ (.int .i64 mn.nx))/\w5.heap.size<=w11.heap.size):=by
    have b7:=HP7.out.2.1;have z11:=HB11.out.1.size;have bnn:Below w5.heap.size w5 wn:=(b7.trans (HB11.out.1.mono b7.size)).trans (Bn.mono (by have:=b7.size;omega));exact ⟨PM.store AO On (by have:=HB11.out.1.size;omega),hSn,zab bnn HP7.out.2.2.1 _ _ _ _ _ _ _,by have:=b7.size;omega⟩
   clear AO On hSn Bn HPB HDO HB11;go_wp2_with fail
   go_meet
   exact ⟨qn,_,_,_,_,_,_,_,mn,rfl,hq16,HFN.out.1,fun k hk=>Nat.le_trans HFN.out.2.2.2 hk,HFN.out.2.1,HFN.out.2.2.1⟩
 case rest =>
  obtain ⟨pn,S8,u,v,iv,bv,dv,pv,mo,rfl,hpn,P8,hS8,hm8,B8⟩:=hcut
  replace P8:=P8.bound
  obtain ⟨f1,e1,f2,e2,f3,e3,f4,e4,f5,e5,f6,e6,rfl,rfl,rfl,rfl,rfl,rfl⟩:=P8.form;have hbj:pn < mo.bs.length:=by rw [hm8.b];exact hpn
  obtain ⟨gb,cb,pblk,eb,q0,q1,q2,-,hfz,hgl,gS⟩:=P8.blkAt pn hbj;simp only [Value.slice.injEq,true_and] at eb;obtain ⟨rfl,rfl⟩:=eb;have hpb:=P8.putB rfl pn hbj (.bool false,.slice none 0 0,.string s) (false,[],s) ⟨rfl,SOwns.nil _ _ _,rfl⟩ (fun k hk=>by simp [Value.ownBlock] at hk);have hS5:∀ k,(S8 k/\k < wc.heap.size)->w5.heap.size<=k:=fun k hk=>hS8 k hk.1;have hbo5:w5.heap.size<=bo:=HP7.out.2.2.1;obtain ⟨W9,hW9⟩:∃ W9,((wc.setCell ⟨gb,pn * 3,none⟩ (.bool false)).setCell ⟨gb,pn * 3+1,none⟩ (.slice none 0 0)).setCell ⟨gb,pn * 3+2,none⟩ (.string s)=W9:=⟨_,rfl⟩
  have HB9:Hid (BT Z0 W9 (fun k=>w5.heap.size<=k) bo/\Below w5.heap.size w5 W9):=by
   rw [← hW9];have g5:=hS5 gb gS;refine ⟨⟨_,_,_,_,_,_,_,_,hpb.1,fun k hk=>hk.elim (hS5 k) (fun e=>by simp [Value.ownBlock] at e),hbo5,hm8.block pn ⟨fun e=>by simp at e,by simp,fun s hs=>by simp at hs,by show s.size<=16;omega⟩⟩,((B8.setCell (p:=⟨gb,pn * 3,none⟩) g5 _).setCell (p:=⟨gb,pn * 3+1,none⟩) g5 _).setCell (p:=⟨gb,pn * 3+2,none⟩) g5 _⟩
  have x3:=P8.box.c3;have z0:=hfz (pn * 3);have z1:=hfz (pn * 3+1);have z2:=hfz (pn * 3+2);have hwp:IntKind.i64.wrap (pn:Int)=(pn:Int):=wrap_small _ (by omega) (by omega);have pn0:(0:Int)<=(pn:Int):=by omega
  have pn1:(pn:Int) < (mo.bs.length:Int):=by omega
  obtain ⟨U,hU⟩:∃ U,uoB ((pn:Int)+1)=U:=⟨_,rfl⟩
  have CU:Hid (∀ W,Calls Tryz.prog 101 #[.int .i64 ((pn:Int)+1)] W fun e w'=>e=.returned (.int .i64 U)/\w'=W):=fun W=>by rw [← hU];exact za7 _ W
  clear hU hpb hfz P8;go_wp2_with fail
  refine (CU.out _).mono ?_;rintro e w9' ⟨rfl,hw9⟩;rw [hw9];clear hw9 w9' q0 q1 q2 x3 z0 z1 z2 hW9;go_wp2_with fail
  refine (zb7 _ bo U W9 HB9.out.1).mono ?_;rintro e w10 ⟨rfl,b10,c10⟩;have HBA:Hid (Below w5.heap.size w5 w10):=HB9.out.2.trans (c10.below HB9.out.2.size (fun k hk=>hk));obtain ⟨SA,u,v,iv,bv,dv,pv,ma,PA,hSA,hTA,hmA⟩:=b10;obtain ⟨h1,k1,h2,k2,h3,k3,h4,k4,h5,k5,h6,k6,rfl,rfl,rfl,rfl,rfl,rfl⟩:=PA.form;have HBF:Hid (Below W2.heap.size W2 w10):=HB5.out.trans (HBA.out.mono HB5.out.size);obtain ⟨y0,y1,y2,y3,y4,y5,y6⟩:=AtC.sev PA.box;obtain ⟨r0,r1,r2,r3,r4,r5,r6⟩:=AtC.sev ((HC.out w10 HBF.out).2.1);have v0:=(HC.out w10 HBF.out).2.1.frozen 0;have v1:=(HC.out w10 HBF.out).2.1.frozen 1;have v2:=(HC.out w10 HBF.out).2.1.frozen 2;have v3:=(HC.out w10 HBF.out).2.1.frozen 3;have v4:=(HC.out w10 HBF.out).2.1.frozen 4;have v5:=(HC.out w10 HBF.out).2.1.frozen 5;have v6:=(HC.out w10 HBF.out).2.1.frozen 6;have HF:=hide (And.intro PA.own (And.intro hSA hmA));have HZ5:Hid (w.heap.size+1+1<=w5.heap.size):=by have:=(HC.out w5 HB5.out).2.2.2.2.2;show _<=_;omega
  clear PA hSA hTA hmA c10 HB9 CU;go_wp2;refine bodyPost_ret (v:=.tuple #[.agg #[.slice h1 ma.xs.length k1,.slice h2 ma.ys.length k2,.slice h3 ma.is.length k3,.slice h4 ma.bs.length k4,.slice h5 ma.fs.length k5,.slice h6 ma.ds.length k6,.int .i64 ma.nx],.int .i64 0]) (by simp [results,go_sem,r0,r1,r2,r3,r4,r5,r6]) rfl ⟨⟨_,_,_,_,_,_,ma,_,rfl,(HF.out.1.of_heap fun k hk _=>zaa _ _ _ _ _ _ _ _ _ k (by have:=HF.out.2.1 k hk;have:=HZ5.out;omega)).mono (fun k hk=>by have:=HF.out.2.1 k hk;have:=HZ5.out;omega),HF.out.2.2⟩,zab (HC.out w10 HBF.out).2.2.2.2.1 (by omega) _ _ _ _ _ _ _⟩
namespace Kit
def sndOf:Value->Value
 | .tuple xs=>xs.getD 1 undef
 | u=>u
def thdOf:Value->Value
 | .tuple xs=>xs.getD 2 undef
 | u=>u
def MkT2 (ds:List Nat) (R:Nat->Nat->World->Value->Value->Prop) (hst:∀ lo hi w w' a r,R lo hi w a r->Below w.heap.size w w'->R lo hi w' a r):Mk:=.val ds (fun lo hi w v=>∃ a r,v=.tuple #[a,r]/\R lo hi w a r)
 (fun lo hi w w' _ h hb=>by obtain ⟨a,r,h1,h2⟩:=h;exact ⟨a,r,h1,hst lo hi w w' a r h2 hb⟩)
def MkMv (k:Nat):Mk:=.val1 [k] k (by simp) (fun _ _ _ u v=>u=v/\∃ a r,v=.tuple #[a,r]) (fun _ _ _ _ _ _ h _=>h)
def MkMv3 (k:Nat):Mk:=.val1 [k] k (by simp) (fun _ _ _ u v=>u=v/\∃ a r q,v=.tuple #[a,r,q]) (fun _ _ _ _ _ _ h _=>h)
def MkFs (k:Nat):Mk:=.val1 [k] k (by simp) (fun _ _ _ u v=>v=fstOf u) (fun _ _ _ _ _ _ h _=>h)
def MkSd (k:Nat):Mk:=.val1 [k] k (by simp) (fun _ _ _ u v=>v=sndOf u) (fun _ _ _ _ _ _ h _=>h)
def MkTd (k:Nat):Mk:=.val1 [k] k (by simp) (fun _ _ _ u v=>v=thdOf u) (fun _ _ _ _ _ _ h _=>h)
end Kit
namespace Kit
def needs (md:Region.Mode) (ops:Array Oper) (t:List Nat) (x:Nat):Bool:=t.any fun i=>match ops[i]? with | some o=>o.after.any fun e=>Region.binds md e && e.on == x | none=>false
def zeq (md:Region.Mode) (ops:Array Oper):List Nat->List (List Nat)
 | []=>[[]]
 | x :: r=>(zeq md ops r).filter (fun t=>!needs md ops t x) ++ (zeq md ops r).map fun t=>x :: t
theorem ze8:∀ (js t:List Nat),t∈subs js->∀ i∈t,i∈js
 | [],t,h,i,hi=>by simp [subs] at h;subst h;simp at hi
 | x :: r,t,h,i,hi=>by
  rw [subs,List.mem_append] at h;rcases h with h | h
  ·exact List.mem_cons_of_mem _ (ze8 r t h i hi)
  ·obtain ⟨t',h',rfl⟩:=List.mem_map.mp h;rcases List.mem_cons.mp hi with rfl | hi
   ·exact List.mem_cons_self
   ·exact List.mem_cons_of_mem _ (ze8 r t' h' i hi)
theorem zc6 (md:Region.Mode)(ops:Array Oper):∀ (js:List Nat),js.Nodup->∀ t∈subs js,(∀ i∈t,∀ o,ops[i]?=some o->∀ e∈o.after,Region.binds md e=true->e.on∈js->e.on∈t)->t∈zeq md ops js
 | [],_,t,ht,_=>by simpa [subs,zeq] using ht
 | x :: r,hn,t,ht,hc=>by
  obtain ⟨hx,hr⟩:=List.nodup_cons.mp hn;rw [subs,List.mem_append] at ht;rw [zeq,List.mem_append];rcases ht with ht | ht
  ·left
   refine List.mem_filter.mpr ⟨zc6 md ops r hr t ht fun i hi o ho e he hb hj=>hc i hi o ho e he hb (List.mem_cons_of_mem _ hj),?_⟩;have hxt:x ∉ t:=fun e=>hx (ze8 r t ht x e);simp only [Bool.not_eq_true',needs,List.any_eq_false];intro i hi
   cases ho:ops[i]? with
   | none=>simp
   | some o =>
    intro hh;obtain ⟨k,hk,hh⟩:=Array.any_eq_true.mp hh;simp only [Bool.and_eq_true,beq_iff_eq] at hh;obtain ⟨hb,he⟩:=hh;exact hxt (he ▸ hc i hi o ho o.after[k] (Array.getElem_mem hk) hb (by rw [he];exact List.mem_cons_self))
  ·right
   obtain ⟨t',h',rfl⟩:=List.mem_map.mp ht;refine List.mem_map.mpr ⟨t',zc6 md ops r hr t' h' fun i hi o ho e he hb hj=>?_,rfl⟩;rcases List.mem_cons.mp (hc i (List.mem_cons_of_mem _ hi) o ho e he hb (List.mem_cons_of_mem _ hj)) with q | q
   ·exact absurd (q ▸ hj) hx
   ·exact q
def zjm (md:Region.Mode) (ops:Array Oper) (js:List Nat) (exits:List (List Nat)):Bool :=
 (zeq md ops js).all fun t=>t == js || exits.contains t || !zc1 md ops t || (!(Region.ready md ops (mask ops.size t)).isEmpty && (Region.ready md ops (mask ops.size t)).all fun i=>js.contains i && !t.contains i)
theorem zat {md:Region.Mode}{ops:Array Oper}{js:List Nat}{exits:List (List Nat)}(hn:decide js.Nodup=true)(h:zjm md ops js exits=true):zb8 md ops js exits=true:=by
 unfold zb8;refine List.all_eq_true.mpr fun t ht=>?_;by_cases hc:zc1 md ops t=true
 ·refine List.all_eq_true.mp h t (zc6 md ops js (of_decide_eq_true hn) t ht fun i hi o ho e he hb _=>?_);have:=List.all_eq_true.mp hc i hi;rw [ho] at this;obtain ⟨k,hk,rfl⟩:=Array.mem_iff_getElem.mp he;have:=Array.all_eq_true.mp this k hk;rw [hb] at this;simpa using this
 ·simp [hc]
end Kit
def noSl:List Sl:=[(⟨#[]⟩,0),(⟨#[]⟩,0),(⟨#[]⟩,0),(⟨#[]⟩,0)]
def zgq:Array Value:=#[.string ⟨#[]⟩,.int .i64 0,.string ⟨#[]⟩,.int .i64 0,.string ⟨#[]⟩,.int .i64 0,.string ⟨#[]⟩,.int .i64 0]
theorem make4 (w:World):(Instr.makeSlice 42 (.int .i64 4) (.int .i64 4)).run Tryz.prog w=.ok (.slice (some ⟨w.heap.size,0,none⟩) 4 4) (w.alloc (.cells zgq 49)):=by kernel_rfl
theorem own4 (w:World)(base:Nat)(hb:base<=w.heap.size):SOwns (w.alloc (.cells zgq 49)) base 49 (.slice (some ⟨w.heap.size,0,none⟩) 4 4) noSl :=
 SOwns.lit w base 49 zgq noSl rfl hb (by simp [noSl,maxLen])
theorem noSl_ok:KOk ((true,noSl,⟨#[]⟩):Blk):=⟨fun _=>rfl,by decide,fun s hs=>by simp [noSl] at hs;subst hs;exact ⟨by decide,.inl ⟨rfl,rfl⟩⟩,by decide⟩
theorem zh5 (w:World) :
  Calls Tryz.prog 127 #[] w fun e w'=>∃ a c,e=.returned (.agg #[.bool true,.slice a 4 c,.string ⟨#[]⟩])/\SOwns w' w.heap.size 49 (.slice a 4 c) noSl/\Below w.heap.size w w':=by
 have mk:=make4;have HO:=hide (fun o1=>own4 (w.alloc o1) w.heap.size (by simp));go_enter Tryz.func127,Tryz.ntmps127
 go_wp2;refine bodyPost_ret (v:=.agg #[.bool true,.slice (some ⟨w.heap.size+1,0,none⟩) 4 4,.string ⟨#[]⟩]) (by simp [results,go_sem]) rfl ⟨_,_,rfl,by simpa using HO.out _,((Below.refl _ w).alloc nR _).alloc (by simp) _⟩
def slotO (bs:List Blk) (jb t:Nat):Option Sl:=(bs[jb]?).bind fun x=>x.2.1[t]?
def Keep (m:MD) (bs':List Blk):Prop:=∀ (jb t:Nat) (s:Sl),m.xs[jb]?=some true->slotO m.bs jb t=some s->1<=s.2->slotO bs' jb t=some s
def FreeS (bs:List Blk) (B s:Int):Prop:=(B=0/\s=0)\/∃ (jb t:Nat),B=(jb:Int)+1/\s=(t:Int)/\jb < 16/\t < 4/\∃ nm,slotO bs jb t=some (nm,0)
theorem zg9 {bs:List Blk}{jb t:Nat}(h:jb < bs.length)(ht:t < bs[jb].2.1.length):slotO bs jb t=some bs[jb].2.1[t]:=by simp [slotO,h,ht]
theorem zer {bs:List Blk}{jb t:Nat}{s:Sl}(h:slotO bs jb t=some s):∃ (h1:jb < bs.length) (h2:t < bs[jb].2.1.length),bs[jb].2.1[t]=s:=by
 unfold slotO at h
 cases hb:bs[jb]? with
 | none=>rw [hb] at h;simp at h
 | some x =>
  rw [hb] at h;obtain ⟨h1,rfl⟩:=List.getElem?_eq_some_iff.1 hb;simp only [Option.bind_some] at h;obtain ⟨h2,h3⟩:=List.getElem?_eq_some_iff.1 h;exact ⟨h1,h2,h3⟩
theorem zdi {bs:List Blk}{jb kb t:Nat}{x:Blk}(h:kb≠jb):slotO (bs.set kb x) jb t=slotO bs jb t:=by simp [slotO,List.getElem?_set_ne h]
theorem Keep.block {m:MD}{bs:List Blk}(h:Keep m bs)(kb:Nat)(x:Blk)(hf:m.xs[kb]?=some false):Keep m (bs.set kb x):=fun jb t s hx hs h1=>by
 have hn:kb≠jb:=fun e=>by rw [← e,hf] at hx;simp at hx
 rw [zdi hn];exact h jb t s hx hs h1
theorem Keep.slot {m:MD}{bs:List Blk}(h:Keep m bs)(kb k:Nat)(hk:kb < bs.length)(y:Sl)(hf:m.xs[kb]?=some true->∃ nm,slotO m.bs kb k=some (nm,0)):Keep m (bs.set kb (bs[kb].1,bs[kb].2.1.set k y,bs[kb].2.2)):=fun jb t s hx hs h1=>by
 have q:=h jb t s hx hs h1;by_cases hn:kb=jb
 ·subst hn;obtain ⟨nm,e⟩:=hf hx;have hkt:k≠t:=fun e2=>by
   subst e2;rw [hs] at e;simp only [Option.some.injEq] at e;subst e;simp at h1
  unfold slotO at q ⊢;rw [List.getElem?_set_self hk];simp only [Option.bind_some];rw [List.getElem?_set_ne hkt];rw [List.getElem?_eq_getElem hk] at q;exact q
 ·rw [zdi hn];exact q
theorem Keep.refl (m:MD):Keep m m.bs:=fun _ _ _ _ h _=>h
theorem zha (u:Int)(m:MD):(markU u m).bs=m.bs:=by unfold markU;split<;>rfl
theorem zhb {Z:ZT}(id kd io pt bk sl:Int)(nm:ByteArray)(bt ot:Bool)(af:Int)(bl:List Int)(p:Value)(u v iv bv dv pv:Value)(m:MD)(w:World)(h:MR w u v iv bv dv pv m)(hS:Sh Z m)(hv:RInts w p bl)
  (hd:DOkN ⟨m.nx,kd,io,pt,bk,sl,nm,bt,ot,af,bl⟩) (hr5:kd=5->Kz.Room Z m bl) :
  Calls Tryz.prog 100 #[.agg #[u,v,iv,bv,dv,pv,.int .i64 m.nx],.agg #[.int .i64 id,.int .i64 kd,.int .i64 io,.int .i64 pt,.int .i64 bk,.int .i64 sl,.string nm,.bool bt,.bool ot,.int .i64 af,p]] w fun e w'=>∃ u' v' i' b' d' p' m' r,e=.returned (.tuple #[.agg #[u',v',i',b',d',p',.int .i64 m'.nx],.int .i64 r])/\MO w' (fun k=>w.heap.size<=k) u' v' i' b' d' p' m'/\Sh Z m'/\m'.bs=m.bs/\0<=r/\r<=99999/\Below w.heap.size w w':=by
 have hbl:bl.length<=1048576:=Nat.le_trans hd.bn (by decide);by_cases hf:40<=m.ds.length
 ·refine (zfw id kd io pt bk sl nm bt ot af bl p u v iv bv dv pv m w h hS.big hv hbl hf).mono ?_;rintro e w' ⟨u1,u2,u3,u4,u5,u6,rfl,O,B⟩;exact ⟨u1,u2,u3,u4,u5,u6,m,0,rfl,O,hS,rfl,by omega,by omega,B⟩
 ·cases hx:inB m.nx 1 99999 with
  | false =>
   refine (zfx id kd io pt bk sl nm bt ot af bl p u v iv bv dv pv m w h hS.big hv hbl (by omega) hx).mono ?_;rintro e w' ⟨u1,u2,u3,u4,u5,u6,rfl,O,B⟩;exact ⟨u1,u2,u3,u4,u5,u6,m,0,rfl,O,hS,rfl,by omega,by omega,B⟩
  | true =>
   have hr:=zao hx;refine (zg5 id kd io pt bk sl nm bt ot af bl p u v iv bv dv pv m w h hS.big hv hbl (by omega) hx).mono ?_;rintro e w' ⟨u1,u2,u3,u4,u5,u6,rfl,O,B⟩;refine ⟨u1,u2,u3,u4,u5,u6,_,m.nx,rfl,O,⟨hS.x,hS.y,hS.i,hS.ii,hS.b,hS.bb,hS.f,?_,?_,?_,hS.k.put _ rfl rfl rfl hr5⟩,rfl,by omega,by omega,B⟩
   ·rw [List.length_append];simp;omega
   ·exact cQ87
   ·show 1<=m.nx+1/\m.nx+1<=100000;omega
theorem zdp {bs:List Blk}{x:Int}(h:inB x 1 bs.length=true):∃ (jb:Nat) (hb:jb < bs.length),x=(jb:Int)+1/\blkAt bs x=bs[jb]:=by
 obtain ⟨h1,h2⟩:=zao h;refine ⟨(x - 1).toNat,by omega,by omega,?_⟩;unfold blkAt;rw [h,if_pos rfl];rw [List.getD_eq_getElem?_getD,List.getElem?_eq_getElem (show (x - 1).toNat < bs.length by omega)];rfl
theorem zh6 {m:MD}(hm:Sh Z0 m)(x:Int):(blkAt m.bs x).2.1.length<=4:=by
 cases h:inB x 1 m.bs.length with
 | false=>unfold blkAt;rw [h];simp
 | true =>
  obtain ⟨jb,hb,-,e⟩:=zdp h;rw [e];exact (hm.bb _ (List.getElem_mem hb)).m
def BlkR (w0:World) (bd:Bool) (btx:ByteArray) (bss:List Sl) (F:Bool) (_ _:Nat) (_:World) (a r:Value):Prop:=∃ (sa:Option Addr) (sc:Nat),a=.agg #[.bool bd,.slice sa bss.length sc,.string btx]/\r=.bool F/\RSl w0 (.slice sa bss.length sc) bss
theorem BlkR.below {w0:World}{bd:Bool}{btx:ByteArray}{bss:List Sl}{F:Bool}(lo hi:Nat)(w w':World)(a r:Value)(h:BlkR w0 bd btx bss F lo hi w a r)(_:Below w.heap.size w w'):BlkR w0 bd btx bss F lo hi w' a r:=h
theorem zec {a:ByteArray}(h:¬ a=⟨#[]⟩):(a.toList == ([]:List UInt8))=false:=by
 have:=zbm (b:=⟨#[]⟩) h
 rwa [show (⟨#[]⟩:ByteArray).toList=[] from by rw [ByteArray.toList_eq]] at this
theorem zjn {w:World}{g j:Nat}{x:Value}(h:w.cell? ⟨g,j,none⟩=some x):g < w.heap.size:=by
 exact cQ100
theorem ze9 (n:Int)(h0:-1<=n)(h1:n < 1000000):IntKind.i64.wrap n=n:=by
 by_cases h:n=-1
 ·subst h;decide
 ·exact wrap_small n (by omega) (by omega)
def BBx (B:List Blk) (w:World) (T:Nat->Prop) (b:Nat):Prop:=∃ (S:Nat->Prop) (u v iv bv dv pv:Value) (m:MD),PM w S b u v iv bv dv pv m/\(∀ k,S k->T k)/\T b/\Sh Z0 m/\m.bs=B
theorem zcz (B:List Blk)(T:Nat->Prop)(b:Nat)(x:Int)(w:World)(h:BBx B w T b) :
  Calls Tryz.prog 95 #[.pointer (some ⟨b,0,none⟩),.int .i64 x] w fun e w'=>e=.returned (.tuple #[])/\BBx B w' T b/\Chg T w w':=by
 obtain ⟨S,u,v,iv,bv,dv,pv,m,hP,hS,hb,hm,hB⟩:=h;refine (zbt S b x _ _ _ _ _ _ m w hP).mono ?_;rintro e w' ⟨rfl,P2,C2⟩;exact ⟨rfl,⟨S,u,v,iv,bv,dv,pv,_,P2,hS,hb,hm.mark x,(zha x m).trans hB⟩,C2.mono hS⟩
def KT (m:MD) (w:World) (T:Nat->Prop) (b:Nat):Prop:=∃ (S:Nat->Prop) (u v iv bv dv pv:Value) (m':MD),PM w S b u v iv bv dv pv m'/\(∀ k,S k->T k)/\T b/\Sh Z0 m'/\Keep m m'.bs
theorem zf4 (T:Nat->Prop)(b j:Nat)(nm:ByteArray)(ino:Int)(S:Nat->Prop)(u v iv bv dv pv:Value)(m:MD)(w:World)(hP:PM w S b u v iv bv dv pv m)(hST:∀ k,S k->T k)(hTb:T b)(hT:∀ k,w.heap.size<=k->T k)(hm:Sh Z0 m)(hj8:j < 8)(hn6:nm.size<=6)(hino:1<=ino/\ino<=8) :
  Calls Tryz.prog 97 #[.pointer (some ⟨b,0,none⟩),.int .i64 ((j:Int)+1),.string nm,.int .i64 ino] w fun e w'=>(∃ id:Int,e=.returned (.int .i64 id)/\0<=id/\id<=99999)/\KT m w' T b/\Chg T w w':=by
 replace hP:=hP.bound
 have hj:j < m.is.length:=by rw [hm.i];exact hj8
 obtain ⟨a1,c1,a2,c2,a3,c3,a4,c4,a5,c5,a6,c6,rfl,rfl,rfl,rfl,rfl,rfl⟩:=hP.form;obtain ⟨qa,qc,qe,-,qh⟩:=hP.mr.d.i;simp only [Value.slice.injEq,true_and] at qe;obtain ⟨rfl,rfl⟩:=qe;obtain ⟨g2,o2,⟨t0,t1,t2⟩,rfl,hg2,r0,r1,r2,e0,e1,rr⟩:=qh j hj;simp only at e0 e1 rr r0 r1 r2;subst e0 e1;obtain ⟨pa,pc,rfl⟩:=rr.form;have hix:=hm.ii _ (List.getElem_mem hj);obtain ⟨⟨kd,ln,ps⟩,hX⟩:∃ X,m.is[j]=X:=⟨_,rfl⟩
 rw [hX] at r0 r1 r2 rr hix;simp only at r0 r1 r2 rr;have HIX:=hide hix;have HXX:=hide hX;have hpl:ps.length=2:=hix.n;obtain ⟨pa',pc',ep,hpp⟩:=rr;simp only [Value.slice.injEq,true_and] at ep;obtain ⟨rfl,rfl⟩:=ep;obtain ⟨gp,op,rfl,-,-⟩:=hpp 0 (by omega);have rr:RInts w (.slice (some ⟨gp,op,none⟩) ps.length pc) ps:=⟨_,_,rfl,hpp⟩
 have hwj:IntKind.i64.wrap (j:Int)=(j:Int):=wrap_small _ (by omega) (by omega);have j0:(0:Int)<=(j:Int):=by omega
 have j1:(j:Int) < (m.is.length:Int):=by omega
 obtain ⟨W1,hW1⟩:∃ W1,w.alloc (.cells #[.int .i64 kd,.int .i64 ln,.slice (some ⟨gp,op,none⟩) ps.length pc] 37)=W1:=⟨_,rfl⟩
 have HC:Hid (∀ W,Below W1.heap.size W1 W->AtC W w.heap.size 37 #[.int .i64 kd,.int .i64 ln,.slice (some ⟨gp,op,none⟩) ps.length pc]/\PM W (fun k=>S k/\k < w.heap.size) b (.slice a1 m.xs.length c1) (.slice a2 m.ys.length c2) (.slice (some ⟨g2,o2,none⟩) m.is.length c3) (.slice a4 m.bs.length c4) (.slice a5 m.fs.length c5) (.slice a6 m.ds.length c6) m/\RInts W (.slice (some ⟨gp,op,none⟩) ps.length pc) ps/\Below w.heap.size w W/\w.heap.size+1<=W.heap.size):=fun W bb=>by
  rw [← hW1] at bb;have b1:Below w.heap.size w W:=((Below.refl _ w).alloc nR _).trans (bb.mono (by simp));have z1:=bb.size;simp at z1;exact ⟨(AtC.new w 37 _).over bb,hP.below b1,rr.below b1 nR,b1,z1⟩
 have HB1:Hid (Below W1.heap.size W1 W1):=Below.refl _ _;have HM:=hide hm;have HTB:Hid (T b/\b < w.heap.size):=⟨hTb,hP.box.lt⟩
 have HST:Hid (∀ k,(S k/\k < w.heap.size)->T k):=fun k hk=>hST k hk.1;have HTT:Hid (∀ k,w.heap.size<=k->T k):=hT;have HIN:=hide hino;have HN6:=hide hn6;have HPL:=hide hpl;obtain ⟨x0,x1,x2,x3,x4,x5,x6⟩:=AtC.sev hP.box;have y2:=(HC.out W1 HB1.out).1.c2;have hpl2:(ps.length:Int)<=2:=by omega
 have hwl:IntKind.i64.wrap ((ps.length:Int) - 1)=(ps.length:Int) - 1:=wrap_small _ (by omega) (by omega);clear hP hm hino hn6 hix hX hpp rr qh hST hTb hT hpl;go_enter Tryz.func97,Tryz.ntmps97
 go_wp2_with fail
 clear x0 x1 x2 x3 x4 x5 x6 r0 r1 r2 hW1 y2;go_loopw [10,11,12] (fun bb ss kk wr=>∃ (B s kz:Int),bb=.int .i64 B/\ss=.int .i64 s/\kk=.int .i64 kz/\-1<=kz/\kz < (ps.length:Int)/\Hid (FreeS m.bs B s/\Below W1.heap.size W1 wr)) (fun _ _ kk _=>(intOf kk+1).toNat)
 case atStart =>
  have q2:=HPL.out;exact ⟨0,0,(ps.length:Int) - 1,rfl,rfl,rfl,by omega,by omega,.inl ⟨rfl,rfl⟩,HB1.out⟩
 case round =>
  obtain ⟨B,s,kz,rfl,rfl,rfl,hk1,hk2,HR⟩:=hrel;obtain ⟨wo,hwo⟩:∃ wo,wo=wr:=⟨_,rfl⟩
  subst hwo;by_cases hkz:0<=kz
  rotate_left
  ·have e1:kz=-1:=by omega
   subst e1;have HF:=hide HR.out.1;have HB0:=hide HR.out.2;have hdl:m.ds.length<=1048576:=Nat.le_trans HM.out.l (by decide);clear HR;go_upto_if 102 with fail
   go_cut [10,11] from 16 to 168 (fun c10 c11 wx=>∃ (pn t:Nat) (S':Nat->Prop) (u v iv bv dv pv:Value) (m':MD),c10=.int .i64 ((pn:Int)+1)/\c11=.int .i64 (t:Int)/\pn < 16/\t < 4/\PM wx S' b u v iv bv dv pv m'/\(∀ k,S' k->T k)/\Sh Z0 m'/\Keep m m'.bs/\(∃ s0,slotO m'.bs pn t=some s0)/\(m.xs[pn]?=some true->∃ nm0,slotO m.bs pn t=some (nm0,0))/\Chg T w wx)
   case first =>
    rcases HF.out with ⟨rfl,rfl⟩ | ⟨jb,t,rfl,rfl,hjb,ht4,nm0,hs0⟩
    rotate_left
    ·have hbb:(((jb:Int)+1) == 0)=false:=beq_eq_false_iff_ne.mpr (by omega);have HFS:Hid (jb < 16/\t < 4/\∃ nm0,slotO m.bs jb t=some (nm0,0)):=⟨hjb,ht4,nm0,hs0⟩
     clear hs0 hjb ht4;go_wp2_with fail
     go_meet
     obtain ⟨h1,h2,nm0,h3⟩:=HFS.out;obtain ⟨A0,P0,rI,bW,zW⟩:=HC.out wo HB0.out;exact ⟨jb,t,_,_,_,_,_,_,_,m,rfl,rfl,h1,h2,P0,HST.out,HM.out,Keep.refl m,⟨_,h3⟩,fun _=>⟨_,h3⟩,Chg.of_below bW⟩
    have y2:=(HC.out wo HB0.out).1.c2;clear HF;go_wp2_with fail
    go_loopw [16] (fun kk wr=>∃ q:Nat,q<=ps.length/\kk=.int .i64 q/\wo=wr) (fun kk _=>ps.length - (intOf kk).toNat)
    case atStart=>exact ⟨0,Nat.zero_le _,rfl,rfl⟩
    case round =>
     obtain ⟨q,hq,rfl,rfl⟩:=hrel;have q0:(0:Int)<=(q:Int):=by omega
     by_cases hql:q < ps.length
     rotate_left
     ·have qeq:((q:Int) == (ps.length:Int))=true:=by simp;omega
      have q1:¬ ((q:Int) < (ps.length:Int)):=by omega
      go_wp2;go_ret;obtain ⟨A0,P0,rI,bW,zW⟩:=HC.out wo HB0.out;exact ⟨⟨0,rfl,by omega,by omega⟩,⟨_,_,_,_,_,_,_,m,P0,HST.out,HTB.out.1,HM.out,Keep.refl m⟩,Chg.of_below bW⟩
     obtain ⟨A0,P0,rI,bW,zW⟩:=HC.out wo HB0.out;obtain ⟨pa',pc',e1,hcp⟩:=rI;simp only [Value.slice.injEq,true_and] at e1;obtain ⟨rfl,rfl⟩:=e1;obtain ⟨gp',op',e2,hgp,kp⟩:=hcp q hql;simp only [Option.some.injEq,Addr.mk.injEq,and_true] at e2;obtain ⟨rfl,rfl⟩:=e2;have q1:(q:Int) < (ps.length:Int):=by omega
     obtain ⟨Pn,hPn⟩:∃ Pn,ps[q]=Pn:=⟨_,rfl⟩
     rw [hPn] at kp;have HPN:=hide hPn;have HP0:=hide P0;have HBW:=hide (And.intro bW zW);clear hPn hcp A0 P0 bW zW hgp;by_cases hz:Pn=0
     rotate_left
     ·have hzb:(Pn == 0)=false:=beq_eq_false_iff_ne.mpr hz;have hq2:q < 2:=by omega
      go_wp2;go_roundw
      case rel=>exact ⟨q+1,by omega,by go_num,trivial⟩
      case measure=>simp [intOf];omega
     subst hz;have qne:((q:Int) == (ps.length:Int))=false:=beq_eq_false_iff_ne.mpr (by omega);have hq2:q < 2:=by omega
     obtain ⟨x0,x1,x2,x3,x4,x5,x6⟩:=AtC.sev HP0.out.box;by_cases hf:ff m.xs=0
     ·have CT:Hid (Calls Tryz.prog 99 #[.agg #[.slice a1 m.xs.length c1,.slice a2 m.ys.length c2,.slice (some ⟨g2,o2,none⟩) m.is.length c3,.slice a4 m.bs.length c4,.slice a5 m.fs.length c5,.slice a6 m.ds.length c6,.int .i64 m.nx]] wo fun e w'=>∃ (z1:Option Addr) (l1 y1:Nat) (z2:Option Addr) (l2 y2:Nat) (z3:Option Addr) (l3 y3:Nat) (z4:Option Addr) (l4 y4:Nat) (z5:Option Addr) (l5 y5:Nat) (z6:Option Addr) (l6 y6:Nat),e=.returned (.tuple #[.agg #[.slice z1 l1 y1,.slice z2 l2 y2,.slice z3 l3 y3,.slice z4 l4 y4,.slice z5 l5 y5,.slice z6 l6 y6,.int .i64 m.nx],.int .i64 0])/\Below wo.heap.size wo w'):=by
       refine (zce _ _ _ _ _ _ m wo HP0.out.mr HM.out.big).mono ?_;rintro e w' ⟨v1,v2,v3,v4,v5,v6,rfl,O8,B8⟩;obtain ⟨z1,y1,z2,y2,z3,y3,z4,y4,z5,y5,z6,y6,rfl,rfl,rfl,rfl,rfl,rfl⟩:=O8.mr.form;rw [hf];exact ⟨z1,_,y1,z2,_,y2,z3,_,y3,z4,_,y4,z5,_,y5,z6,_,y6,rfl,B8⟩
      go_wp2_with fail
      refine CT.out.mono ?_;rintro e w8 ⟨z1,l1,y1,z2,l2,y2',z3,l3,y3,z4,l4,y4,z5,l5,y5,z6,l6,y6,rfl,B8⟩;have HB8:=hide B8;clear B8 CT;go_wp2;go_ret;have b8:=HB8.out.alloc HB8.out.size (.cells #[.slice z1 l1 y1,.slice z2 l2 y2',.slice z3 l3 y3,.slice z4 l4 y4,.slice z5 l5 y5,.slice z6 l6 y6,.int .i64 m.nx] 33);have bw:=HBW.out.1;exact ⟨⟨0,rfl,by omega,by omega⟩,⟨_,_,_,_,_,_,_,m,HP0.out.below b8,HST.out,HTB.out.1,HM.out,Keep.refl m⟩,Chg.of_below (bw.trans (b8.mono bw.size))⟩
     obtain ⟨p1,p2⟩:=zf2 m.xs hf;obtain ⟨qn,hqn⟩:∃ qn:Nat,ff m.xs=qn+1:=⟨ff m.xs - 1,by omega⟩
     have hq16:qn < 16:=by have:=HM.out.x;omega
     have hz:((ff m.xs:Nat):Int)=(qn:Int)+1:=by omega
     have HXF:Hid (m.xs[qn]?=some false):=by
      have e:ff m.xs - 1=qn:=by omega
      rw [← e];exact p2
     have CT:Hid (Calls Tryz.prog 99 #[.agg #[.slice a1 m.xs.length c1,.slice a2 m.ys.length c2,.slice (some ⟨g2,o2,none⟩) m.is.length c3,.slice a4 m.bs.length c4,.slice a5 m.fs.length c5,.slice a6 m.ds.length c6,.int .i64 m.nx]] wo fun e w'=>∃ (z1:Option Addr) (y1:Nat) (z2:Option Addr) (y2:Nat) (z3:Option Addr) (y3:Nat) (z4:Option Addr) (y4:Nat) (z5:Option Addr) (y5:Nat) (z6:Option Addr) (y6:Nat),e=.returned (.tuple #[.agg #[.slice z1 m.xs.length y1,.slice z2 m.ys.length y2,.slice z3 m.is.length y3,.slice z4 m.bs.length y4,.slice z5 m.fs.length y5,.slice z6 m.ds.length y6,.int .i64 m.nx],.int .i64 ((qn:Int)+1)])/\MO w' (fun k=>wo.heap.size<=k) (.slice z1 m.xs.length y1) (.slice z2 m.ys.length y2) (.slice z3 m.is.length y3) (.slice z4 m.bs.length y4) (.slice z5 m.fs.length y5) (.slice z6 m.ds.length y6) ({ m with xs:=m.xs.set (ff m.xs - 1) true,fs:=m.fs.set 0 true }:MD)/\Below wo.heap.size wo w'):=by
      refine (zce _ _ _ _ _ _ m wo HP0.out.mr HM.out.big).mono ?_;rintro e w' ⟨v1,v2,v3,v4,v5,v6,rfl,O8,B8⟩;rw [zf3 hf] at O8;obtain ⟨z1,y1,z2,y2,z3,y3,z4,y4,z5,y5,z6,y6,e1,rfl,rfl,rfl,e5,rfl⟩:=O8.mr.form;have e1':v1=.slice z1 m.xs.length y1:=e1.trans (by rw [show ({ m with xs:=m.xs.set (ff m.xs - 1) true,fs:=m.fs.set 0 true }:MD).xs.length=m.xs.length from List.length_set ..]);have e5':v5=.slice z5 m.fs.length y5:=e5.trans (by rw [show ({ m with xs:=m.xs.set (ff m.xs - 1) true,fs:=m.fs.set 0 true }:MD).fs.length=m.fs.length from List.length_set ..]);clear e1 e5;subst e1' e5';rw [hz];exact ⟨z1,y1,z2,y2,z3,y3,z4,y4,z5,y5,z6,y6,rfl,O8,B8⟩
     have HSH:Hid (Sh Z0 { m with xs:=m.xs.set (ff m.xs - 1) true,fs:=m.fs.set 0 true,is:=m.is.set j (m.is[j].1,m.is[j].2.1,m.is[j].2.2.set q ((qn:Int)+1)),bs:=(m.bs.set qn (true,noSl,⟨#[]⟩)) }):=by
      rw [← hz];have e0:=HXX.out;exact (zjk HM.out hf j q hj (by simp only [e0];omega) (by simp only [e0];exact HPN.out)).block qn noSl_ok
     go_wp2_with fail
     refine CT.out.mono ?_;rintro e w8 ⟨z1,y1,z2,y2',z3,y3,z4,y4,z5,y5,z6,y6,rfl,O8,B8⟩;obtain ⟨W9,hW9⟩:∃ W9,w8.alloc (.cells #[.slice z1 m.xs.length y1,.slice z2 m.ys.length y2',.slice z3 m.is.length y3,.slice z4 m.bs.length y4,.slice z5 m.fs.length y5,.slice z6 m.ds.length y6,.int .i64 m.nx] 33)=W9:=⟨_,rfl⟩
     obtain ⟨bn,hbn⟩:∃ bn,w8.heap.size=bn:=⟨_,rfl⟩
     have HP9:Hid (PM W9 (fun k=>wo.heap.size<=k/\k < bn) bn (.slice z1 m.xs.length y1) (.slice z2 m.ys.length y2') (.slice z3 m.is.length y3) (.slice z4 m.bs.length y4) (.slice z5 m.fs.length y5) (.slice z6 m.ds.length y6) ({ m with xs:=m.xs.set (ff m.xs - 1) true,fs:=m.fs.set 0 true }:MD)/\Below wo.heap.size wo W9/\wo.heap.size<=bn/\bn < W9.heap.size):=by
      rw [← hW9];have z8:=B8.size;refine ⟨⟨?_,(O8.bound.below ((Below.refl _ w8).alloc nR _) nR).mono (fun k hk=>by have:wo.heap.size<=k/\k < w8.heap.size:=hk;omega),by omega⟩,B8.alloc z8 _,by omega,by simp;omega⟩;rw [← hbn];exact AtC.new w8 33 _
     have hqb:(((qn:Int)+1) == 0)=false:=beq_eq_false_iff_ne.mpr (by omega);obtain ⟨gb,cb,pb,eb,kb0,kb1,kb2,-,hfz,hgl,hgS⟩:=HP9.out.1.blkAt qn (show qn < m.bs.length by rw [HM.out.b];exact hq16);simp only [Value.slice.injEq,true_and] at eb;obtain ⟨rfl,rfl⟩:=eb;obtain ⟨v0,kb0⟩:∃ v0,W9.cell? ⟨gb,qn * 3,none⟩=some v0:=⟨_,kb0⟩
     obtain ⟨v2,kb2⟩:∃ v2,W9.cell? ⟨gb,qn * 3+2,none⟩=some v2:=⟨_,kb2⟩
     have xn3:=HP9.out.1.box.c3;have f0:=hfz (qn * 3);have f1:=hfz (qn * 3+1);have f2:=hfz (qn * 3+2);have HW9:Hid (∀ W,Below W9.heap.size W9 W->W.cell? ⟨bn,3,none⟩=some (.slice (some ⟨gb,0,none⟩) m.bs.length y4)/\W.cell? ⟨gb,qn * 3,none⟩=some v0/\W.cell? ⟨gb,qn * 3+1,none⟩=some pb/\W.cell? ⟨gb,qn * 3+2,none⟩=some v2/\W.frozen? ⟨gb,qn * 3,none⟩=false/\W.frozen? ⟨gb,qn * 3+1,none⟩=false/\W.frozen? ⟨gb,qn * 3+2,none⟩=false):=fun W bb=>⟨(bb.cell (p:=⟨bn,3,none⟩) HP9.out.2.2.2).trans xn3,(bb.cell (p:=⟨gb,qn * 3,none⟩) hgl).trans kb0,(bb.cell (p:=⟨gb,qn * 3+1,none⟩) hgl).trans kb1,(bb.cell (p:=⟨gb,qn * 3+2,none⟩) hgl).trans kb2,(bb.frozen (p:=⟨gb,qn * 3,none⟩) hgl).trans f0,(bb.frozen (p:=⟨gb,qn * 3+1,none⟩) hgl).trans f1,(bb.frozen (p:=⟨gb,qn * 3+2,none⟩) hgl).trans f2⟩
     have HPUT:Hid (∀ (W:World) (sa:Option Addr) (sc:Nat),SOwns W W9.heap.size 49 (.slice sa 4 sc) noSl->Below W9.heap.size W9 W->∃ S9:Nat->Prop,PM (((W.setCell ⟨gb,qn * 3,none⟩ (.bool true)).setCell ⟨gb,qn * 3+1,none⟩ (.slice sa 4 sc)).setCell ⟨gb,qn * 3+2,none⟩ (.string ⟨#[]⟩)) S9 bn (.slice z1 m.xs.length y1) (.slice z2 m.ys.length y2') (.slice z3 m.is.length y3) (.slice (some ⟨gb,0,none⟩) m.bs.length y4) (.slice z5 m.fs.length y5) (.slice z6 m.ds.length y6) { ({ m with xs:=m.xs.set (ff m.xs - 1) true,fs:=m.fs.set 0 true }:MD) with bs:=(m.bs.set qn (true,noSl,⟨#[]⟩)) }/\(∀ k,S9 k->wo.heap.size<=k)/\Below wo.heap.size wo (((W.setCell ⟨gb,qn * 3,none⟩ (.bool true)).setCell ⟨gb,qn * 3+1,none⟩ (.slice sa 4 sc)).setCell ⟨gb,qn * 3+2,none⟩ (.string ⟨#[]⟩))):=fun W sa sc O bb=>by
      obtain ⟨P9,b9,l9,l9'⟩:=HP9.out;have hp:=(P9.below bb).putB rfl qn (show qn < m.bs.length by rw [HM.out.b];exact hq16) (.bool true,.slice sa 4 sc,.string ⟨#[]⟩) (true,noSl,⟨#[]⟩) ⟨rfl,O.base_le (Nat.zero_le _),rfl⟩ (fun k hk=>by
       have h1:=(O.lt k hk).1;exact ⟨fun e=>by have:=e.2;omega,by omega⟩)
      have hg:wo.heap.size<=gb:=hgS.1;have bo:=b9.trans (bb.mono b9.size);refine ⟨_,hp.1,fun k hk=>?_,((bo.setCell (p:=⟨gb,qn * 3,none⟩) hg _).setCell (p:=⟨gb,qn * 3+1,none⟩) hg _).setCell (p:=⟨gb,qn * 3+2,none⟩) hg _⟩;rcases hk with h | h
      ·exact h.1
      ·have h1:=(O.lt k h).1;have:=b9.size;omega
     have hwp:IntKind.i64.wrap (qn:Int)=(qn:Int):=wrap_small _ (by omega) (by omega);have qn0:(0:Int)<=(qn:Int):=by omega
     have qn1:(qn:Int) < (m.bs.length:Int):=by have:=HM.out.b;omega
     clear O8 B8 CT p1 p2 x0 x1 x2 x3 x4 x5 x6 y2 kp hfz;go_upto_region 23 with fail
     clear hW9 hbn;go_cut [17] from 130 to 138 (fun c wx=>c=.pointer (some ⟨bn,0,none⟩)/\∃ S9:Nat->Prop,PM wx S9 bn (.slice z1 m.xs.length y1) (.slice z2 m.ys.length y2') (.slice z3 m.is.length y3) (.slice (some ⟨gb,0,none⟩) m.bs.length y4) (.slice z5 m.fs.length y5) (.slice z6 m.ds.length y6) { ({ m with xs:=m.xs.set (ff m.xs - 1) true,fs:=m.fs.set 0 true }:MD) with bs:=(m.bs.set qn (true,noSl,⟨#[]⟩)) }/\(∀ k,S9 k->wo.heap.size<=k)/\Below wo.heap.size wo wx)
     case first =>
      go_region_with (go_at_call 127;refine (zh5 _).mono ?_;rintro e w10 ⟨sa,sc,rfl,O10,B10⟩;have HO10:=hide (And.intro O10 B10);obtain ⟨n0,n1,n2,n3,n4,n5,n6⟩:=HW9.out w10 (zac B10);clear O10 B10)
      all_goals (go_wp2_with fail;go_meet;exact ⟨rfl,HPUT.out w10 sa sc HO10.out.1 (zac HO10.out.2)⟩)
     case rest =>
      obtain ⟨rfl,S9,P10,hS9,B10⟩:=hcut
      replace P10:=P10.bound
      have hbnw:wo.heap.size<=bn:=HP9.out.2.2.1;obtain ⟨gi,ci,gs,cs,ei,-,k2,kt,kf,kS,-,hput⟩:=P10.ptrAt j hj q (show q < m.is[j].2.2.length by have e0:=HXX.out;simp only [e0];exact hql);simp only [Value.slice.injEq,true_and] at ei;obtain ⟨rfl,rfl⟩:=ei;have hps:m.is[j].2.2.length=ps.length:=by have e0:=HXX.out;simp only [e0]
      have k2':wc.cell? ⟨gi,j * 3+2,none⟩=some (.slice (some ⟨gs,0,none⟩) ps.length cs):=by rw [← hps];exact k2
      obtain ⟨zv,kt'⟩:∃ zv,wc.cell? ⟨gs,q,none⟩=some zv:=⟨_,kt⟩
      have xn2:=P10.box.c2;obtain ⟨W11,hW11⟩:∃ W11,wc.setCell ⟨gs,q,none⟩ (.int .i64 ((qn:Int)+1))=W11:=⟨_,rfl⟩
      have HB11:Hid (BBx (m.bs.set qn (true,noSl,⟨#[]⟩)) W11 (fun k=>wo.heap.size<=k) bn/\Below wo.heap.size wo W11):=by
       rw [← hW11];have hgs:wo.heap.size<=gs:=hS9 gs kS.1;exact ⟨⟨_,_,_,_,_,_,_,_,hput _,fun k hk=>hS9 k hk.1,hbnw,HSH.out,rfl⟩,B10.setCell (p:=⟨gs,q,none⟩) hgs _⟩
      obtain ⟨U,hU⟩:∃ U,uoB ((qn:Int)+1)=U:=⟨_,rfl⟩
      have CU:Hid (∀ W,Calls Tryz.prog 101 #[.int .i64 ((qn:Int)+1)] W fun e w'=>e=.returned (.int .i64 U)/\w'=W):=fun W=>by rw [← hU];exact za7 _ W
      obtain ⟨U2,hU2⟩:∃ U2,uoI ((j:Int)+1)=U2:=⟨_,rfl⟩
      have CU2:Hid (∀ W,Calls Tryz.prog 96 #[.int .i64 ((j:Int)+1)] W fun e w'=>e=.returned (.int .i64 U2)/\w'=W):=fun W=>by rw [← hU2];exact zbe _ W
      clear hU hU2 hput k2 kt hps HSH P10 hS9 B10 kS HP9 HPUT HW9 hgS hgl kb0 kb1 kb2 xn3 f0 f1 f2;go_wp2_with fail
      refine (CU.out _).mono ?_;rintro e w9' ⟨rfl,hw9⟩;rw [hw9];clear hw9 w9' hW11 k2' kt' xn2 kf;go_wp2_with fail
      refine (zcz _ _ bn U W11 HB11.out.1).mono ?_;rintro e w12 ⟨rfl,b12,c12⟩;have HB12:Hid (BBx (m.bs.set qn (true,noSl,⟨#[]⟩)) w12 (fun k=>wo.heap.size<=k) bn/\Below wo.heap.size wo w12):=⟨b12,HB11.out.2.trans (c12.below HB11.out.2.size (fun k hk=>hk))⟩
      clear b12 c12 HB11 CU;go_wp2_with fail
      refine (CU2.out _).mono ?_;rintro e w9' ⟨rfl,hw9⟩;rw [hw9];clear hw9 w9';go_wp2_with fail
      refine (zcz _ _ bn U2 w12 HB12.out.1).mono ?_;rintro e w13 ⟨rfl,b13,c13⟩;have HB13:Hid (Below wo.heap.size wo w13):=HB12.out.2.trans (c13.below HB12.out.2.size (fun k hk=>hk));obtain ⟨SB,u,v,iv,bv,dv,pv,mb,PB,hSB,hTB,hmB,hbB⟩:=b13;obtain ⟨h1,k1,h2,k2,h3,k3,h4,k4,h5,k5,h6,k6,rfl,rfl,rfl,rfl,rfl,rfl⟩:=PB.form;obtain ⟨t0,t1,t2,t3,t4,t5,t6⟩:=AtC.sev PB.box;have HPB:=hide (And.intro PB (And.intro hmB hbB));have HDO:Hid (DOkN ⟨mb.nx,1,(j:Int)+1,(q:Int),(qn:Int)+1,0,⟨#[]⟩,false,false,0,[]⟩):=⟨⟨by show 1<=(j:Int)+1;omega,by show (j:Int)+1<=8;omega⟩,⟨by show (0:Int)<=q;omega,by show (q:Int)<=1;omega⟩,⟨by show (0:Int)<=(qn:Int)+1;omega,by show (qn:Int)+1<=16;omega⟩,by simp,fun p hp=>by simp at hp,by simp,by show (0:Nat)<=6;omega⟩
      clear PB hSB hTB hmB hbB c13 HB12 CU2;go_wp2_with fail
      refine (zhb 0 1 ((j:Int)+1) q ((qn:Int)+1) 0 ⟨#[]⟩ false false 0 [] _ _ _ _ _ _ _ mb w13 HPB.out.1.mr HPB.out.2.1 ⟨none,0,rfl,fun j hj=>by simp at hj⟩ HDO.out (fun e=>absurd e (by decide))).mono ?_;rintro e wn ⟨u1,u2,u3,u4,u5,u6,mn,rr,rfl,On,hSn,hbn,-,-,Bn⟩;obtain ⟨q1',r1,q2,r2,q3,r3,q4,r4,q5,r5,q6,r6,rfl,rfl,rfl,rfl,rfl,rfl⟩:=On.mr.form;have AN:AtC wn bn 33 #[.slice h1 mb.xs.length k1,.slice h2 mb.ys.length k2,.slice h3 mb.is.length k3,.slice h4 mb.bs.length k4,.slice h5 mb.fs.length k5,.slice h6 mb.ds.length k6,.int .i64 mb.nx]:=HPB.out.1.box.over Bn;have bnn:Below wo.heap.size wo wn:=HB13.out.trans (Bn.mono HB13.out.size);have AO:AtC wn b 33 #[.slice a1 m.xs.length c1,.slice a2 m.ys.length c2,.slice (some ⟨g2,o2,none⟩) m.is.length c3,.slice a4 m.bs.length c4,.slice a5 m.fs.length c5,.slice a6 m.ds.length c6,.int .i64 m.nx]:=HP0.out.box.over bnn;have hbo:b < wo.heap.size:=HP0.out.box.lt;have hne:b≠bn:=by omega
      have hne':bn≠b:=by omega
      obtain ⟨s0,s1,s2,s3,s4,s5,s6⟩:=AtC.sev AN;obtain ⟨x0,x1,x2,x3,x4,x5,x6⟩:=AtC.sev AO;have f0:=AN.frozen 0;have f1:=AN.frozen 1;have f2:=AN.frozen 2;have f3:=AN.frozen 3;have f4:=AN.frozen 4;have f5:=AN.frozen 5;have f6:=AN.frozen 6;have e0:=AO.frozen 0;have e1:=AO.frozen 1;have e2:=AO.frozen 2;have e3:=AO.frozen 3;have e4:=AO.frozen 4;have e5:=AO.frozen 5;have e6:=AO.frozen 6;have HFN:Hid (PM ((((((((((((((wn.setCell ⟨bn,0,none⟩ (.slice q1' mn.xs.length r1)).setCell ⟨bn,1,none⟩ (.slice q2 mn.ys.length r2)).setCell ⟨bn,2,none⟩ (.slice q3 mn.is.length r3)).setCell ⟨bn,3,none⟩ (.slice q4 mn.bs.length r4)).setCell ⟨bn,4,none⟩ (.slice q5 mn.fs.length r5)).setCell ⟨bn,5,none⟩ (.slice q6 mn.ds.length r6)).setCell ⟨bn,6,none⟩ (.int .i64 mn.nx)).setCell ⟨b,0,none⟩ (.slice q1' mn.xs.length r1)).setCell ⟨b,1,none⟩ (.slice q2 mn.ys.length r2)).setCell ⟨b,2,none⟩ (.slice q3 mn.is.length r3)).setCell ⟨b,3,none⟩ (.slice q4 mn.bs.length r4)).setCell ⟨b,4,none⟩ (.slice q5 mn.fs.length r5)).setCell ⟨b,5,none⟩ (.slice q6 mn.ds.length r6)).setCell ⟨b,6,none⟩ (.int .i64 mn.nx)) (fun k=>w13.heap.size<=k) b (.slice q1' mn.xs.length r1) (.slice q2 mn.ys.length r2) (.slice q3 mn.is.length r3) (.slice q4 mn.bs.length r4) (.slice q5 mn.fs.length r5) (.slice q6 mn.ds.length r6) mn/\Sh Z0 mn/\mn.bs=(m.bs.set qn (true,noSl,⟨#[]⟩))/\Chg T w ((((((((((((((wn.setCell ⟨bn,0,none⟩ (.slice q1' mn.xs.length r1)).setCell ⟨bn,1,none⟩ (.slice q2 mn.ys.length r2)).setCell ⟨bn,2,none⟩ (.slice q3 mn.is.length r3)).setCell ⟨bn,3,none⟩ (.slice q4 mn.bs.length r4)).setCell ⟨bn,4,none⟩ (.slice q5 mn.fs.length r5)).setCell ⟨bn,5,none⟩ (.slice q6 mn.ds.length r6)).setCell ⟨bn,6,none⟩ (.int .i64 mn.nx)).setCell ⟨b,0,none⟩ (.slice q1' mn.xs.length r1)).setCell ⟨b,1,none⟩ (.slice q2 mn.ys.length r2)).setCell ⟨b,2,none⟩ (.slice q3 mn.is.length r3)).setCell ⟨b,3,none⟩ (.slice q4 mn.bs.length r4)).setCell ⟨b,4,none⟩ (.slice q5 mn.fs.length r5)).setCell ⟨b,5,none⟩ (.slice q6 mn.ds.length r6)).setCell ⟨b,6,none⟩ (.int .i64 mn.nx))/\w.heap.size<=w13.heap.size):=by
       have z13:=HB13.out.size;have zo:=HBW.out.2;have bnT:T bn:=HTT.out bn (by omega);have bT:=HTB.out.1;have cw:Chg T w wn:=Chg.of_below (HBW.out.1.trans (bnn.mono (by omega)));have lbn:=HPB.out.1.box.lt;refine ⟨PM.store ((zaa _ _ _ _ _ _ _ _ _ b hne).trans AO) (On.of_heap fun k hk _=>zaa _ _ _ _ _ _ _ _ _ k (by have:w13.heap.size<=k:=hk;omega)) (by omega),hSn,hbn.trans HPB.out.2.2,?_,by omega⟩;exact (((((((((((((cw.setCell bnT _).setCell bnT _).setCell bnT _).setCell bnT _).setCell bnT _).setCell bnT _).setCell bnT _).setCell bT _).setCell bT _).setCell bT _).setCell bT _).setCell bT _).setCell bT _).setCell bT _
      clear AN AO On hSn Bn HPB HDO HB13 hbn bnn;go_wp2_with fail
      go_meet
      refine ⟨qn,0,_,_,_,_,_,_,_,mn,rfl,rfl,hq16,by omega,HFN.out.1,fun k hk=>HTT.out k (Nat.le_trans HFN.out.2.2.2.2 hk),HFN.out.2.1,?_,?_,fun e=>?_,HFN.out.2.2.2.1⟩
      ·rw [HFN.out.2.2.1];exact (Keep.refl m).block qn _ HXF.out
      ·rw [HFN.out.2.2.1];have hbl:qn < m.bs.length:=by rw [HM.out.b];exact hq16
       exact ⟨(⟨#[]⟩,0),by unfold slotO;rw [List.getElem?_set_self hbl];rfl⟩
      ·have:=HXF.out;rw [e] at this;simp at this
   case rest =>
    obtain ⟨pn,t,S',u,v,iv,bv,dv,pv,m',rfl,rfl,hpn,ht4,P8,hS8,hm8,hk8,hso8,hfr8,hc8⟩:=hcut
    replace P8:=P8.bound
    obtain ⟨f1,e1,f2,e2,f3,e3,f4,e4,f5,e5,f6,e6,rfl,rfl,rfl,rfl,rfl,rfl⟩:=P8.form;obtain ⟨s0,hs0⟩:=hso8;obtain ⟨hpl,htl,-⟩:=zer hs0;obtain ⟨gb,cb,gs,cs,eb,k0,k1,k2,k3,hfz,hgS,hgl,hput⟩:=P8.slotAt pn hpl t htl;simp only [Value.slice.injEq,true_and] at eb;obtain ⟨rfl,rfl⟩:=eb;obtain ⟨sl,hsl⟩:∃ sl,m'.bs[pn].2.1.length=sl:=⟨_,rfl⟩
    have htl':t < sl:=by rw [← hsl];exact htl
    rw [hsl] at k1;obtain ⟨v2,k2⟩:∃ v2,wc.cell? ⟨gs,t * 2,none⟩=some v2:=⟨_,k2⟩
    obtain ⟨v3,k3⟩:∃ v3,wc.cell? ⟨gs,t * 2+1,none⟩=some v3:=⟨_,k3⟩
    have hkk:=hm8.bb _ (List.getElem_mem hpl);have HIO:=hide HIN.out;obtain ⟨W9,hW9⟩:∃ W9,(wc.setCell ⟨gs,t * 2,none⟩ (.string nm)).setCell ⟨gs,t * 2+1,none⟩ (.int .i64 ino)=W9:=⟨_,rfl⟩
    have HB9:Hid (BBx (m'.bs.set pn (m'.bs[pn].1,m'.bs[pn].2.1.set t (nm,ino),m'.bs[pn].2.2)) W9 T b/\Chg T w W9/\Keep m (m'.bs.set pn (m'.bs[pn].1,m'.bs[pn].2.1.set t (nm,ino),m'.bs[pn].2.2))):=by
     rw [← hW9];have gT:T gs:=hS8 gs hgS.1;refine ⟨⟨_,_,_,_,_,_,_,_,hput nm ino,fun k hk=>hS8 k hk.1,HTB.out.1,hm8.block pn ⟨fun e=>by rw [List.length_set];exact hkk.n e,by rw [List.length_set];exact hkk.m,fun s hs=>(List.mem_or_eq_of_mem_set hs).elim (hkk.s s) (fun e=>e ▸ ⟨HN6.out,.inr HIO.out⟩),hkk.t⟩,rfl⟩,(hc8.setCell gT _).setCell gT _,hk8.slot pn t hpl (nm,ino) hfr8⟩
    obtain ⟨BB,hBB⟩:∃ BB,m'.bs.set pn (m'.bs[pn].1,m'.bs[pn].2.1.set t (nm,ino),m'.bs[pn].2.2)=BB:=⟨_,rfl⟩
    rw [hBB] at HB9;have x3:=P8.box.c3;have z0:=hfz (t * 2);have z1:=hfz (t * 2+1);have hwp:IntKind.i64.wrap (pn:Int)=(pn:Int):=wrap_small _ (by omega) (by omega);have pn0:(0:Int)<=(pn:Int):=by omega
    have pn1:(pn:Int) < (m'.bs.length:Int):=by omega
    have t0:(0:Int)<=(t:Int):=by omega
    have t1:(t:Int) < (sl:Int):=by omega
    obtain ⟨U,hU⟩:∃ U,uoB ((pn:Int)+1)=U:=⟨_,rfl⟩
    have CU:Hid (∀ W,Calls Tryz.prog 101 #[.int .i64 ((pn:Int)+1)] W fun e w'=>e=.returned (.int .i64 U)/\w'=W):=fun W=>by rw [← hU];exact za7 _ W
    clear hU hput hfz P8 hkk hs0 hBB hfr8 hk8 hm8 hS8 hc8 hsl;go_wp2_with fail
    refine (CU.out _).mono ?_;rintro e w9' ⟨rfl,hw9⟩;rw [hw9];clear hw9 w9' k0 k1 k2 k3 x3 z0 z1 hW9;go_wp2_with fail
    refine (zcz _ _ b U W9 HB9.out.1).mono ?_;rintro e w10 ⟨rfl,b10,c10⟩;have HB10:Hid (BBx BB w10 T b/\Chg T w w10):=⟨b10,HB9.out.2.1.trans c10⟩
    clear b10 c10 CU;go_wp2_with fail
    refine (zcz _ _ b 0 w10 HB10.out.1).mono ?_;rintro e w11 ⟨rfl,b11,c11⟩;have HC11:Hid (Chg T w w11):=HB10.out.2.trans c11;obtain ⟨SB,u,v,iv,bv,dv,pv,mb,PB,hSB,hTB,hmB,hbB⟩:=b11;obtain ⟨h1,k1,h2,k2,h3,k3,h4,k4,h5,k5,h6,k6,rfl,rfl,rfl,rfl,rfl,rfl⟩:=PB.form;obtain ⟨y0,y1,y2,y3,y4,y5,y6⟩:=AtC.sev PB.box;have HPB:=hide (And.intro PB (And.intro hmB hbB));have HDO:Hid (DOkN ⟨mb.nx,2,ino,0,(pn:Int)+1,(t:Int),⟨#[]⟩,false,false,0,[]⟩):=⟨HIO.out,by simp,⟨by show (0:Int)<=(pn:Int)+1;omega,by show (pn:Int)+1<=16;omega⟩,⟨by show (0:Int)<=t;omega,by show (t:Int)<=3;omega⟩,fun p hp=>by simp at hp,by simp,by show (0:Nat)<=6;omega⟩
    clear PB hSB hTB hmB hbB c11 HB10;go_wp2_with fail
    refine (zhb 0 2 ino 0 ((pn:Int)+1) t ⟨#[]⟩ false false 0 [] _ _ _ _ _ _ _ mb w11 HPB.out.1.mr HPB.out.2.1 ⟨none,0,rfl,fun j hj=>by simp at hj⟩ HDO.out (fun e=>absurd e (by decide))).mono ?_;rintro e wn ⟨u1,u2,u3,u4,u5,u6,mn,rr,rfl,On,hSn,hbn,hr0,hr9,Bn⟩;obtain ⟨q1',r1,q2,r2,q3,r3,q4,r4,q5,r5,q6,r6,rfl,rfl,rfl,rfl,rfl,rfl⟩:=On.mr.form;obtain ⟨WA,hWA⟩:∃ WA,wn.alloc (.cells #[.slice q1' mn.xs.length r1,.slice q2 mn.ys.length r2,.slice q3 mn.is.length r3,.slice q4 mn.bs.length r4,.slice q5 mn.fs.length r5,.slice q6 mn.ds.length r6,.int .i64 mn.nx] 33)=WA:=⟨_,rfl⟩
    have bA:Below wn.heap.size wn WA:=by rw [← hWA];exact (Below.refl _ wn).alloc nR _
    have AO:AtC WA b 33 #[.slice h1 mb.xs.length k1,.slice h2 mb.ys.length k2,.slice h3 mb.is.length k3,.slice h4 mb.bs.length k4,.slice h5 mb.fs.length k5,.slice h6 mb.ds.length k6,.int .i64 mb.nx]:=(HPB.out.1.box.over Bn).over bA;have AN:AtC WA wn.heap.size 33 #[.slice q1' mn.xs.length r1,.slice q2 mn.ys.length r2,.slice q3 mn.is.length r3,.slice q4 mn.bs.length r4,.slice q5 mn.fs.length r5,.slice q6 mn.ds.length r6,.int .i64 mn.nx]:=by rw [← hWA];exact AtC.new wn 33 _
    have hbo:b < w11.heap.size:=HPB.out.1.box.lt;have hzz:=Bn.size;obtain ⟨s0,s1,s2,s3,s4,s5,s6⟩:=AtC.sev AN;have g0:=AO.frozen 0;have g1:=AO.frozen 1;have g2:=AO.frozen 2;have g3:=AO.frozen 3;have g4:=AO.frozen 4;have g5:=AO.frozen 5;have g6:=AO.frozen 6;obtain ⟨x0,x1,x2,x3,x4,x5,x6⟩:=AtC.sev AO;have HFN:Hid (PM (((((((WA.setCell ⟨b,0,none⟩ (.slice q1' mn.xs.length r1)).setCell ⟨b,1,none⟩ (.slice q2 mn.ys.length r2)).setCell ⟨b,2,none⟩ (.slice q3 mn.is.length r3)).setCell ⟨b,3,none⟩ (.slice q4 mn.bs.length r4)).setCell ⟨b,4,none⟩ (.slice q5 mn.fs.length r5)).setCell ⟨b,5,none⟩ (.slice q6 mn.ds.length r6)).setCell ⟨b,6,none⟩ (.int .i64 mn.nx)) (fun k=>w11.heap.size<=k) b (.slice q1' mn.xs.length r1) (.slice q2 mn.ys.length r2) (.slice q3 mn.is.length r3) (.slice q4 mn.bs.length r4) (.slice q5 mn.fs.length r5) (.slice q6 mn.ds.length r6) mn/\Sh Z0 mn/\Keep m mn.bs/\Chg T w (((((((WA.setCell ⟨b,0,none⟩ (.slice q1' mn.xs.length r1)).setCell ⟨b,1,none⟩ (.slice q2 mn.ys.length r2)).setCell ⟨b,2,none⟩ (.slice q3 mn.is.length r3)).setCell ⟨b,3,none⟩ (.slice q4 mn.bs.length r4)).setCell ⟨b,4,none⟩ (.slice q5 mn.fs.length r5)).setCell ⟨b,5,none⟩ (.slice q6 mn.ds.length r6)).setCell ⟨b,6,none⟩ (.int .i64 mn.nx))/\w.heap.size<=w11.heap.size/\0<=rr/\rr<=99999):=by
     have z11:=HC11.out.size;have bT:=HTB.out.1;have cw:Chg T w WA:=HC11.out.trans (Chg.of_below (Bn.trans (bA.mono Bn.size)));refine ⟨PM.store AO (On.below bA nR) (by omega),hSn,by rw [hbn,HPB.out.2.2];exact HB9.out.2.2,?_,by omega,hr0,hr9⟩;exact ((((((cw.setCell bT _).setCell bT _).setCell bT _).setCell bT _).setCell bT _).setCell bT _).setCell bT _
    clear AN AO On hSn Bn HPB HDO HB9 hbn bA hr0 hr9 HC11;go_wp2;go_ret;exact ⟨⟨rr,rfl,HFN.out.2.2.2.2.2.1,HFN.out.2.2.2.2.2.2⟩,⟨_,_,_,_,_,_,_,mn,HFN.out.1,fun k hk=>HTT.out k (Nat.le_trans HFN.out.2.2.2.2.1 hk),HTB.out.1,HFN.out.2.1,HFN.out.2.2.1⟩,HFN.out.2.2.2.1⟩
  obtain ⟨q,rfl⟩:∃ q:Nat,kz=(q:Int):=⟨kz.toNat,by omega⟩
  have hq:q < ps.length:=by omega
  obtain ⟨A0,P0,rI,-,-⟩:=HC.out wo HR.out.2;obtain ⟨pa',pc',e1,hcp⟩:=rI;simp only [Value.slice.injEq,true_and] at e1;obtain ⟨rfl,rfl⟩:=e1;obtain ⟨gp',op',e2,hgp,kp⟩:=hcp q hq;simp only [Option.some.injEq,Addr.mk.injEq,and_true] at e2;obtain ⟨rfl,rfl⟩:=e2;obtain ⟨Pn,hPn⟩:∃ Pn,ps[q]=Pn:=⟨_,rfl⟩
  rw [hPn] at kp;have CB:=hide (fun (W:World) (hd:Below wo.heap.size wo W)=>zey Pn (.slice a1 m.xs.length c1) (.slice a2 m.ys.length c2) (.slice (some ⟨g2,o2,none⟩) m.is.length c3) (.slice a4 m.bs.length c4) m.xs m.ys m.is m.bs wo W P0.mr.d hd (by rw [HM.out.b];decide));have hb4:=zh6 HM.out Pn;obtain ⟨⟨bd,bss,btx⟩,hBD⟩:∃ X,blkAt m.bs Pn=X:=⟨_,rfl⟩
  obtain ⟨F,hF⟩:∃ F,inB Pn 1 m.bs.length=F:=⟨_,rfl⟩
  have HSL:Hid (F=true->∃ jb:Nat,Pn=(jb:Int)+1/\jb < 16/\∀ (t:Nat) (h:t < bss.length),slotO m.bs jb t=some bss[t]):=fun e=>by
   rw [e] at hF;obtain ⟨jb,hb,e1,e2⟩:=zdp hF;rw [hBD] at e2;have e3:bss=m.bs[jb].2.1:=congrArg (fun z:Blk=>z.2.1) e2;subst e3;exact ⟨jb,e1,by rw [← HM.out.b];exact hb,fun t h=>zg9 hb h⟩
  rw [hBD,hF] at CB;rw [hBD] at hb4;simp only at hb4;have q0:(0:Int)<=(q:Int):=by omega
  have q1:(q:Int) < (ps.length:Int):=by omega
  have HKP:Hid (∀ W,Below wo.heap.size wo W->W.cell? ⟨gp,op+q,none⟩=some (.int .i64 Pn)):=fun W b=>(b.cell (p:=⟨gp,op+q,none⟩) hgp).trans kp;have HWR:Hid (∀ W,Below wo.heap.size wo W->AtC W w.heap.size 37 #[.int .i64 kd,.int .i64 ln,.slice (some ⟨gp,op,none⟩) ps.length pc]/\PM W (fun k=>S k/\k < w.heap.size) b (.slice a1 m.xs.length c1) (.slice a2 m.ys.length c2) (.slice (some ⟨g2,o2,none⟩) m.is.length c3) (.slice a4 m.bs.length c4) (.slice a5 m.fs.length c5) (.slice a6 m.ds.length c6) m/\Below W1.heap.size W1 W):=fun W b=>⟨A0.over b,P0.below b,HR.out.2.trans (b.mono HR.out.2.size)⟩
  clear hPn kp hcp hBD hF A0 P0 hgp;go_upto_region 7 with fail
  go_cut [13,14] from 34 to 100 (fun bv ok wx=>∃ (bw:Nat) (sa:Option Addr) (sc:Nat),bv=.pointer (some ⟨bw,0,none⟩)/\ok=.bool F/\AtC wx bw 44 #[.bool bd,.slice sa bss.length sc,.string btx]/\RSl wx (.slice sa bss.length sc) bss/\Below wo.heap.size wo wx)
  case first =>
   refine zar (by kernel_rfl) [0,1,2,3,4,5,6,7,8,9,10,11,12,13] [14,15] [([0,1,2,3,4,5,6,7,8,9,10,11,13],[[12,14,15],[14,12,15]])] (fun i=>match i with|0=>.const [] (.pointer (some ⟨b,0,none⟩))|1=>.const [0] (.pointer (some ⟨b,0,none⟩))|2=>.const [1] (.pointer (some ⟨b,0,none⟩))|3=>.const [2] (.agg #[.slice a1 m.xs.length c1,.slice a2 m.ys.length c2,.slice (some ⟨g2,o2,none⟩) m.is.length c3,.slice a4 m.bs.length c4])|4=>.const [] (.pointer (some ⟨w.heap.size,2,none⟩))|5=>.const [4] (.slice (some ⟨gp,op,none⟩) ps.length pc)|6=>.const [] (.int .i64 (q:Int))|7=>.const [5,6] (.pointer (some ⟨gp,op+q,none⟩))|8=>.const [7] (.int .i64 Pn)|9=>MkT2 [3,8] (BlkR wo bd btx bss F) BlkR.below|10=>MkMv 9|11=>MkFs 10|12=>MkSd 10|13=>MkW 44 #[.bool false,.slice none 0 0,.string ⟨#[]⟩]|_=>.triv) (fun x=>⟨List.toArray ((.pointer (some ⟨b,0,none⟩))::(.int .i64 (↑j+1))::(.string nm)::(.int .i64 ino)::(undef)::(undef)::(undef)::(undef)::(.int .i64 0)::(.pointer (some ⟨w.heap.size,0,none⟩))::(.int .i64 B)::(.int .i64 s)::(.int .i64 ↑q)::(x 13)::(u14)::(u15)::(undef)::(undef)::(undef)::(undef)::(undef)::(.pointer (some ⟨b,0,none⟩))::(.pointer (some ⟨b,0,none⟩))::(.pointer (some ⟨b,0,none⟩))::(.pointer (some ⟨b,2,none⟩))::(.slice (some ⟨g2,o2,none⟩) m.is.length c3)::(.int .i64 (↑j+1))::(.int .i64 ↑j)::(.pointer (some ⟨g2,o2+j * 3,none⟩))::(.agg #[.int .i64 kd,.int .i64 ln,.slice (some ⟨gp,op,none⟩) ps.length pc])::(.pointer (some ⟨w.heap.size,2,none⟩))::(.slice (some ⟨gp,op,none⟩) ps.length pc)::(.int .i64 ↑ps.length)::(.int .i64 (↑ps.length - 1))::(.int .i64 ↑q)::(.bool true)::(u36)::(u37)::(x 10)::(x 0)::(x 1)::(x 2)::(x 3)::(x 4)::(x 5)::(x 6)::(x 7)::(x 8)::(x 9)::(x 11)::(x 12)::(u51)::(u52)::(u53)::(u54)::(u55)::(u56)::(u57)::(u58)::(u59)::(u60)::(u61)::(u62)::(u63)::(u64)::(u65)::(u66)::(u67)::(u68)::(u69)::(u70)::(u71)::(u72)::(u73)::(u74)::(u75)::(u76)::(u77)::(u78)::(u79)::(u80)::(u81)::(u82)::(u83)::(u84)::(u85)::(u86)::(u87)::(u88)::(u89)::(u90)::(u91)::(u92)::(u93)::(u94)::(u95)::(u96)::(u97)::(u98)::(u99)::(u100)::(undef)::(undef)::(undef)::(undef)::(undef)::(undef)::(undef)::(undef)::(undef)::(undef)::(undef)::(undef)::(undef)::(undef)::(undef)::(undef)::(undef)::(undef)::(undef)::(undef)::(undef)::(undef)::(undef)::(undef)::(undef)::(undef)::(undef)::(undef)::(undef)::(undef)::(undef)::(undef)::(undef)::(undef)::(undef)::(undef)::(undef)::(undef)::(undef)::(undef)::(undef)::(undef)::(undef)::(undef)::(undef)::(undef)::(undef)::(undef)::(undef)::(undef)::(undef)::(undef)::(undef)::(undef)::(undef)::(undef)::(undef)::(undef)::(undef)::(undef)::(undef)::(undef)::(undef)::(undef)::(undef)::(undef)::(undef)::(undef)::(undef)::(undef)::(undef)::(undef)::(undef)::(undef)::(undef)::(undef)::(undef)::(undef)::(undef)::(undef)::(undef)::(undef)::(undef)::(undef)::(undef)::(undef)::(undef)::(undef)::(undef)::(undef)::(undef)::(undef)::(undef)::(undef)::(undef)::(undef)::(undef)::(undef)::(undef)::(undef)::(undef)::(undef)::(undef)::(undef)::[]),[]⟩) (fun i=>match i with|0=>u39|1=>u40|2=>u41|3=>u42|4=>u43|5=>u44|6=>u45|7=>u46|8=>u47|9=>u48|10=>u38|11=>u49|12=>u50|13=>u13|_=>undef) rfl (zat (by kernel_rfl) (by kernel_rfl)) (by kernel_rfl) (by kernel_rfl) (by kernel_rfl) rfl ?_ ?_ ?_
   ·intro jo hj so x iw W hd hp K hK;simp only [List.mem_cons,List.not_mem_nil,or_false] at hj;rcases hj with rfl|rfl|rfl|rfl|rfl|rfl|rfl|rfl|rfl|rfl|rfl|rfl|rfl|rfl<;>refine wpOp_step (o:=_) rfl fun K' hK'=>?_<;>have HK:=hide (fun (v:Value) (W':World) h1 h2=>hK' _ _ (hK v W' h1 h2))<;>simp only [upd,Nat.reduceEqDiff,if_true,if_false] at HK
    ·exact cQ9
    ·exact cQ48
    ·exact cQ62
    ·have e2:x 2=.pointer (some ⟨b,0,none⟩):=hp.post 2 (hd 2 mz0);have bw:=zac hp.bel;have k0:=(HWR.out W bw).2.1.box;obtain ⟨q0,q1,q2,q3⟩:=AtC.four k0;clear k0 bw;simp only [e2] at HK ⊢;go_simp;exact HK.out _ _ bR rfl
    ·exact cQ9
    ·have e4:x 4=.pointer (some ⟨w.heap.size,2,none⟩):=hp.post 4 (hd 4 mz0);have bw:=zac hp.bel;have q0:=(HWR.out W bw).1.c2;clear bw;simp only [e4] at HK ⊢;go_simp;exact HK.out _ _ bR rfl
    ·exact cQ9
    ·have e5:x 5=.slice (some ⟨gp,op,none⟩) ps.length pc:=hp.post 5 (hd 5 mz0);have e6:x 6=.int .i64 (q:Int):=hp.post 6 (hd 6 mz1);simp only [e5,e6] at HK ⊢;go_simp;exact HK.out _ _ bR rfl
    ·have e7:x 7=.pointer (some ⟨gp,op+q,none⟩):=hp.post 7 (hd 7 mz0);have bw:=zac hp.bel;have q9:=HKP.out W bw;clear bw;simp only [e7] at HK ⊢;go_simp;exact HK.out _ _ bR rfl
    ·have e3:x 3=.agg #[.slice a1 m.xs.length c1,.slice a2 m.ys.length c2,.slice (some ⟨g2,o2,none⟩) m.is.length c3,.slice a4 m.bs.length c4]:=hp.post 3 (hd 3 mz0);have e8:x 8=.int .i64 Pn:=hp.post 8 (hd 8 mz1);have dr:=zac hp.bel;simp only [e3,e8] at HK ⊢;clear e3 e8;go_simp;refine (CB.out W dr).mono ?_;rintro e w6 ⟨sv,rfl,R6,B6⟩;obtain ⟨sa,sc,rfl,hR6⟩:=R6;go_simp;exact HK.out _ _ B6 ⟨_,_,rfl,sa,sc,rfl,rfl,sa,sc,rfl,hR6⟩
    ·have e9:∃ a r,x 9=.tuple #[a,r]/\BlkR wo bd btx bss F (iw 9).1 (iw 9).2 W a r:=hp.post 9 (hd 9 mz0);obtain ⟨a,r,e9,-⟩:=e9;have ea:=hide e9;simp only [e9] at HK ⊢;clear e9;go_simp;exact HK.out _ _ bR ⟨ea.out,a,r,rfl⟩
    ·have e10:x 9=x 10/\∃ a r,x 10=.tuple #[a,r]:=hp.post 10 (hd 10 mz0);obtain ⟨-,a,r,e10⟩:=e10;have ea:Hid (a=fstOf (x 10)):=by rw [e10];rfl
     simp only [e10] at HK ⊢;clear e10;go_simp;exact HK.out _ _ bR ea.out
    ·have e10:x 9=x 10/\∃ a r,x 10=.tuple #[a,r]:=hp.post 10 (hd 10 mz0);obtain ⟨-,a,r,e10⟩:=e10;have ea:Hid (r=sndOf (x 10)):=by rw [e10];rfl
     simp only [e10] at HK ⊢;clear e10;go_simp;exact HK.out _ _ bR ea.out
    ·exact cQ54
   ·intro x iw W hp;obtain ⟨a,r,e9,R9⟩:=hp.post 9 (by decide);obtain ⟨e10,-⟩:=hp.post 10 (by decide);have e11:x 11=fstOf (x 10):=hp.post 11 (by decide);have e12:x 12=sndOf (x 10):=hp.post 12 (by decide);obtain ⟨e13,z13,A13⟩:=hp.post 13 (by decide);have l13:=hp.lo 13 (by decide);have lc:=hp.lo 9 (by decide);have bel:=zac hp.bel;have ap:=hp.apart 9 (by decide) 13 (by decide) (by decide);rw [← e10,e9] at e11;rw [← e10,e9] at e12
    replace e12:x 12=r:=e12
    rw [e9] at e10
    replace e10:=e10.symm
    replace e11:x 11=a:=e11
    have y0:=A13.c0;have f0:=A13.frozen 0;have y1:=A13.c1;have f1:=A13.frozen 1;have y2:=A13.c2;have f2:=A13.frozen 2;obtain ⟨sa,sc,rfl,rfl,hR⟩:=R9;have hb13:wo.heap.size<=(iw 13).1:=l13.1;have HFI:Hid (AtC W (iw 13).1 44 #[.bool false,.slice none 0 0,.string ⟨#[]⟩]/\RSl wo (.slice sa bss.length sc) bss/\Below wo.heap.size wo W/\wo.heap.size<=(iw 13).1):=⟨A13,hR,bel,hb13⟩
    clear hp A13 hR bel ap lc l13 z13 hb13;simp only [e10,e11,e13,e12] at *;generalize (iw 13).1=bw at *;go_wp2_with fail
    exact cQ25
   ·intro qa hqa l hl x iw W hp;simp only [List.mem_cons,List.not_mem_nil,or_false] at hqa;subst hqa;simp only [List.mem_cons,List.not_mem_nil,or_false] at hl;obtain ⟨a,r,e9,R9⟩:=hp.post 9 (by decide);obtain ⟨e10,-⟩:=hp.post 10 (by decide);have e11:x 11=fstOf (x 10):=hp.post 11 (by decide);obtain ⟨e13,z13,A13⟩:=hp.post 13 (by decide);have l13:=hp.lo 13 (by decide);have lc:=hp.lo 9 (by decide);have bel:=zac hp.bel;have ap:=hp.apart 9 (by decide) 13 (by decide) (by decide);rw [← e10,e9] at e11;rw [e9] at e10
    replace e10:=e10.symm
    replace e11:x 11=a:=e11
    have y0:=A13.c0;have f0:=A13.frozen 0;have y1:=A13.c1;have f1:=A13.frozen 1;have y2:=A13.c2;have f2:=A13.frozen 2;obtain ⟨sa,sc,rfl,rfl,hR⟩:=R9;have hb13:wo.heap.size<=(iw 13).1:=l13.1;have HFI:Hid (AtC W (iw 13).1 44 #[.bool false,.slice none 0 0,.string ⟨#[]⟩]/\RSl wo (.slice sa bss.length sc) bss/\Below wo.heap.size wo W/\wo.heap.size<=(iw 13).1):=⟨A13,hR,bel,hb13⟩
    clear hp A13 hR bel ap lc l13 z13 hb13;simp only [e10,e11,e13] at *;generalize (iw 13).1=bw at *;rcases hl with rfl | rfl
    ·go_wp2_with fail
     exact cQ25
    ·go_wp2_with fail
     exact cQ25
  case rest =>
   obtain ⟨bw,sa,sc,rfl,rfl,Aw,Rw,Bw⟩:=hcut;obtain ⟨wi,hwi⟩:∃ wi,wi=wc:=⟨_,rfl⟩
   subst hwi;have HN:Hid (∀ W,Below wi.heap.size wi W->AtC W bw 44 #[.bool bd,.slice sa bss.length sc,.string btx]/\RSl W (.slice sa bss.length sc) bss/\Below wo.heap.size wo W):=fun W b=>⟨Aw.over b,Rw.below b nR,Bw.trans (b.mono Bw.size)⟩
   have HB0:Hid (Below wi.heap.size wi wi):=Below.refl _ _;have hwl2:IntKind.i64.wrap ((bss.length:Int) - 1)=(bss.length:Int) - 1:=ze9 _ (by omega) (by omega);have g1:=Aw.c1;clear Aw Rw Bw CB;go_wp2_with fail
   clear g1;go_loopw [10,11,15] (fun bb ss kk wx=>∃ (B s sz:Int),bb=.int .i64 B/\ss=.int .i64 s/\kk=.int .i64 sz/\-1<=sz/\sz < (bss.length:Int)/\Hid (FreeS m.bs B s/\Below wi.heap.size wi wx)) (fun _ _ kk _=>(intOf kk+1).toNat)
   case atStart=>exact ⟨B,s,(bss.length:Int) - 1,rfl,rfl,rfl,by omega,by omega,HR.out.1,HB0.out⟩
   case round =>
    obtain ⟨B',s',sz,rfl,rfl,rfl,hz1,hz2,HS⟩:=hrel;obtain ⟨Aw,Rw,Bw⟩:=HN.out wr HS.out.2;have hwq:IntKind.i64.wrap ((q:Int) - 1)=(q:Int) - 1:=ze9 _ (by omega) (by omega);have g0:=Aw.c0;have HX1:Hid (FreeS m.bs B' s'/\Below W1.heap.size W1 wr):=⟨HS.out.1,(HWR.out wr Bw).2.2⟩
    by_cases hsz:0<=sz
    rotate_left
    ·have e1:sz=-1:=by omega
     subst e1;clear HS HR HWR HKP Aw Rw Bw;go_wp2;go_roundw
     case rel=>exact ⟨B',s',(q:Int) - 1,rfl,rfl,by first | rfl | go_num,by omega,by omega,HX1.out⟩
     case measure=>simp [intOf]
    obtain ⟨t,rfl⟩:∃ t:Nat,sz=(t:Int):=⟨sz.toNat,by omega⟩
    have t0:(0:Int)<=(t:Int):=by omega
    cases F with
    | false =>
     exact cQ81
    | true =>
    cases bd with
    | false =>
     exact cQ81
    | true =>
    have ht:t < bss.length:=by omega
    obtain ⟨sa',sc',e1,-,hcs⟩:=Rw;simp only [Value.slice.injEq,true_and] at e1;obtain ⟨rfl,rfl⟩:=e1;obtain ⟨gs,os,rfl,hgs,ks0,ks1⟩:=hcs t ht;have g1:=Aw.c1;obtain ⟨⟨sn,si⟩,hsx⟩:∃ X,bss[t]=X:=⟨_,rfl⟩
    rw [hsx] at ks0 ks1;simp only at ks0 ks1;have HFR:Hid (si=0->FreeS m.bs Pn t):=fun e=>by
     obtain ⟨jb,e1,e2,e3⟩:=HSL.out rfl;refine .inr ⟨jb,t,e1,rfl,e2,by omega,sn,?_⟩;rw [e3 t ht,hsx,e]
    have t1:(t:Int) < (bss.length:Int):=by omega
    have HAC:Hid (∀ W,Below wr.heap.size wr W->Below wi.heap.size wi W):=fun W b=>HS.out.2.trans (b.mono HS.out.2.size);have HS1:=hide HS.out.1;have HMW:Hid (∀ W,Below wr.heap.size wr W->AtC W w.heap.size 37 #[.int .i64 kd,.int .i64 ln,.slice (some ⟨gp,op,none⟩) ps.length pc]/\PM W (fun k=>S k/\k < w.heap.size) b (.slice a1 m.xs.length c1) (.slice a2 m.ys.length c2) (.slice (some ⟨g2,o2,none⟩) m.is.length c3) (.slice a4 m.bs.length c4) (.slice a5 m.fs.length c5) (.slice a6 m.ds.length c6) m/\W.cell? ⟨gp,op+q,none⟩=some (.int .i64 Pn)):=fun W bb=>by
     have q2:=Bw.trans (bb.mono Bw.size);have q3:=HWR.out W q2;exact ⟨q3.1,q3.2.1,HKP.out W q2⟩
    have HBR:Hid (Below wr.heap.size wr wr):=Below.refl _ _;have hdl:m.ds.length<=1048576:=Nat.le_trans HM.out.l (by decide);clear hsx hcs HS HR Aw Bw HWR HKP;go_upto_region 11 with fail
    go_cut [94] from 55 to 100 (fun c wy=>(∃ r,c=.bool r/\(r=true->si=0))/\Below wr.heap.size wr wy)
    case first =>
     by_cases hsi:si=0
     rotate_left
     ·have hsb:(si == 0)=false:=beq_eq_false_iff_ne.mpr hsi;by_cases hsn:sn=⟨#[]⟩
      ·subst hsn;go_quiet (fail)
       exact cQ131
      ·have hsn2:(sn.toList == ([]:List UInt8))=false:=zec hsn;go_quiet (fail)
       exact cQ131
     subst hsi;by_cases hsn:sn=⟨#[]⟩
     rotate_left
     ·have hsn2:(sn.toList == ([]:List UInt8))=false:=zec hsn;go_quiet (fail)
      go_wp2_with fail
      go_meet
      exact ⟨⟨_,rfl,fun _=>by first | trivial | rfl⟩,below_drewN bR _⟩
     ·subst hsn;have HSS:Hid (∀ w',Below wr.heap.size wr w'->(w'.cell? ⟨bw,1,none⟩=some (.slice (some ⟨gs,os,none⟩) bss.length sc)/\w'.cell? ⟨gs,os+t * 2,none⟩=some (.string ⟨#[]⟩)/\w'.cell? ⟨gs,os+t * 2+1,none⟩=some (.int .i64 0)/\w'.cell? ⟨b,0,none⟩=some (.slice a1 m.xs.length c1)/\w'.cell? ⟨b,1,none⟩=some (.slice a2 m.ys.length c2)/\w'.cell? ⟨b,2,none⟩=some (.slice (some ⟨g2,o2,none⟩) m.is.length c3)/\w'.cell? ⟨b,3,none⟩=some (.slice a4 m.bs.length c4)/\w'.cell? ⟨b,4,none⟩=some (.slice a5 m.fs.length c5)/\w'.cell? ⟨b,5,none⟩=some (.slice a6 m.ds.length c6)/\w'.cell? ⟨b,6,none⟩=some (.int .i64 m.nx)/\w'.cell? ⟨w.heap.size,2,none⟩=some (.slice (some ⟨gp,op,none⟩) ps.length pc)/\w'.cell? ⟨gp,op+q,none⟩=some (.int .i64 Pn))):=fun w' bb=>by
       have q3:=HMW.out w' bb;have bx:=q3.2.1.box;exact ⟨(bb.cell (p:=⟨bw,1,none⟩) (zjn g1)).trans g1,(bb.cell (p:=⟨gs,os+t * 2,none⟩) (zjn ks0)).trans ks0,(bb.cell (p:=⟨gs,os+t * 2+1,none⟩) (zjn ks1)).trans ks1,bx.cell 0,bx.cell 1,bx.cell 2,bx.cell 3,bx.cell 4,bx.cell 5,bx.cell 6,q3.1.cell 2,q3.2.2⟩
      go_region_held3 (fun w'=>w'.cell? ⟨bw,1,none⟩=some (.slice (some ⟨gs,os,none⟩) bss.length sc)/\w'.cell? ⟨gs,os+t * 2,none⟩=some (.string ⟨#[]⟩)/\w'.cell? ⟨gs,os+t * 2+1,none⟩=some (.int .i64 0)/\w'.cell? ⟨b,0,none⟩=some (.slice a1 m.xs.length c1)/\w'.cell? ⟨b,1,none⟩=some (.slice a2 m.ys.length c2)/\w'.cell? ⟨b,2,none⟩=some (.slice (some ⟨g2,o2,none⟩) m.is.length c3)/\w'.cell? ⟨b,3,none⟩=some (.slice a4 m.bs.length c4)/\w'.cell? ⟨b,4,none⟩=some (.slice a5 m.fs.length c5)/\w'.cell? ⟨b,5,none⟩=some (.slice a6 m.ds.length c6)/\w'.cell? ⟨b,6,none⟩=some (.int .i64 m.nx)/\w'.cell? ⟨w.heap.size,2,none⟩=some (.slice (some ⟨gp,op,none⟩) ps.length pc)/\w'.cell? ⟨gp,op+q,none⟩=some (.int .i64 Pn)) (first | exact HSS.out _ bR.drew | exact HSS.out _ (zac B2)) ((go_at_call 12;refine (zeb Pn t _ _ _ _ _ _ m _ (HMW.out _ (zac bR)).2.1.mr hdl).mono ?_;rintro e w2 ⟨⟨kk,rfl⟩,B2⟩))
      have HB2:=hide B2;clear B2 HSS;go_wp2_with fail
      go_meet
      exact ⟨⟨_,rfl,fun _=>by first | trivial | rfl⟩,zac HB2.out⟩
    case rest =>
     obtain ⟨⟨r,rfl,hr⟩,hb2⟩:=hcut;have HXB:Hid (Below wi.heap.size wi wc):=HAC.out _ hb2;have HMC:=HMW.out wc hb2;have z2:=HMC.1.c2;have z3:wc.cell? ⟨gp,op+q,none⟩=some (.int .i64 Pn):=HMC.2.2;have hwt:IntKind.i64.wrap ((t:Int) - 1)=(t:Int) - 1:=ze9 _ (by omega) (by omega);clear HMC hb2 g0 g1 ks0 ks1 HMW HAC HBR
     cases r with
     | false =>
      go_wp2;go_roundw
      case rel=>exact ⟨B',s',(t:Int) - 1,rfl,rfl,by first | rfl | go_num,by omega,by omega,HS1.out,HXB.out⟩
      case measure=>simp [intOf]
     | true =>
      have HF2:Hid (FreeS m.bs Pn t):=HFR.out (hr rfl);clear hr;go_wp2;go_roundw
      case rel=>exact ⟨Pn,t,(t:Int) - 1,rfl,rfl,by first | rfl | go_num,by omega,by omega,HF2.out,HXB.out⟩
      case measure=>simp [intOf]
variable {Z : ZT}
theorem zf7 (u v iv bv dv pv:Value)(m:MD)(i:Int)(nx:ByteArray)(w:World)(h:MR w u v iv bv dv pv m)(hm:Sh Z m)(hi1:1<=i)(hi8:i<=8) :
  Calls Tryz.prog 92 #[.agg #[u,v,iv,bv,dv,pv,.int .i64 m.nx],.int .i64 i,.string nx] w fun e w'=>AnyB e/\Below w.heap.size w w':=by
 obtain ⟨a1,c1,a2,c2,a3,c3,a4,c4,a5,c5,a6,c6,rfl,rfl,rfl,rfl,rfl,rfl⟩:=h.form;have HH:=hide h;have HM:=hide hm;have hdl:m.ds.length<=40:=hm.l;obtain ⟨j,rfl⟩:∃ j:Nat,i=(j:Int)+1:=⟨(i - 1).toNat,by omega⟩
 have hwj:IntKind.i64.wrap (j:Int)=(j:Int):=wrap_small _ (by omega) (by omega);have hj:j < m.is.length:=by rw [hm.i];omega
 obtain ⟨qa,qc,qe,-,qh⟩:=h.d.i;simp only [Value.slice.injEq,true_and] at qe;obtain ⟨rfl,rfl⟩:=qe;obtain ⟨g2,o2,⟨t0,t1,t2⟩,rfl,hg2,-,-,r2,-,-,rr⟩:=qh j hj;simp only at r2 rr;obtain ⟨sa,sc,rfl⟩:=rr.form;have hio:=(hm.ii _ (List.getElem_mem hj)).n;obtain ⟨ps,hps⟩:∃ ps,m.is[j].2.2=ps:=⟨_,rfl⟩
 rw [hps] at r2 rr hio;have HRR:=hide rr;have hpl:ps.length<=2:=Nat.le_of_eq hio;have hbn:∀ d∈m.ds,d.bl.length<=2:=fun d hd=>(hm.dd d hd).bn;have HG2:Hid (g2 < w.heap.size/\w.cell? ⟨g2,o2+j * 3+2,none⟩=some (.slice sa ps.length sc)):=⟨hg2,r2⟩
 have j0:(0:Int)<=(j:Int):=by omega
 have j1:(j:Int) < (m.is.length:Int):=by omega
 obtain ⟨a,c,ei,-,hc⟩:=h.p.dep;simp only [Value.slice.injEq,true_and] at ei;obtain ⟨rfl,rfl⟩:=ei;have HC:=hide hc;have HW:Hid (∀ W,Below (w.alloc (.cells #[.slice a1 m.xs.length c1,.slice a2 m.ys.length c2,.slice (some ⟨g2,o2,none⟩) m.is.length c3,.slice a4 m.bs.length c4,.slice a5 m.fs.length c5,.slice a6 m.ds.length c6,.int .i64 m.nx] 33)).heap.size (w.alloc (.cells #[.slice a1 m.xs.length c1,.slice a2 m.ys.length c2,.slice (some ⟨g2,o2,none⟩) m.is.length c3,.slice a4 m.bs.length c4,.slice a5 m.fs.length c5,.slice a6 m.ds.length c6,.int .i64 m.nx] 33)) W->Below w.heap.size w W/\AtC W w.heap.size 33 #[.slice a1 m.xs.length c1,.slice a2 m.ys.length c2,.slice (some ⟨g2,o2,none⟩) m.is.length c3,.slice a4 m.bs.length c4,.slice a5 m.fs.length c5,.slice a6 m.ds.length c6,.int .i64 m.nx]):=fun W bb=>⟨((Below.refl _ w).alloc nR _).trans (bb.mono (by simp)),(AtC.new w 33 _).over bb⟩
 clear h hm qh hc rr hio hps r2 hg2 hbn;go_enter Tryz.func92,Tryz.ntmps92
 go_wp2_with fail
 generalize hW0:(w.alloc (.cells #[.slice a1 m.xs.length c1,.slice a2 m.ys.length c2,.slice (some ⟨g2,o2,none⟩) m.is.length c3,.slice a4 m.bs.length c4,.slice a5 m.fs.length c5,.slice a6 m.ds.length c6,.int .i64 m.nx] 33))=W0 at *;clear hW0;go_loopw [7] (fun i' wr=>∃ q:Nat,q<=m.ds.length/\i'=.int .i64 q/\Hid (Below W0.heap.size W0 wr)) (fun i' _=>m.ds.length - (intOf i').toNat)
 case atStart=>exact ⟨0,Nat.zero_le _,rfl,Below.refl _ _⟩
 case round =>
  obtain ⟨q,hq,rfl,HR⟩:=hrel;obtain ⟨hbw,hmb⟩:=HW.out wr HR.out;have x5:=hmb.c5;by_cases hlt:q < m.ds.length
  ·obtain ⟨g6,o6,p,rfl,hg6,nn,hp⟩:=HC.out q hlt;obtain ⟨X,hX⟩:∃ X,m.ds[q]=X:=⟨_,rfl⟩
   rw [hX] at nn hp;obtain ⟨id,kk,io,pt,bk,sl,nm,bt,ot,af,bl⟩:=X;simp only at hp;obtain ⟨pa,pc,rfl,-⟩:=hp;simp only [DCells] at nn;obtain ⟨m0,m1,m2,m3,m4,m5,m6,m7,m8,m9,m10⟩:=nn;have k0:wr.cell? ⟨g6,o6+q * 11,none⟩=some (.int .i64 id):=(hbw.cell (p:=⟨g6,o6+q * 11,none⟩) hg6).trans m0;have k1:wr.cell? ⟨g6,o6+q * 11+1,none⟩=some (.int .i64 kk):=(hbw.cell (p:=⟨g6,o6+q * 11+1,none⟩) hg6).trans m1;have k2:wr.cell? ⟨g6,o6+q * 11+2,none⟩=some (.int .i64 io):=(hbw.cell (p:=⟨g6,o6+q * 11+2,none⟩) hg6).trans m2;have k3:wr.cell? ⟨g6,o6+q * 11+3,none⟩=some (.int .i64 pt):=(hbw.cell (p:=⟨g6,o6+q * 11+3,none⟩) hg6).trans m3;have k4:wr.cell? ⟨g6,o6+q * 11+4,none⟩=some (.int .i64 bk):=(hbw.cell (p:=⟨g6,o6+q * 11+4,none⟩) hg6).trans m4;have k5:wr.cell? ⟨g6,o6+q * 11+5,none⟩=some (.int .i64 sl):=(hbw.cell (p:=⟨g6,o6+q * 11+5,none⟩) hg6).trans m5;have k6:wr.cell? ⟨g6,o6+q * 11+6,none⟩=some (.string nm):=(hbw.cell (p:=⟨g6,o6+q * 11+6,none⟩) hg6).trans m6;have k7:wr.cell? ⟨g6,o6+q * 11+7,none⟩=some (.bool bt):=(hbw.cell (p:=⟨g6,o6+q * 11+7,none⟩) hg6).trans m7;have k8:wr.cell? ⟨g6,o6+q * 11+8,none⟩=some (.bool ot):=(hbw.cell (p:=⟨g6,o6+q * 11+8,none⟩) hg6).trans m8;have k9:wr.cell? ⟨g6,o6+q * 11+9,none⟩=some (.int .i64 af):=(hbw.cell (p:=⟨g6,o6+q * 11+9,none⟩) hg6).trans m9;have k10:wr.cell? ⟨g6,o6+q * 11+10,none⟩=some (.slice pa bl.length pc):=(hbw.cell (p:=⟨g6,o6+q * 11+10,none⟩) hg6).trans m10;have q0:(0:Int)<=(q:Int):=by omega
   have q1:(q:Int) < (m.ds.length:Int):=by omega
   have b1:Below wr.heap.size wr (wr.alloc (.cells #[.int .i64 id,.int .i64 kk,.int .i64 io,.int .i64 pt,.int .i64 bk,.int .i64 sl,.string nm,.bool bt,.bool ot,.int .i64 af,.slice pa bl.length pc] 41)):=(Below.refl _ wr).alloc nR _;have HA:Hid (Below W0.heap.size W0 (wr.alloc (.cells #[.int .i64 id,.int .i64 kk,.int .i64 io,.int .i64 pt,.int .i64 bk,.int .i64 sl,.string nm,.bool bt,.bool ot,.int .i64 af,.slice pa bl.length pc] 41))/\AtC (wr.alloc (.cells #[.int .i64 id,.int .i64 kk,.int .i64 io,.int .i64 pt,.int .i64 bk,.int .i64 sl,.string nm,.bool bt,.bool ot,.int .i64 af,.slice pa bl.length pc] 41)) wr.heap.size 41 #[.int .i64 id,.int .i64 kk,.int .i64 io,.int .i64 pt,.int .i64 bk,.int .i64 sl,.string nm,.bool bt,.bool ot,.int .i64 af,.slice pa bl.length pc]):=⟨HR.out.trans (b1.mono HR.out.size),AtC.new wr 41 _⟩
   clear m0 m1 m2 m3 m4 m5 m6 m7 m8 m9 m10 hX hbw hmb b1;go_upto_region 5 with fail
   generalize hbd:wr.heap.size=bd at *;clear hbd HR k0 k1 k2 k3 k4 k5 k6 k7 k8 k9 k10 x5;generalize wr.alloc (.cells #[.int .i64 id,.int .i64 kk,.int .i64 io,.int .i64 pt,.int .i64 bk,.int .i64 sl,.string nm,.bool bt,.bool ot,.int .i64 af,.slice pa bl.length pc] 41)=wA at *;obtain ⟨hbw,hmb⟩:=HW.out wA HA.out.1;have x2:=hmb.c2;have d1:=HA.out.2.c1;have d4:=HA.out.2.c4;have d6:=HA.out.2.c6;have d9:=HA.out.2.c9;have y2:wA.cell? ⟨g2,o2+j * 3+2,none⟩=some (.slice sa ps.length sc):=(hbw.cell (p:=⟨g2,o2+j * 3+2,none⟩) HG2.out.1).trans HG2.out.2;have CH:Hid (∀ W,wA.heap=W.heap->Below w.heap.size w W->Calls Tryz.prog 116 #[.slice sa ps.length sc,.int .i64 bk] W fun e w'=>(∃ r:Bool,e=.returned (.bool r))/\w'=W):=fun W _ bb=>(zdv _ ps bk W (HRR.out.below bb nR) (by omega)).mono fun e w' ⟨h1,h2⟩=>⟨⟨_,h1⟩,h2⟩
   have HBW:=hide hbw;clear hbw hmb;go_cut [47] from 9 to 47 (fun c wx=>(∃ r,c=.bool r)/\Below wA.heap.size wA wx)
   case first =>
    by_cases hk:kk=4
    ·subst hk;by_cases ha:0 < af
     ·have had:decide (0 < af)=true:=decide_eq_true ha;by_cases hs:nm=nx
      ·subst hs;go_quiet ((go_at_call 116;exact Calls.quiet_of_same (zdv _ ps bk _ (HRR.out.below (below_drewN HBW.out _) nR) (by omega))))
       exact cQ56
      ·have hsb:(nm.toList == nx.toList)=false:=zbm hs;go_quiet (fail)
       exact cQ56
     ·have had:decide (0 < af)=false:=decide_eq_false ha;go_quiet (fail)
      exact cQ56
    ·have hkb:(kk == 4)=false:=by simp [hk]
     go_quiet (fail)
     exact cQ56
   case rest =>
    exact cQ50
  ·exact cQ142
theorem held_any (u v iv bv dv pv:Value)(m:MD)(i:Int)(w:World)(h:MR w u v iv bv dv pv m)(hm:Sh Z m)(hi1:1<=i)(hi8:i<=8) :
  Calls Tryz.prog 104 #[.agg #[u,v,iv,bv,dv,pv,.int .i64 m.nx],.int .i64 i] w fun e w'=>AnyB e/\Below w.heap.size w w':=by
 obtain ⟨a1,c1,a2,c2,a3,c3,a4,c4,a5,c5,a6,c6,rfl,rfl,rfl,rfl,rfl,rfl⟩:=h.form;have HH:=hide h;have HM:=hide hm;have hdl:m.ds.length<=40:=hm.l;obtain ⟨j,rfl⟩:∃ j:Nat,i=(j:Int)+1:=⟨(i - 1).toNat,by omega⟩
 have hwj:IntKind.i64.wrap (j:Int)=(j:Int):=wrap_small _ (by omega) (by omega);have hj:j < m.is.length:=by rw [hm.i];omega
 obtain ⟨qa,qc,qe,-,qh⟩:=h.d.i;simp only [Value.slice.injEq,true_and] at qe;obtain ⟨rfl,rfl⟩:=qe;obtain ⟨g2,o2,⟨t0,t1,t2⟩,rfl,hg2,-,-,r2,-,-,rr⟩:=qh j hj;simp only at r2 rr;obtain ⟨sa,sc,rfl⟩:=rr.form;have hio:=(hm.ii _ (List.getElem_mem hj)).n;obtain ⟨ps,hps⟩:∃ ps,m.is[j].2.2=ps:=⟨_,rfl⟩
 rw [hps] at r2 rr hio;have HRR:=hide rr;have hpl:ps.length<=2:=Nat.le_of_eq hio;have hbn:∀ d∈m.ds,d.bl.length<=2:=fun d hd=>(hm.dd d hd).bn;have HG2:Hid (g2 < w.heap.size/\w.cell? ⟨g2,o2+j * 3+2,none⟩=some (.slice sa ps.length sc)):=⟨hg2,r2⟩
 have j0:(0:Int)<=(j:Int):=by omega
 have j1:(j:Int) < (m.is.length:Int):=by omega
 obtain ⟨a,c,ei,-,hc⟩:=h.p.dep;simp only [Value.slice.injEq,true_and] at ei;obtain ⟨rfl,rfl⟩:=ei;have HC:=hide hc;have HW:Hid (∀ W,Below (w.alloc (.cells #[.slice a1 m.xs.length c1,.slice a2 m.ys.length c2,.slice (some ⟨g2,o2,none⟩) m.is.length c3,.slice a4 m.bs.length c4,.slice a5 m.fs.length c5,.slice a6 m.ds.length c6,.int .i64 m.nx] 33)).heap.size (w.alloc (.cells #[.slice a1 m.xs.length c1,.slice a2 m.ys.length c2,.slice (some ⟨g2,o2,none⟩) m.is.length c3,.slice a4 m.bs.length c4,.slice a5 m.fs.length c5,.slice a6 m.ds.length c6,.int .i64 m.nx] 33)) W->Below w.heap.size w W/\AtC W w.heap.size 33 #[.slice a1 m.xs.length c1,.slice a2 m.ys.length c2,.slice (some ⟨g2,o2,none⟩) m.is.length c3,.slice a4 m.bs.length c4,.slice a5 m.fs.length c5,.slice a6 m.ds.length c6,.int .i64 m.nx]):=fun W bb=>⟨((Below.refl _ w).alloc nR _).trans (bb.mono (by simp)),(AtC.new w 33 _).over bb⟩
 clear h hm qh hc rr hio hps r2 hg2 hbn;go_enter Tryz.func104,Tryz.ntmps104
 go_wp2_with fail
 generalize hW0:(w.alloc (.cells #[.slice a1 m.xs.length c1,.slice a2 m.ys.length c2,.slice (some ⟨g2,o2,none⟩) m.is.length c3,.slice a4 m.bs.length c4,.slice a5 m.fs.length c5,.slice a6 m.ds.length c6,.int .i64 m.nx] 33))=W0 at *;clear hW0;go_loopw [5] (fun i' wr=>∃ q:Nat,q<=m.ds.length/\i'=.int .i64 q/\Hid (Below W0.heap.size W0 wr)) (fun i' _=>m.ds.length - (intOf i').toNat)
 case atStart=>exact ⟨0,Nat.zero_le _,rfl,Below.refl _ _⟩
 case round =>
  obtain ⟨q,hq,rfl,HR⟩:=hrel;obtain ⟨hbw,hmb⟩:=HW.out wr HR.out;have x5:=hmb.c5;by_cases hlt:q < m.ds.length
  ·obtain ⟨g6,o6,p,rfl,hg6,nn,hp⟩:=HC.out q hlt;obtain ⟨X,hX⟩:∃ X,m.ds[q]=X:=⟨_,rfl⟩
   rw [hX] at nn hp;obtain ⟨id,kk,io,pt,bk,sl,nm,bt,ot,af,bl⟩:=X;simp only at hp;obtain ⟨pa,pc,rfl,-⟩:=hp;simp only [DCells] at nn;obtain ⟨m0,m1,m2,m3,m4,m5,m6,m7,m8,m9,m10⟩:=nn;have k0:wr.cell? ⟨g6,o6+q * 11,none⟩=some (.int .i64 id):=(hbw.cell (p:=⟨g6,o6+q * 11,none⟩) hg6).trans m0;have k1:wr.cell? ⟨g6,o6+q * 11+1,none⟩=some (.int .i64 kk):=(hbw.cell (p:=⟨g6,o6+q * 11+1,none⟩) hg6).trans m1;have k2:wr.cell? ⟨g6,o6+q * 11+2,none⟩=some (.int .i64 io):=(hbw.cell (p:=⟨g6,o6+q * 11+2,none⟩) hg6).trans m2;have k3:wr.cell? ⟨g6,o6+q * 11+3,none⟩=some (.int .i64 pt):=(hbw.cell (p:=⟨g6,o6+q * 11+3,none⟩) hg6).trans m3;have k4:wr.cell? ⟨g6,o6+q * 11+4,none⟩=some (.int .i64 bk):=(hbw.cell (p:=⟨g6,o6+q * 11+4,none⟩) hg6).trans m4;have k5:wr.cell? ⟨g6,o6+q * 11+5,none⟩=some (.int .i64 sl):=(hbw.cell (p:=⟨g6,o6+q * 11+5,none⟩) hg6).trans m5;have k6:wr.cell? ⟨g6,o6+q * 11+6,none⟩=some (.string nm):=(hbw.cell (p:=⟨g6,o6+q * 11+6,none⟩) hg6).trans m6;have k7:wr.cell? ⟨g6,o6+q * 11+7,none⟩=some (.bool bt):=(hbw.cell (p:=⟨g6,o6+q * 11+7,none⟩) hg6).trans m7;have k8:wr.cell? ⟨g6,o6+q * 11+8,none⟩=some (.bool ot):=(hbw.cell (p:=⟨g6,o6+q * 11+8,none⟩) hg6).trans m8;have k9:wr.cell? ⟨g6,o6+q * 11+9,none⟩=some (.int .i64 af):=(hbw.cell (p:=⟨g6,o6+q * 11+9,none⟩) hg6).trans m9;have k10:wr.cell? ⟨g6,o6+q * 11+10,none⟩=some (.slice pa bl.length pc):=(hbw.cell (p:=⟨g6,o6+q * 11+10,none⟩) hg6).trans m10;have q0:(0:Int)<=(q:Int):=by omega
   have q1:(q:Int) < (m.ds.length:Int):=by omega
   have b1:Below wr.heap.size wr (wr.alloc (.cells #[.int .i64 id,.int .i64 kk,.int .i64 io,.int .i64 pt,.int .i64 bk,.int .i64 sl,.string nm,.bool bt,.bool ot,.int .i64 af,.slice pa bl.length pc] 41)):=(Below.refl _ wr).alloc nR _;have HA:Hid (Below W0.heap.size W0 (wr.alloc (.cells #[.int .i64 id,.int .i64 kk,.int .i64 io,.int .i64 pt,.int .i64 bk,.int .i64 sl,.string nm,.bool bt,.bool ot,.int .i64 af,.slice pa bl.length pc] 41))/\AtC (wr.alloc (.cells #[.int .i64 id,.int .i64 kk,.int .i64 io,.int .i64 pt,.int .i64 bk,.int .i64 sl,.string nm,.bool bt,.bool ot,.int .i64 af,.slice pa bl.length pc] 41)) wr.heap.size 41 #[.int .i64 id,.int .i64 kk,.int .i64 io,.int .i64 pt,.int .i64 bk,.int .i64 sl,.string nm,.bool bt,.bool ot,.int .i64 af,.slice pa bl.length pc]):=⟨HR.out.trans (b1.mono HR.out.size),AtC.new wr 41 _⟩
   clear m0 m1 m2 m3 m4 m5 m6 m7 m8 m9 m10 hX hbw hmb b1;go_upto_region 5 with fail
   generalize hbd:wr.heap.size=bd at *;clear hbd HR k0 k1 k2 k3 k4 k5 k6 k7 k8 k9 k10 x5;generalize wr.alloc (.cells #[.int .i64 id,.int .i64 kk,.int .i64 io,.int .i64 pt,.int .i64 bk,.int .i64 sl,.string nm,.bool bt,.bool ot,.int .i64 af,.slice pa bl.length pc] 41)=wA at *;obtain ⟨hbw,hmb⟩:=HW.out wA HA.out.1;have x2:=hmb.c2;have d1:=HA.out.2.c1;have d4:=HA.out.2.c4;have d6:=HA.out.2.c6;have d9:=HA.out.2.c9;have y2:wA.cell? ⟨g2,o2+j * 3+2,none⟩=some (.slice sa ps.length sc):=(hbw.cell (p:=⟨g2,o2+j * 3+2,none⟩) HG2.out.1).trans HG2.out.2;have CH:Hid (∀ W,wA.heap=W.heap->Below w.heap.size w W->Calls Tryz.prog 116 #[.slice sa ps.length sc,.int .i64 bk] W fun e w'=>(∃ r:Bool,e=.returned (.bool r))/\w'=W):=fun W _ bb=>(zdv _ ps bk W (HRR.out.below bb nR) (by omega)).mono fun e w' ⟨h1,h2⟩=>⟨⟨_,h1⟩,h2⟩
   have HBW:=hide hbw;clear hbw hmb;go_cut [39] from 7 to 39 (fun c wx=>(∃ r,c=.bool r)/\Below wA.heap.size wA wx)
   case first =>
    by_cases hk:kk=4
    ·subst hk;by_cases ha:0 < af
     ·have had:decide (0 < af)=true:=decide_eq_true ha;go_quiet ((go_at_call 116;exact Calls.quiet_of_same (zdv _ ps bk _ (HRR.out.below (below_drewN HBW.out _) nR) (by omega))))
      exact cQ56
     ·have had:decide (0 < af)=false:=decide_eq_false ha;go_quiet (fail)
      exact cQ56
    ·have hkb:(kk == 4)=false:=by simp [hk]
     go_quiet (fail)
     exact cQ56
   case rest =>
    exact cQ50
  ·exact cQ142
theorem zf8 {m:MD}(h:ff m.ys≠0):takeI m={ m with ys:=m.ys.set (ff m.ys - 1) true,fs:=m.fs.set 0 true }:=by unfold takeI;rw [if_neg h]
theorem zdj (u v iv bv dv pv:Value)(m:MD)(p:ByteArray)(kind:Int)(w:World)(h:MR w u v iv bv dv pv m)(hm:Sh Z0 m)(hp:p.size<=1048576) :
  Calls Tryz.prog 62 #[.agg #[u,v,iv,bv,dv,pv,.int .i64 m.nx],.string p,.int .i64 kind] w fun e w'=>CallR w.heap.size w' e/\Below w.heap.size w w':=by
 obtain ⟨a1,c1,a2,c2,a3,c3,a4,c4,a5,c5,a6,c6,rfl,rfl,rfl,rfl,rfl,rfl⟩:=h.form;obtain ⟨qa,qc,qe,-,qh⟩:=h.d.i;simp only [Value.slice.injEq,true_and] at qe;obtain ⟨rfl,rfl⟩:=qe;obtain ⟨g2,o2,⟨q0,q1,q2⟩,rfl,-⟩:=qh 0 (by rw [hm.i];decide);have HIN:Hid (∀ (W:World) (j:Nat) (hj:j < m.is.length),Below w.heap.size w W->∃ ta tc,W.cell? ⟨g2,o2+j * 3,none⟩=some (.int .i64 m.is[j].1)/\W.cell? ⟨g2,o2+j * 3+1,none⟩=some (.int .i64 m.is[j].2.1)/\W.cell? ⟨g2,o2+j * 3+2,none⟩=some (.slice ta m.is[j].2.2.length tc)/\RInts W (.slice ta m.is[j].2.2.length tc) m.is[j].2.2):=fun W j hj hb=>by
  exact cQ17
 clear qh q0 q1 q2;obtain ⟨W0,hW0⟩:∃ W0,((w.alloc (.cells #[.slice a1 m.xs.length c1,.slice a2 m.ys.length c2,.slice (some ⟨g2,o2,none⟩) m.is.length c3,.slice a4 m.bs.length c4,.slice a5 m.fs.length c5,.slice a6 m.ds.length c6,.int .i64 m.nx] 33)).alloc (.cells #[.slice none 0 0,.slice none 0 0,.slice none 0 0,.slice none 0 0,.slice none 0 0,.slice none 0 0,.int .i64 0] 33))=W0:=⟨_,rfl⟩
 have HB0:Hid (Below w.heap.size w W0/\W0.heap.size=w.heap.size+1+1/\AtC W0 w.heap.size 33 #[.slice a1 m.xs.length c1,.slice a2 m.ys.length c2,.slice (some ⟨g2,o2,none⟩) m.is.length c3,.slice a4 m.bs.length c4,.slice a5 m.fs.length c5,.slice a6 m.ds.length c6,.int .i64 m.nx]/\AtC W0 (w.heap.size+1) 33 #[.slice none 0 0,.slice none 0 0,.slice none 0 0,.slice none 0 0,.slice none 0 0,.slice none 0 0,.int .i64 0]):=by
  exact cQ15
 have HH:=hide h;have HM:=hide hm;obtain ⟨x0,x1,x2,x3,x4,x5,x6⟩:=AtC.sev HB0.out.2.2.1;have HM0:Hid (MR W0 (.slice a1 m.xs.length c1) (.slice a2 m.ys.length c2) (.slice (some ⟨g2,o2,none⟩) m.is.length c3) (.slice a4 m.bs.length c4) (.slice a5 m.fs.length c5) (.slice a6 m.ds.length c6) m):=HH.out.below HB0.out.1 nR;clear h hm;go_enter Tryz.func62,Tryz.ntmps62
 go_wp2_with fail
 refine (zau _ _ _ _ _ _ m W0 HM0.out HM.out.big).mono ?_;rintro e w1 ⟨u1,u2,u3,u4,u5,u6,rfl,O1,B1⟩;obtain ⟨s1,t1,s2,t2,s3,t3,s4,t4,s5,t5,s6,t6,rfl,rfl,rfl,rfl,rfl,rfl⟩:=O1.mr.form;obtain ⟨W2,hW2⟩:∃ W2,w1.alloc (.cells #[.slice s1 m.xs.length t1,.slice s2 m.ys.length t2,.slice s3 m.is.length t3,.slice s4 m.bs.length t4,.slice s5 m.fs.length t5,.slice s6 m.ds.length t6,.int .i64 m.nx] 33)=W2:=⟨_,rfl⟩
 obtain ⟨b2,hb2⟩:∃ b2,w1.heap.size=b2:=⟨_,rfl⟩
 have HC:Hid (∀ W,Below W2.heap.size W2 W->AtC W w.heap.size 33 #[.slice a1 m.xs.length c1,.slice a2 m.ys.length c2,.slice (some ⟨g2,o2,none⟩) m.is.length c3,.slice a4 m.bs.length c4,.slice a5 m.fs.length c5,.slice a6 m.ds.length c6,.int .i64 m.nx]/\AtC W (w.heap.size+1) 33 #[.slice none 0 0,.slice none 0 0,.slice none 0 0,.slice none 0 0,.slice none 0 0,.slice none 0 0,.int .i64 0]/\AtC W b2 33 #[.slice s1 m.xs.length t1,.slice s2 m.ys.length t2,.slice s3 m.is.length t3,.slice s4 m.bs.length t4,.slice s5 m.fs.length t5,.slice s6 m.ds.length t6,.int .i64 m.nx]/\MO W (fun k=>w.heap.size+1+1<=k/\k < b2) (.slice s1 m.xs.length t1) (.slice s2 m.ys.length t2) (.slice s3 m.is.length t3) (.slice s4 m.bs.length t4) (.slice s5 m.fs.length t5) (.slice s6 m.ds.length t6) m/\Below w.heap.size w W/\w.heap.size+1+1<=b2/\b2 < W.heap.size):=fun W b=>by
  exact cQ14
 have HB2:Hid (Below W2.heap.size W2 W2):=Below.refl _ _;clear O1 B1 HM0 x0 x1 x2 x3 x4 x5 x6 hW0 HB0;go_wp2_with fail
 refine (zcg p W2 hp).mono ?_;rintro e w3 ⟨⟨dn,nm,q1,rfl,hdn,hnm,-⟩,B3⟩;have HB3:Hid (Below W2.heap.size W2 w3):=B3;clear B3 hW2 hb2;have hdn2:dn.size<=1048576:=by omega
 obtain ⟨x0,x1,x2,x3,x4,x5,x6⟩:=AtC.sev ((HC.out w3 HB3.out).1);have HM3:Hid (MR w3 (.slice a1 m.xs.length c1) (.slice a2 m.ys.length c2) (.slice (some ⟨g2,o2,none⟩) m.is.length c3) (.slice a4 m.bs.length c4) (.slice a5 m.fs.length c5) (.slice a6 m.ds.length c6) m):=HH.out.below (HC.out w3 HB3.out).2.2.2.2.1 nR;go_upto_region 3 with fail
 go_cut [37] from 17 to 37 (fun c wx=>(∃ r,c=.bool r)/\Below W2.heap.size W2 wx)
 case first =>
  go_wp2_with fail
  refine (zbo _ _ _ _ _ _ m w3 HM3.out HM.out).mono ?_;rintro e w4 ⟨⟨q2,rfl⟩,B4⟩;have HB4:Hid (Below W2.heap.size W2 w4):=HB3.out.trans (B4.mono HB3.out.size);clear B4 HM3 HB3 x0 x1 x2 x3 x4 x5 x6
  cases q2 with
  | false =>
   exact cQ118
  | true =>
  cases q1 with
  | false =>
   exact cQ118
  | true =>
  by_cases hk1:kind=1
  ·subst hk1;go_wp2_with fail
   go_meet
   exact ⟨⟨_,rfl⟩,HB4.out⟩
  ·have hk1b:(kind != 1)=true:=by simp [hk1]
   exact cQ118
 case rest =>
  obtain ⟨⟨r,rfl⟩,hb4⟩:=hcut;obtain ⟨w4,hw4⟩:∃ w4,w4=wc:=⟨_,rfl⟩
  subst hw4;have HB4:=hide hb4;clear hb4 HM3 HB3 x0 x1 x2 x3 x4 x5 x6
  cases r with
  | true =>
   exact cQ2
  | false =>
  obtain ⟨x0,x1,x2,x3,x4,x5,x6⟩:=AtC.sev ((HC.out w4 HB4.out).1);have HD4:Hid (DR w4 (.slice a1 m.xs.length c1) (.slice a2 m.ys.length c2) (.slice (some ⟨g2,o2,none⟩) m.is.length c3) (.slice a4 m.bs.length c4) m.xs m.ys m.is m.bs):=(HH.out.below (HC.out w4 HB4.out).2.2.2.2.1 nR).d;go_wp2_with fail
  refine (zbx _ _ _ _ m.xs m.ys m.is m.bs p w4 HD4.out HM.out.big.d HM.out.i hp).mono ?_;rintro e w5 ⟨⟨i,rfl,-,-⟩,B5⟩;have HB5:Hid (Below W2.heap.size W2 w5):=HB4.out.trans (B5.mono HB4.out.size);clear B5 HD4 HB4 x0 x1 x2 x3 x4 x5 x6;by_cases hiz:i=0
  rotate_left
  ·have hib:(i != 0)=true:=by simp [hiz]
   obtain ⟨y0,y1,y2,y3,y4,y5,y6⟩:=AtC.sev ((HC.out w5 HB5.out).2.2.1);obtain ⟨r0,r1,r2,r3,r4,r5,r6⟩:=AtC.sev ((HC.out w5 HB5.out).2.1);have v0:=(HC.out w5 HB5.out).2.1.frozen 0;have v1:=(HC.out w5 HB5.out).2.1.frozen 1;have v2:=(HC.out w5 HB5.out).2.1.frozen 2;have v3:=(HC.out w5 HB5.out).2.1.frozen 3;have v4:=(HC.out w5 HB5.out).2.1.frozen 4;have v5:=(HC.out w5 HB5.out).2.1.frozen 5;have v6:=(HC.out w5 HB5.out).2.1.frozen 6;have HFF:=hide (HC.out w5 HB5.out);go_wp2;refine bodyPost_ret (v:=.tuple #[.agg #[.slice s1 m.xs.length t1,.slice s2 m.ys.length t2,.slice s3 m.is.length t3,.slice s4 m.bs.length t4,.slice s5 m.fs.length t5,.slice s6 m.ds.length t6,.int .i64 m.nx],.int .i64 2]) (by simp [results,go_sem,r0,r1,r2,r3,r4,r5,r6]) rfl ⟨⟨_,_,_,_,_,_,m,_,rfl,(HFF.out.2.2.2.1.of_heap fun k hk _=>zaa _ _ _ _ _ _ _ _ _ k (by have:w.heap.size+1+1<=k/\k < b2:=hk;omega)).mono (fun k hk=>by have:w.heap.size+1+1<=k/\k < b2:=hk;omega),HM.out⟩,zab HFF.out.2.2.2.2.1 (by omega) _ _ _ _ _ _ _⟩
  subst hiz;obtain ⟨x0,x1,x2,x3,x4,x5,x6⟩:=AtC.sev ((HC.out w5 HB5.out).1);have HD5:Hid (DR w5 (.slice a1 m.xs.length c1) (.slice a2 m.ys.length c2) (.slice (some ⟨g2,o2,none⟩) m.is.length c3) (.slice a4 m.bs.length c4) m.xs m.ys m.is m.bs):=(HH.out.below (HC.out w5 HB5.out).2.2.2.2.1 nR).d;go_wp2_with fail
  refine (zbx _ _ _ _ m.xs m.ys m.is m.bs dn w5 HD5.out HM.out.big.d HM.out.i hdn2).mono ?_;rintro e w6 ⟨⟨i,rfl,hi0,hi8⟩,B6⟩;have HB6:Hid (Below W2.heap.size W2 w6):=HB5.out.trans (B6.mono HB5.out.size);clear B6 HD5 HB5 x0 x1 x2 x3 x4 x5 x6;by_cases hiz:i=0
  ·exact cQ21
  have hib:(i == 0)=false:=beq_eq_false_iff_ne.mpr hiz;obtain ⟨j,rfl⟩:∃ j:Nat,i=(j:Int)+1:=⟨(i - 1).toNat,by omega⟩
  have hj8:j < 8:=by omega
  have hj:j < m.is.length:=by rw [HM.out.i];exact hj8
  have hwj:IntKind.i64.wrap (j:Int)=(j:Int):=wrap_small _ (by omega) (by omega);have j0:(0:Int)<=(j:Int):=by omega
  have j1:(j:Int) < (m.is.length:Int):=by omega
  obtain ⟨pa,pc,i0,-,-,-⟩:=HIN.out w6 j hj (HC.out w6 HB6.out).2.2.2.2.1;obtain ⟨kd,hkd⟩:∃ kd,m.is[j].1=kd:=⟨_,rfl⟩
  rw [hkd] at i0;clear hkd;obtain ⟨x0,x1,x2,x3,x4,x5,x6⟩:=AtC.sev ((HC.out w6 HB6.out).1);by_cases hkd:kd=2
  rotate_left
  ·have hkb:(kd != 2)=true:=by simp [hkd]
   obtain ⟨y0,y1,y2,y3,y4,y5,y6⟩:=AtC.sev ((HC.out w6 HB6.out).2.2.1);obtain ⟨r0,r1,r2,r3,r4,r5,r6⟩:=AtC.sev ((HC.out w6 HB6.out).2.1);have v0:=(HC.out w6 HB6.out).2.1.frozen 0;have v1:=(HC.out w6 HB6.out).2.1.frozen 1;have v2:=(HC.out w6 HB6.out).2.1.frozen 2;have v3:=(HC.out w6 HB6.out).2.1.frozen 3;have v4:=(HC.out w6 HB6.out).2.1.frozen 4;have v5:=(HC.out w6 HB6.out).2.1.frozen 5;have v6:=(HC.out w6 HB6.out).2.1.frozen 6;have HFF:=hide (HC.out w6 HB6.out);go_wp2;refine bodyPost_ret (v:=.tuple #[.agg #[.slice s1 m.xs.length t1,.slice s2 m.ys.length t2,.slice s3 m.is.length t3,.slice s4 m.bs.length t4,.slice s5 m.fs.length t5,.slice s6 m.ds.length t6,.int .i64 m.nx],.int .i64 3]) (by simp [results,go_sem,r0,r1,r2,r3,r4,r5,r6]) rfl ⟨⟨_,_,_,_,_,_,m,_,rfl,(HFF.out.2.2.2.1.of_heap fun k hk _=>zaa _ _ _ _ _ _ _ _ _ k (by have:w.heap.size+1+1<=k/\k < b2:=hk;omega)).mono (fun k hk=>by have:w.heap.size+1+1<=k/\k < b2:=hk;omega),HM.out⟩,zab HFF.out.2.2.2.2.1 (by omega) _ _ _ _ _ _ _⟩
  subst hkd;have HM6:Hid (MR w6 (.slice a1 m.xs.length c1) (.slice a2 m.ys.length c2) (.slice (some ⟨g2,o2,none⟩) m.is.length c3) (.slice a4 m.bs.length c4) (.slice a5 m.fs.length c5) (.slice a6 m.ds.length c6) m):=HH.out.below (HC.out w6 HB6.out).2.2.2.2.1 nR;go_wp2_with fail
  refine (zf7 _ _ _ _ _ _ m ((j:Int)+1) nm w6 HM6.out HM.out (by omega) (by omega)).mono ?_;rintro e w7 ⟨⟨r,rfl⟩,B7⟩;have HB7:Hid (Below W2.heap.size W2 w7):=HB6.out.trans (B7.mono HB6.out.size);clear B7 HM6 HB6 x0 x1 x2 x3 x4 x5 x6 i0
  cases r with
  | true =>
   exact cQ6
  | false =>
  obtain ⟨x0,x1,x2,x3,x4,x5,x6⟩:=AtC.sev ((HC.out w7 HB7.out).1);have HM7:Hid (MR w7 (.slice a1 m.xs.length c1) (.slice a2 m.ys.length c2) (.slice (some ⟨g2,o2,none⟩) m.is.length c3) (.slice a4 m.bs.length c4) (.slice a5 m.fs.length c5) (.slice a6 m.ds.length c6) m):=HH.out.below (HC.out w7 HB7.out).2.2.2.2.1 nR;by_cases hf:ff m.ys=0
  ·have CT:Hid (Calls Tryz.prog 93 #[.agg #[.slice a1 m.xs.length c1,.slice a2 m.ys.length c2,.slice (some ⟨g2,o2,none⟩) m.is.length c3,.slice a4 m.bs.length c4,.slice a5 m.fs.length c5,.slice a6 m.ds.length c6,.int .i64 m.nx]] w7 fun e w'=>∃ (z1:Option Addr) (l1 y1:Nat) (z2:Option Addr) (l2 y2:Nat) (z3:Option Addr) (l3 y3:Nat) (z4:Option Addr) (l4 y4:Nat) (z5:Option Addr) (l5 y5:Nat) (z6:Option Addr) (l6 y6:Nat),e=.returned (.tuple #[.agg #[.slice z1 l1 y1,.slice z2 l2 y2,.slice z3 l3 y3,.slice z4 l4 y4,.slice z5 l5 y5,.slice z6 l6 y6,.int .i64 m.nx],.int .i64 0])/\Below w7.heap.size w7 w'):=by
    refine (zej _ _ _ _ _ _ m w7 HM7.out HM.out.big).mono ?_;rintro e w' ⟨v1,v2,v3,v4,v5,v6,rfl,O8,B8⟩;obtain ⟨z1,y1,z2,y2,z3,y3,z4,y4,z5,y5,z6,y6,rfl,rfl,rfl,rfl,rfl,rfl⟩:=O8.mr.form;rw [hf];exact ⟨z1,_,y1,z2,_,y2,z3,_,y3,z4,_,y4,z5,_,y5,z6,_,y6,rfl,B8⟩
   exact cQ13
  obtain ⟨p1,p2⟩:=zf2 m.ys hf;obtain ⟨qn,hqn⟩:∃ qn:Nat,ff m.ys=qn+1:=⟨ff m.ys - 1,by omega⟩
  have hq8:qn < 8:=by have:=HM.out.y;omega
  have hz:((ff m.ys:Nat):Int)=(qn:Int)+1:=by omega
  have CT:Hid (Calls Tryz.prog 93 #[.agg #[.slice a1 m.xs.length c1,.slice a2 m.ys.length c2,.slice (some ⟨g2,o2,none⟩) m.is.length c3,.slice a4 m.bs.length c4,.slice a5 m.fs.length c5,.slice a6 m.ds.length c6,.int .i64 m.nx]] w7 fun e w'=>∃ (z1:Option Addr) (y1:Nat) (z2:Option Addr) (y2:Nat) (z3:Option Addr) (y3:Nat) (z4:Option Addr) (y4:Nat) (z5:Option Addr) (y5:Nat) (z6:Option Addr) (y6:Nat),e=.returned (.tuple #[.agg #[.slice z1 m.xs.length y1,.slice z2 m.ys.length y2,.slice z3 m.is.length y3,.slice z4 m.bs.length y4,.slice z5 m.fs.length y5,.slice z6 m.ds.length y6,.int .i64 m.nx],.int .i64 ((qn:Int)+1)])/\MO w' (fun k=>w7.heap.size<=k) (.slice z1 m.xs.length y1) (.slice z2 m.ys.length y2) (.slice z3 m.is.length y3) (.slice z4 m.bs.length y4) (.slice z5 m.fs.length y5) (.slice z6 m.ds.length y6) ({ m with ys:=m.ys.set (ff m.ys - 1) true,fs:=m.fs.set 0 true }:MD)/\Below w7.heap.size w7 w'):=by
   refine (zej _ _ _ _ _ _ m w7 HM7.out HM.out.big).mono ?_;rintro e w' ⟨v1,v2,v3,v4,v5,v6,rfl,O8,B8⟩;rw [zf8 hf] at O8;obtain ⟨z1,y1,z2,y2,z3,y3,z4,y4,z5,y5,z6,y6,rfl,e2,rfl,rfl,e5,rfl⟩:=O8.mr.form;have e2':v2=.slice z2 m.ys.length y2:=e2.trans (by rw [show ({ m with ys:=m.ys.set (ff m.ys - 1) true,fs:=m.fs.set 0 true }:MD).ys.length=m.ys.length from List.length_set ..]);have e5':v5=.slice z5 m.fs.length y5:=e5.trans (by rw [show ({ m with ys:=m.ys.set (ff m.ys - 1) true,fs:=m.fs.set 0 true }:MD).fs.length=m.fs.length from List.length_set ..]);clear e2 e5;subst e2' e5';rw [hz];exact ⟨z1,y1,z2,y2,z3,y3,z4,y4,z5,y5,z6,y6,rfl,O8,B8⟩
  have HSH:Hid (Sh Z0 ({ m with ys:=m.ys.set (ff m.ys - 1) true,fs:=m.fs.set 0 true }:MD)):=by
   have:=HM.out.takeI;rw [zf8 hf] at this;exact this
  go_wp2_with fail
  refine CT.out.mono ?_;rintro e w8 ⟨z1,y1,z2,y2,z3,y3,z4,y4,z5,y5,z6,y6,rfl,O8,B8⟩;obtain ⟨W9,hW9⟩:∃ W9,w8.alloc (.cells #[.slice z1 m.xs.length y1,.slice z2 m.ys.length y2,.slice z3 m.is.length y3,.slice z4 m.bs.length y4,.slice z5 m.fs.length y5,.slice z6 m.ds.length y6,.int .i64 m.nx] 33)=W9:=⟨_,rfl⟩
  obtain ⟨bn,hbn⟩:∃ bn,w8.heap.size=bn:=⟨_,rfl⟩
  have HP9:Hid (PM W9 (fun k=>w7.heap.size<=k/\k < bn) bn (.slice z1 m.xs.length y1) (.slice z2 m.ys.length y2) (.slice z3 m.is.length y3) (.slice z4 m.bs.length y4) (.slice z5 m.fs.length y5) (.slice z6 m.ds.length y6) ({ m with ys:=m.ys.set (ff m.ys - 1) true,fs:=m.fs.set 0 true }:MD)/\Below w7.heap.size w7 W9/\w7.heap.size<=bn/\bn < W9.heap.size):=by
   rw [← hW9];have z8:=B8.size;refine ⟨⟨?_,(O8.bound.below ((Below.refl _ w8).alloc nR _) nR).mono (fun k hk=>by have:w7.heap.size<=k/\k < w8.heap.size:=hk;omega),by omega⟩,B8.alloc z8 _,by omega,by simp;omega⟩;rw [← hbn];exact AtC.new w8 33 _
  have HB9:Hid (Below W2.heap.size W2 W9):=HB7.out.trans (HP9.out.2.1.mono HB7.out.size);have hqb:(((qn:Int)+1) == 0)=false:=beq_eq_false_iff_ne.mpr (by omega);clear O8 B8 CT p1 p2;go_wp2_with fail
  refine (zcy _ bn _ _ _ _ _ _ ({ m with ys:=m.ys.set (ff m.ys - 1) true,fs:=m.fs.set 0 true }:MD) W9 HP9.out.1).mono ?_;rintro e w9' ⟨⟨rr,rfl⟩,hw9⟩;rw [hw9];clear hw9 w9' hW9 hbn x0 x1 x2 x3 x4 x5 x6
  cases rr with
  | false =>
   exact cQ22
  | true =>
  obtain ⟨gi,ci,pb,ei,ki0,ki1,ki2,-,hfz,hgl,hgS⟩:=HP9.out.1.inoAt qn (show qn < m.is.length by rw [HM.out.i];exact hq8);simp only [Value.slice.injEq,true_and] at ei;obtain ⟨rfl,rfl⟩:=ei;obtain ⟨v0,ki0⟩:∃ v0,W9.cell? ⟨gi,qn * 3,none⟩=some v0:=⟨_,ki0⟩
  obtain ⟨v1,ki1⟩:∃ v1,W9.cell? ⟨gi,qn * 3+1,none⟩=some v1:=⟨_,ki1⟩
  have xn2:=HP9.out.1.box.c2;have f0:=hfz (qn * 3);have f1:=hfz (qn * 3+1);have f2:=hfz (qn * 3+2);have HW9:Hid (∀ W,Below W9.heap.size W9 W->W.cell? ⟨bn,2,none⟩=some (.slice (some ⟨gi,0,none⟩) m.is.length y3)/\W.cell? ⟨gi,qn * 3,none⟩=some v0/\W.cell? ⟨gi,qn * 3+1,none⟩=some v1/\W.cell? ⟨gi,qn * 3+2,none⟩=some pb/\W.frozen? ⟨gi,qn * 3,none⟩=false/\W.frozen? ⟨gi,qn * 3+1,none⟩=false/\W.frozen? ⟨gi,qn * 3+2,none⟩=false):=fun W bb=>⟨(bb.cell (p:=⟨bn,2,none⟩) HP9.out.2.2.2).trans xn2,(bb.cell (p:=⟨gi,qn * 3,none⟩) hgl).trans ki0,(bb.cell (p:=⟨gi,qn * 3+1,none⟩) hgl).trans ki1,(bb.cell (p:=⟨gi,qn * 3+2,none⟩) hgl).trans ki2,(bb.frozen (p:=⟨gi,qn * 3,none⟩) hgl).trans f0,(bb.frozen (p:=⟨gi,qn * 3+1,none⟩) hgl).trans f1,(bb.frozen (p:=⟨gi,qn * 3+2,none⟩) hgl).trans f2⟩
  have HPUT:Hid (∀ (W:World) (pv:Value),ROwns W W9.heap.size 3 pv (ic [0,0])->Below W9.heap.size W9 W->BT Z0 (((W.setCell ⟨gi,qn * 3,none⟩ (.int .i64 kind)).setCell ⟨gi,qn * 3+1,none⟩ (.int .i64 (zak kind))).setCell ⟨gi,qn * 3+2,none⟩ pv) (fun k=>w7.heap.size<=k) bn/\Below w7.heap.size w7 (((W.setCell ⟨gi,qn * 3,none⟩ (.int .i64 kind)).setCell ⟨gi,qn * 3+1,none⟩ (.int .i64 (zak kind))).setCell ⟨gi,qn * 3+2,none⟩ pv)):=fun W pv O bb=>by
   obtain ⟨P9,b9,l9,l9'⟩:=HP9.out;have hp:=(P9.below bb).putI rfl qn (show qn < m.is.length by rw [HM.out.i];exact hq8) (.int .i64 kind,.int .i64 (zak kind),pv) (kind,zak kind,[0,0]) ⟨rfl,rfl,O.base_le (Nat.zero_le _)⟩ (fun k hk=>by
    have h1:=(O.lt k hk).1;exact ⟨fun e=>by have:=e.2;omega,by omega⟩)
   have hg:w7.heap.size<=gi:=hgS.1;have bo:=b9.trans (bb.mono b9.size);refine ⟨⟨_,_,_,_,_,_,_,_,hp.1,fun k hk=>?_,l9,HSH.out.inode qn ⟨by show 0<=zak kind/\zak kind<=200;unfold zak;split<;>omega,rfl,fun p hp=>by simp at hp;omega⟩ (fun hj p hp=>?_)⟩,((bo.setCell (p:=⟨gi,qn * 3,none⟩) hg _).setCell (p:=⟨gi,qn * 3+1,none⟩) hg _).setCell (p:=⟨gi,qn * 3+2,none⟩) hg _⟩
   ·rcases hk with h | h
    ·exact h.1
    ·have h1:=(O.lt k h).1;have:=b9.size;omega
   ·have e:List.count p ([0,0]:List Int)=0:=by
     rw [List.count_eq_zero];intro h;simp at h;omega
    show List.count p ([0,0]:List Int)<=_;omega
  have hwp:IntKind.i64.wrap (qn:Int)=(qn:Int):=wrap_small _ (by omega) (by omega);have qn0:(0:Int)<=(qn:Int):=by omega
  have qn1:(qn:Int) < (m.is.length:Int):=by have:=HM.out.i;omega
  clear hfz;go_upto_region 17 with fail
  go_cut [13] from 72 to 86 (fun c wx=>c=.pointer (some ⟨bn,0,none⟩)/\BT Z0 wx (fun k=>w7.heap.size<=k) bn/\Below w7.heap.size w7 wx)
  case first =>
   go_region_with (go_at_call 21;refine (zbf kind _).mono ?_;rintro e w10 ⟨pv,rfl,O10,B10⟩;obtain ⟨pa9,pc9,rfl⟩:=O10.form2;have HO10:=hide (And.intro O10 B10);obtain ⟨n0,n1,n2,n3,n4,n5,n6⟩:=HW9.out w10 (zac B10);clear O10 B10)
   all_goals (go_wp2_with fail;go_meet;exact ⟨rfl,HPUT.out w10 (.slice pa9 2 pc9) HO10.out.1 (zac HO10.out.2)⟩)
  case rest =>
   obtain ⟨rfl,hb10,B10⟩:=hcut;have HB10:=hide (And.intro hb10 B10);have hbn7:w7.heap.size<=bn:=HP9.out.2.2.1;obtain ⟨U,hU⟩:∃ U,uoI ((qn:Int)+1)=U:=⟨_,rfl⟩
   have CU:Hid (∀ W,Calls Tryz.prog 96 #[.int .i64 ((qn:Int)+1)] W fun e w'=>e=.returned (.int .i64 U)/\w'=W):=fun W=>by rw [← hU];exact zbe _ W
   clear hU hb10 B10 HPUT HW9 ki0 ki1 ki2 f0 f1 f2 xn2 hgl hgS HSH HP9;go_wp2_with fail
   refine (CU.out _).mono ?_;rintro e w9' ⟨rfl,hw9⟩;rw [hw9];clear hw9 w9';go_wp2_with fail
   refine (zb7 _ bn U wc HB10.out.1).mono ?_;rintro e w11 ⟨rfl,b11,c11⟩;have HB11:Hid (Below w7.heap.size w7 w11):=HB10.out.2.trans (c11.below HB10.out.2.size (fun k hk=>hk));obtain ⟨SB,u,v,iv,bv,dv,pv,mb,PB,hSB,hTB,hmB⟩:=b11;have HPB:Hid (PM w11 SB bn u v iv bv dv pv mb/\(∀ k,SB k->w7.heap.size<=k)/\Sh Z0 mb):=⟨PB,hSB,hmB⟩
   have HT11:Hid (∀ k,w11.heap.size<=k->w7.heap.size<=k):=fun k hk=>by have:=HB11.out.size;omega
   clear PB hSB hTB hmB c11 HB10 CU;go_wp2_with fail
   refine (zf4 (fun k=>w7.heap.size<=k) bn j nm ((qn:Int)+1) SB u v iv bv dv pv mb w11 HPB.out.1 HPB.out.2.1 hbn7 HT11.out HPB.out.2.2 hj8 hnm ⟨by omega,by omega⟩).mono ?_;rintro e w12 ⟨⟨id,rfl,-,-⟩,⟨SA,u',v',iv',bv',dv',pv',ma,PA,hSA,-,hmA,-⟩,c12⟩;have HB12:Hid (Below W2.heap.size W2 w12):=by
    have b12:=HB11.out.trans (c12.below HB11.out.size (fun k hk=>hk));exact HB7.out.trans (b12.mono HB7.out.size)
   obtain ⟨h1,k1,h2,k2,h3,k3,h4,k4,h5,k5,h6,k6,rfl,rfl,rfl,rfl,rfl,rfl⟩:=PA.form;clear c12 HPB HT11 HB11;by_cases hid:id=0
   ·subst hid;clear PA hSA hmA;obtain ⟨y0,y1,y2,y3,y4,y5,y6⟩:=AtC.sev ((HC.out w12 HB12.out).2.2.1);obtain ⟨r0,r1,r2,r3,r4,r5,r6⟩:=AtC.sev ((HC.out w12 HB12.out).2.1);have v0:=(HC.out w12 HB12.out).2.1.frozen 0;have v1:=(HC.out w12 HB12.out).2.1.frozen 1;have v2:=(HC.out w12 HB12.out).2.1.frozen 2;have v3:=(HC.out w12 HB12.out).2.1.frozen 3;have v4:=(HC.out w12 HB12.out).2.1.frozen 4;have v5:=(HC.out w12 HB12.out).2.1.frozen 5;have v6:=(HC.out w12 HB12.out).2.1.frozen 6;have HFF:=hide (HC.out w12 HB12.out);go_wp2;refine bodyPost_ret (v:=.tuple #[.agg #[.slice s1 m.xs.length t1,.slice s2 m.ys.length t2,.slice s3 m.is.length t3,.slice s4 m.bs.length t4,.slice s5 m.fs.length t5,.slice s6 m.ds.length t6,.int .i64 m.nx],.int .i64 4]) (by simp [results,go_sem,r0,r1,r2,r3,r4,r5,r6]) rfl ⟨⟨_,_,_,_,_,_,m,_,rfl,(HFF.out.2.2.2.1.of_heap fun k hk _=>zaa _ _ _ _ _ _ _ _ _ k (by have:w.heap.size+1+1<=k/\k < b2:=hk;omega)).mono (fun k hk=>by have:w.heap.size+1+1<=k/\k < b2:=hk;omega),HM.out⟩,zab HFF.out.2.2.2.2.1 (by omega) _ _ _ _ _ _ _⟩
   have hidb:(id == 0)=false:=beq_eq_false_iff_ne.mpr hid;have HZ:Hid (w.heap.size+1+1<=w7.heap.size):=by have:=(HC.out w7 HB7.out).2.2.2.2.2;show _<=_;omega
   obtain ⟨y0,y1,y2,y3,y4,y5,y6⟩:=AtC.sev PA.box;obtain ⟨r0,r1,r2,r3,r4,r5,r6⟩:=AtC.sev ((HC.out w12 HB12.out).2.1);have v0:=(HC.out w12 HB12.out).2.1.frozen 0;have v1:=(HC.out w12 HB12.out).2.1.frozen 1;have v2:=(HC.out w12 HB12.out).2.1.frozen 2;have v3:=(HC.out w12 HB12.out).2.1.frozen 3;have v4:=(HC.out w12 HB12.out).2.1.frozen 4;have v5:=(HC.out w12 HB12.out).2.1.frozen 5;have v6:=(HC.out w12 HB12.out).2.1.frozen 6;have HF:=hide (And.intro PA.own (And.intro hSA hmA));clear PA hSA hmA;go_wp2;refine bodyPost_ret (v:=.tuple #[.agg #[.slice h1 ma.xs.length k1,.slice h2 ma.ys.length k2,.slice h3 ma.is.length k3,.slice h4 ma.bs.length k4,.slice h5 ma.fs.length k5,.slice h6 ma.ds.length k6,.int .i64 ma.nx],.int .i64 0]) (by simp [results,go_sem,r0,r1,r2,r3,r4,r5,r6]) rfl ⟨⟨_,_,_,_,_,_,ma,_,rfl,(HF.out.1.of_heap fun k hk _=>zaa _ _ _ _ _ _ _ _ _ k (by have:=HF.out.2.1 k hk;have:=HZ.out;omega)).mono (fun k hk=>by have:=HF.out.2.1 k hk;have:=HZ.out;omega),HF.out.2.2⟩,zab (HC.out w12 HB12.out).2.2.2.2.1 (by omega) _ _ _ _ _ _ _⟩
namespace Kit
structure NmR (w wr:World) (D X:Array Value) (bw:Nat) (lv:Value) (l:List ByteArray):Prop where
 o:ROwns wr (w.heap.size+1) 9 lv (stc l)
 n:∀ k,lv.ownBlock=some k->k≠w.heap.size+1+1/\k≠bw
 b:Below w.heap.size w wr
 d:AtC wr w.heap.size 30 D
 x:AtC wr (w.heap.size+1+1) 37 X
theorem NmR.below {w wr wr':World}{D X:Array Value}{bw:Nat}{lv:Value}{l:List ByteArray}(h:NmR w wr D X bw lv l)(hb:Below wr.heap.size wr wr'):NmR w wr' D X bw lv l :=
 ⟨h.o.below hb nR,h.n,h.b.trans (hb.mono h.b.size),h.d.over hb,h.x.over hb⟩
theorem NmR.app {w wr wr':World}{D X:Array Value}{bw:Nat}{lv lv':Value}{l l':List ByteArray}(h:NmR w wr D X bw lv l)(ho:ROwns wr' (w.heap.size+1) 9 lv' (stc l'))(hg:wr.grownBy wr' lv.ownBlock)(hv:∀ k,lv'.ownBlock=some k->lv.ownBlock=some k\/wr.heap.size<=k)(hbw:bw < wr.heap.size):NmR w wr' D X bw lv' l' :=
 ⟨ho,fun k hk=>(hv k hk).elim (h.n k) (fun e=>by have:=h.x.lt;omega),h.b.grown hg h.b.size (fun k hk=>by have:=(h.o.lt k hk).1;omega),h.d.grown hg (fun e=>by have:=(h.o.lt _ e).1;omega),h.x.grown hg (fun e=>(h.n _ e).1 rfl)⟩
theorem NmR.turn {w wr:World}{D X:Array Value}{bw bw':Nat}{lv:Value}{l:List ByteArray}(h:NmR w wr D X bw lv l)(hb:∀ k,lv.ownBlock=some k->k≠bw'):NmR w wr D X bw' lv l:=⟨h.o,fun k hk=>⟨(h.n k hk).1,hb k hk⟩,h.b,h.d,h.x⟩
theorem zgr {bs:List Blk}(hk:∀ q∈bs,q.2.1.length<=4)(x:Int):(blkAt bs x).2.1.length<=4:=by
 cases h:inB x 1 bs.length with
 | false=>unfold blkAt;rw [h];simp
 | true =>
  obtain ⟨jb,hb,-,e⟩:=zdp h;rw [e];exact hk _ (List.getElem_mem hb)
def TxR (B:Nat) (w:World) (e:Ending):Prop:=∃ (lv:Value) (l:List ByteArray),e=.returned lv/\ROwns w B 9 lv (stc l)/\l.length<=100
theorem TxR.mk {B:Nat}{w:World}{e:Ending}(h:∃ (lv:Value) (l:List ByteArray),e=.returned lv/\ROwns w B 9 lv (stc l)/\l.length<=100):TxR B w e:=h
end Kit
theorem zjo (x:Int)(dx dy iv bv:Value)(xs ys:List Bool)(is:List Ino)(bs:List Blk)(w:World)(h:DR w dx dy iv bv xs ys is bs)(hi:is.length=8)(hbl:bs.length<=1048576)(hp:∀ q∈is,q.2.2.length<=2)(hk:∀ q∈bs,q.2.1.length<=4) :
  Calls Tryz.prog 103 #[.agg #[dx,dy,iv,bv],.int .i64 x] w fun e w'=>TxR w.heap.size w' e/\Below w.heap.size w w':=by
 obtain ⟨a1,c1,a2,c2,a3,c3,a4,c4,rfl,rfl,rfl,rfl⟩:=h.form;have HH:=hide h;have HW:Hid (∀ W,Below ((w.alloc (.cells #[.slice a1 xs.length c1,.slice a2 ys.length c2,.slice a3 is.length c3,.slice a4 bs.length c4] 30)).alloc (.cells #[] 9)).heap.size ((w.alloc (.cells #[.slice a1 xs.length c1,.slice a2 ys.length c2,.slice a3 is.length c3,.slice a4 bs.length c4] 30)).alloc (.cells #[] 9)) W->Below w.heap.size w W/\AtC W w.heap.size 30 #[.slice a1 xs.length c1,.slice a2 ys.length c2,.slice a3 is.length c3,.slice a4 bs.length c4]/\w.heap.size+1+1<=W.heap.size):=fun W bb=>by
  have k1:=((AtC.new w 30 #[.slice a1 xs.length c1,.slice a2 ys.length c2,.slice a3 is.length c3,.slice a4 bs.length c4]).over ((Below.refl _ (w.alloc (.cells #[.slice a1 xs.length c1,.slice a2 ys.length c2,.slice a3 is.length c3,.slice a4 bs.length c4] 30))).alloc nR (.cells #[] 9))).over bb;have sz:=bb.size;simp at sz;exact ⟨(((Below.refl _ w).alloc nR _).alloc (by simp) _).trans (bb.mono (by simp;omega)),k1,sz⟩
 have HL0:Hid (ROwns ((w.alloc (.cells #[.slice a1 xs.length c1,.slice a2 ys.length c2,.slice a3 is.length c3,.slice a4 bs.length c4] 30)).alloc (.cells #[] 9)) w.heap.size 9 (.slice (some ⟨w.heap.size+1,0,none⟩) 0 0) (stc [])):=by
  have l0:=ROwns.lit0 (w.alloc (.cells #[.slice a1 xs.length c1,.slice a2 ys.length c2,.slice a3 is.length c3,.slice a4 bs.length c4] 30)) w.heap.size 9 (by simp);have e0:(w.alloc (.cells #[.slice a1 xs.length c1,.slice a2 ys.length c2,.slice a3 is.length c3,.slice a4 bs.length c4] 30)).heap.size=w.heap.size+1:=by simp
  rw [e0] at l0;exact l0
 have x2:((w.alloc (.cells #[.slice a1 xs.length c1,.slice a2 ys.length c2,.slice a3 is.length c3,.slice a4 bs.length c4] 30)).alloc (.cells #[] 9)).cell? ⟨w.heap.size,2,none⟩=some (.slice a3 is.length c3):=(HW.out _ bR).2.1.cell 2;have HBL:=hide hbl;have HKK:=hide hk
 cases hin:inB x 1 is.length with
 | false =>
  have HIN:=hide hin;clear hin h hi hp hk hbl;go_enter Tryz.func103,Tryz.ntmps103
  go_wp2_with (go_at_call 20;refine (zaj x 1 _ _).mono ?_;rintro e w7 ⟨rfl,rfl⟩;rw [HIN.out])
  go_ret;exact ⟨TxR.mk ⟨_,[],rfl,HL0.out,by decide⟩,(HW.out _ bR).1⟩
 | true =>
  have HIN:=hide hin;obtain ⟨h1,h2⟩:=zao hin;obtain ⟨j,rfl⟩:∃ j:Nat,x=(j:Int)+1:=⟨(x - 1).toNat,by omega⟩
  have hj:j < is.length:=by omega
  have hj8:j < 8:=by omega
  have hwj:IntKind.i64.wrap (j:Int)=(j:Int):=wrap_small _ (by omega) (by omega);obtain ⟨qa,qc,qe,-,qh⟩:=h.i;simp only [Value.slice.injEq,true_and] at qe;obtain ⟨rfl,rfl⟩:=qe;obtain ⟨g2,o2,⟨t0,t1,t2⟩,rfl,hg2,r0,r1,r2,e0,e1,rr⟩:=qh j hj;have hpl:=hp _ (List.getElem_mem hj);obtain ⟨⟨kd,ln,ps⟩,hX⟩:∃ X,is[j]=X:=⟨_,rfl⟩
  rw [hX] at e0 e1 rr hpl;simp only at e0 e1 rr r0 r1 r2 hpl;subst e0 e1;obtain ⟨sa,sc,rfl⟩:=rr.form;have HRR:=hide rr;have HIH:=hide h;have bW:=(HW.out _ bR).1;have y0:=(bW.cell (p:=⟨g2,o2+j * 3,none⟩) hg2).trans r0;have y1:=(bW.cell (p:=⟨g2,o2+j * 3+1,none⟩) hg2).trans r1;have y2:=(bW.cell (p:=⟨g2,o2+j * 3+2,none⟩) hg2).trans r2;have j0:(0:Int)<=(j:Int):=by omega
  have j1:(j:Int) < (is.length:Int):=by omega
  clear qh hX rr bW r0 r1 r2 hin h1 h2 hp hk hbl h hi;by_cases hkd:kd=2
  rotate_left
  ·have hkb:(kd != 2)=true:=by simp [hkd]
   go_enter Tryz.func103,Tryz.ntmps103
   go_wp2_with (go_at_call 20;refine (zaj ((j:Int)+1) 1 _ _).mono ?_;rintro e w7 ⟨rfl,rfl⟩;rw [HIN.out])
   go_ret;exact ⟨TxR.mk ⟨_,[],rfl,HL0.out,by decide⟩,(HW.out _ bR).1⟩
  subst hkd;obtain ⟨W1,hW1⟩:∃ W1,(((w.alloc (.cells #[.slice a1 xs.length c1,.slice a2 ys.length c2,.slice (some ⟨g2,o2,none⟩) is.length c3,.slice a4 bs.length c4] 30)).alloc (.cells #[] 9)).alloc (.cells #[.int .i64 2,.int .i64 ln,.slice sa ps.length sc] 37))=W1:=⟨_,rfl⟩
  have HB1:Hid (AtC W1 (w.heap.size+1+1) 37 #[.int .i64 2,.int .i64 ln,.slice sa ps.length sc]/\Below ((w.alloc (.cells #[.slice a1 xs.length c1,.slice a2 ys.length c2,.slice (some ⟨g2,o2,none⟩) is.length c3,.slice a4 bs.length c4] 30)).alloc (.cells #[] 9)).heap.size ((w.alloc (.cells #[.slice a1 xs.length c1,.slice a2 ys.length c2,.slice (some ⟨g2,o2,none⟩) is.length c3,.slice a4 bs.length c4] 30)).alloc (.cells #[] 9)) W1):=by
   rw [← hW1];refine ⟨?_,bR.alloc nR _⟩;have k:=AtC.new ((w.alloc (.cells #[.slice a1 xs.length c1,.slice a2 ys.length c2,.slice (some ⟨g2,o2,none⟩) is.length c3,.slice a4 bs.length c4] 30)).alloc (.cells #[] 9)) 37 #[.int .i64 2,.int .i64 ln,.slice sa ps.length sc];have e0:((w.alloc (.cells #[.slice a1 xs.length c1,.slice a2 ys.length c2,.slice (some ⟨g2,o2,none⟩) is.length c3,.slice a4 bs.length c4] 30)).alloc (.cells #[] 9)).heap.size=w.heap.size+1+1:=by simp
   rw [e0] at k;exact k
  have HN1:Hid (NmR w W1 #[.slice a1 xs.length c1,.slice a2 ys.length c2,.slice (some ⟨g2,o2,none⟩) is.length c3,.slice a4 bs.length c4] #[.int .i64 2,.int .i64 ln,.slice sa ps.length sc] 0 (.slice (some ⟨w.heap.size+1,0,none⟩) 0 0) []):=by
   obtain ⟨k1,k2,k3⟩:=HW.out W1 HB1.out.2;have l0:=ROwns.lit0 (w.alloc (.cells #[.slice a1 xs.length c1,.slice a2 ys.length c2,.slice (some ⟨g2,o2,none⟩) is.length c3,.slice a4 bs.length c4] 30)) (w.heap.size+1) 9 (by simp);have e0:(w.alloc (.cells #[.slice a1 xs.length c1,.slice a2 ys.length c2,.slice (some ⟨g2,o2,none⟩) is.length c3,.slice a4 bs.length c4] 30)).heap.size=w.heap.size+1:=by simp
   rw [e0] at l0;exact ⟨l0.below HB1.out.2 nR,fun k hk=>by simp [Value.ownBlock] at hk;omega,k1,k2,HB1.out.1⟩
  go_enter Tryz.func103,Tryz.ntmps103
  go_wp2_with (go_at_call 20;refine (zaj ((j:Int)+1) 1 _ _).mono ?_;rintro e w7 ⟨rfl,rfl⟩;rw [HIN.out])
  clear hW1 y0 y1 y2 x2 HB1 HW HL0;go_loopw [5,7] (fun x5 kk wr=>∃ (lv:Value) (l:List ByteArray) (q:Nat),lv=x5/\q<=ps.length/\kk=.int .i64 q/\Hid (NmR w wr #[.slice a1 xs.length c1,.slice a2 ys.length c2,.slice (some ⟨g2,o2,none⟩) is.length c3,.slice a4 bs.length c4] #[.int .i64 2,.int .i64 ln,.slice sa ps.length sc] 0 lv l/\l.length<=4 * q)) (fun _ kk _=>ps.length - (intOf kk).toNat)
  case atStart=>exact ⟨_,[],0,rfl,Nat.zero_le _,rfl,HN1.out,by decide⟩
  case round =>
   obtain ⟨lv,l,q,hlv,hq,rfl,HR⟩:=hrel;subst hlv;obtain ⟨wo,hwo⟩:∃ wo,wo=wr:=⟨_,rfl⟩
   subst hwo;clear HN1;have q0:(0:Int)<=(q:Int):=by omega
   have x7:=HR.out.1.x.c2;by_cases hlt:q < ps.length
   rotate_left
   ·have q1:¬ ((q:Int) < (ps.length:Int)):=by omega
    go_wp2;go_ret;exact ⟨TxR.mk ⟨_,l,rfl,HR.out.1.o.base_le (by omega),by have:=HR.out.2;omega⟩,HR.out.1.b⟩
   have q1:(q:Int) < (ps.length:Int):=by omega
   obtain ⟨pa',pc',e1,hcp⟩:=HRR.out;simp only [Value.slice.injEq,true_and] at e1;obtain ⟨rfl,rfl⟩:=e1;obtain ⟨gp,op,rfl,hgp,kp⟩:=hcp q hlt;obtain ⟨Pn,hPn⟩:∃ Pn,ps[q]=Pn:=⟨_,rfl⟩
   rw [hPn] at kp;have CB:=hide (fun (W:World) (hd:Below w.heap.size w W)=>zey Pn (.slice a1 xs.length c1) (.slice a2 ys.length c2) (.slice (some ⟨g2,o2,none⟩) is.length c3) (.slice a4 bs.length c4) xs ys is bs w W HIH.out hd HBL.out);have hb4:(blkAt bs Pn).2.1.length<=4:=zgr HKK.out Pn;obtain ⟨⟨bd,bss,btx⟩,hBD⟩:∃ X,blkAt bs Pn=X:=⟨_,rfl⟩
   obtain ⟨F,hF⟩:∃ F,inB Pn 1 bs.length=F:=⟨_,rfl⟩
   rw [hBD,hF] at CB;rw [hBD] at hb4;simp only at hb4;have HWR:Hid (∀ W,Below wo.heap.size wo W->NmR w W #[.slice a1 xs.length c1,.slice a2 ys.length c2,.slice (some ⟨g2,o2,none⟩) is.length c3,.slice a4 bs.length c4] #[.int .i64 2,.int .i64 ln,.slice (some ⟨gp,op,none⟩) ps.length sc] 0 lv l/\W.cell? ⟨gp,op+q,none⟩=some (.int .i64 Pn)):=fun W b=>by
    have r2:=HR.out.1.below b;exact ⟨r2,(r2.b.cell (p:=⟨gp,op+q,none⟩) hgp).trans kp⟩
   clear hPn kp hcp hBD hF;go_upto_region 8 with fail
   clear x7;go_cut [8,9] from 35 to 78 (fun bv ok wx=>∃ (bw:Nat) (ba:Option Addr) (bc:Nat),bv=.pointer (some ⟨bw,0,none⟩)/\ok=.bool F/\AtC wx bw 44 #[.bool bd,.slice ba bss.length bc,.string btx]/\RSl w (.slice ba bss.length bc) bss/\Below wo.heap.size wo wx/\wo.heap.size<=bw)
   case first =>
    refine zar (by kernel_rfl) [0,1,2,3,4,5,6,7,8,9,10] [11,12] [([0,1,2,3,4,5,6,7,8,10],[[9,11,12],[11,9,12]])] (fun i=>match i with|0=>.const [] (.agg #[.slice a1 xs.length c1,.slice a2 ys.length c2,.slice (some ⟨g2,o2,none⟩) is.length c3,.slice a4 bs.length c4])|1=>.const [] (.pointer (some ⟨w.heap.size+1+1,2,none⟩))|2=>.const [1] (.slice (some ⟨gp,op,none⟩) ps.length sc)|3=>.const [] (.int .i64 (q:Int))|4=>.const [2,3] (.pointer (some ⟨gp,op+q,none⟩))|5=>.const [4] (.int .i64 Pn)|6=>MkT2 [0,5] (BlkR w bd btx bss F) BlkR.below|7=>MkMv 6|8=>MkFs 7|9=>MkSd 7|10=>MkW 44 #[.bool false,.slice none 0 0,.string ⟨#[]⟩]|_=>.triv) (fun x=>⟨List.toArray ((.agg #[.slice a1 xs.length c1,.slice a2 ys.length c2,.slice (some ⟨g2,o2,none⟩) is.length c3,.slice a4 bs.length c4])::(.int .i64 (↑j+1))::(.pointer (some ⟨w.heap.size,0,none⟩))::(undef)::(.slice none 0 0)::(lv)::(.pointer (some ⟨w.heap.size+1+1,0,none⟩))::(.int .i64 ↑q)::(x 10)::(u9)::(u10)::(.slice (some ⟨w.heap.size+1,0,none⟩) 0 0)::(.int .i64 (↑j+1))::(.pointer (some ⟨w.heap.size,2,none⟩))::(.slice (some ⟨g2,o2,none⟩) is.length c3)::(.int .i64 ↑is.length)::(.bool true)::(.bool false)::(.bool false)::(.pointer (some ⟨w.heap.size,2,none⟩))::(.slice (some ⟨g2,o2,none⟩) is.length c3)::(.int .i64 (↑j+1))::(.int .i64 ↑j)::(.pointer (some ⟨g2,o2+j * 3,none⟩))::(.pointer (some ⟨g2,o2+j * 3,none⟩))::(.int .i64 2)::(.bool false)::(.bool false)::(undef)::(.pointer (some ⟨w.heap.size,2,none⟩))::(.slice (some ⟨g2,o2,none⟩) is.length c3)::(.int .i64 (↑j+1))::(.int .i64 ↑j)::(.pointer (some ⟨g2,o2+j * 3,none⟩))::(.agg #[.int .i64 2,.int .i64 ln,.slice (some ⟨gp,op,none⟩) ps.length sc])::(.int .i64 ↑q)::(.pointer (some ⟨w.heap.size+1+1,2,none⟩))::(.slice (some ⟨gp,op,none⟩) ps.length sc)::(.int .i64 ↑ps.length)::(.bool true)::(u40)::(u41)::(x 7)::(x 0)::(x 1)::(x 2)::(x 3)::(x 4)::(x 5)::(x 6)::(x 8)::(x 9)::(u52)::(u53)::(u54)::(u55)::(u56)::(u57)::(u58)::(u59)::(u60)::(u61)::(u62)::(u63)::(u64)::(u65)::(u66)::(u67)::(u68)::(u69)::(u70)::(u71)::(u72)::(u73)::(u74)::(u75)::(u76)::(u77)::(u78)::(undef)::[]),[]⟩) (fun i=>match i with|0=>u43|1=>u44|2=>u45|3=>u46|4=>u47|5=>u48|6=>u49|7=>u42|8=>u50|9=>u51|10=>u8|_=>undef) rfl (zat (by kernel_rfl) (by kernel_rfl)) (by kernel_rfl) (by kernel_rfl) (by kernel_rfl) rfl ?_ ?_ ?_
    ·intro jo hj so x iw W hd hp K hK;simp only [List.mem_cons,List.not_mem_nil,or_false] at hj;rcases hj with rfl|rfl|rfl|rfl|rfl|rfl|rfl|rfl|rfl|rfl|rfl<;>refine wpOp_step (o:=_) rfl fun K' hK'=>?_<;>have HK:=hide (fun (v:Value) (W':World) h1 h2=>hK' _ _ (hK v W' h1 h2))<;>simp only [upd,Nat.reduceEqDiff,if_true,if_false] at HK
     ·have bw:=zac hp.bel;have k0:=(HWR.out W bw).1.d;obtain ⟨q5,q6,q7,q8⟩:=AtC.four k0;clear k0 bw;go_simp;exact HK.out _ _ bR rfl
     ·exact cQ9
     ·have e1:x 1=.pointer (some ⟨w.heap.size+1+1,2,none⟩):=hp.post 1 (hd 1 mz0);have bw:=zac hp.bel;have q5:=(HWR.out W bw).1.x.c2;clear bw;simp only [e1] at HK ⊢;go_simp;exact HK.out _ _ bR rfl
     ·exact cQ9
     ·have e2:x 2=.slice (some ⟨gp,op,none⟩) ps.length sc:=hp.post 2 (hd 2 mz0);have e3:x 3=.int .i64 (q:Int):=hp.post 3 (hd 3 mz1);simp only [e2,e3] at HK ⊢;go_simp;exact HK.out _ _ bR rfl
     ·have e4:x 4=.pointer (some ⟨gp,op+q,none⟩):=hp.post 4 (hd 4 mz0);have bw:=zac hp.bel;have q9:=(HWR.out W bw).2;clear bw;simp only [e4] at HK ⊢;go_simp;exact HK.out _ _ bR rfl
     ·have e0:x 0=.agg #[.slice a1 xs.length c1,.slice a2 ys.length c2,.slice (some ⟨g2,o2,none⟩) is.length c3,.slice a4 bs.length c4]:=hp.post 0 (hd 0 mz0);have e5:x 5=.int .i64 Pn:=hp.post 5 (hd 5 mz1);have dr:=(HWR.out W (zac hp.bel)).1.b;simp only [e0,e5] at HK ⊢;clear e0 e5;go_simp;refine (CB.out W dr).mono ?_;rintro e w6 ⟨sv,rfl,R6,B6⟩;obtain ⟨ba,bc,rfl,hR6⟩:=R6;go_simp;exact HK.out _ _ B6 ⟨_,_,rfl,ba,bc,rfl,rfl,ba,bc,rfl,hR6⟩
     ·have e6:∃ a r,x 6=.tuple #[a,r]/\BlkR w bd btx bss F (iw 6).1 (iw 6).2 W a r:=hp.post 6 (hd 6 mz0);obtain ⟨a,r,e6,-⟩:=e6;have ea:=hide e6;simp only [e6] at HK ⊢;clear e6;go_simp;exact HK.out _ _ bR ⟨ea.out,a,r,rfl⟩
     ·exact cQ68
     ·exact cQ69
     ·exact cQ54
    ·intro x iw W hp;obtain ⟨a,r,e6,R6⟩:=hp.post 6 (by decide);obtain ⟨e7,-⟩:=hp.post 7 (by decide);have e8:x 8=fstOf (x 7):=hp.post 8 (by decide);have e9:x 9=sndOf (x 7):=hp.post 9 (by decide);obtain ⟨e10,z10,A10⟩:=hp.post 10 (by decide);have l10:=hp.lo 10 (by decide);have lc:=hp.lo 6 (by decide);have bel:=zac hp.bel;have ap:=hp.apart 6 (by decide) 10 (by decide) (by decide);rw [← e7,e6] at e8;rw [← e7,e6] at e9
     replace e9:x 9=r:=e9
     rw [e6] at e7
     replace e7:=e7.symm
     replace e8:x 8=a:=e8
     have y0:=A10.c0;have f0:=A10.frozen 0;have y1:=A10.c1;have f1:=A10.frozen 1;have y2:=A10.c2;have f2:=A10.frozen 2;obtain ⟨ba,bc,rfl,rfl,hR⟩:=R6;have hb10:wo.heap.size<=(iw 10).1:=l10.1;have HFI:Hid (AtC W (iw 10).1 44 #[.bool false,.slice none 0 0,.string ⟨#[]⟩]/\RSl w (.slice ba bss.length bc) bss/\Below wo.heap.size wo W/\wo.heap.size<=(iw 10).1):=⟨A10,hR,bel,hb10⟩
     clear hp A10 hR bel ap lc l10 z10 hb10;simp only [e7,e8,e10,e9] at *;generalize (iw 10).1=bw at *;go_wp2_with fail
     exact cQ31
    ·intro qa hqa l hl x iw W hp;simp only [List.mem_cons,List.not_mem_nil,or_false] at hqa;subst hqa;simp only [List.mem_cons,List.not_mem_nil,or_false] at hl;obtain ⟨a,r,e6,R6⟩:=hp.post 6 (by decide);obtain ⟨e7,-⟩:=hp.post 7 (by decide);have e8:x 8=fstOf (x 7):=hp.post 8 (by decide);obtain ⟨e10,z10,A10⟩:=hp.post 10 (by decide);have l10:=hp.lo 10 (by decide);have lc:=hp.lo 6 (by decide);have bel:=zac hp.bel;have ap:=hp.apart 6 (by decide) 10 (by decide) (by decide);rw [← e7,e6] at e8;rw [e6] at e7
     replace e7:=e7.symm
     replace e8:x 8=a:=e8
     have y0:=A10.c0;have f0:=A10.frozen 0;have y1:=A10.c1;have f1:=A10.frozen 1;have y2:=A10.c2;have f2:=A10.frozen 2;obtain ⟨ba,bc,rfl,rfl,hR⟩:=R6;have hb10:wo.heap.size<=(iw 10).1:=l10.1;have HFI:Hid (AtC W (iw 10).1 44 #[.bool false,.slice none 0 0,.string ⟨#[]⟩]/\RSl w (.slice ba bss.length bc) bss/\Below wo.heap.size wo W/\wo.heap.size<=(iw 10).1):=⟨A10,hR,bel,hb10⟩
     clear hp A10 hR bel ap lc l10 z10 hb10;simp only [e7,e8,e10] at *;generalize (iw 10).1=bw at *;rcases hl with rfl | rfl
     ·go_wp2_with fail
      exact cQ31
     ·go_wp2_with fail
      exact cQ31
   case rest =>
    obtain ⟨bw,ba,bc,rfl,rfl,Aw,Rw,Bw,lw⟩:=hcut;have HN2:Hid (NmR w wc #[.slice a1 xs.length c1,.slice a2 ys.length c2,.slice (some ⟨g2,o2,none⟩) is.length c3,.slice a4 bs.length c4] #[.int .i64 2,.int .i64 ln,.slice (some ⟨gp,op,none⟩) ps.length sc] bw lv l/\AtC wc bw 44 #[.bool bd,.slice ba bss.length bc,.string btx]/\l.length<=4 * q+0):=⟨(HR.out.1.below Bw).turn (fun k hk=>by have:=(HR.out.1.o.lt k hk).2;omega),Aw,HR.out.2⟩
    have HRS:=hide Rw;clear Aw Rw Bw CB HR HWR lw;go_wp2_with fail
    go_loopw [5,10] (fun x5 kk wr=>∃ (lv:Value) (l:List ByteArray) (t:Nat),lv=x5/\t<=bss.length/\kk=.int .i64 t/\Hid (NmR w wr #[.slice a1 xs.length c1,.slice a2 ys.length c2,.slice (some ⟨g2,o2,none⟩) is.length c3,.slice a4 bs.length c4] #[.int .i64 2,.int .i64 ln,.slice (some ⟨gp,op,none⟩) ps.length sc] bw lv l/\AtC wr bw 44 #[.bool bd,.slice ba bss.length bc,.string btx]/\l.length<=4 * q+t)) (fun _ kk _=>bss.length - (intOf kk).toNat)
    case atStart=>exact ⟨lv,l,0,rfl,Nat.zero_le _,rfl,HN2.out⟩
    case round =>
     clear HN2;obtain ⟨lv',l',t,hlv,ht,rfl,HS⟩:=hrel;subst hlv;have g0:=HS.out.2.1.c0;have g1:=HS.out.2.1.c1;have t0:(0:Int)<=(t:Int):=by omega
     have hq2:q < 2:=by omega
     by_cases htl:t < bss.length
     rotate_left
     ·have t1:¬ ((t:Int) < (bss.length:Int)):=by omega
      exact cQ72
     have t1:(t:Int) < (bss.length:Int):=by omega
     cases bd with
     | false =>
      exact cQ72
     | true =>
     obtain ⟨sa',sc',e1,-,hcs⟩:=HRS.out;simp only [Value.slice.injEq,true_and] at e1;obtain ⟨rfl,rfl⟩:=e1;obtain ⟨gs,os,rfl,hgs,ks0,ks1⟩:=hcs t htl;obtain ⟨sn,hsn⟩:∃ sn,bss[t].1=sn:=⟨_,rfl⟩
     rw [hsn] at ks0
     replace ks0:=(HS.out.1.b.cell (p:=⟨gs,os+t * 2,none⟩) hgs).trans ks0
     clear hcs hsn ks1;by_cases hse:sn=⟨#[]⟩
     ·subst hse;go_wp2;go_roundw
      case rel=>exact ⟨lv',l',t+1,rfl,by omega,by go_num,HS.out.1,HS.out.2.1,by have:=HS.out.2.2;omega⟩
      case measure=>simp [intOf];omega
     have hse2:(sn.toList == ([]:List UInt8))=false:=zec hse;have hse3:(sn.toList != ([]:List UInt8))=true:=by simp [bne,hse2]
     have HT:Hid (ROwns (wr.alloc (.cells #[.string sn] 9)) (w.heap.size+1) 9 lv' (stc l')):=HS.out.1.o.alloc _;have HK2:Hid ((wr.alloc (.cells #[.string sn] 9)).cell? ⟨wr.heap.size,0,none⟩=some (.string sn)):=(AtC.new wr 9 #[.string sn]).cell 0;have HSZ:Hid (w.heap.size+1<=(wr.alloc (.cells #[.string sn] 9)).heap.size):=by have:=HS.out.1.b.size;show _<=_;simp;omega
     have HTL:Hid ((stc l').length<=100000000000):=by have:=HS.out.2.2;show _<=_;rw [zai];omega
     have HAL:Hid (Below wr.heap.size wr (wr.alloc (.cells #[.string sn] 9))):=(Below.refl _ wr).alloc nR _;go_wp2_with (at_builtin;refine wpList_step fun K' hK'=>?_;refine zal _ rfl (.tmp 70) (.tmp 77) 67 rfl (w.heap.size+1) 9 Tryz.u67 _ 16 Tryz.i9 rfl (by decide) lv' _ rfl HT.out HSZ.out wr.heap.size (.string sn) rfl HK2.out rfl HTL.out ?_;intro v12 w12 T12 G12 V12;refine hK' _ _ ?_;have HR12:=hide (And.intro T12 (And.intro G12 V12));clear T12 G12 V12 hK')
     have HRL:Hid (NmR w w12 #[.slice a1 xs.length c1,.slice a2 ys.length c2,.slice (some ⟨g2,o2,none⟩) is.length c3,.slice a4 bs.length c4] #[.int .i64 2,.int .i64 ln,.slice (some ⟨gp,op,none⟩) ps.length sc] bw v12 (l' ++ [sn])/\AtC w12 bw 44 #[.bool true,.slice (some ⟨gs,os,none⟩) bss.length bc,.string btx]/\(l' ++ [sn]).length<=4 * q+(t+1)):=by
      obtain ⟨T12,G12,V12⟩:=HR12.out;have n1:=HS.out.1.below HAL.out;have hbw:bw < (wr.alloc (.cells #[.string sn] 9)).heap.size:=(HS.out.2.1.over HAL.out).lt;refine ⟨n1.app (by rw [za6];exact T12) G12 V12 hbw,(HS.out.2.1.over HAL.out).grown G12 (fun e=>(HS.out.1.n _ e).2 rfl),by have:=HS.out.2.2;simp;omega⟩
     go_roundw
     case rel=>exact ⟨v12,l' ++ [sn],t+1,rfl,by omega,by go_num,HRL.out⟩
     case measure=>simp [intOf];omega
def FindP (is:List Ino) (bs:List Blk) (nm:ByteArray) (B s k:Int):Prop:=zdh bs nm B s k/\(k≠0->∃ x∈is,B∈x.2.2)
theorem FindP.zero (is:List Ino)(bs:List Blk)(nm:ByteArray):FindP is bs nm 0 0 0:=⟨.inl ⟨rfl,rfl,rfl⟩,fun e=>absurd rfl e⟩
theorem zf9 (x:Int)(nm:ByteArray)(dx dy iv bv:Value)(xs ys:List Bool)(is:List Ino)(bs:List Blk)(w:World)(h:DR w dx dy iv bv xs ys is bs)(hB:Big 1048576 xs ys is bs) :
  Calls Tryz.prog 102 #[.agg #[dx,dy,iv,bv],.int .i64 x,.string nm] w fun e w'=>∃ B s k:Int,e=.returned (.tuple #[.int .i64 B,.int .i64 s,.int .i64 k])/\FindP is bs nm B s k/\Below w.heap.size w w':=by
 have H:=hide h;have HG:=hide hB;obtain ⟨a3,c3,rfl,-,hc⟩:=h.i;have HC:=hide hc;clear h hc hB
 cases hb:inB x 1 is.length with
 | false =>
  have HX:=hide hb;clear hb;have HB:Hid (∀ A,Below w.heap.size w (w.alloc (.cells A 30))):=fun A=>(Below.refl _ w).alloc nR _;go_enter Tryz.func102,Tryz.ntmps102
  go_wp2_with fail
  refine (zaj x 1 _ _).mono ?_;rintro e w1 ⟨rfl,rfl⟩;rw [HX.out];go_wp2
  go_ret3
  exact ⟨0,0,0,rfl,FindP.zero is bs nm,HB.out _⟩
 | true =>
  have HX:=hide hb;obtain ⟨h1,h2⟩:=zao hb;clear hb;obtain ⟨j,rfl⟩:∃ j:Nat,x=(j:Int)+1:=⟨(x - 1).toNat,by omega⟩
  have hj:j < is.length:=by omega
  obtain ⟨g,off,t,rfl,hg,k0,k1,k2,r1,r2,r3⟩:=HC.out j hj;obtain ⟨t0,t1,t2⟩:=t;simp only at r1 r2 r3 k0 k1 k2;subst r1 r2;have hps:=HG.out.p j hj;have hil:is.length<=1048576:=HG.out.i;generalize is[j].1=kd at *;generalize is[j].2.1=ln at *;have HPS:Hid (∀ p,p∈is[j].2.2->∃ x∈is,p∈x.2.2):=fun p hp=>⟨_,List.getElem_mem hj,hp⟩
  generalize is[j].2.2=ps at *;have HR:=hide r3;obtain ⟨pa,pc,rfl,-⟩:=r3;have HB:Hid (Below w.heap.size w (w.alloc (.cells #[dx,dy,.slice (some ⟨g,off,none⟩) is.length c3,bv] 30))):=(Below.refl _ w).alloc nR _;have n0:(w.alloc (.cells #[dx,dy,.slice (some ⟨g,off,none⟩) is.length c3,bv] 30)).cell? ⟨g,off+j * 3,none⟩=some (.int .i64 kd):=(HB.out.cell (p:=⟨g,off+j * 3,none⟩) hg).trans k0;have n1:(w.alloc (.cells #[dx,dy,.slice (some ⟨g,off,none⟩) is.length c3,bv] 30)).cell? ⟨g,off+j * 3+1,none⟩=some (.int .i64 ln):=(HB.out.cell (p:=⟨g,off+j * 3+1,none⟩) hg).trans k1;have n2:(w.alloc (.cells #[dx,dy,.slice (some ⟨g,off,none⟩) is.length c3,bv] 30)).cell? ⟨g,off+j * 3+2,none⟩=some (.slice pa ps.length pc):=(HB.out.cell (p:=⟨g,off+j * 3+2,none⟩) hg).trans k2;have j0:(0:Int)<=(j:Int):=by omega
  have j1:(j:Int) < (is.length:Int):=by omega
  clear k0 k1 k2;go_enter Tryz.func102,Tryz.ntmps102
  go_wp2_with fail
  refine (zaj _ 1 _ _).mono ?_;rintro e w1 ⟨rfl,rfl⟩;rw [HX.out];by_cases hk:kd=2
  ·subst hk;have HW:Hid (∀ W,Below ((w.alloc (.cells #[dx,dy,.slice (some ⟨g,off,none⟩) is.length c3,bv] 30)).alloc (.cells #[.int .i64 2,.int .i64 ln,.slice pa ps.length pc] 37)).heap.size ((w.alloc (.cells #[dx,dy,.slice (some ⟨g,off,none⟩) is.length c3,bv] 30)).alloc (.cells #[.int .i64 2,.int .i64 ln,.slice pa ps.length pc] 37)) W->AtC W w.heap.size 30 #[dx,dy,.slice (some ⟨g,off,none⟩) is.length c3,bv]/\AtC W (w.heap.size+1) 37 #[.int .i64 2,.int .i64 ln,.slice pa ps.length pc]/\Below w.heap.size w W/\RInts W (.slice pa ps.length pc) ps/\DR W dx dy (.slice (some ⟨g,off,none⟩) is.length c3) bv xs ys is bs):=fun W b=>by
    exact cQ46
   go_wp2;go_loopw [10] (fun i wr=>∃ q:Nat,q<=ps.length/\i=.int .i64 q/\Hid (Below ((w.alloc (.cells #[dx,dy,.slice (some ⟨g,off,none⟩) is.length c3,bv] 30)).alloc (.cells #[.int .i64 2,.int .i64 ln,.slice pa ps.length pc] 37)).heap.size ((w.alloc (.cells #[dx,dy,.slice (some ⟨g,off,none⟩) is.length c3,bv] 30)).alloc (.cells #[.int .i64 2,.int .i64 ln,.slice pa ps.length pc] 37)) wr)) (fun i _=>ps.length - (intOf i).toNat)
   case atStart=>exact ⟨0,Nat.zero_le _,rfl,Below.refl _ _⟩
   case round =>
    obtain ⟨q,hq,rfl,HQ⟩:=hrel;obtain ⟨A0,A1,-,-,-⟩:=HW.out wr HQ.out;have y2:=A1.c2;clear A0 A1;by_cases hlt:q < ps.length
    ·obtain ⟨A0,A1,-,rI,dR⟩:=HW.out wr HQ.out;obtain ⟨pa',pc',e1,hcp⟩:=rI;simp only [Value.slice.injEq,true_and] at e1;obtain ⟨rfl,rfl⟩:=e1;obtain ⟨gp,op,rfl,hgp,kp⟩:=hcp q hlt;obtain ⟨Pn,hPn⟩:∃ Pn,ps[q]=Pn:=⟨_,rfl⟩
     rw [hPn] at kp;have HPM:Hid (∃ x∈is,Pn∈x.2.2):=HPS.out Pn (by rw [← hPn];exact List.getElem_mem _);have HD:=hide dR;have hbl:bs.length<=1048576:=HG.out.b;have CB:=hide (fun (W:World) (hd:Below wr.heap.size wr W)=>zey Pn dx dy (.slice (some ⟨g,off,none⟩) is.length c3) bv xs ys is bs wr W HD.out hd hbl);have hbn:=zf1 HG.out Pn;obtain ⟨⟨bd,bss,btx⟩,hBD⟩:∃ X,blkAt bs Pn=X:=⟨_,rfl⟩
     obtain ⟨F,hF⟩:∃ F,inB Pn 1 bs.length=F:=⟨_,rfl⟩
     rw [hBD,hF] at CB;rw [hBD] at hbn;have HBD:=hide hBD;have HFF:=hide hF;have q0:(0:Int)<=(q:Int):=by omega
     have q1:(q:Int) < (ps.length:Int):=by omega
     have HC2:Hid (∀ W,Below wr.drew.heap.size wr.drew W->AtC W w.heap.size 30 #[dx,dy,.slice (some ⟨g,off,none⟩) is.length c3,bv]/\AtC W (w.heap.size+1) 37 #[.int .i64 2,.int .i64 ln,.slice (some ⟨gp,op,none⟩) ps.length pc]/\W.cell? ⟨gp,op+q,none⟩=some (.int .i64 Pn)/\DR W dx dy (.slice (some ⟨g,off,none⟩) is.length c3) bv xs ys is bs):=fun W b=>by
      exact cQ111
     have HKP:=hide kp;clear hPn kp dR hcp hBD hF A0 A1;go_wp2_with fail
     refine Exists.elim (p:=fun QQ:Exit->Act->World->Prop=>∀ ex ac W,QQ ex ac W↔(ex=.normal/\∃ (z6:Value) (bw:Nat) (sa:Option Addr) (sc:Nat),ac=⟨List.toArray ((Value.agg #[dx,dy,Value.slice (some { block:=g,off:=off }) is.length c3,bv]) :: (Value.int IntKind.i64 (↑j+1)) :: (Value.string nm) :: (Value.pointer (some { block:=w.heap.size,off:=0 })) :: (undef) :: (undef) :: (u6) :: (u7) :: (u8) :: (Value.pointer (some { block:=w.heap.size+1,off:=0 })) :: (Value.int IntKind.i64 ↑q) :: (.pointer (some ⟨bw,0,none⟩)) :: (.bool F) :: (u13) :: (Value.int IntKind.i64 (↑j+1)) :: (Value.pointer (some { block:=w.heap.size,off:=2 })) :: (Value.slice (some { block:=g,off:=off }) is.length c3) :: (Value.int IntKind.i64 ↑is.length) :: (Value.bool true) :: (Value.bool false) :: (Value.bool false) :: (Value.pointer (some { block:=w.heap.size,off:=2 })) :: (Value.slice (some { block:=g,off:=off }) is.length c3) :: (Value.int IntKind.i64 (↑j+1)) :: (Value.int IntKind.i64 ↑j) :: (Value.pointer (some { block:=g,off:=off+j * 3 })) :: (Value.pointer (some { block:=g,off:=off+j * 3 })) :: (Value.int IntKind.i64 2) :: (Value.bool false) :: (Value.bool false) :: (Value.pointer (some { block:=w.heap.size,off:=2 })) :: (Value.slice (some { block:=g,off:=off }) is.length c3) :: (Value.int IntKind.i64 (↑j+1)) :: (Value.int IntKind.i64 ↑j) :: (Value.pointer (some { block:=g,off:=off+j * 3 })) :: (Value.agg #[Value.int IntKind.i64 2,Value.int IntKind.i64 ln,Value.slice (some { block:=gp,off:=op }) ps.length pc]) :: (Value.int IntKind.i64 ↑q) :: (Value.pointer (some { block:=w.heap.size+1,off:=2 })) :: (Value.slice (some { block:=gp,off:=op }) ps.length pc) :: (Value.int IntKind.i64 ↑ps.length) :: (Value.bool true) :: (u41) :: (u42) :: (z6) :: (.agg #[dx,dy,.slice (some ⟨g,off,none⟩) is.length c3,bv]) :: (.pointer (some ⟨w.heap.size+1,2,none⟩)) :: (.slice (some ⟨gp,op,none⟩) ps.length pc) :: (.int .i64 q) :: (.pointer (some ⟨gp,op+q,none⟩)) :: (.int .i64 Pn) :: (z6) :: (.agg #[.bool bd,.slice sa bss.length sc,.string btx]) :: (.bool F) :: (u53) :: (u54) :: (u55) :: (u56) :: (u57) :: (u58) :: (u59) :: (u60) :: (u61) :: (u62) :: (u63) :: (u64) :: (u65) :: (u66) :: (u67) :: (u68) :: (u69) :: (u70) :: (u71) :: (u72) :: (u73) :: (u74) :: (u75) :: (u76) :: []),[]⟩/\AtC W bw 44 #[.bool bd,.slice sa bss.length sc,.string btx]/\RSl wr (.slice sa bss.length sc) bss/\Below wr.heap.size wr W)) ⟨_,fun _ _ _=>Iff.rfl⟩ fun QQ hQQ=>?_;have HQQ:=hide hQQ;clear hQQ;refine Code.wp_mono (Q:=QQ) ?_ ?_
     rotate_left
     ·exact cQ0
     intro ex ac W3 hq3;obtain ⟨rfl,z6,bw,sa,sc,rfl,A3,R3,B3⟩:=(HQQ.out _ _ _).1 hq3;clear hq3 HQQ;have HN:Hid (∀ W,Below W3.heap.size W3 W->AtC W bw 44 #[.bool bd,.slice sa bss.length sc,.string btx]/\RSl W (.slice sa bss.length sc) bss/\W.cell? ⟨w.heap.size+1,2,none⟩=some (.slice (some ⟨gp,op,none⟩) ps.length pc)/\W.cell? ⟨gp,op+q,none⟩=some (.int .i64 Pn)/\Below w.heap.size w W/\Below ((w.alloc (.cells #[dx,dy,.slice (some ⟨g,off,none⟩) is.length c3,bv] 30)).alloc (.cells #[.int .i64 2,.int .i64 ln,.slice (some ⟨gp,op,none⟩) ps.length pc] 37)).heap.size ((w.alloc (.cells #[dx,dy,.slice (some ⟨g,off,none⟩) is.length c3,bv] 30)).alloc (.cells #[.int .i64 2,.int .i64 ln,.slice (some ⟨gp,op,none⟩) ps.length pc] 37)) W):=fun W b=>by
      exact cQ65
     obtain ⟨d1,d2,-⟩:=HN.out _ bR;have g0:=d1.c0;have g1:=d1.c1;have g2:=d1.c2;have HD2:=hide d2;clear d1 d2 A3 R3 B3 y2 CB HC2;go_wp2_with fail
     refine (zg6 bd _ bss btx nm W3 HD2.out hbn).mono ?_;rintro e w4 ⟨k,rfl,SL,B4⟩;obtain ⟨d1,d2,d3,d4,d5,d6⟩:=HN.out w4 B4;have g0:=d1.c0;have g1:=d1.c1;have HE:=hide (And.intro d5 d6);clear d1 d5 d6 HN B4 HD2 HQ
     cases F with
     | false =>
      exact cQ37
     | true =>
      cases bd with
      | false =>
       exact cQ37
      | true =>
       rcases SL with rfl | ⟨jj,hjj,rfl,hnm,hsz⟩
       ·exact cQ37
       ·obtain ⟨sa',sc',e1,-,hcs⟩:=d2;simp only [Value.slice.injEq,true_and] at e1;obtain ⟨rfl,rfl⟩:=e1;obtain ⟨gs,os,rfl,-,-,ks⟩:=hcs jj hjj;have HFI:Hid (zdh bs nm Pn (jj:Int) bss[jj].2):=by
         exact cQ113
        generalize bss[jj].2=ino at *;have t0:(0:Int)<=(jj:Int):=by omega
        have t1:(jj:Int) < (bss.length:Int):=by omega
        clear hcs hnm hsz;go_wp2;go_quiet (fail)
        go_wp2
        go_ret3
        exact ⟨_,_,_,rfl,⟨HFI.out,fun _=>HPM.out⟩,below_drewN HE.out.1 _⟩
    ·have HF:=hide (HW.out wr HQ.out).2.2.1;clear HQ;go_wp2
     go_ret3
     exact ⟨0,0,0,rfl,FindP.zero is bs nm,HF.out⟩
  ·have hk2:decide (kd=2)=false:=decide_eq_false hk;go_wp2
   go_ret3
   exact ⟨0,0,0,rfl,FindP.zero is bs nm,HB.out⟩
variable {Z : ZT}
theorem zh7 (T:Nat->Prop)(b:Nat)(x y:Int)(w:World)(h:BT Z w T b)(hT:∀ k,w.heap.size<=k->T k) :
  Calls Tryz.prog 111 #[.pointer (some ⟨b,0,none⟩),.int .i64 x,.int .i64 y] w fun e w'=>e=.returned (.tuple #[])/\BT Z w' T b/\Chg T w w':=by
 obtain ⟨S,u,v,iv,bv,dv,pv,m,hP,hSL,hLb,hS⟩:=h;obtain ⟨a1,c1,a2,c2,a3,c3,a4,c4,a5,c5,a6,c6,rfl,rfl,rfl,rfl,rfl,rfl⟩:=hP.form;obtain ⟨x0,x1,x2,x3,x4,x5,x6⟩:=AtC.sev hP.box;have HP:=hide hP;have HS:=hide hS;have HLB:Hid (T b/\b < w.heap.size):=⟨hLb,hP.box.lt⟩
 have HTT:=hide hT;have q5:w.frozen? ⟨b,0,none⟩=false:=hP.box.frozen 0;clear hP hS hSL hLb hT;go_enter Tryz.func111,Tryz.ntmps111
 go_wp2_with fail
 refine (zcv x _ _ _ _ _ _ m w HP.out.mr HS.out.big).mono ?_;rintro e w2 ⟨u1,u2,u3,u4,u5,u6,rfl,O2,B2⟩;obtain ⟨b1,d1,b2,d2,b3,d3,b4,d4,b5,d5,b6,d6,rfl,rfl,rfl,rfl,rfl,rfl⟩:=O2.mr.form;obtain ⟨n,hn⟩:∃ n,({ m with ds:=za8 x m.ds }:MD).ds.length=n:=⟨_,rfl⟩
 rw [hn] at O2;simp only [hn];have A2:=HP.out.box.over B2;have hn40:n<=40:=by rw [← hn];exact (zc4 HS.out x).l
 obtain ⟨W3,hW3⟩:∃ W3,(((((((w2.setCell ⟨b,0,none⟩ (.slice b1 m.xs.length d1)).setCell ⟨b,1,none⟩ (.slice b2 m.ys.length d2)).setCell ⟨b,2,none⟩ (.slice b3 m.is.length d3)).setCell ⟨b,3,none⟩ (.slice b4 m.bs.length d4)).setCell ⟨b,4,none⟩ (.slice b5 m.fs.length d5)).setCell ⟨b,5,none⟩ (.slice b6 n d6)).setCell ⟨b,6,none⟩ (.int .i64 m.nx))=W3:=⟨_,rfl⟩
 have HH:Hid (PM W3 (fun k=>w.heap.size<=k) b (.slice b1 m.xs.length d1) (.slice b2 m.ys.length d2) (.slice b3 m.is.length d3) (.slice b4 m.bs.length d4) (.slice b5 m.fs.length d5) (.slice b6 n d6) { m with ds:=za8 x m.ds }/\Sh Z { m with ds:=za8 x m.ds }/\({ m with ds:=za8 x m.ds }:MD).ds.length=n/\Chg T w W3):=by
  rw [← hW3];exact ⟨PM.store A2 O2 (by have:=HLB.out;omega),zc4 HS.out x,hn,((((((((Chg.of_below B2).setCell HLB.out.1 _).setCell HLB.out.1 _).setCell HLB.out.1 _).setCell HLB.out.1 _).setCell HLB.out.1 _).setCell HLB.out.1 _).setCell HLB.out.1 _)⟩
 have r0:=A2.c0;have v0:=A2.frozen 0;have r1:=A2.c1;have v1:=A2.frozen 1;have r2:=A2.c2;have v2:=A2.frozen 2;have r3:=A2.c3;have v3:=A2.frozen 3;have r4:=A2.c4;have v4:=A2.frozen 4;have r5:=A2.c5;have v5:=A2.frozen 5;have r6:=A2.c6;have v6:=A2.frozen 6;have y5:=HH.out.1.box.c5;clear A2 O2 B2 hn q5 x0 x1 x2 x3 x4 x5 x6;go_wp2;go_loopw [6] (fun i wr=>∃ j:Nat,j<=n/\i=.int .i64 j/\Hid (∃ m':MD,PM wr (fun k=>w.heap.size<=k) b (.slice b1 m.xs.length d1) (.slice b2 m.ys.length d2) (.slice b3 m.is.length d3) (.slice b4 m.bs.length d4) (.slice b5 m.fs.length d5) (.slice b6 n d6) m'/\Sh Z m'/\m'.ds.length=n/\Chg T w wr)) (fun i _=>n - (intOf i).toNat)
 case atStart=>exact ⟨0,Nat.zero_le _,rfl,_,HH.out⟩
 case round =>
  obtain ⟨j,hj,rfl,HR⟩:=hrel;obtain ⟨m',q1,q2,q3,q4⟩:=HR.out;have y5:=q1.box.c5;by_cases hlt:j < n
  ·have hj2:j < m'.ds.length:=by omega
   have hdk:=q2.dd _ (List.getElem_mem hj2);obtain ⟨g,c,p,e1,nn,-,hz,gS,hglt,hset⟩:=q1.dep_at j hj2;rw [q3] at e1;simp only [Value.slice.injEq,true_and] at e1;obtain ⟨rfl,rfl⟩:=e1;obtain ⟨X,hX⟩:∃ X,m'.ds[j]=X:=⟨_,rfl⟩
   rw [hX] at nn hset hdk;obtain ⟨id,kd,io,pt,bk,sl,nm,bt,ot,af,bl⟩:=X;simp only [DCells] at nn;obtain ⟨-,n1,-,-,n4,-,-,-,-,n9,-⟩:=nn;have f9:=hz (j * 11+9);have H0:Hid (∃ M',PM wr (fun k=>w.heap.size<=k) b (.slice b1 m.xs.length d1) (.slice b2 m.ys.length d2) (.slice b3 m.is.length d3) (.slice b4 m.bs.length d4) (.slice b5 m.fs.length d5) (.slice (some ⟨g,0,none⟩) n d6) M'/\Sh Z M'/\M'.ds.length=n/\Chg T w wr):=⟨m',q1,q2,q3,q4⟩
   have HE:Hid (∃ W9,wr.setCell ⟨g,j * 11+9,none⟩ (.int .i64 y)=W9/\W9.cell? ⟨b,5,none⟩=some (.slice (some ⟨g,0,none⟩) n d6)/\W9.cell? ⟨g,j * 11+4,none⟩=some (.int .i64 bk)/\Hid (∃ M',PM W9 (fun k=>w.heap.size<=k) b (.slice b1 m.xs.length d1) (.slice b2 m.ys.length d2) (.slice b3 m.is.length d3) (.slice b4 m.bs.length d4) (.slice b5 m.fs.length d5) (.slice (some ⟨g,0,none⟩) n d6) M'/\Sh Z M'/\M'.ds.length=n/\Chg T w W9)):=by
    have P9:=hset 9 (.int .i64 y) (⟨id,kd,io,pt,bk,sl,nm,bt,ot,y,bl⟩:Dp) (by decide) rfl rfl;have hj9:j < (m'.ds.set j (⟨id,kd,io,pt,bk,sl,nm,bt,ot,y,bl⟩:Dp)).length:=by rw [List.length_set];exact hj2
    obtain ⟨g2,c2',p2,e2,nn2,-⟩:=P9.dep_at j hj9;have e3:({ m' with ds:=m'.ds.set j (⟨id,kd,io,pt,bk,sl,nm,bt,ot,y,bl⟩:Dp) }:MD).ds[j]'hj9=⟨id,kd,io,pt,bk,sl,nm,bt,ot,y,bl⟩:=by show (m'.ds.set j _)[j]'_=_;simp
    simp only [Value.slice.injEq,Option.some.injEq,Addr.mk.injEq,and_true] at e2;obtain ⟨rfl,-,-⟩:=e2;rw [e3] at nn2;simp only [DCells] at nn2;obtain ⟨-,-,-,-,z4,-⟩:=nn2;refine ⟨_,rfl,P9.box.cell 5,z4,_,P9,q2.deps (by rw [List.length_set];exact q2.l) (fun q hq=>(List.mem_or_eq_of_mem_set hq).elim (q2.dd q) (fun e=>e ▸ ⟨⟨hdk.io,hdk.pt,hdk.bk,hdk.sl,hdk.bl,hdk.bn,hdk.nm⟩,hdk.id⟩)) (zc2 _ j hj2 _ (by rw [hX];exact ⟨Iff.rfl,fun _=>⟨rfl,rfl⟩⟩)),by show (m'.ds.set j _).length=n;rw [List.length_set];exact q3,q4.setCell (HTT.out _ gS) _⟩
   have j0:(0:Int)<=(j:Int):=by omega
   have j1:(j:Int) < (n:Int):=by omega
   clear q1 q2 q3 q4 HR hX hset hdk hz gS;by_cases h1:kd=4
   ·subst h1;by_cases h2:af=x
    ·subst h2;obtain ⟨W9,hW9,a5,a4',HW⟩:=HE.out;by_cases h3:y=0
     ·subst h3;obtain ⟨U,hU⟩:∃ U,uoB bk=U:=⟨_,rfl⟩
      have CU:Hid (∀ W,Calls Tryz.prog 101 #[.int .i64 bk] W fun e w'=>e=.returned (.int .i64 U)/\w'=W):=fun W=>by rw [← hU];exact za7 bk W
      clear hU;go_wp2_with fail
      refine (CU.out _).mono ?_;rintro e w9 ⟨rfl,rfl⟩;go_wp2_with fail
      obtain ⟨M',r1,r2,r3,r4⟩:=HW.out;refine (zbt _ b U _ _ _ _ _ _ M' _ r1).mono ?_;rintro e w10 ⟨rfl,P10,C10⟩;have HZ:Hid (∃ M',PM w10 (fun k=>w.heap.size<=k) b (.slice b1 m.xs.length d1) (.slice b2 m.ys.length d2) (.slice b3 m.is.length d3) (.slice b4 m.bs.length d4) (.slice b5 m.fs.length d5) (.slice (some ⟨g,0,none⟩) n d6) M'/\Sh Z M'/\M'.ds.length=n/\Chg T w w10):=⟨_,P10,r2.mark U,by rw [show (markU U M').ds=M'.ds by unfold markU;split<;>rfl];exact r3,r4.trans (C10.mono HTT.out)⟩
      clear r1 r2 r3 r4 P10 C10;go_wp2;go_roundw
      case rel=>exact ⟨j+1,by omega,by go_num,HZ.out⟩
      case measure=>simp [intOf];omega
     ·exact cQ121
    ·exact cQ44
   ·exact cQ44
  ·have HF:Hid (BT Z wr T b/\Chg T w wr):=⟨⟨_,_,_,_,_,_,_,m',q1,HTT.out,HLB.out.1,q2⟩,q4⟩
   exact cQ102
variable {Z : ZT}
def PutR (Z:ZT) (lo hi:Nat) (w:World) (a r:Value):Prop:=∃ (n1:Option Addr) (o1:Nat) (n2:Option Addr) (o2:Nat) (n3:Option Addr) (o3:Nat) (n4:Option Addr) (o4:Nat) (n5:Option Addr) (o5:Nat) (n6:Option Addr) (o6:Nat) (mn:MD) (rr:Int),a=.agg #[.slice n1 mn.xs.length o1,.slice n2 mn.ys.length o2,.slice n3 mn.is.length o3,.slice n4 mn.bs.length o4,.slice n5 mn.fs.length o5,.slice n6 mn.ds.length o6,.int .i64 mn.nx]/\r=.int .i64 rr/\MO w (fun k=>lo<=k/\k < hi) (.slice n1 mn.xs.length o1) (.slice n2 mn.ys.length o2) (.slice n3 mn.is.length o3) (.slice n4 mn.bs.length o4) (.slice n5 mn.fs.length o5) (.slice n6 mn.ds.length o6) mn/\Sh Z mn/\0<=rr/\rr<=99999
theorem PutR.below {Z:ZT}(lo hi:Nat)(w w':World)(a r:Value)(h:PutR Z lo hi w a r)(hb:Below w.heap.size w w'):PutR Z lo hi w' a r:=by
 obtain ⟨n1,o1,n2,o2,n3,o3,n4,o4,n5,o5,n6,o6,mn,rr,h1,h2,h3,h4⟩:=h;exact ⟨n1,o1,n2,o2,n3,o3,n4,o4,n5,o5,n6,o6,mn,rr,h1,h2,h3.below hb nR,h4⟩
theorem zhc (T:Nat->Prop)(b j t:Nat)(by_:Int)(S:Nat->Prop)(u v iv bv dv pv:Value)(m:MD)(w:World)(hP:PM w S b u v iv bv dv pv m)(hST:∀ k,S k->T k)(hTb:T b)(hT:∀ k,w.heap.size<=k->T k)(hm:Sh Z m)(hj:j < m.bs.length)(ht:t < m.bs[j].2.1.length)(hio:1<=m.bs[j].2.1[t].2/\m.bs[j].2.1[t].2<=8) :
  Calls Tryz.prog 105 #[.pointer (some ⟨b,0,none⟩),.int .i64 ((j:Int)+1),.int .i64 (t:Int),.int .i64 by_] w fun e w'=>e=.returned (.tuple #[])/\BT Z w' T b/\Chg T w w':=by
 replace hP:=hP.bound
 obtain ⟨g,c,gs,cs,rfl,r0,r1,q1,q2,-,gS,gl,-⟩:=hP.slotAt j hj t ht;obtain ⟨a1,c1,a2,c2,a3,c3,a4,c4,a5,c5,a6,c6,rfl,rfl,rfl,e4,rfl,rfl⟩:=hP.form;clear e4 a4 c4;have hkk:=hm.bb _ (List.getElem_mem hj);have hs4:=hkk.m;have hso:=hkk.s _ (List.getElem_mem ht);have hj16:j < 16:=by rw [← hm.b];exact hj
 obtain ⟨nm,hnm⟩:∃ nm,m.bs[j].2.1[t].1=nm:=⟨_,rfl⟩
 obtain ⟨io,hi⟩:∃ io,m.bs[j].2.1[t].2=io:=⟨_,rfl⟩
 rw [hnm] at q1;rw [hi] at q2 hio;have HNM:Hid (nm.size<=6):=by rw [← hnm];exact hso.1
 have HHT:Hid (t < m.bs[j].2.1.length):=ht;obtain ⟨sl,hsl⟩:∃ sl,m.bs[j].2.1.length=sl:=⟨_,rfl⟩
 have HSL:=hide hsl;rw [hsl] at r1 hs4;have htl:t < sl:=by rw [← hsl];exact ht
 have HSH:Hid (Sh Z { m with bs:=m.bs.set j (m.bs[j].1,m.bs[j].2.1.set t (⟨#[]⟩,0),m.bs[j].2.2) }):=hm.block j ⟨fun e=>by rw [List.length_set];exact hkk.n e,by rw [List.length_set];exact hkk.m,fun s hs=>(List.mem_or_eq_of_mem_set hs).elim (hkk.s s) (fun e=>e ▸ ⟨Nat.zero_le _,.inl ⟨rfl,rfl⟩⟩),hkk.t⟩;have hwj:IntKind.i64.wrap (j:Int)=(j:Int):=wrap_small _ (by omega) (by omega);have j0:(0:Int)<=(j:Int):=by omega
 have j1:(j:Int) < (m.bs.length:Int):=by omega
 have t0:(0:Int)<=(t:Int):=by omega
 have t1:(t:Int) < (sl:Int):=by omega
 have HIO:=hide hio;have HP:=hide hP;have HM:=hide hm;have HTB:Hid (T b/\b < w.heap.size):=⟨hTb,hP.box.lt⟩
 have HSS:Hid (∀ k,(S k/\k < w.heap.size)->T k/\k≠w.heap.size):=fun k hk=>⟨hST k hk.1,by have:=hk.2;omega⟩
 have HTT:Hid (∀ k,(w.alloc (.cells #[.string nm,.int .i64 io] 49)).heap.size<=k->T k/\k≠w.heap.size):=fun k hk=>by simp at hk;exact ⟨hT k (by omega),by omega⟩
 have HKK:Hid (∀ W,Chg (fun k=>T k/\k≠w.heap.size) (w.alloc (.cells #[.string nm,.int .i64 io] 49)) W->AtC W w.heap.size 49 #[.string nm,.int .i64 io]/\Chg T w W/\w.heap.size+1<=W.heap.size):=fun W hc=>⟨(hc.block _ (by simp) (fun e=>e.2 rfl)).trans (AtC.new w 49 #[.string nm,.int .i64 io]),(Chg.of_below ((Below.refl _ w).alloc nR _)).trans (hc.mono fun k hk=>hk.1),by have:=hc.size;simp at this;exact this⟩
 have x3:=hP.box.c3;have y0:(w.alloc (.cells #[.string nm,.int .i64 io] 49)).cell? ⟨b,0,none⟩=some (.slice a1 m.xs.length c1):=(hP.alloc _).box.cell 0;have y1:(w.alloc (.cells #[.string nm,.int .i64 io] 49)).cell? ⟨b,1,none⟩=some (.slice a2 m.ys.length c2):=(hP.alloc _).box.cell 1;have y2:(w.alloc (.cells #[.string nm,.int .i64 io] 49)).cell? ⟨b,2,none⟩=some (.slice a3 m.is.length c3):=(hP.alloc _).box.cell 2;have y3:(w.alloc (.cells #[.string nm,.int .i64 io] 49)).cell? ⟨b,3,none⟩=some (.slice (some ⟨g,0,none⟩) m.bs.length c):=(hP.alloc _).box.cell 3;have y4:(w.alloc (.cells #[.string nm,.int .i64 io] 49)).cell? ⟨b,4,none⟩=some (.slice a5 m.fs.length c5):=(hP.alloc _).box.cell 4;have y5:(w.alloc (.cells #[.string nm,.int .i64 io] 49)).cell? ⟨b,5,none⟩=some (.slice a6 m.ds.length c6):=(hP.alloc _).box.cell 5;have y6:(w.alloc (.cells #[.string nm,.int .i64 io] 49)).cell? ⟨b,6,none⟩=some (.int .i64 m.nx):=(hP.alloc _).box.cell 6;clear hP hm hio hkk hso hnm hi hsl hST hTb hT gS ht;go_enter Tryz.func105,Tryz.ntmps105
 go_wp2_with fail
 generalize hw1:(w.alloc (.cells #[.string nm,.int .i64 io] 49))=W1 at *;have HP1:Hid (PM W1 (fun k=>S k/\k < w.heap.size) b (.slice a1 m.xs.length c1) (.slice a2 m.ys.length c2) (.slice a3 m.is.length c3) (.slice (some ⟨g,0,none⟩) m.bs.length c) (.slice a5 m.fs.length c5) (.slice a6 m.ds.length c6) m):=by rw [← hw1];exact HP.out.alloc _
 have HLW:Hid (w.heap.size < W1.heap.size):=by rw [← hw1];show _ < _;simp
 clear hw1 HP r0 r1 q1 q2 x3;refine (zeb ((j:Int)+1) t _ _ _ _ _ _ m W1 HP1.out.mr (Nat.le_trans HM.out.l (by decide))).mono ?_;rintro e w2 ⟨⟨id,rfl⟩,B2⟩;have HP2:Hid (PM w2 (fun k=>S k/\k < w.heap.size) b (.slice a1 m.xs.length c1) (.slice a2 m.ys.length c2) (.slice a3 m.is.length c3) (.slice (some ⟨g,0,none⟩) m.bs.length c) (.slice a5 m.fs.length c5) (.slice a6 m.ds.length c6) m):=HP1.out.below B2;have HC2:Hid (Chg (fun k=>T k/\k≠w.heap.size) W1 w2):=Chg.of_below B2;clear B2 y0 y1 y2 y3 y4 y5 y6 HP1;go_wp2_with fail
 refine (kind_any _ b id _ _ _ _ _ _ m w2 HP2.out (Nat.le_trans HM.out.l (by decide))).mono ?_;rintro e w2' ⟨⟨kd,rfl⟩,hw2⟩;rw [hw2];clear hw2 w2';obtain ⟨g',c',gs',cs',e5,r0,r1,q1,q2,fz,gS,gl',hput⟩:=HP2.out.slotAt j hj t HHT.out;simp only [Value.slice.injEq,Option.some.injEq,Addr.mk.injEq,true_and,and_true] at e5;obtain ⟨rfl,rfl⟩:=e5;rw [HSL.out] at r1;obtain ⟨rv1,q1⟩:∃ rv,w2.cell? ⟨gs',t * 2,none⟩=some rv:=⟨_,q1⟩
 obtain ⟨rv2,q2⟩:∃ rv,w2.cell? ⟨gs',t * 2+1,none⟩=some rv:=⟨_,q2⟩
 have hst:=hput ⟨#[]⟩ 0;have HB3:Hid (BT Z ((w2.setCell ⟨gs',t * 2,none⟩ (.string ⟨#[]⟩)).setCell ⟨gs',t * 2+1,none⟩ (.int .i64 0)) (fun k=>T k/\k≠w.heap.size) b/\Chg (fun k=>T k/\k≠w.heap.size) W1 ((w2.setCell ⟨gs',t * 2,none⟩ (.string ⟨#[]⟩)).setCell ⟨gs',t * 2+1,none⟩ (.int .i64 0))):=by
  have sg:=HSS.out gs' gS;exact ⟨⟨_,_,_,_,_,_,_,_,hst,HSS.out,⟨HTB.out.1,by have:=HTB.out.2;omega⟩,HSH.out⟩,(HC2.out.setCell sg _).setCell sg _⟩
 have f1:=fz (t * 2);have f2:=fz (t * 2+1);have z3:=HP2.out.box.c3;obtain ⟨U,hU⟩:∃ U,uoB ((j:Int)+1)=U:=⟨_,rfl⟩
 have CU:Hid (∀ W,Calls Tryz.prog 101 #[.int .i64 ((j:Int)+1)] W fun e w'=>e=.returned (.int .i64 U)/\w'=W):=fun W=>by rw [← hU];exact za7 _ W
 clear hU fz hput hst HP2 HC2 HSH;go_wp2_with fail
 generalize ((w2.setCell ⟨gs',t * 2,none⟩ (.string ⟨#[]⟩)).setCell ⟨gs',t * 2+1,none⟩ (.int .i64 0))=W3 at *;clear r0 r1 q1 q2 f1 f2 z3;refine (CU.out _).mono ?_;rintro e w3' ⟨rfl,hw3⟩;rw [hw3];clear hw3 w3';go_wp2_with fail
 refine (zb7 _ b U W3 HB3.out.1).mono ?_;rintro e w4 ⟨rfl,b4,c4⟩;have HB4:Hid (BT Z w4 (fun k=>T k/\k≠w.heap.size) b/\Chg (fun k=>T k/\k≠w.heap.size) W1 w4):=⟨b4,HB3.out.2.trans c4⟩
 have HT4:Hid (∀ k,w4.heap.size<=k->T k/\k≠w.heap.size):=fun k hk=>HTT.out k (by have:=HB4.out.2.size;omega);clear b4 c4 HB3 CU;go_upto_region 5 with fail
 go_cut [57] from 13 to 57 (fun c wx=>(∃ r,c=.bool r)/\w4=wx)
 case first =>
  by_cases h2:kd=2
  ·subst h2;go_wp2_with fail
   go_meet
   exact ⟨⟨_,rfl⟩,rfl⟩
  ·have h2b:(kd == 2)=false:=by simp [h2]
   exact cQ63
 case rest =>
  obtain ⟨⟨r,rfl⟩,rfl⟩:=hcut
  cases r
  case true =>
   go_wp2_with fail
   refine (zh7 _ b id by_ w4 HB4.out.1 HT4.out).mono ?_;rintro e w5 ⟨rfl,b5,c5⟩;have HB5:Hid (BT Z w5 (fun k=>T k/\k≠w.heap.size) b/\Chg (fun k=>T k/\k≠w.heap.size) W1 w5):=⟨b5,HB4.out.2.trans c5⟩
   have HT5:Hid (∀ k,w5.heap.size<=k->T k/\k≠w.heap.size):=fun k hk=>HTT.out k (by have:=HB5.out.2.size;omega);have k1:=(HKK.out w5 HB5.out.2).1.c1;clear b5 c5 HB4 HT4;go_wp2_with fail
   refine (ze6 _ b io w5 HB5.out.1 HT5.out HIO.out.1 HIO.out.2).mono ?_;rintro e w6 ⟨rfl,b6,c6⟩;have HF:Hid (BT Z w6 T b/\Chg T w w6):=⟨b6.mono fun k hk=>hk.1,(HKK.out w6 (HB5.out.2.trans c6)).2.1⟩
   clear b6 c6 HB5 HT5;go_wp2;exact bodyPost_ret (results_none rfl _ _ _) rfl ⟨rfl,HF.out⟩
  case false =>
   obtain ⟨S4,pu,pv,pi,pb,pd,pp,mp,hP4,hS4,hTb4,hmp⟩:=HB4.out.1;obtain ⟨p1,r1,p2,r2,p3,r3,p4,r4,p5,r5,p6,r6,rfl,rfl,rfl,rfl,rfl,rfl⟩:=hP4.form;obtain ⟨y0,y1,y2,y3,y4,y5,y6⟩:=AtC.sev hP4.box;have HK4:=hide (HKK.out w4 HB4.out.2).1;have k0:=HK4.out.c0;have k1:=HK4.out.c1;have AA:=HK4.out.over ((Below.refl _ w4).alloc nR (.cells #[.slice none 0 0,.slice none 0 0,.slice none 0 0,.slice none 0 0,.slice none 0 0,.slice none 0 0,.int .i64 0] 33));have ka0:=AA.c0;have ka1:=AA.c1;have ya0:=(hP4.alloc (.cells #[.slice none 0 0,.slice none 0 0,.slice none 0 0,.slice none 0 0,.slice none 0 0,.slice none 0 0,.int .i64 0] 33)).box.c0;have ya1:=(hP4.alloc (.cells #[.slice none 0 0,.slice none 0 0,.slice none 0 0,.slice none 0 0,.slice none 0 0,.slice none 0 0,.int .i64 0] 33)).box.c1;have ya2:=(hP4.alloc (.cells #[.slice none 0 0,.slice none 0 0,.slice none 0 0,.slice none 0 0,.slice none 0 0,.slice none 0 0,.int .i64 0] 33)).box.c2;have ya3:=(hP4.alloc (.cells #[.slice none 0 0,.slice none 0 0,.slice none 0 0,.slice none 0 0,.slice none 0 0,.slice none 0 0,.int .i64 0] 33)).box.c3;have ya4:=(hP4.alloc (.cells #[.slice none 0 0,.slice none 0 0,.slice none 0 0,.slice none 0 0,.slice none 0 0,.slice none 0 0,.int .i64 0] 33)).box.c4;have ya5:=(hP4.alloc (.cells #[.slice none 0 0,.slice none 0 0,.slice none 0 0,.slice none 0 0,.slice none 0 0,.slice none 0 0,.int .i64 0] 33)).box.c5;have ya6:=(hP4.alloc (.cells #[.slice none 0 0,.slice none 0 0,.slice none 0 0,.slice none 0 0,.slice none 0 0,.slice none 0 0,.int .i64 0] 33)).box.c6;clear AA;have HP4:=hide hP4;have HMP:=hide hmp;have HDO:Hid (DOkN ⟨mp.nx,4,io,0,(j:Int)+1,(t:Int),nm,false,false,by_,[]⟩):=⟨HIO.out,by simp,⟨by show (0:Int)<=(j:Int)+1;omega,by show (j:Int)+1<=16;omega⟩,⟨by show (0:Int)<=(t:Int);omega,by show (t:Int)<=3;omega⟩,fun p hp=>by simp at hp,by simp,HNM.out⟩
   clear hP4 hS4 hTb4 hmp;go_upto_region 8 with fail
   go_cut [11] from 66 to 80 (fun c wx=>∃ (bn:Nat) (u' v' i' b' d' p':Value) (mn:MD),c=.pointer (some ⟨bn,0,none⟩)/\AtC wx bn 33 #[u',v',i',b',d',p',.int .i64 mn.nx]/\MO wx (fun k=>w4.heap.size<=k) u' v' i' b' d' p' mn/\Sh Z mn/\Below w4.heap.size w4 wx)
   case first =>
    refine zar (by kernel_rfl) [0,1,2,3,4,5,6,7,8,9,10,11,12,13,14,15] [16,17] [([0,1,2,3,4,5,6,7,8,9,10,11,12,13,15],[[14,16,17],[16,14,17]])] (fun i=>match i with|0=>.const [] (.pointer (some ⟨b,0,none⟩))|1=>.const [0] (.pointer (some ⟨b,0,none⟩))|2=>.const [1] (.agg #[.slice p1 mp.xs.length r1,.slice p2 mp.ys.length r2,.slice p3 mp.is.length r3,.slice p4 mp.bs.length r4,.slice p5 mp.fs.length r5,.slice p6 mp.ds.length r6,.int .i64 mp.nx])|3=>.const [] (.pointer (some ⟨w.heap.size,1,none⟩))|4=>.const [3] (.int .i64 io)|5=>.const [] (.int .i64 ((j:Int)+1))|6=>.const [] (.int .i64 (t:Int))|7=>.const [] (.pointer (some ⟨w.heap.size,0,none⟩))|8=>.const [7] (.string nm)|9=>.const [] (.int .i64 by_)|10=>.const [4,5,6,8,9] (.agg #[.int .i64 0,.int .i64 4,.int .i64 io,.int .i64 0,.int .i64 ((j:Int)+1),.int .i64 (t:Int),.string nm,.bool false,.bool false,.int .i64 by_,.slice none 0 0])|11=>MkT2 [2,10] (PutR Z) PutR.below|12=>MkMv 11|13=>MkFs 12|14=>MkSd 12|15=>MkW 33 #[.slice none 0 0,.slice none 0 0,.slice none 0 0,.slice none 0 0,.slice none 0 0,.slice none 0 0,.int .i64 0]|_=>.triv) (fun x=>⟨List.toArray ((.pointer (some ⟨b,0,none⟩))::(.int .i64 (↑j+1))::(.int .i64 ↑t)::(.int .i64 by_)::(undef)::(undef)::(undef)::(undef)::(.pointer (some ⟨w.heap.size,0,none⟩))::(.int .i64 id)::(.int .i64 kd)::(x 15)::(undef)::(u13)::(u14)::(u15)::(u16)::(u17)::(u18)::(u19)::(u20)::(u21)::(u22)::(u23)::(u24)::(u25)::(u26)::(u27)::(u28)::(u29)::(u30)::(u31)::(u32)::(u33)::(u34)::(u35)::(u36)::(u37)::(u38)::(u39)::(u40)::(u41)::(u42)::(u43)::(u44)::(u45)::(u46)::(u47)::(u48)::(u49)::(u50)::(u51)::(u52)::(u53)::(u54)::(u55)::(u56)::(.bool false)::(undef)::(undef)::(undef)::(undef)::(undef)::(undef)::(undef)::(undef)::(x 12)::(x 0)::(x 1)::(x 2)::(x 3)::(x 4)::(x 5)::(x 6)::(x 7)::(x 8)::(x 9)::(x 10)::(x 11)::(x 13)::(x 14)::(undef)::(undef)::(undef)::[]),[]⟩) (fun i=>match i with|0=>undef|1=>undef|2=>undef|3=>undef|4=>undef|5=>undef|6=>undef|7=>undef|8=>undef|9=>undef|10=>undef|11=>undef|12=>undef|13=>undef|14=>undef|15=>undef|_=>undef) rfl (zat (by kernel_rfl) (by kernel_rfl)) (by kernel_rfl) (by kernel_rfl) (by kernel_rfl) rfl ?_ ?_ ?_
    ·intro jo hj so x iw W hd hp K hK;simp only [List.mem_cons,List.not_mem_nil,or_false] at hj;rcases hj with rfl|rfl|rfl|rfl|rfl|rfl|rfl|rfl|rfl|rfl|rfl|rfl|rfl|rfl|rfl|rfl<;>refine wpOp_step (o:=_) rfl fun K' hK'=>?_<;>have HK:=hide (fun (v:Value) (W':World) h1 h2=>hK' _ _ (hK v W' h1 h2))<;>simp only [upd,Nat.reduceEqDiff,if_true,if_false] at HK
     ·exact cQ9
     ·exact cQ48
     ·have e1:x 1=.pointer (some ⟨b,0,none⟩):=hp.post 1 (hd 1 mz0);have bw:=zac hp.bel;have k0:=HP4.out.box.over bw;obtain ⟨q0,q1,q2,q3,q4,q5,q6⟩:=AtC.sev k0;clear k0 bw;simp only [e1] at HK ⊢;go_simp;exact HK.out _ _ bR rfl
     ·exact cQ9
     ·have e3:x 3=.pointer (some ⟨w.heap.size,1,none⟩):=hp.post 3 (hd 3 mz0);have bw:=zac hp.bel;have q0:=(HK4.out.over bw).c1;clear bw;simp only [e3] at HK ⊢;go_simp;exact HK.out _ _ bR rfl
     ·exact cQ9
     ·exact cQ9
     ·exact cQ9
     ·have e7:x 7=.pointer (some ⟨w.heap.size,0,none⟩):=hp.post 7 (hd 7 mz0);have bw:=zac hp.bel;have q0:=(HK4.out.over bw).c0;clear bw;simp only [e7] at HK ⊢;go_simp;exact HK.out _ _ bR rfl
     ·exact cQ9
     ·have e4:x 4=.int .i64 io:=hp.post 4 (hd 4 mz0);have e5:x 5=.int .i64 ((j:Int)+1):=hp.post 5 (hd 5 mz1);have e6:x 6=.int .i64 (t:Int):=hp.post 6 (hd 6 mz2);have e8:x 8=.string nm:=hp.post 8 (hd 8 mz3);have e9:x 9=.int .i64 by_:=hp.post 9 (hd 9 mz4);simp only [e4,e5,e6,e8,e9] at HK ⊢;go_simp;exact HK.out _ _ bR rfl
     ·have e2:x 2=.agg #[.slice p1 mp.xs.length r1,.slice p2 mp.ys.length r2,.slice p3 mp.is.length r3,.slice p4 mp.bs.length r4,.slice p5 mp.fs.length r5,.slice p6 mp.ds.length r6,.int .i64 mp.nx]:=hp.post 2 (hd 2 mz0);have e10:x 10=.agg #[.int .i64 0,.int .i64 4,.int .i64 io,.int .i64 0,.int .i64 ((j:Int)+1),.int .i64 (t:Int),.string nm,.bool false,.bool false,.int .i64 by_,.slice none 0 0]:=hp.post 10 (hd 10 mz1);have HM4:Hid (MR W (.slice p1 mp.xs.length r1) (.slice p2 mp.ys.length r2) (.slice p3 mp.is.length r3) (.slice p4 mp.bs.length r4) (.slice p5 mp.fs.length r5) (.slice p6 mp.ds.length r6) mp):=(HP4.out.below (zac hp.bel)).mr;simp only [e2,e10] at HK ⊢;clear e2 e10;go_simp;refine (zd7 0 4 io 0 ((j:Int)+1) t nm false false by_ [] _ _ _ _ _ _ _ mp W HM4.out HMP.out ⟨none,0,rfl,fun j hj=>by simp at hj⟩ HDO.out (fun e=>absurd e (by decide))).mono ?_;rintro e wn ⟨u1,u2,u3,u4,u5,u6,mn,rr,rfl,On,hSn,hr0,hr9,Bn⟩;obtain ⟨n1,o1,n2,o2,n3,o3,n4,o4,n5,o5,n6,o6,rfl,rfl,rfl,rfl,rfl,rfl⟩:=On.mr.form;go_simp;exact HK.out _ _ Bn ⟨_,_,rfl,_,_,_,_,_,_,_,_,_,_,_,_,mn,rr,rfl,rfl,On.bound,hSn,hr0,hr9⟩
     ·have e11:∃ a r,x 11=.tuple #[a,r]/\PutR Z (iw 11).1 (iw 11).2 W a r:=hp.post 11 (hd 11 mz0);obtain ⟨a,r,e11,-⟩:=e11;have ea:=hide e11;simp only [e11] at HK ⊢;clear e11;go_simp;exact HK.out _ _ bR ⟨ea.out,a,r,rfl⟩
     ·have e12:x 11=x 12/\∃ a r,x 12=.tuple #[a,r]:=hp.post 12 (hd 12 mz0);obtain ⟨-,a,r,e12⟩:=e12;have ea:Hid (a=fstOf (x 12)):=by rw [e12];rfl
      simp only [e12] at HK ⊢;clear e12;go_simp;exact HK.out _ _ bR ea.out
     ·have e12:x 11=x 12/\∃ a r,x 12=.tuple #[a,r]:=hp.post 12 (hd 12 mz0);obtain ⟨-,a,r,e12⟩:=e12;have ea:Hid (r=sndOf (x 12)):=by rw [e12];rfl
      simp only [e12] at HK ⊢;clear e12;go_simp;exact HK.out _ _ bR ea.out
     ·exact cQ70
    ·intro x iw W hp;obtain ⟨a,r,e11,R11⟩:=hp.post 11 (by decide);obtain ⟨e12,-⟩:=hp.post 12 (by decide);have e13:x 13=fstOf (x 12):=hp.post 13 (by decide);have e14:x 14=sndOf (x 12):=hp.post 14 (by decide);obtain ⟨e15,z15,A15⟩:=hp.post 15 (by decide);have l15:=hp.lo 15 (by decide);have lc:=hp.lo 11 (by decide);have bel:=zac hp.bel;have ap:=hp.apart 11 (by decide) 15 (by decide) (by decide);rw [← e12,e11] at e13;rw [← e12,e11] at e14
     replace e14:x 14=r:=e14
     rw [e11] at e12
     replace e12:=e12.symm
     replace e13:x 13=a:=e13
     have y0:=A15.c0;have f0:=A15.frozen 0;have y1:=A15.c1;have f1:=A15.frozen 1;have y2:=A15.c2;have f2:=A15.frozen 2;have y3:=A15.c3;have f3:=A15.frozen 3;have y4:=A15.c4;have f4:=A15.frozen 4;have y5:=A15.c5;have f5:=A15.frozen 5;have y6:=A15.c6;have f6:=A15.frozen 6;obtain ⟨n1,o1,n2,o2,n3,o3,n4,o4,n5,o5,n6,o6,mn,rr,rfl,rfl,On,hSn,-,-⟩:=R11;have HFI:Hid (AtC W (iw 15).1 33 #[.slice none 0 0,.slice none 0 0,.slice none 0 0,.slice none 0 0,.slice none 0 0,.slice none 0 0,.int .i64 0]/\MO W (fun k=>(iw 11).1<=k/\k < (iw 11).2) (.slice n1 mn.xs.length o1) (.slice n2 mn.ys.length o2) (.slice n3 mn.is.length o3) (.slice n4 mn.bs.length o4) (.slice n5 mn.fs.length o5) (.slice n6 mn.ds.length o6) mn/\Sh Z mn/\Below w4.heap.size w4 W/\((iw 11).2<=(iw 15).1\/(iw 15).1 < (iw 11).1)/\w4.heap.size<=(iw 11).1/\w4.heap.size<=(iw 15).1):=⟨A15,On,hSn,bel,by omega,by have:=lc.1;exact this,by have:=l15.1;exact this⟩
     clear hp A15 On hSn bel ap lc l15 z15;simp only [e12,e13,e15,e14] at *;generalize (iw 15).1=bn at *;generalize (iw 11).1=lo at *;generalize (iw 11).2=hi at *;go_wp2_with fail
     exact cQ29
    ·intro qa hqa l hl x iw W hp;simp only [List.mem_cons,List.not_mem_nil,or_false] at hqa;subst hqa;simp only [List.mem_cons,List.not_mem_nil,or_false] at hl;obtain ⟨a,r,e11,R11⟩:=hp.post 11 (by decide);obtain ⟨e12,-⟩:=hp.post 12 (by decide);have e13:x 13=fstOf (x 12):=hp.post 13 (by decide);obtain ⟨e15,z15,A15⟩:=hp.post 15 (by decide);have l15:=hp.lo 15 (by decide);have lc:=hp.lo 11 (by decide);have bel:=zac hp.bel;have ap:=hp.apart 11 (by decide) 15 (by decide) (by decide);rw [← e12,e11] at e13;rw [e11] at e12
     replace e12:=e12.symm
     replace e13:x 13=a:=e13
     have y0:=A15.c0;have f0:=A15.frozen 0;have y1:=A15.c1;have f1:=A15.frozen 1;have y2:=A15.c2;have f2:=A15.frozen 2;have y3:=A15.c3;have f3:=A15.frozen 3;have y4:=A15.c4;have f4:=A15.frozen 4;have y5:=A15.c5;have f5:=A15.frozen 5;have y6:=A15.c6;have f6:=A15.frozen 6;obtain ⟨n1,o1,n2,o2,n3,o3,n4,o4,n5,o5,n6,o6,mn,rr,rfl,rfl,On,hSn,-,-⟩:=R11;have HFI:Hid (AtC W (iw 15).1 33 #[.slice none 0 0,.slice none 0 0,.slice none 0 0,.slice none 0 0,.slice none 0 0,.slice none 0 0,.int .i64 0]/\MO W (fun k=>(iw 11).1<=k/\k < (iw 11).2) (.slice n1 mn.xs.length o1) (.slice n2 mn.ys.length o2) (.slice n3 mn.is.length o3) (.slice n4 mn.bs.length o4) (.slice n5 mn.fs.length o5) (.slice n6 mn.ds.length o6) mn/\Sh Z mn/\Below w4.heap.size w4 W/\((iw 11).2<=(iw 15).1\/(iw 15).1 < (iw 11).1)/\w4.heap.size<=(iw 11).1/\w4.heap.size<=(iw 15).1):=⟨A15,On,hSn,bel,by omega,by have:=lc.1;exact this,by have:=l15.1;exact this⟩
     clear hp A15 On hSn bel ap lc l15 z15;simp only [e12,e13,e15] at *;generalize (iw 15).1=bn at *;generalize (iw 11).1=lo at *;generalize (iw 11).2=hi at *;rcases hl with rfl | rfl
     ·go_wp2_with fail
      exact cQ29
     ·go_wp2_with fail
      exact cQ29
   case rest =>
    obtain ⟨bn,u1,u2,u3,u4,u5,u6,mn,rfl,An,On,hSn,Bn⟩:=hcut;obtain ⟨n1,o1,n2,o2,n3,o3,n4,o4,n5,o5,n6,o6,rfl,rfl,rfl,rfl,rfl,rfl⟩:=On.mr.form;have A2:=HP4.out.box.over Bn;have r0:=A2.c0;have v0:=A2.frozen 0;have r1:=A2.c1;have v1:=A2.frozen 1;have r2:=A2.c2;have v2:=A2.frozen 2;have r3:=A2.c3;have v3:=A2.frozen 3;have r4:=A2.c4;have v4:=A2.frozen 4;have r5:=A2.c5;have v5:=A2.frozen 5;have r6:=A2.c6;have v6:=A2.frozen 6;obtain ⟨s0,s1,s2,s3,s4,s5,s6⟩:=AtC.sev An;have hF:=zfy (w:=w4) (T:=(fun k=>T k/\k≠w.heap.size)) A2 On (Chg.of_below Bn) hSn ⟨HTB.out.1,by have:=HTB.out.2;omega⟩ HP4.out.box.lt HT4.out;have HF:Hid (BT Z (((((((wc.setCell ⟨b,0,none⟩ (.slice n1 mn.xs.length o1)).setCell ⟨b,1,none⟩ (.slice n2 mn.ys.length o2)).setCell ⟨b,2,none⟩ (.slice n3 mn.is.length o3)).setCell ⟨b,3,none⟩ (.slice n4 mn.bs.length o4)).setCell ⟨b,4,none⟩ (.slice n5 mn.fs.length o5)).setCell ⟨b,5,none⟩ (.slice n6 mn.ds.length o6)).setCell ⟨b,6,none⟩ (.int .i64 mn.nx)) T b/\Chg T w (((((((wc.setCell ⟨b,0,none⟩ (.slice n1 mn.xs.length o1)).setCell ⟨b,1,none⟩ (.slice n2 mn.ys.length o2)).setCell ⟨b,2,none⟩ (.slice n3 mn.is.length o3)).setCell ⟨b,3,none⟩ (.slice n4 mn.bs.length o4)).setCell ⟨b,4,none⟩ (.slice n5 mn.fs.length o5)).setCell ⟨b,5,none⟩ (.slice n6 mn.ds.length o6)).setCell ⟨b,6,none⟩ (.int .i64 mn.nx))):=⟨hF.1.mono fun k hk=>hk.1,(HKK.out _ (HB4.out.2.trans hF.2)).2.1⟩
    clear A2 On hSn Bn An hF y0 y1 y2 y3 y4 y5 y6 ya0 ya1 ya2 ya3 ya4 ya5 ya6 ka0 ka1 k0 k1 HK4 HB4 HT4 HP4 HMP HDO;go_wp2
    go_end0
    exact ⟨rfl,HF.out⟩
theorem FindP.slot {m:MD}(hm:Sh Z0 m){nm:ByteArray}{B s k:Int}(h:FindP m.is m.bs nm B s k)(hk:k≠0) :
  ∃ (jb t:Nat) (hj:jb < m.bs.length) (ht:t < m.bs[jb].2.1.length),B=(jb:Int)+1/\s=(t:Int)/\m.bs[jb].2.1[t].2=k/\1<=k/\k<=8/\jb < 16/\m.xs[jb]?=some true:=by
 obtain ⟨h1,h2⟩:=h;rcases h1 with ⟨-,-,e⟩ | ⟨hb,-,t,ht,e1,e2,e3,e4⟩
 ·exact absurd e hk
 ·obtain ⟨x,hx,hp⟩:=h2 hk;obtain ⟨jb,hj,eB,eb⟩:=zdp hb;have ht':t < m.bs[jb].2.1.length:=by rw [← eb];exact ht
  have ek:m.bs[jb].2.1[t].2=k:=by
   rw [e2];simp only [eb]
  have hs:=(hm.bb _ (List.getElem_mem hj)).s _ (List.getElem_mem ht');have hj16:jb < 16:=by rw [← hm.b];exact hj
  have hr:1<=k/\k<=8:=by
   rcases hs.2 with ⟨-,e⟩ | e
   ·exact absurd (ek ▸ e) hk
   ·rw [ek] at e;exact e
  have hxt:=hm.k.ptr hx hp (by omega) (by omega);refine ⟨jb,t,hj,ht',eB,e1,ek,hr.1,hr.2,hj16,?_⟩;rw [eB] at hxt;rw [show ((jb:Int)+1).toNat - 1=jb by omega] at hxt;exact hxt
theorem zh8 (u v iv bv dv pv:Value)(m:MD)(p:ByteArray)(w:World)(h:MR w u v iv bv dv pv m)(hm:Sh Z0 m)(hp:p.size<=1048576) :
  Calls Tryz.prog 64 #[.agg #[u,v,iv,bv,dv,pv,.int .i64 m.nx],.string p] w fun e w'=>CallR w.heap.size w' e/\Below w.heap.size w w':=by
 obtain ⟨a1,c1,a2,c2,a3,c3,a4,c4,a5,c5,a6,c6,rfl,rfl,rfl,rfl,rfl,rfl⟩:=h.form;obtain ⟨qa,qc,qe,-,qh⟩:=h.d.i;simp only [Value.slice.injEq,true_and] at qe;obtain ⟨rfl,rfl⟩:=qe;obtain ⟨g2,o2,⟨q0,q1,q2⟩,rfl,-⟩:=qh 0 (by rw [hm.i];decide);have HIN:Hid (∀ (W:World) (j:Nat) (hj:j < m.is.length),Below w.heap.size w W->∃ ta tc,W.cell? ⟨g2,o2+j * 3,none⟩=some (.int .i64 m.is[j].1)/\W.cell? ⟨g2,o2+j * 3+1,none⟩=some (.int .i64 m.is[j].2.1)/\W.cell? ⟨g2,o2+j * 3+2,none⟩=some (.slice ta m.is[j].2.2.length tc)/\RInts W (.slice ta m.is[j].2.2.length tc) m.is[j].2.2):=fun W j hj hb=>by
  exact cQ17
 clear qh q0 q1 q2;obtain ⟨W0,hW0⟩:∃ W0,((w.alloc (.cells #[.slice a1 m.xs.length c1,.slice a2 m.ys.length c2,.slice (some ⟨g2,o2,none⟩) m.is.length c3,.slice a4 m.bs.length c4,.slice a5 m.fs.length c5,.slice a6 m.ds.length c6,.int .i64 m.nx] 33)).alloc (.cells #[.slice none 0 0,.slice none 0 0,.slice none 0 0,.slice none 0 0,.slice none 0 0,.slice none 0 0,.int .i64 0] 33))=W0:=⟨_,rfl⟩
 have HB0:Hid (Below w.heap.size w W0/\W0.heap.size=w.heap.size+1+1/\AtC W0 w.heap.size 33 #[.slice a1 m.xs.length c1,.slice a2 m.ys.length c2,.slice (some ⟨g2,o2,none⟩) m.is.length c3,.slice a4 m.bs.length c4,.slice a5 m.fs.length c5,.slice a6 m.ds.length c6,.int .i64 m.nx]/\AtC W0 (w.heap.size+1) 33 #[.slice none 0 0,.slice none 0 0,.slice none 0 0,.slice none 0 0,.slice none 0 0,.slice none 0 0,.int .i64 0]):=by
  exact cQ15
 have HH:=hide h;have HM:=hide hm;obtain ⟨x0,x1,x2,x3,x4,x5,x6⟩:=AtC.sev HB0.out.2.2.1;have HM0:Hid (MR W0 (.slice a1 m.xs.length c1) (.slice a2 m.ys.length c2) (.slice (some ⟨g2,o2,none⟩) m.is.length c3) (.slice a4 m.bs.length c4) (.slice a5 m.fs.length c5) (.slice a6 m.ds.length c6) m):=HH.out.below HB0.out.1 nR;clear h hm;go_enter Tryz.func64,Tryz.ntmps64
 go_wp2_with fail
 refine (zau _ _ _ _ _ _ m W0 HM0.out HM.out.big).mono ?_;rintro e w1 ⟨u1,u2,u3,u4,u5,u6,rfl,O1,B1⟩;obtain ⟨s1,t1,s2,t2,s3,t3,s4,t4,s5,t5,s6,t6,rfl,rfl,rfl,rfl,rfl,rfl⟩:=O1.mr.form;obtain ⟨W2,hW2⟩:∃ W2,w1.alloc (.cells #[.slice s1 m.xs.length t1,.slice s2 m.ys.length t2,.slice s3 m.is.length t3,.slice s4 m.bs.length t4,.slice s5 m.fs.length t5,.slice s6 m.ds.length t6,.int .i64 m.nx] 33)=W2:=⟨_,rfl⟩
 obtain ⟨b2,hb2⟩:∃ b2,w1.heap.size=b2:=⟨_,rfl⟩
 have HC:Hid (∀ W,Below W2.heap.size W2 W->AtC W w.heap.size 33 #[.slice a1 m.xs.length c1,.slice a2 m.ys.length c2,.slice (some ⟨g2,o2,none⟩) m.is.length c3,.slice a4 m.bs.length c4,.slice a5 m.fs.length c5,.slice a6 m.ds.length c6,.int .i64 m.nx]/\AtC W (w.heap.size+1) 33 #[.slice none 0 0,.slice none 0 0,.slice none 0 0,.slice none 0 0,.slice none 0 0,.slice none 0 0,.int .i64 0]/\AtC W b2 33 #[.slice s1 m.xs.length t1,.slice s2 m.ys.length t2,.slice s3 m.is.length t3,.slice s4 m.bs.length t4,.slice s5 m.fs.length t5,.slice s6 m.ds.length t6,.int .i64 m.nx]/\MO W (fun k=>w.heap.size+1+1<=k/\k < b2) (.slice s1 m.xs.length t1) (.slice s2 m.ys.length t2) (.slice s3 m.is.length t3) (.slice s4 m.bs.length t4) (.slice s5 m.fs.length t5) (.slice s6 m.ds.length t6) m/\Below w.heap.size w W/\w.heap.size+1+1<=b2/\b2 < W.heap.size):=fun W b=>by
  exact cQ14
 have HB2:Hid (Below W2.heap.size W2 W2):=Below.refl _ _;clear O1 B1 HM0 x0 x1 x2 x3 x4 x5 x6 hW0 HB0;go_wp2_with fail
 refine (zcg p W2 hp).mono ?_;rintro e w3 ⟨⟨dn,nm,q1,rfl,hdn,hnm,-⟩,B3⟩;have HB3:Hid (Below W2.heap.size W2 w3):=B3;clear B3 hW2 hb2;have hdn2:dn.size<=1048576:=by omega
 obtain ⟨x0,x1,x2,x3,x4,x5,x6⟩:=AtC.sev ((HC.out w3 HB3.out).1);have HM3:Hid (MR w3 (.slice a1 m.xs.length c1) (.slice a2 m.ys.length c2) (.slice (some ⟨g2,o2,none⟩) m.is.length c3) (.slice a4 m.bs.length c4) (.slice a5 m.fs.length c5) (.slice a6 m.ds.length c6) m):=HH.out.below (HC.out w3 HB3.out).2.2.2.2.1 nR;go_wp2_with fail
 refine (zbo _ _ _ _ _ _ m w3 HM3.out HM.out).mono ?_;rintro e w4 ⟨⟨q2,rfl⟩,B4⟩;have HB4:Hid (Below W2.heap.size W2 w4):=HB3.out.trans (B4.mono HB3.out.size);clear B4 HM3 HB3 x0 x1 x2 x3 x4 x5 x6
 cases q2 with
 | false =>
  exact cQ2
 | true =>
 cases q1 with
 | false =>
  exact cQ2
 | true =>
 have HXW:Hid (∀ W,Below w4.heap.size w4 W->(W.cell? ⟨w.heap.size,0,none⟩=some (.slice a1 m.xs.length c1)/\W.cell? ⟨w.heap.size,1,none⟩=some (.slice a2 m.ys.length c2)/\W.cell? ⟨w.heap.size,2,none⟩=some (.slice (some ⟨g2,o2,none⟩) m.is.length c3)/\W.cell? ⟨w.heap.size,3,none⟩=some (.slice a4 m.bs.length c4))/\DR W (.slice a1 m.xs.length c1) (.slice a2 m.ys.length c2) (.slice (some ⟨g2,o2,none⟩) m.is.length c3) (.slice a4 m.bs.length c4) m.xs m.ys m.is m.bs/\Below W2.heap.size W2 W):=fun W b=>by
  have b2:=HB4.out.trans (b.mono HB4.out.size);have k:=HC.out W b2;exact ⟨⟨k.1.cell 0,k.1.cell 1,k.1.cell 2,k.1.cell 3⟩,(HH.out.below k.2.2.2.2.1 nR).d,b2⟩
 obtain ⟨x0,x1,x2,x3,x4,x5,x6⟩:=AtC.sev ((HC.out w4 HB4.out).1);go_upto_region 5 with fail
 go_cut [10,11,12] from 22 to 41 (fun c1 c2 c3 wx=>(∃ B s k:Int,c1=.int .i64 B/\c2=.int .i64 s/\c3=.int .i64 k/\FindP m.is m.bs nm B s k)/\Below W2.heap.size W2 wx)
 case first =>
  clear x4 x5 x6
  go_region_with (first | (go_at_call 91;refine (zbx _ _ _ _ m.xs m.ys m.is m.bs dn _ (HXW.out _ (zac bR)).2.1 HM.out.big.d HM.out.i hdn2).mono ?_;rintro e w5 ⟨⟨i5,rfl,-,-⟩,B5⟩;have HB5:=hide (zac B5);obtain ⟨⟨n0,n1,n2,n3⟩,-,-⟩:=HXW.out w5 (zac B5);clear B5) | (go_at_call 102;refine (zf9 i5 nm _ _ _ _ m.xs m.ys m.is m.bs _ (HXW.out _ HB5.out).2.1 HM.out.big.d).mono ?_;rintro e w6 ⟨B,s,k,rfl,FP,B6⟩;have HF6:=hide (And.intro FP (HB5.out.trans (B6.mono HB5.out.size)));clear FP B6))
  all_goals (go_wp2_with fail;go_meet;exact ⟨⟨_,_,_,rfl,rfl,rfl,HF6.out.1⟩,(HXW.out _ HF6.out.2).2.2⟩)
 case rest =>
  obtain ⟨⟨B,s,i,rfl,rfl,rfl,hFP⟩,hb6⟩:=hcut;obtain ⟨w6,hw6⟩:∃ w6,w6=wc:=⟨_,rfl⟩
  subst hw6;have HB6:=hide hb6;have HFP:=hide hFP;clear hb6 hFP HXW x0 x1 x2 x3 x4 x5 x6;by_cases hiz:i=0
  ·exact cQ21
  have hib:(i == 0)=false:=beq_eq_false_iff_ne.mpr hiz;obtain ⟨jb,tt,hjb,htt,rfl,rfl,hk,hi1,hi8,hj16,-⟩:=FindP.slot HM.out HFP.out hiz;have HSL:Hid (1<=m.bs[jb].2.1[tt].2/\m.bs[jb].2.1[tt].2<=8):=by rw [hk];exact ⟨hi1,hi8⟩
  obtain ⟨j,rfl⟩:∃ j:Nat,i=(j:Int)+1:=⟨(i - 1).toNat,by omega⟩
  have hj8:j < 8:=by omega
  have hj:j < m.is.length:=by rw [HM.out.i];exact hj8
  have hwj:IntKind.i64.wrap (j:Int)=(j:Int):=wrap_small _ (by omega) (by omega);have j0:(0:Int)<=(j:Int):=by omega
  have j1:(j:Int) < (m.is.length:Int):=by omega
  obtain ⟨x0,x1,x2,x3,x4,x5,x6⟩:=AtC.sev ((HC.out w6 HB6.out).1);have HM6:Hid (MR w6 (.slice a1 m.xs.length c1) (.slice a2 m.ys.length c2) (.slice (some ⟨g2,o2,none⟩) m.is.length c3) (.slice a4 m.bs.length c4) (.slice a5 m.fs.length c5) (.slice a6 m.ds.length c6) m):=HH.out.below (HC.out w6 HB6.out).2.2.2.2.1 nR;have HIP:Hid ((∀ q∈m.is,q.2.2.length<=2)/\(∀ q∈m.bs,q.2.1.length<=4)):=⟨fun q hq=>by rw [(HM.out.ii q hq).n];decide,fun q hq=>(HM.out.bb q hq).m⟩
  have HBL:Hid (m.bs.length<=1048576):=by show _<=_;rw [HM.out.b];decide
  clear hk hiz;go_upto_region 8 with fail
  go_cut [70] from 42 to 70 (fun c wx=>(∃ r,c=.bool r)/\Below W2.heap.size W2 wx)
  case first =>
   go_wp2_with fail
   refine (zjo ((j:Int)+1) _ _ _ _ m.xs m.ys m.is m.bs w6 HM6.out.d HM.out.i HBL.out HIP.out.1 HIP.out.2).mono ?_;rintro e w7 ⟨⟨lv,ll,rfl,L7,hl7⟩,B7⟩;have HB7:Hid (Below W2.heap.size W2 w7):=HB6.out.trans (B7.mono HB6.out.size);obtain ⟨la,lc,rfl,-⟩:=L7.form;obtain ⟨n7,hn7⟩:∃ n7,(stc ll).length=n7:=⟨_,rfl⟩
   rw [hn7];clear B7 L7 hn7 HM6 HB6 x0 x1 x2 x3 x4 x5 x6;have HP7:Hid (∀ W,Below W2.heap.size W2 W->PM W (fun k=>w.heap.size+1+1<=k/\k < b2) b2 (.slice s1 m.xs.length t1) (.slice s2 m.ys.length t2) (.slice s3 m.is.length t3) (.slice s4 m.bs.length t4) (.slice s5 m.fs.length t5) (.slice s6 m.ds.length t6) m):=fun W bb=>by
    obtain ⟨-,-,k3,k4,-⟩:=HC.out W bb;exact ⟨k3,k4,fun e=>by have:w.heap.size+1+1<=b2/\b2 < b2:=e;omega⟩
   by_cases hn:0 < n7
   ·have hn1:(0:Int) < (n7:Int):=by omega
    go_wp2_with fail
    go_meet
    exact ⟨⟨_,rfl⟩,HB7.out⟩
   have hn1:¬ (0:Int) < (n7:Int):=by omega
   obtain ⟨pa,pc,i0,-,-,-⟩:=HIN.out w7 j hj (HC.out w7 HB7.out).2.2.2.2.1;obtain ⟨kd,hkd⟩:∃ kd,m.is[j].1=kd:=⟨_,rfl⟩
   rw [hkd] at i0;clear hkd;obtain ⟨x0,x1,x2,x3,x4,x5,x6⟩:=AtC.sev ((HC.out w7 HB7.out).1);by_cases hkd:kd=2
   ·subst hkd;have HM7:Hid (MR w7 (.slice a1 m.xs.length c1) (.slice a2 m.ys.length c2) (.slice (some ⟨g2,o2,none⟩) m.is.length c3) (.slice a4 m.bs.length c4) (.slice a5 m.fs.length c5) (.slice a6 m.ds.length c6) m):=HH.out.below (HC.out w7 HB7.out).2.2.2.2.1 nR;go_wp2_with fail
    refine (held_any _ _ _ _ _ _ m ((j:Int)+1) w7 HM7.out HM.out (by omega) (by omega)).mono ?_;rintro e w8 ⟨⟨r8,rfl⟩,B8⟩;have HB8:Hid (Below W2.heap.size W2 w8):=HB7.out.trans (B8.mono HB7.out.size);clear B8 HM7 HB7 x0 x1 x2 x3 x4 x5 x6 i0
    cases r8 with
    | true =>
     go_wp2_with fail
     go_meet
     exact ⟨⟨_,rfl⟩,HB8.out⟩
    | false =>
     go_wp2_with fail
     refine (zcy _ b2 _ _ _ _ _ _ m w8 (HP7.out w8 HB8.out)).mono ?_;rintro e w9' ⟨⟨rr,rfl⟩,hw9⟩;rw [hw9];clear hw9 w9';go_wp2_with fail
     go_meet
     exact ⟨⟨_,rfl⟩,HB8.out⟩
   ·have hkb:(kd == 2)=false:=beq_eq_false_iff_ne.mpr hkd;go_wp2_with fail
    refine (zcy _ b2 _ _ _ _ _ _ m w7 (HP7.out w7 HB7.out)).mono ?_;rintro e w9' ⟨⟨rr,rfl⟩,hw9⟩;rw [hw9];clear hw9 w9';go_wp2_with fail
    go_meet
    exact ⟨⟨_,rfl⟩,HB7.out⟩
  case rest =>
   obtain ⟨⟨r,rfl⟩,hb7⟩:=hcut;obtain ⟨w7,hw7⟩:∃ w7,w7=wc:=⟨_,rfl⟩
   subst hw7;have HB7:=hide hb7;clear hb7 HM6 HIP HBL HB6 x0 x1 x2 x3 x4 x5 x6
   cases r with
   | true =>
    exact cQ6
   | false =>
   obtain ⟨x0,x1,x2,x3,x4,x5,x6⟩:=AtC.sev ((HC.out w7 HB7.out).1);have HMC:Hid (MR w7 (.slice a1 m.xs.length c1) (.slice a2 m.ys.length c2) (.slice (some ⟨g2,o2,none⟩) m.is.length c3) (.slice a4 m.bs.length c4) (.slice a5 m.fs.length c5) (.slice a6 m.ds.length c6) m):=HH.out.below (HC.out w7 HB7.out).2.2.2.2.1 nR;go_wp2_with fail
   refine (zau _ _ _ _ _ _ m w7 HMC.out HM.out.big).mono ?_;rintro e w8 ⟨u1,u2,u3,u4,u5,u6,rfl,O8,B8⟩;obtain ⟨n1,o1,n2,o2',n3,o3,n4,o4,n5,o5,n6,o6,rfl,rfl,rfl,rfl,rfl,rfl⟩:=O8.mr.form;obtain ⟨W9,hW9⟩:∃ W9,w8.alloc (.cells #[.slice n1 m.xs.length o1,.slice n2 m.ys.length o2',.slice n3 m.is.length o3,.slice n4 m.bs.length o4,.slice n5 m.fs.length o5,.slice n6 m.ds.length o6,.int .i64 m.nx] 33)=W9:=⟨_,rfl⟩
   obtain ⟨bo,hbo⟩:∃ bo,w8.heap.size=bo:=⟨_,rfl⟩
   have HP9:Hid (PM W9 (fun k=>w7.heap.size<=k/\k < bo) bo (.slice n1 m.xs.length o1) (.slice n2 m.ys.length o2') (.slice n3 m.is.length o3) (.slice n4 m.bs.length o4) (.slice n5 m.fs.length o5) (.slice n6 m.ds.length o6) m/\Below w7.heap.size w7 W9/\w7.heap.size<=bo/\bo < W9.heap.size):=by
    exact cQ61
   have HB9:Hid (Below W2.heap.size W2 W9):=HB7.out.trans (HP9.out.2.1.mono HB7.out.size);clear O8 B8 HMC;have HT9:Hid ((∀ k,(w7.heap.size<=k/\k < bo)->w7.heap.size<=k)/\w7.heap.size<=bo/\(∀ k,W9.heap.size<=k->w7.heap.size<=k)):=⟨fun k hk=>hk.1,HP9.out.2.2.1,fun k hk=>by have:=HP9.out.2.1.size;omega⟩
   go_wp2_with fail
   refine (zhc (fun k=>w7.heap.size<=k) bo jb tt 0 _ _ _ _ _ _ _ m W9 HP9.out.1 HT9.out.1 HT9.out.2.1 HT9.out.2.2 HM.out hjb htt HSL.out).mono ?_;rintro e w12 ⟨rfl,⟨SA,u',v',iv',bv',dv',pv',ma,PA,hSA,-,hmA⟩,c12⟩;have HB12:Hid (Below W2.heap.size W2 w12):=by
    have b12:=HP9.out.2.1.trans (c12.below HP9.out.2.1.size (fun k hk=>hk));exact HB7.out.trans (b12.mono HB7.out.size)
   obtain ⟨h1,k1,h2,k2,h3,k3,h4,k4,h5,k5,h6,k6,rfl,rfl,rfl,rfl,rfl,rfl⟩:=PA.form;have HZ:Hid (w.heap.size+1+1<=w7.heap.size):=by have:=(HC.out w7 HB7.out).2.2.2.2.2;show _<=_;omega
   clear c12 HP9 HT9 HB9 hW9 hbo x0 x1 x2 x3 x4 x5 x6;obtain ⟨y0,y1,y2,y3,y4,y5,y6⟩:=AtC.sev PA.box;obtain ⟨r0,r1,r2,r3,r4,r5,r6⟩:=AtC.sev ((HC.out w12 HB12.out).2.1);have v0:=(HC.out w12 HB12.out).2.1.frozen 0;have v1:=(HC.out w12 HB12.out).2.1.frozen 1;have v2:=(HC.out w12 HB12.out).2.1.frozen 2;have v3:=(HC.out w12 HB12.out).2.1.frozen 3;have v4:=(HC.out w12 HB12.out).2.1.frozen 4;have v5:=(HC.out w12 HB12.out).2.1.frozen 5;have v6:=(HC.out w12 HB12.out).2.1.frozen 6;have HF:=hide (And.intro PA.own (And.intro hSA hmA));clear PA hSA hmA;go_wp2;refine bodyPost_ret (v:=.tuple #[.agg #[.slice h1 ma.xs.length k1,.slice h2 ma.ys.length k2,.slice h3 ma.is.length k3,.slice h4 ma.bs.length k4,.slice h5 ma.fs.length k5,.slice h6 ma.ds.length k6,.int .i64 ma.nx],.int .i64 0]) (by simp [results,go_sem,r0,r1,r2,r3,r4,r5,r6]) rfl ⟨⟨_,_,_,_,_,_,ma,_,rfl,(HF.out.1.of_heap fun k hk _=>zaa _ _ _ _ _ _ _ _ _ k (by have:=HF.out.2.1 k hk;have:=HZ.out;omega)).mono (fun k hk=>by have:=HF.out.2.1 k hk;have:=HZ.out;omega),HF.out.2.2⟩,zab (HC.out w12 HB12.out).2.2.2.2.1 (by omega) _ _ _ _ _ _ _⟩
namespace Kit
theorem PM.lnkAt {w:World}{S:Nat->Prop}{b:Nat}{u v iv bv dv pv:Value}{m:MD}(h:PM w S b u v iv bv dv pv m)(j:Nat)(hj:j < m.is.length)(hp:m.is[j].2.2.length=2) :
  ∃ g c,iv=.slice (some ⟨g,0,none⟩) m.is.length c/\w.cell? ⟨g,j * 3+1,none⟩=some (.int .i64 m.is[j].2.1)/\w.frozen? ⟨g,j * 3+1,none⟩=false/\S g/\g < w.heap.size /\
   ∀ z:Int,PM (w.setCell ⟨g,j * 3+1,none⟩ (.int .i64 z)) S b u v iv bv dv pv { m with is:=m.is.set j (m.is[j].1,z,m.is[j].2.2) }:=by
 obtain ⟨g,c,gs,cs,rfl,k0,k2,kt,kf,kS,kl,hput⟩:=h.ptrAt j hj 0 (by omega);obtain ⟨g',c',p',e1,q0,q1,q2,-,qf,ql,qS⟩:=h.inoAt j hj;simp only [Value.slice.injEq,Option.some.injEq,Addr.mk.injEq,true_and,and_true] at e1;obtain ⟨rfl,rfl⟩:=e1;refine ⟨g,c,rfl,q1,qf _,qS,ql,fun z=>?_⟩;obtain ⟨S1,S2,S3,ts,k1,k2',k3,k4,k5,k6,k7⟩:=h.own;obtain ⟨T1,T2,T3,ti,tb,z1,z2,z3,z4,z5,z6,z7⟩:=k1;have hl:=z3.len;obtain ⟨g3,c3,e3,r0,r1,r2,fz,gl,-⟩:=z3.row.at j (by omega);simp only [Value.slice.injEq,Option.some.injEq,Addr.mk.injEq,and_true] at e3;obtain ⟨rfl,-,rfl⟩:=e3;obtain ⟨i1,i2,i3⟩:=z3.inn j (by omega) hj;have gT:T2 g:=z3.so g rfl;have sS1:S1 g:=z7 g (.inr (.inl gT));have un:∀ k,k≠g->(w.setCell ⟨g,j * 3+1,none⟩ (.int .i64 z)).heap[k]?=w.heap[k]?:=fun k hk=>heap_setCell_other _ ⟨g,j * 3+1,none⟩ k _ hk;have hj':j < ti.length:=by omega
 have row:=z3.row;rw [← hl] at row;have rs:=row.set1 j hj' (.int .i64 z);rw [hl] at rs;have nG:∀ k,(ti[j]'hj').2.2.ownBlock=some k->k≠g:=fun k hk e=>by
  subst e;exact z3.out j hj' k hk rfl
 have hlen:ti.length=m.is.length:=hl;have zz:=z3.turn (w':=w.setCell ⟨g,j * 3+1,none⟩ (.int .i64 z)) (S':=T2) j (by omega) (ti[j].1,.int .i64 z,ti[j].2.2) (m.is[j].1,z,m.is[j].2.2)
  rs
  ⟨i1,rfl,(i3.of_heap fun k hk=>un k (nG k hk))⟩
  (fun k h1 h2 hn=>un k fun q=>h2 (by rw [q];rfl))
  (fun k hk=>.inl hk) (fun k hk=>hk) (fun k hk=>z3.si j (by omega) k hk)
 exact ⟨(un b fun q=>h.nb (q ▸ qS)).trans h.box,⟨S1,S2,S3,ts,⟨T1,T2,T3,_,tb,⟨z1.a.of_heap fun k hk=>un k fun q=>(z5 k (z2 k (.inl hk))).1 (q ▸ gT),z1.b.of_heap fun k hk=>un k fun q=>(z5 k (z2 k (.inr hk))).1 (q ▸ gT),z1.ne⟩,z2,zz,z4.of_heap fun k hk _=>un k fun q=>z6 g gT (q ▸ hk),z5,z6,z7⟩,k2'.of_heap fun k hk=>un k fun q=>(k5 g sS1).1 (q ▸ k3 k hk),k3,k4.of_heap fun k hk _=>un k fun q=>(k5 g sS1).2 (q ▸ hk),k5,k6,k7⟩,h.nb⟩
end Kit
variable {Z : ZT}
theorem zjp (b:Nat)(x:Int)(u v iv bv dv pv:Value)(m:MD)(w:World)(hbx:AtC w b 33 #[u,v,iv,bv,dv,pv,.int .i64 m.nx])(h:MR w u v iv bv dv pv m)(hl:m.ds.length<=1048576) :
  Calls Tryz.prog 129 #[.pointer (some ⟨b,0,none⟩),.int .i64 x] w fun e w'=>(∃ k:Int,e=.returned (.int .i64 k))/\w'=w:=by
 obtain ⟨a6,c6,rfl,-,ha⟩:=h.p;have x5:=hbx.c5;have HA:=hide ha;clear ha h;go_enter Tryz.func129,Tryz.ntmps129
 exact cQ28
theorem deep_any (u v iv bv dv pv:Value)(m:MD)(p:ByteArray)(w:World)(h:MR w u v iv bv dv pv m)(hm:Sh Z m)(hp:p.size<=1048576) :
  Calls Tryz.prog 106 #[.agg #[u,v,iv,bv,dv,pv,.int .i64 m.nx],.string p] w fun e w'=>AnyB e/\Below w.heap.size w w':=by
 obtain ⟨a1,c1,a2,c2,a3,c3,a4,c4,a5,c5,a6,c6,rfl,rfl,rfl,rfl,rfl,rfl⟩:=h.form;have HH:=hide h;have HM:=hide hm;have HPP:=hide hp;have HW:Hid (∀ W,Below (w.alloc (.cells #[.slice a1 m.xs.length c1,.slice a2 m.ys.length c2,.slice a3 m.is.length c3,.slice a4 m.bs.length c4,.slice a5 m.fs.length c5,.slice a6 m.ds.length c6,.int .i64 m.nx] 33)).heap.size (w.alloc (.cells #[.slice a1 m.xs.length c1,.slice a2 m.ys.length c2,.slice a3 m.is.length c3,.slice a4 m.bs.length c4,.slice a5 m.fs.length c5,.slice a6 m.ds.length c6,.int .i64 m.nx] 33)) W->Below w.heap.size w W/\AtC W w.heap.size 33 #[.slice a1 m.xs.length c1,.slice a2 m.ys.length c2,.slice a3 m.is.length c3,.slice a4 m.bs.length c4,.slice a5 m.fs.length c5,.slice a6 m.ds.length c6,.int .i64 m.nx]):=fun W bb=>⟨((Below.refl _ w).alloc nR _).trans (bb.mono (by simp)),(AtC.new w 33 _).over bb⟩
 clear h hm hp;go_enter Tryz.func106,Tryz.ntmps106
 go_wp2_with fail
 refine (zcw p _ HPP.out).mono ?_;rintro e w1 ⟨⟨lv,l,r,rfl,O1,hl1,hl0⟩,B1⟩;obtain ⟨la,lc,rfl,-⟩:=O1.form;obtain ⟨ll,hll⟩:∃ ll,(stc l).length=ll:=⟨_,rfl⟩
 have HL2:Hid (l.length=ll):=by show l.length=ll;rw [← hll,zai]
 have hl4:ll<=4:=by
  rw [← hll,zai]
  cases r with
  | true=>exact (hl1 rfl).1
  | false=>rw [hl0 rfl];decide
 rw [hll] at O1;rw [hll];clear hll;generalize hW0:(w.alloc (.cells #[.slice a1 m.xs.length c1,.slice a2 m.ys.length c2,.slice a3 m.is.length c3,.slice a4 m.bs.length c4,.slice a5 m.fs.length c5,.slice a6 m.ds.length c6,.int .i64 m.nx] 33))=W0 at *;clear hW0;have HO1:=hide O1;have HB1:=hide B1;clear O1 hl1 hl0 B1;go_wp2_with fail
 go_loopw [8,7] (fun i' k' wr=>∃ (q:Nat) (k:Int),q<=ll/\i'=.int .i64 q/\k'=.int .i64 k/\Hid (Below w1.heap.size w1 wr)) (fun i' k' _=>ll - (intOf i').toNat)
 case atStart=>exact ⟨0,1,Nat.zero_le _,rfl,rfl,Below.refl _ _⟩
 case round =>
  obtain ⟨q,k,hq,rfl,rfl,HR⟩:=hrel;by_cases hlt:q < ll
  ·obtain ⟨g,c,e9,kq9,hg⟩:=zca (HO1.out.below HR.out nR) q (by rw [HL2.out];exact hlt);rw [HL2.out] at e9;simp only [Value.slice.injEq,true_and] at e9;obtain ⟨rfl,rfl⟩:=e9;obtain ⟨nm,k9⟩:∃ nm,wr.cell? ⟨g,q,none⟩=some (.string nm):=⟨_,kq9⟩
   have hbw:=HW.out wr (HB1.out.trans (HR.out.mono HB1.out.size));have HAL:Hid (∀ W,Below wr.heap.size wr W->AtC W w.heap.size 33 #[.slice a1 m.xs.length c1,.slice a2 m.ys.length c2,.slice a3 m.is.length c3,.slice a4 m.bs.length c4,.slice a5 m.fs.length c5,.slice a6 m.ds.length c6,.int .i64 m.nx]/\Below w.heap.size w W/\Below w1.heap.size w1 W):=fun W bb=>⟨hbw.2.over bb,hbw.1.trans (bb.mono hbw.1.size),HR.out.trans (bb.mono HR.out.size)⟩
   have A0:=hbw.2;obtain ⟨x0,x1,x2,x3⟩:=AtC.four A0;have q0:(0:Int)<=(q:Int):=by omega
   have q1:(q:Int) < (ll:Int):=by omega
   clear A0 hbw hg kq9;go_upto_region 6 with fail
   go_cut [9,10,11] from 18 to 51 (fun c1 c2 c3 wx=>(∃ k1 k2 k3:Int,c1=.int .i64 k1/\c2=.int .i64 k2/\c3=.int .i64 k3)/\Below wr.heap.size wr wx)
   case first =>
    go_region_with (go_at_call 102;refine (zg8 k nm _ _ _ _ m.xs m.ys m.is m.bs _ (HH.out.below (HAL.out _ (zac bR)).2.1 nR).d HM.out.big.d).mono ?_;rintro e w2 ⟨Bk,s2,k2,rfl,-,B2⟩;have HB2:=hide B2;clear B2)
    all_goals (go_wp2_with fail;go_meet;exact ⟨⟨_,_,_,rfl,rfl,rfl⟩,zac HB2.out⟩)
   case rest =>
    obtain ⟨⟨k1,k2,k3,rfl,rfl,rfl⟩,hb2⟩:=hcut;obtain ⟨A2,b2,b3⟩:=HAL.out wc hb2;obtain ⟨y0,y1,y2,y3,y4,y5,y6⟩:=AtC.sev A2;have HZ:=hide (And.intro b2 (And.intro b3 A2));clear A2 b2 b3 hb2 HAL x0 x1 x2 x3 k9;go_wp2_with fail
    refine (zeb k1 k2 _ _ _ _ _ _ m wc (HH.out.below HZ.out.1 nR) (Nat.le_trans HM.out.l (by decide))).mono ?_;rintro e w3 ⟨⟨id,rfl⟩,B3⟩;have HZ3:Hid (Below w.heap.size w w3/\Below w1.heap.size w1 w3/\AtC w3 w.heap.size 33 #[.slice a1 m.xs.length c1,.slice a2 m.ys.length c2,.slice a3 m.is.length c3,.slice a4 m.bs.length c4,.slice a5 m.fs.length c5,.slice a6 m.ds.length c6,.int .i64 m.nx]):=⟨HZ.out.1.trans (B3.mono HZ.out.1.size),HZ.out.2.1.trans (B3.mono HZ.out.2.1.size),HZ.out.2.2.over B3⟩
    clear B3 y0 y1 y2 y3 y4 y5 y6 HZ;go_wp2_with fail
    refine (zjp w.heap.size id _ _ _ _ _ _ m w3 HZ3.out.2.2 (HH.out.below HZ3.out.1 nR) (Nat.le_trans HM.out.l (by decide))).mono ?_;rintro e w4 ⟨⟨kd,rfl⟩,rfl⟩;have HREL:Hid (∃ (q':Nat) (k':Int),q'<=ll/\Value.int .i64 ((q:Int)+1)=.int .i64 q'/\Value.int .i64 k3=.int .i64 k'/\Hid (Below w1.heap.size w1 w4)):=⟨q+1,k3,by omega,by go_num,rfl,HZ3.out.2.1⟩
    go_upto_region 8 with fail
    go_cut [50] from 18 to 51 (fun c wx=>(∃ r,c=.bool r)/\w4=wx)
    case first =>
     by_cases h3:0 < k3
     ·by_cases h2:kd=2
      ·subst h2;go_wp2_with fail
       go_meet
       exact ⟨⟨_,rfl⟩,rfl⟩
      ·have h2b:(kd == 2)=false:=by simp [h2]
       exact cQ63
     ·exact cQ63
    case rest =>
     obtain ⟨⟨r,rfl⟩,rfl⟩:=hcut
     cases r
     ·go_wp2;go_roundw
      case rel=>first | exact HREL.out | ((repeat apply Exists.intro);exact ⟨HREL.out,rfl⟩)
      case measure=>simp [intOf];omega
     ·go_wp2;go_ret;exact ⟨⟨_,rfl⟩,HZ3.out.1⟩
  ·have HF:Hid (Below w.heap.size w wr):=(HW.out wr (HB1.out.trans (HR.out.mono HB1.out.size))).1;go_wp2;go_ret;exact ⟨⟨_,rfl⟩,HF.out⟩
theorem markU_xs (u:Int)(m:MD):(markU u m).xs=m.xs:=by unfold markU;split<;>rfl
theorem move_any (u v iv bv dv pv:Value)(m:MD)(p q:ByteArray)(w:World)(h:MR w u v iv bv dv pv m)(hm:Sh Z0 m)(hp:p.size<=1048576)(hq:q.size<=1048576) :
  Calls Tryz.prog 65 #[.agg #[u,v,iv,bv,dv,pv,.int .i64 m.nx],.string p,.string q] w fun e w'=>CallR w.heap.size w' e/\Below w.heap.size w w':=by
 obtain ⟨a1,c1,a2,c2,a3,c3,a4,c4,a5,c5,a6,c6,rfl,rfl,rfl,rfl,rfl,rfl⟩:=h.form;obtain ⟨qa,qc,qe,-,qh⟩:=h.d.i;simp only [Value.slice.injEq,true_and] at qe;obtain ⟨rfl,rfl⟩:=qe;obtain ⟨g2,o2,⟨q0,q1,q2⟩,rfl,-⟩:=qh 0 (by rw [hm.i];decide);have HIN:Hid (∀ (W:World) (j:Nat) (hj:j < m.is.length),Below w.heap.size w W->∃ ta tc,W.cell? ⟨g2,o2+j * 3,none⟩=some (.int .i64 m.is[j].1)/\W.cell? ⟨g2,o2+j * 3+1,none⟩=some (.int .i64 m.is[j].2.1)/\W.cell? ⟨g2,o2+j * 3+2,none⟩=some (.slice ta m.is[j].2.2.length tc)/\RInts W (.slice ta m.is[j].2.2.length tc) m.is[j].2.2):=fun W j hj hb=>by
  exact cQ17
 clear qh q0 q1 q2;obtain ⟨W0,hW0⟩:∃ W0,((w.alloc (.cells #[.slice a1 m.xs.length c1,.slice a2 m.ys.length c2,.slice (some ⟨g2,o2,none⟩) m.is.length c3,.slice a4 m.bs.length c4,.slice a5 m.fs.length c5,.slice a6 m.ds.length c6,.int .i64 m.nx] 33)).alloc (.cells #[.slice none 0 0,.slice none 0 0,.slice none 0 0,.slice none 0 0,.slice none 0 0,.slice none 0 0,.int .i64 0] 33))=W0:=⟨_,rfl⟩
 have HB0:Hid (Below w.heap.size w W0/\W0.heap.size=w.heap.size+1+1/\AtC W0 w.heap.size 33 #[.slice a1 m.xs.length c1,.slice a2 m.ys.length c2,.slice (some ⟨g2,o2,none⟩) m.is.length c3,.slice a4 m.bs.length c4,.slice a5 m.fs.length c5,.slice a6 m.ds.length c6,.int .i64 m.nx]/\AtC W0 (w.heap.size+1) 33 #[.slice none 0 0,.slice none 0 0,.slice none 0 0,.slice none 0 0,.slice none 0 0,.slice none 0 0,.int .i64 0]):=by
  exact cQ15
 have HH:=hide h;have HM:=hide hm;obtain ⟨x0,x1,x2,x3,x4,x5,x6⟩:=AtC.sev HB0.out.2.2.1;have HM0:Hid (MR W0 (.slice a1 m.xs.length c1) (.slice a2 m.ys.length c2) (.slice (some ⟨g2,o2,none⟩) m.is.length c3) (.slice a4 m.bs.length c4) (.slice a5 m.fs.length c5) (.slice a6 m.ds.length c6) m):=HH.out.below HB0.out.1 nR;clear h hm;go_enter Tryz.func65,Tryz.ntmps65
 go_wp2_with fail
 refine (zau _ _ _ _ _ _ m W0 HM0.out HM.out.big).mono ?_;rintro e w1 ⟨u1,u2,u3,u4,u5,u6,rfl,O1,B1⟩;obtain ⟨s1,t1,s2,t2,s3,t3,s4,t4,s5,t5,s6,t6,rfl,rfl,rfl,rfl,rfl,rfl⟩:=O1.mr.form;obtain ⟨W2,hW2⟩:∃ W2,w1.alloc (.cells #[.slice s1 m.xs.length t1,.slice s2 m.ys.length t2,.slice s3 m.is.length t3,.slice s4 m.bs.length t4,.slice s5 m.fs.length t5,.slice s6 m.ds.length t6,.int .i64 m.nx] 33)=W2:=⟨_,rfl⟩
 obtain ⟨b2,hb2⟩:∃ b2,w1.heap.size=b2:=⟨_,rfl⟩
 have HC:Hid (∀ W,Below W2.heap.size W2 W->AtC W w.heap.size 33 #[.slice a1 m.xs.length c1,.slice a2 m.ys.length c2,.slice (some ⟨g2,o2,none⟩) m.is.length c3,.slice a4 m.bs.length c4,.slice a5 m.fs.length c5,.slice a6 m.ds.length c6,.int .i64 m.nx]/\AtC W (w.heap.size+1) 33 #[.slice none 0 0,.slice none 0 0,.slice none 0 0,.slice none 0 0,.slice none 0 0,.slice none 0 0,.int .i64 0]/\AtC W b2 33 #[.slice s1 m.xs.length t1,.slice s2 m.ys.length t2,.slice s3 m.is.length t3,.slice s4 m.bs.length t4,.slice s5 m.fs.length t5,.slice s6 m.ds.length t6,.int .i64 m.nx]/\MO W (fun k=>w.heap.size+1+1<=k/\k < b2) (.slice s1 m.xs.length t1) (.slice s2 m.ys.length t2) (.slice s3 m.is.length t3) (.slice s4 m.bs.length t4) (.slice s5 m.fs.length t5) (.slice s6 m.ds.length t6) m/\Below w.heap.size w W/\w.heap.size+1+1<=b2/\b2 < W.heap.size):=fun W b=>by
  exact cQ14
 have HB2:Hid (Below W2.heap.size W2 W2):=Below.refl _ _;clear O1 B1 HM0 x0 x1 x2 x3 x4 x5 x6 hW0 HB0;go_wp2_with fail
 refine (zcg p W2 hp).mono ?_;rintro e w3 ⟨⟨dn,on,q1,rfl,hdn,hon,-⟩,B3⟩;have HB3:Hid (Below W2.heap.size W2 w3):=B3;clear B3 hW2 hb2;have hdn2:dn.size<=1048576:=by omega
 go_wp2_with fail
 refine (zcg q w3 hq).mono ?_;rintro e w4 ⟨⟨tn,nm,q2,rfl,htn,hnm,-⟩,B4⟩;have HB4:Hid (Below W2.heap.size W2 w4):=HB3.out.trans (B4.mono HB3.out.size);clear B4 HB3;have htn2:tn.size<=1048576:=by omega
 obtain ⟨x0,x1,x2,x3,x4,x5,x6⟩:=AtC.sev ((HC.out w4 HB4.out).1);have HM4:Hid (MR w4 (.slice a1 m.xs.length c1) (.slice a2 m.ys.length c2) (.slice (some ⟨g2,o2,none⟩) m.is.length c3) (.slice a4 m.bs.length c4) (.slice a5 m.fs.length c5) (.slice a6 m.ds.length c6) m):=HH.out.below (HC.out w4 HB4.out).2.2.2.2.1 nR;go_wp2_with fail
 refine (zbo _ _ _ _ _ _ m w4 HM4.out HM.out).mono ?_;rintro e w5 ⟨⟨q3,rfl⟩,B5⟩;have HB5:Hid (Below W2.heap.size W2 w5):=HB4.out.trans (B5.mono HB4.out.size);clear B5 HM4 HB4 x0 x1 x2 x3 x4 x5 x6
 cases q3 with
 | false =>
  exact cQ5
 | true =>
 cases q1 with
 | false =>
  exact cQ5
 | true =>
 cases q2 with
 | false =>
  exact cQ5
 | true =>
 have HXW:Hid (∀ W,Below w5.heap.size w5 W->(W.cell? ⟨w.heap.size,0,none⟩=some (.slice a1 m.xs.length c1)/\W.cell? ⟨w.heap.size,1,none⟩=some (.slice a2 m.ys.length c2)/\W.cell? ⟨w.heap.size,2,none⟩=some (.slice (some ⟨g2,o2,none⟩) m.is.length c3)/\W.cell? ⟨w.heap.size,3,none⟩=some (.slice a4 m.bs.length c4))/\DR W (.slice a1 m.xs.length c1) (.slice a2 m.ys.length c2) (.slice (some ⟨g2,o2,none⟩) m.is.length c3) (.slice a4 m.bs.length c4) m.xs m.ys m.is m.bs/\Below W2.heap.size W2 W):=fun W b=>by
  have b2:=HB5.out.trans (b.mono HB5.out.size);have k:=HC.out W b2;exact ⟨⟨k.1.cell 0,k.1.cell 1,k.1.cell 2,k.1.cell 3⟩,(HH.out.below k.2.2.2.2.1 nR).d,b2⟩
 obtain ⟨x0,x1,x2,x3,x4,x5,x6⟩:=AtC.sev ((HC.out w5 HB5.out).1);go_upto_region 6 with fail
 go_cut [15,16,17] from 21 to 58 (fun c1 c2 c3 wx=>(∃ B s k:Int,c1=.int .i64 B/\c2=.int .i64 s/\c3=.int .i64 k/\FindP m.is m.bs on B s k)/\Below W2.heap.size W2 wx)
 case first =>
  clear x4 x5 x6
  go_region_with (first | (go_at_call 91;refine (zbx _ _ _ _ m.xs m.ys m.is m.bs dn _ (HXW.out _ (zac bR)).2.1 HM.out.big.d HM.out.i hdn2).mono ?_;rintro e w7 ⟨⟨i5,rfl,-,-⟩,B7⟩;have HB7:=hide (zac B7);obtain ⟨⟨n0,n1,n2,n3⟩,-,-⟩:=HXW.out w7 (zac B7);clear B7) | (go_at_call 102;refine (zf9 i5 on _ _ _ _ m.xs m.ys m.is m.bs _ (HXW.out _ HB7.out).2.1 HM.out.big.d).mono ?_;rintro e w8 ⟨B,s,k,rfl,FP,B8⟩;have HF6:=hide (And.intro FP (HB7.out.trans (B8.mono HB7.out.size)));clear FP B8))
  all_goals (go_wp2_with fail;go_meet;exact ⟨⟨_,_,_,rfl,rfl,rfl,HF6.out.1⟩,(HXW.out _ HF6.out.2).2.2⟩)
 case rest =>
  obtain ⟨⟨B,s,i,rfl,rfl,rfl,hFP⟩,hb6⟩:=hcut;obtain ⟨w6,hw6⟩:∃ w6,w6=wc:=⟨_,rfl⟩
  subst hw6;have HB6:=hide hb6;have HFP:=hide hFP;clear hb6 hFP HXW HB5 x0 x1 x2 x3 x4 x5 x6;obtain ⟨x0,x1,x2,x3,x4,x5,x6⟩:=AtC.sev ((HC.out w6 HB6.out).1);have HD6:Hid (DR w6 (.slice a1 m.xs.length c1) (.slice a2 m.ys.length c2) (.slice (some ⟨g2,o2,none⟩) m.is.length c3) (.slice a4 m.bs.length c4) m.xs m.ys m.is m.bs):=(HH.out.below (HC.out w6 HB6.out).2.2.2.2.1 nR).d;go_wp2_with fail
  refine (zbx _ _ _ _ m.xs m.ys m.is m.bs tn w6 HD6.out HM.out.big.d HM.out.i htn2).mono ?_;rintro e w7 ⟨⟨ia,rfl,ha0,ha8⟩,B7⟩;have HB7:Hid (Below W2.heap.size W2 w7):=HB6.out.trans (B7.mono HB6.out.size);clear B7 HD6 HB6 x0 x1 x2 x3 x4 x5 x6;by_cases hiz:i=0
  ·subst hiz;obtain ⟨y0,y1,y2,y3,y4,y5,y6⟩:=AtC.sev ((HC.out w7 HB7.out).2.2.1);obtain ⟨r0,r1,r2,r3,r4,r5,r6⟩:=AtC.sev ((HC.out w7 HB7.out).2.1);have v0:=(HC.out w7 HB7.out).2.1.frozen 0;have v1:=(HC.out w7 HB7.out).2.1.frozen 1;have v2:=(HC.out w7 HB7.out).2.1.frozen 2;have v3:=(HC.out w7 HB7.out).2.1.frozen 3;have v4:=(HC.out w7 HB7.out).2.1.frozen 4;have v5:=(HC.out w7 HB7.out).2.1.frozen 5;have v6:=(HC.out w7 HB7.out).2.1.frozen 6;have HFF:=hide (HC.out w7 HB7.out);go_wp2;refine bodyPost_ret (v:=.tuple #[.agg #[.slice s1 m.xs.length t1,.slice s2 m.ys.length t2,.slice s3 m.is.length t3,.slice s4 m.bs.length t4,.slice s5 m.fs.length t5,.slice s6 m.ds.length t6,.int .i64 m.nx],.int .i64 1]) (by simp [results,go_sem,r0,r1,r2,r3,r4,r5,r6]) rfl ⟨⟨_,_,_,_,_,_,m,_,rfl,(HFF.out.2.2.2.1.of_heap fun k hk _=>zaa _ _ _ _ _ _ _ _ _ k (by have:w.heap.size+1+1<=k/\k < b2:=hk;omega)).mono (fun k hk=>by have:w.heap.size+1+1<=k/\k < b2:=hk;omega),HM.out⟩,zab HFF.out.2.2.2.2.1 (by omega) _ _ _ _ _ _ _⟩
  have hib:(i == 0)=false:=beq_eq_false_iff_ne.mpr hiz;by_cases haz:ia=0
  ·subst haz;obtain ⟨y0,y1,y2,y3,y4,y5,y6⟩:=AtC.sev ((HC.out w7 HB7.out).2.2.1);obtain ⟨r0,r1,r2,r3,r4,r5,r6⟩:=AtC.sev ((HC.out w7 HB7.out).2.1);have v0:=(HC.out w7 HB7.out).2.1.frozen 0;have v1:=(HC.out w7 HB7.out).2.1.frozen 1;have v2:=(HC.out w7 HB7.out).2.1.frozen 2;have v3:=(HC.out w7 HB7.out).2.1.frozen 3;have v4:=(HC.out w7 HB7.out).2.1.frozen 4;have v5:=(HC.out w7 HB7.out).2.1.frozen 5;have v6:=(HC.out w7 HB7.out).2.1.frozen 6;have HFF:=hide (HC.out w7 HB7.out);go_wp2;refine bodyPost_ret (v:=.tuple #[.agg #[.slice s1 m.xs.length t1,.slice s2 m.ys.length t2,.slice s3 m.is.length t3,.slice s4 m.bs.length t4,.slice s5 m.fs.length t5,.slice s6 m.ds.length t6,.int .i64 m.nx],.int .i64 1]) (by simp [results,go_sem,r0,r1,r2,r3,r4,r5,r6]) rfl ⟨⟨_,_,_,_,_,_,m,_,rfl,(HFF.out.2.2.2.1.of_heap fun k hk _=>zaa _ _ _ _ _ _ _ _ _ k (by have:w.heap.size+1+1<=k/\k < b2:=hk;omega)).mono (fun k hk=>by have:w.heap.size+1+1<=k/\k < b2:=hk;omega),HM.out⟩,zab HFF.out.2.2.2.2.1 (by omega) _ _ _ _ _ _ _⟩
  have hab:(ia == 0)=false:=beq_eq_false_iff_ne.mpr haz;obtain ⟨jb,tt,hjb,htt,rfl,rfl,hk,hi1,hi8,hj16,hbit⟩:=FindP.slot HM.out HFP.out hiz;have HSL:Hid (m.xs[jb]?=some true/\∃ s:Sl,slotO m.bs jb tt=some s/\1<=s.2/\s.2<=8):=⟨hbit,_,zg9 hjb htt,by rw [hk];exact hi1,by rw [hk];exact hi8⟩
  obtain ⟨j,rfl⟩:∃ j:Nat,i=(j:Int)+1:=⟨(i - 1).toNat,by omega⟩
  have hj8:j < 8:=by omega
  have hj:j < m.is.length:=by rw [HM.out.i];exact hj8
  have hwj:IntKind.i64.wrap (j:Int)=(j:Int):=wrap_small _ (by omega) (by omega);have j0:(0:Int)<=(j:Int):=by omega
  have j1:(j:Int) < (m.is.length:Int):=by omega
  obtain ⟨ja,rfl⟩:∃ ja:Nat,ia=(ja:Int)+1:=⟨(ia - 1).toNat,by omega⟩
  have hja8:ja < 8:=by omega
  have hja:ja < m.is.length:=by rw [HM.out.i];exact hja8
  have hwa:IntKind.i64.wrap (ja:Int)=(ja:Int):=wrap_small _ (by omega) (by omega);have a0:(0:Int)<=(ja:Int):=by omega
  have a1':(ja:Int) < (m.is.length:Int):=by omega
  clear hk hbit hiz haz HFP hjb htt;obtain ⟨kd,hkd⟩:∃ kd,m.is[j].1=kd:=⟨_,rfl⟩
  obtain ⟨ln,hln⟩:∃ ln,m.is[j].2.1=ln:=⟨_,rfl⟩
  obtain ⟨ka,hka⟩:∃ ka,m.is[ja].1=ka:=⟨_,rfl⟩
  have HLN:=hide hln;have HIC:Hid (∀ W,Below W2.heap.size W2 W->W.cell? ⟨g2,o2+j * 3,none⟩=some (.int .i64 kd)/\W.cell? ⟨g2,o2+j * 3+1,none⟩=some (.int .i64 ln)/\W.cell? ⟨g2,o2+ja * 3,none⟩=some (.int .i64 ka)):=fun W bb=>by
   have k:=(HC.out W bb).2.2.2.2.1;obtain ⟨pa,pc,i0,i1,-,-⟩:=HIN.out W j hj k;obtain ⟨pa',pc',i0',-,-,-⟩:=HIN.out W ja hja k;exact ⟨by rw [← hkd];exact i0,by rw [← hln];exact i1,by rw [← hka];exact i0'⟩
  clear hkd hln hka;obtain ⟨i0,i1,i2⟩:=HIC.out w7 HB7.out;obtain ⟨x0,x1,x2,x3,x4,x5,x6⟩:=AtC.sev ((HC.out w7 HB7.out).1);by_cases hkd:kd=1
  rotate_left
  ·have hkb:(kd != 1)=true:=by simp [hkd]
   exact cQ23
  subst hkd;by_cases hka:ka=2
  rotate_left
  ·have hkb:(ka != 2)=true:=by simp [hka]
   exact cQ23
  subst hka;have HD7:Hid (DR w7 (.slice a1 m.xs.length c1) (.slice a2 m.ys.length c2) (.slice (some ⟨g2,o2,none⟩) m.is.length c3) (.slice a4 m.bs.length c4) m.xs m.ys m.is m.bs):=(HH.out.below (HC.out w7 HB7.out).2.2.2.2.1 nR).d;go_wp2_with fail
  refine (zbx _ _ _ _ m.xs m.ys m.is m.bs q w7 HD7.out HM.out.big.d HM.out.i hq).mono ?_;rintro e w8 ⟨⟨iq,rfl,-,-⟩,B8⟩;have HB8:Hid (Below W2.heap.size W2 w8):=HB7.out.trans (B8.mono HB7.out.size);clear B8 HD7 HB7 x0 x1 x2 x3 x4 x5 x6 i0 i1 i2;by_cases hqz:iq=0
  rotate_left
  ·have hqb:(iq != 0)=true:=by simp [hqz]
   obtain ⟨y0,y1,y2,y3,y4,y5,y6⟩:=AtC.sev ((HC.out w8 HB8.out).2.2.1);obtain ⟨r0,r1,r2,r3,r4,r5,r6⟩:=AtC.sev ((HC.out w8 HB8.out).2.1);have v0:=(HC.out w8 HB8.out).2.1.frozen 0;have v1:=(HC.out w8 HB8.out).2.1.frozen 1;have v2:=(HC.out w8 HB8.out).2.1.frozen 2;have v3:=(HC.out w8 HB8.out).2.1.frozen 3;have v4:=(HC.out w8 HB8.out).2.1.frozen 4;have v5:=(HC.out w8 HB8.out).2.1.frozen 5;have v6:=(HC.out w8 HB8.out).2.1.frozen 6;have HFF:=hide (HC.out w8 HB8.out);go_wp2;refine bodyPost_ret (v:=.tuple #[.agg #[.slice s1 m.xs.length t1,.slice s2 m.ys.length t2,.slice s3 m.is.length t3,.slice s4 m.bs.length t4,.slice s5 m.fs.length t5,.slice s6 m.ds.length t6,.int .i64 m.nx],.int .i64 2]) (by simp [results,go_sem,r0,r1,r2,r3,r4,r5,r6]) rfl ⟨⟨_,_,_,_,_,_,m,_,rfl,(HFF.out.2.2.2.1.of_heap fun k hk _=>zaa _ _ _ _ _ _ _ _ _ k (by have:w.heap.size+1+1<=k/\k < b2:=hk;omega)).mono (fun k hk=>by have:w.heap.size+1+1<=k/\k < b2:=hk;omega),HM.out⟩,zab HFF.out.2.2.2.2.1 (by omega) _ _ _ _ _ _ _⟩
  subst hqz;obtain ⟨x0,x1,x2,x3,x4,x5,x6⟩:=AtC.sev ((HC.out w8 HB8.out).1);have HM8:Hid (MR w8 (.slice a1 m.xs.length c1) (.slice a2 m.ys.length c2) (.slice (some ⟨g2,o2,none⟩) m.is.length c3) (.slice a4 m.bs.length c4) (.slice a5 m.fs.length c5) (.slice a6 m.ds.length c6) m):=HH.out.below (HC.out w8 HB8.out).2.2.2.2.1 nR;go_upto_region 14 with fail
  go_cut [105] from 91 to 105 (fun c wx=>(∃ r,c=.bool r)/\Below W2.heap.size W2 wx)
  case first =>
   go_wp2_with fail
   refine (zf7 _ _ _ _ _ _ m ((ja:Int)+1) nm w8 HM8.out HM.out (by omega) (by omega)).mono ?_;rintro e w9 ⟨⟨r9,rfl⟩,B9⟩;have HB9:Hid (Below W2.heap.size W2 w9):=HB8.out.trans (B9.mono HB8.out.size);clear B9 HM8 HB8 x0 x1 x2 x3 x4 x5 x6
   cases r9 with
   | true =>
    go_wp2_with fail
    go_meet
    exact ⟨⟨_,rfl⟩,HB9.out⟩
   | false =>
    obtain ⟨x0,x1,x2,x3,x4,x5,x6⟩:=AtC.sev ((HC.out w9 HB9.out).1);have HM9:Hid (MR w9 (.slice a1 m.xs.length c1) (.slice a2 m.ys.length c2) (.slice (some ⟨g2,o2,none⟩) m.is.length c3) (.slice a4 m.bs.length c4) (.slice a5 m.fs.length c5) (.slice a6 m.ds.length c6) m):=HH.out.below (HC.out w9 HB9.out).2.2.2.2.1 nR;go_wp2_with fail
    refine (deep_any _ _ _ _ _ _ m tn w9 HM9.out HM.out htn2).mono ?_;rintro e w10 ⟨⟨r10,rfl⟩,B10⟩;have HB10:Hid (Below W2.heap.size W2 w10):=HB9.out.trans (B10.mono HB9.out.size);clear B10 HM9 HB9 x0 x1 x2 x3 x4 x5 x6;go_wp2_with fail
    go_meet
    exact ⟨⟨_,rfl⟩,HB10.out⟩
  case rest =>
   obtain ⟨⟨r,rfl⟩,hb9⟩:=hcut;obtain ⟨w7,hw7⟩:∃ w7,w7=wc:=⟨_,rfl⟩
   subst hw7;have HB7:=hide hb9;clear hb9 HM8 HB8 x0 x1 x2 x3 x4 x5 x6
   cases r with
   | true =>
    exact cQ6
   | false =>
   have HP7:Hid (PM w7 (fun k=>w.heap.size+1+1<=k/\k < b2) b2 (.slice s1 m.xs.length t1) (.slice s2 m.ys.length t2) (.slice s3 m.is.length t3) (.slice s4 m.bs.length t4) (.slice s5 m.fs.length t5) (.slice s6 m.ds.length t6) m):=by
    obtain ⟨-,-,k3,k4,-⟩:=HC.out w7 HB7.out;exact ⟨k3,k4,fun e=>by have:w.heap.size+1+1<=b2/\b2 < b2:=e;omega⟩
   go_wp2_with fail
   refine (zcy _ b2 _ _ _ _ _ _ m w7 HP7.out).mono ?_;rintro e w9' ⟨⟨rr,rfl⟩,hw9⟩;rw [hw9];clear hw9 w9' HP7
   cases rr with
   | false =>
    obtain ⟨y0,y1,y2,y3,y4,y5,y6⟩:=AtC.sev ((HC.out w7 HB7.out).2.2.1);obtain ⟨r0,r1,r2,r3,r4,r5,r6⟩:=AtC.sev ((HC.out w7 HB7.out).2.1);have v0:=(HC.out w7 HB7.out).2.1.frozen 0;have v1:=(HC.out w7 HB7.out).2.1.frozen 1;have v2:=(HC.out w7 HB7.out).2.1.frozen 2;have v3:=(HC.out w7 HB7.out).2.1.frozen 3;have v4:=(HC.out w7 HB7.out).2.1.frozen 4;have v5:=(HC.out w7 HB7.out).2.1.frozen 5;have v6:=(HC.out w7 HB7.out).2.1.frozen 6;have HFF:=hide (HC.out w7 HB7.out);go_wp2;refine bodyPost_ret (v:=.tuple #[.agg #[.slice s1 m.xs.length t1,.slice s2 m.ys.length t2,.slice s3 m.is.length t3,.slice s4 m.bs.length t4,.slice s5 m.fs.length t5,.slice s6 m.ds.length t6,.int .i64 m.nx],.int .i64 4]) (by simp [results,go_sem,r0,r1,r2,r3,r4,r5,r6]) rfl ⟨⟨_,_,_,_,_,_,m,_,rfl,(HFF.out.2.2.2.1.of_heap fun k hk _=>zaa _ _ _ _ _ _ _ _ _ k (by have:w.heap.size+1+1<=k/\k < b2:=hk;omega)).mono (fun k hk=>by have:w.heap.size+1+1<=k/\k < b2:=hk;omega),HM.out⟩,zab HFF.out.2.2.2.2.1 (by omega) _ _ _ _ _ _ _⟩
   | true =>
   obtain ⟨i0,i1,i2⟩:=HIC.out w7 HB7.out;obtain ⟨x0,x1,x2,x3,x4,x5,x6⟩:=AtC.sev ((HC.out w7 HB7.out).1);by_cases h200:200<=ln
   ·have hl2:decide ((200:Int)<=ln)=true:=decide_eq_true h200;obtain ⟨y0,y1,y2,y3,y4,y5,y6⟩:=AtC.sev ((HC.out w7 HB7.out).2.2.1);obtain ⟨r0,r1,r2,r3,r4,r5,r6⟩:=AtC.sev ((HC.out w7 HB7.out).2.1);have v0:=(HC.out w7 HB7.out).2.1.frozen 0;have v1:=(HC.out w7 HB7.out).2.1.frozen 1;have v2:=(HC.out w7 HB7.out).2.1.frozen 2;have v3:=(HC.out w7 HB7.out).2.1.frozen 3;have v4:=(HC.out w7 HB7.out).2.1.frozen 4;have v5:=(HC.out w7 HB7.out).2.1.frozen 5;have v6:=(HC.out w7 HB7.out).2.1.frozen 6;have HFF:=hide (HC.out w7 HB7.out);go_wp2;refine bodyPost_ret (v:=.tuple #[.agg #[.slice s1 m.xs.length t1,.slice s2 m.ys.length t2,.slice s3 m.is.length t3,.slice s4 m.bs.length t4,.slice s5 m.fs.length t5,.slice s6 m.ds.length t6,.int .i64 m.nx],.int .i64 5]) (by simp [results,go_sem,r0,r1,r2,r3,r4,r5,r6]) rfl ⟨⟨_,_,_,_,_,_,m,_,rfl,(HFF.out.2.2.2.1.of_heap fun k hk _=>zaa _ _ _ _ _ _ _ _ _ k (by have:w.heap.size+1+1<=k/\k < b2:=hk;omega)).mono (fun k hk=>by have:w.heap.size+1+1<=k/\k < b2:=hk;omega),HM.out⟩,zab HFF.out.2.2.2.2.1 (by omega) _ _ _ _ _ _ _⟩
   have hl2:decide ((200:Int)<=ln)=false:=decide_eq_false h200;have HMC:Hid (MR w7 (.slice a1 m.xs.length c1) (.slice a2 m.ys.length c2) (.slice (some ⟨g2,o2,none⟩) m.is.length c3) (.slice a4 m.bs.length c4) (.slice a5 m.fs.length c5) (.slice a6 m.ds.length c6) m):=HH.out.below (HC.out w7 HB7.out).2.2.2.2.1 nR;go_wp2_with fail
   refine (zau _ _ _ _ _ _ m w7 HMC.out HM.out.big).mono ?_;rintro e w8 ⟨u1,u2,u3,u4,u5,u6,rfl,O8,B8⟩;obtain ⟨n1,o1,n2,o2',n3,o3,n4,o4,n5,o5,n6,o6,rfl,rfl,rfl,rfl,rfl,rfl⟩:=O8.mr.form;obtain ⟨W9,hW9⟩:∃ W9,w8.alloc (.cells #[.slice n1 m.xs.length o1,.slice n2 m.ys.length o2',.slice n3 m.is.length o3,.slice n4 m.bs.length o4,.slice n5 m.fs.length o5,.slice n6 m.ds.length o6,.int .i64 m.nx] 33)=W9:=⟨_,rfl⟩
   obtain ⟨bo,hbo⟩:∃ bo,w8.heap.size=bo:=⟨_,rfl⟩
   have HP9:Hid (PM W9 (fun k=>w7.heap.size<=k/\k < bo) bo (.slice n1 m.xs.length o1) (.slice n2 m.ys.length o2') (.slice n3 m.is.length o3) (.slice n4 m.bs.length o4) (.slice n5 m.fs.length o5) (.slice n6 m.ds.length o6) m/\Below w7.heap.size w7 W9/\w7.heap.size<=bo/\bo < W9.heap.size):=by
    exact cQ61
   have HB9:Hid (Below W2.heap.size W2 W9):=HB7.out.trans (HP9.out.2.1.mono HB7.out.size);clear O8 B8 HMC;obtain ⟨gi,ci,ei,ki1,kif,kiS,kil,hput⟩:=HP9.out.1.lnkAt j hj (HM.out.ii _ (List.getElem_mem hj)).n;simp only [Value.slice.injEq,true_and] at ei;obtain ⟨rfl,rfl⟩:=ei;obtain ⟨vl,ki1⟩:∃ vl,W9.cell? ⟨gi,j * 3+1,none⟩=some vl:=⟨_,ki1⟩
   have xn2:=HP9.out.1.box.c2;have g2l:g2 < w7.heap.size:=zjl i1;have y1:W9.cell? ⟨g2,o2+j * 3+1,none⟩=some (.int .i64 ln):=(HP9.out.2.1.cell (p:=⟨g2,o2+j * 3+1,none⟩) g2l).trans i1;have y2:=(HC.out W9 HB9.out).1.c2;have hlx:=(HM.out.ii _ (List.getElem_mem hj)).l;rw [HLN.out] at hlx;have hwn:IntKind.i64.wrap (ln+1)=ln+1:=wrap_small _ (by omega) (by omega);have HBL:Hid (∀ W,W=W9.setCell ⟨gi,j * 3+1,none⟩ (.int .i64 (ln+1))->PM W (fun k=>w7.heap.size<=k/\k < bo) bo (.slice n1 m.xs.length o1) (.slice n2 m.ys.length o2') (.slice (some ⟨gi,0,none⟩) m.is.length o3) (.slice n4 m.bs.length o4) (.slice n5 m.fs.length o5) (.slice n6 m.ds.length o6) { m with is:=m.is.set j (m.is[j].1,ln+1,m.is[j].2.2) }/\Sh Z0 { m with is:=m.is.set j (m.is[j].1,ln+1,m.is[j].2.2) }/\Below w7.heap.size w7 W):=by
    rintro W rfl;have hix:=HM.out.ii _ (List.getElem_mem hj);exact ⟨hput _,HM.out.inode j ⟨by show 0<=ln+1/\ln+1<=200;omega,hix.n,hix.p⟩ (fun _ p _=>Nat.le_refl _),HP9.out.2.1.setCell (p:=⟨gi,j * 3+1,none⟩) kiS.1 _⟩
   clear hput x0 x1 x2 x3 x4 x5 x6 i0 i1 i2;go_upto_region 21 with fail
   clear hW9 hbo;go_cut [19] from 107 to 137 (fun c wx=>c=.pointer (some ⟨bo,0,none⟩)/\PM wx (fun k=>w7.heap.size<=k/\k < bo) bo (.slice n1 m.xs.length o1) (.slice n2 m.ys.length o2') (.slice (some ⟨gi,0,none⟩) m.is.length o3) (.slice n4 m.bs.length o4) (.slice n5 m.fs.length o5) (.slice n6 m.ds.length o6) { m with is:=m.is.set j (m.is[j].1,ln+1,m.is[j].2.2) }/\Sh Z0 { m with is:=m.is.set j (m.is[j].1,ln+1,m.is[j].2.2) }/\Below w7.heap.size w7 wx)
   case first =>
    go_big_region
    all_goals (go_wp2_with fail;go_meet;exact ⟨rfl,(HBL.out _ rfl).1.drew,(HBL.out _ rfl).2.1,(HBL.out _ rfl).2.2.drew⟩)
   case rest =>
    obtain ⟨rfl,hP10,hS10,hB10⟩:=hcut;have HP10:=hide (And.intro hP10 (And.intro hS10 hB10));have hbo7:w7.heap.size<=bo:=HP9.out.2.2.1;obtain ⟨U,hU⟩:∃ U,uoI ((j:Int)+1)=U:=⟨_,rfl⟩
    have CU:Hid (∀ W,Calls Tryz.prog 96 #[.int .i64 ((j:Int)+1)] W fun e w'=>e=.returned (.int .i64 U)/\w'=W):=fun W=>by rw [← hU];exact zbe _ W
    clear hU hP10 hS10 hB10 HP9 HB9 ki1 kif kiS kil xn2 y1 y2 HBL;go_wp2_with fail
    refine (CU.out _).mono ?_;rintro e w9' ⟨rfl,hw9⟩;rw [hw9];clear hw9 w9';go_wp2_with fail
    refine (zbt _ bo U _ _ _ _ _ _ _ wc HP10.out.1).mono ?_;rintro e w11 ⟨rfl,PB,c11⟩;have HB11:Hid (Below w7.heap.size w7 w11):=HP10.out.2.2.trans (c11.below HP10.out.2.2.size (fun k hk=>hk.1));obtain ⟨mb,hmb⟩:∃ mb,markU U { m with is:=m.is.set j (m.is[j].1,ln+1,m.is[j].2.2) }=mb:=⟨_,rfl⟩
    have HMB:Hid (Sh Z0 mb/\mb.bs=m.bs/\mb.xs=m.xs):=by
     rw [← hmb];exact ⟨HP10.out.2.1.mark U,zha _ _,markU_xs _ _⟩
    rw [hmb] at PB;have HPB:Hid (PM w11 (fun k=>w7.heap.size<=k/\k < bo) bo (.slice n1 m.xs.length o1) (.slice n2 m.ys.length o2') (.slice (some ⟨gi,0,none⟩) m.is.length o3) (.slice n4 m.bs.length o4) (.slice n5 m.fs.length o5) (.slice n6 m.ds.length o6) mb/\(∀ k,(w7.heap.size<=k/\k < bo)->w7.heap.size<=k)/\(∀ k,w11.heap.size<=k->w7.heap.size<=k)):=⟨PB,fun k hk=>hk.1,fun k hk=>by have:=HB11.out.size;omega⟩
    clear PB c11 HP10 CU hmb;go_wp2_with fail
    refine (zf4 (fun k=>w7.heap.size<=k) bo ja nm ((j:Int)+1) _ _ _ _ _ _ _ mb w11 HPB.out.1 HPB.out.2.1 hbo7 HPB.out.2.2 HMB.out.1 hja8 hnm ⟨by omega,by omega⟩).mono ?_;rintro e w12 ⟨⟨id,rfl,-,-⟩,⟨SA,u',v',iv',bv',dv',pv',ma,PA,hSA,-,hmA,hkA⟩,c12⟩;have HB12:Hid (Below w7.heap.size w7 w12):=HB11.out.trans (c12.below HB11.out.size (fun k hk=>hk));have HW12:Hid (Below W2.heap.size W2 w12):=HB7.out.trans (HB12.out.mono HB7.out.size);clear c12 HPB HB11;by_cases hid:id=0
    ·subst hid;clear PA hSA hmA hkA;obtain ⟨y0,y1,y2,y3,y4,y5,y6⟩:=AtC.sev ((HC.out w12 HW12.out).2.2.1);obtain ⟨r0,r1,r2,r3,r4,r5,r6⟩:=AtC.sev ((HC.out w12 HW12.out).2.1);have v0:=(HC.out w12 HW12.out).2.1.frozen 0;have v1:=(HC.out w12 HW12.out).2.1.frozen 1;have v2:=(HC.out w12 HW12.out).2.1.frozen 2;have v3:=(HC.out w12 HW12.out).2.1.frozen 3;have v4:=(HC.out w12 HW12.out).2.1.frozen 4;have v5:=(HC.out w12 HW12.out).2.1.frozen 5;have v6:=(HC.out w12 HW12.out).2.1.frozen 6;have HFF:=hide (HC.out w12 HW12.out);go_wp2;refine bodyPost_ret (v:=.tuple #[.agg #[.slice s1 m.xs.length t1,.slice s2 m.ys.length t2,.slice s3 m.is.length t3,.slice s4 m.bs.length t4,.slice s5 m.fs.length t5,.slice s6 m.ds.length t6,.int .i64 m.nx],.int .i64 4]) (by simp [results,go_sem,r0,r1,r2,r3,r4,r5,r6]) rfl ⟨⟨_,_,_,_,_,_,m,_,rfl,(HFF.out.2.2.2.1.of_heap fun k hk _=>zaa _ _ _ _ _ _ _ _ _ k (by have:w.heap.size+1+1<=k/\k < b2:=hk;omega)).mono (fun k hk=>by have:w.heap.size+1+1<=k/\k < b2:=hk;omega),HM.out⟩,zab HFF.out.2.2.2.2.1 (by omega) _ _ _ _ _ _ _⟩
    have hidb:(id == 0)=false:=beq_eq_false_iff_ne.mpr hid;obtain ⟨hbit,s,hs,hs1,hs8⟩:=HSL.out;have hs2:slotO ma.bs jb tt=some s:=hkA jb tt s (by rw [HMB.out.2.2];exact hbit) (by rw [HMB.out.2.1];exact hs) hs1;obtain ⟨hjb,htt,hsx⟩:=zer hs2;have HP12:Hid (PM w12 SA bo u' v' iv' bv' dv' pv' ma/\(∀ k,SA k->w7.heap.size<=k)/\Sh Z0 ma/\(1<=ma.bs[jb].2.1[tt].2/\ma.bs[jb].2.1[tt].2<=8)/\(∀ k,w12.heap.size<=k->w7.heap.size<=k)):=⟨PA,hSA,hmA,by rw [hsx];exact ⟨hs1,hs8⟩,fun k hk=>by have:=HB12.out.size;omega⟩
    clear PA hSA hmA hkA hs hs2 hsx hbit;go_wp2_with fail
    refine (zhc (fun k=>w7.heap.size<=k) bo jb tt id _ _ _ _ _ _ _ ma w12 HP12.out.1 HP12.out.2.1 hbo7 HP12.out.2.2.2.2 HP12.out.2.2.1 hjb htt HP12.out.2.2.2.1).mono ?_;rintro e w13 ⟨rfl,⟨SC,u2,v2,iv2,bv2,dv2,pv2,mc,PA,hSA,-,hmA⟩,c13⟩;have HW13:Hid (Below W2.heap.size W2 w13):=by
     have b13:=HB12.out.trans (c13.below HB12.out.size (fun k hk=>hk));exact HB7.out.trans (b13.mono HB7.out.size)
    obtain ⟨ma',hma'⟩:∃ ma',ma'=mc:=⟨_,rfl⟩
    subst hma';obtain ⟨h1,k1,h2,k2,h3,k3,h4,k4,h5,k5,h6,k6,rfl,rfl,rfl,rfl,rfl,rfl⟩:=PA.form;have HZ:Hid (w.heap.size+1+1<=w7.heap.size):=by have:=(HC.out w7 HB7.out).2.2.2.2.2;show _<=_;omega
    clear c13 HP12 HB12 HW12;obtain ⟨y0,y1,y2,y3,y4,y5,y6⟩:=AtC.sev PA.box;obtain ⟨r0,r1,r2,r3,r4,r5,r6⟩:=AtC.sev ((HC.out w13 HW13.out).2.1);have v0:=(HC.out w13 HW13.out).2.1.frozen 0;have v1:=(HC.out w13 HW13.out).2.1.frozen 1;have v2:=(HC.out w13 HW13.out).2.1.frozen 2;have v3:=(HC.out w13 HW13.out).2.1.frozen 3;have v4:=(HC.out w13 HW13.out).2.1.frozen 4;have v5:=(HC.out w13 HW13.out).2.1.frozen 5;have v6:=(HC.out w13 HW13.out).2.1.frozen 6;have HF:=hide (And.intro PA.own (And.intro hSA hmA));clear PA hSA hmA;go_wp2;refine bodyPost_ret (v:=.tuple #[.agg #[.slice h1 ma'.xs.length k1,.slice h2 ma'.ys.length k2,.slice h3 ma'.is.length k3,.slice h4 ma'.bs.length k4,.slice h5 ma'.fs.length k5,.slice h6 ma'.ds.length k6,.int .i64 ma'.nx],.int .i64 0]) (by simp [results,go_sem,r0,r1,r2,r3,r4,r5,r6]) rfl ⟨⟨_,_,_,_,_,_,ma',_,rfl,(HF.out.1.of_heap fun k hk _=>zaa _ _ _ _ _ _ _ _ _ k (by have:=HF.out.2.1 k hk;have:=HZ.out;omega)).mono (fun k hk=>by have:=HF.out.2.1 k hk;have:=HZ.out;omega),HF.out.2.2⟩,zab (HC.out w13 HW13.out).2.2.2.2.1 (by omega) _ _ _ _ _ _ _⟩
namespace Kit
abbrev Nd:=ByteArray×Bool×ByteArray×ByteArray
def ndRow (x:Nd):Row:=[.string x.1,.bool x.2.1,.string x.2.2.1,.string x.2.2.2]
def NdO (w:World) (B:Nat) (v:Value) (ns:List Nd):Prop:=NOwns w 114 4 v (ns.map ndRow)/\∀ k,v.ownBlock=some k->B<=k
namespace NdO
variable {w w' : World} {B : Nat} {v : Value} {ns : List Nd}
theorem lt (h:NdO w B v ns):∀ k,v.ownBlock=some k->B<=k/\k < w.heap.size:=fun k hk=>⟨h.2 k hk,h.1.lt k hk⟩
theorem of_heap (h:NdO w B v ns)(hh:∀ k,v.ownBlock=some k->w'.heap[k]?=w.heap[k]?):NdO w' B v ns:=⟨h.1.of_heap hh,h.2⟩
theorem below (h:NdO w B v ns)(hb:Below w.heap.size w w'):NdO w' B v ns:=h.of_heap fun k hk=>hb.block k (h.lt k hk).2
theorem mono {B':Nat}(h:NdO w B v ns)(hB:B'<=B):NdO w B' v ns:=⟨h.1,fun k hk=>Nat.le_trans hB (h.2 k hk)⟩
theorem nil (w:World)(B:Nat):NdO w B (.slice none 0 0) []:=⟨NOwns.nil _ _ _,fun k hk=>by simp [Value.ownBlock] at hk⟩
theorem lit0 (w:World):NdO (w.alloc (.cells #[] 114)) w.heap.size (.slice (some ⟨w.heap.size,0,none⟩) 0 0) []:=by
 refine ⟨?_,fun k hk=>by simp [Value.ownBlock] at hk;omega⟩;have:=NOwns.of_at (n:=4) (ts:=[]) (AtC.new w 114 #[]) rfl (Even.nil _) (Nat.zero_le _);simpa using this
theorem form (h:NdO w B v ns):∃ a cap,v=.slice a ns.length cap:=by
 obtain ⟨a,cap,e,-⟩:=h.1.form;rw [List.length_map] at e;exact ⟨a,cap,e⟩
theorem rc (h:NdO w B v ns):RC w v ns.length (ns.map ndRow).flatten:=by
 have:=h.1.rc
 rwa [List.length_map] at this
theorem at_ (h:NdO w B v ns)(j:Nat)(hj:j < ns.length):∃ g cap,v=.slice (some ⟨g,0,none⟩) ns.length cap/\w.cell? ⟨g,j * 4,none⟩=some (.string ns[j].1)/\w.cell? ⟨g,j * 4+1,none⟩=some (.bool ns[j].2.1)/\w.cell? ⟨g,j * 4+2,none⟩=some (.string ns[j].2.2.1)/\w.cell? ⟨g,j * 4+3,none⟩=some (.string ns[j].2.2.2)/\(∀ k,w.frozen? ⟨g,k,none⟩=false)/\g < w.heap.size/\B<=g:=by
 obtain ⟨g,cap,e,hc,hf,hg,-⟩:=h.1.at j (by rw [List.length_map];exact hj);rw [List.length_map] at e;refine ⟨g,cap,e,?_,?_,?_,?_,hf,hg,h.2 g (by rw [e];rfl)⟩
 ·have:=hc 0 (by decide);rw [List.getElem_map] at this;exact this
 ·have:=hc 1 (by decide);rw [List.getElem_map] at this;exact this
 ·have:=hc 2 (by decide);rw [List.getElem_map] at this;exact this
 ·have:=hc 3 (by decide);rw [List.getElem_map] at this;exact this
theorem put {g cap:Nat}(h:NdO w B (.slice (some ⟨g,0,none⟩) ns.length cap) ns)(j:Nat)(hj:j < ns.length)(x:Nd):NdO ((((w.setCell ⟨g,j * 4,none⟩ (.string x.1)).setCell ⟨g,j * 4+1,none⟩ (.bool x.2.1)).setCell ⟨g,j * 4+2,none⟩ (.string x.2.2.1)).setCell ⟨g,j * 4+3,none⟩ (.string x.2.2.2)) B (.slice (some ⟨g,0,none⟩) ns.length cap) (ns.set j x):=by
 refine ⟨?_,h.2⟩;have h1:NOwns w 114 4 (.slice (some ⟨g,0,none⟩) (ns.map ndRow).length cap) (ns.map ndRow):=by rw [List.length_map];exact h.1
 have:=NOwns.setRow j (ndRow x) w (ns.map ndRow) (by rw [List.length_map];exact hj) [] h1 rfl (by simp);rw [List.length_map] at this;rw [List.map_set];exact this
end NdO
end Kit
def SubN (ms ns:List Nd):Prop:=∀ x∈ms,x∈ns
theorem Tryz.u87:Tryz.prog.underlying 87=some (.slice 114):=by kernel_rfl
theorem Tryz.i114:(Tryz.prog.info? 114).map (fun i=>(i.zero,i.size,i.bytes))=some (some (.agg #[.string ⟨#[]⟩,.bool false,.string ⟨#[]⟩,.string ⟨#[]⟩]),4,56):=by kernel_rfl
theorem zc7 (ns:List Nd):(ns.map ndRow).flatten.length=ns.length * 4:=by
 induction ns with
 | nil=>rfl
 | cons x r ih=>simp only [List.map_cons,List.flatten_cons,List.length_append,ih,List.length_cons];show 4+_=_;omega
theorem zc8 (ns:List Nd):∀ u∈(ns.map ndRow).flatten,u.oneCell'=true:=fun u hu=>by
 obtain ⟨r,hr,hu⟩:=List.mem_flatten.mp hu;obtain ⟨x,-,rfl⟩:=List.mem_map.mp hr;simp only [ndRow,List.mem_cons,List.not_mem_nil,or_false] at hu;rcases hu with rfl | rfl | rfl | rfl<;>rfl
theorem NdO.of_owns {w:World}{B:Nat}{v:Value}{ns:List Nd}(h:w.ownsRow B 114 4 v ns.length (ns.map ndRow).flatten):NdO w B v ns:=by
 refine ⟨⟨fun t ht=>?_,?_⟩,fun k hk=>(World.ownsRow.lt h k hk).1⟩
 ·obtain ⟨x,-,rfl⟩:=List.mem_map.mp ht;rfl
 ·rw [List.length_map];refine ⟨h.1,h.2.imp id ?_⟩;rintro ⟨g,cap,cur,h1,h2,h3⟩;exact ⟨g,cap,cur,h1,Nat.zero_le _,h3⟩
theorem zc9 (B:Nat)(v:Value)(ns:List Nd)(w:World)(h:NdO w B v ns)(hl:ns.length<=1000) :
  Calls Tryz.prog 66 #[v] w fun e w'=>∃ v' ns',e=.returned v'/\NdO w' w.heap.size v' ns'/\ns'.length=ns.length/\SubN ns' ns/\Below w.heap.size w w':=by
 obtain ⟨a0,c0,rfl⟩:=h.form;have HRC:Hid (RC (w.alloc (.cells #[] 114)) (.slice a0 ns.length c0) ns.length (ns.map ndRow).flatten):=(h.below ((Below.refl _ w).alloc nR _)).rc;have HE:Hid ((w.alloc (.cells #[] 114)).ownsRow w.heap.size 114 4 (.slice (some ⟨w.heap.size,0,none⟩) 0 0) 0 []):=(AtC.new w 114 #[]).empty _ nR 4;have HLN:Hid (ns.length<=100000000000):=by show _<=_;omega
 clear h;go_enter Tryz.func66,Tryz.ntmps66
 go_wp2_with (at_builtin;refine zah _ rfl _ _ 87 rfl w.heap.size 114 Tryz.u87 _ 4 56 Tryz.i114 rfl (by decide) (by decide) (.slice (some ⟨w.heap.size,0,none⟩) 0 0) rfl HE.out (by simp) _ rfl ns.length (ns.map ndRow).flatten HRC.out (zc7 ns) (zc8 ns) HLN.out ?_;intro v1 w1 R1 R2 R3)
 have HO1:Hid (NdO w1 w.heap.size v1 ns/\Below w.heap.size w w1):=by
  refine ⟨NdO.of_owns R1,((Below.refl _ w).alloc nR (.cells #[] 114)).grown R2 (by simp) (fun k hk=>?_)⟩;simp [Value.ownBlock] at hk;omega
 obtain ⟨a1,c1,rfl⟩:=HO1.out.1.form;clear R1 R2 R3 HRC HE;go_loopw [4] (fun i wr=>∃ n:Nat,1<=n/\n<=1001/\i=.int .i64 n/\Hid (∃ ms:List Nd,NdO wr w.heap.size (.slice a1 ns.length c1) ms/\ms.length=ns.length/\SubN ms ns/\Below w.heap.size w wr)) (fun i _=>1001 - (intOf i).toNat)
 case atStart=>exact ⟨1,Nat.le_refl _,by omega,rfl,ns,HO1.out.1,rfl,fun x hx=>hx,HO1.out.2⟩
 case round =>
  obtain ⟨n,hn1,hn2,rfl,HR⟩:=hrel;by_cases hlt:n < ns.length
  rotate_left
  ·have n1:¬ ((n:Int) < (ns.length:Int)):=by omega
   obtain ⟨ms,hms⟩:=HR.out;have HQ:=hide hms;clear hms HR HO1;go_wp2;go_ret;exact ⟨.slice a1 ns.length c1,rfl,ms,HQ.out⟩
  have n1:(n:Int) < (ns.length:Int):=by omega
  have n2:n < 1000:=by omega
  clear HO1;go_wp2_with fail
  go_loopw [5] (fun kk wr=>∃ q:Nat,q<=n/\kk=.int .i64 q/\Hid (∃ ms:List Nd,NdO wr w.heap.size (.slice a1 ns.length c1) ms/\ms.length=ns.length/\SubN ms ns/\Below w.heap.size w wr)) (fun kk _=>(intOf kk).toNat)
  case atStart=>exact ⟨n,Nat.le_refl _,rfl,HR.out⟩
  case round =>
   obtain ⟨q,hq,rfl,HS⟩:=hrel;have HSD:Hid (∀ k,∃ ms:List Nd,NdO (wr.drewN k) w.heap.size (.slice a1 ns.length c1) ms/\ms.length=ns.length/\SubN ms ns/\Below w.heap.size w (wr.drewN k)):=fun k=>by
    obtain ⟨ms,h1,h2,h3,h4⟩:=HS.out;exact ⟨ms,h1.below (below_drewN bR _),h2,h3,below_drewN h4 _⟩
   clear HR
   cases q with
   | zero =>
    go_upto_region 6 with fail
    go_quiet (fail)
    go_wp2;go_roundw
    case rel=>exact ⟨n+1,by omega,by omega,by go_num,HSD.out _⟩
    case measure=>simp [intOf];omega
   | succ q =>
    obtain ⟨ms,hms⟩:=HS.out;have HQ:=hide hms;clear hms HS;obtain ⟨g,cap,e1,p0,p1,p2,p3,hfz,hg,hgB⟩:=HQ.out.1.at_ q (by rw [HQ.out.2.1];omega);obtain ⟨g',cap',e2,r0,r1,r2,r3,-,-,-⟩:=HQ.out.1.at_ (q+1) (by rw [HQ.out.2.1];omega);rw [HQ.out.2.1] at e1 e2;simp only [Value.slice.injEq,true_and] at e1 e2;obtain ⟨rfl,rfl⟩:=e1;simp only [Option.some.injEq,Addr.mk.injEq,and_true] at e2;obtain ⟨rfl,-⟩:=e2;obtain ⟨⟨xa,xb,xc,xd⟩,hX⟩:∃ X,ms[q]'(by rw [HQ.out.2.1];omega)=X:=⟨_,rfl⟩
    obtain ⟨⟨ya,yb,yc,yd⟩,hY⟩:∃ Y,ms[q+1]'(by rw [HQ.out.2.1];omega)=Y:=⟨_,rfl⟩
    rw [hX] at p0 p1 p2 p3;rw [hY] at r0 r1 r2 r3;have HXM:Hid ((xa,xb,xc,xd)∈ns/\(ya,yb,yc,yd)∈ns):=⟨by rw [← hX];exact HQ.out.2.2.1 _ (List.getElem_mem _),by rw [← hY];exact HQ.out.2.2.1 _ (List.getElem_mem _)⟩
    clear hX hY;simp only at p0 p1 p2 p3 r0 r1 r2 r3;have hq0:(0:Int) < (q:Int)+1:=by omega
    have hqw:IntKind.i64.wrap (q:Int)=(q:Int):=wrap_small _ (by omega) (by omega);have q0:(0:Int)<=(q:Int):=by omega
    have q1:(q:Int) < (ns.length:Int):=by omega
    have q2:(q:Int)+1 < (ns.length:Int):=by omega
    have q3:q < 1000:=by omega
    clear HSD;go_upto_region 6 with fail
    go_cut [32] from 17 to 51 (fun c wx=>(∃ r,c=.bool r)/\NdO wx w.heap.size (.slice (some ⟨g,0,none⟩) ns.length c1) ms/\Below w.heap.size w wx)
    case first =>
     go_quiet (fail)
     go_wp2_with fail
     go_meet
     exact ⟨⟨_,rfl⟩,HQ.out.1.below (below_drewN bR _),below_drewN HQ.out.2.2.2 _⟩
    case rest =>
     obtain ⟨⟨r,rfl⟩,hN,hBl⟩:=hcut;have HN:=hide (And.intro hN hBl);clear p0 p1 p2 p3 r0 r1 r2 r3 hfz hg hN hBl
     cases r with
     | false =>
      go_wp2;go_roundw
      case rel=>exact ⟨n+1,by omega,by omega,by go_num,ms,HN.out.1,HQ.out.2.1,HQ.out.2.2.1,HN.out.2⟩
      case measure=>simp [intOf];omega
     | true =>
      obtain ⟨g2,cap2,e1,p0,p1,p2,p3,hfz,hg,-⟩:=HN.out.1.at_ q (by rw [HQ.out.2.1];omega);obtain ⟨g3,cap3,e2,r0,r1,r2,r3,-,-,-⟩:=HN.out.1.at_ (q+1) (by rw [HQ.out.2.1];omega);rw [HQ.out.2.1] at e1 e2;simp only [Value.slice.injEq,Option.some.injEq,Addr.mk.injEq,true_and,and_true] at e1 e2;obtain ⟨rfl,rfl⟩:=e1;obtain ⟨rfl,-⟩:=e2;obtain ⟨⟨xa,xb,xc,xd⟩,hX⟩:∃ X,ms[q]'(by rw [HQ.out.2.1];omega)=X:=⟨_,rfl⟩
      obtain ⟨⟨ya,yb,yc,yd⟩,hY⟩:∃ Y,ms[q+1]'(by rw [HQ.out.2.1];omega)=Y:=⟨_,rfl⟩
      rw [hX] at p0 p1 p2 p3;rw [hY] at r0 r1 r2 r3;have HXM:Hid ((xa,xb,xc,xd)∈ns/\(ya,yb,yc,yd)∈ns):=⟨by rw [← hX];exact HQ.out.2.2.1 _ (List.getElem_mem _),by rw [← hY];exact HQ.out.2.2.1 _ (List.getElem_mem _)⟩
      clear hX hY;simp only at p0 p1 p2 p3 r0 r1 r2 r3;have f0:=hfz (q * 4);have f1:=hfz (q * 4+1);have f2:=hfz (q * 4+2);have f3:=hfz (q * 4+3);have k0:=hfz ((q+1) * 4);have k1:=hfz ((q+1) * 4+1);have k2:=hfz ((q+1) * 4+2);have k3:=hfz ((q+1) * 4+3);have HREL:Hid (∃ q':Nat,q'<=n/\Value.int .i64 (q:Int)=.int .i64 q'/\Hid (∃ ms:List Nd,NdO (((((((((wc.setCell ⟨g,(q+1) * 4,none⟩ (.string xa)).setCell ⟨g,(q+1) * 4+1,none⟩ (.bool xb)).setCell ⟨g,(q+1) * 4+2,none⟩ (.string xc)).setCell ⟨g,(q+1) * 4+3,none⟩ (.string xd)).setCell ⟨g,q * 4,none⟩ (.string ya)).setCell ⟨g,q * 4+1,none⟩ (.bool yb)).setCell ⟨g,q * 4+2,none⟩ (.string yc)).setCell ⟨g,q * 4+3,none⟩ (.string yd)).alloc (.cells #[.string ya,.bool yb,.string yc,.string yd] 114)) w.heap.size (.slice (some ⟨g,0,none⟩) ns.length c1) ms/\ms.length=ns.length/\SubN ms ns/\Below w.heap.size w (((((((((wc.setCell ⟨g,(q+1) * 4,none⟩ (.string xa)).setCell ⟨g,(q+1) * 4+1,none⟩ (.bool xb)).setCell ⟨g,(q+1) * 4+2,none⟩ (.string xc)).setCell ⟨g,(q+1) * 4+3,none⟩ (.string xd)).setCell ⟨g,q * 4,none⟩ (.string ya)).setCell ⟨g,q * 4+1,none⟩ (.bool yb)).setCell ⟨g,q * 4+2,none⟩ (.string yc)).setCell ⟨g,q * 4+3,none⟩ (.string yd)).alloc (.cells #[.string ya,.bool yb,.string yc,.string yd] 114)))):=by
       have hml:=HQ.out.2.1;have N0:=HN.out.1;rw [← hml] at N0;have N1:=N0.put (q+1) (by omega) (xa,xb,xc,xd);have N1':NdO ((((wc.setCell ⟨g,(q+1) * 4,none⟩ (.string xa)).setCell ⟨g,(q+1) * 4+1,none⟩ (.bool xb)).setCell ⟨g,(q+1) * 4+2,none⟩ (.string xc)).setCell ⟨g,(q+1) * 4+3,none⟩ (.string xd)) w.heap.size (.slice (some ⟨g,0,none⟩) (ms.set (q+1) (xa,xb,xc,xd)).length c1) (ms.set (q+1) (xa,xb,xc,xd)):=by rw [List.length_set];exact N1
       have N2:=N1'.put q (by rw [List.length_set];omega) (ya,yb,yc,yd);rw [List.length_set,hml] at N2;refine ⟨q,by omega,rfl,_,N2.below (bR.alloc nR _),by rw [List.length_set,List.length_set];exact hml,fun x hx=>?_,?_⟩
       ·rcases List.mem_or_eq_of_mem_set hx with hx | rfl
        ·rcases List.mem_or_eq_of_mem_set hx with hx | rfl
         ·exact HQ.out.2.2.1 x hx
         ·exact HXM.out.1
        ·exact HXM.out.2
       ·have b0:=(((((((HN.out.2.setCell (p:=⟨g,(q+1) * 4,none⟩) hgB (.string xa)).setCell (p:=⟨g,(q+1) * 4+1,none⟩) hgB (.bool xb)).setCell (p:=⟨g,(q+1) * 4+2,none⟩) hgB (.string xc)).setCell (p:=⟨g,(q+1) * 4+3,none⟩) hgB (.string xd)).setCell (p:=⟨g,q * 4,none⟩) hgB (.string ya)).setCell (p:=⟨g,q * 4+1,none⟩) hgB (.bool yb)).setCell (p:=⟨g,q * 4+2,none⟩) hgB (.string yc)).setCell (p:=⟨g,q * 4+3,none⟩) hgB (.string yd);exact b0.alloc b0.size _
      have hne:¬ g=wc.heap.size:=by omega
      have hne2:¬ wc.heap.size=g:=by omega
      have z0:((q+1) * 4=q * 4)=False:=by simp;omega
      clear HQ HN hfz HXM;go_wp2;go_roundw
      case rel=>first | exact HREL.out | ((repeat apply Exists.intro);exact ⟨HREL.out,rfl⟩)
      case measure=>simp [intOf]
namespace Kit
def NdB (L:Nat) (ns:List Nd):Prop:=∀ x∈ns,x.1.size<=L
theorem NdB.set {L:Nat}{ns:List Nd}(h:NdB L ns)(j:Nat){x:Nd}(hx:x.1.size<=L):NdB L (ns.set j x):=fun y hy=>(List.mem_or_eq_of_mem_set hy).elim (h y) (fun e=>e ▸ hx)
theorem NdB.app {L:Nat}{ns:List Nd}(h:NdB L ns){x:Nd}(hx:x.1.size<=L):NdB L (ns ++ [x]):=fun y hy=>(List.mem_append.mp hy).elim (h y) (fun e=>by simp at e;subst e;exact hx)
theorem NdB.sub {L:Nat}{ns ms:List Nd}(h:NdB L ns)(hs:SubN ms ns):NdB L ms:=fun y hy=>h y (hs y hy)
theorem NdB.mono {L L':Nat}{ns:List Nd}(h:NdB L ns)(hl:L<=L'):NdB L' ns:=fun y hy=>Nat.le_trans (h y hy) hl
namespace NdO
variable {w w' : World} {B : Nat} {v : Value} {ns : List Nd}
theorem cellSet {g cap:Nat}(h:NdO w B (.slice (some ⟨g,0,none⟩) ns.length cap) ns)(j i:Nat)(hj:j < ns.length)(hi:i < 4)(x:Value)(y:Nd)(hy:(ndRow ns[j]).set i x=ndRow y):NdO (w.setCell ⟨g,j * 4+i,none⟩ x) B (.slice (some ⟨g,0,none⟩) ns.length cap) (ns.set j y):=by
 refine ⟨?_,h.2⟩;have h1:NOwns w 114 4 (.slice (some ⟨g,0,none⟩) (ns.map ndRow).length cap) (ns.map ndRow):=by rw [List.length_map];exact h.1
 have h2:=h1.set j i (by rw [List.length_map];exact hj) hi x;have e1:(ns.map ndRow).length=ns.length:=List.length_map _;have e2:(ns.map ndRow).set j (((ns.map ndRow)[j]'(by rw [e1];exact hj)).set i x)=(ns.set j y).map ndRow:=by rw [List.map_set,← hy,List.getElem_map]
 rw [e2] at h2;rw [show (Value.slice (some ⟨g,0,none⟩) ns.length cap)=.slice (some ⟨g,0,none⟩) (ns.map ndRow).length cap by rw [e1]];exact h2
theorem app {lv':Value}{x:Nd}(h:NdO w B v ns)(ho:NOwns w' 114 4 lv' (ns.map ndRow ++ [ndRow x]))(hv:∀ k,lv'.ownBlock=some k->v.ownBlock=some k\/w.heap.size<=k)(hB:B<=w.heap.size):NdO w' B lv' (ns ++ [x]) :=
 ⟨by rw [List.map_append];exact ho,fun k hk=>(hv k hk).elim (h.2 k) (fun e=>Nat.le_trans hB e)⟩
end NdO
end Kit
def ModR (L n B:Nat) (w':World) (e:Ending):Prop:=∃ v' ns',e=.returned v'/\NdO w' B v' ns'/\ns'.length<=n+1/\NdB L ns'
theorem ModR.mk {L n B:Nat}{w':World}{e:Ending}(v':Value)(ns':List Nd)(h1:e=.returned v')(h2:NdO w' B v' ns')(h3:ns'.length<=n+1)(h4:NdB L ns'):ModR L n B w' e:=⟨v',ns',h1,h2,h3,h4⟩
theorem zjq (p t:ByteArray)(ht:t.size<=1048576) :
  ∃ r:Bool,∀ w:World,Calls Tryz.prog 67 #[.string p,.string t] w fun e w'=>e=.returned (.bool r)/\w'=w:=by
 obtain ⟨q,hq⟩:∃ q,(p.toList == t.toList)=q:=⟨_,rfl⟩
 cases q with
 | true =>
  refine ⟨true,fun w=>?_⟩;go_enter Tryz.func67,Tryz.ntmps67
  go_wp2;go_ret;exact ⟨rfl,rfl⟩
 | false =>
  by_cases hl:t.size < p.size
  ·have h1:(t.size:Int) < (p.size:Int):=by omega
   have h2:((t.size:Int)+1)<=(p.size:Int):=by omega
   have h3:¬ 9223372036854775807 < t.size+1:=by omega
   obtain ⟨q2,hq2⟩:∃ q2,((p.extract 0 (t.size+1)).toList == (t ++ (⟨#[47]⟩:ByteArray)).toList)=q2:=⟨_,rfl⟩
   refine ⟨q2,fun w=>?_⟩;go_enter Tryz.func67,Tryz.ntmps67
   go_wp2;go_ret;exact ⟨rfl,rfl⟩
  ·have h1:¬ (t.size:Int) < (p.size:Int):=by omega
   refine ⟨false,fun w=>?_⟩;go_enter Tryz.func67,Tryz.ntmps67
   go_wp2;go_ret;exact ⟨rfl,rfl⟩
theorem zjr (L B:Nat)(v:Value)(ns:List Nd)(kd:Int)(p q:ByteArray)(at_:Int)(tx:ByteArray)(w:World)(h:NdO w B v ns)(hl:ns.length<=900)(hL:NdB L ns)(hp:p.size<=L)(hq:q.size<=L)(hL6:L<=1048576) :
  Calls Tryz.prog 47 #[v,.agg #[.int .i64 kd,.string p,.string q,.int .i64 at_,.string tx]] w fun e w'=>ModR L ns.length w.heap.size w' e/\Below w.heap.size w w':=by
 obtain ⟨a0,c0,rfl⟩:=h.form;obtain ⟨W0,hW0⟩:∃ W0,((w.alloc (.cells #[.int .i64 kd,.string p,.string q,.int .i64 at_,.string tx] 94)).alloc (.cells #[] 114))=W0:=⟨_,rfl⟩
 have HW0:Hid (Below w.heap.size w W0/\AtC W0 w.heap.size 94 #[.int .i64 kd,.string p,.string q,.int .i64 at_,.string tx]/\W0.heap.size=w.heap.size+1+1/\RC W0 (.slice a0 ns.length c0) ns.length (ns.map ndRow).flatten/\W0.ownsRow (w.heap.size+1) 114 4 (.slice (some ⟨w.heap.size+1,0,none⟩) 0 0) 0 []):=by
  rw [← hW0];have b0:Below w.heap.size w ((w.alloc (.cells #[.int .i64 kd,.string p,.string q,.int .i64 at_,.string tx] 94)).alloc (.cells #[] 114)):=((Below.refl _ w).alloc nR _).alloc (by simp) _;have k:=(AtC.new (w.alloc (.cells #[.int .i64 kd,.string p,.string q,.int .i64 at_,.string tx] 94)) 114 #[]).empty (w.heap.size+1) (by simp) 4;have e0:(w.alloc (.cells #[.int .i64 kd,.string p,.string q,.int .i64 at_,.string tx] 94)).heap.size=w.heap.size+1:=by simp
  rw [e0] at k;exact ⟨b0,(AtC.new w 94 _).alloc _,by simp,(h.below b0).rc,k⟩
 have HLN:Hid (ns.length<=100000000000):=by show _<=_;omega
 have HSZ0:Hid (w.heap.size+1<=W0.heap.size):=by have:=HW0.out.2.2.1;show _<=_;omega
 have HNB:=hide hL;clear h hL;have HMK:Hid (∀ v1 w1,w1.ownsRow (w.heap.size+1) 114 4 v1 ns.length (ns.map ndRow).flatten->W0.grownBy w1 (Value.slice (some ⟨w.heap.size+1,0,none⟩) 0 0).ownBlock->NdO w1 (w.heap.size+1) v1 ns/\AtC w1 w.heap.size 94 #[.int .i64 kd,.string p,.string q,.int .i64 at_,.string tx]/\Below w.heap.size w w1):=fun v1 w1 R1 R2=>by
  obtain ⟨k1,k2,k3,-⟩:=HW0.out;exact ⟨NdO.of_owns R1,k2.grown R2 (by simp [Value.ownBlock]),k1.grown R2 (by omega) (fun k hk=>by simp [Value.ownBlock] at hk;omega)⟩
 go_enter Tryz.func47,Tryz.ntmps47
 go_upto_region 3 with (at_builtin;refine zah _ rfl _ _ 87 rfl (w.heap.size+1) 114 Tryz.u87 _ 4 56 Tryz.i114 rfl (by decide) (by decide) (.slice (some ⟨w.heap.size+1,0,none⟩) 0 0) rfl HW0.out.2.2.2.2 HSZ0.out _ rfl ns.length (ns.map ndRow).flatten HW0.out.2.2.2.1 (zc7 ns) (zc8 ns) HLN.out ?_;intro v1 w1 R1 R2 R3;have HO1:=hide (HMK.out v1 w1 R1 R2);clear R1 R2 R3;obtain ⟨a1,c1,rfl⟩:=HO1.out.1.form;have e0:w1.cell? ⟨w.heap.size,0,none⟩=some (.int .i64 kd):=HO1.out.2.1.cell 0)
 clear HMK HW0 HSZ0 HLN hW0 e0;have HO2:Hid (w.heap.size+1<=w1.heap.size):=HO1.out.2.1.lt;by_cases h3:kd=3
 ·subst h3;go_wp2_with fail
  go_loopw [6] (fun i wr=>∃ n:Nat,n<=ns.length/\i=.int .i64 n/\Hid (∃ ms:List Nd,NdO wr (w.heap.size+1) (.slice a1 ns.length c1) ms/\ms.length=ns.length/\NdB L ms/\AtC wr w.heap.size 94 #[.int .i64 3,.string p,.string q,.int .i64 at_,.string tx]/\Below w.heap.size w wr)) (fun i _=>ns.length - (intOf i).toNat)
  case atStart=>exact ⟨0,Nat.zero_le _,rfl,ns,HO1.out.1,rfl,HNB.out,HO1.out.2.1,HO1.out.2.2⟩
  case round =>
   obtain ⟨n,hn,rfl,HR⟩:=hrel;clear HO1;by_cases hlt:n < ns.length
   rotate_left
   ·have n1:¬ ((n:Int) < (ns.length:Int)):=by omega
    obtain ⟨ms,hms⟩:=HR.out;have HQ:=hide hms;clear hms HR;go_wp2;go_ret;exact ⟨ModR.mk _ ms rfl (HQ.out.1.mono (by omega)) (by have:=HQ.out.2.1;omega) HQ.out.2.2.1,HQ.out.2.2.2.2⟩
   have n1:(n:Int) < (ns.length:Int):=by omega
   have n2:n < 900:=by omega
   have n0:(0:Int)<=(n:Int):=by omega
   obtain ⟨ms,hms⟩:=HR.out;have HQ:=hide hms;clear hms HR;obtain ⟨g,cap,e1,p0,p1,p2,p3,hfz,hg,hgB⟩:=HQ.out.1.at_ n (by rw [HQ.out.2.1];exact hlt);rw [HQ.out.2.1] at e1;simp only [Value.slice.injEq,true_and] at e1;obtain ⟨rfl,rfl⟩:=e1;obtain ⟨⟨xa,xb,xc,xd⟩,hX⟩:∃ X,ms[n]'(by rw [HQ.out.2.1];exact hlt)=X:=⟨_,rfl⟩
   rw [hX] at p0 p1 p2 p3;simp only at p0 p1 p2 p3;have HXS:Hid (xa.size<=L):=by have:=HQ.out.2.2.1 _ (List.getElem_mem (show n < ms.length by rw [HQ.out.2.1];exact hlt));rw [hX] at this;exact this
   have HXX:=hide hX;clear hX;have x0:=HQ.out.2.2.2.1.c0;have x1:=HQ.out.2.2.2.1.c1;have x2:=HQ.out.2.2.2.1.c2;have x3:=HQ.out.2.2.2.1.c3;have x4:=HQ.out.2.2.2.1.c4;go_upto_region 10 with fail
   go_cut [50] from 30 to 65 (fun c wx=>(∃ r,c=.bool r)/\∃ k,wx=wr.drewN k)
   case first =>
    by_cases hx:xa=p
    ·subst hx;go_quiet (fail)
     exact cQ74
    ·have hx2:=zbm hx;have hx3:(xa.toList != p.toList)=true:=by simp [bne,hx2]
     go_quiet (fail)
     exact cQ74
   case rest =>
    obtain ⟨⟨r,rfl⟩,kk,rfl⟩:=hcut;have HBD:Hid (Below wr.heap.size wr (wr.drewN kk)):=below_drewN bR _;obtain ⟨W5,hW5⟩:∃ W5,wr.drewN kk=W5:=⟨_,rfl⟩
    rw [hW5] at HBD ⊢;have HQ5:Hid (NdO W5 (w.heap.size+1) (.slice (some ⟨g,0,none⟩) ns.length c1) ms/\AtC W5 w.heap.size 94 #[.int .i64 3,.string p,.string q,.int .i64 at_,.string tx]/\Below w.heap.size w W5):=⟨HQ.out.1.below HBD.out,HQ.out.2.2.2.1.over HBD.out,HQ.out.2.2.2.2.trans (HBD.out.mono HQ.out.2.2.2.2.size)⟩
    clear hW5 p0 p1 p2 p3 hfz x0 x1 x2 x3 x4
    cases r with
    | true =>
     exact cQ89
    | false =>
     obtain ⟨g',cap',e1,p0,p1,p2,p3,hfz,hg',-⟩:=HQ5.out.1.at_ n (by rw [HQ.out.2.1];exact hlt);rw [HQ.out.2.1] at e1;simp only [Value.slice.injEq,Option.some.injEq,Addr.mk.injEq,and_true,true_and] at e1;obtain ⟨rfl,rfl⟩:=e1;obtain ⟨v2,p2⟩:∃ v2,W5.cell? ⟨g,n * 4+2,none⟩=some v2:=⟨_,p2⟩
     obtain ⟨v3,p3⟩:∃ v3,W5.cell? ⟨g,n * 4+3,none⟩=some v3:=⟨_,p3⟩
     have f2:=hfz (n * 4+2);have f3:=hfz (n * 4+3);have x0:=HQ5.out.2.1.c0;have x1:=HQ5.out.2.1.c1;have x2:=HQ5.out.2.1.c2;have x3:=HQ5.out.2.1.c3;have x4:=HQ5.out.2.1.c4;have HST:Hid (∀ (i:Nat) (y:Nd),i < 4->0 < i->(ndRow (xa,xb,xc,xd)).set i (.string tx)=ndRow y->y.1=xa->∃ ms:List Nd,NdO (W5.setCell ⟨g,n * 4+i,none⟩ (.string tx)) (w.heap.size+1) (.slice (some ⟨g,0,none⟩) ns.length c1) ms/\ms.length=ns.length/\NdB L ms/\AtC (W5.setCell ⟨g,n * 4+i,none⟩ (.string tx)) w.heap.size 94 #[.int .i64 3,.string p,.string q,.int .i64 at_,.string tx]/\Below w.heap.size w (W5.setCell ⟨g,n * 4+i,none⟩ (.string tx))):=fun i y hi hi0 hy hy1=>by
      have hnl:n < ms.length:=by rw [HQ.out.2.1];exact hlt
      have hl:=HQ.out.2.1;have hg1:w.heap.size<=g:=by omega
      have ho:=HQ5.out.1;rw [← hl] at ho;have:=ho.cellSet n i hnl hi (.string tx) y (by rw [HXX.out];exact hy);rw [hl] at this;exact ⟨ms.set n y,this,by rw [List.length_set];exact hl,HQ.out.2.2.1.set n (by rw [hy1];exact HXS.out),HQ5.out.2.1.other (by omega) _,HQ5.out.2.2.setCell (p:=⟨g,n * 4+i,none⟩) hg1 _⟩
     clear hfz p0 p1;by_cases ha:at_=0
     ·subst ha;go_wp2;go_roundw
      case rel=>exact ⟨n+1,by omega,by go_num,HST.out 2 (xa,xb,tx,xd) (by decide) (by decide) rfl rfl⟩
      case measure=>simp [intOf];omega
     ·have hab:(at_ == 0)=false:=beq_eq_false_iff_ne.mpr ha;go_wp2;go_roundw
      case rel=>exact ⟨n+1,by omega,by go_num,HST.out 3 (xa,xb,xc,tx) (by decide) (by decide) rfl rfl⟩
      case measure=>simp [intOf];omega
 by_cases h4:kd=4
 ·subst h4;have HE:Hid (NdO (w1.alloc (.cells #[] 114)) w1.heap.size (.slice (some ⟨w1.heap.size,0,none⟩) 0 0) []/\Below w1.heap.size w1 (w1.alloc (.cells #[] 114))):=⟨NdO.lit0 w1,(Below.refl _ w1).alloc nR _⟩
  go_wp2_with fail
  go_loopw [7,8] (fun x7 i wr=>∃ (lv:Value) (l:List Nd) (n:Nat),lv=x7/\n<=ns.length/\i=.int .i64 n/\Hid (NdO wr w1.heap.size lv l/\Below w1.heap.size w1 wr/\l.length<=n/\NdB L l)) (fun _ i _=>ns.length - (intOf i).toNat)
  case atStart=>exact ⟨_,[],0,rfl,Nat.zero_le _,rfl,HE.out.1,HE.out.2,Nat.le_refl _,fun x hx=>by simp at hx⟩
  case round =>
   clear HE;obtain ⟨lv,l,n,hlv,hn,rfl,HR⟩:=hrel;subst hlv;by_cases hlt:n < ns.length
   rotate_left
   ·have n1:¬ ((n:Int) < (ns.length:Int)):=by omega
    go_wp2;go_ret;have zz:=HO2.out;have bb:=HR.out.2.1;exact ⟨ModR.mk _ l rfl (HR.out.1.mono (by omega)) (by have:=HR.out.2.2.1;omega) HR.out.2.2.2,HO1.out.2.2.trans (bb.mono (by omega))⟩
   have n1:(n:Int) < (ns.length:Int):=by omega
   have n2:n < 900:=by omega
   have n0:(0:Int)<=(n:Int):=by omega
   have HQO:Hid (∀ W,Below w1.heap.size w1 W->NdO W (w.heap.size+1) (.slice a1 ns.length c1) ns/\AtC W w.heap.size 94 #[.int .i64 4,.string p,.string q,.int .i64 at_,.string tx]):=fun W b=>⟨HO1.out.1.below b,HO1.out.2.1.over b⟩
   obtain ⟨g,cap,e1,p0,p1,p2,p3,-,hg,-⟩:=(HQO.out wr HR.out.2.1).1.at_ n hlt;simp only [Value.slice.injEq,true_and] at e1;obtain ⟨rfl,rfl⟩:=e1;obtain ⟨⟨xa,xb,xc,xd⟩,hX⟩:∃ X,ns[n]=X:=⟨_,rfl⟩
   rw [hX] at p0 p1 p2 p3;simp only at p0 p1 p2 p3;have HXS:Hid (xa.size<=L):=by have:=HNB.out _ (List.getElem_mem hlt);rw [hX] at this;exact this
   have hp6:p.size<=1048576:=by omega
   obtain ⟨r,CB⟩:=zjq xa p hp6;have HCB:=hide CB;clear hX CB;have x0:=(HQO.out wr HR.out.2.1).2.c0;have x1:=(HQO.out wr HR.out.2.1).2.c1;have x2:=(HQO.out wr HR.out.2.1).2.c2;have x3:=(HQO.out wr HR.out.2.1).2.c3;have x4:=(HQO.out wr HR.out.2.1).2.c4;go_upto_region 19 with fail
   go_cut [83] from 69 to 83 (fun c wx=>(∃ r,c=.bool r)/\∃ k,wx=wr.drewN k)
   case first =>
    go_quiet ((go_at_call 67;exact Calls.quiet_of_same (HCB.out _)))
    exact cQ74
   case rest =>
    obtain ⟨⟨r2,rfl⟩,kk,rfl⟩:=hcut;have HBD:Hid (Below wr.heap.size wr (wr.drewN kk)):=below_drewN bR _;obtain ⟨W5,hW5⟩:∃ W5,wr.drewN kk=W5:=⟨_,rfl⟩
    rw [hW5] at HBD ⊢;have HR5:Hid (NdO W5 w1.heap.size lv l/\Below w1.heap.size w1 W5/\l.length<=n/\NdB L l):=⟨HR.out.1.below HBD.out,HR.out.2.1.trans (HBD.out.mono HR.out.2.1.size),HR.out.2.2.1,HR.out.2.2.2⟩
    replace p0:=(HBD.out.cell (p:=⟨g,n * 4,none⟩) hg).trans p0
    replace p1:=(HBD.out.cell (p:=⟨g,n * 4+1,none⟩) hg).trans p1
    replace p2:=(HBD.out.cell (p:=⟨g,n * 4+2,none⟩) hg).trans p2
    replace p3:=(HBD.out.cell (p:=⟨g,n * 4+3,none⟩) hg).trans p3
    clear hW5 HR x0 x1 x2 x3 x4 HQO HCB HBD
    cases r2 with
    | false =>
     clear p0 p1 p2 p3;go_wp2;go_roundw
     case rel=>exact ⟨lv,l,n+1,rfl,by omega,by go_num,HR5.out.1,HR5.out.2.1,by have:=HR5.out.2.2.1;omega,HR5.out.2.2.2⟩
     case measure=>simp [intOf];omega
    | true =>
     have HT:Hid (NOwns (W5.alloc (.cells #[.string xa,.bool xb,.string xc,.string xd] 114)) 114 4 lv (l.map ndRow)):=(HR5.out.1.below ((Below.refl _ W5).alloc nR _)).1;have HK2:Hid (∀ (j:Nat) (u:Value),(ndRow (xa,xb,xc,xd))[j]?=some u->(W5.alloc (.cells #[.string xa,.bool xb,.string xc,.string xd] 114)).cell? ⟨W5.heap.size,j,none⟩=some u):=fun j u hj=>(AtC.new W5 114 #[.string xa,.bool xb,.string xc,.string xd]).at_ j u hj;have HTL:Hid ((l.map ndRow).length<=100000000000):=by have:=HR5.out.2.2.1;show _<=_;rw [List.length_map];omega
     have HOC:Hid (∀ u∈ndRow (xa,xb,xc,xd),u.oneCell'=true):=fun u hu=>by simp [ndRow] at hu;rcases hu with rfl | rfl | rfl | rfl<;>rfl
     go_wp2_with (at_builtin;refine wpList_step fun K' hK'=>?_;refine zap _ rfl (.tmp 84) (.tmp 89) 87 rfl 114 Tryz.u87 _ 4 56 Tryz.i114 rfl (by decide) (by decide) lv _ rfl HT.out W5.heap.size (ndRow (xa,xb,xc,xd)) rfl rfl HK2.out HOC.out HTL.out ?_;intro v12 w12 T12 G12 V12;refine hK' _ _ ?_;have HR12:=hide (And.intro T12 (And.intro G12 V12));clear T12 G12 V12 hK')
     have HRL:Hid (NdO w12 w1.heap.size v12 (l ++ [(xa,xb,xc,xd)])/\Below w1.heap.size w1 w12/\(l ++ [(xa,xb,xc,xd)]).length<=n+1/\NdB L (l ++ [(xa,xb,xc,xd)])):=by
      obtain ⟨T12,G12,V12⟩:=HR12.out;obtain ⟨k1,k2,k3,k4⟩:=HR5.out;have ba:=k2.alloc k2.size (.cells #[.string xa,.bool xb,.string xc,.string xd] 114);have n1:=k1.below ((Below.refl _ W5).alloc nR (.cells #[.string xa,.bool xb,.string xc,.string xd] 114));exact ⟨n1.app T12 V12 ba.size,ba.grown G12 ba.size (fun k hk=>k1.2 k hk),by simp;omega,k4.app HXS.out⟩
     go_roundw
     case rel=>exact ⟨v12,l ++ [(xa,xb,xc,xd)],n+1,rfl,by omega,by go_num,HRL.out⟩
     case measure=>simp [intOf];omega
 by_cases h5:kd=5
 ·subst h5;go_wp2_with fail
  go_loopw [9] (fun i wr=>∃ n:Nat,n<=ns.length/\i=.int .i64 n/\Hid (∃ ms:List Nd,NdO wr (w.heap.size+1) (.slice a1 ns.length c1) ms/\ms.length=ns.length/\NdB L ms/\AtC wr w.heap.size 94 #[.int .i64 5,.string p,.string q,.int .i64 at_,.string tx]/\Below w.heap.size w wr)) (fun i _=>ns.length - (intOf i).toNat)
  case atStart=>exact ⟨0,Nat.zero_le _,rfl,ns,HO1.out.1,rfl,HNB.out,HO1.out.2.1,HO1.out.2.2⟩
  case round =>
   obtain ⟨n,hn,rfl,HR⟩:=hrel;clear HO1;by_cases hlt:n < ns.length
   rotate_left
   ·have n1:¬ ((n:Int) < (ns.length:Int)):=by omega
    obtain ⟨ms,hms⟩:=HR.out;have HQ:=hide hms;have HML:Hid (ms.length<=1000):=by have:=hms.2.1;show _<=_;omega
    clear hms HR;go_wp2_with fail
    refine (zc9 _ _ ms wr HQ.out.1 HML.out).mono ?_;rintro e w6 ⟨v6,ns6,rfl,O6,hl6,hs6,B6⟩;have HO6:Hid (NdO w6 w.heap.size v6 ns6/\ns6.length<=ns.length+1/\NdB L ns6/\Below w.heap.size w w6):=⟨O6.mono HQ.out.2.2.2.2.size,by have:=HQ.out.2.1;omega,HQ.out.2.2.1.sub hs6,HQ.out.2.2.2.2.trans (B6.mono HQ.out.2.2.2.2.size)⟩
    clear O6 hl6 hs6 B6;go_wp2;go_ret;exact ⟨ModR.mk _ ns6 rfl HO6.out.1 HO6.out.2.1 HO6.out.2.2.1,HO6.out.2.2.2⟩
   have n1:(n:Int) < (ns.length:Int):=by omega
   have n2:n < 900:=by omega
   have n0:(0:Int)<=(n:Int):=by omega
   obtain ⟨ms,hms⟩:=HR.out;have HQ:=hide hms;clear hms HR;obtain ⟨g,cap,e1,p0,p1,p2,p3,hfz,hg,hgB⟩:=HQ.out.1.at_ n (by rw [HQ.out.2.1];exact hlt);rw [HQ.out.2.1] at e1;simp only [Value.slice.injEq,true_and] at e1;obtain ⟨rfl,rfl⟩:=e1;obtain ⟨⟨xa,xb,xc,xd⟩,hX⟩:∃ X,ms[n]'(by rw [HQ.out.2.1];exact hlt)=X:=⟨_,rfl⟩
   rw [hX] at p0 p1 p2 p3;simp only at p0 p1 p2 p3;have HXX:=hide hX;clear hX;have x0:=HQ.out.2.2.2.1.c0;have x1:=HQ.out.2.2.2.1.c1;have x2:=HQ.out.2.2.2.1.c2;have x3:=HQ.out.2.2.2.1.c3;have x4:=HQ.out.2.2.2.1.c4;go_upto_region 26 with fail
   go_cut [115] from 94 to 121 (fun c wx=>(∃ r,c=.bool r)/\∃ k,wx=wr.drewN k)
   case first =>
    by_cases hx:xa=p
    ·subst hx;go_quiet (fail)
     exact cQ74
    ·have hx2:=zbm hx;go_quiet (fail)
     exact cQ74
   case rest =>
    obtain ⟨⟨r,rfl⟩,kk,rfl⟩:=hcut;have HBD:Hid (Below wr.heap.size wr (wr.drewN kk)):=below_drewN bR _;obtain ⟨W5,hW5⟩:∃ W5,wr.drewN kk=W5:=⟨_,rfl⟩
    rw [hW5] at HBD ⊢;have HQ5:Hid (NdO W5 (w.heap.size+1) (.slice (some ⟨g,0,none⟩) ns.length c1) ms/\AtC W5 w.heap.size 94 #[.int .i64 5,.string p,.string q,.int .i64 at_,.string tx]/\Below w.heap.size w W5):=⟨HQ.out.1.below HBD.out,HQ.out.2.2.2.1.over HBD.out,HQ.out.2.2.2.2.trans (HBD.out.mono HQ.out.2.2.2.2.size)⟩
    clear hW5 p0 p1 p2 p3 hfz x0 x1 x2 x3 x4
    cases r with
    | false =>
     exact cQ89
    | true =>
     obtain ⟨g',cap',e1,p0,p1,p2,p3,hfz,hg',-⟩:=HQ5.out.1.at_ n (by rw [HQ.out.2.1];exact hlt);rw [HQ.out.2.1] at e1;simp only [Value.slice.injEq,Option.some.injEq,Addr.mk.injEq,and_true,true_and] at e1;obtain ⟨rfl,rfl⟩:=e1;obtain ⟨v0,p0⟩:∃ v0,W5.cell? ⟨g,n * 4,none⟩=some v0:=⟨_,p0⟩
     have f0:=hfz (n * 4);have x0:=HQ5.out.2.1.c0;have x1:=HQ5.out.2.1.c1;have x2:=HQ5.out.2.1.c2;have x3:=HQ5.out.2.1.c3;have x4:=HQ5.out.2.1.c4;have HST:Hid (∃ ms:List Nd,NdO (W5.setCell ⟨g,n * 4,none⟩ (.string q)) (w.heap.size+1) (.slice (some ⟨g,0,none⟩) ns.length c1) ms/\ms.length=ns.length/\NdB L ms/\AtC (W5.setCell ⟨g,n * 4,none⟩ (.string q)) w.heap.size 94 #[.int .i64 5,.string p,.string q,.int .i64 at_,.string tx]/\Below w.heap.size w (W5.setCell ⟨g,n * 4,none⟩ (.string q))):=by
      have hnl:n < ms.length:=by rw [HQ.out.2.1];exact hlt
      have hl:=HQ.out.2.1;have hg1:w.heap.size<=g:=by omega
      have ho:=HQ5.out.1;rw [← hl] at ho;have:=ho.cellSet n 0 hnl (by decide) (.string q) (q,xb,xc,xd) (by rw [HXX.out];rfl);rw [hl] at this;exact ⟨ms.set n (q,xb,xc,xd),this,by rw [List.length_set];exact hl,HQ.out.2.2.1.set n hq,HQ5.out.2.1.other (by omega) _,HQ5.out.2.2.setCell (p:=⟨g,n * 4,none⟩) hg1 _⟩
     clear hfz p1 p2 p3;go_wp2;go_roundw
     case rel=>exact ⟨n+1,by omega,by go_num,HST.out⟩
     case measure=>simp [intOf];omega
 by_cases h12:kd=1\/kd=2
 rotate_left
 ·have q1:(kd == 1)=false:=beq_eq_false_iff_ne.mpr (fun e=>h12 (.inl e));have q2:(kd == 2)=false:=beq_eq_false_iff_ne.mpr (fun e=>h12 (.inr e));have q3:(kd == 3)=false:=beq_eq_false_iff_ne.mpr h3;have q4:(kd == 4)=false:=beq_eq_false_iff_ne.mpr h4;have q5:(kd == 5)=false:=beq_eq_false_iff_ne.mpr h5;clear h12 h3 h4 h5;go_wp2;go_ret;exact ⟨ModR.mk _ ns rfl (HO1.out.1.mono (by omega)) (by omega) HNB.out,HO1.out.2.2⟩
 rcases h12 with rfl | rfl
 ·have HT:Hid (NOwns (w1.alloc (.cells #[.string p,.bool false,.string ⟨#[]⟩,.string ⟨#[]⟩] 114)) 114 4 (.slice a1 ns.length c1) (ns.map ndRow)):=(HO1.out.1.below ((Below.refl _ w1).alloc nR _)).1;have HK2:Hid (∀ (j:Nat) (u:Value),(ndRow ((p,false,⟨#[]⟩,⟨#[]⟩):Nd))[j]?=some u->(w1.alloc (.cells #[.string p,.bool false,.string ⟨#[]⟩,.string ⟨#[]⟩] 114)).cell? ⟨w1.heap.size,j,none⟩=some u):=fun j u hj=>(AtC.new w1 114 #[.string p,.bool false,.string ⟨#[]⟩,.string ⟨#[]⟩]).at_ j u hj;have HTL:Hid ((ns.map ndRow).length<=100000000000):=by show _<=_;rw [List.length_map];omega
  have HOC:Hid (∀ u∈ndRow ((p,false,⟨#[]⟩,⟨#[]⟩):Nd),u.oneCell'=true):=fun u hu=>by simp [ndRow] at hu;rcases hu with rfl | rfl | rfl<;>rfl
  have HMK:Hid (∀ v12 w12,NOwns w12 114 4 v12 (ns.map ndRow ++ [ndRow ((p,false,⟨#[]⟩,⟨#[]⟩):Nd)])->(w1.alloc (.cells #[.string p,.bool false,.string ⟨#[]⟩,.string ⟨#[]⟩] 114)).grownBy w12 (Value.slice a1 ns.length c1).ownBlock->(∀ k,v12.ownBlock=some k->(Value.slice a1 ns.length c1).ownBlock=some k\/(w1.alloc (.cells #[.string p,.bool false,.string ⟨#[]⟩,.string ⟨#[]⟩] 114)).heap.size<=k)->NdO w12 (w.heap.size+1) v12 (ns ++ [((p,false,⟨#[]⟩,⟨#[]⟩):Nd)])/\Below w.heap.size w w12):=fun v12 w12 T12 G12 V12=>by
   obtain ⟨k1,k2,k3⟩:=HO1.out;have ba:=k3.alloc k3.size (.cells #[.string p,.bool false,.string ⟨#[]⟩,.string ⟨#[]⟩] 114);have n1:=k1.below ((Below.refl _ w1).alloc nR (.cells #[.string p,.bool false,.string ⟨#[]⟩,.string ⟨#[]⟩] 114));exact ⟨n1.app T12 V12 (by simp;have:=HO2.out;omega),ba.grown G12 ba.size (fun k hk=>by have:=k1.2 k hk;omega)⟩
  have HML:Hid ((ns ++ [((p,false,⟨#[]⟩,⟨#[]⟩):Nd)]).length<=1000):=by show _<=_;simp;omega
  have x0:=HO1.out.2.1.c0;have x1:=HO1.out.2.1.c1;have x2:=HO1.out.2.1.c2;have x3:=HO1.out.2.1.c3;have x4:=HO1.out.2.1.c4;have HTAIL:Hid (∀ v6 ns6 w6 w12,NdO w6 w12.heap.size v6 ns6->ns6.length=(ns ++ [((p,false,⟨#[]⟩,⟨#[]⟩):Nd)]).length->SubN ns6 (ns ++ [((p,false,⟨#[]⟩,⟨#[]⟩):Nd)])->Below w12.heap.size w12 w6->Below w.heap.size w w12->(NdO w6 w.heap.size v6 ns6/\ns6.length<=ns.length+1/\NdB L ns6)/\Below w.heap.size w w6):=fun v6 ns6 w6 w12 O6 hl6 hs6 B6 b=>⟨⟨O6.mono b.size,by simp at hl6;omega,(HNB.out.app hp).sub hs6⟩,b.trans (B6.mono b.size)⟩
  clear h3 h4 h5;go_wp2_with (first | (at_builtin;refine wpList_step fun K' hK'=>?_;refine zap _ rfl (.tmp 18) (.tmp 25) 87 rfl 114 Tryz.u87 _ 4 56 Tryz.i114 rfl (by decide) (by decide) (.slice a1 ns.length c1) _ rfl HT.out w1.heap.size (ndRow ((p,false,⟨#[]⟩,⟨#[]⟩):Nd)) rfl rfl HK2.out HOC.out HTL.out ?_;intro v12 w12 T12 G12 V12;refine hK' _ _ ?_;have HR12:=hide (HMK.out v12 w12 T12 G12 V12);clear T12 G12 V12 hK') | (go_at_call 66;refine (zc9 _ _ (ns ++ [((p,false,⟨#[]⟩,⟨#[]⟩):Nd)]) w12 HR12.out.1 HML.out).mono ?_;rintro e w6 ⟨v6,ns6,rfl,O6,hl6,hs6,B6⟩;have HO6:=hide (HTAIL.out v6 ns6 w6 w12 O6 hl6 hs6 B6 HR12.out.2);clear O6 hl6 hs6 B6))
  go_ret;exact ⟨ModR.mk _ ns6 rfl HO6.out.1.1 HO6.out.1.2.1 HO6.out.1.2.2,HO6.out.2⟩
 ·have HT:Hid (NOwns (w1.alloc (.cells #[.string p,.bool true,.string ⟨#[]⟩,.string ⟨#[]⟩] 114)) 114 4 (.slice a1 ns.length c1) (ns.map ndRow)):=(HO1.out.1.below ((Below.refl _ w1).alloc nR _)).1;have HK2:Hid (∀ (j:Nat) (u:Value),(ndRow ((p,true,⟨#[]⟩,⟨#[]⟩):Nd))[j]?=some u->(w1.alloc (.cells #[.string p,.bool true,.string ⟨#[]⟩,.string ⟨#[]⟩] 114)).cell? ⟨w1.heap.size,j,none⟩=some u):=fun j u hj=>(AtC.new w1 114 #[.string p,.bool true,.string ⟨#[]⟩,.string ⟨#[]⟩]).at_ j u hj;have HTL:Hid ((ns.map ndRow).length<=100000000000):=by show _<=_;rw [List.length_map];omega
  have HOC:Hid (∀ u∈ndRow ((p,true,⟨#[]⟩,⟨#[]⟩):Nd),u.oneCell'=true):=fun u hu=>by simp [ndRow] at hu;rcases hu with rfl | rfl | rfl<;>rfl
  have HMK:Hid (∀ v12 w12,NOwns w12 114 4 v12 (ns.map ndRow ++ [ndRow ((p,true,⟨#[]⟩,⟨#[]⟩):Nd)])->(w1.alloc (.cells #[.string p,.bool true,.string ⟨#[]⟩,.string ⟨#[]⟩] 114)).grownBy w12 (Value.slice a1 ns.length c1).ownBlock->(∀ k,v12.ownBlock=some k->(Value.slice a1 ns.length c1).ownBlock=some k\/(w1.alloc (.cells #[.string p,.bool true,.string ⟨#[]⟩,.string ⟨#[]⟩] 114)).heap.size<=k)->NdO w12 (w.heap.size+1) v12 (ns ++ [((p,true,⟨#[]⟩,⟨#[]⟩):Nd)])/\Below w.heap.size w w12):=fun v12 w12 T12 G12 V12=>by
   obtain ⟨k1,k2,k3⟩:=HO1.out;have ba:=k3.alloc k3.size (.cells #[.string p,.bool true,.string ⟨#[]⟩,.string ⟨#[]⟩] 114);have n1:=k1.below ((Below.refl _ w1).alloc nR (.cells #[.string p,.bool true,.string ⟨#[]⟩,.string ⟨#[]⟩] 114));exact ⟨n1.app T12 V12 (by simp;have:=HO2.out;omega),ba.grown G12 ba.size (fun k hk=>by have:=k1.2 k hk;omega)⟩
  have HML:Hid ((ns ++ [((p,true,⟨#[]⟩,⟨#[]⟩):Nd)]).length<=1000):=by show _<=_;simp;omega
  have x0:=HO1.out.2.1.c0;have x1:=HO1.out.2.1.c1;have x2:=HO1.out.2.1.c2;have x3:=HO1.out.2.1.c3;have x4:=HO1.out.2.1.c4;have HTAIL:Hid (∀ v6 ns6 w6 w12,NdO w6 w12.heap.size v6 ns6->ns6.length=(ns ++ [((p,true,⟨#[]⟩,⟨#[]⟩):Nd)]).length->SubN ns6 (ns ++ [((p,true,⟨#[]⟩,⟨#[]⟩):Nd)])->Below w12.heap.size w12 w6->Below w.heap.size w w12->(NdO w6 w.heap.size v6 ns6/\ns6.length<=ns.length+1/\NdB L ns6)/\Below w.heap.size w w6):=fun v6 ns6 w6 w12 O6 hl6 hs6 B6 b=>⟨⟨O6.mono b.size,by simp at hl6;omega,(HNB.out.app hp).sub hs6⟩,b.trans (B6.mono b.size)⟩
  clear h3 h4 h5;go_wp2_with (first | (at_builtin;refine wpList_step fun K' hK'=>?_;refine zap _ rfl (.tmp 18) (.tmp 25) 87 rfl 114 Tryz.u87 _ 4 56 Tryz.i114 rfl (by decide) (by decide) (.slice a1 ns.length c1) _ rfl HT.out w1.heap.size (ndRow ((p,true,⟨#[]⟩,⟨#[]⟩):Nd)) rfl rfl HK2.out HOC.out HTL.out ?_;intro v12 w12 T12 G12 V12;refine hK' _ _ ?_;have HR12:=hide (HMK.out v12 w12 T12 G12 V12);clear T12 G12 V12 hK') | (go_at_call 66;refine (zc9 _ _ (ns ++ [((p,true,⟨#[]⟩,⟨#[]⟩):Nd)]) w12 HR12.out.1 HML.out).mono ?_;rintro e w6 ⟨v6,ns6,rfl,O6,hl6,hs6,B6⟩;have HO6:=hide (HTAIL.out v6 ns6 w6 w12 O6 hl6 hs6 B6 HR12.out.2);clear O6 hl6 hs6 B6))
  go_ret;exact ⟨ModR.mk _ ns6 rfl HO6.out.1.1 HO6.out.1.2.1 HO6.out.1.2.2,HO6.out.2⟩
def CallT (B:Nat) (w':World) (e:Ending):Prop:=∃ (z1:Option Addr) (y1:Nat) (z2:Option Addr) (y2:Nat) (z3:Option Addr) (y3:Nat) (z4:Option Addr) (y4:Nat) (z5:Option Addr) (y5:Nat) (z6:Option Addr) (y6:Nat) (m':MD) (c:Int) (r:Bool),e=.returned (.tuple #[.agg #[.slice z1 m'.xs.length y1,.slice z2 m'.ys.length y2,.slice z3 m'.is.length y3,.slice z4 m'.bs.length y4,.slice z5 m'.fs.length y5,.slice z6 m'.ds.length y6,.int .i64 m'.nx],.int .i64 c,.bool r])/\(r=true->MO w' (fun k=>B<=k) (.slice z1 m'.xs.length y1) (.slice z2 m'.ys.length y2) (.slice z3 m'.is.length y3) (.slice z4 m'.bs.length y4) (.slice z5 m'.fs.length y5) (.slice z6 m'.ds.length y6) m'/\Sh Z0 m')
theorem call_any (u v iv bv dv pv:Value)(m:MD)(kd:Int)(p q:ByteArray)(at_:Int)(tx:ByteArray)(w:World)(h:MR w u v iv bv dv pv m)(hm:Sh Z0 m)(hp:p.size<=1048576)(hq:q.size<=1048576)(ht:tx.size<=1048576) :
  Calls Tryz.prog 46 #[.agg #[u,v,iv,bv,dv,pv,.int .i64 m.nx],.agg #[.int .i64 kd,.string p,.string q,.int .i64 at_,.string tx]] w fun e w'=>CallT w.heap.size w' e/\Below w.heap.size w w':=by
 obtain ⟨a1,c1,a2,c2,a3,c3,a4,c4,a5,c5,a6,c6,rfl,rfl,rfl,rfl,rfl,rfl⟩:=h.form;obtain ⟨W0,hW0⟩:∃ W0,(((w.alloc (.cells #[.slice a1 m.xs.length c1,.slice a2 m.ys.length c2,.slice a3 m.is.length c3,.slice a4 m.bs.length c4,.slice a5 m.fs.length c5,.slice a6 m.ds.length c6,.int .i64 m.nx] 33)).alloc (.cells #[.int .i64 kd,.string p,.string q,.int .i64 at_,.string tx] 94)).alloc (.cells #[.slice none 0 0,.slice none 0 0,.slice none 0 0,.slice none 0 0,.slice none 0 0,.slice none 0 0,.int .i64 0] 33))=W0:=⟨_,rfl⟩
 have HC:Hid (∀ W,Below W0.heap.size W0 W->AtC W w.heap.size 33 #[.slice a1 m.xs.length c1,.slice a2 m.ys.length c2,.slice a3 m.is.length c3,.slice a4 m.bs.length c4,.slice a5 m.fs.length c5,.slice a6 m.ds.length c6,.int .i64 m.nx]/\AtC W (w.heap.size+1) 94 #[.int .i64 kd,.string p,.string q,.int .i64 at_,.string tx]/\AtC W (w.heap.size+1+1) 33 #[.slice none 0 0,.slice none 0 0,.slice none 0 0,.slice none 0 0,.slice none 0 0,.slice none 0 0,.int .i64 0]/\Below w.heap.size w W/\w.heap.size+1+1 < W.heap.size):=fun W b=>by
  rw [← hW0] at b;have z:=b.size;simp at z;have k1:AtC (((w.alloc (.cells #[.slice a1 m.xs.length c1,.slice a2 m.ys.length c2,.slice a3 m.is.length c3,.slice a4 m.bs.length c4,.slice a5 m.fs.length c5,.slice a6 m.ds.length c6,.int .i64 m.nx] 33)).alloc (.cells #[.int .i64 kd,.string p,.string q,.int .i64 at_,.string tx] 94)).alloc (.cells #[.slice none 0 0,.slice none 0 0,.slice none 0 0,.slice none 0 0,.slice none 0 0,.slice none 0 0,.int .i64 0] 33)) w.heap.size 33 #[.slice a1 m.xs.length c1,.slice a2 m.ys.length c2,.slice a3 m.is.length c3,.slice a4 m.bs.length c4,.slice a5 m.fs.length c5,.slice a6 m.ds.length c6,.int .i64 m.nx]:=((AtC.new w 33 #[.slice a1 m.xs.length c1,.slice a2 m.ys.length c2,.slice a3 m.is.length c3,.slice a4 m.bs.length c4,.slice a5 m.fs.length c5,.slice a6 m.ds.length c6,.int .i64 m.nx]).alloc _).alloc _;have k2:=(AtC.new (w.alloc (.cells #[.slice a1 m.xs.length c1,.slice a2 m.ys.length c2,.slice a3 m.is.length c3,.slice a4 m.bs.length c4,.slice a5 m.fs.length c5,.slice a6 m.ds.length c6,.int .i64 m.nx] 33)) 94 #[.int .i64 kd,.string p,.string q,.int .i64 at_,.string tx]).alloc (.cells #[.slice none 0 0,.slice none 0 0,.slice none 0 0,.slice none 0 0,.slice none 0 0,.slice none 0 0,.int .i64 0] 33);have k3:=AtC.new ((w.alloc (.cells #[.slice a1 m.xs.length c1,.slice a2 m.ys.length c2,.slice a3 m.is.length c3,.slice a4 m.bs.length c4,.slice a5 m.fs.length c5,.slice a6 m.ds.length c6,.int .i64 m.nx] 33)).alloc (.cells #[.int .i64 kd,.string p,.string q,.int .i64 at_,.string tx] 94)) 33 #[.slice none 0 0,.slice none 0 0,.slice none 0 0,.slice none 0 0,.slice none 0 0,.slice none 0 0,.int .i64 0];have e2:(w.alloc (.cells #[.slice a1 m.xs.length c1,.slice a2 m.ys.length c2,.slice a3 m.is.length c3,.slice a4 m.bs.length c4,.slice a5 m.fs.length c5,.slice a6 m.ds.length c6,.int .i64 m.nx] 33)).heap.size=w.heap.size+1:=by simp
  have e3:((w.alloc (.cells #[.slice a1 m.xs.length c1,.slice a2 m.ys.length c2,.slice a3 m.is.length c3,.slice a4 m.bs.length c4,.slice a5 m.fs.length c5,.slice a6 m.ds.length c6,.int .i64 m.nx] 33)).alloc (.cells #[.int .i64 kd,.string p,.string q,.int .i64 at_,.string tx] 94)).heap.size=w.heap.size+1+1:=by simp
  rw [e2] at k2;rw [e3] at k3;have b0:Below w.heap.size w (((w.alloc (.cells #[.slice a1 m.xs.length c1,.slice a2 m.ys.length c2,.slice a3 m.is.length c3,.slice a4 m.bs.length c4,.slice a5 m.fs.length c5,.slice a6 m.ds.length c6,.int .i64 m.nx] 33)).alloc (.cells #[.int .i64 kd,.string p,.string q,.int .i64 at_,.string tx] 94)).alloc (.cells #[.slice none 0 0,.slice none 0 0,.slice none 0 0,.slice none 0 0,.slice none 0 0,.slice none 0 0,.int .i64 0] 33)):=(((Below.refl _ w).alloc nR _).alloc (by simp) _).alloc (by simp;omega) _;exact ⟨k1.over b,k2.over b,k3.over b,b0.trans (b.mono b0.size),by omega⟩
 have HB0:Hid (Below W0.heap.size W0 W0):=Below.refl _ _;have HM0:Hid (MR W0 (.slice a1 m.xs.length c1) (.slice a2 m.ys.length c2) (.slice a3 m.is.length c3) (.slice a4 m.bs.length c4) (.slice a5 m.fs.length c5) (.slice a6 m.ds.length c6) m):=h.below (HC.out W0 HB0.out).2.2.2.1 nR;have HM:=hide hm;obtain ⟨x0,x1,x2,x3,x4,x5,x6⟩:=AtC.sev ((HC.out W0 HB0.out).1);have e0:=(HC.out W0 HB0.out).2.1.c0;have e1:=(HC.out W0 HB0.out).2.1.c1;have e2:=(HC.out W0 HB0.out).2.1.c2;have e3:=(HC.out W0 HB0.out).2.1.c3;have e4:=(HC.out W0 HB0.out).2.1.c4;clear h hm;go_enter Tryz.func46,Tryz.ntmps46
 by_cases h1:kd=1
 ·subst h1;go_wp2_with fail
  refine (zdj _ _ _ _ _ _ m p 1 W0 HM0.out HM.out hp).mono ?_;rintro e w1 ⟨⟨u1,u2,u3,u4,u5,u6,m1,cc,rfl,O1,S1⟩,B1⟩;obtain ⟨s1,t1,s2,t2,s3,t3,s4,t4,s5,t5,s6,t6,rfl,rfl,rfl,rfl,rfl,rfl⟩:=O1.mr.form;obtain ⟨W2,hW2⟩:∃ W2,w1.alloc (.cells #[.slice s1 m1.xs.length t1,.slice s2 m1.ys.length t2,.slice s3 m1.is.length t3,.slice s4 m1.bs.length t4,.slice s5 m1.fs.length t5,.slice s6 m1.ds.length t6,.int .i64 m1.nx] 33)=W2:=⟨_,rfl⟩
  exact cQ1
 by_cases h2:kd=2
 ·subst h2;go_wp2_with fail
  refine (zdj _ _ _ _ _ _ m p 2 W0 HM0.out HM.out hp).mono ?_;rintro e w1 ⟨⟨u1,u2,u3,u4,u5,u6,m1,cc,rfl,O1,S1⟩,B1⟩;obtain ⟨s1,t1,s2,t2,s3,t3,s4,t4,s5,t5,s6,t6,rfl,rfl,rfl,rfl,rfl,rfl⟩:=O1.mr.form;obtain ⟨W2,hW2⟩:∃ W2,w1.alloc (.cells #[.slice s1 m1.xs.length t1,.slice s2 m1.ys.length t2,.slice s3 m1.is.length t3,.slice s4 m1.bs.length t4,.slice s5 m1.fs.length t5,.slice s6 m1.ds.length t6,.int .i64 m1.nx] 33)=W2:=⟨_,rfl⟩
  exact cQ1
 by_cases h3:kd=3
 ·subst h3;go_wp2_with fail
  refine (ze7 _ _ _ _ _ _ m p at_ tx W0 HM0.out HM.out hp ht).mono ?_;rintro e w1 ⟨⟨u1,u2,u3,u4,u5,u6,m1,cc,rfl,O1,S1⟩,B1⟩;obtain ⟨s1,t1,s2,t2,s3,t3,s4,t4,s5,t5,s6,t6,rfl,rfl,rfl,rfl,rfl,rfl⟩:=O1.mr.form;obtain ⟨W2,hW2⟩:∃ W2,w1.alloc (.cells #[.slice s1 m1.xs.length t1,.slice s2 m1.ys.length t2,.slice s3 m1.is.length t3,.slice s4 m1.bs.length t4,.slice s5 m1.fs.length t5,.slice s6 m1.ds.length t6,.int .i64 m1.nx] 33)=W2:=⟨_,rfl⟩
  exact cQ1
 by_cases h4:kd=4
 ·subst h4;go_wp2_with fail
  refine (zh8 _ _ _ _ _ _ m p W0 HM0.out HM.out hp).mono ?_;rintro e w1 ⟨⟨u1,u2,u3,u4,u5,u6,m1,cc,rfl,O1,S1⟩,B1⟩;obtain ⟨s1,t1,s2,t2,s3,t3,s4,t4,s5,t5,s6,t6,rfl,rfl,rfl,rfl,rfl,rfl⟩:=O1.mr.form;obtain ⟨W2,hW2⟩:∃ W2,w1.alloc (.cells #[.slice s1 m1.xs.length t1,.slice s2 m1.ys.length t2,.slice s3 m1.is.length t3,.slice s4 m1.bs.length t4,.slice s5 m1.fs.length t5,.slice s6 m1.ds.length t6,.int .i64 m1.nx] 33)=W2:=⟨_,rfl⟩
  exact cQ1
 by_cases h5:kd=5
 ·subst h5;go_wp2_with fail
  refine (move_any _ _ _ _ _ _ m p q W0 HM0.out HM.out hp hq).mono ?_;rintro e w1 ⟨⟨u1,u2,u3,u4,u5,u6,m1,cc,rfl,O1,S1⟩,B1⟩;obtain ⟨s1,t1,s2,t2,s3,t3,s4,t4,s5,t5,s6,t6,rfl,rfl,rfl,rfl,rfl,rfl⟩:=O1.mr.form;obtain ⟨W2,hW2⟩:∃ W2,w1.alloc (.cells #[.slice s1 m1.xs.length t1,.slice s2 m1.ys.length t2,.slice s3 m1.is.length t3,.slice s4 m1.bs.length t4,.slice s5 m1.fs.length t5,.slice s6 m1.ds.length t6,.int .i64 m1.nx] 33)=W2:=⟨_,rfl⟩
  exact cQ1
 have q1:(kd == 1)=false:=beq_eq_false_iff_ne.mpr h1;have q2:(kd == 2)=false:=beq_eq_false_iff_ne.mpr h2;have q3:(kd == 3)=false:=beq_eq_false_iff_ne.mpr h3;have q4:(kd == 4)=false:=beq_eq_false_iff_ne.mpr h4;have q5:(kd == 5)=false:=beq_eq_false_iff_ne.mpr h5;obtain ⟨r0,r1,r2,r3,r4,r5,r6⟩:=AtC.sev ((HC.out W0 HB0.out).2.2.1);have v0:=(HC.out W0 HB0.out).2.2.1.frozen 0;have v1:=(HC.out W0 HB0.out).2.2.1.frozen 1;have v2:=(HC.out W0 HB0.out).2.2.1.frozen 2;have v3:=(HC.out W0 HB0.out).2.2.1.frozen 3;have v4:=(HC.out W0 HB0.out).2.2.1.frozen 4;have v5:=(HC.out W0 HB0.out).2.2.1.frozen 5;have v6:=(HC.out W0 HB0.out).2.2.1.frozen 6;go_wp2;refine bodyPost_ret (v:=.tuple #[.agg #[.slice a1 m.xs.length c1,.slice a2 m.ys.length c2,.slice a3 m.is.length c3,.slice a4 m.bs.length c4,.slice a5 m.fs.length c5,.slice a6 m.ds.length c6,.int .i64 m.nx],.int .i64 0,.bool false]) (by simp [results,go_sem,r0,r1,r2,r3,r4,r5,r6]) rfl ⟨⟨_,_,_,_,_,_,_,_,_,_,_,_,m,_,_,rfl,fun e=>by simp at e⟩,zab (HC.out W0 HB0.out).2.2.2.1 (by omega) _ _ _ _ _ _ _⟩
namespace Kit
structure Wp (w:World) (B b n:Nat) (a1 a2 a3 a4 a5 a6 ta ma ka pa:Option Addr) (c1 c2 c3 c4 c5 c6 tc mc kc pl pc:Nat) (m:MD) (ts:List ByteArray) (ns:List Nd) (cs:List Int):Prop where
 mo:MO w (fun k=>B<=k/\k≠b) (.slice a1 m.xs.length c1) (.slice a2 m.ys.length c2) (.slice a3 m.is.length c3) (.slice a4 m.bs.length c4) (.slice a5 m.fs.length c5) (.slice a6 m.ds.length c6) m
 sh:Sh Z0 m
 dv:ROwns w B 9 (.slice ta ts.length tc) (stc ts)
 dn:∀ k,(Value.slice ta ts.length tc).ownBlock=some k->k≠b
 dk:DvOk ts
 nd:NdO w B (.slice ma ns.length mc) ns
 nn:∀ k,(Value.slice ma ns.length mc).ownBlock=some k->k≠b
 nl:ns.length<=n
 nb:NdB (8 * n) ns
 co:ROwns w B 3 (.slice ka cs.length kc) (ic cs)
 cn:∀ k,(Value.slice ka cs.length kc).ownBlock=some k->k≠b
 cl:cs.length<=n
namespace Wp
variable {w w' : World} {B b n : Nat} {a1 a2 a3 a4 a5 a6 ta ma ka pa : Option Addr} {c1 c2 c3 c4 c5 c6 tc mc kc pl pc : Nat} {m : MD} {ts : List ByteArray} {ns : List Nd} {cs : List Int}
theorem of_heap (h:Wp w B b n a1 a2 a3 a4 a5 a6 ta ma ka pa c1 c2 c3 c4 c5 c6 tc mc kc pl pc m ts ns cs)(hh:∀ k,k < w.heap.size->k≠b->w'.heap[k]?=w.heap[k]?):Wp w' B b n a1 a2 a3 a4 a5 a6 ta ma ka pa c1 c2 c3 c4 c5 c6 tc mc kc pl pc m ts ns cs :=
 ⟨h.mo.bound.of_heap (fun k hk _=>hh k hk.2 hk.1.2) |>.mono (fun _ hk=>hk.1),h.sh,h.dv.of_heap (fun k hk=>hh k (h.dv.lt k hk).2 (h.dn k hk)),h.dn,h.dk,h.nd.of_heap (fun k hk=>hh k (h.nd.lt k hk).2 (h.nn k hk)),h.nn,h.nl,h.nb,h.co.of_heap (fun k hk=>hh k (h.co.lt k hk).2 (h.cn k hk)),h.cn,h.cl⟩
theorem below (h:Wp w B b n a1 a2 a3 a4 a5 a6 ta ma ka pa c1 c2 c3 c4 c5 c6 tc mc kc pl pc m ts ns cs)(hb:Below w.heap.size w w'):Wp w' B b n a1 a2 a3 a4 a5 a6 ta ma ka pa c1 c2 c3 c4 c5 c6 tc mc kc pl pc m ts ns cs:=h.of_heap (fun k hk _=>hb.block k hk)
theorem grown (h:Wp w B b n a1 a2 a3 a4 a5 a6 ta ma ka pa c1 c2 c3 c4 c5 c6 tc mc kc pl pc m ts ns cs)(hg:w.grownBy w' (some b)):Wp w' B b n a1 a2 a3 a4 a5 a6 ta ma ka pa c1 c2 c3 c4 c5 c6 tc mc kc pl pc m ts ns cs:=h.of_heap (fun k hk hn=>hg.block k hk (by simpa using hn))
theorem more {n':Nat}(h:Wp w B b n a1 a2 a3 a4 a5 a6 ta ma ka pa c1 c2 c3 c4 c5 c6 tc mc kc pl pc m ts ns cs)(hn:n<=n'):Wp w B b n' a1 a2 a3 a4 a5 a6 ta ma ka pa c1 c2 c3 c4 c5 c6 tc mc kc pl pc m ts ns cs:=⟨h.mo,h.sh,h.dv,h.dn,h.dk,h.nd,h.nn,Nat.le_trans h.nl hn,h.nb.mono (by omega),h.co,h.cn,Nat.le_trans h.cl hn⟩
end Wp
def WB (w:World) (B b n:Nat):Prop:=∃ (a1 a2 a3 a4 a5 a6 ta ma ka pa:Option Addr) (c1 c2 c3 c4 c5 c6 tc mc kc pl pc:Nat) (m:MD) (ts:List ByteArray) (ns:List Nd) (cs:List Int),AtC w b 89 #[.slice a1 m.xs.length c1,.slice a2 m.ys.length c2,.slice a3 m.is.length c3,.slice a4 m.bs.length c4,.slice a5 m.fs.length c5,.slice a6 m.ds.length c6,.int .i64 m.nx,.slice ta ts.length tc,.slice ma ns.length mc,.slice ka cs.length kc,.slice pa pl pc]/\Wp w B b n a1 a2 a3 a4 a5 a6 ta ma ka pa c1 c2 c3 c4 c5 c6 tc mc kc pl pc m ts ns cs/\B<=b
theorem WB.below {w w':World}{B b n:Nat}(h:WB w B b n)(hb:Below w.heap.size w w'):WB w' B b n:=by
 obtain ⟨a1,a2,a3,a4,a5,a6,ta,ma,ka,pa,c1,c2,c3,c4,c5,c6,tc,mc,kc,pl,pc,m,ts,ns,cs,h1,h2,h3⟩:=h;exact ⟨a1,a2,a3,a4,a5,a6,ta,ma,ka,pa,c1,c2,c3,c4,c5,c6,tc,mc,kc,pl,pc,m,ts,ns,cs,h1.over hb,h2.below hb,h3⟩
theorem zan {w w':World}{b i:Nat}{x:Value}(h:w.grownBy w' (some b)):w.grownBy (w'.setCell ⟨b,i,none⟩ x) (some b) :=
 ⟨h.os,h.tape,h.output,Nat.le_trans h.size (by simp),fun k hk hn=>(heap_setCell_other w' ⟨b,i,none⟩ k _ (fun e=>hn (by simp [e]))).trans (h.block k hk hn)⟩
theorem zbd (w:World)(row:Option Nat):w.grownBy w row:=⟨rfl,rfl,rfl,Nat.le_refl _,fun _ _ _=>rfl⟩
end Kit
end Go.Proofs.YtmbimpmebfoglaaGreat
