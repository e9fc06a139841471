/- Texts. -/
import Derived.Test.YtgnplpmgkegcnaaGreatW19
set_option maxRecDepth 100000
set_option maxHeartbeats 12800000
namespace Go.Proofs.YtgnplpmgkegcnaaGreat
open Go.RowKit Kit
def CallT(B:Nat)(w':Wd)(e:Ending):Prop:=∃(z1:OA)(y1:Nat)(z2:OA)(y2:Nat)(z3:OA)(y3:Nat)(z4:OA)(y4:Nat)(z5:OA)(y5:Nat)(z6:OA)(y6:Nat)(m':MD)(c:Int)(r:Bool),e=.returned (.tuple #[.agg (M7 m' z1 y1 z2 y2 z3 y3 z4 y4 z5 y5 z6 y6),nI c,.bool r])/\(r=true->N7 w' (fun k=>B<=k) m' z1 y1 z2 y2 z3 y3 z4 y4 z5 y5 z6 y6/\Sh Z0 m')
theorem call_any(u v iv bv dv pv:Va)(m:MD)(kd:Int)(p q:BA)(at_:Int)(tx:BA)(w:Wd)(h:MR w u v iv bv dv pv m)(hm:Sh Z0 m)(hp:p.size<=1048576)(hq:q.size<=1048576)(ht:tx.size<=1048576):
  Calls Tryz.prog 142 #[.agg #[u,v,iv,bv,dv,pv,nI m.nx],.agg #[nI kd,.string p,.string q,nI at_,.string tx]] w fun e w'=>CallT w.1.size w' e/\Bw w w':=by
 obtain⟨a1,c1,a2,c2,a3,c3,a4,c4,a5,c5,a6,c6,rfl,rfl,rfl,rfl,rfl,rfl⟩:=h.form;obtain⟨W0,aC⟩:∃W0,(((w.alloc (.cells (M7 m a1 c1 a2 c2 a3 c3 a4 c4 a5 c5 a6 c6) 33)).alloc (.cells #[nI kd,.string p,.string q,nI at_,.string tx] 158)).alloc (.cells E7 33))=W0:=⟨_,rfl⟩
 have HC:Hid (∀W,Bw W0 W->AtC W w.1.size 33 (M7 m a1 c1 a2 c2 a3 c3 a4 c4 a5 c5 a6 c6)/\AtC W (w.1.size+1) 158 #[nI kd,.string p,.string q,nI at_,.string tx]/\AtC W (w.1.size+1+1) 33 E7/\Bw w W/\w.1.size+1+1<W.1.size):=fun W b=>by
  rw[←aC]at b;have z:=b.size;simp at z;have k1:AtC (((w.n (M7 m a1 c1 a2 c2 a3 c3 a4 c4 a5 c5 a6 c6) 33).n #[nI kd,.string p,.string q,nI at_,.string tx] 158).n E7 33) w.1.size 33 (M7 m a1 c1 a2 c2 a3 c3 a4 c4 a5 c5 a6 c6):=((AtC.new w 33 (M7 m a1 c1 a2 c2 a3 c3 a4 c4 a5 c5 a6 c6)).alloc _).alloc _;have k2:=(AtC.new (w.alloc (.cells (M7 m a1 c1 a2 c2 a3 c3 a4 c4 a5 c5 a6 c6) 33)) 158 #[nI kd,.string p,.string q,nI at_,.string tx]).alloc (.cells E7 33);have k3:=AtC.new ((w.alloc (.cells (M7 m a1 c1 a2 c2 a3 c3 a4 c4 a5 c5 a6 c6) 33)).alloc (.cells #[nI kd,.string p,.string q,nI at_,.string tx] 158)) 33 E7;have e2:(w.n (M7 m a1 c1 a2 c2 a3 c3 a4 c4 a5 c5 a6 c6) 33).1.size=w.1.size+1:=sI
  have e3:((w.n (M7 m a1 c1 a2 c2 a3 c3 a4 c4 a5 c5 a6 c6) 33).n #[nI kd,.string p,.string q,nI at_,.string tx] 158).1.size=w.1.size+1+1:=sI
  rw[e2]at k2;rw[e3]at k3;have b0:Bw w (((w.n (M7 m a1 c1 a2 c2 a3 c3 a4 c4 a5 c5 a6 c6) 33).n #[nI kd,.string p,.string q,nI at_,.string tx] 158).n E7 33):=(((bF _ w).alloc nR _).alloc sI _).alloc sO _;exact⟨k1.over b,k2.over b,k3.over b,b0.trans (b.mono b0.size),oM⟩
 have HB0:Hid (Bw W0 W0):=bF _ _;have aB:Hid (R7 W0 m a1 c1 a2 c2 a3 c3 a4 c4 a5 c5 a6 c6):=h.below (HC.o W0 HB0.o).2.2.2.1 nR;have HM:=hJ hm;obtain⟨x0,x1,x2,x3,x4,x5,x6⟩:=AtC.sev ((HC.o W0 HB0.o).1);obtain⟨e0,e1,e2,e3,e4⟩:=(HC.o W0 HB0.o).2.1.k5;clear h hm;go_enter Tryz.func142,Tryz.ntmps142
 by_cases h1:kd=1
 ·subst h1;go_wp2_with fail
  refine(zep _ _ _ _ _ _ m p 1 W0 aB.o HM.o hp).mono ?_;rintro e w1 ⟨⟨u1,u2,u3,u4,u5,u6,m1,cc,rfl,O1,S1⟩,B1⟩;obtain⟨s1,t1,s2,t2,s3,t3,s4,t4,s5,t5,s6,t6,rfl,rfl,rfl,rfl,rfl,rfl⟩:=O1.mr.form;obtain⟨W2,hW2⟩:∃W2,w1.alloc (.cells (M7 m1 s1 t1 s2 t2 s3 t3 s4 t4 s5 t5 s6 t6) 33)=W2:=⟨_,rfl⟩
  exact cQ0
 by_cases h2:kd=2
 ·subst h2;go_wp2_with fail
  refine(zep _ _ _ _ _ _ m p 2 W0 aB.o HM.o hp).mono ?_;rintro e w1 ⟨⟨u1,u2,u3,u4,u5,u6,m1,cc,rfl,O1,S1⟩,B1⟩;obtain⟨s1,t1,s2,t2,s3,t3,s4,t4,s5,t5,s6,t6,rfl,rfl,rfl,rfl,rfl,rfl⟩:=O1.mr.form;obtain⟨W2,hW2⟩:∃W2,w1.alloc (.cells (M7 m1 s1 t1 s2 t2 s3 t3 s4 t4 s5 t5 s6 t6) 33)=W2:=⟨_,rfl⟩
  exact cQ0
 by_cases h3:kd=3
 ·subst h3;go_wp2_with fail
  refine(zg7 _ _ _ _ _ _ m p at_ tx W0 aB.o HM.o hp ht).mono ?_;rintro e w1 ⟨⟨u1,u2,u3,u4,u5,u6,m1,cc,rfl,O1,S1⟩,B1⟩;obtain⟨s1,t1,s2,t2,s3,t3,s4,t4,s5,t5,s6,t6,rfl,rfl,rfl,rfl,rfl,rfl⟩:=O1.mr.form;obtain⟨W2,hW2⟩:∃W2,w1.alloc (.cells (M7 m1 s1 t1 s2 t2 s3 t3 s4 t4 s5 t5 s6 t6) 33)=W2:=⟨_,rfl⟩
  exact cQ0
 by_cases h4:kd=4
 ·subst h4;go_wp2_with fail
  refine(zlb _ _ _ _ _ _ m p W0 aB.o HM.o hp).mono ?_;rintro e w1 ⟨⟨u1,u2,u3,u4,u5,u6,m1,cc,rfl,O1,S1⟩,B1⟩;obtain⟨s1,t1,s2,t2,s3,t3,s4,t4,s5,t5,s6,t6,rfl,rfl,rfl,rfl,rfl,rfl⟩:=O1.mr.form;obtain⟨W2,hW2⟩:∃W2,w1.alloc (.cells (M7 m1 s1 t1 s2 t2 s3 t3 s4 t4 s5 t5 s6 t6) 33)=W2:=⟨_,rfl⟩
  exact cQ0
 by_cases h5:kd=5
 ·subst h5;go_wp2_with fail
  refine(move_any _ _ _ _ _ _ m p q W0 aB.o HM.o hp hq).mono ?_;rintro e w1 ⟨⟨u1,u2,u3,u4,u5,u6,m1,cc,rfl,O1,S1⟩,B1⟩;obtain⟨s1,t1,s2,t2,s3,t3,s4,t4,s5,t5,s6,t6,rfl,rfl,rfl,rfl,rfl,rfl⟩:=O1.mr.form;obtain⟨W2,hW2⟩:∃W2,w1.alloc (.cells (M7 m1 s1 t1 s2 t2 s3 t3 s4 t4 s5 t5 s6 t6) 33)=W2:=⟨_,rfl⟩
  exact cQ0
 have q1:(kd==1)=false:=beq_eq_false_iff_ne.mpr h1;have q2:(kd==2)=false:=beq_eq_false_iff_ne.mpr h2;have q3:(kd==3)=false:=beq_eq_false_iff_ne.mpr h3;have q4:(kd==4)=false:=beq_eq_false_iff_ne.mpr h4;have q5:(kd==5)=false:=beq_eq_false_iff_ne.mpr h5;obtain⟨r0,r1,r2,r3,r4,r5,r6⟩:=AtC.sev ((HC.o W0 HB0.o).2.2.1);obtain⟨v0,v1,v2,v3,v4,v5,v6⟩:=(HC.o W0 HB0.o).2.2.1.f7;go_wp2;refine bY (v:=.tuple #[.agg (M7 m a1 c1 a2 c2 a3 c3 a4 c4 a5 c5 a6 c6),nI 0,.bool false]) sR7 rfl ⟨⟨_,_,_,_,_,_,_,_,_,_,_,_,m,_,_,rfl,fun e=>by simp at e⟩,zab (HC.o W0 HB0.o).2.2.2.1 oM _ _ _ _ _ _ _⟩
end Go.Proofs.YtgnplpmgkegcnaaGreat
