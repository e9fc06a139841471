/- Texts of the proof, bundled. -/
import Derived.Laws.EntriesVeiled
import Derived.Deep.DeepCutAuto
import Derived.Deep.CutRange
import Derived.BigRegion
import Derived.RegionTactic
import Derived.Deep.QuietTactic
import Derived.BigQuiet
import Derived.Test.YtmlfihmheolpeaaGreatU04
import Derived.Test.YtmlfihmheolpeaaGreatU03
import Derived.Test.YtmlfihmheolpeaaGreatU02
import Derived.Test.YtmlfihmheolpeaaGreatU01
set_option maxRecDepth 100000
set_option maxHeartbeats 12800000
namespace Go.Proofs.YtmlfihmheolpeaaGreat
open Go.RowKit Kit
abbrev Dk4:=List Bool×List Bool×List Ino×List Blk
def mSt (xs ys:List Bool) (is:List Ino) (bs:List Blk):Nat->Dk4
 | 0=>(xs,ys,is,bs)
 | 1=>(xs,ys,mendP is bs,bs)
 | 2=>(xs,ys,mendP is bs,mendN (mendP is bs) bs)
 | _=>(fB (mendP is bs) (mendN (mendP is bs) bs),fI (mendP is bs) (mendN (mendP is bs) bs),restL (mendP is bs) (mendN (mendP is bs) bs),mendN (mendP is bs) bs)
def mendD (xs ys:List Bool) (is:List Ino) (bs:List Blk):Dk4:=if zag xs ys is bs=true then mSt xs ys is bs 3 else (xs,ys,is,bs)
theorem eg49:∀ args w,(callFunc 93 args).run Tryz.prog w=.ok (.enter 93 args) w:=enters_of Tryz.func93 (by kernel_rfl) rfl
theorem eg50:∀ args w,(callFunc 94 args).run Tryz.prog w=.ok (.enter 94 args) w:=enters_of Tryz.func94 (by kernel_rfl) rfl
theorem eg51:∀ args w,(callFunc 95 args).run Tryz.prog w=.ok (.enter 95 args) w:=enters_of Tryz.func95 (by kernel_rfl) rfl
structure MS (w wr:World) (b B fb:Nat) (A3 A4:Value) (D:Array Value) (st:Dk4):Prop where
 x:∃ u v,AtC wr b 121 #[u,v,A3,A4]/\DO wr (fun k=>B<=k/\k≠b) u v A3 A4 st.1 st.2.1 st.2.2.1 st.2.2.2
 f:AtC wr fb 119 #[.func (.func 93) #[] #[],.func (.func 94) #[] #[],.func (.func 95) #[] #[]]
 r:AtC wr (w.heap.size+1) 35 noD
 c:Below w.heap.size w wr
 hB:w.heap.size+2 < B
 hf:fb < B
 hb:B<=b
 nn:B<=wr.heap.size
theorem MS.chg {w wr wr':World}{b B fb:Nat}{A3 A4:Value}{D:Array Value}{st st':Dk4}(h:MS w wr b B fb A3 A4 D st)(hc:Chg (fun k=>B<=k) wr wr')(hx:∃ u v,AtC wr' b 121 #[u,v,A3,A4]/\DO wr' (fun k=>B<=k/\k≠b) u v A3 A4 st'.1 st'.2.1 st'.2.2.1 st'.2.2.2):MS w wr' b B fb A3 A4 D st':=by
 have h1:=h.hB;have h2:=h.hf;have h3:=h.hb;exact ⟨hx,(hc.block fb h.f.lt (fun e=>by omega)).trans h.f,(hc.block _ h.r.lt (fun e=>by omega)).trans h.r,h.c.trans (hc.below h.c.size (fun k hk=>by omega)),h.hB,h.hf,h.hb,Nat.le_trans h.nn hc.size⟩
theorem zgp {xs ys:List Bool}{is:List Ino}{bs:List Blk}(h:zag xs ys is bs=true):zag xs ys (mendP is bs) bs=true/\zag xs ys (mendP is bs) (mendN (mendP is bs) bs)=true:=⟨zk3 h,mendN_ok (zk3 h)⟩
theorem zgq (n:Nat)(hn:n=0\/n=3)(lv:Value)(u v iv bv:Value)(xs ys:List Bool)(is:List Ino)(bs:List Blk)(w:World)(h:DR w u v iv bv xs ys is bs)(hG:Big 1048576 xs ys is bs)(hl:RInts w lv (([0,1,2]:List Int).take n))(hO:n=3->zag xs ys is bs=true) :
  Calls Tryz.prog 49 #[.agg #[u,v,iv,bv],lv] w fun e w'=>∃ u' v' i' b',e=.returned (.agg #[u',v',i',b'])/\DO w' (fun k=>w.heap.size<=k) u' v' i' b' (mSt xs ys is bs n).1 (mSt xs ys is bs n).2.1 (mSt xs ys is bs n).2.2.1 (mSt xs ys is bs n).2.2.2/\Below w.heap.size w w':=by
 obtain ⟨a1,c1,a2,c2,a3,c3,a4,c4,rfl,rfl,rfl,rfl⟩:=h.form;have HH:=hide h;have HG:=hide hG;have HO:=hide hO;have HN3:=hide hn;obtain ⟨la,lc,rfl,hlc⟩:=hl;have HLC:=hide hlc;have hll:(([0,1,2]:List Int).take n).length=n:=by rcases hn with rfl | rfl<;>rfl
 rw [hll] at *;obtain ⟨W0,hW0⟩:∃ W,((w.alloc (.cells #[.slice a1 xs.length c1,.slice a2 ys.length c2,.slice a3 is.length c3,.slice a4 bs.length c4] 35)).alloc (.cells #[.slice none 0 0,.slice none 0 0,.slice none 0 0,.slice none 0 0] 35))=W:=⟨_,rfl⟩
 obtain ⟨W1,hW1⟩:∃ W,W0.alloc (.cells #[.func (.func 93) #[] #[],.func (.func 94) #[] #[],.func (.func 95) #[] #[]] 119)=W:=⟨_,rfl⟩
 have H1:Hid (Below w.heap.size w W1/\AtC W1 w.heap.size 35 #[.slice a1 xs.length c1,.slice a2 ys.length c2,.slice a3 is.length c3,.slice a4 bs.length c4]/\AtC W1 (w.heap.size+1) 35 noD/\AtC W1 (w.heap.size+2) 119 #[.func (.func 93) #[] #[],.func (.func 94) #[] #[],.func (.func 95) #[] #[]]/\W1.heap.size=w.heap.size+3):=by
  rw [← hW1,← hW0];have q:=AtC.new (w.alloc (.cells #[.slice a1 xs.length c1,.slice a2 ys.length c2,.slice a3 is.length c3,.slice a4 bs.length c4] 35)) 35 #[.slice none 0 0,.slice none 0 0,.slice none 0 0,.slice none 0 0];rw [World.size_alloc] at q;have r:=AtC.new ((w.alloc (.cells #[.slice a1 xs.length c1,.slice a2 ys.length c2,.slice a3 is.length c3,.slice a4 bs.length c4] 35)).alloc (.cells #[.slice none 0 0,.slice none 0 0,.slice none 0 0,.slice none 0 0] 35)) 119 #[.func (.func 93) #[] #[],.func (.func 94) #[] #[],.func (.func 95) #[] #[]];rw [World.size_alloc,World.size_alloc] at r;exact ⟨(((Below.refl _ w).alloc nR _).alloc (by simp) _).alloc (by simp;omega) _,((AtC.new w 35 _).alloc _).alloc _,q.alloc _,r,by simp⟩
 obtain ⟨x0,x1,x2,x3⟩:=AtC.four H1.out.2.1;have hsz0:W0.heap.size=w.heap.size+2:=by rw [← hW0];simp
 clear h hG hO hlc hll;go_enter Tryz.func49,Tryz.ntmps49
 go_wp2_with fail
 refine (zka (.slice a1 xs.length c1) (.slice a2 ys.length c2) (.slice a3 is.length c3) (.slice a4 bs.length c4) xs ys is bs W1 (HH.out.below H1.out.1 nR) HG.out).mono ?_;rintro e w2 ⟨u1,u2,u3,u4,rfl,O2,B2⟩;obtain ⟨p1,q1,p2,q2,p3,q3,p4,q4,rfl,rfl,rfl,rfl⟩:=O2.dr.form;obtain ⟨b,hb⟩:∃ n,w2.heap.size=n:=⟨_,rfl⟩
 obtain ⟨W3,hW3⟩:∃ W,w2.alloc (.cells #[.slice p1 xs.length q1,.slice p2 ys.length q2,.slice p3 is.length q3,.slice p4 bs.length q4] 121)=W:=⟨_,rfl⟩
 have H3:Hid (MS w W3 b (w.heap.size+3) (w.heap.size+2) (.slice p3 is.length q3) (.slice p4 bs.length q4) #[.slice a1 xs.length c1,.slice a2 ys.length c2,.slice a3 is.length c3,.slice a4 bs.length c4] (mSt xs ys is bs 0)):=by
  have b1:=H1.out.1.trans (B2.mono H1.out.1.size);have s1:=B2.size;rw [H1.out.2.2.2.2,hb] at s1;rw [← hW3];refine ⟨⟨_,_,by rw [← hb];exact AtC.new w2 121 _,?_⟩,(H1.out.2.2.2.1.over B2).alloc _,(H1.out.2.2.1.over B2).alloc _,b1.alloc b1.size _,by omega,by omega,s1,by rw [World.size_alloc];omega⟩;obtain ⟨ti,tb,L1⟩:=O2.dl;have L2:=L1.bound.do_.mono (S':=fun k=>w.heap.size+3<=k/\k≠b) fun k hk=>⟨by rw [← H1.out.2.2.2.2];exact hk.1,by have:=hk.2;omega⟩
  exact L2.alloc _
 clear O2 B2 hW0 hW1 x0 x1 x2 x3 H1;go_wp2_with fail
 go_loopw [15] (fun kv wr=>∃ q:Nat,q<=n/\kv=.int .i64 q/\Hid (MS w wr b (w.heap.size+3) (w.heap.size+2) (.slice p3 is.length q3) (.slice p4 bs.length q4) #[.slice a1 xs.length c1,.slice a2 ys.length c2,.slice a3 is.length c3,.slice a4 bs.length c4] (mSt xs ys is bs q))) (fun kv _=>n - (intOf kv).toNat)
 case atStart=>exact ⟨0,Nat.zero_le _,rfl,H3.out⟩
 case round =>
  obtain ⟨q,hq,rfl,HR⟩:=hrel;clear H3 hW3 hb;have q0:(0:Int)<=(q:Int):=by omega
  by_cases hlt:q < n
  rotate_left
  ·have q1:¬ ((q:Int) < (n:Int)):=by omega
   obtain rfl:q=n:=by omega
   obtain ⟨u5,v5,A5,D5⟩:=HR.out.x;obtain ⟨r1,s1,r2,s2,r3,s3,r4,s4,e1,e2,-,-⟩:=D5.dr.form;subst e1 e2;have o0:=A5.cell 0;have o1:=A5.cell 1;have o2:=A5.cell 2;have o3:=A5.cell 3;simp only [List.getElem?_toArray,List.getElem?_cons_zero,List.getElem?_cons_succ] at o0 o1 o2 o3;obtain ⟨z0,z1,z2,z3⟩:=AtC.four HR.out.r;have f0:=HR.out.r.frozen 0;have f1:=HR.out.r.frozen 1;have f2:=HR.out.r.frozen 2;have f3:=HR.out.r.frozen 3;have hne:¬ b=w.heap.size+1:=by have:=HR.out.hB;have:=HR.out.hb;omega
   have hne2:¬ w.heap.size+1=b:=by have:=HR.out.hB;have:=HR.out.hb;omega
   have HF:Hid (∀ y0 y1 y2 y3:Value,DO ((((wr.setCell ⟨w.heap.size+1,0,none⟩ y0).setCell ⟨w.heap.size+1,1,none⟩ y1).setCell ⟨w.heap.size+1,2,none⟩ y2).setCell ⟨w.heap.size+1,3,none⟩ y3) (fun k=>w.heap.size<=k) (.slice r1 (mSt xs ys is bs q).1.length s1) (.slice r2 (mSt xs ys is bs q).2.1.length s2) (.slice p3 is.length q3) (.slice p4 bs.length q4) (mSt xs ys is bs q).1 (mSt xs ys is bs q).2.1 (mSt xs ys is bs q).2.2.1 (mSt xs ys is bs q).2.2.2/\Below w.heap.size w ((((wr.setCell ⟨w.heap.size+1,0,none⟩ y0).setCell ⟨w.heap.size+1,1,none⟩ y1).setCell ⟨w.heap.size+1,2,none⟩ y2).setCell ⟨w.heap.size+1,3,none⟩ y3)):=fun y0 y1 y2 y3=>by
    have hB:=HR.out.hB;refine ⟨(D5.of_heap fun k hk _=>?_).mono fun k hk=>by omega,(((HR.out.c.setCell (by simp) _).setCell (by simp) _).setCell (by simp) _).setCell (by simp) _⟩;exact (((heap_setCell_other _ ⟨w.heap.size+1,3,none⟩ k _ (by show k≠w.heap.size+1;omega)).trans (heap_setCell_other _ ⟨w.heap.size+1,2,none⟩ k _ (by show k≠w.heap.size+1;omega))).trans (heap_setCell_other _ ⟨w.heap.size+1,1,none⟩ k _ (by show k≠w.heap.size+1;omega))).trans (heap_setCell_other _ ⟨w.heap.size+1,0,none⟩ k _ (by show k≠w.heap.size+1;omega))
   generalize (mSt xs ys is bs q).1.length=L1 at *;generalize (mSt xs ys is bs q).2.1.length=L2 at *;clear A5 D5 HO HN3;go_wp2;refine bodyPost_ret (v:=.agg #[.slice r1 L1 s1,.slice r2 L2 s2,.slice p3 is.length q3,.slice p4 bs.length q4]) (by simp [results,go_sem,z0,z1,z2,z3]) rfl ⟨_,_,_,_,rfl,?_,?_⟩
   ·exact (HF.out _ _ _ _).1
   ·exact (HF.out _ _ _ _).2
  obtain rfl:n=3:=by rcases HN3.out with e | e<;>omega
  have hOK:=HO.out rfl;have HK:=hide (zgp hOK);have HOK:=hide hOK;have HLP:Hid ((mendP is bs).length=is.length):=by have h1:=(zaj (zgp hOK).1).2.2.1;have h2:=(zaj hOK).2.2.1;show _=_;omega
  have HLB:Hid ((mendN (mendP is bs) bs).length=bs.length):=by have h1:=(zaj (zgp hOK).2).2.2.2.2;have h2:=(zaj hOK).2.2.2.2;show _=_;omega
  have hqs:q=0\/q=1\/q=2:=by omega
  obtain ⟨u5,v5,A5,D5⟩:=HR.out.x;obtain ⟨gl,ol,rfl,hgl,kl⟩:=HLC.out q (by show q < 3;exact hlt);have kl':=(HR.out.c.cell (p:=⟨gl,ol+q,none⟩) hgl).trans kl;have kf:=HR.out.f.cell q;have lf:w.heap.size+2 < wr.heap.size:=HR.out.f.lt;clear kl hOK hq;rcases hqs with rfl | rfl | rfl
  ·have eg:=eg49;obtain ⟨r1,s1,r2,s2,r3,s3,r4,s4,e1,e2,-,-⟩:=D5.dr.form;have e1':u5=.slice r1 xs.length s1:=e1;have e2':v5=.slice r2 ys.length s2:=e2;subst e1' e2';have kq:wr.cell? ⟨gl,ol,none⟩=some (.int .i64 0):=kl';have kg:wr.cell? ⟨w.heap.size+2,0,none⟩=some (.func (.func 93) #[] #[]):=kf;have CC:=zn9 b (w.heap.size+3) r1 r2 p3 p4 s1 s2 q3 q4 xs ys is bs wr A5 D5 HOK.out HR.out.nn;have HCC:=hide CC;clear kl' kf CC e1 e2 hlt;go_wp2_with fail
   refine HCC.out.mono ?_;rintro e w5 ⟨rfl,D6,C6⟩;have HN:Hid (MS w w5 b (w.heap.size+3) (w.heap.size+2) (.slice p3 is.length q3) (.slice p4 bs.length q4) #[.slice a1 xs.length c1,.slice a2 ys.length c2,.slice a3 is.length c3,.slice a4 bs.length c4] (mSt xs ys is bs (0+1))):=HR.out.chg (C6.mono fun k hk=>hk.1) ⟨_,_,(C6.block b A5.lt (fun e=>e.2 rfl)).trans A5,D6⟩;have HREL:Hid (∃ q:Nat,q<=3/\(Value.int .i64 1)=.int .i64 q/\Hid (MS w w5 b (w.heap.size+3) (w.heap.size+2) (.slice p3 is.length q3) (.slice p4 bs.length q4) #[.slice a1 xs.length c1,.slice a2 ys.length c2,.slice a3 is.length c3,.slice a4 bs.length c4] (mSt xs ys is bs q))):=⟨1,by omega,rfl,HN.out⟩
   go_wp2;go_roundw
   case rel=>first | exact HREL.out | ((repeat apply Exists.intro);exact ⟨HREL.out,rfl⟩)
   case measure=>simp [intOf]
  ·have eg:=eg50;obtain ⟨r1,s1,r2,s2,r3,s3,r4,s4,e1,e2,-,-⟩:=D5.dr.form;have e1':u5=.slice r1 xs.length s1:=e1;have e2':v5=.slice r2 ys.length s2:=e2;subst e1' e2';have kq:wr.cell? ⟨gl,ol+1,none⟩=some (.int .i64 1):=kl';have kg:wr.cell? ⟨w.heap.size+2,1,none⟩=some (.func (.func 94) #[] #[]):=kf;have CC:=zob b (w.heap.size+3) r1 r2 p3 p4 s1 s2 q3 q4 xs ys (mendP is bs) bs wr (by rw [HLP.out];exact A5) (by rw [HLP.out];exact D5) HK.out.1;rw [HLP.out] at CC;have HCC:=hide CC;clear kl' kf CC e1 e2 hlt;go_wp2_with fail
   refine HCC.out.mono ?_;rintro e w5 ⟨rfl,D6,C6⟩;have HN:Hid (MS w w5 b (w.heap.size+3) (w.heap.size+2) (.slice p3 is.length q3) (.slice p4 bs.length q4) #[.slice a1 xs.length c1,.slice a2 ys.length c2,.slice a3 is.length c3,.slice a4 bs.length c4] (mSt xs ys is bs (1+1))):=HR.out.chg (C6.mono fun k hk=>hk.1) ⟨_,_,(C6.block b A5.lt (fun e=>e.2 rfl)).trans A5,D6⟩;have HREL:Hid (∃ q:Nat,q<=3/\(Value.int .i64 2)=.int .i64 q/\Hid (MS w w5 b (w.heap.size+3) (w.heap.size+2) (.slice p3 is.length q3) (.slice p4 bs.length q4) #[.slice a1 xs.length c1,.slice a2 ys.length c2,.slice a3 is.length c3,.slice a4 bs.length c4] (mSt xs ys is bs q))):=⟨2,by omega,rfl,HN.out⟩
   go_wp2;go_roundw
   case rel=>first | exact HREL.out | ((repeat apply Exists.intro);exact ⟨HREL.out,rfl⟩)
   case measure=>simp [intOf]
  ·have eg:=eg51;obtain ⟨r1,s1,r2,s2,r3,s3,r4,s4,e1,e2,-,-⟩:=D5.dr.form;have e1':u5=.slice r1 xs.length s1:=e1;have e2':v5=.slice r2 ys.length s2:=e2;subst e1' e2';have kq:wr.cell? ⟨gl,ol+2,none⟩=some (.int .i64 2):=kl';have kg:wr.cell? ⟨w.heap.size+2,2,none⟩=some (.func (.func 95) #[] #[]):=kf;have CC:=zoc b (w.heap.size+3) r1 r2 p3 p4 s1 s2 q3 q4 xs ys (mendP is bs) (mendN (mendP is bs) bs) wr (by rw [HLP.out,HLB.out];exact A5) (by rw [HLP.out,HLB.out];exact D5) HK.out.2 HR.out.nn HR.out.hb;rw [HLP.out,HLB.out] at CC;have HCC:=hide CC;clear kl' kf CC e1 e2 hlt;go_wp2_with fail
   refine HCC.out.mono ?_;rintro e w5 ⟨rfl,u6,v6,A6,D6,C6⟩;have HN:Hid (MS w w5 b (w.heap.size+3) (w.heap.size+2) (.slice p3 is.length q3) (.slice p4 bs.length q4) #[.slice a1 xs.length c1,.slice a2 ys.length c2,.slice a3 is.length c3,.slice a4 bs.length c4] (mSt xs ys is bs (2+1))):=HR.out.chg C6 ⟨u6,v6,A6,D6⟩;have HREL:Hid (∃ q:Nat,q<=3/\(Value.int .i64 3)=.int .i64 q/\Hid (MS w w5 b (w.heap.size+3) (w.heap.size+2) (.slice p3 is.length q3) (.slice p4 bs.length q4) #[.slice a1 xs.length c1,.slice a2 ys.length c2,.slice a3 is.length c3,.slice a4 bs.length c4] (mSt xs ys is bs q))):=⟨3,by omega,rfl,HN.out⟩
   go_wp2;go_roundw
   case rel=>first | exact HREL.out | ((repeat apply Exists.intro);exact ⟨HREL.out,rfl⟩)
   case measure=>simp [intOf]
theorem zet (u v iv bv:Value)(xs ys:List Bool)(is:List Ino)(bs:List Blk)(w:World)(h:DR w u v iv bv xs ys is bs)(hG:Big 1048576 xs ys is bs) :
  Calls Tryz.prog 20 #[.agg #[u,v,iv,bv]] w fun e w'=>∃ u' v' i' b',e=.returned (.agg #[u',v',i',b'])/\DO w' (fun k=>w.heap.size<=k) u' v' i' b' (mendD xs ys is bs).1 (mendD xs ys is bs).2.1 (mendD xs ys is bs).2.2.1 (mendD xs ys is bs).2.2.2/\Below w.heap.size w w':=by
 obtain ⟨a1,c1,a2,c2,a3,c3,a4,c4,rfl,rfl,rfl,rfl⟩:=h.form;have HH:=hide h;have HG:=hide hG;obtain ⟨W0,hW0⟩:∃ W,((w.alloc (.cells #[.slice a1 xs.length c1,.slice a2 ys.length c2,.slice a3 is.length c3,.slice a4 bs.length c4] 35)).alloc (.cells #[.slice none 0 0,.slice none 0 0,.slice none 0 0,.slice none 0 0] 35))=W:=⟨_,rfl⟩
 have H0:Hid (Below w.heap.size w W0/\AtC W0 w.heap.size 35 #[.slice a1 xs.length c1,.slice a2 ys.length c2,.slice a3 is.length c3,.slice a4 bs.length c4]/\AtC W0 (w.heap.size+1) 35 noD/\W0.heap.size=w.heap.size+2):=by
  rw [← hW0];have q:=AtC.new (w.alloc (.cells #[.slice a1 xs.length c1,.slice a2 ys.length c2,.slice a3 is.length c3,.slice a4 bs.length c4] 35)) 35 #[.slice none 0 0,.slice none 0 0,.slice none 0 0,.slice none 0 0];rw [World.size_alloc] at q;exact ⟨((Below.refl _ w).alloc nR _).alloc (by simp) _,(AtC.new w 35 _).alloc _,q,by simp⟩
 have HFIN:Hid (∀ (W W2:World) (u' v' i' b':Value) (st:Dk4),Below W0.heap.size W0 W->DO W2 (fun k=>W.heap.size<=k) u' v' i' b' st.1 st.2.1 st.2.2.1 st.2.2.2->Below W.heap.size W W2->∀ y0 y1 y2 y3:Value,DO ((((W2.setCell ⟨w.heap.size+1,0,none⟩ y0).setCell ⟨w.heap.size+1,1,none⟩ y1).setCell ⟨w.heap.size+1,2,none⟩ y2).setCell ⟨w.heap.size+1,3,none⟩ y3) (fun k=>w.heap.size<=k) u' v' i' b' st.1 st.2.1 st.2.2.1 st.2.2.2/\Below w.heap.size w ((((W2.setCell ⟨w.heap.size+1,0,none⟩ y0).setCell ⟨w.heap.size+1,1,none⟩ y1).setCell ⟨w.heap.size+1,2,none⟩ y2).setCell ⟨w.heap.size+1,3,none⟩ y3)):=fun W W2 u' v' i' b' st b1 hd b2 y0 y1 y2 y3=>by
  have s0:=H0.out.2.2.2;have s1:=b1.size;have bb:=(H0.out.1.trans (b1.mono H0.out.1.size)).trans (b2.mono (Nat.le_trans H0.out.1.size s1));refine ⟨(hd.of_heap fun k hk _=>?_).mono fun k hk=>by omega,(((bb.setCell (by simp) _).setCell (by simp) _).setCell (by simp) _).setCell (by simp) _⟩;exact (((heap_setCell_other _ ⟨w.heap.size+1,3,none⟩ k _ (by show k≠w.heap.size+1;omega)).trans (heap_setCell_other _ ⟨w.heap.size+1,2,none⟩ k _ (by show k≠w.heap.size+1;omega))).trans (heap_setCell_other _ ⟨w.heap.size+1,1,none⟩ k _ (by show k≠w.heap.size+1;omega))).trans (heap_setCell_other _ ⟨w.heap.size+1,0,none⟩ k _ (by show k≠w.heap.size+1;omega))
 have HWB:Hid (∀ W,Below W0.heap.size W0 W->AtC W w.heap.size 35 #[.slice a1 xs.length c1,.slice a2 ys.length c2,.slice a3 is.length c3,.slice a4 bs.length c4]/\AtC W (w.heap.size+1) 35 noD/\DR W (.slice a1 xs.length c1) (.slice a2 ys.length c2) (.slice a3 is.length c3) (.slice a4 bs.length c4) xs ys is bs):=fun W hb=>⟨H0.out.2.1.over hb,H0.out.2.2.1.over hb,HH.out.below (H0.out.1.trans (hb.mono H0.out.1.size)) nR⟩
 obtain ⟨x0,x1,x2,x3⟩:=AtC.four H0.out.2.1;clear h hG;go_enter Tryz.func20,Tryz.ntmps20
 go_wp2_with fail
 refine (zdm (.slice a1 xs.length c1) (.slice a2 ys.length c2) (.slice a3 is.length c3) (.slice a4 bs.length c4) xs ys is bs W0 (HWB.out W0 bR).2.2 HG.out.i HG.out.b).mono ?_;rintro e w1 ⟨rfl,B1⟩;have HB1:=hide B1;obtain ⟨y0,y1,y2,y3⟩:=AtC.four ((HWB.out w1 B1).1);clear B1 hW0 x0 x1 x2 x3
 cases hok:zag xs ys is bs with
 | false =>
  have HM:Hid (mendD xs ys is bs=mSt xs ys is bs 0):=by unfold mendD;rw [hok];rfl
  have CM:=hide (zgq 0 (.inl rfl) (.slice none 0 0) (.slice a1 xs.length c1) (.slice a2 ys.length c2) (.slice a3 is.length c3) (.slice a4 bs.length c4) xs ys is bs w1 (HWB.out w1 HB1.out).2.2 HG.out ⟨none,0,rfl,fun j hj=>absurd hj (by simp)⟩ (fun e=>by cases e));clear hok;go_wp2_with fail
  refine CM.out.mono ?_;rintro e w5 ⟨u5,v5,i5,b5,rfl,D5,B5⟩;obtain ⟨r1,s1,r2,s2,r3,s3,r4,s4,rfl,rfl,rfl,rfl⟩:=D5.dr.form;have hbb:=(HWB.out w5 (HB1.out.trans (B5.mono HB1.out.size))).2.1;obtain ⟨z0,z1,z2,z3⟩:=AtC.four hbb;have f0:=hbb.frozen 0;have f1:=hbb.frozen 1;have f2:=hbb.frozen 2;have f3:=hbb.frozen 3;have HF:=hide (HFIN.out _ w5 _ _ _ _ (mSt xs ys is bs 0) HB1.out D5 B5);generalize (mSt xs ys is bs 0).1.length=L1 at *;generalize (mSt xs ys is bs 0).2.1.length=L2 at *;generalize (mSt xs ys is bs 0).2.2.1.length=L3 at *;generalize (mSt xs ys is bs 0).2.2.2.length=L4 at *;clear D5 B5 hbb;go_wp2;refine bodyPost_ret (v:=.agg #[.slice r1 L1 s1,.slice r2 L2 s2,.slice r3 L3 s3,.slice r4 L4 s4]) (by simp [results,go_sem,z0,z1,z2,z3]) rfl ⟨_,_,_,_,rfl,?_,?_⟩
  ·rw [HM.out];exact (HF.out _ _ _ _).1
  ·exact (HF.out _ _ _ _).2
 | true =>
  have HM:Hid (mendD xs ys is bs=mSt xs ys is bs 3):=by unfold mendD;rw [hok];rfl
  obtain ⟨W2,hW2⟩:∃ W,w1.alloc (.cells #[.int .i64 0,.int .i64 1,.int .i64 2] 3)=W:=⟨_,rfl⟩
  have H2:Hid (Below W0.heap.size W0 W2/\RInts W2 (.slice (some ⟨w1.heap.size,0,none⟩) 3 3) (([0,1,2]:List Int).take 3)):=by
   rw [← hW2];refine ⟨HB1.out.alloc HB1.out.size _,_,_,rfl,fun j hj=>⟨w1.heap.size,0,rfl,by simp,?_⟩⟩;have e:=(AtC.new w1 3 #[.int .i64 0,.int .i64 1,.int .i64 2]).cell j;have hj3:j < 3:=hj;rw [Nat.zero_add,e];rcases (show j=0\/j=1\/j=2 by omega) with rfl | rfl | rfl<;>rfl
  have CM:=hide (zgq 3 (.inr rfl) _ (.slice a1 xs.length c1) (.slice a2 ys.length c2) (.slice a3 is.length c3) (.slice a4 bs.length c4) xs ys is bs W2 (HWB.out W2 H2.out.1).2.2 HG.out H2.out.2 (fun _=>hok));have HB2:=hide H2.out.1;clear hok;go_wp2_with fail
  refine CM.out.mono ?_;rintro e w5 ⟨u5,v5,i5,b5,rfl,D5,B5⟩;obtain ⟨r1,s1,r2,s2,r3,s3,r4,s4,rfl,rfl,rfl,rfl⟩:=D5.dr.form;have hbb:=(HWB.out w5 (HB2.out.trans (B5.mono HB2.out.size))).2.1;obtain ⟨z0,z1,z2,z3⟩:=AtC.four hbb;have f0:=hbb.frozen 0;have f1:=hbb.frozen 1;have f2:=hbb.frozen 2;have f3:=hbb.frozen 3;have HF:=hide (HFIN.out _ w5 _ _ _ _ (mSt xs ys is bs 3) HB2.out D5 B5);generalize (mSt xs ys is bs 3).1.length=L1 at *;generalize (mSt xs ys is bs 3).2.1.length=L2 at *;generalize (mSt xs ys is bs 3).2.2.1.length=L3 at *;generalize (mSt xs ys is bs 3).2.2.2.length=L4 at *;clear D5 B5 hbb;go_wp2;refine bodyPost_ret (v:=.agg #[.slice r1 L1 s1,.slice r2 L2 s2,.slice r3 L3 s3,.slice r4 L4 s4]) (by simp [results,go_sem,z0,z1,z2,z3]) rfl ⟨_,_,_,_,rfl,?_,?_⟩
  ·rw [HM.out];exact (HF.out _ _ _ _).1
  ·exact (HF.out _ _ _ _).2
theorem zoe {xs ys:List Bool}{is:List Ino}{bs:List Blk}(h:zag xs ys is bs=true):Big 1048576 xs ys is bs:=by
 have hX:=RX.of_ok h;refine ⟨by rw [hX.bx];decide,by rw [hX.y8];decide,by rw [hX.r.hi];decide,fun j hj=>by rw [hX.r.two _ (List.getElem_mem hj)];decide,by rw [hX.r.hb];decide,fun j hj=>⟨?_,fun k hk=>?_,?_⟩⟩
 ·have:=hX.r.four _ (List.getElem_mem hj);omega
 ·rcases hX.r.nm _ (List.getElem_mem hj) _ (List.getElem_mem hk) with e | e
  ·rw [e];decide
  ·have:=(of_decide_eq_true e).1.2;omega
 ·have:=hX.r.tx _ (List.getElem_mem hj);omega
theorem zof {is:List Ino}{bs:List Blk}{xs ys:List Bool}(h:zag xs ys is bs=true):Big 1048576 (fB is bs) (fI is bs) (restL is bs) bs:=by
 have hb:=zoe h;have hX:=RX.of_ok h;refine ⟨by simp [fB],by simp [fI],by rw [zb9];decide,fun j hj=>?_,hb.b,hb.s⟩;have e:(restL is bs)[j]=restI is bs j:=by simp [restL]
 rw [e,(zgo hX (by rw [zb9] at hj;exact hj)).2.1];decide
theorem pass_all (xs ys:List Bool)(is:List Ino)(bs:List Blk):((zbx xs ys (zas xs ys is bs) (zba xs ys (zas xs ys is bs) bs)).1,(zbx xs ys (zas xs ys is bs) (zba xs ys (zas xs ys is bs) bs)).2.1,(zbx xs ys (zas xs ys is bs) (zba xs ys (zas xs ys is bs) bs)).2.2,zba xs ys (zas xs ys is bs) bs)=mendD xs ys is bs:=by
 unfold mendD
 cases h:zag xs ys is bs with
 | false =>
  have e1:zas xs ys is bs=is:=by unfold zas;rw [h];rfl
  have e2:zba xs ys is bs=bs:=by unfold zba;rw [h];rfl
  have e3:zbx xs ys is bs=(xs,ys,is):=by unfold zbx;rw [h];rfl
  rw [e1,e2,e3];rfl
 | true =>
  obtain ⟨k1,k2⟩:=zgp h;have e1:zas xs ys is bs=mendP is bs:=by unfold zas;rw [h];rfl
  have e2:zba xs ys (mendP is bs) bs=mendN (mendP is bs) bs:=by unfold zba;rw [k1];rfl
  have e3:zbx xs ys (mendP is bs) (mendN (mendP is bs) bs)=(fB (mendP is bs) (mendN (mendP is bs) bs),fI (mendP is bs) (mendN (mendP is bs) bs),restL (mendP is bs) (mendN (mendP is bs) bs)):=by unfold zbx;rw [k2];rfl
  rw [e1,e2,e3];rfl
theorem big_P {xs ys:List Bool}{is:List Ino}{bs:List Blk}(h:Big 1048576 xs ys is bs):Big 1048576 xs ys (zas xs ys is bs) bs/\Big 1048576 xs ys (zas xs ys is bs) (zba xs ys (zas xs ys is bs) bs):=by
 cases hk:zag xs ys is bs with
 | false =>
  have e1:zas xs ys is bs=is:=by unfold zas;rw [hk];rfl
  have e2:zba xs ys is bs=bs:=by unfold zba;rw [hk];rfl
  rw [e1,e2];exact ⟨h,h⟩
 | true =>
  obtain ⟨k1,k2⟩:=zgp hk;have e1:zas xs ys is bs=mendP is bs:=by unfold zas;rw [hk];rfl
  have e2:zba xs ys (mendP is bs) bs=mendN (mendP is bs) bs:=by unfold zba;rw [k1];rfl
  rw [e1,e2];exact ⟨zoe k1,zoe k2⟩
theorem big_D {xs ys:List Bool}{is:List Ino}{bs:List Blk}(h:Big 1048576 xs ys is bs):Big 1048576 (mendD xs ys is bs).1 (mendD xs ys is bs).2.1 (mendD xs ys is bs).2.2.1 (mendD xs ys is bs).2.2.2:=by
 unfold mendD
 split
 ·rename_i hk;exact zof (zgp hk).2
 ·exact h
theorem zeu (u v iv bv:Value)(xs ys:List Bool)(is:List Ino)(bs:List Blk)(w:World)(h:DR w u v iv bv xs ys is bs)(hG:Big 1048576 xs ys is bs) :
  Calls Tryz.prog 12 #[.agg #[u,v,iv,bv]] w fun e w'=>∃ u' v' i' b',e=.returned (.agg #[u',v',i',b'])/\DO w' (fun k=>w.heap.size<=k) u' v' i' b' (mendD xs ys is bs).1 (mendD xs ys is bs).2.1 (mendD xs ys is bs).2.2.1 (mendD xs ys is bs).2.2.2/\Below w.heap.size w w':=by
 obtain ⟨a1,c1,a2,c2,a3,c3,a4,c4,rfl,rfl,rfl,rfl⟩:=h.form;have HH:=hide h;have HG:=hide hG;have HG2:=hide (big_P hG);obtain ⟨W0,hW0⟩:∃ W,((w.alloc (.cells #[.slice a1 xs.length c1,.slice a2 ys.length c2,.slice a3 is.length c3,.slice a4 bs.length c4] 35)).alloc (.cells #[.slice none 0 0,.slice none 0 0,.slice none 0 0,.slice none 0 0] 35))=W:=⟨_,rfl⟩
 have H0:Hid (Below w.heap.size w W0/\AtC W0 w.heap.size 35 #[.slice a1 xs.length c1,.slice a2 ys.length c2,.slice a3 is.length c3,.slice a4 bs.length c4]/\AtC W0 (w.heap.size+1) 35 noD/\W0.heap.size=w.heap.size+2):=by
  rw [← hW0];have q:=AtC.new (w.alloc (.cells #[.slice a1 xs.length c1,.slice a2 ys.length c2,.slice a3 is.length c3,.slice a4 bs.length c4] 35)) 35 #[.slice none 0 0,.slice none 0 0,.slice none 0 0,.slice none 0 0];rw [World.size_alloc] at q;exact ⟨((Below.refl _ w).alloc nR _).alloc (by simp) _,(AtC.new w 35 _).alloc _,q,by simp⟩
 have HPA:=hide (pass_all xs ys is bs);obtain ⟨x0,x1,x2,x3⟩:=AtC.four H0.out.2.1;clear h hG;go_enter Tryz.func12,Tryz.ntmps12
 go_wp2_with fail
 refine (zl5 (.slice a1 xs.length c1) (.slice a2 ys.length c2) (.slice a3 is.length c3) (.slice a4 bs.length c4) xs ys is bs W0 (HH.out.below H0.out.1 nR) HG.out).mono ?_;rintro e w1 ⟨u1,v1,i1,b1,rfl,D1,B1⟩;have HD1:=hide (And.intro D1.dr B1);obtain ⟨r1,s1,r2,s2,r3,s3,r4,s4,rfl,rfl,rfl,rfl⟩:=D1.dr.form;clear D1 B1 hW0 x0 x1 x2 x3;go_wp2_with fail
 refine (zl7 _ _ _ _ xs ys (zas xs ys is bs) bs w1 HD1.out.1 HG2.out.1).mono ?_;rintro e w2 ⟨u2,v2,i2,b2,rfl,D2,B2⟩;have HD2:=hide (And.intro D2.dr B2);obtain ⟨m1,n1,m2,n2,m3,n3,m4,n4,rfl,rfl,rfl,rfl⟩:=D2.dr.form;clear D2 B2;go_wp2_with fail
 refine (zl8 _ _ _ _ xs ys (zas xs ys is bs) (zba xs ys (zas xs ys is bs) bs) w2 HD2.out.1 HG2.out.2).mono ?_;rintro e w5 ⟨u5,v5,i5,b5,rfl,D5,B5⟩;obtain ⟨d1,f1,d2,f2,d3,f3,d4,f4,rfl,rfl,rfl,rfl⟩:=D5.dr.form;have b2:=HD1.out.2.trans (HD2.out.2.mono HD1.out.2.size);have b5:=b2.trans (B5.mono b2.size);have bb:=H0.out.1.trans (b5.mono H0.out.1.size);have hbb:=H0.out.2.2.1.over b5;obtain ⟨z0,z1,z2,z3⟩:=AtC.four hbb;have g0:=hbb.frozen 0;have g1:=hbb.frozen 1;have g2:=hbb.frozen 2;have g3:=hbb.frozen 3;have HF:Hid (∀ y0 y1 y2 y3:Value,DO ((((w5.setCell ⟨w.heap.size+1,0,none⟩ y0).setCell ⟨w.heap.size+1,1,none⟩ y1).setCell ⟨w.heap.size+1,2,none⟩ y2).setCell ⟨w.heap.size+1,3,none⟩ y3) (fun k=>w.heap.size<=k) _ _ _ _ _ _ _ _/\Below w.heap.size w ((((w5.setCell ⟨w.heap.size+1,0,none⟩ y0).setCell ⟨w.heap.size+1,1,none⟩ y1).setCell ⟨w.heap.size+1,2,none⟩ y2).setCell ⟨w.heap.size+1,3,none⟩ y3)):=fun y0 y1 y2 y3=>by
  have s0:=H0.out.2.2.2;have s2:=b2.size;refine ⟨(D5.of_heap fun k hk _=>?_).mono fun k hk=>by omega,(((bb.setCell (by simp) _).setCell (by simp) _).setCell (by simp) _).setCell (by simp) _⟩;exact (((heap_setCell_other _ ⟨w.heap.size+1,3,none⟩ k _ (by show k≠w.heap.size+1;omega)).trans (heap_setCell_other _ ⟨w.heap.size+1,2,none⟩ k _ (by show k≠w.heap.size+1;omega))).trans (heap_setCell_other _ ⟨w.heap.size+1,1,none⟩ k _ (by show k≠w.heap.size+1;omega))).trans (heap_setCell_other _ ⟨w.heap.size+1,0,none⟩ k _ (by show k≠w.heap.size+1;omega))
 rw [show (zbx xs ys (zas xs ys is bs) (zba xs ys (zas xs ys is bs) bs)).1=(mendD xs ys is bs).1 from congrArg (·.1) HPA.out,show (zbx xs ys (zas xs ys is bs) (zba xs ys (zas xs ys is bs) bs)).2.1=(mendD xs ys is bs).2.1 from congrArg (·.2.1) HPA.out,show (zbx xs ys (zas xs ys is bs) (zba xs ys (zas xs ys is bs) bs)).2.2=(mendD xs ys is bs).2.2.1 from congrArg (·.2.2.1) HPA.out,show zba xs ys (zas xs ys is bs) bs=(mendD xs ys is bs).2.2.2 from congrArg (·.2.2.2) HPA.out] at *;generalize (mendD xs ys is bs).1.length=L1 at *;generalize (mendD xs ys is bs).2.1.length=L2 at *;generalize (mendD xs ys is bs).2.2.1.length=L3 at *;generalize (mendD xs ys is bs).2.2.2.length=L4 at *;clear D5 B5 hbb b2 b5 bb HPA;go_wp2;refine bodyPost_ret (v:=.agg #[.slice d1 L1 f1,.slice d2 L2 f2,.slice d3 L3 f3,.slice d4 L4 f4]) (by simp [results,go_sem,z0,z1,z2,z3]) rfl ⟨_,_,_,_,rfl,?_,?_⟩
 ·exact (HF.out _ _ _ _).1
 ·exact (HF.out _ _ _ _).2
theorem zhs (g:Nat)(eg:∀ args w,(callFunc g args).run Tryz.prog w=.ok (.enter g args) w)(cp av:Value)(zs:List Int)(p:Nat->Bool)(Inv:Nat->World->Prop)(S:Nat->Prop)(w:World)(hl:zs.length<=1000)(hS:∀ k,S k->k < w.heap.size)(hz:∀ W,Chg S w W->RInts W av zs)(h0:∀ W,Below w.heap.size w W->Inv 0 W)(hst:∀ k W W',Inv k W->Below W.heap.size W W'->Inv k W')
  (hcall:∀ k (hk:k < zs.length) W,Inv k W->Chg S w W->Calls Tryz.prog g #[.int .i64 (zs[k]),cp] W fun e w'=>e=.returned (.bool (p k))/\Inv (k+1) w'/\Chg S W w') :
  Calls Tryz.prog 61 #[.agg #[av,.func (.func g) #[] #[cp]]] w fun e w'=>e=.returned (.int .i64 ((List.range zs.length).countP p:Nat))/\Inv zs.length w'/\Chg S w w':=by
 have HZ:=hide hz;obtain ⟨va,vc,rfl,-⟩:=hz w (Chg.refl _ _);have HS0:Hid (Inv 0 (w.alloc (.cells #[.slice va zs.length vc,.func (.func g) #[] #[cp]] 89))/\Chg S w (w.alloc (.cells #[.slice va zs.length vc,.func (.func g) #[] #[cp]] 89))/\AtC (w.alloc (.cells #[.slice va zs.length vc,.func (.func g) #[] #[cp]] 89)) w.heap.size 89 #[.slice va zs.length vc,.func (.func g) #[] #[cp]]):=⟨h0 _ ((Below.refl _ w).alloc nR _),Chg.of_below ((Below.refl _ w).alloc nR _),AtC.new _ _ _⟩
 have HST:=hide hst;have HC:=hide hcall;have HSS:=hide hS;clear hz h0 hst hcall hS;go_enter Tryz.func61,Tryz.ntmps61
 go_wp2_with fail
 go_loopw [3,9] (fun nv kv wr=>∃ (q:Nat),q<=zs.length/\nv=.int .i64 ((((List.range q).countP p:Nat)):Int)/\kv=.int .i64 q/\Hid (Inv q wr/\Chg S w wr/\AtC wr w.heap.size 89 #[.slice va zs.length vc,.func (.func g) #[] #[cp]])) (fun _ kv _=>zs.length - (intOf kv).toNat)
 case atStart=>exact ⟨0,Nat.zero_le _,by simp,rfl,HS0.out⟩
 case round =>
  obtain ⟨q,hq,rfl,rfl,HQ⟩:=hrel;clear HS0;have q0:(0:Int)<=(q:Int):=by omega
  by_cases hlt:q < zs.length
  rotate_left
  ·have q1:¬ ((q:Int) < (zs.length:Int)):=by omega
   go_wp2;go_ret;obtain rfl:q=zs.length:=by omega
   exact ⟨rfl,HQ.out.1,HQ.out.2.1⟩
  have q1:(q:Int) < (zs.length:Int):=by omega
  have HCT:Hid ((List.range (q+1)).countP p=(List.range q).countP p+if p q=true then 1 else 0):=by
   show _=_;rw [List.range_succ,List.countP_append,List.countP_cons,List.countP_nil,Nat.zero_add]
  have hle:(List.range q).countP p<=q:=Nat.le_trans List.countP_le_length (by simp);obtain ⟨cn,hcn⟩:∃ c,(List.range q).countP p=c:=⟨_,rfl⟩
  rw [hcn] at HCT hle ⊢;clear hcn;obtain ⟨ca,cc,ec,hcs⟩:=HZ.out wr HQ.out.2.1;simp only [Value.slice.injEq,true_and] at ec;obtain ⟨rfl,rfl⟩:=ec;obtain ⟨gs,os,rfl,hgs,ks0⟩:=hcs q hlt;have HC1:=hide (HC.out q hlt wr HQ.out.1 HQ.out.2.1);obtain ⟨si,hsi⟩:∃ X,zs[q]=X:=⟨_,rfl⟩
  rw [hsi] at ks0 HC1;clear hsi;have HQ2:Hid (Inv q wr/\Chg S w wr/\AtC wr w.heap.size 89 #[.slice (some ⟨gs,os,none⟩) zs.length vc,.func (.func g) #[] #[cp]]):=HQ.out;have hbw:¬ w.heap.size=wr.heap.size:=by have:=HQ.out.2.2.lt;omega
  have hgw:¬ gs=wr.heap.size:=by omega
  have m0:wr.cell? ⟨w.heap.size,0,none⟩=some (.slice (some ⟨gs,os,none⟩) zs.length vc):=HQ2.out.2.2.cell 0;have m1:wr.cell? ⟨w.heap.size,1,none⟩=some (.func (.func g) #[] #[cp]):=HQ2.out.2.2.cell 1;clear hcs HQ;go_wp2_with fail
  refine HC1.out.mono ?_;rintro e w2 ⟨rfl,I2,G2⟩;have HN:Hid (Inv (q+1) w2/\Chg S w w2/\AtC w2 w.heap.size 89 #[.slice (some ⟨gs,os,none⟩) zs.length vc,.func (.func g) #[] #[cp]]):=⟨I2,HQ2.out.2.1.trans G2,(G2.block _ HQ2.out.2.2.lt (fun e=>by have:=HSS.out _ e;omega)).trans HQ2.out.2.2⟩
  clear I2 G2 HC1 HQ2 m0 m1
  cases hpq:p q with
  | true =>
   have HE:Hid ((List.range (q+1)).countP p=cn+1):=hide (by have:=HCT.out;rw [hpq] at this;simpa using this);clear hpq;go_wp2;go_roundw
   case rel=>exact ⟨q+1,by omega,by rw [HE.out];go_num,by go_num,HN.out⟩
   case measure=>simp [intOf];omega
  | false =>
   have HE:Hid ((List.range (q+1)).countP p=cn):=hide (by have:=HCT.out;rw [hpq] at this;simpa using this);clear hpq;go_wp2;go_roundw
   case rel=>exact ⟨q+1,by omega,by rw [HE.out],by go_num,HN.out⟩
   case measure=>simp [intOf];omega
theorem cntS_any (g:Nat)(eg:∀ args w,(callFunc g args).run Tryz.prog w=.ok (.enter g args) w)(cp av:Value)(zs:List Sl)(p:Nat->Bool)(Inv:Nat->World->Prop)(S:Nat->Prop)(w:World)(hl:zs.length<=1000)(hS:∀ k,S k->k < w.heap.size)(hz:∀ W,Chg S w W->RSl W av zs)(h0:∀ W,Below w.heap.size w W->Inv 0 W)(hst:∀ k W W',Inv k W->Below W.heap.size W W'->Inv k W')
  (hcall:∀ k (hk:k < zs.length) W,Inv k W->Chg S w W->Calls Tryz.prog g #[.agg #[.string (zs[k]).1,.int .i64 (zs[k]).2],cp] W fun e w'=>e=.returned (.bool (p k))/\Inv (k+1) w'/\Chg S W w') :
  Calls Tryz.prog 137 #[.agg #[av,.func (.func g) #[] #[cp]]] w fun e w'=>e=.returned (.int .i64 ((List.range zs.length).countP p:Nat))/\Inv zs.length w'/\Chg S w w':=by
 have HZ:=hide hz;obtain ⟨va,vc,rfl,-⟩:=hz w (Chg.refl _ _);have HS0:Hid (Inv 0 (w.alloc (.cells #[.slice va zs.length vc,.func (.func g) #[] #[cp]] 152))/\Chg S w (w.alloc (.cells #[.slice va zs.length vc,.func (.func g) #[] #[cp]] 152))/\AtC (w.alloc (.cells #[.slice va zs.length vc,.func (.func g) #[] #[cp]] 152)) w.heap.size 152 #[.slice va zs.length vc,.func (.func g) #[] #[cp]]):=⟨h0 _ ((Below.refl _ w).alloc nR _),Chg.of_below ((Below.refl _ w).alloc nR _),AtC.new _ _ _⟩
 have HST:=hide hst;have HC:=hide hcall;have HSS:=hide hS;clear hz h0 hst hcall hS;go_enter Tryz.func137,Tryz.ntmps137
 go_wp2_with fail
 go_loopw [3,9] (fun nv kv wr=>∃ (q:Nat),q<=zs.length/\nv=.int .i64 ((((List.range q).countP p:Nat)):Int)/\kv=.int .i64 q/\Hid (Inv q wr/\Chg S w wr/\AtC wr w.heap.size 152 #[.slice va zs.length vc,.func (.func g) #[] #[cp]])) (fun _ kv _=>zs.length - (intOf kv).toNat)
 case atStart=>exact ⟨0,Nat.zero_le _,by simp,rfl,HS0.out⟩
 case round =>
  obtain ⟨q,hq,rfl,rfl,HQ⟩:=hrel;clear HS0;have q0:(0:Int)<=(q:Int):=by omega
  by_cases hlt:q < zs.length
  rotate_left
  ·have q1:¬ ((q:Int) < (zs.length:Int)):=by omega
   go_wp2;go_ret;obtain rfl:q=zs.length:=by omega
   exact ⟨rfl,HQ.out.1,HQ.out.2.1⟩
  have q1:(q:Int) < (zs.length:Int):=by omega
  have HCT:Hid ((List.range (q+1)).countP p=(List.range q).countP p+if p q=true then 1 else 0):=by
   show _=_;rw [List.range_succ,List.countP_append,List.countP_cons,List.countP_nil,Nat.zero_add]
  have hle:(List.range q).countP p<=q:=Nat.le_trans List.countP_le_length (by simp);obtain ⟨cn,hcn⟩:∃ c,(List.range q).countP p=c:=⟨_,rfl⟩
  rw [hcn] at HCT hle ⊢;clear hcn;obtain ⟨ca,cc,ec,-,hcs⟩:=HZ.out wr HQ.out.2.1;simp only [Value.slice.injEq,true_and] at ec;obtain ⟨rfl,rfl⟩:=ec;obtain ⟨gs,os,rfl,hgs,ks0,ks1⟩:=hcs q hlt;obtain ⟨⟨sn,si⟩,hsi⟩:∃ X,zs[q]=X:=⟨_,rfl⟩
  have HQ2:Hid (Inv q (wr.alloc (.cells #[.string sn,.int .i64 si] 100))/\Chg S w (wr.alloc (.cells #[.string sn,.int .i64 si] 100))/\AtC (wr.alloc (.cells #[.string sn,.int .i64 si] 100)) w.heap.size 152 #[.slice (some ⟨gs,os,none⟩) zs.length vc,.func (.func g) #[] #[cp]]):=by
   have b:=(Below.refl _ wr).alloc nR (.cells #[.string sn,.int .i64 si] 100);exact ⟨HST.out q wr _ HQ.out.1 b,HQ.out.2.1.trans (Chg.of_below b),HQ.out.2.2.over b⟩
  have HC1:=hide (HC.out q hlt (wr.alloc (.cells #[.string sn,.int .i64 si] 100)) HQ2.out.1 HQ2.out.2.1);rw [hsi] at ks0 ks1 HC1;simp only at ks0 ks1 HC1;clear hsi;have hbw:¬ w.heap.size=wr.heap.size:=by have:=HQ.out.2.2.lt;omega
  have hgw:¬ gs=wr.heap.size:=by omega
  have m0:(wr.alloc (.cells #[.string sn,.int .i64 si] 100)).cell? ⟨w.heap.size,0,none⟩=some (.slice (some ⟨gs,os,none⟩) zs.length vc):=HQ2.out.2.2.cell 0;have m1:(wr.alloc (.cells #[.string sn,.int .i64 si] 100)).cell? ⟨w.heap.size,1,none⟩=some (.func (.func g) #[] #[cp]):=HQ2.out.2.2.cell 1;clear hcs HQ;go_wp2_with fail
  refine HC1.out.mono ?_;rintro e w2 ⟨rfl,I2,G2⟩;have HN:Hid (Inv (q+1) w2/\Chg S w w2/\AtC w2 w.heap.size 152 #[.slice (some ⟨gs,os,none⟩) zs.length vc,.func (.func g) #[] #[cp]]):=⟨I2,HQ2.out.2.1.trans G2,(G2.block _ HQ2.out.2.2.lt (fun e=>by have:=HSS.out _ e;omega)).trans HQ2.out.2.2⟩
  clear I2 G2 HC1 HQ2 m0 m1
  cases hpq:p q with
  | true =>
   have HE:Hid ((List.range (q+1)).countP p=cn+1):=hide (by have:=HCT.out;rw [hpq] at this;simpa using this);clear hpq;go_wp2;go_roundw
   case rel=>exact ⟨q+1,by omega,by rw [HE.out];go_num,by go_num,HN.out⟩
   case measure=>simp [intOf];omega
  | false =>
   have HE:Hid ((List.range (q+1)).countP p=cn):=hide (by have:=HCT.out;rw [hpq] at this;simpa using this);clear hpq;go_wp2;go_roundw
   case rel=>exact ⟨q+1,by omega,by rw [HE.out],by go_num,HN.out⟩
   case measure=>simp [intOf];omega
theorem zht (g:Nat)(eg:∀ args w,(callFunc g args).run Tryz.prog w=.ok (.enter g args) w)(cp av:Value)(zs:List Pr)(p:Nat->Bool)(Inv:Nat->World->Prop)(S:Nat->Prop)(w:World)(hl:zs.length<=1000)(hS:∀ k,S k->k < w.heap.size)(hz:∀ W,Chg S w W->RPr W av zs)(h0:∀ W,Below w.heap.size w W->Inv 0 W)(hst:∀ k W W',Inv k W->Below W.heap.size W W'->Inv k W')
  (hcall:∀ k (hk:k < zs.length) W,Inv k W->Chg S w W->Calls Tryz.prog g #[.agg #[.int .i64 (zs[k]).1,.int .i64 (zs[k]).2],cp] W fun e w'=>e=.returned (.bool (p k))/\Inv (k+1) w'/\Chg S W w') :
  Calls Tryz.prog 140 #[.agg #[av,.func (.func g) #[] #[cp]]] w fun e w'=>e=.returned (.int .i64 ((List.range zs.length).countP p:Nat))/\Inv zs.length w'/\Chg S w w':=by
 have HZ:=hide hz;obtain ⟨va,vc,rfl,-⟩:=hz w (Chg.refl _ _);have HS0:Hid (Inv 0 (w.alloc (.cells #[.slice va zs.length vc,.func (.func g) #[] #[cp]] 156))/\Chg S w (w.alloc (.cells #[.slice va zs.length vc,.func (.func g) #[] #[cp]] 156))/\AtC (w.alloc (.cells #[.slice va zs.length vc,.func (.func g) #[] #[cp]] 156)) w.heap.size 156 #[.slice va zs.length vc,.func (.func g) #[] #[cp]]):=⟨h0 _ ((Below.refl _ w).alloc nR _),Chg.of_below ((Below.refl _ w).alloc nR _),AtC.new _ _ _⟩
 have HST:=hide hst;have HC:=hide hcall;have HSS:=hide hS;clear hz h0 hst hcall hS;go_enter Tryz.func140,Tryz.ntmps140
 go_wp2_with fail
 go_loopw [3,9] (fun nv kv wr=>∃ (q:Nat),q<=zs.length/\nv=.int .i64 ((((List.range q).countP p:Nat)):Int)/\kv=.int .i64 q/\Hid (Inv q wr/\Chg S w wr/\AtC wr w.heap.size 156 #[.slice va zs.length vc,.func (.func g) #[] #[cp]])) (fun _ kv _=>zs.length - (intOf kv).toNat)
 case atStart=>exact ⟨0,Nat.zero_le _,by simp,rfl,HS0.out⟩
 case round =>
  obtain ⟨q,hq,rfl,rfl,HQ⟩:=hrel;clear HS0;have q0:(0:Int)<=(q:Int):=by omega
  by_cases hlt:q < zs.length
  rotate_left
  ·have q1:¬ ((q:Int) < (zs.length:Int)):=by omega
   go_wp2;go_ret;obtain rfl:q=zs.length:=by omega
   exact ⟨rfl,HQ.out.1,HQ.out.2.1⟩
  have q1:(q:Int) < (zs.length:Int):=by omega
  have HCT:Hid ((List.range (q+1)).countP p=(List.range q).countP p+if p q=true then 1 else 0):=by
   show _=_;rw [List.range_succ,List.countP_append,List.countP_cons,List.countP_nil,Nat.zero_add]
  have hle:(List.range q).countP p<=q:=Nat.le_trans List.countP_le_length (by simp);obtain ⟨cn,hcn⟩:∃ c,(List.range q).countP p=c:=⟨_,rfl⟩
  rw [hcn] at HCT hle ⊢;clear hcn;obtain ⟨ca,cc,ec,-,hcs⟩:=HZ.out wr HQ.out.2.1;simp only [Value.slice.injEq,true_and] at ec;obtain ⟨rfl,rfl⟩:=ec;obtain ⟨gs,os,rfl,hgs,ks0,ks1⟩:=hcs q hlt;obtain ⟨⟨sn,si⟩,hsi⟩:∃ X,zs[q]=X:=⟨_,rfl⟩
  have HQ2:Hid (Inv q (wr.alloc (.cells #[.int .i64 sn,.int .i64 si] 127))/\Chg S w (wr.alloc (.cells #[.int .i64 sn,.int .i64 si] 127))/\AtC (wr.alloc (.cells #[.int .i64 sn,.int .i64 si] 127)) w.heap.size 156 #[.slice (some ⟨gs,os,none⟩) zs.length vc,.func (.func g) #[] #[cp]]):=by
   have b:=(Below.refl _ wr).alloc nR (.cells #[.int .i64 sn,.int .i64 si] 127);exact ⟨HST.out q wr _ HQ.out.1 b,HQ.out.2.1.trans (Chg.of_below b),HQ.out.2.2.over b⟩
  have HC1:=hide (HC.out q hlt (wr.alloc (.cells #[.int .i64 sn,.int .i64 si] 127)) HQ2.out.1 HQ2.out.2.1);rw [hsi] at ks0 ks1 HC1;simp only at ks0 ks1 HC1;clear hsi;have hbw:¬ w.heap.size=wr.heap.size:=by have:=HQ.out.2.2.lt;omega
  have hgw:¬ gs=wr.heap.size:=by omega
  have m0:(wr.alloc (.cells #[.int .i64 sn,.int .i64 si] 127)).cell? ⟨w.heap.size,0,none⟩=some (.slice (some ⟨gs,os,none⟩) zs.length vc):=HQ2.out.2.2.cell 0;have m1:(wr.alloc (.cells #[.int .i64 sn,.int .i64 si] 127)).cell? ⟨w.heap.size,1,none⟩=some (.func (.func g) #[] #[cp]):=HQ2.out.2.2.cell 1;clear hcs HQ;go_wp2_with fail
  refine HC1.out.mono ?_;rintro e w2 ⟨rfl,I2,G2⟩;have HN:Hid (Inv (q+1) w2/\Chg S w w2/\AtC w2 w.heap.size 156 #[.slice (some ⟨gs,os,none⟩) zs.length vc,.func (.func g) #[] #[cp]]):=⟨I2,HQ2.out.2.1.trans G2,(G2.block _ HQ2.out.2.2.lt (fun e=>by have:=HSS.out _ e;omega)).trans HQ2.out.2.2⟩
  clear I2 G2 HC1 HQ2 m0 m1
  cases hpq:p q with
  | true =>
   have HE:Hid ((List.range (q+1)).countP p=cn+1):=hide (by have:=HCT.out;rw [hpq] at this;simpa using this);clear hpq;go_wp2;go_roundw
   case rel=>exact ⟨q+1,by omega,by rw [HE.out];go_num,by go_num,HN.out⟩
   case measure=>simp [intOf];omega
  | false =>
   have HE:Hid ((List.range (q+1)).countP p=cn):=hide (by have:=HCT.out;rw [hpq] at this;simpa using this);clear hpq;go_wp2;go_roundw
   case rel=>exact ⟨q+1,by omega,by rw [HE.out],by go_num,HN.out⟩
   case measure=>simp [intOf];omega
theorem c61_any (nm:ByteArray)(io:Int)(a1 a2 a3 a4:Option Addr)(c1 c2 c3 c4:Nat)(xs ys:List Bool)(is:List Ino)(bs:List Blk)(dk:Nat)(w:World)(h:DR w (.slice a1 xs.length c1) (.slice a2 ys.length c2) (.slice a3 is.length c3) (.slice a4 bs.length c4) xs ys is bs)(hR:RD is bs)(hd:AtC w dk 35 #[.slice a1 xs.length c1,.slice a2 ys.length c2,.slice a3 is.length c3,.slice a4 bs.length c4]) :
  Calls Tryz.prog 136 #[.agg #[.string nm,.int .i64 io],.pointer (some ⟨dk,0,none⟩)] w fun e w'=>e=.returned (.bool (decide (zab is io=0)))/\Below w.heap.size w w':=by
 have CK:=hide (zbm io (.slice a1 xs.length c1) (.slice a2 ys.length c2) (.slice a3 is.length c3) (.slice a4 bs.length c4) xs ys is bs (w.alloc (.cells #[.string nm,.int .i64 io] 100)) (h.alloc _) hR);have hd1:=hd.alloc (.cells #[.string nm,.int .i64 io] 100);have HB0:Hid (Below w.heap.size w (w.alloc (.cells #[.string nm,.int .i64 io] 100))):=(Below.refl _ w).alloc nR _;have z0:(w.alloc (.cells #[.string nm,.int .i64 io] 100)).cell? ⟨dk,0,none⟩=some (.slice a1 xs.length c1):=hd1.cell 0;have z1:(w.alloc (.cells #[.string nm,.int .i64 io] 100)).cell? ⟨dk,1,none⟩=some (.slice a2 ys.length c2):=hd1.cell 1;have z2:(w.alloc (.cells #[.string nm,.int .i64 io] 100)).cell? ⟨dk,2,none⟩=some (.slice a3 is.length c3):=hd1.cell 2;have z3:(w.alloc (.cells #[.string nm,.int .i64 io] 100)).cell? ⟨dk,3,none⟩=some (.slice a4 bs.length c4):=hd1.cell 3;have hdw:¬ dk=w.heap.size:=by have:=hd.lt;omega
 obtain ⟨kd,hkd⟩:∃ k,zab is io=k:=⟨_,rfl⟩
 rw [hkd] at CK ⊢;have hkb:(kd == 0)=decide (kd=0):=by by_cases e:kd=0<;>simp [e]
 rw [← hkb];clear h hR hd hd1 hkd hkb;go_enter Tryz.func136,Tryz.ntmps136
 go_wp2_with fail
 refine CK.out.mono ?_;rintro e w1 ⟨rfl,B1⟩;have HB1:=hide (HB0.out.trans (B1.mono HB0.out.size));clear B1 CK z0 z1 z2 z3;go_wp2;go_ret;exact ⟨rfl,HB1.out⟩
theorem c64_any (i:Int)(q:Nat)(hb:Nat)(h:List Bool)(w:World)(hh:AtC w hb 138 (hA h))(hn:h.length=16)(hq:q < 16) :
  Calls Tryz.prog 139 #[.agg #[.int .i64 i,.int .i64 ((q:Int)+1)],.pointer (some ⟨hb,0,none⟩)] w fun e w'=>e=.returned (.bool (h.getD q false))/\AtC w' hb 138 (hA (h.set q true))/\Chg (fun k=>k=hb) w w':=by
 have q0:(0:Int)<=(q:Int):=by omega
 have q1:(q:Int) < 16:=by omega
 have hwq:IntKind.i64.wrap (q:Int)=(q:Int):=wrap_small _ (by omega) (by omega);have hbw:¬ hb=w.heap.size:=by have:=hh.lt;omega
 have hbw2:¬ w.heap.size=hb:=fun e=>hbw e.symm;have h1:=hh.alloc (.cells #[.int .i64 i,.int .i64 ((q:Int)+1)] 127);have k0:=(h1.cell q).trans (zdz h q (by omega));have f0:=h1.frozen q;have HF:Hid (AtC ((w.alloc (.cells #[.int .i64 i,.int .i64 ((q:Int)+1)] 127)).setCell ⟨hb,q,none⟩ (.bool true)) hb 138 (hA (h.set q true))/\Chg (fun k=>k=hb) w ((w.alloc (.cells #[.int .i64 i,.int .i64 ((q:Int)+1)] 127)).setCell ⟨hb,q,none⟩ (.bool true))):=⟨by rw [← zgj];exact h1.set q _,(Chg.of_below (S:=fun k=>k=hb) ((Below.refl _ w).alloc nR _)).setCell rfl _⟩
 obtain ⟨b,hb'⟩:∃ b,h.getD q false=b:=⟨_,rfl⟩
 rw [hb'] at k0 ⊢;clear hh h1 hb' hn hq;go_enter Tryz.func139,Tryz.ntmps139
 go_wp2;go_ret;exact ⟨rfl,HF.out⟩
theorem zle (v:Value)(zs:List Bool)(q:Nat)(w:World)(h:RFl w v zs)(hz:zs.length<=16)(hq:q < zs.length) :
  Calls Tryz.prog 142 #[v,.int .i64 ((q:Int)+1)] w fun e w'=>e=.returned (.bool (!(zs.getD q false)))/\w'=w:=by
 obtain ⟨a,c,rfl,hc⟩:=h;obtain ⟨g,o,rfl,-,k0⟩:=hc q hq;have hg:zs.getD q false=zs[q]:=by simp [hq]
 rw [hg];obtain ⟨b,hb⟩:∃ b,zs[q]=b:=⟨_,rfl⟩
 rw [hb] at k0 ⊢;have q0:(0:Int)<=(q:Int):=by omega
 have q1:(q:Int) < (zs.length:Int):=by omega
 have q2:(q:Int)+1<=(zs.length:Int):=by omega
 have hwq:IntKind.i64.wrap (q:Int)=(q:Int):=wrap_small _ (by omega) (by omega);clear hc hg hb;go_enter Tryz.func142,Tryz.ntmps142
 go_wp2;go_ret;exact ⟨rfl,rfl⟩
theorem c67_any (i:Int)(q:Nat)(a1 a2 a3 a4:Option Addr)(c1 c2 c3 c4:Nat)(xs ys:List Bool)(is:List Ino)(bs:List Blk)(dk:Nat)(w:World)(h:DR w (.slice a1 xs.length c1) (.slice a2 ys.length c2) (.slice a3 is.length c3) (.slice a4 bs.length c4) xs ys is bs)(hX:RX xs ys is bs)(hd:AtC w dk 35 #[.slice a1 xs.length c1,.slice a2 ys.length c2,.slice a3 is.length c3,.slice a4 bs.length c4])(hq:q < 16) :
  Calls Tryz.prog 141 #[.agg #[.int .i64 i,.int .i64 ((q:Int)+1)],.pointer (some ⟨dk,0,none⟩)] w fun e w'=>e=.returned (.bool (!(xs.getD q false)))/\Below w.heap.size w w':=by
 have CT:=hide (zle _ xs q (w.alloc (.cells #[.int .i64 i,.int .i64 ((q:Int)+1)] 127)) (h.alloc _).a (by rw [hX.bx];exact Nat.le_refl _) (by rw [hX.bx];exact hq));have hd1:=hd.alloc (.cells #[.int .i64 i,.int .i64 ((q:Int)+1)] 127);have HB0:Hid (Below w.heap.size w (w.alloc (.cells #[.int .i64 i,.int .i64 ((q:Int)+1)] 127))):=(Below.refl _ w).alloc nR _;have z0:(w.alloc (.cells #[.int .i64 i,.int .i64 ((q:Int)+1)] 127)).cell? ⟨dk,0,none⟩=some (.slice a1 xs.length c1):=hd1.cell 0;have z1:(w.alloc (.cells #[.int .i64 i,.int .i64 ((q:Int)+1)] 127)).cell? ⟨dk,1,none⟩=some (.slice a2 ys.length c2):=hd1.cell 1;have z2:(w.alloc (.cells #[.int .i64 i,.int .i64 ((q:Int)+1)] 127)).cell? ⟨dk,2,none⟩=some (.slice a3 is.length c3):=hd1.cell 2;have z3:(w.alloc (.cells #[.int .i64 i,.int .i64 ((q:Int)+1)] 127)).cell? ⟨dk,3,none⟩=some (.slice a4 bs.length c4):=hd1.cell 3;have hdw:¬ dk=w.heap.size:=by have:=hd.lt;omega
 clear h hX hd hd1;go_enter Tryz.func141,Tryz.ntmps141
 go_wp2_with fail
 refine CT.out.mono ?_;rintro e w1 ⟨rfl,rfl⟩;go_wp2;go_ret;exact ⟨rfl,HB0.out⟩
theorem c70_any (q:Nat)(a1 a2 a3 a4:Option Addr)(c1 c2 c3 c4:Nat)(xs ys:List Bool)(is:List Ino)(bs:List Blk)(dk:Nat)(w:World)(h:DR w (.slice a1 xs.length c1) (.slice a2 ys.length c2) (.slice a3 is.length c3) (.slice a4 bs.length c4) xs ys is bs)(hX:RX xs ys is bs)(hd:AtC w dk 35 #[.slice a1 xs.length c1,.slice a2 ys.length c2,.slice a3 is.length c3,.slice a4 bs.length c4])(hq:q < 8) :
  Calls Tryz.prog 143 #[.int .i64 ((q:Int)+1),.pointer (some ⟨dk,0,none⟩)] w fun e w'=>e=.returned (.bool (!(ys.getD q false)))/\w'=w:=by
 have CT:=hide (zle _ ys q w h.b (by rw [hX.y8];decide) (by rw [hX.y8];exact hq));obtain ⟨z0,z1,z2,z3⟩:=AtC.four hd;clear h hX hd;go_enter Tryz.func143,Tryz.ntmps143
 go_wp2_with fail
 refine CT.out.mono ?_;rintro e w1 ⟨rfl,rfl⟩;go_wp2;go_ret;exact ⟨rfl,rfl⟩
def lnkAt (is:List Ino) (q:Nat):Int:=(is.getD q (0,0,[])).2.1
theorem c71_any (q:Nat)(a1 a2 a3 a4:Option Addr)(c1 c2 c3 c4:Nat)(xs ys:List Bool)(is:List Ino)(bs:List Blk)(dk:Nat)(w:World)(h:DR w (.slice a1 xs.length c1) (.slice a2 ys.length c2) (.slice a3 is.length c3) (.slice a4 bs.length c4) xs ys is bs)(hX:RX xs ys is bs)(hd:AtC w dk 35 #[.slice a1 xs.length c1,.slice a2 ys.length c2,.slice a3 is.length c3,.slice a4 bs.length c4])(hq:q < 8) :
  Calls Tryz.prog 144 #[.int .i64 ((q:Int)+1),.pointer (some ⟨dk,0,none⟩)] w fun e w'=>e=.returned (.bool (decide (¬ q=0/\lnkAt is q < zan is bs ((q:Int)+1))))/\Below w.heap.size w w':=by
 by_cases hq0:q=0
 ·subst hq0;obtain ⟨z0,z1,z2,z3⟩:=AtC.four hd.drew;clear h hX hd hq;go_enter Tryz.func144,Tryz.ntmps144
  go_upto_region 1 with fail
  go_quiet (fail)
  go_wp2;go_ret;exact ⟨rfl,below_drewN bR _⟩
 have hj:q < is.length:=by rw [hX.r.hi];exact hq
 obtain ⟨g2,o2,sa,sc,rfl,hg2,-,y1,-,-⟩:=DR.ino h q hj;have el:lnkAt is q=is[q].2.1:=by unfold lnkAt;simp [hj]
 rw [← el] at y1;have hqb:((q:Int)+1 != 1)=true:=by simp;omega
 have q0:(0:Int)<=(q:Int):=by omega
 have q1:(q:Int) < (is.length:Int):=by omega
 have hwq:IntKind.i64.wrap (q:Int)=(q:Int):=wrap_small _ (by omega) (by omega);have CL:=hide (zcq ((q:Int)+1) (.slice a1 xs.length c1) (.slice a2 ys.length c2) (.slice (some ⟨g2,o2,none⟩) is.length c3) (.slice a4 bs.length c4) xs ys is bs w.drew h.drew hX.r);have y1':w.drew.cell? ⟨g2,o2+q * 3+1,none⟩=some (.int .i64 (lnkAt is q)):=y1;obtain ⟨z0,z1,z2,z3⟩:=AtC.four hd.drew;have HD:=hide hd;have HW:Hid (∀ w1,Below w.drew.heap.size w.drew w1->w1.cell? ⟨g2,o2+q * 3+1,none⟩=some (.int .i64 (lnkAt is q))/\AtC w1 dk 35 #[.slice a1 xs.length c1,.slice a2 ys.length c2,.slice (some ⟨g2,o2,none⟩) is.length c3,.slice a4 bs.length c4]):=fun w1 b=>⟨(b.cell (p:=⟨g2,o2+q * 3+1,none⟩) hg2).trans y1,hd.drew.over b⟩
 obtain ⟨lk,hlk⟩:∃ l,lnkAt is q=l:=⟨_,rfl⟩
 obtain ⟨ln,hln⟩:∃ l,zan is bs ((q:Int)+1)=l:=⟨_,rfl⟩
 rw [hlk] at y1' HW ⊢;rw [hln] at CL ⊢;have hres:decide (¬ q=0/\lk < (ln:Int))=decide (lk < (ln:Int)):=by simp [hq0]
 rw [hres];clear h hX hd hq y1 el hlk hln hres hq0;go_enter Tryz.func144,Tryz.ntmps144
 go_upto_region 1 with fail
 go_region_with (go_at_call 110;refine CL.out.mono ?_;rintro e w2 ⟨rfl,B2⟩;have x1:=(HW.out _ B2).1;have x2:w2.cell? ⟨dk,2,none⟩=some (.slice (some ⟨g2,o2,none⟩) is.length c3):=(HW.out _ B2).2.cell 2)
 all_goals (try go_wp2)
 all_goals go_ret
 all_goals exact ⟨rfl,zaa B2⟩
theorem c73_any (io:Int)(q:Nat)(a1 a2 a3 a4:Option Addr)(c1 c2 c3 c4:Nat)(xs ys:List Bool)(is:List Ino)(bs:List Blk)(dk:Nat)(w:World)(h:DR w (.slice a1 xs.length c1) (.slice a2 ys.length c2) (.slice a3 is.length c3) (.slice a4 bs.length c4) xs ys is bs)(hX:RX xs ys is bs)(hd:AtC w dk 35 #[.slice a1 xs.length c1,.slice a2 ys.length c2,.slice a3 is.length c3,.slice a4 bs.length c4])(hq:q < 16) :
  Calls Tryz.prog 145 #[.agg #[.int .i64 io,.int .i64 ((q:Int)+1)],.pointer (some ⟨dk,0,none⟩)] w fun e w'=>e=.returned (.bool ((blkAt bs ((q:Int)+1)).1 != (zab is io == 2)))/\Below w.heap.size w w':=by
 have CT:=hide (zn8 io q a1 a2 a3 a4 c1 c2 c3 c4 xs ys is bs (w.alloc (.cells #[.int .i64 io,.int .i64 ((q:Int)+1)] 127)) (h.alloc _) hX hq);have hd1:=hd.alloc (.cells #[.int .i64 io,.int .i64 ((q:Int)+1)] 127);have HB0:Hid (Below w.heap.size w (w.alloc (.cells #[.int .i64 io,.int .i64 ((q:Int)+1)] 127))):=(Below.refl _ w).alloc nR _;have z0:(w.alloc (.cells #[.int .i64 io,.int .i64 ((q:Int)+1)] 127)).cell? ⟨dk,0,none⟩=some (.slice a1 xs.length c1):=hd1.cell 0;have z1:(w.alloc (.cells #[.int .i64 io,.int .i64 ((q:Int)+1)] 127)).cell? ⟨dk,1,none⟩=some (.slice a2 ys.length c2):=hd1.cell 1;have z2:(w.alloc (.cells #[.int .i64 io,.int .i64 ((q:Int)+1)] 127)).cell? ⟨dk,2,none⟩=some (.slice a3 is.length c3):=hd1.cell 2;have z3:(w.alloc (.cells #[.int .i64 io,.int .i64 ((q:Int)+1)] 127)).cell? ⟨dk,3,none⟩=some (.slice a4 bs.length c4):=hd1.cell 3;have hdw:¬ dk=w.heap.size:=by have:=hd.lt;omega
 obtain ⟨r,hr⟩:∃ r,((blkAt bs ((q:Int)+1)).1 != (zab is io == 2))=r:=⟨_,rfl⟩
 rw [hr] at CT ⊢;clear h hX hd hd1 hr;go_enter Tryz.func145,Tryz.ntmps145
 go_wp2_with fail
 refine CT.out.mono ?_;rintro e w1 ⟨rfl,B1⟩;have HB1:=hide (HB0.out.trans (B1.mono HB0.out.size));clear B1;go_wp2;go_ret;exact ⟨rfl,HB1.out⟩
def dangN (is:List Ino) (bs:List Blk):Nat:=(zbh is bs).countP (fun s=>decide (zab is s.2=0))
theorem zi9 (dx dy iv bv:Value)(xs ys:List Bool)(is:List Ino)(bs:List Blk)(w:World)(h:DR w dx dy iv bv xs ys is bs)(hX:RX xs ys is bs) :
  Calls Tryz.prog 82 #[.agg #[dx,dy,iv,bv]] w fun e w'=>e=.returned (.int .i64 (dangN is bs))/\Below w.heap.size w w':=by
 have hR:=hX.r;obtain ⟨a1,c1,a2,c2,a3,c3,a4,c4,rfl,rfl,rfl,rfl⟩:=h.form;have HB0:Hid (Below w.heap.size w (w.alloc (.cells #[.slice a1 xs.length c1,.slice a2 ys.length c2,.slice a3 is.length c3,.slice a4 bs.length c4] 35))):=(Below.refl _ w).alloc nR _;have HA0:=hide (AtC.new w 35 #[.slice a1 xs.length c1,.slice a2 ys.length c2,.slice a3 is.length c3,.slice a4 bs.length c4]);have CR:=hide (zav (.slice a1 xs.length c1) (.slice a2 ys.length c2) (.slice a3 is.length c3) (.slice a4 bs.length c4) xs ys is bs (w.alloc (.cells #[.slice a1 xs.length c1,.slice a2 ys.length c2,.slice a3 is.length c3,.slice a4 bs.length c4] 35)) (h.alloc _) hR);have CN:=hide (fun (x:Int) (W:World) (hb:Below w.heap.size w W)=>zfm x (.slice a1 xs.length c1) (.slice a2 ys.length c2) (.slice a3 is.length c3) (.slice a4 bs.length c4) xs ys is bs W (h.below hb nR) hR);have HL8:Hid (∀ x,(named is bs x).length<=8):=hR.named8;have HLT:Hid (∀ q,((((reachL is bs).take q).flatMap (named is bs)).countP (fun s=>decide (zab is s.2=0)))<=64):=fun q=>by
  have h1:=zd1 hR ((reachL is bs).take q);have h2:=zah is bs;rw [List.length_take] at h1;exact Nat.le_trans List.countP_le_length (by omega)
 have HI8:=hide hR.hi;have HIN:=hide h;have HXS:Hid (∀ x,∀ s∈named is bs x,1<=s.2/\s.2<=8):=fun x s hs=>hX.slot hs;have HR8:=hide (zah is bs);have HFT:=hide (fun q hq=>zd0 (reachL is bs) (named is bs) q hq);obtain ⟨RL,hRL⟩:∃ l,reachL is bs=l:=⟨_,rfl⟩
 have HRES:Hid (zbh is bs=RL.flatMap (named is bs)):=by show zbh is bs=_;unfold zbh;rw [hRL]
 have HFIN:Hid ((dangN is bs)=(RL.flatMap (named is bs)).countP (fun s=>decide (zab is s.2=0))):=by
  show _=_;rw [← HRES.out];rfl
 rw [HFIN.out];rw [hRL] at CR HLT HR8 HFT;clear h hR hX hRL HRES HFIN;go_enter Tryz.func82,Tryz.ntmps82
 go_wp2_with fail
 refine CR.out.mono ?_;rintro e w1 ⟨rv,rfl,R1,B1⟩;have HB1:=hide (HB0.out.trans (B1.mono HB0.out.size));have HA1:=hide (HA0.out.over B1);obtain ⟨ra,rc,rfl,hcr⟩:=R1.rints;have HCR:=hide hcr;have r8:RL.length<=8:=HR8.out;clear R1 B1 CR HB0 HA0 hcr;go_wp2_with fail
 go_loopw [3,5] (fun nv kv wr=>∃ (q:Nat),q<=RL.length/\nv=.int .i64 ((((RL.take q).flatMap (named is bs)).countP (fun s=>decide (zab is s.2=0)):Nat):Int)/\kv=.int .i64 q/\Hid (Below w1.heap.size w1 wr)) (fun _ kv _=>RL.length - (intOf kv).toNat)
 case atStart=>exact ⟨0,Nat.zero_le _,by simp,rfl,Below.refl _ _⟩
 case round =>
  obtain ⟨q,hq,rfl,rfl,HQ⟩:=hrel;obtain ⟨wo,hwo⟩:∃ wo,wo=wr:=⟨_,rfl⟩
  subst hwo;have q0:(0:Int)<=(q:Int):=by omega
  by_cases hlt:q < RL.length
  rotate_left
  ·have q1:¬ ((q:Int) < (RL.length:Int)):=by omega
   rw [List.take_of_length_le (by omega)];go_wp2;go_ret;exact ⟨rfl,HB1.out.trans (HQ.out.mono HB1.out.size)⟩
  have q1:(q:Int) < (RL.length:Int):=by omega
  obtain ⟨gr,orr,rfl,hgr,kr⟩:=HCR.out q hlt;have HF1:=hide (HFT.out q hlt);have hn64:=HLT.out (q+1);obtain ⟨di,hdi⟩:∃ x,RL[q]=x:=⟨_,rfl⟩
  rw [hdi] at kr HF1;rw [HF1.out,List.countP_append] at hn64;obtain ⟨c0,hc0⟩:∃ c,((RL.take q).flatMap (named is bs)).countP (fun s=>decide (zab is s.2=0))=c:=⟨_,rfl⟩
  have HC1:Hid (((RL.take (q+1)).flatMap (named is bs)).countP (fun s=>decide (zab is s.2=0))=c0+(named is bs di).countP (fun s=>decide (zab is s.2=0))):=by
   show _=_;rw [HF1.out,List.countP_append,hc0]
  rw [hc0] at hn64 ⊢;have HW:Hid (∀ W,Below wo.heap.size wo W->Below w.heap.size w W/\AtC W w.heap.size 35 #[.slice a1 xs.length c1,.slice a2 ys.length c2,.slice a3 is.length c3,.slice a4 bs.length c4]/\W.cell? ⟨gr,orr+q,none⟩=some (.int .i64 di)/\Below w1.heap.size w1 W):=fun W b=>by
   have b1:=HQ.out.trans (b.mono HQ.out.size);exact ⟨HB1.out.trans (b1.mono HB1.out.size),HA1.out.over b1,(b1.cell (p:=⟨gr,orr+q,none⟩) hgr).trans kr,b1⟩
  clear hdi kr hc0 HF1;go_upto_region 6 with fail
  go_cut [6] from 10 to 52 (fun sv wx=>∃ a c,sv=.slice a (named is bs di).length c/\RSl wx (.slice a (named is bs di).length c) (named is bs di)/\Below wo.heap.size wo wx)
  case first =>
   obtain ⟨-,A0,kr,-⟩:=HW.out wo.drew (Below.refl _ wo).drew;obtain ⟨z0,z1,z2,z3⟩:=AtC.four A0;have CN1:=hide (CN.out di wo.drew (HW.out wo.drew (Below.refl _ wo).drew).1);clear A0
   go_region_with (go_at_call 87;refine CN1.out.mono ?_;rintro e w2 ⟨nv,rfl,S2,B2⟩;obtain ⟨na,nc,rfl,-⟩:=S2.form)
   all_goals (try go_wp2_with fail)
   all_goals (go_meet;exact ⟨_,_,rfl,S2.rsl,zaa B2⟩)
  case rest =>
   obtain ⟨na,nc,rfl,hS2,hB2⟩:=hcut;obtain ⟨-,-,-,hB3⟩:=HW.out _ hB2;have HS2:=hide hS2;have HB3:=hide hB3;have HN8:=HL8.out di;clear hS2 hB2 hB3 HW HQ;obtain ⟨NS,hNS⟩:∃ X,named is bs di=X:=⟨_,rfl⟩
   have HXN:=hide (HXS.out di);rw [hNS] at HXN;rw [hNS] at HC1 HS2 HN8 hn64 ⊢;clear hNS;obtain ⟨wx,hwx⟩:∃ wx,wx=wc:=⟨_,rfl⟩
   subst hwx;go_wp2_with fail
   go_loopw [3,7] (fun nv kv wr=>∃ (t:Nat),t<=NS.length/\nv=.int .i64 (((c0+(NS.take t).countP (fun s=>decide (zab is s.2=0)):Nat)):Int)/\kv=.int .i64 t/\Hid (Below wx.heap.size wx wr)) (fun _ kv _=>NS.length - (intOf kv).toNat)
   case atStart=>exact ⟨0,Nat.zero_le _,by simp,rfl,Below.refl _ _⟩
   case round =>
    obtain ⟨t,ht,rfl,rfl,HT⟩:=hrel;have t0:(0:Int)<=(t:Int):=by omega
    by_cases htl:t < NS.length
    rotate_left
    ·have t1:¬ ((t:Int) < (NS.length:Int)):=by omega
     have HE:Hid (((RL.take (q+1)).flatMap (named is bs)).countP (fun s=>decide (zab is s.2=0))=c0+(NS.take t).countP (fun s=>decide (zab is s.2=0))):=by
      show _=_;rw [HC1.out,List.take_of_length_le (by omega)]
     go_wp2;go_roundw
     case rel=>exact ⟨q+1,by omega,by rw [HE.out],by go_num,HB3.out.trans (HT.out.mono HB3.out.size)⟩
     case measure=>simp [intOf];omega
    have t1:(t:Int) < (NS.length:Int):=by omega
    obtain ⟨ca,cc,ec,-,hcs⟩:=HS2.out;simp only [Value.slice.injEq,true_and] at ec;obtain ⟨rfl,rfl⟩:=ec;obtain ⟨gs,os,rfl,hgs,ks0,ks1⟩:=hcs t htl;have HCT:=hide (zcp NS (fun s=>decide (zab is s.2=0)) t htl);have hle:=zbt NS (fun s=>decide (zab is s.2=0)) t;obtain ⟨⟨sn,si⟩,hsn⟩:∃ X,NS[t]=X:=⟨_,rfl⟩
    have hrg:=HXN.out NS[t] (List.getElem_mem htl);rw [hsn] at hrg;simp only at hrg;rw [hsn] at ks0 ks1 HCT;simp only at ks0 ks1 HCT
    replace ks1:=(HT.out.cell (p:=⟨gs,os+t * 2+1,none⟩) hgs).trans ks1
    obtain ⟨c1',hc1⟩:∃ c,(NS.take t).countP (fun s=>decide (zab is s.2=0))=c:=⟨_,rfl⟩
    rw [hc1] at HCT hle ⊢;have hcle:c0+c1'<=1000:=by omega
    clear hsn hc1 hcs ks0;obtain ⟨bA,bD⟩:=And.intro ((HB3.out.trans (HT.out.mono HB3.out.size))) HA1.out;have x2:wr.cell? ⟨w.heap.size,2,none⟩=some (.slice a3 is.length c3):=(bD.over bA).cell 2;obtain ⟨j,rfl⟩:∃ j:Nat,si=(j:Int)+1:=⟨(si - 1).toNat,by have:=hrg.1;omega⟩
    have hj:j < is.length:=by have:=hrg.2;have:=HI8.out;omega
    have hj8:j < 8:=by have:=HI8.out;omega
    have j0:(0:Int)<=(j:Int):=by omega
    have j1:(j:Int) < (is.length:Int):=by omega
    have hwj:IntKind.i64.wrap (j:Int)=(j:Int):=wrap_small _ (by omega) (by omega);have hin:inB ((j:Int)+1) 1 is.length=true:=by simp [inB];omega
    have HIB:=hide hin;obtain ⟨g2,o2,sa2,sc2,rfl,hg2,y0,-,-,-⟩:=DR.ino HIN.out j hj
    replace y0:=((HB1.out.trans (bA.mono HB1.out.size)).cell (p:=⟨g2,o2+j * 3,none⟩) hg2).trans y0
    obtain ⟨kd,hkd⟩:∃ k,zab is ((j:Int)+1)=k:=⟨_,rfl⟩
    rw [hkd] at y0 HCT;have CI:=hide (fun (W:World)=>zam ((j:Int)+1) 1 (is.length:Int) W);rw [hin] at CI;clear bA bD hin hrg hkd;go_upto_region 10 with fail
    go_quiet ((go_at_call 80;exact Calls.quiet_of_same (CI.out _)))
    by_cases hk0:kd=0
    ·subst hk0;have HE:Hid ((NS.take (t+1)).countP (fun s=>decide (zab is s.2=0))=c1' + 1):=hide (by have:=HCT.out;simpa using this);go_wp2;go_roundw
     case rel=>exact ⟨t+1,by omega,by rw [HE.out];go_num,by go_num,below_drewN HT.out _⟩
     case measure=>simp [intOf];omega
    ·have HE:Hid ((NS.take (t+1)).countP (fun s=>decide (zab is s.2=0))=c1'):=hide (by have:=HCT.out;simpa [hk0] using this);go_wp2;go_roundw
     case rel=>exact ⟨t+1,by omega,by rw [HE.out],by go_num,below_drewN HT.out _⟩
     case measure=>simp [intOf];omega
theorem zev {α:Type}(l:List α)(d:α)(f:α->Bool):∀ q,q<=l.length->(List.range q).countP (fun k=>f (l.getD k d))=(l.take q).countP f
 | 0,_=>by simp
 | q+1,h=>by
  have hq:q < l.length:=by omega
  rw [List.range_succ,List.countP_append,zev l d f q (by omega),List.countP_cons,List.countP_nil,List.take_succ_eq_append_getElem hq,List.countP_append,List.countP_cons,List.countP_nil];simp [hq]
theorem zb4 {α:Type}(l:List α)(d:α)(f:α->Bool):(List.range l.length).countP (fun k=>f (l.getD k d))=l.countP f:=by
 rw [zev l d f _ nR,List.take_length]
theorem chgF {w W:World}(h:Chg (fun _=>False) w W):Below w.heap.size w W:=h.below nR (fun _ e=>e.elim)
def zdi (is:List Ino) (bs:List Blk):Nat:=(reachL is bs).countP fun i=>decide (¬ i=1/\lnkAt is (i - 1).toNat < zan is bs i)
def zdj (is:List Ino) (bs:List Blk):Nat:=(ptrL is (reachL is bs)).countP fun s=>(blkAt bs s.2).1 != (zab is s.1 == 2)
theorem eg61:∀ args w,(callFunc 136 args).run Tryz.prog w=.ok (.enter 136 args) w:=enters_of Tryz.func136 (by kernel_rfl) rfl
theorem eg71:∀ args w,(callFunc 144 args).run Tryz.prog w=.ok (.enter 144 args) w:=enters_of Tryz.func144 (by kernel_rfl) rfl
theorem eg73:∀ args w,(callFunc 145 args).run Tryz.prog w=.ok (.enter 145 args) w:=enters_of Tryz.func145 (by kernel_rfl) rfl
theorem eg67:∀ args w,(callFunc 141 args).run Tryz.prog w=.ok (.enter 141 args) w:=enters_of Tryz.func141 (by kernel_rfl) rfl
theorem eg70:∀ args w,(callFunc 143 args).run Tryz.prog w=.ok (.enter 143 args) w:=enters_of Tryz.func143 (by kernel_rfl) rfl
theorem eg64:∀ args w,(callFunc 139 args).run Tryz.prog w=.ok (.enter 139 args) w:=enters_of Tryz.func139 (by kernel_rfl) rfl
theorem zja (dx dy iv bv:Value)(xs ys:List Bool)(is:List Ino)(bs:List Blk)(w:World)(h:DR w dx dy iv bv xs ys is bs)(hX:RX xs ys is bs) :
  Calls Tryz.prog 102 #[.agg #[dx,dy,iv,bv]] w fun e w'=>e=.returned (.int .i64 (dangN is bs))/\Below w.heap.size w w':=by
 obtain ⟨a1,c1,a2,c2,a3,c3,a4,c4,rfl,rfl,rfl,rfl⟩:=h.form;have hmf:∀ (fn:Fn) (first cap:Array Value) (w:World),(Instr.makeFunc fn first cap).run Tryz.prog w=.ok (.func fn first cap) w:=fun _ _ _ _=>rfl;have HB0:Hid (Below w.heap.size w (w.alloc (.cells #[.slice a1 xs.length c1,.slice a2 ys.length c2,.slice a3 is.length c3,.slice a4 bs.length c4] 35))):=(Below.refl _ w).alloc nR _;have HA0:=hide (AtC.new w 35 #[.slice a1 xs.length c1,.slice a2 ys.length c2,.slice a3 is.length c3,.slice a4 bs.length c4]);have CR:=hide (zgk (.slice a1 xs.length c1) (.slice a2 ys.length c2) (.slice a3 is.length c3) (.slice a4 bs.length c4) xs ys is bs (w.alloc (.cells #[.slice a1 xs.length c1,.slice a2 ys.length c2,.slice a3 is.length c3,.slice a4 bs.length c4] 35)) (h.alloc _) hX.r);have CC:Hid (∀ (v:Value) (w1:World),SOwns w1 (w.alloc (.cells #[.slice a1 xs.length c1,.slice a2 ys.length c2,.slice a3 is.length c3,.slice a4 bs.length c4] 35)).heap.size 100 v (zbh is bs)->Below (w.alloc (.cells #[.slice a1 xs.length c1,.slice a2 ys.length c2,.slice a3 is.length c3,.slice a4 bs.length c4] 35)).heap.size (w.alloc (.cells #[.slice a1 xs.length c1,.slice a2 ys.length c2,.slice a3 is.length c3,.slice a4 bs.length c4] 35)) w1->Calls Tryz.prog 137 #[.agg #[v,.func (.func 136) #[] #[.pointer (some ⟨w.heap.size,0,none⟩)]]] w1 fun e w'=>e=.returned (.int .i64 (dangN is bs))/\Below w.heap.size w w'):=fun v w1 ho hb=>by
  have b1:Below w.heap.size w w1:=HB0.out.trans (hb.mono HB0.out.size);refine (cntS_any 136 eg61 (.pointer (some ⟨w.heap.size,0,none⟩)) v (zbh is bs) (fun k=>(fun s:Sl=>decide (zab is s.2=0)) (((zbh is bs)).getD k (⟨#[]⟩,0))) (fun _ _=>True) (fun _=>False) w1 (by have:=zdc hX.r;omega) (fun _ e=>e.elim) (fun W c=>ho.rsl.below (chgF c) nR) (fun _ _=>trivial) (fun _ _ _ _ _=>trivial) (fun k hk W _ c=>?_)).mono ?_
  ·have b2:=b1.trans ((chgF c).mono b1.size);have hd:=(HA0.out.over hb).over (chgF c);have hw:=h.below b2 nR;have hmem:=List.getElem_mem hk;show Calls _ _ _ _ fun e w'=>e=.returned (.bool ((fun s:Sl=>decide (zab is s.2=0)) (((zbh is bs)).getD k (⟨#[]⟩,0))))/\_;rw [zbz (⟨#[]⟩,0) hk];exact (c61_any _ _ a1 a2 a3 a4 c1 c2 c3 c4 xs ys is bs w.heap.size W hw hX.r hd).mono fun e w' hh=>⟨hh.1,trivial,Chg.of_below hh.2⟩
  ·rintro e w' ⟨rfl,-,c⟩;rw [zb4 (zbh is bs) (⟨#[]⟩,0) (fun s:Sl=>decide (zab is s.2=0))];exact ⟨rfl,b1.trans ((chgF c).mono b1.size)⟩
 clear h hX;go_enter Tryz.func102,Tryz.ntmps102
 go_wp2_with fail
 refine CR.out.mono ?_;rintro e w1 ⟨v,rfl,S1,B1⟩;have CC1:=hide (CC.out v w1 S1 B1);obtain ⟨va,vc,rfl,-⟩:=S1.form;clear S1 B1 CC CR HB0 HA0;go_wp2_with fail
 refine CC1.out.mono ?_;rintro e w2 ⟨rfl,B2⟩;have HB2:=hide B2;clear B2 CC1;go_wp2;go_ret;exact ⟨rfl,HB2.out⟩
theorem zhu (dx dy iv bv:Value)(xs ys:List Bool)(is:List Ino)(bs:List Blk)(w:World)(h:DR w dx dy iv bv xs ys is bs)(hX:RX xs ys is bs) :
  Calls Tryz.prog 105 #[.agg #[dx,dy,iv,bv]] w fun e w'=>e=.returned (.int .i64 (zdi is bs))/\Below w.heap.size w w':=by
 obtain ⟨a1,c1,a2,c2,a3,c3,a4,c4,rfl,rfl,rfl,rfl⟩:=h.form;have hmf:∀ (fn:Fn) (first cap:Array Value) (w:World),(Instr.makeFunc fn first cap).run Tryz.prog w=.ok (.func fn first cap) w:=fun _ _ _ _=>rfl;have HB0:Hid (Below w.heap.size w (w.alloc (.cells #[.slice a1 xs.length c1,.slice a2 ys.length c2,.slice a3 is.length c3,.slice a4 bs.length c4] 35))):=(Below.refl _ w).alloc nR _;have HA0:=hide (AtC.new w 35 #[.slice a1 xs.length c1,.slice a2 ys.length c2,.slice a3 is.length c3,.slice a4 bs.length c4]);have CR:=hide (za2 (.slice a1 xs.length c1) (.slice a2 ys.length c2) (.slice a3 is.length c3) (.slice a4 bs.length c4) xs ys is bs (w.alloc (.cells #[.slice a1 xs.length c1,.slice a2 ys.length c2,.slice a3 is.length c3,.slice a4 bs.length c4] 35)) (h.alloc _) hX.r);have CC:Hid (∀ (v:Value) (w1:World),ROwns w1 (w.alloc (.cells #[.slice a1 xs.length c1,.slice a2 ys.length c2,.slice a3 is.length c3,.slice a4 bs.length c4] 35)).heap.size 3 v (ic (reachL is bs))->Below (w.alloc (.cells #[.slice a1 xs.length c1,.slice a2 ys.length c2,.slice a3 is.length c3,.slice a4 bs.length c4] 35)).heap.size (w.alloc (.cells #[.slice a1 xs.length c1,.slice a2 ys.length c2,.slice a3 is.length c3,.slice a4 bs.length c4] 35)) w1->Calls Tryz.prog 61 #[.agg #[v,.func (.func 144) #[] #[.pointer (some ⟨w.heap.size,0,none⟩)]]] w1 fun e w'=>e=.returned (.int .i64 (zdi is bs))/\Below w.heap.size w w'):=fun v w1 ho hb=>by
  have b1:Below w.heap.size w w1:=HB0.out.trans (hb.mono HB0.out.size);refine (zhs 144 eg71 (.pointer (some ⟨w.heap.size,0,none⟩)) v (reachL is bs) (fun k=>(fun i:Int=>decide (¬ i=1/\lnkAt is (i - 1).toNat < zan is bs i)) (((reachL is bs)).getD k 0)) (fun _ _=>True) (fun _=>False) w1 (by have:=zah is bs;omega) (fun _ e=>e.elim) (fun W c=>ho.rints.below (chgF c) nR) (fun _ _=>trivial) (fun _ _ _ _ _=>trivial) (fun k hk W _ c=>?_)).mono ?_
  ·have b2:=b1.trans ((chgF c).mono b1.size);have hd:=(HA0.out.over hb).over (chgF c);have hw:=h.below b2 nR;have hmem:=List.getElem_mem hk;show Calls _ _ _ _ fun e w'=>e=.returned (.bool ((fun i:Int=>decide (¬ i=1/\lnkAt is (i - 1).toNat < zan is bs i)) (((reachL is bs)).getD k 0)))/\_;rw [zbz 0 hk];have hr:=zes hmem;obtain ⟨q,hq⟩:∃ q:Nat,(reachL is bs)[k]=(q:Int)+1:=⟨((reachL is bs)[k] - 1).toNat,by omega⟩
   rw [hq];refine (c71_any q a1 a2 a3 a4 c1 c2 c3 c4 xs ys is bs w.heap.size W hw hX hd (by omega)).mono fun e w' hh=>⟨?_,trivial,Chg.of_below hh.2⟩
   rw [hh.1];congr 3
   rw [show ((q:Int)+1 - 1).toNat=q by omega];exact propext ⟨fun ⟨a,b⟩=>⟨by omega,b⟩,fun ⟨a,b⟩=>⟨by omega,b⟩⟩
  ·rintro e w' ⟨rfl,-,c⟩;rw [zb4 (reachL is bs) 0 (fun i:Int=>decide (¬ i=1/\lnkAt is (i - 1).toNat < zan is bs i))];exact ⟨rfl,b1.trans ((chgF c).mono b1.size)⟩
 clear h hX;go_enter Tryz.func105,Tryz.ntmps105
 go_wp2_with fail
 refine CR.out.mono ?_;rintro e w1 ⟨v,rfl,S1,B1⟩;have CC1:=hide (CC.out v w1 S1 B1);obtain ⟨va,vc,rfl,-⟩:=S1.form;clear S1 B1 CC CR HB0 HA0;go_wp2_with fail
 refine CC1.out.mono ?_;rintro e w2 ⟨rfl,B2⟩;have HB2:=hide B2;clear B2 CC1;go_wp2;go_ret;exact ⟨rfl,HB2.out⟩
theorem zhv (dx dy iv bv:Value)(xs ys:List Bool)(is:List Ino)(bs:List Blk)(w:World)(h:DR w dx dy iv bv xs ys is bs)(hX:RX xs ys is bs) :
  Calls Tryz.prog 106 #[.agg #[dx,dy,iv,bv]] w fun e w'=>e=.returned (.int .i64 (zdj is bs))/\Below w.heap.size w w':=by
 obtain ⟨a1,c1,a2,c2,a3,c3,a4,c4,rfl,rfl,rfl,rfl⟩:=h.form;have hmf:∀ (fn:Fn) (first cap:Array Value) (w:World),(Instr.makeFunc fn first cap).run Tryz.prog w=.ok (.func fn first cap) w:=fun _ _ _ _=>rfl;have HB0:Hid (Below w.heap.size w (w.alloc (.cells #[.slice a1 xs.length c1,.slice a2 ys.length c2,.slice a3 is.length c3,.slice a4 bs.length c4] 35))):=(Below.refl _ w).alloc nR _;have HA0:=hide (AtC.new w 35 #[.slice a1 xs.length c1,.slice a2 ys.length c2,.slice a3 is.length c3,.slice a4 bs.length c4]);have CR:=hide (zfp (.slice a1 xs.length c1) (.slice a2 ys.length c2) (.slice a3 is.length c3) (.slice a4 bs.length c4) xs ys is bs (w.alloc (.cells #[.slice a1 xs.length c1,.slice a2 ys.length c2,.slice a3 is.length c3,.slice a4 bs.length c4] 35)) (h.alloc _) hX.r);have CC:Hid (∀ (v:Value) (w1:World),POwns w1 (w.alloc (.cells #[.slice a1 xs.length c1,.slice a2 ys.length c2,.slice a3 is.length c3,.slice a4 bs.length c4] 35)).heap.size 127 v (ptrL is (reachL is bs))->Below (w.alloc (.cells #[.slice a1 xs.length c1,.slice a2 ys.length c2,.slice a3 is.length c3,.slice a4 bs.length c4] 35)).heap.size (w.alloc (.cells #[.slice a1 xs.length c1,.slice a2 ys.length c2,.slice a3 is.length c3,.slice a4 bs.length c4] 35)) w1->Calls Tryz.prog 140 #[.agg #[v,.func (.func 145) #[] #[.pointer (some ⟨w.heap.size,0,none⟩)]]] w1 fun e w'=>e=.returned (.int .i64 (zdj is bs))/\Below w.heap.size w w'):=fun v w1 ho hb=>by
  have b1:Below w.heap.size w w1:=HB0.out.trans (hb.mono HB0.out.size);refine (zht 145 eg73 (.pointer (some ⟨w.heap.size,0,none⟩)) v (ptrL is (reachL is bs)) (fun k=>(fun s:Pr=>(blkAt bs s.2).1 != (zab is s.1 == 2)) (((ptrL is (reachL is bs))).getD k (0,0))) (fun _ _=>True) (fun _=>False) w1 (by have:=zax hX.r (reachL is bs);have:=zah is bs;omega) (fun _ e=>e.elim) (fun W c=>ho.rpr.below (chgF c) nR) (fun _ _=>trivial) (fun _ _ _ _ _=>trivial) (fun k hk W _ c=>?_)).mono ?_
  ·have b2:=b1.trans ((chgF c).mono b1.size);have hd:=(HA0.out.over hb).over (chgF c);have hw:=h.below b2 nR;have hmem:=List.getElem_mem hk;show Calls _ _ _ _ fun e w'=>e=.returned (.bool ((fun s:Pr=>(blkAt bs s.2).1 != (zab is s.1 == 2)) (((ptrL is (reachL is bs))).getD k (0,0))))/\_;rw [zbz (0,0) hk];have hr:=(zcb hmem).2;obtain ⟨⟨io,p⟩,hs⟩:∃ s,(ptrL is (reachL is bs))[k]=s:=⟨_,rfl⟩
   rw [hs] at hr ⊢;simp only at hr ⊢;obtain ⟨q,rfl⟩:∃ q:Nat,p=(q:Int)+1:=⟨(p - 1).toNat,by omega⟩
   exact (c73_any io q a1 a2 a3 a4 c1 c2 c3 c4 xs ys is bs w.heap.size W hw hX hd (by omega)).mono fun e w' hh=>⟨hh.1,trivial,Chg.of_below hh.2⟩
  ·rintro e w' ⟨rfl,-,c⟩;rw [zb4 (ptrL is (reachL is bs)) (0,0) (fun s:Pr=>(blkAt bs s.2).1 != (zab is s.1 == 2))];exact ⟨rfl,b1.trans ((chgF c).mono b1.size)⟩
 clear h hX;go_enter Tryz.func106,Tryz.ntmps106
 go_wp2_with fail
 refine CR.out.mono ?_;rintro e w1 ⟨v,rfl,S1,B1⟩;have CC1:=hide (CC.out v w1 S1 B1);obtain ⟨va,vc,rfl,-⟩:=S1.form;clear S1 B1 CC CR HB0 HA0;go_wp2_with fail
 refine CC1.out.mono ?_;rintro e w2 ⟨rfl,B2⟩;have HB2:=hide B2;clear B2 CC1;go_wp2;go_ret;exact ⟨rfl,HB2.out⟩
def unmP (xs:List Bool) (is:List Ino) (bs:List Blk):Nat:=(ptrL is (reachL is bs)).countP (fun s:Pr=>!(xs.getD (s.2 - 1).toNat false))
def unmI (ys:List Bool) (is:List Ino) (bs:List Blk):Nat:=(reachL is bs).countP (fun i:Int=>!(ys.getD (i - 1).toNat false))
theorem unm_le {is:List Ino}{bs:List Blk}(h:RD is bs)(xs ys:List Bool):unmP xs is bs<=16/\unmI ys is bs<=8:=by
 have h1:=zax h (reachL is bs);have h2:=zah is bs;exact ⟨Nat.le_trans List.countP_le_length (by omega),Nat.le_trans List.countP_le_length h2⟩
theorem zkb (dx dy iv bv:Value)(xs ys:List Bool)(is:List Ino)(bs:List Blk)(w:World)(h:DR w dx dy iv bv xs ys is bs)(hX:RX xs ys is bs) :
  Calls Tryz.prog 104 #[.agg #[dx,dy,iv,bv]] w fun e w'=>e=.returned (.int .i64 ((unmP xs is bs:Int)+(unmI ys is bs:Int)))/\Below w.heap.size w w':=by
 obtain ⟨a1,c1,a2,c2,a3,c3,a4,c4,rfl,rfl,rfl,rfl⟩:=h.form;have hmf:∀ (fn:Fn) (first cap:Array Value) (w:World),(Instr.makeFunc fn first cap).run Tryz.prog w=.ok (.func fn first cap) w:=fun _ _ _ _=>rfl;have HB0:Hid (Below w.heap.size w (w.alloc (.cells #[.slice a1 xs.length c1,.slice a2 ys.length c2,.slice a3 is.length c3,.slice a4 bs.length c4] 35))):=(Below.refl _ w).alloc nR _;have HA0:=hide (AtC.new w 35 #[.slice a1 xs.length c1,.slice a2 ys.length c2,.slice a3 is.length c3,.slice a4 bs.length c4]);have CR:=hide (zfp (.slice a1 xs.length c1) (.slice a2 ys.length c2) (.slice a3 is.length c3) (.slice a4 bs.length c4) xs ys is bs (w.alloc (.cells #[.slice a1 xs.length c1,.slice a2 ys.length c2,.slice a3 is.length c3,.slice a4 bs.length c4] 35)) (h.alloc _) hX.r);have CQ:=hide (fun (W:World) (hb:Below w.heap.size w W)=>za2 (.slice a1 xs.length c1) (.slice a2 ys.length c2) (.slice a3 is.length c3) (.slice a4 bs.length c4) xs ys is bs W (h.below hb nR) hX.r);have CP:Hid (∀ (v:Value) (W:World),RPr W v (ptrL is (reachL is bs))->Below w.heap.size w W->AtC W w.heap.size 35 #[.slice a1 xs.length c1,.slice a2 ys.length c2,.slice a3 is.length c3,.slice a4 bs.length c4]->Calls Tryz.prog 140 #[.agg #[v,.func (.func 141) #[] #[.pointer (some ⟨w.heap.size,0,none⟩)]]] W fun e w'=>e=.returned (.int .i64 (unmP xs is bs))/\Below W.heap.size W w'):=fun v W ho b1 ha=>by
  refine (zht 141 eg67 (.pointer (some ⟨w.heap.size,0,none⟩)) v (ptrL is (reachL is bs)) (fun k=>(fun s:Pr=>!(xs.getD (s.2 - 1).toNat false)) ((ptrL is (reachL is bs)).getD k (0,0))) (fun _ _=>True) (fun _=>False) W (by have:=zax hX.r (reachL is bs);have:=zah is bs;omega) (fun _ e=>e.elim) (fun W' c=>ho.below (chgF c) nR) (fun _ _=>trivial) (fun _ _ _ _ _=>trivial) (fun k hk W' _ c=>?_)).mono ?_
  ·have b2:=b1.trans ((chgF c).mono b1.size);have hd:=ha.over (chgF c);have hw:=h.below b2 nR;have hmem:=List.getElem_mem hk;show Calls _ _ _ _ fun e w'=>e=.returned (.bool ((fun s:Pr=>!(xs.getD (s.2 - 1).toNat false)) ((ptrL is (reachL is bs)).getD k (0,0))))/\_;rw [zbz (0,0) hk];have hr:=(zcb hmem).2;obtain ⟨⟨io,p⟩,hs⟩:∃ s,(ptrL is (reachL is bs))[k]=s:=⟨_,rfl⟩
   rw [hs] at hr ⊢;simp only at hr ⊢;obtain ⟨q,rfl⟩:∃ q:Nat,p=(q:Int)+1:=⟨(p - 1).toNat,by omega⟩
   rw [show ((q:Int)+1 - 1).toNat=q by omega];exact (c67_any io q a1 a2 a3 a4 c1 c2 c3 c4 xs ys is bs w.heap.size W' hw hX hd (by omega)).mono fun e w' hh=>⟨hh.1,trivial,Chg.of_below hh.2⟩
  ·rintro e w' ⟨rfl,-,c⟩;rw [zb4 (ptrL is (reachL is bs)) (0,0) (fun s:Pr=>!(xs.getD (s.2 - 1).toNat false))];exact ⟨rfl,chgF c⟩
 have CI:Hid (∀ (v:Value) (W:World),RInts W v (reachL is bs)->Below w.heap.size w W->AtC W w.heap.size 35 #[.slice a1 xs.length c1,.slice a2 ys.length c2,.slice a3 is.length c3,.slice a4 bs.length c4]->Calls Tryz.prog 61 #[.agg #[v,.func (.func 143) #[] #[.pointer (some ⟨w.heap.size,0,none⟩)]]] W fun e w'=>e=.returned (.int .i64 (unmI ys is bs))/\Below W.heap.size W w'):=fun v W ho b1 ha=>by
  refine (zhs 143 eg70 (.pointer (some ⟨w.heap.size,0,none⟩)) v (reachL is bs) (fun k=>(fun i:Int=>!(ys.getD (i - 1).toNat false)) ((reachL is bs).getD k 0)) (fun _ _=>True) (fun _=>False) W (by have:=zah is bs;omega) (fun _ e=>e.elim) (fun W' c=>ho.below (chgF c) nR) (fun _ _=>trivial) (fun _ _ _ _ _=>trivial) (fun k hk W' _ c=>?_)).mono ?_
  ·have b2:=b1.trans ((chgF c).mono b1.size);have hd:=ha.over (chgF c);have hw:=h.below b2 nR;have hmem:=List.getElem_mem hk;show Calls _ _ _ _ fun e w'=>e=.returned (.bool ((fun i:Int=>!(ys.getD (i - 1).toNat false)) ((reachL is bs).getD k 0)))/\_;rw [zbz 0 hk];have hr:=zes hmem;obtain ⟨q,hq⟩:∃ q:Nat,(reachL is bs)[k]=(q:Int)+1:=⟨((reachL is bs)[k] - 1).toNat,by omega⟩
   rw [hq];simp only;rw [show ((q:Int)+1 - 1).toNat=q by omega];exact (c70_any q a1 a2 a3 a4 c1 c2 c3 c4 xs ys is bs w.heap.size W' hw hX hd (by omega)).mono fun e w' hh=>⟨hh.1,trivial,by rw [hh.2];exact Chg.refl _ _⟩
  ·rintro e w' ⟨rfl,-,c⟩;rw [zb4 (reachL is bs) 0 (fun i:Int=>!(ys.getD (i - 1).toNat false))];exact ⟨rfl,chgF c⟩
 obtain ⟨hu1,hu2⟩:=unm_le hX.r xs ys;obtain ⟨uP,hUP⟩:∃ n,unmP xs is bs=n:=⟨_,rfl⟩
 obtain ⟨uI,hUI⟩:∃ n,unmI ys is bs=n:=⟨_,rfl⟩
 rw [hUP] at CP hu1 ⊢;rw [hUI] at CI hu2 ⊢;clear h hX hUP hUI;go_enter Tryz.func104,Tryz.ntmps104
 go_wp2_with fail
 refine CR.out.mono ?_;rintro e w1 ⟨v,rfl,S1,B1⟩;obtain ⟨va,vc,rfl,-⟩:=S1.form;have HS1:Hid (RPr w1 (.slice va (ptrL is (reachL is bs)).length vc) (ptrL is (reachL is bs))/\Below w.heap.size w w1/\AtC w1 w.heap.size 35 #[.slice a1 xs.length c1,.slice a2 ys.length c2,.slice a3 is.length c3,.slice a4 bs.length c4]):=⟨S1.rpr,HB0.out.trans (B1.mono HB0.out.size),HA0.out.over B1⟩
 have hne:¬ w.heap.size=w1.heap.size:=by have:=HS1.out.2.2.lt;omega
 have hne2:¬ w1.heap.size=w.heap.size:=fun e=>hne e.symm;obtain ⟨W1,hW1⟩:∃ W,w1.alloc (.cells #[.slice va (ptrL is (reachL is bs)).length vc,.func (.func 141) #[] #[.pointer (some ⟨w.heap.size,0,none⟩)]] 156)=W:=⟨_,rfl⟩
 have HW1:Hid (RPr W1 (.slice va (ptrL is (reachL is bs)).length vc) (ptrL is (reachL is bs))/\Below w.heap.size w W1/\AtC W1 w.heap.size 35 #[.slice a1 xs.length c1,.slice a2 ys.length c2,.slice a3 is.length c3,.slice a4 bs.length c4]/\AtC W1 w1.heap.size 156 #[.slice va (ptrL is (reachL is bs)).length vc,.func (.func 141) #[] #[.pointer (some ⟨w.heap.size,0,none⟩)]]):=by
  rw [← hW1];exact ⟨HS1.out.1.alloc _,HS1.out.2.1.alloc HS1.out.2.1.size _,HS1.out.2.2.alloc _,AtC.new _ _ _⟩
 obtain ⟨z0,z1,z2,z3⟩:=AtC.four HS1.out.2.2;clear S1 B1 CR HB0 HA0;go_upto_region 2 with fail
 clear hW1 z0 z1 z2 z3 HS1;obtain ⟨z0,z1,z2,z3⟩:=AtC.four HW1.out.2.2.1;have CQ1:=hide (CQ.out W1 HW1.out.2.1);go_wp2_with fail
 refine CQ1.out.mono ?_;rintro e w2 ⟨rv,rfl,R2,B2⟩;obtain ⟨ra,rc,rfl,-⟩:=R2.form;rw [zaf] at R2 ⊢;have HW2:Hid (RPr w2 (.slice va (ptrL is (reachL is bs)).length vc) (ptrL is (reachL is bs))/\Below w.heap.size w w2/\AtC w2 w.heap.size 35 #[.slice a1 xs.length c1,.slice a2 ys.length c2,.slice a3 is.length c3,.slice a4 bs.length c4]/\AtC w2 w1.heap.size 156 #[.slice va (ptrL is (reachL is bs)).length vc,.func (.func 141) #[] #[.pointer (some ⟨w.heap.size,0,none⟩)]]/\RInts w2 (.slice ra (reachL is bs).length rc) (reachL is bs)):=⟨HW1.out.1.below B2 nR,HW1.out.2.1.trans (B2.mono HW1.out.2.1.size),HW1.out.2.2.1.over B2,HW1.out.2.2.2.over B2,R2.rints⟩
 obtain ⟨W3,hW3⟩:∃ W,w2.alloc (.cells #[.slice ra (reachL is bs).length rc,.func (.func 143) #[] #[.pointer (some ⟨w.heap.size,0,none⟩)]] 89)=W:=⟨_,rfl⟩
 have HW3:Hid (RPr W3 (.slice va (ptrL is (reachL is bs)).length vc) (ptrL is (reachL is bs))/\Below w.heap.size w W3/\AtC W3 w.heap.size 35 #[.slice a1 xs.length c1,.slice a2 ys.length c2,.slice a3 is.length c3,.slice a4 bs.length c4]/\AtC W3 w1.heap.size 156 #[.slice va (ptrL is (reachL is bs)).length vc,.func (.func 141) #[] #[.pointer (some ⟨w.heap.size,0,none⟩)]]/\RInts W3 (.slice ra (reachL is bs).length rc) (reachL is bs)/\AtC W3 w2.heap.size 89 #[.slice ra (reachL is bs).length rc,.func (.func 143) #[] #[.pointer (some ⟨w.heap.size,0,none⟩)]]):=by
  rw [← hW3];have b:=(Below.refl _ w2).alloc nR (.cells #[.slice ra (reachL is bs).length rc,.func (.func 143) #[] #[.pointer (some ⟨w.heap.size,0,none⟩)]] 89);exact ⟨HW2.out.1.alloc _,HW2.out.2.1.alloc HW2.out.2.1.size _,HW2.out.2.2.1.alloc _,HW2.out.2.2.2.1.alloc _,HW2.out.2.2.2.2.below b nR,AtC.new _ _ _⟩
 clear R2 B2 CQ1 CQ z0 z1 z2 z3 HW1 HW2;go_upto_region 3 with fail
 clear hW3 hmf;have HX3:Hid (∀ W,Below W3.drew.heap.size W3.drew W->RPr W (.slice va (ptrL is (reachL is bs)).length vc) (ptrL is (reachL is bs))/\Below w.heap.size w W/\AtC W w.heap.size 35 #[.slice a1 xs.length c1,.slice a2 ys.length c2,.slice a3 is.length c3,.slice a4 bs.length c4]/\AtC W w1.heap.size 156 #[.slice va (ptrL is (reachL is bs)).length vc,.func (.func 141) #[] #[.pointer (some ⟨w.heap.size,0,none⟩)]]/\RInts W (.slice ra (reachL is bs).length rc) (reachL is bs)/\AtC W w2.heap.size 89 #[.slice ra (reachL is bs).length rc,.func (.func 143) #[] #[.pointer (some ⟨w.heap.size,0,none⟩)]]):=fun W b=>⟨HW3.out.1.drew.below b nR,HW3.out.2.1.drew.trans (b.mono HW3.out.2.1.drew.size),HW3.out.2.2.1.drew.over b,HW3.out.2.2.2.1.drew.over b,(HW3.out.2.2.2.2.1.below bR.drew nR).below b nR,HW3.out.2.2.2.2.2.drew.over b⟩
 obtain ⟨H1,H2,H3,H4,H5,H6⟩:=HX3.out _ bR;have p0:W3.drew.cell? ⟨w1.heap.size,0,none⟩=some (.slice va (ptrL is (reachL is bs)).length vc):=H4.cell 0;have p1:W3.drew.cell? ⟨w1.heap.size,1,none⟩=some (.func (.func 141) #[] #[.pointer (some ⟨w.heap.size,0,none⟩)]):=H4.cell 1;have i0:W3.drew.cell? ⟨w2.heap.size,0,none⟩=some (.slice ra (reachL is bs).length rc):=H6.cell 0;have i1:W3.drew.cell? ⟨w2.heap.size,1,none⟩=some (.func (.func 143) #[] #[.pointer (some ⟨w.heap.size,0,none⟩)]):=H6.cell 1;have CP1:=hide (CP.out _ _ H1 H2 H3);clear H1 H2 H3 H4 H5 H6
 go_region_with (first | (go_at_call 140;refine CP1.out.mono ?_;rintro e w5 ⟨rfl,B5⟩;obtain ⟨H1,H2,H3,H4,H5,H6⟩:=HX3.out _ B5;have j0:w5.cell? ⟨w2.heap.size,0,none⟩=some (.slice ra (reachL is bs).length rc):=H6.cell 0;have j1:w5.cell? ⟨w2.heap.size,1,none⟩=some (.func (.func 143) #[] #[.pointer (some ⟨w.heap.size,0,none⟩)]):=H6.cell 1;have CI1:=hide (CI.out _ _ H5 H2 H3);have HB5:=hide H2;clear H1 H2 H3 H4 H5 H6 B5) | (go_at_call 61;refine CI1.out.mono ?_;rintro e w6 ⟨rfl,B6⟩))
 all_goals (have hsum:IntKind.i64.wrap ((uP:Int)+(uI:Int))=(uP:Int)+(uI:Int):=wrap_small _ (by omega) (by omega))
 all_goals (try go_wp2)
 all_goals go_ret
 all_goals (refine ⟨?_,HB5.out.trans (B6.mono HB5.out.size)⟩)
 all_goals (first | rfl | (congr 1;go_num) | (go_simp;done) | (simp only [go_sem,hsum];done) | (simp [go_sem,hsum];done) | trace_state)
def safeB (xs ys:List Bool) (is:List Ino) (bs:List Blk):Bool:=zag xs ys is bs && decide (zab is 1=2/\dangN is bs=0/\zb8 is=0/\unmP xs is bs+unmI ys is bs=0/\zdi is bs=0/\zdj is bs=0)
def inoS (ys:List Bool) (is:List Ino) (bs:List Blk) (j:Nat):Bool:=decide (((reachL is bs).contains ((j:Int)+1)=true\/zab is ((j:Int)+1)=0)/\ys.getD j false=(reachL is bs).contains ((j:Int)+1)/\(j=0->lnkAt is j=1/\zan is bs ((j:Int)+1)=0)/\(¬ j=0->((reachL is bs).contains ((j:Int)+1)=true->lnkAt is j=(zan is bs ((j:Int)+1):Int))/\(zab is ((j:Int)+1)=2->zan is bs ((j:Int)+1)=1)))
def bitS (xs:List Bool) (is:List Ino) (bs:List Blk) (p:Nat):Bool:=decide (xs.getD p false=(hadL is bs).contains ((p:Int)+1))
def zbo (xs ys:List Bool) (is:List Ino) (bs:List Blk):Bool:=(List.range 8).all (inoS ys is bs) && (List.range 16).all (bitS xs is bs)
def zat (xs ys:List Bool) (is:List Ino) (bs:List Blk):Bool:=safeB xs ys is bs && zbo xs ys is bs
theorem zbd {xs ys:List Bool}{is:List Ino}{bs:List Blk}{j:Nat}(hj:j < 8)(h:inoS ys is bs j=false):zbo xs ys is bs=false:=by
 unfold zbo;have:(List.range 8).all (inoS ys is bs)=false:=by
  rw [List.all_eq_false];exact ⟨j,List.mem_range.2 hj,by rw [h];decide⟩
 rw [this];rfl
theorem zma {xs ys:List Bool}{is:List Ino}{bs:List Blk}{p:Nat}(hp:p < 16)(h:bitS xs is bs p=false):zbo xs ys is bs=false:=by
 unfold zbo;have:(List.range 16).all (bitS xs is bs)=false:=by
  rw [List.all_eq_false];exact ⟨p,List.mem_range.2 hp,by rw [h];decide⟩
 rw [this,Bool.and_false]
theorem zmb {xs ys:List Bool}{is:List Ino}{bs:List Blk}(h1:∀ j,j < 8->inoS ys is bs j=true)(h2:∀ p,p < 16->bitS xs is bs p=true):zbo xs ys is bs=true:=by
 unfold zbo;rw [Bool.and_eq_true,List.all_eq_true,List.all_eq_true];exact ⟨fun j hj=>h1 j (List.mem_range.1 hj),fun p hp=>h2 p (List.mem_range.1 hp)⟩
theorem zkc (dx dy iv bv:Value)(xs ys:List Bool)(is:List Ino)(bs:List Blk)(w:World)(h:DR w dx dy iv bv xs ys is bs)(hX:RX xs ys is bs) :
  Calls Tryz.prog 103 #[.agg #[dx,dy,iv,bv]] w fun e w'=>e=.returned (.int .i64 (zb8 is))/\Below w.heap.size w w':=by
 obtain ⟨a1,c1,a2,c2,a3,c3,a4,c4,rfl,rfl,rfl,rfl⟩:=h.form;have hmf:∀ (fn:Fn) (first cap:Array Value) (w:World),(Instr.makeFunc fn first cap).run Tryz.prog w=.ok (.func fn first cap) w:=fun _ _ _ _=>rfl;obtain ⟨W0,hW0⟩:∃ W,((w.alloc (.cells #[.slice a1 xs.length c1,.slice a2 ys.length c2,.slice a3 is.length c3,.slice a4 bs.length c4] 35)).alloc (.cells #[.bool false,.bool false,.bool false,.bool false,.bool false,.bool false,.bool false,.bool false,.bool false,.bool false,.bool false,.bool false,.bool false,.bool false,.bool false,.bool false] 138))=W:=⟨_,rfl⟩
 have HA:Hid (AtC W0 w.heap.size 35 #[.slice a1 xs.length c1,.slice a2 ys.length c2,.slice a3 is.length c3,.slice a4 bs.length c4]/\AtC W0 (w.heap.size+1) 138 (hA (List.replicate 16 false))/\Below w.heap.size w W0):=by
  rw [← hW0];have a:=AtC.new (w.alloc (.cells #[.slice a1 xs.length c1,.slice a2 ys.length c2,.slice a3 is.length c3,.slice a4 bs.length c4] 35)) 138 #[.bool false,.bool false,.bool false,.bool false,.bool false,.bool false,.bool false,.bool false,.bool false,.bool false,.bool false,.bool false,.bool false,.bool false,.bool false,.bool false];rw [World.size_alloc] at a;exact ⟨(AtC.new w 35 _).alloc _,a,((Below.refl _ w).alloc nR _).alloc (by simp) _⟩
 have CK:=hide (zhj (.slice a1 xs.length c1) (.slice a2 ys.length c2) (.slice a3 is.length c3) (.slice a4 bs.length c4) xs ys is bs W0.drew (h.below HA.out.2.2.drew nR) hX.r);have CP:Hid (∀ (lv:Value) (W:World),Below w.heap.size w W->RInts W lv (kndL is)->Calls Tryz.prog 138 #[.agg #[.slice a1 xs.length c1,.slice a2 ys.length c2,.slice a3 is.length c3,.slice a4 bs.length c4],lv] W fun e w'=>∃ v,e=.returned v/\POwns w' W.heap.size 127 v (ptrL is (kndL is))/\Below W.heap.size W w'):=fun lv W hb ho=>zeg lv (kndL is) (.slice a1 xs.length c1) (.slice a2 ys.length c2) (.slice a3 is.length c3) (.slice a4 bs.length c4) xs ys is bs W (h.below hb nR) hX.r ho (zct is) (fun i hi=>(zcs.1 hi).1);have CC:Hid (∀ (v:Value) (B:Nat) (W:World),w.heap.size+1 < B->POwns W B 127 v (ptrL is (kndL is))->Below w.heap.size w W->AtC W (w.heap.size+1) 138 (hA (List.replicate 16 false))->Calls Tryz.prog 140 #[.agg #[v,.func (.func 139) #[] #[.pointer (some ⟨w.heap.size+1,0,none⟩)]]] W fun e w'=>e=.returned (.int .i64 (zb8 is))/\Below w.heap.size w w'):=fun v B W hB ho b1 ha=>by
  have hzl:(ptrL is (kndL is)).length=(allP is).length:=by unfold allP;rw [List.length_map]
  refine (zht 139 eg64 (.pointer (some ⟨w.heap.size+1,0,none⟩)) v (ptrL is (kndL is)) (fun k=>decide ((allP is).getD k 0∈(allP is).take k)) (HadW (allP is) (w.heap.size+1)) (fun k=>k=w.heap.size+1) W (by have:=zk1 hX.r;omega) (fun k e=>by rw [e];exact ha.lt) (fun W' c=>(ho.of_heap (fun k hk=>c.block k (ho.lt k hk).2 (fun e=>by have:=(ho.lt k hk).1;omega))).rpr) (fun W' b=>⟨_,ha.over b,Had.begin _⟩) (fun k W1 W2 hh b=>by obtain ⟨hl,h1,h2⟩:=hh;exact ⟨hl,h1.over b,h2⟩) (fun k hk W' hI _=>?_)).mono ?_
  ·obtain ⟨hl,h1,h2⟩:=hI;have hk':k < (allP is).length:=by omega
   have hr:=(zcb (List.getElem_mem hk)).2;have hak:(allP is)[k]=((ptrL is (kndL is))[k]).2:=List.getElem_map _;obtain ⟨⟨io,p⟩,hs⟩:∃ s,(ptrL is (kndL is))[k]=s:=⟨_,rfl⟩
   rw [hs] at hr hak ⊢;simp only at hr hak ⊢;obtain ⟨q,rfl⟩:∃ q:Nat,p=(q:Int)+1:=⟨(p - 1).toNat,by omega⟩
   refine (c64_any io q (w.heap.size+1) hl W' h1 h2.n (by omega)).mono fun e w' hh=>⟨?_,⟨_,hh.2.1,h2.next hk' hak (by omega)⟩,hh.2.2⟩
   rw [hh.1,h2.f q (by omega),zbz 0 hk',hak]
  ·rintro e w' ⟨rfl,-,c⟩;refine ⟨?_,b1.trans (c.below b1.size (fun k hk=>by rw [hk];omega))⟩;rw [hzl];rfl
 have HW:Hid (∀ W,Below W0.drew.heap.size W0.drew W->AtC W w.heap.size 35 #[.slice a1 xs.length c1,.slice a2 ys.length c2,.slice a3 is.length c3,.slice a4 bs.length c4]/\AtC W (w.heap.size+1) 138 (hA (List.replicate 16 false))/\Below w.heap.size w W):=fun W b=>⟨HA.out.1.drew.over b,HA.out.2.1.drew.over b,HA.out.2.2.drew.trans (b.mono HA.out.2.2.drew.size)⟩
 obtain ⟨z0,z1,z2,z3⟩:=AtC.four HA.out.1.drew;clear h hX;go_enter Tryz.func103,Tryz.ntmps103
 go_upto_region 2 with fail
 clear hW0
 go_region_with (first | (go_at_call 58;refine CK.out.mono ?_;rintro e w1 ⟨kv,rfl,R1,B1⟩;obtain ⟨H1,H2,H3⟩:=HW.out _ B1;obtain ⟨ra,rc,rfl,-⟩:=R1.form;rw [zaf] at R1 ⊢;have CP1:=hide (CP.out _ w1 H3 R1.rints);have HB1:=hide B1;have y0:w1.cell? ⟨w.heap.size,0,none⟩=some (.slice a1 xs.length c1):=H1.cell 0;have y1:w1.cell? ⟨w.heap.size,1,none⟩=some (.slice a2 ys.length c2):=H1.cell 1;have y2:w1.cell? ⟨w.heap.size,2,none⟩=some (.slice a3 is.length c3):=H1.cell 2;have y3:w1.cell? ⟨w.heap.size,3,none⟩=some (.slice a4 bs.length c4):=H1.cell 3;clear R1 B1 H1 H2 H3) | (go_at_call 138;refine CP1.out.mono ?_;rintro e w2 ⟨pv,rfl,P2,B2⟩;obtain ⟨H1,H2,H3⟩:=HW.out _ (HB1.out.trans (B2.mono HB1.out.size));have CC1:=hide (CC.out pv w1.heap.size w2 (by have h9:=(HW.out _ HB1.out).2.1.lt;exact h9) P2 H3 H2);obtain ⟨pa,pc',rfl,-⟩:=P2.form;clear P2 B2 H1 H2 H3) | (go_at_call 140;refine CC1.out.mono ?_;rintro e w3 ⟨rfl,B3⟩))
 all_goals (try go_wp2)
 all_goals go_ret
 all_goals exact ⟨rfl,B3⟩
theorem zcm {w:World}{a:Option Addr}{n c:Nat}{zs:List Bool}(h:RFl w (.slice a n c) zs)(h0:0 < zs.length) :
  ∃ g o,a=some ⟨g,o,none⟩/\g < w.heap.size/\∀ j:Nat,j < zs.length->w.cell? ⟨g,o+j,none⟩=some (.bool (zs.getD j false)):=by
 obtain ⟨g,o,e,hg,-⟩:=DR.bit h 0 h0;refine ⟨g,o,e,hg,fun j hj=>?_⟩;obtain ⟨g',o',e',-,k⟩:=DR.bit h j hj;rw [e] at e';simp only [Option.some.injEq,Addr.mk.injEq,and_true] at e';obtain ⟨rfl,rfl⟩:=e';rw [k,zbz false hj]
def unmQ (xs ys:List Bool) (is:List Ino) (l:List Int):Nat:=l.countP (fun i:Int=>!(ys.getD (i - 1).toNat false))+(ptrL is l).countP (fun s:Pr=>!(xs.getD (s.2 - 1).toNat false))
theorem unmQ_le {is:List Ino}{bs:List Blk}(h:RD is bs)(xs ys:List Bool)(l:List Int):unmQ xs ys is l<=l.length * 3:=by
 have h1:=zax h l;have h2:l.countP (fun i:Int=>!(ys.getD (i - 1).toNat false))<=l.length:=List.countP_le_length;have h3:(ptrL is l).countP (fun s:Pr=>!(xs.getD (s.2 - 1).toNat false))<=(ptrL is l).length:=List.countP_le_length;unfold unmQ;omega
theorem zog (xs ys:List Bool)(is:List Ino)(l:List Int)(i:Int):unmQ xs ys is (l ++ [i])=unmQ xs ys is l+(if ys.getD (i - 1).toNat false=true then 0 else 1)+(ptrT i (zak is i)).countP (fun s:Pr=>!(xs.getD (s.2 - 1).toNat false)):=by
 unfold unmQ ptrL;rw [List.countP_append,List.flatMap_append,List.countP_append,List.countP_cons,List.countP_nil,List.flatMap_cons,List.flatMap_nil,List.append_nil];have:ptrI is i=ptrT i (zak is i):=rfl;rw [this]
 cases ys.getD (i - 1).toNat false<;>simp<;>omega
theorem zkd (dx dy iv bv:Value)(xs ys:List Bool)(is:List Ino)(bs:List Blk)(w:World)(h:DR w dx dy iv bv xs ys is bs)(hX:RX xs ys is bs) :
  Calls Tryz.prog 84 #[.agg #[dx,dy,iv,bv]] w fun e w'=>e=.returned (.int .i64 ((unmP xs is bs:Int)+(unmI ys is bs:Int)))/\Below w.heap.size w w':=by
 obtain ⟨a1,c1,a2,c2,a3,c3,a4,c4,rfl,rfl,rfl,rfl⟩:=h.form;obtain ⟨gx,ox,rfl,hgx,hbx⟩:=zcm h.a (by rw [hX.bx];decide);obtain ⟨gy,oy,rfl,hgy,hby⟩:=zcm h.b (by rw [hX.y8];decide);have HBX:Hid (∀ (W:World) (j:Nat),Below w.heap.size w W->j < 16->W.cell? ⟨gx,ox+j,none⟩=some (.bool (xs.getD j false))):=fun W j b hj=>(b.cell (p:=⟨gx,ox+j,none⟩) hgx).trans (hbx j (by rw [hX.bx];exact hj));have HBY:Hid (∀ (W:World) (j:Nat),Below w.heap.size w W->j < 8->W.cell? ⟨gy,oy+j,none⟩=some (.bool (ys.getD j false))):=fun W j b hj=>(b.cell (p:=⟨gy,oy+j,none⟩) hgy).trans (hby j (by rw [hX.y8];exact hj));have HL:Hid (xs.length=16/\ys.length=8/\is.length=8):=⟨hX.bx,hX.y8,hX.r.hi⟩
 have HH:=hide h;have HB0:Hid (Below w.heap.size w (w.alloc (.cells #[.slice (some ⟨gx,ox,none⟩) xs.length c1,.slice (some ⟨gy,oy,none⟩) ys.length c2,.slice a3 is.length c3,.slice a4 bs.length c4] 35))):=(Below.refl _ w).alloc nR _;have HA0:=hide (AtC.new w 35 #[.slice (some ⟨gx,ox,none⟩) xs.length c1,.slice (some ⟨gy,oy,none⟩) ys.length c2,.slice a3 is.length c3,.slice a4 bs.length c4]);have CR:=hide (zav (.slice (some ⟨gx,ox,none⟩) xs.length c1) (.slice (some ⟨gy,oy,none⟩) ys.length c2) (.slice a3 is.length c3) (.slice a4 bs.length c4) xs ys is bs (w.alloc (.cells #[.slice (some ⟨gx,ox,none⟩) xs.length c1,.slice (some ⟨gy,oy,none⟩) ys.length c2,.slice a3 is.length c3,.slice a4 bs.length c4] 35)) (h.alloc _) hX.r);have HRG:Hid (∀ i∈reachL is bs,1<=i/\i<=8):=fun i hi=>zes hi;have HR8:=hide (zah is bs);have HUL:Hid (∀ l,unmQ xs ys is l<=l.length * 3):=unmQ_le hX.r xs ys;have HP2:Hid (∀ i,(zak is i).length<=2):=zb2 hX.r;obtain ⟨RL,hRL⟩:∃ l,reachL is bs=l:=⟨_,rfl⟩
 have HFIN:Hid ((unmP xs is bs:Int)+(unmI ys is bs:Int)=((unmQ xs ys is RL:Nat):Int)):=by
  show _=_;unfold unmP unmI unmQ;rw [hRL];omega
 rw [HFIN.out];rw [hRL] at CR HRG HR8;clear h hX hRL HFIN hbx hby;go_enter Tryz.func84,Tryz.ntmps84
 go_wp2_with fail
 refine CR.out.mono ?_;rintro e w1 ⟨rv,rfl,R1,B1⟩;have HB1:=hide (HB0.out.trans (B1.mono HB0.out.size));have HA1:=hide (HA0.out.over B1);obtain ⟨ra,rc,rfl,hcr⟩:=R1.rints;have HCR:=hide hcr;have r8:RL.length<=8:=HR8.out;clear R1 B1 CR HB0 HA0 hcr;go_wp2_with fail
 go_loopw [3,5] (fun nv kv wr=>∃ (q:Nat),q<=RL.length/\nv=.int .i64 ((unmQ xs ys is (RL.take q):Nat):Int)/\kv=.int .i64 q/\Hid (Below w1.heap.size w1 wr)) (fun _ kv _=>RL.length - (intOf kv).toNat)
 case atStart=>exact ⟨0,Nat.zero_le _,rfl,rfl,Below.refl _ _⟩
 case round =>
  obtain ⟨q,hq,rfl,rfl,HQ⟩:=hrel;have q0:(0:Int)<=(q:Int):=by omega
  by_cases hlt:q < RL.length
  rotate_left
  ·have q1:¬ ((q:Int) < (RL.length:Int)):=by omega
   rw [List.take_of_length_le (by omega)];go_wp2;go_ret;exact ⟨rfl,HB1.out.trans (HQ.out.mono HB1.out.size)⟩
  have q1:(q:Int) < (RL.length:Int):=by omega
  obtain ⟨gr,orr,rfl,hgr,kr⟩:=HCR.out q hlt
  replace kr:=(HQ.out.cell (p:=⟨gr,orr+q,none⟩) hgr).trans kr
  have hrg:=HRG.out _ (List.getElem_mem hlt);have HSN:Hid (unmQ xs ys is (RL.take (q+1))=unmQ xs ys is (RL.take q)+(if ys.getD (RL[q] - 1).toNat false=true then 0 else 1)+(ptrT RL[q] (zak is RL[q])).countP (fun s:Pr=>!(xs.getD (s.2 - 1).toNat false))):=by
   show _=_;rw [List.take_succ_eq_append_getElem hlt,zog]
  have hul:=HUL.out (RL.take q);rw [List.length_take] at hul;obtain ⟨u0,hu0⟩:∃ c,unmQ xs ys is (RL.take q)=c:=⟨_,rfl⟩
  obtain ⟨di,hdi⟩:∃ x,RL[q]=x:=⟨_,rfl⟩
  rw [hu0,hdi] at HSN;rw [hu0] at hul ⊢;rw [hdi] at kr hrg;obtain ⟨j,rfl⟩:∃ j:Nat,di=(j:Int)+1:=⟨(di - 1).toNat,by omega⟩
  rw [show ((j:Int)+1 - 1).toNat=j by omega] at HSN;have hj8:j < 8:=by omega
  have hj:j < is.length:=by have:=HL.out;omega
  have j0:(0:Int)<=(j:Int):=by omega
  have j1:(j:Int) < (is.length:Int):=by omega
  have jy1:(j:Int) < (ys.length:Int):=by have:=HL.out;omega
  have jy2:(j:Int)+1<=(ys.length:Int):=by have:=HL.out;omega
  have hwj:IntKind.i64.wrap (j:Int)=(j:Int):=wrap_small _ (by omega) (by omega);have HBW:=hide (HB1.out.trans (HQ.out.mono HB1.out.size));have HAW:=hide (HA1.out.over HQ.out);obtain ⟨g2,o2,sa,sc,rfl,hg2,y0,y1,y2,rr⟩:=DR.ino HH.out j hj
  replace y0:=(HBW.out.cell (p:=⟨g2,o2+j * 3,none⟩) hg2).trans y0
  replace y1:=(HBW.out.cell (p:=⟨g2,o2+j * 3+1,none⟩) hg2).trans y1
  replace y2:=(HBW.out.cell (p:=⟨g2,o2+j * 3+2,none⟩) hg2).trans y2
  have kb:=HBY.out wr j HBW.out hj8;have x1:wr.cell? ⟨w.heap.size,1,none⟩=some (.slice (some ⟨gy,oy,none⟩) ys.length c2):=HAW.out.cell 1;have x2:wr.cell? ⟨w.heap.size,2,none⟩=some (.slice (some ⟨g2,o2,none⟩) is.length c3):=HAW.out.cell 2;have hp2:=HP2.out ((j:Int)+1);obtain ⟨ps,hps⟩:∃ X,zak is ((j:Int)+1)=X:=⟨_,rfl⟩
  rw [hps] at y2 rr hp2 HSN;obtain ⟨pa,pc',pe,hcp⟩:=rr;simp only [Value.slice.injEq,true_and] at pe;obtain ⟨rfl,rfl⟩:=pe;have HCP:=hide hcp;obtain ⟨kd,hkd⟩:∃ k,zab is ((j:Int)+1)=k:=⟨_,rfl⟩
  obtain ⟨ln,hln⟩:∃ k,is[j].2.1=k:=⟨_,rfl⟩
  rw [hkd] at y0;rw [hln] at y1;obtain ⟨bi,hbi⟩:∃ b,ys.getD j false=b:=⟨_,rfl⟩
  rw [hbi] at kb HSN;obtain ⟨W1,hW1⟩:∃ W,wr.alloc (.cells #[.int .i64 kd,.int .i64 ln,.slice sa ps.length sc] 63)=W:=⟨_,rfl⟩
  have HW1:Hid (Below w1.heap.size w1 W1/\AtC W1 wr.heap.size 63 #[.int .i64 kd,.int .i64 ln,.slice sa ps.length sc]):=by
   rw [← hW1];exact ⟨HQ.out.alloc HQ.out.size _,AtC.new _ _ _⟩
  have hg2w:¬ g2=wr.heap.size:=by have:=HBW.out.size;omega
  clear hu0 hdi hps hcp hkd hln hbi;have hgo:∃ u1:Nat,u1<=u0+1/\Hid (unmQ xs ys is (RL.take (q+1))=u1+(ptrT ((j:Int)+1) ps).countP (fun s:Pr=>!(xs.getD (s.2 - 1).toNat false)))/\u1=u0+(if bi=true then 0 else 1):=⟨u0+(if bi=true then 0 else 1),by split<;>omega,hide HSN.out,rfl⟩
  obtain ⟨u1,hu1,HU1,heu⟩:=hgo;go_upto_if 36 with fail
  go_cut [3] from 11 to 77 (fun nv wz=>nv=.int .i64 (u1:Int)/\wz=wr)
  case first =>
   cases bi with
   | true =>
    have e:u1=u0:=by simpa using heu
    clear heu;subst e;go_wp2;go_meet
    exact ⟨rfl,rfl⟩
   | false =>
    have e:u1=u0+1:=by simpa using heu
    clear heu;subst e;go_wp2;go_meet
    exact ⟨by go_num,rfl⟩
  case rest =>
   obtain ⟨rfl,rfl⟩:=hcut;clear heu HSN x1 kb kr;obtain ⟨wb,hwb⟩:∃ W,W=wc:=⟨_,rfl⟩
   subst hwb;go_upto_region 10 with fail
   clear hW1 y0 y1 y2 x2;go_wp2_with fail
   go_loopw [3,8] (fun nv kv wr=>∃ (t:Nat),t<=ps.length/\nv=.int .i64 (((u1+(ptrT ((j:Int)+1) (ps.take t)).countP (fun s:Pr=>!(xs.getD (s.2 - 1).toNat false)):Nat)):Int)/\kv=.int .i64 t/\Hid (Below W1.heap.size W1 wr)) (fun _ kv _=>ps.length - (intOf kv).toNat)
   case atStart=>exact ⟨0,Nat.zero_le _,by simp [ptrT],rfl,Below.refl _ _⟩
   case round =>
    obtain ⟨t,ht,rfl,rfl,HT⟩:=hrel;have t0:(0:Int)<=(t:Int):=by omega
    have HBZ:Hid (Below w1.heap.size w1 wr/\Below w.heap.size w wr):=by
     have b:=HW1.out.1.trans (HT.out.mono HW1.out.1.size);exact ⟨b,HB1.out.trans (b.mono HB1.out.size)⟩
    have x7:wr.cell? ⟨wb.heap.size,2,none⟩=some (.slice sa ps.length sc):=(HW1.out.2.over HT.out).cell 2;have x0:wr.cell? ⟨w.heap.size,0,none⟩=some (.slice (some ⟨gx,ox,none⟩) xs.length c1):=(HA1.out.over HBZ.out.1).cell 0;by_cases htl:t < ps.length
    rotate_left
    ·have t1:¬ ((t:Int) < (ps.length:Int)):=by omega
     have HE:Hid (unmQ xs ys is (RL.take (q+1))=u1+(ptrT ((j:Int)+1) (ps.take t)).countP (fun s:Pr=>!(xs.getD (s.2 - 1).toNat false))):=by
      show _=_;rw [HU1.out,List.take_of_length_le (show ps.length<=t by omega)]
     go_wp2;go_roundw
     case rel=>exact ⟨q+1,by omega,by rw [HE.out],by go_num,HBZ.out.1⟩
     case measure=>simp [intOf];omega
    have t1:(t:Int) < (ps.length:Int):=by omega
    obtain ⟨gp,op,rfl,hgp,kp⟩:=HCP.out t htl
    replace kp:=(HBZ.out.2.cell (p:=⟨gp,op+t,none⟩) hgp).trans kp
    have HTT:=hide (congrArg (List.countP (fun s:Pr=>!(xs.getD (s.2 - 1).toNat false))) (zck ((j:Int)+1) ps t htl));have hle:(ptrT ((j:Int)+1) (ps.take t)).countP (fun s:Pr=>!(xs.getD (s.2 - 1).toNat false))<=2:=Nat.le_trans List.countP_le_length (Nat.le_trans (zcr _ _) (by rw [List.length_take];omega));obtain ⟨Pn,hPn⟩:∃ x,ps[t]=x:=⟨_,rfl⟩
    rw [hPn,List.countP_append] at HTT;rw [hPn] at kp;obtain ⟨v0,hv0⟩:∃ c,(ptrT ((j:Int)+1) (ps.take t)).countP (fun s:Pr=>!(xs.getD (s.2 - 1).toNat false))=c:=⟨_,rfl⟩
    rw [hv0] at HTT hle ⊢;have CI:=hide (fun (W:World)=>zam Pn 1 (xs.length:Int) W);have hx16:(xs.length:Int)=16:=by have:=HL.out;omega
    have hxe:inB Pn 1 (xs.length:Int)=inB Pn 1 16:=by rw [hx16]
    rw [hxe] at CI;clear hPn hv0
    cases hin:inB Pn 1 16 with
    | false =>
     rw [hin] at CI HTT;have HE:Hid ((ptrT ((j:Int)+1) (ps.take (t+1))).countP (fun s:Pr=>!(xs.getD (s.2 - 1).toNat false))=v0):=hide (by have:=HTT.out;simpa using this);clear hin hx16 hxe;go_upto_region 13 with fail
     go_quiet ((go_at_call 80;exact Calls.quiet_of_same (CI.out _)))
     go_wp2;go_roundw
     case rel=>exact ⟨t+1,by omega,by rw [HE.out],by go_num,below_drewN HT.out _⟩
     case measure=>simp [intOf];omega
    | true =>
     rw [hin] at CI HTT;obtain ⟨hp1,hp2'⟩:=zao hin;obtain ⟨p,rfl⟩:∃ p:Nat,Pn=(p:Int)+1:=⟨(Pn - 1).toNat,by omega⟩
     have kx:=HBX.out wr p HBZ.out.2 (by omega);have p0:(0:Int)<=(p:Int):=by omega
     have pl:(p:Int) < (xs.length:Int):=by omega
     have hwp:IntKind.i64.wrap (p:Int)=(p:Int):=wrap_small _ (by omega) (by omega);have HTT2:Hid ((ptrT ((j:Int)+1) (ps.take (t+1))).countP (fun s:Pr=>!(xs.getD (s.2 - 1).toNat false))=v0+if xs.getD p false=true then 0 else 1):=hide (by
      have:=HTT.out;rw [this,if_pos rfl,List.countP_cons,List.countP_nil];have e:((p:Int)+1 - 1).toNat=p:=by omega
      simp only [e]
      cases xs.getD p false<;>simp)
     obtain ⟨bx,hbx⟩:∃ b,xs.getD p false=b:=⟨_,rfl⟩
     rw [hbx] at kx HTT2;clear hbx hin hx16 hxe hp1 hp2' HTT;go_upto_region 13 with fail
     go_quiet ((go_at_call 80;exact Calls.quiet_of_same (CI.out _)))
     cases bx with
     | true =>
      have HE:Hid ((ptrT ((j:Int)+1) (ps.take (t+1))).countP (fun s:Pr=>!(xs.getD (s.2 - 1).toNat false))=v0):=hide (by have:=HTT2.out;simpa using this);go_wp2;go_roundw
      case rel=>exact ⟨t+1,by omega,by rw [HE.out],by go_num,below_drewN HT.out _⟩
      case measure=>simp [intOf];omega
     | false =>
      have HE:Hid ((ptrT ((j:Int)+1) (ps.take (t+1))).countP (fun s:Pr=>!(xs.getD (s.2 - 1).toNat false))=v0+1):=hide (by have:=HTT2.out;simpa using this);go_wp2;go_roundw
      case rel=>exact ⟨t+1,by omega,by rw [HE.out];go_num,by go_num,below_drewN HT.out _⟩
      case measure=>simp [intOf];omega
theorem zgr:∀ (a b:List Bool),Go.Lib.allEq (fun x y=>x == y) a b=decide (a=b)
 | [],[]=>rfl
 | x :: r,y :: s=>by
  have:=zgr r s;simp only [Go.Lib.allEq,this]
  cases x<;>cases y<;>simp
 | [],_ :: _=>by simp [Go.Lib.allEq]
 | _ :: _,[]=>by simp [Go.Lib.allEq]
theorem zgs (u v:Value)(a b:List Bool)(w:World)(h1:RFl w u a)(h2:RFl w v b)(ha:0 < a.length/\a.length<=100)(hb:0 < b.length/\b.length<=100) :
  Calls Tryz.prog 107 #[u,v] w fun e w'=>e=.returned (.bool (decide (a=b)))/\∃ q,w'=w.drewN q:=by
 obtain ⟨a1,c1,rfl⟩:∃ a1 c1,u=.slice a1 a.length c1:=by obtain ⟨x,y,e,-⟩:=h1;exact ⟨x,y,e⟩
 obtain ⟨a2,c2,rfl⟩:∃ a1 c1,v=.slice a1 b.length c1:=by obtain ⟨x,y,e,-⟩:=h2;exact ⟨x,y,e⟩
 obtain ⟨g1,o1,rfl,-,k1⟩:=zcm h1 ha.1;obtain ⟨g2,o2,rfl,-,k2⟩:=zcm h2 hb.1;have:=Tryz.slices_Equal_f107 Value.bool (fun x y=>x == y) (NeqAt.bool 4 Tryz.underlying4) g1 o1 a.length c1 g2 o2 b.length c2 a b w nR nR (by omega) (by omega) (fun j hj=>by rw [k1 j hj];simp [hj]) (fun j hj=>by rw [k2 j hj];simp [hj]);rw [List.take_length,List.take_length,zgr] at this;exact this
theorem zoh (u v u' v':Value)(a b a' b':List Bool)(w:World)(h1:RFl w u a)(h2:RFl w v b)(h3:RFl w u' a')(h4:RFl w v' b')(ha:a.length=16)(hb:b.length=8)(ha':a'.length=16)(hb':b'.length=8) :
  Calls Tryz.prog 56 #[.agg #[u,v],.agg #[u',v']] w fun e w'=>e=.returned (.bool (decide (a=a') && decide (b=b')))/\Below w.heap.size w w':=by
 obtain ⟨x1,y1,rfl⟩:∃ a1 c1,u=.slice a1 a.length c1:=by obtain ⟨x,y,e,-⟩:=h1;exact ⟨x,y,e⟩
 obtain ⟨x2,y2,rfl⟩:∃ a1 c1,v=.slice a1 b.length c1:=by obtain ⟨x,y,e,-⟩:=h2;exact ⟨x,y,e⟩
 obtain ⟨x3,y3,rfl⟩:∃ a1 c1,u'=.slice a1 a'.length c1:=by obtain ⟨x,y,e,-⟩:=h3;exact ⟨x,y,e⟩
 obtain ⟨x4,y4,rfl⟩:∃ a1 c1,v'=.slice a1 b'.length c1:=by obtain ⟨x,y,e,-⟩:=h4;exact ⟨x,y,e⟩
 have C1:=hide (fun (W:World) (hb':Below w.heap.size w W)=>zgs _ _ a a' W (h1.below hb' nR) (h3.below hb' nR) (by omega) (by omega));have C2:=hide (fun (W:World) (hb'':Below w.heap.size w W)=>zgs _ _ b b' W (h2.below hb'' nR) (h4.below hb'' nR) (by omega) (by omega));obtain ⟨W0,hW0⟩:∃ W,((w.alloc (.cells #[.slice x1 a.length y1,.slice x2 b.length y2] 31)).alloc (.cells #[.slice x3 a'.length y3,.slice x4 b'.length y4] 31))=W:=⟨_,rfl⟩
 have HA:Hid (AtC W0 w.heap.size 31 #[.slice x1 a.length y1,.slice x2 b.length y2]/\AtC W0 (w.heap.size+1) 31 #[.slice x3 a'.length y3,.slice x4 b'.length y4]/\Below w.heap.size w W0):=by
  rw [← hW0];have q:=AtC.new (w.alloc (.cells #[.slice x1 a.length y1,.slice x2 b.length y2] 31)) 31 #[.slice x3 a'.length y3,.slice x4 b'.length y4];rw [World.size_alloc] at q;exact ⟨(AtC.new w 31 _).alloc _,q,((Below.refl _ w).alloc nR _).alloc (by simp) _⟩
 obtain ⟨d1,hd1⟩:∃ r,decide (a=a')=r:=⟨_,rfl⟩
 obtain ⟨d2,hd2⟩:∃ r,decide (b=b')=r:=⟨_,rfl⟩
 simp only [hd1] at C1 ⊢;simp only [hd2] at C2 ⊢;have m0:W0.cell? ⟨w.heap.size,0,none⟩=some (.slice x1 a.length y1):=HA.out.1.cell 0;have m1:W0.cell? ⟨w.heap.size+1,0,none⟩=some (.slice x3 a'.length y3):=HA.out.2.1.cell 0;have D1:=hide (C1.out W0 HA.out.2.2);clear h1 h2 h3 h4 ha hb ha' hb' hd1 hd2 C1;go_enter Tryz.func56,Tryz.ntmps56
 go_wp2_with fail
 refine D1.out.mono ?_;rintro e w1 ⟨rfl,q,rfl⟩;have HB1:Hid (Below W0.heap.size W0 (W0.drewN q)):=below_drewN bR q
 cases d1 with
 | false =>
  go_wp2;go_ret;exact ⟨rfl,HA.out.2.2.trans (HB1.out.mono HA.out.2.2.size)⟩
 | true =>
  have n0:(W0.drewN q).cell? ⟨w.heap.size,1,none⟩=some (.slice x2 b.length y2):=(HA.out.1.over HB1.out).cell 1;have n1:(W0.drewN q).cell? ⟨w.heap.size+1,1,none⟩=some (.slice x4 b'.length y4):=(HA.out.2.1.over HB1.out).cell 1;have D2:=hide (C2.out (W0.drewN q) (HA.out.2.2.trans (HB1.out.mono HA.out.2.2.size)));obtain ⟨W1,hW1⟩:∃ W,W0.drewN q=W:=⟨_,rfl⟩
  rw [hW1] at n0 n1 D2 HB1 ⊢;clear hW1;go_wp2_with fail
  refine D2.out.mono ?_;rintro e w2 ⟨rfl,q2,rfl⟩;have HB2:Hid (Below w.heap.size w (W1.drewN q2)):=below_drewN (HA.out.2.2.trans (HB1.out.mono HA.out.2.2.size)) q2;go_wp2;go_ret;exact ⟨rfl,HB2.out⟩
def inoI (is:List Ino) (bs:List Blk) (j:Nat):Bool:=if j=0 then decide (lnkAt is j=1) && decide (zan is bs ((j:Int)+1)=0) else (reachL is bs).contains ((j:Int)+1) && decide (lnkAt is j=(zan is bs ((j:Int)+1):Int)) && (decide (¬ zab is ((j:Int)+1)=2) || decide (zan is bs ((j:Int)+1)=1))
theorem ex42_any (j:Nat)(dx dy iv bv:Value)(xs ys:List Bool)(is:List Ino)(bs:List Blk)(w:World)(h:DR w dx dy iv bv xs ys is bs)(hX:RX xs ys is bs)(hj8:j < 8) :
  Calls Tryz.prog 60 #[.agg #[dx,dy,iv,bv],.int .i64 ((j:Int)+1)] w fun e w'=>e=.returned (.bool (inoI is bs j))/\Below w.heap.size w w':=by
 obtain ⟨a1,c1,a2,c2,a3,c3,a4,c4,rfl,rfl,rfl,rfl⟩:=h.form;have hj:j < is.length:=by rw [hX.r.hi];exact hj8
 obtain ⟨g2,o2,sa,sc,rfl,hg2,y0,y1,y2,-⟩:=DR.ino h j hj;have el:lnkAt is j=is[j].2.1:=by unfold lnkAt;simp [hj]
 rw [← el] at y1;have j0:(0:Int)<=(j:Int):=by omega
 have j2:(j:Int) < (is.length:Int):=by omega
 have hwj:IntKind.i64.wrap (j:Int)=(j:Int):=wrap_small _ (by omega) (by omega);have CL:=hide (fun (W:World) (hb:Below w.heap.size w W)=>zcq ((j:Int)+1) (.slice a1 xs.length c1) (.slice a2 ys.length c2) (.slice (some ⟨g2,o2,none⟩) is.length c3) (.slice a4 bs.length c4) xs ys is bs W (h.below hb nR) hX.r);have CR:=hide (fun (W:World) (hb:Below w.heap.size w W)=>za2 (.slice a1 xs.length c1) (.slice a2 ys.length c2) (.slice (some ⟨g2,o2,none⟩) is.length c3) (.slice a4 bs.length c4) xs ys is bs W (h.below hb nR) hX.r);have HR8:=hide (zah is bs);have HIN:Hid (inoI is bs j=if j=0 then decide (lnkAt is j=1) && decide (zan is bs ((j:Int)+1)=0) else (reachL is bs).contains ((j:Int)+1) && decide (lnkAt is j=(zan is bs ((j:Int)+1):Int)) && (decide (¬ zab is ((j:Int)+1)=2) || decide (zan is bs ((j:Int)+1)=1))):=rfl;obtain ⟨W0,hW0⟩:∃ W,(w.alloc (.cells #[.slice a1 xs.length c1,.slice a2 ys.length c2,.slice (some ⟨g2,o2,none⟩) is.length c3,.slice a4 bs.length c4] 35))=W:=⟨_,rfl⟩
 have HA:Hid (AtC W0 w.heap.size 35 #[.slice a1 xs.length c1,.slice a2 ys.length c2,.slice (some ⟨g2,o2,none⟩) is.length c3,.slice a4 bs.length c4]/\Below w.heap.size w W0):=by
  rw [← hW0];exact ⟨AtC.new _ _ _,(Below.refl _ w).alloc nR _⟩
 obtain ⟨kd,hkd⟩:∃ n,zab is ((j:Int)+1)=n:=⟨_,rfl⟩
 obtain ⟨lk,hlk⟩:∃ n,lnkAt is j=n:=⟨_,rfl⟩
 obtain ⟨ln,hln⟩:∃ n,zan is bs ((j:Int)+1)=n:=⟨_,rfl⟩
 obtain ⟨sn,hsn⟩:∃ n,(zak is ((j:Int)+1)).length=n:=⟨_,rfl⟩
 simp only [hkd,hlk,hln] at HIN;rw [hkd] at y0;rw [hlk] at y1;rw [hsn] at y2;simp only [hln] at CL;have HW:Hid (∀ W,Below W0.heap.size W0 W->AtC W w.heap.size 35 #[.slice a1 xs.length c1,.slice a2 ys.length c2,.slice (some ⟨g2,o2,none⟩) is.length c3,.slice a4 bs.length c4]/\(W.cell? ⟨g2,o2+j * 3,none⟩=some (.int .i64 kd)/\W.cell? ⟨g2,o2+j * 3+1,none⟩=some (.int .i64 lk)/\W.cell? ⟨g2,o2+j * 3+2,none⟩=some (.slice sa sn sc))/\Below w.heap.size w W):=fun W b=>by
  have b0:=HA.out.2.trans (b.mono HA.out.2.size);exact ⟨HA.out.1.over b,⟨(b0.cell (p:=⟨g2,o2+j * 3,none⟩) hg2).trans y0,(b0.cell (p:=⟨g2,o2+j * 3+1,none⟩) hg2).trans y1,(b0.cell (p:=⟨g2,o2+j * 3+2,none⟩) hg2).trans y2⟩,b0⟩
 clear h hX y0 y1 y2 el hkd hlk hln hsn;go_enter Tryz.func60,Tryz.ntmps60
 go_upto_region 1 with fail
 clear hW0;go_cut [5,6] from 7 to 43 (fun pv lv wx=>∃ xb:Nat,pv=.pointer (some ⟨xb,0,none⟩)/\lv=.int .i64 (ln:Int)/\AtC wx xb 63 #[.int .i64 kd,.int .i64 lk,.slice sa sn sc]/\Below W0.heap.size W0 wx)
 case first =>
  refine zad (by kernel_rfl) [0,1,2,3,4,5,6,7,8,9,11] [10] [([0,1,2,3,4,5,6,7,8,9],[[11,10],[10,11]])] (fun i=>match i with|0=>.const [] (.pointer (some ⟨w.heap.size,2,none⟩))|1=>.const [0] (.slice (some ⟨g2,o2,none⟩) is.length c3)|2=>.const [] (.int .i64 ((j:Int)+1))|3=>.const [2] (.int .i64 (j:Int))|4=>.const [1,3] (.pointer (some ⟨g2,o2+j * 3,none⟩))|5=>.const [4] (.agg #[.int .i64 kd,.int .i64 lk,.slice sa sn sc])|6=>.const [] (.agg #[.slice a1 xs.length c1,.slice a2 ys.length c2,.slice (some ⟨g2,o2,none⟩) is.length c3,.slice a4 bs.length c4])|7=>.const [] (.int .i64 ((j:Int)+1))|8=>.const [6,7] (.int .i64 (ln:Int))|9=>MkW 63 #[.int .i64 0,.int .i64 0,.slice none 0 0]|11=>.const [8] (.int .i64 (ln:Int))|_=>.triv) (fun x=>⟨#[.agg #[.slice a1 xs.length c1,.slice a2 ys.length c2,.slice (some ⟨g2,o2,none⟩) is.length c3,.slice a4 bs.length c4],.int .i64 (↑j+1),.pointer (some ⟨w.heap.size,0,none⟩),undef,.bool false,x 9,x 11,x 0,x 1,x 2,x 3,x 4,x 5,x 6,x 7,x 8,undef,undef,undef,undef,undef,undef,undef,undef,undef,undef,undef,undef,undef,undef,undef,undef,undef,undef,undef,undef,undef,undef,undef,undef,undef,undef,undef,undef],[]⟩) (fun i=>match i with|0=>undef|1=>undef|2=>undef|3=>undef|4=>undef|5=>undef|6=>undef|7=>undef|8=>undef|9=>undef|11=>undef|_=>undef) rfl (zae (by kernel_rfl) (by kernel_rfl)) (by kernel_rfl) (by kernel_rfl) (by kernel_rfl) rfl ?_ ?_ ?_
  ·intro jo hj so x iw W hd hp K hK;simp only [List.mem_cons,List.not_mem_nil,or_false] at hj;rcases hj with rfl|rfl|rfl|rfl|rfl|rfl|rfl|rfl|rfl|rfl|rfl<;>refine wpOp_step (o:=_) rfl fun K' hK'=>?_<;>have HK:=hide (fun (v:Value) (W':World) h1 h2=>hK' _ _ (hK v W' h1 h2))<;>simp only [upd,Nat.reduceEqDiff,if_true,if_false] at HK
   ·clear hK hK' hp hd;go_simp;exact HK.out _ _ bR rfl
   ·have e0:x 0=.pointer (some ⟨w.heap.size,2,none⟩):=hp.post 0 (hd 0 mz0);have bw:=HW.out W (zaa hp.bel);have k0:W.cell? ⟨w.heap.size,2,none⟩=some (.slice (some ⟨g2,o2,none⟩) is.length c3):=bw.1.cell 2;clear bw;simp only [e0] at HK ⊢;go_simp;exact HK.out _ _ bR rfl
   ·clear hK hK' hp hd;go_simp;exact HK.out _ _ bR rfl
   ·have e2:x 2=.int .i64 ((j:Int)+1):=hp.post 2 (hd 2 mz0);simp only [e2] at HK ⊢;go_simp;exact HK.out _ _ bR rfl
   ·have e1:x 1=.slice (some ⟨g2,o2,none⟩) is.length c3:=hp.post 1 (hd 1 mz0);have e3:x 3=.int .i64 (j:Int):=hp.post 3 (hd 3 mz1);simp only [e1,e3] at HK ⊢;go_simp;exact HK.out _ _ bR rfl
   ·have e4:x 4=.pointer (some ⟨g2,o2+j * 3,none⟩):=hp.post 4 (hd 4 mz0);have bw:=HW.out W (zaa hp.bel);obtain ⟨k0,k1,k2⟩:=bw.2.1;clear bw;simp only [e4] at HK ⊢;go_simp;exact HK.out _ _ bR rfl
   ·have bw:=HW.out W (zaa hp.bel);obtain ⟨k0,k1,k2,k3⟩:=AtC.four bw.1;clear bw;go_simp;exact HK.out _ _ bR rfl
   ·clear hK hK' hp hd;go_simp;exact HK.out _ _ bR rfl
   ·have e6:x 6=.agg #[.slice a1 xs.length c1,.slice a2 ys.length c2,.slice (some ⟨g2,o2,none⟩) is.length c3,.slice a4 bs.length c4]:=hp.post 6 (hd 6 mz0);have e7:x 7=.int .i64 ((j:Int)+1):=hp.post 7 (hd 7 mz1);have dr:=(HW.out W (zaa hp.bel)).2.2;simp only [e6,e7] at HK ⊢;clear e6 e7;go_simp;refine (CL.out W dr).mono ?_;rintro e w6 ⟨rfl,B6⟩;go_simp;exact HK.out _ _ B6 rfl
   ·clear hK hK' hp hd;go_simp;exact HK.out _ _ ((Below.refl _ W).alloc nR _) ⟨rfl,by simp,AtC.new W 63 _⟩
   ·have e8:x 8=.int .i64 (ln:Int):=hp.post 8 (hd 8 mz0);simp only [e8] at HK ⊢;go_simp;exact HK.out _ _ bR rfl
  ·intro x iw W hp;have e5:x 5=.agg #[.int .i64 kd,.int .i64 lk,.slice sa sn sc]:=hp.post 5 (by decide);have e8:x 8=.int .i64 (ln:Int):=hp.post 8 (by decide);have e11:x 11=.int .i64 (ln:Int):=hp.post 11 (by decide);obtain ⟨e9,z9,A9⟩:=hp.post 9 (by decide);have l9:=hp.lo 9 (by decide);have bel:=zaa hp.bel;have hb9:W0.heap.size<=(iw 9).1:=l9.1;have y0:W.cell? ⟨(iw 9).1,0,none⟩=some (.int .i64 0):=A9.cell 0;have y1:W.cell? ⟨(iw 9).1,1,none⟩=some (.int .i64 0):=A9.cell 1;have y2:W.cell? ⟨(iw 9).1,2,none⟩=some (.slice none 0 0):=A9.cell 2;have f0:=A9.frozen 0;have f1:=A9.frozen 1;have f2:=A9.frozen 2;have HFI:Hid (AtC W (iw 9).1 63 #[.int .i64 0,.int .i64 0,.slice none 0 0]/\Below W0.heap.size W0 W/\W0.heap.size<=(iw 9).1):=⟨A9,bel,hb9⟩
   clear hp A9 bel l9 z9 hb9;simp only [e5,e8,e9,e11] at *;generalize (iw 9).1=bw at *;go_wp2_with fail
   try rw [List.filterMap_nil]
   try go_wp2_with fail
   go_meet
   exact ⟨bw,rfl,rfl,((HFI.out.1.set 0 _).set 1 _).set 2 _,((HFI.out.2.1.setCell (p:=⟨bw,0,none⟩) HFI.out.2.2 _).setCell (p:=⟨bw,1,none⟩) HFI.out.2.2 _).setCell (p:=⟨bw,2,none⟩) HFI.out.2.2 _⟩
  ·intro qa hqa l hl x iw W hp;simp only [List.mem_cons,List.not_mem_nil,or_false] at hqa;subst hqa;simp only [List.mem_cons,List.not_mem_nil,or_false] at hl;have e5:x 5=.agg #[.int .i64 kd,.int .i64 lk,.slice sa sn sc]:=hp.post 5 (by decide);have e8:x 8=.int .i64 (ln:Int):=hp.post 8 (by decide);obtain ⟨e9,z9,A9⟩:=hp.post 9 (by decide);have l9:=hp.lo 9 (by decide);have bel:=zaa hp.bel;have hb9:W0.heap.size<=(iw 9).1:=l9.1;have y0:W.cell? ⟨(iw 9).1,0,none⟩=some (.int .i64 0):=A9.cell 0;have y1:W.cell? ⟨(iw 9).1,1,none⟩=some (.int .i64 0):=A9.cell 1;have y2:W.cell? ⟨(iw 9).1,2,none⟩=some (.slice none 0 0):=A9.cell 2;have f0:=A9.frozen 0;have f1:=A9.frozen 1;have f2:=A9.frozen 2;have HFI:Hid (AtC W (iw 9).1 63 #[.int .i64 0,.int .i64 0,.slice none 0 0]/\Below W0.heap.size W0 W/\W0.heap.size<=(iw 9).1):=⟨A9,bel,hb9⟩
   clear hp A9 bel l9 z9 hb9;simp only [e5,e8,e9] at *;generalize (iw 9).1=bw at *;rcases hl with rfl | rfl
   ·go_wp2_with fail
    try rw [List.filterMap_nil]
    try go_wp2_with fail
    go_meet
    exact ⟨bw,rfl,rfl,((HFI.out.1.set 0 _).set 1 _).set 2 _,((HFI.out.2.1.setCell (p:=⟨bw,0,none⟩) HFI.out.2.2 _).setCell (p:=⟨bw,1,none⟩) HFI.out.2.2 _).setCell (p:=⟨bw,2,none⟩) HFI.out.2.2 _⟩
   ·go_wp2_with fail
    try rw [List.filterMap_nil]
    try go_wp2_with fail
    go_meet
    exact ⟨bw,rfl,rfl,((HFI.out.1.set 0 _).set 1 _).set 2 _,((HFI.out.2.1.setCell (p:=⟨bw,0,none⟩) HFI.out.2.2 _).setCell (p:=⟨bw,1,none⟩) HFI.out.2.2 _).setCell (p:=⟨bw,2,none⟩) HFI.out.2.2 _⟩
 case rest =>
  obtain ⟨xb,rfl,rfl,hAx,hB2⟩:=hcut;have x0:wc.cell? ⟨xb,0,none⟩=some (.int .i64 kd):=hAx.cell 0;have x1:wc.cell? ⟨xb,1,none⟩=some (.int .i64 lk):=hAx.cell 1;have HX2:=hide (And.intro hAx (HW.out _ hB2));clear hAx hB2;by_cases hj0:j=0
  ·have HF:Hid (inoI is bs j=((lk == 1) && ((ln:Int) == 0))):=hide (by
    have e2:decide (ln=0)=((ln:Int) == 0):=by rw [show ((ln:Int) == 0)=decide ((ln:Int)=0) from rfl];exact decide_eq_decide.2 (by omega)
    rw [HIN.out,if_pos hj0,e2];rfl)
   have jb:((j:Int)+1 == 1)=true:=by simp [hj0]
   clear hj0;by_cases hl1:lk=1
   ·subst hl1;go_wp2;go_ret;exact ⟨by rw [HF.out];rfl,HX2.out.2.2.2⟩
   ·have hlb:(lk == 1)=false:=by simp [hl1]
    clear hl1;go_wp2;go_ret;exact ⟨by rw [HF.out,hlb];rfl,HX2.out.2.2.2⟩
  have jb:((j:Int)+1 == 1)=false:=by simp;omega
  have ji:¬ ((j:Int)+1=1):=by omega
  obtain ⟨z0,z1,z2,z3⟩:=AtC.four HX2.out.2.1;have CR1:=hide (CR.out wc HX2.out.2.2.2);have HF:Hid (inoI is bs j=((reachL is bs).contains ((j:Int)+1) && (lk == (ln:Int)) && ((kd != 2) || ((ln:Int) == 1)))):=hide (by
   have e2:decide (ln=1)=((ln:Int) == 1):=by rw [show ((ln:Int) == 1)=decide ((ln:Int)=1) from rfl];exact decide_eq_decide.2 (by omega)
   have e3:decide (¬ kd=2)=(kd != 2):=by by_cases e:kd=2<;>simp [e]
   rw [HIN.out,if_neg hj0,e2,e3];rfl)
  clear hj0;go_wp2_with fail
  refine CR1.out.mono ?_;rintro e w3 ⟨rv,rfl,R3,B3⟩;have HB3:Hid (Below w.heap.size w w3):=HX2.out.2.2.2.trans (B3.mono HX2.out.2.2.2.size);have CH:=hide (ze3 rv (reachL is bs) ((j:Int)+1) w3 R3.rints (by have:=HR8.out;omega));obtain ⟨ra,rc,rfl,-⟩:=R3.form;have v0:w3.cell? ⟨xb,0,none⟩=some (.int .i64 kd):=(HX2.out.1.over B3).cell 0;have v1:w3.cell? ⟨xb,1,none⟩=some (.int .i64 lk):=(HX2.out.1.over B3).cell 1;obtain ⟨r,hr⟩:∃ b,(reachL is bs).contains ((j:Int)+1)=b:=⟨_,rfl⟩
  rw [hr] at CH HF;obtain ⟨m,hm⟩:∃ m,(ic (reachL is bs)).length=m:=⟨_,rfl⟩
  rw [hm] at CH ⊢;clear R3 B3 CR CR1 z0 z1 z2 z3 x0 x1 hr hm HIN;go_wp2_with fail
  refine CH.out.mono ?_;rintro e w4 ⟨rfl,rfl⟩
  cases r with
  | false =>
   go_wp2;go_ret;exact ⟨by rw [HF.out];rfl,HB3.out⟩
  | true =>
   cases hll:(lk == (ln:Int)) with
   | false =>
    have hll2:¬ lk=(ln:Int):=by simpa using hll
    rw [hll] at HF;go_wp2;go_ret;exact ⟨by rw [HF.out];rfl,HB3.out⟩
   | true =>
    have hll2:lk=(ln:Int):=by simpa using hll
    rw [hll] at HF;clear hll
    cases hk2:(kd != 2) with
    | true =>
     have hk3:¬ kd=2:=by simpa using hk2
     rw [hk2] at HF;subst hll2;go_wp2;go_ret;exact ⟨by rw [HF.out];rfl,HB3.out⟩
    | false =>
     have hk3:kd=2:=by simpa using hk2
     rw [hk2] at HF;clear hk2;subst hk3;subst hll2;go_wp2;go_ret;exact ⟨by rw [HF.out];rfl,HB3.out⟩
theorem c41_any (j:Nat)(a1 a2 a3 a4:Option Addr)(c1 c2 c3 c4:Nat)(xs ys:List Bool)(is:List Ino)(bs:List Blk)(dk:Nat)(w:World)(h:DR w (.slice a1 xs.length c1) (.slice a2 ys.length c2) (.slice a3 is.length c3) (.slice a4 bs.length c4) xs ys is bs)(hX:RX xs ys is bs)(hd:AtC w dk 35 #[.slice a1 xs.length c1,.slice a2 ys.length c2,.slice a3 is.length c3,.slice a4 bs.length c4])(hj8:j < 8) :
  Calls Tryz.prog 59 #[.int .i64 ((j:Int)+1),.pointer (some ⟨dk,0,none⟩)] w fun e w'=>e=.returned (.bool (!(inoI is bs j)))/\Below w.heap.size w w':=by
 have CT:=hide (ex42_any j (.slice a1 xs.length c1) (.slice a2 ys.length c2) (.slice a3 is.length c3) (.slice a4 bs.length c4) xs ys is bs w h hX hj8);obtain ⟨z0,z1,z2,z3⟩:=AtC.four hd;obtain ⟨r,hr⟩:∃ r,inoI is bs j=r:=⟨_,rfl⟩
 rw [hr] at CT ⊢;clear h hX hd hr;go_enter Tryz.func59,Tryz.ntmps59
 go_wp2_with fail
 refine CT.out.mono ?_;rintro e w1 ⟨rfl,B1⟩;have HB1:=hide B1;clear B1;go_wp2;go_ret;exact ⟨rfl,HB1.out⟩
def exN (is:List Ino) (bs:List Blk):Nat:=(kndL is).countP fun i=>!(inoI is bs (i - 1).toNat)
theorem zmc {is:List Ino}{bs:List Blk}(h:RD is bs):(reachL is bs).contains 1=true:=by
 rw [List.contains_iff_mem];exact (zdx (zdy is bs) (zef h)).2 (Rch.root _)
theorem zmd {is:List Ino}{bs:List Blk}(h:RD is bs){i:Int}(hi:(reachL is bs).contains i=true):i=1\/¬ zab is i=0:=by
 rw [List.contains_iff_mem] at hi;have hr:Rch (edge is bs) i:=(zdx (zdy is bs) (zef h)).1 hi;exact hr (fun i=>i=1\/¬ zab is i=0) (.inl rfl) (fun _ k _ e=>by obtain ⟨_,_,_,hk⟩:=e;exact .inr hk)
theorem zgt {a:List Bool}{n:Nat}{f:Nat->Bool}(ha:a.length=n):a=(List.range n).map f↔∀ j,j < n->a.getD j false=f j:=by
 constructor
 ·intro e j hj;rw [e,zbz false (by simpa using hj)];simp
 ·intro h;apply List.ext_getElem (by rw [ha];simp);intro j h1 h2;have:=h j (by rw [← ha];exact h1);rw [zbz false h1] at this;rw [this];simp
theorem zhw {ys:List Bool}{is:List Ino}{bs:List Blk}(j:Nat):inoS ys is bs j=true↔(((reachL is bs).contains ((j:Int)+1)=true\/zab is ((j:Int)+1)=0)/\ys.getD j false=(reachL is bs).contains ((j:Int)+1)/\(j=0->lnkAt is j=1/\zan is bs ((j:Int)+1)=0)/\(¬ j=0->((reachL is bs).contains ((j:Int)+1)=true->lnkAt is j=(zan is bs ((j:Int)+1):Int))/\(zab is ((j:Int)+1)=2->zan is bs ((j:Int)+1)=1))):=by
 unfold inoS;exact decide_eq_true_iff
theorem zlf {is:List Ino}{bs:List Blk}(j:Nat):inoI is bs j=true↔(j=0->lnkAt is j=1/\zan is bs ((j:Int)+1)=0)/\(¬ j=0->(reachL is bs).contains ((j:Int)+1)=true/\lnkAt is j=(zan is bs ((j:Int)+1):Int)/\(zab is ((j:Int)+1)=2->zan is bs ((j:Int)+1)=1)):=by
 unfold inoI;by_cases e:j=0
 ·rw [if_pos e];simp only [Bool.and_eq_true,decide_eq_true_eq];exact ⟨fun h=>⟨fun _=>h,fun h'=>absurd e h'⟩,fun h=>h.1 e⟩
 ·rw [if_neg e];simp only [Bool.and_eq_true,Bool.or_eq_true,decide_eq_true_eq];refine ⟨fun h=>⟨fun h'=>absurd h' e,fun _=>⟨h.1.1,h.1.2,fun hk=>h.2.resolve_left (fun hn=>hn hk)⟩⟩,fun h=>?_⟩;obtain ⟨h1,h2,h3⟩:=h.2 e;refine ⟨⟨h1,h2⟩,?_⟩;by_cases hk:zab is ((j:Int)+1)=2
  ·exact .inr (h3 hk)
  ·exact .inl hk
theorem zoi {xs ys:List Bool}{is:List Ino}{bs:List Blk}(hX:RX xs ys is bs)(hk1:zab is 1=2):zbo xs ys is bs=(decide (xs=fB is bs) && decide (ys=fI is bs) && decide (exN is bs=0)):=by
 have hB:(List.range 16).all (bitS xs is bs)=decide (xs=fB is bs):=by
  rw [Bool.eq_iff_iff,List.all_eq_true,decide_eq_true_eq];unfold fB;rw [zgt hX.bx];exact ⟨fun h p hp=>of_decide_eq_true (h p (List.mem_range.2 hp)),fun h p hp=>decide_eq_true (h p (List.mem_range.1 hp))⟩
 have hI:(List.range 8).all (inoS ys is bs)=(decide (ys=fI is bs) && decide (exN is bs=0)):=by
  rw [Bool.eq_iff_iff,List.all_eq_true,Bool.and_eq_true,decide_eq_true_eq,decide_eq_true_eq];have hn:exN is bs=0↔∀ j:Nat,j < 8->¬ zab is ((j:Int)+1)=0->inoI is bs j=true:=by
   unfold exN;rw [List.countP_eq_zero];constructor
   ·intro h j hj hk;have:=h ((j:Int)+1) (zcs.2 ⟨by omega,hk⟩);rw [show ((j:Int)+1 - 1).toNat=j by omega] at this;simpa using this
   ·intro h i hi;obtain ⟨h1,h2⟩:=zcs.1 hi;have:=h (i - 1).toNat (by omega) (by rw [show (((i - 1).toNat:Nat):Int)+1=i by omega];exact h2);rw [this];decide
  rw [hn];unfold fI;rw [zgt hX.y8];constructor
  ·intro h;refine ⟨fun j hj=>((zhw j).1 (h j (List.mem_range.2 hj))).2.1,fun j hj hk=>?_⟩;obtain ⟨h1,h2,h3,h4⟩:=(zhw j).1 (h j (List.mem_range.2 hj));have hr:=h1.resolve_right hk;exact (zlf j).2 ⟨h3,fun e=>⟨hr,(h4 e).1 hr,(h4 e).2⟩⟩
  ·rintro ⟨h1,h2⟩ j hj;have hj:=List.mem_range.1 hj;rw [zhw];by_cases hk:zab is ((j:Int)+1)=0
   ·have hj0:¬ j=0:=fun e=>by
     subst e;rw [show ((0:Nat):Int)+1=1 from rfl,hk1] at hk
     cases hk
    have hr:¬ (reachL is bs).contains ((j:Int)+1)=true:=fun hr=>by
     rcases zmd hX.r hr with e | e
     ·omega
     ·exact e hk
    refine ⟨.inr hk,h1 j hj,fun e=>absurd e hj0,fun _=>⟨fun e=>absurd e hr,fun e=>?_⟩⟩;rw [hk] at e
    cases e
   ·obtain ⟨h3,h4⟩:=(zlf j).1 (h2 j hj hk);have hr:(reachL is bs).contains ((j:Int)+1)=true:=by
     by_cases e:j=0
     ·subst e;exact zmc hX.r
     ·exact (h4 e).1
    exact ⟨.inl hr,h1 j hj,h3,fun e=>⟨fun _=>(h4 e).2.1,(h4 e).2.2⟩⟩
 unfold zbo;rw [hB,hI]
 cases decide (xs=fB is bs)<;>cases decide (ys=fI is bs)<;>cases decide (exN is bs=0)<;>rfl
theorem dangN_le {is:List Ino}{bs:List Blk}(h:RD is bs):dangN is bs<=64:=Nat.le_trans List.countP_le_length (zdc h)
theorem zoj (is:List Ino)(bs:List Blk):zdi is bs<=8:=Nat.le_trans List.countP_le_length (zah is bs)
theorem zok {is:List Ino}{bs:List Blk}(h:RD is bs):zdj is bs<=16:=Nat.le_trans List.countP_le_length (by have h1:=zax h (reachL is bs);have h2:=zah is bs;omega)
theorem zjb (dx dy iv bv:Value)(xs ys:List Bool)(is:List Ino)(bs:List Blk)(w:World)(h:DR w dx dy iv bv xs ys is bs)(hG:Big 1048576 xs ys is bs) :
  Calls Tryz.prog 55 #[.agg #[dx,dy,iv,bv]] w fun e w'=>e=.returned (.bool (safeB xs ys is bs))/\Below w.heap.size w w':=by
 obtain ⟨a1,c1,a2,c2,a3,c3,a4,c4,rfl,rfl,rfl,rfl⟩:=h.form;obtain ⟨W0,hW0⟩:∃ W,(w.alloc (.cells #[.slice a1 xs.length c1,.slice a2 ys.length c2,.slice a3 is.length c3,.slice a4 bs.length c4] 35))=W:=⟨_,rfl⟩
 have HA:Hid (AtC W0 w.heap.size 35 #[.slice a1 xs.length c1,.slice a2 ys.length c2,.slice a3 is.length c3,.slice a4 bs.length c4]/\Below w.heap.size w W0):=by
  rw [← hW0];exact ⟨AtC.new w 35 _,(Below.refl _ w).alloc nR _⟩
 have CO:=hide (fun (W:World) (hb:Below w.heap.size w W)=>zdm (.slice a1 xs.length c1) (.slice a2 ys.length c2) (.slice a3 is.length c3) (.slice a4 bs.length c4) xs ys is bs W (h.below hb nR) hG.i hG.b);have HW:Hid (∀ W,Below W0.drew.heap.size W0.drew W->AtC W w.heap.size 35 #[.slice a1 xs.length c1,.slice a2 ys.length c2,.slice a3 is.length c3,.slice a4 bs.length c4]/\Below w.heap.size w W):=fun W b=>⟨HA.out.1.drew.over b,HA.out.2.drew.trans (b.mono HA.out.2.drew.size)⟩
 have CO1:=hide (CO.out W0.drew (HW.out _ bR).2);obtain ⟨z0,z1,z2,z3⟩:=AtC.four ((HW.out _ bR).1)
 cases hok:zag xs ys is bs with
 | false =>
  rw [hok] at CO1;have HS:Hid (safeB xs ys is bs=false):=by show _=_;unfold safeB;rw [hok];rfl
  simp only [hok] at CO;clear h hG hok CO1 z0 z1 z2 z3;go_enter Tryz.func55,Tryz.ntmps55
  go_upto_region 1 with fail
  clear hW0;refine zad (by kernel_rfl) [0,1,2,3,4,5,6,7,8,9,10,11,12,13,14,15,16,17,18,19,20,21,22] [23,24] [] (fun i=>match i with|0=>.const [] (.agg #[.slice a1 xs.length c1,.slice a2 ys.length c2,.slice a3 is.length c3,.slice a4 bs.length c4])|1=>.const [0] (.bool false)|2=>.const [1] (.bool false)|3=>.val [2] (fun _ _ _ _=>True) (fun _ _ _ _ _ _ _=>trivial)|4=>.val [2] (fun _ _ _ _=>True) (fun _ _ _ _ _ _ _=>trivial)|5=>.val [2] (fun _ _ _ _=>True) (fun _ _ _ _ _ _ _=>trivial)|6=>.const [2] (.bool false)|7=>.const [6] (.bool false)|8=>.val [7] (fun _ _ _ _=>True) (fun _ _ _ _ _ _ _=>trivial)|9=>.val [7] (fun _ _ _ _=>True) (fun _ _ _ _ _ _ _=>trivial)|10=>.val [7] (fun _ _ _ _=>True) (fun _ _ _ _ _ _ _=>trivial)|11=>.val [7] (fun _ _ _ _=>True) (fun _ _ _ _ _ _ _=>trivial)|12=>.val [7] (fun _ _ _ _=>True) (fun _ _ _ _ _ _ _=>trivial)|13=>.val [7] (fun _ _ _ _=>True) (fun _ _ _ _ _ _ _=>trivial)|14=>.val [7] (fun _ _ _ _=>True) (fun _ _ _ _ _ _ _=>trivial)|15=>.val [7] (fun _ _ _ _=>True) (fun _ _ _ _ _ _ _=>trivial)|16=>.val [7] (fun _ _ _ _=>True) (fun _ _ _ _ _ _ _=>trivial)|17=>.val [7] (fun _ _ _ _=>True) (fun _ _ _ _ _ _ _=>trivial)|18=>.val [7] (fun _ _ _ _=>True) (fun _ _ _ _ _ _ _=>trivial)|19=>.val [7] (fun _ _ _ _=>True) (fun _ _ _ _ _ _ _=>trivial)|20=>.val [7] (fun _ _ _ _=>True) (fun _ _ _ _ _ _ _=>trivial)|21=>.val [7] (fun _ _ _ _=>True) (fun _ _ _ _ _ _ _=>trivial)|22=>.val [7] (fun _ _ _ _=>True) (fun _ _ _ _ _ _ _=>trivial)|_=>.triv) (fun x=>⟨#[.agg #[.slice a1 xs.length c1,.slice a2 ys.length c2,.slice a3 is.length c3,.slice a4 bs.length c4],.pointer (some ⟨w.heap.size,0,none⟩),.bool false,x 0,x 1,x 2,x 3,x 4,x 5,x 6,x 7,x 8,x 9,x 10,x 11,x 12,x 13,x 14,x 15,x 16,x 17,x 18,x 19,x 20,x 21,x 22,undef],[]⟩) (fun i=>match i with|0=>undef|1=>undef|2=>undef|3=>undef|4=>undef|5=>undef|6=>undef|7=>undef|8=>undef|9=>undef|10=>undef|11=>undef|12=>undef|13=>undef|14=>undef|15=>undef|16=>undef|17=>undef|18=>undef|19=>undef|20=>undef|21=>undef|22=>undef|_=>undef) rfl (zae (by kernel_rfl) (by kernel_rfl)) (by kernel_rfl) (by kernel_rfl) (by kernel_rfl) rfl ?_ ?_ (by intro q hq;cases hq)
  ·intro jo hj so x iw W hd hp K hK;simp only [List.mem_cons,List.not_mem_nil,or_false] at hj;rcases hj with rfl|rfl|rfl|rfl|rfl|rfl|rfl|rfl|rfl|rfl|rfl|rfl|rfl|rfl|rfl|rfl|rfl|rfl|rfl|rfl|rfl|rfl|rfl<;>refine wpOp_step (o:=_) rfl fun K' hK'=>?_<;>have HK:=hide (fun (v:Value) (W':World) h1 h2=>hK' _ _ (hK v W' h1 h2))<;>simp only [upd,Nat.reduceEqDiff,if_true,if_false] at HK
   ·have bw:=HW.out W hp.bel;obtain ⟨k0,k1,k2,k3⟩:=AtC.four bw.1;clear bw;go_simp;exact HK.out _ _ bR rfl
   ·have e0:x 0=.agg #[.slice a1 xs.length c1,.slice a2 ys.length c2,.slice a3 is.length c3,.slice a4 bs.length c4]:=hp.post 0 (hd 0 mz0);have dr:=(HW.out W hp.bel).2;simp only [e0] at HK ⊢;clear e0;go_simp;refine (CO.out W dr).mono ?_;rintro e w6 ⟨rfl,B6⟩;go_simp;exact HK.out _ _ B6 rfl
   ·have e1:x 1=.bool false:=hp.post 1 (hd 1 mz0);simp only [e1] at HK ⊢;go_simp;exact HK.out _ _ bR rfl
   ·have e2:x 2=.bool false:=hp.post 2 (hd 2 mz0);simp only [e2] at HK ⊢;go_simp;exact HK.out _ _ bR trivial
   ·have e2:x 2=.bool false:=hp.post 2 (hd 2 mz0);simp only [e2] at HK ⊢;go_simp;exact HK.out _ _ bR trivial
   ·have e2:x 2=.bool false:=hp.post 2 (hd 2 mz0);simp only [e2] at HK ⊢;go_simp;exact HK.out _ _ bR trivial
   ·have e2:x 2=.bool false:=hp.post 2 (hd 2 mz0);simp only [e2] at HK ⊢;go_simp;exact HK.out _ _ bR rfl
   ·have e6:x 6=.bool false:=hp.post 6 (hd 6 mz0);simp only [e6] at HK ⊢;go_simp;exact HK.out _ _ bR rfl
   ·have e7:x 7=.bool false:=hp.post 7 (hd 7 mz0);simp only [e7] at HK ⊢;go_simp;exact HK.out _ _ bR trivial
   ·have e7:x 7=.bool false:=hp.post 7 (hd 7 mz0);simp only [e7] at HK ⊢;go_simp;exact HK.out _ _ bR trivial
   ·have e7:x 7=.bool false:=hp.post 7 (hd 7 mz0);simp only [e7] at HK ⊢;go_simp;exact HK.out _ _ bR trivial
   ·have e7:x 7=.bool false:=hp.post 7 (hd 7 mz0);simp only [e7] at HK ⊢;go_simp;exact HK.out _ _ bR trivial
   ·have e7:x 7=.bool false:=hp.post 7 (hd 7 mz0);simp only [e7] at HK ⊢;go_simp;exact HK.out _ _ bR trivial
   ·have e7:x 7=.bool false:=hp.post 7 (hd 7 mz0);simp only [e7] at HK ⊢;go_simp;exact HK.out _ _ bR trivial
   ·have e7:x 7=.bool false:=hp.post 7 (hd 7 mz0);simp only [e7] at HK ⊢;go_simp;exact HK.out _ _ bR trivial
   ·have e7:x 7=.bool false:=hp.post 7 (hd 7 mz0);simp only [e7] at HK ⊢;go_simp;exact HK.out _ _ bR trivial
   ·have e7:x 7=.bool false:=hp.post 7 (hd 7 mz0);simp only [e7] at HK ⊢;go_simp;exact HK.out _ _ bR trivial
   ·have e7:x 7=.bool false:=hp.post 7 (hd 7 mz0);simp only [e7] at HK ⊢;go_simp;exact HK.out _ _ bR trivial
   ·have e7:x 7=.bool false:=hp.post 7 (hd 7 mz0);simp only [e7] at HK ⊢;go_simp;exact HK.out _ _ bR trivial
   ·have e7:x 7=.bool false:=hp.post 7 (hd 7 mz0);simp only [e7] at HK ⊢;go_simp;exact HK.out _ _ bR trivial
   ·have e7:x 7=.bool false:=hp.post 7 (hd 7 mz0);simp only [e7] at HK ⊢;go_simp;exact HK.out _ _ bR trivial
   ·have e7:x 7=.bool false:=hp.post 7 (hd 7 mz0);simp only [e7] at HK ⊢;go_simp;exact HK.out _ _ bR trivial
   ·have e7:x 7=.bool false:=hp.post 7 (hd 7 mz0);simp only [e7] at HK ⊢;go_simp;exact HK.out _ _ bR trivial
  ·intro x iw W hp;have e7:x 7=.bool false:=hp.post 7 (by decide);have HB:=hide (HW.out W hp.bel).2;simp only [e7];clear hp e7;go_wp2_with fail
   try rw [List.filterMap_nil]
   try go_wp2
   go_ret;exact ⟨by rw [HS.out];rfl,HB.out⟩
 | true =>
 rw [hok] at CO1;have hX:=RX.of_ok hok;have HS:Hid (safeB xs ys is bs=decide (zab is 1=2/\dangN is bs=0/\zb8 is=0/\unmP xs is bs+unmI ys is bs=0/\zdi is bs=0/\zdj is bs=0)):=by show _=_;unfold safeB;rw [hok];rfl
 have CK:=hide (fun (W:World) (hb:Below w.heap.size w W)=>zbm 1 (.slice a1 xs.length c1) (.slice a2 ys.length c2) (.slice a3 is.length c3) (.slice a4 bs.length c4) xs ys is bs W (h.below hb nR) hX.r);have C1:=hide (fun (W:World) (hb:Below w.heap.size w W)=>zja (.slice a1 xs.length c1) (.slice a2 ys.length c2) (.slice a3 is.length c3) (.slice a4 bs.length c4) xs ys is bs W (h.below hb nR) hX);have C2:=hide (fun (W:World) (hb:Below w.heap.size w W)=>zkc (.slice a1 xs.length c1) (.slice a2 ys.length c2) (.slice a3 is.length c3) (.slice a4 bs.length c4) xs ys is bs W (h.below hb nR) hX);have C3:=hide (fun (W:World) (hb:Below w.heap.size w W)=>zkb (.slice a1 xs.length c1) (.slice a2 ys.length c2) (.slice a3 is.length c3) (.slice a4 bs.length c4) xs ys is bs W (h.below hb nR) hX);have C4:=hide (fun (W:World) (hb:Below w.heap.size w W)=>zhu (.slice a1 xs.length c1) (.slice a2 ys.length c2) (.slice a3 is.length c3) (.slice a4 bs.length c4) xs ys is bs W (h.below hb nR) hX);have C5:=hide (fun (W:World) (hb:Below w.heap.size w W)=>zhv (.slice a1 xs.length c1) (.slice a2 ys.length c2) (.slice a3 is.length c3) (.slice a4 bs.length c4) xs ys is bs W (h.below hb nR) hX);have hun:((unmP xs is bs:Int)+(unmI ys is bs:Int))=((unmP xs is bs+unmI ys is bs:Nat):Int):=by omega
 simp only [hun] at C3;have l1:=dangN_le hX.r;have l2:=zl2 hX.r;have l3:unmP xs is bs+unmI ys is bs<=24:=by have:=unm_le hX.r xs ys;omega
 have l4:=zoj is bs;have l5:=zok hX.r;obtain ⟨kd,hkd⟩:∃ n,zab is 1=n:=⟨_,rfl⟩
 obtain ⟨n1,hn1⟩:∃ n,dangN is bs=n:=⟨_,rfl⟩
 obtain ⟨n2,hn2⟩:∃ n,zb8 is=n:=⟨_,rfl⟩
 obtain ⟨n3,hn3⟩:∃ n,unmP xs is bs+unmI ys is bs=n:=⟨_,rfl⟩
 obtain ⟨n4,hn4⟩:∃ n,zdi is bs=n:=⟨_,rfl⟩
 obtain ⟨n5,hn5⟩:∃ n,zdj is bs=n:=⟨_,rfl⟩
 simp only [hkd,hn1,hn2,hn3,hn4,hn5] at HS l1 l2 l3 l4 l5;simp only [hkd] at CK;simp only [hn1] at C1;simp only [hn2] at C2;simp only [hn3] at C3;simp only [hn4] at C4;simp only [hn5] at C5;clear h hG hX hun hkd hn1 hn2 hn3 hn4 hn5;by_cases hk:kd=2
 rotate_left
 ·have hkb:(kd == 2)=false:=by simp [hk]
  have HF:Hid (safeB xs ys is bs=false):=hide (by rw [HS.out];simp [hk]);simp only [hok] at CO;clear hk hok CO1 z0 z1 z2 z3 C1 C2 C3 C4 C5;go_enter Tryz.func55,Tryz.ntmps55
  go_upto_region 1 with fail
  clear hW0;refine zad (by kernel_rfl) [0,1,2,3,4,5,6,7,8,9,10,11,12,13,14,15,16,17,18,19,20,21,22] [23,24] [] (fun i=>match i with|0=>.const [] (.agg #[.slice a1 xs.length c1,.slice a2 ys.length c2,.slice a3 is.length c3,.slice a4 bs.length c4])|1=>.const [0] (.bool true)|2=>.const [1] (.bool true)|3=>.const [2] (.agg #[.slice a1 xs.length c1,.slice a2 ys.length c2,.slice a3 is.length c3,.slice a4 bs.length c4])|4=>.const [3,2] (.int .i64 (kd))|5=>.const [4,2] (.bool false)|6=>.const [2,5] (.bool false)|7=>.const [6] (.bool false)|8=>.val [7] (fun _ _ _ _=>True) (fun _ _ _ _ _ _ _=>trivial)|9=>.val [7] (fun _ _ _ _=>True) (fun _ _ _ _ _ _ _=>trivial)|10=>.val [7] (fun _ _ _ _=>True) (fun _ _ _ _ _ _ _=>trivial)|11=>.val [7] (fun _ _ _ _=>True) (fun _ _ _ _ _ _ _=>trivial)|12=>.val [7] (fun _ _ _ _=>True) (fun _ _ _ _ _ _ _=>trivial)|13=>.val [7] (fun _ _ _ _=>True) (fun _ _ _ _ _ _ _=>trivial)|14=>.val [7] (fun _ _ _ _=>True) (fun _ _ _ _ _ _ _=>trivial)|15=>.val [7] (fun _ _ _ _=>True) (fun _ _ _ _ _ _ _=>trivial)|16=>.val [7] (fun _ _ _ _=>True) (fun _ _ _ _ _ _ _=>trivial)|17=>.val [7] (fun _ _ _ _=>True) (fun _ _ _ _ _ _ _=>trivial)|18=>.val [7] (fun _ _ _ _=>True) (fun _ _ _ _ _ _ _=>trivial)|19=>.val [7] (fun _ _ _ _=>True) (fun _ _ _ _ _ _ _=>trivial)|20=>.val [7] (fun _ _ _ _=>True) (fun _ _ _ _ _ _ _=>trivial)|21=>.val [7] (fun _ _ _ _=>True) (fun _ _ _ _ _ _ _=>trivial)|22=>.val [7] (fun _ _ _ _=>True) (fun _ _ _ _ _ _ _=>trivial)|_=>.triv) (fun x=>⟨#[.agg #[.slice a1 xs.length c1,.slice a2 ys.length c2,.slice a3 is.length c3,.slice a4 bs.length c4],.pointer (some ⟨w.heap.size,0,none⟩),.bool false,x 0,x 1,x 2,x 3,x 4,x 5,x 6,x 7,x 8,x 9,x 10,x 11,x 12,x 13,x 14,x 15,x 16,x 17,x 18,x 19,x 20,x 21,x 22,undef],[]⟩) (fun i=>match i with|0=>undef|1=>undef|2=>undef|3=>undef|4=>undef|5=>undef|6=>undef|7=>undef|8=>undef|9=>undef|10=>undef|11=>undef|12=>undef|13=>undef|14=>undef|15=>undef|16=>undef|17=>undef|18=>undef|19=>undef|20=>undef|21=>undef|22=>undef|_=>undef) rfl (zae (by kernel_rfl) (by kernel_rfl)) (by kernel_rfl) (by kernel_rfl) (by kernel_rfl) rfl ?_ ?_ (by intro q hq;cases hq)
  ·intro jo hj so x iw W hd hp K hK;simp only [List.mem_cons,List.not_mem_nil,or_false] at hj;rcases hj with rfl|rfl|rfl|rfl|rfl|rfl|rfl|rfl|rfl|rfl|rfl|rfl|rfl|rfl|rfl|rfl|rfl|rfl|rfl|rfl|rfl|rfl|rfl<;>refine wpOp_step (o:=_) rfl fun K' hK'=>?_<;>have HK:=hide (fun (v:Value) (W':World) h1 h2=>hK' _ _ (hK v W' h1 h2))<;>simp only [upd,Nat.reduceEqDiff,if_true,if_false] at HK
   ·have bw:=HW.out W hp.bel;obtain ⟨k0,k1,k2,k3⟩:=AtC.four bw.1;clear bw;go_simp;exact HK.out _ _ bR rfl
   ·have e0:x 0=.agg #[.slice a1 xs.length c1,.slice a2 ys.length c2,.slice a3 is.length c3,.slice a4 bs.length c4]:=hp.post 0 (hd 0 mz0);have dr:=(HW.out W hp.bel).2;simp only [e0] at HK ⊢;clear e0;go_simp;refine (CO.out W dr).mono ?_;rintro e w6 ⟨rfl,B6⟩;go_simp;exact HK.out _ _ B6 rfl
   ·have e1:x 1=.bool true:=hp.post 1 (hd 1 mz0);simp only [e1] at HK ⊢;go_simp;exact HK.out _ _ bR rfl
   ·have e2:x 2=.bool true:=hp.post 2 (hd 2 mz0);have bw:=HW.out W hp.bel;obtain ⟨k0,k1,k2,k3⟩:=AtC.four bw.1;clear bw;simp only [e2] at HK ⊢;go_simp;exact HK.out _ _ bR rfl
   ·have e3:x 3=.agg #[.slice a1 xs.length c1,.slice a2 ys.length c2,.slice a3 is.length c3,.slice a4 bs.length c4]:=hp.post 3 (hd 3 mz0);have e2:x 2=.bool true:=hp.post 2 (hd 2 mz1);have dr:=(HW.out W hp.bel).2;simp only [e3,e2] at HK ⊢;clear e3 e2;go_simp;refine (CK.out W dr).mono ?_;rintro e w6 ⟨rfl,B6⟩;go_simp;exact HK.out _ _ B6 rfl
   ·have e4:x 4=.int .i64 (kd):=hp.post 4 (hd 4 mz0);have e2:x 2=.bool true:=hp.post 2 (hd 2 mz1);simp only [e4,e2] at HK ⊢;go_simp;exact HK.out _ _ bR rfl
   ·have e2:x 2=.bool true:=hp.post 2 (hd 2 mz0);have e5:x 5=.bool false:=hp.post 5 (hd 5 mz1);simp only [e2,e5] at HK ⊢;go_simp;exact HK.out _ _ bR rfl
   ·have e6:x 6=.bool false:=hp.post 6 (hd 6 mz0);simp only [e6] at HK ⊢;go_simp;exact HK.out _ _ bR rfl
   ·have e7:x 7=.bool false:=hp.post 7 (hd 7 mz0);simp only [e7] at HK ⊢;go_simp;exact HK.out _ _ bR trivial
   ·have e7:x 7=.bool false:=hp.post 7 (hd 7 mz0);simp only [e7] at HK ⊢;go_simp;exact HK.out _ _ bR trivial
   ·have e7:x 7=.bool false:=hp.post 7 (hd 7 mz0);simp only [e7] at HK ⊢;go_simp;exact HK.out _ _ bR trivial
   ·have e7:x 7=.bool false:=hp.post 7 (hd 7 mz0);simp only [e7] at HK ⊢;go_simp;exact HK.out _ _ bR trivial
   ·have e7:x 7=.bool false:=hp.post 7 (hd 7 mz0);simp only [e7] at HK ⊢;go_simp;exact HK.out _ _ bR trivial
   ·have e7:x 7=.bool false:=hp.post 7 (hd 7 mz0);simp only [e7] at HK ⊢;go_simp;exact HK.out _ _ bR trivial
   ·have e7:x 7=.bool false:=hp.post 7 (hd 7 mz0);simp only [e7] at HK ⊢;go_simp;exact HK.out _ _ bR trivial
   ·have e7:x 7=.bool false:=hp.post 7 (hd 7 mz0);simp only [e7] at HK ⊢;go_simp;exact HK.out _ _ bR trivial
   ·have e7:x 7=.bool false:=hp.post 7 (hd 7 mz0);simp only [e7] at HK ⊢;go_simp;exact HK.out _ _ bR trivial
   ·have e7:x 7=.bool false:=hp.post 7 (hd 7 mz0);simp only [e7] at HK ⊢;go_simp;exact HK.out _ _ bR trivial
   ·have e7:x 7=.bool false:=hp.post 7 (hd 7 mz0);simp only [e7] at HK ⊢;go_simp;exact HK.out _ _ bR trivial
   ·have e7:x 7=.bool false:=hp.post 7 (hd 7 mz0);simp only [e7] at HK ⊢;go_simp;exact HK.out _ _ bR trivial
   ·have e7:x 7=.bool false:=hp.post 7 (hd 7 mz0);simp only [e7] at HK ⊢;go_simp;exact HK.out _ _ bR trivial
   ·have e7:x 7=.bool false:=hp.post 7 (hd 7 mz0);simp only [e7] at HK ⊢;go_simp;exact HK.out _ _ bR trivial
   ·have e7:x 7=.bool false:=hp.post 7 (hd 7 mz0);simp only [e7] at HK ⊢;go_simp;exact HK.out _ _ bR trivial
  ·intro x iw W hp;have e7:x 7=.bool false:=hp.post 7 (by decide);have HB:=hide (HW.out W hp.bel).2;simp only [e7];clear hp e7;go_wp2_with fail
   try rw [List.filterMap_nil]
   try go_wp2
   go_ret;exact ⟨by rw [HF.out];rfl,HB.out⟩
 subst hk;have HF:Hid (safeB xs ys is bs=(((n1:Int)+(n2:Int)+(n3:Int)+(n4:Int)+(n5:Int)) == 0)):=hide (by
  rw [HS.out];by_cases e:(n1:Int)+(n2:Int)+(n3:Int)+(n4:Int)+(n5:Int)=0
  ·have e1:n1=0:=by omega
   have e2:n2=0:=by omega
   have e3:n3=0:=by omega
   have e4:n4=0:=by omega
   have e5:n5=0:=by omega
   simp [e1,e2,e3,e4,e5]
  ·have e':¬ ((2:Int)=2/\n1=0/\n2=0/\n3=0/\n4=0/\n5=0):=by omega
   rw [decide_eq_false e'];simp [e])
 have s1:IntKind.i64.wrap ((n1:Int)+(n2:Int))=(n1:Int)+(n2:Int):=wrap_small _ (by omega) (by omega);have s2:IntKind.i64.wrap ((n1:Int)+(n2:Int)+(n3:Int))=(n1:Int)+(n2:Int)+(n3:Int):=wrap_small _ (by omega) (by omega);have s3:IntKind.i64.wrap ((n1:Int)+(n2:Int)+(n3:Int)+(n4:Int))=(n1:Int)+(n2:Int)+(n3:Int)+(n4:Int):=wrap_small _ (by omega) (by omega);have s4:IntKind.i64.wrap ((n1:Int)+(n2:Int)+(n3:Int)+(n4:Int)+(n5:Int))=(n1:Int)+(n2:Int)+(n3:Int)+(n4:Int)+(n5:Int):=wrap_small _ (by omega) (by omega);rw [HF.out];clear HS HF l1 l2 l3 l4 l5 CO1 z0 z1 z2 z3;simp only [hok] at CO;clear hok;go_enter Tryz.func55,Tryz.ntmps55
 go_upto_region 1 with fail
 clear hW0;refine zad (by kernel_rfl) [0,1,2,3,4,5,6,7,8,9,10,11,12,13,14,15,16,17,18,19,20,21,22] [23,24] [] (fun i=>match i with|0=>.const [] (.agg #[.slice a1 xs.length c1,.slice a2 ys.length c2,.slice a3 is.length c3,.slice a4 bs.length c4])|1=>.const [0] (.bool true)|2=>.const [1] (.bool true)|3=>.const [2] (.agg #[.slice a1 xs.length c1,.slice a2 ys.length c2,.slice a3 is.length c3,.slice a4 bs.length c4])|4=>.const [3,2] (.int .i64 (2))|5=>.const [4,2] (.bool true)|6=>.const [2,5] (.bool true)|7=>.const [6] (.bool true)|8=>.const [7] (.agg #[.slice a1 xs.length c1,.slice a2 ys.length c2,.slice a3 is.length c3,.slice a4 bs.length c4])|9=>.const [8,7] (.int .i64 ((n1:Int)))|10=>.const [7] (.agg #[.slice a1 xs.length c1,.slice a2 ys.length c2,.slice a3 is.length c3,.slice a4 bs.length c4])|11=>.const [10,7] (.int .i64 ((n2:Int)))|12=>.const [9,11,7] (.int .i64 ((n1:Int)+(n2:Int)))|13=>.const [7] (.agg #[.slice a1 xs.length c1,.slice a2 ys.length c2,.slice a3 is.length c3,.slice a4 bs.length c4])|14=>.const [13,7] (.int .i64 ((n3:Int)))|15=>.const [12,14,7] (.int .i64 ((n1:Int)+(n2:Int)+(n3:Int)))|16=>.const [7] (.agg #[.slice a1 xs.length c1,.slice a2 ys.length c2,.slice a3 is.length c3,.slice a4 bs.length c4])|17=>.const [16,7] (.int .i64 ((n4:Int)))|18=>.const [15,17,7] (.int .i64 ((n1:Int)+(n2:Int)+(n3:Int)+(n4:Int)))|19=>.const [7] (.agg #[.slice a1 xs.length c1,.slice a2 ys.length c2,.slice a3 is.length c3,.slice a4 bs.length c4])|20=>.const [19,7] (.int .i64 ((n5:Int)))|21=>.const [18,20,7] (.int .i64 ((n1:Int)+(n2:Int)+(n3:Int)+(n4:Int)+(n5:Int)))|22=>.const [21,7] (.bool (((n1:Int)+(n2:Int)+(n3:Int)+(n4:Int)+(n5:Int)) == 0))|_=>.triv) (fun x=>⟨#[.agg #[.slice a1 xs.length c1,.slice a2 ys.length c2,.slice a3 is.length c3,.slice a4 bs.length c4],.pointer (some ⟨w.heap.size,0,none⟩),.bool false,x 0,x 1,x 2,x 3,x 4,x 5,x 6,x 7,x 8,x 9,x 10,x 11,x 12,x 13,x 14,x 15,x 16,x 17,x 18,x 19,x 20,x 21,x 22,undef],[]⟩) (fun i=>match i with|0=>undef|1=>undef|2=>undef|3=>undef|4=>undef|5=>undef|6=>undef|7=>undef|8=>undef|9=>undef|10=>undef|11=>undef|12=>undef|13=>undef|14=>undef|15=>undef|16=>undef|17=>undef|18=>undef|19=>undef|20=>undef|21=>undef|22=>undef|_=>undef) rfl (zae (by kernel_rfl) (by kernel_rfl)) (by kernel_rfl) (by kernel_rfl) (by kernel_rfl) rfl ?_ ?_ (by intro q hq;cases hq)
 ·intro jo hj so x iw W hd hp K hK;simp only [List.mem_cons,List.not_mem_nil,or_false] at hj;rcases hj with rfl|rfl|rfl|rfl|rfl|rfl|rfl|rfl|rfl|rfl|rfl|rfl|rfl|rfl|rfl|rfl|rfl|rfl|rfl|rfl|rfl|rfl|rfl<;>refine wpOp_step (o:=_) rfl fun K' hK'=>?_<;>have HK:=hide (fun (v:Value) (W':World) h1 h2=>hK' _ _ (hK v W' h1 h2))<;>simp only [upd,Nat.reduceEqDiff,if_true,if_false] at HK
  ·have bw:=HW.out W hp.bel;obtain ⟨k0,k1,k2,k3⟩:=AtC.four bw.1;clear bw;go_simp;exact HK.out _ _ bR rfl
  ·have e0:x 0=.agg #[.slice a1 xs.length c1,.slice a2 ys.length c2,.slice a3 is.length c3,.slice a4 bs.length c4]:=hp.post 0 (hd 0 mz0);have dr:=(HW.out W hp.bel).2;simp only [e0] at HK ⊢;clear e0;go_simp;refine (CO.out W dr).mono ?_;rintro e w6 ⟨rfl,B6⟩;go_simp;exact HK.out _ _ B6 rfl
  ·have e1:x 1=.bool true:=hp.post 1 (hd 1 mz0);simp only [e1] at HK ⊢;go_simp;exact HK.out _ _ bR rfl
  ·have e2:x 2=.bool true:=hp.post 2 (hd 2 mz0);have bw:=HW.out W hp.bel;obtain ⟨k0,k1,k2,k3⟩:=AtC.four bw.1;clear bw;simp only [e2] at HK ⊢;go_simp;exact HK.out _ _ bR rfl
  ·have e3:x 3=.agg #[.slice a1 xs.length c1,.slice a2 ys.length c2,.slice a3 is.length c3,.slice a4 bs.length c4]:=hp.post 3 (hd 3 mz0);have e2:x 2=.bool true:=hp.post 2 (hd 2 mz1);have dr:=(HW.out W hp.bel).2;simp only [e3,e2] at HK ⊢;clear e3 e2;go_simp;refine (CK.out W dr).mono ?_;rintro e w6 ⟨rfl,B6⟩;go_simp;exact HK.out _ _ B6 rfl
  ·have e4:x 4=.int .i64 (2):=hp.post 4 (hd 4 mz0);have e2:x 2=.bool true:=hp.post 2 (hd 2 mz1);simp only [e4,e2] at HK ⊢;go_simp;exact HK.out _ _ bR rfl
  ·have e2:x 2=.bool true:=hp.post 2 (hd 2 mz0);have e5:x 5=.bool true:=hp.post 5 (hd 5 mz1);simp only [e2,e5] at HK ⊢;go_simp;exact HK.out _ _ bR rfl
  ·have e6:x 6=.bool true:=hp.post 6 (hd 6 mz0);simp only [e6] at HK ⊢;go_simp;exact HK.out _ _ bR rfl
  ·have e7:x 7=.bool true:=hp.post 7 (hd 7 mz0);have bw:=HW.out W hp.bel;obtain ⟨k0,k1,k2,k3⟩:=AtC.four bw.1;clear bw;simp only [e7] at HK ⊢;go_simp;exact HK.out _ _ bR rfl
  ·have e8:x 8=.agg #[.slice a1 xs.length c1,.slice a2 ys.length c2,.slice a3 is.length c3,.slice a4 bs.length c4]:=hp.post 8 (hd 8 mz0);have e7:x 7=.bool true:=hp.post 7 (hd 7 mz1);have dr:=(HW.out W hp.bel).2;simp only [e8,e7] at HK ⊢;clear e8 e7;go_simp;refine (C1.out W dr).mono ?_;rintro e w6 ⟨rfl,B6⟩;go_simp;exact HK.out _ _ B6 rfl
  ·have e7:x 7=.bool true:=hp.post 7 (hd 7 mz0);have bw:=HW.out W hp.bel;obtain ⟨k0,k1,k2,k3⟩:=AtC.four bw.1;clear bw;simp only [e7] at HK ⊢;go_simp;exact HK.out _ _ bR rfl
  ·have e10:x 10=.agg #[.slice a1 xs.length c1,.slice a2 ys.length c2,.slice a3 is.length c3,.slice a4 bs.length c4]:=hp.post 10 (hd 10 mz0);have e7:x 7=.bool true:=hp.post 7 (hd 7 mz1);have dr:=(HW.out W hp.bel).2;simp only [e10,e7] at HK ⊢;clear e10 e7;go_simp;refine (C2.out W dr).mono ?_;rintro e w6 ⟨rfl,B6⟩;go_simp;exact HK.out _ _ B6 rfl
  ·have e9:x 9=.int .i64 ((n1:Int)):=hp.post 9 (hd 9 mz0);have e11:x 11=.int .i64 ((n2:Int)):=hp.post 11 (hd 11 mz1);have e7:x 7=.bool true:=hp.post 7 (hd 7 mz2);simp only [e9,e11,e7] at HK ⊢;go_simp;exact HK.out _ _ bR rfl
  ·have e7:x 7=.bool true:=hp.post 7 (hd 7 mz0);have bw:=HW.out W hp.bel;obtain ⟨k0,k1,k2,k3⟩:=AtC.four bw.1;clear bw;simp only [e7] at HK ⊢;go_simp;exact HK.out _ _ bR rfl
  ·have e13:x 13=.agg #[.slice a1 xs.length c1,.slice a2 ys.length c2,.slice a3 is.length c3,.slice a4 bs.length c4]:=hp.post 13 (hd 13 mz0);have e7:x 7=.bool true:=hp.post 7 (hd 7 mz1);have dr:=(HW.out W hp.bel).2;simp only [e13,e7] at HK ⊢;clear e13 e7;go_simp;refine (C3.out W dr).mono ?_;rintro e w6 ⟨rfl,B6⟩;go_simp;exact HK.out _ _ B6 rfl
  ·have e12:x 12=.int .i64 ((n1:Int)+(n2:Int)):=hp.post 12 (hd 12 mz0);have e14:x 14=.int .i64 ((n3:Int)):=hp.post 14 (hd 14 mz1);have e7:x 7=.bool true:=hp.post 7 (hd 7 mz2);simp only [e12,e14,e7] at HK ⊢;go_simp;exact HK.out _ _ bR rfl
  ·have e7:x 7=.bool true:=hp.post 7 (hd 7 mz0);have bw:=HW.out W hp.bel;obtain ⟨k0,k1,k2,k3⟩:=AtC.four bw.1;clear bw;simp only [e7] at HK ⊢;go_simp;exact HK.out _ _ bR rfl
  ·have e16:x 16=.agg #[.slice a1 xs.length c1,.slice a2 ys.length c2,.slice a3 is.length c3,.slice a4 bs.length c4]:=hp.post 16 (hd 16 mz0);have e7:x 7=.bool true:=hp.post 7 (hd 7 mz1);have dr:=(HW.out W hp.bel).2;simp only [e16,e7] at HK ⊢;clear e16 e7;go_simp;refine (C4.out W dr).mono ?_;rintro e w6 ⟨rfl,B6⟩;go_simp;exact HK.out _ _ B6 rfl
  ·have e15:x 15=.int .i64 ((n1:Int)+(n2:Int)+(n3:Int)):=hp.post 15 (hd 15 mz0);have e17:x 17=.int .i64 ((n4:Int)):=hp.post 17 (hd 17 mz1);have e7:x 7=.bool true:=hp.post 7 (hd 7 mz2);simp only [e15,e17,e7] at HK ⊢;go_simp;exact HK.out _ _ bR rfl
  ·have e7:x 7=.bool true:=hp.post 7 (hd 7 mz0);have bw:=HW.out W hp.bel;obtain ⟨k0,k1,k2,k3⟩:=AtC.four bw.1;clear bw;simp only [e7] at HK ⊢;go_simp;exact HK.out _ _ bR rfl
  ·have e19:x 19=.agg #[.slice a1 xs.length c1,.slice a2 ys.length c2,.slice a3 is.length c3,.slice a4 bs.length c4]:=hp.post 19 (hd 19 mz0);have e7:x 7=.bool true:=hp.post 7 (hd 7 mz1);have dr:=(HW.out W hp.bel).2;simp only [e19,e7] at HK ⊢;clear e19 e7;go_simp;refine (C5.out W dr).mono ?_;rintro e w6 ⟨rfl,B6⟩;go_simp;exact HK.out _ _ B6 rfl
  ·have e18:x 18=.int .i64 ((n1:Int)+(n2:Int)+(n3:Int)+(n4:Int)):=hp.post 18 (hd 18 mz0);have e20:x 20=.int .i64 ((n5:Int)):=hp.post 20 (hd 20 mz1);have e7:x 7=.bool true:=hp.post 7 (hd 7 mz2);simp only [e18,e20,e7] at HK ⊢;go_simp;exact HK.out _ _ bR rfl
  ·have e21:x 21=.int .i64 ((n1:Int)+(n2:Int)+(n3:Int)+(n4:Int)+(n5:Int)):=hp.post 21 (hd 21 mz0);have e7:x 7=.bool true:=hp.post 7 (hd 7 mz1);simp only [e21,e7] at HK ⊢;go_simp;exact HK.out _ _ bR rfl
 ·intro x iw W hp;have e7:x 7=.bool true:=hp.post 7 (by decide);have e22:x 22=.bool (((n1:Int)+(n2:Int)+(n3:Int)+(n4:Int)+(n5:Int)) == 0):=hp.post 22 (by decide);have HB:=hide (HW.out W hp.bel).2;simp only [e7,e22];clear hp e7 e22;go_wp2_with fail
  try rw [List.filterMap_nil]
  try go_wp2
  go_ret;exact ⟨rfl,HB.out⟩
namespace Kit
def MkBt (ds:List Nat) (fx fy:List Bool):Mk:=.val ds (fun _ _ w v=>∃ a c a' c',v=.agg #[.slice a fx.length c,.slice a' fy.length c']/\RFl w (.slice a fx.length c) fx/\RFl w (.slice a' fy.length c') fy)
 (fun _ _ _ _ _ h hb=>by obtain ⟨a,c,a',c',e,h1,h2⟩:=h;exact ⟨a,c,a',c',e,h1.below hb nR,h2.below hb nR⟩)
def MkInE (ds:List Nat) (l:List Int):Mk:=.val ds (fun _ _ w v=>∃ a c,v=.slice a l.length c/\RInts w (.slice a l.length c) l) (fun _ _ _ _ _ h hb=>by obtain ⟨a,c,e,h1⟩:=h;exact ⟨a,c,e,h1.below hb nR⟩)
def MkCk (ds:List Nat) (l:List Int) (F:Value):Mk:=.val ds (fun _ _ w v=>∃ a c,v=.agg #[.slice a l.length c,F]/\RInts w (.slice a l.length c) l) (fun _ _ _ _ _ h hb=>by obtain ⟨a,c,e,h1⟩:=h;exact ⟨a,c,e,h1.below hb nR⟩)
end Kit
theorem eg41:∀ args w,(callFunc 59 args).run Tryz.prog w=.ok (.enter 59 args) w:=enters_of Tryz.func59 (by kernel_rfl) rfl
theorem zhx (dx dy iv bv:Value)(xs ys:List Bool)(is:List Ino)(bs:List Blk)(w:World)(h:DR w dx dy iv bv xs ys is bs)(hG:Big 1048576 xs ys is bs) :
  Calls Tryz.prog 23 #[.agg #[dx,dy,iv,bv]] w fun e w'=>e=.returned (.bool (zat xs ys is bs))/\Below w.heap.size w w':=by
 obtain ⟨a1,c1,a2,c2,a3,c3,a4,c4,rfl,rfl,rfl,rfl⟩:=h.form;have hmf:∀ (fn:Fn) (first cap:Array Value) (w:World),(Instr.makeFunc fn first cap).run Tryz.prog w=.ok (.func fn first cap) w:=fun _ _ _ _=>rfl;obtain ⟨W0,hW0⟩:∃ W,(w.alloc (.cells #[.slice a1 xs.length c1,.slice a2 ys.length c2,.slice a3 is.length c3,.slice a4 bs.length c4] 35))=W:=⟨_,rfl⟩
 have HA:Hid (AtC W0 w.heap.size 35 #[.slice a1 xs.length c1,.slice a2 ys.length c2,.slice a3 is.length c3,.slice a4 bs.length c4]/\Below w.heap.size w W0):=by
  rw [← hW0];exact ⟨AtC.new w 35 _,(Below.refl _ w).alloc nR _⟩
 have HW:Hid (∀ W,Below W0.drew.heap.size W0.drew W->AtC W w.heap.size 35 #[.slice a1 xs.length c1,.slice a2 ys.length c2,.slice a3 is.length c3,.slice a4 bs.length c4]/\Below w.heap.size w W):=fun W b=>⟨HA.out.1.drew.over b,HA.out.2.drew.trans (b.mono HA.out.2.drew.size)⟩
 have CO:=hide (fun (W:World) (hb:Below w.heap.size w W)=>zjb (.slice a1 xs.length c1) (.slice a2 ys.length c2) (.slice a3 is.length c3) (.slice a4 bs.length c4) xs ys is bs W (h.below hb nR) hG)
 cases hsf:safeB xs ys is bs with
 | false =>
  have HFX:Hid (zat xs ys is bs=false):=hide (by unfold zat;rw [hsf];rfl);simp only [hsf] at CO;clear h hG hsf hmf;go_enter Tryz.func23,Tryz.ntmps23
  go_upto_region 1 with fail
  clear hW0;refine zad (by kernel_rfl) [0,1,2,3,4,5,6,7,8,9,10,11,12,13,14,15] [16,17] [] (fun i=>match i with|0=>.const [] (.agg #[.slice a1 xs.length c1,.slice a2 ys.length c2,.slice a3 is.length c3,.slice a4 bs.length c4])|1=>.const [0] (.bool false)|2=>.const [1] (.bool false)|3=>.val [2] (fun _ _ _ _=>True) (fun _ _ _ _ _ _ _=>trivial)|4=>.val [2] (fun _ _ _ _=>True) (fun _ _ _ _ _ _ _=>trivial)|5=>.val [2] (fun _ _ _ _=>True) (fun _ _ _ _ _ _ _=>trivial)|6=>.val [2] (fun _ _ _ _=>True) (fun _ _ _ _ _ _ _=>trivial)|7=>.val [2] (fun _ _ _ _=>True) (fun _ _ _ _ _ _ _=>trivial)|8=>.const [2] (.bool false)|9=>.const [8] (.bool false)|10=>.val [9] (fun _ _ _ _=>True) (fun _ _ _ _ _ _ _=>trivial)|11=>.val [9] (fun _ _ _ _=>True) (fun _ _ _ _ _ _ _=>trivial)|12=>.val [9] (fun _ _ _ _=>True) (fun _ _ _ _ _ _ _=>trivial)|13=>.val [9] (fun _ _ _ _=>True) (fun _ _ _ _ _ _ _=>trivial)|14=>.val [9] (fun _ _ _ _=>True) (fun _ _ _ _ _ _ _=>trivial)|15=>.val [9] (fun _ _ _ _=>True) (fun _ _ _ _ _ _ _=>trivial)|_=>.triv) (fun x=>⟨#[.agg #[.slice a1 xs.length c1,.slice a2 ys.length c2,.slice a3 is.length c3,.slice a4 bs.length c4],.pointer (some ⟨w.heap.size,0,none⟩),.bool false,x 0,x 1,x 2,x 3,x 4,x 5,x 6,x 7,x 8,x 9,x 10,x 11,x 12,x 13,x 14,x 15,undef],[]⟩) (fun i=>match i with|0=>undef|1=>undef|2=>undef|3=>undef|4=>undef|5=>undef|6=>undef|7=>undef|8=>undef|9=>undef|10=>undef|11=>undef|12=>undef|13=>undef|14=>undef|15=>undef|_=>undef) rfl (zae (by kernel_rfl) (by kernel_rfl)) (by kernel_rfl) (by kernel_rfl) (by kernel_rfl) rfl ?_ ?_ (by intro q hq;cases hq)
  ·intro jo hj so x iw W hd hp K hK;simp only [List.mem_cons,List.not_mem_nil,or_false] at hj;rcases hj with rfl|rfl|rfl|rfl|rfl|rfl|rfl|rfl|rfl|rfl|rfl|rfl|rfl|rfl|rfl|rfl<;>refine wpOp_step (o:=_) rfl fun K' hK'=>?_<;>have HK:=hide (fun (v:Value) (W':World) h1 h2=>hK' _ _ (hK v W' h1 h2))<;>simp only [upd,Nat.reduceEqDiff,if_true,if_false] at HK
   ·have bw:=HW.out W hp.bel;obtain ⟨k0,k1,k2,k3⟩:=AtC.four bw.1;clear bw;go_simp;exact HK.out _ _ bR rfl
   ·have e0:x 0=.agg #[.slice a1 xs.length c1,.slice a2 ys.length c2,.slice a3 is.length c3,.slice a4 bs.length c4]:=hp.post 0 (hd 0 mz0);have dr:=(HW.out W hp.bel).2;simp only [e0] at HK ⊢;clear e0;go_simp;refine (CO.out W dr).mono ?_;rintro e w6 ⟨rfl,B6⟩;go_simp;exact HK.out _ _ B6 rfl
   ·have e1:x 1=.bool false:=hp.post 1 (hd 1 mz0);simp only [e1] at HK ⊢;go_simp;exact HK.out _ _ bR rfl
   ·have e2:x 2=.bool false:=hp.post 2 (hd 2 mz0);simp only [e2] at HK ⊢;go_simp;exact HK.out _ _ bR trivial
   ·have e2:x 2=.bool false:=hp.post 2 (hd 2 mz0);simp only [e2] at HK ⊢;go_simp;exact HK.out _ _ bR trivial
   ·have e2:x 2=.bool false:=hp.post 2 (hd 2 mz0);simp only [e2] at HK ⊢;go_simp;exact HK.out _ _ bR trivial
   ·have e2:x 2=.bool false:=hp.post 2 (hd 2 mz0);simp only [e2] at HK ⊢;go_simp;exact HK.out _ _ bR trivial
   ·have e2:x 2=.bool false:=hp.post 2 (hd 2 mz0);simp only [e2] at HK ⊢;go_simp;exact HK.out _ _ bR trivial
   ·have e2:x 2=.bool false:=hp.post 2 (hd 2 mz0);simp only [e2] at HK ⊢;go_simp;exact HK.out _ _ bR rfl
   ·have e8:x 8=.bool false:=hp.post 8 (hd 8 mz0);simp only [e8] at HK ⊢;go_simp;exact HK.out _ _ bR rfl
   ·have e9:x 9=.bool false:=hp.post 9 (hd 9 mz0);simp only [e9] at HK ⊢;go_simp;exact HK.out _ _ bR trivial
   ·have e9:x 9=.bool false:=hp.post 9 (hd 9 mz0);simp only [e9] at HK ⊢;go_simp;exact HK.out _ _ bR trivial
   ·have e9:x 9=.bool false:=hp.post 9 (hd 9 mz0);simp only [e9] at HK ⊢;go_simp;exact HK.out _ _ bR trivial
   ·have e9:x 9=.bool false:=hp.post 9 (hd 9 mz0);simp only [e9] at HK ⊢;go_simp;exact HK.out _ _ bR trivial
   ·have e9:x 9=.bool false:=hp.post 9 (hd 9 mz0);simp only [e9] at HK ⊢;go_simp;exact HK.out _ _ bR trivial
   ·have e9:x 9=.bool false:=hp.post 9 (hd 9 mz0);simp only [e9] at HK ⊢;go_simp;exact HK.out _ _ bR trivial
  ·intro x iw W hp;have e9:x 9=.bool false:=hp.post 9 (by decide);have HB:=hide (HW.out W hp.bel).2;simp only [e9];clear hp e9;go_wp2_with fail
   try rw [List.filterMap_nil]
   try go_wp2
   go_ret;exact ⟨by rw [HFX.out];rfl,HB.out⟩
 | true =>
 simp only [hsf] at CO;have hsf':zag xs ys is bs=true/\zab is 1=2:=by
  unfold safeB at hsf;rw [Bool.and_eq_true,decide_eq_true_eq] at hsf;exact ⟨hsf.1,hsf.2.1⟩
 have hX:=RX.of_ok hsf'.1;have HEX:Hid (zat xs ys is bs=(decide (xs=fB is bs) && decide (ys=fI is bs) && decide (exN is bs=0))):=hide (by unfold zat;rw [hsf,Bool.true_and,zoi hX hsf'.2]);have CB:=hide (fun (W:World) (hb:Below w.heap.size w W)=>zi6 (.slice a1 xs.length c1) (.slice a2 ys.length c2) (.slice a3 is.length c3) (.slice a4 bs.length c4) xs ys is bs W (h.below hb nR) hX);have CS:Hid (∀ (W:World) (u v:Value),Below w.heap.size w W->RFl W u (fB is bs)->RFl W v (fI is bs)->Calls Tryz.prog 56 #[.agg #[.slice a1 xs.length c1,.slice a2 ys.length c2],.agg #[u,v]] W fun e w'=>e=.returned (.bool (decide (xs=fB is bs) && decide (ys=fI is bs)))/\Below W.heap.size W w'):=fun W u v hb h1 h2=>zoh _ _ _ _ xs ys (fB is bs) (fI is bs) W (h.below hb nR).a (h.below hb nR).b h1 h2 hX.bx hX.y8 (by simp [fB]) (by simp [fI]);obtain ⟨sb,hsb⟩:∃ b,(decide (xs=fB is bs) && decide (ys=fI is bs))=b:=⟨_,rfl⟩
 simp only [hsb] at CS HEX;have hfB:(fB is bs).length=16:=by simp [fB]
 have hfI:(fI is bs).length=8:=by simp [fI]
 cases sb with
 | false =>
  have HFX:Hid (zat xs ys is bs=false):=hide (by rw [HEX.out];rfl);clear h hG hsf hsf' hX hsb hmf HEX;go_enter Tryz.func23,Tryz.ntmps23
  go_upto_region 1 with fail
  clear hW0;refine zad (by kernel_rfl) [0,1,2,3,4,5,6,7,8,9,10,11,12,13,14,15] [16,17] [] (fun i=>match i with|0=>.const [] (.agg #[.slice a1 xs.length c1,.slice a2 ys.length c2,.slice a3 is.length c3,.slice a4 bs.length c4])|1=>.const [0] (.bool true)|2=>.const [1] (.bool true)|3=>.const [2] (.pointer (some ⟨w.heap.size,0,none⟩))|4=>.const [3,2] (.agg #[.slice a1 xs.length c1,.slice a2 ys.length c2])|5=>.const [2] (.agg #[.slice a1 xs.length c1,.slice a2 ys.length c2,.slice a3 is.length c3,.slice a4 bs.length c4])|6=>MkBt [5,2] (fB is bs) (fI is bs)|7=>.const [4,6,2] (.bool false)|8=>.const [2,7] (.bool false)|9=>.const [8] (.bool false)|10=>.val [9] (fun _ _ _ _=>True) (fun _ _ _ _ _ _ _=>trivial)|11=>.val [9] (fun _ _ _ _=>True) (fun _ _ _ _ _ _ _=>trivial)|12=>.val [9] (fun _ _ _ _=>True) (fun _ _ _ _ _ _ _=>trivial)|13=>.val [9] (fun _ _ _ _=>True) (fun _ _ _ _ _ _ _=>trivial)|14=>.val [9] (fun _ _ _ _=>True) (fun _ _ _ _ _ _ _=>trivial)|15=>.val [9] (fun _ _ _ _=>True) (fun _ _ _ _ _ _ _=>trivial)|_=>.triv) (fun x=>⟨#[.agg #[.slice a1 xs.length c1,.slice a2 ys.length c2,.slice a3 is.length c3,.slice a4 bs.length c4],.pointer (some ⟨w.heap.size,0,none⟩),.bool false,x 0,x 1,x 2,x 3,x 4,x 5,x 6,x 7,x 8,x 9,x 10,x 11,x 12,x 13,x 14,x 15,undef],[]⟩) (fun i=>match i with|0=>undef|1=>undef|2=>undef|3=>undef|4=>undef|5=>undef|6=>undef|7=>undef|8=>undef|9=>undef|10=>undef|11=>undef|12=>undef|13=>undef|14=>undef|15=>undef|_=>undef) rfl (zae (by kernel_rfl) (by kernel_rfl)) (by kernel_rfl) (by kernel_rfl) (by kernel_rfl) rfl ?_ ?_ (by intro q hq;cases hq)
  ·intro jo hj so x iw W hd hp K hK;simp only [List.mem_cons,List.not_mem_nil,or_false] at hj;rcases hj with rfl|rfl|rfl|rfl|rfl|rfl|rfl|rfl|rfl|rfl|rfl|rfl|rfl|rfl|rfl|rfl<;>refine wpOp_step (o:=_) rfl fun K' hK'=>?_<;>have HK:=hide (fun (v:Value) (W':World) h1 h2=>hK' _ _ (hK v W' h1 h2))<;>simp only [upd,Nat.reduceEqDiff,if_true,if_false] at HK
   ·have bw:=HW.out W hp.bel;obtain ⟨k0,k1,k2,k3⟩:=AtC.four bw.1;clear bw;go_simp;exact HK.out _ _ bR rfl
   ·have e0:x 0=.agg #[.slice a1 xs.length c1,.slice a2 ys.length c2,.slice a3 is.length c3,.slice a4 bs.length c4]:=hp.post 0 (hd 0 mz0);have dr:=(HW.out W hp.bel).2;simp only [e0] at HK ⊢;clear e0;go_simp;refine (CO.out W dr).mono ?_;rintro e w6 ⟨rfl,B6⟩;go_simp;exact HK.out _ _ B6 rfl
   ·have e1:x 1=.bool true:=hp.post 1 (hd 1 mz0);simp only [e1] at HK ⊢;go_simp;exact HK.out _ _ bR rfl
   ·have e2:x 2=.bool true:=hp.post 2 (hd 2 mz0);simp only [e2] at HK ⊢;go_simp;exact HK.out _ _ bR rfl
   ·have e3:x 3=.pointer (some ⟨w.heap.size,0,none⟩):=hp.post 3 (hd 3 mz0);have e2:x 2=.bool true:=hp.post 2 (hd 2 mz1);have bw:=HW.out W hp.bel;obtain ⟨k0,k1,k2,k3⟩:=AtC.four bw.1;clear bw;simp only [e3,e2] at HK ⊢;go_simp;exact HK.out _ _ bR rfl
   ·have e2:x 2=.bool true:=hp.post 2 (hd 2 mz0);have bw:=HW.out W hp.bel;obtain ⟨k0,k1,k2,k3⟩:=AtC.four bw.1;clear bw;simp only [e2] at HK ⊢;go_simp;exact HK.out _ _ bR rfl
   ·have e5:x 5=.agg #[.slice a1 xs.length c1,.slice a2 ys.length c2,.slice a3 is.length c3,.slice a4 bs.length c4]:=hp.post 5 (hd 5 mz0);have e2:x 2=.bool true:=hp.post 2 (hd 2 mz1);have dr:=(HW.out W hp.bel).2;simp only [e5,e2] at HK ⊢;clear e5 e2;go_simp;refine (CB.out W dr).mono ?_;rintro e w6 ⟨u,v,rfl,R12,B6⟩;have R1:=R12.a.rfl;have R2:=R12.b.rfl;obtain ⟨ua,uc,rfl⟩:∃ a c,u=.slice a (fB is bs).length c:=by obtain ⟨p,q,e,-⟩:=R1;exact ⟨p,q,e⟩
    obtain ⟨va,vc,rfl⟩:∃ a c,v=.slice a (fI is bs).length c:=by obtain ⟨p,q,e,-⟩:=R2;exact ⟨p,q,e⟩
    go_simp;exact HK.out _ _ B6 ⟨ua,uc,va,vc,rfl,R1,R2⟩
   ·have e4:x 4=.agg #[.slice a1 xs.length c1,.slice a2 ys.length c2]:=hp.post 4 (hd 4 mz0);have e2:x 2=.bool true:=hp.post 2 (hd 2 mz2);have e6:∃ a c a' c',x 6=.agg #[.slice a (fB is bs).length c,.slice a' (fI is bs).length c']/\RFl W (.slice a (fB is bs).length c) (fB is bs)/\RFl W (.slice a' (fI is bs).length c') (fI is bs):=hp.post 6 (hd 6 mz1);have dr:=(HW.out W hp.bel).2;obtain ⟨ua,uc,va,vc,e6,R1,R2⟩:=e6;simp only [e4,e2,e6] at HK ⊢;clear e4 e2 e6;go_simp;refine (CS.out W _ _ dr R1 R2).mono ?_;rintro e w6 ⟨rfl,B6⟩;go_simp;exact HK.out _ _ B6 rfl
   ·have e2:x 2=.bool true:=hp.post 2 (hd 2 mz0);have e7:x 7=.bool false:=hp.post 7 (hd 7 mz1);simp only [e2,e7] at HK ⊢;go_simp;exact HK.out _ _ bR rfl
   ·have e8:x 8=.bool false:=hp.post 8 (hd 8 mz0);simp only [e8] at HK ⊢;go_simp;exact HK.out _ _ bR rfl
   ·have e9:x 9=.bool false:=hp.post 9 (hd 9 mz0);simp only [e9] at HK ⊢;go_simp;exact HK.out _ _ bR trivial
   ·have e9:x 9=.bool false:=hp.post 9 (hd 9 mz0);simp only [e9] at HK ⊢;go_simp;exact HK.out _ _ bR trivial
   ·have e9:x 9=.bool false:=hp.post 9 (hd 9 mz0);simp only [e9] at HK ⊢;go_simp;exact HK.out _ _ bR trivial
   ·have e9:x 9=.bool false:=hp.post 9 (hd 9 mz0);simp only [e9] at HK ⊢;go_simp;exact HK.out _ _ bR trivial
   ·have e9:x 9=.bool false:=hp.post 9 (hd 9 mz0);simp only [e9] at HK ⊢;go_simp;exact HK.out _ _ bR trivial
   ·have e9:x 9=.bool false:=hp.post 9 (hd 9 mz0);simp only [e9] at HK ⊢;go_simp;exact HK.out _ _ bR trivial
  ·intro x iw W hp;have e9:x 9=.bool false:=hp.post 9 (by decide);have HB:=hide (HW.out W hp.bel).2;simp only [e9];clear hp e9;go_wp2_with fail
   try rw [List.filterMap_nil]
   try go_wp2
   go_ret;exact ⟨by rw [HFX.out];rfl,HB.out⟩
 | true =>
 have CK:=hide (fun (W:World) (hb:Below w.heap.size w W)=>zhj (.slice a1 xs.length c1) (.slice a2 ys.length c2) (.slice a3 is.length c3) (.slice a4 bs.length c4) xs ys is bs W (h.below hb nR) hX.r);have CC:Hid (∀ (W:World) (v:Value),RInts W v (kndL is)->Below w.heap.size w W->AtC W w.heap.size 35 #[.slice a1 xs.length c1,.slice a2 ys.length c2,.slice a3 is.length c3,.slice a4 bs.length c4]->Calls Tryz.prog 61 #[.agg #[v,.func (.func 59) #[] #[.pointer (some ⟨w.heap.size,0,none⟩)]]] W fun e w'=>e=.returned (.int .i64 (exN is bs))/\Below W.heap.size W w'):=fun W v ho b1 ha=>by
  refine (zhs 59 eg41 (.pointer (some ⟨w.heap.size,0,none⟩)) v (kndL is) (fun k=>(fun i:Int=>!(inoI is bs (i - 1).toNat)) ((kndL is).getD k 0)) (fun _ _=>True) (fun _=>False) W (by have:=zct is;omega) (fun _ e=>e.elim) (fun W' c=>ho.below (chgF c) nR) (fun _ _=>trivial) (fun _ _ _ _ _=>trivial) (fun k hk W' _ c=>?_)).mono ?_
  ·have b2:=b1.trans ((chgF c).mono b1.size);have hd:=ha.over (chgF c);have hw:=h.below b2 nR;have hmem:=List.getElem_mem hk;show Calls _ _ _ _ fun e w'=>e=.returned (.bool ((fun i:Int=>!(inoI is bs (i - 1).toNat)) ((kndL is).getD k 0)))/\_;rw [zbz 0 hk];have hr:=(zcs.1 hmem).1;obtain ⟨q,hq⟩:∃ q:Nat,(kndL is)[k]=(q:Int)+1:=⟨((kndL is)[k] - 1).toNat,by omega⟩
   rw [hq];simp only;rw [show ((q:Int)+1 - 1).toNat=q by omega];exact (c41_any q a1 a2 a3 a4 c1 c2 c3 c4 xs ys is bs w.heap.size W' hw hX hd (by omega)).mono fun e w' hh=>⟨hh.1,trivial,Chg.of_below hh.2⟩
  ·rintro e w' ⟨rfl,-,c⟩;rw [zb4 (kndL is) 0 (fun i:Int=>!(inoI is bs (i - 1).toNat))];exact ⟨rfl,chgF c⟩
 have HFX:Hid (zat xs ys is bs=((exN is bs:Int) == 0)):=hide (by
  rw [HEX.out,Bool.true_and,show ((exN is bs:Int) == 0)=decide ((exN is bs:Int)=0) from rfl];exact decide_eq_decide.2 (by omega))
 obtain ⟨n,hn⟩:∃ n,exN is bs=n:=⟨_,rfl⟩
 simp only [hn] at CC HFX;rw [HFX.out];clear h hG hsf hsf' hX hsb HEX HFX hn;go_enter Tryz.func23,Tryz.ntmps23
 go_upto_region 1 with fail
 clear hW0;refine zad (by kernel_rfl) [0,1,2,3,4,5,6,7,8,9,10,11,12,13,14,15] [16,17] [] (fun i=>match i with|0=>.const [] (.agg #[.slice a1 xs.length c1,.slice a2 ys.length c2,.slice a3 is.length c3,.slice a4 bs.length c4])|1=>.const [0] (.bool true)|2=>.const [1] (.bool true)|3=>.const [2] (.pointer (some ⟨w.heap.size,0,none⟩))|4=>.const [3,2] (.agg #[.slice a1 xs.length c1,.slice a2 ys.length c2])|5=>.const [2] (.agg #[.slice a1 xs.length c1,.slice a2 ys.length c2,.slice a3 is.length c3,.slice a4 bs.length c4])|6=>MkBt [5,2] (fB is bs) (fI is bs)|7=>.const [4,6,2] (.bool true)|8=>.const [2,7] (.bool true)|9=>.const [8] (.bool true)|10=>.const [9] (.agg #[.slice a1 xs.length c1,.slice a2 ys.length c2,.slice a3 is.length c3,.slice a4 bs.length c4])|11=>MkInE [10,9] (kndL is)|12=>.const [9] (.func (.func 59) #[] #[.pointer (some ⟨w.heap.size,0,none⟩)])|13=>MkCk [11,12,9] (kndL is) (.func (.func 59) #[] #[.pointer (some ⟨w.heap.size,0,none⟩)])|14=>.const [13,9] (.int .i64 (n:Int))|15=>.const [14,9] (.bool ((n:Int) == 0))|_=>.triv) (fun x=>⟨#[.agg #[.slice a1 xs.length c1,.slice a2 ys.length c2,.slice a3 is.length c3,.slice a4 bs.length c4],.pointer (some ⟨w.heap.size,0,none⟩),.bool false,x 0,x 1,x 2,x 3,x 4,x 5,x 6,x 7,x 8,x 9,x 10,x 11,x 12,x 13,x 14,x 15,undef],[]⟩) (fun i=>match i with|0=>undef|1=>undef|2=>undef|3=>undef|4=>undef|5=>undef|6=>undef|7=>undef|8=>undef|9=>undef|10=>undef|11=>undef|12=>undef|13=>undef|14=>undef|15=>undef|_=>undef) rfl (zae (by kernel_rfl) (by kernel_rfl)) (by kernel_rfl) (by kernel_rfl) (by kernel_rfl) rfl ?_ ?_ (by intro q hq;cases hq)
 ·intro jo hj so x iw W hd hp K hK;simp only [List.mem_cons,List.not_mem_nil,or_false] at hj;rcases hj with rfl|rfl|rfl|rfl|rfl|rfl|rfl|rfl|rfl|rfl|rfl|rfl|rfl|rfl|rfl|rfl<;>refine wpOp_step (o:=_) rfl fun K' hK'=>?_<;>have HK:=hide (fun (v:Value) (W':World) h1 h2=>hK' _ _ (hK v W' h1 h2))<;>simp only [upd,Nat.reduceEqDiff,if_true,if_false] at HK
  ·have bw:=HW.out W hp.bel;obtain ⟨k0,k1,k2,k3⟩:=AtC.four bw.1;clear bw;go_simp;exact HK.out _ _ bR rfl
  ·have e0:x 0=.agg #[.slice a1 xs.length c1,.slice a2 ys.length c2,.slice a3 is.length c3,.slice a4 bs.length c4]:=hp.post 0 (hd 0 mz0);have dr:=(HW.out W hp.bel).2;simp only [e0] at HK ⊢;clear e0;go_simp;refine (CO.out W dr).mono ?_;rintro e w6 ⟨rfl,B6⟩;go_simp;exact HK.out _ _ B6 rfl
  ·have e1:x 1=.bool true:=hp.post 1 (hd 1 mz0);simp only [e1] at HK ⊢;go_simp;exact HK.out _ _ bR rfl
  ·have e2:x 2=.bool true:=hp.post 2 (hd 2 mz0);simp only [e2] at HK ⊢;go_simp;exact HK.out _ _ bR rfl
  ·have e3:x 3=.pointer (some ⟨w.heap.size,0,none⟩):=hp.post 3 (hd 3 mz0);have e2:x 2=.bool true:=hp.post 2 (hd 2 mz1);have bw:=HW.out W hp.bel;obtain ⟨k0,k1,k2,k3⟩:=AtC.four bw.1;clear bw;simp only [e3,e2] at HK ⊢;go_simp;exact HK.out _ _ bR rfl
  ·have e2:x 2=.bool true:=hp.post 2 (hd 2 mz0);have bw:=HW.out W hp.bel;obtain ⟨k0,k1,k2,k3⟩:=AtC.four bw.1;clear bw;simp only [e2] at HK ⊢;go_simp;exact HK.out _ _ bR rfl
  ·have e5:x 5=.agg #[.slice a1 xs.length c1,.slice a2 ys.length c2,.slice a3 is.length c3,.slice a4 bs.length c4]:=hp.post 5 (hd 5 mz0);have e2:x 2=.bool true:=hp.post 2 (hd 2 mz1);have dr:=(HW.out W hp.bel).2;simp only [e5,e2] at HK ⊢;clear e5 e2;go_simp;refine (CB.out W dr).mono ?_;rintro e w6 ⟨u,v,rfl,R12,B6⟩;have R1:=R12.a.rfl;have R2:=R12.b.rfl;obtain ⟨ua,uc,rfl⟩:∃ a c,u=.slice a (fB is bs).length c:=by obtain ⟨p,q,e,-⟩:=R1;exact ⟨p,q,e⟩
   obtain ⟨va,vc,rfl⟩:∃ a c,v=.slice a (fI is bs).length c:=by obtain ⟨p,q,e,-⟩:=R2;exact ⟨p,q,e⟩
   go_simp;exact HK.out _ _ B6 ⟨ua,uc,va,vc,rfl,R1,R2⟩
  ·have e4:x 4=.agg #[.slice a1 xs.length c1,.slice a2 ys.length c2]:=hp.post 4 (hd 4 mz0);have e2:x 2=.bool true:=hp.post 2 (hd 2 mz2);have e6:∃ a c a' c',x 6=.agg #[.slice a (fB is bs).length c,.slice a' (fI is bs).length c']/\RFl W (.slice a (fB is bs).length c) (fB is bs)/\RFl W (.slice a' (fI is bs).length c') (fI is bs):=hp.post 6 (hd 6 mz1);have dr:=(HW.out W hp.bel).2;obtain ⟨ua,uc,va,vc,e6,R1,R2⟩:=e6;simp only [e4,e2,e6] at HK ⊢;clear e4 e2 e6;go_simp;refine (CS.out W _ _ dr R1 R2).mono ?_;rintro e w6 ⟨rfl,B6⟩;go_simp;exact HK.out _ _ B6 rfl
  ·have e2:x 2=.bool true:=hp.post 2 (hd 2 mz0);have e7:x 7=.bool true:=hp.post 7 (hd 7 mz1);simp only [e2,e7] at HK ⊢;go_simp;exact HK.out _ _ bR rfl
  ·have e8:x 8=.bool true:=hp.post 8 (hd 8 mz0);simp only [e8] at HK ⊢;go_simp;exact HK.out _ _ bR rfl
  ·have e9:x 9=.bool true:=hp.post 9 (hd 9 mz0);have bw:=HW.out W hp.bel;obtain ⟨k0,k1,k2,k3⟩:=AtC.four bw.1;clear bw;simp only [e9] at HK ⊢;go_simp;exact HK.out _ _ bR rfl
  ·have e10:x 10=.agg #[.slice a1 xs.length c1,.slice a2 ys.length c2,.slice a3 is.length c3,.slice a4 bs.length c4]:=hp.post 10 (hd 10 mz0);have e9:x 9=.bool true:=hp.post 9 (hd 9 mz1);have dr:=(HW.out W hp.bel).2;simp only [e10,e9] at HK ⊢;clear e10 e9;go_simp;refine (CK.out W dr).mono ?_;rintro e w6 ⟨v,rfl,R1,B6⟩;obtain ⟨ua,uc,rfl,-⟩:=R1.form;rw [zaf] at R1 ⊢;go_simp;exact HK.out _ _ B6 ⟨ua,uc,rfl,R1.rints⟩
  ·have e9:x 9=.bool true:=hp.post 9 (hd 9 mz0);simp only [e9] at HK ⊢;go_simp;exact HK.out _ _ bR rfl
  ·have e11:∃ a c,x 11=.slice a (kndL is).length c/\RInts W (.slice a (kndL is).length c) (kndL is):=hp.post 11 (hd 11 mz0);have e12:x 12=.func (.func 59) #[] #[.pointer (some ⟨w.heap.size,0,none⟩)]:=hp.post 12 (hd 12 mz1);have e9:x 9=.bool true:=hp.post 9 (hd 9 mz2);obtain ⟨ua,uc,e11,R1⟩:=e11;simp only [e11,e12,e9] at HK ⊢;clear e11 e12 e9;go_simp;exact HK.out _ _ bR ⟨ua,uc,rfl,R1⟩
  ·have e13:∃ a c,x 13=.agg #[.slice a (kndL is).length c,.func (.func 59) #[] #[.pointer (some ⟨w.heap.size,0,none⟩)]]/\RInts W (.slice a (kndL is).length c) (kndL is):=hp.post 13 (hd 13 mz0);have e9:x 9=.bool true:=hp.post 9 (hd 9 mz1);have dr:=HW.out W hp.bel;obtain ⟨ua,uc,e13,R1⟩:=e13;simp only [e13,e9] at HK ⊢;clear e13 e9;go_simp;refine (CC.out W _ R1 dr.2 dr.1).mono ?_;rintro e w6 ⟨rfl,B6⟩;go_simp;exact HK.out _ _ B6 rfl
  ·have e14:x 14=.int .i64 (n:Int):=hp.post 14 (hd 14 mz0);have e9:x 9=.bool true:=hp.post 9 (hd 9 mz1);simp only [e14,e9] at HK ⊢;go_simp;exact HK.out _ _ bR rfl
 ·intro x iw W hp;have e9:x 9=.bool true:=hp.post 9 (by decide);have e15:x 15=.bool ((n:Int) == 0):=hp.post 15 (by decide);have HB:=hide (HW.out W hp.bel).2;simp only [e9,e15];clear hp e9 e15;go_wp2_with fail
  try rw [List.filterMap_nil]
  try go_wp2
  go_ret;exact ⟨rfl,HB.out⟩
def shrC (l:List Int):Nat:=shrQ l l.length
theorem zol (l:List Int)(p:Int):shrC (l ++ [p])=shrC l+if l.contains p=true then 1 else 0:=by
 unfold shrC shrQ;rw [List.length_append,List.length_singleton,List.range_succ,List.countP_append,List.countP_cons,List.countP_nil,Nat.zero_add];congr 1
 ·apply List.countP_congr;intro k hk;rw [List.mem_range] at hk;rw [List.take_append_of_le_length (by omega),List.getD_eq_getElem?_getD,List.getElem?_append_left hk,← List.getD_eq_getElem?_getD]
 ·have e:(l ++ [p]).getD l.length 0=p:=by simp
  have e2:(l ++ [p]).take l.length=l:=by simp
  rw [e,e2];by_cases hp:p∈l
  ·simp [hp]
  ·simp [hp]
def curJ (is:List Ino) (j:Nat):List Int:=(ptrL is (kndQ is j)).map (·.2)
theorem zom (is:List Ino)(j:Nat):curJ is (j+1)=if zab is ((j:Int)+1)=0 then curJ is j else curJ is j ++ (ptrT ((j:Int)+1) (zak is ((j:Int)+1))).map (·.2):=by
 unfold curJ;rw [zd2]
 split
 ·rw [List.append_nil]
 ·unfold ptrL;rw [List.flatMap_append,List.map_append,List.flatMap_cons,List.flatMap_nil,List.append_nil];rfl
theorem curJ_len {is:List Ino}{bs:List Blk}(h:RD is bs)(j:Nat):(curJ is j).length<=j * 2:=by
 unfold curJ;rw [List.length_map];have h1:=zax h (kndQ is j);have h2:=zd3 is j;omega
theorem shrC_le (l:List Int):shrC l<=l.length:=by
 unfold shrC shrQ;exact Nat.le_trans List.countP_le_length (by rw [List.length_range];exact Nat.le_refl _)
theorem zke (dx dy iv bv:Value)(xs ys:List Bool)(is:List Ino)(bs:List Blk)(w:World)(h:DR w dx dy iv bv xs ys is bs)(hX:RX xs ys is bs) :
  Calls Tryz.prog 83 #[.agg #[dx,dy,iv,bv]] w fun e w'=>e=.returned (.int .i64 (zb8 is))/\Below w.heap.size w w':=by
 obtain ⟨a1,c1,a2,c2,a3,c3,a4,c4,rfl,rfl,rfl,rfl⟩:=h.form;have HH:=hide h;have HX:=hide hX;have HI8:=hide hX.r.hi;have HQ0:Hid (ROwns ((w.alloc (.cells #[.slice a1 xs.length c1,.slice a2 ys.length c2,.slice a3 is.length c3,.slice a4 bs.length c4] 35)).alloc (.cells #[] 3)) (w.heap.size+1) 3 (.slice (some ⟨w.heap.size+1,0,none⟩) 0 0) (ic (curJ is 0))/\Below w.heap.size w ((w.alloc (.cells #[.slice a1 xs.length c1,.slice a2 ys.length c2,.slice a3 is.length c3,.slice a4 bs.length c4] 35)).alloc (.cells #[] 3))/\AtC ((w.alloc (.cells #[.slice a1 xs.length c1,.slice a2 ys.length c2,.slice a3 is.length c3,.slice a4 bs.length c4] 35)).alloc (.cells #[] 3)) w.heap.size 35 #[.slice a1 xs.length c1,.slice a2 ys.length c2,.slice a3 is.length c3,.slice a4 bs.length c4]):=by
  have l0:=ROwns.lit0 (w.alloc (.cells #[.slice a1 xs.length c1,.slice a2 ys.length c2,.slice a3 is.length c3,.slice a4 bs.length c4] 35)) (w.heap.size+1) 3 (by simp);have e0:(w.alloc (.cells #[.slice a1 xs.length c1,.slice a2 ys.length c2,.slice a3 is.length c3,.slice a4 bs.length c4] 35)).heap.size=w.heap.size+1:=by simp
  rw [e0] at l0;exact ⟨l0,((Below.refl _ w).alloc nR _).alloc (by simp) _,(AtC.new w 35 _).alloc _⟩
 clear h hX;go_enter Tryz.func83,Tryz.ntmps83
 go_wp2_with fail
 go_loopw [3,4,5] (fun nv sv kv wr=>∃ (s':Value) (j:Nat),s'=sv/\j<=is.length/\nv=.int .i64 ((shrC (curJ is j):Nat):Int)/\kv=.int .i64 j/\Hid (ROwns wr (w.heap.size+1) 3 s' (ic (curJ is j))/\Below w.heap.size w wr/\AtC wr w.heap.size 35 #[.slice a1 xs.length c1,.slice a2 ys.length c2,.slice a3 is.length c3,.slice a4 bs.length c4])) (fun _ _ kv _=>is.length - (intOf kv).toNat)
 case atStart=>exact ⟨_,0,rfl,Nat.zero_le _,rfl,rfl,HQ0.out⟩
 case round =>
  obtain ⟨sv,j,hsv,hj,rfl,rfl,HQ⟩:=hrel;subst hsv;clear HQ0;have j0:(0:Int)<=(j:Int):=by omega
  have x2:wr.cell? ⟨w.heap.size,2,none⟩=some (.slice a3 is.length c3):=HQ.out.2.2.cell 2;by_cases hlt:j < is.length
  rotate_left
  ·have j1:¬ ((j:Int) < (is.length:Int)):=by omega
   have HE:Hid (shrC (curJ is j)=zb8 is):=by
    obtain rfl:j=8:=by have:=HI8.out;omega
    rfl
   rw [HE.out];go_wp2;go_ret;exact ⟨rfl,HQ.out.2.1⟩
  have j1:(j:Int) < (is.length:Int):=by omega
  have hj8:j < 8:=by have:=HI8.out;omega
  obtain ⟨g2,o2,sa,sc,rfl,hg2,y0,-,y2,rr⟩:=DR.ino HH.out j hlt;have HY:Hid (∀ W,Below w.heap.size w W->W.cell? ⟨g2,o2+j * 3,none⟩=some (.int .i64 (zab is ((j:Int)+1)))/\W.cell? ⟨g2,o2+j * 3+2,none⟩=some (.slice sa (zak is ((j:Int)+1)).length sc)):=fun W b=>⟨(b.cell (p:=⟨g2,o2+j * 3,none⟩) hg2).trans y0,(b.cell (p:=⟨g2,o2+j * 3+2,none⟩) hg2).trans y2⟩
  have HCS:=hide (zom is j);have hcl:=curJ_len HX.out.r j;have hp2:=zb2 HX.out.r ((j:Int)+1);have HPR:Hid (∀ p∈zak is ((j:Int)+1),0<=p/\p<=16):=fun p hp=>HX.out.ptr hp;obtain ⟨kd,hkd⟩:∃ k,zab is ((j:Int)+1)=k:=⟨_,rfl⟩
  obtain ⟨ps,hps⟩:∃ X,zak is ((j:Int)+1)=X:=⟨_,rfl⟩
  rw [hkd,hps] at HY;rw [hkd,hps] at HCS;rw [hps] at rr hp2 HPR;obtain ⟨pa,pc',pe,hcp⟩:=rr;simp only [Value.slice.injEq,true_and] at pe;obtain ⟨rfl,rfl⟩:=pe;have HCP:=hide hcp;clear hkd hps hcp y0 y2;have y0:=(HY.out wr HQ.out.2.1).1;have y2:=(HY.out wr HQ.out.2.1).2;by_cases hk0:kd=0
  ·subst hk0;have HE:Hid (curJ is (j+1)=curJ is j):=hide (by have:=HCS.out;simpa using this);by_cases hn0:ps.length=0
   ·have n1:¬ ((0:Int) < (ps.length:Int)):=by omega
    go_wp2_with fail
    go_rounds 1
    go_roundw
    case rel=>exact ⟨sv,j+1,rfl,by omega,by rw [HE.out],by go_num,by rw [HE.out];exact HQ.out⟩
    case measure=>simp [intOf];omega
   ·have n1:(0:Int) < (ps.length:Int):=by omega
    go_wp2_with fail
    go_rounds 1
    go_roundw
    case rel=>exact ⟨sv,j+1,rfl,by omega,by rw [HE.out],by go_num,by rw [HE.out];exact HQ.out⟩
    case measure=>simp [intOf];omega
  have hkb:(kd != 0)=true:=by simp [hk0]
  have HE:Hid (curJ is (j+1)=curJ is j ++ (ptrT ((j:Int)+1) ps).map (·.2)):=hide (by have:=HCS.out;rwa [if_neg hk0] at this);obtain ⟨c0,hc0⟩:∃ c,curJ is j=c:=⟨_,rfl⟩
  rw [hc0] at HQ HE hcl ⊢;have HQ1:Hid (ROwns wr (w.heap.size+1) 3 sv (ic (c0 ++ (ptrT ((j:Int)+1) (ps.take 0)).map (·.2)))/\Below w.heap.size w wr/\AtC wr w.heap.size 35 #[.slice a1 xs.length c1,.slice a2 ys.length c2,.slice (some ⟨g2,o2,none⟩) is.length c3,.slice a4 bs.length c4]):=hide (by have:=HQ.out;simpa [ptrT] using this);have hn0:shrC c0=shrC (c0 ++ (ptrT ((j:Int)+1) (ps.take 0)).map (·.2)):=by simp [ptrT]
  clear hc0 HQ HCS;rw [hn0];clear hn0;go_wp2_with fail
  go_loopw [3,4,6] (fun nv sv kv wr=>∃ (s':Value) (t:Nat),s'=sv/\t<=ps.length/\nv=.int .i64 ((shrC (c0 ++ (ptrT ((j:Int)+1) (ps.take t)).map (·.2)):Nat):Int)/\kv=.int .i64 t/\Hid (ROwns wr (w.heap.size+1) 3 s' (ic (c0 ++ (ptrT ((j:Int)+1) (ps.take t)).map (·.2)))/\Below w.heap.size w wr/\AtC wr w.heap.size 35 #[.slice a1 xs.length c1,.slice a2 ys.length c2,.slice (some ⟨g2,o2,none⟩) is.length c3,.slice a4 bs.length c4])) (fun _ _ kv _=>ps.length - (intOf kv).toNat)
  case atStart=>exact ⟨_,0,rfl,Nat.zero_le _,rfl,rfl,HQ1.out⟩
  case round =>
   obtain ⟨sv',t,hsv,ht,rfl,rfl,HT⟩:=hrel;subst hsv;clear HQ1 x2 y0 y2;have t0:(0:Int)<=(t:Int):=by omega
   have x2:wr.cell? ⟨w.heap.size,2,none⟩=some (.slice (some ⟨g2,o2,none⟩) is.length c3):=HT.out.2.2.cell 2;have y0:=(HY.out wr HT.out.2.1).1;have y2:=(HY.out wr HT.out.2.1).2;by_cases htl:t < ps.length
   rotate_left
   ·have t1:¬ ((t:Int) < (ps.length:Int)):=by omega
    have HF:Hid (c0 ++ (ptrT ((j:Int)+1) (ps.take t)).map (·.2)=curJ is (j+1)):=by
     show _=_;rw [HE.out,List.take_of_length_le (show ps.length<=t by omega)]
    rw [HF.out];have HT':=hide HT.out;rw [HF.out] at HT';go_wp2;go_roundw
    case rel=>exact ⟨sv',j+1,rfl,by omega,rfl,by go_num,HT'.out⟩
    case measure=>simp [intOf];omega
   have t1:(t:Int) < (ps.length:Int):=by omega
   obtain ⟨gp,op,rfl,hgp,kp⟩:=HCP.out t htl
   replace kp:=(HT.out.2.1.cell (p:=⟨gp,op+t,none⟩) hgp).trans kp
   have HTT:=hide (zck ((j:Int)+1) ps t htl);have htn:=zcr ((j:Int)+1) (ps.take t);rw [List.length_take] at htn;have hpr:=HPR.out _ (List.getElem_mem htl);obtain ⟨Pn,hPn⟩:∃ x,ps[t]=x:=⟨_,rfl⟩
   rw [hPn] at kp HTT hpr;clear hPn;by_cases hp0:Pn<=0
   ·have HF:Hid (ptrT ((j:Int)+1) (ps.take (t+1))=ptrT ((j:Int)+1) (ps.take t)):=hide (by
     have:=HTT.out;have e:inB Pn 1 16=false:=by simp [inB];omega
     rw [e] at this;simpa using this)
    go_wp2;go_roundw
    case rel=>exact ⟨sv',t+1,rfl,by omega,by rw [HF.out],by go_num,by rw [HF.out];exact HT.out⟩
    case measure=>simp [intOf];omega
   have HF:Hid (c0 ++ (ptrT ((j:Int)+1) (ps.take (t+1))).map (·.2)=(c0 ++ (ptrT ((j:Int)+1) (ps.take t)).map (·.2)) ++ [Pn]):=hide (by
    have:=HTT.out;have e:inB Pn 1 16=true:=by simp [inB];omega
    rw [e,if_pos rfl] at this;rw [this];simp)
   have hcu:(c0 ++ (ptrT ((j:Int)+1) (ps.take t)).map (·.2)).length<=100:=by rw [List.length_append,List.length_map];omega
   obtain ⟨cu,hcu'⟩:∃ c,c0 ++ (ptrT ((j:Int)+1) (ps.take t)).map (·.2)=c:=⟨_,rfl⟩
   rw [hcu'] at HF HT hcu ⊢;have hsl:=shrC_le cu;have HSN:=hide (zol cu Pn);have CH:=hide (zbn sv' cu Pn wr HT.out.1.rints (by omega));obtain ⟨sva,svc,rfl,-⟩:=HT.out.1.form;obtain ⟨m,hm⟩:∃ m,(ic cu).length=m:=⟨_,rfl⟩
   rw [hm] at HT CH ⊢;have HAL:Hid (ROwns (wr.alloc (.cells #[.int .i64 Pn] 3)) (w.heap.size+1) 3 (.slice sva m svc) (ic cu)/\Below w.heap.size w (wr.alloc (.cells #[.int .i64 Pn] 3))/\AtC (wr.alloc (.cells #[.int .i64 Pn] 3)) w.heap.size 35 #[.slice a1 xs.length c1,.slice a2 ys.length c2,.slice (some ⟨g2,o2,none⟩) is.length c3,.slice a4 bs.length c4]/\(wr.alloc (.cells #[.int .i64 Pn] 3)).cell? ⟨wr.heap.size,0,none⟩=some (.int .i64 Pn)/\w.heap.size+1<=(wr.alloc (.cells #[.int .i64 Pn] 3)).heap.size):=⟨HT.out.1.alloc _,HT.out.2.1.alloc HT.out.2.1.size _,HT.out.2.2.alloc _,(AtC.new wr 3 #[.int .i64 Pn]).cell 0,by have:=HT.out.2.2.lt;simp;omega⟩
   have HTL:Hid ((ic cu).length<=100000000000):=by show _<=_;rw [zaf];omega
   have HIC:Hid (ic cu ++ [.int .i64 Pn]=ic (c0 ++ (ptrT ((j:Int)+1) (ps.take (t+1))).map (·.2))):=by show _=ic _;rw [HF.out];simp [ic]
   have HRL:Hid (∀ v9 w9,ROwns w9 (w.heap.size+1) 3 v9 (ic cu ++ [.int .i64 Pn])->(wr.alloc (.cells #[.int .i64 Pn] 3)).grownBy w9 (Value.slice sva m svc).ownBlock->ROwns w9 (w.heap.size+1) 3 v9 (ic (c0 ++ (ptrT ((j:Int)+1) (ps.take (t+1))).map (·.2)))/\Below w.heap.size w w9/\AtC w9 w.heap.size 35 #[.slice a1 xs.length c1,.slice a2 ys.length c2,.slice (some ⟨g2,o2,none⟩) is.length c3,.slice a4 bs.length c4]):=fun v9 w9 T9 G9=>⟨by rw [← HIC.out];exact T9,HAL.out.2.1.grown G9 HAL.out.2.1.size (fun k hk=>by have:=(HAL.out.1.lt k hk).1;omega),HAL.out.2.2.1.grown G9 (fun e=>by have:=(HAL.out.1.lt _ e).1;omega)⟩
   rw [← HF.out] at HSN;clear hcu' hm HT
   cases hhas:cu.contains Pn with
   | true =>
    rw [hhas] at CH HSN;have HN:Hid (shrC (c0 ++ (ptrT ((j:Int)+1) (ps.take (t+1))).map (·.2))=shrC cu+1):=hide (by have:=HSN.out;simpa using this);clear hhas;go_wp2_with fail
    refine CH.out.mono ?_;rintro e w7 ⟨rfl,rfl⟩;go_wp2_with (at_builtin;refine wpList_step fun K' hK'=>?_;refine zal _ rfl (.tmp 52) (.tmp 54) 54 rfl (w.heap.size+1) 3 Tryz.u54 _ 8 Tryz.i3 rfl (by decide) (.slice sva m svc) (ic cu) rfl HAL.out.1 HAL.out.2.2.2.2 w7.heap.size (.int .i64 Pn) rfl HAL.out.2.2.2.1 rfl HTL.out ?_;intro v9 w9 T9 G9 V9;refine hK' _ _ ?_;have HR9:=hide (HRL.out v9 w9 T9 G9);clear T9 G9 V9 hK')
    go_roundw
    case rel=>exact ⟨v9,t+1,rfl,by omega,by rw [HN.out];go_num,by go_num,HR9.out⟩
    case measure=>simp [intOf];omega
   | false =>
    rw [hhas] at CH HSN;have HN:Hid (shrC (c0 ++ (ptrT ((j:Int)+1) (ps.take (t+1))).map (·.2))=shrC cu):=hide (by have:=HSN.out;simpa using this);clear hhas;go_wp2_with fail
    refine CH.out.mono ?_;rintro e w7 ⟨rfl,rfl⟩;go_wp2_with (at_builtin;refine wpList_step fun K' hK'=>?_;refine zal _ rfl (.tmp 52) (.tmp 54) 54 rfl (w.heap.size+1) 3 Tryz.u54 _ 8 Tryz.i3 rfl (by decide) (.slice sva m svc) (ic cu) rfl HAL.out.1 HAL.out.2.2.2.2 w7.heap.size (.int .i64 Pn) rfl HAL.out.2.2.2.1 rfl HTL.out ?_;intro v9 w9 T9 G9 V9;refine hK' _ _ ?_;have HR9:=hide (HRL.out v9 w9 T9 G9);clear T9 G9 V9 hK')
    go_roundw
    case rel=>exact ⟨v9,t+1,rfl,by omega,by rw [HN.out],by go_num,HR9.out⟩
    case measure=>simp [intOf];omega
theorem zhy (dx dy iv bv:Value)(xs ys:List Bool)(is:List Ino)(bs:List Blk)(w:World)(h:DR w dx dy iv bv xs ys is bs)(hX:RX xs ys is bs) :
  Calls Tryz.prog 85 #[.agg #[dx,dy,iv,bv]] w fun e w'=>e=.returned (.int .i64 (zdi is bs))/\Below w.heap.size w w':=by
 obtain ⟨a1,c1,a2,c2,a3,c3,a4,c4,rfl,rfl,rfl,rfl⟩:=h.form;have HI8:=hide hX.r.hi;have HH:=hide h;have HB0:Hid (Below w.heap.size w (w.alloc (.cells #[.slice a1 xs.length c1,.slice a2 ys.length c2,.slice a3 is.length c3,.slice a4 bs.length c4] 35))):=(Below.refl _ w).alloc nR _;have HA0:=hide (AtC.new w 35 #[.slice a1 xs.length c1,.slice a2 ys.length c2,.slice a3 is.length c3,.slice a4 bs.length c4]);have CR:=hide (zav (.slice a1 xs.length c1) (.slice a2 ys.length c2) (.slice a3 is.length c3) (.slice a4 bs.length c4) xs ys is bs (w.alloc (.cells #[.slice a1 xs.length c1,.slice a2 ys.length c2,.slice a3 is.length c3,.slice a4 bs.length c4] 35)) (h.alloc _) hX.r);have CL:=hide (fun (x:Int) (W:World) (hb:Below w.heap.size w W)=>zcu x (.slice a1 xs.length c1) (.slice a2 ys.length c2) (.slice a3 is.length c3) (.slice a4 bs.length c4) xs ys is bs W (h.below hb nR) hX);have HRG:Hid (∀ i∈reachL is bs,1<=i/\i<=8):=fun i hi=>zes hi;have HR8:=hide (zah is bs);have HFIN:Hid (zdi is bs=(reachL is bs).countP (fun i:Int=>decide (¬ i=1/\lnkAt is (i - 1).toNat < zan is bs i))):=rfl;rw [HFIN.out];obtain ⟨RL,hRL⟩:∃ l,reachL is bs=l:=⟨_,rfl⟩
 rw [hRL] at CR HRG HR8 ⊢;clear h hX hRL HFIN;go_enter Tryz.func85,Tryz.ntmps85
 go_wp2_with fail
 refine CR.out.mono ?_;rintro e w1 ⟨rv,rfl,R1,B1⟩;have HB1:=hide (HB0.out.trans (B1.mono HB0.out.size));have HA1:=hide (HA0.out.over B1);obtain ⟨ra,rc,rfl,hcr⟩:=R1.rints;have HCR:=hide hcr;have r8:RL.length<=8:=HR8.out;clear R1 B1 CR HB0 HA0 hcr;go_wp2_with fail
 go_loopw [3,5] (fun nv kv wr=>∃ (q:Nat),q<=RL.length/\nv=.int .i64 (((RL.take q).countP (fun i:Int=>decide (¬ i=1/\lnkAt is (i - 1).toNat < zan is bs i)):Nat):Int)/\kv=.int .i64 q/\Hid (Below w1.heap.size w1 wr)) (fun _ kv _=>RL.length - (intOf kv).toNat)
 case atStart=>exact ⟨0,Nat.zero_le _,by simp,rfl,Below.refl _ _⟩
 case round =>
  obtain ⟨q,hq,rfl,rfl,HQ⟩:=hrel;obtain ⟨wo,hwo⟩:∃ W,W=wr:=⟨_,rfl⟩
  subst hwo;have q0:(0:Int)<=(q:Int):=by omega
  by_cases hlt:q < RL.length
  rotate_left
  ·have q1:¬ ((q:Int) < (RL.length:Int)):=by omega
   rw [List.take_of_length_le (by omega)];go_wp2;go_ret;exact ⟨rfl,HB1.out.trans (HQ.out.mono HB1.out.size)⟩
  have q1:(q:Int) < (RL.length:Int):=by omega
  obtain ⟨gr,orr,rfl,hgr,kr⟩:=HCR.out q hlt;have hrg:=HRG.out _ (List.getElem_mem hlt);have HCT:=hide (zcp RL (fun i:Int=>decide (¬ i=1/\lnkAt is (i - 1).toNat < zan is bs i)) q hlt);have hle:=zbt RL (fun i:Int=>decide (¬ i=1/\lnkAt is (i - 1).toNat < zan is bs i)) q;obtain ⟨u0,hu0⟩:∃ c,(RL.take q).countP (fun i:Int=>decide (¬ i=1/\lnkAt is (i - 1).toNat < zan is bs i))=c:=⟨_,rfl⟩
  obtain ⟨di,hdi⟩:∃ x,RL[q]=x:=⟨_,rfl⟩
  rw [hu0,hdi] at HCT;rw [hu0] at hle ⊢;rw [hdi] at kr hrg;obtain ⟨j,rfl⟩:∃ j:Nat,di=(j:Int)+1:=⟨(di - 1).toNat,by omega⟩
  have hj8:j < 8:=by omega
  have hj:j < is.length:=by have:=HI8.out;omega
  have j0:(0:Int)<=(j:Int):=by omega
  have j1:(j:Int) < (is.length:Int):=by omega
  have hwj:IntKind.i64.wrap (j:Int)=(j:Int):=wrap_small _ (by omega) (by omega);obtain ⟨g2,o2,sa,sc,rfl,hg2,-,y1,-,-⟩:=DR.ino HH.out j hj;have el:lnkAt is j=is[j].2.1:=by unfold lnkAt;simp [hj]
  rw [← el] at y1;obtain ⟨lk,hlk⟩:∃ l,lnkAt is j=l:=⟨_,rfl⟩
  obtain ⟨ln,hln⟩:∃ l,zan is bs ((j:Int)+1)=l:=⟨_,rfl⟩
  rw [hlk] at y1;have CL1:=hide (CL.out ((j:Int)+1));simp only [hln] at CL1;have HW:Hid (∀ W,Below wo.heap.size wo W->AtC W w.heap.size 35 #[.slice a1 xs.length c1,.slice a2 ys.length c2,.slice (some ⟨g2,o2,none⟩) is.length c3,.slice a4 bs.length c4]/\W.cell? ⟨gr,orr+q,none⟩=some (.int .i64 ((j:Int)+1))/\W.cell? ⟨g2,o2+j * 3+1,none⟩=some (.int .i64 lk)/\Below w1.heap.size w1 W/\Below w.heap.size w W):=fun W b=>by
   have b1:=HQ.out.trans (b.mono HQ.out.size);have b0:=HB1.out.trans (b1.mono HB1.out.size);exact ⟨HA1.out.over b1,(b1.cell (p:=⟨gr,orr+q,none⟩) hgr).trans kr,(b0.cell (p:=⟨g2,o2+j * 3+1,none⟩) hg2).trans y1,b1,b0⟩
  simp only [show ((j:Int)+1 - 1).toNat=j by omega,hlk,hln] at HCT;clear hu0 hdi kr y1 el hlk hln;go_upto_region 6 with fail
  by_cases hj1:j=0
  ·subst hj1;have HE:Hid ((RL.take (q+1)).countP (fun i:Int=>decide (¬ i=1/\lnkAt is (i - 1).toNat < zan is bs i))=u0):=hide (by have:=HCT.out;simpa using this);obtain ⟨A1,k1,-,-,-⟩:=HW.out _ bR;clear A1;go_quiet (fail)
   go_wp2;go_roundw
   case rel=>exact ⟨q+1,by omega,by rw [HE.out],by go_num,below_drewN HQ.out _⟩
   case measure=>simp [intOf];omega
  have hjb:((j:Int)+1 != 1)=true:=by simp;omega
  have HE:Hid ((RL.take (q+1)).countP (fun i:Int=>decide (¬ i=1/\lnkAt is (i - 1).toNat < zan is bs i))=u0+if lk < (ln:Int) then 1 else 0):=hide (by
   have:=HCT.out;rw [this];congr 1
   have e:¬ ((j:Int)+1=1):=by omega
   simp [e])
  go_cut [37] from 8 to 39 (fun cv wx=>cv=.bool (decide (lk < (ln:Int)))/\Below wo.heap.size wo wx)
  case first =>
   refine zad (by kernel_rfl) [0,1,2,3,4,5,6,7,8,9,10,11,12,13,14,15,16,17,18,19,20,21,22] [23] [] (fun i=>match i with|0=>.const [] (.slice (some ⟨gr,orr,none⟩) RL.length rc)|1=>.const [] (.int .i64 (q:Int))|2=>.const [0,1] (.pointer (some ⟨gr,orr+q,none⟩))|3=>.const [2] (.int .i64 ((j:Int)+1))|4=>.const [3] (.bool true)|5=>.const [4] (.bool true)|6=>.const [5] (.pointer (some ⟨w.heap.size,2,none⟩))|7=>.const [6,5] (.slice (some ⟨g2,o2,none⟩) is.length c3)|8=>.const [5] (.slice (some ⟨gr,orr,none⟩) RL.length rc)|9=>.const [5] (.int .i64 (q:Int))|10=>.const [8,9,5] (.pointer (some ⟨gr,orr+q,none⟩))|11=>.const [10,5] (.int .i64 ((j:Int)+1))|12=>.const [11,5] (.int .i64 (j:Int))|13=>.const [7,12,5] (.pointer (some ⟨g2,o2+j * 3,none⟩))|14=>.const [13,5] (.pointer (some ⟨g2,o2+j * 3+1,none⟩))|15=>.const [14,5] (.int .i64 lk)|16=>.const [5] (.agg #[.slice a1 xs.length c1,.slice a2 ys.length c2,.slice (some ⟨g2,o2,none⟩) is.length c3,.slice a4 bs.length c4])|17=>.const [5] (.slice (some ⟨gr,orr,none⟩) RL.length rc)|18=>.const [5] (.int .i64 (q:Int))|19=>.const [17,18,5] (.pointer (some ⟨gr,orr+q,none⟩))|20=>.const [19,5] (.int .i64 ((j:Int)+1))|21=>.const [16,20,5] (.int .i64 (ln:Int))|22=>.const [15,21,5] (.bool (decide (lk < (ln:Int))))|_=>.triv) (fun x=>⟨#[.agg #[.slice a1 xs.length c1,.slice a2 ys.length c2,.slice (some ⟨g2,o2,none⟩) is.length c3,.slice a4 bs.length c4],.pointer (some ⟨w.heap.size,0,none⟩),.int .i64 0,.int .i64 ↑u0,.slice (some ⟨gr,orr,none⟩) RL.length rc,.int .i64 ↑q,.agg #[.slice a1 xs.length c1,.slice a2 ys.length c2,.slice (some ⟨g2,o2,none⟩) is.length c3,.slice a4 bs.length c4],.slice (some ⟨gr,orr,none⟩) RL.length rc,.int .i64 ↑q,.slice (some ⟨gr,orr,none⟩) RL.length rc,.int .i64 ↑RL.length,.bool true,u12,u13,x 0,x 1,x 2,x 3,x 4,x 5,x 6,x 7,x 8,x 9,x 10,x 11,x 12,x 13,x 14,x 15,x 16,x 17,x 18,x 19,x 20,x 21,x 22,u37,u38,u39,undef],[]⟩) (fun i=>match i with|0=>u14|1=>u15|2=>u16|3=>u17|4=>u18|5=>u19|6=>u20|7=>u21|8=>u22|9=>u23|10=>u24|11=>u25|12=>u26|13=>u27|14=>u28|15=>u29|16=>u30|17=>u31|18=>u32|19=>u33|20=>u34|21=>u35|22=>u36|_=>undef) rfl (zae (by kernel_rfl) (by kernel_rfl)) (by kernel_rfl) (by kernel_rfl) (by kernel_rfl) rfl ?_ ?_ (by intro q hq;cases hq)
   ·intro jo hj so x iw W hd hp K hK;simp only [List.mem_cons,List.not_mem_nil,or_false] at hj;rcases hj with rfl|rfl|rfl|rfl|rfl|rfl|rfl|rfl|rfl|rfl|rfl|rfl|rfl|rfl|rfl|rfl|rfl|rfl|rfl|rfl|rfl|rfl|rfl<;>refine wpOp_step (o:=_) rfl fun K' hK'=>?_<;>have HK:=hide (fun (v:Value) (W':World) h1 h2=>hK' _ _ (hK v W' h1 h2))<;>simp only [upd,Nat.reduceEqDiff,if_true,if_false] at HK
    ·clear hK hK' hp hd;go_simp;exact HK.out _ _ bR rfl
    ·clear hK hK' hp hd;go_simp;exact HK.out _ _ bR rfl
    ·have e0:x 0=.slice (some ⟨gr,orr,none⟩) RL.length rc:=hp.post 0 (hd 0 mz0);have e1:x 1=.int .i64 (q:Int):=hp.post 1 (hd 1 mz1);simp only [e0,e1] at HK ⊢;go_simp;exact HK.out _ _ bR rfl
    ·have e2:x 2=.pointer (some ⟨gr,orr+q,none⟩):=hp.post 2 (hd 2 mz0);have bw:=HW.out W (zaa hp.bel);have k0:=bw.2.1;clear bw;simp only [e2] at HK ⊢;go_simp;exact HK.out _ _ bR rfl
    ·have e3:x 3=.int .i64 ((j:Int)+1):=hp.post 3 (hd 3 mz0);simp only [e3] at HK ⊢;go_simp;exact HK.out _ _ bR rfl
    ·have e4:x 4=.bool true:=hp.post 4 (hd 4 mz0);simp only [e4] at HK ⊢;go_simp;exact HK.out _ _ bR rfl
    ·have e5:x 5=.bool true:=hp.post 5 (hd 5 mz0);simp only [e5] at HK ⊢;go_simp;exact HK.out _ _ bR rfl
    ·have e6:x 6=.pointer (some ⟨w.heap.size,2,none⟩):=hp.post 6 (hd 6 mz0);have e5:x 5=.bool true:=hp.post 5 (hd 5 mz1);have bw:=HW.out W (zaa hp.bel);have k0:W.cell? ⟨w.heap.size,2,none⟩=some (.slice (some ⟨g2,o2,none⟩) is.length c3):=bw.1.cell 2;clear bw;simp only [e6,e5] at HK ⊢;go_simp;exact HK.out _ _ bR rfl
    ·have e5:x 5=.bool true:=hp.post 5 (hd 5 mz0);simp only [e5] at HK ⊢;go_simp;exact HK.out _ _ bR rfl
    ·have e5:x 5=.bool true:=hp.post 5 (hd 5 mz0);simp only [e5] at HK ⊢;go_simp;exact HK.out _ _ bR rfl
    ·have e8:x 8=.slice (some ⟨gr,orr,none⟩) RL.length rc:=hp.post 8 (hd 8 mz0);have e9:x 9=.int .i64 (q:Int):=hp.post 9 (hd 9 mz1);have e5:x 5=.bool true:=hp.post 5 (hd 5 mz2);simp only [e8,e9,e5] at HK ⊢;go_simp;exact HK.out _ _ bR rfl
    ·have e10:x 10=.pointer (some ⟨gr,orr+q,none⟩):=hp.post 10 (hd 10 mz0);have e5:x 5=.bool true:=hp.post 5 (hd 5 mz1);have bw:=HW.out W (zaa hp.bel);have k0:=bw.2.1;clear bw;simp only [e10,e5] at HK ⊢;go_simp;exact HK.out _ _ bR rfl
    ·have e11:x 11=.int .i64 ((j:Int)+1):=hp.post 11 (hd 11 mz0);have e5:x 5=.bool true:=hp.post 5 (hd 5 mz1);simp only [e11,e5] at HK ⊢;go_simp;exact HK.out _ _ bR rfl
    ·have e7:x 7=.slice (some ⟨g2,o2,none⟩) is.length c3:=hp.post 7 (hd 7 mz0);have e12:x 12=.int .i64 (j:Int):=hp.post 12 (hd 12 mz1);have e5:x 5=.bool true:=hp.post 5 (hd 5 mz2);simp only [e7,e12,e5] at HK ⊢;go_simp;exact HK.out _ _ bR rfl
    ·have e13:x 13=.pointer (some ⟨g2,o2+j * 3,none⟩):=hp.post 13 (hd 13 mz0);have e5:x 5=.bool true:=hp.post 5 (hd 5 mz1);simp only [e13,e5] at HK ⊢;go_simp;exact HK.out _ _ bR rfl
    ·have e14:x 14=.pointer (some ⟨g2,o2+j * 3+1,none⟩):=hp.post 14 (hd 14 mz0);have e5:x 5=.bool true:=hp.post 5 (hd 5 mz1);have bw:=HW.out W (zaa hp.bel);have k0:=bw.2.2.1;clear bw;simp only [e14,e5] at HK ⊢;go_simp;exact HK.out _ _ bR rfl
    ·have e5:x 5=.bool true:=hp.post 5 (hd 5 mz0);have bw:=HW.out W (zaa hp.bel);obtain ⟨k0,k1,k2,k3⟩:=AtC.four bw.1;clear bw;simp only [e5] at HK ⊢;go_simp;exact HK.out _ _ bR rfl
    ·have e5:x 5=.bool true:=hp.post 5 (hd 5 mz0);simp only [e5] at HK ⊢;go_simp;exact HK.out _ _ bR rfl
    ·have e5:x 5=.bool true:=hp.post 5 (hd 5 mz0);simp only [e5] at HK ⊢;go_simp;exact HK.out _ _ bR rfl
    ·have e17:x 17=.slice (some ⟨gr,orr,none⟩) RL.length rc:=hp.post 17 (hd 17 mz0);have e18:x 18=.int .i64 (q:Int):=hp.post 18 (hd 18 mz1);have e5:x 5=.bool true:=hp.post 5 (hd 5 mz2);simp only [e17,e18,e5] at HK ⊢;go_simp;exact HK.out _ _ bR rfl
    ·have e19:x 19=.pointer (some ⟨gr,orr+q,none⟩):=hp.post 19 (hd 19 mz0);have e5:x 5=.bool true:=hp.post 5 (hd 5 mz1);have bw:=HW.out W (zaa hp.bel);have k0:=bw.2.1;clear bw;simp only [e19,e5] at HK ⊢;go_simp;exact HK.out _ _ bR rfl
    ·have e16:x 16=.agg #[.slice a1 xs.length c1,.slice a2 ys.length c2,.slice (some ⟨g2,o2,none⟩) is.length c3,.slice a4 bs.length c4]:=hp.post 16 (hd 16 mz0);have e20:x 20=.int .i64 ((j:Int)+1):=hp.post 20 (hd 20 mz1);have e5:x 5=.bool true:=hp.post 5 (hd 5 mz2);have dr:=(HW.out W (zaa hp.bel)).2.2.2.2;simp only [e16,e20,e5] at HK ⊢;clear e16 e20 e5;go_simp;refine (CL1.out W dr).mono ?_;rintro e w6 ⟨rfl,B6⟩;go_simp;exact HK.out _ _ B6 rfl
    ·have e15:x 15=.int .i64 lk:=hp.post 15 (hd 15 mz0);have e21:x 21=.int .i64 (ln:Int):=hp.post 21 (hd 21 mz1);have e5:x 5=.bool true:=hp.post 5 (hd 5 mz2);simp only [e15,e21,e5] at HK ⊢;go_simp;exact HK.out _ _ bR rfl
   ·intro x iw W hp;have e22:x 22=.bool (decide (lk < (ln:Int))):=hp.post 22 (by decide);have e5:x 5=.bool true:=hp.post 5 (by decide);have HB:=hide (zaa hp.bel);simp only [e22,e5];clear hp e22 e5;go_wp2_with fail
    try rw [List.filterMap_nil]
    try go_wp2_with fail
    go_meet
    exact ⟨rfl,HB.out⟩
  case rest =>
   obtain ⟨rfl,hB2⟩:=hcut;have HB3:=hide (HW.out _ hB2).2.2.2.1;clear hB2 HW HQ;by_cases hl:lk < (ln:Int)
   ·have hd:decide (lk < (ln:Int))=true:=decide_eq_true hl;rw [hd];have HE2:Hid ((RL.take (q+1)).countP (fun i:Int=>decide (¬ i=1/\lnkAt is (i - 1).toNat < zan is bs i))=u0+1):=hide (by have:=HE.out;rwa [if_pos hl] at this);clear hd hl;go_wp2;go_roundw
    case rel=>exact ⟨q+1,by omega,by rw [HE2.out];go_num,by go_num,HB3.out⟩
    case measure=>simp [intOf];omega
   ·have hd:decide (lk < (ln:Int))=false:=decide_eq_false hl;rw [hd];have HE2:Hid ((RL.take (q+1)).countP (fun i:Int=>decide (¬ i=1/\lnkAt is (i - 1).toNat < zan is bs i))=u0):=hide (by have:=HE.out;rwa [if_neg hl] at this);clear hd hl;go_wp2;go_roundw
    case rel=>exact ⟨q+1,by omega,by rw [HE2.out],by go_num,HB3.out⟩
    case measure=>simp [intOf];omega
theorem zme (is:List Ino)(l:List Int)(q:Nat)(h:q < l.length)(f:Pr->Bool):(ptrL is (l.take (q+1))).countP f=(ptrL is (l.take q)).countP f+(ptrT l[q] (zak is l[q])).countP f:=by
 rw [zfo is l q h,List.countP_append];rfl
theorem zhz (dx dy iv bv:Value)(xs ys:List Bool)(is:List Ino)(bs:List Blk)(w:World)(h:DR w dx dy iv bv xs ys is bs)(hX:RX xs ys is bs) :
  Calls Tryz.prog 86 #[.agg #[dx,dy,iv,bv]] w fun e w'=>e=.returned (.int .i64 (zdj is bs))/\Below w.heap.size w w':=by
 obtain ⟨a1,c1,a2,c2,a3,c3,a4,c4,rfl,rfl,rfl,rfl⟩:=h.form;have HL:Hid (is.length=8/\bs.length=16):=⟨hX.r.hi,hX.r.hb⟩
 have HH:=hide h;have HB0:Hid (Below w.heap.size w (w.alloc (.cells #[.slice a1 xs.length c1,.slice a2 ys.length c2,.slice a3 is.length c3,.slice a4 bs.length c4] 35))):=(Below.refl _ w).alloc nR _;have HA0:=hide (AtC.new w 35 #[.slice a1 xs.length c1,.slice a2 ys.length c2,.slice a3 is.length c3,.slice a4 bs.length c4]);have CR:=hide (zav (.slice a1 xs.length c1) (.slice a2 ys.length c2) (.slice a3 is.length c3) (.slice a4 bs.length c4) xs ys is bs (w.alloc (.cells #[.slice a1 xs.length c1,.slice a2 ys.length c2,.slice a3 is.length c3,.slice a4 bs.length c4] 35)) (h.alloc _) hX.r);have HRG:Hid (∀ i∈reachL is bs,1<=i/\i<=8):=fun i hi=>zes hi;have HR8:=hide (zah is bs);have HUL:Hid (∀ l,(ptrL is l).countP (fun s:Pr=>(blkAt bs s.2).1 != (zab is s.1 == 2))<=l.length * 2):=fun l=>Nat.le_trans List.countP_le_length (zax hX.r l);have HP2:Hid (∀ i,(zak is i).length<=2):=zb2 hX.r;have HFIN:Hid (zdj is bs=(ptrL is (reachL is bs)).countP (fun s:Pr=>(blkAt bs s.2).1 != (zab is s.1 == 2))):=rfl;rw [HFIN.out];obtain ⟨RL,hRL⟩:∃ l,reachL is bs=l:=⟨_,rfl⟩
 rw [hRL] at CR HRG HR8 ⊢;clear h hX hRL HFIN;go_enter Tryz.func86,Tryz.ntmps86
 go_wp2_with fail
 refine CR.out.mono ?_;rintro e w1 ⟨rv,rfl,R1,B1⟩;have HB1:=hide (HB0.out.trans (B1.mono HB0.out.size));have HA1:=hide (HA0.out.over B1);obtain ⟨ra,rc,rfl,hcr⟩:=R1.rints;have HCR:=hide hcr;have r8:RL.length<=8:=HR8.out;clear R1 B1 CR HB0 HA0 hcr;go_wp2_with fail
 go_loopw [3,5] (fun nv kv wr=>∃ (q:Nat),q<=RL.length/\nv=.int .i64 (((ptrL is (RL.take q)).countP (fun s:Pr=>(blkAt bs s.2).1 != (zab is s.1 == 2)):Nat):Int)/\kv=.int .i64 q/\Hid (Below w1.heap.size w1 wr)) (fun _ kv _=>RL.length - (intOf kv).toNat)
 case atStart=>exact ⟨0,Nat.zero_le _,rfl,rfl,Below.refl _ _⟩
 case round =>
  obtain ⟨q,hq,rfl,rfl,HQ⟩:=hrel;obtain ⟨wo,hwo⟩:∃ W,W=wr:=⟨_,rfl⟩
  subst hwo;have q0:(0:Int)<=(q:Int):=by omega
  by_cases hlt:q < RL.length
  rotate_left
  ·have q1:¬ ((q:Int) < (RL.length:Int)):=by omega
   rw [List.take_of_length_le (by omega)];go_wp2;go_ret;exact ⟨rfl,HB1.out.trans (HQ.out.mono HB1.out.size)⟩
  have q1:(q:Int) < (RL.length:Int):=by omega
  obtain ⟨gr,orr,rfl,hgr,kr⟩:=HCR.out q hlt;have hrg:=HRG.out _ (List.getElem_mem hlt);have HSN:=hide (zme is RL q hlt (fun s:Pr=>(blkAt bs s.2).1 != (zab is s.1 == 2)));have hul:=HUL.out (RL.take q);rw [List.length_take] at hul;obtain ⟨u0,hu0⟩:∃ c,(ptrL is (RL.take q)).countP (fun s:Pr=>(blkAt bs s.2).1 != (zab is s.1 == 2))=c:=⟨_,rfl⟩
  obtain ⟨di,hdi⟩:∃ x,RL[q]=x:=⟨_,rfl⟩
  rw [hu0,hdi] at HSN;rw [hu0] at hul ⊢;rw [hdi] at kr hrg;obtain ⟨j,rfl⟩:∃ j:Nat,di=(j:Int)+1:=⟨(di - 1).toNat,by omega⟩
  have hj8:j < 8:=by omega
  have hj:j < is.length:=by have:=HL.out;omega
  have j0:(0:Int)<=(j:Int):=by omega
  have j1:(j:Int) < (is.length:Int):=by omega
  have hwj:IntKind.i64.wrap (j:Int)=(j:Int):=wrap_small _ (by omega) (by omega);obtain ⟨g2,o2,sa,sc,rfl,hg2,y0,y1,y2,rr⟩:=DR.ino HH.out j hj;have hp2:=HP2.out ((j:Int)+1);obtain ⟨ps,hps⟩:∃ X,zak is ((j:Int)+1)=X:=⟨_,rfl⟩
  rw [hps] at y2 rr hp2 HSN;obtain ⟨pa,pc',pe,hcp⟩:=rr;simp only [Value.slice.injEq,true_and] at pe;obtain ⟨rfl,rfl⟩:=pe;have HCP:=hide hcp;obtain ⟨kd,hkd⟩:∃ k,zab is ((j:Int)+1)=k:=⟨_,rfl⟩
  have HKD:=hide hkd;obtain ⟨ln,hln⟩:∃ k,is[j].2.1=k:=⟨_,rfl⟩
  rw [hkd] at y0;rw [hln] at y1;have HW:Hid (∀ W,Below wo.heap.size wo W->AtC W w.heap.size 35 #[.slice a1 xs.length c1,.slice a2 ys.length c2,.slice (some ⟨g2,o2,none⟩) is.length c3,.slice a4 bs.length c4]/\W.cell? ⟨gr,orr+q,none⟩=some (.int .i64 ((j:Int)+1))/\(W.cell? ⟨g2,o2+j * 3,none⟩=some (.int .i64 kd)/\W.cell? ⟨g2,o2+j * 3+1,none⟩=some (.int .i64 ln)/\W.cell? ⟨g2,o2+j * 3+2,none⟩=some (.slice sa ps.length sc))/\Below w1.heap.size w1 W/\Below w.heap.size w W):=fun W b=>by
   have b1:=HQ.out.trans (b.mono HQ.out.size);have b0:=HB1.out.trans (b1.mono HB1.out.size);exact ⟨HA1.out.over b1,(b1.cell (p:=⟨gr,orr+q,none⟩) hgr).trans kr,⟨(b0.cell (p:=⟨g2,o2+j * 3,none⟩) hg2).trans y0,(b0.cell (p:=⟨g2,o2+j * 3+1,none⟩) hg2).trans y1,(b0.cell (p:=⟨g2,o2+j * 3+2,none⟩) hg2).trans y2⟩,b1,b0⟩
  clear hu0 hdi kr y0 y1 y2 hkd hln hps hcp;go_upto_region 6 with fail
  go_cut [6] from 12 to 54 (fun pv wx=>∃ xb:Nat,pv=.pointer (some ⟨xb,0,none⟩)/\AtC wx xb 63 #[.int .i64 kd,.int .i64 ln,.slice sa ps.length sc]/\Below wo.heap.size wo wx)
  case first =>
   refine zad (by kernel_rfl) [0,1,2,3,4,5,6,7,8,9] [10] [] (fun i=>match i with|0=>.const [] (.pointer (some ⟨w.heap.size,2,none⟩))|1=>.const [0] (.slice (some ⟨g2,o2,none⟩) is.length c3)|2=>.const [] (.slice (some ⟨gr,orr,none⟩) RL.length rc)|3=>.const [] (.int .i64 (q:Int))|4=>.const [2,3] (.pointer (some ⟨gr,orr+q,none⟩))|5=>.const [4] (.int .i64 ((j:Int)+1))|6=>.const [5] (.int .i64 (j:Int))|7=>.const [1,6] (.pointer (some ⟨g2,o2+j * 3,none⟩))|8=>.const [7] (.agg #[.int .i64 kd,.int .i64 ln,.slice sa ps.length sc])|9=>MkW 63 #[.int .i64 0,.int .i64 0,.slice none 0 0]|_=>.triv) (fun x=>⟨#[.agg #[.slice a1 xs.length c1,.slice a2 ys.length c2,.slice (some ⟨g2,o2,none⟩) is.length c3,.slice a4 bs.length c4],.pointer (some ⟨w.heap.size,0,none⟩),.int .i64 0,.int .i64 ↑u0,.slice (some ⟨gr,orr,none⟩) RL.length rc,.int .i64 ↑q,x 9,u7,u8,u9,.agg #[.slice a1 xs.length c1,.slice a2 ys.length c2,.slice (some ⟨g2,o2,none⟩) is.length c3,.slice a4 bs.length c4],.slice (some ⟨gr,orr,none⟩) RL.length rc,.int .i64 ↑q,.slice (some ⟨gr,orr,none⟩) RL.length rc,.int .i64 ↑RL.length,.bool true,u16,u17,x 0,x 1,x 2,x 3,x 4,x 5,x 6,x 7,x 8,u27,u28,u29,u30,u31,u32,u33,u34,u35,u36,u37,u38,u39,u40,u41,u42,u43,u44,u45,u46,u47,u48,u49,u50,u51,u52,u53,u54,undef],[]⟩) (fun i=>match i with|0=>u18|1=>u19|2=>u20|3=>u21|4=>u22|5=>u23|6=>u24|7=>u25|8=>u26|9=>u6|_=>undef) rfl (zae (by kernel_rfl) (by kernel_rfl)) (by kernel_rfl) (by kernel_rfl) (by kernel_rfl) rfl ?_ ?_ (by intro q hq;cases hq)
   ·intro jo hj so x iw W hd hp K hK;simp only [List.mem_cons,List.not_mem_nil,or_false] at hj;rcases hj with rfl|rfl|rfl|rfl|rfl|rfl|rfl|rfl|rfl|rfl<;>refine wpOp_step (o:=_) rfl fun K' hK'=>?_<;>have HK:=hide (fun (v:Value) (W':World) h1 h2=>hK' _ _ (hK v W' h1 h2))<;>simp only [upd,Nat.reduceEqDiff,if_true,if_false] at HK
    ·clear hK hK' hp hd;go_simp;exact HK.out _ _ bR rfl
    ·have e0:x 0=.pointer (some ⟨w.heap.size,2,none⟩):=hp.post 0 (hd 0 mz0);have bw:=HW.out W (zaa hp.bel);have k0:W.cell? ⟨w.heap.size,2,none⟩=some (.slice (some ⟨g2,o2,none⟩) is.length c3):=bw.1.cell 2;clear bw;simp only [e0] at HK ⊢;go_simp;exact HK.out _ _ bR rfl
    ·clear hK hK' hp hd;go_simp;exact HK.out _ _ bR rfl
    ·clear hK hK' hp hd;go_simp;exact HK.out _ _ bR rfl
    ·have e2:x 2=.slice (some ⟨gr,orr,none⟩) RL.length rc:=hp.post 2 (hd 2 mz0);have e3:x 3=.int .i64 (q:Int):=hp.post 3 (hd 3 mz1);simp only [e2,e3] at HK ⊢;go_simp;exact HK.out _ _ bR rfl
    ·have e4:x 4=.pointer (some ⟨gr,orr+q,none⟩):=hp.post 4 (hd 4 mz0);have bw:=HW.out W (zaa hp.bel);have k0:=bw.2.1;clear bw;simp only [e4] at HK ⊢;go_simp;exact HK.out _ _ bR rfl
    ·have e5:x 5=.int .i64 ((j:Int)+1):=hp.post 5 (hd 5 mz0);simp only [e5] at HK ⊢;go_simp;exact HK.out _ _ bR rfl
    ·have e1:x 1=.slice (some ⟨g2,o2,none⟩) is.length c3:=hp.post 1 (hd 1 mz0);have e6:x 6=.int .i64 (j:Int):=hp.post 6 (hd 6 mz1);simp only [e1,e6] at HK ⊢;go_simp;exact HK.out _ _ bR rfl
    ·have e7:x 7=.pointer (some ⟨g2,o2+j * 3,none⟩):=hp.post 7 (hd 7 mz0);have bw:=HW.out W (zaa hp.bel);obtain ⟨k0,k1,k2⟩:=bw.2.2.1;clear bw;simp only [e7] at HK ⊢;go_simp;exact HK.out _ _ bR rfl
    ·clear hK hK' hp hd;go_simp;exact HK.out _ _ ((Below.refl _ W).alloc nR _) ⟨rfl,by simp,AtC.new W 63 _⟩
   ·intro x iw W hp;have e8:x 8=.agg #[.int .i64 kd,.int .i64 ln,.slice sa ps.length sc]:=hp.post 8 (by decide);obtain ⟨e9,z9,A9⟩:=hp.post 9 (by decide);have l9:=hp.lo 9 (by decide);have bel:=zaa hp.bel;have hb9:wo.heap.size<=(iw 9).1:=l9.1;have y0:W.cell? ⟨(iw 9).1,0,none⟩=some (.int .i64 0):=A9.cell 0;have y1:W.cell? ⟨(iw 9).1,1,none⟩=some (.int .i64 0):=A9.cell 1;have y2:W.cell? ⟨(iw 9).1,2,none⟩=some (.slice none 0 0):=A9.cell 2;have f0:=A9.frozen 0;have f1:=A9.frozen 1;have f2:=A9.frozen 2;have HFI:Hid (AtC W (iw 9).1 63 #[.int .i64 0,.int .i64 0,.slice none 0 0]/\Below wo.heap.size wo W/\wo.heap.size<=(iw 9).1):=⟨A9,bel,hb9⟩
    clear hp A9 bel l9 z9 hb9;simp only [e8,e9] at *;generalize (iw 9).1=bw at *;go_wp2_with fail
    try rw [List.filterMap_nil]
    try go_wp2_with fail
    go_meet
    exact ⟨bw,rfl,((HFI.out.1.set 0 _).set 1 _).set 2 _,((HFI.out.2.1.setCell (p:=⟨bw,0,none⟩) HFI.out.2.2 _).setCell (p:=⟨bw,1,none⟩) HFI.out.2.2 _).setCell (p:=⟨bw,2,none⟩) HFI.out.2.2 _⟩
  case rest =>
   obtain ⟨xb,rfl,hAx,hB2⟩:=hcut;have HX2:=hide (And.intro hAx hB2);clear hAx hB2;obtain ⟨wx,hwx⟩:∃ W,W=wc:=⟨_,rfl⟩
   subst hwx;go_wp2_with fail
   go_loopw [3,7] (fun nv kv wr=>∃ (t:Nat),t<=ps.length/\nv=.int .i64 (((u0+(ptrT ((j:Int)+1) (ps.take t)).countP (fun s:Pr=>(blkAt bs s.2).1 != (zab is s.1 == 2)):Nat)):Int)/\kv=.int .i64 t/\Hid (Below wx.heap.size wx wr)) (fun _ kv _=>ps.length - (intOf kv).toNat)
   case atStart=>exact ⟨0,Nat.zero_le _,by simp [ptrT],rfl,Below.refl _ _⟩
   case round =>
    obtain ⟨t,ht,rfl,rfl,HT⟩:=hrel;obtain ⟨wt,hwt⟩:∃ W,W=wr:=⟨_,rfl⟩
    subst hwt;have t0:(0:Int)<=(t:Int):=by omega
    have HV:Hid (∀ W,Below wt.heap.size wt W->AtC W w.heap.size 35 #[.slice a1 xs.length c1,.slice a2 ys.length c2,.slice (some ⟨g2,o2,none⟩) is.length c3,.slice a4 bs.length c4]/\AtC W xb 63 #[.int .i64 kd,.int .i64 ln,.slice sa ps.length sc]/\Below w1.heap.size w1 W/\Below w.heap.size w W/\Below wx.heap.size wx W):=fun W b=>by
     have b1:=HT.out.trans (b.mono HT.out.size);have b2:=HX2.out.2.trans (b1.mono HX2.out.2.size);obtain ⟨q1,-,-,q4,q5⟩:=HW.out W b2;exact ⟨q1,HX2.out.1.over b1,q4,q5,b1⟩
    have x7:wt.cell? ⟨xb,2,none⟩=some (.slice sa ps.length sc):=(HV.out _ bR).2.1.cell 2;by_cases htl:t < ps.length
    rotate_left
    ·have t1:¬ ((t:Int) < (ps.length:Int)):=by omega
     have HE:Hid ((ptrL is (RL.take (q+1))).countP (fun s:Pr=>(blkAt bs s.2).1 != (zab is s.1 == 2))=u0+(ptrT ((j:Int)+1) (ps.take t)).countP (fun s:Pr=>(blkAt bs s.2).1 != (zab is s.1 == 2))):=by
      show _=_;rw [HSN.out,List.take_of_length_le (show ps.length<=t by omega)]
     have HBZ:=hide (HV.out _ bR).2.2.1;go_wp2;go_roundw
     case rel=>exact ⟨q+1,by omega,by rw [HE.out],by go_num,HBZ.out⟩
     case measure=>simp [intOf];omega
    have t1:(t:Int) < (ps.length:Int):=by omega
    obtain ⟨gp,op,rfl,hgp,kp⟩:=HCP.out t htl;have HTT:=hide (congrArg (List.countP (fun s:Pr=>(blkAt bs s.2).1 != (zab is s.1 == 2))) (zck ((j:Int)+1) ps t htl));have hle:(ptrT ((j:Int)+1) (ps.take t)).countP (fun s:Pr=>(blkAt bs s.2).1 != (zab is s.1 == 2))<=2:=Nat.le_trans List.countP_le_length (Nat.le_trans (zcr _ _) (by rw [List.length_take];omega));obtain ⟨Pn,hPn⟩:∃ x,ps[t]=x:=⟨_,rfl⟩
    rw [hPn,List.countP_append] at HTT;rw [hPn] at kp;obtain ⟨v0,hv0⟩:∃ c,(ptrT ((j:Int)+1) (ps.take t)).countP (fun s:Pr=>(blkAt bs s.2).1 != (zab is s.1 == 2))=c:=⟨_,rfl⟩
    rw [hv0] at HTT hle ⊢;have CB:=hide (fun (W:World) (hd:Below w.heap.size w W)=>zfa Pn (.slice a1 xs.length c1) (.slice a2 ys.length c2) (.slice (some ⟨g2,o2,none⟩) is.length c3) (.slice a4 bs.length c4) xs ys is bs w W HH.out hd (by rw [HL.out.2];decide));obtain ⟨⟨bd,bss,btx⟩,hBD⟩:∃ X,blkAt bs Pn=X:=⟨_,rfl⟩
    obtain ⟨F,hF⟩:∃ F,inB Pn 1 bs.length=F:=⟨_,rfl⟩
    have hF16:inB Pn 1 16=F:=by rw [← hF,HL.out.2];rfl
    rw [hBD,hF] at CB;have HTT2:Hid ((ptrT ((j:Int)+1) (ps.take (t+1))).countP (fun s:Pr=>(blkAt bs s.2).1 != (zab is s.1 == 2))=v0+if (F && (bd != (kd == 2)))=true then 1 else 0):=hide (by
     have:=HTT.out;rw [this,hF16];congr 1
     cases F with
     | false=>simp
     | true =>
      rw [if_pos rfl,List.countP_cons,List.countP_nil];simp only [hBD,HKD.out,Bool.true_and,Nat.zero_add])
    have HWR:Hid (∀ W,Below wt.heap.size wt W->W.cell? ⟨gp,op+t,none⟩=some (.int .i64 Pn)/\AtC W w.heap.size 35 #[.slice a1 xs.length c1,.slice a2 ys.length c2,.slice (some ⟨g2,o2,none⟩) is.length c3,.slice a4 bs.length c4]/\AtC W xb 63 #[.int .i64 kd,.int .i64 ln,.slice (some ⟨gp,op,none⟩) ps.length sc]/\Below w.heap.size w W):=fun W b=>by
     obtain ⟨q1,q2,-,q4,-⟩:=HV.out W b;exact ⟨(q4.cell (p:=⟨gp,op+t,none⟩) hgp).trans kp,q1,q2,q4⟩
    clear hPn kp hv0 hBD hF hF16 HTT;go_upto_region 10 with fail
    clear x7;go_cut [8,9] from 27 to 54 (fun bv ok wx=>∃ (bw:Nat) (ba:Option Addr) (bc:Nat),bv=.pointer (some ⟨bw,0,none⟩)/\ok=.bool F/\AtC wx bw 74 #[.bool bd,.slice ba bss.length bc,.string btx]/\RSl w (.slice ba bss.length bc) bss/\Below wt.heap.size wt wx/\wt.heap.size<=bw)
    case first =>
     refine zad (by kernel_rfl) [0,1,2,3,4,5,6,7,8,9,10] [11,12] [([0,1,2,3,4,5,6,7,8,10],[[9,11,12],[11,9,12]])] (fun i=>match i with|0=>.const [] (.agg #[.slice a1 xs.length c1,.slice a2 ys.length c2,.slice (some ⟨g2,o2,none⟩) is.length c3,.slice a4 bs.length c4])|1=>.const [] (.pointer (some ⟨xb,2,none⟩))|2=>.const [1] (.slice (some ⟨gp,op,none⟩) ps.length sc)|3=>.const [] (.int .i64 (t:Int))|4=>.const [2,3] (.pointer (some ⟨gp,op+t,none⟩))|5=>.const [4] (.int .i64 Pn)|6=>MkT2 [0,5] (BlkR w bd btx bss F) BlkR.below|7=>MkMv 6|8=>MkFs 7|9=>MkSd 7|10=>MkW 74 #[.bool false,.slice none 0 0,.string ⟨#[]⟩]|_=>.triv) (fun x=>⟨#[.agg #[.slice a1 xs.length c1,.slice a2 ys.length c2,.slice (some ⟨g2,o2,none⟩) is.length c3,.slice a4 bs.length c4],.pointer (some ⟨w.heap.size,0,none⟩),.int .i64 0,.int .i64 ↑(u0+v0),.slice (some ⟨gr,orr,none⟩) RL.length rc,.int .i64 ↑q,.pointer (some ⟨xb,0,none⟩),.int .i64 ↑t,x 10,u9,.agg #[.slice a1 xs.length c1,.slice a2 ys.length c2,.slice (some ⟨g2,o2,none⟩) is.length c3,.slice a4 bs.length c4],.slice (some ⟨gr,orr,none⟩) RL.length rc,u12,u13,u14,u15,u16,u17,u18,u19,u20,u21,u22,u23,u24,u25,u26,.int .i64 ↑t,.pointer (some ⟨xb,2,none⟩),.slice (some ⟨gp,op,none⟩) ps.length sc,.int .i64 ↑ps.length,.bool true,u32,u33,x 7,x 0,x 1,x 2,x 3,x 4,x 5,x 6,x 8,x 9,u44,u45,u46,u47,u48,u49,u50,u51,u52,u53,u54,undef],[]⟩) (fun i=>match i with|0=>u35|1=>u36|2=>u37|3=>u38|4=>u39|5=>u40|6=>u41|7=>u34|8=>u42|9=>u43|10=>u8|_=>undef) rfl (zae (by kernel_rfl) (by kernel_rfl)) (by kernel_rfl) (by kernel_rfl) (by kernel_rfl) rfl ?_ ?_ ?_
     ·intro jo hj so x iw W hd hp K hK;simp only [List.mem_cons,List.not_mem_nil,or_false] at hj;rcases hj with rfl|rfl|rfl|rfl|rfl|rfl|rfl|rfl|rfl|rfl|rfl<;>refine wpOp_step (o:=_) rfl fun K' hK'=>?_<;>have HK:=hide (fun (v:Value) (W':World) h1 h2=>hK' _ _ (hK v W' h1 h2))<;>simp only [upd,Nat.reduceEqDiff,if_true,if_false] at HK
      ·have bq:=HWR.out W (zaa hp.bel);obtain ⟨q5,q6,q7,q8⟩:=AtC.four bq.2.1;clear bq;go_simp;exact HK.out _ _ bR rfl
      ·clear hK hK' hp hd;go_simp;exact HK.out _ _ bR rfl
      ·have e1:x 1=.pointer (some ⟨xb,2,none⟩):=hp.post 1 (hd 1 mz0);have bq:=HWR.out W (zaa hp.bel);have q5:W.cell? ⟨xb,2,none⟩=some (.slice (some ⟨gp,op,none⟩) ps.length sc):=bq.2.2.1.cell 2;clear bq;simp only [e1] at HK ⊢;go_simp;exact HK.out _ _ bR rfl
      ·clear hK hK' hp hd;go_simp;exact HK.out _ _ bR rfl
      ·have e2:x 2=.slice (some ⟨gp,op,none⟩) ps.length sc:=hp.post 2 (hd 2 mz0);have e3:x 3=.int .i64 (t:Int):=hp.post 3 (hd 3 mz1);simp only [e2,e3] at HK ⊢;go_simp;exact HK.out _ _ bR rfl
      ·have e4:x 4=.pointer (some ⟨gp,op+t,none⟩):=hp.post 4 (hd 4 mz0);have bq:=HWR.out W (zaa hp.bel);have q9:=bq.1;clear bq;simp only [e4] at HK ⊢;go_simp;exact HK.out _ _ bR rfl
      ·have e0:x 0=.agg #[.slice a1 xs.length c1,.slice a2 ys.length c2,.slice (some ⟨g2,o2,none⟩) is.length c3,.slice a4 bs.length c4]:=hp.post 0 (hd 0 mz0);have e5:x 5=.int .i64 Pn:=hp.post 5 (hd 5 mz1);have dr:=(HWR.out W (zaa hp.bel)).2.2.2;simp only [e0,e5] at HK ⊢;clear e0 e5;go_simp;refine (CB.out W dr).mono ?_;rintro e w6 ⟨sv,rfl,R6,B6⟩;obtain ⟨ba,bc,rfl,hR6⟩:=R6;go_simp;exact HK.out _ _ B6 ⟨_,_,rfl,ba,bc,rfl,rfl,ba,bc,rfl,hR6⟩
      ·have e6:∃ a r,x 6=.tuple #[a,r]/\BlkR w bd btx bss F (iw 6).1 (iw 6).2 W a r:=hp.post 6 (hd 6 mz0);obtain ⟨a,r,e6,-⟩:=e6;have ea:=hide e6;simp only [e6] at HK ⊢;clear e6;go_simp;exact HK.out _ _ bR ⟨ea.out,a,r,rfl⟩
      ·have e7:x 6=x 7/\∃ a r,x 7=.tuple #[a,r]:=hp.post 7 (hd 7 mz0);obtain ⟨-,a,r,e7⟩:=e7;have ea:Hid (a=fstOf (x 7)):=by rw [e7];rfl
       simp only [e7] at HK ⊢;clear e7;go_simp;exact HK.out _ _ bR ea.out
      ·have e7:x 6=x 7/\∃ a r,x 7=.tuple #[a,r]:=hp.post 7 (hd 7 mz0);obtain ⟨-,a,r,e7⟩:=e7;have ea:Hid (r=sndOf (x 7)):=by rw [e7];rfl
       simp only [e7] at HK ⊢;clear e7;go_simp;exact HK.out _ _ bR ea.out
      ·clear hK hK' hp hd;go_simp;exact HK.out _ _ ((Below.refl _ W).alloc nR _) ⟨rfl,by simp,AtC.new W 74 _⟩
     ·intro x iw W hp;obtain ⟨a,r,e6,R6⟩:=hp.post 6 (by decide);obtain ⟨e7,-⟩:=hp.post 7 (by decide);have e8:x 8=fstOf (x 7):=hp.post 8 (by decide);have e9:x 9=sndOf (x 7):=hp.post 9 (by decide);obtain ⟨e10,z10,A10⟩:=hp.post 10 (by decide);have l10:=hp.lo 10 (by decide);have lc:=hp.lo 6 (by decide);have bel:=zaa hp.bel;have ap:=hp.apart 6 (by decide) 10 (by decide) (by decide);rw [← e7,e6] at e8;rw [← e7,e6] at e9
      replace e9:x 9=r:=e9
      rw [e6] at e7
      replace e7:=e7.symm
      replace e8:x 8=a:=e8
      have y0:W.cell? ⟨(iw 10).1,0,none⟩=some (.bool false):=A10.cell 0;have f0:=A10.frozen 0;have y1:W.cell? ⟨(iw 10).1,1,none⟩=some (.slice none 0 0):=A10.cell 1;have f1:=A10.frozen 1;have y2:W.cell? ⟨(iw 10).1,2,none⟩=some (.string ⟨#[]⟩):=A10.cell 2;have f2:=A10.frozen 2;obtain ⟨ba,bc,rfl,rfl,hR⟩:=R6;have hb10:wt.heap.size<=(iw 10).1:=l10.1;have HFI:Hid (AtC W (iw 10).1 74 #[.bool false,.slice none 0 0,.string ⟨#[]⟩]/\RSl w (.slice ba bss.length bc) bss/\Below wt.heap.size wt W/\wt.heap.size<=(iw 10).1):=⟨A10,hR,bel,hb10⟩
      clear hp A10 hR bel ap lc l10 z10 hb10;simp only [e7,e8,e10,e9] at *;generalize (iw 10).1=bw at *;go_wp2_with fail
      try rw [List.filterMap_nil]
      try go_wp2_with fail
      go_meet
      exact ⟨bw,ba,bc,rfl,rfl,((HFI.out.1.set 0 _).set 1 _).set 2 _,HFI.out.2.1,((HFI.out.2.2.1.setCell (p:=⟨bw,0,none⟩) HFI.out.2.2.2 _).setCell (p:=⟨bw,1,none⟩) HFI.out.2.2.2 _).setCell (p:=⟨bw,2,none⟩) HFI.out.2.2.2 _,HFI.out.2.2.2⟩
     ·intro qa hqa l hl x iw W hp;simp only [List.mem_cons,List.not_mem_nil,or_false] at hqa;subst hqa;simp only [List.mem_cons,List.not_mem_nil,or_false] at hl;obtain ⟨a,r,e6,R6⟩:=hp.post 6 (by decide);obtain ⟨e7,-⟩:=hp.post 7 (by decide);have e8:x 8=fstOf (x 7):=hp.post 8 (by decide);obtain ⟨e10,z10,A10⟩:=hp.post 10 (by decide);have l10:=hp.lo 10 (by decide);have lc:=hp.lo 6 (by decide);have bel:=zaa hp.bel;have ap:=hp.apart 6 (by decide) 10 (by decide) (by decide);rw [← e7,e6] at e8;rw [e6] at e7
      replace e7:=e7.symm
      replace e8:x 8=a:=e8
      have y0:W.cell? ⟨(iw 10).1,0,none⟩=some (.bool false):=A10.cell 0;have f0:=A10.frozen 0;have y1:W.cell? ⟨(iw 10).1,1,none⟩=some (.slice none 0 0):=A10.cell 1;have f1:=A10.frozen 1;have y2:W.cell? ⟨(iw 10).1,2,none⟩=some (.string ⟨#[]⟩):=A10.cell 2;have f2:=A10.frozen 2;obtain ⟨ba,bc,rfl,rfl,hR⟩:=R6;have hb10:wt.heap.size<=(iw 10).1:=l10.1;have HFI:Hid (AtC W (iw 10).1 74 #[.bool false,.slice none 0 0,.string ⟨#[]⟩]/\RSl w (.slice ba bss.length bc) bss/\Below wt.heap.size wt W/\wt.heap.size<=(iw 10).1):=⟨A10,hR,bel,hb10⟩
      clear hp A10 hR bel ap lc l10 z10 hb10;simp only [e7,e8,e10] at *;generalize (iw 10).1=bw at *;rcases hl with rfl | rfl
      ·go_wp2_with fail
       try rw [List.filterMap_nil]
       try go_wp2_with fail
       go_meet
       exact ⟨bw,ba,bc,rfl,rfl,((HFI.out.1.set 0 _).set 1 _).set 2 _,HFI.out.2.1,((HFI.out.2.2.1.setCell (p:=⟨bw,0,none⟩) HFI.out.2.2.2 _).setCell (p:=⟨bw,1,none⟩) HFI.out.2.2.2 _).setCell (p:=⟨bw,2,none⟩) HFI.out.2.2.2 _,HFI.out.2.2.2⟩
      ·go_wp2_with fail
       try rw [List.filterMap_nil]
       try go_wp2_with fail
       go_meet
       exact ⟨bw,ba,bc,rfl,rfl,((HFI.out.1.set 0 _).set 1 _).set 2 _,HFI.out.2.1,((HFI.out.2.2.1.setCell (p:=⟨bw,0,none⟩) HFI.out.2.2.2 _).setCell (p:=⟨bw,1,none⟩) HFI.out.2.2.2 _).setCell (p:=⟨bw,2,none⟩) HFI.out.2.2.2 _,HFI.out.2.2.2⟩
    case rest =>
     obtain ⟨bw,ba,bc,rfl,rfl,Aw,-,Bw,-⟩:=hcut;have b0:wc.cell? ⟨bw,0,none⟩=some (.bool bd):=Aw.cell 0;have x0:wc.cell? ⟨xb,0,none⟩=some (.int .i64 kd):=(HV.out _ Bw).2.1.cell 0;have HBZ:=hide (HV.out _ Bw).2.2.2.2;clear Aw Bw CB HWR HV
     cases F with
     | false =>
      have HE:Hid ((ptrT ((j:Int)+1) (ps.take (t+1))).countP (fun s:Pr=>(blkAt bs s.2).1 != (zab is s.1 == 2))=v0):=hide (by have:=HTT2.out;simpa using this);go_wp2;go_roundw
      case rel=>exact ⟨t+1,by omega,by rw [HE.out],by go_num,HBZ.out⟩
      case measure=>simp [intOf];omega
     | true =>
      by_cases hk2:kd=2
      ·have hkb:(kd == 2)=true:=by simp [hk2]
       clear hk2
       cases bd with
       | true =>
        have HE:Hid ((ptrT ((j:Int)+1) (ps.take (t+1))).countP (fun s:Pr=>(blkAt bs s.2).1 != (zab is s.1 == 2))=v0):=hide (by have:=HTT2.out;simpa [hkb] using this);go_wp2;go_roundw
        case rel=>exact ⟨t+1,by omega,by rw [HE.out],by go_num,HBZ.out⟩
        case measure=>simp [intOf];omega
       | false =>
        have HE:Hid ((ptrT ((j:Int)+1) (ps.take (t+1))).countP (fun s:Pr=>(blkAt bs s.2).1 != (zab is s.1 == 2))=v0+1):=hide (by have:=HTT2.out;simpa [hkb] using this);go_wp2;go_roundw
        case rel=>exact ⟨t+1,by omega,by rw [HE.out];go_num,by go_num,HBZ.out⟩
        case measure=>simp [intOf];omega
      ·have hkb:(kd == 2)=false:=by simp [hk2]
       clear hk2
       cases bd with
       | true =>
        have HE:Hid ((ptrT ((j:Int)+1) (ps.take (t+1))).countP (fun s:Pr=>(blkAt bs s.2).1 != (zab is s.1 == 2))=v0+1):=hide (by have:=HTT2.out;simpa [hkb] using this);go_wp2;go_roundw
        case rel=>exact ⟨t+1,by omega,by rw [HE.out];go_num,by go_num,HBZ.out⟩
        case measure=>simp [intOf];omega
       | false =>
        have HE:Hid ((ptrT ((j:Int)+1) (ps.take (t+1))).countP (fun s:Pr=>(blkAt bs s.2).1 != (zab is s.1 == 2))=v0):=hide (by have:=HTT2.out;simpa [hkb] using this);go_wp2;go_roundw
        case rel=>exact ⟨t+1,by omega,by rw [HE.out],by go_num,HBZ.out⟩
        case measure=>simp [intOf];omega
theorem zjc (dx dy iv bv:Value)(xs ys:List Bool)(is:List Ino)(bs:List Blk)(w:World)(h:DR w dx dy iv bv xs ys is bs)(hG:Big 1048576 xs ys is bs) :
  Calls Tryz.prog 37 #[.agg #[dx,dy,iv,bv]] w fun e w'=>e=.returned (.bool (safeB xs ys is bs))/\Below w.heap.size w w':=by
 obtain ⟨a1,c1,a2,c2,a3,c3,a4,c4,rfl,rfl,rfl,rfl⟩:=h.form;have HB0:Hid (Below w.heap.size w (w.alloc (.cells #[.slice a1 xs.length c1,.slice a2 ys.length c2,.slice a3 is.length c3,.slice a4 bs.length c4] 35))):=(Below.refl _ w).alloc nR _;have HA0:=hide (AtC.new w 35 #[.slice a1 xs.length c1,.slice a2 ys.length c2,.slice a3 is.length c3,.slice a4 bs.length c4]);have CO:=hide (zb7 (.slice a1 xs.length c1) (.slice a2 ys.length c2) (.slice a3 is.length c3) (.slice a4 bs.length c4) xs ys is bs (w.alloc (.cells #[.slice a1 xs.length c1,.slice a2 ys.length c2,.slice a3 is.length c3,.slice a4 bs.length c4] 35)) (h.alloc _) (fun j hj k hk=>(hG.s j hj).2.1 k hk));have HH:=hide h
 cases hok:zag xs ys is bs with
 | false =>
  rw [hok] at CO;have HS:Hid (safeB xs ys is bs=false):=by show _=_;unfold safeB;rw [hok];rfl
  clear h hG hok;go_enter Tryz.func37,Tryz.ntmps37
  go_wp2_with fail
  refine CO.out.mono ?_;rintro e w1 ⟨rfl,B1⟩;have HB1:=hide (HB0.out.trans (B1.mono HB0.out.size));clear B1;go_wp2;go_ret;exact ⟨by rw [HS.out];rfl,HB1.out⟩
 | true =>
 rw [hok] at CO;have hX:=RX.of_ok hok;have HX:=hide hX;have HS:Hid (safeB xs ys is bs=decide (zab is 1=2/\dangN is bs=0/\zb8 is=0/\unmP xs is bs+unmI ys is bs=0/\zdi is bs=0/\zdj is bs=0)):=by show _=_;unfold safeB;rw [hok];rfl
 have C1:=hide (fun (W:World) (hb:Below w.heap.size w W)=>zi9 (.slice a1 xs.length c1) (.slice a2 ys.length c2) (.slice a3 is.length c3) (.slice a4 bs.length c4) xs ys is bs W (h.below hb nR) hX);have C2:=hide (fun (W:World) (hb:Below w.heap.size w W)=>zke (.slice a1 xs.length c1) (.slice a2 ys.length c2) (.slice a3 is.length c3) (.slice a4 bs.length c4) xs ys is bs W (h.below hb nR) hX);have C3:=hide (fun (W:World) (hb:Below w.heap.size w W)=>zkd (.slice a1 xs.length c1) (.slice a2 ys.length c2) (.slice a3 is.length c3) (.slice a4 bs.length c4) xs ys is bs W (h.below hb nR) hX);have C4:=hide (fun (W:World) (hb:Below w.heap.size w W)=>zhy (.slice a1 xs.length c1) (.slice a2 ys.length c2) (.slice a3 is.length c3) (.slice a4 bs.length c4) xs ys is bs W (h.below hb nR) hX);have C5:=hide (fun (W:World) (hb:Below w.heap.size w W)=>zhz (.slice a1 xs.length c1) (.slice a2 ys.length c2) (.slice a3 is.length c3) (.slice a4 bs.length c4) xs ys is bs W (h.below hb nR) hX);obtain ⟨g2,o2,sa,sc,rfl,hg2,y0,-,-,-⟩:=DR.ino h 0 (by rw [hX.r.hi];decide);have hi8:(0:Int) < (is.length:Int):=by rw [hX.r.hi];decide
 simp only [Nat.zero_mul,Nat.add_zero] at y0;have hk1:zab is (((0:Nat):Int)+1)=zab is 1:=rfl;rw [hk1] at y0;have hun:((unmP xs is bs:Int)+(unmI ys is bs:Int))=((unmP xs is bs+unmI ys is bs:Nat):Int):=by omega
 simp only [hun] at C3;obtain ⟨kd,hkd⟩:∃ n,zab is 1=n:=⟨_,rfl⟩
 obtain ⟨n1,hn1⟩:∃ n,dangN is bs=n:=⟨_,rfl⟩
 obtain ⟨n2,hn2⟩:∃ n,zb8 is=n:=⟨_,rfl⟩
 obtain ⟨n3,hn3⟩:∃ n,unmP xs is bs+unmI ys is bs=n:=⟨_,rfl⟩
 obtain ⟨n4,hn4⟩:∃ n,zdi is bs=n:=⟨_,rfl⟩
 obtain ⟨n5,hn5⟩:∃ n,zdj is bs=n:=⟨_,rfl⟩
 simp only [hkd,hn1,hn2,hn3,hn4,hn5] at HS;simp only [hn1] at C1;simp only [hn2] at C2;simp only [hn3] at C3;simp only [hn4] at C4;simp only [hn5] at C5;rw [hkd] at y0;have HW:Hid (∀ W,Below (w.alloc (.cells #[.slice a1 xs.length c1,.slice a2 ys.length c2,.slice (some ⟨g2,o2,none⟩) is.length c3,.slice a4 bs.length c4] 35)).heap.size (w.alloc (.cells #[.slice a1 xs.length c1,.slice a2 ys.length c2,.slice (some ⟨g2,o2,none⟩) is.length c3,.slice a4 bs.length c4] 35)) W->AtC W w.heap.size 35 #[.slice a1 xs.length c1,.slice a2 ys.length c2,.slice (some ⟨g2,o2,none⟩) is.length c3,.slice a4 bs.length c4]/\W.cell? ⟨g2,o2,none⟩=some (.int .i64 kd)/\Below w.heap.size w W):=fun W b=>by
  have b2:=HB0.out.trans (b.mono HB0.out.size);exact ⟨HA0.out.over b,(b2.cell (p:=⟨g2,o2,none⟩) hg2).trans y0,b2⟩
 clear h hG hok hX hk1 hun hkd hn1 hn2 hn3 hn4 hn5 HA0 y0;go_enter Tryz.func37,Tryz.ntmps37
 go_wp2_with fail
 refine CO.out.mono ?_;rintro e w1 ⟨rfl,B1⟩;have HB1:=hide B1;have k0:=(HW.out w1 B1).2.1;obtain ⟨z0,z1,z2,z3⟩:=AtC.four ((HW.out w1 B1).1);have D1:=hide (C1.out w1 (HW.out w1 B1).2.2);clear B1 CO C1;by_cases hk:kd=2
 rotate_left
 ·have hkb:(kd == 2)=false:=by simp [hk]
  have HF:Hid (safeB xs ys is bs=false):=hide (by rw [HS.out];simp [hk]);clear hk;go_wp2;go_ret;exact ⟨by rw [HF.out];rfl,(HW.out _ HB1.out).2.2⟩
 subst hk;go_wp2_with fail
 refine D1.out.mono ?_;rintro e w2 ⟨rfl,B2⟩;have HB2:Hid (Below (w.alloc (.cells #[.slice a1 xs.length c1,.slice a2 ys.length c2,.slice (some ⟨g2,o2,none⟩) is.length c3,.slice a4 bs.length c4] 35)).heap.size (w.alloc (.cells #[.slice a1 xs.length c1,.slice a2 ys.length c2,.slice (some ⟨g2,o2,none⟩) is.length c3,.slice a4 bs.length c4] 35)) w2):=hide (HB1.out.trans (B2.mono HB1.out.size));clear B2 D1 z0 z1 z2 z3;obtain ⟨z0,z1,z2,z3⟩:=AtC.four ((HW.out w2 HB2.out).1);have D2:=hide (C2.out w2 (HW.out w2 HB2.out).2.2);by_cases hz1:n1=0
 rotate_left
 ·have hzb:((n1:Int) == 0)=false:=by simp;omega
  have HF:Hid (safeB xs ys is bs=false):=hide (by rw [HS.out];simp [hz1]);clear hz1;go_wp2;go_ret;exact ⟨by rw [HF.out];rfl,(HW.out _ HB2.out).2.2⟩
 subst hz1;go_wp2_with fail
 refine D2.out.mono ?_;rintro e w3 ⟨rfl,B3⟩;have HB3:Hid (Below (w.alloc (.cells #[.slice a1 xs.length c1,.slice a2 ys.length c2,.slice (some ⟨g2,o2,none⟩) is.length c3,.slice a4 bs.length c4] 35)).heap.size (w.alloc (.cells #[.slice a1 xs.length c1,.slice a2 ys.length c2,.slice (some ⟨g2,o2,none⟩) is.length c3,.slice a4 bs.length c4] 35)) w3):=hide (HB2.out.trans (B3.mono HB2.out.size));clear B3 D2 z0 z1 z2 z3;obtain ⟨z0,z1,z2,z3⟩:=AtC.four ((HW.out w3 HB3.out).1);have D3:=hide (C3.out w3 (HW.out w3 HB3.out).2.2);by_cases hz2:n2=0
 rotate_left
 ·have hzb:((n2:Int) == 0)=false:=by simp;omega
  have HF:Hid (safeB xs ys is bs=false):=hide (by rw [HS.out];simp [hz2]);clear hz2;go_wp2;go_ret;exact ⟨by rw [HF.out];rfl,(HW.out _ HB3.out).2.2⟩
 subst hz2;go_wp2_with fail
 refine D3.out.mono ?_;rintro e w4 ⟨rfl,B4⟩;have HB4:Hid (Below (w.alloc (.cells #[.slice a1 xs.length c1,.slice a2 ys.length c2,.slice (some ⟨g2,o2,none⟩) is.length c3,.slice a4 bs.length c4] 35)).heap.size (w.alloc (.cells #[.slice a1 xs.length c1,.slice a2 ys.length c2,.slice (some ⟨g2,o2,none⟩) is.length c3,.slice a4 bs.length c4] 35)) w4):=hide (HB3.out.trans (B4.mono HB3.out.size));clear B4 D3 z0 z1 z2 z3;obtain ⟨z0,z1,z2,z3⟩:=AtC.four ((HW.out w4 HB4.out).1);have D4:=hide (C4.out w4 (HW.out w4 HB4.out).2.2);by_cases hz3:n3=0
 rotate_left
 ·have hzb:((n3:Int) == 0)=false:=by simp;omega
  have HF:Hid (safeB xs ys is bs=false):=hide (by rw [HS.out];simp [hz3]);clear hz3;go_wp2;go_ret;exact ⟨by rw [HF.out];rfl,(HW.out _ HB4.out).2.2⟩
 subst hz3;go_wp2_with fail
 refine D4.out.mono ?_;rintro e w5 ⟨rfl,B5⟩;have HB5:Hid (Below (w.alloc (.cells #[.slice a1 xs.length c1,.slice a2 ys.length c2,.slice (some ⟨g2,o2,none⟩) is.length c3,.slice a4 bs.length c4] 35)).heap.size (w.alloc (.cells #[.slice a1 xs.length c1,.slice a2 ys.length c2,.slice (some ⟨g2,o2,none⟩) is.length c3,.slice a4 bs.length c4] 35)) w5):=hide (HB4.out.trans (B5.mono HB4.out.size));clear B5 D4 z0 z1 z2 z3;obtain ⟨z0,z1,z2,z3⟩:=AtC.four ((HW.out w5 HB5.out).1);have D5:=hide (C5.out w5 (HW.out w5 HB5.out).2.2);by_cases hz4:n4=0
 rotate_left
 ·have hzb:((n4:Int) == 0)=false:=by simp;omega
  have HF:Hid (safeB xs ys is bs=false):=hide (by rw [HS.out];simp [hz4]);clear hz4;go_wp2;go_ret;exact ⟨by rw [HF.out];rfl,(HW.out _ HB5.out).2.2⟩
 subst hz4;go_wp2_with fail
 refine D5.out.mono ?_;rintro e w6 ⟨rfl,B6⟩;have HB6:Hid (Below (w.alloc (.cells #[.slice a1 xs.length c1,.slice a2 ys.length c2,.slice (some ⟨g2,o2,none⟩) is.length c3,.slice a4 bs.length c4] 35)).heap.size (w.alloc (.cells #[.slice a1 xs.length c1,.slice a2 ys.length c2,.slice (some ⟨g2,o2,none⟩) is.length c3,.slice a4 bs.length c4] 35)) w6):=hide (HB5.out.trans (B6.mono HB5.out.size));clear B6 D5 z0 z1 z2 z3;by_cases hz5:n5=0
 rotate_left
 ·have hzb:((n5:Int) == 0)=false:=by simp;omega
  have HF:Hid (safeB xs ys is bs=false):=hide (by rw [HS.out];simp [hz5]);clear hz5;go_wp2;go_ret;exact ⟨by rw [HF.out];rfl,(HW.out _ HB6.out).2.2⟩
 subst hz5;have HF:Hid (safeB xs ys is bs=true):=hide (by rw [HS.out];simp);go_wp2;go_ret;exact ⟨by rw [HF.out];rfl,(HW.out _ HB6.out).2.2⟩
theorem zh0 (dx dy iv bv:Value)(xs ys:List Bool)(is:List Ino)(bs:List Blk)(w:World)(h:DR w dx dy iv bv xs ys is bs)(hG:Big 1048576 xs ys is bs) :
  Calls Tryz.prog 15 #[.agg #[dx,dy,iv,bv]] w fun e w'=>e=.returned (.bool (zat xs ys is bs))/\Below w.heap.size w w':=by
 obtain ⟨a1,c1,a2,c2,a3,c3,a4,c4,rfl,rfl,rfl,rfl⟩:=h.form;have HB0:Hid (Below w.heap.size w (w.alloc (.cells #[.slice a1 xs.length c1,.slice a2 ys.length c2,.slice a3 is.length c3,.slice a4 bs.length c4] 35))):=(Below.refl _ w).alloc nR _;have HA0:=hide (AtC.new w 35 #[.slice a1 xs.length c1,.slice a2 ys.length c2,.slice a3 is.length c3,.slice a4 bs.length c4]);have CS:=hide (zjc (.slice a1 xs.length c1) (.slice a2 ys.length c2) (.slice a3 is.length c3) (.slice a4 bs.length c4) xs ys is bs (w.alloc (.cells #[.slice a1 xs.length c1,.slice a2 ys.length c2,.slice a3 is.length c3,.slice a4 bs.length c4] 35)) (h.alloc _) hG)
 cases hsf:safeB xs ys is bs with
 | false =>
  rw [hsf] at CS;have HFX:Hid (zat xs ys is bs=false):=hide (by unfold zat;rw [hsf];rfl);clear h hG hsf;go_enter Tryz.func15,Tryz.ntmps15
  go_wp2_with fail
  refine CS.out.mono ?_;rintro e w1 ⟨rfl,B1⟩;have HB1:=hide (HB0.out.trans (B1.mono HB0.out.size));clear B1;go_wp2;go_ret;exact ⟨by rw [HFX.out];rfl,HB1.out⟩
 | true =>
 rw [hsf] at CS;have hok:zag xs ys is bs=true:=by
  unfold safeB at hsf;rw [Bool.and_eq_true] at hsf;exact hsf.1
 have hX:=RX.of_ok hok;have HEX:Hid (zat xs ys is bs=zbo xs ys is bs):=hide (by unfold zat;rw [hsf,Bool.true_and]);obtain ⟨gx,ox,rfl,hgx,hbx⟩:=zcm h.a (by rw [hX.bx];decide);obtain ⟨gy,oy,rfl,hgy,hby⟩:=zcm h.b (by rw [hX.y8];decide);obtain ⟨g2,o2,-,-,rfl,hg2,-,-,-,-⟩:=DR.ino h 0 (by rw [hX.r.hi];decide);have HBX:Hid (∀ (W:World) (j:Nat),Below w.heap.size w W->j < 16->W.cell? ⟨gx,ox+j,none⟩=some (.bool (xs.getD j false))):=fun W j b hj=>(b.cell (p:=⟨gx,ox+j,none⟩) hgx).trans (hbx j (by rw [hX.bx];exact hj));have HBY:Hid (∀ (W:World) (j:Nat),Below w.heap.size w W->j < 8->W.cell? ⟨gy,oy+j,none⟩=some (.bool (ys.getD j false))):=fun W j b hj=>(b.cell (p:=⟨gy,oy+j,none⟩) hgy).trans (hby j (by rw [hX.y8];exact hj));have HL:Hid (xs.length=16/\ys.length=8/\is.length=8):=⟨hX.bx,hX.y8,hX.r.hi⟩
 have HKD:Hid (∀ i,zab is i=0\/zab is i=1\/zab is i=2):=hX.r.kind;have HII:Hid (∀ (W:World) (j:Nat),Below w.heap.size w W->j < 8->∃ (sa:Option Addr) (n c:Nat),W.cell? ⟨g2,o2+j * 3,none⟩=some (.int .i64 (zab is ((j:Int)+1)))/\W.cell? ⟨g2,o2+j * 3+1,none⟩=some (.int .i64 (lnkAt is j))/\W.cell? ⟨g2,o2+j * 3+2,none⟩=some (.slice sa n c)):=fun W j b hj=>by
  have hj':j < is.length:=by rw [hX.r.hi];exact hj
  obtain ⟨g',o',sa,sc,e,-,y0,y1,y2,-⟩:=DR.ino h j hj';simp only [Option.some.injEq,Addr.mk.injEq,and_true] at e;obtain ⟨rfl,rfl⟩:=e;have el:lnkAt is j=is[j].2.1:=by unfold lnkAt;simp [hj']
  exact ⟨sa,_,sc,(b.cell (p:=⟨g2,o2+j * 3,none⟩) hg2).trans y0,by rw [el];exact (b.cell (p:=⟨g2,o2+j * 3+1,none⟩) hg2).trans y1,(b.cell (p:=⟨g2,o2+j * 3+2,none⟩) hg2).trans y2⟩
 have CR:=hide (fun (W:World) (hb:Below w.heap.size w W)=>zav (.slice (some ⟨gx,ox,none⟩) xs.length c1) (.slice (some ⟨gy,oy,none⟩) ys.length c2) (.slice (some ⟨g2,o2,none⟩) is.length c3) (.slice a4 bs.length c4) xs ys is bs W (h.below hb nR) hX.r);have CL:=hide (fun (x:Int) (W:World) (hb:Below w.heap.size w W)=>zcu x (.slice (some ⟨gx,ox,none⟩) xs.length c1) (.slice (some ⟨gy,oy,none⟩) ys.length c2) (.slice (some ⟨g2,o2,none⟩) is.length c3) (.slice a4 bs.length c4) xs ys is bs W (h.below hb nR) hX);have CH:=hide (fun (W:World) (hb:Below w.heap.size w W)=>zn4 (.slice (some ⟨gx,ox,none⟩) xs.length c1) (.slice (some ⟨gy,oy,none⟩) ys.length c2) (.slice (some ⟨g2,o2,none⟩) is.length c3) (.slice a4 bs.length c4) xs ys is bs W (h.below hb nR) hX);have HLN:Hid (∀ i,zan is bs i<=64):=znr hX.r;have HR8:=hide (zah is bs);have HH16:Hid ((hadL is bs).length<=16):=by show _<=_;unfold hadL;rw [List.length_map];have h1:=zax hX.r (reachL is bs);have h2:=zah is bs;omega
 have HINS:Hid (∀ j:Nat,inoS ys is bs j=decide (((reachL is bs).contains ((j:Int)+1)=true\/zab is ((j:Int)+1)=0)/\ys.getD j false=(reachL is bs).contains ((j:Int)+1)/\(j=0->lnkAt is j=1/\zan is bs ((j:Int)+1)=0)/\(¬ j=0->((reachL is bs).contains ((j:Int)+1)=true->lnkAt is j=(zan is bs ((j:Int)+1):Int))/\(zab is ((j:Int)+1)=2->zan is bs ((j:Int)+1)=1)))):=fun _=>rfl;clear h hG hsf hok hX hbx hby;go_enter Tryz.func15,Tryz.ntmps15
 go_wp2_with fail
 refine CS.out.mono ?_;rintro e w0 ⟨rfl,B0⟩;have HW0:Hid (Below w.heap.size w w0/\AtC w0 w.heap.size 35 #[.slice (some ⟨gx,ox,none⟩) xs.length c1,.slice (some ⟨gy,oy,none⟩) ys.length c2,.slice (some ⟨g2,o2,none⟩) is.length c3,.slice a4 bs.length c4]):=⟨HB0.out.trans (B0.mono HB0.out.size),HA0.out.over B0⟩
 obtain ⟨z0,z1,z2,z3⟩:=AtC.four HW0.out.2;have CR1:=hide (CR.out w0 HW0.out.1);clear B0 CS HB0 HA0;go_wp2_with fail
 refine CR1.out.mono ?_;rintro e w1 ⟨rv,rfl,R1,B1⟩;have HW1:Hid (Below w.heap.size w w1/\AtC w1 w.heap.size 35 #[.slice (some ⟨gx,ox,none⟩) xs.length c1,.slice (some ⟨gy,oy,none⟩) ys.length c2,.slice (some ⟨g2,o2,none⟩) is.length c3,.slice a4 bs.length c4]):=⟨HW0.out.1.trans (B1.mono HW0.out.1.size),HW0.out.2.over B1⟩
 obtain ⟨ra,rc,rfl,-⟩:=R1.form;rw [zaf] at R1 ⊢;have HRI:=hide R1.rints;clear R1 B1 CR CR1 z0 z1 z2 z3 HW0;obtain ⟨RN,hRN⟩:∃ n,(reachL is bs).length=n:=⟨_,rfl⟩
 rw [hRN] at HRI ⊢;go_wp2_with fail
 go_loopw [4] (fun kv wr=>∃ (j:Nat),j<=8/\kv=.int .i64 ((j:Int)+1)/\Hid ((∀ k,k < j->inoS ys is bs k=true)/\Below w1.heap.size w1 wr)) (fun kv _=>9 - (intOf kv).toNat)
 case atStart=>exact ⟨0,Nat.zero_le _,rfl,(fun k hk=>by omega),Below.refl _ _⟩
 case round =>
  obtain ⟨j,hj,rfl,HJ⟩:=hrel;have HBW0:Hid (Below w.heap.size w wr/\AtC wr w.heap.size 35 #[.slice (some ⟨gx,ox,none⟩) xs.length c1,.slice (some ⟨gy,oy,none⟩) ys.length c2,.slice (some ⟨g2,o2,none⟩) is.length c3,.slice a4 bs.length c4]):=⟨HW1.out.1.trans (HJ.out.2.mono HW1.out.1.size),HW1.out.2.over HJ.out.2⟩
  obtain ⟨z0,z1,z2,z3⟩:=AtC.four HBW0.out.2;by_cases hj8:j < 8
  rotate_left
  ·obtain rfl:j=8:=by omega
   have j1:¬ (((8:Nat):Int)+1<=(is.length:Int)):=by have:=HL.out;omega
   have CH1:=hide (CH.out wr HBW0.out.1);go_wp2_with fail
   refine CH1.out.mono ?_;rintro e w2 ⟨hv,rfl,R2,B2⟩;have HW2:Hid (Below w.heap.size w w2/\AtC w2 w.heap.size 35 #[.slice (some ⟨gx,ox,none⟩) xs.length c1,.slice (some ⟨gy,oy,none⟩) ys.length c2,.slice (some ⟨g2,o2,none⟩) is.length c3,.slice a4 bs.length c4]):=⟨HBW0.out.1.trans (B2.mono HBW0.out.1.size),HBW0.out.2.over B2⟩
   obtain ⟨ha,hc,rfl,-⟩:=R2.form;rw [zaf] at R2 ⊢;have HHI:=hide R2.rints;clear R2 B2 CH CH1 z0 z1 z2 z3;go_wp2_with fail
   go_loopw [9] (fun kv wr=>∃ (p:Nat),p<=16/\kv=.int .i64 ((p:Int)+1)/\Hid ((∀ k,k < p->bitS xs is bs k=true)/\Below w2.heap.size w2 wr)) (fun kv _=>17 - (intOf kv).toNat)
   case atStart=>exact ⟨0,Nat.zero_le _,rfl,(fun k hk=>by omega),Below.refl _ _⟩
   case round =>
    obtain ⟨p,hp,rfl,HP⟩:=hrel;have HBP:Hid (Below w.heap.size w wr/\AtC wr w.heap.size 35 #[.slice (some ⟨gx,ox,none⟩) xs.length c1,.slice (some ⟨gy,oy,none⟩) ys.length c2,.slice (some ⟨g2,o2,none⟩) is.length c3,.slice a4 bs.length c4]):=⟨HW2.out.1.trans (HP.out.2.mono HW2.out.1.size),HW2.out.2.over HP.out.2⟩
    have x0:wr.cell? ⟨w.heap.size,0,none⟩=some (.slice (some ⟨gx,ox,none⟩) xs.length c1):=HBP.out.2.cell 0;by_cases hp16:p < 16
    rotate_left
    ·obtain rfl:p=16:=by omega
     have p1:¬ (((16:Nat):Int)+1<=(xs.length:Int)):=by have:=HL.out;omega
     have HFX:Hid (zat xs ys is bs=true):=hide (by rw [HEX.out];exact zmb HJ.out.1 HP.out.1);go_wp2;go_ret;exact ⟨by rw [HFX.out];rfl,HBP.out.1⟩
    have p0:(0:Int)<=(p:Int):=by omega
    have p1:(p:Int)+1<=(xs.length:Int):=by have:=HL.out;omega
    have p2:(p:Int) < (xs.length:Int):=by have:=HL.out;omega
    have hwp:IntKind.i64.wrap (p:Int)=(p:Int):=wrap_small _ (by omega) (by omega);have kx:=HBX.out wr p HBP.out.1 hp16;have CC:=hide (fun (n:Nat)=>zbn (.slice ha (hadL is bs).length hc) (hadL is bs) ((p:Int)+1) (wr.drewN n) ((HHI.out.below HP.out.2 nR).below (below_drewN bR n) nR) (by have:=HH16.out;omega));have HBS:Hid (bitS xs is bs p=decide (xs.getD p false=(hadL is bs).contains ((p:Int)+1))):=rfl;obtain ⟨bx,hbx⟩:∃ b,xs.getD p false=b:=⟨_,rfl⟩
    obtain ⟨hb,hhb⟩:∃ b,(hadL is bs).contains ((p:Int)+1)=b:=⟨_,rfl⟩
    rw [hbx] at kx HBS;rw [hhb] at HBS;simp only [hhb] at CC;clear hbx hhb;go_upto_region 18 with fail
    go_quiet ((go_at_call 39;exact Calls.quiet_of_same (CC.out _)))
    by_cases hbb:bx=hb
    ·subst hbb;have HNX:Hid (bitS xs is bs p=true):=hide (by rw [HBS.out];simp)
     cases bx
     all_goals
      go_wp2;go_roundw
      case rel=>exact ⟨p+1,by omega,by go_num,(fun k hk=>by by_cases e:k=p;rw [e];exact HNX.out;exact HP.out.1 k (by omega)),below_drewN HP.out.2 _⟩
      case measure=>simp [intOf];omega
    ·have HNX:Hid (bitS xs is bs p=false):=hide (by rw [HBS.out];simp [hbb]);have HFX:Hid (zat xs ys is bs=false):=hide (by rw [HEX.out];exact zma hp16 HNX.out)
     cases bx<;>cases hb
     case false.false=>exact absurd rfl hbb
     case true.true=>exact absurd rfl hbb
     all_goals
      clear hbb;go_wp2;go_ret;exact ⟨by rw [HFX.out];rfl,below_drewN HBP.out.1 _⟩
  have j0:(0:Int)<=(j:Int):=by omega
  have j1:(j:Int)+1<=(is.length:Int):=by have:=HL.out;omega
  have j2:(j:Int) < (is.length:Int):=by have:=HL.out;omega
  have j3:(j:Int) < (ys.length:Int):=by have:=HL.out;omega
  have hwj:IntKind.i64.wrap (j:Int)=(j:Int):=wrap_small _ (by omega) (by omega);obtain ⟨sa,sn,sc,y0,y1,y2⟩:=HII.out wr j HBW0.out.1 hj8;have HIN:=hide (HINS.out j);have hkd3:=HKD.out ((j:Int)+1);have hln:=HLN.out ((j:Int)+1);have CC:Hid (∀ (W:World),Below w1.heap.size w1 W->Calls Tryz.prog 39 #[.slice ra RN rc,.int .i64 ((j:Int)+1)] W fun e w'=>e=.returned (.bool ((reachL is bs).contains ((j:Int)+1)))/\w'=W):=fun W b=>zbn (.slice ra RN rc) (reachL is bs) ((j:Int)+1) W (HRI.out.below b nR) (by have:=HR8.out;omega);have CL1:=hide (CL.out ((j:Int)+1));obtain ⟨kd,hkd⟩:∃ n,zab is ((j:Int)+1)=n:=⟨_,rfl⟩
  obtain ⟨lk,hlk⟩:∃ n,lnkAt is j=n:=⟨_,rfl⟩
  obtain ⟨ln,hln'⟩:∃ n,zan is bs ((j:Int)+1)=n:=⟨_,rfl⟩
  obtain ⟨r,hr⟩:∃ b,(reachL is bs).contains ((j:Int)+1)=b:=⟨_,rfl⟩
  obtain ⟨yb,hyb⟩:∃ b,ys.getD j false=b:=⟨_,rfl⟩
  simp only [hkd,hlk,hln',hr,hyb] at HIN;rw [hkd] at y0 hkd3;rw [hlk] at y1;rw [hln'] at hln;simp only [hr] at CC;simp only [hln'] at CL1;have ky:=HBY.out;have HKY:Hid (∀ (W:World),Below w.heap.size w W->W.cell? ⟨gy,oy+j,none⟩=some (.bool yb)):=fun W b=>(HBY.out W j b hj8).trans (by rw [hyb]);clear ky hkd hlk hln' hr hyb;obtain ⟨W1,hW1⟩:∃ W,wr.alloc (.cells #[.int .i64 kd,.int .i64 lk,.slice sa sn sc] 63)=W:=⟨_,rfl⟩
  have HX1:Hid (Below w1.heap.size w1 W1/\AtC W1 wr.heap.size 63 #[.int .i64 kd,.int .i64 lk,.slice sa sn sc]/\Below w.heap.size w W1/\AtC W1 w.heap.size 35 #[.slice (some ⟨gx,ox,none⟩) xs.length c1,.slice (some ⟨gy,oy,none⟩) ys.length c2,.slice (some ⟨g2,o2,none⟩) is.length c3,.slice a4 bs.length c4]):=by
   rw [← hW1];exact ⟨HJ.out.2.alloc HJ.out.2.size _,AtC.new _ _ _,HBW0.out.1.alloc HBW0.out.1.size _,HBW0.out.2.alloc _⟩
  have CC1:=hide (CC.out W1 HX1.out.1);have CL2:=hide (CL1.out W1 HX1.out.2.2.1);go_upto_region 8 with fail
  clear hW1 y0 y1 y2 z0 z1 z2 z3;obtain ⟨z0,z1,z2,z3⟩:=AtC.four HX1.out.2.2.2;go_wp2_with fail
  refine CC1.out.mono ?_;rintro e w3 ⟨rfl,rfl⟩;go_wp2_with fail
  refine CL2.out.mono ?_;rintro e w4 ⟨rfl,B4⟩;have HB3:=hide (HX1.out.1.trans (B4.mono HX1.out.1.size));have HBW:=hide (HX1.out.2.2.1.trans (B4.mono HX1.out.2.2.1.size));have x1:w4.cell? ⟨w.heap.size,1,none⟩=some (.slice (some ⟨gy,oy,none⟩) ys.length c2):=(HX1.out.2.2.2.over B4).cell 1;have k0:w4.cell? ⟨wr.heap.size,0,none⟩=some (.int .i64 kd):=(HX1.out.2.1.over B4).cell 0;have k1:w4.cell? ⟨wr.heap.size,1,none⟩=some (.int .i64 lk):=(HX1.out.2.1.over B4).cell 1;have ky:=HKY.out w4 HBW.out;clear B4 CC CC1 CL CL1 CL2 z0 z1 z2 z3 HX1 HBW0
  cases r with
  | false =>
   by_cases hk0:kd=0
   rotate_left
   ·have hkb:(kd != 0)=true:=by simp [hk0]
    have HF:Hid (zbo xs ys is bs=false):=hide (zbd hj8 (by rw [HIN.out];simp [hk0]));have HFX:Hid (zat xs ys is bs=false):=hide (by unfold zat;rw [HF.out,Bool.and_false]);go_wp2;go_ret;exact ⟨by rw [HFX.out];rfl,HBW.out⟩
   subst hk0
   cases yb with
   | true =>
    have HF:Hid (zbo xs ys is bs=false):=hide (zbd hj8 (by rw [HIN.out];simp));have HFX:Hid (zat xs ys is bs=false):=hide (by unfold zat;rw [HF.out,Bool.and_false]);go_wp2;go_ret;exact ⟨by rw [HFX.out];rfl,HBW.out⟩
   | false =>
   by_cases hj0:j=0
   ·have jb:((j:Int)+1 == 1)=true:=by simp [hj0]
    have jg2:¬ ((1:Int) < (j:Int)+1):=by omega
    have HJ0:=hide hj0;clear hj0;by_cases hl1:lk=1
    rotate_left
    ·have hlb:(lk != 1)=true:=by simp [hl1]
     have HF:Hid (zbo xs ys is bs=false):=hide (zbd hj8 (by rw [HIN.out];simp [HJ0.out,hl1]));have HFX:Hid (zat xs ys is bs=false):=hide (by unfold zat;rw [HF.out,Bool.and_false]);go_wp2;go_ret;exact ⟨by rw [HFX.out];rfl,HBW.out⟩
    subst hl1;by_cases hn0:ln=0
    rotate_left
    ·have hnb:((ln:Int) != 0)=true:=by simp;omega
     have HF:Hid (zbo xs ys is bs=false):=hide (zbd hj8 (by rw [HIN.out];simp [HJ0.out,hn0]));have HFX:Hid (zat xs ys is bs=false):=hide (by unfold zat;rw [HF.out,Bool.and_false]);go_wp2;go_ret;exact ⟨by rw [HFX.out];rfl,HBW.out⟩
    subst hn0;have HNX:Hid (inoS ys is bs j=true):=hide (by rw [HIN.out];simp [HJ0.out]);go_wp2;go_roundw
    case rel=>exact ⟨j+1,by omega,by go_num,(fun k hk=>by by_cases e:k=j;rw [e];exact HNX.out;exact HJ.out.1 k (by omega)),HB3.out⟩
    case measure=>simp [intOf];omega
   ·have ji:¬ ((j:Int)+1=1):=by omega
    have jb:((j:Int)+1 == 1)=false:=by simp;omega
    have jg:decide ((j:Int)+1 > 1)=true:=by simp;omega
    have jg2:(1:Int) < (j:Int)+1:=by omega
    have HNX:Hid (inoS ys is bs j=true):=hide (by rw [HIN.out];simp [hj0]);go_wp2;go_roundw
    case rel=>exact ⟨j+1,by omega,by go_num,(fun k hk=>by by_cases e:k=j;rw [e];exact HNX.out;exact HJ.out.1 k (by omega)),HB3.out⟩
    case measure=>simp [intOf];omega
  | true =>
   cases yb with
   | false =>
    have HF:Hid (zbo xs ys is bs=false):=hide (zbd hj8 (by rw [HIN.out];simp));have HFX:Hid (zat xs ys is bs=false):=hide (by unfold zat;rw [HF.out,Bool.and_false]);go_wp2;go_ret;exact ⟨by rw [HFX.out];rfl,HBW.out⟩
   | true =>
   by_cases hj0:j=0
   ·have jb:((j:Int)+1 == 1)=true:=by simp [hj0]
    have jg2:¬ ((1:Int) < (j:Int)+1):=by omega
    have HJ0:=hide hj0;clear hj0;by_cases hl1:lk=1
    rotate_left
    ·have hlb:(lk != 1)=true:=by simp [hl1]
     have HF:Hid (zbo xs ys is bs=false):=hide (zbd hj8 (by rw [HIN.out];simp [HJ0.out,hl1]));have HFX:Hid (zat xs ys is bs=false):=hide (by unfold zat;rw [HF.out,Bool.and_false]);go_wp2;go_ret;exact ⟨by rw [HFX.out];rfl,HBW.out⟩
    subst hl1;by_cases hn0:ln=0
    rotate_left
    ·have hnb:((ln:Int) != 0)=true:=by simp;omega
     have HF:Hid (zbo xs ys is bs=false):=hide (zbd hj8 (by rw [HIN.out];simp [HJ0.out,hn0]));have HFX:Hid (zat xs ys is bs=false):=hide (by unfold zat;rw [HF.out,Bool.and_false]);go_wp2;go_ret;exact ⟨by rw [HFX.out];rfl,HBW.out⟩
    subst hn0;have HNX:Hid (inoS ys is bs j=true):=hide (by rw [HIN.out];simp [HJ0.out]);go_wp2;go_roundw
    case rel=>exact ⟨j+1,by omega,by go_num,(fun k hk=>by by_cases e:k=j;rw [e];exact HNX.out;exact HJ.out.1 k (by omega)),HB3.out⟩
    case measure=>simp [intOf];omega
   ·have ji:¬ ((j:Int)+1=1):=by omega
    have jb:((j:Int)+1 == 1)=false:=by simp;omega
    have jg2:(1:Int) < (j:Int)+1:=by omega
    by_cases hll:lk=(ln:Int)
    rotate_left
    ·have hlb:(lk != (ln:Int))=true:=by simp [hll]
     have HF:Hid (zbo xs ys is bs=false):=hide (zbd hj8 (by rw [HIN.out];simp [hj0,hll]));have HFX:Hid (zat xs ys is bs=false):=hide (by unfold zat;rw [HF.out,Bool.and_false]);go_wp2;go_ret;exact ⟨by rw [HFX.out];rfl,HBW.out⟩
    subst hll;by_cases hk2:kd=2
    ·subst hk2;by_cases hn1:ln=1
     ·subst hn1;have HNX:Hid (inoS ys is bs j=true):=hide (by rw [HIN.out];simp [hj0]);go_wp2;go_roundw
      case rel=>exact ⟨j+1,by omega,by go_num,(fun k hk=>by by_cases e:k=j;rw [e];exact HNX.out;exact HJ.out.1 k (by omega)),HB3.out⟩
      case measure=>simp [intOf];omega
     ·have hnb:((ln:Int) != 1)=true:=by simp;omega
      have HF:Hid (zbo xs ys is bs=false):=hide (zbd hj8 (by rw [HIN.out];simp [hj0,hn1]));have HFX:Hid (zat xs ys is bs=false):=hide (by unfold zat;rw [HF.out,Bool.and_false]);go_wp2;go_ret;exact ⟨by rw [HFX.out];rfl,HBW.out⟩
    ·have hkb:(kd == 2)=false:=by simp [hk2]
     have HNX:Hid (inoS ys is bs j=true):=hide (by rw [HIN.out];simp [hj0,hk2]);go_wp2;go_roundw
     case rel=>exact ⟨j+1,by omega,by go_num,(fun k hk=>by by_cases e:k=j;rw [e];exact HNX.out;exact HJ.out.1 k (by omega)),HB3.out⟩
     case measure=>simp [intOf];omega
namespace Kit
theorem zbu {α:Type}[DecidableEq α]{a b:List α}(h:a.length≠b.length):false=decide (a=b):=(decide_eq_false fun e=>h (by rw [e])).symm
theorem zcg {α:Type}[DecidableEq α]{a b:List α}{j:Nat}{h1:j < a.length}{h2:j < b.length}(h:¬ a[j]=b[j]):false=decide (a=b):=(decide_eq_false fun e=>h (by subst e;rfl)).symm
theorem zbv {α:Type}[DecidableEq α]{a b:List α}(hl:a.length=b.length)(h:∀ (k:Nat) (h1:k < a.length) (h2:k < b.length),a[k]=b[k]):true=decide (a=b):=(decide_eq_true (List.ext_getElem hl h)).symm
end Kit
theorem zd5 (va vb:Value)(a b:List Bool)(w:World)(ha:RFl w va a)(hb:RFl w vb b)(hl:a.length<=1048576) :
  Calls Tryz.prog 42 #[va,vb] w fun e w'=>e=.returned (.bool (decide (a=b)))/\Below w.heap.size w w':=by
 obtain ⟨a1,c1,rfl,ha⟩:=ha;obtain ⟨a2,c2,rfl,hb⟩:=hb;have HA:=hide ha;have HB:=hide hb;clear ha hb;by_cases hn:a.length=b.length
 ·have hn2:(((a.length:Nat):Int) != ((b.length:Nat):Int))=false:=by simp;omega
  go_enter Tryz.func42,Tryz.ntmps42
  go_wp2;go_loopw [5] (fun i wr=>∃ j:Nat,j<=a.length/\i=.int .i64 j/\Hid (∀ (k:Nat) (h1:k < a.length) (h2:k < b.length),k < j->a[k]=b[k])/\∃ q,wr=w.drewN q) (fun i _=>a.length - (intOf i).toNat)
  case atStart=>exact ⟨0,Nat.zero_le _,rfl,fun _ _ _ h=>absurd h (Nat.not_lt_zero _),0,rfl⟩
  case round =>
   obtain ⟨j,hj,rfl,HS,q,rfl⟩:=hrel;by_cases hlt:j < a.length
   ·obtain ⟨g1,o1,rfl,hg1,m1⟩:=HA.out j hlt;obtain ⟨g2,o2,rfl,hg2,n1⟩:=HB.out j (by omega);have j0:(0:Int)<=(j:Int):=by omega
    have j1:(j:Int) < (a.length:Int):=by omega
    have j2:(j:Int) < (b.length:Int):=by omega
    obtain ⟨x,hx⟩:∃ x,a[j]=x:=⟨_,rfl⟩
    obtain ⟨y,hy⟩:∃ y,b[j]'(by omega)=y:=⟨_,rfl⟩
    rw [hx] at m1;rw [hy] at n1;have HX:=hide hx;have HY:=hide hy;clear hx hy;by_cases hq:x=y
    ·subst hq
     skip
     go_wp2_with fail
     go_quiet (fail)
     go_wp2;go_roundw
     case rel =>
      refine ⟨j+1,by omega,by go_num,fun k h1 h2 hkj=>?_,_,rfl⟩;by_cases hkk:k=j
      ·subst hkk;rw [HX.out,HY.out]
      ·exact HS.out k h1 h2 (by omega)
     case measure=>simp [intOf];omega
    ·have hno:false=decide (a=b):=zcg (h1:=hlt) (h2:=by omega) (by rw [HX.out,HY.out];exact hq);have HNO:=hide hno;clear hno;have b1:(x == y)=false:=by simp [hq]
     go_wp2_with fail
     go_quiet (fail)
     go_wp2;go_ret;exact ⟨zac HNO.out,below_drewN (below_drewN bR _) _⟩
   ·have hyes:true=decide (a=b):=zbv hn fun k h1 h2=>HS.out k h1 h2 (by omega);have HY:=hide hyes;clear hyes;go_wp2;go_ret;exact ⟨zac HY.out,below_drewN bR _⟩
 ·have HN:=hide (zbu hn);have hn2:(((a.length:Nat):Int) != ((b.length:Nat):Int))=true:=by simp;omega
  go_enter Tryz.func42,Tryz.ntmps42
  go_wp2;go_ret;exact ⟨zac HN.out,Below.refl _ _⟩
theorem zfu (va vb:Value)(a b:List Bool)(w:World)(ha:RFl w va a)(hb:RFl w vb b)(hl:a.length<=1048576) :
  Calls Tryz.prog 107 #[va,vb] w fun e w'=>e=.returned (.bool (decide (a=b)))/\Below w.heap.size w w':=by
 obtain ⟨a1,c1,rfl,ha⟩:=ha;obtain ⟨a2,c2,rfl,hb⟩:=hb;have HA:=hide ha;have HB:=hide hb;clear ha hb;by_cases hn:a.length=b.length
 ·have hn2:(((a.length:Nat):Int) != ((b.length:Nat):Int))=false:=by simp;omega
  go_enter Tryz.func107,Tryz.ntmps107
  go_wp2;go_loopw [13] (fun i wr=>∃ j:Nat,j<=a.length/\i=.int .i64 j/\Hid (∀ (k:Nat) (h1:k < a.length) (h2:k < b.length),k < j->a[k]=b[k])/\∃ q,wr=w.drewN q) (fun i _=>a.length - (intOf i).toNat)
  case atStart=>exact ⟨0,Nat.zero_le _,rfl,fun _ _ _ h=>absurd h (Nat.not_lt_zero _),0,rfl⟩
  case round =>
   obtain ⟨j,hj,rfl,HS,q,rfl⟩:=hrel;by_cases hlt:j < a.length
   ·obtain ⟨g1,o1,rfl,hg1,m1⟩:=HA.out j hlt;obtain ⟨g2,o2,rfl,hg2,n1⟩:=HB.out j (by omega);have j0:(0:Int)<=(j:Int):=by omega
    have j1:(j:Int) < (a.length:Int):=by omega
    have j2:(j:Int) < (b.length:Int):=by omega
    obtain ⟨x,hx⟩:∃ x,a[j]=x:=⟨_,rfl⟩
    obtain ⟨y,hy⟩:∃ y,b[j]'(by omega)=y:=⟨_,rfl⟩
    rw [hx] at m1;rw [hy] at n1;have HX:=hide hx;have HY:=hide hy;clear hx hy;by_cases hq:x=y
    ·subst hq
     skip
     go_wp2_with fail
     go_quiet (fail)
     go_wp2;go_roundw
     case rel =>
      refine ⟨j+1,by omega,by go_num,fun k h1 h2 hkj=>?_,_,rfl⟩;by_cases hkk:k=j
      ·subst hkk;rw [HX.out,HY.out]
      ·exact HS.out k h1 h2 (by omega)
     case measure=>simp [intOf];omega
    ·have hno:false=decide (a=b):=zcg (h1:=hlt) (h2:=by omega) (by rw [HX.out,HY.out];exact hq);have HNO:=hide hno;clear hno;have b1:(x == y)=false:=by simp [hq]
     go_wp2_with fail
     go_quiet (fail)
     go_wp2;go_ret;exact ⟨zac HNO.out,below_drewN (below_drewN bR _) _⟩
   ·have hyes:true=decide (a=b):=zbv hn fun k h1 h2=>HS.out k h1 h2 (by omega);have HY:=hide hyes;clear hyes;go_wp2;go_ret;exact ⟨zac HY.out,below_drewN bR _⟩
 ·have HN:=hide (zbu hn);have hn2:(((a.length:Nat):Int) != ((b.length:Nat):Int))=true:=by simp;omega
  go_enter Tryz.func107,Tryz.ntmps107
  go_wp2;go_ret;exact ⟨zac HN.out,Below.refl _ _⟩
theorem zmf (va vb:Value)(a b:List Int)(w:World)(ha:RInts w va a)(hb:RInts w vb b)(hl:a.length<=1048576) :
  Calls Tryz.prog 112 #[va,vb] w fun e w'=>e=.returned (.bool (decide (a=b)))/\Below w.heap.size w w':=by
 obtain ⟨a1,c1,rfl,ha⟩:=ha;obtain ⟨a2,c2,rfl,hb⟩:=hb;have HA:=hide ha;have HB:=hide hb;clear ha hb;by_cases hn:a.length=b.length
 ·have hn2:(((a.length:Nat):Int) != ((b.length:Nat):Int))=false:=by simp;omega
  go_enter Tryz.func112,Tryz.ntmps112
  go_wp2;go_loopw [13] (fun i wr=>∃ j:Nat,j<=a.length/\i=.int .i64 j/\Hid (∀ (k:Nat) (h1:k < a.length) (h2:k < b.length),k < j->a[k]=b[k])/\∃ q,wr=w.drewN q) (fun i _=>a.length - (intOf i).toNat)
  case atStart=>exact ⟨0,Nat.zero_le _,rfl,fun _ _ _ h=>absurd h (Nat.not_lt_zero _),0,rfl⟩
  case round =>
   obtain ⟨j,hj,rfl,HS,q,rfl⟩:=hrel;by_cases hlt:j < a.length
   ·obtain ⟨g1,o1,rfl,hg1,m1⟩:=HA.out j hlt;obtain ⟨g2,o2,rfl,hg2,n1⟩:=HB.out j (by omega);have j0:(0:Int)<=(j:Int):=by omega
    have j1:(j:Int) < (a.length:Int):=by omega
    have j2:(j:Int) < (b.length:Int):=by omega
    obtain ⟨x,hx⟩:∃ x,a[j]=x:=⟨_,rfl⟩
    obtain ⟨y,hy⟩:∃ y,b[j]'(by omega)=y:=⟨_,rfl⟩
    rw [hx] at m1;rw [hy] at n1;have HX:=hide hx;have HY:=hide hy;clear hx hy;by_cases hq:x=y
    ·subst hq
     skip
     go_wp2_with fail
     go_quiet (fail)
     go_wp2;go_roundw
     case rel =>
      refine ⟨j+1,by omega,by go_num,fun k h1 h2 hkj=>?_,_,rfl⟩;by_cases hkk:k=j
      ·subst hkk;rw [HX.out,HY.out]
      ·exact HS.out k h1 h2 (by omega)
     case measure=>simp [intOf];omega
    ·have hno:false=decide (a=b):=zcg (h1:=hlt) (h2:=by omega) (by rw [HX.out,HY.out];exact hq);have HNO:=hide hno;clear hno;have b1:(x == y)=false:=by simp [hq]
     go_wp2_with fail
     go_quiet (fail)
     go_wp2;go_ret;exact ⟨zac HNO.out,below_drewN (below_drewN bR _) _⟩
   ·have hyes:true=decide (a=b):=zbv hn fun k h1 h2=>HS.out k h1 h2 (by omega);have HY:=hide hyes;clear hyes;go_wp2;go_ret;exact ⟨zac HY.out,below_drewN bR _⟩
 ·have HN:=hide (zbu hn);have hn2:(((a.length:Nat):Int) != ((b.length:Nat):Int))=true:=by simp;omega
  go_enter Tryz.func112,Tryz.ntmps112
  go_wp2;go_ret;exact ⟨zac HN.out,Below.refl _ _⟩
theorem zmg (va vb:Value)(a b:List Sl)(w:World)(ha:RSl w va a)(hb:RSl w vb b)(hl:a.length<=1048576) :
  Calls Tryz.prog 113 #[va,vb] w fun e w'=>e=.returned (.bool (decide (a=b)))/\Below w.heap.size w w':=by
 obtain ⟨a1,c1,rfl,-,ha⟩:=ha;obtain ⟨a2,c2,rfl,-,hb⟩:=hb;have HA:=hide ha;have HB:=hide hb;clear ha hb;by_cases hn:a.length=b.length
 ·have hn2:(((a.length:Nat):Int) != ((b.length:Nat):Int))=false:=by simp;omega
  go_enter Tryz.func113,Tryz.ntmps113
  go_wp2;go_loopw [13] (fun i wr=>∃ j:Nat,j<=a.length/\i=.int .i64 j/\Hid (∀ (k:Nat) (h1:k < a.length) (h2:k < b.length),k < j->a[k]=b[k])/\∃ q,wr=w.drewN q) (fun i _=>a.length - (intOf i).toNat)
  case atStart=>exact ⟨0,Nat.zero_le _,rfl,fun _ _ _ h=>absurd h (Nat.not_lt_zero _),0,rfl⟩
  case round =>
   obtain ⟨j,hj,rfl,HS,q,rfl⟩:=hrel;by_cases hlt:j < a.length
   ·obtain ⟨g1,o1,rfl,hg1,m1,m2⟩:=HA.out j hlt;obtain ⟨g2,o2,rfl,hg2,n1,n2⟩:=HB.out j (by omega);have j0:(0:Int)<=(j:Int):=by omega
    have j1:(j:Int) < (a.length:Int):=by omega
    have j2:(j:Int) < (b.length:Int):=by omega
    obtain ⟨x,hx⟩:∃ x,a[j]=x:=⟨_,rfl⟩
    obtain ⟨y,hy⟩:∃ y,b[j]'(by omega)=y:=⟨_,rfl⟩
    rw [hx] at m1 m2;rw [hy] at n1 n2;have HX:=hide hx;have HY:=hide hy;clear hx hy;by_cases hq:x=y
    ·subst hq;obtain ⟨x1,x2⟩:=x;simp only at m1 m2 n1 n2;have c1:=zca (a:=x1) rfl;go_wp2_with fail
     go_quiet (fail)
     go_wp2;go_roundw
     case rel =>
      refine ⟨j+1,by omega,by go_num,fun k h1 h2 hkj=>?_,_,rfl⟩;by_cases hkk:k=j
      ·subst hkk;rw [HX.out,HY.out]
      ·exact HS.out k h1 h2 (by omega)
     case measure=>simp [intOf];omega
    ·have hno:false=decide (a=b):=zcg (h1:=hlt) (h2:=by omega) (by rw [HX.out,HY.out];exact hq);have HNO:=hide hno;clear hno;obtain ⟨x1,x2⟩:=x;obtain ⟨y1,y2⟩:=y;simp only at m1 m2 n1 n2;by_cases h1:x1=y1
     ·have c1:=zca h1;have c2:(x2 == y2)=false:=by
       simp;exact fun e=>hq (by rw [h1,e])
      go_wp2_with fail
      go_quiet (fail)
      go_wp2;go_ret;exact ⟨zac HNO.out,below_drewN (below_drewN bR _) _⟩
     ·have c1:=zay h1;go_wp2_with fail
      go_quiet (fail)
      go_wp2;go_ret;exact ⟨zac HNO.out,below_drewN (below_drewN bR _) _⟩
   ·have hyes:true=decide (a=b):=zbv hn fun k h1 h2=>HS.out k h1 h2 (by omega);have HY:=hide hyes;clear hyes;go_wp2;go_ret;exact ⟨zac HY.out,below_drewN bR _⟩
 ·have HN:=hide (zbu hn);have hn2:(((a.length:Nat):Int) != ((b.length:Nat):Int))=true:=by simp;omega
  go_enter Tryz.func113,Tryz.ntmps113
  go_wp2;go_ret;exact ⟨zac HN.out,Below.refl _ _⟩
theorem zh1 (x1 x2 y1 y2:Int)(xs ys:List Int)(va vb:Value)(w:World)(ha:RInts w va xs)(hb:RInts w vb ys)(hl:xs.length<=1048576) :
  Calls Tryz.prog 63 #[.agg #[.int .i64 x1,.int .i64 x2,va],.agg #[.int .i64 y1,.int .i64 y2,vb]] w fun e w'=>e=.returned (.bool (decide ((x1,x2,xs)=((y1,y2,ys):Ino))))/\Below w.heap.size w w':=by
 have HA:=hide ha;have HB:=hide hb;obtain ⟨a1,c1,rfl⟩:=ha.form;obtain ⟨a2,c2,rfl⟩:=hb.form;clear ha hb;by_cases h1:x1=y1
 ·by_cases h2:x2=y2
  ·subst h1 h2;have hr:decide ((x1,x2,xs)=((x1,x2,ys):Ino))=decide (xs=ys):=by simp
   rw [hr];have C:=hide (fun W h h'=>zmf (.slice a1 xs.length c1) (.slice a2 ys.length c2) xs ys W h h' hl);generalize decide (xs=ys)=r at *;clear hr hl;go_enter Tryz.func63,Tryz.ntmps63
   go_wp2_with (go_at_call 112;refine (C.out _ ((HA.out.alloc _).alloc _) ((HB.out.alloc _).alloc _)).mono ?_;rintro e w1 ⟨rfl,B1⟩;have HB1:=hide ((((Below.refl _ w).alloc nR _).alloc (by simp) _).trans (B1.mono (by simp;omega)));clear B1)
   go_ret;exact ⟨rfl,HB1.out⟩
  ·have b2:(x2 == y2)=false:=by simp [h2]
   have hr:decide ((x1,x2,xs)=((y1,y2,ys):Ino))=false:=by simp [h2]
   rw [hr];clear hr;subst h1;go_enter Tryz.func63,Tryz.ntmps63
   go_wp2;go_ret;exact ⟨rfl,by go_grown⟩
 ·have b1:(x1 == y1)=false:=by simp [h1]
  have hr:decide ((x1,x2,xs)=((y1,y2,ys):Ino))=false:=by simp [h1]
  rw [hr];clear hr;go_enter Tryz.func63,Tryz.ntmps63
  go_wp2;go_ret;exact ⟨rfl,by go_grown⟩
theorem zh2 (x1 y1:Bool)(xs ys:List Sl)(x2 y2:ByteArray)(va vb:Value)(w:World)(ha:RSl w va xs)(hb:RSl w vb ys)(hl:xs.length<=1048576) :
  Calls Tryz.prog 65 #[.agg #[.bool x1,va,.string x2],.agg #[.bool y1,vb,.string y2]] w fun e w'=>e=.returned (.bool (decide ((x1,xs,x2)=((y1,ys,y2):Blk))))/\Below w.heap.size w w':=by
 have HA:=hide ha;have HB:=hide hb;obtain ⟨a1,c1,rfl⟩:=ha.form;obtain ⟨a2,c2,rfl⟩:=hb.form;clear ha hb;have C:=hide (fun W h h'=>zmg (.slice a1 xs.length c1) (.slice a2 ys.length c2) xs ys W h h' hl);by_cases h1:x1=y1
 ·subst h1;by_cases h2:xs=ys
  ·have hr:decide ((x1,xs,x2)=((x1,ys,y2):Blk))=(x2.toList == y2.toList):=by
    by_cases h3:x2=y2
    ·rw [zca h3];simp [h2,h3]
    ·rw [zay h3];simp [h3]
   rw [hr];have hd:decide (xs=ys)=true:=decide_eq_true h2;rw [hd] at C;clear hr hl hd h2;go_enter Tryz.func65,Tryz.ntmps65
   go_wp2_with (go_at_call 113;refine (C.out _ ((HA.out.alloc _).alloc _) ((HB.out.alloc _).alloc _)).mono ?_;rintro e w1 ⟨rfl,B1⟩;obtain ⟨-,-,r2,-⟩:=(((AtC.new w 74 #[.bool x1,.slice a1 xs.length c1,.string x2]).alloc (.cells #[.bool x1,.slice a2 ys.length c2,.string y2] 74)).over B1).three;obtain ⟨-,-,s2,-⟩:=((AtC.new (w.alloc (.cells #[.bool x1,.slice a1 xs.length c1,.string x2] 74)) 74 #[.bool x1,.slice a2 ys.length c2,.string y2]).over B1).three;simp only [World.size_alloc] at s2;have HB1:=hide ((((Below.refl _ w).alloc nR (.cells #[.bool x1,.slice a1 xs.length c1,.string x2] 74)).alloc (by simp) (.cells #[.bool x1,.slice a2 ys.length c2,.string y2] 74)).trans (B1.mono (by simp;omega)));clear B1)
   go_ret;exact ⟨rfl,HB1.out⟩
  ·have hr:decide ((x1,xs,x2)=((x1,ys,y2):Blk))=false:=by simp [h2]
   rw [hr];have hd:decide (xs=ys)=false:=decide_eq_false h2;rw [hd] at C;clear hr hl hd h2;go_enter Tryz.func65,Tryz.ntmps65
   go_wp2_with (go_at_call 113;refine (C.out _ ((HA.out.alloc _).alloc _) ((HB.out.alloc _).alloc _)).mono ?_;rintro e w1 ⟨rfl,B1⟩;have HB1:=hide ((((Below.refl _ w).alloc nR (.cells #[.bool x1,.slice a1 xs.length c1,.string x2] 74)).alloc (by simp) (.cells #[.bool x1,.slice a2 ys.length c2,.string y2] 74)).trans (B1.mono (by simp;omega)));clear B1)
   go_ret;exact ⟨rfl,HB1.out⟩
 ·have b1:(x1 == y1)=false:=by simp [h1]
  have hr:decide ((x1,xs,x2)=((y1,ys,y2):Blk))=false:=by simp [h1]
  rw [hr];clear hr C;go_enter Tryz.func65,Tryz.ntmps65
  go_wp2;go_ret;exact ⟨rfl,by go_grown⟩
theorem zh3 (u v u' v':Value)(xs ys xs' ys':List Bool)(w:World)(h1:RFl w u xs)(h2:RFl w v ys)(h3:RFl w u' xs')(h4:RFl w v' ys')(hx:xs.length<=1048576)(hy:ys.length<=1048576) :
  Calls Tryz.prog 56 #[.agg #[u,v],.agg #[u',v']] w fun e w'=>e=.returned (.bool (decide (xs=xs') && decide (ys=ys')))/\Below w.heap.size w w':=by
 have H1:=hide h1;have H2:=hide h2;have H3:=hide h3;have H4:=hide h4;obtain ⟨a1,c1,rfl⟩:=h1.form;obtain ⟨a2,c2,rfl⟩:=h2.form;obtain ⟨a3,c3,rfl⟩:=h3.form;obtain ⟨a4,c4,rfl⟩:=h4.form;clear h1 h2 h3 h4;have C1:=hide (fun W h h'=>zfu (.slice a1 xs.length c1) (.slice a3 xs'.length c3) xs xs' W h h' hx);have C2:=hide (fun W h h'=>zfu (.slice a2 ys.length c2) (.slice a4 ys'.length c4) ys ys' W h h' hy);clear hx hy;generalize decide (xs=xs')=r1 at *;generalize decide (ys=ys')=r2 at *;go_enter Tryz.func56,Tryz.ntmps56
 go_wp2_with fail
 refine (C1.out _ ((H1.out.alloc _).alloc _) ((H3.out.alloc _).alloc _)).mono ?_;rintro e w1 ⟨rfl,B1⟩;have BW:Below w.heap.size w w1:=(((Below.refl _ w).alloc nR _).alloc (by simp) _).trans (B1.mono (by simp;omega));have r0:w1.cell? ⟨w.heap.size,1,none⟩=some (.slice a2 ys.length c2):=(((AtC.new w 31 #[.slice a1 xs.length c1,.slice a2 ys.length c2]).alloc (.cells #[.slice a3 xs'.length c3,.slice a4 ys'.length c4] 31)).over B1).cell 1;have s0:=((AtC.new (w.alloc (.cells #[.slice a1 xs.length c1,.slice a2 ys.length c2] 31)) 31 #[.slice a3 xs'.length c3,.slice a4 ys'.length c4]).over B1).cell 1;simp only [World.size_alloc] at s0;have s1:w1.cell? ⟨w.heap.size+1,1,none⟩=some (.slice a4 ys'.length c4):=s0;have HBW:=hide BW;clear B1 BW s0
 cases r1 with
 | false =>
  go_wp2;go_ret;exact ⟨rfl,HBW.out⟩
 | true =>
  go_wp2_with fail
  refine (C2.out _ (H2.out.below HBW.out nR) (H4.out.below HBW.out nR)).mono ?_;rintro e w2 ⟨rfl,B2⟩;have HB2:=hide (HBW.out.trans (B2.mono HBW.out.size));clear B2;go_wp2;go_ret;exact ⟨rfl,HB2.out⟩
theorem zh4 (x1 x2 y1 y2:Int)(a b:List Int)(va vb:Value)(w:World)(ha:RInts w va a)(hb:RInts w vb b)(hl:a.length<=1048576) :
  Calls Tryz.prog 43 #[.agg #[.int .i64 x1,.int .i64 x2,va],.agg #[.int .i64 y1,.int .i64 y2,vb]] w fun e w'=>e=.returned (.bool (decide ((x1,x2,a)=((y1,y2,b):Ino))))/\Below w.heap.size w w':=by
 obtain ⟨a1,c1,rfl,ha⟩:=ha;obtain ⟨a2,c2,rfl,hb⟩:=hb;have HA:=hide ha;have HB:=hide hb;clear ha hb;by_cases h1:x1=y1
 ·by_cases h2:x2=y2
  ·subst h1 h2;have hr:decide ((x1,x2,a)=((x1,x2,b):Ino))=decide (a=b):=by simp
   rw [hr];clear hr;by_cases hn:a.length=b.length
   ·have HN:=hide hn;rw [← hn];clear hn;go_enter Tryz.func43,Tryz.ntmps43
    go_wp2;have B0:=hide (((Below.refl _ w).alloc nR (.cells #[.int .i64 x1,.int .i64 x2,.slice a1 a.length c1] 63)).alloc (by simp) (.cells #[.int .i64 x1,.int .i64 x2,.slice a2 a.length c2] 63));have r0:((w.alloc (.cells #[.int .i64 x1,.int .i64 x2,.slice a1 a.length c1] 63)).alloc (.cells #[.int .i64 x1,.int .i64 x2,.slice a2 a.length c2] 63)).cell? ⟨w.heap.size,2,none⟩=some (.slice a1 a.length c1):=((AtC.new w 63 _).alloc _).cell 2;have s0:=(AtC.new (w.alloc (.cells #[.int .i64 x1,.int .i64 x2,.slice a1 a.length c1] 63)) 63 #[.int .i64 x1,.int .i64 x2,.slice a2 a.length c2]).cell 2;simp only [World.size_alloc] at s0;have s1:((w.alloc (.cells #[.int .i64 x1,.int .i64 x2,.slice a1 a.length c1] 63)).alloc (.cells #[.int .i64 x1,.int .i64 x2,.slice a2 a.length c2] 63)).cell? ⟨w.heap.size+1,2,none⟩=some (.slice a2 a.length c2):=s0;generalize (w.alloc (.cells #[.int .i64 x1,.int .i64 x2,.slice a1 a.length c1] 63)).alloc (.cells #[.int .i64 x1,.int .i64 x2,.slice a2 a.length c2] 63)=W0 at *;clear s0;go_loopw [5] (fun i wr=>∃ j:Nat,j<=a.length/\i=.int .i64 j/\Hid (∀ (k:Nat) (h1:k < a.length) (h2:k < b.length),k < j->a[k]=b[k])/\∃ q,wr=W0.drewN q) (fun i _=>a.length - (intOf i).toNat)
    case atStart=>exact ⟨0,Nat.zero_le _,rfl,fun _ _ _ h=>absurd h (Nat.not_lt_zero _),0,rfl⟩
    case round =>
     obtain ⟨j,hj,rfl,HS,q,rfl⟩:=hrel;by_cases hlt:j < a.length
     ·obtain ⟨g1,o1,rfl,hg1,m1⟩:=HA.out j hlt;obtain ⟨g2,o2,rfl,hg2,n1⟩:=HB.out j (by rw [← HN.out];exact hlt);have m2:=(B0.out.cell (p:=⟨g1,o1+j,none⟩) hg1).trans m1;have n2:=(B0.out.cell (p:=⟨g2,o2+j,none⟩) hg2).trans n1;have j0:(0:Int)<=(j:Int):=by omega
      have j1:(j:Int) < (a.length:Int):=by omega
      obtain ⟨x,hx⟩:∃ x,a[j]=x:=⟨_,rfl⟩
      obtain ⟨y,hy⟩:∃ y,b[j]'(by rw [← HN.out];exact hlt)=y:=⟨_,rfl⟩
      rw [hx] at m2;rw [hy] at n2;have HX:=hide hx;have HY:=hide hy;clear hx hy m1 n1;by_cases hq:x=y
      ·subst hq;go_wp2_with fail
       go_quiet (fail)
       go_wp2;go_roundw
       case rel =>
        refine ⟨j+1,by omega,by go_num,fun k h1 h2 hkj=>?_,_,rfl⟩;by_cases hkk:k=j
        ·subst hkk;rw [HX.out,HY.out]
        ·exact HS.out k h1 h2 (by omega)
       case measure=>simp [intOf];omega
      ·have hno:false=decide (a=b):=zcg (h1:=hlt) (h2:=by rw [← HN.out];exact hlt) (by rw [HX.out,HY.out];exact hq);have HNO:=hide hno;clear hno;have b1:(x == y)=false:=by simp [hq]
       go_wp2_with fail
       go_quiet (fail)
       go_wp2;go_ret;exact ⟨zac HNO.out,below_drewN (below_drewN B0.out _) _⟩
     ·have hyes:true=decide (a=b):=zbv HN.out fun k h1 h2=>HS.out k h1 h2 (by omega);have HY:=hide hyes;clear hyes;go_wp2;go_ret;exact ⟨zac HY.out,below_drewN B0.out _⟩
   ·have HN:=hide (zbu hn);have hn2:(((a.length:Nat):Int) == ((b.length:Nat):Int))=false:=by simp;omega
    go_enter Tryz.func43,Tryz.ntmps43
    go_wp2;go_ret;exact ⟨zac HN.out,by go_grown⟩
  ·have b2:(x2 == y2)=false:=by simp [h2]
   have hr:decide ((x1,x2,a)=((y1,y2,b):Ino))=false:=by simp [h2]
   rw [hr];clear hr;subst h1;go_enter Tryz.func43,Tryz.ntmps43
   go_wp2;go_ret;exact ⟨rfl,by go_grown⟩
 ·have b1:(x1 == y1)=false:=by simp [h1]
  have hr:decide ((x1,x2,a)=((y1,y2,b):Ino))=false:=by simp [h1]
  rw [hr];clear hr;go_enter Tryz.func43,Tryz.ntmps43
  go_wp2;go_ret;exact ⟨rfl,by go_grown⟩
theorem zh5 (x1 y1:Bool)(a b:List Sl)(x2 y2:ByteArray)(va vb:Value)(w:World)(ha:RSl w va a)(hb:RSl w vb b)(hl:a.length<=1048576) :
  Calls Tryz.prog 44 #[.agg #[.bool x1,va,.string x2],.agg #[.bool y1,vb,.string y2]] w fun e w'=>e=.returned (.bool (decide ((x1,a,x2)=((y1,b,y2):Blk))))/\Below w.heap.size w w':=by
 obtain ⟨a1,c1,rfl,-,ha⟩:=ha;obtain ⟨a2,c2,rfl,-,hb⟩:=hb;have HA:=hide ha;have HB:=hide hb;clear ha hb;by_cases h1:x1=y1
 ·by_cases h2:x2=y2
  ·subst h1 h2;have hr:decide ((x1,a,x2)=((x1,b,x2):Blk))=decide (a=b):=by simp
   rw [hr];clear hr;have t1:=zca (a:=x2) rfl;by_cases hn:a.length=b.length
   ·have HN:=hide hn;rw [← hn];clear hn;go_enter Tryz.func44,Tryz.ntmps44
    go_wp2;have B0:=hide (((Below.refl _ w).alloc nR (.cells #[.bool x1,.slice a1 a.length c1,.string x2] 74)).alloc (by simp) (.cells #[.bool x1,.slice a2 a.length c2,.string x2] 74));have r0:((w.alloc (.cells #[.bool x1,.slice a1 a.length c1,.string x2] 74)).alloc (.cells #[.bool x1,.slice a2 a.length c2,.string x2] 74)).cell? ⟨w.heap.size,1,none⟩=some (.slice a1 a.length c1):=((AtC.new w 74 _).alloc _).cell 1;have s0:=(AtC.new (w.alloc (.cells #[.bool x1,.slice a1 a.length c1,.string x2] 74)) 74 #[.bool x1,.slice a2 a.length c2,.string x2]).cell 1;simp only [World.size_alloc] at s0;have s1:((w.alloc (.cells #[.bool x1,.slice a1 a.length c1,.string x2] 74)).alloc (.cells #[.bool x1,.slice a2 a.length c2,.string x2] 74)).cell? ⟨w.heap.size+1,1,none⟩=some (.slice a2 a.length c2):=s0;generalize (w.alloc (.cells #[.bool x1,.slice a1 a.length c1,.string x2] 74)).alloc (.cells #[.bool x1,.slice a2 a.length c2,.string x2] 74)=W0 at *;clear s0 t1;go_loopw [5] (fun i wr=>∃ j:Nat,j<=a.length/\i=.int .i64 j/\Hid (∀ (k:Nat) (h1:k < a.length) (h2:k < b.length),k < j->a[k]=b[k])/\∃ q,wr=W0.drewN q) (fun i _=>a.length - (intOf i).toNat)
    case atStart=>exact ⟨0,Nat.zero_le _,rfl,fun _ _ _ h=>absurd h (Nat.not_lt_zero _),0,rfl⟩
    case round =>
     obtain ⟨j,hj,rfl,HS,q,rfl⟩:=hrel;by_cases hlt:j < a.length
     ·obtain ⟨g1,o1,rfl,hg1,m1,m2⟩:=HA.out j hlt;obtain ⟨g2,o2,rfl,hg2,n1,n2⟩:=HB.out j (by rw [← HN.out];exact hlt)
      replace m1:=(B0.out.cell (p:=⟨g1,o1+j * 2,none⟩) hg1).trans m1
      replace m2:=(B0.out.cell (p:=⟨g1,o1+j * 2+1,none⟩) hg1).trans m2
      replace n1:=(B0.out.cell (p:=⟨g2,o2+j * 2,none⟩) hg2).trans n1
      replace n2:=(B0.out.cell (p:=⟨g2,o2+j * 2+1,none⟩) hg2).trans n2
      have j0:(0:Int)<=(j:Int):=by omega
      have j1:(j:Int) < (a.length:Int):=by omega
      obtain ⟨x,hx⟩:∃ x,a[j]=x:=⟨_,rfl⟩
      obtain ⟨y,hy⟩:∃ y,b[j]'(by rw [← HN.out];exact hlt)=y:=⟨_,rfl⟩
      rw [hx] at m1 m2;rw [hy] at n1 n2;have HX:=hide hx;have HY:=hide hy;clear hx hy;by_cases hq:x=y
      ·subst hq;obtain ⟨z1,z2⟩:=x;simp only at m1 m2 n1 n2;have d1:=zca (a:=z1) rfl;go_wp2_with fail
       go_quiet (fail)
       go_wp2;go_roundw
       case rel =>
        refine ⟨j+1,by omega,by go_num,fun k h1 h2 hkj=>?_,_,rfl⟩;by_cases hkk:k=j
        ·subst hkk;rw [HX.out,HY.out]
        ·exact HS.out k h1 h2 (by omega)
       case measure=>simp [intOf];omega
      ·have hno:false=decide (a=b):=zcg (h1:=hlt) (h2:=by rw [← HN.out];exact hlt) (by rw [HX.out,HY.out];exact hq);have HNO:=hide hno;clear hno;obtain ⟨z1,z2⟩:=x;obtain ⟨y1,y2⟩:=y;simp only at m1 m2 n1 n2;by_cases h1:z1=y1
       ·have d1:=zca h1;have d2:(z2 == y2)=false:=by
         simp;exact fun e=>hq (by rw [h1,e])
        go_wp2_with fail
        go_quiet (fail)
        go_wp2;go_ret;exact ⟨zac HNO.out,below_drewN (below_drewN B0.out _) _⟩
       ·have d1:=zay h1;go_wp2_with fail
        go_quiet (fail)
        go_wp2;go_ret;exact ⟨zac HNO.out,below_drewN (below_drewN B0.out _) _⟩
     ·have hyes:true=decide (a=b):=zbv HN.out fun k h1 h2=>HS.out k h1 h2 (by omega);have HY:=hide hyes;clear hyes;go_wp2;go_ret;exact ⟨zac HY.out,below_drewN B0.out _⟩
   ·have HN:=hide (zbu hn);have hn2:(((a.length:Nat):Int) == ((b.length:Nat):Int))=false:=by simp;omega
    go_enter Tryz.func44,Tryz.ntmps44
    go_wp2;go_ret;exact ⟨zac HN.out,by go_grown⟩
  ·have b2:=zay h2;have hr:decide ((x1,a,x2)=((y1,b,y2):Blk))=false:=by simp [h2]
   rw [hr];clear hr;subst h1;go_enter Tryz.func44,Tryz.ntmps44
   go_wp2;go_ret;exact ⟨rfl,by go_grown⟩
 ·have b1:(x1 == y1)=false:=by simp [h1]
  have hr:decide ((x1,a,x2)=((y1,b,y2):Blk))=false:=by simp [h1]
  rw [hr];clear hr;go_enter Tryz.func44,Tryz.ntmps44
  go_wp2;go_ret;exact ⟨rfl,by go_grown⟩
theorem zkf (va vb:Value)(a b:List Ino)(w:World)(ha:R3 KI w va a)(hb:R3 KI w vb b)(hl:a.length<=1048576)(hp:∀ (j:Nat) (h:j < a.length),a[j].2.2.length<=1048576) :
  Calls Tryz.prog 62 #[va,vb,.func (.func 63) #[] #[]] w fun e w'=>e=.returned (.bool (decide (a=b)))/\Below w.heap.size w w':=by
 obtain ⟨a1,c1,rfl,-,ha'⟩:=ha.ino;obtain ⟨a2,c2,rfl,-,hb'⟩:=hb.ino;have HA:=hide ha';have HB:=hide hb';have HP:=hide hp;clear ha hb hp ha' hb';by_cases hn:a.length=b.length
 ·have HN:=hide hn;rw [← hn];clear hn;go_enter Tryz.func62,Tryz.ntmps62
  go_wp2;go_loopw [17] (fun i wr=>∃ j:Nat,j<=a.length/\i=.int .i64 j/\Hid (∀ (k:Nat) (h1:k < a.length) (h2:k < b.length),k < j->a[k]=b[k])/\Below w.heap.size w wr) (fun i _=>a.length - (intOf i).toNat)
  case atStart=>exact ⟨0,Nat.zero_le _,rfl,fun _ _ _ h=>absurd h (Nat.not_lt_zero _),Below.refl _ _⟩
  case round =>
   obtain ⟨j,hj,rfl,HS,hb⟩:=hrel;by_cases hlt:j < a.length
   ·obtain ⟨g1,o1,p1,rfl,hg1,m1,m2,m3,hr1⟩:=HA.out j hlt;obtain ⟨g2,o2,p2,rfl,hg2,n1,n2,n3,hr2⟩:=HB.out j (by rw [← HN.out];exact hlt);have hpl:=HP.out j hlt
    replace m1:=(hb.cell (p:=⟨g1,o1+j * 3,none⟩) hg1).trans m1
    replace m2:=(hb.cell (p:=⟨g1,o1+j * 3+1,none⟩) hg1).trans m2
    replace m3:=(hb.cell (p:=⟨g1,o1+j * 3+2,none⟩) hg1).trans m3
    replace n1:=(hb.cell (p:=⟨g2,o2+j * 3,none⟩) hg2).trans n1
    replace n2:=(hb.cell (p:=⟨g2,o2+j * 3+1,none⟩) hg2).trans n2
    replace n3:=(hb.cell (p:=⟨g2,o2+j * 3+2,none⟩) hg2).trans n3
    have hg3:g2 < wr.heap.size:=Nat.lt_of_lt_of_le hg2 hb.size;have j0:(0:Int)<=(j:Int):=by omega
    have j1:(j:Int) < (a.length:Int):=by omega
    obtain ⟨x,hx⟩:∃ x,a[j]=x:=⟨_,rfl⟩
    obtain ⟨x',hy⟩:∃ y,b[j]'(by rw [← HN.out];exact hlt)=y:=⟨_,rfl⟩
    have HX:=hide hx;have HY:=hide hy;rw [hx] at m1 m2 hr1 hpl;rw [hy] at n1 n2 hr2;clear hx hy;obtain ⟨y,s,z⟩:=x;obtain ⟨y2,s2,z2⟩:=x';obtain ⟨pa,pc,rfl⟩:=hr1.form;obtain ⟨pb,pd,rfl⟩:=hr2.form;simp only at m1 m2 m3 n1 n2 n3 hr1 hr2 hpl;have HR:Hid (∀ w',Below w.heap.size w w'->RInts w' (.slice pa z.length pc) z/\RInts w' (.slice pb z2.length pd) z2):=fun w' hb=>⟨hr1.below hb nR,hr2.below hb nR⟩
    have C:=hide (fun W h h'=>zh1 y s y2 s2 z z2 (.slice pa z.length pc) (.slice pb z2.length pd) W h h' hpl);have hsz:=hb.size;have HBB:=hide hb;clear hb hr1 hr2 hpl;by_cases hq:((y,s,z)=((y2,s2,z2):Ino))
    ·have hd:decide ((y,s,z)=((y2,s2,z2):Ino))=true:=decide_eq_true hq;rw [hd] at C;have HQ:=hide hq;clear hd hq;go_wp2_with (go_at_call 63;refine (C.out _ (HR.out _ ((HBB.out.alloc hsz _).alloc (by simp;omega) _)).1 (HR.out _ ((HBB.out.alloc hsz _).alloc (by simp;omega) _)).2).mono ?_;rintro e w1 ⟨rfl,B1⟩;have HB1:=hide (((HBB.out.alloc hsz _).alloc (by simp;omega) _).trans (B1.mono (by simp;omega)));clear B1)
     go_roundw
     case rel =>
      refine ⟨j+1,by omega,by go_num,fun k h1 h2 hkj=>?_,HB1.out⟩;by_cases hkk:k=j
      ·subst hkk;rw [HX.out,HY.out];exact HQ.out
      ·exact HS.out k h1 h2 (by omega)
     case measure=>simp [intOf];omega
    ·have hd:decide ((y,s,z)=((y2,s2,z2):Ino))=false:=decide_eq_false hq;rw [hd] at C;have hno:false=decide (a=b):=zcg (h1:=hlt) (h2:=by rw [← HN.out];exact hlt) (by rw [HX.out,HY.out];exact hq);have HNO:=hide hno;clear hd hq hno;go_wp2_with (go_at_call 63;refine (C.out _ (HR.out _ ((HBB.out.alloc hsz _).alloc (by simp;omega) _)).1 (HR.out _ ((HBB.out.alloc hsz _).alloc (by simp;omega) _)).2).mono ?_;rintro e w1 ⟨rfl,B1⟩;have HB1:=hide (((HBB.out.alloc hsz _).alloc (by simp;omega) _).trans (B1.mono (by simp;omega)));clear B1)
     go_ret;exact ⟨zac HNO.out,HB1.out⟩
   ·have hyes:true=decide (a=b):=zbv HN.out fun k h1 h2=>HS.out k h1 h2 (by omega);have HY:=hide hyes;have HBB:=hide hb;clear hyes hb;go_wp2;go_ret;exact ⟨zac HY.out,HBB.out⟩
 ·have HN:=hide (zbu hn);have hn2:(((a.length:Nat):Int) == ((b.length:Nat):Int))=false:=by simp;omega
  go_enter Tryz.func62,Tryz.ntmps62
  go_wp2;go_ret;exact ⟨zac HN.out,Below.refl _ _⟩
theorem zkg (va vb:Value)(a b:List Blk)(w:World)(ha:R3 KB w va a)(hb:R3 KB w vb b)(hl:a.length<=1048576)(hp:∀ (j:Nat) (h:j < a.length),a[j].2.1.length<=1048576) :
  Calls Tryz.prog 64 #[va,vb,.func (.func 65) #[] #[]] w fun e w'=>e=.returned (.bool (decide (a=b)))/\Below w.heap.size w w':=by
 obtain ⟨a1,c1,rfl,-,ha'⟩:=ha.blk;obtain ⟨a2,c2,rfl,-,hb'⟩:=hb.blk;have HA:=hide ha';have HB:=hide hb';have HP:=hide hp;clear ha hb hp ha' hb';by_cases hn:a.length=b.length
 ·have HN:=hide hn;rw [← hn];clear hn;go_enter Tryz.func64,Tryz.ntmps64
  go_wp2;go_loopw [17] (fun i wr=>∃ j:Nat,j<=a.length/\i=.int .i64 j/\Hid (∀ (k:Nat) (h1:k < a.length) (h2:k < b.length),k < j->a[k]=b[k])/\Below w.heap.size w wr) (fun i _=>a.length - (intOf i).toNat)
  case atStart=>exact ⟨0,Nat.zero_le _,rfl,fun _ _ _ h=>absurd h (Nat.not_lt_zero _),Below.refl _ _⟩
  case round =>
   obtain ⟨j,hj,rfl,HS,hb⟩:=hrel;by_cases hlt:j < a.length
   ·obtain ⟨g1,o1,p1,rfl,hg1,m1,m2,m3,hr1⟩:=HA.out j hlt;obtain ⟨g2,o2,p2,rfl,hg2,n1,n2,n3,hr2⟩:=HB.out j (by rw [← HN.out];exact hlt);have hpl:=HP.out j hlt
    replace m1:=(hb.cell (p:=⟨g1,o1+j * 3,none⟩) hg1).trans m1
    replace m2:=(hb.cell (p:=⟨g1,o1+j * 3+1,none⟩) hg1).trans m2
    replace m3:=(hb.cell (p:=⟨g1,o1+j * 3+2,none⟩) hg1).trans m3
    replace n1:=(hb.cell (p:=⟨g2,o2+j * 3,none⟩) hg2).trans n1
    replace n2:=(hb.cell (p:=⟨g2,o2+j * 3+1,none⟩) hg2).trans n2
    replace n3:=(hb.cell (p:=⟨g2,o2+j * 3+2,none⟩) hg2).trans n3
    have hg3:g2 < wr.heap.size:=Nat.lt_of_lt_of_le hg2 hb.size;have j0:(0:Int)<=(j:Int):=by omega
    have j1:(j:Int) < (a.length:Int):=by omega
    obtain ⟨x,hx⟩:∃ x,a[j]=x:=⟨_,rfl⟩
    obtain ⟨x',hy⟩:∃ y,b[j]'(by rw [← HN.out];exact hlt)=y:=⟨_,rfl⟩
    have HX:=hide hx;have HY:=hide hy;rw [hx] at m1 m3 hr1 hpl;rw [hy] at n1 n3 hr2;clear hx hy;obtain ⟨y,z,s⟩:=x;obtain ⟨y2,z2,s2⟩:=x';obtain ⟨pa,pc,rfl⟩:=hr1.form;obtain ⟨pb,pd,rfl⟩:=hr2.form;simp only at m1 m2 m3 n1 n2 n3 hr1 hr2 hpl;have HR:Hid (∀ w',Below w.heap.size w w'->RSl w' (.slice pa z.length pc) z/\RSl w' (.slice pb z2.length pd) z2):=fun w' hb=>⟨hr1.below hb nR,hr2.below hb nR⟩
    have C:=hide (fun W h h'=>zh2 y y2 z z2 s s2 (.slice pa z.length pc) (.slice pb z2.length pd) W h h' hpl);have hsz:=hb.size;have HBB:=hide hb;clear hb hr1 hr2 hpl;by_cases hq:((y,z,s)=((y2,z2,s2):Blk))
    ·have hd:decide ((y,z,s)=((y2,z2,s2):Blk))=true:=decide_eq_true hq;rw [hd] at C;have HQ:=hide hq;clear hd hq;go_wp2_with (go_at_call 65;refine (C.out _ (HR.out _ ((HBB.out.alloc hsz _).alloc (by simp;omega) _)).1 (HR.out _ ((HBB.out.alloc hsz _).alloc (by simp;omega) _)).2).mono ?_;rintro e w1 ⟨rfl,B1⟩;have HB1:=hide (((HBB.out.alloc hsz _).alloc (by simp;omega) _).trans (B1.mono (by simp;omega)));clear B1)
     go_roundw
     case rel =>
      refine ⟨j+1,by omega,by go_num,fun k h1 h2 hkj=>?_,HB1.out⟩;by_cases hkk:k=j
      ·subst hkk;rw [HX.out,HY.out];exact HQ.out
      ·exact HS.out k h1 h2 (by omega)
     case measure=>simp [intOf];omega
    ·have hd:decide ((y,z,s)=((y2,z2,s2):Blk))=false:=decide_eq_false hq;rw [hd] at C;have hno:false=decide (a=b):=zcg (h1:=hlt) (h2:=by rw [← HN.out];exact hlt) (by rw [HX.out,HY.out];exact hq);have HNO:=hide hno;clear hd hq hno;go_wp2_with (go_at_call 65;refine (C.out _ (HR.out _ ((HBB.out.alloc hsz _).alloc (by simp;omega) _)).1 (HR.out _ ((HBB.out.alloc hsz _).alloc (by simp;omega) _)).2).mono ?_;rintro e w1 ⟨rfl,B1⟩;have HB1:=hide (((HBB.out.alloc hsz _).alloc (by simp;omega) _).trans (B1.mono (by simp;omega)));clear B1)
     go_ret;exact ⟨zac HNO.out,HB1.out⟩
   ·have hyes:true=decide (a=b):=zbv HN.out fun k h1 h2=>HS.out k h1 h2 (by omega);have HY:=hide hyes;have HBB:=hide hb;clear hyes hb;go_wp2;go_ret;exact ⟨zac HY.out,HBB.out⟩
 ·have HN:=hide (zbu hn);have hn2:(((a.length:Nat):Int) == ((b.length:Nat):Int))=false:=by simp;omega
  go_enter Tryz.func64,Tryz.ntmps64
  go_wp2;go_ret;exact ⟨zac HN.out,Below.refl _ _⟩
end Go.Proofs.YtmlfihmheolpeaaGreat
