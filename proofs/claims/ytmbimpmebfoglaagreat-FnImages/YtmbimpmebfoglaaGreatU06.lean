/- Texts of the proof, bundled. -/
import Derived.RangeFuncNested
import Derived.RangeFuncBound
import Derived.RangeFuncCalls
import Derived.RangeFuncLeaves
import Derived.Shelf.Abstract
import Derived.Shelf.RegionOpen
import Derived.WalkKit
import Derived.OwnWalkIn
import Derived.TacticsInMore
import Derived.LoopNIn
import Derived.LoopIn
import Derived.Test.YtmbimpmebfoglaaGreatU01
import Derived.Test.YtmbimpmebfoglaaGreatU05
import Derived.Test.YtmbimpmebfoglaaGreatU03
set_option maxRecDepth 100000
set_option maxHeartbeats 12800000
namespace Go.Proofs.YtmbimpmebfoglaaGreat
open Go.RowKit Go.Shelf Kit
attribute [local go_sem] Oper.semAt_some
variable {Z : ZT}
def zs (pre:List (Int×Sl)) (ss:List Sl):List Sl:=pre.foldl (fun xs k=>if 0<=k.1/\k.1.toNat < xs.length then xs.set k.1.toNat k.2 else xs) ss
theorem zgu (pre:List (Int×Sl))(ss:List Sl)(x:Int×Sl):zs (pre ++ [x]) ss=if 0<=x.1/\x.1.toNat < (zs pre ss).length then (zs pre ss).set x.1.toNat x.2 else zs pre ss:=by
 unfold zs;rw [List.foldl_append,List.foldl_cons,List.foldl_nil]
theorem zhg (pre:List (Int×Sl))(ss:List Sl):(zs pre ss).length=ss.length:=by
 induction pre generalizing ss with
 | nil=>rfl
 | cons k r ih =>
  have:zs (k :: r) ss=zs r (if 0<=k.1/\k.1.toNat < ss.length then ss.set k.1.toNat k.2 else ss):=rfl;rw [this,ih]
  split<;>simp
theorem zs_img (p:Int)(ds:List Dp)(ss:List Sl)(h:∀ d∈ds,0<=d.sl):zs (lo2 p ds) ss=imgS p ds ss:=by
 induction ds generalizing ss with
 | nil=>rfl
 | cons d r ih =>
  have e:imgS p (d :: r) ss=imgS p r (stepS p ss d):=rfl;rw [e,← ih _ (fun q hq=>h q (by simp [hq]))];have h0:=h d (by simp);by_cases c:insB d.kd d.af=true/\d.bk=p
  ·have l:lo2 p (d :: r)=(d.sl,insS d.kd d.io d.af d.nm) :: lo2 p r:=by simp [lo2,c.1,c.2]
   rw [l];show zs (lo2 p r) (if 0<=d.sl/\d.sl.toNat < ss.length then ss.set d.sl.toNat (insS d.kd d.io d.af d.nm) else ss)=_;congr 1
   unfold stepS;by_cases c2:d.sl.toNat < ss.length
   ·rw [if_pos ⟨h0,c2⟩,if_pos ⟨c.2,c2⟩];have ci:=c.1;unfold insB at ci;unfold insS;by_cases k2:d.kd=2
    ·simp [k2]
    ·by_cases k4:d.kd=4/\0 < d.af
     ·rw [if_pos k4,if_neg k2,if_pos k4]
     ·simp [k2] at ci;exact (k4 ci).elim
   ·rw [if_neg (fun q=>c2 q.2),if_neg (fun q=>c2 q.2)]
  ·have l:lo2 p (d :: r)=lo2 p r:=by
    unfold lo2;rw [List.filter_cons_of_neg (by simpa using c)]
   rw [l];congr 1
   unfold stepS;by_cases c2:d.bk=p/\d.sl.toNat < ss.length
   ·rw [if_pos c2];have ci:¬ insB d.kd d.af=true:=fun q=>c ⟨q,c2.1⟩;unfold insB at ci;by_cases k2:d.kd=2
    ·simp [k2] at ci
    ·by_cases k4:d.kd=4/\0 < d.af
     ·simp [k4.1,k4.2] at ci
     ·rw [if_neg k2,if_neg k4]
   ·rw [if_neg c2]
theorem zgv (u v iv bv dv pv:Value)(m:MD)(i:Int)(w:World)(h:MR w u v iv bv dv pv m)(hm:Sh Z m) :
  Calls Tryz.prog 9 #[.agg #[u,v,iv,bv,dv,pv,.int .i64 m.nx],.int .i64 i] w fun e w'=>∃ v9,e=.returned (.agg #[.bool (imgB m i).1,v9,.string (imgB m i).2.2])/\SOwns w' w.heap.size 49 v9 (imgB m i).2.1/\Below w.heap.size w w':=by
 obtain ⟨a1,c1,a2,c2,a3,c3,a4,c4,a5,c5,a6,c6,rfl,rfl,rfl,rfl,rfl,rfl⟩:=h.form;have HH:=hide h;have HM:=hide hm;have hb16:=hm.b;clear h hm;have HB3:Hid (Below w.heap.size w (((w.alloc (.cells #[.slice a1 m.xs.length c1,.slice a2 m.ys.length c2,.slice a3 m.is.length c3,.slice a4 16 c4,.slice a5 m.fs.length c5,.slice a6 m.ds.length c6,.int .i64 m.nx] 33)).alloc (.cells #[.bool false,.slice none 0 0,.string ⟨#[]⟩] 44)).alloc (.cells #[.slice a1 m.xs.length c1,.slice a2 m.ys.length c2,.slice a3 m.is.length c3,.slice a4 16 c4] 30))/\AtC (((w.alloc (.cells #[.slice a1 m.xs.length c1,.slice a2 m.ys.length c2,.slice a3 m.is.length c3,.slice a4 16 c4,.slice a5 m.fs.length c5,.slice a6 m.ds.length c6,.int .i64 m.nx] 33)).alloc (.cells #[.bool false,.slice none 0 0,.string ⟨#[]⟩] 44)).alloc (.cells #[.slice a1 m.xs.length c1,.slice a2 m.ys.length c2,.slice a3 m.is.length c3,.slice a4 16 c4] 30)) (w.heap.size+1) 44 #[.bool false,.slice none 0 0,.string ⟨#[]⟩]/\AtC (((w.alloc (.cells #[.slice a1 m.xs.length c1,.slice a2 m.ys.length c2,.slice a3 m.is.length c3,.slice a4 16 c4,.slice a5 m.fs.length c5,.slice a6 m.ds.length c6,.int .i64 m.nx] 33)).alloc (.cells #[.bool false,.slice none 0 0,.string ⟨#[]⟩] 44)).alloc (.cells #[.slice a1 m.xs.length c1,.slice a2 m.ys.length c2,.slice a3 m.is.length c3,.slice a4 16 c4] 30)) w.heap.size 33 #[.slice a1 m.xs.length c1,.slice a2 m.ys.length c2,.slice a3 m.is.length c3,.slice a4 16 c4,.slice a5 m.fs.length c5,.slice a6 m.ds.length c6,.int .i64 m.nx]/\(((w.alloc (.cells #[.slice a1 m.xs.length c1,.slice a2 m.ys.length c2,.slice a3 m.is.length c3,.slice a4 16 c4,.slice a5 m.fs.length c5,.slice a6 m.ds.length c6,.int .i64 m.nx] 33)).alloc (.cells #[.bool false,.slice none 0 0,.string ⟨#[]⟩] 44)).alloc (.cells #[.slice a1 m.xs.length c1,.slice a2 m.ys.length c2,.slice a3 m.is.length c3,.slice a4 16 c4] 30)).heap.size=w.heap.size+3):=by
  refine ⟨(((Below.refl _ w).alloc nR _).alloc (by simp) _).alloc (by simp;omega) _,?_,((AtC.new w 33 _).alloc _).alloc _,by simp⟩;have:=(AtC.new (w.alloc (.cells #[.slice a1 m.xs.length c1,.slice a2 m.ys.length c2,.slice a3 m.is.length c3,.slice a4 16 c4,.slice a5 m.fs.length c5,.slice a6 m.ds.length c6,.int .i64 m.nx] 33)) 44 #[.bool false,.slice none 0 0,.string ⟨#[]⟩]).alloc (.cells #[.slice a1 m.xs.length c1,.slice a2 m.ys.length c2,.slice a3 m.is.length c3,.slice a4 16 c4] 30);simpa using this
 refine (callsIn_wide (n:=3)).1 ?_;refine callsIn_of_wp_marks Tryz.func9 rfl trivial ?_ rfl;simp only [Tryz.ntmps9,List.size_toArray,List.length_cons,List.length_nil,Nat.reduceAdd,Nat.reduceSub,Array.replicate_succ,Array.replicate_zero,List.push_toArray,List.append_toArray,List.nil_append,List.cons_append];rw [hb16]
 cases hib:inB i 1 16 with
 | false =>
  have hI:imgB m i=(false,[],⟨#[]⟩):=by unfold imgB;rw [hib];rfl
  rw [hI];have CH:=hide (fun W=>zhf i (.slice a1 m.xs.length c1) (.slice a2 m.ys.length c2) (.slice a3 m.is.length c3) a4 c4 W);rw [hib] at CH;clear hib hI;have K4:=HB3.out.2.1;have s0:=K4.c0;have s1:=K4.c1;have s2:=K4.c2;have z0:=K4.frozen 0;have z1:=K4.frozen 1;have z2:=K4.frozen 2;have HF:Hid (Below w.heap.size w (((w.alloc (.cells #[.slice a1 m.xs.length c1,.slice a2 m.ys.length c2,.slice a3 m.is.length c3,.slice a4 16 c4,.slice a5 m.fs.length c5,.slice a6 m.ds.length c6,.int .i64 m.nx] 33)).alloc (.cells #[.bool false,.slice none 0 0,.string ⟨#[]⟩] 44)).alloc (.cells #[.slice a1 m.xs.length c1,.slice a2 m.ys.length c2,.slice a3 m.is.length c3,.slice a4 16 c4] 30))):=HB3.out.1;clear K4 HB3
  gi_wp2_with (refine ⟨trivial,?_⟩;gi_at_call 23;refine (callsIn_wide.2 (CH.out _)).mono ?_;rintro e w1 ⟨rfl,rfl⟩)
  exact ⟨.agg #[.bool false,.slice none 0 0,.string ⟨#[]⟩],by simp [results,go_sem,s0,s1,s2],_,rfl,SOwns.nil _ _ _,HF.out⟩
 | true =>
  obtain ⟨h1,h2⟩:=zao hib;obtain ⟨j,rfl⟩:∃ j:Nat,i=(j:Int)+1:=⟨(i - 1).toNat,by omega⟩
  have hj:j < m.bs.length:=by rw [hb16];omega
  have hI:imgB m ((j:Int)+1)=(m.bs[j].1,imgS ((j:Int)+1) m.ds m.bs[j].2.1,m.bs[j].2.2):=by
   exact cQ139
  rw [hI];have CH:=hide (fun W=>zhf ((j:Int)+1) (.slice a1 m.xs.length c1) (.slice a2 m.ys.length c2) (.slice a3 m.is.length c3) a4 c4 W);rw [hib] at CH;clear hib hI;have hbo:=HM.out.bb _ (List.getElem_mem hj);obtain ⟨qa,qc,qe,-,qh⟩:=HH.out.d.k;simp only [Value.slice.injEq,true_and] at qe;obtain ⟨rfl,rfl⟩:=qe;obtain ⟨g2,o2,⟨t0,t1,t2⟩,rfl,hg2,r0,r1,r2,e0,rr,e1⟩:=qh j hj;obtain ⟨⟨kd,ps,ln⟩,hX⟩:∃ X,m.bs[j]=X:=⟨_,rfl⟩
  rw [hX] at e0 e1 rr hbo;rw [hX];simp only at e0 e1 rr r0 r1 r2;subst e0 e1;obtain ⟨sa,sc,rfl,-⟩:=id rr;have HRR:=hide rr;have HBO:=hide hbo;have y0:=(HB3.out.1.cell (p:=⟨g2,o2+j * 3,none⟩) hg2).trans r0;have y1:=(HB3.out.1.cell (p:=⟨g2,o2+j * 3+1,none⟩) hg2).trans r1;have y2:=(HB3.out.1.cell (p:=⟨g2,o2+j * 3+2,none⟩) hg2).trans r2;have j0:(0:Int)<=(j:Int):=by omega
  have j1:(j:Int) < 16:=by omega
  have hpl:ps.length<=4:=hbo.m;have j9:(j:Int)+1 - 1=(j:Int):=by omega
  clear qh hX hbo rr r0 r1 r2 h1 h2
  gi_wp2_with (refine ⟨trivial,?_⟩;gi_at_call 23;refine (callsIn_wide.2 (CH.out _)).mono ?_;rintro e w1 ⟨rfl,rfl⟩)
  refine ⟨trivial,(callsIn_wide.2 (newK_any kd ln _ ps _ (HRR.out.below HB3.out.1 nR) (zex HBO.out))).mono ?_⟩;rintro e w5 ⟨uu,rfl,O5,B5⟩;obtain ⟨s5,t5,rfl,-⟩:=O5.form;have O6:SOwns w5 (w.heap.size+3) 49 (.slice s5 ps.length t5) ps:=by rw [← HB3.out.2.2.2];exact O5
  have l5:w.heap.size+3<=w5.heap.size:=by have:=B5.size;rw [HB3.out.2.2.2] at this;exact this
  obtain ⟨gp,hg0,hg1,hgo⟩:∃ gp,w.heap.size+2<=gp/\gp < w5.heap.size/\∀ k,(Value.slice s5 ps.length t5).ownBlock=some k->k=gp:=by
   cases e:(Value.slice s5 ps.length t5).ownBlock with
   | none=>exact ⟨w.heap.size+2,Nat.le_refl _,by omega,fun k hk=>by cases hk⟩
   | some q=>exact ⟨q,by have:=(O6.lt q e).1;omega,(O6.lt q e).2,fun k hk=>by cases hk;rfl⟩
  have HGO:=hide hgo;have HX:Hid (AtC (w5.alloc (.cells #[.bool kd,.slice s5 ps.length t5,.string ln] 44)) w5.heap.size 44 #[.bool kd,.slice s5 ps.length t5,.string ln]/\AtC (w5.alloc (.cells #[.bool kd,.slice s5 ps.length t5,.string ln] 44)) (w.heap.size+1) 44 #[.bool false,.slice none 0 0,.string ⟨#[]⟩]/\AtC (w5.alloc (.cells #[.bool kd,.slice s5 ps.length t5,.string ln] 44)) w.heap.size 33 #[.slice a1 m.xs.length c1,.slice a2 m.ys.length c2,.slice a3 m.is.length c3,.slice (some ⟨g2,o2,none⟩) 16 c4,.slice a5 m.fs.length c5,.slice a6 m.ds.length c6,.int .i64 m.nx]/\Below w.heap.size w (w5.alloc (.cells #[.bool kd,.slice s5 ps.length t5,.string ln] 44))/\SOwns (w5.alloc (.cells #[.bool kd,.slice s5 ps.length t5,.string ln] 44)) (w.heap.size+3) 49 (.slice s5 ps.length t5) ps/\(w5.alloc (.cells #[.bool kd,.slice s5 ps.length t5,.string ln] 44)).heap.size=w5.heap.size+1) :=
   ⟨AtC.new w5 44 _,(HB3.out.2.1.over B5).alloc _,(HB3.out.2.2.1.over B5).alloc _,(HB3.out.1.trans (B5.mono HB3.out.1.size)).alloc (by omega) _,O6.alloc _,by simp⟩
  obtain ⟨W5,hW5⟩:∃ W,(w5.alloc (.cells #[.bool kd,.slice s5 ps.length t5,.string ln] 44))=W:=⟨_,rfl⟩
  rw [hW5] at HX;have d6:=HX.out.2.2.1.c5;clear O5 O6 B5 HB3 hgo
  gi_wp2_with fail
  refine ⟨trivial,(callsIn_wide.2 (zj3 _ _ _ _ _)).mono ?_⟩;rintro e w6 ⟨rfl,rfl⟩;have HW7:Hid (((W5.alloc (.cells #[.slice a6 m.ds.length c6] 31)).alloc (.cells #[.int .i64 ((j:Int)+1)] 3)).heap.size=W5.heap.size+2/\((W5.alloc (.cells #[.slice a6 m.ds.length c6] 31)).alloc (.cells #[.int .i64 ((j:Int)+1)] 3)).cell? ⟨W5.heap.size,0,none⟩=some (.slice a6 m.ds.length c6)/\((W5.alloc (.cells #[.slice a6 m.ds.length c6] 31)).alloc (.cells #[.int .i64 ((j:Int)+1)] 3)).cell? ⟨W5.heap.size+1,0,none⟩=some (.int .i64 ((j:Int)+1))/\Below W5.heap.size W5 ((W5.alloc (.cells #[.slice a6 m.ds.length c6] 31)).alloc (.cells #[.int .i64 ((j:Int)+1)] 3))):=by
   exact cQ55
  have HP:=hide (HH.out.p.dep)
  gi_wp2
  obtain ⟨W7,hW7⟩:∃ W,((W5.alloc (.cells #[.slice a6 m.ds.length c6] 31)).alloc (.cells #[.int .i64 ((j:Int)+1)] 3))=W:=⟨_,rfl⟩
  rw [hW7] at HW7 ⊢;have hw5:W5.heap.size=w5.heap.size+1:=HX.out.2.2.2.2.2;have h7:=HW7.out.1;have HX7:Hid (SOwns W7 (w.heap.size+3) 49 (.slice s5 ps.length t5) ps/\AtC W7 w5.heap.size 44 #[.bool kd,.slice s5 ps.length t5,.string ln]/\AtC W7 (w.heap.size+1) 44 #[.bool false,.slice none 0 0,.string ⟨#[]⟩]/\Below w.heap.size w W7/\W7.heap.size<=W7.heap.size) :=
   ⟨HX.out.2.2.2.2.1.below HW7.out.2.2.2 nR,HX.out.1.over HW7.out.2.2.2,HX.out.2.1.over HW7.out.2.2.2,HX.out.2.2.2.1.trans (HW7.out.2.2.2.mono HX.out.2.2.2.1.size),Nat.le_refl _⟩
  clear hW5 hW7;refine wpIn_rangeFunc_ownH (F:=Fence.wide) (n:=3) rfl (by decide) (gf:=35) (lb:=#[.pointer (some ⟨W5.heap.size,0,none⟩),.pointer (some ⟨W5.heap.size+1,0,none⟩)]) rfl trivial (enters_of Tryz.func35 (by kernel_rfl) rfl)
   (zgt W5.heap.size (W5.heap.size+1) gp (W5.heap.size+2) a6 c6 m.ds ((j:Int)+1) (Nat.le_trans HM.out.l (by decide)) (fun d hd=>Nat.le_trans (HM.out.dd d hd).nm (by decide)) W7 (by omega) (by omega) ⟨by omega,by omega⟩ HW7.out.2.1 HW7.out.2.2.1 ?deps)
   (fun h k=>h.trans k) (fun W l o o' hl ho _ _=>⟨by simp [World.putObj],fun b hb _=>World.putObj_heap_other (by omega)⟩) bR (fun _=>rfl)
   (fun pre W=>SOwns W (w.heap.size+3) 49 (.slice s5 ps.length t5) (zs pre ps)/\AtC W w5.heap.size 44 #[.bool kd,.slice s5 ps.length t5,.string ln]/\AtC W (w.heap.size+1) 44 #[.bool false,.slice none 0 0,.string ⟨#[]⟩]/\Below w.heap.size w W/\W7.heap.size<=W.heap.size)
   (fun _ _ _=>False)
   (fun s W W' row hi hg hr=>⟨hi.1.grown hg (fun k hk e=>by have:=(hr k e).1;have:=HGO.out k hk;omega),hi.2.1.grown hg (fun e=>by have:=(hr _ e).1;omega),hi.2.2.1.grown hg (fun e=>by have:=(hr _ e).1;omega),hi.2.2.2.1.grown hg hi.2.2.2.1.size (fun k e=>by have:=(hr k e).1;omega),Nat.le_trans hi.2.2.2.2 hg.size⟩)
   (fun _ _ _ _ _ h _ _=>h) HX7.out
   (fun x a' W=>∃ B,W7.heap.size<=B/\a'={ tmps:=#[.agg #[.slice a1 m.xs.length c1,.slice a2 m.ys.length c2,.slice a3 m.is.length c3,.slice (some ⟨g2,o2,none⟩) 16 c4,.slice a5 m.fs.length c5,.slice a6 m.ds.length c6,.int .i64 m.nx],.int .i64 ((j:Int)+1),.pointer (some ⟨w.heap.size,0,none⟩),undef,.pointer (some ⟨w.heap.size+1,0,none⟩),.pointer (some ⟨w5.heap.size,0,none⟩),.int .i64 x.1,.pointer (some ⟨B,0,none⟩),.pointer (some ⟨w.heap.size,0,none⟩),.agg #[.slice a1 m.xs.length c1,.slice a2 m.ys.length c2,.slice a3 m.is.length c3,.slice (some ⟨g2,o2,none⟩) 16 c4],.int .i64 ((j:Int)+1),.bool true,.bool false,undef,.pointer (some ⟨w.heap.size,0,none⟩),.pointer (some ⟨w.heap.size,3,none⟩),.slice (some ⟨g2,o2,none⟩) 16 c4,.int .i64 ((j:Int)+1),.int .i64 (j:Int),.pointer (some ⟨g2,o2+j * 3,none⟩),.agg #[.bool kd,.slice sa ps.length sc,.string ln],.agg #[.bool kd,.slice s5 ps.length t5,.string ln],.pointer (some ⟨w.heap.size,5,none⟩),.slice a6 m.ds.length c6,.int .i64 ((j:Int)+1),.func (.func 35) #[] #[.pointer (some ⟨W5.heap.size,0,none⟩),.pointer (some ⟨W5.heap.size+1,0,none⟩)],.int .i64 x.1,.agg #[.string x.2.1,.int .i64 x.2.2],undef,undef,undef,undef,undef,undef,undef,undef,undef,undef,undef,undef,undef,undef,undef],defers:=[] }/\AtC W B 49 #[.string x.2.1,.int .i64 x.2.2])
   (fun x a' _ W W' row hi hg hr=>by obtain ⟨B,h1,h2,h3⟩:=hi;exact ⟨B,h1,h2,h3.grown hg (fun e=>by obtain ⟨-,o,ho,hc⟩:=hr _ e;rw [show W.heap[B]?=_ from h3] at ho;cases ho;cases hc)⟩)
   ?assign ?body ?done ?stop
  case deps =>
   obtain ⟨pa,pcap,pe,-,ph⟩:=HP.out;simp only [Value.slice.injEq,true_and] at pe;obtain ⟨rfl,rfl⟩:=pe;intro q hq;obtain ⟨b,off,p,e1,hb,hc,hr⟩:=ph q hq;obtain ⟨pa',pc',rfl⟩:=hr.form;exact ⟨b,off,pa',_,pc',e1,by omega,by omega,hc.below HX7.out.2.2.2.1 hb⟩
  case assign =>
   rintro l pre ⟨xk,xt,xz⟩ W K hi hK;have HI:=hide hi;have HK:=hide hK;have HE:=hide (And.intro hw5 h7);clear hi hK hw5 h7;simp only [encS]
   gi_wp2
   obtain ⟨hw5,h7⟩:=HE.out;exact HK.out _ _ (KeepsFrom.of_grownBy (zci ((Below.refl _ W).alloc nR _)) (fun j e=>by cases e)) ((KpX.refl _ _ _).alloc (by have:=HI.out.2.2.2.2;omega) _) ⟨HI.out.1.alloc _,HI.out.2.1.alloc _,HI.out.2.2.1.alloc _,HI.out.2.2.2.1.alloc HI.out.2.2.2.1.size _,by have:=HI.out.2.2.2.2;simp;omega⟩ ⟨W.heap.size,HI.out.2.2.2.2,rfl,AtC.new W 49 _⟩
  case body =>
   rintro l pre ⟨xk,xt,xz⟩ a' W - - ⟨i1,i2,i3,i4,i5⟩ ⟨B,hB,rfl,hA⟩ -;have HI:=hide (And.intro i1 (And.intro i2 (And.intro i3 (And.intro i4 i5))));have x2:=i2.c1;have b0:=hA.c0;have b1:=hA.c1;have HE:=hide (And.intro hw5 h7);clear i2 i3 i4 hA hw5 h7;simp only;by_cases hx0:0<=xk
   ·obtain ⟨k,rfl⟩:∃ k:Nat,xk=(k:Int):=⟨xk.toNat,by omega⟩
    have d1:decide (0<=(k:Int))=true:=by simp
    by_cases hx1:k < ps.length
    ·obtain ⟨gq,tq,eq,c0,c1,fq,-⟩:=i1.at k (by rw [zhg];exact hx1);rw [zhg] at eq;simp only [Value.slice.injEq,true_and] at eq;obtain ⟨rfl,rfl⟩:=eq;obtain rfl:=HGO.out gq rfl;have f0:=fq (k * 2);have f1:=fq (k * 2+1);have d2:decide ((k:Int) < (ps.length:Int))=true:=by simp;omega
     have k0:(0:Int)<=(k:Int):=by omega
     have k1:(k:Int) < (ps.length:Int):=by omega
     have HS:Hid (SOwns ((W.setCell ⟨gq,k * 2,none⟩ (.string xt)).setCell ⟨gq,k * 2+1,none⟩ (.int .i64 xz)) (w.heap.size+3) 49 (.slice (some ⟨gq,0,none⟩) ps.length t5) (zs (pre ++ [((k:Int),xt,xz)]) ps)/\W.grownBy ((W.setCell ⟨gq,k * 2,none⟩ (.string xt)).setCell ⟨gq,k * 2+1,none⟩ (.int .i64 xz)) (some gq)):=by
      have l0:ps.length=(zs pre ps).length:=(zhg pre ps).symm;have:=SOwns.set_both (w:=W) (base:=w.heap.size+3) (g:=gq) (cap:=t5) (e:=49) (l:=zs pre ps) (by rw [← l0];exact i1) k (by rw [← l0];exact hx1) xt xz;rw [← l0] at this;refine ⟨?_,this.2⟩;rw [zgu,if_pos ⟨by simp,by simp;omega⟩];exact this.1
     clear i1 fq
     gi_wp2
     obtain ⟨hw5,h7⟩:=HE.out;have i2:=HI.out.2.1;have i3:=HI.out.2.2.1;have hgb:=HS.out.2;exact ⟨KeepsFrom.of_grownBy hgb (fun q e=>by cases e;omega),⟨hgb.size,fun b hb hne=>hgb.block b (by omega) (fun e=>hne (Option.some.inj e))⟩,HS.out.1,(i2.grown hgb (fun e=>by have:=Option.some.inj e;omega)),(i3.grown hgb (fun e=>by have:=Option.some.inj e;omega)),(HI.out.2.2.2.1.grown hgb HI.out.2.2.2.1.size (fun k e=>by have:=Option.some.inj e;omega)),Nat.le_trans i5 hgb.size⟩
    ·have d2:decide ((k:Int) < (ps.length:Int))=false:=by simp;omega
     have e0:zs (pre ++ [((k:Int),xt,xz)]) ps=zs pre ps:=by rw [zgu,if_neg (fun q=>by have:=q.2;rw [zhg] at this;simp at this;omega)]
     clear i1
     gi_wp2
     exact ⟨KeepsFrom.refl _ _,KpX.refl _ _ _,by rw [e0];exact HI.out.1,HI.out.2.1,HI.out.2.2.1,HI.out.2.2.2.1,i5⟩
   ·have d1:decide (0<=xk)=false:=by simp;omega
    have e0:zs (pre ++ [(xk,xt,xz)]) ps=zs pre ps:=by rw [zgu,if_neg (fun q=>hx0 q.1)]
    clear i1
    gi_wp2
    exact ⟨KeepsFrom.refl _ _,KpX.refl _ _ _,by rw [e0];exact HI.out.1,HI.out.2.1,HI.out.2.2.1,HI.out.2.2.2.1,i5⟩
  case done =>
   rintro D ys W hD rfl ⟨i1,i2,i3,i4,i5⟩ hK;have x0:=i2.c0;have x1:=i2.c1;have x2:=i2.c2;have s0:=i3.c0;have s1:=i3.c1;have s2:=i3.c2;have z0:=i3.frozen 0;have z1:=i3.frozen 1;have z2:=i3.frozen 2;have HI:=hide (And.intro i1 (And.intro i2 (And.intro i3 (And.intro i4 hK))));clear i1 i2 i3 i4 i5 hK;have HF:Hid ((((W.setCell ⟨w.heap.size+1,0,none⟩ (.bool kd)).setCell ⟨w.heap.size+1,1,none⟩ (.slice s5 ps.length t5)).setCell ⟨w.heap.size+1,2,none⟩ (.string ln)).heap[D]?=some (.deferred (some []))/\∀ o,AtC ((((W.setCell ⟨w.heap.size+1,0,none⟩ (.bool kd)).setCell ⟨w.heap.size+1,1,none⟩ (.slice s5 ps.length t5)).setCell ⟨w.heap.size+1,2,none⟩ (.string ln)).putObj D o) (w.heap.size+1) 44 #[.bool kd,.slice s5 ps.length t5,.string ln]/\SOwns ((((W.setCell ⟨w.heap.size+1,0,none⟩ (.bool kd)).setCell ⟨w.heap.size+1,1,none⟩ (.slice s5 ps.length t5)).setCell ⟨w.heap.size+1,2,none⟩ (.string ln)).putObj D o) w.heap.size 49 (.slice s5 ps.length t5) (imgS ((j:Int)+1) m.ds ps)/\Below w.heap.size w ((((W.setCell ⟨w.heap.size+1,0,none⟩ (.bool kd)).setCell ⟨w.heap.size+1,1,none⟩ (.slice s5 ps.length t5)).setCell ⟨w.heap.size+1,2,none⟩ (.string ln)).putObj D o)):=by
    obtain ⟨i1,i2,i3,i4,hK⟩:=HI.out;have ez:=zs_img ((j:Int)+1) m.ds ps (fun d hd=>(HM.out.dd d hd).sl.1);rw [ez] at i1;have a1:AtC (((W.setCell ⟨w.heap.size+1,0,none⟩ (.bool kd)).setCell ⟨w.heap.size+1,1,none⟩ (.slice s5 ps.length t5)).setCell ⟨w.heap.size+1,2,none⟩ (.string ln)) (w.heap.size+1) 44 #[.bool kd,.slice s5 ps.length t5,.string ln]:=((i3.set 0 _).set 1 _).set 2 _;have ob:(Value.slice s5 ps.length t5).ownBlock≠some (w.heap.size+1):=fun e=>by have:=HGO.out _ e;omega
    have o1:SOwns (((W.setCell ⟨w.heap.size+1,0,none⟩ (.bool kd)).setCell ⟨w.heap.size+1,1,none⟩ (.slice s5 ps.length t5)).setCell ⟨w.heap.size+1,2,none⟩ (.string ln)) (w.heap.size+3) 49 (.slice s5 ps.length t5) (imgS ((j:Int)+1) m.ds ps):=((i1.setCell_other ob _).setCell_other ob _).setCell_other ob _;have b1:Below w.heap.size w (((W.setCell ⟨w.heap.size+1,0,none⟩ (.bool kd)).setCell ⟨w.heap.size+1,1,none⟩ (.slice s5 ps.length t5)).setCell ⟨w.heap.size+1,2,none⟩ (.string ln)):=((i4.setCell (by simp) _).setCell (by simp) _).setCell (by simp) _;have n0:W5.heap.size+2<=D:=by rw [← h7];exact hD
    have k1:(((W.setCell ⟨w.heap.size+1,0,none⟩ (.bool kd)).setCell ⟨w.heap.size+1,1,none⟩ (.slice s5 ps.length t5)).setCell ⟨w.heap.size+1,2,none⟩ (.string ln)).heap[D]?=some (.deferred (some [])):=((heap_setCell_other _ ⟨w.heap.size+1,2,none⟩ D _ (by show D≠w.heap.size+1;omega)).trans ((heap_setCell_other _ ⟨w.heap.size+1,1,none⟩ D _ (by show D≠w.heap.size+1;omega)).trans (heap_setCell_other _ ⟨w.heap.size+1,0,none⟩ D _ (by show D≠w.heap.size+1;omega)))).trans hK;have n1:D≠w.heap.size+1:=by omega
    refine ⟨k1,fun o=>⟨a1.grown (grownBy_putObj' _ D o) (fun e=>n1 (Option.some.inj e)),(o1.grown (grownBy_putObj' _ D o) (fun k hk e=>by have:=HGO.out k hk;have:=Option.some.inj e;omega)).base_le (by omega),b1.grown (grownBy_putObj' _ D o) b1.size (fun k e=>by have:=Option.some.inj e;omega)⟩⟩
   gi_wp2
   refine ⟨by simp,.inl ⟨_,_,rfl,run_takeDeferred HF.out.1,?_⟩⟩;have f:=HF.out.2 (.deferred none);have f0:=f.1.c0;have f1:=f.1.c1;have f2:=f.1.c2;exact ⟨.agg #[.bool kd,.slice s5 ps.length t5,.string ln],by simp [results,go_sem,f0,f1,f2],_,rfl,f.2.1,f.2.2⟩
  case stop =>
   rintro D c pre W _ _ h _;exact h.elim
def depAt (b s:Int):List Dp->Int
 | []=>0
 | d :: r=>if isNm d.kd=true/\d.bk=b/\d.sl=s then d.id else depAt b s r
theorem zij (b s:Int)(l:List Dp)(j:Nat)(h:j < l.length):depAt b s (l.drop j)=if isNm l[j].kd=true/\l[j].bk=b/\l[j].sl=s then l[j].id else depAt b s (l.drop (j+1)):=by
 rw [List.drop_eq_getElem_cons h];rfl
theorem zj5 (b s:Int)(l:List Dp)(j:Nat)(h:l.length<=j):depAt b s (l.drop j)=0:=by
 rw [List.drop_eq_nil_of_le h];rfl
theorem zik (u v iv bv dv pv:Value)(m:MD)(b s:Int)(w:World)(h:MR w u v iv bv dv pv m)(hl:m.ds.length<=1048576) :
  Calls Tryz.prog 12 #[.agg #[u,v,iv,bv,dv,pv,.int .i64 m.nx],.int .i64 b,.int .i64 s] w fun e w'=>e=.returned (.int .i64 (depAt b s m.ds))/\Below w.heap.size w w':=by
 obtain ⟨a1,c1,a2,c2,a3,c3,a4,c4,a5,c5,a6,c6,rfl,rfl,rfl,rfl,rfl,rfl⟩:=h.form;obtain ⟨a,c,ei,-,hc⟩:=h.p.dep;simp only [Value.slice.injEq,true_and] at ei;obtain ⟨rfl,rfl⟩:=ei;have HC:=hide hc;obtain ⟨R,hR⟩:∃ R,depAt b s m.ds=R:=⟨_,rfl⟩
 have HR:=hide hR;have HA:Hid (∀ W,Below (w.alloc (.cells #[.slice a1 m.xs.length c1,.slice a2 m.ys.length c2,.slice a3 m.is.length c3,.slice a4 m.bs.length c4,.slice a5 m.fs.length c5,.slice a6 m.ds.length c6,.int .i64 m.nx] 33)).heap.size (w.alloc (.cells #[.slice a1 m.xs.length c1,.slice a2 m.ys.length c2,.slice a3 m.is.length c3,.slice a4 m.bs.length c4,.slice a5 m.fs.length c5,.slice a6 m.ds.length c6,.int .i64 m.nx] 33)) W->W.cell? ⟨w.heap.size,5,none⟩=some (.slice a6 m.ds.length c6)):=fun W bb=>((AtC.new w 33 _).over bb).cell 5;have HW:Hid (∀ W,Below (w.alloc (.cells #[.slice a1 m.xs.length c1,.slice a2 m.ys.length c2,.slice a3 m.is.length c3,.slice a4 m.bs.length c4,.slice a5 m.fs.length c5,.slice a6 m.ds.length c6,.int .i64 m.nx] 33)).heap.size (w.alloc (.cells #[.slice a1 m.xs.length c1,.slice a2 m.ys.length c2,.slice a3 m.is.length c3,.slice a4 m.bs.length c4,.slice a5 m.fs.length c5,.slice a6 m.ds.length c6,.int .i64 m.nx] 33)) W->Below w.heap.size w W):=fun W bb=>((Below.refl _ w).alloc nR _).trans (bb.mono (by simp));clear hc h;rw [hR];clear hR;go_enter Tryz.func12,Tryz.ntmps12
 go_wp2;generalize w.alloc (.cells #[.slice a1 m.xs.length c1,.slice a2 m.ys.length c2,.slice a3 m.is.length c3,.slice a4 m.bs.length c4,.slice a5 m.fs.length c5,.slice a6 m.ds.length c6,.int .i64 m.nx] 33)=W0 at *;go_loopw [7] (fun i wr=>∃ j:Nat,j<=m.ds.length/\i=.int .i64 j/\Hid (R=depAt b s (m.ds.drop j))/\Hid (Below W0.heap.size W0 wr)) (fun i _=>m.ds.length - (intOf i).toNat)
 case atStart=>exact ⟨0,Nat.zero_le _,rfl,by show R=_;rw [List.drop_zero,HR.out],Below.refl _ _⟩
 case round =>
  obtain ⟨j,hj,rfl,HD,HB⟩:=hrel;have x5:=HA.out _ HB.out;by_cases hlt:j < m.ds.length
  ·obtain ⟨g,off,p,rfl,hg,mm,hp⟩:=HC.out j hlt;have hb:=HW.out _ HB.out;have hd:=zij b s m.ds j hlt;rw [← HD.out] at hd;obtain ⟨X,hX⟩:∃ X,m.ds[j]=X:=⟨_,rfl⟩
   rw [hX] at mm hp hd;obtain ⟨id,kd,io,pt,bk,sl,nm,bt,ot,af,bl⟩:=X;simp only at hp hd;obtain ⟨pa,pc,rfl⟩:=hp.form;simp only [DCells] at mm;obtain ⟨m0,m1,m2,m3,m4,m5,m6,m7,m8,m9,m10⟩:=mm;have q0:wr.cell? ⟨g,off+j * 11,none⟩=some (.int .i64 id):=(hb.cell (p:=⟨g,off+j * 11,none⟩) hg).trans m0;have q1:wr.cell? ⟨g,off+j * 11+1,none⟩=some (.int .i64 kd):=(hb.cell (p:=⟨g,off+j * 11+1,none⟩) hg).trans m1;have q2:wr.cell? ⟨g,off+j * 11+2,none⟩=some (.int .i64 io):=(hb.cell (p:=⟨g,off+j * 11+2,none⟩) hg).trans m2;have q3:wr.cell? ⟨g,off+j * 11+3,none⟩=some (.int .i64 pt):=(hb.cell (p:=⟨g,off+j * 11+3,none⟩) hg).trans m3;have q4:wr.cell? ⟨g,off+j * 11+4,none⟩=some (.int .i64 bk):=(hb.cell (p:=⟨g,off+j * 11+4,none⟩) hg).trans m4;have q5:wr.cell? ⟨g,off+j * 11+5,none⟩=some (.int .i64 sl):=(hb.cell (p:=⟨g,off+j * 11+5,none⟩) hg).trans m5;have q6:wr.cell? ⟨g,off+j * 11+6,none⟩=some (.string nm):=(hb.cell (p:=⟨g,off+j * 11+6,none⟩) hg).trans m6;have q7:wr.cell? ⟨g,off+j * 11+7,none⟩=some (.bool bt):=(hb.cell (p:=⟨g,off+j * 11+7,none⟩) hg).trans m7;have q8:wr.cell? ⟨g,off+j * 11+8,none⟩=some (.bool ot):=(hb.cell (p:=⟨g,off+j * 11+8,none⟩) hg).trans m8;have q9:wr.cell? ⟨g,off+j * 11+9,none⟩=some (.int .i64 af):=(hb.cell (p:=⟨g,off+j * 11+9,none⟩) hg).trans m9;have q10:wr.cell? ⟨g,off+j * 11+10,none⟩=some (.slice pa bl.length pc):=(hb.cell (p:=⟨g,off+j * 11+10,none⟩) hg).trans m10;have HD2:=hide hd;have hsz:=HB.out.size;have j0:(0:Int)<=(j:Int):=by omega
   have j1:(j:Int) < (m.ds.length:Int):=by omega
   clear m0 m1 m2 m3 m4 m5 m6 m7 m8 m9 m10 hb hd hp hX HD;by_cases hN:isNm kd=true
   ·have CN:Hid (∀ W,Calls Tryz.prog 27 #[.agg #[.int .i64 id,.int .i64 kd,.int .i64 io,.int .i64 pt,.int .i64 bk,.int .i64 sl,.string nm,.bool bt,.bool ot,.int .i64 af,.slice pa bl.length pc]] W fun e w'=>e=.returned (.bool true)/\Below W.heap.size W w'):=fun W=>by
     exact cQ135
    by_cases hbk:bk=b
    ·by_cases hsl:sl=s
     ·have HE:Hid (R=id):=by show R=id;rw [HD2.out,if_pos ⟨hN,hbk,hsl⟩]
      subst hbk hsl;go_wp2_with (go_at_call 27;refine (CN.out _).mono ?_;rintro e w1 ⟨rfl,B1⟩;have K1:=(AtC.new wr 41 #[.int .i64 id,.int .i64 kd,.int .i64 io,.int .i64 pt,.int .i64 bk,.int .i64 sl,.string nm,.bool bt,.bool ot,.int .i64 af,.slice pa bl.length pc]).over B1;have v0:w1.cell? ⟨wr.heap.size,0,none⟩=some (.int .i64 id):=K1.cell 0;have v4:w1.cell? ⟨wr.heap.size,4,none⟩=some (.int .i64 bk):=K1.cell 4;have v5:w1.cell? ⟨wr.heap.size,5,none⟩=some (.int .i64 sl):=K1.cell 5;have HB1:=hide (HB.out.trans ((((Below.refl _ wr).alloc nR _).trans (B1.mono (by simp))).mono hsz));clear K1 B1)
      go_ret;exact ⟨by rw [HE.out];rfl,HW.out _ HB1.out⟩
     ·have HE:Hid (R=depAt b s (m.ds.drop (j+1))):=by show R=_;rw [HD2.out,if_neg (fun e=>hsl e.2.2)]
      subst hbk;go_wp2_with (go_at_call 27;refine (CN.out _).mono ?_;rintro e w1 ⟨rfl,B1⟩;have K1:=(AtC.new wr 41 #[.int .i64 id,.int .i64 kd,.int .i64 io,.int .i64 pt,.int .i64 bk,.int .i64 sl,.string nm,.bool bt,.bool ot,.int .i64 af,.slice pa bl.length pc]).over B1;have v0:w1.cell? ⟨wr.heap.size,0,none⟩=some (.int .i64 id):=K1.cell 0;have v4:w1.cell? ⟨wr.heap.size,4,none⟩=some (.int .i64 bk):=K1.cell 4;have v5:w1.cell? ⟨wr.heap.size,5,none⟩=some (.int .i64 sl):=K1.cell 5;have HB1:=hide (HB.out.trans ((((Below.refl _ wr).alloc nR _).trans (B1.mono (by simp))).mono hsz));clear K1 B1)
      go_roundw
      case rel=>exact ⟨j+1,by omega,by go_num,HE.out,HB1.out⟩
      case measure=>simp [intOf];omega
    ·have HE:Hid (R=depAt b s (m.ds.drop (j+1))):=by show R=_;rw [HD2.out,if_neg (fun e=>hbk e.2.1)]
     exact cQ30
   ·have HE:Hid (R=depAt b s (m.ds.drop (j+1))):=by show R=_;rw [HD2.out,if_neg (fun e=>hN e.1)]
    replace hN:isNm kd=false:=by simpa using hN
    have CN:Hid (∀ W,Calls Tryz.prog 27 #[.agg #[.int .i64 id,.int .i64 kd,.int .i64 io,.int .i64 pt,.int .i64 bk,.int .i64 sl,.string nm,.bool bt,.bool ot,.int .i64 af,.slice pa bl.length pc]] W fun e w'=>e=.returned (.bool false)/\Below W.heap.size W w'):=fun W=>by
     exact cQ135
    exact cQ30
  ·have HE:Hid (R=0):=by show R=0;rw [HD.out,zj5 _ _ _ _ (by omega)]
   go_wp2;go_ret;exact ⟨by rw [HE.out];rfl,HW.out _ HB.out⟩
def lnP (i:Int) (k:Nat) (ds:List Dp):Bool:=ds.any fun d=>decide (d.kd=1) && decide (d.io=i) && decide (d.pt=(k:Int))
theorem lnP_snoc (i:Int)(k:Nat)(ds:List Dp)(j:Nat)(h:j < ds.length):lnP i k (ds.take (j+1))=(lnP i k (ds.take j) || (decide (ds[j].kd=1) && decide (ds[j].io=i) && decide (ds[j].pt=(k:Int)))):=by
 unfold lnP;rw [List.take_succ_eq_append_getElem h,List.any_append];simp
theorem imgP_get (i:Int)(k:Nat)(ds:List Dp)(ps:List Int)(hk:k < ps.length)(h:∀ d∈ds,0<=d.pt):(imgP i ds ps)[k]?=if lnP i k ds=true then some 0 else ps[k]?:=by
 induction ds generalizing ps with
 | nil=>rfl
 | cons d r ih =>
  have e:imgP i (d :: r) ps=imgP i r (if d.kd=1/\d.io=i then ps.set d.pt.toNat 0 else ps):=rfl;have l:lnP i k (d :: r)=((decide (d.kd=1) && decide (d.io=i) && decide (d.pt=(k:Int))) || lnP i k r):=rfl;have h0:=h d (by simp);rw [e,l];by_cases c:d.kd=1/\d.io=i
  ·rw [if_pos c,ih _ (by simpa using hk) (fun q hq=>h q (by simp [hq]))];by_cases e1:d.pt=(k:Int)
   ·have e2:d.pt.toNat=k:=by omega
    simp [c.1,c.2,e1,hk]
   ·have e2:d.pt.toNat≠k:=by omega
    simp [c.1,c.2,e1,e2]
  ·rw [if_neg c,ih _ hk (fun q hq=>h q (by simp [hq]))];have:(decide (d.kd=1) && decide (d.io=i))=false:=by simpa using c
   rw [this];simp
theorem imgS_get (p:Int)(s:Nat)(ds:List Dp)(ss:List Sl)(h:∀ d∈ds,0<=d.sl/\1<=d.id)(h0:depAt p s ds=0):(imgS p ds ss)[s]?=ss[s]?:=by
 induction ds generalizing ss with
 | nil=>rfl
 | cons d r ih =>
  have e:imgS p (d :: r) ss=imgS p r (stepS p ss d):=rfl;have hd:=h d (by simp);have e0:depAt p s (d :: r)=if isNm d.kd=true/\d.bk=p/\d.sl=(s:Int) then d.id else depAt p s r:=rfl
  rw [e0] at h0;by_cases c:isNm d.kd=true/\d.bk=p/\d.sl=(s:Int)
  ·rw [if_pos c] at h0;omega
  ·rw [if_neg c] at h0;rw [e,ih _ (fun q hq=>h q (by simp [hq])) h0];unfold stepS;by_cases c1:d.bk=p/\d.sl.toNat < ss.length
   ·rw [if_pos c1];by_cases k2:d.kd=2
    ·have n:d.sl.toNat≠s:=fun q=>c ⟨by simp [isNm,k2],c1.1,by omega⟩;rw [if_pos k2,List.getElem?_set_ne n]
    ·rw [if_neg k2];by_cases k4:d.kd=4/\0 < d.af
     ·have n:d.sl.toNat≠s:=fun q=>c ⟨by simp [isNm,k4.1],c1.1,by omega⟩;rw [if_pos k4,List.getElem?_set_ne n]
     ·rw [if_neg k4]
   ·rw [if_neg c1]
namespace fnImages
def MkIn (ds:List Nat) (kd ln:Int) (xs:List Int):Mk:=.val ds (fun _ _ w v=>∃ u,v=.agg #[.int .i64 kd,.int .i64 ln,u]/\RInts w u xs) (fun _ _ _ _ _ hh hb=>by obtain ⟨u,q,h1⟩:=hh;exact ⟨u,q,h1.below hb nR⟩)
def MkBk (ds:List Nat) (kd:Bool) (tx:ByteArray) (xs:List Sl):Mk:=.val ds (fun _ _ w v=>∃ u,v=.agg #[.bool kd,u,.string tx]/\RSl w u xs) (fun _ _ _ _ _ hh hb=>by obtain ⟨u,q,h1⟩:=hh;exact ⟨u,q,h1.below hb nR⟩)
theorem fld0 (a b c:Value)(w:World):(Instr.field 37 (.agg #[a,b,c]) 0).run Tryz.prog w=.ok a w:=by kernel_rfl
theorem fld2 (a b c:Value)(w:World):(Instr.field 37 (.agg #[a,b,c]) 2).run Tryz.prog w=.ok c w:=by kernel_rfl
theorem wrP (p:Nat)(h:p < 16):IntKind.i64.wrap (p:Int)=(p:Int):=by
 first | exact wrapId (by omega) (by omega) | exact wrap_small _ (by omega) (by omega) | (rw [IntKind.wrap_i64];omega)
theorem big_no (a:Option Addr)(len cap:Nat)(w:World)(h:len<=1048576) :
  Calls Tryz.prog 4 #[.slice a len cap] w fun e w'=>e=.returned (.bool false)/\w'=w:=by
 exact cQ140
theorem big_yes (a:Option Addr)(len cap:Nat)(w:World)(h:¬ len<=1048576) :
  Calls Tryz.prog 4 #[.slice a len cap] w fun e w'=>e=.returned (.bool true)/\w'=w:=by
 exact cQ140
theorem walk (a:Option Addr)(len cap:Nat)(w:World)(hcode:zbg w a len)(_hl:len<=maxLen) :
  Calls Tryz.prog 3 #[.slice a len cap] w fun e w'=>e=.returned (.bool true)/\Below w.heap.size w w':=by
 have HO:=hide hcode;clear hcode;by_cases hlen:len<=1048576
 case neg =>
  go_enter Tryz.func3,Tryz.ntmps3
  go_wp2_with fail
  refine (big_yes a len cap w hlen).mono ?_;rintro e w9 ⟨rfl,hw9⟩;rw [hw9];clear hw9 w9;go_wp2;go_ret;exact ⟨rfl,Below.refl _ _⟩
 case pos =>
  go_enter Tryz.func3,Tryz.ntmps3
  go_wp2_with fail
  refine (big_no a len cap w hlen).mono ?_;rintro e w9 ⟨rfl,hw9⟩;rw [hw9];clear hw9 w9;go_wp2_with fail
  refine (zgs w a len cap HO.out hlen).mono ?_;rintro e w1 ⟨⟨a1,c1,a2,c2,a3,c3,a4,c4,a5,c5,a6,c6,m,rfl,hmo,hsh⟩,B1⟩;have HM:=hide hsh;obtain ⟨g3,o3,rfl⟩:∃ g o,a3=some ⟨g,o,none⟩:=by
   obtain ⟨qa,qc,qe,-,qh⟩:=hmo.mr.d.i;simp only [Value.slice.injEq,true_and] at qe;obtain ⟨rfl,rfl⟩:=qe;obtain ⟨g2,o2,-,e,-⟩:=qh 0 (by rw [hsh.i];decide);exact ⟨g2,o2,e⟩
  obtain ⟨g4,o4,rfl⟩:∃ g o,a4=some ⟨g,o,none⟩:=by
   obtain ⟨qa,qc,qe,-,qh⟩:=hmo.mr.d.k;simp only [Value.slice.injEq,true_and] at qe;obtain ⟨rfl,rfl⟩:=qe;obtain ⟨g2,o2,-,e,-⟩:=qh 0 (by rw [hsh.b];decide);exact ⟨g2,o2,e⟩
  have HS:Hid (∀ W,Below (w1.alloc (.cells #[.slice a1 m.xs.length c1,.slice a2 m.ys.length c2,.slice (some ⟨g3,o3,none⟩) m.is.length c3,.slice (some ⟨g4,o4,none⟩) m.bs.length c4,.slice a5 m.fs.length c5,.slice a6 m.ds.length c6,.int .i64 m.nx] 33)).heap.size (w1.alloc (.cells #[.slice a1 m.xs.length c1,.slice a2 m.ys.length c2,.slice (some ⟨g3,o3,none⟩) m.is.length c3,.slice (some ⟨g4,o4,none⟩) m.bs.length c4,.slice a5 m.fs.length c5,.slice a6 m.ds.length c6,.int .i64 m.nx] 33)) W->MR W (.slice a1 m.xs.length c1) (.slice a2 m.ys.length c2) (.slice (some ⟨g3,o3,none⟩) m.is.length c3) (.slice (some ⟨g4,o4,none⟩) m.bs.length c4) (.slice a5 m.fs.length c5) (.slice a6 m.ds.length c6) m/\AtC W w1.heap.size 33 #[.slice a1 m.xs.length c1,.slice a2 m.ys.length c2,.slice (some ⟨g3,o3,none⟩) m.is.length c3,.slice (some ⟨g4,o4,none⟩) m.bs.length c4,.slice a5 m.fs.length c5,.slice a6 m.ds.length c6,.int .i64 m.nx]/\Below w.heap.size w W/\w1.heap.size+1<=W.heap.size):=by
   have hm0:=hmo.mr;have z1:=B1.size;intro W b;have b2:Below w1.heap.size w1 W:=((Below.refl _ w1).alloc nR _).trans (b.mono (by simp));exact ⟨hm0.below b2 nR,(AtC.new w1 33 _).over b,B1.trans (b2.mono z1),by have:=b.size;simp at this;omega⟩
  clear hmo hsh B1 HO;go_wp2_with fail
  obtain ⟨W0,hW0⟩:∃ W,w1.alloc (.cells #[.slice a1 m.xs.length c1,.slice a2 m.ys.length c2,.slice (some ⟨g3,o3,none⟩) m.is.length c3,.slice (some ⟨g4,o4,none⟩) m.bs.length c4,.slice a5 m.fs.length c5,.slice a6 m.ds.length c6,.int .i64 m.nx] 33)=W:=⟨_,rfl⟩
  obtain ⟨V,hV⟩:∃ V,w1.heap.size=V:=⟨_,rfl⟩
  rw [hW0,hV] at HS;rw [hW0,hV];clear hW0 hV;have hdl:m.ds.length<=40:=HM.out.l;have HI8:Hid (m.is.length=8):=HM.out.i;have HB16:Hid (m.bs.length=16):=HM.out.b;go_loopw [4] (fun i wr=>∃ j:Nat,j<=8/\i=.int .i64 ((j:Int)+1)/\Hid (Below W0.heap.size W0 wr)) (fun i _=>9 - (intOf i).toNat)
  case atStart=>exact ⟨0,by omega,rfl,Below.refl _ _⟩
  case round =>
   obtain ⟨j,hj,rfl,HB⟩:=hrel;by_cases hlt:j < 8
   case pos =>
    as_aux_lemma =>
    have hj8:j < m.is.length:=by rw [HI8.out];exact hlt
    have hib:inB ((j:Int)+1) 1 8=true:=by unfold inB;simp;omega
    have hI:imgI m ((j:Int)+1)=(m.is[j].1,m.is[j].2.1,imgP ((j:Int)+1) m.ds m.is[j].2.2):=by
     unfold imgI;rw [hib,if_pos rfl,show ((j:Int)+1 - 1).toNat=j by omega];simp [hj8]
    obtain ⟨hmr,hbox,hbel,hsz⟩:=HS.out wr HB.out;have hio:=HM.out.ii _ (List.getElem_mem hj8);obtain ⟨kd,ln,ps,sa,sc,hX,r0,r1,r2,rr,hg3⟩:∃ kd ln ps sa sc,m.is[j]=(kd,ln,ps)/\wr.cell? ⟨g3,o3+j * 3,none⟩=some (.int .i64 kd)/\wr.cell? ⟨g3,o3+j * 3+1,none⟩=some (.int .i64 ln)/\wr.cell? ⟨g3,o3+j * 3+2,none⟩=some (.slice sa ps.length sc)/\RInts wr (.slice sa ps.length sc) ps/\g3 < wr.heap.size:=by
     obtain ⟨qa,qc,qe,-,qh⟩:=hmr.d.i;simp only [Value.slice.injEq,true_and] at qe;obtain ⟨rfl,rfl⟩:=qe;obtain ⟨g2,o2,⟨t0,t1,t2⟩,e2,hg2,r0,r1,r2,e0,e1,rr⟩:=qh j hj8;simp only [Option.some.injEq,Addr.mk.injEq,and_true] at e2;obtain ⟨rfl,rfl⟩:=e2;obtain ⟨sa,sc,e3⟩:=rr.form;simp only at e0 e1 e3;subst e0 e1 e3;exact ⟨_,_,_,sa,sc,rfl,r0,r1,r2,rr,hg2⟩
    rw [hX] at hI hio;simp only at hI;have CI:=hide (fun W (h:MR W (.slice a1 m.xs.length c1) (.slice a2 m.ys.length c2) (.slice (some ⟨g3,o3,none⟩) m.is.length c3) (.slice (some ⟨g4,o4,none⟩) m.bs.length c4) (.slice a5 m.fs.length c5) (.slice a6 m.ds.length c6) m)=>zed _ _ _ _ _ _ m ((j:Int)+1) W h HM.out);have CS:=hide (fun W (h:MR W (.slice a1 m.xs.length c1) (.slice a2 m.ys.length c2) (.slice (some ⟨g3,o3,none⟩) m.is.length c3) (.slice (some ⟨g4,o4,none⟩) m.bs.length c4) (.slice a5 m.fs.length c5) (.slice a6 m.ds.length c6) m)=>zeo _ _ _ _ _ _ m ((j:Int)+1) W h HM.out);simp only [hI] at CI CS;have HPN:Hid (ps.length=2):=hio.n;obtain ⟨k0,k1,k2,k3,k4,k5,k6⟩:=AtC.sev hbox;have HRR:=hide (And.intro rr (And.intro r0 (And.intro r1 (And.intro r2 (And.intro hmr (And.intro hbox hbel))))));have j0:(0:Int)<=(j:Int):=by omega
    have j1:(j:Int) < (m.is.length:Int):=by omega
    have hPL:(imgP ((j:Int)+1) m.ds ps).length=2:=by rw [zbc];exact hio.n
    have HG:=hide (fun (k:Nat) (hk:k < 2)=>imgP_get ((j:Int)+1) k m.ds ps (by rw [hio.n];exact hk) (fun d hd=>(HM.out.dd d hd).pt.1));clear r0 r1 r2 rr hmr hbox hbel hX hI hio hib;generalize hxs:imgP ((j:Int)+1) m.ds ps=xs at *;clear hxs;go_wp2_with fail
    refine (CI.out _ HRR.out.2.2.2.2.1).mono ?_;rintro e w2 ⟨v9,rfl,O1,b1⟩;obtain ⟨s1,t1,rfl⟩:=O1.rints.form;have r0:w2.cell? ⟨g3,o3+j * 3,none⟩=some (.int .i64 kd):=(b1.cell (p:=⟨g3,o3+j * 3,none⟩) hg3).trans HRR.out.2.1;have r1:w2.cell? ⟨g3,o3+j * 3+1,none⟩=some (.int .i64 ln):=(b1.cell (p:=⟨g3,o3+j * 3+1,none⟩) hg3).trans HRR.out.2.2.1;have r2:w2.cell? ⟨g3,o3+j * 3+2,none⟩=some (.slice sa ps.length sc):=(b1.cell (p:=⟨g3,o3+j * 3+2,none⟩) hg3).trans HRR.out.2.2.2.1;have hx2:AtC w2 V 33 #[.slice a1 m.xs.length c1,.slice a2 m.ys.length c2,.slice (some ⟨g3,o3,none⟩) m.is.length c3,.slice (some ⟨g4,o4,none⟩) m.bs.length c4,.slice a5 m.fs.length c5,.slice a6 m.ds.length c6,.int .i64 m.nx]:=HRR.out.2.2.2.2.2.1.over b1;have l2:=hx2.c2;have hgb:g3 < w2.heap.size:=Nat.lt_of_lt_of_le hg3 b1.size;have hvb:V < w2.heap.size:=hx2.lt;have HW:Hid (∀ W,Below ((w2.alloc (.cells #[.int .i64 kd,.int .i64 ln,.slice s1 xs.length t1] 37)).alloc (.cells #[.int .i64 kd,.int .i64 ln,.slice sa ps.length sc] 37)).heap.size ((w2.alloc (.cells #[.int .i64 kd,.int .i64 ln,.slice s1 xs.length t1] 37)).alloc (.cells #[.int .i64 kd,.int .i64 ln,.slice sa ps.length sc] 37)) W->Below W0.heap.size W0 W/\AtC W w2.heap.size 37 #[.int .i64 kd,.int .i64 ln,.slice s1 xs.length t1]/\AtC W (w2.heap.size+1) 37 #[.int .i64 kd,.int .i64 ln,.slice sa ps.length sc]/\RInts W (.slice s1 xs.length t1) xs/\RInts W (.slice sa ps.length sc) ps):=by
     intro W b;have o1:=O1.rints;have bA:=(Below.refl _ w2).alloc nR (.cells #[.int .i64 kd,.int .i64 ln,.slice s1 xs.length t1] 37);have bB:=(Below.refl _ (w2.alloc (.cells #[.int .i64 kd,.int .i64 ln,.slice s1 xs.length t1] 37))).alloc nR (.cells #[.int .i64 kd,.int .i64 ln,.slice sa ps.length sc] 37);have b3:Below w2.heap.size w2 W:=bA.trans ((bB.mono (by simp)).trans (b.mono (by simp;omega)));have b4:=b1.trans (b3.mono b1.size);have k1:=((AtC.new w2 37 #[.int .i64 kd,.int .i64 ln,.slice s1 xs.length t1]).over bB).over b;have k2:=(AtC.new (w2.alloc (.cells #[.int .i64 kd,.int .i64 ln,.slice s1 xs.length t1] 37)) 37 #[.int .i64 kd,.int .i64 ln,.slice sa ps.length sc]).over b;simp at k2;refine ⟨HB.out.trans (b4.mono HB.out.size),k1,k2,?_,HRR.out.1.below b4 nR⟩;exact o1.below b3 nR
    have HPL:=hide hPL;clear O1 b1 hx2 k0 k1 k2 k3 k4 k5 k6 HRR CI hPL;go_upto_region 9 with fail
    generalize hbx:w2.heap.size=bx at *;clear hbx r0 r1 r2 l2;generalize (w2.alloc (.cells #[.int .i64 kd,.int .i64 ln,.slice s1 xs.length t1] 37)).alloc (.cells #[.int .i64 kd,.int .i64 ln,.slice sa ps.length sc] 37)=W2 at *;refine zar (by kernel_rfl) [0,1,2,3,4,5,6,7,8,9,10,11,12,13,14,15,16,17,18,19] [] [] (fun i=>match i with|0=>.const [] (.pointer (some ⟨bx,0,none⟩))|1=>.const [0] (.int .i64 kd)|2=>.const [] (.pointer (some ⟨bx+1,0,none⟩))|3=>.const [2] (.int .i64 kd)|4=>.const [1,3] (.bool false)|5=>.const [4] (.bool false)|6=>.const [5] (.pointer (some ⟨bx,1,none⟩))|7=>.const [6,5] (.int .i64 ln)|8=>.const [5] (.pointer (some ⟨bx+1,1,none⟩))|9=>.const [8,5] (.int .i64 ln)|10=>.const [7,9,5] (.bool false)|11=>.const [5,10] (.bool false)|12=>.const [11] (.bool false)|13=>.const [12] (.agg #[.int .i64 kd,.int .i64 ln,.slice s1 xs.length t1])|14=>.const [12] (.agg #[.slice a1 m.xs.length c1,.slice a2 m.ys.length c2,.slice (some ⟨g3,o3,none⟩) m.is.length c3,.slice (some ⟨g4,o4,none⟩) m.bs.length c4,.slice a5 m.fs.length c5,.slice a6 m.ds.length c6,.int .i64 m.nx])|15=>.const [12] (.int .i64 ((j:Int)+1))|16=>MkIn [14,15,12] kd ln xs|17=>.const [13,16,12] (.bool true)|18=>.const [17,12] (.bool false)|19=>.const [12,18] (.bool false)|_=>.triv) (fun x=>⟨List.toArray ((.slice a len cap)::(undef)::(u2)::(.pointer (some ⟨V,0,none⟩))::(.int .i64 (↑j+1))::(.pointer (some ⟨bx,0,none⟩))::(.pointer (some ⟨bx+1,0,none⟩))::(u7)::(u8)::(u9)::(undef)::(undef)::(undef)::(.slice a len cap)::(.bool false)::(.slice a len cap)::(.agg #[.slice a1 m.xs.length c1,.slice a2 m.ys.length c2,.slice (some ⟨g3,o3,none⟩) m.is.length c3,.slice (some ⟨g4,o4,none⟩) m.bs.length c4,.slice a5 m.fs.length c5,.slice a6 m.ds.length c6,.int .i64 m.nx])::(.int .i64 (↑j+1))::(.bool true)::(u19)::(u20)::(.agg #[.slice a1 m.xs.length c1,.slice a2 m.ys.length c2,.slice (some ⟨g3,o3,none⟩) m.is.length c3,.slice (some ⟨g4,o4,none⟩) m.bs.length c4,.slice a5 m.fs.length c5,.slice a6 m.ds.length c6,.int .i64 m.nx])::(.int .i64 (↑j+1))::(.agg #[.int .i64 kd,.int .i64 ln,.slice s1 xs.length t1])::(.pointer (some ⟨V,0,none⟩))::(.pointer (some ⟨V,2,none⟩))::(.slice (some ⟨g3,o3,none⟩) m.is.length c3)::(.int .i64 (↑j+1))::(.int .i64 ↑j)::(.pointer (some ⟨g3,o3+j * 3,none⟩))::(.agg #[.int .i64 kd,.int .i64 ln,.slice sa ps.length sc])::(x 0)::(x 1)::(x 2)::(x 3)::(x 4)::(x 5)::(x 6)::(x 7)::(x 8)::(x 9)::(x 10)::(x 11)::(x 12)::(x 13)::(x 14)::(x 15)::(x 16)::(x 17)::(x 18)::(x 19)::(u51)::(u52)::(u53)::(u54)::(u55)::(u56)::(u57)::(u58)::(u59)::(u60)::(u61)::(u62)::(u63)::(u64)::(u65)::(u66)::(u67)::(u68)::(u69)::(u70)::(u71)::(u72)::(u73)::(u74)::(u75)::(u76)::(u77)::(u78)::(u79)::(u80)::(u81)::(u82)::(u83)::(u84)::(u85)::(u86)::(u87)::(u88)::(u89)::(u90)::(u91)::(u92)::(u93)::(u94)::(u95)::(u96)::(u97)::(u98)::(u99)::(u100)::(u101)::(u102)::(u103)::(u104)::(u105)::(u106)::(u107)::(u108)::(u109)::(u110)::(u111)::(u112)::(u113)::(u114)::(u115)::(u116)::(u117)::(undef)::(undef)::(undef)::(undef)::(undef)::(undef)::(undef)::(undef)::(undef)::(undef)::(undef)::(undef)::(undef)::(undef)::(undef)::(undef)::(undef)::(undef)::(undef)::(undef)::(undef)::(undef)::(undef)::(undef)::(undef)::(undef)::(undef)::(undef)::(undef)::(undef)::(undef)::(undef)::(undef)::(undef)::(undef)::(undef)::(undef)::(undef)::(undef)::(undef)::(undef)::(undef)::(undef)::(undef)::(undef)::(undef)::(undef)::(undef)::(undef)::(undef)::(undef)::(undef)::(undef)::(undef)::(undef)::(undef)::(undef)::(undef)::(undef)::(undef)::(undef)::(undef)::(undef)::(undef)::(undef)::(undef)::(undef)::(undef)::[]),[]⟩) (fun i=>match i with|0=>u31|1=>u32|2=>u33|3=>u34|4=>u35|5=>u36|6=>u37|7=>u38|8=>u39|9=>u40|10=>u41|11=>u42|12=>u43|13=>u44|14=>u45|15=>u46|16=>u47|17=>u48|18=>u49|19=>u50|_=>undef) rfl (zat (by kernel_rfl) (by kernel_rfl)) (by kernel_rfl) (by kernel_rfl) (by kernel_rfl) rfl ?_ ?_ (by intro q hq;cases hq)
    ·intro jo hj so x iw W hd hp K hK;simp only [List.mem_cons,List.not_mem_nil,or_false] at hj;rcases hj with rfl|rfl|rfl|rfl|rfl|rfl|rfl|rfl|rfl|rfl|rfl|rfl|rfl|rfl|rfl|rfl|rfl|rfl|rfl|rfl<;>refine wpOp_step (o:=_) rfl fun K' hK'=>?_<;>have HK:=hide (fun (v:Value) (W':World) h1 h2=>hK' _ _ (hK v W' h1 h2))<;>simp only [upd,Nat.reduceEqDiff,if_true,if_false] at HK
     ·exact cQ9
     ·exact cQ78
     ·exact cQ9
     ·have e2:x 2=.pointer (some ⟨bx+1,0,none⟩):=hp.post 2 (hd 2 mz0);have bw:=HW.out W (zac hp.bel);have q:=bw.2.2.1.c0;clear bw;simp only [e2] at HK ⊢;go_simp;exact HK.out _ _ bR rfl
     ·have e1:x 1=.int .i64 kd:=hp.post 1 (hd 1 mz0);have e3:x 3=.int .i64 kd:=hp.post 3 (hd 3 mz1);simp only [e1,e3] at HK ⊢;go_simp;exact HK.out _ _ bR rfl
     ·exact cQ122
     ·exact cQ73
     ·have e6:x 6=.pointer (some ⟨bx,1,none⟩):=hp.post 6 (hd 6 mz0);have e5:x 5=.bool false:=hp.post 5 (hd 5 mz1);have bw:=HW.out W (zac hp.bel);have q:=bw.2.1.c1;clear bw;simp only [e6,e5] at HK ⊢;go_simp;exact HK.out _ _ bR rfl
     ·exact cQ73
     ·have e8:x 8=.pointer (some ⟨bx+1,1,none⟩):=hp.post 8 (hd 8 mz0);have e5:x 5=.bool false:=hp.post 5 (hd 5 mz1);have bw:=HW.out W (zac hp.bel);have q:=bw.2.2.1.c1;clear bw;simp only [e8,e5] at HK ⊢;go_simp;exact HK.out _ _ bR rfl
     ·have e7:x 7=.int .i64 ln:=hp.post 7 (hd 7 mz0);have e9:x 9=.int .i64 ln:=hp.post 9 (hd 9 mz1);have e5:x 5=.bool false:=hp.post 5 (hd 5 mz2);simp only [e7,e9,e5] at HK ⊢;go_simp;exact HK.out _ _ bR rfl
     ·have e5:x 5=.bool false:=hp.post 5 (hd 5 mz0);have e10:x 10=.bool false:=hp.post 10 (hd 10 mz1);simp only [e5,e10] at HK ⊢;go_simp;exact HK.out _ _ bR rfl
     ·exact cQ117
     ·have e12:x 12=.bool false:=hp.post 12 (hd 12 mz0);have bw:=HW.out W (zac hp.bel);have q:=bw.2.1.c0;have q1:=bw.2.1.c1;have q2:=bw.2.1.c2;clear bw;simp only [e12] at HK ⊢;go_simp;exact HK.out _ _ bR rfl
     ·have e12:x 12=.bool false:=hp.post 12 (hd 12 mz0);have bw:=HW.out W (zac hp.bel);have bv:=(HS.out W bw.1).2.1;obtain ⟨k0,k1,k2,k3,k4,k5,k6⟩:=AtC.sev bv;clear bw bv;simp only [e12] at HK ⊢;go_simp;exact HK.out _ _ bR rfl
     ·have e12:x 12=.bool false:=hp.post 12 (hd 12 mz0);simp only [e12] at HK ⊢;go_simp;exact HK.out _ _ bR rfl
     ·have e14:x 14=.agg #[.slice a1 m.xs.length c1,.slice a2 m.ys.length c2,.slice (some ⟨g3,o3,none⟩) m.is.length c3,.slice (some ⟨g4,o4,none⟩) m.bs.length c4,.slice a5 m.fs.length c5,.slice a6 m.ds.length c6,.int .i64 m.nx]:=hp.post 14 (hd 14 mz0);have e15:x 15=.int .i64 ((j:Int)+1):=hp.post 15 (hd 15 mz1);have e12:x 12=.bool false:=hp.post 12 (hd 12 mz2);have bw:=HW.out W (zac hp.bel);simp only [e14,e15,e12] at HK ⊢;clear e14 e15 e12;go_simp;refine (CS.out W (HS.out W bw.1).1).mono ?_;rintro e w6 ⟨v6,rfl,O6,B6⟩;have HO6:=hide O6.rints;clear O6;go_simp;exact HK.out _ _ B6 ⟨v6,rfl,HO6.out⟩
     ·have e13:x 13=.agg #[.int .i64 kd,.int .i64 ln,.slice s1 xs.length t1]:=hp.post 13 (hd 13 mz0);have e16:∃ u,x 16=.agg #[.int .i64 kd,.int .i64 ln,u]/\RInts W u xs:=hp.post 16 (hd 16 mz1);have e12:x 12=.bool false:=hp.post 12 (hd 12 mz2);have bw:=HW.out W (zac hp.bel);obtain ⟨u,e16,O2⟩:=e16;simp only [e13,e16,e12] at HK ⊢;clear e13 e16 e12;go_simp;refine (zih kd ln _ _ xs W bw.2.2.2.1 O2 (by rw [HPL.out];decide)).mono ?_;rintro e w6 ⟨rfl,B6⟩;go_simp;exact HK.out _ _ B6 rfl
     ·have e17:x 17=.bool true:=hp.post 17 (hd 17 mz0);have e12:x 12=.bool false:=hp.post 12 (hd 12 mz1);simp only [e17,e12] at HK ⊢;go_simp;exact HK.out _ _ bR rfl
     ·have e12:x 12=.bool false:=hp.post 12 (hd 12 mz0);have e18:x 18=.bool false:=hp.post 18 (hd 18 mz1);simp only [e12,e18] at HK ⊢;go_simp;exact HK.out _ _ bR rfl
    ·intro x iw W hp;have e19:x 19=.bool false:=hp.post 19 (by decide);have HQ:=hide (HW.out W (zac hp.bel));simp only [e19];clear hp e19;generalize x 0=yy0 at *;generalize x 1=yy1 at *;generalize x 2=yy2 at *;generalize x 3=yy3 at *;generalize x 4=yy4 at *;generalize x 5=yy5 at *;generalize x 6=yy6 at *;generalize x 7=yy7 at *;generalize x 8=yy8 at *;generalize x 9=yy9 at *;generalize x 10=yy10 at *;generalize x 11=yy11 at *;generalize x 12=yy12 at *;generalize x 13=yy13 at *;generalize x 14=yy14 at *;generalize x 15=yy15 at *;generalize x 16=yy16 at *;generalize x 17=yy17 at *;generalize x 18=yy18 at *;generalize x 19=yy19 at *;try rw [List.filterMap_nil]
     clear x HW CS;go_wp2_with fail
     have HR:Hid (∀ W',Below W.heap.size W W'->Below W0.heap.size W0 W'/\AtC W' bx 37 #[.int .i64 kd,.int .i64 ln,.slice s1 xs.length t1]/\AtC W' (bx+1) 37 #[.int .i64 kd,.int .i64 ln,.slice sa ps.length sc]/\RInts W' (.slice s1 xs.length t1) xs/\RInts W' (.slice sa ps.length sc) ps):=by
      obtain ⟨q1,q2,q3,q4,q5⟩:=HQ.out;exact fun W' b=>⟨q1.trans (b.mono q1.size),q2.over b,q3.over b,q4.below b nR,q5.below b nR⟩
     clear HQ;go_loopw [7] (fun i wr=>∃ k:Nat,k<=2/\i=.int .i64 k/\Hid (Below W.heap.size W wr)) (fun i _=>2 - (intOf i).toNat)
     case atStart=>exact ⟨0,by omega,rfl,Below.refl _ _⟩
     case round =>
      obtain ⟨k,hk,rfl,HK⟩:=hrel;obtain ⟨wk,hwk⟩:∃ wk,wk=wr:=⟨_,rfl⟩
      subst hwk;by_cases hk2:k < 2
      case pos =>
       as_aux_lemma =>
       obtain ⟨b0,bX,bY,rX,rY⟩:=HR.out wk HK.out;obtain ⟨hmr,hbox,-,-⟩:=HS.out wk b0;have kx:k < xs.length:=by rw [HPL.out];exact hk2
       have ky:k < ps.length:=by rw [HPN.out];exact hk2
       obtain ⟨g8,o8,rfl,v8⟩:∃ g o,s1=some ⟨g,o,none⟩/\wk.cell? ⟨g,o+k,none⟩=some (.int .i64 xs[k]):=by
        obtain ⟨a',c',e',hh⟩:=rX;simp only [Value.slice.injEq,true_and] at e';obtain ⟨rfl,rfl⟩:=e';obtain ⟨g,o,e,-,hv⟩:=hh k kx;exact ⟨g,o,e,hv⟩
       obtain ⟨g7,o7,rfl,v7⟩:∃ g o,sa=some ⟨g,o,none⟩/\wk.cell? ⟨g,o+k,none⟩=some (.int .i64 ps[k]):=by
        obtain ⟨a',c',e',hh⟩:=rY;simp only [Value.slice.injEq,true_and] at e';obtain ⟨rfl,rfl⟩:=e';obtain ⟨g,o,e,-,hv⟩:=hh k ky;exact ⟨g,o,e,hv⟩
       have x2:=bX.c2;have y2:=bY.c2;have z5:=hbox.c5;have k0:(0:Int)<=(k:Int):=by omega
       have kx1:(k:Int) < (xs.length:Int):=by omega
       have ky1:(k:Int) < (ps.length:Int):=by omega
       have hg:=HG.out k hk2;rw [List.getElem?_eq_getElem kx,List.getElem?_eq_getElem ky] at hg;obtain ⟨xk,hxk⟩:∃ z,xs[k]=z:=⟨_,rfl⟩
       obtain ⟨pk,hpk⟩:∃ z,ps[k]=z:=⟨_,rfl⟩
       rw [hxk] at hg v8;rw [hpk] at hg v7;have HGK:Hid (some xk=if lnP (↑j+1) k m.ds=true then some 0 else some pk):=hg;have HDP:=hide hmr.p;clear b0 bX bY rX rY hmr hbox hg hxk hpk;go_wp2_with fail
       go_loopw [8,9] (fun b i wq=>∃ q:Nat,q<=m.ds.length/\i=.int .i64 q/\b=.bool (lnP ((j:Int)+1) k (m.ds.take q))/\wk=wq) (fun _ i _=>m.ds.length - (intOf i).toNat)
       case atStart=>exact ⟨0,Nat.zero_le _,rfl,rfl,rfl⟩
       case round =>
        obtain ⟨q,hq,rfl,rfl,rfl⟩:=hrel;by_cases hlt:q < m.ds.length
        case pos =>
         obtain ⟨g6,o6,q1,q2,q3,rfl⟩:∃ g off,wk.cell? ⟨g,off+q * 11+1,none⟩=some (.int .i64 m.ds[q].kd)/\wk.cell? ⟨g,off+q * 11+2,none⟩=some (.int .i64 m.ds[q].io)/\wk.cell? ⟨g,off+q * 11+3,none⟩=some (.int .i64 m.ds[q].pt)/\a6=some ⟨g,off,none⟩:=by
          obtain ⟨a',c',e',-,hc⟩:=HDP.out;simp only [Value.slice.injEq,true_and] at e';obtain ⟨rfl,rfl⟩:=e';obtain ⟨g,off,t,e,-,mm,p,rfl,-⟩:=hc q hlt;exact ⟨g,off,mm 1 (by decide),mm 2 (by decide),mm 3 (by decide),e⟩
         have hsn:=lnP_snoc ((j:Int)+1) k m.ds q hlt;obtain ⟨dk,hdk⟩:∃ z,m.ds[q].kd=z:=⟨_,rfl⟩
         obtain ⟨di,hdi⟩:∃ z,m.ds[q].io=z:=⟨_,rfl⟩
         obtain ⟨dp,hdp⟩:∃ z,m.ds[q].pt=z:=⟨_,rfl⟩
         rw [hdk] at hsn q1;rw [hdi] at hsn q2;rw [hdp] at hsn q3;have HSN:=hide hsn;have i0:(0:Int)<=(q:Int):=by omega
         have i1:(q:Int) < (m.ds.length:Int):=by omega
         clear hsn hdk hdi hdp
         cases hL:lnP ((j:Int)+1) k (m.ds.take q) with
         | true =>
          have HE:Hid (lnP ((j:Int)+1) k (m.ds.take (q+1))=true):=by show _=_;rw [HSN.out,hL];rfl
          clear hL HSN;go_wp2;go_roundw
          case rel=>exact ⟨q+1,by omega,by go_num,by rw [HE.out],trivial⟩
          case measure=>simp [intOf];omega
         | false =>
          by_cases h1:dk=1
          ·by_cases h2:di=(j:Int)+1
           ·by_cases h3:dp=(k:Int)
            ·have HE:Hid (lnP ((j:Int)+1) k (m.ds.take (q+1))=true):=by show _=_;rw [HSN.out,hL];simp [h1,h2,h3]
             clear hL HSN;subst h1 h2 h3;go_wp2;go_roundw
             case rel=>exact ⟨q+1,by omega,by go_num,by rw [HE.out],trivial⟩
             case measure=>simp [intOf];omega
            ·have HE:Hid (lnP ((j:Int)+1) k (m.ds.take (q+1))=false):=by show _=_;rw [HSN.out,hL];simp [h3]
             have n3:(dp == (k:Int))=false:=by simp [h3]
             clear hL HSN;subst h1 h2;go_wp2;go_roundw
             case rel=>exact ⟨q+1,by omega,by go_num,by rw [HE.out],trivial⟩
             case measure=>simp [intOf];omega
           ·have HE:Hid (lnP ((j:Int)+1) k (m.ds.take (q+1))=false):=by show _=_;rw [HSN.out,hL];simp [h2]
            have n2:(di == (j:Int)+1)=false:=by simp [h2]
            clear hL HSN;subst h1;go_wp2;go_roundw
            case rel=>exact ⟨q+1,by omega,by go_num,by rw [HE.out],trivial⟩
            case measure=>simp [intOf];omega
          ·have HE:Hid (lnP ((j:Int)+1) k (m.ds.take (q+1))=false):=by show _=_;rw [HSN.out,hL];simp [h1]
           have n1:(dk == 1)=false:=by simp [h1]
           clear hL HSN;go_wp2;go_roundw
           case rel=>exact ⟨q+1,by omega,by go_num,by rw [HE.out],trivial⟩
           case measure=>simp [intOf];omega
        case neg =>
         have hL:lnP ((j:Int)+1) k (m.ds.take q)=lnP ((j:Int)+1) k m.ds:=by rw [List.take_of_length_le (by omega)]
         rw [hL];clear hL
         cases hl:lnP ((j:Int)+1) k m.ds with
         | true =>
          obtain rfl:xk=0:=by have:=HGK.out;rw [if_pos hl] at this;exact Option.some.inj this
          clear hl HGK;go_wp2;go_quiet (fail)
          go_wp2;go_roundw
          case rel=>exact ⟨k+1,by omega,by go_num,below_drewN HK.out _⟩
          case measure=>simp [intOf];omega
         | false =>
          obtain rfl:xk=pk:=by have:=HGK.out;rw [if_neg (by rw [hl];decide)] at this;exact Option.some.inj this
          clear hl HGK;go_wp2;go_quiet (fail)
          go_wp2;go_roundw
          case rel=>exact ⟨k+1,by omega,by go_num,below_drewN HK.out _⟩
          case measure=>simp [intOf];omega
      case neg =>
       go_wp2;go_roundw
       case rel=>exact ⟨j+1,by omega,by go_num,(HR.out wk HK.out).1⟩
       case measure=>simp [intOf];omega
   case neg =>
    obtain rfl:j=8:=by omega
    obtain ⟨wl,hwl⟩:∃ wl,wl=wr:=⟨_,rfl⟩
    subst hwl;go_wp2_with fail
    go_loopw [10] (fun i wr=>∃ p:Nat,p<=16/\i=.int .i64 ((p:Int)+1)/\Hid (Below W0.heap.size W0 wr)) (fun i _=>17 - (intOf i).toNat)
    case atStart=>exact ⟨0,by omega,rfl,HB.out⟩
    case round =>
     clear HB;obtain ⟨p,hp,rfl,HB⟩:=hrel;by_cases hlt:p < 16
     case pos =>
      as_aux_lemma =>
      have hp16:p < m.bs.length:=by rw [HB16.out];exact hlt
      have hib:inB ((p:Int)+1) 1 16=true:=by unfold inB;simp;omega
      have hI:imgB m ((p:Int)+1)=(m.bs[p].1,imgS ((p:Int)+1) m.ds m.bs[p].2.1,m.bs[p].2.2):=by
       unfold imgB;rw [hib,if_pos rfl,show ((p:Int)+1 - 1).toNat=p by omega];simp [hp16]
      obtain ⟨hmr,hbox,hbel,hsz⟩:=HS.out wr HB.out;have hio:=HM.out.bb _ (List.getElem_mem hp16);obtain ⟨kd,ss,tx,sa,sc,hX,r0,r1,rr,hg4⟩:∃ kd ss tx sa sc,m.bs[p]=(kd,ss,tx)/\wr.cell? ⟨g4,o4+p * 3,none⟩=some (.bool kd)/\wr.cell? ⟨g4,o4+p * 3+1,none⟩=some (.slice sa ss.length sc)/\RSl wr (.slice sa ss.length sc) ss/\g4 < wr.heap.size:=by
       obtain ⟨qa,qc,qe,-,qh⟩:=hmr.d.k;simp only [Value.slice.injEq,true_and] at qe;obtain ⟨rfl,rfl⟩:=qe;obtain ⟨g2,o2,⟨t0,t1,t2⟩,e2,hg2,r0,r1,r2,e0,rr,e1⟩:=qh p hp16;simp only [Option.some.injEq,Addr.mk.injEq,and_true] at e2;obtain ⟨rfl,rfl⟩:=e2;obtain ⟨sa,sc,e3⟩:=rr.form;simp only at e0 e1 e3;subst e0 e1 e3;exact ⟨_,_,_,sa,sc,rfl,r0,r1,rr,hg2⟩
      rw [hX] at hI hio;simp only at hI;have HSL:Hid (ss.length<=4):=hio.m;have HWR:Hid (IntKind.i64.wrap (p:Int)=(p:Int)):=wrP p hlt;have CI:=hide (fun W (h:MR W (.slice a1 m.xs.length c1) (.slice a2 m.ys.length c2) (.slice (some ⟨g3,o3,none⟩) m.is.length c3) (.slice (some ⟨g4,o4,none⟩) m.bs.length c4) (.slice a5 m.fs.length c5) (.slice a6 m.ds.length c6) m)=>zgv _ _ _ _ _ _ m ((p:Int)+1) W h HM.out);have CS:=hide (fun W (h:MR W (.slice a1 m.xs.length c1) (.slice a2 m.ys.length c2) (.slice (some ⟨g3,o3,none⟩) m.is.length c3) (.slice (some ⟨g4,o4,none⟩) m.bs.length c4) (.slice a5 m.fs.length c5) (.slice a6 m.ds.length c6) m)=>zep _ _ _ _ _ _ m ((p:Int)+1) W h HM.out);simp only [hI] at CI CS;have HXL:Hid ((imgS ((p:Int)+1) m.ds ss).length=ss.length):=zaz _ _ _;have HG:=hide (fun (s:Nat) (h0:depAt ((p:Int)+1) (s:Int) m.ds=0)=>imgS_get ((p:Int)+1) s m.ds ss (fun d hd=>⟨(HM.out.dd d hd).sl.1,(HM.out.dd d hd).id.1⟩) h0);obtain ⟨k0,k1,k2,k3,k4,k5,k6⟩:=AtC.sev hbox;have HRR:=hide (And.intro rr (And.intro r0 (And.intro r1 (And.intro hmr hbel))));have j0:(0:Int)<=(p:Int):=by omega
      have j1:(p:Int) < (m.bs.length:Int):=by omega
      clear r0 r1 rr hmr hbox hbel hX hI hio hib;generalize hxs:imgS ((p:Int)+1) m.ds ss=xs at *;clear hxs;go_wp2_with fail
      refine (CI.out _ HRR.out.2.2.2.1).mono ?_;rintro e w2 ⟨v9,rfl,O1,b1⟩;obtain ⟨s1,t1,rfl⟩:=O1.rsl.form;have HW:Hid (∀ W,Below (w2.alloc (.cells #[.bool kd,.slice s1 xs.length t1,.string tx] 44)).heap.size (w2.alloc (.cells #[.bool kd,.slice s1 xs.length t1,.string tx] 44)) W->Below W0.heap.size W0 W/\AtC W w2.heap.size 44 #[.bool kd,.slice s1 xs.length t1,.string tx]/\RSl W (.slice s1 xs.length t1) xs/\RSl W (.slice sa ss.length sc) ss/\W.cell? ⟨g4,o4+p * 3,none⟩=some (.bool kd)/\W.cell? ⟨g4,o4+p * 3+1,none⟩=some (.slice sa ss.length sc)/\g4 < W.heap.size):=by
       intro W b;have o1:=O1.rsl;have bA:=(Below.refl _ w2).alloc nR (.cells #[.bool kd,.slice s1 xs.length t1,.string tx] 44);have b3:Below w2.heap.size w2 W:=bA.trans (b.mono (by simp));have b4:=b1.trans (b3.mono b1.size);exact ⟨HB.out.trans (b4.mono HB.out.size),(AtC.new w2 44 #[.bool kd,.slice s1 xs.length t1,.string tx]).over b,o1.below b3 nR,HRR.out.1.below b4 nR,(b4.cell (p:=⟨g4,o4+p * 3,none⟩) hg4).trans HRR.out.2.1,(b4.cell (p:=⟨g4,o4+p * 3+1,none⟩) hg4).trans HRR.out.2.2.1,Nat.lt_of_lt_of_le hg4 b4.size⟩
      clear O1 b1 k0 k1 k2 k3 k4 k5 k6 HRR CI;go_upto_region 25 with fail
      generalize hbx:w2.heap.size=bx at *;clear hbx;generalize w2.alloc (.cells #[.bool kd,.slice s1 xs.length t1,.string tx] 44)=W2 at *;refine zar (by kernel_rfl) [0,1,2,3,4,5,6,7,8,9,10,11,12,13,14,15,16,17,18] [] [] (fun i=>match i with|0=>.const [] (.pointer (some ⟨bx,0,none⟩))|1=>.const [0] (.bool kd)|2=>.const [] (.pointer (some ⟨V,0,none⟩))|3=>.const [2] (.pointer (some ⟨V,3,none⟩))|4=>.const [3] (.slice (some ⟨g4,o4,none⟩) m.bs.length c4)|5=>.const [] (.int .i64 ((p:Int)+1))|6=>.const [5] (.int .i64 (p:Int))|7=>.const [4,6] (.pointer (some ⟨g4,o4+p * 3,none⟩))|8=>.const [7] (.pointer (some ⟨g4,o4+p * 3,none⟩))|9=>.const [8] (.bool kd)|10=>.const [1,9] (.bool false)|11=>.const [10] (.bool false)|12=>.const [11] (.agg #[.bool kd,.slice s1 xs.length t1,.string tx])|13=>.const [11] (.agg #[.slice a1 m.xs.length c1,.slice a2 m.ys.length c2,.slice (some ⟨g3,o3,none⟩) m.is.length c3,.slice (some ⟨g4,o4,none⟩) m.bs.length c4,.slice a5 m.fs.length c5,.slice a6 m.ds.length c6,.int .i64 m.nx])|14=>.const [11] (.int .i64 ((p:Int)+1))|15=>MkBk [13,14,11] kd tx xs|16=>.const [12,15,11] (.bool true)|17=>.const [16,11] (.bool false)|18=>.const [11,17] (.bool false)|_=>.triv) (fun x=>⟨List.toArray ((.slice a len cap)::(undef)::(u2)::(.pointer (some ⟨V,0,none⟩))::(.int .i64 9)::(u5)::(u6)::(u7)::(u8)::(u9)::(.int .i64 (↑p+1))::(.pointer (some ⟨bx,0,none⟩))::(u12)::(.slice a len cap)::(.bool false)::(.slice a len cap)::(.agg #[.slice a1 m.xs.length c1,.slice a2 m.ys.length c2,.slice (some ⟨g3,o3,none⟩) m.is.length c3,.slice (some ⟨g4,o4,none⟩) m.bs.length c4,.slice a5 m.fs.length c5,.slice a6 m.ds.length c6,.int .i64 m.nx])::(.int .i64 9)::(.bool false)::(u19)::(u20)::(u21)::(u22)::(u23)::(u24)::(u25)::(u26)::(u27)::(u28)::(u29)::(u30)::(u31)::(u32)::(u33)::(u34)::(u35)::(u36)::(u37)::(u38)::(u39)::(u40)::(u41)::(u42)::(u43)::(u44)::(u45)::(u46)::(u47)::(u48)::(u49)::(u50)::(u51)::(u52)::(u53)::(u54)::(u55)::(u56)::(u57)::(u58)::(u59)::(u60)::(u61)::(u62)::(u63)::(u64)::(u65)::(u66)::(u67)::(u68)::(u69)::(u70)::(u71)::(u72)::(u73)::(u74)::(u75)::(u76)::(u77)::(u78)::(u79)::(u80)::(u81)::(u82)::(u83)::(u84)::(u85)::(u86)::(u87)::(u88)::(u89)::(u90)::(u91)::(u92)::(u93)::(u94)::(u95)::(u96)::(u97)::(u98)::(u99)::(u100)::(u101)::(u102)::(u103)::(u104)::(u105)::(u106)::(u107)::(u108)::(u109)::(u110)::(u111)::(u112)::(u113)::(u114)::(u115)::(u116)::(u117)::(.int .i64 (↑p+1))::(.bool true)::(u120)::(u121)::(.agg #[.slice a1 m.xs.length c1,.slice a2 m.ys.length c2,.slice (some ⟨g3,o3,none⟩) m.is.length c3,.slice (some ⟨g4,o4,none⟩) m.bs.length c4,.slice a5 m.fs.length c5,.slice a6 m.ds.length c6,.int .i64 m.nx])::(.int .i64 (↑p+1))::(.agg #[.bool kd,.slice s1 xs.length t1,.string tx])::(x 0)::(x 1)::(x 2)::(x 3)::(x 4)::(x 5)::(x 6)::(x 7)::(x 8)::(x 9)::(x 10)::(x 11)::(x 12)::(x 13)::(x 14)::(x 15)::(x 16)::(x 17)::(x 18)::(u144)::(u145)::(u146)::(u147)::(u148)::(u149)::(u150)::(u151)::(u152)::(u153)::(u154)::(u155)::(u156)::(u157)::(u158)::(u159)::(u160)::(u161)::(u162)::(u163)::(u164)::(u165)::(u166)::(u167)::(u168)::(u169)::(u170)::(u171)::(u172)::(u173)::(u174)::(undef)::(undef)::(undef)::(undef)::(undef)::(undef)::(undef)::(undef)::(undef)::(undef)::(undef)::[]),[]⟩) (fun i=>match i with|0=>u125|1=>u126|2=>u127|3=>u128|4=>u129|5=>u130|6=>u131|7=>u132|8=>u133|9=>u134|10=>u135|11=>u136|12=>u137|13=>u138|14=>u139|15=>u140|16=>u141|17=>u142|18=>u143|_=>undef) rfl (zat (by kernel_rfl) (by kernel_rfl)) (by kernel_rfl) (by kernel_rfl) (by kernel_rfl) rfl ?_ ?_ (by intro q hq;cases hq)
      ·intro jo hj so x iw W hd hp K hK;simp only [List.mem_cons,List.not_mem_nil,or_false] at hj;rcases hj with rfl|rfl|rfl|rfl|rfl|rfl|rfl|rfl|rfl|rfl|rfl|rfl|rfl|rfl|rfl|rfl|rfl|rfl|rfl<;>refine wpOp_step (o:=_) rfl fun K' hK'=>?_<;>have HK:=hide (fun (v:Value) (W':World) h1 h2=>hK' _ _ (hK v W' h1 h2))<;>simp only [upd,Nat.reduceEqDiff,if_true,if_false] at HK
       ·exact cQ9
       ·exact cQ78
       ·exact cQ9
       ·have e2:x 2=.pointer (some ⟨V,0,none⟩):=hp.post 2 (hd 2 mz0);simp only [e2] at HK ⊢;go_simp;exact HK.out _ _ bR rfl
       ·have e3:x 3=.pointer (some ⟨V,3,none⟩):=hp.post 3 (hd 3 mz0);have bw:=HW.out W (zac hp.bel);have bv:=(HS.out W bw.1).2.1;have q:=bv.c3;clear bw bv;simp only [e3] at HK ⊢;go_simp;exact HK.out _ _ bR rfl
       ·exact cQ9
       ·have e5:x 5=.int .i64 ((p:Int)+1):=hp.post 5 (hd 5 mz0);simp only [e5] at HK ⊢;go_simp;exact HK.out _ _ bR (by show Value.int _ _=Value.int _ _;rw [HWR.out])
       ·have e4:x 4=.slice (some ⟨g4,o4,none⟩) m.bs.length c4:=hp.post 4 (hd 4 mz0);have e6:x 6=.int .i64 (p:Int):=hp.post 6 (hd 6 mz1);simp only [e4,e6] at HK ⊢;go_simp;exact HK.out _ _ bR rfl
       ·have e7:x 7=.pointer (some ⟨g4,o4+p * 3,none⟩):=hp.post 7 (hd 7 mz0);simp only [e7] at HK ⊢;go_simp;exact HK.out _ _ bR rfl
       ·have e8:x 8=.pointer (some ⟨g4,o4+p * 3,none⟩):=hp.post 8 (hd 8 mz0);have bw:=HW.out W (zac hp.bel);have q:=bw.2.2.2.2.1;clear bw;simp only [e8] at HK ⊢;go_simp;exact HK.out _ _ bR rfl
       ·have e1:x 1=.bool kd:=hp.post 1 (hd 1 mz0);have e9:x 9=.bool kd:=hp.post 9 (hd 9 mz1);simp only [e1,e9] at HK ⊢;go_simp;exact HK.out _ _ bR rfl
       ·have e10:x 10=.bool false:=hp.post 10 (hd 10 mz0);simp only [e10] at HK ⊢;go_simp;exact HK.out _ _ bR rfl
       ·have e11:x 11=.bool false:=hp.post 11 (hd 11 mz0);have bw:=HW.out W (zac hp.bel);have q:=bw.2.1.c0;have q1:=bw.2.1.c1;have q2:=bw.2.1.c2;clear bw;simp only [e11] at HK ⊢;go_simp;exact HK.out _ _ bR rfl
       ·have e11:x 11=.bool false:=hp.post 11 (hd 11 mz0);have bw:=HW.out W (zac hp.bel);have bv:=(HS.out W bw.1).2.1;obtain ⟨k0,k1,k2,k3,k4,k5,k6⟩:=AtC.sev bv;clear bw bv;simp only [e11] at HK ⊢;go_simp;exact HK.out _ _ bR rfl
       ·exact cQ117
       ·have e13:x 13=.agg #[.slice a1 m.xs.length c1,.slice a2 m.ys.length c2,.slice (some ⟨g3,o3,none⟩) m.is.length c3,.slice (some ⟨g4,o4,none⟩) m.bs.length c4,.slice a5 m.fs.length c5,.slice a6 m.ds.length c6,.int .i64 m.nx]:=hp.post 13 (hd 13 mz0);have e14:x 14=.int .i64 ((p:Int)+1):=hp.post 14 (hd 14 mz1);have e11:x 11=.bool false:=hp.post 11 (hd 11 mz2);have bw:=HW.out W (zac hp.bel);simp only [e13,e14,e11] at HK ⊢;clear e13 e14 e11;go_simp;refine (CS.out W (HS.out W bw.1).1).mono ?_;rintro e w6 ⟨v6,rfl,O6,B6⟩;have HO6:=hide O6.rsl;clear O6;go_simp;exact HK.out _ _ B6 ⟨v6,rfl,HO6.out⟩
       ·have e12:x 12=.agg #[.bool kd,.slice s1 xs.length t1,.string tx]:=hp.post 12 (hd 12 mz0);have e15:∃ u,x 15=.agg #[.bool kd,u,.string tx]/\RSl W u xs:=hp.post 15 (hd 15 mz1);have e11:x 11=.bool false:=hp.post 11 (hd 11 mz2);have bw:=HW.out W (zac hp.bel);obtain ⟨u,e15,O2⟩:=e15;simp only [e12,e15,e11] at HK ⊢;clear e12 e15 e11;go_simp;refine (zii kd _ _ tx xs W bw.2.2.1 O2 (by have:=HXL.out;have:=HSL.out;omega)).mono ?_;rintro e w6 ⟨rfl,B6⟩;go_simp;exact HK.out _ _ B6 rfl
       ·have e16:x 16=.bool true:=hp.post 16 (hd 16 mz0);have e11:x 11=.bool false:=hp.post 11 (hd 11 mz1);simp only [e16,e11] at HK ⊢;go_simp;exact HK.out _ _ bR rfl
       ·have e11:x 11=.bool false:=hp.post 11 (hd 11 mz0);have e17:x 17=.bool false:=hp.post 17 (hd 17 mz1);simp only [e11,e17] at HK ⊢;go_simp;exact HK.out _ _ bR rfl
      ·intro x iw W hp;have e18:x 18=.bool false:=hp.post 18 (by decide);have HQ:=hide (HW.out W (zac hp.bel));simp only [e18];clear hp e18;generalize x 0=yy0 at *;generalize x 1=yy1 at *;generalize x 2=yy2 at *;generalize x 3=yy3 at *;generalize x 4=yy4 at *;generalize x 5=yy5 at *;generalize x 6=yy6 at *;generalize x 7=yy7 at *;generalize x 8=yy8 at *;generalize x 9=yy9 at *;generalize x 10=yy10 at *;generalize x 11=yy11 at *;generalize x 12=yy12 at *;generalize x 13=yy13 at *;generalize x 14=yy14 at *;generalize x 15=yy15 at *;generalize x 16=yy16 at *;generalize x 17=yy17 at *;generalize x 18=yy18 at *;try rw [List.filterMap_nil]
       clear x HW CS;go_wp2_with fail
       obtain ⟨W5,hW5⟩:∃ W5,W5=W:=⟨_,rfl⟩
       subst hW5;have HR:Hid (∀ W',Below W5.heap.size W5 W'->Below W0.heap.size W0 W'/\AtC W' bx 44 #[.bool kd,.slice s1 xs.length t1,.string tx]/\RSl W' (.slice s1 xs.length t1) xs/\RSl W' (.slice sa ss.length sc) ss/\W'.cell? ⟨g4,o4+p * 3+1,none⟩=some (.slice sa ss.length sc)):=by
        obtain ⟨q1,q2,q3,q4,q5,q6,q7⟩:=HQ.out;exact fun W' b=>⟨q1.trans (b.mono q1.size),q2.over b,q3.below b nR,q4.below b nR,(b.cell (p:=⟨g4,o4+p * 3+1,none⟩) q7).trans q6⟩
       clear HQ;go_loopw [12] (fun i wr=>∃ s:Nat,s<=xs.length/\i=.int .i64 s/\Hid (Below W5.heap.size W5 wr)) (fun i _=>xs.length - (intOf i).toNat)
       case atStart=>exact ⟨0,by omega,rfl,Below.refl _ _⟩
       case round =>
        obtain ⟨s,hs,rfl,HK⟩:=hrel;obtain ⟨wk,hwk⟩:∃ wk,wk=wr:=⟨_,rfl⟩
        subst hwk;have x1:=(HR.out wk HK.out).2.1.c1;have hx4:xs.length<=4:=by rw [HXL.out];exact HSL.out
        by_cases hs2:s < xs.length
        case pos =>
         as_aux_lemma =>
         obtain ⟨b0,bX,rX,rY,c9⟩:=HR.out wk HK.out;have kx:s < xs.length:=hs2;have ky:s < ss.length:=by rw [← HXL.out];exact hs2
         obtain ⟨g8,o8,rfl,hg8,v8,v9⟩:∃ g o,s1=some ⟨g,o,none⟩/\g < wk.heap.size/\wk.cell? ⟨g,o+s * 2,none⟩=some (.string xs[s].1)/\wk.cell? ⟨g,o+s * 2+1,none⟩=some (.int .i64 xs[s].2):=by
          obtain ⟨a',c',e',-,hh⟩:=rX;simp only [Value.slice.injEq,true_and] at e';obtain ⟨rfl,rfl⟩:=e';obtain ⟨g,o,e,hv⟩:=hh s kx;exact ⟨g,o,e,hv⟩
         obtain ⟨g7,o7,rfl,hg7,v6,v7⟩:∃ g o,sa=some ⟨g,o,none⟩/\g < wk.heap.size/\wk.cell? ⟨g,o+s * 2,none⟩=some (.string ss[s].1)/\wk.cell? ⟨g,o+s * 2+1,none⟩=some (.int .i64 ss[s].2):=by
          obtain ⟨a',c',e',-,hh⟩:=rY;simp only [Value.slice.injEq,true_and] at e';obtain ⟨rfl,rfl⟩:=e';obtain ⟨g,o,e,hv⟩:=hh s ky;exact ⟨g,o,e,hv⟩
         have k0:(0:Int)<=(s:Int):=by omega
         have kx1:(s:Int) < (xs.length:Int):=by omega
         have ky1:(s:Int) < (ss.length:Int):=by omega
         have hg:=HG.out s;rw [List.getElem?_eq_getElem kx,List.getElem?_eq_getElem ky] at hg;generalize xs[s]=xk at v8 v9 hg;generalize ss[s]=pk at v6 v7 hg;have HN:Hid (∀ W,Below wk.heap.size wk W->Below W5.heap.size W5 W/\Below W0.heap.size W0 W/\AtC W bx 44 #[.bool kd,.slice (some ⟨g8,o8,none⟩) xs.length t1,.string tx]/\W.cell? ⟨g4,o4+p * 3+1,none⟩=some (.slice (some ⟨g7,o7,none⟩) ss.length sc)/\W.cell? ⟨g8,o8+s * 2,none⟩=some (.string xk.1)/\W.cell? ⟨g8,o8+s * 2+1,none⟩=some (.int .i64 xk.2)/\W.cell? ⟨g7,o7+s * 2,none⟩=some (.string pk.1)/\W.cell? ⟨g7,o7+s * 2+1,none⟩=some (.int .i64 pk.2)):=fun W b=>by
          have b5:=HK.out.trans (b.mono HK.out.size);have q:=HR.out W b5;exact ⟨b5,q.1,q.2.1,q.2.2.2.2,(b.cell (p:=⟨g8,o8+s * 2,none⟩) hg8).trans v8,(b.cell (p:=⟨g8,o8+s * 2+1,none⟩) hg8).trans v9,(b.cell (p:=⟨g7,o7+s * 2,none⟩) hg7).trans v6,(b.cell (p:=⟨g7,o7+s * 2+1,none⟩) hg7).trans v7⟩
         have CD:=hide (fun W (h:MR W (.slice a1 m.xs.length c1) (.slice a2 m.ys.length c2) (.slice (some ⟨g3,o3,none⟩) m.is.length c3) (.slice (some ⟨g4,o4,none⟩) m.bs.length c4) (.slice a5 m.fs.length c5) (.slice a6 m.ds.length c6) m)=>zik _ _ _ _ _ _ m ((p:Int)+1) (s:Int) W h (by omega));generalize depAt ((p:Int)+1) (s:Int) m.ds=R at CD hg;clear b0 bX rX rY c9 v8 v9 v6 v7 hg8 hg7 HR;by_cases hR:R=0
         case pos =>
          obtain rfl:xk=pk:=Option.some.inj (hg hR);subst hR;obtain ⟨xn,xz⟩:=xk;simp only at HN;clear hg;go_upto_region 30 with fail
          clear x1;refine zar (by kernel_rfl) [0,1,2,3,4,5,6,7,8,9,10,11,12,13,14,15,16,17,18,19,20,21,22,23] [] [] (fun i=>match i with|0=>.const [] (.agg #[.slice a1 m.xs.length c1,.slice a2 m.ys.length c2,.slice (some ⟨g3,o3,none⟩) m.is.length c3,.slice (some ⟨g4,o4,none⟩) m.bs.length c4,.slice a5 m.fs.length c5,.slice a6 m.ds.length c6,.int .i64 m.nx])|1=>.const [] (.int .i64 ((p:Int)+1))|2=>.const [] (.int .i64 (s:Int))|3=>.const [0,1,2] (.int .i64 0)|4=>.const [3] (.bool true)|5=>.const [4] (.bool true)|6=>.const [5] (.pointer (some ⟨bx,1,none⟩))|7=>.const [6,5] (.slice (some ⟨g8,o8,none⟩) xs.length t1)|8=>.const [5] (.int .i64 (s:Int))|9=>.const [7,8,5] (.pointer (some ⟨g8,o8+s * 2,none⟩))|10=>.const [9,5] (.agg #[.string xn,.int .i64 xz])|11=>.const [5] (.pointer (some ⟨V,0,none⟩))|12=>.const [11,5] (.pointer (some ⟨V,3,none⟩))|13=>.const [12,5] (.slice (some ⟨g4,o4,none⟩) m.bs.length c4)|14=>.const [5] (.int .i64 ((p:Int)+1))|15=>.const [14,5] (.int .i64 (p:Int))|16=>.const [13,15,5] (.pointer (some ⟨g4,o4+p * 3,none⟩))|17=>.const [16,5] (.pointer (some ⟨g4,o4+p * 3+1,none⟩))|18=>.const [17,5] (.slice (some ⟨g7,o7,none⟩) ss.length sc)|19=>.const [5] (.int .i64 (s:Int))|20=>.const [18,19,5] (.pointer (some ⟨g7,o7+s * 2,none⟩))|21=>.const [20,5] (.agg #[.string xn,.int .i64 xz])|22=>.const [10,21,5] (.bool false)|23=>.const [5,22] (.bool false)|_=>.triv) (fun x=>⟨List.toArray ((.slice a len cap)::(undef)::(u2)::(.pointer (some ⟨V,0,none⟩))::(.int .i64 9)::(u5)::(u6)::(u7)::(u8)::(u9)::(.int .i64 (↑p+1))::(.pointer (some ⟨bx,0,none⟩))::(.int .i64 ↑s)::(.slice a len cap)::(.bool false)::(.slice a len cap)::(.agg #[.slice a1 m.xs.length c1,.slice a2 m.ys.length c2,.slice (some ⟨g3,o3,none⟩) m.is.length c3,.slice (some ⟨g4,o4,none⟩) m.bs.length c4,.slice a5 m.fs.length c5,.slice a6 m.ds.length c6,.int .i64 m.nx])::(.int .i64 9)::(.bool false)::(u19)::(u20)::(u21)::(u22)::(u23)::(u24)::(u25)::(u26)::(u27)::(u28)::(u29)::(u30)::(u31)::(u32)::(u33)::(u34)::(u35)::(u36)::(u37)::(u38)::(u39)::(u40)::(u41)::(u42)::(u43)::(u44)::(u45)::(u46)::(u47)::(u48)::(u49)::(u50)::(u51)::(u52)::(u53)::(u54)::(u55)::(u56)::(u57)::(u58)::(u59)::(u60)::(u61)::(u62)::(u63)::(u64)::(u65)::(u66)::(u67)::(u68)::(u69)::(u70)::(u71)::(u72)::(u73)::(u74)::(u75)::(u76)::(u77)::(u78)::(u79)::(u80)::(u81)::(u82)::(u83)::(u84)::(u85)::(u86)::(u87)::(u88)::(u89)::(u90)::(u91)::(u92)::(u93)::(u94)::(u95)::(u96)::(u97)::(u98)::(u99)::(u100)::(u101)::(u102)::(u103)::(u104)::(u105)::(u106)::(u107)::(u108)::(u109)::(u110)::(u111)::(u112)::(u113)::(u114)::(u115)::(u116)::(u117)::(.int .i64 (↑p+1))::(.bool true)::(u120)::(u121)::(.agg #[.slice a1 m.xs.length c1,.slice a2 m.ys.length c2,.slice (some ⟨g3,o3,none⟩) m.is.length c3,.slice (some ⟨g4,o4,none⟩) m.bs.length c4,.slice a5 m.fs.length c5,.slice a6 m.ds.length c6,.int .i64 m.nx])::(.int .i64 (↑p+1))::(.agg #[.bool kd,.slice (some ⟨g8,o8,none⟩) xs.length t1,.string tx])::(yy0)::(yy1)::(yy2)::(yy3)::(yy4)::(yy5)::(yy6)::(yy7)::(yy8)::(yy9)::(yy10)::(yy11)::(yy12)::(yy13)::(yy14)::(yy15)::(yy16)::(yy17)::(.bool false)::(.int .i64 ↑s)::(.pointer (some ⟨bx,1,none⟩))::(.slice (some ⟨g8,o8,none⟩) xs.length t1)::(.int .i64 ↑xs.length)::(.bool true)::(u149)::(u150)::(x 0)::(x 1)::(x 2)::(x 3)::(x 4)::(x 5)::(x 6)::(x 7)::(x 8)::(x 9)::(x 10)::(x 11)::(x 12)::(x 13)::(x 14)::(x 15)::(x 16)::(x 17)::(x 18)::(x 19)::(x 20)::(x 21)::(x 22)::(x 23)::(undef)::(undef)::(undef)::(undef)::(undef)::(undef)::(undef)::(undef)::(undef)::(undef)::(undef)::[]),[]⟩) (fun i=>match i with|0=>u151|1=>u152|2=>u153|3=>u154|4=>u155|5=>u156|6=>u157|7=>u158|8=>u159|9=>u160|10=>u161|11=>u162|12=>u163|13=>u164|14=>u165|15=>u166|16=>u167|17=>u168|18=>u169|19=>u170|20=>u171|21=>u172|22=>u173|23=>u174|_=>undef) rfl (zat (by kernel_rfl) (by kernel_rfl)) (by kernel_rfl) (by kernel_rfl) (by kernel_rfl) rfl ?_ ?_ (by intro q hq;cases hq)
          ·intro jo hj so x iw W hd hp K hK;simp only [List.mem_cons,List.not_mem_nil,or_false] at hj;rcases hj with rfl|rfl|rfl|rfl|rfl|rfl|rfl|rfl|rfl|rfl|rfl|rfl|rfl|rfl|rfl|rfl|rfl|rfl|rfl|rfl|rfl|rfl|rfl|rfl<;>refine wpOp_step (o:=_) rfl fun K' hK'=>?_<;>have HK:=hide (fun (v:Value) (W':World) h1 h2=>hK' _ _ (hK v W' h1 h2))<;>simp only [upd,Nat.reduceEqDiff,if_true,if_false] at HK
           ·exact cQ91
           ·exact cQ9
           ·exact cQ9
           ·exact cQ35
           ·have e3:x 3=.int .i64 0:=hp.post 3 (hd 3 mz0);simp only [e3] at HK ⊢;go_simp;exact HK.out _ _ bR rfl
           ·have e4:x 4=.bool true:=hp.post 4 (hd 4 mz0);simp only [e4] at HK ⊢;go_simp;exact HK.out _ _ bR rfl
           ·exact cQ45
           ·have e6:x 6=.pointer (some ⟨bx,1,none⟩):=hp.post 6 (hd 6 mz0);have e5:x 5=.bool true:=hp.post 5 (hd 5 mz1);have bw:=HN.out W (zac hp.bel);have q:=bw.2.2.1.c1;clear bw;simp only [e6,e5] at HK ⊢;go_simp;exact HK.out _ _ bR rfl
           ·exact cQ45
           ·have e7:x 7=.slice (some ⟨g8,o8,none⟩) xs.length t1:=hp.post 7 (hd 7 mz0);have e8:x 8=.int .i64 (s:Int):=hp.post 8 (hd 8 mz1);have e5:x 5=.bool true:=hp.post 5 (hd 5 mz2);simp only [e7,e8,e5] at HK ⊢;go_simp;exact HK.out _ _ bR rfl
           ·have e9:x 9=.pointer (some ⟨g8,o8+s * 2,none⟩):=hp.post 9 (hd 9 mz0);have e5:x 5=.bool true:=hp.post 5 (hd 5 mz1);have bw:=HN.out W (zac hp.bel);have q:=bw.2.2.2.2.1;have q1:=bw.2.2.2.2.2.1;clear bw;simp only [e9,e5] at HK ⊢;go_simp;exact HK.out _ _ bR rfl
           ·exact cQ45
           ·have e11:x 11=.pointer (some ⟨V,0,none⟩):=hp.post 11 (hd 11 mz0);have e5:x 5=.bool true:=hp.post 5 (hd 5 mz1);simp only [e11,e5] at HK ⊢;go_simp;exact HK.out _ _ bR rfl
           ·have e12:x 12=.pointer (some ⟨V,3,none⟩):=hp.post 12 (hd 12 mz0);have e5:x 5=.bool true:=hp.post 5 (hd 5 mz1);have bw:=HN.out W (zac hp.bel);have bv:=(HS.out W bw.2.1).2.1;have q:=bv.c3;clear bw bv;simp only [e12,e5] at HK ⊢;go_simp;exact HK.out _ _ bR rfl
           ·exact cQ45
           ·have e14:x 14=.int .i64 ((p:Int)+1):=hp.post 14 (hd 14 mz0);have e5:x 5=.bool true:=hp.post 5 (hd 5 mz1);simp only [e14,e5] at HK ⊢;go_simp;exact HK.out _ _ bR (by show Value.int _ _=Value.int _ _;rw [HWR.out])
           ·have e13:x 13=.slice (some ⟨g4,o4,none⟩) m.bs.length c4:=hp.post 13 (hd 13 mz0);have e15:x 15=.int .i64 (p:Int):=hp.post 15 (hd 15 mz1);have e5:x 5=.bool true:=hp.post 5 (hd 5 mz2);simp only [e13,e15,e5] at HK ⊢;go_simp;exact HK.out _ _ bR rfl
           ·have e16:x 16=.pointer (some ⟨g4,o4+p * 3,none⟩):=hp.post 16 (hd 16 mz0);have e5:x 5=.bool true:=hp.post 5 (hd 5 mz1);simp only [e16,e5] at HK ⊢;go_simp;exact HK.out _ _ bR rfl
           ·have e17:x 17=.pointer (some ⟨g4,o4+p * 3+1,none⟩):=hp.post 17 (hd 17 mz0);have e5:x 5=.bool true:=hp.post 5 (hd 5 mz1);have bw:=HN.out W (zac hp.bel);have q:=bw.2.2.2.1;clear bw;simp only [e17,e5] at HK ⊢;go_simp;exact HK.out _ _ bR rfl
           ·exact cQ45
           ·have e18:x 18=.slice (some ⟨g7,o7,none⟩) ss.length sc:=hp.post 18 (hd 18 mz0);have e19:x 19=.int .i64 (s:Int):=hp.post 19 (hd 19 mz1);have e5:x 5=.bool true:=hp.post 5 (hd 5 mz2);simp only [e18,e19,e5] at HK ⊢;go_simp;exact HK.out _ _ bR rfl
           ·have e20:x 20=.pointer (some ⟨g7,o7+s * 2,none⟩):=hp.post 20 (hd 20 mz0);have e5:x 5=.bool true:=hp.post 5 (hd 5 mz1);have bw:=HN.out W (zac hp.bel);have q:=bw.2.2.2.2.2.2.1;have q1:=bw.2.2.2.2.2.2.2;clear bw;simp only [e20,e5] at HK ⊢;go_simp;exact HK.out _ _ bR rfl
           ·have e10:x 10=.agg #[.string xn,.int .i64 xz]:=hp.post 10 (hd 10 mz0);have e21:x 21=.agg #[.string xn,.int .i64 xz]:=hp.post 21 (hd 21 mz1);have e5:x 5=.bool true:=hp.post 5 (hd 5 mz2);simp only [e10,e21,e5] at HK ⊢;go_simp;exact HK.out _ _ bR rfl
           ·have e5:x 5=.bool true:=hp.post 5 (hd 5 mz0);have e22:x 22=.bool false:=hp.post 22 (hd 22 mz1);simp only [e5,e22] at HK ⊢;go_simp;exact HK.out _ _ bR rfl
          ·exact cQ27
         case neg =>
          have n0:(R == 0)=false:=by simp [hR]
          clear hg;go_upto_region 30 with fail
          clear x1;refine zar (by kernel_rfl) [0,1,2,3,4,5,6,7,8,9,10,11,12,13,14,15,16,17,18,19,20,21,22,23] [] [] (fun i=>match i with|0=>.const [] (.agg #[.slice a1 m.xs.length c1,.slice a2 m.ys.length c2,.slice (some ⟨g3,o3,none⟩) m.is.length c3,.slice (some ⟨g4,o4,none⟩) m.bs.length c4,.slice a5 m.fs.length c5,.slice a6 m.ds.length c6,.int .i64 m.nx])|1=>.const [] (.int .i64 ((p:Int)+1))|2=>.const [] (.int .i64 (s:Int))|3=>.const [0,1,2] (.int .i64 R)|4=>.const [3] (.bool false)|5=>.const [4] (.bool false)|6=>.val [5] (fun _ _ _ _=>True) (fun _ _ _ _ _ _ _=>trivial)|7=>.val [5] (fun _ _ _ _=>True) (fun _ _ _ _ _ _ _=>trivial)|8=>.val [5] (fun _ _ _ _=>True) (fun _ _ _ _ _ _ _=>trivial)|9=>.val [5] (fun _ _ _ _=>True) (fun _ _ _ _ _ _ _=>trivial)|10=>.val [5] (fun _ _ _ _=>True) (fun _ _ _ _ _ _ _=>trivial)|11=>.val [5] (fun _ _ _ _=>True) (fun _ _ _ _ _ _ _=>trivial)|12=>.val [5] (fun _ _ _ _=>True) (fun _ _ _ _ _ _ _=>trivial)|13=>.val [5] (fun _ _ _ _=>True) (fun _ _ _ _ _ _ _=>trivial)|14=>.val [5] (fun _ _ _ _=>True) (fun _ _ _ _ _ _ _=>trivial)|15=>.val [5] (fun _ _ _ _=>True) (fun _ _ _ _ _ _ _=>trivial)|16=>.val [5] (fun _ _ _ _=>True) (fun _ _ _ _ _ _ _=>trivial)|17=>.val [5] (fun _ _ _ _=>True) (fun _ _ _ _ _ _ _=>trivial)|18=>.val [5] (fun _ _ _ _=>True) (fun _ _ _ _ _ _ _=>trivial)|19=>.val [5] (fun _ _ _ _=>True) (fun _ _ _ _ _ _ _=>trivial)|20=>.val [5] (fun _ _ _ _=>True) (fun _ _ _ _ _ _ _=>trivial)|21=>.val [5] (fun _ _ _ _=>True) (fun _ _ _ _ _ _ _=>trivial)|22=>.val [5] (fun _ _ _ _=>True) (fun _ _ _ _ _ _ _=>trivial)|23=>.const [5] (.bool false)|_=>.triv) (fun x=>⟨List.toArray ((.slice a len cap)::(undef)::(u2)::(.pointer (some ⟨V,0,none⟩))::(.int .i64 9)::(u5)::(u6)::(u7)::(u8)::(u9)::(.int .i64 (↑p+1))::(.pointer (some ⟨bx,0,none⟩))::(.int .i64 ↑s)::(.slice a len cap)::(.bool false)::(.slice a len cap)::(.agg #[.slice a1 m.xs.length c1,.slice a2 m.ys.length c2,.slice (some ⟨g3,o3,none⟩) m.is.length c3,.slice (some ⟨g4,o4,none⟩) m.bs.length c4,.slice a5 m.fs.length c5,.slice a6 m.ds.length c6,.int .i64 m.nx])::(.int .i64 9)::(.bool false)::(u19)::(u20)::(u21)::(u22)::(u23)::(u24)::(u25)::(u26)::(u27)::(u28)::(u29)::(u30)::(u31)::(u32)::(u33)::(u34)::(u35)::(u36)::(u37)::(u38)::(u39)::(u40)::(u41)::(u42)::(u43)::(u44)::(u45)::(u46)::(u47)::(u48)::(u49)::(u50)::(u51)::(u52)::(u53)::(u54)::(u55)::(u56)::(u57)::(u58)::(u59)::(u60)::(u61)::(u62)::(u63)::(u64)::(u65)::(u66)::(u67)::(u68)::(u69)::(u70)::(u71)::(u72)::(u73)::(u74)::(u75)::(u76)::(u77)::(u78)::(u79)::(u80)::(u81)::(u82)::(u83)::(u84)::(u85)::(u86)::(u87)::(u88)::(u89)::(u90)::(u91)::(u92)::(u93)::(u94)::(u95)::(u96)::(u97)::(u98)::(u99)::(u100)::(u101)::(u102)::(u103)::(u104)::(u105)::(u106)::(u107)::(u108)::(u109)::(u110)::(u111)::(u112)::(u113)::(u114)::(u115)::(u116)::(u117)::(.int .i64 (↑p+1))::(.bool true)::(u120)::(u121)::(.agg #[.slice a1 m.xs.length c1,.slice a2 m.ys.length c2,.slice (some ⟨g3,o3,none⟩) m.is.length c3,.slice (some ⟨g4,o4,none⟩) m.bs.length c4,.slice a5 m.fs.length c5,.slice a6 m.ds.length c6,.int .i64 m.nx])::(.int .i64 (↑p+1))::(.agg #[.bool kd,.slice (some ⟨g8,o8,none⟩) xs.length t1,.string tx])::(yy0)::(yy1)::(yy2)::(yy3)::(yy4)::(yy5)::(yy6)::(yy7)::(yy8)::(yy9)::(yy10)::(yy11)::(yy12)::(yy13)::(yy14)::(yy15)::(yy16)::(yy17)::(.bool false)::(.int .i64 ↑s)::(.pointer (some ⟨bx,1,none⟩))::(.slice (some ⟨g8,o8,none⟩) xs.length t1)::(.int .i64 ↑xs.length)::(.bool true)::(u149)::(u150)::(x 0)::(x 1)::(x 2)::(x 3)::(x 4)::(x 5)::(x 6)::(x 7)::(x 8)::(x 9)::(x 10)::(x 11)::(x 12)::(x 13)::(x 14)::(x 15)::(x 16)::(x 17)::(x 18)::(x 19)::(x 20)::(x 21)::(x 22)::(x 23)::(undef)::(undef)::(undef)::(undef)::(undef)::(undef)::(undef)::(undef)::(undef)::(undef)::(undef)::[]),[]⟩) (fun i=>match i with|0=>u151|1=>u152|2=>u153|3=>u154|4=>u155|5=>u156|6=>u157|7=>u158|8=>u159|9=>u160|10=>u161|11=>u162|12=>u163|13=>u164|14=>u165|15=>u166|16=>u167|17=>u168|18=>u169|19=>u170|20=>u171|21=>u172|22=>u173|23=>u174|_=>undef) rfl (zat (by kernel_rfl) (by kernel_rfl)) (by kernel_rfl) (by kernel_rfl) (by kernel_rfl) rfl ?_ ?_ (by intro q hq;cases hq)
          ·intro jo hj so x iw W hd hp K hK;simp only [List.mem_cons,List.not_mem_nil,or_false] at hj;rcases hj with rfl|rfl|rfl|rfl|rfl|rfl|rfl|rfl|rfl|rfl|rfl|rfl|rfl|rfl|rfl|rfl|rfl|rfl|rfl|rfl|rfl|rfl|rfl|rfl<;>refine wpOp_step (o:=_) rfl fun K' hK'=>?_<;>have HK:=hide (fun (v:Value) (W':World) h1 h2=>hK' _ _ (hK v W' h1 h2))<;>simp only [upd,Nat.reduceEqDiff,if_true,if_false] at HK
           ·exact cQ91
           ·exact cQ9
           ·exact cQ9
           ·exact cQ35
           ·have e3:x 3=.int .i64 R:=hp.post 3 (hd 3 mz0);simp only [e3] at HK ⊢;go_simp;exact HK.out _ _ bR rfl
           ·exact cQ122
           ·exact cQ11
           ·exact cQ11
           ·exact cQ11
           ·exact cQ11
           ·exact cQ11
           ·exact cQ11
           ·exact cQ11
           ·exact cQ11
           ·exact cQ11
           ·exact cQ11
           ·exact cQ11
           ·exact cQ11
           ·exact cQ11
           ·exact cQ11
           ·exact cQ11
           ·exact cQ11
           ·exact cQ11
           ·exact cQ73
          ·exact cQ27
        case neg =>
         go_wp2;go_roundw
         case rel =>
          repeat apply Exists.intro
          exact ⟨⟨p+1,by omega,by go_num,(HR.out wk HK.out).1⟩,rfl⟩
         case measure=>simp [intOf];omega
     case neg =>
      as_aux_lemma =>
      obtain rfl:p=16:=by omega
      obtain ⟨hmr,hbox,hbel,hsz⟩:=HS.out wr HB.out;obtain ⟨k0,k1,k2,k3,k4,k5,k6⟩:=AtC.sev hbox;have hI:imgI m 99=(0,zak 0,[0,0]):=by unfold imgI;rw [if_neg (by decide)]
      have CI:=hide (fun W (h:MR W (.slice a1 m.xs.length c1) (.slice a2 m.ys.length c2) (.slice (some ⟨g3,o3,none⟩) m.is.length c3) (.slice (some ⟨g4,o4,none⟩) m.bs.length c4) (.slice a5 m.fs.length c5) (.slice a6 m.ds.length c6) m)=>zed _ _ _ _ _ _ m 99 W h HM.out);simp only [hI] at CI;have HX:=hide (And.intro hmr hbox);clear hmr hbox hbel hI;go_wp2_with fail
      refine (CI.out _ HX.out.1).mono ?_;rintro e w2 ⟨v9,rfl,O1,b1⟩;obtain ⟨s1,t1,rfl⟩:=O1.rints.form;have hb2:=HX.out.2.over b1;obtain ⟨l0,l1,l2,l3,l4,l5,l6⟩:=AtC.sev hb2;have HB2:=hide (HB.out.trans (b1.mono HB.out.size));clear O1 b1 hb2 k0 k1 k2 k3 k4 k5 k6;go_wp2_with fail
      simp only [fld0];go_wp2_with fail
      refine (CI.out _ (HS.out _ HB2.out).1).mono ?_;rintro e w3 ⟨v8,rfl,O2,b2⟩;obtain ⟨s2,t2,rfl⟩:=O2.rints.form;have HB3:=hide (HS.out _ (HB2.out.trans (b2.mono HB2.out.size))).2.2.1;clear O2 b2 l0 l1 l2 l3 l4 l5 l6;go_wp2_with fail
      simp only [fld2];go_wp2;go_ret;exact ⟨rfl,HB3.out⟩
end fnImages
end Go.Proofs.YtmbimpmebfoglaaGreat
