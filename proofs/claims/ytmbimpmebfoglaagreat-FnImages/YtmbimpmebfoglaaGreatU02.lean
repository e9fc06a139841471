/- Texts of the proof, bundled. -/
import Derived.RegionTactic
import Derived.BigRegion
import Derived.Test.YtmbimpmebfoglaaGreatRows
import Derived.Deep.RegionWith
import Derived.Deep.QuietTactic
import Derived.BigQuiet
import Derived.Deep.RegionHeld3
import Derived.Deep.DeepCutAuto
import Derived.Deep.CutRange
import Derived.Deep.OwnRows
import Derived.Lib.AppendStr
import Derived.Test.YtmbimpmebfoglaaGreatU01
set_option maxRecDepth 100000
set_option maxHeartbeats 12800000
namespace Go.Proofs.YtmbimpmebfoglaaGreat
namespace Kit
open Go.RowKit
theorem MO.turnX {w w':World}{S:Nat->Prop}{u v iv bv dv pv:Value}{m:MD}(h:MO w S u v iv bv dv pv m){l:List Bool}(hr:ROwns w' 0 4 u (fc l))(hg:w.grownBy w' u.ownBlock):MO w' S u v iv bv dv pv { m with xs:=l }:=by
 obtain ⟨S1,S2,S3,ts,h1,h2,h3,h4,h5,h6,h7⟩:=h;obtain ⟨T1,T2,T3,ti,tb,k1,k2,k3,k4,k5,k6,k7⟩:=h1;have un:∀ k,k < w.heap.size->u.ownBlock≠some k->w'.heap[k]?=w.heap[k]?:=fun k hk hne=>hg.block k hk (fun e=>hne e.symm);exact ⟨S1,S2,S3,ts,⟨T1,T2,T3,ti,tb,⟨hr,k1.b.of_heap fun k hk=>un k (k1.b.lt k hk).2 fun e=>k1.ne k e hk,k1.ne⟩,k2,k3.of_heap fun k hs hk=>un k hk fun e=>(k5 k (k2 k (.inl e))).1 hs,k4.of_heap fun k hs hk=>un k hk fun e=>(k5 k (k2 k (.inl e))).2 hs,k5,k6,k7⟩,h2.of_heap fun k hk=>un k (h2.lt k hk).2 fun e=>(h5 k (k7 k (.inl (k2 k (.inl e))))).1 (h3 k hk),h3,h4.of_heap fun k hs hk=>un k hk fun e=>(h5 k (k7 k (.inl (k2 k (.inl e))))).2 hs,h5,h6,h7⟩
theorem MO.turnY {w w':World}{S:Nat->Prop}{u v iv bv dv pv:Value}{m:MD}(h:MO w S u v iv bv dv pv m){l:List Bool}(hr:ROwns w' 0 4 v (fc l))(hg:w.grownBy w' v.ownBlock):MO w' S u v iv bv dv pv { m with ys:=l }:=by
 obtain ⟨S1,S2,S3,ts,h1,h2,h3,h4,h5,h6,h7⟩:=h;obtain ⟨T1,T2,T3,ti,tb,k1,k2,k3,k4,k5,k6,k7⟩:=h1;have un:∀ k,k < w.heap.size->v.ownBlock≠some k->w'.heap[k]?=w.heap[k]?:=fun k hk hne=>hg.block k hk (fun e=>hne e.symm);exact ⟨S1,S2,S3,ts,⟨T1,T2,T3,ti,tb,⟨k1.a.of_heap fun k hk=>un k (k1.a.lt k hk).2 fun e=>k1.ne k hk e,hr,k1.ne⟩,k2,k3.of_heap fun k hs hk=>un k hk fun e=>(k5 k (k2 k (.inr e))).1 hs,k4.of_heap fun k hs hk=>un k hk fun e=>(k5 k (k2 k (.inr e))).2 hs,k5,k6,k7⟩,h2.of_heap fun k hk=>un k (h2.lt k hk).2 fun e=>(h5 k (k7 k (.inl (k2 k (.inr e))))).1 (h3 k hk),h3,h4.of_heap fun k hs hk=>un k hk fun e=>(h5 k (k7 k (.inl (k2 k (.inr e))))).2 hs,h5,h6,h7⟩
theorem MO.turnF {w w':World}{S:Nat->Prop}{u v iv bv dv pv:Value}{m:MD}(h:MO w S u v iv bv dv pv m){l:List Bool}(hr:ROwns w' 0 4 dv (fc l))(hg:w.grownBy w' dv.ownBlock):MO w' S u v iv bv dv pv { m with fs:=l }:=by
 obtain ⟨S1,S2,S3,ts,h1,h2,h3,h4,h5,h6,h7⟩:=h;obtain ⟨T1,T2,T3,ti,tb,k1,k2,k3,k4,k5,k6,k7⟩:=h1;have un:∀ k,k < w.heap.size->dv.ownBlock≠some k->w'.heap[k]?=w.heap[k]?:=fun k hk hne=>hg.block k hk (fun e=>hne e.symm);exact ⟨S1,S2,S3,ts,DO.of_heap ⟨T1,T2,T3,ti,tb,k1,k2,k3,k4,k5,k6,k7⟩ fun k hs hk=>un k hk fun e=>(h5 k hs).1 (h3 k e),hr,h3,h4.of_heap fun k hs hk=>un k hk fun e=>h6 k (h3 k e) hs,h5,h6,h7⟩
def takeB (m:MD):MD:=if ff m.xs=0 then m else { m with xs:=m.xs.set (ff m.xs - 1) true,fs:=m.fs.set 0 true }
def takeI (m:MD):MD:=if ff m.ys=0 then m else { m with ys:=m.ys.set (ff m.ys - 1) true,fs:=m.fs.set 0 true }
end Kit
open Go.RowKit Kit
theorem zce (u v iv bv dv pv:Value)(m:MD)(w:World)(h:MR w u v iv bv dv pv m)(hB:BigM 1048576 m) :
  Calls Tryz.prog 99 #[.agg #[u,v,iv,bv,dv,pv,.int .i64 m.nx]] w fun e w'=>∃ u' v' i' b' d' p',e=.returned (.tuple #[.agg #[u',v',i',b',d',p',.int .i64 m.nx],.int .i64 (ff m.xs:Nat)])/\MO w' (fun k=>w.heap.size<=k) u' v' i' b' d' p' (takeB m)/\Below w.heap.size w w':=by
 have H:=hide h;have HG:=hide hB;have hxl:m.xs.length<=1048576:=hB.d.x;obtain ⟨a1,c1,a2,c2,a3,c3,a4,c4,a5,c5,a6,c6,rfl,rfl,rfl,rfl,rfl,rfl⟩:=h.form;clear h hB;have HC:Hid (∀ W,Below ((w.alloc (.cells #[.slice a1 m.xs.length c1,.slice a2 m.ys.length c2,.slice a3 m.is.length c3,.slice a4 m.bs.length c4,.slice a5 m.fs.length c5,.slice a6 m.ds.length c6,.int .i64 m.nx] 33)).alloc (.cells noM 33)).heap.size ((w.alloc (.cells #[.slice a1 m.xs.length c1,.slice a2 m.ys.length c2,.slice a3 m.is.length c3,.slice a4 m.bs.length c4,.slice a5 m.fs.length c5,.slice a6 m.ds.length c6,.int .i64 m.nx] 33)).alloc (.cells noM 33)) W->AtC W w.heap.size 33 #[.slice a1 m.xs.length c1,.slice a2 m.ys.length c2,.slice a3 m.is.length c3,.slice a4 m.bs.length c4,.slice a5 m.fs.length c5,.slice a6 m.ds.length c6,.int .i64 m.nx]/\AtC W (w.heap.size+1) 33 noM/\Below w.heap.size w W/\w.heap.size+1+1<=W.heap.size):=fun W b2=>by
  exact cQ43
 go_enter Tryz.func99,Tryz.ntmps99
 go_wp2_with fail
 refine (zau _ _ _ _ _ _ m _ (H.out.below (HC.out _ bR).2.2.1 nR) HG.out).mono ?_;rintro e w2 ⟨u1,u2,u3,u4,u5,u6,rfl,O2,B2⟩;obtain ⟨b1,d1,b2,d2,b3,d3,b4,d4,b5,d5,b6,d6,rfl,rfl,rfl,rfl,rfl,rfl⟩:=O2.mr.form;have hz2:=(HC.out w2 B2).2.2.2;have O3:=(O2.mono (S':=fun k=>w.heap.size+1+1<=k) (fun k hk=>by simp at hk;omega)).bound;have HS:Hid (AtC (w2.alloc (.cells #[.slice b1 m.xs.length d1,.slice b2 m.ys.length d2,.slice b3 m.is.length d3,.slice b4 m.bs.length d4,.slice b5 m.fs.length d5,.slice b6 m.ds.length d6,.int .i64 m.nx] 33)) w.heap.size 33 #[.slice a1 m.xs.length c1,.slice a2 m.ys.length c2,.slice a3 m.is.length c3,.slice a4 m.bs.length c4,.slice a5 m.fs.length c5,.slice a6 m.ds.length c6,.int .i64 m.nx]/\AtC (w2.alloc (.cells #[.slice b1 m.xs.length d1,.slice b2 m.ys.length d2,.slice b3 m.is.length d3,.slice b4 m.bs.length d4,.slice b5 m.fs.length d5,.slice b6 m.ds.length d6,.int .i64 m.nx] 33)) (w.heap.size+1) 33 noM/\AtC (w2.alloc (.cells #[.slice b1 m.xs.length d1,.slice b2 m.ys.length d2,.slice b3 m.is.length d3,.slice b4 m.bs.length d4,.slice b5 m.fs.length d5,.slice b6 m.ds.length d6,.int .i64 m.nx] 33)) w2.heap.size 33 #[.slice b1 m.xs.length d1,.slice b2 m.ys.length d2,.slice b3 m.is.length d3,.slice b4 m.bs.length d4,.slice b5 m.fs.length d5,.slice b6 m.ds.length d6,.int .i64 m.nx]/\MO (w2.alloc (.cells #[.slice b1 m.xs.length d1,.slice b2 m.ys.length d2,.slice b3 m.is.length d3,.slice b4 m.bs.length d4,.slice b5 m.fs.length d5,.slice b6 m.ds.length d6,.int .i64 m.nx] 33)) (fun k=>w.heap.size+1+1<=k/\k < w2.heap.size) (.slice b1 m.xs.length d1) (.slice b2 m.ys.length d2) (.slice b3 m.is.length d3) (.slice b4 m.bs.length d4) (.slice b5 m.fs.length d5) (.slice b6 m.ds.length d6) m/\Below w.heap.size w (w2.alloc (.cells #[.slice b1 m.xs.length d1,.slice b2 m.ys.length d2,.slice b3 m.is.length d3,.slice b4 m.bs.length d4,.slice b5 m.fs.length d5,.slice b6 m.ds.length d6,.int .i64 m.nx] 33))):=by
  exact cQ57
 have x0:=HS.out.1.c0;clear O2 O3 B2;go_wp2_with fail
 refine (zch _ m.xs _ ((H.out.d.below HS.out.2.2.2.2 nR).a) hxl).mono ?_;rintro e w3 ⟨rfl,rfl⟩;rcases ff_or m.xs with ⟨hff,-⟩ | ⟨k,hk,hff,hkf,-⟩
 ·have HFF:=hide hff;rw [hff];clear hff x0;have q9:=HS.out.2.1;have r0:=q9.c0;have v0:=q9.frozen 0;have r1:=q9.c1;have v1:=q9.frozen 1;have r2:=q9.c2;have v2:=q9.frozen 2;have r3:=q9.c3;have v3:=q9.frozen 3;have r4:=q9.c4;have v4:=q9.frozen 4;have r5:=q9.c5;have v5:=q9.frozen 5;have r6:=q9.c6;have v6:=q9.frozen 6;have q8:=HS.out.2.2.1;have y0:=q8.c0;have y1:=q8.c1;have y2:=q8.c2;have y3:=q8.c3;have y4:=q8.c4;have y5:=q8.c5;have y6:=q8.c6;have HM:Hid (MO (((((((((w2.alloc (.cells #[.slice b1 m.xs.length d1,.slice b2 m.ys.length d2,.slice b3 m.is.length d3,.slice b4 m.bs.length d4,.slice b5 m.fs.length d5,.slice b6 m.ds.length d6,.int .i64 m.nx] 33)).setCell ⟨w.heap.size+1,0,none⟩ (.slice b1 m.xs.length d1)).setCell ⟨w.heap.size+1,1,none⟩ (.slice b2 m.ys.length d2)).setCell ⟨w.heap.size+1,2,none⟩ (.slice b3 m.is.length d3)).setCell ⟨w.heap.size+1,3,none⟩ (.slice b4 m.bs.length d4)).setCell ⟨w.heap.size+1,4,none⟩ (.slice b5 m.fs.length d5)).setCell ⟨w.heap.size+1,5,none⟩ (.slice b6 m.ds.length d6)).setCell ⟨w.heap.size+1,6,none⟩ (.int .i64 m.nx))) (fun k=>w.heap.size<=k) (.slice b1 m.xs.length d1) (.slice b2 m.ys.length d2) (.slice b3 m.is.length d3) (.slice b4 m.bs.length d4) (.slice b5 m.fs.length d5) (.slice b6 m.ds.length d6) (takeB m)/\Below w.heap.size w (((((((((w2.alloc (.cells #[.slice b1 m.xs.length d1,.slice b2 m.ys.length d2,.slice b3 m.is.length d3,.slice b4 m.bs.length d4,.slice b5 m.fs.length d5,.slice b6 m.ds.length d6,.int .i64 m.nx] 33)).setCell ⟨w.heap.size+1,0,none⟩ (.slice b1 m.xs.length d1)).setCell ⟨w.heap.size+1,1,none⟩ (.slice b2 m.ys.length d2)).setCell ⟨w.heap.size+1,2,none⟩ (.slice b3 m.is.length d3)).setCell ⟨w.heap.size+1,3,none⟩ (.slice b4 m.bs.length d4)).setCell ⟨w.heap.size+1,4,none⟩ (.slice b5 m.fs.length d5)).setCell ⟨w.heap.size+1,5,none⟩ (.slice b6 m.ds.length d6)).setCell ⟨w.heap.size+1,6,none⟩ (.int .i64 m.nx)))):=by
   have e:takeB m=m:=by unfold takeB;rw [if_pos HFF.out]
   exact cQ24
  exact cQ47
 ·obtain ⟨S1,S2,S3,ts,k1,-⟩:=HS.out.2.2.2.1;obtain ⟨g,cap,e1,k1c,k1f,-,hg,-⟩:=k1.two.a.at k (by rw [zae];exact hk);rw [zae] at e1;simp only [Value.slice.injEq,true_and] at e1;obtain ⟨rfl,rfl⟩:=e1;have k1d:(w2.alloc (.cells #[.slice (some ⟨g,0,none⟩) m.xs.length d1,.slice b2 m.ys.length d2,.slice b3 m.is.length d3,.slice b4 m.bs.length d4,.slice b5 m.fs.length d5,.slice b6 m.ds.length d6,.int .i64 m.nx] 33)).cell? ⟨g,k,none⟩=some (.bool false):=k1c.trans (by simp [fc,hk,hkf]);have HX:Hid (∃ w5,w5=(w2.alloc (.cells #[.slice (some ⟨g,0,none⟩) m.xs.length d1,.slice b2 m.ys.length d2,.slice b3 m.is.length d3,.slice b4 m.bs.length d4,.slice b5 m.fs.length d5,.slice b6 m.ds.length d6,.int .i64 m.nx] 33)).setCell ⟨g,k,none⟩ (.bool true)/\AtC w5 (w.heap.size+1) 33 noM/\AtC w5 w2.heap.size 33 #[.slice (some ⟨g,0,none⟩) m.xs.length d1,.slice b2 m.ys.length d2,.slice b3 m.is.length d3,.slice b4 m.bs.length d4,.slice b5 m.fs.length d5,.slice b6 m.ds.length d6,.int .i64 m.nx]/\MO w5 (fun k=>w.heap.size+1+1<=k/\k < w2.heap.size) (.slice (some ⟨g,0,none⟩) m.xs.length d1) (.slice b2 m.ys.length d2) (.slice b3 m.is.length d3) (.slice b4 m.bs.length d4) (.slice b5 m.fs.length d5) (.slice b6 m.ds.length d6) { m with xs:=m.xs.set k true }/\Below w.heap.size w w5):=by
   obtain ⟨-,q2,q3,q4,q5⟩:=HS.out;have st:=ROwns.stored (l:=fc m.xs) (g:=g) (cap:=d1) (by rw [zae];exact k1.two.a) k (.bool true);rw [zae,← zdc] at st;have hgS:w.heap.size+1+1<=g/\g < w2.heap.size:=by
    obtain ⟨S1',S2',S3',ts',p1,-,-,-,-,-,p7⟩:=q4;obtain ⟨T1,T2,T3,ti,tb,z1,z2,-,-,-,-,z7⟩:=p1;exact p7 g (.inl (z7 g (.inl (z2 g (.inl rfl)))))
   exact ⟨_,rfl,(heap_setCell_other _ ⟨g,k,none⟩ _ _ (by show w.heap.size+1≠g;omega)).trans q2,(heap_setCell_other _ ⟨g,k,none⟩ _ _ (by show w2.heap.size≠g;omega)).trans q3,q4.turnX st.1 st.2,q5.setCell (by show w.heap.size<=g;omega) _⟩
  have kn:((ff m.xs:Nat):Int) - 1=(k:Int):=by omega
  have kp:¬ ((ff m.xs:Nat):Int)=0:=by omega
  have kl:(k:Int) < (m.xs.length:Int):=by omega
  have kz:(0:Int)<=(k:Int):=by omega
  have kb:((ff m.xs:Nat):Int)<=1048576:=by omega
  have yb0:=HS.out.2.2.1.c0;have HFF:=hide hff;clear k1 k1c hff hkf x0 HS;generalize hF:ff m.xs=F at *;go_wp2_with fail
  obtain ⟨w5,hw5,q2,q3,q4,q5⟩:=HX.out;rw [← hw5];have hd5:ROwns w5 0 4 (.slice b5 m.fs.length d5) (fc m.fs)/\∀ k,(Value.slice b5 m.fs.length d5).ownBlock=some k->w.heap.size+1+1<=k/\k < w2.heap.size:=by
   exact cQ120
  refine (zei w2.heap.size _ _ _ _ _ b5 d5 m.fs m.nx w5 q3 hd5.1).mono ?_;rintro e w6 ⟨rfl,O6,G6⟩;have M6:=q4.turnF O6 G6;have q9:AtC w6 (w.heap.size+1) 33 noM:=q2.grown G6 (fun e=>by have:=hd5.2 _ e;omega);have q8:AtC w6 w2.heap.size 33 #[.slice (some ⟨g,0,none⟩) m.xs.length d1,.slice b2 m.ys.length d2,.slice b3 m.is.length d3,.slice b4 m.bs.length d4,.slice b5 m.fs.length d5,.slice b6 m.ds.length d6,.int .i64 m.nx]:=q3.grown G6 (fun e=>by have:=hd5.2 _ e;omega);have bel6:Below w.heap.size w w6:=q5.grown G6 q5.size (fun k hk=>by have:=hd5.2 k hk;omega);have r0:=q9.c0;have v0:=q9.frozen 0;have r1:=q9.c1;have v1:=q9.frozen 1;have r2:=q9.c2;have v2:=q9.frozen 2;have r3:=q9.c3;have v3:=q9.frozen 3;have r4:=q9.c4;have v4:=q9.frozen 4;have r5:=q9.c5;have v5:=q9.frozen 5;have r6:=q9.c6;have v6:=q9.frozen 6;obtain ⟨y0,y1,y2,y3,y4,y5,y6⟩:=AtC.sev q8;have HM:Hid (MO ((((((((w6.setCell ⟨w.heap.size+1,0,none⟩ (.slice (some ⟨g,0,none⟩) m.xs.length d1)).setCell ⟨w.heap.size+1,1,none⟩ (.slice b2 m.ys.length d2)).setCell ⟨w.heap.size+1,2,none⟩ (.slice b3 m.is.length d3)).setCell ⟨w.heap.size+1,3,none⟩ (.slice b4 m.bs.length d4)).setCell ⟨w.heap.size+1,4,none⟩ (.slice b5 m.fs.length d5)).setCell ⟨w.heap.size+1,5,none⟩ (.slice b6 m.ds.length d6)).setCell ⟨w.heap.size+1,6,none⟩ (.int .i64 m.nx))) (fun k=>w.heap.size<=k) (.slice (some ⟨g,0,none⟩) m.xs.length d1) (.slice b2 m.ys.length d2) (.slice b3 m.is.length d3) (.slice b4 m.bs.length d4) (.slice b5 m.fs.length d5) (.slice b6 m.ds.length d6) (takeB m)/\Below w.heap.size w ((((((((w6.setCell ⟨w.heap.size+1,0,none⟩ (.slice (some ⟨g,0,none⟩) m.xs.length d1)).setCell ⟨w.heap.size+1,1,none⟩ (.slice b2 m.ys.length d2)).setCell ⟨w.heap.size+1,2,none⟩ (.slice b3 m.is.length d3)).setCell ⟨w.heap.size+1,3,none⟩ (.slice b4 m.bs.length d4)).setCell ⟨w.heap.size+1,4,none⟩ (.slice b5 m.fs.length d5)).setCell ⟨w.heap.size+1,5,none⟩ (.slice b6 m.ds.length d6)).setCell ⟨w.heap.size+1,6,none⟩ (.int .i64 m.nx)))):=by
   have e:takeB m={ m with xs:=m.xs.set k true,fs:=m.fs.set 0 true }:=by
    unfold takeB;rw [hF,if_neg (by omega),show F - 1=k by omega]
   exact cQ26
  clear q9 q8 q2 q3 q4 q5 M6 O6 G6 bel6 hd5 HX k1d k1f yb0 hw5;go_wp2;refine bodyPost_ret (v:=.tuple #[.agg #[.slice (some ⟨g,0,none⟩) m.xs.length d1,.slice b2 m.ys.length d2,.slice b3 m.is.length d3,.slice b4 m.bs.length d4,.slice b5 m.fs.length d5,.slice b6 m.ds.length d6,.int .i64 m.nx],.int .i64 (F:Nat)]) (by simp [results,go_sem,r0,r1,r2,r3,r4,r5,r6]) rfl ⟨_,_,_,_,_,_,by rw [hF],HM.out.1,HM.out.2⟩
theorem zej (u v iv bv dv pv:Value)(m:MD)(w:World)(h:MR w u v iv bv dv pv m)(hB:BigM 1048576 m) :
  Calls Tryz.prog 93 #[.agg #[u,v,iv,bv,dv,pv,.int .i64 m.nx]] w fun e w'=>∃ u' v' i' b' d' p',e=.returned (.tuple #[.agg #[u',v',i',b',d',p',.int .i64 m.nx],.int .i64 (ff m.ys:Nat)])/\MO w' (fun k=>w.heap.size<=k) u' v' i' b' d' p' (takeI m)/\Below w.heap.size w w':=by
 have H:=hide h;have HG:=hide hB;have hxl:m.ys.length<=1048576:=hB.d.y;obtain ⟨a1,c1,a2,c2,a3,c3,a4,c4,a5,c5,a6,c6,rfl,rfl,rfl,rfl,rfl,rfl⟩:=h.form;clear h hB;have HC:Hid (∀ W,Below ((w.alloc (.cells #[.slice a1 m.xs.length c1,.slice a2 m.ys.length c2,.slice a3 m.is.length c3,.slice a4 m.bs.length c4,.slice a5 m.fs.length c5,.slice a6 m.ds.length c6,.int .i64 m.nx] 33)).alloc (.cells noM 33)).heap.size ((w.alloc (.cells #[.slice a1 m.xs.length c1,.slice a2 m.ys.length c2,.slice a3 m.is.length c3,.slice a4 m.bs.length c4,.slice a5 m.fs.length c5,.slice a6 m.ds.length c6,.int .i64 m.nx] 33)).alloc (.cells noM 33)) W->AtC W w.heap.size 33 #[.slice a1 m.xs.length c1,.slice a2 m.ys.length c2,.slice a3 m.is.length c3,.slice a4 m.bs.length c4,.slice a5 m.fs.length c5,.slice a6 m.ds.length c6,.int .i64 m.nx]/\AtC W (w.heap.size+1) 33 noM/\Below w.heap.size w W/\w.heap.size+1+1<=W.heap.size):=fun W b2=>by
  exact cQ43
 go_enter Tryz.func93,Tryz.ntmps93
 go_wp2_with fail
 refine (zau _ _ _ _ _ _ m _ (H.out.below (HC.out _ bR).2.2.1 nR) HG.out).mono ?_;rintro e w2 ⟨u1,u2,u3,u4,u5,u6,rfl,O2,B2⟩;obtain ⟨b1,d1,b2,d2,b3,d3,b4,d4,b5,d5,b6,d6,rfl,rfl,rfl,rfl,rfl,rfl⟩:=O2.mr.form;have hz2:=(HC.out w2 B2).2.2.2;have O3:=(O2.mono (S':=fun k=>w.heap.size+1+1<=k) (fun k hk=>by simp at hk;omega)).bound;have HS:Hid (AtC (w2.alloc (.cells #[.slice b1 m.xs.length d1,.slice b2 m.ys.length d2,.slice b3 m.is.length d3,.slice b4 m.bs.length d4,.slice b5 m.fs.length d5,.slice b6 m.ds.length d6,.int .i64 m.nx] 33)) w.heap.size 33 #[.slice a1 m.xs.length c1,.slice a2 m.ys.length c2,.slice a3 m.is.length c3,.slice a4 m.bs.length c4,.slice a5 m.fs.length c5,.slice a6 m.ds.length c6,.int .i64 m.nx]/\AtC (w2.alloc (.cells #[.slice b1 m.xs.length d1,.slice b2 m.ys.length d2,.slice b3 m.is.length d3,.slice b4 m.bs.length d4,.slice b5 m.fs.length d5,.slice b6 m.ds.length d6,.int .i64 m.nx] 33)) (w.heap.size+1) 33 noM/\AtC (w2.alloc (.cells #[.slice b1 m.xs.length d1,.slice b2 m.ys.length d2,.slice b3 m.is.length d3,.slice b4 m.bs.length d4,.slice b5 m.fs.length d5,.slice b6 m.ds.length d6,.int .i64 m.nx] 33)) w2.heap.size 33 #[.slice b1 m.xs.length d1,.slice b2 m.ys.length d2,.slice b3 m.is.length d3,.slice b4 m.bs.length d4,.slice b5 m.fs.length d5,.slice b6 m.ds.length d6,.int .i64 m.nx]/\MO (w2.alloc (.cells #[.slice b1 m.xs.length d1,.slice b2 m.ys.length d2,.slice b3 m.is.length d3,.slice b4 m.bs.length d4,.slice b5 m.fs.length d5,.slice b6 m.ds.length d6,.int .i64 m.nx] 33)) (fun k=>w.heap.size+1+1<=k/\k < w2.heap.size) (.slice b1 m.xs.length d1) (.slice b2 m.ys.length d2) (.slice b3 m.is.length d3) (.slice b4 m.bs.length d4) (.slice b5 m.fs.length d5) (.slice b6 m.ds.length d6) m/\Below w.heap.size w (w2.alloc (.cells #[.slice b1 m.xs.length d1,.slice b2 m.ys.length d2,.slice b3 m.is.length d3,.slice b4 m.bs.length d4,.slice b5 m.fs.length d5,.slice b6 m.ds.length d6,.int .i64 m.nx] 33))):=by
  exact cQ57
 have x0:=HS.out.1.c1;clear O2 O3 B2;go_wp2_with fail
 refine (zch _ m.ys _ ((H.out.d.below HS.out.2.2.2.2 nR).b) hxl).mono ?_;rintro e w3 ⟨rfl,rfl⟩;rcases ff_or m.ys with ⟨hff,-⟩ | ⟨k,hk,hff,hkf,-⟩
 ·have HFF:=hide hff;rw [hff];clear hff x0;have q9:=HS.out.2.1;have r0:=q9.c0;have v0:=q9.frozen 0;have r1:=q9.c1;have v1:=q9.frozen 1;have r2:=q9.c2;have v2:=q9.frozen 2;have r3:=q9.c3;have v3:=q9.frozen 3;have r4:=q9.c4;have v4:=q9.frozen 4;have r5:=q9.c5;have v5:=q9.frozen 5;have r6:=q9.c6;have v6:=q9.frozen 6;have q8:=HS.out.2.2.1;have y0:=q8.c0;have y1:=q8.c1;have y2:=q8.c2;have y3:=q8.c3;have y4:=q8.c4;have y5:=q8.c5;have y6:=q8.c6;have HM:Hid (MO (((((((((w2.alloc (.cells #[.slice b1 m.xs.length d1,.slice b2 m.ys.length d2,.slice b3 m.is.length d3,.slice b4 m.bs.length d4,.slice b5 m.fs.length d5,.slice b6 m.ds.length d6,.int .i64 m.nx] 33)).setCell ⟨w.heap.size+1,0,none⟩ (.slice b1 m.xs.length d1)).setCell ⟨w.heap.size+1,1,none⟩ (.slice b2 m.ys.length d2)).setCell ⟨w.heap.size+1,2,none⟩ (.slice b3 m.is.length d3)).setCell ⟨w.heap.size+1,3,none⟩ (.slice b4 m.bs.length d4)).setCell ⟨w.heap.size+1,4,none⟩ (.slice b5 m.fs.length d5)).setCell ⟨w.heap.size+1,5,none⟩ (.slice b6 m.ds.length d6)).setCell ⟨w.heap.size+1,6,none⟩ (.int .i64 m.nx))) (fun k=>w.heap.size<=k) (.slice b1 m.xs.length d1) (.slice b2 m.ys.length d2) (.slice b3 m.is.length d3) (.slice b4 m.bs.length d4) (.slice b5 m.fs.length d5) (.slice b6 m.ds.length d6) (takeI m)/\Below w.heap.size w (((((((((w2.alloc (.cells #[.slice b1 m.xs.length d1,.slice b2 m.ys.length d2,.slice b3 m.is.length d3,.slice b4 m.bs.length d4,.slice b5 m.fs.length d5,.slice b6 m.ds.length d6,.int .i64 m.nx] 33)).setCell ⟨w.heap.size+1,0,none⟩ (.slice b1 m.xs.length d1)).setCell ⟨w.heap.size+1,1,none⟩ (.slice b2 m.ys.length d2)).setCell ⟨w.heap.size+1,2,none⟩ (.slice b3 m.is.length d3)).setCell ⟨w.heap.size+1,3,none⟩ (.slice b4 m.bs.length d4)).setCell ⟨w.heap.size+1,4,none⟩ (.slice b5 m.fs.length d5)).setCell ⟨w.heap.size+1,5,none⟩ (.slice b6 m.ds.length d6)).setCell ⟨w.heap.size+1,6,none⟩ (.int .i64 m.nx)))):=by
   have e:takeI m=m:=by unfold takeI;rw [if_pos HFF.out]
   exact cQ24
  exact cQ47
 ·obtain ⟨S1,S2,S3,ts,k1,-⟩:=HS.out.2.2.2.1;obtain ⟨g,cap,e1,k1c,k1f,-,hg,-⟩:=k1.two.b.at k (by rw [zae];exact hk);rw [zae] at e1;simp only [Value.slice.injEq,true_and] at e1;obtain ⟨rfl,rfl⟩:=e1;have k1d:(w2.alloc (.cells #[.slice b1 m.xs.length d1,.slice (some ⟨g,0,none⟩) m.ys.length d2,.slice b3 m.is.length d3,.slice b4 m.bs.length d4,.slice b5 m.fs.length d5,.slice b6 m.ds.length d6,.int .i64 m.nx] 33)).cell? ⟨g,k,none⟩=some (.bool false):=k1c.trans (by simp [fc,hk,hkf]);have HX:Hid (∃ w5,w5=(w2.alloc (.cells #[.slice b1 m.xs.length d1,.slice (some ⟨g,0,none⟩) m.ys.length d2,.slice b3 m.is.length d3,.slice b4 m.bs.length d4,.slice b5 m.fs.length d5,.slice b6 m.ds.length d6,.int .i64 m.nx] 33)).setCell ⟨g,k,none⟩ (.bool true)/\AtC w5 (w.heap.size+1) 33 noM/\AtC w5 w2.heap.size 33 #[.slice b1 m.xs.length d1,.slice (some ⟨g,0,none⟩) m.ys.length d2,.slice b3 m.is.length d3,.slice b4 m.bs.length d4,.slice b5 m.fs.length d5,.slice b6 m.ds.length d6,.int .i64 m.nx]/\MO w5 (fun k=>w.heap.size+1+1<=k/\k < w2.heap.size) (.slice b1 m.xs.length d1) (.slice (some ⟨g,0,none⟩) m.ys.length d2) (.slice b3 m.is.length d3) (.slice b4 m.bs.length d4) (.slice b5 m.fs.length d5) (.slice b6 m.ds.length d6) { m with ys:=m.ys.set k true }/\Below w.heap.size w w5):=by
   obtain ⟨-,q2,q3,q4,q5⟩:=HS.out;have st:=ROwns.stored (l:=fc m.ys) (g:=g) (cap:=d2) (by rw [zae];exact k1.two.b) k (.bool true);rw [zae,← zdc] at st;have hgS:w.heap.size+1+1<=g/\g < w2.heap.size:=by
    obtain ⟨S1',S2',S3',ts',p1,-,-,-,-,-,p7⟩:=q4;obtain ⟨T1,T2,T3,ti,tb,z1,z2,-,-,-,-,z7⟩:=p1;exact p7 g (.inl (z7 g (.inl (z2 g (.inr rfl)))))
   exact ⟨_,rfl,(heap_setCell_other _ ⟨g,k,none⟩ _ _ (by show w.heap.size+1≠g;omega)).trans q2,(heap_setCell_other _ ⟨g,k,none⟩ _ _ (by show w2.heap.size≠g;omega)).trans q3,q4.turnY st.1 st.2,q5.setCell (by show w.heap.size<=g;omega) _⟩
  have kn:((ff m.ys:Nat):Int) - 1=(k:Int):=by omega
  have kp:¬ ((ff m.ys:Nat):Int)=0:=by omega
  have kl:(k:Int) < (m.ys.length:Int):=by omega
  have kz:(0:Int)<=(k:Int):=by omega
  have kb:((ff m.ys:Nat):Int)<=1048576:=by omega
  have yb0:=HS.out.2.2.1.c1;have HFF:=hide hff;clear k1 k1c hff hkf x0 HS;generalize hF:ff m.ys=F at *;go_wp2_with fail
  obtain ⟨w5,hw5,q2,q3,q4,q5⟩:=HX.out;rw [← hw5];have hd5:ROwns w5 0 4 (.slice b5 m.fs.length d5) (fc m.fs)/\∀ k,(Value.slice b5 m.fs.length d5).ownBlock=some k->w.heap.size+1+1<=k/\k < w2.heap.size:=by
   exact cQ120
  refine (zei w2.heap.size _ _ _ _ _ b5 d5 m.fs m.nx w5 q3 hd5.1).mono ?_;rintro e w6 ⟨rfl,O6,G6⟩;have M6:=q4.turnF O6 G6;have q9:AtC w6 (w.heap.size+1) 33 noM:=q2.grown G6 (fun e=>by have:=hd5.2 _ e;omega);have q8:AtC w6 w2.heap.size 33 #[.slice b1 m.xs.length d1,.slice (some ⟨g,0,none⟩) m.ys.length d2,.slice b3 m.is.length d3,.slice b4 m.bs.length d4,.slice b5 m.fs.length d5,.slice b6 m.ds.length d6,.int .i64 m.nx]:=q3.grown G6 (fun e=>by have:=hd5.2 _ e;omega);have bel6:Below w.heap.size w w6:=q5.grown G6 q5.size (fun k hk=>by have:=hd5.2 k hk;omega);have r0:=q9.c0;have v0:=q9.frozen 0;have r1:=q9.c1;have v1:=q9.frozen 1;have r2:=q9.c2;have v2:=q9.frozen 2;have r3:=q9.c3;have v3:=q9.frozen 3;have r4:=q9.c4;have v4:=q9.frozen 4;have r5:=q9.c5;have v5:=q9.frozen 5;have r6:=q9.c6;have v6:=q9.frozen 6;obtain ⟨y0,y1,y2,y3,y4,y5,y6⟩:=AtC.sev q8;have HM:Hid (MO ((((((((w6.setCell ⟨w.heap.size+1,0,none⟩ (.slice b1 m.xs.length d1)).setCell ⟨w.heap.size+1,1,none⟩ (.slice (some ⟨g,0,none⟩) m.ys.length d2)).setCell ⟨w.heap.size+1,2,none⟩ (.slice b3 m.is.length d3)).setCell ⟨w.heap.size+1,3,none⟩ (.slice b4 m.bs.length d4)).setCell ⟨w.heap.size+1,4,none⟩ (.slice b5 m.fs.length d5)).setCell ⟨w.heap.size+1,5,none⟩ (.slice b6 m.ds.length d6)).setCell ⟨w.heap.size+1,6,none⟩ (.int .i64 m.nx))) (fun k=>w.heap.size<=k) (.slice b1 m.xs.length d1) (.slice (some ⟨g,0,none⟩) m.ys.length d2) (.slice b3 m.is.length d3) (.slice b4 m.bs.length d4) (.slice b5 m.fs.length d5) (.slice b6 m.ds.length d6) (takeI m)/\Below w.heap.size w ((((((((w6.setCell ⟨w.heap.size+1,0,none⟩ (.slice b1 m.xs.length d1)).setCell ⟨w.heap.size+1,1,none⟩ (.slice (some ⟨g,0,none⟩) m.ys.length d2)).setCell ⟨w.heap.size+1,2,none⟩ (.slice b3 m.is.length d3)).setCell ⟨w.heap.size+1,3,none⟩ (.slice b4 m.bs.length d4)).setCell ⟨w.heap.size+1,4,none⟩ (.slice b5 m.fs.length d5)).setCell ⟨w.heap.size+1,5,none⟩ (.slice b6 m.ds.length d6)).setCell ⟨w.heap.size+1,6,none⟩ (.int .i64 m.nx)))):=by
   have e:takeI m={ m with ys:=m.ys.set k true,fs:=m.fs.set 0 true }:=by
    unfold takeI;rw [hF,if_neg (by omega),show F - 1=k by omega]
   exact cQ26
  clear q9 q8 q2 q3 q4 q5 M6 O6 G6 bel6 hd5 HX k1d k1f yb0 hw5;go_wp2;refine bodyPost_ret (v:=.tuple #[.agg #[.slice b1 m.xs.length d1,.slice (some ⟨g,0,none⟩) m.ys.length d2,.slice b3 m.is.length d3,.slice b4 m.bs.length d4,.slice b5 m.fs.length d5,.slice b6 m.ds.length d6,.int .i64 m.nx],.int .i64 (F:Nat)]) (by simp [results,go_sem,r0,r1,r2,r3,r4,r5,r6]) rfl ⟨_,_,_,_,_,_,by rw [hF],HM.out.1,HM.out.2⟩
namespace Kit
theorem GN.appendX {α:Type}{K:Kn α}{w w2:World}{S:Nat->Prop}{v v':Value}{ts:List Row}{xs:List α}{t':Row}{x':α}(h:GN K w S v ts xs)(hO:K.O w t' x')(hn:∀ k,(K.p t').ownBlock=some k->¬ S k)
  (hr:NOwns w2 K.T K.n v' (ts ++ [t'])) (hg:w.grownBy w2 v.ownBlock) (hv:∀ k,v'.ownBlock=some k->v.ownBlock=some k\/w.heap.size<=k):GN K w2 (fun k=>(S k/\k < w.heap.size)\/(K.p t').ownBlock=some k\/w.heap.size<=k) v' (ts ++ [t']) (xs ++ [x']):=by
 have hl:=h.len;have hlt:∀ (i:Nat) (hi:i < ts.length) (k:Nat),(K.p ts[i]).ownBlock=some k->k < w.heap.size:=fun i hi k hk=>K.lt (h.inn i hi (by omega)) k hk;have hlt':∀ k,(K.p t').ownBlock=some k->k < w.heap.size:=fun k hk=>K.lt hO k hk;have hvl:∀ k,v.ownBlock=some k->k < w.heap.size:=h.row.lt;have at_l:∀ (i:Nat) (hi:i < (ts ++ [t']).length),(∃ h':i < ts.length,(ts ++ [t'])[i]=ts[i])\/(i=ts.length/\(ts ++ [t'])[i]=t'):=fun i hi=>by
  by_cases e:i < ts.length
  ·exact .inl ⟨e,List.getElem_append_left e⟩
  ·have e2:i=ts.length:=by simp at hi;omega
   refine .inr ⟨e2,?_⟩;subst e2;simp
 refine ⟨by simp [hl],hr,fun i hi hi'=>?_,fun i j hi hj hne k e1 e2=>?_,fun i hi k e1 e2=>?_,fun k e=>?_,fun i hi k e=>?_⟩
 ·rcases at_l i hi with ⟨h',e⟩ | ⟨rfl,e⟩
  ·rw [e,List.getElem_append_left (by omega)];exact K.heap (h.inn i h' (by omega)) fun k hk=>hg.block k (hlt i h' k hk) (fun e=>h.out i h' k hk e.symm)
  ·have e2:(xs ++ [x'])[ts.length]=x':=by simp [hl]
   rw [e,e2];exact K.heap hO fun k hk=>hg.block k (hlt' k hk) (fun e=>hn k hk (h.so k e.symm))
 ·rcases at_l i hi with ⟨h1,q1⟩ | ⟨q0,q1⟩<;>rcases at_l j hj with ⟨h2,q2⟩ | ⟨q3,q2⟩<;>rw [q1] at e1<;>rw [q2] at e2
  ·exact h.sep i j h1 h2 hne k e1 e2
  ·exact hn k e2 (h.si i h1 k e1)
  ·exact hn k e1 (h.si j h2 k e2)
  ·omega
 ·rcases at_l i hi with ⟨h1,q1⟩ | ⟨q0,q1⟩<;>rw [q1] at e1
  ·rcases hv k e2 with q | q
   ·exact h.out i h1 k e1 q
   ·have:=hlt i h1 k e1;omega
  ·rcases hv k e2 with q | q
   ·exact hn k e1 (h.so k q)
   ·have:=hlt' k e1;omega
 ·rcases hv k e with q | q
  ·exact .inl ⟨h.so k q,hvl k q⟩
  ·exact .inr (.inr q)
 ·rcases at_l i hi with ⟨h1,q1⟩ | ⟨q0,q1⟩<;>rw [q1] at e
  ·exact .inl ⟨h.si i h1 k e,hlt i h1 k e⟩
  ·exact .inr (.inl e)
theorem MO.appE {w:World}{S:Nat->Prop}{u v iv bv dv pv:Value}{m:MD}(h:MO w S u v iv bv dv pv m) :
  ∃ ts,NOwns w 41 11 pv ts/\ts.length=m.ds.length/\∀ (w2:World) (pv':Value) (t':Row) (x':Dp),KDep.O w t' x'->(∀ k,(KDep.p t').ownBlock=some k->¬ S k) ->
   NOwns w2 41 11 pv' (ts ++ [t'])->w.grownBy w2 pv.ownBlock->(∀ k,pv'.ownBlock=some k->pv.ownBlock=some k\/w.heap.size<=k)->∀ nx:Int,MO w2 (fun k=>S k\/(KDep.p t').ownBlock=some k\/w.heap.size<=k) u v iv bv dv pv' { m with ds:=m.ds ++ [x'],nx:=nx }:=by
 obtain ⟨S1,S2,S3,ts,h1,h2,h3,h4,h5,h6,h7⟩:=h.bound;refine ⟨ts,h4.row,h4.len,fun w2 pv' t' x' hO hn hr hg hv nx=>?_⟩;have hlow:∀ q,S1 q\/S2 q\/S3 q->q < w.heap.size:=fun q hq=>(h7 q hq).2;have hSS:∀ q,S1 q\/S2 q\/S3 q->S q:=fun q hq=>(h7 q hq).1;have hoth:∀ k,k < w.heap.size->pv.ownBlock≠some k->w2.heap[k]?=w.heap[k]?:=fun k hk hne=>hg.block k hk (fun e=>hne e.symm);refine ⟨S1,S2,_,_,h1.of_heap fun k hk hlt=>hoth k hlt (fun e=>(h5 k hk).2 (h4.so k e)),h2.of_heap fun k hk=>hoth k (h2.lt k hk).2 (fun e=>h6 k (h3 k hk) (h4.so k e)),h3,h4.appendX hO (fun k hk e=>hn k hk (hSS k (.inr (.inr e)))) hr hg hv,fun k hk=>⟨(h5 k hk).1,fun e=>?_⟩,fun k hk e=>?_,fun k hk=>?_⟩
 ·rcases e with e | e | e
  ·exact (h5 k hk).2 e.1
  ·exact hn k e (hSS k (.inl hk))
  ·have:=hlow k (.inl hk);omega
 ·rcases e with e | e | e
  ·exact h6 k hk e.1
  ·exact hn k e (hSS k (.inr (.inl hk)))
  ·have:=hlow k (.inr (.inl hk));omega
 ·rcases hk with hk | hk | hk | hk | hk
  ·exact .inl (hSS k (.inl hk))
  ·exact .inl (hSS k (.inr (.inl hk)))
  ·exact .inl (hSS k (.inr (.inr hk.1)))
  ·exact .inr (.inl hk)
  ·exact .inr (.inr hk)
end Kit
namespace Kit
structure PM (w:World) (S:Nat->Prop) (b:Nat) (u v iv bv dv pv:Value) (m:MD):Prop where
 box:AtC w b 33 #[u,v,iv,bv,dv,pv,.int .i64 m.nx]
 own:MO w S u v iv bv dv pv m
 nb:¬ S b
namespace PM
variable {w w' : World} {S S' : Nat -> Prop} {b : Nat} {u v iv bv dv pv : Value} {m : MD}
theorem below (h:PM w S b u v iv bv dv pv m)(hb:Below w.heap.size w w'):PM w' S b u v iv bv dv pv m:=⟨h.box.over hb,h.own.below hb nR,h.nb⟩
theorem alloc (h:PM w S b u v iv bv dv pv m)(o:Obj):PM (w.alloc o) S b u v iv bv dv pv m:=h.below ((Below.refl _ w).alloc nR o)
theorem drew (h:PM w S b u v iv bv dv pv m):PM w.drew S b u v iv bv dv pv m:=h.below bR.drew
theorem mono (h:PM w S b u v iv bv dv pv m)(hs:∀ k,S k->S' k)(hb:¬ S' b):PM w S' b u v iv bv dv pv m:=⟨h.box,h.own.mono hs,hb⟩
theorem bound (h:PM w S b u v iv bv dv pv m):PM w (fun k=>S k/\k < w.heap.size) b u v iv bv dv pv m:=⟨h.box,h.own.bound,fun e=>h.nb e.1⟩
theorem mr (h:PM w S b u v iv bv dv pv m):MR w u v iv bv dv pv m:=h.own.mr
theorem new (h:MO w S u v iv bv dv pv m):PM (w.alloc (.cells #[u,v,iv,bv,dv,pv,.int .i64 m.nx] 33)) (fun k=>S k/\k < w.heap.size) w.heap.size u v iv bv dv pv m :=
 ⟨AtC.new w 33 _,h.bound.alloc _,fun e=>Nat.lt_irrefl _ e.2⟩
theorem form (h:PM w S b u v iv bv dv pv m):∃ a1 c1 a2 c2 a3 c3 a4 c4 a5 c5 a6 c6,u=.slice a1 m.xs.length c1/\v=.slice a2 m.ys.length c2/\iv=.slice a3 m.is.length c3/\bv=.slice a4 m.bs.length c4/\dv=.slice a5 m.fs.length c5/\pv=.slice a6 m.ds.length c6:=h.own.mr.form
theorem soF (h:PM w S b u v iv bv dv pv m):∀ k,dv.ownBlock=some k->S k:=by
 obtain ⟨S1,S2,S3,ts,-,-,k3,-,-,-,k7⟩:=h.own;exact fun k hk=>k7 k (.inr (.inl (k3 k hk)))
theorem turnF (h:PM w S b u v iv bv dv pv m){l:List Bool}(hr:ROwns w' 0 4 dv (fc l))(hg:w.grownBy w' dv.ownBlock):PM w' S b u v iv bv dv pv { m with fs:=l } :=
 ⟨h.box.grown hg (fun e=>h.nb (h.soF b e)),h.own.turnF hr hg,h.nb⟩
theorem chgF (h:PM w S b u v iv bv dv pv m)(hg:w.grownBy w' dv.ownBlock):Chg S w w':=Chg.of_grown hg fun k hk=>h.soF k hk
theorem ownF (h:PM w S b u v iv bv dv pv m):ROwns w 0 4 dv (fc m.fs):=by
 obtain ⟨S1,S2,S3,ts,-,k2,-⟩:=h.own;exact k2
end PM
def markU (u:Int) (m:MD):MD:=if 0<=u/\u < (m.fs.length:Int) then { m with fs:=m.fs.set u.toNat true } else m
theorem markU_nx (u:Int)(m:MD):(markU u m).nx=m.nx:=by unfold markU;split<;>rfl
end Kit
theorem zbt (S:Nat->Prop)(b:Nat)(x:Int)(u v iv bv dv pv:Value)(m:MD)(w:World)(h:PM w S b u v iv bv dv pv m) :
  Calls Tryz.prog 95 #[.pointer (some ⟨b,0,none⟩),.int .i64 x] w fun e w'=>e=.returned (.tuple #[])/\PM w' S b u v iv bv dv pv (markU x m)/\Chg S w w':=by
 obtain ⟨a1,c1,a2,c2,a3,c3,a4,c4,a5,c5,a6,c6,rfl,rfl,rfl,rfl,rfl,rfl⟩:=h.form;have x4:=h.box.c4;have H:=hide h;by_cases h0:0<=x
 ·have H0:=hide h0;by_cases h1:x < (m.fs.length:Int)
  ·have H1:=hide h1;obtain ⟨n,rfl⟩:∃ n:Nat,x=(n:Int):=⟨x.toNat,by omega⟩
   have hn:n < m.fs.length:=by omega
   obtain ⟨g,cap,e1,k1,k2,k3,k4⟩:=h.ownF.at n (by rw [zae];exact hn);rw [zae] at e1;simp only [Value.slice.injEq,true_and] at e1;obtain ⟨rfl,rfl⟩:=e1;have k1':w.cell? ⟨g,n,none⟩=some (.bool m.fs[n]):=k1.trans (by simp [fc,hn]);generalize m.fs[n]=t0 at k1';have HS:=hide (ROwns.stored (l:=fc m.fs) (g:=g) (cap:=c5) (by rw [zae];exact h.ownF) n (.bool true));have hd:decide ((n:Int) < (m.fs.length:Int))=true:=decide_eq_true h1;clear k1 h;go_enter Tryz.func95,Tryz.ntmps95
   go_wp2
   go_end0
   have q:=HS.out.1;have q2:=HS.out.2;rw [zae,← zdc] at q;have e:markU (n:Int) m={ m with fs:=m.fs.set n true }:=by unfold markU;rw [if_pos ⟨H0.out,H1.out⟩];rfl
   rw [e];exact ⟨rfl,H.out.turnF q q2,H.out.chgF q2⟩
  ·exact cQ58
 ·exact cQ71
def inB (x a b:Int):Bool:=decide (a<=x/\x<=b)
theorem zao {x a b:Int}(h:inB x a b=true):a<=x/\x<=b:=of_decide_eq_true h
theorem zfk {x a b:Int}(h:inB x a b=false):x < a\/b < x:=by
 have:=of_decide_eq_false h;omega
theorem zaj (x a b:Int)(w:World) :
  Calls Tryz.prog 20 #[.int .i64 x,.int .i64 a,.int .i64 b] w fun e w'=>e=.returned (.bool (inB x a b))/\w'=w:=by
 by_cases h0:a<=x
 ·by_cases h1:x<=b
  ·have hv:inB x a b=true:=by simp [inB,h0,h1]
   exact cQ67
  ·have hv:inB x a b=false:=by simp [inB,h1]
   exact cQ67
 ·have hv:inB x a b=false:=by simp [inB,h0]
  exact cQ67
theorem zdv (v:Value)(l:List Int)(x:Int)(w:World)(h:RInts w v l)(hl:l.length<=1048576) :
  Calls Tryz.prog 116 #[v,.int .i64 x] w fun e w'=>e=.returned (.bool (l.contains x))/\w'=w:=by
 obtain ⟨a1,c1,rfl,ha⟩:=h;have HA:=hide ha;clear ha;go_enter Tryz.func116,Tryz.ntmps116
 go_wp2;go_loopw [5] (fun i wr=>∃ j:Nat,j<=l.length/\i=.int .i64 j/\w=wr/\Hid ((l.take j).contains x=false)) (fun i _=>l.length - (intOf i).toNat)
 case atStart=>exact ⟨0,Nat.zero_le _,rfl,rfl,by show (l.take 0).contains x=false;simp⟩
 case round =>
  obtain ⟨j,hj,rfl,rfl,HT⟩:=hrel;by_cases hlt:j < l.length
  ·obtain ⟨g1,o1,rfl,_,k1⟩:=HA.out j hlt;have HJ:Hid (l[j]∈l/\(l.take (j+1)).contains x=((l.take j).contains x || x == l[j])):=by
    refine ⟨List.getElem_mem hlt,?_⟩;rw [show l.take (j+1)=l.take j ++ [l[j]] from (List.take_append_getElem hlt).symm];exact Bool.eq_iff_iff.2 (by simp only [List.contains_iff_mem,List.mem_append,List.mem_singleton,Bool.or_eq_true,beq_iff_eq])
   obtain ⟨t,ht⟩:∃ t,l[j]=t:=⟨_,rfl⟩
   rw [ht] at k1 HJ;clear ht;have j0:(0:Int)<=(j:Int):=by omega
   have j1:(j:Int) < (l.length:Int):=by omega
   by_cases hx:t=x
   ·subst hx;go_wp2;go_ret;have:=HJ.out.1;exact ⟨by rw [show l.contains t=true by simpa using this];rfl,rfl⟩
   ·have HX:=hide hx;go_wp2;go_roundw
    case rel =>
     refine ⟨j+1,by omega,by go_num,by first | trivial | rfl,?_⟩;show (l.take (j+1)).contains x=false;have q:=HX.out;rw [HJ.out.2,HT.out,Bool.false_or];exact beq_false_of_ne (fun e=>q e.symm)
    case measure=>simp [intOf];omega
  ·have hj2:j=l.length:=by omega
   have HF:Hid (l.contains x=false):=by
    have:=HT.out;rw [hj2,List.take_length] at this;exact this
   go_wp2;go_ret;exact ⟨by rw [HF.out];rfl,rfl⟩
theorem zgi (v:Value)(ds:List Dp)(x:Int)(w:World)(h:RN KDep w v ds)(hl:ds.length<=1048576) :
  Calls Tryz.prog 130 #[v,.int .i64 x] w fun e w'=>(∃ b,e=.returned (.bool b))/\w'=w:=by
 obtain ⟨a1,c1,rfl,-,ha⟩:=h;have HA:=hide ha;clear ha;go_enter Tryz.func130,Tryz.ntmps130
 go_wp2;go_loopw [5] (fun i wr=>∃ j:Nat,j<=ds.length/\i=.int .i64 j/\w=wr) (fun i _=>ds.length - (intOf i).toNat)
 case atStart=>exact ⟨0,Nat.zero_le _,rfl,rfl⟩
 case round =>
  obtain ⟨j,hj,rfl,rfl⟩:=hrel;by_cases hlt:j < ds.length
  ·obtain ⟨g,off,t,rfl,-,hc,p,rfl,-⟩:=HA.out j hlt;have k1:w.cell? ⟨g,off+j * 11+1,none⟩=some (.int .i64 ds[j].kd):=hc 1 (by decide);have k4:w.cell? ⟨g,off+j * 11+4,none⟩=some (.int .i64 ds[j].bk):=hc 4 (by decide);generalize ds[j].kd=kd at k1;generalize ds[j].bk=bk at k4;clear hc;have j0:(0:Int)<=(j:Int):=by omega
   have j1:(j:Int) < (ds.length:Int):=by omega
   have hcase:((kd=1\/kd=6)/\bk=x)\/¬ ((kd=1\/kd=6)/\bk=x):=Classical.em _;rcases hcase with ⟨hk,hb⟩ | hn
   ·subst hb;rcases hk with rfl | rfl<;>(go_wp2;go_ret;exact ⟨⟨_,rfl⟩,rfl⟩)
   ·by_cases h1:kd=1
    ·subst h1;have hb:¬ bk=x:=fun e=>hn ⟨.inl rfl,e⟩;clear hn;go_wp2;go_roundw
     case rel=>exact ⟨j+1,by omega,by go_num,by first | trivial | rfl⟩
     case measure=>simp [intOf];omega
    ·by_cases h6:kd=6
     ·subst h6;have hb:¬ bk=x:=fun e=>hn ⟨.inr rfl,e⟩;clear hn;go_wp2;go_roundw
      case rel=>exact ⟨j+1,by omega,by go_num,by first | trivial | rfl⟩
      case measure=>simp [intOf];omega
     ·clear hn;go_wp2;go_roundw
      case rel=>exact ⟨j+1,by omega,by go_num,by first | trivial | rfl⟩
      case measure=>simp [intOf];omega
  ·go_wp2;go_ret;exact ⟨⟨_,rfl⟩,rfl⟩
def uoI (i:Int):Int:=if inB i 1 8 then 1+(i - 1) / 2 else -1
def uoB (p:Int):Int:=if inB p 1 16 then p+4 else -1
theorem zbe (i:Int)(w:World):Calls Tryz.prog 96 #[.int .i64 i] w fun e w'=>e=.returned (.int .i64 (uoI i))/\w'=w:=by
 go_enter Tryz.func96,Tryz.ntmps96
 go_wp2_with fail
 refine (zaj i 1 8 _).mono ?_;rintro e w1 ⟨rfl,rfl⟩
 cases hb:inB i 1 8 with
 | true =>
  have HB:=hide hb;obtain ⟨h1,h2⟩:=zao hb;clear hb;have hd:(i - 1).tdiv 2=(i - 1) / 2:=Int.tdiv_eq_ediv_of_nonneg (by omega);go_wp2;go_ret;exact ⟨by unfold uoI;rw [HB.out];rfl,rfl⟩
 | false =>
  have HB:=hide hb;clear hb;go_wp2;go_ret;exact ⟨by unfold uoI;rw [HB.out];rfl,rfl⟩
theorem za7 (i:Int)(w:World):Calls Tryz.prog 101 #[.int .i64 i] w fun e w'=>e=.returned (.int .i64 (uoB i))/\w'=w:=by
 go_enter Tryz.func101,Tryz.ntmps101
 go_wp2_with fail
 refine (zaj i 1 16 _).mono ?_;rintro e w1 ⟨rfl,rfl⟩
 cases hb:inB i 1 16 with
 | true =>
  have HB:=hide hb;obtain ⟨h1,h2⟩:=zao hb;clear hb;go_wp2;go_ret;exact ⟨by unfold uoB;rw [HB.out];rfl,rfl⟩
 | false =>
  have HB:=hide hb;clear hb;go_wp2;go_ret;exact ⟨by unfold uoB;rw [HB.out];rfl,rfl⟩
theorem kind_any (S:Nat->Prop)(b:Nat)(x:Int)(u v iv bv dv pv:Value)(m:MD)(w:World)(h:PM w S b u v iv bv dv pv m)(hl:m.ds.length<=1048576) :
  Calls Tryz.prog 129 #[.pointer (some ⟨b,0,none⟩),.int .i64 x] w fun e w'=>(∃ k:Int,e=.returned (.int .i64 k))/\w'=w:=by
 obtain ⟨a6,c6,rfl,-,ha⟩:=h.mr.p;have x5:=h.box.c5;have HA:=hide ha;clear ha h;go_enter Tryz.func129,Tryz.ntmps129
 exact cQ28
namespace Kit
theorem zdw {α:Type}(p:α->Bool):∀ l:List α,∃ f:Nat->Nat,(∀ (j:Nat) (h:j < (l.filter p).length),∃ h':f j < l.length,(l.filter p)[j]=l[f j]/\(l.take (f j)).filter p=(l.filter p).take j)/\∀ i j,i < j->j < (l.filter p).length->f i < f j
 | []=>⟨fun _=>0,fun j h=>by simp at h,fun i j _ h=>by simp at h⟩
 | a :: l=>by
  obtain ⟨f,h1,h2⟩:=zdw p l;by_cases hp:p a=true
  ·refine ⟨fun j=>match j with | 0=>0 | j+1=>f j+1,fun j h=>?_,fun i j hij h=>?_⟩
   ·cases j with
    | zero=>exact ⟨by simp,by simp [hp],by simp⟩
    | succ j =>
     simp only [List.filter_cons,hp,if_true,List.length_cons] at h;obtain ⟨q1,q2,q3⟩:=h1 j (by omega);refine ⟨by simpa using q1,?_,?_⟩
     ·simp only [List.filter_cons,hp,if_true,List.getElem_cons_succ];exact q2
     ·simp only [List.take_succ_cons,List.filter_cons,hp,if_true,q3]
   ·simp only [List.filter_cons,hp,if_true,List.length_cons] at h
    cases j with
    | zero=>omega
    | succ j =>
     cases i with
     | zero=>simp
     | succ i =>
      have:=h2 i j (by omega) (by omega);simp only;omega
  ·refine ⟨fun j=>f j+1,fun j h=>?_,fun i j hij h=>?_⟩
   ·simp only [List.filter_cons,hp,Bool.false_eq_true,if_false] at h;obtain ⟨q1,q2,q3⟩:=h1 j h;refine ⟨by simpa using q1,?_,?_⟩
    ·simp only [List.filter_cons,hp,Bool.false_eq_true,if_false,List.getElem_cons_succ];exact q2
    ·simp only [List.take_succ_cons,List.filter_cons,hp,Bool.false_eq_true,if_false,q3]
   ·simp only [List.filter_cons,hp,Bool.false_eq_true,if_false] at h;have:=h2 i j hij h;simp only;omega
end Kit
def za8 (id:Int) (ds:List Dp):List Dp:=ds.filter fun d=>!decide (d.id=id)
namespace Kit
abbrev ZT:=Int->Int->Prop
def Z0:ZT:=fun _ _=>False
def pc (p:Int) (is:List Ino):Nat:=(is.map fun x=>x.2.2.count p).sum
def fk (ds:List Dp):List (Int×List Int):=(ds.filter fun d=>d.kd == 5).map fun d=>(d.id,d.bl)
def fc5 (p:Int) (l:List (Int×List Int)):Nat:=(l.map fun e=>e.2.count p).sum
def bitZ (p:Int) (xs:List Bool):Nat:=if xs[p.toNat - 1]?=some true then 1 else 0
structure Kz (Z:ZT) (m:MD):Prop where
 k:∀ p:Int,1<=p->p<=16->pc p m.is+fc5 p (fk m.ds)<=bitZ p m.xs
 z:∀ i p,Z i p->1<=p->p<=16->pc p m.is=0/\∀ e∈fk m.ds,e.1≠i->p ∉ e.2
theorem zit {α:Type}(f:α->Nat):∀ (l:List α) (j:Nat) (h:j < l.length) (x:α),((l.set j x).map f).sum+f l[j]=(l.map f).sum+f x
 | [],_,h,_=>by simp at h
 | a :: l,0,_,x=>by simp;omega
 | a :: l,j+1,h,x=>by
  have:=zit f l j (by simpa using h) x;simp only [List.set_cons_succ,List.map_cons,List.sum_cons,List.getElem_cons_succ];omega
theorem sum_sub {α:Type}(f:α->Nat){l l':List α}(h:l.Sublist l'):(l.map f).sum<=(l'.map f).sum:=by
 induction h with
 | slnil=>exact Nat.le_refl _
 | cons a _ ih=>simp;omega
 | cons_cons a _ ih=>simp;omega
theorem zdx {α:Type}(f:α->Nat){l:List α}{d:α}(h:d∈l):f d<=(l.map f).sum:=by
 induction l with
 | nil=>simp at h
 | cons a l ih =>
  simp only [List.map_cons,List.sum_cons];rcases List.mem_cons.mp h with rfl | h
  ·omega
  ·have:=ih h;omega
theorem sum_two {α:Type}(f:α->Nat){l:List α}{d e:α}(h:d∈l)(h2:e∈l)(hn:d≠e):f d+f e<=(l.map f).sum:=by
 induction l with
 | nil=>simp at h
 | cons a l ih =>
  simp only [List.map_cons,List.sum_cons];rcases List.mem_cons.mp h with rfl | h
  ·rcases List.mem_cons.mp h2 with rfl | h2
   ·exact absurd rfl hn
   ·have:=zdx f h2;omega
  ·rcases List.mem_cons.mp h2 with e2 | h2
   ·have:=zdx f h;rw [e2];omega
   ·have:=ih h h2;omega
theorem zdy (f:Dp->Bool)(ds:List Dp):(fk (ds.filter f)).Sublist (fk ds):=(List.filter_sublist.filter _).map _
theorem zct (a b:List Dp):fk (a ++ b)=fk a ++ fk b:=by simp [fk]
theorem zeu {d:Dp}(h:d.kd≠5):fk [d]=[]:=by simp [fk,h]
theorem zgz {d:Dp}(h:d.kd=5):fk [d]=[(d.id,d.bl)]:=by simp [fk,h]
theorem ziu (d:Dp)(ds:List Dp):fk (d :: ds)=fk [d] ++ fk ds:=zct [d] ds
def AlkD (d e:Dp):Prop:=(d.kd=5↔e.kd=5)/\(e.kd=5->d.id=e.id/\d.bl=e.bl)
theorem AlkD.refl (d:Dp):AlkD d d:=⟨Iff.rfl,fun _=>⟨rfl,rfl⟩⟩
theorem AlkD.fk {d e:Dp}(h:AlkD d e):fk [d]=Kit.fk [e]:=by
 by_cases h5:e.kd=5
 ·rw [zgz h5,zgz (h.1.mpr h5),(h.2 h5).1,(h.2 h5).2]
 ·rw [zeu h5,zeu (fun q=>h5 (h.1.mp q))]
theorem zev:∀ (a b:List Dp),a.length=b.length->(∀ (i:Nat) (h1:i < a.length) (h2:i < b.length),AlkD a[i] b[i])->fk a=fk b
 | [],[],_,_=>rfl
 | [],_ :: _,h,_=>by simp at h
 | _ :: _,[],h,_=>by simp at h
 | x :: a,y :: b,h,hp=>by
  rw [ziu x a,ziu y b,(show AlkD x y from hp 0 (by simp) (by simp)).fk,zev a b (by simpa using h) (fun i h1 h2=>hp (i+1) (by simpa using h1) (by simpa using h2))]
theorem fk_set (ds:List Dp)(j:Nat)(h:j < ds.length)(d:Dp)(ha:AlkD d ds[j]):fk (ds.set j d)=fk ds :=
 zev _ _ (by simp) fun i h1 h2=>by
  by_cases hij:j=i
  ·subst hij;rw [List.getElem_set_self];exact ha
  ·rw [List.getElem_set_ne hij];exact AlkD.refl _
theorem zc2 (ds:List Dp)(j:Nat)(h:j < ds.length)(d:Dp)(ha:AlkD d ds[j]):(fk (ds.set j d)).Sublist (fk ds):=by
 rw [fk_set ds j h d ha];exact List.Sublist.refl _
theorem zew {xs:List Bool}{j:Nat}(hj:j < xs.length){p:Int}(h1:1<=p)(b:Bool):bitZ p (xs.set j b)=if p=(j:Int)+1 then (if b then 1 else 0) else bitZ p xs:=by
 unfold bitZ;by_cases h:p=(j:Int)+1
 ·rw [if_pos h,show p.toNat - 1=j by omega,List.getElem?_set_self hj]
  cases b<;>simp
 ·rw [if_neg h,List.getElem?_set_ne (by omega)]
theorem zgj (p:Int)(xs:List Bool):bitZ p xs<=1:=by unfold bitZ;split<;>omega
theorem zg0 (is:List Ino)(j:Nat)(h:j < is.length)(x:Ino)(p:Int):pc p (is.set j x)+is[j].2.2.count p=pc p is+x.2.2.count p:=zit (fun y:Ino=>y.2.2.count p) is j h x
theorem zg1 {p:Int}:∀ {l:List (Int×List Int)},(∀ e∈l,p ∉ e.2)->fc5 p l=0
 | [],_=>rfl
 | e :: l,h=>by
  have h1:e.2.count p=0:=List.count_eq_zero.mpr (h e (by simp));have h2:=zg1 (l:=l) fun q hq=>h q (by simp [hq]);show e.2.count p+fc5 p l=0;omega
def BlQ (ps:List Int) (q:Nat) (bl:List Int):Prop:=(∀ p∈bl,(1:Int)<=p/\p<=16)/\∀ p,bl.count p<=(ps.take q).count p
theorem BlQ.nil (ps:List Int):BlQ ps 0 []:=⟨fun p hp=>by simp at hp,fun p=>by simp⟩
theorem BlQ.more {ps:List Int}{q:Nat}{bl:List Int}(h:BlQ ps q bl)(hq:q < ps.length){t:Int}(ht:ps[q]=t)(h1:1<=t)(h2:t<=16):BlQ ps (q+1) (bl ++ [t]):=by
 refine ⟨fun p hp=>?_,fun p=>?_⟩
 ·rcases List.mem_append.mp hp with e | e
  ·exact h.1 p e
  ·simp only [List.mem_cons,List.not_mem_nil,or_false] at e;subst e;exact ⟨h1,h2⟩
 ·have:=h.2 p;rw [List.take_succ_eq_append_getElem hq,List.count_append,List.count_append,ht];omega
theorem BlQ.skip {ps:List Int}{q:Nat}{bl:List Int}(h:BlQ ps q bl)(hq:q < ps.length):BlQ ps (q+1) bl:=by
 refine ⟨h.1,fun p=>?_⟩;have:=h.2 p;rw [List.take_succ_eq_append_getElem hq,List.count_append];omega
namespace Kz
variable {Z : ZT} {m : MD}
theorem weak {Z':ZT}(h:Kz Z' m)(hz:∀ i p,Z i p->Z' i p):Kz Z m:=⟨h.k,fun i p hi=>h.z i p (hz i p hi)⟩
theorem none (h:Kz Z m):Kz Z0 m:=h.weak fun _ _ e=>e.elim
theorem of (h:Kz Z m){m':MD}(h1:m'.is=m.is)(h2:fk m'.ds=fk m.ds)(h3:m'.xs=m.xs):Kz Z m':=by
 obtain ⟨a,b⟩:=h;refine ⟨?_,?_⟩
 ·rw [h1,h2,h3];exact a
 ·rw [h1,h2];exact b
theorem deps (h:Kz Z m){m':MD}(h1:m'.is=m.is)(h2:(fk m'.ds).Sublist (fk m.ds))(h3:m'.xs=m.xs):Kz Z m':=by
 obtain ⟨a,b⟩:=h;refine ⟨fun p p1 p2=>?_,fun i p hz p1 p2=>?_⟩
 ·have:=a p p1 p2;have h4:=sum_sub (fun e:Int×List Int=>e.2.count p) h2;rw [h1,h3];unfold fc5 at *;omega
 ·have:=b i p hz p1 p2;rw [h1];exact ⟨this.1,fun e he=>this.2 e (h2.subset he)⟩
theorem inode (h:Kz Z m)(j:Nat){x:Ino}(hx:∀ (hj:j < m.is.length) (p:Int),1<=p->x.2.2.count p<=m.is[j].2.2.count p):Kz Z { m with is:=m.is.set j x }:=by
 by_cases hj:j < m.is.length
 ·obtain ⟨a,b⟩:=h;refine ⟨fun p p1 p2=>?_,fun i p hz p1 p2=>?_⟩
  ·have q:=zg0 m.is j hj x p;have:=hx hj p p1;have:=a p p1 p2;show pc p (m.is.set j x)+fc5 p (fk m.ds)<=bitZ p m.xs;omega
  ·have q:=zg0 m.is j hj x p;have:=hx hj p p1;have:=b i p hz p1 p2;exact ⟨by show pc p (m.is.set j x)=0;omega,this.2⟩
 ·rw [List.set_eq_of_length_le (by omega)];exact h
theorem mark (h:Kz Z m)(j:Nat)(fs:List Bool):Kz Z { m with xs:=m.xs.set j true,fs:=fs }:=by
 by_cases hj:j < m.xs.length
 ·refine ⟨fun p p1 p2=>?_,h.z⟩;have:=h.k p p1 p2;have q:=zgj p m.xs;show _<=bitZ p (m.xs.set j true);rw [zew hj p1]
  split
  ·simp;omega
  ·exact this
 ·rw [List.set_eq_of_length_le (by omega)];exact ⟨h.k,h.z⟩
theorem clear (h:Kz Z m)(j:Nat)(hz:∀ i,Z i ((j:Int)+1)):Kz Z { m with xs:=m.xs.set j false }:=by
 by_cases hj:j < m.xs.length
 ·refine ⟨fun p p1 p2=>?_,h.z⟩;show _<=bitZ p (m.xs.set j false);rw [zew hj p1]
  split
  ·rename_i e;have q0:=(h.z 0 p (by rw [e];exact hz 0) p1 p2).1;have q1:fc5 p (fk m.ds)=0:=zg1 fun e' he=>(h.z (e'.1+1) p (by rw [e];exact hz _) p1 p2).2 e' he (by omega);simp only [Bool.false_eq_true,if_false];show pc p m.is+fc5 p (fk m.ds)<=0;omega
  ·exact h.k p p1 p2
 ·rw [List.set_eq_of_length_le (by omega)];exact ⟨h.k,h.z⟩
theorem take (h:Kz Z0 m)(j p:Nat)(x:Ino)(fs:List Bool)(hp:p < m.xs.length)(hb:m.xs[p]?=some false)(hx:∀ (hj:j < m.is.length) (q:Int),1<=q->x.2.2.count q<=m.is[j].2.2.count q+(if q=(p:Int)+1 then 1 else 0)):Kz Z0 { m with xs:=m.xs.set p true,fs:=fs,is:=m.is.set j x }:=by
 refine ⟨fun q q1 q2=>?_,fun _ _ e=>e.elim⟩;have a:=h.k q q1 q2;show pc q (m.is.set j x)+fc5 q (fk m.ds)<=bitZ q (m.xs.set p true);rw [zew hp q1];by_cases hj:j < m.is.length
 ·have e:=zg0 m.is j hj x q;have l:=hx hj q q1;by_cases hq:q=(p:Int)+1
  ·rw [if_pos hq] at l ⊢;have z:bitZ q m.xs=0:=by unfold bitZ;rw [hq,show ((p:Int)+1).toNat - 1=p by omega,hb];simp
   simp only [if_true];omega
  ·rw [if_neg hq] at l ⊢;omega
 ·rw [List.set_eq_of_length_le (by omega)];have:=zgj q m.xs
  split
  ·simp;omega
  ·exact a
def Room (Z:ZT) (m:MD) (bl:List Int):Prop:=(∀ p:Int,1<=p->p<=16->pc p m.is+fc5 p (fk m.ds)+bl.count p<=bitZ p m.xs)/\∀ i p,Z i p->1<=p->p<=16->p ∉ bl
theorem put (h:Kz Z m){m':MD}(d:Dp)(h1:m'.is=m.is)(h2:m'.ds=m.ds ++ [d])(h3:m'.xs=m.xs)(hr:d.kd=5->Room Z m d.bl):Kz Z m':=by
 by_cases h5:d.kd=5
 ·obtain ⟨r1,r2⟩:=hr h5;refine ⟨fun p p1 p2=>?_,fun i p hz p1 p2=>?_⟩
  ·have:=r1 p p1 p2;rw [h1,h2,h3,zct,zgz h5];unfold fc5 at *;simp;omega
  ·have:=h.z i p hz p1 p2;rw [h1,h2,zct,zgz h5];refine ⟨this.1,fun e he hn=>?_⟩;rcases List.mem_append.mp he with he | he
   ·exact this.2 e he hn
   ·simp only [List.mem_cons,List.not_mem_nil,or_false] at he;subst he;exact r2 i p hz p1 p2
 ·exact h.of h1 (by rw [h2,zct,zeu h5,List.append_nil]) h3
theorem lose (h:Kz Z m)(j:Nat)(hj:j < m.is.length)(x:Ino)(bl:List Int)(hx:∀ p:Int,1<=p->x.2.2.count p=0)(hb:∀ p:Int,1<=p->bl.count p<=m.is[j].2.2.count p):Room Z { m with is:=m.is.set j x } bl:=by
 refine ⟨fun p p1 p2=>?_,fun i p hz p1 p2 hm=>?_⟩
 ·have e:=zg0 m.is j hj x p;have:=hx p p1;have:=hb p p1;have:=h.k p p1 p2;show pc p (m.is.set j x)+fc5 p (fk m.ds)+bl.count p<=bitZ p m.xs;omega
 ·have q:=(h.z i p hz p1 p2).1;have c:0 < bl.count p:=List.count_pos_iff.mpr hm;have:=hb p p1;have:=zdx (fun y:Ino=>y.2.2.count p) (List.getElem_mem hj);unfold pc at q;omega
theorem Room.of {bl:List Int}(h:Room Z m bl){m':MD}(h1:m'.is=m.is)(h2:fk m'.ds=fk m.ds)(h3:m'.xs=m.xs):Room Z m' bl:=by
 obtain ⟨a,b⟩:=h;refine ⟨?_,b⟩;rw [h1,h2,h3];exact a
theorem drop (h:Kz Z m)(id:Int)(bl:List Int)(hb:∀ p∈bl,Z id p):Kz (fun i p=>Z i p\/p∈bl) { m with ds:=za8 id m.ds }:=by
 have hs:(fk (za8 id m.ds)).Sublist (fk m.ds):=zdy _ _;refine ⟨(h.deps (m':={ m with ds:=za8 id m.ds }) rfl hs rfl).k,fun i p hz p1 p2=>?_⟩;rcases hz with hz | hz
 ·have:=h.z i p hz p1 p2;exact ⟨this.1,fun e he=>this.2 e (hs.subset he)⟩
 ·have:=h.z id p (hb p hz) p1 p2;refine ⟨this.1,fun e he _=>this.2 e (hs.subset he) ?_⟩;obtain ⟨d,hd,rfl⟩:=List.mem_map.mp he;have:=(List.mem_filter.mp (List.mem_filter.mp hd).1).2;simpa using this
def zof (ds:List Dp):ZT:=fun i p=>∃ d∈ds,d.kd=5/\d.id=i/\p∈d.bl
theorem zof_of (h:Kz Z m):Kz (zof m.ds) m:=by
 refine ⟨h.k,fun i p hz p1 p2=>?_⟩;obtain ⟨d,hd,h5,rfl,hp⟩:=hz;have hm:(d.id,d.bl)∈fk m.ds:=List.mem_map.mpr ⟨d,List.mem_filter.mpr ⟨hd,by simp [h5]⟩,rfl⟩;have a:=h.k p p1 p2;have b:=zgj p m.xs;have c:0 < d.bl.count p:=List.count_pos_iff.mpr hp;have s:=zdx (fun e:Int×List Int=>e.2.count p) hm;unfold fc5 at a;refine ⟨by simp only at s;omega,fun e he hn hq=>?_⟩;have c2:0 < e.2.count p:=List.count_pos_iff.mpr hq;have s2:=sum_two (fun e:Int×List Int=>e.2.count p) hm he (fun q=>hn (by rw [← q]));simp only at s2;omega
theorem ptr (h:Kz Z m){x:Ino}(hx:x∈m.is){p:Int}(hp:p∈x.2.2)(h1:1<=p)(h2:p<=16):m.xs[p.toNat - 1]?=some true:=by
 have a:=h.k p h1 h2;have c:0 < x.2.2.count p:=List.count_pos_iff.mpr hp;have s:=zdx (fun y:Ino=>y.2.2.count p) hx;unfold pc at a;unfold bitZ at a
 split at a
 ·assumption
 ·omega
end Kz
end Kit
namespace Kit
structure DOkN (d:Dp):Prop where
 io:1<=d.io/\d.io<=8
 pt:0<=d.pt/\d.pt<=1
 bk:0<=d.bk/\d.bk<=16
 sl:0<=d.sl/\d.sl<=3
 bl:∀ p∈d.bl,(1:Int)<=p/\p<=16
 bn:d.bl.length<=2
 nm:d.nm.size<=6
structure DOk (d:Dp):Prop extends DOkN d where
 id:1<=d.id/\d.id<=100000
structure IOk (x:Ino):Prop where
 l:0<=x.2.1/\x.2.1<=200
 n:x.2.2.length=2
 p:∀ p∈x.2.2,(0:Int)<=p/\p<=16
def SOk (s:Sl):Prop:=s.1.size<=6/\((s.1.size=0/\s.2=0)\/(1<=s.2/\s.2<=8))
structure KOk (x:Blk):Prop where
 n:x.1=true->x.2.1.length=4
 m:x.2.1.length<=4
 s:∀ s∈x.2.1,SOk s
 t:x.2.2.size<=16
theorem zex {x:Blk}(h:KOk x):bigB 1048576 x:=⟨Nat.le_trans h.m (by decide),fun j hj=>Nat.le_trans (h.s _ (List.getElem_mem hj)).1 (by decide),Nat.le_trans h.t (by decide)⟩
structure Sh (Z:ZT) (m:MD):Prop where
 x:m.xs.length=16
 y:m.ys.length=8
 i:m.is.length=8
 ii:∀ q∈m.is,IOk q
 b:m.bs.length=16
 bb:∀ q∈m.bs,KOk q
 f:m.fs.length=21
 l:m.ds.length<=40
 dd:∀ d∈m.ds,DOk d
 nx:1<=m.nx/\m.nx<=100000
 k:Kz Z m
namespace Sh
variable {Z : ZT} {m : MD}
theorem big (h:Sh Z m):BigM 1048576 m :=
 ⟨⟨by rw [h.x];decide,by rw [h.y];decide,by rw [h.i];decide,fun j hj=>by rw [(h.ii _ (List.getElem_mem hj)).n];decide,by rw [h.b];decide,fun j hj=>zex (h.bb _ (List.getElem_mem hj))⟩,
  by rw [h.f];decide,Nat.le_trans h.l (by decide),fun j hj=>Nat.le_trans (h.dd _ (List.getElem_mem hj)).bn (by decide),fun j hj=>Nat.le_trans (h.dd _ (List.getElem_mem hj)).nm (by decide)⟩
theorem with_k {Z':ZT}(h:Sh Z m)(hk:Kz Z' m):Sh Z' m:=⟨h.x,h.y,h.i,h.ii,h.b,h.bb,h.f,h.l,h.dd,h.nx,hk⟩
theorem none (h:Sh Z m):Sh Z0 m:=h.with_k h.k.none
theorem weak {Z':ZT}(h:Sh Z' m)(hz:∀ i p,Z i p->Z' i p):Sh Z m:=h.with_k (h.k.weak hz)
theorem mark (h:Sh Z m)(u:Int):Sh Z (markU u m):=by
 unfold markU
 split
 ·exact ⟨h.x,h.y,h.i,h.ii,h.b,h.bb,by rw [List.length_set];exact h.f,h.l,h.dd,h.nx,h.k.of rfl rfl rfl⟩
 ·exact h
theorem deps (h:Sh Z m){ds:List Dp}(hl:ds.length<=40)(hd:∀ d∈ds,DOk d)(hf:(fk ds).Sublist (fk m.ds)):Sh Z { m with ds:=ds }:=⟨h.x,h.y,h.i,h.ii,h.b,h.bb,h.f,hl,hd,h.nx,h.k.deps rfl hf rfl⟩
theorem inode (h:Sh Z m)(j:Nat){x:Ino}(hx:IOk x)(hp:∀ (hj:j < m.is.length) (p:Int),1<=p->x.2.2.count p<=m.is[j].2.2.count p):Sh Z { m with is:=m.is.set j x }:=⟨h.x,h.y,by rw [List.length_set];exact h.i,fun q hq=>(List.mem_or_eq_of_mem_set hq).elim (h.ii q) (fun e=>e ▸ hx),h.b,h.bb,h.f,h.l,h.dd,h.nx,h.k.inode j hp⟩
theorem block (h:Sh Z m)(j:Nat){x:Blk}(hx:KOk x):Sh Z { m with bs:=m.bs.set j x }:=⟨h.x,h.y,h.i,h.ii,by rw [List.length_set];exact h.b,fun q hq=>(List.mem_or_eq_of_mem_set hq).elim (h.bb q) (fun e=>e ▸ hx),h.f,h.l,h.dd,h.nx,h.k.of rfl rfl rfl⟩
theorem takeB (h:Sh Z m):Sh Z (takeB m):=by
 unfold Kit.takeB
 split
 ·exact h
 ·exact ⟨by rw [List.length_set];exact h.x,h.y,h.i,h.ii,h.b,h.bb,by rw [List.length_set];exact h.f,h.l,h.dd,h.nx,h.k.mark _ _⟩
theorem takeI (h:Sh Z m):Sh Z (takeI m):=by
 unfold Kit.takeI
 split
 ·exact h
 ·exact ⟨h.x,by rw [List.length_set];exact h.y,h.i,h.ii,h.b,h.bb,by rw [List.length_set];exact h.f,h.l,h.dd,h.nx,h.k.of rfl rfl rfl⟩
end Sh
variable {Z : ZT}
theorem IOk.none:IOk ((0:Int),(0:Int),([0,0]:List Int)):=⟨by decide,rfl,fun p hp=>by simp at hp;omega⟩
def BX (Z:ZT) (w:World) (L b:Nat):Prop:=∃ (S:Nat->Prop) (u v iv bv dv pv:Value) (m:MD),PM w S b u v iv bv dv pv m/\(∀ k,S k->L<=k)/\L<=b/\Sh Z m
theorem BX.below {w w':World}{L b:Nat}(h:BX Z w L b)(hb:Below w.heap.size w w'):BX Z w' L b:=by
 exact cQ130
end Kit
def blkAt (bs:List Blk) (x:Int):Blk:=if inB x 1 bs.length=true then bs.getD (x - 1).toNat (false,[],⟨#[]⟩) else (false,[],⟨#[]⟩)
theorem zey (x:Int)(u v iv bv:Value)(xs ys:List Bool)(is:List Ino)(bs:List Blk)(w0 w:World)(h:DR w0 u v iv bv xs ys is bs)(h0:Below w0.heap.size w0 w)(hl:bs.length<=1048576) :
  Calls Tryz.prog 119 #[.agg #[u,v,iv,bv],.int .i64 x] w fun e w'=>∃ sv,e=.returned (.tuple #[.agg #[.bool (blkAt bs x).1,sv,.string (blkAt bs x).2.2],.bool (inB x 1 bs.length)])/\RSl w0 sv (blkAt bs x).2.1/\Below w.heap.size w w':=by
 have HZ:=hide h0;obtain ⟨a4,c4,rfl,-,hc⟩:=h.k;have HC:=hide hc;clear h hc h0;have HB:Hid (∀ A,Below w.heap.size w (((w.alloc (.cells A 30)).alloc (.cells #[.bool false,.slice none 0 0,.string ⟨#[]⟩] 44)))):=fun A=>((Below.refl _ w).alloc nR _).alloc (by simp) _
 cases hb:inB x 1 bs.length with
 | false =>
  have HX:=hide hb;have e0:blkAt bs x=(false,[],⟨#[]⟩):=by unfold blkAt;rw [hb];rfl
  rw [e0];clear hb e0;go_enter Tryz.func119,Tryz.ntmps119
  go_wp2_with fail
  refine (zaj x 1 _ _).mono ?_;rintro e w1 ⟨rfl,rfl⟩;rw [HX.out];go_wp2;refine bodyPost_ret (v:=.tuple #[.agg #[.bool false,.slice none 0 0,.string ⟨#[]⟩],.bool false]) (by simp [results,go_sem]) rfl ⟨_,rfl,?_,?_⟩
  ·exact ⟨none,0,rfl,Nat.le_refl _,fun j hj=>by simp at hj⟩
  ·exact HB.out _
 | true =>
  have HX:=hide hb;obtain ⟨h1,h2⟩:=zao hb;obtain ⟨j,rfl⟩:∃ j:Nat,x=(j:Int)+1:=⟨(x - 1).toNat,by omega⟩
  have hj:j < bs.length:=by omega
  have e0:blkAt bs ((j:Int)+1)=bs[j]:=by
   unfold blkAt;rw [hb,if_pos rfl,show ((j:Int)+1 - 1).toNat=j by omega];simp [hj]
  rw [e0];clear hb e0;obtain ⟨g,off,t,rfl,hg,k0,k1,k2,r1,r2,r3⟩:=HC.out j hj
  replace k0:=(HZ.out.cell (p:=⟨g,off+j * 3,none⟩) hg).trans k0
  replace k1:=(HZ.out.cell (p:=⟨g,off+j * 3+1,none⟩) hg).trans k1
  replace k2:=(HZ.out.cell (p:=⟨g,off+j * 3+2,none⟩) hg).trans k2
  replace hg:g < w.heap.size:=Nat.lt_of_lt_of_le hg HZ.out.size
  obtain ⟨t0,t1,t2⟩:=t;simp only at r1 r2 r3 k0 k1 k2;subst r1 r3;generalize bs[j].1=d at *;generalize bs[j].2.2=tx at *;generalize bs[j].2.1=ss at *;have HR:=hide r2;obtain ⟨pa,pc,rfl,-⟩:=r2;have HB2:Hid (∀ (A B:Array Value),Below w.heap.size w ((w.alloc (.cells A 30)).alloc (.cells B 44))):=fun A B=>((Below.refl _ w).alloc nR _).alloc (by simp) _;have n0:((w.alloc (.cells #[u,v,iv,.slice (some ⟨g,off,none⟩) bs.length c4] 30)).alloc (.cells #[.bool false,.slice none 0 0,.string ⟨#[]⟩] 44)).cell? ⟨g,off+j * 3,none⟩=some (.bool d):=((HB.out _).cell (p:=⟨g,off+j * 3,none⟩) hg).trans k0;have n1:((w.alloc (.cells #[u,v,iv,.slice (some ⟨g,off,none⟩) bs.length c4] 30)).alloc (.cells #[.bool false,.slice none 0 0,.string ⟨#[]⟩] 44)).cell? ⟨g,off+j * 3+1,none⟩=some (.slice pa ss.length pc):=((HB.out _).cell (p:=⟨g,off+j * 3+1,none⟩) hg).trans k1;have n2:((w.alloc (.cells #[u,v,iv,.slice (some ⟨g,off,none⟩) bs.length c4] 30)).alloc (.cells #[.bool false,.slice none 0 0,.string ⟨#[]⟩] 44)).cell? ⟨g,off+j * 3+2,none⟩=some (.string tx):=((HB.out _).cell (p:=⟨g,off+j * 3+2,none⟩) hg).trans k2;have j0:(0:Int)<=(j:Int):=by omega
  have j1:(j:Int) < (bs.length:Int):=by omega
  clear k0 k1 k2;go_enter Tryz.func119,Tryz.ntmps119
  go_wp2_with fail
  refine (zaj _ 1 _ _).mono ?_;rintro e w1 ⟨rfl,rfl⟩;rw [HX.out];go_wp2;refine bodyPost_ret (v:=.tuple #[.agg #[.bool d,.slice pa ss.length pc,.string tx],.bool true]) (by simp [results,go_sem]) rfl ⟨_,rfl,?_,?_⟩
  ·exact HR.out
  ·exact HB2.out _ _
def okR (k l p q:Int):Bool:=decide ((k=0/\l=0/\p=0/\q=0)\/((k=1\/k=2)/\0<=l/\l<=200/\0<=p/\p<=16/\0<=q/\q<=16))
theorem zg2 {k l p q:Int}(h:(k=0/\l=0/\p=0/\q=0)\/((k=1\/k=2)/\0<=l/\l<=200/\0<=p/\p<=16/\0<=q/\q<=16)):true=okR k l p q:=by simp only [okR];exact (decide_eq_true h).symm
theorem zb3 {k l p q:Int}(h:¬ ((k=0/\l=0/\p=0/\q=0)\/((k=1\/k=2)/\0<=l/\l<=200/\0<=p/\p<=16/\0<=q/\q<=16))):false=okR k l p q:=by simp only [okR];exact (decide_eq_false h).symm
theorem okR_z {k l p q:Int}(hk:k=0)(hp:(p != 0)=true):false=okR k l p q:=zb3 (by simp at hp;omega)
theorem okR_zq {k l p q:Int}(hk:k=0)(hp:(q != 0)=true):false=okR k l p q:=zb3 (by simp at hp;omega)
theorem okR_l {k l p q:Int}(hk:k=0)(hp:(p != 0)=false)(hq:(q != 0)=false):(l == 0)=okR k l p q:=by
 simp at hp hq;subst hk hp hq;by_cases h:l=0
 ·rw [← zg2 (by omega)];simp [h]
 ·rw [← zb3 (by omega)];simp [h]
theorem RInts.two {w:World}{v:Value}{p q:Int}(h:RInts w v [p,q]):∃ g off c,v=.slice (some ⟨g,off,none⟩) 2 c/\g < w.heap.size/\w.cell? ⟨g,off,none⟩=some (.int .i64 p)/\w.cell? ⟨g,off+1,none⟩=some (.int .i64 q):=by
 obtain ⟨a,c,rfl,h⟩:=h;obtain ⟨g,off,rfl,hg,h0⟩:=h 0 (by simp);obtain ⟨g1,off1,e,_,h1⟩:=h 1 (by simp);simp at e;obtain ⟨rfl,rfl⟩:=e;exact ⟨g,off,c,rfl,hg,h0,h1⟩
theorem zc3 (k l p q:Int)(v:Value)(w:World)(hv:RInts w v [p,q]) :
  Calls Tryz.prog 82 #[.agg #[.int .i64 k,.int .i64 l,v]] w fun e w'=>e=.returned (.bool (okR k l p q))/\Below w.heap.size w w':=by
 obtain ⟨g,off,c,rfl,hg,c0,c1⟩:=RInts.two hv;clear hv;go_enter Tryz.func82,Tryz.ntmps82
 go_wp2
 ·go_rounds 3
  all_goals (go_ret;refine ⟨zaw ?_,by go_grown⟩)
  all_goals first | (refine zg2 ?_;omega) | (refine zb3 ?_;omega) | exact okR_z ‹k=0› ‹(p != 0)=true› | exact okR_zq ‹k=0› ‹(q != 0)=true› | exact okR_l ‹k=0› ‹(p != 0)=false› ‹(q != 0)=false›
 all_goals (go_ret;refine ⟨zaw ?_,by go_grown⟩;refine zb3 ?_;omega)
theorem zdd (k l:Int)(xs:List Int)(v:Value)(w:World)(hv:RInts w v xs)(hn:xs.length≠2) :
  Calls Tryz.prog 82 #[.agg #[.int .i64 k,.int .i64 l,v]] w fun e w'=>e=.returned (.bool false)/\Below w.heap.size w w':=by
 obtain ⟨a,c,rfl,-⟩:=hv;generalize xs.length=n at *;have h1:((n:Int) != 2)=true:=by simp;omega
 go_enter Tryz.func82,Tryz.ntmps82
 go_wp2
 all_goals (go_ret;exact ⟨rfl,by go_grown⟩)
theorem Tryz.u3:Tryz.prog.underlying 3=some (.int .i64):=by kernel_rfl
def quadB (a b c d:Nat):ByteArray:=⟨#[UInt8.ofNat a,UInt8.ofNat b,UInt8.ofNat c,UInt8.ofNat d]⟩
theorem zhj (a b c d:Nat):(quadB a b c d).size=4:=rfl
theorem Tryz.u9:Tryz.prog.underlying 9=some .string:=by kernel_rfl
theorem Tryz.u5:Tryz.prog.underlying 5=some (.int .u8):=by kernel_rfl
theorem ziv (a b c d:Nat)(ha:a < 256)(hb:b < 256)(hc:c < 256)(hd:d < 256)(W:World)(B C:Nat)
  (h0:W.cell? ⟨B,0,none⟩=some (.int .u8 a)) (h1:W.cell? ⟨B,1,none⟩=some (.int .u8 b)) (h2:W.cell? ⟨B,2,none⟩=some (.int .u8 c)) (h3:W.cell? ⟨B,3,none⟩=some (.int .u8 d)) :
  (convert 22 9 (.slice (some ⟨B,0,none⟩) 4 C)).run Tryz.prog W=.ok (.string (quadB a b c d)) W:=by
 refine run_convert_bytes_back (P:=Tryz.prog) W 22 9 5 ⟨B,0,none⟩ C [UInt8.ofNat a,UInt8.ofNat b,UInt8.ofNat c,UInt8.ofNat d] Tryz.u22 Tryz.u5 Tryz.u9 ?_;intro j hj;simp at hj
 match j,hj with
 | 0,_=>simp [Addr.add,h0,UInt8.toNat_ofNat'];omega
 | 1,_=>simp [Addr.add,h1,UInt8.toNat_ofNat'];omega
 | 2,_=>simp [Addr.add,h2,UInt8.toNat_ofNat'];omega
 | 3,_=>simp [Addr.add,h3,UInt8.toNat_ofNat'];omega
theorem zfl (k l p q:Int)(v:Value)(w:World)(hv:RInts w v [p,q])(hr:okR k l p q=false) :
  Calls Tryz.prog 85 #[.agg #[.int .i64 k,.int .i64 l,v]] w fun e w'=>e=.returned (.tuple #[.string ⟨#[]⟩,.bool false])/\Below w.heap.size w w':=by
 have HC:=hide (fun (o:Obj)=>zc3 k l p q v (w.alloc o) (hv.alloc o));rw [hr] at HC;obtain ⟨g,off,c,rfl,-⟩:=RInts.two hv;clear hv hr;go_enter Tryz.func85,Tryz.ntmps85
 exact cQ76
theorem zef (k l:Int)(xs:List Int)(v:Value)(w:World)(hv:RInts w v xs)(hn:xs.length≠2) :
  Calls Tryz.prog 85 #[.agg #[.int .i64 k,.int .i64 l,v]] w fun e w'=>e=.returned (.tuple #[.string ⟨#[]⟩,.bool false])/\Below w.heap.size w w':=by
 have HC:=hide (fun (o:Obj)=>zdd k l xs v (w.alloc o) (hv.alloc o) hn);obtain ⟨a,c,rfl,-⟩:=hv;go_enter Tryz.func85,Tryz.ntmps85
 exact cQ76
theorem zez (k l p q:Nat)(v:Value)(w:World)(hv:RInts w v [(p:Int),(q:Int)])(hr:okR k l p q=true)(hk:k < 256)(hl:l < 256)(hp:p < 256)(hq:q < 256) :
  Calls Tryz.prog 85 #[.agg #[.int .i64 k,.int .i64 l,v]] w fun e w'=>e=.returned (.tuple #[.string (quadB k l p q),.bool true])/\Below w.heap.size w w':=by
 have HC:=hide (fun (o:Obj)=>zc3 k l p q v (w.alloc o) (hv.alloc o));rw [hr] at HC;have hco:=ziv k l p q hk hl hp hq;obtain ⟨g,off,c,rfl,hg,c0,c1⟩:=RInts.two hv;clear hv hr;go_enter Tryz.func85,Tryz.ntmps85
 go_wp2_with fail
 refine (HC.out _).mono ?_;rintro e w1 ⟨rfl,B1⟩;have X1:=(AtI.new w k l (.slice (some ⟨g,off,none⟩) 2 c)).below B1 (by simp);obtain ⟨d0,d1,d2,m1⟩:=X1.cells;have e0:w1.cell? ⟨g,off,none⟩=some (.int .i64 p):=(B1.cell (p:=⟨g,off,none⟩) (by simp;omega)).trans ((World.cell?_alloc_lt _ _ _ hg).trans c0);have e1:w1.cell? ⟨g,off+1,none⟩=some (.int .i64 q):=(B1.cell (p:=⟨g,off+1,none⟩) (by simp;omega)).trans ((World.cell?_alloc_lt _ _ _ hg).trans c1);have HB1:=hide B1;have hg1:g < w1.heap.size:=by omega
 clear B1 X1 c0 c1 hg;go_wp2
 go_region
 have h1:Below w.heap.size w w1:=((Below.refl _ w).alloc nR _).trans (HB1.out.mono (by simp));have HB2:=hide (show ∀ o,Below w.heap.size w (w1.alloc o).drew from fun o=>(h1.alloc h1.size o).drew);clear h1;go_wp2
 go_ret2
 exact ⟨rfl,HB2.out _⟩
namespace Kit
def AtT (T:TypeId) (w:World) (b:Nat) (k l:Int) (v:Value):Prop:=w.heap[b]?=some (.cells #[.int .i64 k,.int .i64 l,v] T (0,0))
theorem AtT.lt {T:TypeId}{w:World}{b:Nat}{k l:Int}{v:Value}(h:AtT T w b k l v):b < w.heap.size:=(Array.getElem?_eq_some_iff.1 h).1
theorem AtT.new (T:TypeId)(w:World)(k l:Int)(v:Value):AtT T (w.alloc (.cells #[.int .i64 k,.int .i64 l,v] T)) w.heap.size k l v:=zbh w _
theorem AtT.alloc {T:TypeId}{w:World}{b:Nat}{k l:Int}{v:Value}(h:AtT T w b k l v)(o:Obj):AtT T (w.alloc o) b k l v:=(Below.heap_alloc _ _ _ h.lt).trans h
theorem AtT.below {T:TypeId}{w w':World}{b B:Nat}{k l:Int}{v:Value}(h:AtT T w b k l v)(hb:Below B w w')(hB:b < B):AtT T w' b k l v:=(hb.block b hB).trans h
theorem AtT.grown {T:TypeId}{w w':World}{b:Nat}{k l:Int}{v:Value}{row:Option Nat}(h:AtT T w b k l v)(hg:w.grownBy w' row)(hr:row≠some b):AtT T w' b k l v:=(hg.block b h.lt (fun e=>hr e.symm)).trans h
theorem AtT.cells {T:TypeId}{w:World}{b:Nat}{k l:Int}{v:Value}(h:AtT T w b k l v) :
  w.cell? ⟨b,0,none⟩=some (.int .i64 k)/\w.cell? ⟨b,1,none⟩=some (.int .i64 l)/\w.cell? ⟨b,2,none⟩=some v:=by
 have h':w.heap[b]?=some (.cells #[.int .i64 k,.int .i64 l,v] T (0,0)):=h;exact ⟨by simp [World.cell?,h'],by simp [World.cell?,h'],by simp [World.cell?,h']⟩
end Kit
def okL (k l:Int):List Int->Bool
 | [p,q]=>okR k l p q
 | _=>false
theorem zfm (k l:Int)(xs:List Int)(h:xs.length≠2):okL k l xs=false:=by
 match xs,h with
 | [],_=>rfl
 | [_],_=>rfl
 | [_,_],h=>exact absurd rfl h
 | _ :: _ :: _ :: _,_=>rfl
theorem two_or (xs:List Int):(∃ p q,xs=[p,q])\/xs.length≠2:=by
 match xs with
 | []=>right;simp
 | [_]=>right;simp
 | [p,q]=>left;exact ⟨p,q,rfl⟩
 | _ :: _ :: _ :: _=>right;simp
theorem zdz (k l:Int)(xs:List Int)(v:Value)(w:World)(hv:RInts w v xs) :
  Calls Tryz.prog 82 #[.agg #[.int .i64 k,.int .i64 l,v]] w fun e w'=>e=.returned (.bool (okL k l xs))/\Below w.heap.size w w':=by
 rcases two_or xs with ⟨p,q,rfl⟩ | h
 ·exact zc3 k l p q v w hv
 ·rw [zfm k l xs h];exact zdd k l xs v w hv h
def textL (k l:Int) (xs:List Int):ByteArray:=if okL k l xs then quadB k.toNat l.toNat (xs.getD 0 0).toNat (xs.getD 1 0).toNat else ⟨#[]⟩
theorem zhk {k l p q:Int}(h:okR k l p q=true):(0<=k/\k<=2)/\(0<=l/\l<=200)/\(0<=p/\p<=16)/\(0<=q/\q<=16):=by
 have h':=of_decide_eq_true h;omega
theorem zcu (k l:Int)(xs:List Int)(v:Value)(w:World)(hv:RInts w v xs) :
  Calls Tryz.prog 85 #[.agg #[.int .i64 k,.int .i64 l,v]] w fun e w'=>e=.returned (.tuple #[.string (textL k l xs),.bool (okL k l xs)])/\Below w.heap.size w w':=by
 rcases two_or xs with ⟨p,q,rfl⟩ | h
 ·cases hr:okR k l p q with
  | true =>
   have hL:okL k l [p,q]=true:=hr;obtain ⟨hk,hl,hp,hq⟩:=zhk hr;obtain ⟨k,rfl⟩:=Int.eq_ofNat_of_zero_le hk.1;obtain ⟨l,rfl⟩:=Int.eq_ofNat_of_zero_le hl.1;obtain ⟨p,rfl⟩:=Int.eq_ofNat_of_zero_le hp.1;obtain ⟨q,rfl⟩:=Int.eq_ofNat_of_zero_le hq.1;have e1:textL (k:Int) (l:Int) [(p:Int),(q:Int)]=quadB k l p q:=by unfold textL;rw [if_pos hL];rfl
   rw [e1,hL];exact zez k l p q v w hv hr (by omega) (by omega) (by omega) (by omega)
  | false =>
   have hL:okL k l [p,q]=false:=hr;have e1:textL k l [p,q]=⟨#[]⟩:=by unfold textL;rw [if_neg (by simp [hL])]
   rw [e1,hL];exact zfl k l p q v w hv hr
 ·have hL:=zfm k l xs h;have e1:textL k l xs=⟨#[]⟩:=by unfold textL;rw [if_neg (by simp [hL])]
  rw [e1,hL];exact zef k l xs v w hv h
namespace Kit
def val:List UInt8->Nat
 | []=>0
 | c :: r=>c.toNat % 128+128 * val r
theorem ze0 (l:List UInt8)(c:UInt8):val (l ++ [c])=val l+c.toNat % 128 * 128 ^ l.length:=by
 induction l with
 | nil=>simp [val]
 | cons a r ih =>
  simp only [List.cons_append,val,ih,List.length_cons];rw [Nat.pow_succ,Nat.mul_add,Nat.add_assoc,← Nat.mul_assoc,← Nat.mul_assoc,Nat.mul_comm (c.toNat % 128 * 128 ^ r.length) 128,Nat.mul_assoc]
theorem val_lt (l:List UInt8):val l < 128 ^ l.length:=by
 induction l with
 | nil=>simp [val]
 | cons a r ih =>
  simp only [val,List.length_cons];rw [Nat.pow_succ];have:a.toNat % 128 < 128:=Nat.mod_lt _ (by decide);omega
def rdF:Nat->List UInt8->Nat->Nat->Option (Nat×Nat)
 | 0,_,_,_=>none
 | _+1,[],_,_=>none
 | f+1,c :: r,k,n=>if 128<=c.toNat then rdF f r (k+1) (n+c.toNat % 128 * 128 ^ k)
   else if 1000000000 < n+c.toNat % 128 * 128 ^ k\/(c.toNat=0/\0 < k) then none else some (n+c.toNat % 128 * 128 ^ k,k+1)
def rd (s:ByteArray) (p:Nat):Option (Nat×Nat):=rdF 5 (s.data.toList.drop p) 0 0
theorem vbF_ne (f n:Nat):vbF f n≠[]:=by
 cases f with
 | zero=>simp [vbF]
 | succ f=>unfold vbF;split<;>simp
theorem vbF_last (f:Nat):∀ n,0 < n->n < 128 ^ (f+1)->∀ l c,vbF f n=l ++ [c]->c.toNat≠0:=by
 induction f with
 | zero =>
  intro n h0 h1 l c h;simp only [vbF] at h;have:c=loB n:=by
   cases l with
   | nil=>simpa using h.symm
   | cons a t=>simp at h
  subst this;have h2:n < 128:=by simpa using h1
  simp [loB,UInt8.toNat_ofNat'];omega
 | succ f ih =>
  intro n h0 h1 l c h;by_cases hb:127 < n
  ·rw [zge f n hb] at h
   cases l with
   | nil=>simp at h;exact absurd h.2 (vbF_ne _ _)
   | cons a t =>
    simp at h;refine ih (n / 128) (by omega) ?_ t c h.2;rw [Nat.pow_succ] at h1;omega
  ·rw [zcq _ n (by omega)] at h;have:c=loB n:=by
    cases l with
    | nil=>simpa using h.symm
    | cons a t=>simp at h
   subst this;simp [loB,UInt8.toNat_ofNat'];omega
theorem vbF_val (pre:List UInt8):∀ (f:Nat) (c:UInt8),pre.length<=f->(∀ b∈pre,128<=b.toNat)->c.toNat < 128->(c.toNat≠0\/pre=[]) ->
  vbF f (val (pre ++ [c]))=pre ++ [c]:=by
 induction pre with
 | nil =>
  intro f c _ _ hc _;have hv:val ([] ++ [c])=c.toNat:=by simp [val];omega
  rw [hv,zcq _ _ (by omega)];simp [loB]
 | cons b r ih =>
  intro f c hl hb hc hn;have hc0:c.toNat≠0:=by simpa using hn
  cases f with
  | zero=>simp at hl
  | succ f =>
   have hb0:128<=b.toNat:=hb b (by simp);have hb1:b.toNat < 256:=b.toNat_lt;have hpos:0 < val (r ++ [c]):=by
    rw [ze0];have h1:0 < 128 ^ r.length:=Nat.pow_pos (by decide);have h2:0 < c.toNat % 128:=by omega
    have:=Nat.mul_pos h2 h1;omega
   have hv:val (b :: r ++ [c])=b.toNat % 128+128 * val (r ++ [c]):=rfl;rw [hv,zge f _ (by omega)];have e1:(b.toNat % 128+128 * val (r ++ [c])) / 128=val (r ++ [c]):=by omega
   have e2:hiB (b.toNat % 128+128 * val (r ++ [c]))=b:=by
    unfold hiB;rw [show (b.toNat % 128+128 * val (r ++ [c])) % 128+128=b.toNat by omega];simp
   rw [e1,e2,ih f c (by simpa using hl) (fun x hx=>hb x (by simp [hx])) hc (.inl hc0)];rfl
theorem zhl (pre:List UInt8)(c:UInt8)(hl:pre.length<=8)(hb:∀ b∈pre,128<=b.toNat)(hc:c.toNat < 128) :
  vb (val (pre ++ [c]))=pre ++ [c]↔¬ (c.toNat=0/\0 < pre.length):=by
 constructor
 ·rintro h ⟨h0,hp⟩;by_cases hz:val (pre ++ [c])=0
  ·rw [hz] at h;have:(vb 0).length=1:=rfl;rw [h] at this;simp at this;simp [this] at hp
  ·have hlt:=val_lt (pre ++ [c]);have hle:128 ^ (pre ++ [c]).length<=128 ^ (9+1):=Nat.pow_le_pow_right (by decide) (by simp;omega);exact vbF_last 9 _ (by omega) (by omega) pre c h h0
 ·intro h;refine vbF_val pre 9 c (by omega) hb hc ?_;by_cases h0:c.toNat=0
  ·right
   have:¬ 0 < pre.length:=fun hp=>h ⟨h0,hp⟩;exact List.length_eq_zero_iff.1 (by omega)
  ·exact .inl h0
def AtK (s:ByteArray) (p k n:Nat):Prop :=
 ∃ pre rest:List UInt8,s.data.toList.drop p=pre ++ rest/\pre.length=k/\(∀ b∈pre,128<=b.toNat)/\n=val pre/\rd s p=rdF (5 - k) rest k n
theorem AtK.lt {s:ByteArray}{p k n:Nat}(h:AtK s p k n):n < 128 ^ k:=by
 obtain ⟨pre,rest,_,rfl,_,rfl,_⟩:=h;exact val_lt pre
theorem zd0 {s:ByteArray}{p k:Nat}{pre rest:List UInt8}(h:s.data.toList.drop p=pre ++ rest)(hk:pre.length=k)(hlt:p+k < s.size):rest=s[p+k] :: rest.tail:=by
 have h1:(s.data.toList.drop p).drop k=rest:=by rw [h,← hk];simp
 rw [List.drop_drop] at h1;have h2:p+k < s.data.toList.length:=by simpa using hlt
 rw [List.drop_eq_getElem_cons h2] at h1;rw [← h1];rfl
theorem AtK.out {s:ByteArray}{p k n:Nat}(h:AtK s p k n)(hx:s.size<=p+k\/5<=k):rd s p=none:=by
 obtain ⟨pre,rest,hd,hk,_,rfl,hr⟩:=h;rw [hr];by_cases h5:5<=k
 ·rw [show 5 - k=0 by omega];rfl
 ·have hs:s.size<=p+k:=by omega
  have:rest=[]:=by
   have hl:=congrArg List.length hd;simp at hl;apply List.length_eq_zero_iff.1;have:s.data.size=s.size:=rfl;omega
  subst this;rw [show 5 - k=(4 - k)+1 by omega];rfl
theorem AtK.next {s:ByteArray}{p k n:Nat}(h:AtK s p k n)(hlt:p+k < s.size)(h5:k < 5)(hc:128<=(s[p+k]).toNat) :
  AtK s p (k+1) (n+(s[p+k]).toNat % 128 * 128 ^ k):=by
 obtain ⟨pre,rest,hd,hk,hb,rfl,hr⟩:=h;have hrest:=zd0 hd hk hlt;refine ⟨pre ++ [s[p+k]],rest.tail,?_,by simp [hk],?_,?_,?_⟩
 ·rw [hd];simp [List.append_assoc,← hrest]
 ·intro b hb';rcases List.mem_append.1 hb' with h1 | h1
  ·exact hb b h1
  ·simp at h1;subst h1;exact hc
 ·rw [ze0,hk]
 ·rw [hr]
  conv=>lhs;rw [hrest,show 5 - k=(5 - (k+1))+1 by omega]
  rw [rdF,if_pos hc]
theorem AtK.stop {s:ByteArray}{p k n:Nat}(h:AtK s p k n)(hlt:p+k < s.size)(h5:k < 5)(hc:(s[p+k]).toNat < 128) :
  rd s p=if 1000000000 < n+(s[p+k]).toNat % 128 * 128 ^ k\/((s[p+k]).toNat=0/\0 < k) then none else some (n+(s[p+k]).toNat % 128 * 128 ^ k,k+1):=by
 obtain ⟨pre,rest,hd,hk,hb,rfl,hr⟩:=h;have hrest:=zd0 hd hk hlt;rw [hr]
 conv=>lhs;rw [hrest,show 5 - k=(5 - (k+1))+1 by omega]
 rw [rdF,if_neg (by omega)]
theorem zeg (s:ByteArray)(a b:Nat):(s.extract a b).data.toList=(s.data.toList.drop a).take (b - a):=by
 simp [ByteArray.data_extract,List.take_drop]
theorem AtK.form {s:ByteArray}{p k n:Nat}(h:AtK s p k n)(hlt:p+k < s.size)(h5:k < 5)(hc:(s[p+k]).toNat < 128) :
  vb (n+(s[p+k]).toNat % 128 * 128 ^ k)=(s.extract p (p+k+1)).data.toList↔¬ ((s[p+k]).toNat=0/\0 < k):=by
 obtain ⟨pre,rest,hd,hk,hb,rfl,_⟩:=h;have hrest:=zd0 hd hk hlt;have e:(s.extract p (p+k+1)).data.toList=pre ++ [s[p+k]]:=by
  rw [zeg,hd,hrest,show p+k+1 - p=pre.length+1 by omega,List.take_append];simp [List.take_of_length_le]
 have:=zhl pre s[p+k] (by omega) hb hc;rw [ze0,hk] at this;rw [e];exact this
end Kit
theorem Tryz.info5:(Tryz.prog.info? 5).map (fun i=>(i.zero,i.size,i.bytes))=some (some (.int .u8 0),1,1):=by kernel_rfl
theorem vb_big {n f m:Nat}{pre:List UInt8}(h:127 < m)(hv:vb n=pre ++ vbF (f+1) m):vb n=(pre ++ [hiB m]) ++ vbF f (m / 128):=by
 rw [hv,zge f m h];simp
theorem vb_small {n f m:Nat}{pre:List UInt8}(h:m<=127)(hv:vb n=pre ++ vbF f m):pre ++ [loB m]=vb n:=by
 rw [hv,zcq f m h]
theorem byte_big (m:Nat):(m:Int) % 128+128=((hiB m).toNat:Int):=by
 simp [hiB,UInt8.toNat_ofNat'];omega
theorem zek (m:Nat)(h:m<=127):(m:Int)=((loB m).toNat:Int):=by
 simp [loB,UInt8.toNat_ofNat'];omega
theorem zhm (n:Int)(w:World)(h0:0<=n)(h1:n<=1000000000) :
  Calls Tryz.prog 124 #[.int .i64 n] w fun e w'=>e=.returned (.string ⟨(vb n.toNat).toArray⟩)/\Below w.heap.size w w':=by
 go_enter Tryz.func124,Tryz.ntmps124
 go_wp2;go_loopw [0,3] (fun x v wr=>∃ (f m:Nat) (pre:List UInt8),x=.int .i64 m/\(m:Int)<=1000000000/\m < 128 ^ (f+1)/\pre.length+f=9/\vb n.toNat=pre ++ vbF f m/\Owns wr w.heap.size 5 v pre/\Below w.heap.size w wr) (fun x _ _=>(intOf x).toNat)
 case atStart =>
  exact ⟨9,n.toNat,[],by rw [Int.toNat_of_nonneg h0],by omega,by omega,rfl,rfl,Owns.lit0 w _ 5 nR,bR.alloc nR _⟩
 case round =>
  obtain ⟨f,m,pre,rfl,hm,hf,hp,HV,hown,hb⟩:=hrel;have HV':Hid (vb n.toNat=pre ++ vbF f m):=HV;clear HV;have hsz:=hb.size;by_cases hlt:127 < m
  ·go_wp2_with (at_builtin;refine zbq w rfl _ _ 22 rfl w.heap.size 5 Tryz.underlying22 Tryz.info5 _ pre rfl (hown.alloc _) (hb.alloc hsz _) ?c1 wr.heap.size rfl (hiB m) ((m:Int) % 128+128) (byte_big m) ?c2 ?c3 ?_)
   case c1=>simp;omega
   case c2=>simp
   case c3=>omega
   intro v' w1 R1 R2 _
   cases f with
   | zero=>simp at hf;omega
   | succ f =>
   clear hown;go_wp2;go_roundw
   case rel=>exact ⟨f,m / 128,pre ++ [hiB m],by go_num,by omega,by rw [Nat.pow_succ] at hf;omega,by simp;omega,vb_big hlt HV'.out,R1,R2⟩
   case measure=>simp [intOf];omega
  ·go_wp2_with (at_builtin;refine zbq w rfl _ _ 22 rfl w.heap.size 5 Tryz.underlying22 Tryz.info5 _ pre rfl (hown.alloc _) (hb.alloc hsz _) ?d1 wr.heap.size rfl (loB m) (m:Int) (zek m (by omega)) ?d2 ?d3 ?_)
   case d1=>simp;omega
   case d2=>simp
   case d3=>omega
   intro v' w1 R1 R2 _;have hcv:=zgw (P:=Tryz.prog) 22 9 5 Tryz.underlying22 Tryz.underlying5 Tryz.underlying9 R1;have e:=vb_small (by omega) HV'.out;rw [e] at hcv;clear hown R1 e;go_wp2;go_ret;exact ⟨rfl,R2⟩
def zd1 (n:Nat):ByteArray:=⟨(vb n).toArray⟩
theorem zgk (n:Nat):(zd1 n).size<=10:=by
 have:=vbF_len 9 n;simp only [zd1,ByteArray.size,vb,List.size_toArray];omega
theorem zcj (n:Int)(w:World)(h0:0<=n)(h1:n<=1000000000) :
  Calls Tryz.prog 124 #[.int .i64 n] w fun e w'=>e=.returned (.string (zd1 n.toNat))/\Below w.heap.size w w':=zhm n w h0 h1
theorem zac {w w1:World}(h:Below w.drew.heap.size w.drew w1):Below w.heap.size w w1:=(Below.refl _ w).drew.trans h
theorem wrapId {x:Int}(h0:0<=x)(h1:x<=1000000000000):IntKind.i64.wrap x=x:=by
 simp [IntKind.wrap,IntKind.signed,IntKind.bits];omega
namespace Kit
def chN (c:Nat):Bool:=decide ((97<=c/\c<=122)\/(48<=c/\c<=57))
def za2 (s:ByteArray):Bool:=decide ((1<=s.size/\s.size<=6)/\∀ (j:Nat) (h:j < s.size),chN (s[j]).toNat=true)
theorem zhn {s:ByteArray}(h:s.size < 1\/6 < s.size):false=za2 s:=by
 unfold za2;exact (decide_eq_false (by omega)).symm
theorem zho {s:ByteArray}{j c:Nat}(h:j < s.size)(hc:(s[j]).toNat=c)(hb:¬ ((97<=c/\c<=122)\/(48<=c/\c<=57))):false=za2 s:=by
 unfold za2;refine (decide_eq_false ?_).symm;rintro ⟨_,h2⟩;have:=h2 j h;rw [hc] at this;exact hb (of_decide_eq_true this)
theorem zhp {s:ByteArray}(h:1<=s.size/\s.size<=6)(ha:∀ (j:Nat) (h:j < s.size),chN (s[j]).toNat=true):true=za2 s:=by
 unfold za2;exact (decide_eq_true ⟨h,ha⟩).symm
theorem zba {s:ByteArray}(h:za2 s=true):1<=s.size/\s.size<=6:=(of_decide_eq_true h).1
def upTo (s:ByteArray) (j:Nat):Prop:=∀ (i:Nat) (h:i < s.size),i < j->chN (s[i]).toNat=true
theorem ziw (s:ByteArray):upTo s 0:=fun _ _ h=>absurd h (Nat.not_lt_zero _)
theorem zix {s:ByteArray}{j c:Nat}(hu:upTo s j)(h:j < s.size)(hc:(s[j]).toNat=c)(hg:(97<=c/\c<=122)\/(48<=c/\c<=57)):upTo s (j+1):=fun i hi hlt=>by
 by_cases he:i=j
 ·subst he;rw [hc];exact decide_eq_true hg
 ·exact hu i hi (by omega)
theorem upTo_all {s:ByteArray}{j:Nat}(hu:upTo s j)(h:s.size<=j):∀ (j:Nat) (h:j < s.size),chN (s[j]).toNat=true:=fun i hi=>hu i hi (by omega)
theorem ze1 {s:ByteArray}(h:s.size=0):s.toList.isEmpty=true:=by
 rw [List.isEmpty_iff,ByteArray.toList_eq,← List.length_eq_zero_iff];exact h
theorem zbu {s:ByteArray}(h:0 < s.size):s.toList.isEmpty=false:=by
 exact cQ99
end Kit
theorem zbr (s:ByteArray)(w:World)(hs:s.size<=1048576) :
  Calls Tryz.prog 122 #[.string s] w fun e w'=>e=.returned (.bool (za2 s))/\Below w.heap.size w w':=by
 obtain ⟨r,hr⟩:∃ r,za2 s=r:=⟨_,rfl⟩
 have HR:=hide hr;rw [hr];clear hr;go_enter Tryz.func122,Tryz.ntmps122
 go_wp2
 go_loop [3] (fun i=>∃ j:Nat,j<=s.size/\i=.int .i64 j/\Hid (upTo s j)) (fun i=>s.size - (intOf i).toNat)
 case atStart=>exact ⟨0,Nat.zero_le _,rfl,ziw s⟩
 case round =>
  obtain ⟨j,hj,rfl,HU⟩:=hrel;by_cases hlt:j < s.size
  ·obtain ⟨c,hc⟩:∃ c:Nat,(s[j]).toNat=c:=⟨_,rfl⟩
   have hc1:c < 256:=by rw [← hc];exact (s[j]).toNat_lt
   have HC:=hide hc;have j0:(0:Int)<=(j:Int):=by omega
   have j1:(j:Int) < (s.size:Int):=by omega
   go_wp2
   all_goals first | (go_ret;refine ⟨zaw ?_,Below.refl _ _⟩;rw [← HR.out];exact zho hlt HC.out (by omega)) | skip
   all_goals go_round
   all_goals first | (simp [intOf];omega) | exact ⟨j+1,by omega,by go_num,zix HU.out hlt HC.out (by omega)⟩
  ·go_wp2_with (go_at_call 20;refine (zaj _ _ _ _).mono ?_;rintro e w1 ⟨rfl,rfl⟩)
   go_ret;refine ⟨zaw ?_,Below.refl _ _⟩;rw [← HR.out];by_cases h:1<=s.size/\s.size<=6
   ·rw [← zhp h (upTo_all HU.out (by omega))];simp [inB];omega
   ·rw [← zhn (by omega)];simp [inB];omega
namespace fnExactNameOk
end fnExactNameOk
namespace Kit
def plF (name:ByteArray):Nat->List Sl->Int
 | _,[]=>-1
 | k,s :: r=>if s.1=name then (k:Int) else plF name (k+1) r
def zel (xs:List Sl) (name:ByteArray):Int:=if name.size=0 then -1 else plF name 0 xs
theorem zfn (xs:List Sl){name:ByteArray}(h:name.size=0):zel xs name=-1:=if_pos h
theorem zfo (xs:List Sl){name:ByteArray}(h:name.size≠0):zel xs name=plF name 0 (xs.drop 0):=if_neg h
theorem pl_hit {R:Int}{xs:List Sl}{name:ByteArray}{j:Nat}(h:j < xs.length)(hp:R=plF name j (xs.drop j))(hq:xs[j].1=name):R=(j:Int):=by
 rw [hp,List.drop_eq_getElem_cons h,plF,if_pos hq]
theorem pl_next {R:Int}{xs:List Sl}{name:ByteArray}{j:Nat}(h:j < xs.length)(hp:R=plF name j (xs.drop j))(hq:¬ xs[j].1=name):R=plF name (j+1) (xs.drop (j+1)):=by
 rw [hp,List.drop_eq_getElem_cons h,plF,if_neg hq]
theorem pl_end {R:Int}{xs:List Sl}{name:ByteArray}{j:Nat}(h:xs.length<=j)(hp:R=plF name j (xs.drop j)):R=-1:=by
 rw [hp,List.drop_of_length_le h,plF]
theorem beq_true {a b:ByteArray}(h:a=b):(a.toList == b.toList)=true:=by rw [h];simp
theorem zbm {a b:ByteArray}(h:¬ a=b):(a.toList == b.toList)=false:=by
 exact cQ107
end Kit
namespace Kit
def zd2 (s:Sl):Bool:=decide ((s.1.size=0/\s.2=0)\/(za2 s.1=true/\1<=s.2/\s.2<=8))
theorem zd3 {t:ByteArray}{z:Int}(h:(t.size=0/\z=0)\/(za2 t=true/\1<=z/\z<=8)):true=zd2 (t,z):=(decide_eq_true h).symm
theorem zfp {t:ByteArray}{z:Int}(h:¬ ((t.size=0/\z=0)\/(za2 t=true/\1<=z/\z<=8))):false=zd2 (t,z):=(decide_eq_false h).symm
end Kit
namespace Kit
def okF:List Sl->List Sl->Bool
 | _,[]=>true
 | ahead,s :: r=>zd2 s && decide (zel ahead s.1 < 0) && okF (ahead ++ [s]) r
def zbb (xs:List Sl):Bool:=decide (xs.length=4) && okF [] xs
def zav (d:Bool) (xs:List Sl) (t:ByteArray):Bool:=if d then decide (t.size=0) && zbb xs else decide (xs.length=0/\t.size<=16)
theorem ok_start {xs:List Sl}(h:xs.length=4):zbb xs=okF (xs.take 0) (xs.drop 0):=by simp [zbb,h]
theorem ok_other {xs:List Sl}(h:xs.length≠4):zbb xs=false:=by simp [zbb,h]
theorem ok_next {R:Bool}{xs:List Sl}{j:Nat}(h:j < xs.length)(hp:R=okF (xs.take j) (xs.drop j))(h1:zd2 xs[j]=true)(h2:zel (xs.take j) xs[j].1 < 0):R=okF (xs.take (j+1)) (xs.drop (j+1)):=by
 rw [hp,List.drop_eq_getElem_cons h,okF,h1,decide_eq_true h2,List.take_succ_eq_append_getElem h];rfl
theorem ok_bad {R:Bool}{xs:List Sl}{j:Nat}(h:j < xs.length)(hp:R=okF (xs.take j) (xs.drop j))(h1:zd2 xs[j]=false):R=false:=by
 rw [hp,List.drop_eq_getElem_cons h,okF,h1];rfl
theorem ok_twice {R:Bool}{xs:List Sl}{j:Nat}(h:j < xs.length)(hp:R=okF (xs.take j) (xs.drop j))(h2:¬ zel (xs.take j) xs[j].1 < 0):R=false:=by
 rw [hp,List.drop_eq_getElem_cons h,okF,decide_eq_false h2];simp
theorem ok_end {R:Bool}{xs:List Sl}{j:Nat}(h:xs.length<=j)(hp:R=okF (xs.take j) (xs.drop j)):R=true:=by
 rw [hp,List.drop_of_length_le h,okF]
theorem RSl.take {w:World}{a:Option Addr}{c:Nat}{xs:List Sl}(h:RSl w (.slice a xs.length c) xs)(j:Nat)(hj:j<=xs.length):RSl w (.slice a j c) (xs.take j):=by
 obtain ⟨a',c',e,hcap,h⟩:=h;simp only [Value.slice.injEq] at e;obtain ⟨rfl,-,rfl⟩:=e;have hl:(xs.take j).length=j:=by simp;omega
 refine ⟨a,c,by rw [hl],by omega,fun i hi=>?_⟩;rw [hl] at hi;obtain ⟨g,off,e,hg,k1,k2⟩:=h i (by omega);exact ⟨g,off,e,hg,by simpa using k1,by simpa using k2⟩
end Kit
namespace Kit
theorem zck (xs:List Sl)(t:ByteArray)(h:t.size=0):zav true xs t=zbb xs:=by simp [zav,h]
theorem zde (xs:List Sl)(t:ByteArray)(h:t.size≠0):zav true xs t=false:=by simp [zav,h]
theorem zdf (xs:List Sl)(t:ByteArray):zav false xs t=decide (xs.length=0/\t.size<=16):=by simp [zav]
theorem ziy {xs:List Sl}{i j:Nat}(h:i < (xs.take j).length):(xs.take j)[i]=xs[i]'(by simp at h;omega):=by simp
theorem pl_hit' {R:Int}{xs:List Sl}{name:ByteArray}{j k:Nat}(h:k < j)(hx:j < xs.length)(hp:R=plF name k ((xs.take j).drop k))(hq:(xs[k]'(by omega)).1=name):R=(k:Int) :=
 pl_hit (by simp;omega) hp (by rw [ziy];exact hq)
theorem pl_next' {R:Int}{xs:List Sl}{name:ByteArray}{j k:Nat}(h:k < j)(hx:j < xs.length)(hp:R=plF name k ((xs.take j).drop k))(hq:¬ (xs[k]'(by omega)).1=name):R=plF name (k+1) ((xs.take j).drop (k+1)) :=
 pl_next (by simp;omega) hp (by rw [ziy];exact hq)
theorem pl_end' {R:Int}{xs:List Sl}{name:ByteArray}{j k:Nat}(h:j<=k)(hp:R=plF name k ((xs.take j).drop k)):R=-1 :=
 pl_end (by simp;omega) hp
end Kit
theorem zfq (d:Bool)(v:Value)(t:ByteArray)(xs:List Sl)(w:World)(hv:RSl w v xs)(h:d=false\/xs.length≠4\/t.size≠0) :
  Calls Tryz.prog 83 #[.agg #[.bool d,v,.string t]] w fun e w'=>e=.returned (.bool (zav d xs t))/\Below w.heap.size w w':=by
 cases d with
 | false =>
  rw [zdf];obtain ⟨a,c,rfl,-⟩:=hv;generalize xs.length=n at *;by_cases h:n=0
  ·subst h;go_enter Tryz.func83,Tryz.ntmps83
   go_wp2;go_ret;exact ⟨zaw (by simp;omega),by go_grown⟩
  ·have h1:((n:Int) == 0)=false:=by simp;omega
   go_enter Tryz.func83,Tryz.ntmps83
   go_wp2;go_ret;exact ⟨zaw (by simp),by go_grown⟩
 | true =>
  have e1:zav true xs t=false:=by
   by_cases h2:t.size=0
   ·rw [zck xs t h2];exact ok_other (by simpa [h2] using h)
   ·exact zde xs t h2
  rw [e1];obtain ⟨a,c,rfl,-⟩:=hv;generalize xs.length=n at *;by_cases h4:n=4
  ·subst h4;have he:=zbu (s:=t) (by rcases h with h | h | h;cases h;exact absurd rfl h;omega);go_enter Tryz.func83,Tryz.ntmps83
   go_wp2;go_ret;exact ⟨rfl,by go_grown⟩
  ·have h1:((n:Int) != 4)=true:=by simp;omega
   go_enter Tryz.func83,Tryz.ntmps83
   go_wp2;go_ret;exact ⟨rfl,by go_grown⟩
theorem zgl (v:Value)(t0:ByteArray)(xs:List Sl)(w:World)(hv:RSl w v xs)(hl:xs.length=4)(ht0:t0.size=0)(hbig:∀ (j:Nat) (h:j < xs.length),xs[j].1.size<=1048576) :
  Calls Tryz.prog 83 #[.agg #[.bool true,v,.string t0]] w fun e w'=>e=.returned (.bool (zbb xs))/\Below w.heap.size w w':=by
 have HV:=hide hv;have HG:=hide hbig;obtain ⟨a,c,rfl,hcap,hc⟩:=hv;have HC:=hide hc;have HL:=hide hl;clear hc hbig;have HR:=hide (ok_start hl);obtain ⟨R,hR⟩:∃ R,zbb xs=R:=⟨_,rfl⟩
 rw [hR] at HR ⊢;rw [hl] at HV hcap ⊢;have he0:=ze1 ht0;clear hR hl ht0;go_enter Tryz.func83,Tryz.ntmps83
 go_wp2;go_loopw [3,4,5] (fun i _ _ wr=>∃ j:Nat,j<=4/\i=.int .i64 j/\Hid (R=okF (xs.take j) (xs.drop j))/\Below w.heap.size w wr/\AtC wr w.heap.size 44 #[.bool true,.slice a 4 c,.string t0]) (fun i _ _ _=>4 - (intOf i).toNat)
 case atStart=>exact ⟨0,Nat.zero_le _,rfl,HR,(Below.refl _ w).alloc nR _,AtC.new w 44 _⟩
 case round =>
  obtain ⟨j,hj,rfl,HP,hb,hat⟩:=hrel;obtain ⟨b0,b1,b2,hbl⟩:=hat.three;by_cases hlt:j < 4
  ·have hlx:j < xs.length:=by rw [HL.out];exact hlt
   obtain ⟨g,off,rfl,hg,k1,k2⟩:=HC.out j hlx;have q1:=(hb.cell (p:=⟨g,off+j * 2,none⟩) hg).trans k1;have q2:=(hb.cell (p:=⟨g,off+j * 2+1,none⟩) hg).trans k2;have hsz:=hb.size;have j0:(0:Int)<=(j:Int):=by omega
   have j1:(j:Int) < 4:=by omega
   have C1:=hide (fun W=>zbr xs[j].1 W (HG.out j hlx));have HBAD:=hide (ok_bad hlx HP.out);have HTW:=hide (ok_twice hlx HP.out);have HNX:=hide (ok_next hlx HP.out);obtain ⟨t,ht⟩:∃ t,xs[j].1=t:=⟨_,rfl⟩
   obtain ⟨z,hz⟩:∃ z,xs[j].2=z:=⟨_,rfl⟩
   have e1:xs[j]=(t,z):=by rw [← ht,← hz]
   rw [e1] at HBAD HNX HTW;rw [ht] at q1 C1;rw [hz] at q2;have HAT:=hide hat;have HB:=hide hb;clear k1 k2 ht hz e1 hb HP hlx hat;by_cases hA:t.size=0/\z=0
   ·obtain ⟨hA,rfl⟩:=hA;have he:=ze1 hA;have HQ:=hide (HNX.out (zd3 (.inl ⟨hA,rfl⟩)).symm (by rw [zfn _ hA];decide));clear hA;go_wp2;go_roundw
    case rel=>exact ⟨j+1,by omega,by go_num,HQ,HB.out.alloc hsz _,HAT.out.alloc _⟩
    case measure=>simp [intOf];omega
   ·have HA:=hide hA;obtain ⟨n,hn⟩:∃ n,za2 t=n:=⟨_,rfl⟩
    rw [hn] at C1;have HN:=hide hn;have HE:Hid (∀ (P:Prop) [Decidable P],True):=fun _=>trivial;have hAN:=HAT.out.alloc (.cells #[.string t,.int .i64 z] 49);have hBW:=HB.out.alloc hsz (.cells #[.string t,.int .i64 z] 49);have hSW:=AtC.new wr 49 #[.string t,.int .i64 z];have HAN:=hide hAN;have HBW:=hide hBW;have HSW:=hide hSW;clear hn hAN hBW hSW HE;by_cases hG:n=true/\1<=z/\z<=8
    ·obtain ⟨rfl,z1,z8⟩:=hG;have hs1:1<=t.size:=(zba HN.out).1;have he:=zbu (s:=t) (by omega);have zz:(z == 0)=false:=by simp;omega
     have hin:inB z 1 8=true:=by simp [inB,z1,z8]
     have HSO:=hide (zd3 (t:=t) (z:=z) (.inr ⟨HN.out,z1,z8⟩)).symm;have HNX2:=hide (HNX.out HSO.out);have HPS:=hide (zfo (xs.take j) (name:=t) (by omega));obtain ⟨r2,hr2⟩:∃ r,zel (xs.take j) t=r:=⟨_,rfl⟩
     simp only [hr2] at HNX2 HTW HPS;clear hr2 hA HNX HBAD;go_wp2_with (first | (go_at_call 122;refine (C1.out _).mono ?_;rintro e w1 ⟨rfl,B1⟩;obtain ⟨s0,s1,sl⟩:=(HSW.out.over B1).two;obtain ⟨d0,d1,d2,dl⟩:=(HAN.out.over B1).three) | (go_at_call 20;refine (zaj _ _ _ _).mono ?_;rintro e w1 ⟨rfl,rfl⟩))
     have hB1:Below w.heap.size w w1:=HBW.out.trans (B1.mono (by simp;omega));have HB1:=hide hB1;have hA1:=HAN.out.over B1;have HA1:=hide hA1;clear hB1 hA1 B1 b0 b1 b2;go_loopw [5] (fun i wz=>∃ k:Nat,k<=j/\i=.int .i64 k/\Hid (r2=plF t k ((xs.take j).drop k))/\∃ q,wz=w1.drewN q) (fun i _=>j - (intOf i).toNat)
     case atStart=>exact ⟨0,Nat.zero_le _,rfl,HPS,0,rfl⟩
     case round =>
      obtain ⟨k,hk,rfl,HK,q,rfl⟩:=hrel;by_cases hkj:k < j
      ·have hkx:k < xs.length:=by rw [HL.out];omega
       obtain ⟨g',off',e',hg',m1,m2⟩:=HC.out k hkx;simp only [Option.some.injEq,Addr.mk.injEq] at e';obtain ⟨rfl,rfl,-⟩:=e';have n1:=(HB1.out.cell (p:=⟨g,off+k * 2,none⟩) hg).trans m1;have hjx:j < xs.length:=by rw [HL.out];exact hlt
       have HIT:=hide (pl_hit' hkj hjx HK.out);have NXT:=hide (pl_next' hkj hjx HK.out);obtain ⟨t2,ht2⟩:∃ t,xs[k].1=t:=⟨_,rfl⟩
       rw [ht2] at n1 HIT NXT;clear m1 m2 ht2 hjx hkx q1 q2;have k0:(0:Int)<=(k:Int):=by omega
       have k1:(k:Int) < 4:=by omega
       by_cases hq:t2=t
       ·have c1:=beq_true hq;have HQ:=hide (HTW.out (by have:=HIT.out hq;omega));clear hq;go_wp2;go_quiet (fail)
        go_wp2;go_ret;exact ⟨zaw HQ.out.symm,below_drewN (below_drewN HB1.out _) _⟩
       ·have c1:=zbm hq;have HQ:=hide (NXT.out hq);clear hq;go_wp2;go_quiet (fail)
        go_wp2;go_roundw
        case rel=>exact ⟨k+1,by omega,by go_num,HQ,_,rfl⟩
        case measure=>simp [intOf];omega
      ·have HQ:=hide (HNX2.out (by have:=pl_end' (by omega) HK.out;omega));clear q1 q2;go_wp2;go_roundw
       case rel=>exact ⟨j+1,by omega,by go_num,HQ,below_drewN HB1.out _,HA1.out⟩
       case measure=>simp [intOf];omega
    ·have HQ:=hide (HBAD.out (zfp (t:=t) (z:=z) (by rintro (h | h);exact HA.out h;exact hG ⟨by rw [← HN.out];exact h.1,h.2⟩)).symm);have hE:(t.size=0/\(z == 0)=false)\/0 < t.size:=by
      by_cases h:t.size=0
      ·left;exact ⟨h,by simp;intro hz;exact HA.out ⟨h,hz⟩⟩
      ·right;omega
     have hin:n=true->inB z 1 8=false:=fun h=>by simp [inB];intro h1;have:=hG;simp [h] at this;omega
     have HI:=hide hin;have HEE:=hide hE;clear hin hE hA hG HBAD HNX HTW
     cases n with
     | false =>
      rcases HEE.out with ⟨h0,hz⟩ | h0
      ·have he:=ze1 h0;clear h0;go_wp2_with (first | (go_at_call 122;refine (C1.out _).mono ?_;rintro e w1 ⟨rfl,B1⟩))
       go_ret;exact ⟨zaw HQ.out.symm,HBW.out.trans (B1.mono (by simp;omega))⟩
      ·have he:=zbu h0;clear h0;go_wp2_with (first | (go_at_call 122;refine (C1.out _).mono ?_;rintro e w1 ⟨rfl,B1⟩))
       go_ret;exact ⟨zaw HQ.out.symm,HBW.out.trans (B1.mono (by simp;omega))⟩
     | true =>
      have hin:=HI.out rfl;have hs1:1<=t.size:=(zba HN.out).1;have he:=zbu (s:=t) (by omega);go_wp2_with (first | (go_at_call 122;refine (C1.out _).mono ?_;rintro e w1 ⟨rfl,B1⟩;obtain ⟨s0,s1,sl⟩:=(HSW.out.over B1).two) | (go_at_call 20;refine (zaj _ _ _ _).mono ?_;rintro e w1 ⟨rfl,rfl⟩))
      go_ret;exact ⟨zaw HQ.out.symm,HBW.out.trans (B1.mono (by simp;omega))⟩
  ·have HH:=hide (ok_end (by rw [HL.out];omega) HP.out);have HB:=hide hb;clear hb hat;go_wp2;go_ret;exact ⟨zaw HH.out.symm,HB.out⟩
theorem zbn (d:Bool)(v:Value)(t:ByteArray)(xs:List Sl)(w:World)(hv:RSl w v xs)(hbig:∀ (j:Nat) (h:j < xs.length),xs[j].1.size<=1048576) :
  Calls Tryz.prog 83 #[.agg #[.bool d,v,.string t]] w fun e w'=>e=.returned (.bool (zav d xs t))/\Below w.heap.size w w':=by
 by_cases h:d=false\/xs.length≠4\/t.size≠0
 ·exact zfq d v t xs w hv h
 ·simp only [not_or,Bool.not_eq_false,Decidable.not_not,ne_eq] at h;obtain ⟨rfl,h4,h0⟩:=h;rw [zck xs t h0];exact zgl v t xs w hv h4 h0 hbig
namespace Kit
theorem all_no {α:Type}{f:α->Bool}{l:List α}{j:Nat}(h:j < l.length)(hf:f l[j]=false):l.all f=false:=by
 rw [List.all_eq_false];exact ⟨l[j],List.getElem_mem h,by simp [hf]⟩
theorem ziz {α:Type}{f:α->Bool}{l:List α}(h:∀ (j:Nat) (h:j < l.length),f l[j]=true):l.all f=true:=by
 rw [List.all_eq_true];intro x hx;obtain ⟨j,hj,rfl⟩:=List.getElem_of_mem hx;exact h j hj
end Kit
def inoOk (x:Ino):Bool:=okL x.1 x.2.1 x.2.2
def zfr (l:List Ino):Bool:=l.all inoOk
def blkOk (b:Blk):Bool:=zav b.1 b.2.1 b.2.2
def zfs (l:List Blk):Bool:=l.all blkOk
def za5 (xs ys:List Bool) (is:List Ino) (bs:List Blk):Bool:=okB xs.length ys.length && (zfr is && decide (is.length=8)) && (zfs bs && decide (bs.length=16))
theorem zcl (a1 a2:Option Addr)(n m c1 c2:Nat)(w:World) :
  Calls Tryz.prog 81 #[.agg #[.slice a1 n c1,.slice a2 m c2]] w fun e w'=>e=.returned (.bool (okB n m))/\Below w.heap.size w w':=by
 by_cases h1:n=16
 ·by_cases h2:m=8
  ·subst h1 h2;go_enter Tryz.func81,Tryz.ntmps81
   go_wp2;go_ret;exact ⟨rfl,by go_grown⟩
  ·subst h1;have q:((m:Int) == 8)=false:=by simp;omega
   rw [show okB 16 m=false by simp [okB,h2]];go_enter Tryz.func81,Tryz.ntmps81
   go_wp2;go_ret;exact ⟨rfl,by go_grown⟩
 ·have q:((n:Int) == 16)=false:=by simp;omega
  rw [show okB n m=false by simp [okB,h1]];go_enter Tryz.func81,Tryz.ntmps81
  go_wp2;go_ret;exact ⟨rfl,by go_grown⟩
theorem zgm {xs ys:List Bool}{is:List Ino}{bs:List Blk}(h:okB xs.length ys.length=false):false=za5 xs ys is bs:=by unfold za5;rw [h];rfl
theorem diskOk_i {xs ys:List Bool}{is:List Ino}{bs:List Blk}(h:is.length≠8):false=za5 xs ys is bs:=by unfold za5;simp [h]
theorem diskOk_b {xs ys:List Bool}{is:List Ino}{bs:List Blk}(h:bs.length≠16):false=za5 xs ys is bs:=by unfold za5;simp [h]
theorem zi0 {xs ys:List Bool}{is:List Ino}{bs:List Blk}(h:zfr is=false):false=za5 xs ys is bs:=by unfold za5;simp [h]
theorem zi1 {xs ys:List Bool}{is:List Ino}{bs:List Blk}(h:zfs bs=false):false=za5 xs ys is bs:=by unfold za5;simp [h]
theorem zhq {xs ys:List Bool}{is:List Ino}{bs:List Blk}(h:okB xs.length ys.length=true)(h1:is.length=8)(h2:bs.length=16)(h3:zfr is=true)(h4:zfs bs=true):true=za5 xs ys is bs:=by unfold za5;simp [h,h1,h2,h3,h4]
theorem zcm (u v iv bv:Value)(xs ys:List Bool)(is:List Ino)(bs:List Blk)(w:World)(h:DR w u v iv bv xs ys is bs)(hB:∀ (j:Nat) (h:j < bs.length) (k:Nat) (h':k < bs[j].2.1.length),bs[j].2.1[k].1.size<=1048576) :
  Calls Tryz.prog 58 #[.agg #[u,v,iv,bv]] w fun e w'=>e=.returned (.bool (za5 xs ys is bs))/\Below w.heap.size w w':=by
 have H:=hide h;have HG:=hide hB;obtain ⟨a3,c3,ri,-,hii⟩:=h.i.ino;obtain ⟨a4,c4,rb,-,hkk⟩:=h.k.blk;have HI:=hide hii;have HK:=hide hkk;obtain ⟨a1,c1,a2,c2,-,-,-,-,rfl,rfl,-,-⟩:=h.form;subst ri rb;obtain ⟨x,hx⟩:∃ x,okB xs.length ys.length=x:=⟨_,rfl⟩
 have HX:=hide hx;obtain ⟨n,hn⟩:∃ n,xs.length=n:=⟨_,rfl⟩
 obtain ⟨m,hm⟩:∃ m,ys.length=m:=⟨_,rfl⟩
 obtain ⟨ni,hni⟩:∃ ni,is.length=ni:=⟨_,rfl⟩
 obtain ⟨nb,hnb⟩:∃ nb,bs.length=nb:=⟨_,rfl⟩
 have HN:=hide (And.intro hni hnb);rw [hn,hm] at hx;rw [hn,hm,hni,hnb];have C:=hide (zcl a1 a2 n m c1 c2);rw [hx] at C;clear h hB hii hkk hx hn hm hni hnb;go_enter Tryz.func58,Tryz.ntmps58
 go_wp2_with fail
 refine (C.out _).mono ?_;rintro e w1 ⟨rfl,B1⟩;have BW:Below w.heap.size w w1:=((Below.refl _ w).alloc nR _).trans (B1.mono (by simp));have K0:AtC w1 w.heap.size 30 #[.slice a1 n c1,.slice a2 m c2,.slice a3 ni c3,.slice a4 nb c4]:=(AtC.new w 30 _).over B1;have p2:=K0.c2;have p3:=K0.c3;have HBW:=hide BW;have HK0:=hide K0;clear B1 BW K0 C
 cases x with
 | false =>
  go_wp2;go_ret;exact ⟨zaw (zgm HX.out),HBW.out⟩
 | true =>
  by_cases h8:ni=8
  ·by_cases h16:nb=16
   ·subst h8 h16;go_wp2;go_loopw [3] (fun i wr=>∃ j:Nat,j<=8/\i=.int .i64 j/\Hid (∀ (k:Nat) (h:k < is.length),k < j->inoOk is[k]=true)/\Hid (Below w1.heap.size w1 wr)) (fun i _=>8 - (intOf i).toNat)
    case atStart=>exact ⟨0,Nat.zero_le _,rfl,fun _ _ h=>absurd h (Nat.not_lt_zero _),Below.refl _ _⟩
    case round =>
     obtain ⟨j,hj,rfl,HS,HBR⟩:=hrel;have K0:=HK0.out.over HBR.out;have p4:=K0.c2;have p5:=K0.c3;have HB0:=hide (HBW.out.trans (HBR.out.mono HBW.out.size));clear K0;by_cases hlt:j < 8
     ·obtain ⟨g1,o1,pp,rfl,hg1,m1,m2,m3,hr1⟩:=HI.out j (by rw [HN.out.1];exact hlt);have q1:=(HB0.out.cell (p:=⟨g1,o1+j * 3,none⟩) hg1).trans m1;have q2:=(HB0.out.cell (p:=⟨g1,o1+j * 3+1,none⟩) hg1).trans m2;have q3:=(HB0.out.cell (p:=⟨g1,o1+j * 3+2,none⟩) hg1).trans m3;obtain ⟨y,hy⟩:∃ x,is[j]'(by rw [HN.out.1];exact hlt)=x:=⟨_,rfl⟩
      obtain ⟨y,s,z⟩:=y;rw [hy] at q1 q2 hr1;obtain ⟨pa,pc,rfl⟩:=hr1.form;simp only at q1 q2 q3 hr1;have HR:=hide (hr1.below HB0.out nR);have j0:(0:Int)<=(j:Int):=by omega
      have j1:(j:Int) < 8:=by omega
      have HY:=hide hy;clear m1 m2 m3 hr1 hy
      cases hq:okL y s z with
      | true =>
       have HQ:=hide hq;clear hq;go_wp2_with (go_at_call 82;refine (zdz _ _ z _ _ HR.out).mono ?_;rw [HQ.out];rintro e w2 ⟨rfl,B2⟩;have HB2:=hide (HBR.out.trans (B2.mono HBR.out.size));clear B2)
       go_roundw
       case rel =>
        refine ⟨j+1,by omega,by go_num,fun k hk hkj=>?_,HB2.out⟩;by_cases hkk:k=j
        ·subst hkk;rw [HY.out];exact HQ.out
        ·exact HS.out k hk (by omega)
       case measure=>simp [intOf];omega
      | false =>
       have hno:zfr is=false:=all_no (by rw [HN.out.1];exact hlt) (by rw [HY.out];exact hq);have HNO:=hide hno;have HQ:=hide hq;clear hq hno;go_wp2_with (go_at_call 82;refine (zdz _ _ z _ _ HR.out).mono ?_;rw [HQ.out];rintro e w2 ⟨rfl,B2⟩;have HB2:=hide (HB0.out.trans (B2.mono HB0.out.size));clear B2)
       go_ret;exact ⟨zaw (zi0 HNO.out),HB2.out⟩
     ·have hyes:zfr is=true:=ziz fun k hk=>HS.out k hk (by rw [HN.out.1] at hk;omega);have HYS:=hide hyes;clear hyes;go_wp2;go_loopw [4] (fun i wq=>∃ j:Nat,j<=16/\i=.int .i64 j/\Hid (∀ (k:Nat) (h:k < bs.length),k < j->blkOk bs[k]=true)/\Hid (Below wr.heap.size wr wq)) (fun i _=>16 - (intOf i).toNat)
      case atStart=>exact ⟨0,Nat.zero_le _,rfl,fun _ _ h=>absurd h (Nat.not_lt_zero _),Below.refl _ _⟩
      case round =>
       obtain ⟨j,hj,rfl,HS2,HBQ⟩:=hrel;have HB1:=hide (HB0.out.trans (HBQ.out.mono HB0.out.size));have K1:=HK0.out.over (HBR.out.trans (HBQ.out.mono HBR.out.size));have p6:=K1.c3;clear K1;by_cases hlt2:j < 16
       ·obtain ⟨g1,o1,pp,rfl,hg1,m1,m2,m3,hr1⟩:=HK.out j (by rw [HN.out.2];exact hlt2);have q1:=(HB1.out.cell (p:=⟨g1,o1+j * 3,none⟩) hg1).trans m1;have q2:=(HB1.out.cell (p:=⟨g1,o1+j * 3+1,none⟩) hg1).trans m2;have q3:=(HB1.out.cell (p:=⟨g1,o1+j * 3+2,none⟩) hg1).trans m3;have key:∀ b:Blk,bs[j]'(by rw [HN.out.2];exact hlt2)=b->∀ (k:Nat) (h':k < b.2.1.length),b.2.1[k].1.size<=1048576:=by
         rintro b rfl;exact HG.out j _
        obtain ⟨y,hy⟩:∃ x,bs[j]'(by rw [HN.out.2];exact hlt2)=x:=⟨_,rfl⟩
        obtain ⟨y,s,z⟩:=y;rw [hy] at q1 q3 hr1;have hbg:∀ (k:Nat) (h':k < s.length),s[k].1.size<=1048576:=key _ hy;obtain ⟨pa,pc,rfl⟩:=hr1.form;simp only at q1 q2 q3 hr1;have HR:=hide (hr1.below HB1.out nR);have HBG:=hide hbg;have j0:(0:Int)<=(j:Int):=by omega
        have j1:(j:Int) < 16:=by omega
        have HY:=hide hy;clear m1 m2 m3 hr1 hy hbg key
        cases hq:zav y s z with
        | true =>
         have HQ:=hide hq;clear hq;go_wp2_with (go_at_call 83;refine (zbn _ _ _ s _ HR.out HBG.out).mono ?_;rw [HQ.out];rintro e w2 ⟨rfl,B2⟩;have HB2:=hide (HBQ.out.trans (B2.mono HBQ.out.size));clear B2)
         go_roundw
         case rel =>
          refine ⟨j+1,by omega,by go_num,fun k hk hkj=>?_,HB2.out⟩;by_cases hkk:k=j
          ·subst hkk;rw [HY.out];exact HQ.out
          ·exact HS2.out k hk (by omega)
         case measure=>simp [intOf];omega
        | false =>
         have hno:zfs bs=false:=all_no (by rw [HN.out.2];exact hlt2) (by rw [HY.out];exact hq);have HNO:=hide hno;have HQ:=hide hq;clear hq hno;go_wp2_with (go_at_call 83;refine (zbn _ _ _ s _ HR.out HBG.out).mono ?_;rw [HQ.out];rintro e w2 ⟨rfl,B2⟩;have HB2:=hide (HB1.out.trans (B2.mono HB1.out.size));clear B2)
         go_ret;exact ⟨zaw (zi1 HNO.out),HB2.out⟩
       ·have hyes:zfs bs=true:=ziz fun k hk=>HS2.out k hk (by rw [HN.out.2] at hk;omega);have HYS2:=hide hyes;clear hyes;go_wp2;go_ret;exact ⟨zaw (zhq HX.out HN.out.1 HN.out.2 HYS.out HYS2.out),HB1.out⟩
   ·have hne:bs.length≠16:=by rw [HN.out.2];exact h16
    have HNE:=hide hne;have hb16:((nb:Int) != 16)=true:=by simp;omega
    clear hne;subst h8;go_wp2;go_ret;exact ⟨zaw (diskOk_b HNE.out),HBW.out⟩
  ·have hne:is.length≠8:=by rw [HN.out.1];exact h8
   have HNE:=hide hne;have hb8:((ni:Int) != 8)=true:=by simp;omega
   clear hne;go_wp2;go_ret;exact ⟨zaw (diskOk_i HNE.out),HBW.out⟩
namespace Kit
def AnyB (e:Ending):Prop:=∃ r:Bool,e=.returned (.bool r)
end Kit
variable {Z : ZT}
theorem zi2 (u v iv bv dv pv:Value)(m:MD)(i:Nat)(w:World)(h:MR w u v iv bv dv pv m)(hm:Sh Z m)(hi:i < m.ds.length) :
  Calls Tryz.prog 125 #[.agg #[u,v,iv,bv,dv,pv,.int .i64 m.nx],.int .i64 i] w fun e w'=>AnyB e/\Below w.heap.size w w':=by
 obtain ⟨a1,c1,a2,c2,a3,c3,a4,c4,a5,c5,a6,c6,rfl,rfl,rfl,rfl,rfl,rfl⟩:=h.form;obtain ⟨a,c,ei,-,hc⟩:=h.p.dep;simp only [Value.slice.injEq,true_and] at ei;obtain ⟨rfl,rfl⟩:=ei;have HC:=hide hc;obtain ⟨g,off,p,rfl,hg,nn,hp⟩:=hc i hi;have hdk:=hm.dd _ (List.getElem_mem hi);have hnx1:1<=m.nx:=hm.nx.1;have hnx2:m.nx<=100000:=hm.nx.2;have hdl:m.ds.length<=40:=hm.l;obtain ⟨X,hX⟩:∃ X,m.ds[i]=X:=⟨_,rfl⟩
 rw [hX] at nn hp hdk;obtain ⟨id,kd,io,pt,bk,sl,nm,bt,ot,af,bl⟩:=X;simp only at hp;obtain ⟨pa,pc,rfl,hpc⟩:=hp;have HPC:=hide hpc;simp only [DCells] at nn;obtain ⟨m0,m1,m2,m3,m4,m5,m6,m7,m8,m9,m10⟩:=nn;have bA:Below w.heap.size w (w.alloc (.cells #[.slice a1 m.xs.length c1,.slice a2 m.ys.length c2,.slice a3 m.is.length c3,.slice a4 m.bs.length c4,.slice a5 m.fs.length c5,.slice (some ⟨g,off,none⟩) m.ds.length c6,.int .i64 m.nx] 33)):=(Below.refl _ w).alloc nR _;have bW:Below w.heap.size w ((w.alloc (.cells #[.slice a1 m.xs.length c1,.slice a2 m.ys.length c2,.slice a3 m.is.length c3,.slice a4 m.bs.length c4,.slice a5 m.fs.length c5,.slice (some ⟨g,off,none⟩) m.ds.length c6,.int .i64 m.nx] 33)).alloc (.cells #[.int .i64 id,.int .i64 kd,.int .i64 io,.int .i64 pt,.int .i64 bk,.int .i64 sl,.string nm,.bool bt,.bool ot,.int .i64 af,.slice pa bl.length pc] 41)):=bA.alloc (by simp) _;have k0:(w.alloc (.cells #[.slice a1 m.xs.length c1,.slice a2 m.ys.length c2,.slice a3 m.is.length c3,.slice a4 m.bs.length c4,.slice a5 m.fs.length c5,.slice (some ⟨g,off,none⟩) m.ds.length c6,.int .i64 m.nx] 33)).cell? ⟨g,off+i * 11,none⟩=some (.int .i64 id):=(bA.cell (p:=⟨g,off+i * 11,none⟩) hg).trans m0;have k1:(w.alloc (.cells #[.slice a1 m.xs.length c1,.slice a2 m.ys.length c2,.slice a3 m.is.length c3,.slice a4 m.bs.length c4,.slice a5 m.fs.length c5,.slice (some ⟨g,off,none⟩) m.ds.length c6,.int .i64 m.nx] 33)).cell? ⟨g,off+i * 11+1,none⟩=some (.int .i64 kd):=(bA.cell (p:=⟨g,off+i * 11+1,none⟩) hg).trans m1;have k2:(w.alloc (.cells #[.slice a1 m.xs.length c1,.slice a2 m.ys.length c2,.slice a3 m.is.length c3,.slice a4 m.bs.length c4,.slice a5 m.fs.length c5,.slice (some ⟨g,off,none⟩) m.ds.length c6,.int .i64 m.nx] 33)).cell? ⟨g,off+i * 11+2,none⟩=some (.int .i64 io):=(bA.cell (p:=⟨g,off+i * 11+2,none⟩) hg).trans m2;have k3:(w.alloc (.cells #[.slice a1 m.xs.length c1,.slice a2 m.ys.length c2,.slice a3 m.is.length c3,.slice a4 m.bs.length c4,.slice a5 m.fs.length c5,.slice (some ⟨g,off,none⟩) m.ds.length c6,.int .i64 m.nx] 33)).cell? ⟨g,off+i * 11+3,none⟩=some (.int .i64 pt):=(bA.cell (p:=⟨g,off+i * 11+3,none⟩) hg).trans m3;have k4:(w.alloc (.cells #[.slice a1 m.xs.length c1,.slice a2 m.ys.length c2,.slice a3 m.is.length c3,.slice a4 m.bs.length c4,.slice a5 m.fs.length c5,.slice (some ⟨g,off,none⟩) m.ds.length c6,.int .i64 m.nx] 33)).cell? ⟨g,off+i * 11+4,none⟩=some (.int .i64 bk):=(bA.cell (p:=⟨g,off+i * 11+4,none⟩) hg).trans m4;have k5:(w.alloc (.cells #[.slice a1 m.xs.length c1,.slice a2 m.ys.length c2,.slice a3 m.is.length c3,.slice a4 m.bs.length c4,.slice a5 m.fs.length c5,.slice (some ⟨g,off,none⟩) m.ds.length c6,.int .i64 m.nx] 33)).cell? ⟨g,off+i * 11+5,none⟩=some (.int .i64 sl):=(bA.cell (p:=⟨g,off+i * 11+5,none⟩) hg).trans m5;have k6:(w.alloc (.cells #[.slice a1 m.xs.length c1,.slice a2 m.ys.length c2,.slice a3 m.is.length c3,.slice a4 m.bs.length c4,.slice a5 m.fs.length c5,.slice (some ⟨g,off,none⟩) m.ds.length c6,.int .i64 m.nx] 33)).cell? ⟨g,off+i * 11+6,none⟩=some (.string nm):=(bA.cell (p:=⟨g,off+i * 11+6,none⟩) hg).trans m6;have k7:(w.alloc (.cells #[.slice a1 m.xs.length c1,.slice a2 m.ys.length c2,.slice a3 m.is.length c3,.slice a4 m.bs.length c4,.slice a5 m.fs.length c5,.slice (some ⟨g,off,none⟩) m.ds.length c6,.int .i64 m.nx] 33)).cell? ⟨g,off+i * 11+7,none⟩=some (.bool bt):=(bA.cell (p:=⟨g,off+i * 11+7,none⟩) hg).trans m7;have k8:(w.alloc (.cells #[.slice a1 m.xs.length c1,.slice a2 m.ys.length c2,.slice a3 m.is.length c3,.slice a4 m.bs.length c4,.slice a5 m.fs.length c5,.slice (some ⟨g,off,none⟩) m.ds.length c6,.int .i64 m.nx] 33)).cell? ⟨g,off+i * 11+8,none⟩=some (.bool ot):=(bA.cell (p:=⟨g,off+i * 11+8,none⟩) hg).trans m8;have k9:(w.alloc (.cells #[.slice a1 m.xs.length c1,.slice a2 m.ys.length c2,.slice a3 m.is.length c3,.slice a4 m.bs.length c4,.slice a5 m.fs.length c5,.slice (some ⟨g,off,none⟩) m.ds.length c6,.int .i64 m.nx] 33)).cell? ⟨g,off+i * 11+9,none⟩=some (.int .i64 af):=(bA.cell (p:=⟨g,off+i * 11+9,none⟩) hg).trans m9;have k10:(w.alloc (.cells #[.slice a1 m.xs.length c1,.slice a2 m.ys.length c2,.slice a3 m.is.length c3,.slice a4 m.bs.length c4,.slice a5 m.fs.length c5,.slice (some ⟨g,off,none⟩) m.ds.length c6,.int .i64 m.nx] 33)).cell? ⟨g,off+i * 11+10,none⟩=some (.slice pa bl.length pc):=(bA.cell (p:=⟨g,off+i * 11+10,none⟩) hg).trans m10;have X0:AtC (w.alloc (.cells #[.slice a1 m.xs.length c1,.slice a2 m.ys.length c2,.slice a3 m.is.length c3,.slice a4 m.bs.length c4,.slice a5 m.fs.length c5,.slice (some ⟨g,off,none⟩) m.ds.length c6,.int .i64 m.nx] 33)) w.heap.size 33 #[.slice a1 m.xs.length c1,.slice a2 m.ys.length c2,.slice a3 m.is.length c3,.slice a4 m.bs.length c4,.slice a5 m.fs.length c5,.slice (some ⟨g,off,none⟩) m.ds.length c6,.int .i64 m.nx]:=AtC.new w 33 _;have z5:=X0.c5;have X1:AtC ((w.alloc (.cells #[.slice a1 m.xs.length c1,.slice a2 m.ys.length c2,.slice a3 m.is.length c3,.slice a4 m.bs.length c4,.slice a5 m.fs.length c5,.slice (some ⟨g,off,none⟩) m.ds.length c6,.int .i64 m.nx] 33)).alloc (.cells #[.int .i64 id,.int .i64 kd,.int .i64 io,.int .i64 pt,.int .i64 bk,.int .i64 sl,.string nm,.bool bt,.bool ot,.int .i64 af,.slice pa bl.length pc] 41)) w.heap.size 33 #[.slice a1 m.xs.length c1,.slice a2 m.ys.length c2,.slice a3 m.is.length c3,.slice a4 m.bs.length c4,.slice a5 m.fs.length c5,.slice (some ⟨g,off,none⟩) m.ds.length c6,.int .i64 m.nx]:=X0.over (bR.alloc nR _);have X2:AtC ((w.alloc (.cells #[.slice a1 m.xs.length c1,.slice a2 m.ys.length c2,.slice a3 m.is.length c3,.slice a4 m.bs.length c4,.slice a5 m.fs.length c5,.slice (some ⟨g,off,none⟩) m.ds.length c6,.int .i64 m.nx] 33)).alloc (.cells #[.int .i64 id,.int .i64 kd,.int .i64 io,.int .i64 pt,.int .i64 bk,.int .i64 sl,.string nm,.bool bt,.bool ot,.int .i64 af,.slice pa bl.length pc] 41)) (w.heap.size+1) 41 #[.int .i64 id,.int .i64 kd,.int .i64 io,.int .i64 pt,.int .i64 bk,.int .i64 sl,.string nm,.bool bt,.bool ot,.int .i64 af,.slice pa bl.length pc]:=by have:=AtC.new (w.alloc (.cells #[.slice a1 m.xs.length c1,.slice a2 m.ys.length c2,.slice a3 m.is.length c3,.slice a4 m.bs.length c4,.slice a5 m.fs.length c5,.slice (some ⟨g,off,none⟩) m.ds.length c6,.int .i64 m.nx] 33)) 41 #[.int .i64 id,.int .i64 kd,.int .i64 io,.int .i64 pt,.int .i64 bk,.int .i64 sl,.string nm,.bool bt,.bool ot,.int .i64 af,.slice pa bl.length pc];simpa using this
 have e0:=X1.c0;have e1:=X1.c1;have e2:=X1.c2;have e3:=X1.c3;have e4:=X1.c4;have e5:=X1.c5;have e6:=X1.c6;have f0:=X2.c0;have f1:=X2.c1;have f2:=X2.c2;have f3:=X2.c3;have f4:=X2.c4;have f5:=X2.c5;have f6:=X2.c6;have f7:=X2.c7;have f8:=X2.c8;have f9:=X2.c9;have f10:=X2.c10;have HBW:=hide bW;have HH:=hide h;have HM:=hide hm;have i0:(0:Int)<=(i:Int):=by omega
 have i1:(i:Int) < (m.ds.length:Int):=by omega
 have hbn:bl.length<=2:=hdk.bn;have hio1:1<=io:=hdk.io.1;have hio8:io<=8:=hdk.io.2;have hpt0:0<=pt:=hdk.pt.1;have hpt1:pt<=1:=hdk.pt.2;have hbk0:0<=bk:=hdk.bk.1;have hbk16:bk<=16:=hdk.bk.2;have hsl0:0<=sl:=hdk.sl.1;have hsl3:sl<=3:=hdk.sl.2;have HNM:Hid (nm.size<=6):=hdk.nm;clear h hm hdk hX hc hpc bA bW X0 X1 X2 m0 m1 m2 m3 m4 m5 m6 m7 m8 m9 m10;have CI:Hid (∀ (x y z:Int) (W:World),Calls Tryz.prog 20 #[.int .i64 x,.int .i64 y,.int .i64 z] W fun e w'=>AnyB e/\w'=W):=fun x y z W=>(zaj x y z W).mono fun e w' ⟨h1,h2⟩=>⟨⟨_,h1⟩,h2⟩
 go_enter Tryz.func125,Tryz.ntmps125
 go_upto_region 2 with fail
 generalize hWW:((w.alloc (.cells #[.slice a1 m.xs.length c1,.slice a2 m.ys.length c2,.slice a3 m.is.length c3,.slice a4 m.bs.length c4,.slice a5 m.fs.length c5,.slice (some ⟨g,off,none⟩) m.ds.length c6,.int .i64 m.nx] 33)).alloc (.cells #[.int .i64 id,.int .i64 kd,.int .i64 io,.int .i64 pt,.int .i64 bk,.int .i64 sl,.string nm,.bool bt,.bool ot,.int .i64 af,.slice pa bl.length pc] 41))=W0 at *;clear hWW;clear k0 k1 k2 k3 k4 k5 k6 k7 k8 k9 k10 z5;go_cut [58] from 8 to 58 (fun c wx=>(∃ r,c=.bool r)/\wx=W0)
 case first =>
  go_wp2_with (go_at_call 20;refine (CI.out _ _ _ _).mono ?_;rintro e w3 ⟨⟨r,rfl⟩,rfl⟩;cases r)
  all_goals (go_meet;exact ⟨⟨_,rfl⟩,rfl⟩)
 case rest =>
  obtain ⟨⟨r,rfl⟩,rfl⟩:=hcut
  cases r
  case true =>
   go_wp2;go_ret;exact ⟨⟨_,rfl⟩,HBW.out⟩
  case false =>
   obtain ⟨wX,rfl⟩:∃ wX,wX=wc:=⟨wc,rfl⟩
   go_wp2_with fail
   go_loopw [6] (fun i' wr=>∃ q:Nat,q<=bl.length/\i'=.int .i64 q/\wX=wr) (fun i' _=>bl.length - (intOf i').toNat)
   case atStart=>exact ⟨0,Nat.zero_le _,rfl,rfl⟩
   case round =>
    obtain ⟨q,hq,rfl,rfl⟩:=hrel;by_cases hlt:q < bl.length
    ·obtain ⟨g4,o4,rfl,hg4,r4⟩:=HPC.out q hlt;have y4:=(HBW.out.cell (p:=⟨g4,o4+q,none⟩) hg4).trans r4;generalize bl[q]=pp at y4;have q0:(0:Int)<=(q:Int):=by omega
     have q1:(q:Int) < (bl.length:Int):=by omega
     clear r4;go_wp2_with (go_at_call 20;refine (CI.out _ _ _ _).mono ?_;rintro e w3 ⟨⟨r,rfl⟩,rfl⟩;cases r)
     ·go_ret;exact ⟨⟨_,rfl⟩,HBW.out⟩
     ·go_roundw
      case rel=>exact ⟨q+1,by omega,by go_num,by first | rfl | trivial⟩
      case measure=>simp [intOf];omega
    ·go_wp2_with fail
     go_loopw [7] (fun i' w'=>∃ q:Nat,q<=i/\i'=.int .i64 q/\∃ d,w'=wX.drewN d) (fun i' _=>i - (intOf i').toNat)
     case atStart=>exact ⟨0,Nat.zero_le _,rfl,0,rfl⟩
     case round =>
      obtain ⟨q,hq,rfl,d,rfl⟩:=hrel;by_cases hlt:q < i
      ·obtain ⟨g5,o5,p5,e55,hg5,n5,-⟩:=HC.out q (by omega);simp only [Option.some.injEq,Addr.mk.injEq] at e55;obtain ⟨rfl,rfl,-⟩:=e55;simp only [DCells] at n5;have y5:=(HBW.out.cell (p:=⟨g,off+q * 11,none⟩) hg5).trans n5.1;generalize m.ds[q].id=jd at y5;have q0:(0:Int)<=(q:Int):=by omega
       have q1:(q:Int) < (m.ds.length:Int):=by omega
       have q2:(q:Int) < (i:Int):=by omega
       clear n5;by_cases hid:jd=id
       ·subst hid;go_wp2_with fail
        exact cQ19
       ·go_wp2_with fail
        go_quiet (fail)
        go_wp2;go_roundw
        case rel=>exact ⟨q+1,by omega,by go_num,_,rfl⟩
        case measure=>simp [intOf];omega
      ·clear HC;by_cases hk1:kd=1
       ·subst hk1;by_cases hb:0 < bk
        ·exact cQ16
        ·have hbd:decide (0 < bk)=false:=decide_eq_false hb;go_upto_region 17 with fail
         exact cQ19
       by_cases hk6:kd=6
       ·subst hk6;by_cases hb:0 < bk
        ·exact cQ16
        ·have hbd:decide (0 < bk)=false:=decide_eq_false hb;go_upto_region 17 with fail
         exact cQ19
       by_cases hk2:kd=2
       ·subst hk2;by_cases hb:0 < bk
        ·exact cQ10
        ·have hbd:decide (0 < bk)=false:=decide_eq_false hb;go_upto_region 20 with fail
         exact cQ19
       by_cases hk3:kd=3
       ·subst hk3;by_cases hb:0 < bk
        ·exact cQ10
        ·have hbd:decide (0 < bk)=false:=decide_eq_false hb;go_upto_region 20 with fail
         exact cQ19
       by_cases hk4:kd=4
       ·subst hk4;by_cases hb:0 < bk
        ·obtain ⟨j,rfl⟩:∃ j:Nat,bk=(j:Int)+1:=⟨(bk - 1).toNat,by omega⟩
         have hwj:IntKind.i64.wrap (j:Int)=(j:Int):=wrap_small _ (by omega) (by omega);have hjl:j < m.bs.length:=by rw [HM.out.b];omega
         have hkk:=HM.out.bb _ (List.getElem_mem hjl);obtain ⟨qa,qc,qe,-,qh⟩:=HH.out.d.k;simp only [Value.slice.injEq,true_and] at qe;obtain ⟨rfl,rfl⟩:=qe;obtain ⟨g2,o2,⟨t0,t1,t2⟩,rfl,hg2,r0,r1,-,e0,rr,-⟩:=qh j hjl;simp only at r0 r1 e0 rr;subst e0;obtain ⟨dd,hdd⟩:∃ dd,m.bs[j].1=dd:=⟨_,rfl⟩
         rw [hdd] at r0;obtain ⟨sa,sc,rfl,-,sh⟩:=rr;have hkn:=hkk.n;rw [hdd] at hkn;have y0:wX.cell? ⟨g2,o2+j * 3,none⟩=some (.bool dd):=(HBW.out.cell (p:=⟨g2,o2+j * 3,none⟩) hg2).trans r0;have y1:=(HBW.out.cell (p:=⟨g2,o2+j * 3+1,none⟩) hg2).trans r1;have j0:(0:Int)<=(j:Int):=by omega
         have j1:(j:Int) < (m.bs.length:Int):=by omega
         have hbd:decide (0 < (j:Int)+1)=true:=decide_eq_true (by omega)
         cases dd
         ·clear sh hkn hkk r0 r1 qh hdd;go_wp2;go_ret
          first | exact ⟨⟨_,rfl⟩,below_drewN HBW.out _⟩ | exact ⟨⟨_,rfl⟩,below_drewN (below_drewN HBW.out _) _⟩
         ·clear sh hkn hkk r0 r1 qh hdd;go_wp2_with (go_at_call 122;refine (zbr nm _ (by have:=HNM.out;omega)).mono ?_;rintro e w7 ⟨rfl,B7⟩;have HB7:=hide B7;clear B7)
          go_ret;exact ⟨⟨_,rfl⟩,(below_drewN HBW.out _).trans (HB7.out.mono (by have:=(below_drewN HBW.out d).size;exact this))⟩
        ·have hbd:decide (0 < bk)=false:=decide_eq_false hb;go_wp2;go_ret
         first | exact ⟨⟨_,rfl⟩,below_drewN HBW.out _⟩ | exact ⟨⟨_,rfl⟩,below_drewN (below_drewN HBW.out _) _⟩
       go_wp2;go_ret
       first | exact ⟨⟨_,rfl⟩,below_drewN HBW.out _⟩ | exact ⟨⟨_,rfl⟩,below_drewN (below_drewN HBW.out _) _⟩
variable {Z : ZT}
theorem zbo (u v iv bv dv pv:Value)(m:MD)(w:World)(h:MR w u v iv bv dv pv m)(hm:Sh Z m) :
  Calls Tryz.prog 90 #[.agg #[u,v,iv,bv,dv,pv,.int .i64 m.nx]] w fun e w'=>AnyB e/\Below w.heap.size w w':=by
 obtain ⟨a1,c1,a2,c2,a3,c3,a4,c4,a5,c5,a6,c6,rfl,rfl,rfl,rfl,rfl,rfl⟩:=h.form;have HH:=hide h;have HM:=hide hm;have hdl:m.ds.length<=40:=hm.l;have hfl:((m.fs.length:Int) != 21)=false:=by rw [hm.f];rfl
 have HW:Hid (∀ W,Below (w.alloc (.cells #[.slice a1 m.xs.length c1,.slice a2 m.ys.length c2,.slice a3 m.is.length c3,.slice a4 m.bs.length c4,.slice a5 m.fs.length c5,.slice a6 m.ds.length c6,.int .i64 m.nx] 33)).heap.size (w.alloc (.cells #[.slice a1 m.xs.length c1,.slice a2 m.ys.length c2,.slice a3 m.is.length c3,.slice a4 m.bs.length c4,.slice a5 m.fs.length c5,.slice a6 m.ds.length c6,.int .i64 m.nx] 33)) W->Below w.heap.size w W):=fun W bb=>((Below.refl _ w).alloc nR _).trans (bb.mono (by simp));have HA:Hid (∀ W,Below (w.alloc (.cells #[.slice a1 m.xs.length c1,.slice a2 m.ys.length c2,.slice a3 m.is.length c3,.slice a4 m.bs.length c4,.slice a5 m.fs.length c5,.slice a6 m.ds.length c6,.int .i64 m.nx] 33)).heap.size (w.alloc (.cells #[.slice a1 m.xs.length c1,.slice a2 m.ys.length c2,.slice a3 m.is.length c3,.slice a4 m.bs.length c4,.slice a5 m.fs.length c5,.slice a6 m.ds.length c6,.int .i64 m.nx] 33)) W->AtC W w.heap.size 33 #[.slice a1 m.xs.length c1,.slice a2 m.ys.length c2,.slice a3 m.is.length c3,.slice a4 m.bs.length c4,.slice a5 m.fs.length c5,.slice a6 m.ds.length c6,.int .i64 m.nx]):=fun W bb=>(AtC.new w 33 _).over bb;have x0:=(AtC.new w 33 #[.slice a1 m.xs.length c1,.slice a2 m.ys.length c2,.slice a3 m.is.length c3,.slice a4 m.bs.length c4,.slice a5 m.fs.length c5,.slice a6 m.ds.length c6,.int .i64 m.nx]).c0;have x1:=(AtC.new w 33 #[.slice a1 m.xs.length c1,.slice a2 m.ys.length c2,.slice a3 m.is.length c3,.slice a4 m.bs.length c4,.slice a5 m.fs.length c5,.slice a6 m.ds.length c6,.int .i64 m.nx]).c1;have x2:=(AtC.new w 33 #[.slice a1 m.xs.length c1,.slice a2 m.ys.length c2,.slice a3 m.is.length c3,.slice a4 m.bs.length c4,.slice a5 m.fs.length c5,.slice a6 m.ds.length c6,.int .i64 m.nx]).c2;have x3:=(AtC.new w 33 #[.slice a1 m.xs.length c1,.slice a2 m.ys.length c2,.slice a3 m.is.length c3,.slice a4 m.bs.length c4,.slice a5 m.fs.length c5,.slice a6 m.ds.length c6,.int .i64 m.nx]).c3;have x4:=(AtC.new w 33 #[.slice a1 m.xs.length c1,.slice a2 m.ys.length c2,.slice a3 m.is.length c3,.slice a4 m.bs.length c4,.slice a5 m.fs.length c5,.slice a6 m.ds.length c6,.int .i64 m.nx]).c4;have x5:=(AtC.new w 33 #[.slice a1 m.xs.length c1,.slice a2 m.ys.length c2,.slice a3 m.is.length c3,.slice a4 m.bs.length c4,.slice a5 m.fs.length c5,.slice a6 m.ds.length c6,.int .i64 m.nx]).c5;have x6:=(AtC.new w 33 #[.slice a1 m.xs.length c1,.slice a2 m.ys.length c2,.slice a3 m.is.length c3,.slice a4 m.bs.length c4,.slice a5 m.fs.length c5,.slice a6 m.ds.length c6,.int .i64 m.nx]).c6;have CI:Hid (∀ (x y z:Int) (W:World),Calls Tryz.prog 20 #[.int .i64 x,.int .i64 y,.int .i64 z] W fun e w'=>AnyB e/\w'=W):=fun x y z W=>(zaj x y z W).mono fun e w' ⟨h1,h2⟩=>⟨⟨_,h1⟩,h2⟩
 have CD:Hid (∀ W,Below w.heap.size w W->Calls Tryz.prog 58 #[.agg #[.slice a1 m.xs.length c1,.slice a2 m.ys.length c2,.slice a3 m.is.length c3,.slice a4 m.bs.length c4]] W fun e w'=>AnyB e/\Below W.heap.size W w'):=fun W bb=>(zcm _ _ _ _ m.xs m.ys m.is m.bs W (HH.out.below bb nR).d (fun j hj k hk=>Nat.le_trans ((HM.out.bb _ (List.getElem_mem hj)).s _ (List.getElem_mem hk)).1 (by decide))).mono fun e w' ⟨h1,h2⟩=>⟨⟨_,h1⟩,h2⟩
 clear h hm;go_enter Tryz.func90,Tryz.ntmps90
 go_upto_region 1 with fail
 generalize hW0:(w.alloc (.cells #[.slice a1 m.xs.length c1,.slice a2 m.ys.length c2,.slice a3 m.is.length c3,.slice a4 m.bs.length c4,.slice a5 m.fs.length c5,.slice a6 m.ds.length c6,.int .i64 m.nx] 33))=W0 at *;clear hW0;go_cut [25] from 4 to 25 (fun c wx=>(∃ r,c=.bool r)/\Below W0.heap.size W0 wx)
 case first =>
  go_wp2_with (first | (go_at_call 58;refine (CD.out _ (HW.out _ bR)).mono ?_;rintro e w2 ⟨⟨r,rfl⟩,B2⟩;have HB2:=hide B2;have A2:=HA.out w2 B2;have y4:w2.cell? ⟨w.heap.size,4,none⟩=some (.slice a5 m.fs.length c5):=A2.cell 4;have y5:w2.cell? ⟨w.heap.size,5,none⟩=some (.slice a6 m.ds.length c6):=A2.cell 5;have y6:w2.cell? ⟨w.heap.size,6,none⟩=some (.int .i64 m.nx):=A2.cell 6;clear A2 B2;cases r) | (go_at_call 20;refine (CI.out _ _ _ _).mono ?_;rintro e w3 ⟨⟨r,rfl⟩,rfl⟩;cases r))
  all_goals (go_meet;exact ⟨⟨_,rfl⟩,HB2.out⟩)
 case rest =>
  obtain ⟨⟨r,rfl⟩,hbw⟩:=hcut;have HBW:=hide hbw;clear hbw x0 x1 x2 x3 x4 x5 x6
  cases r
  case true =>
   go_wp2;go_ret;exact ⟨⟨_,rfl⟩,HW.out _ HBW.out⟩
  case false =>
   go_wp2_with fail
   go_loopw [3] (fun i' wr=>∃ q:Nat,q<=m.ds.length/\i'=.int .i64 q/\Hid (Below W0.heap.size W0 wr)) (fun i' _=>m.ds.length - (intOf i').toNat)
   case atStart=>exact ⟨0,Nat.zero_le _,rfl,HBW.out⟩
   case round =>
    obtain ⟨q,hq,rfl,HR⟩:=hrel;have A2:=HA.out wr HR.out;obtain ⟨y0,y1,y2,y3,y4,y5,y6⟩:=AtC.sev A2;clear A2;by_cases hlt:q < m.ds.length
    ·have q0:(0:Int)<=(q:Int):=by omega
     have q1:(q:Int) < (m.ds.length:Int):=by omega
     go_wp2_with (go_at_call 125;refine (zi2 _ _ _ _ _ _ m q wr (HH.out.below (HW.out _ HR.out) nR) HM.out hlt).mono ?_;rintro e w2 ⟨⟨r,rfl⟩,B2⟩;have HB2:=hide (HR.out.trans (B2.mono HR.out.size));clear B2;cases r)
     ·go_ret;exact ⟨⟨_,rfl⟩,HW.out _ HB2.out⟩
     ·go_roundw
      case rel=>exact ⟨q+1,by omega,by go_num,HB2.out⟩
      case measure=>simp [intOf];omega
    ·go_wp2;go_ret;exact ⟨⟨_,rfl⟩,HW.out _ HR.out⟩
namespace Kit
def byteN:List Bool->Nat
 | []=>0
 | b :: r=>(if b then 1 else 0)+2 * byteN r
theorem byteN_lt (l:List Bool):byteN l < 2 ^ l.length:=by
 induction l with
 | nil=>simp [byteN]
 | cons b r ih =>
  simp only [byteN,List.length_cons,Nat.pow_succ]
  split<;>omega
theorem zem (l:List Bool)(b:Bool):byteN (l ++ [b])=byteN l+(if b then 2 ^ l.length else 0):=by
 induction l with
 | nil=>simp [byteN]
 | cons a r ih =>
  simp only [List.cons_append,byteN,ih,List.length_cons,Nat.pow_succ]
  split<;>split<;>omega
theorem zd4 (l:List Bool)(h:l.length<=8):byteN l < 256:=by
 have h1:=byteN_lt l;have h2:2 ^ l.length<=2 ^ 8:=Nat.pow_le_pow_right (by omega) h;omega
def bB (l:List Bool):UInt8:=UInt8.ofNat (byteN l)
theorem bB_toNat (l:List Bool)(h:l.length<=8):(bB l).toNat=byteN l:=by
 have:=zd4 l h;simp [bB,UInt8.toNat_ofNat'];omega
end Kit
def bitP (j:Nat):Int:=((2 ^ j:Nat):Int)
theorem zi3:bitP 0=1:=rfl
theorem zi4 (j:Nat):bitP (j+1)=2 * bitP j:=by unfold bitP;rw [Nat.pow_succ];omega
theorem bitP_le (j:Nat)(h:j<=8):0<=bitP j/\bitP j<=256:=by
 have:=Nat.pow_le_pow_right (n:=2) (by omega) h;unfold bitP;generalize 2 ^ j=p at *;omega
def preN (l:List Bool) (j:Nat):Int:=(byteN (l.take j):Nat)
theorem zi5 (l:List Bool):preN l 0=0:=by simp [preN,byteN]
theorem preN_le (l:List Bool)(j:Nat)(h:l.length<=8):0<=preN l j/\preN l j<=255:=by
 have:=zd4 (l.take j) (by simp;omega);unfold preN;omega
theorem preN_yes (l:List Bool)(j:Nat)(h:j < l.length)(ht:l[j]=true):preN l (j+1)=preN l j+bitP j:=by
 unfold preN bitP;rw [List.take_succ_eq_append_getElem h,zem,ht,List.length_take,Nat.min_eq_left (by omega)];simp
theorem preN_no (l:List Bool)(j:Nat)(h:j < l.length)(ht:l[j]=false):preN l (j+1)=preN l j:=by
 unfold preN;rw [List.take_succ_eq_append_getElem h,zem,ht];simp
theorem preN_all (l:List Bool)(h:l.length<=8):preN l l.length=((bB l).toNat:Int):=by
 rw [bB_toNat l h,preN,List.take_length]
theorem zcn (v:Value)(l:List Bool)(w:World)(hv:RFl w v l)(hl:l.length<=8) :
  Calls Tryz.prog 123 #[v] w fun e w'=>e=.returned (.int .u8 (bB l).toNat)/\w=w':=by
 obtain ⟨a,c,rfl,ha⟩:=hv;have HA:=hide ha;clear ha;go_enter Tryz.func123,Tryz.ntmps123
 go_wp2;go_loopw [3,4,5] (fun x y i wr=>∃ j:Nat,j<=l.length/\i=.int .i64 j/\x=.int .i64 (preN l j)/\y=.int .i64 (bitP j)/\w=wr) (fun _ _ i _=>l.length - (intOf i).toNat)
 case atStart=>exact ⟨0,Nat.zero_le _,rfl,by rw [zi5],by rw [zi3],rfl⟩
 case round =>
  obtain ⟨j,hj,rfl,rfl,rfl,rfl⟩:=hrel;obtain ⟨p0,p1⟩:=preN_le l j hl;obtain ⟨q0,q1⟩:=bitP_le j (by omega);by_cases hlt:j < l.length
  ·obtain ⟨g,off,rfl,_,k1⟩:=HA.out j hlt;obtain ⟨t,ht⟩:∃ t,l[j]=t:=⟨_,rfl⟩
   rw [ht] at k1;have j0:(0:Int)<=(j:Int):=by omega
   have j1:(j:Int) < (l.length:Int):=by omega
   have E1:=hide (zi4 j)
   cases t with
   | true =>
    have E2:=hide (preN_yes l j hlt ht);clear ht;go_wp2;go_roundw
    case rel=>exact ⟨j+1,by omega,by go_num,by rw [E2.out],by rw [E1.out],trivial⟩
    case measure=>simp [intOf];omega
   | false =>
    have E2:=hide (preN_no l j hlt ht);clear ht;go_wp2;go_roundw
    case rel=>exact ⟨j+1,by omega,by go_num,by rw [E2.out],by rw [E1.out],trivial⟩
    case measure=>simp [intOf];omega
  ·have hjl:j=l.length:=by omega
   have HJ:=hide hjl;clear hjl;go_wp2;go_ret;exact ⟨ret_of (show Value.int .u8 _=Value.int .u8 _ by rw [← preN_all l hl,← HJ.out]),rfl⟩
namespace Kit
end Kit
def textB (xs ys:List Bool):ByteArray:=⟨#[bB (xs.take 8),bB (xs.drop 8),bB ys]⟩
namespace Kit
theorem rfl_take {w:World}{g off n c c' k:Nat}{xs:List Bool}(h:RFl w (.slice (some ⟨g,off,none⟩) n c) xs)(hk:k<=n):RFl w (.slice (some ⟨g,off,none⟩) k c') (xs.take k):=by
 obtain ⟨a,cap,e,h⟩:=h;simp only [Value.slice.injEq] at e;obtain ⟨rfl,rfl,-⟩:=e;refine ⟨some ⟨g,off,none⟩,c',by rw [List.length_take,Nat.min_eq_left hk],fun j hj=>?_⟩;have hj':j < xs.length:=by simp at hj;omega
 obtain ⟨g',off',e1,e2,e3⟩:=h j hj';exact ⟨g',off',e1,e2,by rw [e3];simp⟩
theorem rfl_drop {w:World}{g off n c c' k:Nat}{xs:List Bool}(h:RFl w (.slice (some ⟨g,off,none⟩) n c) xs)(hk:k<=n):RFl w (.slice (some ⟨g,off+k,none⟩) (n - k) c') (xs.drop k):=by
 obtain ⟨a,cap,e,h⟩:=h;simp only [Value.slice.injEq] at e;obtain ⟨rfl,rfl,-⟩:=e;refine ⟨some ⟨g,off+k,none⟩,c',by rw [List.length_drop],fun j hj=>?_⟩;have hj':k+j < xs.length:=by simp at hj;omega
 obtain ⟨g',off',e1,e2,e3⟩:=h (k+j) hj';simp only [Option.some.injEq,Addr.mk.injEq] at e1;obtain ⟨rfl,rfl,-⟩:=e1;refine ⟨g,off+k,rfl,e2,?_⟩;rw [Nat.add_assoc,e3];simp
end Kit
theorem zhr (p q r:UInt8)(W:World):(convert 22 9 (.slice (some ⟨W.heap.size,0,none⟩) 3 3)).run Tryz.prog (W.alloc (.cells #[.int .u8 (p.toNat:Int),.int .u8 (q.toNat:Int),.int .u8 (r.toNat:Int)] 5)).drew=.ok (.string ⟨#[p,q,r]⟩) (W.alloc (.cells #[.int .u8 (p.toNat:Int),.int .u8 (q.toNat:Int),.int .u8 (r.toNat:Int)] 5)).drew:=by
 refine run_convert_bytes_back _ 22 9 5 ⟨W.heap.size,0,none⟩ 3 [p,q,r] Tryz.underlying22 Tryz.underlying5 Tryz.underlying9 ?_;intro j hj
 match j,hj with
 | 0,_=>simp [Addr.add]
 | 1,_=>simp [Addr.add]
 | 2,_=>simp [Addr.add]
theorem zft (a1 a2:Option Addr)(n m c1 c2:Nat)(w:World)(h:okB n m=false) :
  Calls Tryz.prog 84 #[.agg #[.slice a1 n c1,.slice a2 m c2]] w fun e w'=>e=.returned (.tuple #[.string ⟨#[]⟩,.bool false])/\Below w.heap.size w w':=by
 have C:=hide (zcl a1 a2 n m c1 c2);rw [h] at C;clear h;go_enter Tryz.func84,Tryz.ntmps84
 go_wp2_with fail
 refine (C.out _).mono ?_;rintro e w1 ⟨rfl,B1⟩;have HB:=hide (((Below.refl _ w).alloc nR _).trans (B1.mono (by simp)));clear B1;go_wp2;refine bodyPost_ret (v:=.tuple #[.string ⟨#[]⟩,.bool false]) (by simp [results,go_sem]) rfl ⟨rfl,HB.out⟩
set_option linter.unusedSimpArgs false in
theorem ze2 (g1 g2 c1 c2:Nat)(xs ys:List Bool)(w:World)(hu:RFl w (.slice (some ⟨g1,0,none⟩) 16 c1) xs)(hv:RFl w (.slice (some ⟨g2,0,none⟩) 8 c2) ys)(h1:16<=c1)(h3:c1<=maxLen) :
  Calls Tryz.prog 84 #[.agg #[.slice (some ⟨g1,0,none⟩) 16 c1,.slice (some ⟨g2,0,none⟩) 8 c2]] w fun e w'=>e=.returned (.tuple #[.string (textB xs ys),.bool true])/\Below w.heap.size w w':=by
 have hlx:xs.length=16:=by obtain ⟨a,c,e,-⟩:=hu;simp at e;omega
 have hly:ys.length=8:=by obtain ⟨a,c,e,-⟩:=hv;simp at e;omega
 have HT:=hide (rfl_take (c':=c1) (k:=8) hu (by decide));have HD:Hid (RFl w (.slice (some ⟨g1,8,none⟩) 8 (c1 - 8)) (xs.drop 8)):=rfl_drop (c':=c1 - 8) (k:=8) hu (by decide);have HV:=hide hv;obtain ⟨p,hp⟩:∃ p,bB (xs.take 8)=p:=⟨_,rfl⟩
 obtain ⟨q,hq⟩:∃ q,bB (xs.drop 8)=q:=⟨_,rfl⟩
 obtain ⟨r,hr⟩:∃ r,bB ys=r:=⟨_,rfl⟩
 have R1:=hide (fun w hv=>zcn (.slice (some ⟨g1,0,none⟩) 8 c1) (xs.take 8) w hv (by simp;omega));have R2:=hide (fun w hv=>zcn (.slice (some ⟨g1,8,none⟩) 8 (c1 - 8)) (xs.drop 8) w hv (by simp;omega));have R3:=hide (fun w hv=>zcn (.slice (some ⟨g2,0,none⟩) 8 c2) ys w hv (by omega));have HX:Hid (textB xs ys=⟨#[p,q,r]⟩):=by show textB xs ys=_;rw [textB,hp,hq,hr]
 rw [hp] at R1;rw [hq] at R2;rw [hr] at R3;have C:=hide (zcl (some ⟨g1,0,none⟩) (some ⟨g2,0,none⟩) 16 8 c1 c2);rw [show okB 16 8=true from rfl] at C;rw [HX.out];clear hp hq hr hu hv hlx hly HX;have i1:(8:Int)<=(c1:Int):=by omega
 have i2:(16:Int)<=(c1:Int):=by omega
 have i3:c1<=9223372036854775807:=h3;have i4:¬ c1=8:=by omega
 go_enter Tryz.func84,Tryz.ntmps84
 go_wp2_with fail
 refine (C.out _).mono ?_;rintro e w1 ⟨rfl,B1⟩;have X1:AtP 26 w1 w.heap.size (.slice (some ⟨g1,0,none⟩) 16 c1) (.slice (some ⟨g2,0,none⟩) 8 c2):=(AtP.new 26 w _ _).below B1 (by simp);have b1:Below w.heap.size w w1:=((Below.refl _ w).alloc nR _).trans (B1.mono (by simp));have U1:=HT.out.below b1 nR;have V1:=HD.out.below b1 nR;have W1:=HV.out.below b1 nR;have H1:=hide (And.intro X1 (And.intro U1 (And.intro V1 (And.intro W1 b1))));obtain ⟨d0,d1⟩:=X1.cells;have m1:=X1.lt;have hcv:=zhr p q r w1;clear B1 X1 U1 V1 W1 b1 C HT HD HV;go_wp2_with fail
 refine wp_region_held_drew (S:=(fun w'=>w'.cell? ⟨w.heap.size,0,none⟩=some (.slice (some ⟨g1,0,none⟩) 16 c1)/\w'.cell? ⟨w.heap.size,1,none⟩=some (.slice (some ⟨g2,0,none⟩) 8 c2))) (by kernel_rfl) ⟨d0,d1⟩ (fun hHeld=>?_);refine wpAnyH_take (i:=0) (oi:={ dst:=some 7,op:=Op.fieldAddr 26 (Operand.tmp 1) 0,type:=_,pos:=_,after:=_,guard:=none }) (v:=?_) rfl (by kernel_rfl) (by kernel_rfl) (by kernel_rfl) (fun _ _ _ h=>h) (Or.inl ⟨by rfl,?_⟩) hHeld ?_
 rotate_left
 ·exact cQ3
 try simp only [Act.put,List.setIfInBounds_toArray,List.set_cons_zero,List.set_cons_succ]
 refine wpAnyH_take (i:=1) (oi:={ dst:=some 8,op:=Op.load 24 (Operand.tmp 7),type:=_,pos:=_,after:=_,guard:=none }) (v:=?_) rfl (by kernel_rfl) (by kernel_rfl) (by kernel_rfl) (fun _ _ _ h=>h) (Or.inl ⟨by rfl,?_⟩) hHeld ?_
 rotate_left
 ·exact cQ3
 try simp only [Act.put,List.setIfInBounds_toArray,List.set_cons_zero,List.set_cons_succ]
 refine wpAnyH_take (i:=2) (oi:={ dst:=some 9,op:=Op.slice 24 (Operand.tmp 8) none (some (Operand.const (Value.int IntKind.i64 8))) none,type:=_,pos:=_,after:=_,guard:=none }) (v:=?_) rfl (by kernel_rfl) (by kernel_rfl) (by kernel_rfl) (fun _ _ _ h=>h) (Or.inl ⟨by rfl,?_⟩) hHeld ?_
 rotate_left
 ·exact cQ3
 try simp only [Act.put,List.setIfInBounds_toArray,List.set_cons_zero,List.set_cons_succ]
 refine wpAnyH_take (i:=4) (oi:={ dst:=some 11,op:=Op.fieldAddr 26 (Operand.tmp 1) 0,type:=_,pos:=_,after:=_,guard:=none }) (v:=?_) rfl (by kernel_rfl) (by kernel_rfl) (by kernel_rfl) (fun _ _ _ h=>h) (Or.inl ⟨by rfl,?_⟩) hHeld ?_
 rotate_left
 ·exact cQ3
 try simp only [Act.put,List.setIfInBounds_toArray,List.set_cons_zero,List.set_cons_succ]
 refine wpAnyH_take (i:=5) (oi:={ dst:=some 12,op:=Op.load 24 (Operand.tmp 11),type:=_,pos:=_,after:=_,guard:=none }) (v:=?_) rfl (by kernel_rfl) (by kernel_rfl) (by kernel_rfl) (fun _ _ _ h=>h) (Or.inl ⟨by rfl,?_⟩) hHeld ?_
 rotate_left
 ·exact cQ3
 try simp only [Act.put,List.setIfInBounds_toArray,List.set_cons_zero,List.set_cons_succ]
 refine wpAnyH_take (i:=6) (oi:={ dst:=some 13,op:=Op.slice 24 (Operand.tmp 12) (some (Operand.const (Value.int IntKind.i64 8))) none none,type:=_,pos:=_,after:=_,guard:=none }) (v:=?_) rfl (by kernel_rfl) (by kernel_rfl) (by kernel_rfl) (fun _ _ _ h=>h) (Or.inl ⟨by rfl,?_⟩) hHeld ?_
 rotate_left
 ·exact cQ3
 try simp only [Act.put,List.setIfInBounds_toArray,List.set_cons_zero,List.set_cons_succ]
 refine wpAnyH_take (i:=8) (oi:={ dst:=some 15,op:=Op.fieldAddr 26 (Operand.tmp 1) 1,type:=_,pos:=_,after:=_,guard:=none }) (v:=?_) rfl (by kernel_rfl) (by kernel_rfl) (by kernel_rfl) (fun _ _ _ h=>h) (Or.inl ⟨by rfl,?_⟩) hHeld ?_
 rotate_left
 ·exact cQ3
 try simp only [Act.put,List.setIfInBounds_toArray,List.set_cons_zero,List.set_cons_succ]
 refine wpAnyH_take (i:=9) (oi:={ dst:=some 16,op:=Op.load 24 (Operand.tmp 15),type:=_,pos:=_,after:=_,guard:=none }) (v:=?_) rfl (by kernel_rfl) (by kernel_rfl) (by kernel_rfl) (fun _ _ _ h=>h) (Or.inl ⟨by rfl,?_⟩) hHeld ?_
 rotate_left
 ·exact cQ3
 try simp only [Act.put,List.setIfInBounds_toArray,List.set_cons_zero,List.set_cons_succ]
 refine wpAnyH_ready (rs:=[3]) (by kernel_rfl) (by simp) ?_;refine AllReadyH.cons (o:={ dst:=some 10,op:=Op.call { callee:=Callee.value (Operand.func 123),args:=#[Operand.tmp 9],argTypes:=#[24] },type:=_,pos:=_,after:=_,guard:=none }) rfl (fun K hK=>?_) ?_
 ·go_simp;refine (R1.out _ H1.out.2.1.drew).mono ?_;rintro e w2 ⟨rfl,rfl⟩;go_wp2_with fail
  refine hK.out _ _ (⟨d0,d1⟩) (fun hHeld=>?_);clear hK K;try simp only [Act.put,List.setIfInBounds_toArray,List.set_cons_zero,List.set_cons_succ]
  refine wpAnyH_ready (rs:=[7]) (by kernel_rfl) (by simp) ?_;refine AllReadyH.cons (o:={ dst:=some 14,op:=Op.call { callee:=Callee.value (Operand.func 123),args:=#[Operand.tmp 13],argTypes:=#[24] },type:=_,pos:=_,after:=_,guard:=none }) rfl (fun K hK=>?_) ?_
  ·go_simp;refine (R2.out _ H1.out.2.2.1.drew).mono ?_;rintro e w2 ⟨rfl,rfl⟩;go_wp2_with fail
   refine hK.out _ _ (⟨d0,d1⟩) (fun hHeld=>?_);clear hK K;try simp only [Act.put,List.setIfInBounds_toArray,List.set_cons_zero,List.set_cons_succ]
   refine wpAnyH_ready (rs:=[10]) (by kernel_rfl) (by simp) ?_;refine AllReadyH.cons (o:={ dst:=some 17,op:=Op.call { callee:=Callee.value (Operand.func 123),args:=#[Operand.tmp 16],argTypes:=#[24] },type:=_,pos:=_,after:=_,guard:=none }) rfl (fun K hK=>?_) ?_
   ·go_simp;refine (R3.out _ H1.out.2.2.2.1.drew).mono ?_;rintro e w2 ⟨rfl,rfl⟩;go_wp2_with fail
    refine hK.out _ _ (⟨d0,d1⟩) (fun hHeld=>?_);clear hK K;try simp only [Act.put,List.setIfInBounds_toArray,List.set_cons_zero,List.set_cons_succ]
    refine wpAnyH_ready (rs:=[11]) (by kernel_rfl) (by simp) ?_;refine AllReadyH.cons (o:={ dst:=some 18,op:=Op.buildSlice 22 3 #[(0,Operand.tmp 10),(1,Operand.tmp 14),(2,Operand.tmp 17)],type:=_,pos:=_,after:=_,guard:=none }) rfl (fun K hK=>?_) ?_
    ·go_simp;refine hK.out _ _ ((H1.out.1.alloc _).drew.cells) (fun hHeld=>?_);clear hK K;try simp only [Act.put,List.setIfInBounds_toArray,List.set_cons_zero,List.set_cons_succ]
     refine wpAnyH_ready (rs:=[12]) (by kernel_rfl) (by simp) ?_;refine AllReadyH.cons (o:={ dst:=some 19,op:=Op.convert 22 9 (Operand.tmp 18),type:=_,pos:=_,after:=_,guard:=none }) rfl (fun K hK=>?_) ?_
     ·go_simp;refine hK.out _ _ ((H1.out.1.alloc _).drew.cells) (fun hHeld=>?_);clear hK K;try simp only [Act.put,List.setIfInBounds_toArray,List.set_cons_zero,List.set_cons_succ]
      refine wpAnyH_take (i:=13) (oi:={ dst:=some 2,op:=Op.assign (Operand.tmp 19),type:=_,pos:=_,after:=_,guard:=none }) (v:=?_) rfl (by kernel_rfl) (by kernel_rfl) (by kernel_rfl) (fun _ _ _ h=>h) (Or.inl ⟨by rfl,?_⟩) hHeld ?_
      rotate_left
      ·exact cQ3
      try simp only [Act.put,List.setIfInBounds_toArray,List.set_cons_zero,List.set_cons_succ]
      refine wpAnyH_take (i:=14) (oi:={ dst:=some 3,op:=Op.assign (Operand.const (Value.bool true)),type:=_,pos:=_,after:=_,guard:=none }) (v:=?_) rfl (by kernel_rfl) (by kernel_rfl) (by kernel_rfl) (fun _ _ _ h=>h) (Or.inl ⟨by rfl,?_⟩) hHeld ?_
      rotate_left
      ·exact cQ3
      try simp only [Act.put,List.setIfInBounds_toArray,List.set_cons_zero,List.set_cons_succ]
      refine wpAnyH_done (by kernel_rfl) ?_ _;have HZ:=hide (((H1.out.2.2.2.2.alloc H1.out.2.2.2.2.size (.cells #[.int .u8 (p.toNat:Int),.int .u8 (q.toNat:Int),.int .u8 (r.toNat:Int)] 5))).drew);clear H1 hcv hHeld;go_wp2;refine bodyPost_ret (v:=.tuple #[.string ⟨#[p,q,r]⟩,.bool true]) (by simp [results,go_sem]) rfl ⟨rfl,HZ.out⟩
     ·exact AllReadyH.nil
    ·exact AllReadyH.nil
   ·exact AllReadyH.nil
  ·exact AllReadyH.nil
 ·exact AllReadyH.nil
def textA (xs ys:List Bool):ByteArray:=if okB xs.length ys.length then textB xs ys else ⟨#[]⟩
theorem ze3 (u v:Value)(xs ys:List Bool)(base:Nat)(w:World)(h:Two w base u v xs ys) :
  Calls Tryz.prog 84 #[.agg #[u,v]] w fun e w'=>e=.returned (.tuple #[.string (textA xs ys),.bool (okB xs.length ys.length)])/\Below w.heap.size w w':=by
 cases hok:okB xs.length ys.length with
 | false =>
  obtain ⟨a1,c1,a2,c2,rfl,rfl⟩:=h.form;have e:textA xs ys=⟨#[]⟩:=by simp [textA,hok]
  rw [e];exact zft a1 a2 xs.length ys.length c1 c2 w hok
 | true =>
  obtain ⟨h1,h2⟩:=okB_true hok;have e:textA xs ys=textB xs ys:=by simp [textA,hok]
  rw [e];obtain ⟨g1,c1,e1,-,-,-,-,k1⟩:=h.a.at 0 (by rw [zae];omega);obtain ⟨g2,c2,e2,-,-,-,-,k2⟩:=h.b.at 0 (by rw [zae];omega);rw [zae,h1] at e1 k1;rw [zae,h2] at e2 k2;have hm:c1<=maxLen:=by
   rcases h.a.2 with ⟨h3,-⟩ | ⟨g,cap,cur,h3,-,-,-,h4,-⟩
   ·rw [h3] at e1;cases e1
   ·rw [e1] at h3;simp only [Value.slice.injEq] at h3;rw [h3.2.2];exact h4
  have ha:=h.a.rfl;have hb:=h.b.rfl;rw [e1] at ha ⊢;rw [e2] at hb ⊢;exact ze2 g1 g2 c1 c2 xs ys w ha hb k1 hm
namespace Kit
def enc (s:Sl):List UInt8:=loB s.2.toNat :: (vb s.1.size ++ s.1.data.toList)
def encs:List Sl->List UInt8
 | []=>[]
 | s :: r=>enc s ++ encs r
theorem zgn (a b:List Sl):encs (a ++ b)=encs a ++ encs b:=by
 induction a with
 | nil=>rfl
 | cons s r ih=>simp [encs,ih]
def pre (xs:List Sl) (j:Nat):List UInt8:=100 :: encs (xs.take j)
theorem pre_next (xs:List Sl)(j:Nat)(h:j < xs.length):pre xs (j+1)=(pre xs j ++ [loB xs[j].2.toNat]) ++ (vb xs[j].1.size ++ xs[j].1.data.toList):=by
 unfold pre;rw [List.take_succ_eq_append_getElem h,zgn];simp [encs,enc]
theorem pre_all (xs:List Sl)(j:Nat)(h:xs.length<=j):pre xs j=100 :: encs xs:=by
 unfold pre;rw [List.take_of_length_le h]
def zbv (d:Bool) (xs:List Sl) (t:ByteArray):ByteArray:=if zav d xs t then (if d then accB (100 :: encs xs) else oneB 116 ++ t) else ⟨#[]⟩
theorem zgo {s:Sl}(h:zd2 s=true):0<=s.2/\s.2<=8/\s.1.size<=6:=by
 have h':=of_decide_eq_true h;rcases h' with h1 | h1
 ·omega
 ·have:=zba h1.1;omega
theorem okF_each (xs:List Sl):∀ (ahead:List Sl),okF ahead xs=true->∀ s∈xs,zd2 s=true:=by
 induction xs with
 | nil=>intro _ _ s hs;simp at hs
 | cons x r ih =>
  intro ahead h s hs;simp only [okF,Bool.and_eq_true] at h;rcases List.mem_cons.1 hs with rfl | h1
  ·exact h.1.1
  ·exact ih _ h.2 s h1
theorem zb4 {xs:List Sl}(h:zbb xs=true):xs.length=4/\∀ (j:Nat) (hj:j < xs.length),0<=xs[j].2/\xs[j].2<=8/\xs[j].1.size<=6:=by
 simp only [zbb,Bool.and_eq_true,decide_eq_true_eq] at h;exact ⟨h.1,fun j hj=>zgo (okF_each xs [] h.2 _ (List.getElem_mem hj))⟩
theorem vb_size {n:Nat}(h:n<=127):(vb n).length=1:=by rw [vb,zcq _ _ h];rfl
theorem zhs {s:Sl}(h:s.1.size<=6):(enc s).length<=8:=by
 simp only [enc,List.length_cons,List.length_append,vb_size (show s.1.size<=127 by omega)];have:s.1.data.toList.length=s.1.size:=rfl;omega
theorem zd5 (xs:List Sl):(∀ s∈xs,s.1.size<=6)->(encs xs).length<=xs.length * 8:=by
 induction xs with
 | nil=>intro _;simp [encs]
 | cons x r ih =>
  intro h;have h1:=ih (fun s hs=>h s (by simp [hs]));have h2:=zhs (h x (by simp));simp only [encs,List.length_append,List.length_cons];omega
theorem zht {xs:List Sl}(h:zbb xs=true)(j:Nat):(pre xs j).length<=33:=by
 obtain ⟨h4,hb⟩:=zb4 h;have h1:=zd5 (xs.take j) (fun s hs=>by
  obtain ⟨i,hi,rfl⟩:=List.getElem_of_mem (List.mem_of_mem_take hs);exact (hb i hi).2.2)
 have h2:(xs.take j).length<=4:=by simp;omega
 simp only [pre,List.length_cons];omega
theorem zco (a b:List UInt8):accB a ++ accB b=accB (a ++ b):=by
 unfold accB;rw [ByteArray.mk_append_mk]
theorem zi6 (s:ByteArray):accB s.data.toList=s:=by
 unfold accB;rw [show s.data.toList.toArray=s.data from Array.toArray_toList]
end Kit
theorem joinS (p:List UInt8)(b:UInt8)(n:Nat)(t:ByteArray):accB p ++ oneB b ++ zd1 n ++ t=accB ((p ++ [b]) ++ (vb n ++ t.data.toList)):=by
 have e1:oneB b=accB [b]:=rfl;have e2:zd1 n=accB (vb n):=rfl;have e3:=zi6 t;rw [e1,e2,zco,zco]
 conv=>lhs;rw [← e3]
 rw [zco];simp
theorem conv_at (b:UInt8)(z:Int)(hz:z=(b.toNat:Int))(W:World)(g:Nat)(h:W.cell? ⟨g,0,none⟩=some (.int .u8 z)):(convert 22 9 (.slice (some ⟨g,0,none⟩) 1 1)).run Tryz.prog W=.ok (.string (oneB b)) W:=by
 refine run_convert_bytes_back W 22 9 5 ⟨g,0,none⟩ 1 [b] Tryz.underlying22 Tryz.underlying5 Tryz.underlying9 ?_;intro j hj
 match j,hj with
 | 0,_=>simpa [Addr.add,hz] using h
theorem zfu (d:Bool)(v:Value)(t:ByteArray)(xs:List Sl)(w:World)(hv:RSl w v xs)(hbig:∀ (j:Nat) (h:j < xs.length),xs[j].1.size<=1048576)(hno:zav d xs t=false) :
  Calls Tryz.prog 86 #[.agg #[.bool d,v,.string t]] w fun e w'=>e=.returned (.tuple #[.string (zbv d xs t),.bool (zav d xs t)])/\Below w.heap.size w w':=by
 have HV:=hide hv;have C:=hide (fun W h=>zbn d v t xs W h hbig);obtain ⟨a,c,rfl,-⟩:=hv;have e1:zbv d xs t=⟨#[]⟩:=by simp [zbv,hno]
 rw [e1,hno];rw [hno] at C;clear e1 hno hbig;go_enter Tryz.func86,Tryz.ntmps86
 go_wp2_with (go_at_call 83;refine (C.out _ (HV.out.alloc _)).mono ?_;rintro e w1 ⟨rfl,hb1⟩)
 go_ret2
 exact ⟨rfl,((Below.refl _ w).alloc nR _).trans (hb1.mono (by simp))⟩
theorem zhu (v:Value)(t:ByteArray)(xs:List Sl)(w:World)(hv:RSl w v xs)(hbig:∀ (j:Nat) (h:j < xs.length),xs[j].1.size<=1048576)(hok:zav false xs t=true) :
  Calls Tryz.prog 86 #[.agg #[.bool false,v,.string t]] w fun e w'=>e=.returned (.tuple #[.string (zbv false xs t),.bool (zav false xs t)])/\Below w.heap.size w w':=by
 have HV:=hide hv;have C:=hide (fun W h=>zbn false v t xs W h hbig);obtain ⟨a,c,rfl,-⟩:=hv;have e1:zbv false xs t=oneB 116 ++ t:=by simp [zbv,hok]
 have ht:t.size<=16:=by rw [zdf] at hok;exact (of_decide_eq_true hok).2
 rw [e1,hok];rw [hok] at C;have m116:(⟨#[116]⟩:ByteArray)=oneB 116:=rfl;have hs1:=zdq 116;clear e1 hok hbig;go_enter Tryz.func86,Tryz.ntmps86
 go_wp2_with (go_at_call 83;refine (C.out _ (HV.out.alloc _)).mono ?_;rintro e w1 ⟨rfl,hb1⟩;obtain ⟨q0,q1,q2,-⟩:=((AtC.new w 44 #[.bool false,.slice a xs.length c,.string t]).over hb1).three)
 go_ret2
 exact ⟨rfl,((Below.refl _ w).alloc nR _).trans (hb1.mono (by simp))⟩
set_option linter.unusedSimpArgs false in
theorem zhv (v:Value)(t0:ByteArray)(xs:List Sl)(w:World)(hv:RSl w v xs)(hbig:∀ (j:Nat) (h:j < xs.length),xs[j].1.size<=1048576)(hok:zav true xs t0=true) :
  Calls Tryz.prog 86 #[.agg #[.bool true,v,.string t0]] w fun e w'=>e=.returned (.tuple #[.string (zbv true xs t0),.bool (zav true xs t0)])/\Below w.heap.size w w':=by
 have HV:=hide hv;have C:=hide (fun W h=>zbn true v t0 xs W h hbig);obtain ⟨a,c,rfl,hcap,hc⟩:=hv;have HC:=hide hc;have e1:zbv true xs t0=accB (100 :: encs xs):=by simp [zbv,hok]
 have hsl:zbb xs=true:=by
  by_cases h:t0.size=0
  ·rw [zck _ _ h] at hok;exact hok
  ·rw [zde _ _ h] at hok;cases hok
 obtain ⟨hl4,hbd⟩:=zb4 hsl;have HL:=hide hl4;have HBD:=hide hbd;have HPL:=hide (zht hsl);rw [e1,hok];rw [hok] at C;rw [hl4] at HV C hcap ⊢;have m100:(⟨#[100]⟩:ByteArray)=accB [100]:=rfl;clear e1 hok hbig hc hsl hl4 hbd;go_enter Tryz.func86,Tryz.ntmps86
 go_wp2_with (go_at_call 83;refine (C.out _ (HV.out.alloc _)).mono ?_;rintro e w1 ⟨rfl,hb1⟩;obtain ⟨q0,q1,q2,-⟩:=((AtC.new w 44 #[.bool true,.slice a 4 c,.string t0]).over hb1).three)
 have hA1:=(AtC.new w 44 #[.bool true,.slice a 4 c,.string t0]).over hb1;have hB1:Below w.heap.size w w1:=((Below.refl _ w).alloc nR _).trans (hb1.mono (by simp));have HA1:=hide hA1;have HB1:=hide hB1;clear hA1 hB1 hb1 q0 q1 q2;go_loopw [4,5] (fun s i wr=>∃ j:Nat,j<=4/\i=.int .i64 j/\s=.string (accB (pre xs j))/\Below w1.heap.size w1 wr) (fun _ i _=>4 - (intOf i).toNat)
 case atStart=>exact ⟨0,Nat.zero_le _,rfl,rfl,Below.refl _ _⟩
 case round =>
  obtain ⟨j,hj,rfl,rfl,hb⟩:=hrel;by_cases hlt:j < 4
  ·have hlx:j < xs.length:=by rw [HL.out];exact hlt
   obtain ⟨g,off,rfl,hg,m1,m2⟩:=HC.out j hlx;have hsz1:=HB1.out.size;have hbw:Below w.heap.size w wr:=HB1.out.trans (hb.mono hsz1);have HS:Hid (∀ w',Below wr.heap.size wr w'->w'.cell? ⟨w.heap.size,1,none⟩=some (.slice (some ⟨g,off,none⟩) 4 c)/\w'.cell? ⟨g,off+j * 2,none⟩=some (.string xs[j].1)/\w'.cell? ⟨g,off+j * 2+1,none⟩=some (.int .i64 xs[j].2)):=fun w' h =>
    ⟨(((HA1.out.over hb).over h).three).2.1,((hbw.trans (h.mono hbw.size)).cell (p:=⟨g,off+j * 2,none⟩) hg).trans m1,((hbw.trans (h.mono hbw.size)).cell (p:=⟨g,off+j * 2+1,none⟩) hg).trans m2⟩
   obtain ⟨b1,b2,b3⟩:=HBD.out j hlx;have HN:=hide (pre_next xs j hlx);obtain ⟨t,ht⟩:∃ t,xs[j].1=t:=⟨_,rfl⟩
   obtain ⟨z,hz⟩:∃ z:Nat,xs[j].2=(z:Int):=⟨xs[j].2.toNat,by omega⟩
   rw [ht,hz] at HS HN;rw [ht] at b3;rw [hz] at b1 b2;have hp:=HPL.out j;have HB:=hide hb;clear m1 m2 ht hz hb hbw hlx;obtain ⟨r1,r2,r3⟩:=HS.out _ bR;obtain ⟨P0,hP0⟩:∃ p,pre xs j=p:=⟨_,rfl⟩
   rw [hP0] at hp HN ⊢;have hpz:=zff P0;have hoz:=zdq (loB z);have hhz:=zgk t.size;have hcv:=conv_at (loB z) (z:Int) (zek z (by omega));have hwz:IntKind.u8.wrap (z:Int)=(z:Int):=by simp [IntKind.wrap,IntKind.signed,IntKind.bits];omega
   have n1:¬ 9223372036854775807 < P0.length+1:=by omega
   have n2:¬ 9223372036854775807 < P0.length+1+(zd1 t.size).size:=by omega
   have n3:¬ 9223372036854775807 < P0.length+1+(zd1 t.size).size+t.size:=by omega
   have j0:(0:Int)<=(j:Int):=by omega
   have j1:(j:Int) < 4:=by omega
   rw [Int.toNat_natCast] at HN;clear hP0;go_wp2_with fail
   refine wp_region_held_drew (S:=(fun w'=>w'.cell? ⟨w.heap.size,1,none⟩=some (.slice (some ⟨g,off,none⟩) 4 c)/\w'.cell? ⟨g,off+j * 2,none⟩=some (.string t)/\w'.cell? ⟨g,off+j * 2+1,none⟩=some (.int .i64 (z:Int)))) (by kernel_rfl) (HS.out _ bR.drew) (fun hHeld=>?_);refine wpAnyH_take (i:=0) (oi:={ dst:=some 19,op:=Op.move (Operand.tmp 4),type:=_,pos:=_,after:=_,guard:=none }) (v:=?_) rfl (by kernel_rfl) (by kernel_rfl) (by kernel_rfl) (fun _ _ _ h=>h) (Or.inl ⟨by rfl,?_⟩) hHeld ?_
   rotate_left
   ·exact cQ3
   try simp only [Act.put,List.setIfInBounds_toArray,List.set_cons_zero,List.set_cons_succ]
   refine wpAnyH_take (i:=1) (oi:={ dst:=some 20,op:=Op.fieldAddr 44 (Operand.tmp 1) 1,type:=_,pos:=_,after:=_,guard:=none }) (v:=?_) rfl (by kernel_rfl) (by kernel_rfl) (by kernel_rfl) (fun _ _ _ h=>h) (Or.inl ⟨by rfl,?_⟩) hHeld ?_
   rotate_left
   ·exact cQ3
   try simp only [Act.put,List.setIfInBounds_toArray,List.set_cons_zero,List.set_cons_succ]
   refine wpAnyH_take (i:=2) (oi:={ dst:=some 21,op:=Op.load 42 (Operand.tmp 20),type:=_,pos:=_,after:=_,guard:=none }) (v:=?_) rfl (by kernel_rfl) (by kernel_rfl) (by kernel_rfl) (fun _ _ _ h=>h) (Or.inl ⟨by rfl,?_⟩) hHeld ?_
   rotate_left
   ·exact cQ3
   try simp only [Act.put,List.setIfInBounds_toArray,List.set_cons_zero,List.set_cons_succ]
   refine wpAnyH_take (i:=3) (oi:={ dst:=some 22,op:=Op.move (Operand.tmp 5),type:=_,pos:=_,after:=_,guard:=none }) (v:=?_) rfl (by kernel_rfl) (by kernel_rfl) (by kernel_rfl) (fun _ _ _ h=>h) (Or.inl ⟨by rfl,?_⟩) hHeld ?_
   rotate_left
   ·exact cQ3
   try simp only [Act.put,List.setIfInBounds_toArray,List.set_cons_zero,List.set_cons_succ]
   refine wpAnyH_take (i:=4) (oi:={ dst:=some 23,op:=Op.indexAddr 42 (Operand.tmp 21) (Operand.tmp 22),type:=_,pos:=_,after:=_,guard:=none }) (v:=?_) rfl (by kernel_rfl) (by kernel_rfl) (by kernel_rfl) (fun _ _ _ h=>h) (Or.inl ⟨by rfl,?_⟩) hHeld ?_
   rotate_left
   ·exact cQ3
   try simp only [Act.put,List.setIfInBounds_toArray,List.set_cons_zero,List.set_cons_succ]
   refine wpAnyH_take (i:=5) (oi:={ dst:=some 24,op:=Op.fieldAddr 49 (Operand.tmp 23) 1,type:=_,pos:=_,after:=_,guard:=none }) (v:=?_) rfl (by kernel_rfl) (by kernel_rfl) (by kernel_rfl) (fun _ _ _ h=>h) (Or.inl ⟨by rfl,?_⟩) hHeld ?_
   rotate_left
   ·exact cQ3
   try simp only [Act.put,List.setIfInBounds_toArray,List.set_cons_zero,List.set_cons_succ]
   refine wpAnyH_take (i:=6) (oi:={ dst:=some 25,op:=Op.load 3 (Operand.tmp 24),type:=_,pos:=_,after:=_,guard:=none }) (v:=?_) rfl (by kernel_rfl) (by kernel_rfl) (by kernel_rfl) (fun _ _ _ h=>h) (Or.inl ⟨by rfl,?_⟩) hHeld ?_
   rotate_left
   ·exact cQ3
   try simp only [Act.put,List.setIfInBounds_toArray,List.set_cons_zero,List.set_cons_succ]
   refine wpAnyH_take (i:=7) (oi:={ dst:=some 26,op:=Op.convert 3 5 (Operand.tmp 25),type:=_,pos:=_,after:=_,guard:=none }) (v:=?_) rfl (by kernel_rfl) (by kernel_rfl) (by kernel_rfl) (fun _ _ _ h=>h) (Or.inl ⟨by rfl,?_⟩) hHeld ?_
   rotate_left
   ·exact cQ3
   try simp only [Act.put,List.setIfInBounds_toArray,List.set_cons_zero,List.set_cons_succ]
   refine wpAnyH_take (i:=11) (oi:={ dst:=some 30,op:=Op.fieldAddr 44 (Operand.tmp 1) 1,type:=_,pos:=_,after:=_,guard:=none }) (v:=?_) rfl (by kernel_rfl) (by kernel_rfl) (by kernel_rfl) (fun _ _ _ h=>h) (Or.inl ⟨by rfl,?_⟩) hHeld ?_
   rotate_left
   ·exact cQ3
   try simp only [Act.put,List.setIfInBounds_toArray,List.set_cons_zero,List.set_cons_succ]
   refine wpAnyH_take (i:=12) (oi:={ dst:=some 31,op:=Op.load 42 (Operand.tmp 30),type:=_,pos:=_,after:=_,guard:=none }) (v:=?_) rfl (by kernel_rfl) (by kernel_rfl) (by kernel_rfl) (fun _ _ _ h=>h) (Or.inl ⟨by rfl,?_⟩) hHeld ?_
   rotate_left
   ·exact cQ3
   try simp only [Act.put,List.setIfInBounds_toArray,List.set_cons_zero,List.set_cons_succ]
   refine wpAnyH_take (i:=13) (oi:={ dst:=some 32,op:=Op.move (Operand.tmp 5),type:=_,pos:=_,after:=_,guard:=none }) (v:=?_) rfl (by kernel_rfl) (by kernel_rfl) (by kernel_rfl) (fun _ _ _ h=>h) (Or.inl ⟨by rfl,?_⟩) hHeld ?_
   rotate_left
   ·exact cQ3
   try simp only [Act.put,List.setIfInBounds_toArray,List.set_cons_zero,List.set_cons_succ]
   refine wpAnyH_take (i:=14) (oi:={ dst:=some 33,op:=Op.indexAddr 42 (Operand.tmp 31) (Operand.tmp 32),type:=_,pos:=_,after:=_,guard:=none }) (v:=?_) rfl (by kernel_rfl) (by kernel_rfl) (by kernel_rfl) (fun _ _ _ h=>h) (Or.inl ⟨by rfl,?_⟩) hHeld ?_
   rotate_left
   ·exact cQ3
   try simp only [Act.put,List.setIfInBounds_toArray,List.set_cons_zero,List.set_cons_succ]
   refine wpAnyH_take (i:=15) (oi:={ dst:=some 34,op:=Op.fieldAddr 49 (Operand.tmp 33) 0,type:=_,pos:=_,after:=_,guard:=none }) (v:=?_) rfl (by kernel_rfl) (by kernel_rfl) (by kernel_rfl) (fun _ _ _ h=>h) (Or.inl ⟨by rfl,?_⟩) hHeld ?_
   rotate_left
   ·exact cQ3
   try simp only [Act.put,List.setIfInBounds_toArray,List.set_cons_zero,List.set_cons_succ]
   refine wpAnyH_take (i:=16) (oi:={ dst:=some 35,op:=Op.load 9 (Operand.tmp 34),type:=_,pos:=_,after:=_,guard:=none }) (v:=?_) rfl (by kernel_rfl) (by kernel_rfl) (by kernel_rfl) (fun _ _ _ h=>h) (Or.inl ⟨by rfl,?_⟩) hHeld ?_
   rotate_left
   ·exact cQ3
   try simp only [Act.put,List.setIfInBounds_toArray,List.set_cons_zero,List.set_cons_succ]
   refine wpAnyH_take (i:=17) (oi:={ dst:=some 36,op:=Op.call { callee:=Callee.builtin Builtin.len,args:=#[Operand.tmp 35],argTypes:=#[9] },type:=_,pos:=_,after:=_,guard:=none }) (v:=?_) rfl (by kernel_rfl) (by kernel_rfl) (by kernel_rfl) (fun _ _ _ h=>h) (Or.inl ⟨by rfl,?_⟩) hHeld ?_
   rotate_left
   ·exact cQ3
   try simp only [Act.put,List.setIfInBounds_toArray,List.set_cons_zero,List.set_cons_succ]
   refine wpAnyH_take (i:=20) (oi:={ dst:=some 39,op:=Op.fieldAddr 44 (Operand.tmp 1) 1,type:=_,pos:=_,after:=_,guard:=none }) (v:=?_) rfl (by kernel_rfl) (by kernel_rfl) (by kernel_rfl) (fun _ _ _ h=>h) (Or.inl ⟨by rfl,?_⟩) hHeld ?_
   rotate_left
   ·exact cQ3
   try simp only [Act.put,List.setIfInBounds_toArray,List.set_cons_zero,List.set_cons_succ]
   refine wpAnyH_take (i:=21) (oi:={ dst:=some 40,op:=Op.load 42 (Operand.tmp 39),type:=_,pos:=_,after:=_,guard:=none }) (v:=?_) rfl (by kernel_rfl) (by kernel_rfl) (by kernel_rfl) (fun _ _ _ h=>h) (Or.inl ⟨by rfl,?_⟩) hHeld ?_
   rotate_left
   ·exact cQ3
   try simp only [Act.put,List.setIfInBounds_toArray,List.set_cons_zero,List.set_cons_succ]
   refine wpAnyH_take (i:=22) (oi:={ dst:=some 41,op:=Op.move (Operand.tmp 5),type:=_,pos:=_,after:=_,guard:=none }) (v:=?_) rfl (by kernel_rfl) (by kernel_rfl) (by kernel_rfl) (fun _ _ _ h=>h) (Or.inl ⟨by rfl,?_⟩) hHeld ?_
   rotate_left
   ·exact cQ3
   try simp only [Act.put,List.setIfInBounds_toArray,List.set_cons_zero,List.set_cons_succ]
   refine wpAnyH_take (i:=23) (oi:={ dst:=some 42,op:=Op.indexAddr 42 (Operand.tmp 40) (Operand.tmp 41),type:=_,pos:=_,after:=_,guard:=none }) (v:=?_) rfl (by kernel_rfl) (by kernel_rfl) (by kernel_rfl) (fun _ _ _ h=>h) (Or.inl ⟨by rfl,?_⟩) hHeld ?_
   rotate_left
   ·exact cQ3
   try simp only [Act.put,List.setIfInBounds_toArray,List.set_cons_zero,List.set_cons_succ]
   refine wpAnyH_take (i:=24) (oi:={ dst:=some 43,op:=Op.fieldAddr 49 (Operand.tmp 42) 0,type:=_,pos:=_,after:=_,guard:=none }) (v:=?_) rfl (by kernel_rfl) (by kernel_rfl) (by kernel_rfl) (fun _ _ _ h=>h) (Or.inl ⟨by rfl,?_⟩) hHeld ?_
   rotate_left
   ·exact cQ3
   try simp only [Act.put,List.setIfInBounds_toArray,List.set_cons_zero,List.set_cons_succ]
   refine wpAnyH_take (i:=25) (oi:={ dst:=some 44,op:=Op.load 9 (Operand.tmp 43),type:=_,pos:=_,after:=_,guard:=none }) (v:=?_) rfl (by kernel_rfl) (by kernel_rfl) (by kernel_rfl) (fun _ _ _ h=>h) (Or.inl ⟨by rfl,?_⟩) hHeld ?_
   rotate_left
   ·exact cQ3
   try simp only [Act.put,List.setIfInBounds_toArray,List.set_cons_zero,List.set_cons_succ]
   refine wpAnyH_ready (rs:=[8,18]) (by kernel_rfl) (by simp) ?_;refine AllReadyH.cons (o:={ dst:=some 27,op:=Op.buildSlice 22 1 #[(0,Operand.tmp 26)],type:=_,pos:=_,after:=_,guard:=none }) rfl (fun K hK=>?_) ?_
   ·go_simp;refine hK.out _ _ (HS.out _ (bR.alloc nR _).drew) (fun hHeld=>?_);clear hK K;try simp only [Act.put,List.setIfInBounds_toArray,List.set_cons_zero,List.set_cons_succ]
    refine wpAnyH_ready (rs:=[9,18]) (by kernel_rfl) (by simp) ?_;refine AllReadyH.cons (o:={ dst:=some 28,op:=Op.convert 22 9 (Operand.tmp 27),type:=_,pos:=_,after:=_,guard:=none }) rfl (fun K hK=>?_) ?_
    ·go_simp;refine hK.out _ _ (HS.out _ (bR.alloc nR _).drew) (fun hHeld=>?_);clear hK K;try simp only [Act.put,List.setIfInBounds_toArray,List.set_cons_zero,List.set_cons_succ]
     refine wpAnyH_take (i:=10) (oi:={ dst:=some 29,op:=Op.binOp BinOp.add 9 (Operand.tmp 19) (Operand.tmp 28) 9,type:=_,pos:=_,after:=_,guard:=none }) (v:=?_) rfl (by kernel_rfl) (by kernel_rfl) (by kernel_rfl) (fun _ _ _ h=>h) (Or.inl ⟨by rfl,?_⟩) hHeld ?_
     rotate_left
     ·exact cQ3
     try simp only [Act.put,List.setIfInBounds_toArray,List.set_cons_zero,List.set_cons_succ]
     refine wpAnyH_ready (rs:=[18]) (by kernel_rfl) (by simp) ?_;refine AllReadyH.cons (o:={ dst:=some 37,op:=Op.call { callee:=Callee.value (Operand.func 124),args:=#[Operand.tmp 36],argTypes:=#[3] },type:=_,pos:=_,after:=_,guard:=none }) rfl (fun K hK=>?_) ?_
     ·go_simp;refine (zcj _ _ (by omega) (by omega)).mono ?_;rintro e w6 ⟨rfl,B6⟩;go_wp2_with fail
      have B7:=((Below.refl _ wr).alloc nR (.cells #[.int .u8 (z:Int)] 5)).trans ((zac B6).mono (by simp));refine hK.out _ _ (HS.out _ B7) (fun hHeld=>?_);clear hK K;try simp only [Act.put,List.setIfInBounds_toArray,List.set_cons_zero,List.set_cons_succ]
      refine wpAnyH_take (i:=19) (oi:={ dst:=some 38,op:=Op.binOp BinOp.add 9 (Operand.tmp 29) (Operand.tmp 37) 9,type:=_,pos:=_,after:=_,guard:=none }) (v:=?_) rfl (by kernel_rfl) (by kernel_rfl) (by kernel_rfl) (fun _ _ _ h=>h) (Or.inl ⟨by rfl,?_⟩) hHeld ?_
      rotate_left
      ·exact cQ3
      try simp only [Act.put,List.setIfInBounds_toArray,List.set_cons_zero,List.set_cons_succ]
      refine wpAnyH_take (i:=26) (oi:={ dst:=some 45,op:=Op.binOp BinOp.add 9 (Operand.tmp 38) (Operand.tmp 44) 9,type:=_,pos:=_,after:=_,guard:=none }) (v:=?_) rfl (by kernel_rfl) (by kernel_rfl) (by kernel_rfl) (fun _ _ _ h=>h) (Or.inl ⟨by rfl,?_⟩) hHeld ?_
      rotate_left
      ·exact cQ3
      try simp only [Act.put,List.setIfInBounds_toArray,List.set_cons_zero,List.set_cons_succ]
      refine wpAnyH_take (i:=27) (oi:={ dst:=some 4,op:=Op.assign (Operand.tmp 45),type:=_,pos:=_,after:=_,guard:=none }) (v:=?_) rfl (by kernel_rfl) (by kernel_rfl) (by kernel_rfl) (fun _ _ _ h=>h) (Or.inl ⟨by rfl,?_⟩) hHeld ?_
      rotate_left
      ·exact cQ3
      try simp only [Act.put,List.setIfInBounds_toArray,List.set_cons_zero,List.set_cons_succ]
      refine wpAnyH_done (by kernel_rfl) ?_ _;have HZ:=hide (HB.out.trans (B7.mono HB.out.size));clear hHeld;go_wp2;go_roundw
      case rel=>exact ⟨j+1,by omega,by go_num,by (rw [HN.out,← joinS];try rfl),HZ.out⟩
      case measure=>simp [intOf];omega
     ·exact AllReadyH.nil
    refine AllReadyH.cons (o:={ dst:=some 37,op:=Op.call { callee:=Callee.value (Operand.func 124),args:=#[Operand.tmp 36],argTypes:=#[3] },type:=_,pos:=_,after:=_,guard:=none }) rfl (fun K hK=>?_) ?_
    ·go_simp;refine (zcj _ _ (by omega) (by omega)).mono ?_;rintro e w6 ⟨rfl,B6⟩;go_wp2_with fail
     have B7:=((Below.refl _ wr).alloc nR (.cells #[.int .u8 (z:Int)] 5)).trans ((zac B6).mono (by simp));have cx:=((AtC.new wr 5 #[.int .u8 (z:Int)]).over (zac B6)).c0;refine hK.out _ _ (HS.out _ B7) (fun hHeld=>?_);clear hK K;try simp only [Act.put,List.setIfInBounds_toArray,List.set_cons_zero,List.set_cons_succ]
     refine wpAnyH_ready (rs:=[9]) (by kernel_rfl) (by simp) ?_;refine AllReadyH.cons (o:={ dst:=some 28,op:=Op.convert 22 9 (Operand.tmp 27),type:=_,pos:=_,after:=_,guard:=none }) rfl (fun K hK=>?_) ?_
     ·go_simp;refine hK.out _ _ (HS.out _ B7) (fun hHeld=>?_);clear hK K;try simp only [Act.put,List.setIfInBounds_toArray,List.set_cons_zero,List.set_cons_succ]
      refine wpAnyH_take (i:=10) (oi:={ dst:=some 29,op:=Op.binOp BinOp.add 9 (Operand.tmp 19) (Operand.tmp 28) 9,type:=_,pos:=_,after:=_,guard:=none }) (v:=?_) rfl (by kernel_rfl) (by kernel_rfl) (by kernel_rfl) (fun _ _ _ h=>h) (Or.inl ⟨by rfl,?_⟩) hHeld ?_
      rotate_left
      ·exact cQ3
      try simp only [Act.put,List.setIfInBounds_toArray,List.set_cons_zero,List.set_cons_succ]
      refine wpAnyH_take (i:=19) (oi:={ dst:=some 38,op:=Op.binOp BinOp.add 9 (Operand.tmp 29) (Operand.tmp 37) 9,type:=_,pos:=_,after:=_,guard:=none }) (v:=?_) rfl (by kernel_rfl) (by kernel_rfl) (by kernel_rfl) (fun _ _ _ h=>h) (Or.inl ⟨by rfl,?_⟩) hHeld ?_
      rotate_left
      ·exact cQ3
      try simp only [Act.put,List.setIfInBounds_toArray,List.set_cons_zero,List.set_cons_succ]
      refine wpAnyH_take (i:=26) (oi:={ dst:=some 45,op:=Op.binOp BinOp.add 9 (Operand.tmp 38) (Operand.tmp 44) 9,type:=_,pos:=_,after:=_,guard:=none }) (v:=?_) rfl (by kernel_rfl) (by kernel_rfl) (by kernel_rfl) (fun _ _ _ h=>h) (Or.inl ⟨by rfl,?_⟩) hHeld ?_
      rotate_left
      ·exact cQ3
      try simp only [Act.put,List.setIfInBounds_toArray,List.set_cons_zero,List.set_cons_succ]
      refine wpAnyH_take (i:=27) (oi:={ dst:=some 4,op:=Op.assign (Operand.tmp 45),type:=_,pos:=_,after:=_,guard:=none }) (v:=?_) rfl (by kernel_rfl) (by kernel_rfl) (by kernel_rfl) (fun _ _ _ h=>h) (Or.inl ⟨by rfl,?_⟩) hHeld ?_
      rotate_left
      ·exact cQ3
      try simp only [Act.put,List.setIfInBounds_toArray,List.set_cons_zero,List.set_cons_succ]
      refine wpAnyH_done (by kernel_rfl) ?_ _;have HZ:=hide (HB.out.trans (B7.mono HB.out.size));clear hHeld;go_wp2;go_roundw
      case rel=>exact ⟨j+1,by omega,by go_num,by (rw [HN.out,← joinS];try rfl),HZ.out⟩
      case measure=>simp [intOf];omega
     ·exact AllReadyH.nil
    ·exact AllReadyH.nil
   refine AllReadyH.cons (o:={ dst:=some 37,op:=Op.call { callee:=Callee.value (Operand.func 124),args:=#[Operand.tmp 36],argTypes:=#[3] },type:=_,pos:=_,after:=_,guard:=none }) rfl (fun K hK=>?_) ?_
   ·go_simp;refine (zcj _ _ (by omega) (by omega)).mono ?_;rintro e w6 ⟨rfl,B6⟩;go_wp2_with fail
    refine hK.out _ _ (HS.out _ (zac B6)) (fun hHeld=>?_);clear hK K;try simp only [Act.put,List.setIfInBounds_toArray,List.set_cons_zero,List.set_cons_succ]
    refine wpAnyH_ready (rs:=[8]) (by kernel_rfl) (by simp) ?_;refine AllReadyH.cons (o:={ dst:=some 27,op:=Op.buildSlice 22 1 #[(0,Operand.tmp 26)],type:=_,pos:=_,after:=_,guard:=none }) rfl (fun K hK=>?_) ?_
    ·go_simp;refine hK.out _ _ (HS.out _ ((zac B6).alloc (zac B6).size _)) (fun hHeld=>?_);clear hK K;try simp only [Act.put,List.setIfInBounds_toArray,List.set_cons_zero,List.set_cons_succ]
     refine wpAnyH_ready (rs:=[9]) (by kernel_rfl) (by simp) ?_;refine AllReadyH.cons (o:={ dst:=some 28,op:=Op.convert 22 9 (Operand.tmp 27),type:=_,pos:=_,after:=_,guard:=none }) rfl (fun K hK=>?_) ?_
     ·go_simp;refine hK.out _ _ (HS.out _ ((zac B6).alloc (zac B6).size _)) (fun hHeld=>?_);clear hK K;try simp only [Act.put,List.setIfInBounds_toArray,List.set_cons_zero,List.set_cons_succ]
      refine wpAnyH_take (i:=10) (oi:={ dst:=some 29,op:=Op.binOp BinOp.add 9 (Operand.tmp 19) (Operand.tmp 28) 9,type:=_,pos:=_,after:=_,guard:=none }) (v:=?_) rfl (by kernel_rfl) (by kernel_rfl) (by kernel_rfl) (fun _ _ _ h=>h) (Or.inl ⟨by rfl,?_⟩) hHeld ?_
      rotate_left
      ·exact cQ3
      try simp only [Act.put,List.setIfInBounds_toArray,List.set_cons_zero,List.set_cons_succ]
      refine wpAnyH_take (i:=19) (oi:={ dst:=some 38,op:=Op.binOp BinOp.add 9 (Operand.tmp 29) (Operand.tmp 37) 9,type:=_,pos:=_,after:=_,guard:=none }) (v:=?_) rfl (by kernel_rfl) (by kernel_rfl) (by kernel_rfl) (fun _ _ _ h=>h) (Or.inl ⟨by rfl,?_⟩) hHeld ?_
      rotate_left
      ·exact cQ3
      try simp only [Act.put,List.setIfInBounds_toArray,List.set_cons_zero,List.set_cons_succ]
      refine wpAnyH_take (i:=26) (oi:={ dst:=some 45,op:=Op.binOp BinOp.add 9 (Operand.tmp 38) (Operand.tmp 44) 9,type:=_,pos:=_,after:=_,guard:=none }) (v:=?_) rfl (by kernel_rfl) (by kernel_rfl) (by kernel_rfl) (fun _ _ _ h=>h) (Or.inl ⟨by rfl,?_⟩) hHeld ?_
      rotate_left
      ·exact cQ3
      try simp only [Act.put,List.setIfInBounds_toArray,List.set_cons_zero,List.set_cons_succ]
      refine wpAnyH_take (i:=27) (oi:={ dst:=some 4,op:=Op.assign (Operand.tmp 45),type:=_,pos:=_,after:=_,guard:=none }) (v:=?_) rfl (by kernel_rfl) (by kernel_rfl) (by kernel_rfl) (fun _ _ _ h=>h) (Or.inl ⟨by rfl,?_⟩) hHeld ?_
      rotate_left
      ·exact cQ3
      try simp only [Act.put,List.setIfInBounds_toArray,List.set_cons_zero,List.set_cons_succ]
      refine wpAnyH_done (by kernel_rfl) ?_ _;have HZ:=hide (HB.out.trans (((zac B6).alloc (zac B6).size (.cells #[.int .u8 (z:Int)] 5)).mono HB.out.size));clear hHeld;go_wp2;go_roundw
      case rel=>exact ⟨j+1,by omega,by go_num,by (rw [HN.out,← joinS];try rfl),HZ.out⟩
      case measure=>simp [intOf];omega
     ·exact AllReadyH.nil
    ·exact AllReadyH.nil
   ·exact AllReadyH.nil
  ·have HF:=hide (pre_all xs j (by rw [HL.out];omega));have HZ:=hide (HB1.out.trans (hb.mono HB1.out.size));clear hb;go_wp2
   go_ret2
   exact ⟨by rw [HF.out];rfl,HZ.out⟩
theorem ze4 (d:Bool)(v:Value)(t:ByteArray)(xs:List Sl)(w:World)(hv:RSl w v xs)(hbig:∀ (j:Nat) (h:j < xs.length),xs[j].1.size<=1048576) :
  Calls Tryz.prog 86 #[.agg #[.bool d,v,.string t]] w fun e w'=>e=.returned (.tuple #[.string (zbv d xs t),.bool (zav d xs t)])/\Below w.heap.size w w':=by
 cases hok:zav d xs t with
 | false=>rw [← hok];exact zfu d v t xs w hv hbig hok
 | true =>
  rw [← hok]
  cases d with
  | true=>exact zhv v t xs w hv hbig hok
  | false=>exact zhu v t xs w hv hbig hok
namespace Kit
theorem Owns.one (w:World)(base:Nat)(e:TypeId)(b:UInt8)(hb:base<=w.heap.size):Owns (w.alloc (.cells #[.int .u8 (b.toNat:Int)] e)) base e (.slice (some ⟨w.heap.size,0,none⟩) 1 1) [b] :=
 World.ownsRow_lit w #[.int .u8 (b.toNat:Int)] 1 hb (by unfold maxLen;omega) rfl
theorem Owns.below {w w':World}{base B:Nat}{e:TypeId}{v:Value}{l:List UInt8}(h:Owns w base e v l)(hb:Below B w w')(hB:w.heap.size<=B):Owns w' base e v l:=by
 refine ⟨h.1,?_⟩;rcases h.2 with h1 | ⟨g,cap,cur,h1,h2,h3,h4⟩
 ·exact .inl h1
 ·have hlt:=(Array.getElem?_eq_some_iff.1 h3).1;exact .inr ⟨g,cap,cur,h1,h2,by rw [hb.block g (by omega),h3],h4⟩
theorem Owns.accB {w:World}{base:Nat}{e:TypeId}{v:Value}{l:List UInt8}(h:Owns w base e v l){P:Program}(src dst:TypeId)(hs:P.underlying src=some (.slice e))(he:P.underlying e=some (.int .u8))(hd:P.underlying dst=some .string):(convert src dst v).run P w=.ok (.string (Kit.accB l)) w :=
 zgw src dst e hs he hd h
end Kit
def inoB (x:Ino):ByteArray:=textL x.1 x.2.1 x.2.2
def blkB (b:Blk):ByteArray:=zbv b.1 b.2.1 b.2.2
def unitB (xs ys:List Bool) (is:List Ino) (bs:List Blk) (u:Nat):ByteArray :=
 if u=0 then textB xs ys else if u<=4 then inoB (is.getD (2 * u - 2) zI) ++ inoB (is.getD (2 * u - 1) zI) else blkB (bs.getD (u - 5) zB)
theorem zfv {xs ys:List Bool}{is:List Ino}{bs:List Blk}(h:za5 xs ys is bs=true):okB xs.length ys.length=true/\is.length=8/\bs.length=16/\(∀ (j:Nat) (h:j < is.length),inoOk is[j]=true)/\∀ (j:Nat) (h:j < bs.length),blkOk bs[j]=true:=by
 unfold za5 at h;simp only [Bool.and_eq_true,decide_eq_true_eq] at h;refine ⟨h.1.1,h.1.2.2,h.2.2,fun j hj=>?_,fun j hj=>?_⟩
 ·exact List.all_eq_true.1 h.1.2.1 _ (List.getElem_mem hj)
 ·exact List.all_eq_true.1 h.2.1 _ (List.getElem_mem hj)
theorem zcf (k l:Int)(xs:List Int):(textL k l xs).size<=4:=by
 unfold textL
 split
 ·rw [zhj];omega
 ·exact Nat.zero_le _
theorem zhw (u v iv bv:Value)(xs ys:List Bool)(is:List Ino)(bs:List Blk)(k:Nat)(w:World)(h:DR w u v iv bv xs ys is bs)(hl:is.length=8)(hk:1<=k)(hk4:k<=4) :
  Calls Tryz.prog 59 #[.agg #[u,v,iv,bv],.int .i64 k] w fun e w'=>e=.returned (.string (inoB (is.getD (2 * k - 2) zI) ++ inoB (is.getD (2 * k - 1) zI)))/\Below w.heap.size w w':=by
 obtain ⟨a3,c3,ri,-,hii⟩:=h.i.ino;obtain ⟨a1,c1,a2,c2,-,-,a4,c4,rfl,rfl,-,rfl⟩:=h.form;subst ri;clear h;obtain ⟨n4,hn4⟩:∃ n,bs.length=n:=⟨_,rfl⟩
 obtain ⟨n1,hn1⟩:∃ n,xs.length=n:=⟨_,rfl⟩
 obtain ⟨n2,hn2⟩:∃ n,ys.length=n:=⟨_,rfl⟩
 obtain ⟨g1,o1,p1,rfl,hg1,m1,m2,m3,hr1⟩:=hii (2 * k - 2) (by omega);obtain ⟨g2,o2,p2,e2,hg2,s1,s2,s3,hr2⟩:=hii (2 * k - 1) (by omega);simp only [Option.some.injEq,Addr.mk.injEq] at e2;obtain ⟨rfl,rfl,-⟩:=e2;rw [show is.getD (2 * k - 2) zI=is[2 * k - 2]'(by omega) by simp [List.getD,List.getElem?_eq_getElem (show 2 * k - 2 < is.length by omega)],show is.getD (2 * k - 1) zI=is[2 * k - 1]'(by omega) by simp [List.getD,List.getElem?_eq_getElem (show 2 * k - 1 < is.length by omega)]];obtain ⟨x,hx⟩:∃ x,is[2 * k - 2]'(by omega)=x:=⟨_,rfl⟩
 obtain ⟨y,hy⟩:∃ x,is[2 * k - 1]'(by omega)=x:=⟨_,rfl⟩
 rw [hx] at m1 m2 hr1 ⊢;rw [hy] at s1 s2 hr2 ⊢;obtain ⟨x1,x2,x3⟩:=x;obtain ⟨y1,y2,y3⟩:=y;obtain ⟨pa,pc,rfl⟩:=hr1.form;obtain ⟨qa,qc,rfl⟩:=hr2.form;simp only at m1 m2 m3 s1 s2 s3 hr1 hr2;rw [hl,hn1,hn2,hn4];clear hii hx hy hl hn1 hn2 hn4;have H1:=hide hr1;have H2:=hide hr2;have i0:((k:Int) == 0)=false:=by simp;omega
 have i4:decide ((k:Int)<=4)=true:=by simp;omega
 have C1:=hide (fun W h=>zcu x1 x2 x3 (.slice pa x3.length pc) W h);have C2:=hide (fun W h=>zcu y1 y2 y3 (.slice qa y3.length qc) W h);have z1:=zcf x1 x2 x3;have z2:=zcf y1 y2 y3;show Calls Tryz.prog 59 _ w fun e w'=>e=.returned (.string (textL x1 x2 x3 ++ textL y1 y2 y3))/\Below w.heap.size w w';generalize textL x1 x2 x3=T1 at *;generalize textL y1 y2 y3=T2 at *;clear hr1 hr2;go_enter Tryz.func59,Tryz.ntmps59
 go_wp2_with fail
 refine (C1.out _ (H1.out.alloc _)).mono ?_;rintro e w1 ⟨rfl,B1⟩;have BW:Below w.heap.size w w1:=((Below.refl _ w).alloc nR _).trans (B1.mono (by simp));have K0:AtC w1 w.heap.size 30 #[.slice a1 n1 c1,.slice a2 n2 c2,.slice (some ⟨g1,o1,none⟩) 8 c3,.slice a4 n4 c4]:=(AtC.new w 30 _).over B1;have p2:=K0.c2;have t1:=(BW.cell (p:=⟨g1,o1+(2 * k - 1) * 3,none⟩) hg1).trans s1;have t2:=(BW.cell (p:=⟨g1,o1+(2 * k - 1) * 3+1,none⟩) hg1).trans s2;have t3:=(BW.cell (p:=⟨g1,o1+(2 * k - 1) * 3+2,none⟩) hg1).trans s3;have HBW:=hide BW;clear B1 BW K0 m1 m2 m3 s1 s2 s3;go_wp2_with fail
 refine (C2.out _ (H2.out.below HBW.out nR)).mono ?_;rintro e w2 ⟨rfl,B2⟩;have HB2:=hide (HBW.out.trans (B2.mono HBW.out.size));clear B2;go_wp2;go_ret;exact ⟨rfl,HB2.out⟩
theorem zhx (u v iv bv:Value)(xs ys:List Bool)(is:List Ino)(bs:List Blk)(k:Nat)(w:World)(h:DR w u v iv bv xs ys is bs)(hl:bs.length=16)(hk:5<=k)(hk4:k<=20)(hB:∀ (j:Nat) (h:j < bs.length),bigB 1048576 bs[j]) :
  Calls Tryz.prog 59 #[.agg #[u,v,iv,bv],.int .i64 k] w fun e w'=>e=.returned (.string (blkB (bs.getD (k - 5) zB)))/\Below w.heap.size w w':=by
 obtain ⟨a4,c4,ri,-,hii⟩:=h.k.blk;obtain ⟨a1,c1,a2,c2,a3,c3,-,-,rfl,rfl,rfl,-⟩:=h.form;subst ri;clear h;obtain ⟨n3,hn3⟩:∃ n,is.length=n:=⟨_,rfl⟩
 obtain ⟨n1,hn1⟩:∃ n,xs.length=n:=⟨_,rfl⟩
 obtain ⟨n2,hn2⟩:∃ n,ys.length=n:=⟨_,rfl⟩
 obtain ⟨g1,o1,p1,rfl,hg1,m1,m2,m3,hr1⟩:=hii (k - 5) (by omega);rw [show bs.getD (k - 5) zB=bs[k - 5]'(by omega) by simp [List.getD,List.getElem?_eq_getElem (show k - 5 < bs.length by omega)]];have hbg:=hB (k - 5) (by omega);obtain ⟨x,hx⟩:∃ x,bs[k - 5]'(by omega)=x:=⟨_,rfl⟩
 rw [hx] at m1 m3 hr1 hbg ⊢;obtain ⟨x1,x2,x3⟩:=x;obtain ⟨pa,pc,rfl⟩:=hr1.form;simp only at m1 m2 m3 hr1;rw [hl,hn1,hn2,hn3];have H1:=hide hr1;have i0:((k:Int) == 0)=false:=by simp;omega
 have i4:decide ((k:Int)<=4)=false:=by simp;omega
 have HG:=hide hbg.2.1;have C1:=hide (fun W h=>ze4 x1 (.slice pa x2.length pc) x3 x2 W h HG.out);clear hr1 hii hx hl hn1 hn2 hn3 hbg HG hB;go_enter Tryz.func59,Tryz.ntmps59
 go_wp2_with fail
 refine (C1.out _ (H1.out.alloc _)).mono ?_;rintro e w1 ⟨rfl,B1⟩;have HBW:=hide (((Below.refl _ w).alloc nR (.cells #[.slice a1 n1 c1,.slice a2 n2 c2,.slice a3 n3 c3,.slice (some ⟨g1,o1,none⟩) 16 c4] 30)).trans (B1.mono (by simp)));clear B1;go_wp2;go_ret;exact ⟨rfl,HBW.out⟩
theorem zhy (u v iv bv:Value)(xs ys:List Bool)(is:List Ino)(bs:List Blk)(base:Nat)(w:World)(h:DR w u v iv bv xs ys is bs)(hT:Two w base u v xs ys) :
  Calls Tryz.prog 59 #[.agg #[u,v,iv,bv],.int .i64 0] w fun e w'=>e=.returned (.string (textA xs ys))/\Below w.heap.size w w':=by
 have HT:=hide hT;obtain ⟨a1,c1,a2,c2,a3,c3,a4,c4,rfl,rfl,rfl,rfl⟩:=h.form;clear h hT;go_enter Tryz.func59,Tryz.ntmps59
 go_wp2_with fail
 refine (ze3 _ _ xs ys base _ (HT.out.alloc _)).mono ?_;rintro e w1 ⟨rfl,B1⟩;have HBW:=hide (((Below.refl _ w).alloc nR (.cells #[.slice a1 xs.length c1,.slice a2 ys.length c2,.slice a3 is.length c3,.slice a4 bs.length c4] 30)).trans (B1.mono (by simp)));clear B1;go_wp2;go_ret;exact ⟨rfl,HBW.out⟩
namespace Kit
theorem R3.sub {α:Type}{K:Kd α}{w:World}{g o n c:Nat}{xs:List α}(h:R3 K w (.slice (some ⟨g,o,none⟩) n c) xs)(i m:Nat)(him:i+m<=xs.length):R3 K w (.slice (some ⟨g,o+i * 3,none⟩) m m) ((xs.drop i).take m):=by
 obtain ⟨a,cap,e,hc,h⟩:=h;have hlen:((xs.drop i).take m).length=m:=by simp;omega
 refine ⟨some ⟨g,o+i * 3,none⟩,m,by rw [hlen],by rw [hlen];exact Nat.le_refl _,fun j hj=>?_⟩;rw [hlen] at hj;obtain ⟨g',off,t,e1,hg,c0,c1,c2,r⟩:=h (i+j) (by omega);simp only [Value.slice.injEq] at e;rw [← e.1] at e1;simp only [Option.some.injEq,Addr.mk.injEq] at e1;obtain ⟨rfl,rfl,-⟩:=e1;rw [show o+(i+j) * 3=o+i * 3+j * 3 by omega] at c0 c1 c2;exact ⟨g,o+i * 3,t,rfl,hg,c0,c1,c2,by simpa using r⟩
end Kit
def unitT (xs ys:List Bool) (is:List Ino) (bs:List Blk) (u:Int):ByteArray:=if za5 xs ys is bs && (decide (0<=u) && decide (u < 21)) then unitB xs ys is bs u.toNat else ⟨#[]⟩
theorem unitB_z {xs ys:List Bool}{is:List Ino}{bs:List Blk}(h:okB xs.length ys.length=true):unitB xs ys is bs 0=textA xs ys:=by simp [unitB,textA,h]
theorem unitB_i {xs ys:List Bool}{is:List Ino}{bs:List Blk}{k:Nat}(h:1<=k)(h4:k<=4):unitB xs ys is bs k=inoB (is.getD (2 * k - 2) zI) ++ inoB (is.getD (2 * k - 1) zI):=by
 unfold unitB;rw [if_neg (by omega),if_pos h4]
theorem unitB_b {xs ys:List Bool}{is:List Ino}{bs:List Blk}{k:Nat}(h:5<=k):unitB xs ys is bs k=blkB (bs.getD (k - 5) zB):=by
 unfold unitB;rw [if_neg (by omega),if_neg (by omega)]
theorem zdg (u v iv bv:Value)(xs ys:List Bool)(is:List Ino)(bs:List Blk)(k base:Nat)(w:World)(h:DR w u v iv bv xs ys is bs)(hT:Two w base u v xs ys)(hok:za5 xs ys is bs=true)(hk:k<=20)(hB:∀ (j:Nat) (h:j < bs.length),bigB 1048576 bs[j]) :
  Calls Tryz.prog 59 #[.agg #[u,v,iv,bv],.int .i64 k] w fun e w'=>e=.returned (.string (unitB xs ys is bs k))/\Below w.heap.size w w':=by
 obtain ⟨p1,p2,p3,-,-⟩:=zfv hok;by_cases h0:k=0
 ·subst h0;rw [unitB_z p1];exact zhy u v iv bv xs ys is bs base w h hT
 ·by_cases h4:k<=4
  ·rw [unitB_i (by omega) h4];exact zhw u v iv bv xs ys is bs k w h p2 (by omega) h4
  ·rw [unitB_b (by omega)];exact zhx u v iv bv xs ys is bs k w h p3 (by omega) hk hB
def zb5 (xs ys:List Bool) (is:List Ino) (bs:List Blk) (u:Int):Bool:=za5 xs ys is bs && (decide (0<=u) && decide (u < 21))
theorem zg3 {xs ys:List Bool}{is:List Ino}{bs:List Blk}{u:Int}(h:zb5 xs ys is bs u=false):unitT xs ys is bs u=⟨#[]⟩:=by
 unfold unitT;unfold zb5 at h;rw [h];rfl
theorem zi7 {xs ys:List Bool}{is:List Ino}{bs:List Blk}{u:Int}(h:zb5 xs ys is bs u=true):unitT xs ys is bs u=unitB xs ys is bs u.toNat:=by
 unfold unitT;unfold zb5 at h;rw [h];rfl
theorem in_is (u:Int):inB u 0 20=(decide (0<=u) && decide (u < 21)):=by
 unfold inB;rw [Bool.eq_iff_iff];simp;omega
theorem zhz (u v iv bv:Value)(xs ys:List Bool)(is:List Ino)(bs:List Blk)(n:Int)(base:Nat)(w:World)(h:DR w u v iv bv xs ys is bs)(hT:Two w base u v xs ys)(hB:∀ (j:Nat) (h:j < bs.length),bigB 1048576 bs[j]) :
  Calls Tryz.prog 107 #[.agg #[u,v,iv,bv],.int .i64 n] w fun e w'=>e=.returned (.tuple #[.string (unitT xs ys is bs n),.bool (zb5 xs ys is bs n)])/\Below w.heap.size w w':=by
 have H:=hide h;have HT:=hide hT;have HG:=hide hB;obtain ⟨a1,c1,a2,c2,a3,c3,a4,c4,rfl,rfl,rfl,rfl⟩:=h.form;clear h hT hB;have C0:=hide (fun W h=>zcm (.slice a1 xs.length c1) (.slice a2 ys.length c2) (.slice a3 is.length c3) (.slice a4 bs.length c4) xs ys is bs W h (fun j hj=>(HG.out j hj).2.1))
 cases hok:za5 xs ys is bs with
 | false =>
  have hno:zb5 xs ys is bs n=false:=by unfold zb5;rw [hok];rfl
  rw [zg3 hno,hno];rw [hok] at C0;clear hok hno HG HT;go_enter Tryz.func107,Tryz.ntmps107
  go_wp2_with fail
  refine (C0.out _ (H.out.alloc _)).mono ?_;rintro e w1 ⟨rfl,B1⟩;have HBW:=hide (((Below.refl _ w).alloc nR (.cells #[.slice a1 xs.length c1,.slice a2 ys.length c2,.slice a3 is.length c3,.slice a4 bs.length c4] 30)).trans (B1.mono (by simp)));clear B1;go_wp2;refine bodyPost_ret (v:=.tuple #[.string ⟨#[]⟩,.bool false]) (by simp [results,go_sem]) rfl ⟨rfl,HBW.out⟩
 | true =>
  have HOK:=hide hok;rw [hok] at C0;have L:=hide (fun W=>zaj n 0 20 W);rw [in_is] at L
  cases hin:(decide (0<=n) && decide (n < 21)) with
  | false =>
   have hno:zb5 xs ys is bs n=false:=by unfold zb5;rw [hin,Bool.and_false]
   rw [zg3 hno,hno];rw [hin] at L;clear hok hno HG HT hin HOK;go_enter Tryz.func107,Tryz.ntmps107
   go_wp2_with fail
   refine (C0.out _ (H.out.alloc _)).mono ?_;rintro e w1 ⟨rfl,B1⟩;have HBW:=hide (((Below.refl _ w).alloc nR (.cells #[.slice a1 xs.length c1,.slice a2 ys.length c2,.slice a3 is.length c3,.slice a4 bs.length c4] 30)).trans (B1.mono (by simp)));clear B1;go_wp2_with (go_at_call 20;refine (L.out _).mono ?_;rintro e w2 ⟨rfl,rfl⟩)
   refine bodyPost_ret (v:=.tuple #[.string ⟨#[]⟩,.bool false]) (by simp [results,go_sem]) rfl ⟨rfl,HBW.out⟩
  | true =>
   have hyes:zb5 xs ys is bs n=true:=by unfold zb5;rw [hok,hin];rfl
   rw [zi7 hyes,hyes];rw [hin] at L;simp only [Bool.and_eq_true,decide_eq_true_eq] at hin;obtain ⟨m,rfl⟩:∃ m:Nat,n=m:=⟨n.toNat,by omega⟩
   have hm:m<=20:=by omega
   rw [Int.toNat_natCast];have C1:=hide (fun W h hT=>zdg (.slice a1 xs.length c1) (.slice a2 ys.length c2) (.slice a3 is.length c3) (.slice a4 bs.length c4) xs ys is bs m base W h hT HOK.out hm HG.out);generalize unitB xs ys is bs m=T at *;clear hok hyes HG hin HOK;go_enter Tryz.func107,Tryz.ntmps107
   go_wp2_with fail
   refine (C0.out _ (H.out.alloc _)).mono ?_;rintro e w1 ⟨rfl,B1⟩;have X1:AtC w1 w.heap.size 30 #[.slice a1 xs.length c1,.slice a2 ys.length c2,.slice a3 is.length c3,.slice a4 bs.length c4]:=(AtC.new w 30 _).over B1;have b1:Below w.heap.size w w1:=((Below.refl _ w).alloc nR _).trans (B1.mono (by simp));obtain ⟨r0,r1,r2,r3⟩:=AtC.four X1;have HBW:=hide b1;clear B1 X1 b1 C0;go_wp2_with (first | (go_at_call 20;refine (L.out _).mono ?_;rintro e w2 ⟨rfl,rfl⟩) | (go_at_call 59;refine (C1.out _ (H.out.below HBW.out nR) (HT.out.below HBW.out nR)).mono ?_;rintro e w3 ⟨rfl,B3⟩;have HB3:=hide (HBW.out.trans (B3.mono HBW.out.size));clear B3))
   refine bodyPost_ret (v:=.tuple #[.string T,.bool true]) (by simp [results,go_sem]) rfl ⟨rfl,HB3.out⟩
namespace Kit
theorem PM.dep_at {w:World}{S:Nat->Prop}{b:Nat}{u v iv bv dv pv:Value}{m:MD}(h:PM w S b u v iv bv dv pv m)(j:Nat)(hj:j < m.ds.length) :
  ∃ g c p,pv=.slice (some ⟨g,0,none⟩) m.ds.length c/\DCells w g (j * 11) m.ds[j] p/\RInts w p m.ds[j].bl/\(∀ i,w.frozen? ⟨g,i,none⟩=false)/\S g/\g < w.heap.size /\
   ∀ (i:Nat) (x:Value) (d':Dp),i < 10->d'.row p=(m.ds[j].row p).set i x->d'.bl=m.ds[j].bl->PM (w.setCell ⟨g,j * 11+i,none⟩ x) S b u v iv bv dv pv { m with ds:=m.ds.set j d' }:=by
 obtain ⟨S1,S2,S3,ts,k1,k2,k3,k4,k5,k6,k7⟩:=h.own;have hl:=k4.len;obtain ⟨g,c,e1,hc,hz,hg,-⟩:=k4.row.at j (by omega);rw [hl] at e1;obtain ⟨p,hr,hO⟩:=k4.inn j (by omega) hj;have gS:S3 g:=k4.so g (by rw [e1];rfl);have gL:=k7 g (.inr (.inr gS));refine ⟨g,c,p,e1,DCells.of fun i hi=>by rw [← hr];exact hc i hi,hO.rints,hz,gL,hg,fun i x d' hi hd hb=>?_⟩;have un:∀ k,k≠g->(w.setCell ⟨g,j * 11+i,none⟩ x).heap[k]?=w.heap[k]?:=fun k hk=>heap_setCell_other _ ⟨g,j * 11+i,none⟩ k _ hk;have pg:∀ k,p.ownBlock=some k->k≠g:=fun k hk e=>by
  subst e;refine k4.out j (by omega) k ?_ (by rw [e1];rfl);rw [hr];exact hk
 have row:=k4.row;rw [e1,← hl] at row;have jt:j < ts.length:=by omega
 have r2:=row.set j i jt (by show i < 11;omega) x;have et:ts[j].set i x=d'.row p:=by rw [hr,hd]
 rw [et] at r2;have r3:NOwns (w.setCell ⟨g,j * 11+i,none⟩ x) 41 11 pv (ts.set j (d'.row p)):=by rw [e1,← hl];exact r2
 have hn:∀ k,(KDep.p (d'.row p)).ownBlock=some k->(KDep.p ts[j]).ownBlock=some k:=fun k hk=>by rw [hr];exact hk
 have G:GN KDep (w.setCell ⟨g,j * 11+i,none⟩ x) S3 pv (ts.set j (d'.row p)) (m.ds.set j d'):=by
  refine k4.turn j (by omega) (d'.row p) d' r3 ⟨p,rfl,by rw [hb];exact hO.of_heap fun k hk=>un k (pg k hk)⟩ (fun k _ h1 _=>un k fun e=>h1 (by rw [e1,e];rfl)) (fun k hk=>.inl (hn k hk)) (fun k hk=>hk) (fun k hk=>k4.si j (by omega) k (hn k hk))
 exact ⟨h.box.other (fun e=>h.nb (e ▸ gL)) _,⟨S1,S2,S3,_,k1.of_heap fun k hk _=>un k fun e=>(k5 k hk).2 (e ▸ gS),k2.of_heap fun k hk=>un k fun e=>k6 k (k3 k hk) (e ▸ gS),k3,G,k5,k6,k7⟩,h.nb⟩
end Kit
namespace Kit
theorem GO.turnX {α:Type}{K:Kd α}{w w':World}{S S':Nat->Prop}{v:Value}{ts:List V3}{xs:List α}(h:GO K w S v ts xs)(j:Nat)(t':V3)(x':α)(hr:TOwns w' K.T v (ts.set j t'))(hO:K.O w' t' x')
  (hf:∀ k,k < w.heap.size->v.ownBlock≠some k->w'.heap[k]?=w.heap[k]?) (hn:∀ k,(K.p t').ownBlock=some k->¬ S k) (hs:∀ k,S k->S' k) (hs2:∀ k,(K.p t').ownBlock=some k->S' k):GO K w' S' v (ts.set j t') (xs.set j x'):=by
 have hl:=h.len;refine ⟨by simp [hl],hr,fun i hi hi'=>?_,fun i i2 hi hi2 hne k e1 e2=>?_,fun i hi k e1 e2=>?_,fun k e=>hs k (h.so k e),fun i hi k e=>?_⟩
 ·simp only [List.length_set] at hi hi';by_cases e:j=i
  ·subst e;simp only [List.getElem_set_self];exact hO
  ·simp only [List.getElem_set_ne e];exact K.heap (h.inn i hi hi') fun k hk=>hf k (K.lt (h.inn i hi hi') k hk) (fun e'=>h.out i hi k hk e')
 ·simp only [List.length_set] at hi hi2;by_cases ei:j=i
  ·subst ei;simp only [List.getElem_set_self] at e1;rw [List.getElem_set_ne hne] at e2;exact hn k e1 (h.si i2 hi2 k e2)
  ·rw [List.getElem_set_ne ei] at e1;by_cases e2':j=i2
   ·subst e2';simp only [List.getElem_set_self] at e2;exact hn k e2 (h.si i hi k e1)
   ·rw [List.getElem_set_ne e2'] at e2;exact h.sep i i2 hi hi2 hne k e1 e2
 ·simp only [List.length_set] at hi;by_cases ei:j=i
  ·subst ei;simp only [List.getElem_set_self] at e1;exact hn k e1 (h.so k e2)
  ·rw [List.getElem_set_ne ei] at e1;exact h.out i hi k e1 e2
 ·simp only [List.length_set] at hi;by_cases ei:j=i
  ·subst ei;simp only [List.getElem_set_self] at e;exact hs2 k e
  ·rw [List.getElem_set_ne ei] at e;exact hs k (h.si i hi k e)
def set3 (w:World) (g j:Nat) (t:V3):World:=((w.setCell ⟨g,j * 3,none⟩ t.1).setCell ⟨g,j * 3+1,none⟩ t.2.1).setCell ⟨g,j * 3+2,none⟩ t.2.2
theorem zbj (w:World)(g j:Nat)(t:V3)(k:Nat)(hk:k≠g):(set3 w g j t).heap[k]?=w.heap[k]?:=by
 unfold set3;rw [heap_setCell_other _ ⟨g,j * 3+2,none⟩ k _ hk,heap_setCell_other _ ⟨g,j * 3+1,none⟩ k _ hk,heap_setCell_other _ ⟨g,j * 3,none⟩ k _ hk]
theorem GO.putX {α:Type}{K:Kd α}{w:World}{S:Nat->Prop}{v:Value}{ts:List V3}{xs:List α}(h:GO K w S v ts xs){g n cap:Nat}(hv:v=.slice (some ⟨g,0,none⟩) n cap)(j:Nat)(hj:j < ts.length)(t':V3)(x':α)(hO:K.O w t' x')(hn:∀ k,(K.p t').ownBlock=some k->¬ S k) :
  GO K (set3 w g j t') (fun k=>S k\/(K.p t').ownBlock=some k) v (ts.set j t') (xs.set j x'):=by
 have gS:S g:=h.so g (by rw [hv];rfl);have hl:n=ts.length:=h.len_of hv;subst hl;have row:=h.row;rw [hv] at row;have r2:=row.set j hj t'.1 t'.2.1 t'.2.2;rw [← hv] at r2;exact h.turnX j t' x' r2 (K.heap hO fun k hk=>zbj w g j t' k fun e=>hn k hk (e ▸ gS)) (fun k _ h1=>zbj w g j t' k fun e=>h1 (by rw [hv,e];rfl)) hn (fun k hk=>.inl hk) (fun k hk=>.inr hk)
section
variable {w : World} {S : Nat -> Prop} {b : Nat} {u v iv bv dv pv : Value} {m : MD}
theorem PM.putI (h:PM w S b u v iv bv dv pv m){g n cap:Nat}(hv:iv=.slice (some ⟨g,0,none⟩) n cap)(j:Nat)(hj:j < m.is.length)(t':V3)(x':Ino)(hO:KI.O w t' x')(hn:∀ k,t'.2.2.ownBlock=some k->¬ S k/\k≠b) :
  PM (set3 w g j t') (fun k=>S k\/t'.2.2.ownBlock=some k) b u v iv bv dv pv { m with is:=m.is.set j x' }/\S g:=by
 obtain ⟨S1,S2,S3,ts,k1,k2,k3,k4,k5,k6,k7⟩:=h.own;obtain ⟨T1,T2,T3,ti,tb,z1,z2,z3,z4,z5,z6,z7⟩:=k1;have gT:T2 g:=z3.so g (by rw [hv];rfl);have gS:S g:=k7 g (.inl (z7 g (.inr (.inl gT))));have nS:∀ k,t'.2.2.ownBlock=some k->¬ S k:=fun k hk=>(hn k hk).1;have un:∀ k,k≠g->(set3 w g j t').heap[k]?=w.heap[k]?:=fun k hk=>zbj w g j t' k hk;have zz:=z3.putX hv j (by rw [z3.len];exact hj) t' x' hO (fun k hk e=>nS k hk (k7 k (.inl (z7 k (.inr (.inl e))))));refine ⟨⟨(un b fun e=>h.nb (e ▸ gS)).trans h.box,⟨fun k=>S1 k\/t'.2.2.ownBlock=some k,S2,S3,ts,⟨T1,fun k=>T2 k\/t'.2.2.ownBlock=some k,T3,ti.set j t',tb,⟨z1.a.of_heap fun k hk=>un k fun e=>(z5 k (z2 k (.inl hk))).1 (e ▸ gT),z1.b.of_heap fun k hk=>un k fun e=>(z5 k (z2 k (.inr hk))).1 (e ▸ gT),z1.ne⟩,z2,zz,z4.of_heap fun k hk _=>un k fun e=>z6 g gT (e ▸ hk),fun k hk=>⟨fun e=>?_,(z5 k hk).2⟩,fun k hk e=>?_,fun k hk=>?_⟩,k2.of_heap fun k hk=>un k fun e=>(k5 g (z7 g (.inr (.inl gT)))).1 (e ▸ k3 k hk),k3,k4.of_heap fun k hk _=>un k fun e=>(k5 g (z7 g (.inr (.inl gT)))).2 (e ▸ hk),fun k hk=>⟨fun e=>?_,fun e=>?_⟩,k6,fun k hk=>?_⟩,fun e=>?_⟩,gS⟩
 ·rcases e with e | e
  ·exact (z5 k hk).1 e
  ·exact nS k e (k7 k (.inl (z7 k (.inl hk))))
 ·rcases hk with hk | hk
  ·exact z6 k hk e
  ·exact nS k hk (k7 k (.inl (z7 k (.inr (.inr e)))))
 ·rcases hk with hk | (hk | hk) | hk
  ·exact .inl (z7 k (.inl hk))
  ·exact .inl (z7 k (.inr (.inl hk)))
  ·exact .inr hk
  ·exact .inl (z7 k (.inr (.inr hk)))
 ·exact cQ129
 ·exact cQ128
 ·exact cQ84
 ·rcases e with e | e
  ·exact h.nb e
  ·exact (hn b e).2 rfl
theorem PM.putB (h:PM w S b u v iv bv dv pv m){g n cap:Nat}(hv:bv=.slice (some ⟨g,0,none⟩) n cap)(j:Nat)(hj:j < m.bs.length)(t':V3)(x':Blk)(hO:KB.O w t' x')(hn:∀ k,t'.2.1.ownBlock=some k->¬ S k/\k≠b) :
  PM (set3 w g j t') (fun k=>S k\/t'.2.1.ownBlock=some k) b u v iv bv dv pv { m with bs:=m.bs.set j x' }/\S g:=by
 obtain ⟨S1,S2,S3,ts,k1,k2,k3,k4,k5,k6,k7⟩:=h.own;obtain ⟨T1,T2,T3,ti,tb,z1,z2,z3,z4,z5,z6,z7⟩:=k1;have gT:T3 g:=z4.so g (by rw [hv];rfl);have gS:S g:=k7 g (.inl (z7 g (.inr (.inr gT))));have nS:∀ k,t'.2.1.ownBlock=some k->¬ S k:=fun k hk=>(hn k hk).1;have un:∀ k,k≠g->(set3 w g j t').heap[k]?=w.heap[k]?:=fun k hk=>zbj w g j t' k hk;have zz:=z4.putX hv j (by rw [z4.len];exact hj) t' x' hO (fun k hk e=>nS k hk (k7 k (.inl (z7 k (.inr (.inr e))))));refine ⟨⟨(un b fun e=>h.nb (e ▸ gS)).trans h.box,⟨fun k=>S1 k\/t'.2.1.ownBlock=some k,S2,S3,ts,⟨T1,T2,fun k=>T3 k\/t'.2.1.ownBlock=some k,ti,tb.set j t',⟨z1.a.of_heap fun k hk=>un k fun e=>(z5 k (z2 k (.inl hk))).2 (e ▸ gT),z1.b.of_heap fun k hk=>un k fun e=>(z5 k (z2 k (.inr hk))).2 (e ▸ gT),z1.ne⟩,z2,z3.of_heap fun k hk _=>un k fun e=>z6 k hk (e ▸ gT),zz,fun k hk=>⟨(z5 k hk).1,fun e=>?_⟩,fun k hk e=>?_,fun k hk=>?_⟩,k2.of_heap fun k hk=>un k fun e=>(k5 g (z7 g (.inr (.inr gT)))).1 (e ▸ k3 k hk),k3,k4.of_heap fun k hk _=>un k fun e=>(k5 g (z7 g (.inr (.inr gT)))).2 (e ▸ hk),fun k hk=>⟨fun e=>?_,fun e=>?_⟩,k6,fun k hk=>?_⟩,fun e=>?_⟩,gS⟩
 ·rcases e with e | e
  ·exact (z5 k hk).2 e
  ·exact nS k e (k7 k (.inl (z7 k (.inl hk))))
 ·rcases e with e | e
  ·exact z6 k hk e
  ·exact nS k e (k7 k (.inl (z7 k (.inr (.inl hk)))))
 ·rcases hk with hk | hk | (hk | hk)
  ·exact .inl (z7 k (.inl hk))
  ·exact .inl (z7 k (.inr (.inl hk)))
  ·exact .inl (z7 k (.inr (.inr hk)))
  ·exact .inr hk
 ·exact cQ129
 ·exact cQ128
 ·exact cQ84
 ·rcases e with e | e
  ·exact h.nb e
  ·exact (hn b e).2 rfl
theorem PM.inoAt (h:PM w S b u v iv bv dv pv m)(j:Nat)(hj:j < m.is.length) :
  ∃ g c p,iv=.slice (some ⟨g,0,none⟩) m.is.length c/\w.cell? ⟨g,j * 3,none⟩=some (.int .i64 m.is[j].1)/\w.cell? ⟨g,j * 3+1,none⟩=some (.int .i64 m.is[j].2.1)/\w.cell? ⟨g,j * 3+2,none⟩=some p/\RInts w p m.is[j].2.2/\(∀ k,w.frozen? ⟨g,k,none⟩=false)/\g < w.heap.size/\S g:=by
 obtain ⟨S1,S2,S3,ts,k1,-,-,-,-,-,k7⟩:=h.own;obtain ⟨a,c,e,hc⟩:=k1.dr.i;obtain ⟨hl,hc⟩:=hc;obtain ⟨g,off,t,rfl,-⟩:=hc j hj;obtain ⟨T1,T2,T3,ti,tb,z1,z2,z3,z4,z5,z6,z7⟩:=k1;obtain ⟨g',c',e',-⟩:=z3.row.at j (by rw [z3.len];exact hj);rw [e] at e';simp only [Value.slice.injEq,Option.some.injEq,Addr.mk.injEq,and_true] at e';obtain ⟨⟨rfl,rfl⟩,-,rfl⟩:=e';obtain ⟨⟨a,b',p,q1,q2,q3,rfl,rfl,q4⟩,q5,q6,-,q7⟩:=DO.atI (S:=S1) ⟨T1,T2,T3,ti,tb,z1,z2,z3,z4,z5,z6,z7⟩ e j hj;exact ⟨g,c,p,e,q1,q2,q3,q4,q5,q6,k7 g (.inl q7)⟩
theorem PM.blkAt (h:PM w S b u v iv bv dv pv m)(j:Nat)(hj:j < m.bs.length) :
  ∃ g c p,bv=.slice (some ⟨g,0,none⟩) m.bs.length c/\w.cell? ⟨g,j * 3,none⟩=some (.bool m.bs[j].1)/\w.cell? ⟨g,j * 3+1,none⟩=some p/\w.cell? ⟨g,j * 3+2,none⟩=some (.string m.bs[j].2.2)/\RSl w p m.bs[j].2.1/\(∀ k,w.frozen? ⟨g,k,none⟩=false)/\g < w.heap.size/\S g:=by
 obtain ⟨S1,S2,S3,ts,k1,-,-,-,-,-,k7⟩:=h.own;obtain ⟨a,c,e,hc⟩:=k1.dr.k;obtain ⟨hl,hc⟩:=hc;obtain ⟨g,off,t,rfl,-⟩:=hc j hj;obtain ⟨T1,T2,T3,ti,tb,z1,z2,z3,z4,z5,z6,z7⟩:=k1;obtain ⟨g',c',e',-⟩:=z4.row.at j (by rw [z4.len];exact hj);rw [e] at e';simp only [Value.slice.injEq,Option.some.injEq,Addr.mk.injEq,and_true] at e';obtain ⟨⟨rfl,rfl⟩,-,rfl⟩:=e';obtain ⟨⟨a,p,b',q1,q2,q3,rfl,rfl,q4⟩,q5,q6,-,q7⟩:=DO.atB (S:=S1) ⟨T1,T2,T3,ti,tb,z1,z2,z3,z4,z5,z6,z7⟩ e j hj;exact ⟨g,c,p,e,q1,q2,q3,q4,q5,q6,k7 g (.inl q7)⟩
end
def rowsP (f:Dp->Bool) (ts:List Row) (ds:List Dp):List Row:=((ts.zip ds).filter fun q=>f q.2).map (·.1)
theorem zh0 (f:Dp->Bool)(ts:List Row)(ds:List Dp)(hl:ts.length=ds.length)(j:Nat)(h1:j < ts.length)(h2:j < ds.length):rowsP f (ts.take (j+1)) (ds.take (j+1))=rowsP f (ts.take j) (ds.take j) ++ (if f ds[j]=true then [ts[j]] else []):=by
 unfold rowsP;rw [← List.take_append_getElem h1,← List.take_append_getElem h2,List.zip_append (by rw [List.length_take,List.length_take];omega),List.filter_append,List.map_append];congr 1
 by_cases e:f ds[j]=true<;>simp [e]
theorem zb6 (f:Dp->Bool)(ts:List Row)(ds:List Dp):(rowsP f ts ds).length<=ds.length:=by
 unfold rowsP;rw [List.length_map];refine Nat.le_trans (List.length_filter_le _ _) ?_;rw [List.length_zip];omega
theorem GN.keepP {w w2:World}{S:Nat->Prop}{v lv:Value}{ts:List Row}{ds:List Dp}(h:GN KDep w S v ts ds)(P:Dp->Bool)(hn:NOwns w2 41 11 lv (rowsP P ts ds))(hlo:∀ k,lv.ownBlock=some k->¬ S k)(hb:∀ k,S k->k < w.heap.size->w2.heap[k]?=w.heap[k]?) :
  GN KDep w2 (fun k=>S k\/lv.ownBlock=some k) lv (rowsP P ts ds) (ds.filter P):=by
 have hl:=h.len;obtain ⟨f,h1,h2⟩:=zdw (fun q:Row×Dp=>P q.2) (ts.zip ds);have e1:ds.filter P=((ts.zip ds).filter fun q=>P q.2).map (·.2):=by
  exact cQ105
 have hlz:(ts.zip ds).length=ts.length:=by rw [List.length_zip];omega
 have hr:∀ (j:Nat) (hj:j < (rowsP P ts ds).length),∃ (q1:f j < ts.length) (q2:f j < ds.length),(rowsP P ts ds)[j]=ts[f j]/\∀ (h':j < (ds.filter P).length),(ds.filter P)[j]=ds[f j]:=fun j hj=>by
  have hj2:j < ((ts.zip ds).filter fun q=>P q.2).length:=by simpa [rowsP] using hj
  obtain ⟨p1,p2,-⟩:=h1 j hj2;refine ⟨by omega,by omega,?_,fun h'=>?_⟩
  ·simp only [rowsP,List.getElem_map,p2,List.getElem_zip]
  ·simp only [e1,List.getElem_map,p2,List.getElem_zip]
 have fi:∀ i j,i < (rowsP P ts ds).length->j < (rowsP P ts ds).length->i≠j->f i≠f j:=fun i j hi hj hne=>by
  have hi2:i < ((ts.zip ds).filter fun q=>P q.2).length:=by simpa [rowsP] using hi
  have hj2:j < ((ts.zip ds).filter fun q=>P q.2).length:=by simpa [rowsP] using hj
  exact cQ123
 have hlt:∀ (j:Nat) (hj:j < ts.length) (k:Nat),(KDep.p ts[j]).ownBlock=some k->k < w.heap.size:=fun j hj k hk=>KDep.lt (h.inn j hj (by omega)) k hk;refine ⟨by rw [e1];simp [rowsP],hn,fun j hj hj'=>?_,fun i j hi hj hne k=>?_,fun j hj k e2 e3=>?_,fun k e=>.inr e,fun j hj k e=>?_⟩
 ·obtain ⟨q1,q2,q3,q4⟩:=hr j hj;rw [q3,q4 hj'];exact KDep.heap (h.inn (f j) q1 q2) fun k hk=>hb k (h.si (f j) q1 k hk) (hlt (f j) q1 k hk)
 ·exact cQ106
 ·obtain ⟨q1,q2,q3,-⟩:=hr j hj;rw [q3] at e2;exact hlo k e3 (h.si (f j) q1 k e2)
 ·obtain ⟨q1,q2,q3,-⟩:=hr j hj;rw [q3] at e;exact .inl (h.si (f j) q1 k e)
theorem PM.keepD {w:World}{S:Nat->Prop}{b:Nat}{u v iv bv dv pv:Value}{m:MD}(h:PM w S b u v iv bv dv pv m):∃ ts,ts.length=m.ds.length/\(∀ (j:Nat) (hj:j < ts.length) (hj':j < m.ds.length),KDep.O w ts[j] m.ds[j])/\NOwns w 41 11 pv ts /\
  ∀ (w2:World) (lv:Value) (f:Dp->Bool),(∀ k,S k->k < w.heap.size->w2.heap[k]?=w.heap[k]?)->w2.heap[b]?=w.heap[b]?->NOwns w2 41 11 lv (rowsP f ts m.ds)->(∀ k,lv.ownBlock=some k->¬ S k/\k≠b) ->
   PM (w2.setCell ⟨b,5,none⟩ lv) (fun k=>S k\/lv.ownBlock=some k) b u v iv bv dv lv { m with ds:=m.ds.filter f }:=by
 obtain ⟨S1,S2,S3,ts,k1,k2,k3,k4,k5,k6,k7⟩:=h.own;refine ⟨ts,k4.len,fun j hj hj'=>k4.inn j hj hj',k4.row,fun w2 lv f h1 h2 h3 h4=>?_⟩;have hb2:AtC w2 b 33 #[u,v,iv,bv,dv,pv,.int .i64 m.nx]:=h2.trans h.box;have G:=k4.keepP f h3 (fun k hk e=>(h4 k hk).1 (k7 k (.inr (.inr e)))) (fun k hk hlt=>h1 k (k7 k (.inr (.inr hk))) hlt);have lvb:∀ k,lv.ownBlock=some k->k≠b:=fun k hk=>(h4 k hk).2;have un:∀ k,k≠b->(w2.setCell ⟨b,5,none⟩ lv).heap[k]?=w2.heap[k]?:=fun k hk=>heap_setCell_other _ ⟨b,5,none⟩ k _ hk;have nb:∀ k,S k->k≠b:=fun k hk e=>h.nb (e ▸ hk);refine ⟨hb2.set 5 lv,⟨S1,S2,fun k=>S3 k\/lv.ownBlock=some k,_,k1.of_heap fun k hk hlt=>(un k (nb k (k7 k (.inl hk)))).trans (h1 k (k7 k (.inl hk)) hlt),k2.of_heap fun k hk=>(un k (nb k (k7 k (.inr (.inl (k3 k hk)))))).trans (h1 k (k7 k (.inr (.inl (k3 k hk)))) (k2.lt k hk).2),k3,G.of_heap fun k hk _=>un k (hk.elim (fun e=>nb k (k7 k (.inr (.inr e)))) (lvb k)),fun k hk=>⟨(k5 k hk).1,fun e=>?_⟩,fun k hk e=>?_,fun k hk=>?_⟩,fun e=>?_⟩
 ·exact cQ136
 ·exact cQ132
 ·exact cQ85
 ·rcases e with e | e
  ·exact h.nb e
  ·exact (h4 b e).2 rfl
end Kit
namespace Kit
def rowsK (id:Int) (ts:List Row) (ds:List Dp):List Row:=((ts.zip ds).filter fun q=>!decide (q.2.id=id)).map (·.1)
theorem zh1 (id:Int)(ts:List Row)(ds:List Dp)(hl:ts.length=ds.length)(j:Nat)(h1:j < ts.length)(h2:j < ds.length):rowsK id (ts.take (j+1)) (ds.take (j+1))=rowsK id (ts.take j) (ds.take j) ++ (if ds[j].id=id then [] else [ts[j]]):=by
 unfold rowsK;rw [← List.take_append_getElem h1,← List.take_append_getElem h2,List.zip_append (by rw [List.length_take,List.length_take];omega),List.filter_append,List.map_append];congr 1
 by_cases e:ds[j].id=id<;>simp [e]
theorem GN.keep {w w2:World}{S:Nat->Prop}{v lv:Value}{ts:List Row}{ds:List Dp}(h:GN KDep w S v ts ds)(id:Int)(hn:NOwns w2 41 11 lv (rowsK id ts ds))(hlo:∀ k,lv.ownBlock=some k->w.heap.size<=k)(hb:Below w.heap.size w w2) :
  GN KDep w2 (fun k=>(S k/\k < w.heap.size)\/w.heap.size<=k) lv (rowsK id ts ds) (ds.filter fun d=>!decide (d.id=id)):=by
 have hl:=h.len;obtain ⟨f,h1,h2⟩:=zdw (fun q:Row×Dp=>!decide (q.2.id=id)) (ts.zip ds);have e1:(ds.filter fun d=>!decide (d.id=id))=((ts.zip ds).filter fun q=>!decide (q.2.id=id)).map (·.2):=by
  exact cQ105
 have hlz:(ts.zip ds).length=ts.length:=by rw [List.length_zip];omega
 have hr:∀ (j:Nat) (hj:j < (rowsK id ts ds).length),∃ (q1:f j < ts.length) (q2:f j < ds.length),(rowsK id ts ds)[j]=ts[f j]/\∀ (h':j < (ds.filter fun d=>!decide (d.id=id)).length),(ds.filter fun d=>!decide (d.id=id))[j]=ds[f j]:=fun j hj=>by
  have hj2:j < ((ts.zip ds).filter fun q=>!decide (q.2.id=id)).length:=by simpa [rowsK] using hj
  obtain ⟨p1,p2,-⟩:=h1 j hj2;refine ⟨by omega,by omega,?_,fun h'=>?_⟩
  ·simp only [rowsK,List.getElem_map,p2,List.getElem_zip]
  ·simp only [e1,List.getElem_map,p2,List.getElem_zip]
 have fi:∀ i j,i < (rowsK id ts ds).length->j < (rowsK id ts ds).length->i≠j->f i≠f j:=fun i j hi hj hne=>by
  have hi2:i < ((ts.zip ds).filter fun q=>!decide (q.2.id=id)).length:=by simpa [rowsK] using hi
  have hj2:j < ((ts.zip ds).filter fun q=>!decide (q.2.id=id)).length:=by simpa [rowsK] using hj
  exact cQ123
 have hlt:∀ (j:Nat) (hj:j < ts.length) (k:Nat),(KDep.p ts[j]).ownBlock=some k->k < w.heap.size:=fun j hj k hk=>KDep.lt (h.inn j hj (by omega)) k hk;refine ⟨by rw [e1];simp [rowsK],hn,fun j hj hj'=>?_,fun i j hi hj hne k=>?_,fun j hj k e2 e3=>?_,fun k e=>.inr (hlo k e),fun j hj k e=>?_⟩
 ·obtain ⟨q1,q2,q3,q4⟩:=hr j hj;rw [q3,q4 hj'];exact KDep.heap (h.inn (f j) q1 q2) fun k hk=>hb.block k (hlt (f j) q1 k hk)
 ·exact cQ106
 ·obtain ⟨q1,q2,q3,-⟩:=hr j hj;rw [q3] at e2;have:=hlt (f j) q1 k e2;have:=hlo k e3;omega
 ·obtain ⟨q1,q2,q3,-⟩:=hr j hj;rw [q3] at e;exact .inl ⟨h.si (f j) q1 k e,hlt (f j) q1 k e⟩
end Kit
theorem zcv (id:Int)(u v iv bv dv pv:Value)(m:MD)(w:World)(h:MR w u v iv bv dv pv m)(hB:BigM 1048576 m) :
  Calls Tryz.prog 109 #[.agg #[u,v,iv,bv,dv,pv,.int .i64 m.nx],.int .i64 id] w fun e w'=>∃ u' v' i' b' d' p',e=.returned (.agg #[u',v',i',b',d',p',.int .i64 m.nx])/\MO w' (fun k=>w.heap.size<=k) u' v' i' b' d' p' { m with ds:=za8 id m.ds }/\Below w.heap.size w w':=by
 have H:=hide h;have HG:=hide hB;have hdl:m.ds.length<=1048576:=hB.l;obtain ⟨a1,c1,a2,c2,a3,c3,a4,c4,a5,c5,a6,c6,rfl,rfl,rfl,rfl,rfl,rfl⟩:=h.form;clear h hB;have HC:Hid (∀ W,Below ((w.alloc (.cells #[.slice a1 m.xs.length c1,.slice a2 m.ys.length c2,.slice a3 m.is.length c3,.slice a4 m.bs.length c4,.slice a5 m.fs.length c5,.slice a6 m.ds.length c6,.int .i64 m.nx] 33)).alloc (.cells noM 33)).heap.size ((w.alloc (.cells #[.slice a1 m.xs.length c1,.slice a2 m.ys.length c2,.slice a3 m.is.length c3,.slice a4 m.bs.length c4,.slice a5 m.fs.length c5,.slice a6 m.ds.length c6,.int .i64 m.nx] 33)).alloc (.cells noM 33)) W->AtC W (w.heap.size+1) 33 noM/\Below w.heap.size w W/\w.heap.size+1+1<=W.heap.size):=fun W b2=>by
  have k1:=(AtC.new (w.alloc (.cells #[.slice a1 m.xs.length c1,.slice a2 m.ys.length c2,.slice a3 m.is.length c3,.slice a4 m.bs.length c4,.slice a5 m.fs.length c5,.slice a6 m.ds.length c6,.int .i64 m.nx] 33)) 33 noM).over b2;have sz:=b2.size;simp at k1 sz;exact ⟨k1,(((Below.refl _ w).alloc nR _).alloc (by simp) _).trans (b2.mono (by simp;omega)),sz⟩
 go_enter Tryz.func109,Tryz.ntmps109
 go_wp2_with fail
 refine (zau _ _ _ _ _ _ m _ (H.out.below (HC.out _ bR).2.1 nR) HG.out).mono ?_;rintro e w2 ⟨u1,u2,u3,u4,u5,u6,rfl,O2,B2⟩;obtain ⟨b1,d1,b2,d2,b3,d3,b4,d4,b5,d5,b6,d6,rfl,rfl,rfl,rfl,rfl,rfl⟩:=O2.mr.form;have hz2:=(HC.out w2 B2).2.2;obtain ⟨S1,S2,S3,ts,k1,k2,k3,k4,k5,k6,k7⟩:=(O2.mono (S':=fun k=>w.heap.size+1+1<=k) (fun k hk=>by simp at hk;omega)).bound;have HS:Hid (∀ W,Below (w2.alloc (.cells #[.slice b1 m.xs.length d1,.slice b2 m.ys.length d2,.slice b3 m.is.length d3,.slice b4 m.bs.length d4,.slice b5 m.fs.length d5,.slice b6 m.ds.length d6,.int .i64 m.nx] 33)).heap.size (w2.alloc (.cells #[.slice b1 m.xs.length d1,.slice b2 m.ys.length d2,.slice b3 m.is.length d3,.slice b4 m.bs.length d4,.slice b5 m.fs.length d5,.slice b6 m.ds.length d6,.int .i64 m.nx] 33)) W->AtC W (w.heap.size+1) 33 noM/\AtC W w2.heap.size 33 #[.slice b1 m.xs.length d1,.slice b2 m.ys.length d2,.slice b3 m.is.length d3,.slice b4 m.bs.length d4,.slice b5 m.fs.length d5,.slice b6 m.ds.length d6,.int .i64 m.nx]/\GN KDep W S3 (.slice b6 m.ds.length d6) ts m.ds/\Below w.heap.size w W):=fun W b=>by
  have bb:Below w2.heap.size w2 W:=((Below.refl _ w2).alloc nR _).trans (b.mono (by simp));have q:=HC.out W (B2.trans (bb.mono B2.size));exact ⟨q.1,(AtC.new w2 33 _).over b,k4.below bb nR,q.2.1⟩
 have HKK:=hide (And.intro k1 (And.intro k2 (And.intro k3 (And.intro k4 (And.intro k5 (And.intro k6 k7))))));have hln:ts.length=m.ds.length:=k4.len;have HB2:=hide B2;clear O2 B2 k1 k2 k3 k4 k5 k6 k7;go_wp2_with fail
 go_loopw [7,6] (fun i lv wr=>∃ j:Nat,j<=m.ds.length/\i=.int .i64 j/\Hid (NOwns wr 41 11 lv (rowsK id (ts.take j) (m.ds.take j))/\(∀ k,lv.ownBlock=some k->w2.heap.size+1<=k)/\Below (w2.alloc (.cells #[.slice b1 m.xs.length d1,.slice b2 m.ys.length d2,.slice b3 m.is.length d3,.slice b4 m.bs.length d4,.slice b5 m.fs.length d5,.slice b6 m.ds.length d6,.int .i64 m.nx] 33)).heap.size (w2.alloc (.cells #[.slice b1 m.xs.length d1,.slice b2 m.ys.length d2,.slice b3 m.is.length d3,.slice b4 m.bs.length d4,.slice b5 m.fs.length d5,.slice b6 m.ds.length d6,.int .i64 m.nx] 33)) wr)) (fun i lv _=>m.ds.length - (intOf i).toNat)
 case atStart =>
  refine ⟨0,Nat.zero_le _,rfl,?_,?_,bR.alloc nR _⟩
  ·have:=NOwns.of_at (n:=11) (ts:=[]) (AtC.new (w2.alloc (.cells #[.slice b1 m.xs.length d1,.slice b2 m.ys.length d2,.slice b3 m.is.length d3,.slice b4 m.bs.length d4,.slice b5 m.fs.length d5,.slice b6 m.ds.length d6,.int .i64 m.nx] 33)) 41 #[]) rfl (Even.nil _) (Nat.zero_le _);simpa [rowsK] using this
  ·intro k hk;simp [Value.ownBlock] at hk;omega
 case round =>
  obtain ⟨j,hj,rfl,HR⟩:=hrel;obtain ⟨hn,hlo,hbl⟩:=HR.out;have q9:=HS.out wr hbl;by_cases hlt:j < m.ds.length
  ·have xb5:=q9.2.1.c5;obtain ⟨g,cap,ei,hcell,-,hg,-⟩:=q9.2.2.1.row.at j (by omega);rw [hln] at ei;simp only [Value.slice.injEq,true_and] at ei;obtain ⟨rfl,rfl⟩:=ei;obtain ⟨p,hrow,hpo⟩:=q9.2.2.1.inn j (by omega) hlt;have hst:=zh1 id ts m.ds hln j (by omega) hlt;rw [hrow] at hst;have nn:DCells wr g (j * 11) m.ds[j] p:=DCells.of fun i hi=>by rw [← hrow];exact hcell i hi
   obtain ⟨X,hX⟩:∃ X,m.ds[j]=X:=⟨_,rfl⟩
   rw [hX] at nn hpo hst;obtain ⟨id2,kd,io,pt,bk,sl,nm,bt,ot,af,bl⟩:=X;obtain ⟨pa,pc,rfl⟩:=hpo.rints.form;simp only [DCells] at nn;obtain ⟨n0,n1,n2,n3,n4,n5,n6,n7,n8,n9,n10⟩:=nn;have HRR:=hide (And.intro hn (And.intro hlo hbl));have HST:=hide hst;have j0:(0:Int)<=(j:Int):=by omega
   have j1:(j:Int) < (m.ds.length:Int):=by omega
   clear hn hlo hbl q9 hcell hg hrow hpo hX hst HR;by_cases hid:id2=id
   ·subst hid;go_wp2;go_roundw
    case rel =>
     refine ⟨j+1,by omega,by go_num,?_,HRR.out.2.1,HRR.out.2.2⟩;have:=HST.out;simp only [if_true,List.append_nil] at this;rw [this];exact HRR.out.1
    case measure=>simp [intOf];omega
   ·have HT:Hid (NOwns (wr.alloc (.cells #[.int .i64 id2,.int .i64 kd,.int .i64 io,.int .i64 pt,.int .i64 bk,.int .i64 sl,.string nm,.bool bt,.bool ot,.int .i64 af,.slice pa bl.length pc] 41)) 41 11 u6 (rowsK id (ts.take j) (m.ds.take j))):=HRR.out.1.of_heap fun k hk=>((Below.refl _ wr).alloc nR _).block k (HRR.out.1.lt k hk);have HTL:Hid ((rowsK id (ts.take j) (m.ds.take j)).length<=100000000000):=by
     have q:(rowsK id (ts.take j) (m.ds.take j)).length<=j:=by
      unfold rowsK;rw [List.length_map];refine Nat.le_trans (List.length_filter_le _ _) ?_;rw [List.length_zip,List.length_take,List.length_take];omega
     show _<=_;omega
    have HSTEP:Hid (∀ v' w',NOwns w' 41 11 v' (rowsK id (ts.take j) (m.ds.take j) ++ [(⟨id2,kd,io,pt,bk,sl,nm,bt,ot,af,bl⟩:Dp).row (.slice pa bl.length pc)])->(wr.alloc (.cells #[.int .i64 id2,.int .i64 kd,.int .i64 io,.int .i64 pt,.int .i64 bk,.int .i64 sl,.string nm,.bool bt,.bool ot,.int .i64 af,.slice pa bl.length pc] 41)).grownBy w' u6.ownBlock->(∀ k,v'.ownBlock=some k->u6.ownBlock=some k\/(wr.alloc (.cells #[.int .i64 id2,.int .i64 kd,.int .i64 io,.int .i64 pt,.int .i64 bk,.int .i64 sl,.string nm,.bool bt,.bool ot,.int .i64 af,.slice pa bl.length pc] 41)).heap.size<=k)->NOwns w' 41 11 v' (rowsK id (ts.take (j+1)) (m.ds.take (j+1)))/\(∀ k,v'.ownBlock=some k->w2.heap.size+1<=k)/\Below (w2.alloc (.cells #[.slice b1 m.xs.length d1,.slice b2 m.ys.length d2,.slice b3 m.is.length d3,.slice b4 m.bs.length d4,.slice b5 m.fs.length d5,.slice (some ⟨g,0,none⟩) m.ds.length d6,.int .i64 m.nx] 33)).heap.size (w2.alloc (.cells #[.slice b1 m.xs.length d1,.slice b2 m.ys.length d2,.slice b3 m.is.length d3,.slice b4 m.bs.length d4,.slice b5 m.fs.length d5,.slice (some ⟨g,0,none⟩) m.ds.length d6,.int .i64 m.nx] 33)) w'):=fun v' w' q1 q2 q3=>by
     obtain ⟨hn,hlo,hbl⟩:=HRR.out;have hsz:=hbl.size;have hs1:(w2.alloc (.cells #[.slice b1 m.xs.length d1,.slice b2 m.ys.length d2,.slice b3 m.is.length d3,.slice b4 m.bs.length d4,.slice b5 m.fs.length d5,.slice (some ⟨g,0,none⟩) m.ds.length d6,.int .i64 m.nx] 33)).heap.size=w2.heap.size+1:=by simp
     have:=HST.out;rw [if_neg (by exact hid)] at this;refine ⟨by rw [this];exact q1,fun k hk=>?_,?_⟩
     ·rcases q3 k hk with e | e
      ·exact hlo k e
      ·simp at e;omega
     ·exact (hbl.alloc hsz _).grown q2 (by simp at hsz ⊢;omega) (fun k hk=>by rw [hs1];exact hlo k hk)
    clear HRR HST;go_wp2_with (at_builtin;refine wpList_step fun K' hK'=>?_;refine zap _ rfl (.tmp 26) (.tmp 32) 31 rfl 41 Tryz.u31 _ 11 104 Tryz.i41 rfl (by decide) (by decide) u6 _ rfl HT.out wr.heap.size ((⟨id2,kd,io,pt,bk,sl,nm,bt,ot,af,bl⟩:Dp).row (.slice pa bl.length pc)) rfl rfl (fun i u hu=>(AtC.new wr 41 #[.int .i64 id2,.int .i64 kd,.int .i64 io,.int .i64 pt,.int .i64 bk,.int .i64 sl,.string nm,.bool bt,.bool ot,.int .i64 af,.slice pa bl.length pc]).at_ i u hu) (by simp [Dp.row,Value.oneCell']) HTL.out ?_;intro v12 w12 T12 G12 V12;refine hK' _ _ ?_;have HR12:=hide (HSTEP.out v12 w12 T12 G12 V12);clear T12 G12 V12 hK')
    go_roundw
    case rel=>exact ⟨j+1,by omega,by go_num,HR12.out⟩
    case measure=>simp [intOf];omega
  ·have hj2:j=m.ds.length:=by omega
   subst hj2;rw [List.take_length,show ts.take m.ds.length=ts by rw [← hln,List.take_length]] at hn;obtain ⟨ga,gc,rfl,-⟩:=hn.form;generalize hLN:(rowsK id ts m.ds).length=LN at *;have hs1:(w2.alloc (.cells #[.slice b1 m.xs.length d1,.slice b2 m.ys.length d2,.slice b3 m.is.length d3,.slice b4 m.bs.length d4,.slice b5 m.fs.length d5,.slice b6 m.ds.length d6,.int .i64 m.nx] 33)).heap.size=w2.heap.size+1:=by simp
   have HM:Hid (MO (((((((((wr.setCell ⟨w2.heap.size,5,none⟩ (.slice ga LN gc)).setCell ⟨w.heap.size+1,0,none⟩ (.slice b1 m.xs.length d1)).setCell ⟨w.heap.size+1,1,none⟩ (.slice b2 m.ys.length d2)).setCell ⟨w.heap.size+1,2,none⟩ (.slice b3 m.is.length d3)).setCell ⟨w.heap.size+1,3,none⟩ (.slice b4 m.bs.length d4)).setCell ⟨w.heap.size+1,4,none⟩ (.slice b5 m.fs.length d5)).setCell ⟨w.heap.size+1,5,none⟩ (.slice ga LN gc)).setCell ⟨w.heap.size+1,6,none⟩ (.int .i64 m.nx))) (fun k=>w.heap.size<=k) (.slice b1 m.xs.length d1) (.slice b2 m.ys.length d2) (.slice b3 m.is.length d3) (.slice b4 m.bs.length d4) (.slice b5 m.fs.length d5) (.slice ga LN gc) { m with ds:=za8 id m.ds }/\Below w.heap.size w (((((((((wr.setCell ⟨w2.heap.size,5,none⟩ (.slice ga LN gc)).setCell ⟨w.heap.size+1,0,none⟩ (.slice b1 m.xs.length d1)).setCell ⟨w.heap.size+1,1,none⟩ (.slice b2 m.ys.length d2)).setCell ⟨w.heap.size+1,2,none⟩ (.slice b3 m.is.length d3)).setCell ⟨w.heap.size+1,3,none⟩ (.slice b4 m.bs.length d4)).setCell ⟨w.heap.size+1,4,none⟩ (.slice b5 m.fs.length d5)).setCell ⟨w.heap.size+1,5,none⟩ (.slice ga LN gc)).setCell ⟨w.heap.size+1,6,none⟩ (.int .i64 m.nx)))):=by
    obtain ⟨k1,k2,k3,k4,k5,k6,k7⟩:=HKK.out;have bb:Below w2.heap.size w2 wr:=((Below.refl _ w2).alloc nR _).trans (hbl.mono (by simp));have G:=((k4.alloc (.cells #[.slice b1 m.xs.length d1,.slice b2 m.ys.length d2,.slice b3 m.is.length d3,.slice b4 m.bs.length d4,.slice b5 m.fs.length d5,.slice b6 m.ds.length d6,.int .i64 m.nx] 33)).keep id hn (fun k hk=>by rw [hs1];exact hlo k hk) hbl).mono (S':=fun k=>S3 k\/w2.heap.size+1<=k) (fun k hk=>hk.elim (fun e=>Or.inl e.1) (fun e=>Or.inr (by rw [hs1] at e;exact e)));have hoth:∀ k,k≠w.heap.size+1->k≠w2.heap.size->(((((((((wr.setCell ⟨w2.heap.size,5,none⟩ (.slice ga LN gc)).setCell ⟨w.heap.size+1,0,none⟩ (.slice b1 m.xs.length d1)).setCell ⟨w.heap.size+1,1,none⟩ (.slice b2 m.ys.length d2)).setCell ⟨w.heap.size+1,2,none⟩ (.slice b3 m.is.length d3)).setCell ⟨w.heap.size+1,3,none⟩ (.slice b4 m.bs.length d4)).setCell ⟨w.heap.size+1,4,none⟩ (.slice b5 m.fs.length d5)).setCell ⟨w.heap.size+1,5,none⟩ (.slice ga LN gc)).setCell ⟨w.heap.size+1,6,none⟩ (.int .i64 m.nx))).heap[k]?=wr.heap[k]?:=fun k _ _=>(((((((heap_setCell_other _ ⟨w.heap.size+1,6,none⟩ k _ (by show k≠w.heap.size+1;omega)).trans (heap_setCell_other _ ⟨w.heap.size+1,5,none⟩ k _ (by show k≠w.heap.size+1;omega))).trans (heap_setCell_other _ ⟨w.heap.size+1,4,none⟩ k _ (by show k≠w.heap.size+1;omega))).trans (heap_setCell_other _ ⟨w.heap.size+1,3,none⟩ k _ (by show k≠w.heap.size+1;omega))).trans (heap_setCell_other _ ⟨w.heap.size+1,2,none⟩ k _ (by show k≠w.heap.size+1;omega))).trans (heap_setCell_other _ ⟨w.heap.size+1,1,none⟩ k _ (by show k≠w.heap.size+1;omega))).trans (heap_setCell_other _ ⟨w.heap.size+1,0,none⟩ k _ (by show k≠w.heap.size+1;omega))).trans (heap_setCell_other _ ⟨w2.heap.size,5,none⟩ k _ (by show k≠w2.heap.size;omega));have h3:∀ k,(S3 k\/w2.heap.size+1<=k)->k≠w.heap.size+1/\k≠w2.heap.size/\w.heap.size<=k:=fun k hk=>by
     rcases hk with hk | hk
     ·have:=k7 k (.inr (.inr hk));omega
     ·omega
    refine ⟨⟨S1,S2,fun k=>S3 k\/w2.heap.size+1<=k,rowsK id ts m.ds,(k1.below bb nR).of_heap fun k hk _=>hoth k (by have:=k7 k (.inl hk);omega) (by have:=k7 k (.inl hk);omega),(k2.below bb nR).of_heap fun k hk=>hoth k (by have:=k7 k (.inr (.inl (k3 k hk)));omega) (by have:=k7 k (.inr (.inl (k3 k hk)));omega),k3,G.of_heap fun k hk _=>hoth k (h3 k hk).1 (h3 k hk).2.1,fun k hk=>⟨(k5 k hk).1,fun e=>?_⟩,fun k hk e=>?_,fun k hk=>?_⟩,((((((((q9.2.2.2).setCell (by show w.heap.size<=w2.heap.size;omega) _).setCell (by simp) _).setCell (by simp) _).setCell (by simp) _).setCell (by simp) _).setCell (by simp) _).setCell (by simp) _).setCell (by simp) _⟩
    ·rcases e with e | e
     ·exact (k5 k hk).2 e
     ·have:=k7 k (.inl hk);omega
    ·rcases e with e | e
     ·exact k6 k hk e
     ·have:=k7 k (.inr (.inl hk));omega
    ·rcases hk with hk | hk | hk
     ·have:=k7 k (.inl hk);show w.heap.size<=k;omega
     ·have:=k7 k (.inr (.inl hk));show w.heap.size<=k;omega
     ·exact (h3 k hk).2.2
   have r0:=q9.1.c0;have v0:=q9.1.frozen 0;have r1:=q9.1.c1;have v1:=q9.1.frozen 1;have r2:=q9.1.c2;have v2:=q9.1.frozen 2;have r3:=q9.1.c3;have v3:=q9.1.frozen 3;have r4:=q9.1.c4;have v4:=q9.1.frozen 4;have r5:=q9.1.c5;have v5:=q9.1.frozen 5;have r6:=q9.1.c6;have v6:=q9.1.frozen 6;obtain ⟨y0,y1,y2,y3,y4,y5,y6⟩:=AtC.sev q9.2.1;have z5:=q9.2.1.frozen 5;clear q9 hn hlo hbl HR HKK HS HB2;go_wp2;refine bodyPost_ret (v:=.agg #[.slice b1 m.xs.length d1,.slice b2 m.ys.length d2,.slice b3 m.is.length d3,.slice b4 m.bs.length d4,.slice b5 m.fs.length d5,.slice ga LN gc,.int .i64 m.nx]) (by simp [results,go_sem,r0,r1,r2,r3,r4,r5,r6]) rfl ⟨_,_,_,_,_,_,rfl,HM.out.1,HM.out.2⟩
namespace Kit
variable {Z : ZT}
theorem zd6 {w:World}{b:Nat}{T:TypeId}{x0 x1 x2 x3 x4 x5 x6:Value}(h:AtC w b T #[x0,x1,x2,x3,x4,x5,x6])(v0 v1 v2 v3 v4 v5 v6:Value) :
  AtC (((((((w.setCell ⟨b,0,none⟩ v0).setCell ⟨b,1,none⟩ v1).setCell ⟨b,2,none⟩ v2).setCell ⟨b,3,none⟩ v3).setCell ⟨b,4,none⟩ v4).setCell ⟨b,5,none⟩ v5).setCell ⟨b,6,none⟩ v6) b T #[v0,v1,v2,v3,v4,v5,v6]:=by
 have h0:AtC (w.setCell ⟨b,0,none⟩ v0) b T #[v0,x1,x2,x3,x4,x5,x6]:=h.set 0 v0;have h1:AtC ((w.setCell ⟨b,0,none⟩ v0).setCell ⟨b,1,none⟩ v1) b T #[v0,v1,x2,x3,x4,x5,x6]:=h0.set 1 v1;have h2:AtC (((w.setCell ⟨b,0,none⟩ v0).setCell ⟨b,1,none⟩ v1).setCell ⟨b,2,none⟩ v2) b T #[v0,v1,v2,x3,x4,x5,x6]:=h1.set 2 v2;have h3:=h2.set 3 v3;have h4:=h3.set 4 v4;have h5:=h4.set 5 v5;exact h5.set 6 v6
theorem zaa (w:World)(b:Nat)(v0 v1 v2 v3 v4 v5 v6:Value)(k:Nat)(hk:k≠b):(((((((w.setCell ⟨b,0,none⟩ v0).setCell ⟨b,1,none⟩ v1).setCell ⟨b,2,none⟩ v2).setCell ⟨b,3,none⟩ v3).setCell ⟨b,4,none⟩ v4).setCell ⟨b,5,none⟩ v5).setCell ⟨b,6,none⟩ v6).heap[k]?=w.heap[k]?:=by
 rw [heap_setCell_other _ ⟨b,6,none⟩ k _ hk,heap_setCell_other _ ⟨b,5,none⟩ k _ hk,heap_setCell_other _ ⟨b,4,none⟩ k _ hk,heap_setCell_other _ ⟨b,3,none⟩ k _ hk,heap_setCell_other _ ⟨b,2,none⟩ k _ hk,heap_setCell_other _ ⟨b,1,none⟩ k _ hk,heap_setCell_other _ ⟨b,0,none⟩ k _ hk]
theorem zab {w w':World}{B b:Nat}(h:Below B w w')(hb:B<=b)(v0 v1 v2 v3 v4 v5 v6:Value):Below B w (((((((w'.setCell ⟨b,0,none⟩ v0).setCell ⟨b,1,none⟩ v1).setCell ⟨b,2,none⟩ v2).setCell ⟨b,3,none⟩ v3).setCell ⟨b,4,none⟩ v4).setCell ⟨b,5,none⟩ v5).setCell ⟨b,6,none⟩ v6) :=
 ((((((h.setCell hb _).setCell hb _).setCell hb _).setCell hb _).setCell hb _).setCell hb _).setCell hb _
theorem PM.store {w:World}{S:Nat->Prop}{b:Nat}{x0 x1 x2 x3 x4 x5 x6 u v iv bv dv pv:Value}{m:MD}(h:AtC w b 33 #[x0,x1,x2,x3,x4,x5,x6])(ho:MO w S u v iv bv dv pv m)(hb:¬ S b) :
  PM (((((((w.setCell ⟨b,0,none⟩ u).setCell ⟨b,1,none⟩ v).setCell ⟨b,2,none⟩ iv).setCell ⟨b,3,none⟩ bv).setCell ⟨b,4,none⟩ dv).setCell ⟨b,5,none⟩ pv).setCell ⟨b,6,none⟩ (.int .i64 m.nx)) S b u v iv bv dv pv m :=
 ⟨zd6 h _ _ _ _ _ _ _,ho.of_heap fun k hk _=>zaa _ _ _ _ _ _ _ _ _ k fun e=>hb (e ▸ hk),hb⟩
end Kit
variable {Z : ZT}
theorem zc4 {m:MD}(h:Sh Z m)(id:Int):Sh Z { m with ds:=za8 id m.ds }:=h.deps (Nat.le_trans (List.length_filter_le _ _) h.l) (fun d hd=>h.dd d (List.mem_filter.1 hd).1) (zdy _ _)
theorem zi8 (L b:Nat)(x y:Int)(w:World)(h:BX Z w L b) :
  Calls Tryz.prog 111 #[.pointer (some ⟨b,0,none⟩),.int .i64 x,.int .i64 y] w fun e w'=>e=.returned (.tuple #[])/\BX Z w' L b/\Below L w w':=by
 obtain ⟨S,u,v,iv,bv,dv,pv,m,hP,hSL,hLb,hS⟩:=h;obtain ⟨a1,c1,a2,c2,a3,c3,a4,c4,a5,c5,a6,c6,rfl,rfl,rfl,rfl,rfl,rfl⟩:=hP.form;obtain ⟨x0,x1,x2,x3,x4,x5,x6⟩:=AtC.sev hP.box;have HP:=hide hP;have HS:=hide hS;have HLB:Hid (L<=b/\b < w.heap.size):=⟨hLb,hP.box.lt⟩
 have q5:w.frozen? ⟨b,0,none⟩=false:=hP.box.frozen 0;clear hP hS hSL hLb;go_enter Tryz.func111,Tryz.ntmps111
 go_wp2_with fail
 refine (zcv x _ _ _ _ _ _ m w HP.out.mr HS.out.big).mono ?_;rintro e w2 ⟨u1,u2,u3,u4,u5,u6,rfl,O2,B2⟩;obtain ⟨b1,d1,b2,d2,b3,d3,b4,d4,b5,d5,b6,d6,rfl,rfl,rfl,rfl,rfl,rfl⟩:=O2.mr.form;obtain ⟨n,hn⟩:∃ n,({ m with ds:=za8 x m.ds }:MD).ds.length=n:=⟨_,rfl⟩
 rw [hn] at O2;simp only [hn];have A2:=HP.out.box.over B2;have hn40:n<=40:=by rw [← hn];exact (zc4 HS.out x).l
 obtain ⟨W3,hW3⟩:∃ W3,(((((((w2.setCell ⟨b,0,none⟩ (.slice b1 m.xs.length d1)).setCell ⟨b,1,none⟩ (.slice b2 m.ys.length d2)).setCell ⟨b,2,none⟩ (.slice b3 m.is.length d3)).setCell ⟨b,3,none⟩ (.slice b4 m.bs.length d4)).setCell ⟨b,4,none⟩ (.slice b5 m.fs.length d5)).setCell ⟨b,5,none⟩ (.slice b6 n d6)).setCell ⟨b,6,none⟩ (.int .i64 m.nx))=W3:=⟨_,rfl⟩
 have HH:Hid (PM W3 (fun k=>w.heap.size<=k) b (.slice b1 m.xs.length d1) (.slice b2 m.ys.length d2) (.slice b3 m.is.length d3) (.slice b4 m.bs.length d4) (.slice b5 m.fs.length d5) (.slice b6 n d6) { m with ds:=za8 x m.ds }/\Sh Z { m with ds:=za8 x m.ds }/\({ m with ds:=za8 x m.ds }:MD).ds.length=n/\Below L w W3):=by
  rw [← hW3];exact ⟨PM.store A2 O2 (by have:=HLB.out;omega),zc4 HS.out x,hn,zab (B2.mono (by have:=HLB.out;omega)) HLB.out.1 _ _ _ _ _ _ _⟩
 have r0:=A2.c0;have v0:=A2.frozen 0;have r1:=A2.c1;have v1:=A2.frozen 1;have r2:=A2.c2;have v2:=A2.frozen 2;have r3:=A2.c3;have v3:=A2.frozen 3;have r4:=A2.c4;have v4:=A2.frozen 4;have r5:=A2.c5;have v5:=A2.frozen 5;have r6:=A2.c6;have v6:=A2.frozen 6;have y5:=HH.out.1.box.c5;clear A2 O2 B2 hn q5 x0 x1 x2 x3 x4 x5 x6;go_wp2;go_loopw [6] (fun i wr=>∃ j:Nat,j<=n/\i=.int .i64 j/\Hid (∃ m':MD,PM wr (fun k=>w.heap.size<=k) b (.slice b1 m.xs.length d1) (.slice b2 m.ys.length d2) (.slice b3 m.is.length d3) (.slice b4 m.bs.length d4) (.slice b5 m.fs.length d5) (.slice b6 n d6) m'/\Sh Z m'/\m'.ds.length=n/\Below L w wr)) (fun i _=>n - (intOf i).toNat)
 case atStart=>exact ⟨0,Nat.zero_le _,rfl,_,HH.out⟩
 case round =>
  obtain ⟨j,hj,rfl,HR⟩:=hrel;obtain ⟨m',q1,q2,q3,q4⟩:=HR.out;have y5:=q1.box.c5;by_cases hlt:j < n
  ·have hj2:j < m'.ds.length:=by omega
   have hdk:=q2.dd _ (List.getElem_mem hj2);obtain ⟨g,c,p,e1,nn,-,hz,gS,hglt,hset⟩:=q1.dep_at j hj2;rw [q3] at e1;simp only [Value.slice.injEq,true_and] at e1;obtain ⟨rfl,rfl⟩:=e1;obtain ⟨X,hX⟩:∃ X,m'.ds[j]=X:=⟨_,rfl⟩
   rw [hX] at nn hset hdk;obtain ⟨id,kd,io,pt,bk,sl,nm,bt,ot,af,bl⟩:=X;simp only [DCells] at nn;obtain ⟨-,n1,-,-,n4,-,-,-,-,n9,-⟩:=nn;have f9:=hz (j * 11+9);have H0:Hid (∃ M',PM wr (fun k=>w.heap.size<=k) b (.slice b1 m.xs.length d1) (.slice b2 m.ys.length d2) (.slice b3 m.is.length d3) (.slice b4 m.bs.length d4) (.slice b5 m.fs.length d5) (.slice (some ⟨g,0,none⟩) n d6) M'/\Sh Z M'/\M'.ds.length=n/\Below L w wr):=⟨m',q1,q2,q3,q4⟩
   have HE:Hid (∃ W9,wr.setCell ⟨g,j * 11+9,none⟩ (.int .i64 y)=W9/\W9.cell? ⟨b,5,none⟩=some (.slice (some ⟨g,0,none⟩) n d6)/\W9.cell? ⟨g,j * 11+4,none⟩=some (.int .i64 bk)/\Hid (∃ M',PM W9 (fun k=>w.heap.size<=k) b (.slice b1 m.xs.length d1) (.slice b2 m.ys.length d2) (.slice b3 m.is.length d3) (.slice b4 m.bs.length d4) (.slice b5 m.fs.length d5) (.slice (some ⟨g,0,none⟩) n d6) M'/\Sh Z M'/\M'.ds.length=n/\Below L w W9)):=by
    have P9:=hset 9 (.int .i64 y) (⟨id,kd,io,pt,bk,sl,nm,bt,ot,y,bl⟩:Dp) (by decide) rfl rfl;have hj9:j < (m'.ds.set j (⟨id,kd,io,pt,bk,sl,nm,bt,ot,y,bl⟩:Dp)).length:=by rw [List.length_set];exact hj2
    obtain ⟨g2,c2',p2,e2,nn2,-⟩:=P9.dep_at j hj9;have e3:({ m' with ds:=m'.ds.set j (⟨id,kd,io,pt,bk,sl,nm,bt,ot,y,bl⟩:Dp) }:MD).ds[j]'hj9=⟨id,kd,io,pt,bk,sl,nm,bt,ot,y,bl⟩:=by show (m'.ds.set j _)[j]'_=_;simp
    simp only [Value.slice.injEq,Option.some.injEq,Addr.mk.injEq,and_true] at e2;obtain ⟨rfl,-,-⟩:=e2;rw [e3] at nn2;simp only [DCells] at nn2;obtain ⟨-,-,-,-,z4,-⟩:=nn2;refine ⟨_,rfl,P9.box.cell 5,z4,_,P9,q2.deps (by rw [List.length_set];exact q2.l) (fun q hq=>(List.mem_or_eq_of_mem_set hq).elim (q2.dd q) (fun e=>e ▸ ⟨⟨hdk.io,hdk.pt,hdk.bk,hdk.sl,hdk.bl,hdk.bn,hdk.nm⟩,hdk.id⟩)) (zc2 _ j hj2 _ (by rw [hX];exact ⟨Iff.rfl,fun _=>⟨rfl,rfl⟩⟩)),by show (m'.ds.set j _).length=n;rw [List.length_set];exact q3,q4.setCell (Nat.le_trans (Nat.le_of_lt (Nat.lt_of_le_of_lt HLB.out.1 HLB.out.2)) gS) _⟩
   have j0:(0:Int)<=(j:Int):=by omega
   have j1:(j:Int) < (n:Int):=by omega
   clear q1 q2 q3 q4 HR hX hset hdk hz gS;by_cases h1:kd=4
   ·subst h1;by_cases h2:af=x
    ·subst h2;obtain ⟨W9,hW9,a5,a4',HW⟩:=HE.out;by_cases h3:y=0
     ·subst h3;obtain ⟨U,hU⟩:∃ U,uoB bk=U:=⟨_,rfl⟩
      have CU:Hid (∀ W,Calls Tryz.prog 101 #[.int .i64 bk] W fun e w'=>e=.returned (.int .i64 U)/\w'=W):=fun W=>by rw [← hU];exact za7 bk W
      clear hU;go_wp2_with fail
      refine (CU.out _).mono ?_;rintro e w9 ⟨rfl,rfl⟩;go_wp2_with fail
      obtain ⟨M',r1,r2,r3,r4⟩:=HW.out;refine (zbt _ b U _ _ _ _ _ _ M' _ r1).mono ?_;rintro e w10 ⟨rfl,P10,C10⟩;have HZ:Hid (∃ M',PM w10 (fun k=>w.heap.size<=k) b (.slice b1 m.xs.length d1) (.slice b2 m.ys.length d2) (.slice b3 m.is.length d3) (.slice b4 m.bs.length d4) (.slice b5 m.fs.length d5) (.slice (some ⟨g,0,none⟩) n d6) M'/\Sh Z M'/\M'.ds.length=n/\Below L w w10):=⟨_,P10,r2.mark U,by rw [show (markU U M').ds=M'.ds by unfold markU;split<;>rfl];exact r3,r4.trans (C10.below (Nat.le_trans (Nat.le_of_lt (Nat.lt_of_le_of_lt HLB.out.1 HLB.out.2)) r4.size) fun k hk=>Nat.le_trans (Nat.le_of_lt (Nat.lt_of_le_of_lt HLB.out.1 HLB.out.2)) hk)⟩
      clear r1 r2 r3 r4 P10 C10;go_wp2;go_roundw
      case rel=>exact ⟨j+1,by omega,by go_num,HZ.out⟩
      case measure=>simp [intOf];omega
     ·exact cQ121
    ·exact cQ44
   ·exact cQ44
  ·have HF:Hid (BX Z wr L b/\Below L w wr):=⟨⟨_,_,_,_,_,_,_,m',q1,fun k hk=>Nat.le_trans (Nat.le_of_lt (Nat.lt_of_le_of_lt HLB.out.1 HLB.out.2)) hk,HLB.out.1,q2⟩,q4⟩
   exact cQ102
theorem zfw (id kd io pt bk sl:Int)(nm:ByteArray)(bt ot:Bool)(af:Int)(bl:List Int)(p:Value)(u v iv bv dv pv:Value)(m:MD)(w:World)(h:MR w u v iv bv dv pv m)(hB:BigM 1048576 m)(hv:RInts w p bl)(hl:bl.length<=1048576)(hf:40<=m.ds.length) :
  Calls Tryz.prog 100 #[.agg #[u,v,iv,bv,dv,pv,.int .i64 m.nx],.agg #[.int .i64 id,.int .i64 kd,.int .i64 io,.int .i64 pt,.int .i64 bk,.int .i64 sl,.string nm,.bool bt,.bool ot,.int .i64 af,p]] w fun e w'=>∃ u' v' i' b' d' p',e=.returned (.tuple #[.agg #[u',v',i',b',d',p',.int .i64 m.nx],.int .i64 0])/\MO w' (fun k=>w.heap.size<=k) u' v' i' b' d' p' m/\Below w.heap.size w w':=by
 have H:=hide h;have HG:=hide hB;have HP:=hide hv;have HL:=hide hl;obtain ⟨a1,c1,a2,c2,a3,c3,a4,c4,a5,c5,a6,c6,rfl,rfl,rfl,rfl,rfl,rfl⟩:=h.form;obtain ⟨pa,pc,rfl⟩:=hv.form;clear h hB hv hl;have HC:Hid (∀ W,Below (((w.alloc (.cells #[.slice a1 m.xs.length c1,.slice a2 m.ys.length c2,.slice a3 m.is.length c3,.slice a4 m.bs.length c4,.slice a5 m.fs.length c5,.slice a6 m.ds.length c6,.int .i64 m.nx] 33)).alloc (.cells #[.int .i64 id,.int .i64 kd,.int .i64 io,.int .i64 pt,.int .i64 bk,.int .i64 sl,.string nm,.bool bt,.bool ot,.int .i64 af,.slice pa bl.length pc] 41)).alloc (.cells noM 33)).heap.size (((w.alloc (.cells #[.slice a1 m.xs.length c1,.slice a2 m.ys.length c2,.slice a3 m.is.length c3,.slice a4 m.bs.length c4,.slice a5 m.fs.length c5,.slice a6 m.ds.length c6,.int .i64 m.nx] 33)).alloc (.cells #[.int .i64 id,.int .i64 kd,.int .i64 io,.int .i64 pt,.int .i64 bk,.int .i64 sl,.string nm,.bool bt,.bool ot,.int .i64 af,.slice pa bl.length pc] 41)).alloc (.cells noM 33)) W->AtC W w.heap.size 33 #[.slice a1 m.xs.length c1,.slice a2 m.ys.length c2,.slice a3 m.is.length c3,.slice a4 m.bs.length c4,.slice a5 m.fs.length c5,.slice a6 m.ds.length c6,.int .i64 m.nx]/\AtC W (w.heap.size+1) 41 #[.int .i64 id,.int .i64 kd,.int .i64 io,.int .i64 pt,.int .i64 bk,.int .i64 sl,.string nm,.bool bt,.bool ot,.int .i64 af,.slice pa bl.length pc]/\AtC W (w.heap.size+1+1) 33 noM/\Below w.heap.size w W/\w.heap.size+1+1+1<=W.heap.size):=fun W b2=>by
  exact cQ7
 go_enter Tryz.func100,Tryz.ntmps100
 go_wp2_with fail
 refine (zau _ _ _ _ _ _ m _ (H.out.below (HC.out _ bR).2.2.2.1 nR) HG.out).mono ?_;rintro e w2 ⟨u1,u2,u3,u4,u5,u6,rfl,O2,B2⟩;obtain ⟨b1,d1,b2,d2,b3,d3,b4,d4,b5,d5,b6,d6,rfl,rfl,rfl,rfl,rfl,rfl⟩:=O2.mr.form;have hz2:=(HC.out w2 B2).2.2.2.2;have O3:=(O2.mono (S':=fun k=>w.heap.size+1+1+1<=k) (fun k hk=>by simp at hk;omega)).bound;have HS:Hid (AtC (w2.alloc (.cells #[.slice b1 m.xs.length d1,.slice b2 m.ys.length d2,.slice b3 m.is.length d3,.slice b4 m.bs.length d4,.slice b5 m.fs.length d5,.slice b6 m.ds.length d6,.int .i64 m.nx] 33)) w.heap.size 33 #[.slice a1 m.xs.length c1,.slice a2 m.ys.length c2,.slice a3 m.is.length c3,.slice a4 m.bs.length c4,.slice a5 m.fs.length c5,.slice a6 m.ds.length c6,.int .i64 m.nx]/\AtC (w2.alloc (.cells #[.slice b1 m.xs.length d1,.slice b2 m.ys.length d2,.slice b3 m.is.length d3,.slice b4 m.bs.length d4,.slice b5 m.fs.length d5,.slice b6 m.ds.length d6,.int .i64 m.nx] 33)) (w.heap.size+1) 41 #[.int .i64 id,.int .i64 kd,.int .i64 io,.int .i64 pt,.int .i64 bk,.int .i64 sl,.string nm,.bool bt,.bool ot,.int .i64 af,.slice pa bl.length pc]/\AtC (w2.alloc (.cells #[.slice b1 m.xs.length d1,.slice b2 m.ys.length d2,.slice b3 m.is.length d3,.slice b4 m.bs.length d4,.slice b5 m.fs.length d5,.slice b6 m.ds.length d6,.int .i64 m.nx] 33)) (w.heap.size+1+1) 33 noM/\AtC (w2.alloc (.cells #[.slice b1 m.xs.length d1,.slice b2 m.ys.length d2,.slice b3 m.is.length d3,.slice b4 m.bs.length d4,.slice b5 m.fs.length d5,.slice b6 m.ds.length d6,.int .i64 m.nx] 33)) w2.heap.size 33 #[.slice b1 m.xs.length d1,.slice b2 m.ys.length d2,.slice b3 m.is.length d3,.slice b4 m.bs.length d4,.slice b5 m.fs.length d5,.slice b6 m.ds.length d6,.int .i64 m.nx]/\MO (w2.alloc (.cells #[.slice b1 m.xs.length d1,.slice b2 m.ys.length d2,.slice b3 m.is.length d3,.slice b4 m.bs.length d4,.slice b5 m.fs.length d5,.slice b6 m.ds.length d6,.int .i64 m.nx] 33)) (fun k=>w.heap.size+1+1+1<=k/\k < w2.heap.size) (.slice b1 m.xs.length d1) (.slice b2 m.ys.length d2) (.slice b3 m.is.length d3) (.slice b4 m.bs.length d4) (.slice b5 m.fs.length d5) (.slice b6 m.ds.length d6) m/\Below w.heap.size w (w2.alloc (.cells #[.slice b1 m.xs.length d1,.slice b2 m.ys.length d2,.slice b3 m.is.length d3,.slice b4 m.bs.length d4,.slice b5 m.fs.length d5,.slice b6 m.ds.length d6,.int .i64 m.nx] 33))/\(w2.alloc (.cells #[.slice b1 m.xs.length d1,.slice b2 m.ys.length d2,.slice b3 m.is.length d3,.slice b4 m.bs.length d4,.slice b5 m.fs.length d5,.slice b6 m.ds.length d6,.int .i64 m.nx] 33)).heap.size=w2.heap.size+1):=by
  exact cQ32
 clear O2 O3 B2;have q1:=HS.out.1;have q3:=HS.out.2.2.1;have q4:=HS.out.2.2.2.1;have x0:=q1.c0;have x1:=q1.c1;have x2:=q1.c2;have x3:=q1.c3;have x4:=q1.c4;have x5:=q1.c5;have x6:=q1.c6;have r0:=q3.c0;have r1:=q3.c1;have r2:=q3.c2;have r3:=q3.c3;have r4:=q3.c4;have r5:=q3.c5;have r6:=q3.c6;have v0:=q3.frozen 0;have v1:=q3.frozen 1;have v2:=q3.frozen 2;have v3:=q3.frozen 3;have v4:=q3.frozen 4;have v5:=q3.frozen 5;have v6:=q3.frozen 6;have y0:=q4.c0;have y1:=q4.c1;have y2:=q4.c2;have y3:=q4.c3;have y4:=q4.c4;have y5:=q4.c5;have y6:=q4.c6;have HM:Hid (MO ((((((((w2.alloc (.cells #[.slice b1 m.xs.length d1,.slice b2 m.ys.length d2,.slice b3 m.is.length d3,.slice b4 m.bs.length d4,.slice b5 m.fs.length d5,.slice b6 m.ds.length d6,.int .i64 m.nx] 33)).setCell ⟨(w.heap.size+1+1),0,none⟩ (.slice b1 m.xs.length d1)).setCell ⟨(w.heap.size+1+1),1,none⟩ (.slice b2 m.ys.length d2)).setCell ⟨(w.heap.size+1+1),2,none⟩ (.slice b3 m.is.length d3)).setCell ⟨(w.heap.size+1+1),3,none⟩ (.slice b4 m.bs.length d4)).setCell ⟨(w.heap.size+1+1),4,none⟩ (.slice b5 m.fs.length d5)).setCell ⟨(w.heap.size+1+1),5,none⟩ (.slice b6 m.ds.length d6)).setCell ⟨(w.heap.size+1+1),6,none⟩ (.int .i64 m.nx)) (fun k=>w.heap.size<=k) (.slice b1 m.xs.length d1) (.slice b2 m.ys.length d2) (.slice b3 m.is.length d3) (.slice b4 m.bs.length d4) (.slice b5 m.fs.length d5) (.slice b6 m.ds.length d6) m/\Below w.heap.size w ((((((((w2.alloc (.cells #[.slice b1 m.xs.length d1,.slice b2 m.ys.length d2,.slice b3 m.is.length d3,.slice b4 m.bs.length d4,.slice b5 m.fs.length d5,.slice b6 m.ds.length d6,.int .i64 m.nx] 33)).setCell ⟨(w.heap.size+1+1),0,none⟩ (.slice b1 m.xs.length d1)).setCell ⟨(w.heap.size+1+1),1,none⟩ (.slice b2 m.ys.length d2)).setCell ⟨(w.heap.size+1+1),2,none⟩ (.slice b3 m.is.length d3)).setCell ⟨(w.heap.size+1+1),3,none⟩ (.slice b4 m.bs.length d4)).setCell ⟨(w.heap.size+1+1),4,none⟩ (.slice b5 m.fs.length d5)).setCell ⟨(w.heap.size+1+1),5,none⟩ (.slice b6 m.ds.length d6)).setCell ⟨(w.heap.size+1+1),6,none⟩ (.int .i64 m.nx))):=by
  exact cQ18
 clear q1 q3 q4 HS HC;have hf1:(40:Int)<=(m.ds.length:Int):=by omega
 go_wp2;refine bodyPost_ret (v:=.tuple #[.agg #[.slice b1 m.xs.length d1,.slice b2 m.ys.length d2,.slice b3 m.is.length d3,.slice b4 m.bs.length d4,.slice b5 m.fs.length d5,.slice b6 m.ds.length d6,.int .i64 m.nx],.int .i64 0]) (by simp [results,go_sem,r0,r1,r2,r3,r4,r5,r6]) rfl ⟨_,_,_,_,_,_,rfl,HM.out.1,HM.out.2⟩
theorem zfx (id kd io pt bk sl:Int)(nm:ByteArray)(bt ot:Bool)(af:Int)(bl:List Int)(p:Value)(u v iv bv dv pv:Value)(m:MD)(w:World)(h:MR w u v iv bv dv pv m)(hB:BigM 1048576 m)(hv:RInts w p bl)(hl:bl.length<=1048576)(hf:m.ds.length < 40)(hx:inB m.nx 1 99999=false) :
  Calls Tryz.prog 100 #[.agg #[u,v,iv,bv,dv,pv,.int .i64 m.nx],.agg #[.int .i64 id,.int .i64 kd,.int .i64 io,.int .i64 pt,.int .i64 bk,.int .i64 sl,.string nm,.bool bt,.bool ot,.int .i64 af,p]] w fun e w'=>∃ u' v' i' b' d' p',e=.returned (.tuple #[.agg #[u',v',i',b',d',p',.int .i64 m.nx],.int .i64 0])/\MO w' (fun k=>w.heap.size<=k) u' v' i' b' d' p' m/\Below w.heap.size w w':=by
 have H:=hide h;have HG:=hide hB;have HP:=hide hv;have HL:=hide hl;obtain ⟨a1,c1,a2,c2,a3,c3,a4,c4,a5,c5,a6,c6,rfl,rfl,rfl,rfl,rfl,rfl⟩:=h.form;obtain ⟨pa,pc,rfl⟩:=hv.form;clear h hB hv hl;have HC:Hid (∀ W,Below (((w.alloc (.cells #[.slice a1 m.xs.length c1,.slice a2 m.ys.length c2,.slice a3 m.is.length c3,.slice a4 m.bs.length c4,.slice a5 m.fs.length c5,.slice a6 m.ds.length c6,.int .i64 m.nx] 33)).alloc (.cells #[.int .i64 id,.int .i64 kd,.int .i64 io,.int .i64 pt,.int .i64 bk,.int .i64 sl,.string nm,.bool bt,.bool ot,.int .i64 af,.slice pa bl.length pc] 41)).alloc (.cells noM 33)).heap.size (((w.alloc (.cells #[.slice a1 m.xs.length c1,.slice a2 m.ys.length c2,.slice a3 m.is.length c3,.slice a4 m.bs.length c4,.slice a5 m.fs.length c5,.slice a6 m.ds.length c6,.int .i64 m.nx] 33)).alloc (.cells #[.int .i64 id,.int .i64 kd,.int .i64 io,.int .i64 pt,.int .i64 bk,.int .i64 sl,.string nm,.bool bt,.bool ot,.int .i64 af,.slice pa bl.length pc] 41)).alloc (.cells noM 33)) W->AtC W w.heap.size 33 #[.slice a1 m.xs.length c1,.slice a2 m.ys.length c2,.slice a3 m.is.length c3,.slice a4 m.bs.length c4,.slice a5 m.fs.length c5,.slice a6 m.ds.length c6,.int .i64 m.nx]/\AtC W (w.heap.size+1) 41 #[.int .i64 id,.int .i64 kd,.int .i64 io,.int .i64 pt,.int .i64 bk,.int .i64 sl,.string nm,.bool bt,.bool ot,.int .i64 af,.slice pa bl.length pc]/\AtC W (w.heap.size+1+1) 33 noM/\Below w.heap.size w W/\w.heap.size+1+1+1<=W.heap.size):=fun W b2=>by
  exact cQ7
 go_enter Tryz.func100,Tryz.ntmps100
 go_wp2_with fail
 refine (zau _ _ _ _ _ _ m _ (H.out.below (HC.out _ bR).2.2.2.1 nR) HG.out).mono ?_;rintro e w2 ⟨u1,u2,u3,u4,u5,u6,rfl,O2,B2⟩;obtain ⟨b1,d1,b2,d2,b3,d3,b4,d4,b5,d5,b6,d6,rfl,rfl,rfl,rfl,rfl,rfl⟩:=O2.mr.form;have hz2:=(HC.out w2 B2).2.2.2.2;have O3:=(O2.mono (S':=fun k=>w.heap.size+1+1+1<=k) (fun k hk=>by simp at hk;omega)).bound;have HS:Hid (AtC (w2.alloc (.cells #[.slice b1 m.xs.length d1,.slice b2 m.ys.length d2,.slice b3 m.is.length d3,.slice b4 m.bs.length d4,.slice b5 m.fs.length d5,.slice b6 m.ds.length d6,.int .i64 m.nx] 33)) w.heap.size 33 #[.slice a1 m.xs.length c1,.slice a2 m.ys.length c2,.slice a3 m.is.length c3,.slice a4 m.bs.length c4,.slice a5 m.fs.length c5,.slice a6 m.ds.length c6,.int .i64 m.nx]/\AtC (w2.alloc (.cells #[.slice b1 m.xs.length d1,.slice b2 m.ys.length d2,.slice b3 m.is.length d3,.slice b4 m.bs.length d4,.slice b5 m.fs.length d5,.slice b6 m.ds.length d6,.int .i64 m.nx] 33)) (w.heap.size+1) 41 #[.int .i64 id,.int .i64 kd,.int .i64 io,.int .i64 pt,.int .i64 bk,.int .i64 sl,.string nm,.bool bt,.bool ot,.int .i64 af,.slice pa bl.length pc]/\AtC (w2.alloc (.cells #[.slice b1 m.xs.length d1,.slice b2 m.ys.length d2,.slice b3 m.is.length d3,.slice b4 m.bs.length d4,.slice b5 m.fs.length d5,.slice b6 m.ds.length d6,.int .i64 m.nx] 33)) (w.heap.size+1+1) 33 noM/\AtC (w2.alloc (.cells #[.slice b1 m.xs.length d1,.slice b2 m.ys.length d2,.slice b3 m.is.length d3,.slice b4 m.bs.length d4,.slice b5 m.fs.length d5,.slice b6 m.ds.length d6,.int .i64 m.nx] 33)) w2.heap.size 33 #[.slice b1 m.xs.length d1,.slice b2 m.ys.length d2,.slice b3 m.is.length d3,.slice b4 m.bs.length d4,.slice b5 m.fs.length d5,.slice b6 m.ds.length d6,.int .i64 m.nx]/\MO (w2.alloc (.cells #[.slice b1 m.xs.length d1,.slice b2 m.ys.length d2,.slice b3 m.is.length d3,.slice b4 m.bs.length d4,.slice b5 m.fs.length d5,.slice b6 m.ds.length d6,.int .i64 m.nx] 33)) (fun k=>w.heap.size+1+1+1<=k/\k < w2.heap.size) (.slice b1 m.xs.length d1) (.slice b2 m.ys.length d2) (.slice b3 m.is.length d3) (.slice b4 m.bs.length d4) (.slice b5 m.fs.length d5) (.slice b6 m.ds.length d6) m/\Below w.heap.size w (w2.alloc (.cells #[.slice b1 m.xs.length d1,.slice b2 m.ys.length d2,.slice b3 m.is.length d3,.slice b4 m.bs.length d4,.slice b5 m.fs.length d5,.slice b6 m.ds.length d6,.int .i64 m.nx] 33))/\(w2.alloc (.cells #[.slice b1 m.xs.length d1,.slice b2 m.ys.length d2,.slice b3 m.is.length d3,.slice b4 m.bs.length d4,.slice b5 m.fs.length d5,.slice b6 m.ds.length d6,.int .i64 m.nx] 33)).heap.size=w2.heap.size+1):=by
  exact cQ32
 clear O2 O3 B2;have q1:=HS.out.1;have q3:=HS.out.2.2.1;have q4:=HS.out.2.2.2.1;have x0:=q1.c0;have x1:=q1.c1;have x2:=q1.c2;have x3:=q1.c3;have x4:=q1.c4;have x5:=q1.c5;have x6:=q1.c6;have r0:=q3.c0;have r1:=q3.c1;have r2:=q3.c2;have r3:=q3.c3;have r4:=q3.c4;have r5:=q3.c5;have r6:=q3.c6;have v0:=q3.frozen 0;have v1:=q3.frozen 1;have v2:=q3.frozen 2;have v3:=q3.frozen 3;have v4:=q3.frozen 4;have v5:=q3.frozen 5;have v6:=q3.frozen 6;have y0:=q4.c0;have y1:=q4.c1;have y2:=q4.c2;have y3:=q4.c3;have y4:=q4.c4;have y5:=q4.c5;have y6:=q4.c6;have HM:Hid (MO ((((((((w2.alloc (.cells #[.slice b1 m.xs.length d1,.slice b2 m.ys.length d2,.slice b3 m.is.length d3,.slice b4 m.bs.length d4,.slice b5 m.fs.length d5,.slice b6 m.ds.length d6,.int .i64 m.nx] 33)).setCell ⟨(w.heap.size+1+1),0,none⟩ (.slice b1 m.xs.length d1)).setCell ⟨(w.heap.size+1+1),1,none⟩ (.slice b2 m.ys.length d2)).setCell ⟨(w.heap.size+1+1),2,none⟩ (.slice b3 m.is.length d3)).setCell ⟨(w.heap.size+1+1),3,none⟩ (.slice b4 m.bs.length d4)).setCell ⟨(w.heap.size+1+1),4,none⟩ (.slice b5 m.fs.length d5)).setCell ⟨(w.heap.size+1+1),5,none⟩ (.slice b6 m.ds.length d6)).setCell ⟨(w.heap.size+1+1),6,none⟩ (.int .i64 m.nx)) (fun k=>w.heap.size<=k) (.slice b1 m.xs.length d1) (.slice b2 m.ys.length d2) (.slice b3 m.is.length d3) (.slice b4 m.bs.length d4) (.slice b5 m.fs.length d5) (.slice b6 m.ds.length d6) m/\Below w.heap.size w ((((((((w2.alloc (.cells #[.slice b1 m.xs.length d1,.slice b2 m.ys.length d2,.slice b3 m.is.length d3,.slice b4 m.bs.length d4,.slice b5 m.fs.length d5,.slice b6 m.ds.length d6,.int .i64 m.nx] 33)).setCell ⟨(w.heap.size+1+1),0,none⟩ (.slice b1 m.xs.length d1)).setCell ⟨(w.heap.size+1+1),1,none⟩ (.slice b2 m.ys.length d2)).setCell ⟨(w.heap.size+1+1),2,none⟩ (.slice b3 m.is.length d3)).setCell ⟨(w.heap.size+1+1),3,none⟩ (.slice b4 m.bs.length d4)).setCell ⟨(w.heap.size+1+1),4,none⟩ (.slice b5 m.fs.length d5)).setCell ⟨(w.heap.size+1+1),5,none⟩ (.slice b6 m.ds.length d6)).setCell ⟨(w.heap.size+1+1),6,none⟩ (.int .i64 m.nx))):=by
  exact cQ18
 clear q1 q3 q4 HS HC;have hf1:¬ ((40:Int)<=(m.ds.length:Int)):=by omega
 have HX:=hide hx;clear hx;go_wp2_with fail
 refine (zaj m.nx 1 99999 _).mono ?_;rintro e w3 ⟨rfl,rfl⟩;rw [HX.out];go_wp2;refine bodyPost_ret (v:=.tuple #[.agg #[.slice b1 m.xs.length d1,.slice b2 m.ys.length d2,.slice b3 m.is.length d3,.slice b4 m.bs.length d4,.slice b5 m.fs.length d5,.slice b6 m.ds.length d6,.int .i64 m.nx],.int .i64 0]) (by simp [results,go_sem,r0,r1,r2,r3,r4,r5,r6]) rfl ⟨_,_,_,_,_,_,rfl,HM.out.1,HM.out.2⟩
theorem put_fin {w w12:World}{b:Nat}{A0 A1 A2 A3 A4 A5:Value}{D:Array Value}{u v iv bv dv pv pv':Value}{nx:Int}{R:MD}(hb:w.heap.size+1+1+1<=b)
  (h:AtC w12 w.heap.size 33 #[A0,A1,A2,A3,A4,A5,.int .i64 nx]/\AtC w12 (w.heap.size+1) 41 D/\AtC w12 (w.heap.size+1+1) 33 noM/\AtC w12 b 33 #[u,v,iv,bv,dv,pv,.int .i64 nx]/\MO w12 (fun k=>w.heap.size+1+1+1<=k/\k≠b) u v iv bv dv pv' R/\Below w.heap.size w w12) (y:Int) :
  ∃ W13 W14,w12.setCell ⟨b,5,none⟩ pv'=W13/\W13.setCell ⟨b,6,none⟩ (.int .i64 y)=W14/\W13.cell? ⟨b,6,none⟩=some (.int .i64 nx)/\W13.frozen? ⟨b,6,none⟩=false/\W13.cell? ⟨w.heap.size,6,none⟩=some (.int .i64 nx)/\Hid (AtC W14 (w.heap.size+1) 41 D/\AtC W14 (w.heap.size+1+1) 33 noM/\AtC W14 b 33 #[u,v,iv,bv,dv,pv',.int .i64 y]/\MO W14 (fun k=>w.heap.size+1+1+1<=k/\k≠b) u v iv bv dv pv' R/\Below w.heap.size w W14):=by
 obtain ⟨k1,k2,k3,k4,k5,k6⟩:=h;have j4:AtC (w12.setCell ⟨b,5,none⟩ pv') b 33 #[u,v,iv,bv,dv,pv',.int .i64 nx]:=k4.set 5 pv';have i4:AtC ((w12.setCell ⟨b,5,none⟩ pv').setCell ⟨b,6,none⟩ (.int .i64 y)) b 33 #[u,v,iv,bv,dv,pv',.int .i64 y]:=j4.set 6 _;refine ⟨_,_,rfl,rfl,j4.cell 6,j4.frozen 6,(k1.other (by omega) _).cell 6,(k2.other (by omega) _).other (by omega) _,(k3.other (by omega) _).other (by omega) _,i4,k5.of_heap fun k hk _=>?_,(k6.setCell (by show w.heap.size<=b;omega) _).setCell (by show w.heap.size<=b;omega) _⟩;rw [heap_setCell_other _ ⟨b,6,none⟩ k _ (by show k≠b;omega),heap_setCell_other _ ⟨b,5,none⟩ k _ (by show k≠b;omega)]
theorem zg4 (w:World)(e:TypeId)(m:Nat):(w.alloc (.cells #[] e)).ownsRow w.heap.size e m (.slice (some ⟨w.heap.size,0,none⟩) 0 0) 0 []:=by
 have:=World.ownsRow_lit (base:=w.heap.size) (e:=e) (size:=m) w #[] 0 (by simp) (Nat.zero_le _) (by simp);simpa using this
theorem zg5 (id kd io pt bk sl:Int)(nm:ByteArray)(bt ot:Bool)(af:Int)(bl:List Int)(p:Value)(u v iv bv dv pv:Value)(m:MD)(w:World)(h:MR w u v iv bv dv pv m)(hB:BigM 1048576 m)(hv:RInts w p bl)(hl:bl.length<=1048576)(hf:m.ds.length < 40)(hx:inB m.nx 1 99999=true) :
  Calls Tryz.prog 100 #[.agg #[u,v,iv,bv,dv,pv,.int .i64 m.nx],.agg #[.int .i64 id,.int .i64 kd,.int .i64 io,.int .i64 pt,.int .i64 bk,.int .i64 sl,.string nm,.bool bt,.bool ot,.int .i64 af,p]] w fun e w'=>∃ u' v' i' b' d' p',e=.returned (.tuple #[.agg #[u',v',i',b',d',p',.int .i64 (m.nx+1)],.int .i64 m.nx])/\MO w' (fun k=>w.heap.size<=k) u' v' i' b' d' p' ({ m with ds:=m.ds ++ [(⟨m.nx,kd,io,pt,bk,sl,nm,bt,ot,af,bl⟩:Dp)],nx:=m.nx+1 }:MD)/\Below w.heap.size w w':=by
 have H:=hide h;have HG:=hide hB;have HP:=hide hv;have HL:=hide hl;obtain ⟨a1,c1,a2,c2,a3,c3,a4,c4,a5,c5,a6,c6,rfl,rfl,rfl,rfl,rfl,rfl⟩:=h.form;obtain ⟨pa,pc,rfl⟩:=hv.form;clear h hB hv hl;have HC:Hid (∀ W,Below (((w.alloc (.cells #[.slice a1 m.xs.length c1,.slice a2 m.ys.length c2,.slice a3 m.is.length c3,.slice a4 m.bs.length c4,.slice a5 m.fs.length c5,.slice a6 m.ds.length c6,.int .i64 m.nx] 33)).alloc (.cells #[.int .i64 id,.int .i64 kd,.int .i64 io,.int .i64 pt,.int .i64 bk,.int .i64 sl,.string nm,.bool bt,.bool ot,.int .i64 af,.slice pa bl.length pc] 41)).alloc (.cells noM 33)).heap.size (((w.alloc (.cells #[.slice a1 m.xs.length c1,.slice a2 m.ys.length c2,.slice a3 m.is.length c3,.slice a4 m.bs.length c4,.slice a5 m.fs.length c5,.slice a6 m.ds.length c6,.int .i64 m.nx] 33)).alloc (.cells #[.int .i64 id,.int .i64 kd,.int .i64 io,.int .i64 pt,.int .i64 bk,.int .i64 sl,.string nm,.bool bt,.bool ot,.int .i64 af,.slice pa bl.length pc] 41)).alloc (.cells noM 33)) W->AtC W w.heap.size 33 #[.slice a1 m.xs.length c1,.slice a2 m.ys.length c2,.slice a3 m.is.length c3,.slice a4 m.bs.length c4,.slice a5 m.fs.length c5,.slice a6 m.ds.length c6,.int .i64 m.nx]/\AtC W (w.heap.size+1) 41 #[.int .i64 id,.int .i64 kd,.int .i64 io,.int .i64 pt,.int .i64 bk,.int .i64 sl,.string nm,.bool bt,.bool ot,.int .i64 af,.slice pa bl.length pc]/\AtC W (w.heap.size+1+1) 33 noM/\Below w.heap.size w W/\w.heap.size+1+1+1<=W.heap.size):=fun W b2=>by
  exact cQ7
 go_enter Tryz.func100,Tryz.ntmps100
 go_wp2_with fail
 refine (zau _ _ _ _ _ _ m _ (H.out.below (HC.out _ bR).2.2.2.1 nR) HG.out).mono ?_;rintro e w2 ⟨u1,u2,u3,u4,u5,u6,rfl,O2,B2⟩;obtain ⟨b1,d1,b2,d2,b3,d3,b4,d4,b5,d5,b6,d6,rfl,rfl,rfl,rfl,rfl,rfl⟩:=O2.mr.form;have hz2:=(HC.out w2 B2).2.2.2.2;have O3:=(O2.mono (S':=fun k=>w.heap.size+1+1+1<=k) (fun k hk=>by simp at hk;omega)).bound;have HS:Hid (AtC (w2.alloc (.cells #[.slice b1 m.xs.length d1,.slice b2 m.ys.length d2,.slice b3 m.is.length d3,.slice b4 m.bs.length d4,.slice b5 m.fs.length d5,.slice b6 m.ds.length d6,.int .i64 m.nx] 33)) w.heap.size 33 #[.slice a1 m.xs.length c1,.slice a2 m.ys.length c2,.slice a3 m.is.length c3,.slice a4 m.bs.length c4,.slice a5 m.fs.length c5,.slice a6 m.ds.length c6,.int .i64 m.nx]/\AtC (w2.alloc (.cells #[.slice b1 m.xs.length d1,.slice b2 m.ys.length d2,.slice b3 m.is.length d3,.slice b4 m.bs.length d4,.slice b5 m.fs.length d5,.slice b6 m.ds.length d6,.int .i64 m.nx] 33)) (w.heap.size+1) 41 #[.int .i64 id,.int .i64 kd,.int .i64 io,.int .i64 pt,.int .i64 bk,.int .i64 sl,.string nm,.bool bt,.bool ot,.int .i64 af,.slice pa bl.length pc]/\AtC (w2.alloc (.cells #[.slice b1 m.xs.length d1,.slice b2 m.ys.length d2,.slice b3 m.is.length d3,.slice b4 m.bs.length d4,.slice b5 m.fs.length d5,.slice b6 m.ds.length d6,.int .i64 m.nx] 33)) (w.heap.size+1+1) 33 noM/\AtC (w2.alloc (.cells #[.slice b1 m.xs.length d1,.slice b2 m.ys.length d2,.slice b3 m.is.length d3,.slice b4 m.bs.length d4,.slice b5 m.fs.length d5,.slice b6 m.ds.length d6,.int .i64 m.nx] 33)) w2.heap.size 33 #[.slice b1 m.xs.length d1,.slice b2 m.ys.length d2,.slice b3 m.is.length d3,.slice b4 m.bs.length d4,.slice b5 m.fs.length d5,.slice b6 m.ds.length d6,.int .i64 m.nx]/\MO (w2.alloc (.cells #[.slice b1 m.xs.length d1,.slice b2 m.ys.length d2,.slice b3 m.is.length d3,.slice b4 m.bs.length d4,.slice b5 m.fs.length d5,.slice b6 m.ds.length d6,.int .i64 m.nx] 33)) (fun k=>w.heap.size+1+1+1<=k/\k < w2.heap.size) (.slice b1 m.xs.length d1) (.slice b2 m.ys.length d2) (.slice b3 m.is.length d3) (.slice b4 m.bs.length d4) (.slice b5 m.fs.length d5) (.slice b6 m.ds.length d6) m/\Below w.heap.size w (w2.alloc (.cells #[.slice b1 m.xs.length d1,.slice b2 m.ys.length d2,.slice b3 m.is.length d3,.slice b4 m.bs.length d4,.slice b5 m.fs.length d5,.slice b6 m.ds.length d6,.int .i64 m.nx] 33))/\(w2.alloc (.cells #[.slice b1 m.xs.length d1,.slice b2 m.ys.length d2,.slice b3 m.is.length d3,.slice b4 m.bs.length d4,.slice b5 m.fs.length d5,.slice b6 m.ds.length d6,.int .i64 m.nx] 33)).heap.size=w2.heap.size+1):=by
  exact cQ32
 clear O2 O3 B2;have hf1:¬ ((40:Int)<=(m.ds.length:Int)):=by omega
 have HX:=hide hx;obtain ⟨nx1,nx2⟩:=zao hx;clear hx;have q1:=HS.out.1;have q2:=HS.out.2.1;have x0:=q1.c0;have x1:=q1.c1;have x2:=q1.c2;have x3:=q1.c3;have x4:=q1.c4;have x5:=q1.c5;have x6:=q1.c6;have dd0:=q2.c0;have dd1:=q2.c1;have dd2:=q2.c2;have dd3:=q2.c3;have dd4:=q2.c4;have dd5:=q2.c5;have dd6:=q2.c6;have dd7:=q2.c7;have dd8:=q2.c8;have dd9:=q2.c9;have dd10:=q2.c10;have f0:=q2.frozen 0;clear q1 q2;go_wp2_with fail
 refine (zaj m.nx 1 99999 _).mono ?_;rintro e w3 ⟨rfl,rfl⟩;rw [HX.out];obtain ⟨W5,hW5⟩:∃ W5,(w2.alloc (.cells #[.slice b1 m.xs.length d1,.slice b2 m.ys.length d2,.slice b3 m.is.length d3,.slice b4 m.bs.length d4,.slice b5 m.fs.length d5,.slice b6 m.ds.length d6,.int .i64 m.nx] 33)).setCell ⟨w.heap.size+1,0,none⟩ (.int .i64 m.nx)=W5:=⟨_,rfl⟩
 obtain ⟨b,hb⟩:∃ b,w2.heap.size=b:=⟨_,rfl⟩
 have H5:Hid (AtC W5 w.heap.size 33 #[.slice a1 m.xs.length c1,.slice a2 m.ys.length c2,.slice a3 m.is.length c3,.slice a4 m.bs.length c4,.slice a5 m.fs.length c5,.slice a6 m.ds.length c6,.int .i64 m.nx]/\AtC W5 (w.heap.size+1) 41 #[.int .i64 m.nx,.int .i64 kd,.int .i64 io,.int .i64 pt,.int .i64 bk,.int .i64 sl,.string nm,.bool bt,.bool ot,.int .i64 af,.slice pa bl.length pc]/\AtC W5 (w.heap.size+1+1) 33 noM/\AtC W5 b 33 #[.slice b1 m.xs.length d1,.slice b2 m.ys.length d2,.slice b3 m.is.length d3,.slice b4 m.bs.length d4,.slice b5 m.fs.length d5,.slice b6 m.ds.length d6,.int .i64 m.nx]/\MO W5 (fun k=>w.heap.size+1+1+1<=k/\k < b) (.slice b1 m.xs.length d1) (.slice b2 m.ys.length d2) (.slice b3 m.is.length d3) (.slice b4 m.bs.length d4) (.slice b5 m.fs.length d5) (.slice b6 m.ds.length d6) m/\Below w.heap.size w W5/\W5.heap.size=b+1/\w.heap.size+1+1+1<=b):=by
  obtain ⟨k1,k2,k3,k4,k5,k6,k7⟩:=HS.out;rw [← hW5,← hb];exact ⟨k1.other (by omega) _,k2.set 0 _,k3.other (by omega) _,k4.other (by omega) _,k5.of_heap fun k hk _=>heap_setCell_other _ ⟨w.heap.size+1,0,none⟩ k _ (by show k≠w.heap.size+1;omega),k6.setCell (by simp) _,by rw [← k7];simp,hz2⟩
 have HPR:Hid (RInts (W5.alloc (.cells #[] 3)) (.slice pa bl.length pc) bl):=((HP.out.below H5.out.2.2.2.2.2.1 nR)).alloc _;have HPL:Hid (bl.length<=100000000000):=Nat.le_trans HL.out (by decide);have HSTEP:Hid (∀ (v9:Value) (w9:World),w9.ownsRow W5.heap.size 3 1 v9 bl.length (ic bl)->(W5.alloc (.cells #[] 3)).grownBy w9 (Value.slice (some ⟨W5.heap.size,0,none⟩) 0 0).ownBlock->∃ pb pd W10 ts,v9=.slice pb bl.length pd/\w9.setCell ⟨w.heap.size+1,10,none⟩ (.slice pb bl.length pd)=W10/\AtC w9 (w.heap.size+1) 41 #[.int .i64 m.nx,.int .i64 kd,.int .i64 io,.int .i64 pt,.int .i64 bk,.int .i64 sl,.string nm,.bool bt,.bool ot,.int .i64 af,.slice pa bl.length pc]/\AtC W10 (w.heap.size+1) 41 #[.int .i64 m.nx,.int .i64 kd,.int .i64 io,.int .i64 pt,.int .i64 bk,.int .i64 sl,.string nm,.bool bt,.bool ot,.int .i64 af,.slice pb bl.length pd]/\W10.cell? ⟨b,5,none⟩=some (.slice b6 m.ds.length d6)/\AtC (W10.alloc (.cells #[.int .i64 m.nx,.int .i64 kd,.int .i64 io,.int .i64 pt,.int .i64 bk,.int .i64 sl,.string nm,.bool bt,.bool ot,.int .i64 af,.slice pb bl.length pd] 41)) W10.heap.size 41 #[.int .i64 m.nx,.int .i64 kd,.int .i64 io,.int .i64 pt,.int .i64 bk,.int .i64 sl,.string nm,.bool bt,.bool ot,.int .i64 af,.slice pb bl.length pd]/\NOwns (W10.alloc (.cells #[.int .i64 m.nx,.int .i64 kd,.int .i64 io,.int .i64 pt,.int .i64 bk,.int .i64 sl,.string nm,.bool bt,.bool ot,.int .i64 af,.slice pb bl.length pd] 41)) 41 11 (.slice b6 m.ds.length d6) ts/\ts.length=m.ds.length /\
   ∀ v' w',NOwns w' 41 11 v' (ts ++ [(⟨m.nx,kd,io,pt,bk,sl,nm,bt,ot,af,bl⟩:Dp).row (.slice pb bl.length pd)])->(W10.alloc (.cells #[.int .i64 m.nx,.int .i64 kd,.int .i64 io,.int .i64 pt,.int .i64 bk,.int .i64 sl,.string nm,.bool bt,.bool ot,.int .i64 af,.slice pb bl.length pd] 41)).grownBy w' (Value.slice b6 m.ds.length d6).ownBlock->(∀ k,v'.ownBlock=some k->(Value.slice b6 m.ds.length d6).ownBlock=some k\/(W10.alloc (.cells #[.int .i64 m.nx,.int .i64 kd,.int .i64 io,.int .i64 pt,.int .i64 bk,.int .i64 sl,.string nm,.bool bt,.bool ot,.int .i64 af,.slice pb bl.length pd] 41)).heap.size<=k) ->
    AtC w' w.heap.size 33 #[.slice a1 m.xs.length c1,.slice a2 m.ys.length c2,.slice a3 m.is.length c3,.slice a4 m.bs.length c4,.slice a5 m.fs.length c5,.slice a6 m.ds.length c6,.int .i64 m.nx]/\AtC w' (w.heap.size+1) 41 #[.int .i64 m.nx,.int .i64 kd,.int .i64 io,.int .i64 pt,.int .i64 bk,.int .i64 sl,.string nm,.bool bt,.bool ot,.int .i64 af,.slice pb bl.length pd]/\AtC w' (w.heap.size+1+1) 33 noM/\AtC w' b 33 #[.slice b1 m.xs.length d1,.slice b2 m.ys.length d2,.slice b3 m.is.length d3,.slice b4 m.bs.length d4,.slice b5 m.fs.length d5,.slice b6 m.ds.length d6,.int .i64 m.nx]/\MO w' (fun k=>w.heap.size+1+1+1<=k/\k≠b) (.slice b1 m.xs.length d1) (.slice b2 m.ys.length d2) (.slice b3 m.is.length d3) (.slice b4 m.bs.length d4) (.slice b5 m.fs.length d5) v' ({ m with ds:=m.ds ++ [(⟨m.nx,kd,io,pt,bk,sl,nm,bt,ot,af,bl⟩:Dp)],nx:=m.nx+1 }:MD)/\Below w.heap.size w w'):=fun v9 w9 R1 R2=>by
  obtain ⟨k1,k2,k3,k4,k5,k6,k7,k8⟩:=H5.out;obtain ⟨pb,pd,rfl⟩:∃ pb pd,v9=.slice pb bl.length pd:=by
   exact cQ66
  have O9:ROwns w9 W5.heap.size 3 (.slice pb bl.length pd) (ic bl):=by unfold ROwns;rw [zaf];exact R1
  have B9:Below W5.heap.size W5 w9:=za1 ((Below.refl _ W5).alloc nR _) (by simp) R2 (fun k hk=>by simp [Value.ownBlock] at hk;omega);have hs9:=B9.size;have K9:=k2.over B9;have O10:ROwns ((w9.setCell ⟨w.heap.size+1,10,none⟩ (.slice pb bl.length pd)).alloc (.cells #[.int .i64 m.nx,.int .i64 kd,.int .i64 io,.int .i64 pt,.int .i64 bk,.int .i64 sl,.string nm,.bool bt,.bool ot,.int .i64 af,.slice pb bl.length pd] 41)) W5.heap.size 3 (.slice pb bl.length pd) (ic bl):=(O9.setCell_other (by omega) _).alloc _;have hm:∀ k,(w.heap.size+1+1+1<=k/\k < b)->k < W5.heap.size->((w9.setCell ⟨w.heap.size+1,10,none⟩ (.slice pb bl.length pd)).alloc (.cells #[.int .i64 m.nx,.int .i64 kd,.int .i64 io,.int .i64 pt,.int .i64 bk,.int .i64 sl,.string nm,.bool bt,.bool ot,.int .i64 af,.slice pb bl.length pd] 41)).heap[k]?=W5.heap[k]?:=fun k hk hlt=>by
   have e1:((w9.setCell ⟨w.heap.size+1,10,none⟩ (.slice pb bl.length pd)).alloc (.cells #[.int .i64 m.nx,.int .i64 kd,.int .i64 io,.int .i64 pt,.int .i64 bk,.int .i64 sl,.string nm,.bool bt,.bool ot,.int .i64 af,.slice pb bl.length pd] 41)).heap[k]?=(w9.setCell ⟨w.heap.size+1,10,none⟩ (.slice pb bl.length pd)).heap[k]?:=(bR.alloc nR _).block k (by simp;omega);rw [e1,heap_setCell_other _ ⟨w.heap.size+1,10,none⟩ k _ (by show k≠w.heap.size+1;omega)];exact B9.block k hlt
  obtain ⟨ts,t1,t2,t3⟩:=(k5.of_heap hm).appE;have hz:((w9.setCell ⟨w.heap.size+1,10,none⟩ (.slice pb bl.length pd)).alloc (.cells #[.int .i64 m.nx,.int .i64 kd,.int .i64 io,.int .i64 pt,.int .i64 bk,.int .i64 sl,.string nm,.bool bt,.bool ot,.int .i64 af,.slice pb bl.length pd] 41)).heap.size=w9.heap.size+1:=by simp
  refine ⟨pb,pd,_,ts,rfl,rfl,K9,K9.set 10 _,((k4.over B9).other (by omega) _).cell 5,AtC.new _ 41 _,t1,t2,fun v' w' h1 h2 h3=>?_⟩;have hown:∀ k,(Value.slice b6 m.ds.length d6).ownBlock=some k->w.heap.size+1+1+1<=k/\k < b:=fun k hk=>MO.soP k5 k hk;have hst:∀ (q T:Nat) (cs:Array Value),q < W5.heap.size->¬ (w.heap.size+1+1+1<=q/\q < b)->AtC ((w9.setCell ⟨w.heap.size+1,10,none⟩ (.slice pb bl.length pd)).alloc (.cells #[.int .i64 m.nx,.int .i64 kd,.int .i64 io,.int .i64 pt,.int .i64 bk,.int .i64 sl,.string nm,.bool bt,.bool ot,.int .i64 af,.slice pb bl.length pd] 41)) q T cs->AtC w' q T cs:=fun q T cs hq hn h=>h.grown h2 (fun e=>hn (hown q e));refine ⟨hst _ _ _ (by omega) (by omega) (((k1.over B9).other (by omega) _).alloc _),hst _ _ _ (by omega) (by omega) ((K9.set 10 _).alloc _),hst _ _ _ (by omega) (by omega) (((k3.over B9).other (by omega) _).alloc _),hst _ _ _ (by omega) (by omega) (((k4.over B9).other (by omega) _).alloc _),(t3 w' v' _ (⟨m.nx,kd,io,pt,bk,sl,nm,bt,ot,af,bl⟩:Dp) ⟨_,rfl,O10.base_le (Nat.zero_le _)⟩ (fun k hk=>by have:=(O10.lt k hk).1;omega) h1 h2 h3 _).mono fun k hk=>?_,?_⟩
  ·rcases hk with hk | hk | hk
   ·omega
   ·have:=(O10.lt k hk).1;omega
   ·rw [hz] at hk;omega
  ·exact (((k6.trans (B9.mono k6.size)).setCell (by simp) _).alloc (by simp;omega) _).grown h2 (by simp;omega) (fun k hk=>by have:=hown k hk;omega)
 have hb3:w.heap.size+1+1+1<=b:=H5.out.2.2.2.2.2.2.2;have g6:=H5.out.1;have x6':=g6.c6;have d10':=H5.out.2.1.c10;have d10a:(W5.alloc (.cells #[] 3)).cell? ⟨w.heap.size+1,10,none⟩=some (.slice pa bl.length pc):=(H5.out.2.1.alloc _).cell 10;clear g6 HS HC hz2;go_wp2_with (first | (at_builtin;refine zah _ rfl _ _ 35 rfl W5.heap.size 3 Tryz.underlying35 _ 1 8 Tryz.i3 rfl (by decide) (by decide) (.slice (some ⟨W5.heap.size,0,none⟩) 0 0) rfl (zg4 W5 3 1) (by simp) _ rfl bl.length (ic bl) HPR.out.rc (by rw [zaf,Nat.mul_one]) (zgx bl) HPL.out ?_;intro v9 w9 R1 R2 R3;obtain ⟨pb,pd,W10,ts,rfl,hW10,K9,K10,cb5,K11,T11,L11,S11⟩:=HSTEP.out v9 w9 R1 R2;have y10:w9.cell? ⟨w.heap.size+1,10,none⟩=some (.slice pa bl.length pc):=K9.cell 10;have yf:=K9.frozen 10;have kc0:W10.cell? ⟨w.heap.size+1,0,none⟩=some (.int .i64 m.nx):=K10.cell 0;have kc1:W10.cell? ⟨w.heap.size+1,1,none⟩=some (.int .i64 kd):=K10.cell 1;have kc2:W10.cell? ⟨w.heap.size+1,2,none⟩=some (.int .i64 io):=K10.cell 2;have kc3:W10.cell? ⟨w.heap.size+1,3,none⟩=some (.int .i64 pt):=K10.cell 3;have kc4:W10.cell? ⟨w.heap.size+1,4,none⟩=some (.int .i64 bk):=K10.cell 4;have kc5:W10.cell? ⟨w.heap.size+1,5,none⟩=some (.int .i64 sl):=K10.cell 5;have kc6:W10.cell? ⟨w.heap.size+1,6,none⟩=some (.string nm):=K10.cell 6;have kc7:W10.cell? ⟨w.heap.size+1,7,none⟩=some (.bool bt):=K10.cell 7;have kc8:W10.cell? ⟨w.heap.size+1,8,none⟩=some (.bool ot):=K10.cell 8;have kc9:W10.cell? ⟨w.heap.size+1,9,none⟩=some (.int .i64 af):=K10.cell 9;have kc10:W10.cell? ⟨w.heap.size+1,10,none⟩=some (.slice pb bl.length pd):=K10.cell 10;have HK11:=hide K11;have HT11:=hide T11;have HS11:=hide S11;have HL11:Hid (ts.length<=100000000000):=(by have:=L11;show ts.length<=_;omega);have HLL:=hide L11;clear R1 R2 R3 K9 K10 K11 T11 S11 L11) | (at_builtin;refine wpList_step fun K' hK'=>?_;refine zap _ rfl (.tmp 29) (.tmp 31) 31 rfl 41 Tryz.u31 _ 11 104 Tryz.i41 rfl (by decide) (by decide) (.slice b6 m.ds.length d6) ts rfl HT11.out W10.heap.size ((⟨m.nx,kd,io,pt,bk,sl,nm,bt,ot,af,bl⟩:Dp).row (.slice pb bl.length pd)) rfl rfl (fun i u hu=>(HK11.out.at_ i u hu)) (by simp [Dp.row,Value.oneCell']) HL11.out ?_;intro v12 w12 T12 G12 V12;refine hK' _ _ ?_;have D12:=HS11.out v12 w12 T12 G12 V12;obtain ⟨g12,c12,rfl,-⟩:=T12.form;generalize (ts ++ [(⟨m.nx,kd,io,pt,bk,sl,nm,bt,ot,af,bl⟩:Dp).row (.slice pb bl.length pd)]).length=LL at *;have z5:w12.cell? ⟨b,5,none⟩=some (.slice b6 m.ds.length d6):=D12.2.2.2.1.cell 5;have zf5:=D12.2.2.2.1.frozen 5;obtain ⟨W13,W14,hW13,hW14,y6,zf6,x6b,HF⟩:=put_fin hb3 D12 (m.nx+1);clear T12 G12 V12 D12 hK'))
 have j2:=HF.out.1;have j3:=HF.out.2.1;have j4:=HF.out.2.2.1;have i0:=j2.c0;obtain ⟨y0,y1,y2,y3,y4,y5,y6⟩:=AtC.sev j4;obtain ⟨r0,r1,r2,r3,r4,r5,r6⟩:=AtC.sev j3;have v0:=j3.frozen 0;have v1:=j3.frozen 1;have v2:=j3.frozen 2;have v3:=j3.frozen 3;have v4:=j3.frozen 4;have v5:=j3.frozen 5;have v6:=j3.frozen 6;have HM:Hid (MO ((((((((W14.setCell ⟨(w.heap.size+1+1),0,none⟩ (.slice b1 m.xs.length d1)).setCell ⟨(w.heap.size+1+1),1,none⟩ (.slice b2 m.ys.length d2)).setCell ⟨(w.heap.size+1+1),2,none⟩ (.slice b3 m.is.length d3)).setCell ⟨(w.heap.size+1+1),3,none⟩ (.slice b4 m.bs.length d4)).setCell ⟨(w.heap.size+1+1),4,none⟩ (.slice b5 m.fs.length d5)).setCell ⟨(w.heap.size+1+1),5,none⟩ (.slice g12 LL c12)).setCell ⟨(w.heap.size+1+1),6,none⟩ (.int .i64 (m.nx+1)))).drew (fun k=>w.heap.size<=k) (.slice b1 m.xs.length d1) (.slice b2 m.ys.length d2) (.slice b3 m.is.length d3) (.slice b4 m.bs.length d4) (.slice b5 m.fs.length d5) (.slice g12 LL c12) ({ m with ds:=m.ds ++ [(⟨m.nx,kd,io,pt,bk,sl,nm,bt,ot,af,bl⟩:Dp)],nx:=m.nx+1 }:MD)/\Below w.heap.size w ((((((((W14.setCell ⟨(w.heap.size+1+1),0,none⟩ (.slice b1 m.xs.length d1)).setCell ⟨(w.heap.size+1+1),1,none⟩ (.slice b2 m.ys.length d2)).setCell ⟨(w.heap.size+1+1),2,none⟩ (.slice b3 m.is.length d3)).setCell ⟨(w.heap.size+1+1),3,none⟩ (.slice b4 m.bs.length d4)).setCell ⟨(w.heap.size+1+1),4,none⟩ (.slice b5 m.fs.length d5)).setCell ⟨(w.heap.size+1+1),5,none⟩ (.slice g12 LL c12)).setCell ⟨(w.heap.size+1+1),6,none⟩ (.int .i64 (m.nx+1)))).drew):=by
  exact ⟨(((HF.out.2.2.2.1.of_heap fun k hk _=>((((((heap_setCell_other _ ⟨(w.heap.size+1+1),6,none⟩ k _ (by show k≠(w.heap.size+1+1);omega)).trans (heap_setCell_other _ ⟨(w.heap.size+1+1),5,none⟩ k _ (by show k≠(w.heap.size+1+1);omega))).trans (heap_setCell_other _ ⟨(w.heap.size+1+1),4,none⟩ k _ (by show k≠(w.heap.size+1+1);omega))).trans (heap_setCell_other _ ⟨(w.heap.size+1+1),3,none⟩ k _ (by show k≠(w.heap.size+1+1);omega))).trans (heap_setCell_other _ ⟨(w.heap.size+1+1),2,none⟩ k _ (by show k≠(w.heap.size+1+1);omega))).trans (heap_setCell_other _ ⟨(w.heap.size+1+1),1,none⟩ k _ (by show k≠(w.heap.size+1+1);omega))).trans (heap_setCell_other _ ⟨(w.heap.size+1+1),0,none⟩ k _ (by show k≠(w.heap.size+1+1);omega))).mono fun k hk=>by omega).below bR.drew nR),((((((((HF.out.2.2.2.2).setCell (by show w.heap.size<=w.heap.size+1+1;omega) _).setCell (by show w.heap.size<=w.heap.size+1+1;omega) _).setCell (by show w.heap.size<=w.heap.size+1+1;omega) _).setCell (by show w.heap.size<=w.heap.size+1+1;omega) _).setCell (by show w.heap.size<=w.heap.size+1+1;omega) _).setCell (by show w.heap.size<=w.heap.size+1+1;omega) _).setCell (by show w.heap.size<=w.heap.size+1+1;omega) _).drew⟩
 clear j2 j3 j4 HF H5 HSTEP HPR HPL HK11 HT11 HS11 HL11 HLL
 go_region
 go_wp2;refine bodyPost_ret (v:=.tuple #[.agg #[.slice b1 m.xs.length d1,.slice b2 m.ys.length d2,.slice b3 m.is.length d3,.slice b4 m.bs.length d4,.slice b5 m.fs.length d5,.slice g12 LL c12,.int .i64 (m.nx+1)],.int .i64 m.nx]) (by simp [results,go_sem,r0,r1,r2,r3,r4,r5,r6]) rfl ⟨_,_,_,_,_,_,rfl,HM.out.1,HM.out.2⟩
namespace Kit
variable {Z : ZT}
theorem zal {P:Program}(W:World){ops:Array Oper}{o:Oper}{a:Act}{K:Act->World->Prop}{Q:Exit->Act->World->Prop}{E:Prop}(hgd:o.guard=none)(s x:Operand)(t:TypeId)
  (ho:o.op=.call { callee:=.builtin .append,args:=#[s,x],argTypes:=#[t,t] }) (base:Nat) (e:TypeId) (ht:P.underlying t=some (.slice e)) (z:Value) (bytes:Nat)
  (hi:(P.info? e).map (fun i=>(i.zero,i.size,i.bytes))=some (some z,1,bytes)) (hzc:z.cells.size=1) (hby:bytes<=640) (v:Value) (l:List Value) (hs:a.eval s=v) (hown:ROwns W base e v l) (hbase:base<=W.heap.size)
  (g:Nat) (y:Value) (hx:a.eval x=.slice (some ⟨g,0,none⟩) 1 1) (hc:W.cell? ⟨g,0,none⟩=some y) (h1:y.oneCell'=true) (hl:l.length<=100000000000)
  (h:∀ v' w',ROwns w' base e v' (l ++ [y])->W.grownBy w' v.ownBlock->(∀ k,v'.ownBlock=some k->v.ownBlock=some k\/W.heap.size<=k)->K (a.put o.dst v') w') :
  if Region.wanted o (yielded ops a.tmps)=true then Oper.wp P o a W K Q else E:=by
 obtain ⟨i0,hi,hz0,hz1,hz2⟩:=info_parts hi;refine step_append_lies _ hgd s x t ho base e i0 z 1 bytes ht hi hz0 hz1 hz2 hzc (by decide) v l.length l hs hown ⟨g,0,none⟩ 1 1 [y] hx rfl ?_ (by simpa using h1) (by decide) ?_ ?_ hbase W.heap.size rfl ?_
 ·intro j u hj
  cases j with
  | zero=>simp only [List.getElem?_cons_zero,Option.some.injEq] at hj;subst hj;simpa [Addr.add] using hc
  | succ j=>simp at hj
 ·unfold maxLen;omega
 ·have:(l.length+1) * bytes<=100000000001 * 640:=Nat.mul_le_mul (by omega) hby;omega
 ·intro g' cap w' hown' hgrow hat _;refine h _ w' ?_ hgrow fun k hk=>?_
  ·unfold ROwns;rw [List.length_append];exact hown'
  ·exact cQ60
def BT (Z:ZT) (w:World) (T:Nat->Prop) (b:Nat):Prop:=∃ (S:Nat->Prop) (u v iv bv dv pv:Value) (m:MD),PM w S b u v iv bv dv pv m/\(∀ k,S k->T k)/\T b/\Sh Z m
theorem BT.below {w w':World}{T:Nat->Prop}{b:Nat}(h:BT Z w T b)(hb:Below w.heap.size w w'):BT Z w' T b:=by
 exact cQ130
theorem BT.mono {w:World}{T T':Nat->Prop}{b:Nat}(h:BT Z w T b)(hs:∀ k,T k->T' k):BT Z w T' b:=by
 obtain ⟨S,u,v,iv,bv,dv,pv,m,h1,h2,h3,h4⟩:=h;exact ⟨S,u,v,iv,bv,dv,pv,m,h1,fun k hk=>hs k (h2 k hk),hs b h3,h4⟩
theorem BT.lt {w:World}{T:Nat->Prop}{b:Nat}(h:BT Z w T b):b < w.heap.size/\T b:=by
 obtain ⟨S,u,v,iv,bv,dv,pv,m,h1,h2,h3,h4⟩:=h;exact ⟨h1.box.lt,h3⟩
theorem BT.weak {Z':ZT}{w:World}{T:Nat->Prop}{b:Nat}(h:BT Z' w T b)(hz:∀ i p,Z i p->Z' i p):BT Z w T b:=by
 obtain ⟨S,u,v,iv,bv,dv,pv,m,h1,h2,h3,h4⟩:=h;exact ⟨S,u,v,iv,bv,dv,pv,m,h1,h2,h3,h4.weak hz⟩
theorem BX.bt {w:World}{L b:Nat}(h:BX Z w L b):BT Z w (fun k=>L<=k) b:=h
theorem BT.bx {w:World}{L b:Nat}(h:BT Z w (fun k=>L<=k) b):BX Z w L b:=h
end Kit
variable {Z : ZT}
theorem zd7 (id kd io pt bk sl:Int)(nm:ByteArray)(bt ot:Bool)(af:Int)(bl:List Int)(p:Value)(u v iv bv dv pv:Value)(m:MD)(w:World)(h:MR w u v iv bv dv pv m)(hS:Sh Z m)(hv:RInts w p bl)
  (hd:DOkN ⟨m.nx,kd,io,pt,bk,sl,nm,bt,ot,af,bl⟩) (hr5:kd=5->Kz.Room Z m bl) :
  Calls Tryz.prog 100 #[.agg #[u,v,iv,bv,dv,pv,.int .i64 m.nx],.agg #[.int .i64 id,.int .i64 kd,.int .i64 io,.int .i64 pt,.int .i64 bk,.int .i64 sl,.string nm,.bool bt,.bool ot,.int .i64 af,p]] w fun e w'=>∃ u' v' i' b' d' p' m' r,e=.returned (.tuple #[.agg #[u',v',i',b',d',p',.int .i64 m'.nx],.int .i64 r])/\MO w' (fun k=>w.heap.size<=k) u' v' i' b' d' p' m'/\Sh Z m'/\0<=r/\r<=99999/\Below w.heap.size w w':=by
 have hbl:bl.length<=1048576:=Nat.le_trans hd.bn (by decide);by_cases hf:40<=m.ds.length
 ·refine (zfw id kd io pt bk sl nm bt ot af bl p u v iv bv dv pv m w h hS.big hv hbl hf).mono ?_;rintro e w' ⟨u1,u2,u3,u4,u5,u6,rfl,O,B⟩;exact ⟨u1,u2,u3,u4,u5,u6,m,0,rfl,O,hS,by omega,by omega,B⟩
 ·cases hx:inB m.nx 1 99999 with
  | false =>
   refine (zfx id kd io pt bk sl nm bt ot af bl p u v iv bv dv pv m w h hS.big hv hbl (by omega) hx).mono ?_;rintro e w' ⟨u1,u2,u3,u4,u5,u6,rfl,O,B⟩;exact ⟨u1,u2,u3,u4,u5,u6,m,0,rfl,O,hS,by omega,by omega,B⟩
  | true =>
   have hr:=zao hx;refine (zg5 id kd io pt bk sl nm bt ot af bl p u v iv bv dv pv m w h hS.big hv hbl (by omega) hx).mono ?_;rintro e w' ⟨u1,u2,u3,u4,u5,u6,rfl,O,B⟩;refine ⟨u1,u2,u3,u4,u5,u6,_,m.nx,rfl,O,⟨hS.x,hS.y,hS.i,hS.ii,hS.b,hS.bb,hS.f,?_,?_,?_,hS.k.put _ rfl rfl rfl hr5⟩,by omega,by omega,B⟩
   ·rw [List.length_append];simp;omega
   ·exact cQ87
   ·show 1<=m.nx+1/\m.nx+1<=100000;omega
theorem zbu {s:ByteArray}(h:0 < s.size):s.toList.isEmpty=false:=by
 exact cQ99
theorem zbm {a b:ByteArray}(h:¬ a=b):(a.toList == b.toList)=false:=by
 exact cQ107
def SlotIs (ss:List Sl) (nm:ByteArray) (k:Int):Prop:=k=-1\/∃ (j:Nat) (hj:j < ss.length),k=(j:Int)/\ss[j].1=nm/\nm.size≠0
theorem zg6 (d:Bool)(sv:Value)(ss:List Sl)(tx nm:ByteArray)(w:World)(h:RSl w sv ss)(hl:ss.length<=1048576) :
  Calls Tryz.prog 128 #[.agg #[.bool d,sv,.string tx],.string nm] w fun e w'=>∃ k:Int,e=.returned (.int .i64 k)/\SlotIs ss nm k/\Below w.heap.size w w':=by
 have H:=hide h;obtain ⟨a,c,rfl,-,hc⟩:=h;obtain ⟨W0,hW0⟩:∃ W0,w.alloc (.cells #[.bool d,.slice a ss.length c,.string tx] 44)=W0:=⟨_,rfl⟩
 have HB:Hid (Below w.heap.size w W0):=by rw [← hW0];exact (Below.refl _ w).alloc nR _
 have x1:W0.cell? ⟨w.heap.size,1,none⟩=some (.slice a ss.length c):=by rw [← hW0];exact (AtC.new w 44 _).cell 1
 have HC:Hid (∀ (j:Nat) (hj:j < ss.length),∃ g off,a=some ⟨g,off,none⟩/\W0.cell? ⟨g,off+j * 2,none⟩=some (.string ss[j].1)):=fun j hj=>by
  obtain ⟨g,off,e,hg,k0,-⟩:=hc j hj;exact ⟨g,off,e,(HB.out.cell (p:=⟨g,off+j * 2,none⟩) hg).trans k0⟩
 clear hc;by_cases hn:nm=⟨#[]⟩
 ·subst hn;go_enter Tryz.func128,Tryz.ntmps128
  go_wp2;clear hW0;go_loopw [5] (fun i wr=>∃ j:Nat,j<=ss.length/\i=.int .i64 j/\W0=wr) (fun i _=>ss.length - (intOf i).toNat)
  case atStart=>exact ⟨0,Nat.zero_le _,rfl,rfl⟩
  case round =>
   obtain ⟨j,hj,rfl,rfl⟩:=hrel;by_cases hlt:j < ss.length
   ·have j0:(0:Int)<=(j:Int):=by omega
    have j1:(j:Int) < (ss.length:Int):=by omega
    go_wp2;go_roundw
    case rel=>exact ⟨j+1,by omega,by go_num,by first | trivial | rfl⟩
    case measure=>simp [intOf];omega
   ·go_wp2;go_ret;exact ⟨_,rfl,.inl rfl,HB.out⟩
 ·have HN:Hid (nm.size≠0):=fun e=>hn (by
   obtain ⟨⟨l⟩⟩:=nm;have:l=[]:=List.length_eq_zero_iff.1 e;subst this;rfl)
  have hne:nm.toList.isEmpty=false:=zbu (Nat.pos_of_ne_zero HN.out);go_enter Tryz.func128,Tryz.ntmps128
  go_wp2;clear hW0;go_loopw [5] (fun i wr=>∃ j:Nat,j<=ss.length/\i=.int .i64 j/\W0=wr) (fun i _=>ss.length - (intOf i).toNat)
  case atStart=>exact ⟨0,Nat.zero_le _,rfl,rfl⟩
  case round =>
   obtain ⟨j,hj,rfl,rfl⟩:=hrel;by_cases hlt:j < ss.length
   ·have j0:(0:Int)<=(j:Int):=by omega
    have j1:(j:Int) < (ss.length:Int):=by omega
    obtain ⟨g,off,rfl,k0⟩:=HC.out j hlt;obtain ⟨t,ht⟩:∃ t,ss[j].1=t:=⟨_,rfl⟩
    rw [ht] at k0;by_cases he:t=nm
    ·have HF:Hid (SlotIs ss nm (j:Int)):=.inr ⟨j,hlt,rfl,ht.trans he,HN.out⟩;subst he;clear ht;go_wp2;go_ret;exact ⟨_,rfl,HF.out,HB.out⟩
    ·have hbf:(t.toList == nm.toList)=false:=zbm he;clear ht;go_wp2;go_roundw
     case rel=>exact ⟨j+1,by omega,by go_num,by first | trivial | rfl⟩
     case measure=>simp [intOf];omega
   ·go_wp2;go_ret;exact ⟨_,rfl,.inl rfl,HB.out⟩
namespace Kit
def stc (l:List ByteArray):List Value:=l.map fun z=>Value.string z
theorem zai (l:List ByteArray):(stc l).length=l.length:=by simp [stc]
theorem za6 (a b:List ByteArray):stc (a ++ b)=stc a ++ stc b:=by simp [stc]
end Kit
def SpR (B:Nat) (w:World) (e:Ending):Prop:=∃ (lv:Value) (l:List ByteArray) (r:Bool),e=.returned (.tuple #[lv,.bool r])/\ROwns w B 9 lv (stc l)/\(r=true->l.length<=4/\∀ s∈l,za2 s=true)/\(r=false->l=[])
theorem SpR.mk {B:Nat}{w:World}{e:Ending}(h:∃ (lv:Value) (l:List ByteArray) (r:Bool),e=.returned (.tuple #[lv,.bool r])/\ROwns w B 9 lv (stc l)/\(r=true->l.length<=4/\∀ s∈l,za2 s=true)/\(r=false->l=[])):SpR B w e:=h
theorem Tryz.u67:Tryz.prog.underlying 67=some (.slice 9):=by kernel_rfl
theorem Tryz.i9:(Tryz.prog.info? 9).map (fun i=>(i.zero,i.size,i.bytes))=some (some (.string ⟨#[]⟩),1,16):=by kernel_rfl
theorem zcw (p:ByteArray)(w:World)(hp:p.size<=1048576) :
  Calls Tryz.prog 98 #[.string p] w fun e w'=>SpR w.heap.size w' e/\Below w.heap.size w w':=by
 have H0:Hid (ROwns (w.alloc (.cells #[] 9)) w.heap.size 9 (.slice (some ⟨w.heap.size,0,none⟩) 0 0) (stc [])/\Below w.heap.size w (w.alloc (.cells #[] 9))):=⟨ROwns.lit0 w _ 9 nR,(Below.refl _ w).alloc nR _⟩
 by_cases h0:p.size=0
 ·have e0:p=⟨#[]⟩:=by
   cases p with | mk d=>cases d with | mk l=>cases l with | nil=>rfl | cons a b=>simp [ByteArray.size] at h0
  subst e0;go_enter Tryz.func98,Tryz.ntmps98
  exact cQ114
 have h1:0 < p.size:=by omega
 have hz:((p.size:Int) == 0)=false:=beq_eq_false_iff_ne.mpr (by omega);obtain ⟨b0,hb0⟩:∃ b0,p[0]'h1=b0:=⟨_,rfl⟩
 by_cases hc:(b0.toNat:Int)=47
 rotate_left
 ·have hcb:((b0.toNat:Int) != 47)=true:=by simp [hc]
  go_enter Tryz.func98,Tryz.ntmps98
  exact cQ114
 have hcb:((b0.toNat:Int) != 47)=false:=by simp [hc]
 clear hc;by_cases hq:(p.toList == ([47]:List UInt8))=true
 ·go_enter Tryz.func98,Tryz.ntmps98
  go_wp2
  go_ret2
  exact ⟨SpR.mk ⟨_,[],_,rfl,H0.out.1,fun _=>⟨by decide,fun s hs=>by simp at hs⟩,fun _=>rfl⟩,H0.out.2⟩
 replace hq:(p.toList == ([47]:List UInt8))=false:=by simpa using hq
 go_enter Tryz.func98,Tryz.ntmps98
 go_wp2_with fail
 clear hz hb0 hcb hq;go_loopw [6,5,4] (fun i bg lv wr=>∃ (n b:Nat) (l:List ByteArray),1<=b/\b<=n/\n<=p.size+1/\i=.int .i64 n/\bg=.int .i64 b/\Hid (ROwns wr w.heap.size 9 lv (stc l)/\l.length<=n/\(∀ s∈l,za2 s=true)/\Below w.heap.size w wr)) (fun i bg lv _=>p.size+2 - (intOf i).toNat)
 case atStart=>exact ⟨1,1,[],Nat.le_refl _,Nat.le_refl _,by omega,rfl,rfl,H0.out.1,Nat.zero_le _,fun s hs=>by simp at hs,H0.out.2⟩
 case round =>
  obtain ⟨n,b,l,hb1,hbn,hnp,rfl,rfl,HR⟩:=hrel;have n0:(0:Int)<=(n:Int):=by omega
  have b0:(0:Int)<=(b:Int):=by omega
  by_cases hle:n<=p.size
  ·have n1:(n:Int)<=(p.size:Int):=by omega
   have bn1:(b:Int)<=(n:Int):=by omega
   have HX:Hid ((p.extract b n).size<=1048576):=by show _<=_;rw [ByteArray.size_extract];omega
   obtain ⟨r,hr⟩:∃ r,za2 (p.extract b n)=r:=⟨_,rfl⟩
   have CN:Hid (∀ W,Calls Tryz.prog 122 #[.string (p.extract b n)] W fun e w'=>e=.returned (.bool r)/\Below W.heap.size W w'):=fun W=>by rw [← hr];exact zbr _ W HX.out
   have HNR:=hide hr;clear hr HX;have HTL:Hid ((stc l).length<=100000000000):=by have:=HR.out.2.1;show _<=_;rw [zai];omega
   by_cases hlt:n < p.size
   ·obtain ⟨c,hc⟩:∃ c:Nat,(p[n]).toNat=c:=⟨_,rfl⟩
    have n2:(n:Int) < (p.size:Int):=by omega
    by_cases h47:c=47
    ·subst h47
     exact cQ4
    ·have hcb:((c:Int) != 47)=true:=by simp;omega
     go_wp2;go_roundw
     case rel=>exact ⟨n+1,b,l,hb1,by omega,by omega,by go_num,rfl,HR.out.1,by have:=HR.out.2.1;omega,HR.out.2.2⟩
     case measure=>simp [intOf];omega
   ·have n2:¬ ((n:Int) < (p.size:Int)):=by omega
    exact cQ4
  ·have n1:¬ ((n:Int)<=(p.size:Int)):=by omega
   obtain ⟨la,lc,rfl,-⟩:=HR.out.1.form;obtain ⟨ll,hll⟩:∃ ll,(stc l).length=ll:=⟨_,rfl⟩
   have hl2:l.length=ll:=by rw [← hll,zai]
   rw [hll] at HR;rw [hll];have HL2:=hide hl2;clear hll hl2;by_cases h4:4 < ll
   ·have h4i:(4:Int) < (ll:Int):=by omega
    have HE:Hid (ROwns (wr.alloc (.cells #[] 9)) w.heap.size 9 (.slice (some ⟨wr.heap.size,0,none⟩) 0 0) (stc [])/\Below w.heap.size w (wr.alloc (.cells #[] 9))):=⟨ROwns.lit0 wr _ 9 HR.out.2.2.2.size,HR.out.2.2.2.alloc HR.out.2.2.2.size _⟩
    clear HR;go_wp2
    go_ret2
    exact ⟨SpR.mk ⟨_,[],_,rfl,HE.out.1,fun e=>absurd e (by decide),fun _=>rfl⟩,HE.out.2⟩
   ·have h4i:¬ ((4:Int) < (ll:Int)):=by omega
    go_wp2
    go_ret2
    exact ⟨SpR.mk ⟨_,l,_,rfl,HR.out.1,fun _=>⟨by have:=HL2.out;omega,HR.out.2.2.1⟩,fun e=>absurd e (by decide)⟩,HR.out.2.2.2⟩
namespace Kit
theorem zgp (l:List ByteArray)(j:Nat)(h:j < l.length):(stc l)[j]?=some (.string l[j]):=by simp [stc,h]
theorem stc_set (l:List ByteArray)(j:Nat)(t:ByteArray):(stc l).set j (.string t)=stc (l.set j t):=by simp [stc,List.map_set]
def RSt (w:World) (v:Value) (xs:List ByteArray):Prop:=∃ a cap,v=.slice a xs.length cap/\∀ (j:Nat) (h:j < xs.length),∃ g off,a=some ⟨g,off,none⟩/\g < w.heap.size/\w.cell? ⟨g,off+j,none⟩=some (.string xs[j])
theorem RSt.below {w w':World}{B:Nat}{v:Value}{xs:List ByteArray}(h:RSt w v xs)(hb:Below B w w')(hB:w.heap.size<=B):RSt w' v xs:=by
 exact cQ42
theorem ROwns.rst {w:World}{base:Nat}{e:TypeId}{v:Value}{xs:List ByteArray}(h:ROwns w base e v (stc xs)):RSt w v xs:=by
 obtain ⟨a,cap,rfl,_⟩:=h.form;refine ⟨a,cap,by rw [zai],fun j hj=>?_⟩;obtain ⟨g,c,e1,k1,_,_,k4,_⟩:=h.at j (by rw [zai];exact hj);simp only [Value.slice.injEq] at e1;refine ⟨g,0,e1.1,k4,?_⟩;rw [Nat.zero_add,k1];simp [stc,hj]
theorem RSt.alloc {w:World}{v:Value}{xs:List ByteArray}(h:RSt w v xs)(o:Obj):RSt (w.alloc o) v xs:=h.below ((Below.refl _ w).alloc nR o) nR
theorem RSt.drew {w:World}{v:Value}{xs:List ByteArray}(h:RSt w v xs):RSt w.drew v xs:=h.below (Below.refl w.heap.size w).drew nR
theorem RSt.form {w:World}{v:Value}{xs:List ByteArray}(h:RSt w v xs):∃ a c,v=.slice a xs.length c:=by
 obtain ⟨a,c,h,_⟩:=h;exact ⟨a,c,h⟩
end Kit
namespace Kit
def AtO (T:TypeId) (w:World) (b:Nat) (v:Value):Prop:=w.heap[b]?=some (.cells #[v] T (0,0))
theorem AtO.lt {T:TypeId}{w:World}{b:Nat}{v:Value}(h:AtO T w b v):b < w.heap.size:=(Array.getElem?_eq_some_iff.1 h).1
theorem AtO.new (T:TypeId)(w:World)(v:Value):AtO T (w.alloc (.cells #[v] T)) w.heap.size v:=zbh w _
theorem AtO.alloc {T:TypeId}{w:World}{b:Nat}{v:Value}(h:AtO T w b v)(o:Obj):AtO T (w.alloc o) b v:=(Below.heap_alloc _ _ _ h.lt).trans h
theorem AtO.below {T:TypeId}{w w':World}{b B:Nat}{v:Value}(h:AtO T w b v)(hb:Below B w w')(hB:b < B):AtO T w' b v:=(hb.block b hB).trans h
theorem AtO.grown {T:TypeId}{w w':World}{b:Nat}{v:Value}{row:Option Nat}(h:AtO T w b v)(hg:w.grownBy w' row)(hr:row≠some b):AtO T w' b v:=(hg.block b h.lt (fun e=>hr e.symm)).trans h
theorem AtO.cell {T:TypeId}{w:World}{b:Nat}{v:Value}(h:AtO T w b v):w.cell? ⟨b,0,none⟩=some v:=by
 have h':w.heap[b]?=some (.cells #[v] T (0,0)):=h;simp [World.cell?,h']
theorem AtO.frozen {T:TypeId}{w:World}{b:Nat}{v:Value}(h:AtO T w b v):w.frozen? ⟨b,0,none⟩=false:=by
 have h':w.heap[b]?=some (.cells #[v] T (0,0)):=h;simp [World.frozen?,h']
theorem AtO.set_other {T:TypeId}{w:World}{b:Nat}{v:Value}(h:AtO T w b v){B j:Nat}(hne:b≠B)(x:Value):AtO T (w.setCell ⟨B,j,none⟩ x) b v:=(heap_setCell_other w ⟨B,j,none⟩ b x hne).trans h
theorem AtO.set {T:TypeId}{w:World}{b:Nat}{v:Value}(h:AtO T w b v)(x:Value):AtO T (w.setCell ⟨b,0,none⟩ x) b x:=heap_setCell_same w b 0 _ T x h
theorem AtO.drew {T:TypeId}{w:World}{b:Nat}{v:Value}(h:AtO T w b v):AtO T w.drew b v:=h
def zbw (xs:List ByteArray):Bool:=xs.all fun t=>decide (t.size<=60)
def okD (xs:List ByteArray):Bool:=(xs.length == 21) && zbw xs
theorem short_of {xs:List ByteArray}{j:Nat}(h:∀ k (hk:k < xs.length),k < j->xs[k].size<=60)(hj:xs.length<=j):zbw xs=true:=by
 unfold zbw;rw [List.all_eq_true];intro t ht;obtain ⟨k,hk,rfl⟩:=List.getElem_of_mem ht;simpa using h k hk (by omega)
theorem short_no {xs:List ByteArray}{j:Nat}(hj:j < xs.length)(h:60 < xs[j].size):zbw xs=false:=by
 unfold zbw;rw [List.all_eq_false];exact ⟨xs[j],List.getElem_mem hj,by simpa using h⟩
theorem okD_no {xs:List ByteArray}(h:zbw xs=false):okD xs=false:=by simp [okD,h]
theorem zi9 {xs:List ByteArray}(h:zbw xs=true):okD xs=((xs.length:Int) == 21):=by
 unfold okD;rw [h,Bool.and_true,Bool.eq_iff_iff];simp;omega
end Kit
theorem zd8 (v:Value)(xs:List ByteArray)(w:World)(hv:RSt w v xs)(hl:xs.length<=1048576)(hs:∀ (j:Nat) (h:j < xs.length),xs[j].size<=1048576) :
  Calls Tryz.prog 73 #[.agg #[v]] w fun e w'=>e=.returned (.bool (okD xs))/\Below w.heap.size w w':=by
 obtain ⟨a,c,rfl,hc⟩:=hv;have HC:=hide hc;have HS:=hide hs;obtain ⟨r,hr⟩:∃ r,okD xs=r:=⟨_,rfl⟩
 rw [hr];have HR:=hide hr;clear hc hs hr;have hB:=(Below.refl w.heap.size w).alloc nR (.cells #[.slice a xs.length c] 69);have c0:=(AtO.new 69 w (.slice a xs.length c)).cell;have l0:=(AtO.new 69 w (.slice a xs.length c)).lt;obtain ⟨W,hW⟩:∃ W,w.alloc (.cells #[.slice a xs.length c] 69)=W:=⟨_,rfl⟩
 rw [hW] at hB c0 l0;have HB:=hide hB;clear hB;go_enter Tryz.func73,Tryz.ntmps73
 go_wp2;go_loopw [3] (fun i wr=>∃ j:Nat,j<=xs.length/\i=.int .i64 j/\Hid (∀ (k:Nat) (h:k < xs.length),k < j->xs[k].size<=60)/\W=wr) (fun i _=>xs.length - (intOf i).toNat)
 case atStart=>exact ⟨0,Nat.zero_le _,rfl,fun _ _ h=>absurd h (Nat.not_lt_zero _),rfl⟩
 case round =>
  obtain ⟨j,hj,rfl,HK,rfl⟩:=hrel;clear hW;by_cases hlt:j < xs.length
  ·obtain ⟨g,off,rfl,hg,m1⟩:=HC.out j hlt;have m2:=(HB.out.cell (p:=⟨g,off+j,none⟩) hg).trans m1;have hgt:=HS.out j hlt;obtain ⟨t,ht⟩:∃ t,xs[j]=t:=⟨_,rfl⟩
   rw [ht] at m2 hgt;have HT:=hide ht;have j0:(0:Int)<=(j:Int):=by omega
   have j1:(j:Int) < (xs.length:Int):=by omega
   clear ht m1;by_cases hs:60 < t.size
   ·go_wp2;go_ret;exact ⟨by rw [← HR.out,okD_no (short_no hlt (by rw [HT.out];exact hs))];rfl,HB.out⟩
   ·go_wp2;go_roundw
    case rel=>exact ⟨j+1,by omega,by go_num,fun k hk h=>by
      by_cases hkj:k < j
      ·exact HK.out k hk hkj
      ·have:k=j:=by omega
       subst this;rw [HT.out];omega,by trivial⟩
    case measure=>simp [intOf];omega
  ·have HF:=hide (short_of HK.out (by omega));go_wp2;go_ret;exact ⟨by rw [← HR.out,zi9 HF.out];rfl,HB.out⟩
end Go.Proofs.YtmbimpmebfoglaaGreat
