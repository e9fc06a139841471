/- Texts of the proof, bundled. -/
import Derived.Test.YtgnplpmgkegcnaaGreatRows
import Derived.Deep.RegionWith
import Derived.Deep.QuietTactic
import Derived.BigQuiet
import Derived.Deep.RegionHeld3
import Derived.Deep.DeepCutAuto
import Derived.Deep.CutRange
import Derived.Deep.OwnRows
import Derived.Test.YtgnplpmgkegcnaaGreatV01
set_option maxRecDepth 100000
set_option maxHeartbeats 12800000
namespace Go.Proofs.YtgnplpmgkegcnaaGreat
namespace Kit
open Go.RowKit
theorem MO.turnX{w w':World}{S:Nat->Prop}{u v iv bv dv pv:Value}{m:MD}(h:MO w S u v iv bv dv pv m){l:List Bool}(hr:ROwns w' 0 4 u (fc l))(hg:w.grownBy w' u.ownBlock):MO w' S u v iv bv dv pv { m with xs:=l }:=by
 obtain⟨S1,S2,S3,ts,h1,h2,h3,h4,h5,h6,h7⟩:=h;obtain⟨T1,T2,T3,ti,tb,k1,k2,k3,k4,k5,k6,k7⟩:=h1;have un:∀k,k<w.1.size->u.ownBlock≠some k->w'.1[k]?=w.1[k]?:=fun k hk hne=>hg.block k hk (fun e=>hne e.symm);exact⟨S1,S2,S3,ts,⟨T1,T2,T3,ti,tb,⟨hr,k1.b.of_heap fun k hk=>un k (k1.b.lt k hk).2 fun e=>k1.ne k e hk,k1.ne⟩,k2,k3.of_heap fun k hs hk=>un k hk fun e=>(k5 k (k2 k (.inl e))).1 hs,k4.of_heap fun k hs hk=>un k hk fun e=>(k5 k (k2 k (.inl e))).2 hs,k5,k6,k7⟩,h2.of_heap fun k hk=>un k (h2.lt k hk).2 fun e=>(h5 k (k7 k (.inl (k2 k (.inl e))))).1 (h3 k hk),h3,h4.of_heap fun k hs hk=>un k hk fun e=>(h5 k (k7 k (.inl (k2 k (.inl e))))).2 hs,h5,h6,h7⟩
theorem MO.turnY{w w':World}{S:Nat->Prop}{u v iv bv dv pv:Value}{m:MD}(h:MO w S u v iv bv dv pv m){l:List Bool}(hr:ROwns w' 0 4 v (fc l))(hg:w.grownBy w' v.ownBlock):MO w' S u v iv bv dv pv { m with ys:=l }:=by
 obtain⟨S1,S2,S3,ts,h1,h2,h3,h4,h5,h6,h7⟩:=h;obtain⟨T1,T2,T3,ti,tb,k1,k2,k3,k4,k5,k6,k7⟩:=h1;have un:∀k,k<w.1.size->v.ownBlock≠some k->w'.1[k]?=w.1[k]?:=fun k hk hne=>hg.block k hk (fun e=>hne e.symm);exact⟨S1,S2,S3,ts,⟨T1,T2,T3,ti,tb,⟨k1.a.of_heap fun k hk=>un k (k1.a.lt k hk).2 fun e=>k1.ne k hk e,hr,k1.ne⟩,k2,k3.of_heap fun k hs hk=>un k hk fun e=>(k5 k (k2 k (.inr e))).1 hs,k4.of_heap fun k hs hk=>un k hk fun e=>(k5 k (k2 k (.inr e))).2 hs,k5,k6,k7⟩,h2.of_heap fun k hk=>un k (h2.lt k hk).2 fun e=>(h5 k (k7 k (.inl (k2 k (.inr e))))).1 (h3 k hk),h3,h4.of_heap fun k hs hk=>un k hk fun e=>(h5 k (k7 k (.inl (k2 k (.inr e))))).2 hs,h5,h6,h7⟩
theorem MO.turnF{w w':World}{S:Nat->Prop}{u v iv bv dv pv:Value}{m:MD}(h:MO w S u v iv bv dv pv m){l:List Bool}(hr:ROwns w' 0 4 dv (fc l))(hg:w.grownBy w' dv.ownBlock):MO w' S u v iv bv dv pv { m with fs:=l }:=by
 obtain⟨S1,S2,S3,ts,h1,h2,h3,h4,h5,h6,h7⟩:=h;obtain⟨T1,T2,T3,ti,tb,k1,k2,k3,k4,k5,k6,k7⟩:=h1;have un:∀k,k<w.1.size->dv.ownBlock≠some k->w'.1[k]?=w.1[k]?:=fun k hk hne=>hg.block k hk (fun e=>hne e.symm);exact⟨S1,S2,S3,ts,DO.of_heap ⟨T1,T2,T3,ti,tb,k1,k2,k3,k4,k5,k6,k7⟩ fun k hs hk=>un k hk fun e=>(h5 k hs).1 (h3 k e),hr,h3,h4.of_heap fun k hs hk=>un k hk fun e=>h6 k (h3 k e) hs,h5,h6,h7⟩
def takeB(m:MD):MD:=if ff m.xs=0 then m else{ m with xs:=m.xs.set (ff m.xs-1) true,fs:=m.fs.set 0 true }
def takeI(m:MD):MD:=if ff m.ys=0 then m else{ m with ys:=m.ys.set (ff m.ys-1) true,fs:=m.fs.set 0 true }
end Kit
open Go.RowKit Kit
theorem zc9(u v iv bv dv pv:Value)(m:MD)(w:World)(h:MR w u v iv bv dv pv m)(hB:BigM 1048576 m):
  Calls Tryz.prog 201 #[.agg #[u,v,iv,bv,dv,pv,.int .i64 m.nx]] w fun e w'=>∃u' v' i' b' d' p',e=.returned (.tuple #[.agg #[u',v',i',b',d',p',.int .i64 m.nx],.int .i64 (ff m.xs:Nat)])/\MO w' (fun k=>w.1.size<=k) u' v' i' b' d' p' (takeB m)/\Below w.1.size w w':=by
 have H:=hide h;have HG:=hide hB;have hxl:m.1.length<=1048576:=hB.d.x;obtain⟨a1,c1,a2,c2,a3,c3,a4,c4,a5,c5,a6,c6,rfl,rfl,rfl,rfl,rfl,rfl⟩:=h.form;clear h hB;have HC:Hid (∀W,Below ((w.alloc (.cells (M7 m a1 c1 a2 c2 a3 c3 a4 c4 a5 c5 a6 c6) 33)).alloc (.cells noM 33)).1.size ((w.alloc (.cells (M7 m a1 c1 a2 c2 a3 c3 a4 c4 a5 c5 a6 c6) 33)).alloc (.cells noM 33)) W->AtC W w.1.size 33 (M7 m a1 c1 a2 c2 a3 c3 a4 c4 a5 c5 a6 c6)/\AtC W (w.1.size+1) 33 noM/\Below w.1.size w W/\w.1.size+1+1<=W.1.size):=fun W b2=>by
  exact cQ41
 go_enter Tryz.func201,Tryz.ntmps201
 go_wp2_with fail
 refine(zax _ _ _ _ _ _ m _ (H.out.below (HC.o _ bR).2.2.1 nR) HG.o).mono ?_;rintro e w2 ⟨u1,u2,u3,u4,u5,u6,rfl,O2,B2⟩;obtain⟨b1,d1,b2,d2,b3,d3,b4,d4,b5,d5,b6,d6,rfl,rfl,rfl,rfl,rfl,rfl⟩:=O2.mr.form;have hz2:=(HC.o w2 B2).2.2.2;have O3:=(O2.mono (S':=fun k=>w.1.size+1+1<=k) (fun k hk=>by simp at hk;omega)).bound;have HS:Hid (AtC (w2.alloc (.cells (M7 m b1 d1 b2 d2 b3 d3 b4 d4 b5 d5 b6 d6) 33)) w.1.size 33 (M7 m a1 c1 a2 c2 a3 c3 a4 c4 a5 c5 a6 c6)/\AtC (w2.alloc (.cells (M7 m b1 d1 b2 d2 b3 d3 b4 d4 b5 d5 b6 d6) 33)) (w.1.size+1) 33 noM/\AtC (w2.alloc (.cells (M7 m b1 d1 b2 d2 b3 d3 b4 d4 b5 d5 b6 d6) 33)) w2.1.size 33 (M7 m b1 d1 b2 d2 b3 d3 b4 d4 b5 d5 b6 d6)/\N7 (w2.alloc (.cells (M7 m b1 d1 b2 d2 b3 d3 b4 d4 b5 d5 b6 d6) 33)) (fun k=>w.1.size+1+1<=k/\k<w2.1.size) m b1 d1 b2 d2 b3 d3 b4 d4 b5 d5 b6 d6/\Below w.1.size w (w2.alloc (.cells (M7 m b1 d1 b2 d2 b3 d3 b4 d4 b5 d5 b6 d6) 33))):=by
  exact cQ52
 have x0:=HS.o.1.c0;clear O2 O3 B2;go_wp2_with fail
 refine(zde _ m.xs _ ((H.out.d.below HS.o.2.2.2.2 nR).a) hxl).mono ?_;rintro e w3 ⟨rfl,rfl⟩;rcases ff_or m.xs with⟨hff,-⟩| ⟨k,hk,hff,hkf,-⟩
 ·have HFF:=hide hff;rw[hff];clear hff x0;have q9:=HS.o.2.1;have r0:=q9.c0;have v0:=q9.frozen 0;have r1:=q9.c1;have v1:=q9.frozen 1;have r2:=q9.c2;have v2:=q9.frozen 2;have r3:=q9.c3;have v3:=q9.frozen 3;have r4:=q9.c4;have v4:=q9.frozen 4;have r5:=q9.c5;have v5:=q9.frozen 5;have r6:=q9.c6;have v6:=q9.frozen 6;have q8:=HS.o.2.2.1;have y0:=q8.c0;have y1:=q8.c1;have y2:=q8.c2;have y3:=q8.c3;have y4:=q8.c4;have y5:=q8.c5;have y6:=q8.c6;have HM:Hid (MO (((((((((w2.alloc (.cells (M7 m b1 d1 b2 d2 b3 d3 b4 d4 b5 d5 b6 d6) 33)).setCell ⟨w.1.size+1,0,none⟩ (.slice b1 m.1.length d1)).setCell ⟨w.1.size+1,1,none⟩ (.slice b2 m.2.length d2)).setCell ⟨w.1.size+1,2,none⟩ (.slice b3 m.3.length d3)).setCell ⟨w.1.size+1,3,none⟩ (.slice b4 m.4.length d4)).setCell ⟨w.1.size+1,4,none⟩ (.slice b5 m.5.length d5)).setCell ⟨w.1.size+1,5,none⟩ (.slice b6 m.6.length d6)).setCell ⟨w.1.size+1,6,none⟩ (.int .i64 m.nx))) (fun k=>w.1.size<=k) (.slice b1 m.1.length d1) (.slice b2 m.2.length d2) (.slice b3 m.3.length d3) (.slice b4 m.4.length d4) (.slice b5 m.5.length d5) (.slice b6 m.6.length d6) (takeB m)/\Below w.1.size w (((((((((w2.alloc (.cells (M7 m b1 d1 b2 d2 b3 d3 b4 d4 b5 d5 b6 d6) 33)).setCell ⟨w.1.size+1,0,none⟩ (.slice b1 m.1.length d1)).setCell ⟨w.1.size+1,1,none⟩ (.slice b2 m.2.length d2)).setCell ⟨w.1.size+1,2,none⟩ (.slice b3 m.3.length d3)).setCell ⟨w.1.size+1,3,none⟩ (.slice b4 m.4.length d4)).setCell ⟨w.1.size+1,4,none⟩ (.slice b5 m.5.length d5)).setCell ⟨w.1.size+1,5,none⟩ (.slice b6 m.6.length d6)).setCell ⟨w.1.size+1,6,none⟩ (.int .i64 m.nx)))):=by
   have e:takeB m=m:=by unfold takeB;rw[if_pos HFF.o]
   exact cQ22
  exact cQ44
 ·obtain⟨S1,S2,S3,ts,k1,-⟩:=HS.o.2.2.2.1;obtain⟨g,cap,e1,k1c,k1f,-,hg,-⟩:=k1.two.a.at k (by rw[zad];exact hk);rw[zad]at e1;simp only[Value.slice.injEq,true_and]at e1;obtain⟨rfl,rfl⟩:=e1;have k1d:(w2.alloc (.cells (M7 m (some ⟨g,0,none⟩) d1 b2 d2 b3 d3 b4 d4 b5 d5 b6 d6) 33)).cell? ⟨g,k,none⟩=some (.bool false):=k1c.trans (by simp[fc,hk,hkf]);have HX:Hid (∃w5,w5=(w2.alloc (.cells (M7 m (some ⟨g,0,none⟩) d1 b2 d2 b3 d3 b4 d4 b5 d5 b6 d6) 33)).setCell ⟨g,k,none⟩ (.bool true)/\AtC w5 (w.1.size+1) 33 noM/\AtC w5 w2.1.size 33 (M7 m (some ⟨g,0,none⟩) d1 b2 d2 b3 d3 b4 d4 b5 d5 b6 d6)/\MO w5 (fun k=>w.1.size+1+1<=k/\k<w2.1.size) (.slice (some ⟨g,0,none⟩) m.1.length d1) (.slice b2 m.2.length d2) (.slice b3 m.3.length d3) (.slice b4 m.4.length d4) (.slice b5 m.5.length d5) (.slice b6 m.6.length d6) { m with xs:=m.xs.set k true }/\Below w.1.size w w5):=by
   obtain⟨-,q2,q3,q4,q5⟩:=HS.o;have st:=ROwns.stored (l:=fc m.xs) (g:=g) (cap:=d1) (by rw[zad];exact k1.two.a) k (.bool true);rw[zad,←zdd]at st;have hgS:w.1.size+1+1<=g/\g<w2.1.size:=by
    obtain⟨S1',S2',S3',ts',p1,-,-,-,-,-,p7⟩:=q4;obtain⟨T1,T2,T3,ti,tb,z1,z2,-,-,-,-,z7⟩:=p1;exact p7 g (.inl (z7 g (.inl (z2 g (.inl rfl)))))
   exact⟨_,rfl,(heap_setCell_other _ ⟨g,k,none⟩ _ _ (by show w.1.size+1≠g;omega)).trans q2,(heap_setCell_other _ ⟨g,k,none⟩ _ _ (by show w2.1.size≠g;omega)).trans q3,q4.turnX st.1 st.2,q5.setCell oG _⟩
  have kn:((ff m.xs:Nat):Int)-1=(k:Int):=by omega
  have kp:¬((ff m.xs:Nat):Int)=0:=by omega
  have kl:(k:Int)<(m.1.length:Int):=by omega
  have kz:(0:Int)<=(k:Int):=by omega
  have kb:((ff m.xs:Nat):Int)<=1048576:=by omega
  have yb0:=HS.o.2.2.1.c0;have HFF:=hide hff;clear k1 k1c hff hkf x0 HS;generalize hF:ff m.xs=F at*;go_wp2_with fail
  obtain⟨w5,hw5,q2,q3,q4,q5⟩:=HX.o;rw[←hw5];have hd5:ROwns w5 0 4 (.slice b5 m.5.length d5) (fc m.fs)/\∀k,(Value.slice b5 m.5.length d5).ownBlock=some k->w.1.size+1+1<=k/\k<w2.1.size:=by
   exact cQ113
  refine(zf2 w2.1.size _ _ _ _ _ b5 d5 m.fs m.nx w5 q3 hd5.1).mono ?_;rintro e w6 ⟨rfl,O6,G6⟩;have M6:=q4.turnF O6 G6;have q9:AtC w6 (w.1.size+1) 33 noM:=q2.grown G6 (fun e=>by have:=hd5.2 _ e;omega);have q8:AtC w6 w2.1.size 33 (M7 m (some ⟨g,0,none⟩) d1 b2 d2 b3 d3 b4 d4 b5 d5 b6 d6):=q3.grown G6 (fun e=>by have:=hd5.2 _ e;omega);have bel6:Below w.1.size w w6:=q5.grown G6 q5.size (fun k hk=>by have:=hd5.2 k hk;omega);have r0:=q9.c0;have v0:=q9.frozen 0;have r1:=q9.c1;have v1:=q9.frozen 1;have r2:=q9.c2;have v2:=q9.frozen 2;have r3:=q9.c3;have v3:=q9.frozen 3;have r4:=q9.c4;have v4:=q9.frozen 4;have r5:=q9.c5;have v5:=q9.frozen 5;have r6:=q9.c6;have v6:=q9.frozen 6;obtain⟨y0,y1,y2,y3,y4,y5,y6⟩:=AtC.sev q8;have HM:Hid (MO ((((((((w6.setCell ⟨w.1.size+1,0,none⟩ (.slice (some ⟨g,0,none⟩) m.1.length d1)).setCell ⟨w.1.size+1,1,none⟩ (.slice b2 m.2.length d2)).setCell ⟨w.1.size+1,2,none⟩ (.slice b3 m.3.length d3)).setCell ⟨w.1.size+1,3,none⟩ (.slice b4 m.4.length d4)).setCell ⟨w.1.size+1,4,none⟩ (.slice b5 m.5.length d5)).setCell ⟨w.1.size+1,5,none⟩ (.slice b6 m.6.length d6)).setCell ⟨w.1.size+1,6,none⟩ (.int .i64 m.nx))) (fun k=>w.1.size<=k) (.slice (some ⟨g,0,none⟩) m.1.length d1) (.slice b2 m.2.length d2) (.slice b3 m.3.length d3) (.slice b4 m.4.length d4) (.slice b5 m.5.length d5) (.slice b6 m.6.length d6) (takeB m)/\Below w.1.size w ((((((((w6.setCell ⟨w.1.size+1,0,none⟩ (.slice (some ⟨g,0,none⟩) m.1.length d1)).setCell ⟨w.1.size+1,1,none⟩ (.slice b2 m.2.length d2)).setCell ⟨w.1.size+1,2,none⟩ (.slice b3 m.3.length d3)).setCell ⟨w.1.size+1,3,none⟩ (.slice b4 m.4.length d4)).setCell ⟨w.1.size+1,4,none⟩ (.slice b5 m.5.length d5)).setCell ⟨w.1.size+1,5,none⟩ (.slice b6 m.6.length d6)).setCell ⟨w.1.size+1,6,none⟩ (.int .i64 m.nx)))):=by
   have e:takeB m={ m with xs:=m.xs.set k true,fs:=m.fs.set 0 true }:=by
    unfold takeB;rw[hF,if_neg oM,show F-1=k by omega]
   exact cQ24
  clear q9 q8 q2 q3 q4 q5 M6 O6 G6 bel6 hd5 HX k1d k1f yb0 hw5;go_wp2;refine bodyPost_ret (v:=.tuple #[.agg (M7 m (some ⟨g,0,none⟩) d1 b2 d2 b3 d3 b4 d4 b5 d5 b6 d6),.int .i64 (F:Nat)]) sR7 rfl ⟨_,_,_,_,_,_,by rw[hF],HM.o.1,HM.o.2⟩
theorem zf3(u v iv bv dv pv:Value)(m:MD)(w:World)(h:MR w u v iv bv dv pv m)(hB:BigM 1048576 m):
  Calls Tryz.prog 195 #[.agg #[u,v,iv,bv,dv,pv,.int .i64 m.nx]] w fun e w'=>∃u' v' i' b' d' p',e=.returned (.tuple #[.agg #[u',v',i',b',d',p',.int .i64 m.nx],.int .i64 (ff m.ys:Nat)])/\MO w' (fun k=>w.1.size<=k) u' v' i' b' d' p' (takeI m)/\Below w.1.size w w':=by
 have H:=hide h;have HG:=hide hB;have hxl:m.2.length<=1048576:=hB.d.y;obtain⟨a1,c1,a2,c2,a3,c3,a4,c4,a5,c5,a6,c6,rfl,rfl,rfl,rfl,rfl,rfl⟩:=h.form;clear h hB;have HC:Hid (∀W,Below ((w.alloc (.cells (M7 m a1 c1 a2 c2 a3 c3 a4 c4 a5 c5 a6 c6) 33)).alloc (.cells noM 33)).1.size ((w.alloc (.cells (M7 m a1 c1 a2 c2 a3 c3 a4 c4 a5 c5 a6 c6) 33)).alloc (.cells noM 33)) W->AtC W w.1.size 33 (M7 m a1 c1 a2 c2 a3 c3 a4 c4 a5 c5 a6 c6)/\AtC W (w.1.size+1) 33 noM/\Below w.1.size w W/\w.1.size+1+1<=W.1.size):=fun W b2=>by
  exact cQ41
 go_enter Tryz.func195,Tryz.ntmps195
 go_wp2_with fail
 refine(zax _ _ _ _ _ _ m _ (H.out.below (HC.o _ bR).2.2.1 nR) HG.o).mono ?_;rintro e w2 ⟨u1,u2,u3,u4,u5,u6,rfl,O2,B2⟩;obtain⟨b1,d1,b2,d2,b3,d3,b4,d4,b5,d5,b6,d6,rfl,rfl,rfl,rfl,rfl,rfl⟩:=O2.mr.form;have hz2:=(HC.o w2 B2).2.2.2;have O3:=(O2.mono (S':=fun k=>w.1.size+1+1<=k) (fun k hk=>by simp at hk;omega)).bound;have HS:Hid (AtC (w2.alloc (.cells (M7 m b1 d1 b2 d2 b3 d3 b4 d4 b5 d5 b6 d6) 33)) w.1.size 33 (M7 m a1 c1 a2 c2 a3 c3 a4 c4 a5 c5 a6 c6)/\AtC (w2.alloc (.cells (M7 m b1 d1 b2 d2 b3 d3 b4 d4 b5 d5 b6 d6) 33)) (w.1.size+1) 33 noM/\AtC (w2.alloc (.cells (M7 m b1 d1 b2 d2 b3 d3 b4 d4 b5 d5 b6 d6) 33)) w2.1.size 33 (M7 m b1 d1 b2 d2 b3 d3 b4 d4 b5 d5 b6 d6)/\N7 (w2.alloc (.cells (M7 m b1 d1 b2 d2 b3 d3 b4 d4 b5 d5 b6 d6) 33)) (fun k=>w.1.size+1+1<=k/\k<w2.1.size) m b1 d1 b2 d2 b3 d3 b4 d4 b5 d5 b6 d6/\Below w.1.size w (w2.alloc (.cells (M7 m b1 d1 b2 d2 b3 d3 b4 d4 b5 d5 b6 d6) 33))):=by
  exact cQ52
 have x0:=HS.o.1.c1;clear O2 O3 B2;go_wp2_with fail
 refine(zde _ m.ys _ ((H.out.d.below HS.o.2.2.2.2 nR).b) hxl).mono ?_;rintro e w3 ⟨rfl,rfl⟩;rcases ff_or m.ys with⟨hff,-⟩| ⟨k,hk,hff,hkf,-⟩
 ·have HFF:=hide hff;rw[hff];clear hff x0;have q9:=HS.o.2.1;have r0:=q9.c0;have v0:=q9.frozen 0;have r1:=q9.c1;have v1:=q9.frozen 1;have r2:=q9.c2;have v2:=q9.frozen 2;have r3:=q9.c3;have v3:=q9.frozen 3;have r4:=q9.c4;have v4:=q9.frozen 4;have r5:=q9.c5;have v5:=q9.frozen 5;have r6:=q9.c6;have v6:=q9.frozen 6;have q8:=HS.o.2.2.1;have y0:=q8.c0;have y1:=q8.c1;have y2:=q8.c2;have y3:=q8.c3;have y4:=q8.c4;have y5:=q8.c5;have y6:=q8.c6;have HM:Hid (MO (((((((((w2.alloc (.cells (M7 m b1 d1 b2 d2 b3 d3 b4 d4 b5 d5 b6 d6) 33)).setCell ⟨w.1.size+1,0,none⟩ (.slice b1 m.1.length d1)).setCell ⟨w.1.size+1,1,none⟩ (.slice b2 m.2.length d2)).setCell ⟨w.1.size+1,2,none⟩ (.slice b3 m.3.length d3)).setCell ⟨w.1.size+1,3,none⟩ (.slice b4 m.4.length d4)).setCell ⟨w.1.size+1,4,none⟩ (.slice b5 m.5.length d5)).setCell ⟨w.1.size+1,5,none⟩ (.slice b6 m.6.length d6)).setCell ⟨w.1.size+1,6,none⟩ (.int .i64 m.nx))) (fun k=>w.1.size<=k) (.slice b1 m.1.length d1) (.slice b2 m.2.length d2) (.slice b3 m.3.length d3) (.slice b4 m.4.length d4) (.slice b5 m.5.length d5) (.slice b6 m.6.length d6) (takeI m)/\Below w.1.size w (((((((((w2.alloc (.cells (M7 m b1 d1 b2 d2 b3 d3 b4 d4 b5 d5 b6 d6) 33)).setCell ⟨w.1.size+1,0,none⟩ (.slice b1 m.1.length d1)).setCell ⟨w.1.size+1,1,none⟩ (.slice b2 m.2.length d2)).setCell ⟨w.1.size+1,2,none⟩ (.slice b3 m.3.length d3)).setCell ⟨w.1.size+1,3,none⟩ (.slice b4 m.4.length d4)).setCell ⟨w.1.size+1,4,none⟩ (.slice b5 m.5.length d5)).setCell ⟨w.1.size+1,5,none⟩ (.slice b6 m.6.length d6)).setCell ⟨w.1.size+1,6,none⟩ (.int .i64 m.nx)))):=by
   have e:takeI m=m:=by unfold takeI;rw[if_pos HFF.o]
   exact cQ22
  exact cQ44
 ·obtain⟨S1,S2,S3,ts,k1,-⟩:=HS.o.2.2.2.1;obtain⟨g,cap,e1,k1c,k1f,-,hg,-⟩:=k1.two.b.at k (by rw[zad];exact hk);rw[zad]at e1;simp only[Value.slice.injEq,true_and]at e1;obtain⟨rfl,rfl⟩:=e1;have k1d:(w2.alloc (.cells (M7 m b1 d1 (some ⟨g,0,none⟩) d2 b3 d3 b4 d4 b5 d5 b6 d6) 33)).cell? ⟨g,k,none⟩=some (.bool false):=k1c.trans (by simp[fc,hk,hkf]);have HX:Hid (∃w5,w5=(w2.alloc (.cells (M7 m b1 d1 (some ⟨g,0,none⟩) d2 b3 d3 b4 d4 b5 d5 b6 d6) 33)).setCell ⟨g,k,none⟩ (.bool true)/\AtC w5 (w.1.size+1) 33 noM/\AtC w5 w2.1.size 33 (M7 m b1 d1 (some ⟨g,0,none⟩) d2 b3 d3 b4 d4 b5 d5 b6 d6)/\MO w5 (fun k=>w.1.size+1+1<=k/\k<w2.1.size) (.slice b1 m.1.length d1) (.slice (some ⟨g,0,none⟩) m.2.length d2) (.slice b3 m.3.length d3) (.slice b4 m.4.length d4) (.slice b5 m.5.length d5) (.slice b6 m.6.length d6) { m with ys:=m.ys.set k true }/\Below w.1.size w w5):=by
   obtain⟨-,q2,q3,q4,q5⟩:=HS.o;have st:=ROwns.stored (l:=fc m.ys) (g:=g) (cap:=d2) (by rw[zad];exact k1.two.b) k (.bool true);rw[zad,←zdd]at st;have hgS:w.1.size+1+1<=g/\g<w2.1.size:=by
    obtain⟨S1',S2',S3',ts',p1,-,-,-,-,-,p7⟩:=q4;obtain⟨T1,T2,T3,ti,tb,z1,z2,-,-,-,-,z7⟩:=p1;exact p7 g (.inl (z7 g (.inl (z2 g (.inr rfl)))))
   exact⟨_,rfl,(heap_setCell_other _ ⟨g,k,none⟩ _ _ (by show w.1.size+1≠g;omega)).trans q2,(heap_setCell_other _ ⟨g,k,none⟩ _ _ (by show w2.1.size≠g;omega)).trans q3,q4.turnY st.1 st.2,q5.setCell oG _⟩
  have kn:((ff m.ys:Nat):Int)-1=(k:Int):=by omega
  have kp:¬((ff m.ys:Nat):Int)=0:=by omega
  have kl:(k:Int)<(m.2.length:Int):=by omega
  have kz:(0:Int)<=(k:Int):=by omega
  have kb:((ff m.ys:Nat):Int)<=1048576:=by omega
  have yb0:=HS.o.2.2.1.c1;have HFF:=hide hff;clear k1 k1c hff hkf x0 HS;generalize hF:ff m.ys=F at*;go_wp2_with fail
  obtain⟨w5,hw5,q2,q3,q4,q5⟩:=HX.o;rw[←hw5];have hd5:ROwns w5 0 4 (.slice b5 m.5.length d5) (fc m.fs)/\∀k,(Value.slice b5 m.5.length d5).ownBlock=some k->w.1.size+1+1<=k/\k<w2.1.size:=by
   exact cQ113
  refine(zf2 w2.1.size _ _ _ _ _ b5 d5 m.fs m.nx w5 q3 hd5.1).mono ?_;rintro e w6 ⟨rfl,O6,G6⟩;have M6:=q4.turnF O6 G6;have q9:AtC w6 (w.1.size+1) 33 noM:=q2.grown G6 (fun e=>by have:=hd5.2 _ e;omega);have q8:AtC w6 w2.1.size 33 (M7 m b1 d1 (some ⟨g,0,none⟩) d2 b3 d3 b4 d4 b5 d5 b6 d6):=q3.grown G6 (fun e=>by have:=hd5.2 _ e;omega);have bel6:Below w.1.size w w6:=q5.grown G6 q5.size (fun k hk=>by have:=hd5.2 k hk;omega);have r0:=q9.c0;have v0:=q9.frozen 0;have r1:=q9.c1;have v1:=q9.frozen 1;have r2:=q9.c2;have v2:=q9.frozen 2;have r3:=q9.c3;have v3:=q9.frozen 3;have r4:=q9.c4;have v4:=q9.frozen 4;have r5:=q9.c5;have v5:=q9.frozen 5;have r6:=q9.c6;have v6:=q9.frozen 6;obtain⟨y0,y1,y2,y3,y4,y5,y6⟩:=AtC.sev q8;have HM:Hid (MO ((((((((w6.setCell ⟨w.1.size+1,0,none⟩ (.slice b1 m.1.length d1)).setCell ⟨w.1.size+1,1,none⟩ (.slice (some ⟨g,0,none⟩) m.2.length d2)).setCell ⟨w.1.size+1,2,none⟩ (.slice b3 m.3.length d3)).setCell ⟨w.1.size+1,3,none⟩ (.slice b4 m.4.length d4)).setCell ⟨w.1.size+1,4,none⟩ (.slice b5 m.5.length d5)).setCell ⟨w.1.size+1,5,none⟩ (.slice b6 m.6.length d6)).setCell ⟨w.1.size+1,6,none⟩ (.int .i64 m.nx))) (fun k=>w.1.size<=k) (.slice b1 m.1.length d1) (.slice (some ⟨g,0,none⟩) m.2.length d2) (.slice b3 m.3.length d3) (.slice b4 m.4.length d4) (.slice b5 m.5.length d5) (.slice b6 m.6.length d6) (takeI m)/\Below w.1.size w ((((((((w6.setCell ⟨w.1.size+1,0,none⟩ (.slice b1 m.1.length d1)).setCell ⟨w.1.size+1,1,none⟩ (.slice (some ⟨g,0,none⟩) m.2.length d2)).setCell ⟨w.1.size+1,2,none⟩ (.slice b3 m.3.length d3)).setCell ⟨w.1.size+1,3,none⟩ (.slice b4 m.4.length d4)).setCell ⟨w.1.size+1,4,none⟩ (.slice b5 m.5.length d5)).setCell ⟨w.1.size+1,5,none⟩ (.slice b6 m.6.length d6)).setCell ⟨w.1.size+1,6,none⟩ (.int .i64 m.nx)))):=by
   have e:takeI m={ m with ys:=m.ys.set k true,fs:=m.fs.set 0 true }:=by
    unfold takeI;rw[hF,if_neg oM,show F-1=k by omega]
   exact cQ24
  clear q9 q8 q2 q3 q4 q5 M6 O6 G6 bel6 hd5 HX k1d k1f yb0 hw5;go_wp2;refine bodyPost_ret (v:=.tuple #[.agg (M7 m b1 d1 (some ⟨g,0,none⟩) d2 b3 d3 b4 d4 b5 d5 b6 d6),.int .i64 (F:Nat)]) sR7 rfl ⟨_,_,_,_,_,_,by rw[hF],HM.o.1,HM.o.2⟩
namespace Kit
theorem GN.appendX{α:Type}{K:Kn α}{w w2:World}{S:Nat->Prop}{v v':Value}{ts:List Row}{xs:List α}{t':Row}{x':α}(h:GN K w S v ts xs)(hO:K.O w t' x')(hn:∀k,(K.p t').ownBlock=some k->¬S k)
  (hr:NOwns w2 K.T K.n v' (ts++[t'])) (hg:w.grownBy w2 v.ownBlock) (hv:∀k,v'.ownBlock=some k->v.ownBlock=some k\/w.1.size<=k):GN K w2 (fun k=>(S k/\k<w.1.size)\/(K.p t').ownBlock=some k\/w.1.size<=k) v' (ts++[t']) (xs++[x']):=by
 have hl:=h.len;have hlt:∀(i:Nat)(hi:i<ts.length)(k:Nat),(K.p ts[i]).ownBlock=some k->k<w.1.size:=fun i hi k hk=>K.lt (h.inn i hi oM) k hk;have hlt':∀k,(K.p t').ownBlock=some k->k<w.1.size:=fun k hk=>K.lt hO k hk;have hvl:∀k,v.ownBlock=some k->k<w.1.size:=h.row.lt;have at_l:∀(i:Nat) (hi:i<(ts++[t']).length),(∃h':i<ts.length,(ts++[t'])[i]=ts[i])\/(i=ts.length/\(ts++[t'])[i]=t'):=fun i hi=>by
  by_cases e:i<ts.length
  ·exact .inl ⟨e,List.getElem_append_left e⟩
  ·have e2:i=ts.length:=by simp at hi;omega
   refine .inr ⟨e2,?_⟩;subst e2;simp
 refine⟨by simp[hl],hr,fun i hi hi'=>?_,fun i j hi hj hne k e1 e2=>?_,fun i hi k e1 e2=>?_,fun k e=>?_,fun i hi k e=>?_⟩
 ·rcases at_l i hi with⟨h',e⟩| ⟨rfl,e⟩
  ·rw[e,List.getElem_append_left oM];exact K.heap (h.inn i h' oM) fun k hk=>hg.block k (hlt i h' k hk) (fun e=>h.out i h' k hk e.symm)
  ·have e2:(xs++[x'])[ts.length]=x':=by simp[hl]
   rw[e,e2];exact K.heap hO fun k hk=>hg.block k (hlt' k hk) (fun e=>hn k hk (h.so k e.symm))
 ·rcases at_l i hi with⟨h1,q1⟩| ⟨q0,q1⟩<;>rcases at_l j hj with⟨h2,q2⟩| ⟨q3,q2⟩<;>rw[q1]at e1<;>rw[q2]at e2
  ·exact h.sep i j h1 h2 hne k e1 e2
  ·exact hn k e2 (h.si i h1 k e1)
  ·exact hn k e1 (h.si j h2 k e2)
  ·omega
 ·rcases at_l i hi with⟨h1,q1⟩| ⟨q0,q1⟩<;>rw[q1]at e1
  ·rcases hv k e2 with q|q
   ·exact h.out i h1 k e1 q
   ·have:=hlt i h1 k e1;omega
  ·rcases hv k e2 with q|q
   ·exact hn k e1 (h.so k q)
   ·have:=hlt' k e1;omega
 ·rcases hv k e with q|q
  ·exact .inl ⟨h.so k q,hvl k q⟩
  ·exact .inr (.inr q)
 ·rcases at_l i hi with⟨h1,q1⟩| ⟨q0,q1⟩<;>rw[q1]at e
  ·exact .inl ⟨h.si i h1 k e,hlt i h1 k e⟩
  ·exact .inr (.inl e)
theorem MO.appE{w:World}{S:Nat->Prop}{u v iv bv dv pv:Value}{m:MD}(h:MO w S u v iv bv dv pv m):
  ∃ts,NOwns w 42 11 pv ts/\ts.length=m.6.length/\∀(w2:World)(pv':Value)(t':Row)(x':Dp),KDep.O w t' x'->(∀k,(KDep.p t').ownBlock=some k->¬S k) ->
   NOwns w2 42 11 pv' (ts++[t'])->w.grownBy w2 pv.ownBlock->(∀k,pv'.ownBlock=some k->pv.ownBlock=some k\/w.1.size<=k)->∀nx:Int,MO w2 (fun k=>S k\/(KDep.p t').ownBlock=some k\/w.1.size<=k) u v iv bv dv pv' { m with ds:=m.ds++[x'],nx:=nx }:=by
 obtain⟨S1,S2,S3,ts,h1,h2,h3,h4,h5,h6,h7⟩:=h.bound;refine⟨ts,h4.row,h4.len,fun w2 pv' t' x' hO hn hr hg hv nx=>?_⟩;have hlow:∀q,S1 q\/S2 q\/S3 q->q<w.1.size:=fun q hq=>(h7 q hq).2;have hSS:∀q,S1 q\/S2 q\/S3 q->S q:=fun q hq=>(h7 q hq).1;have hoth:∀k,k<w.1.size->pv.ownBlock≠some k->w2.1[k]?=w.1[k]?:=fun k hk hne=>hg.block k hk (fun e=>hne e.symm);refine⟨S1,S2,_,_,h1.of_heap fun k hk hlt=>hoth k hlt (fun e=>(h5 k hk).2 (h4.so k e)),h2.of_heap fun k hk=>hoth k (h2.lt k hk).2 (fun e=>h6 k (h3 k hk) (h4.so k e)),h3,h4.appendX hO (fun k hk e=>hn k hk (hSS k (.inr (.inr e)))) hr hg hv,fun k hk=>⟨(h5 k hk).1,fun e=>?_⟩,fun k hk e=>?_,fun k hk=>?_⟩
 ·rcases e with e|e|e
  ·exact(h5 k hk).2 e.1
  ·exact hn k e (hSS k (.inl hk))
  ·have:=hlow k (.inl hk);omega
 ·rcases e with e|e|e
  ·exact h6 k hk e.1
  ·exact hn k e (hSS k (.inr (.inl hk)))
  ·have:=hlow k (.inr (.inl hk));omega
 ·rcases hk with hk|hk|hk|hk|hk
  ·exact .inl (hSS k (.inl hk))
  ·exact .inl (hSS k (.inr (.inl hk)))
  ·exact .inl (hSS k (.inr (.inr hk.1)))
  ·exact .inr (.inl hk)
  ·exact .inr (.inr hk)
end Kit
namespace Kit
structure PM(w:World)(S:Nat->Prop)(b:Nat)(u v iv bv dv pv:Value)(m:MD):Prop where
 box:AtC w b 33 #[u,v,iv,bv,dv,pv,.int .i64 m.nx]
 own:MO w S u v iv bv dv pv m
 nb:¬S b
abbrev P7(w:World)(S:Nat->Prop)(b:Nat)(m:MD)(a1:Option Addr)(c1:Nat)(a2:Option Addr)(c2:Nat)(a3:Option Addr)(c3:Nat)(a4:Option Addr)(c4:Nat)(a5:Option Addr)(c5:Nat)(a6:Option Addr)(c6:Nat):Prop:=PM w S b (.slice a1 m.1.length c1) (.slice a2 m.2.length c2) (.slice a3 m.3.length c3) (.slice a4 m.4.length c4) (.slice a5 m.5.length c5) (.slice a6 m.6.length c6) m
namespace PM
variable {w w' : World} {S S' : Nat -> Prop} {b : Nat} {u v iv bv dv pv : Value} {m : MD}
theorem below(h:PM w S b u v iv bv dv pv m)(hb:Below w.1.size w w'):PM w' S b u v iv bv dv pv m:=⟨h.box.over hb,h.own.below hb nR,h.nb⟩
theorem alloc(h:PM w S b u v iv bv dv pv m)(o:Obj):PM (w.alloc o) S b u v iv bv dv pv m:=h.below ((Below.refl _ w).alloc nR o)
theorem drew(h:PM w S b u v iv bv dv pv m):PM w.drew S b u v iv bv dv pv m:=h.below bR.drew
theorem mono(h:PM w S b u v iv bv dv pv m)(hs:∀k,S k->S' k)(hb:¬S' b):PM w S' b u v iv bv dv pv m:=⟨h.box,h.own.mono hs,hb⟩
theorem bound(h:PM w S b u v iv bv dv pv m):PM w (fun k=>S k/\k<w.1.size) b u v iv bv dv pv m:=⟨h.box,h.own.bound,fun e=>h.nb e.1⟩
theorem mr(h:PM w S b u v iv bv dv pv m):MR w u v iv bv dv pv m:=h.own.mr
theorem new(h:MO w S u v iv bv dv pv m):PM (w.alloc (.cells #[u,v,iv,bv,dv,pv,.int .i64 m.nx] 33)) (fun k=>S k/\k<w.1.size) w.1.size u v iv bv dv pv m :=
 ⟨AtC.new w 33 _,h.bound.alloc _,fun e=>Nat.lt_irrefl _ e.2⟩
theorem form(h:PM w S b u v iv bv dv pv m):∃a1 c1 a2 c2 a3 c3 a4 c4 a5 c5 a6 c6,u=.slice a1 m.1.length c1/\v=.slice a2 m.2.length c2/\iv=.slice a3 m.3.length c3/\bv=.slice a4 m.4.length c4/\dv=.slice a5 m.5.length c5/\pv=.slice a6 m.6.length c6:=h.own.mr.form
theorem soF(h:PM w S b u v iv bv dv pv m):∀k,dv.ownBlock=some k->S k:=by
 obtain⟨S1,S2,S3,ts,-,-,k3,-,-,-,k7⟩:=h.own;exact fun k hk=>k7 k (.inr (.inl (k3 k hk)))
theorem turnF(h:PM w S b u v iv bv dv pv m){l:List Bool}(hr:ROwns w' 0 4 dv (fc l))(hg:w.grownBy w' dv.ownBlock):PM w' S b u v iv bv dv pv { m with fs:=l } :=
 ⟨h.box.grown hg (fun e=>h.nb (h.soF b e)),h.own.turnF hr hg,h.nb⟩
theorem chgF(h:PM w S b u v iv bv dv pv m)(hg:w.grownBy w' dv.ownBlock):Chg S w w':=Chg.of_grown hg fun k hk=>h.soF k hk
theorem ownF(h:PM w S b u v iv bv dv pv m):ROwns w 0 4 dv (fc m.fs):=by
 obtain⟨S1,S2,S3,ts,-,k2,-⟩:=h.own;exact k2
end PM
def markU(u:Int)(m:MD):MD:=if 0<=u/\u<(m.5.length:Int)then{ m with fs:=m.fs.set u.toNat true }else m
theorem markU_nx(u:Int)(m:MD):(markU u m).nx=m.nx:=by unfold markU;split<;>rfl
end Kit
theorem zb1(S:Nat->Prop)(b:Nat)(x:Int)(u v iv bv dv pv:Value)(m:MD)(w:World)(h:PM w S b u v iv bv dv pv m):
  Calls Tryz.prog 197 #[.pointer (some ⟨b,0,none⟩),.int .i64 x] w fun e w'=>e=.returned (.tuple #[])/\PM w' S b u v iv bv dv pv (markU x m)/\Chg S w w':=by
 obtain⟨a1,c1,a2,c2,a3,c3,a4,c4,a5,c5,a6,c6,rfl,rfl,rfl,rfl,rfl,rfl⟩:=h.form;have x4:=h.box.c4;have H:=hide h;by_cases h0:0<=x
 ·have H0:=hide h0;by_cases h1:x<(m.5.length:Int)
  ·have H1:=hide h1;obtain⟨n,rfl⟩:∃n:Nat,x=(n:Int):=⟨x.toNat,by omega⟩
   have hn:n<m.5.length:=by omega
   obtain⟨g,cap,e1,k1,k2,k3,k4⟩:=h.ownF.at n (by rw[zad];exact hn);rw[zad]at e1;simp only[Value.slice.injEq,true_and]at e1;obtain⟨rfl,rfl⟩:=e1;have k1':w.cell? ⟨g,n,none⟩=some (.bool m.fs[n]):=k1.trans (by simp[fc,hn]);generalize m.fs[n]=t0 at k1';have HS:=hide (ROwns.stored (l:=fc m.fs) (g:=g) (cap:=c5) (by rw[zad];exact h.ownF) n (.bool true));have hd:decide ((n:Int)<(m.5.length:Int))=true:=decide_eq_true h1;clear k1 h;go_enter Tryz.func197,Tryz.ntmps197
   go_wp2
   go_end0
   have q:=HS.o.1;have q2:=HS.o.2;rw[zad,←zdd]at q;have e:markU (n:Int) m={ m with fs:=m.fs.set n true }:=by unfold markU;rw[if_pos ⟨H0.o,H1.o⟩];rfl
   rw[e];exact⟨rfl,H.out.turnF q q2,H.out.chgF q2⟩
  ·exact cQ53
 ·exact cQ66
def inB(x a b:Int):Bool:=decide (a<=x/\x<=b)
theorem zas{x a b:Int}(h:inB x a b=true):a<=x/\x<=b:=of_decide_eq_true h
theorem zhs{x a b:Int}(h:inB x a b=false):x<a\/b<x:=by
 have:=of_decide_eq_false h;omega
theorem zai(x a b:Int)(w:World):
  Calls Tryz.prog 50 #[.int .i64 x,.int .i64 a,.int .i64 b] w fun e w'=>e=.returned (.bool (inB x a b))/\w'=w:=by
 by_cases h0:a<=x
 ·by_cases h1:x<=b
  ·have hv:inB x a b=true:=by simp[inB,h0,h1]
   exact cQ63
  ·have hv:inB x a b=false:=by simp[inB,h1]
   exact cQ63
 ·have hv:inB x a b=false:=by simp[inB,h0]
  exact cQ63
theorem ze6(v:Value)(l:List Int)(x:Int)(w:World)(h:RInts w v l)(hl:l.length<=1048576):
  Calls Tryz.prog 217 #[v,.int .i64 x] w fun e w'=>e=.returned (.bool (l.contains x))/\w'=w:=by
 obtain⟨a1,c1,rfl,ha⟩:=h;have HA:=hide ha;clear ha;go_enter Tryz.func217,Tryz.ntmps217
 go_wp2;go_loopw [5] (fun i wr=>∃j:Nat,j<=l.length/\i=.int .i64 j/\w=wr/\Hid ((l.take j).contains x=false)) (fun i _=>l.length-(intOf i).toNat)
 case atStart=>exact⟨0,Nat.zero_le _,rfl,rfl,by show(l.take 0).contains x=false;simp⟩
 case round =>
  obtain⟨j,hj,rfl,rfl,HT⟩:=hrel;by_cases hlt:j<l.length
  ·obtain⟨g1,o1,rfl,_,k1⟩:=HA.o j hlt;have HJ:Hid (l[j]∈l/\(l.take (j+1)).contains x=((l.take j).contains x || x==l[j])):=by
    refine⟨List.getElem_mem hlt,?_⟩;rw[show l.take (j+1)=l.take j++[l[j]]from(List.take_append_getElem hlt).symm];exact Bool.eq_iff_iff.2 (by simp only[List.contains_iff_mem,List.mem_append,List.mem_singleton,Bool.or_eq_true,beq_iff_eq])
   obtain⟨t,ht⟩:∃t,l[j]=t:=⟨_,rfl⟩
   rw[ht]at k1 HJ;clear ht;have j0:(0:Int)<=(j:Int):=by omega
   have j1:(j:Int)<(l.length:Int):=by omega
   by_cases hx:t=x
   ·subst hx;go_wp2;go_ret;have:=HJ.o.1;exact⟨by rw[show l.contains t=true by simpa using this];rfl,rfl⟩
   ·have HX:=hide hx;go_wp2;go_roundw
    case rel =>
     refine⟨j+1,by omega,by go_num,by first| trivial|rfl,?_⟩;show(l.take (j+1)).contains x=false;have q:=HX.o;rw[HJ.o.2,HT.o,Bool.false_or];exact beq_false_of_ne (fun e=>q e.symm)
    case measure=>simp[intOf];omega
  ·have hj2:j=l.length:=by omega
   have HF:Hid (l.contains x=false):=by
    have:=HT.o;rw[hj2,List.take_length]at this;exact this
   go_wp2;go_ret;exact⟨by rw[HF.o];rfl,rfl⟩
theorem zi5(v:Value)(ds:List Dp)(x:Int)(w:World)(h:RN KDep w v ds)(hl:ds.length<=1048576):
  Calls Tryz.prog 224 #[v,.int .i64 x] w fun e w'=>(∃b,e=.returned (.bool b))/\w'=w:=by
 obtain⟨a1,c1,rfl,-,ha⟩:=h;have HA:=hide ha;clear ha;go_enter Tryz.func224,Tryz.ntmps224
 go_wp2;go_loopw [5] (fun i wr=>∃j:Nat,j<=ds.length/\i=.int .i64 j/\w=wr) (fun i _=>ds.length-(intOf i).toNat)
 case atStart=>exact⟨0,Nat.zero_le _,rfl,rfl⟩
 case round =>
  obtain⟨j,hj,rfl,rfl⟩:=hrel;by_cases hlt:j<ds.length
  ·obtain⟨g,off,t,rfl,-,hc,p,rfl,-⟩:=HA.o j hlt;have k1:w.cell? ⟨g,off+j*11+1,none⟩=some (.int .i64 ds[j].kd):=hc 1 dC;have k4:w.cell? ⟨g,off+j*11+4,none⟩=some (.int .i64 ds[j].bk):=hc 4 dC;generalize ds[j].kd=kd at k1;generalize ds[j].bk=bk at k4;clear hc;have j0:(0:Int)<=(j:Int):=by omega
   have j1:(j:Int)<(ds.length:Int):=by omega
   have hcase:((kd=1\/kd=6)/\bk=x)\/¬((kd=1\/kd=6)/\bk=x):=Classical.em _;rcases hcase with⟨hk,hb⟩| hn
   ·subst hb;rcases hk with rfl|rfl<;>(go_wp2;go_ret;exact⟨⟨_,rfl⟩,rfl⟩)
   ·by_cases h1:kd=1
    ·subst h1;have hb:¬bk=x:=fun e=>hn ⟨.inl rfl,e⟩;clear hn;go_wp2;go_roundw
     case rel=>exact⟨j+1,by omega,by go_num,by first| trivial|rfl⟩
     case measure=>simp[intOf];omega
    ·by_cases h6:kd=6
     ·subst h6;have hb:¬bk=x:=fun e=>hn ⟨.inr rfl,e⟩;clear hn;go_wp2;go_roundw
      case rel=>exact⟨j+1,by omega,by go_num,by first| trivial|rfl⟩
      case measure=>simp[intOf];omega
     ·clear hn;go_wp2;go_roundw
      case rel=>exact⟨j+1,by omega,by go_num,by first| trivial|rfl⟩
      case measure=>simp[intOf];omega
  ·go_wp2;go_ret;exact⟨⟨_,rfl⟩,rfl⟩
def uoI(i:Int):Int:=if inB i 1 8 then 1+(i-1)/2 else -1
def uoB(p:Int):Int:=if inB p 1 16 then p+4 else -1
theorem zbr(i:Int)(w:World):Calls Tryz.prog 198 #[.int .i64 i] w fun e w'=>e=.returned (.int .i64 (uoI i))/\w'=w:=by
 go_enter Tryz.func198,Tryz.ntmps198
 go_wp2_with fail
 refine(zai i 1 8 _).mono ?_;rintro e w1 ⟨rfl,rfl⟩
 cases hb:inB i 1 8 with
 | true =>
  have HB:=hide hb;obtain⟨h1,h2⟩:=zas hb;clear hb;have hd:(i-1).tdiv 2=(i-1)/2:=Int.tdiv_eq_ediv_of_nonneg oM;go_wp2;go_ret;exact⟨by unfold uoI;rw[HB.o];rfl,rfl⟩
 | false =>
  have HB:=hide hb;clear hb;go_wp2;go_ret;exact⟨by unfold uoI;rw[HB.o];rfl,rfl⟩
theorem zbl(i:Int)(w:World):Calls Tryz.prog 203 #[.int .i64 i] w fun e w'=>e=.returned (.int .i64 (uoB i))/\w'=w:=by
 go_enter Tryz.func203,Tryz.ntmps203
 go_wp2_with fail
 refine(zai i 1 16 _).mono ?_;rintro e w1 ⟨rfl,rfl⟩
 cases hb:inB i 1 16 with
 | true =>
  have HB:=hide hb;obtain⟨h1,h2⟩:=zas hb;clear hb;go_wp2;go_ret;exact⟨by unfold uoB;rw[HB.o];rfl,rfl⟩
 | false =>
  have HB:=hide hb;clear hb;go_wp2;go_ret;exact⟨by unfold uoB;rw[HB.o];rfl,rfl⟩
theorem kind_any(S:Nat->Prop)(b:Nat)(x:Int)(u v iv bv dv pv:Value)(m:MD)(w:World)(h:PM w S b u v iv bv dv pv m)(hl:m.6.length<=1048576):
  Calls Tryz.prog 223 #[.pointer (some ⟨b,0,none⟩),.int .i64 x] w fun e w'=>(∃k:Int,e=.returned (.int .i64 k))/\w'=w:=by
 obtain⟨a6,c6,rfl,-,ha⟩:=h.mr.p;have x5:=h.box.c5;have HA:=hide ha;clear ha h;go_enter Tryz.func223,Tryz.ntmps223
 exact cQ25
namespace Kit
theorem ze7{α:Type}(p:α->Bool):∀l:List α,∃f:Nat->Nat,(∀(j:Nat) (h:j<(l.filter p).length),∃h':f j<l.length,(l.filter p)[j]=l[f j]/\(l.take (f j)).filter p=(l.filter p).take j)/\∀i j,i<j->j<(l.filter p).length->f i<f j
 | []=>⟨fun _=>0,fun j h=>by simp at h,fun i j _ h=>by simp at h⟩
 | a::l=>by
  obtain⟨f,h1,h2⟩:=ze7 p l;by_cases hp:p a=true
  ·refine⟨fun j=>match j with| 0=>0|j+1=>f j+1,fun j h=>?_,fun i j hij h=>?_⟩
   ·cases j with
    | zero=>exact⟨by simp,by simp[hp],by simp⟩
    | succ j =>
     simp only[List.filter_cons,hp,if_true,List.length_cons]at h;obtain⟨q1,q2,q3⟩:=h1 j oM;refine⟨by simpa using q1,?_,?_⟩
     ·simp only[List.filter_cons,hp,if_true,List.getElem_cons_succ];exact q2
     ·simp only[List.take_succ_cons,List.filter_cons,hp,if_true,q3]
   ·simp only[List.filter_cons,hp,if_true,List.length_cons]at h
    cases j with
    | zero=>omega
    | succ j =>
     cases i with
     | zero=>simp
     | succ i =>
      have:=h2 i j oM oM;simp only;omega
  ·refine⟨fun j=>f j+1,fun j h=>?_,fun i j hij h=>?_⟩
   ·simp only[List.filter_cons,hp,Bool.false_eq_true,if_false]at h;obtain⟨q1,q2,q3⟩:=h1 j h;refine⟨by simpa using q1,?_,?_⟩
    ·simp only[List.filter_cons,hp,Bool.false_eq_true,if_false,List.getElem_cons_succ];exact q2
    ·simp only[List.take_succ_cons,List.filter_cons,hp,Bool.false_eq_true,if_false,q3]
   ·simp only[List.filter_cons,hp,Bool.false_eq_true,if_false]at h;have:=h2 i j hij h;simp only;omega
end Kit
def zbo(id:Int)(ds:List Dp):List Dp:=ds.filter fun d=>!decide (d.id=id)
namespace Kit
abbrev ZT:=Int->Int->Prop
def Z0:ZT:=fun _ _=>False
def pc(p:Int)(is:List Ino):Nat:=(is.map fun x=>x.2.2.count p).sum
def fk(ds:List Dp):List (Int×List Int):=(ds.filter fun d=>d.kd==5).map fun d=>(d.id,d.bl)
def fc5(p:Int)(l:List (Int×List Int)):Nat:=(l.map fun e=>e.2.count p).sum
def bitZ(p:Int)(xs:List Bool):Nat:=if xs[p.toNat-1]?=some true then 1 else 0
structure Kz(Z:ZT)(m:MD):Prop where
 k:∀p:Int,1<=p->p<=16->pc p m.is+fc5 p (fk m.ds)<=bitZ p m.xs
 z:∀i p,Z i p->1<=p->p<=16->pc p m.is=0/\∀e∈fk m.ds,e.1≠i->p∉e.2
theorem zlp{α:Type}(f:α->Nat):∀(l:List α)(j:Nat)(h:j<l.length)(x:α),((l.set j x).map f).sum+f l[j]=(l.map f).sum+f x
 | [],_,h,_=>by simp at h
 | a::l,0,_,x=>by simp;omega
 | a::l,j+1,h,x=>by
  have:=zlp f l j uI x;simp only[List.set_cons_succ,List.map_cons,List.sum_cons,List.getElem_cons_succ];omega
theorem sum_sub{α:Type}(f:α->Nat){l l':List α}(h:l.Sublist l'):(l.map f).sum<=(l'.map f).sum:=by
 induction h with
 | slnil=>exact Nat.le_refl _
 | cons a _ ih=>simp;omega
 | cons_cons a _ ih=>simp;omega
theorem ze8{α:Type}(f:α->Nat){l:List α}{d:α}(h:d∈l):f d<=(l.map f).sum:=by
 induction l with
 | nil=>simp at h
 | cons a l ih =>
  simp only[List.map_cons,List.sum_cons];rcases List.mem_cons.mp h with rfl|h
  ·omega
  ·have:=ih h;omega
theorem sum_two{α:Type}(f:α->Nat){l:List α}{d e:α}(h:d∈l)(h2:e∈l)(hn:d≠e):f d+f e<=(l.map f).sum:=by
 induction l with
 | nil=>simp at h
 | cons a l ih =>
  simp only[List.map_cons,List.sum_cons];rcases List.mem_cons.mp h with rfl|h
  ·rcases List.mem_cons.mp h2 with rfl|h2
   ·exact absurd rfl hn
   ·have:=ze8 f h2;omega
  ·rcases List.mem_cons.mp h2 with e2|h2
   ·have:=ze8 f h;rw[e2];omega
   ·have:=ih h h2;omega
theorem ze9(f:Dp->Bool)(ds:List Dp):(fk (ds.filter f)).Sublist (fk ds):=(List.filter_sublist.filter _).map _
theorem zds(a b:List Dp):fk (a++b)=fk a++fk b:=by simp[fk]
theorem zgs{d:Dp}(h:d.kd≠5):fk [d]=[]:=by simp[fk,h]
theorem zjo{d:Dp}(h:d.kd=5):fk [d]=[(d.id,d.bl)]:=by simp[fk,h]
theorem zlq(d:Dp)(ds:List Dp):fk (d::ds)=fk [d]++fk ds:=zds [d] ds
def AlkD(d e:Dp):Prop:=(d.kd=5↔e.kd=5)/\(e.kd=5->d.id=e.id/\d.bl=e.bl)
theorem AlkD.refl(d:Dp):AlkD d d:=⟨Iff.rfl,fun _=>⟨rfl,rfl⟩⟩
theorem AlkD.fk{d e:Dp}(h:AlkD d e):fk [d]=Kit.fk [e]:=by
 by_cases h5:e.kd=5
 ·rw[zjo h5,zjo (h.1.mpr h5),(h.2 h5).1,(h.2 h5).2]
 ·rw[zgs h5,zgs (fun q=>h5 (h.1.mp q))]
theorem zgt:∀(a b:List Dp),a.length=b.length->(∀(i:Nat)(h1:i<a.length)(h2:i<b.length),AlkD a[i] b[i])->fk a=fk b
 | [],[],_,_=>rfl
 | [],_::_,h,_=>by simp at h
 | _::_,[],h,_=>by simp at h
 | x::a,y::b,h,hp=>by
  rw[zlq x a,zlq y b,(show AlkD x y from hp 0 sI sI).fk,zgt a b uI (fun i h1 h2=>hp (i+1) (by simpa using h1) (by simpa using h2))]
theorem fk_set(ds:List Dp)(j:Nat)(h:j<ds.length)(d:Dp)(ha:AlkD d ds[j]):fk (ds.set j d)=fk ds :=
 zgt _ _ sI fun i h1 h2=>by
  by_cases hij:j=i
  ·subst hij;rw[List.getElem_set_self];exact ha
  ·rw[List.getElem_set_ne hij];exact AlkD.refl _
theorem zd7(ds:List Dp)(j:Nat)(h:j<ds.length)(d:Dp)(ha:AlkD d ds[j]):(fk (ds.set j d)).Sublist (fk ds):=by
 rw[fk_set ds j h d ha];exact List.Sublist.refl _
theorem zgu{xs:List Bool}{j:Nat}(hj:j<xs.length){p:Int}(h1:1<=p)(b:Bool):bitZ p (xs.set j b)=if p=(j:Int)+1 then(if b then 1 else 0)else bitZ p xs:=by
 unfold bitZ;by_cases h:p=(j:Int)+1
 ·rw[if_pos h,show p.toNat-1=j by omega,List.getElem?_set_self hj]
  cases b<;>simp
 ·rw[if_neg h,List.getElem?_set_ne oM]
theorem zi6(p:Int)(xs:List Bool):bitZ p xs<=1:=by unfold bitZ;split<;>omega
theorem zjp(is:List Ino)(j:Nat)(h:j<is.length)(x:Ino)(p:Int):pc p (is.set j x)+is[j].2.2.count p=pc p is+x.2.2.count p:=zlp (fun y:Ino=>y.2.2.count p) is j h x
theorem zjq{p:Int}:∀{l:List (Int×List Int)},(∀e∈l,p∉e.2)->fc5 p l=0
 | [],_=>rfl
 | e::l,h=>by
  have h1:e.2.count p=0:=List.count_eq_zero.mpr (h e sI);have h2:=zjq (l:=l) fun q hq=>h q (by simp[hq]);show e.2.count p+fc5 p l=0;omega
def BlQ(ps:List Int)(q:Nat)(bl:List Int):Prop:=(∀p∈bl,(1:Int)<=p/\p<=16)/\∀p,bl.count p<=(ps.take q).count p
theorem BlQ.nil(ps:List Int):BlQ ps 0 []:=⟨fun p hp=>by simp at hp,fun p=>by simp⟩
theorem BlQ.more{ps:List Int}{q:Nat}{bl:List Int}(h:BlQ ps q bl)(hq:q<ps.length){t:Int}(ht:ps[q]=t)(h1:1<=t)(h2:t<=16):BlQ ps (q+1) (bl++[t]):=by
 refine⟨fun p hp=>?_,fun p=>?_⟩
 ·rcases List.mem_append.mp hp with e|e
  ·exact h.1 p e
  ·simp only[List.mem_cons,List.not_mem_nil,or_false]at e;subst e;exact⟨h1,h2⟩
 ·have:=h.2 p;rw[List.take_succ_eq_append_getElem hq,List.count_append,List.count_append,ht];omega
theorem BlQ.skip{ps:List Int}{q:Nat}{bl:List Int}(h:BlQ ps q bl)(hq:q<ps.length):BlQ ps (q+1) bl:=by
 refine⟨h.1,fun p=>?_⟩;have:=h.2 p;rw[List.take_succ_eq_append_getElem hq,List.count_append];omega
namespace Kz
variable {Z : ZT} {m : MD}
theorem weak{Z':ZT}(h:Kz Z' m)(hz:∀i p,Z i p->Z' i p):Kz Z m:=⟨h.k,fun i p hi=>h.z i p (hz i p hi)⟩
theorem none(h:Kz Z m):Kz Z0 m:=h.weak fun _ _ e=>e.elim
theorem of(h:Kz Z m){m':MD}(h1:m'.is=m.is)(h2:fk m'.ds=fk m.ds)(h3:m'.xs=m.xs):Kz Z m':=by
 obtain⟨a,b⟩:=h;refine⟨?_,?_⟩
 ·rw[h1,h2,h3];exact a
 ·rw[h1,h2];exact b
theorem deps(h:Kz Z m){m':MD}(h1:m'.is=m.is)(h2:(fk m'.ds).Sublist (fk m.ds))(h3:m'.xs=m.xs):Kz Z m':=by
 obtain⟨a,b⟩:=h;refine⟨fun p p1 p2=>?_,fun i p hz p1 p2=>?_⟩
 ·have:=a p p1 p2;have h4:=sum_sub (fun e:Int×List Int=>e.2.count p) h2;rw[h1,h3];unfold fc5 at*;omega
 ·have:=b i p hz p1 p2;rw[h1];exact⟨this.1,fun e he=>this.2 e (h2.subset he)⟩
theorem inode(h:Kz Z m)(j:Nat){x:Ino}(hx:∀(hj:j<m.3.length)(p:Int),1<=p->x.2.2.count p<=m.is[j].2.2.count p):Kz Z { m with is:=m.is.set j x }:=by
 by_cases hj:j<m.3.length
 ·obtain⟨a,b⟩:=h;refine⟨fun p p1 p2=>?_,fun i p hz p1 p2=>?_⟩
  ·have q:=zjp m.is j hj x p;have:=hx hj p p1;have:=a p p1 p2;show pc p (m.is.set j x)+fc5 p (fk m.ds)<=bitZ p m.xs;omega
  ·have q:=zjp m.is j hj x p;have:=hx hj p p1;have:=b i p hz p1 p2;exact⟨by show pc p (m.is.set j x)=0;omega,this.2⟩
 ·rw[List.set_eq_of_length_le oM];exact h
theorem mark(h:Kz Z m)(j:Nat)(fs:List Bool):Kz Z { m with xs:=m.xs.set j true,fs:=fs }:=by
 by_cases hj:j<m.1.length
 ·refine⟨fun p p1 p2=>?_,h.z⟩;have:=h.k p p1 p2;have q:=zi6 p m.xs;show _<=bitZ p (m.xs.set j true);rw[zgu hj p1]
  split
  ·simp;omega
  ·exact this
 ·rw[List.set_eq_of_length_le oM];exact⟨h.k,h.z⟩
theorem clear(h:Kz Z m)(j:Nat)(hz:∀i,Z i ((j:Int)+1)):Kz Z { m with xs:=m.xs.set j false }:=by
 by_cases hj:j<m.1.length
 ·refine⟨fun p p1 p2=>?_,h.z⟩;show _<=bitZ p (m.xs.set j false);rw[zgu hj p1]
  split
  ·rename_i e;have q0:=(h.z 0 p (by rw[e];exact hz 0) p1 p2).1;have q1:fc5 p (fk m.ds)=0:=zjq fun e' he=>(h.z (e'.1+1) p (by rw[e];exact hz _) p1 p2).2 e' he oM;simp only[Bool.false_eq_true,if_false];show pc p m.is+fc5 p (fk m.ds)<=0;omega
  ·exact h.k p p1 p2
 ·rw[List.set_eq_of_length_le oM];exact⟨h.k,h.z⟩
theorem take(h:Kz Z0 m)(j p:Nat)(x:Ino)(fs:List Bool)(hp:p<m.1.length)(hb:m.xs[p]?=some false)(hx:∀(hj:j<m.3.length)(q:Int),1<=q->x.2.2.count q<=m.is[j].2.2.count q+(if q=(p:Int)+1 then 1 else 0)):Kz Z0 { m with xs:=m.xs.set p true,fs:=fs,is:=m.is.set j x }:=by
 refine⟨fun q q1 q2=>?_,fun _ _ e=>e.elim⟩;have a:=h.k q q1 q2;show pc q (m.is.set j x)+fc5 q (fk m.ds)<=bitZ q (m.xs.set p true);rw[zgu hp q1];by_cases hj:j<m.3.length
 ·have e:=zjp m.is j hj x q;have l:=hx hj q q1;by_cases hq:q=(p:Int)+1
  ·rw[if_pos hq]at l ⊢;have z:bitZ q m.xs=0:=by unfold bitZ;rw[hq,show((p:Int)+1).toNat-1=p by omega,hb];simp
   simp only[if_true];omega
  ·rw[if_neg hq]at l ⊢;omega
 ·rw[List.set_eq_of_length_le oM];have:=zi6 q m.xs
  split
  ·simp;omega
  ·exact a
def Room(Z:ZT)(m:MD)(bl:List Int):Prop:=(∀p:Int,1<=p->p<=16->pc p m.is+fc5 p (fk m.ds)+bl.count p<=bitZ p m.xs)/\∀i p,Z i p->1<=p->p<=16->p∉bl
theorem put(h:Kz Z m){m':MD}(d:Dp)(h1:m'.is=m.is)(h2:m'.ds=m.ds++[d])(h3:m'.xs=m.xs)(hr:d.kd=5->Room Z m d.bl):Kz Z m':=by
 by_cases h5:d.kd=5
 ·obtain⟨r1,r2⟩:=hr h5;refine⟨fun p p1 p2=>?_,fun i p hz p1 p2=>?_⟩
  ·have:=r1 p p1 p2;rw[h1,h2,h3,zds,zjo h5];unfold fc5 at*;simp;omega
  ·have:=h.z i p hz p1 p2;rw[h1,h2,zds,zjo h5];refine⟨this.1,fun e he hn=>?_⟩;rcases List.mem_append.mp he with he|he
   ·exact this.2 e he hn
   ·simp only[List.mem_cons,List.not_mem_nil,or_false]at he;subst he;exact r2 i p hz p1 p2
 ·exact h.of h1 (by rw[h2,zds,zgs h5,List.append_nil]) h3
theorem lose(h:Kz Z m)(j:Nat)(hj:j<m.3.length)(x:Ino)(bl:List Int)(hx:∀p:Int,1<=p->x.2.2.count p=0)(hb:∀p:Int,1<=p->bl.count p<=m.is[j].2.2.count p):Room Z { m with is:=m.is.set j x } bl:=by
 refine⟨fun p p1 p2=>?_,fun i p hz p1 p2 hm=>?_⟩
 ·have e:=zjp m.is j hj x p;have:=hx p p1;have:=hb p p1;have:=h.k p p1 p2;show pc p (m.is.set j x)+fc5 p (fk m.ds)+bl.count p<=bitZ p m.xs;omega
 ·have q:=(h.z i p hz p1 p2).1;have c:0<bl.count p:=List.count_pos_iff.mpr hm;have:=hb p p1;have:=ze8 (fun y:Ino=>y.2.2.count p) (List.getElem_mem hj);unfold pc at q;omega
theorem Room.of{bl:List Int}(h:Room Z m bl){m':MD}(h1:m'.is=m.is)(h2:fk m'.ds=fk m.ds)(h3:m'.xs=m.xs):Room Z m' bl:=by
 obtain⟨a,b⟩:=h;refine⟨?_,b⟩;rw[h1,h2,h3];exact a
theorem drop(h:Kz Z m)(id:Int)(bl:List Int)(hb:∀p∈bl,Z id p):Kz (fun i p=>Z i p\/p∈bl) { m with ds:=zbo id m.ds }:=by
 have hs:(fk (zbo id m.ds)).Sublist (fk m.ds):=ze9 _ _;refine⟨(h.deps (m':={ m with ds:=zbo id m.ds }) rfl hs rfl).k,fun i p hz p1 p2=>?_⟩;rcases hz with hz|hz
 ·have:=h.z i p hz p1 p2;exact⟨this.1,fun e he=>this.2 e (hs.subset he)⟩
 ·have:=h.z id p (hb p hz) p1 p2;refine⟨this.1,fun e he _=>this.2 e (hs.subset he) ?_⟩;obtain⟨d,hd,rfl⟩:=List.mem_map.mp he;have:=(List.mem_filter.mp (List.mem_filter.mp hd).1).2;simpa using this
def zof(ds:List Dp):ZT:=fun i p=>∃d∈ds,d.kd=5/\d.id=i/\p∈d.bl
theorem zof_of(h:Kz Z m):Kz (zof m.ds) m:=by
 refine⟨h.k,fun i p hz p1 p2=>?_⟩;obtain⟨d,hd,h5,rfl,hp⟩:=hz;have hm:(d.id,d.bl)∈fk m.ds:=List.mem_map.mpr ⟨d,List.mem_filter.mpr ⟨hd,by simp[h5]⟩,rfl⟩;have a:=h.k p p1 p2;have b:=zi6 p m.xs;have c:0<d.bl.count p:=List.count_pos_iff.mpr hp;have s:=ze8 (fun e:Int×List Int=>e.2.count p) hm;unfold fc5 at a;refine⟨by simp only at s;omega,fun e he hn hq=>?_⟩;have c2:0<e.2.count p:=List.count_pos_iff.mpr hq;have s2:=sum_two (fun e:Int×List Int=>e.2.count p) hm he (fun q=>hn (by rw[←q]));simp only at s2;omega
theorem ptr(h:Kz Z m){x:Ino}(hx:x∈m.is){p:Int}(hp:p∈x.2.2)(h1:1<=p)(h2:p<=16):m.xs[p.toNat-1]?=some true:=by
 have a:=h.k p h1 h2;have c:0<x.2.2.count p:=List.count_pos_iff.mpr hp;have s:=ze8 (fun y:Ino=>y.2.2.count p) hx;unfold pc at a;unfold bitZ at a
 split at a
 ·assumption
 ·omega
end Kz
end Kit
namespace Kit
def val:List UInt8->Nat
 | []=>0
 | c::r=>c.toNat%128+128*val r
theorem zdt(l:List UInt8)(c:UInt8):val (l++[c])=val l+c.toNat%128*128 ^ l.length:=by
 induction l with
 | nil=>simp[val]
 | cons a r ih =>
  simp only[List.cons_append,val,ih,List.length_cons];rw[Nat.pow_succ,Nat.mul_add,Nat.add_assoc,←Nat.mul_assoc,←Nat.mul_assoc,Nat.mul_comm (c.toNat%128*128 ^ r.length) 128,Nat.mul_assoc]
theorem val_lt(l:List UInt8):val l<128 ^ l.length:=by
 induction l with
 | nil=>simp[val]
 | cons a r ih =>
  simp only[val,List.length_cons];rw[Nat.pow_succ];have:a.toNat%128<128:=Nat.mod_lt _ dC;omega
def rdF:Nat->List UInt8->Nat->Nat->Option (Nat×Nat)
 | 0,_,_,_=>none
 | _+1,[],_,_=>none
 | f+1,c::r,k,n=>if 128<=c.toNat then rdF f r (k+1) (n+c.toNat%128*128 ^ k)
   else if 1000000000<n+c.toNat%128*128 ^ k\/(c.toNat=0/\0<k)then none else some (n+c.toNat%128*128 ^ k,k+1)
def rd(s:ByteArray)(p:Nat):Option (Nat×Nat):=rdF 5 (s.data.toList.drop p) 0 0
theorem vbF_ne(f n:Nat):vbF f n≠[]:=by
 cases f with
 | zero=>simp[vbF]
 | succ f=>unfold vbF;split<;>simp
theorem vbF_last(f:Nat):∀n,0<n->n<128 ^ (f+1)->∀l c,vbF f n=l++[c]->c.toNat≠0:=by
 induction f with
 | zero =>
  intro n h0 h1 l c h;simp only[vbF]at h;have:c=loB n:=by
   cases l with
   | nil=>simpa using h.symm
   | cons a t=>simp at h
  subst this;have h2:n<128:=by simpa using h1
  simp[loB,UInt8.toNat_ofNat'];omega
 | succ f ih =>
  intro n h0 h1 l c h;by_cases hb:127<n
  ·rw[zi1 f n hb]at h
   cases l with
   | nil=>simp at h;exact absurd h.2 (vbF_ne _ _)
   | cons a t =>
    simp at h;refine ih (n/128) oM ?_ t c h.2;rw[Nat.pow_succ]at h1;omega
  ·rw[zdn _ n oM]at h;have:c=loB n:=by
    cases l with
    | nil=>simpa using h.symm
    | cons a t=>simp at h
   subst this;simp[loB,UInt8.toNat_ofNat'];omega
theorem vbF_val(pre:List UInt8):∀(f:Nat)(c:UInt8),pre.length<=f->(∀b∈pre,128<=b.toNat)->c.toNat<128->(c.toNat≠0\/pre=[]) ->
  vbF f (val (pre++[c]))=pre++[c]:=by
 induction pre with
 | nil =>
  intro f c _ _ hc _;have hv:val ([]++[c])=c.toNat:=by simp[val];omega
  rw[hv,zdn _ _ oM];simp[loB]
 | cons b r ih =>
  intro f c hl hb hc hn;have hc0:c.toNat≠0:=by simpa using hn
  cases f with
  | zero=>simp at hl
  | succ f =>
   have hb0:128<=b.toNat:=hb b sI;have hb1:b.toNat<256:=b.toNat_lt;have hpos:0<val (r++[c]):=by
    rw[zdt];have h1:0<128 ^ r.length:=Nat.pow_pos dC;have h2:0<c.toNat%128:=by omega
    have:=Nat.mul_pos h2 h1;omega
   have hv:val (b::r++[c])=b.toNat%128+128*val (r++[c]):=rfl;rw[hv,zi1 f _ oM];have e1:(b.toNat%128+128*val (r++[c]))/128=val (r++[c]):=by omega
   have e2:hiB (b.toNat%128+128*val (r++[c]))=b:=by
    unfold hiB;rw[show(b.toNat%128+128*val (r++[c]))%128+128=b.toNat by omega];simp
   rw[e1,e2,ih f c (by simpa using hl) (fun x hx=>hb x (by simp[hx])) hc (.inl hc0)];rfl
theorem zf4(pre:List UInt8)(c:UInt8)(hl:pre.length<=8)(hb:∀b∈pre,128<=b.toNat)(hc:c.toNat<128):
  vb (val (pre++[c]))=pre++[c]↔¬(c.toNat=0/\0<pre.length):=by
 constructor
 ·rintro h ⟨h0,hp⟩;by_cases hz:val (pre++[c])=0
  ·rw[hz]at h;have:(vb 0).length=1:=rfl;rw[h]at this;simp at this;simp[this]at hp
  ·have hlt:=val_lt (pre++[c]);have hle:128 ^ (pre++[c]).length<=128 ^ (9+1):=Nat.pow_le_pow_right dC sO;exact vbF_last 9 _ oM oM pre c h h0
 ·intro h;refine vbF_val pre 9 c oM hb hc ?_;by_cases h0:c.toNat=0
  ·right
   have:¬0<pre.length:=fun hp=>h ⟨h0,hp⟩;exact List.length_eq_zero_iff.1 oM
  ·exact .inl h0
def AtK(s:ByteArray)(p k n:Nat):Prop :=
 ∃pre rest:List UInt8,s.data.toList.drop p=pre++rest/\pre.length=k/\(∀b∈pre,128<=b.toNat)/\n=val pre/\rd s p=rdF (5-k) rest k n
theorem AtK.start(s:ByteArray)(p:Nat):AtK s p 0 0:=⟨[],s.data.toList.drop p,rfl,rfl,by simp,rfl,rfl⟩
theorem AtK.lt{s:ByteArray}{p k n:Nat}(h:AtK s p k n):n<128 ^ k:=by
 obtain⟨pre,rest,_,rfl,_,rfl,_⟩:=h;exact val_lt pre
theorem zfa{s:ByteArray}{p k:Nat}{pre rest:List UInt8}(h:s.data.toList.drop p=pre++rest)(hk:pre.length=k)(hlt:p+k<s.size):rest=s[p+k]::rest.tail:=by
 have h1:(s.data.toList.drop p).drop k=rest:=by rw[h,←hk];simp
 rw[List.drop_drop]at h1;have h2:p+k<s.data.toList.length:=by simpa using hlt
 rw[List.drop_eq_getElem_cons h2]at h1;rw[←h1];rfl
theorem AtK.out{s:ByteArray}{p k n:Nat}(h:AtK s p k n)(hx:s.size<=p+k\/5<=k):rd s p=none:=by
 obtain⟨pre,rest,hd,hk,_,rfl,hr⟩:=h;rw[hr];by_cases h5:5<=k
 ·rw[show 5-k=0 by omega];rfl
 ·have hs:s.size<=p+k:=by omega
  have:rest=[]:=by
   have hl:=congrArg List.length hd;simp at hl;apply List.length_eq_zero_iff.1;have:s.data.size=s.size:=rfl;omega
  subst this;rw[show 5-k=(4-k)+1 by omega];rfl
theorem AtK.next{s:ByteArray}{p k n:Nat}(h:AtK s p k n)(hlt:p+k<s.size)(h5:k<5)(hc:128<=(s[p+k]).toNat):
  AtK s p (k+1) (n+(s[p+k]).toNat%128*128 ^ k):=by
 obtain⟨pre,rest,hd,hk,hb,rfl,hr⟩:=h;have hrest:=zfa hd hk hlt;refine⟨pre++[s[p+k]],rest.tail,?_,by simp[hk],?_,?_,?_⟩
 ·rw[hd];simp[List.append_assoc,←hrest]
 ·intro b hb';rcases List.mem_append.1 hb' with h1|h1
  ·exact hb b h1
  ·simp at h1;subst h1;exact hc
 ·rw[zdt,hk]
 ·rw[hr]
  conv=>lhs;rw[hrest,show 5-k=(5-(k+1))+1 by omega]
  rw[rdF,if_pos hc]
theorem AtK.stop{s:ByteArray}{p k n:Nat}(h:AtK s p k n)(hlt:p+k<s.size)(h5:k<5)(hc:(s[p+k]).toNat<128):
  rd s p=if 1000000000<n+(s[p+k]).toNat%128*128 ^ k\/((s[p+k]).toNat=0/\0<k)then none else some (n+(s[p+k]).toNat%128*128 ^ k,k+1):=by
 obtain⟨pre,rest,hd,hk,hb,rfl,hr⟩:=h;have hrest:=zfa hd hk hlt;rw[hr]
 conv=>lhs;rw[hrest,show 5-k=(5-(k+1))+1 by omega]
 rw[rdF,if_neg oM]
theorem zcc(s:ByteArray)(a b:Nat):(s.extract a b).data.toList=(s.data.toList.drop a).take (b-a):=by
 simp[ByteArray.data_extract,List.take_drop]
theorem AtK.form{s:ByteArray}{p k n:Nat}(h:AtK s p k n)(hlt:p+k<s.size)(h5:k<5)(hc:(s[p+k]).toNat<128):
  vb (n+(s[p+k]).toNat%128*128 ^ k)=(s.extract p (p+k+1)).data.toList↔¬((s[p+k]).toNat=0/\0<k):=by
 obtain⟨pre,rest,hd,hk,hb,rfl,_⟩:=h;have hrest:=zfa hd hk hlt;have e:(s.extract p (p+k+1)).data.toList=pre++[s[p+k]]:=by
  rw[zcc,hd,hrest,show p+k+1-p=pre.length+1 by omega,List.take_append];simp[List.take_of_length_le]
 have:=zf4 pre s[p+k] oM hb hc;rw[zdt,hk]at this;rw[e];exact this
end Kit
theorem Tryz.info5:(Tryz.prog.info? 5).map (fun i=>(i.zero,i.size,i.bytes))=some (some (.int .u8 0),1,1):=by kernel_rfl
theorem vb_big{n f m:Nat}{pre:List UInt8}(h:127<m)(hv:vb n=pre++vbF (f+1) m):vb n=(pre++[hiB m])++vbF f (m/128):=by
 rw[hv,zi1 f m h];simp
theorem vb_small{n f m:Nat}{pre:List UInt8}(h:m<=127)(hv:vb n=pre++vbF f m):pre++[loB m]=vb n:=by
 rw[hv,zdn f m h]
theorem byte_big(m:Nat):(m:Int)%128+128=((hiB m).toNat:Int):=by
 simp[hiB,UInt8.toNat_ofNat'];omega
theorem zf7(m:Nat)(h:m<=127):(m:Int)=((loB m).toNat:Int):=by
 simp[loB,UInt8.toNat_ofNat'];omega
theorem zkc(n:Int)(w:World)(h0:0<=n)(h1:n<=1000000000):
  Calls Tryz.prog 167 #[.int .i64 n] w fun e w'=>e=.returned (.string ⟨(vb n.toNat).toArray⟩)/\Below w.1.size w w':=by
 go_enter Tryz.func167,Tryz.ntmps167
 go_wp2;go_loopw [0,3] (fun x v wr=>∃(f m:Nat)(pre:List UInt8),x=.int .i64 m/\(m:Int)<=1000000000/\m<128 ^ (f+1)/\pre.length+f=9/\vb n.toNat=pre++vbF f m/\Owns wr w.1.size 5 v pre/\Below w.1.size w wr) (fun x _ _=>(intOf x).toNat)
 case atStart =>
  exact⟨9,n.toNat,[],by rw[Int.toNat_of_nonneg h0],by omega,by omega,rfl,rfl,Owns.lit0 w _ 5 nR,bR.alloc nR _⟩
 case round =>
  obtain⟨f,m,pre,rfl,hm,hf,hp,HV,hown,hb⟩:=hrel;have HV':Hid (vb n.toNat=pre++vbF f m):=HV;clear HV;have hsz:=hb.size;by_cases hlt:127<m
  ·go_wp2_with (at_builtin;refine zb6 w rfl _ _ 22 rfl w.1.size 5 Tryz.underlying22 Tryz.info5 _ pre rfl (hown.alloc _) (hb.alloc hsz _) ?c1 wr.1.size rfl (hiB m) ((m:Int)%128+128) (byte_big m) ?c2 ?c3 ?_)
   case c1=>simp;omega
   case c2=>simp
   case c3=>omega
   intro v' w1 R1 R2 _
   cases f with
   | zero=>simp at hf;omega
   | succ f =>
   clear hown;go_wp2;go_roundw
   case rel=>exact⟨f,m/128,pre++[hiB m],by go_num,by omega,by rw[Nat.pow_succ]at hf;omega,by simp;omega,vb_big hlt HV'.o,R1,R2⟩
   case measure=>simp[intOf];omega
  ·go_wp2_with (at_builtin;refine zb6 w rfl _ _ 22 rfl w.1.size 5 Tryz.underlying22 Tryz.info5 _ pre rfl (hown.alloc _) (hb.alloc hsz _) ?d1 wr.1.size rfl (loB m) (m:Int) (zf7 m oM) ?d2 ?d3 ?_)
   case d1=>simp;omega
   case d2=>simp
   case d3=>omega
   intro v' w1 R1 R2 _;have hcv:=zgl (P:=Tryz.prog) 22 9 5 Tryz.underlying22 Tryz.underlying5 Tryz.underlying9 R1;have e:=vb_small oM HV'.o;rw[e]at hcv;clear hown R1 e;go_wp2;go_ret;exact⟨rfl,R2⟩
def zbu(n:Nat):ByteArray:=⟨(vb n).toArray⟩
theorem zi7(n:Nat):(zbu n).size<=10:=by
 have:=vbF_len 9 n;simp only[zbu,ByteArray.size,vb,List.size_toArray];omega
theorem zcj(n:Int)(w:World)(h0:0<=n)(h1:n<=1000000000):
  Calls Tryz.prog 167 #[.int .i64 n] w fun e w'=>e=.returned (.string (zbu n.toNat))/\Below w.1.size w w':=zkc n w h0 h1
def rdVal(s:ByteArray)(p:Nat):Value:=match rd s p with
 | none=>.tuple #[.int .i64 0,.int .i64 0,.bool false]
 | some (n,c)=>.tuple #[.int .i64 n,.int .i64 (p+c:Nat),.bool true]
theorem zda{s:ByteArray}{p:Nat}(h:rd s p=none):rdVal s p=.tuple #[.int .i64 0,.int .i64 0,.bool false]:=by simp[rdVal,h]
theorem zf8{s:ByteArray}{p n c:Nat}(h:rd s p=some (n,c)):rdVal s p=.tuple #[.int .i64 n,.int .i64 (p+c:Nat),.bool true]:=by simp[rdVal,h]
theorem pow_le{k:Nat}(h:k<5):128 ^ k<=268435456:=by
 have:128 ^ k<=128 ^ 4:=Nat.pow_le_pow_right dC oM;simpa using this
theorem at_next{s:ByteArray}{p k m W c:Nat}(h:AtK s p k m)(hW:W=128 ^ k)(hlt:p+k<s.size)(h5:k<5)(hc:(s[p+k]).toNat=c)(h1:127<c):
  AtK s p (k+1) (m+c%128*W)/\m+c%128*W<W*128:=by
 subst hW hc;have hn:=h.next hlt h5 oM;exact⟨hn,by have:=hn.lt;rwa[Nat.pow_succ]at this⟩
theorem zlr{s:ByteArray}{p k m W c:Nat}(h:AtK s p k m)(hW:W=128 ^ k)(hlt:p+k<s.size)(h5:k<5)(hc:(s[p+k]).toNat=c)(h1:c<=127)(h2:1000000000<m+c%128*W\/(c=0/\0<k)):
  rdVal s p=.tuple #[.int .i64 0,.int .i64 0,.bool false]:=by
 subst hW hc;refine zda ?_;rw[h.stop hlt h5 oM,if_pos h2]
theorem at_some{s:ByteArray}{p k m W c:Nat}(h:AtK s p k m)(hW:W=128 ^ k)(hlt:p+k<s.size)(h5:k<5)(hc:(s[p+k]).toNat=c)(h1:c<=127)(h2:¬(1000000000<m+c%128*W\/(c=0/\0<k))):
  rdVal s p=.tuple #[.int .i64 ((m:Int)+(c:Int)%128*(W:Int)),.int .i64 ((p:Int)+(k:Int)+1),.bool true]:=by
 subst hW hc;have e:=h.stop hlt h5 oM;rw[if_neg h2]at e;rw[zf8 e];have e1:((m+(s[p+k]).toNat%128*128 ^ k:Nat):Int)=(m:Int)+((s[p+k]).toNat:Int)%128*((128 ^ k:Nat):Int):=by
  rw[Int.natCast_add,Int.natCast_mul,Int.natCast_emod];rfl
 rw[e1];simp only[Int.natCast_add];rw[show(p:Int)+((k:Int)+((1:Nat):Int))=(p:Int)+(k:Int)+1 by omega]
theorem cast3(m c W:Nat):((m+c%128*W:Nat):Int)=(m:Int)+(c:Int)%128*(W:Int):=by simp
theorem form_eq{s:ByteArray}{p k m W c:Nat}(h:AtK s p k m)(hW:W=128 ^ k)(hlt:p+k<s.size)(h5:k<5)(hc:(s[p+k]).toNat=c)(h1:c<=127):
  zbu (m+c%128*W)=s.extract p (p+k+1)↔¬(c=0/\0<k):=by
 subst hW hc;rw[←h.form hlt h5 oM];constructor
 ·intro e;rw[←e];rfl
 ·intro e;unfold zbu;rw[e]
theorem toNat3(p k:Nat):((p:Int)+(k:Int)+1).toNat=p+k+1:=by omega
theorem form_no{s:ByteArray}{p k T c m W:Nat}(hT:m+c%128*W=T)(hf:zbu (m+c%128*W)=s.extract p (p+k+1)↔¬(c=0/\0<k))(h:(!(zbu T).toList==(s.extract p ((p:Int)+(k:Int)+1).toNat).toList)=true):c=0/\0<k:=by
 rw[hT]at hf;rw[toNat3]at h;apply Classical.byContradiction;intro hn;rw[hf.2 hn]at h;simp at h
theorem form_yes{s:ByteArray}{p k T c m W:Nat}(hT:m+c%128*W=T)(hf:zbu (m+c%128*W)=s.extract p (p+k+1)↔¬(c=0/\0<k))(h:(!(zbu T).toList==(s.extract p ((p:Int)+(k:Int)+1).toNat).toList)=false):¬(c=0/\0<k):=by
 rw[hT]at hf;rw[toNat3]at h;refine hf.1 ?_;have h1:(zbu T).toList=(s.extract p (p+k+1)).toList:=by simpa using h
 rw[ByteArray.toList_eq,ByteArray.toList_eq]at h1;exact Go.WideShapes.bytes_inj h1
theorem zac{w w1:World}(h:Below w.drew.1.size w.drew w1):Below w.1.size w w1:=(Below.refl _ w).drew.trans h
theorem zef{x:Int}(h0:0<=x)(h1:x<=1000000000000):IntKind.i64.wrap x=x:=by
 simp[IntKind.wrap,IntKind.signed,IntKind.bits];omega
theorem zls(f:Nat):∀(rest:List UInt8)(k n m c:Nat),rdF f rest k n=some (m,c)->m<=1000000000/\c<=k+rest.length:=by
 induction f with
 | zero=>intro rest k n m c h;simp[rdF]at h
 | succ f ih =>
  intro rest k n m c h
  cases rest with
  | nil=>simp[rdF]at h
  | cons b r =>
   rw[rdF]at h
   split at h
   ·have:=ih _ _ _ _ _ h;simp only[List.length_cons];omega
   ·split at h
    ·cases h
    ·simp only[Option.some.injEq,Prod.mk.injEq]at h;simp only[List.length_cons];omega
theorem rd_bound{s:ByteArray}{p n c:Nat}(hp:p<=s.size)(h:rd s p=some (n,c)):n<=1000000000/\p+c<=s.size:=by
 have:=zls 5 _ 0 0 n c h;have h2:s.data.toList.length=s.size:=by simp
 rw[List.length_drop,h2]at this;omega
def rsVal(s:ByteArray)(p:Nat):Value:=match rd s p with
 | none=>.tuple #[.string ⟨#[]⟩,.int .i64 0,.bool false]
 | some (n,c)=>if 20000<n\/s.size-(p+c)<n then .tuple #[.string ⟨#[]⟩,.int .i64 0,.bool false]
   else .tuple #[.string (s.extract (p+c) (p+c+n)),.int .i64 (p+c+n:Nat),.bool true]
theorem zkd{s:ByteArray}{p:Nat}(h:rd s p=none):rsVal s p=.tuple #[.string ⟨#[]⟩,.int .i64 0,.bool false]:=by simp[rsVal,h]
theorem zlt{s:ByteArray}{p n c:Nat}(h:rd s p=some (n,c))(h1:20000<n\/s.size-(p+c)<n):rsVal s p=.tuple #[.string ⟨#[]⟩,.int .i64 0,.bool false]:=by simp[rsVal,h,h1]
theorem zke{s:ByteArray}{p n c:Nat}(h:rd s p=some (n,c))(h1:¬(20000<n\/s.size-(p+c)<n)):rsVal s p=.tuple #[.string (s.extract (p+c) (p+c+n)),.int .i64 (p+c+n:Nat),.bool true]:=by simp[rsVal,h,h1]
namespace Kit
def chN(c:Nat):Bool:=decide ((97<=c/\c<=122)\/(48<=c/\c<=57))
def zan(s:ByteArray):Bool:=decide ((1<=s.size/\s.size<=6)/\∀(j:Nat)(h:j<s.size),chN (s[j]).toNat=true)
theorem zf9{s:ByteArray}(h:s.size<1\/6<s.size):false=zan s:=by
 unfold zan;exact(decide_eq_false oM).symm
theorem zga{s:ByteArray}{j c:Nat}(h:j<s.size)(hc:(s[j]).toNat=c)(hb:¬((97<=c/\c<=122)\/(48<=c/\c<=57))):false=zan s:=by
 unfold zan;refine(decide_eq_false ?_).symm;rintro⟨_,h2⟩;have:=h2 j h;rw[hc]at this;exact hb (of_decide_eq_true this)
theorem zgb{s:ByteArray}(h:1<=s.size/\s.size<=6)(ha:∀(j:Nat)(h:j<s.size),chN (s[j]).toNat=true):true=zan s:=by
 unfold zan;exact(decide_eq_true ⟨h,ha⟩).symm
theorem zap{s:ByteArray}(h:zan s=true):1<=s.size/\s.size<=6:=(of_decide_eq_true h).1
def upTo(s:ByteArray)(j:Nat):Prop:=∀(i:Nat)(h:i<s.size),i<j->chN (s[i]).toNat=true
theorem zht(s:ByteArray):upTo s 0:=fun _ _ h=>absurd h (Nat.not_lt_zero _)
theorem zhu{s:ByteArray}{j c:Nat}(hu:upTo s j)(h:j<s.size)(hc:(s[j]).toNat=c)(hg:(97<=c/\c<=122)\/(48<=c/\c<=57)):upTo s (j+1):=fun i hi hlt=>by
 by_cases he:i=j
 ·subst he;rw[hc];exact decide_eq_true hg
 ·exact hu i hi oM
theorem zjr{s:ByteArray}{j:Nat}(hu:upTo s j)(h:s.size<=j):∀(j:Nat)(h:j<s.size),chN (s[j]).toNat=true:=fun i hi=>hu i hi oM
theorem zck{s:ByteArray}(h:s.size=0):s.toList.isEmpty=true:=by
 rw[List.isEmpty_iff,ByteArray.toList_eq,←List.length_eq_zero_iff];exact h
theorem za1{s:ByteArray}(h:0<s.size):s.toList.isEmpty=false:=by
 exact cQ89
end Kit
theorem zcd(s:ByteArray)(w:World)(hs:s.size<=1048576):
  Calls Tryz.prog 165 #[.string s] w fun e w'=>e=.returned (.bool (zan s))/\Below w.1.size w w':=by
 obtain⟨r,hr⟩:∃r,zan s=r:=⟨_,rfl⟩
 have HR:=hide hr;rw[hr];clear hr;go_enter Tryz.func165,Tryz.ntmps165
 go_wp2
 go_loop [3] (fun i=>∃j:Nat,j<=s.size/\i=.int .i64 j/\Hid (upTo s j)) (fun i=>s.size-(intOf i).toNat)
 case atStart=>exact⟨0,Nat.zero_le _,rfl,zht s⟩
 case round =>
  obtain⟨j,hj,rfl,HU⟩:=hrel;by_cases hlt:j<s.size
  ·obtain⟨c,hc⟩:∃c:Nat,(s[j]).toNat=c:=⟨_,rfl⟩
   have hc1:c<256:=by rw[←hc];exact(s[j]).toNat_lt
   have HC:=hide hc;have j0:(0:Int)<=(j:Int):=by omega
   have j1:(j:Int)<(s.size:Int):=by omega
   go_wp2
   all_goals first| (go_ret;refine⟨zaw ?_,Below.refl _ _⟩;rw[←HR.o];exact zga hlt HC.o oM)| skip
   all_goals go_round
   all_goals first| (simp[intOf];omega)| exact⟨j+1,by omega,by go_num,zhu HU.o hlt HC.o oM⟩
  ·go_wp2_with (go_at_call 50;refine(zai _ _ _ _).mono ?_;rintro e w1 ⟨rfl,rfl⟩)
   go_ret;refine⟨zaw ?_,Below.refl _ _⟩;rw[←HR.o];by_cases h:1<=s.size/\s.size<=6
   ·rw[←zgb h (zjr HU.o oM)];simp[inB];omega
   ·rw[←zf9 oM];simp[inB];omega
namespace fnExactNameOk
end fnExactNameOk
namespace Kit
structure DOkN(d:Dp):Prop where
 io:1<=d.io/\d.io<=8
 pt:0<=d.pt/\d.pt<=1
 bk:0<=d.bk/\d.bk<=16
 sl:0<=d.sl/\d.sl<=3
 bl:∀p∈d.bl,(1:Int)<=p/\p<=16
 bn:d.bl.length<=2
 nm:d.nm.size<=6
structure DOk(d:Dp):Prop extends DOkN d where
 id:1<=d.id/\d.id<=100000
structure IOk(x:Ino):Prop where
 l:0<=x.2.1/\x.2.1<=200
 n:x.2.2.length=2
 p:∀p∈x.2.2,(0:Int)<=p/\p<=16
 z:x.1=1\/x.1=2\/(x.1=0/\x.2.1=0/\∀p∈x.2.2,p=0)
def Unl(ss:List Sl):Prop:=∀(i j:Nat)(hi:i<ss.length)(hj:j<ss.length),i≠j->ss[i].1=ss[j].1->ss[i].1.size=0
def SOk(s:Sl):Prop:=s.1.size<=6/\((s.1.size=0/\s.2=0)\/(1<=s.2/\s.2<=8))
structure KOk0(x:Blk):Prop where
 n:x.1=true->x.2.1.length=4
 m:x.2.1.length<=4
 s:∀s∈x.2.1,SOk s
 t:x.2.2.size<=16
structure KOk(x:Blk):Prop extends KOk0 x where
 f:x.1=false->x.2.1=[]
 e:x.1=true->x.2.2.size=0
 q:∀s∈x.2.1,(s.1.size=0/\s.2=0)\/zan s.1=true
 u:Unl x.2.1
theorem zgv{x:Blk}(h:KOk0 x):bigB 1048576 x:=⟨Nat.le_trans h.m dC,fun j hj=>Nat.le_trans (h.s _ (List.getElem_mem hj)).1 dC,Nat.le_trans h.t dC⟩
structure Sh(Z:ZT)(m:MD):Prop where
 x:m.1.length=16
 y:m.2.length=8
 i:m.3.length=8
 ii:∀q∈m.is,IOk q
 b:m.4.length=16
 bb:∀q∈m.bs,KOk q
 f:m.5.length=21
 l:m.6.length<=40
 dd:∀d∈m.ds,DOk d
 nx:1<=m.nx/\m.nx<=100000
 k:Kz Z m
namespace Sh
variable {Z : ZT} {m : MD}
theorem big(h:Sh Z m):BigM 1048576 m :=
 ⟨⟨by rw[h.x];decide,by rw[h.y];decide,by rw[h.i];decide,fun j hj=>by rw[(h.ii _ (List.getElem_mem hj)).n];decide,by rw[h.b];decide,fun j hj=>zgv (h.bb _ (List.getElem_mem hj)).toKOk0⟩,
  by rw[h.f];decide,Nat.le_trans h.l dC,fun j hj=>Nat.le_trans (h.dd _ (List.getElem_mem hj)).bn dC,fun j hj=>Nat.le_trans (h.dd _ (List.getElem_mem hj)).nm dC⟩
theorem with_k{Z':ZT}(h:Sh Z m)(hk:Kz Z' m):Sh Z' m:=⟨h.x,h.y,h.i,h.ii,h.b,h.bb,h.f,h.l,h.dd,h.nx,hk⟩
theorem none(h:Sh Z m):Sh Z0 m:=h.with_k h.k.none
theorem weak{Z':ZT}(h:Sh Z' m)(hz:∀i p,Z i p->Z' i p):Sh Z m:=h.with_k (h.k.weak hz)
theorem mark(h:Sh Z m)(u:Int):Sh Z (markU u m):=by
 unfold markU
 split
 ·exact⟨h.x,h.y,h.i,h.ii,h.b,h.bb,by rw[List.length_set];exact h.f,h.l,h.dd,h.nx,h.k.of rfl rfl rfl⟩
 ·exact h
theorem deps(h:Sh Z m){ds:List Dp}(hl:ds.length<=40)(hd:∀d∈ds,DOk d)(hf:(fk ds).Sublist (fk m.ds)):Sh Z { m with ds:=ds }:=⟨h.x,h.y,h.i,h.ii,h.b,h.bb,h.f,hl,hd,h.nx,h.k.deps rfl hf rfl⟩
theorem inode(h:Sh Z m)(j:Nat){x:Ino}(hx:IOk x)(hp:∀(hj:j<m.3.length)(p:Int),1<=p->x.2.2.count p<=m.is[j].2.2.count p):Sh Z { m with is:=m.is.set j x }:=⟨h.x,h.y,by rw[List.length_set];exact h.i,fun q hq=>(List.mem_or_eq_of_mem_set hq).elim (h.ii q) (fun e=>e ▸ hx),h.b,h.bb,h.f,h.l,h.dd,h.nx,h.k.inode j hp⟩
theorem block(h:Sh Z m)(j:Nat){x:Blk}(hx:KOk x):Sh Z { m with bs:=m.bs.set j x }:=⟨h.x,h.y,h.i,h.ii,by rw[List.length_set];exact h.b,fun q hq=>(List.mem_or_eq_of_mem_set hq).elim (h.bb q) (fun e=>e ▸ hx),h.f,h.l,h.dd,h.nx,h.k.of rfl rfl rfl⟩
theorem takeB(h:Sh Z m):Sh Z (takeB m):=by
 unfold Kit.takeB
 split
 ·exact h
 ·exact⟨by rw[List.length_set];exact h.x,h.y,h.i,h.ii,h.b,h.bb,by rw[List.length_set];exact h.f,h.l,h.dd,h.nx,h.k.mark _ _⟩
theorem takeI(h:Sh Z m):Sh Z (takeI m):=by
 unfold Kit.takeI
 split
 ·exact h
 ·exact⟨h.x,by rw[List.length_set];exact h.y,h.i,h.ii,h.b,h.bb,by rw[List.length_set];exact h.f,h.l,h.dd,h.nx,h.k.of rfl rfl rfl⟩
end Sh
variable {Z : ZT}
theorem IOk.none:IOk ((0:Int),(0:Int),([0,0]:List Int)):=⟨by decide,rfl,fun p hp=>by simp at hp;omega,.inr (.inr ⟨rfl,rfl,fun p hp=>by simp at hp;exact hp⟩)⟩
theorem Unl.set{ss:List Sl}(h:Unl ss){t:Nat}{y:Sl}(hy:y.1.size=0\/∀(i:Nat)(hi:i<ss.length),¬ss[i].1=y.1):Unl (ss.set t y):=fun i j hi hj hn e=>by
 rw[List.length_set]at hi hj;rw[List.getElem_set,List.getElem_set]at e;rw[List.getElem_set];by_cases h1:t=i
 ·rw[if_pos h1]at e ⊢;rw[if_neg (fun h2=>hn (h1.symm.trans h2))]at e;exact hy.elim id fun q=>absurd e.symm (q j hj)
 ·rw[if_neg h1]at e ⊢;by_cases h2:t=j
  ·rw[if_pos h2]at e;exact hy.elim (fun q=>by rw[e];exact q) fun q=>absurd e (q i hi)
  ·rw[if_neg h2]at e;exact h i j hi hj hn e
theorem Unl.nil:Unl []:=fun i _ hi=>absurd hi (Nat.not_lt_zero i)
def BX(Z:ZT)(w:World)(L b:Nat):Prop:=∃(S:Nat->Prop)(u v iv bv dv pv:Value)(m:MD),PM w S b u v iv bv dv pv m/\(∀k,S k->L<=k)/\L<=b/\Sh Z m
theorem BX.below{w w':World}{L b:Nat}(h:BX Z w L b)(hb:Below w.1.size w w'):BX Z w' L b:=by
 exact cQ122
end Kit
namespace Kit
theorem PM.dep_at{w:World}{S:Nat->Prop}{b:Nat}{u v iv bv dv pv:Value}{m:MD}(h:PM w S b u v iv bv dv pv m)(j:Nat)(hj:j<m.6.length):
  ∃g c p,pv=.slice (some ⟨g,0,none⟩) m.6.length c/\DCells w g (j*11) m.ds[j] p/\RInts w p m.ds[j].bl/\(∀i,w.frozen? ⟨g,i,none⟩=false)/\S g/\g<w.1.size /\
   ∀(i:Nat)(x:Value)(d':Dp),i<10->d'.row p=(m.ds[j].row p).set i x->d'.bl=m.ds[j].bl->PM (w.setCell ⟨g,j*11+i,none⟩ x) S b u v iv bv dv pv { m with ds:=m.ds.set j d' }:=by
 obtain⟨S1,S2,S3,ts,k1,k2,k3,k4,k5,k6,k7⟩:=h.own;have hl:=k4.len;obtain⟨g,c,e1,hc,hz,hg,-⟩:=k4.row.at j oM;rw[hl]at e1;obtain⟨p,hr,hO⟩:=k4.inn j oM hj;have gS:S3 g:=k4.so g (by rw[e1];rfl);have gL:=k7 g (.inr (.inr gS));refine⟨g,c,p,e1,DCells.of fun i hi=>by rw[←hr];exact hc i hi,hO.rints,hz,gL,hg,fun i x d' hi hd hb=>?_⟩;have un:∀k,k≠g->(w.setCell ⟨g,j*11+i,none⟩ x).heap[k]?=w.1[k]?:=fun k hk=>heap_setCell_other _ ⟨g,j*11+i,none⟩ k _ hk;have pg:∀k,p.ownBlock=some k->k≠g:=fun k hk e=>by
  subst e;refine k4.out j oM k ?_ (by rw[e1];rfl);rw[hr];exact hk
 have row:=k4.row;rw[e1,←hl]at row;have jt:j<ts.length:=by omega
 have r2:=row.set j i jt (by show i<11;omega) x;have et:ts[j].set i x=d'.row p:=by rw[hr,hd]
 rw[et]at r2;have r3:NOwns (w.setCell ⟨g,j*11+i,none⟩ x) 42 11 pv (ts.set j (d'.row p)):=by rw[e1,←hl];exact r2
 have hn:∀k,(KDep.p (d'.row p)).ownBlock=some k->(KDep.p ts[j]).ownBlock=some k:=fun k hk=>by rw[hr];exact hk
 have G:GN KDep (w.setCell ⟨g,j*11+i,none⟩ x) S3 pv (ts.set j (d'.row p)) (m.ds.set j d'):=by
  refine k4.turn j oM (d'.row p) d' r3 ⟨p,rfl,by rw[hb];exact hO.of_heap fun k hk=>un k (pg k hk)⟩ (fun k _ h1 _=>un k fun e=>h1 (by rw[e1,e];rfl)) (fun k hk=>.inl (hn k hk)) (fun k hk=>hk) (fun k hk=>k4.si j oM k (hn k hk))
 exact⟨h.box.other (fun e=>h.nb (e ▸ gL)) _,⟨S1,S2,S3,_,k1.of_heap fun k hk _=>un k fun e=>(k5 k hk).2 (e ▸ gS),k2.of_heap fun k hk=>un k fun e=>k6 k (k3 k hk) (e ▸ gS),k3,G,k5,k6,k7⟩,h.nb⟩
end Kit
namespace Kit
theorem GO.turnX{α:Type}{K:Kd α}{w w':World}{S S':Nat->Prop}{v:Value}{ts:List V3}{xs:List α}(h:GO K w S v ts xs)(j:Nat)(t':V3)(x':α)(hr:TOwns w' K.T v (ts.set j t'))(hO:K.O w' t' x')
  (hf:∀k,k<w.1.size->v.ownBlock≠some k->w'.1[k]?=w.1[k]?) (hn:∀k,(K.p t').ownBlock=some k->¬S k) (hs:∀k,S k->S' k) (hs2:∀k,(K.p t').ownBlock=some k->S' k):GO K w' S' v (ts.set j t') (xs.set j x'):=by
 have hl:=h.len;refine⟨by simp[hl],hr,fun i hi hi'=>?_,fun i i2 hi hi2 hne k e1 e2=>?_,fun i hi k e1 e2=>?_,fun k e=>hs k (h.so k e),fun i hi k e=>?_⟩
 ·simp only[List.length_set]at hi hi';by_cases e:j=i
  ·subst e;simp only[List.getElem_set_self];exact hO
  ·simp only[List.getElem_set_ne e];exact K.heap (h.inn i hi hi') fun k hk=>hf k (K.lt (h.inn i hi hi') k hk) (fun e'=>h.out i hi k hk e')
 ·simp only[List.length_set]at hi hi2;by_cases ei:j=i
  ·subst ei;simp only[List.getElem_set_self]at e1;rw[List.getElem_set_ne hne]at e2;exact hn k e1 (h.si i2 hi2 k e2)
  ·rw[List.getElem_set_ne ei]at e1;by_cases e2':j=i2
   ·subst e2';simp only[List.getElem_set_self]at e2;exact hn k e2 (h.si i hi k e1)
   ·rw[List.getElem_set_ne e2']at e2;exact h.sep i i2 hi hi2 hne k e1 e2
 ·simp only[List.length_set]at hi;by_cases ei:j=i
  ·subst ei;simp only[List.getElem_set_self]at e1;exact hn k e1 (h.so k e2)
  ·rw[List.getElem_set_ne ei]at e1;exact h.out i hi k e1 e2
 ·simp only[List.length_set]at hi;by_cases ei:j=i
  ·subst ei;simp only[List.getElem_set_self]at e;exact hs2 k e
  ·rw[List.getElem_set_ne ei]at e;exact hs k (h.si i hi k e)
def set3(w:World)(g j:Nat)(t:V3):World:=((w.setCell ⟨g,j*3,none⟩ t.1).setCell ⟨g,j*3+1,none⟩ t.2.1).setCell ⟨g,j*3+2,none⟩ t.2.2
theorem zbc(w:World)(g j:Nat)(t:V3)(k:Nat)(hk:k≠g):(set3 w g j t).heap[k]?=w.1[k]?:=by
 unfold set3;rw[heap_setCell_other _ ⟨g,j*3+2,none⟩ k _ hk,heap_setCell_other _ ⟨g,j*3+1,none⟩ k _ hk,heap_setCell_other _ ⟨g,j*3,none⟩ k _ hk]
theorem GO.putX{α:Type}{K:Kd α}{w:World}{S:Nat->Prop}{v:Value}{ts:List V3}{xs:List α}(h:GO K w S v ts xs){g n cap:Nat}(hv:v=.slice (some ⟨g,0,none⟩) n cap)(j:Nat)(hj:j<ts.length)(t':V3)(x':α)(hO:K.O w t' x')(hn:∀k,(K.p t').ownBlock=some k->¬S k):
  GO K (set3 w g j t') (fun k=>S k\/(K.p t').ownBlock=some k) v (ts.set j t') (xs.set j x'):=by
 have gS:S g:=h.so g vR;have hl:n=ts.length:=h.len_of hv;subst hl;have row:=h.row;rw[hv]at row;have r2:=row.set j hj t'.1 t'.2.1 t'.2.2;rw[←hv]at r2;exact h.turnX j t' x' r2 (K.heap hO fun k hk=>zbc w g j t' k fun e=>hn k hk (e ▸ gS)) (fun k _ h1=>zbc w g j t' k fun e=>h1 (by rw[hv,e];rfl)) hn (fun k hk=>.inl hk) (fun k hk=>.inr hk)
section
variable {w : World} {S : Nat -> Prop} {b : Nat} {u v iv bv dv pv : Value} {m : MD}
theorem PM.putI(h:PM w S b u v iv bv dv pv m){g n cap:Nat}(hv:iv=.slice (some ⟨g,0,none⟩) n cap)(j:Nat)(hj:j<m.3.length)(t':V3)(x':Ino)(hO:KI.O w t' x')(hn:∀k,t'.2.2.ownBlock=some k->¬S k/\k≠b):
  PM (set3 w g j t') (fun k=>S k\/t'.2.2.ownBlock=some k) b u v iv bv dv pv { m with is:=m.is.set j x' }/\S g:=by
 obtain⟨S1,S2,S3,ts,k1,k2,k3,k4,k5,k6,k7⟩:=h.own;obtain⟨T1,T2,T3,ti,tb,z1,z2,z3,z4,z5,z6,z7⟩:=k1;have gT:T2 g:=z3.so g vR;have gS:S g:=k7 g (.inl (z7 g (.inr (.inl gT))));have nS:∀k,t'.2.2.ownBlock=some k->¬S k:=fun k hk=>(hn k hk).1;have un:∀k,k≠g->(set3 w g j t').heap[k]?=w.1[k]?:=fun k hk=>zbc w g j t' k hk;have zz:=z3.putX hv j (by rw[z3.len];exact hj) t' x' hO (fun k hk e=>nS k hk (k7 k (.inl (z7 k (.inr (.inl e))))));refine⟨⟨(un b fun e=>h.nb (e ▸ gS)).trans h.box,⟨fun k=>S1 k\/t'.2.2.ownBlock=some k,S2,S3,ts,⟨T1,fun k=>T2 k\/t'.2.2.ownBlock=some k,T3,ti.set j t',tb,⟨z1.a.of_heap fun k hk=>un k fun e=>(z5 k (z2 k (.inl hk))).1 (e ▸ gT),z1.b.of_heap fun k hk=>un k fun e=>(z5 k (z2 k (.inr hk))).1 (e ▸ gT),z1.ne⟩,z2,zz,z4.of_heap fun k hk _=>un k fun e=>z6 g gT (e ▸ hk),fun k hk=>⟨fun e=>?_,(z5 k hk).2⟩,fun k hk e=>?_,fun k hk=>?_⟩,k2.of_heap fun k hk=>un k fun e=>(k5 g (z7 g (.inr (.inl gT)))).1 (e ▸ k3 k hk),k3,k4.of_heap fun k hk _=>un k fun e=>(k5 g (z7 g (.inr (.inl gT)))).2 (e ▸ hk),fun k hk=>⟨fun e=>?_,fun e=>?_⟩,k6,fun k hk=>?_⟩,fun e=>?_⟩,gS⟩
 ·rcases e with e|e
  ·exact(z5 k hk).1 e
  ·exact nS k e (k7 k (.inl (z7 k (.inl hk))))
 ·rcases hk with hk|hk
  ·exact z6 k hk e
  ·exact nS k hk (k7 k (.inl (z7 k (.inr (.inr e)))))
 ·exact cQ76
 ·exact cQ121
 ·exact cQ120
 ·exact cQ75
 ·rcases e with e|e
  ·exact h.nb e
  ·exact(hn b e).2 rfl
theorem PM.putB(h:PM w S b u v iv bv dv pv m){g n cap:Nat}(hv:bv=.slice (some ⟨g,0,none⟩) n cap)(j:Nat)(hj:j<m.4.length)(t':V3)(x':Blk)(hO:KB.O w t' x')(hn:∀k,t'.2.1.ownBlock=some k->¬S k/\k≠b):
  PM (set3 w g j t') (fun k=>S k\/t'.2.1.ownBlock=some k) b u v iv bv dv pv { m with bs:=m.bs.set j x' }/\S g:=by
 obtain⟨S1,S2,S3,ts,k1,k2,k3,k4,k5,k6,k7⟩:=h.own;obtain⟨T1,T2,T3,ti,tb,z1,z2,z3,z4,z5,z6,z7⟩:=k1;have gT:T3 g:=z4.so g vR;have gS:S g:=k7 g (.inl (z7 g (.inr (.inr gT))));have nS:∀k,t'.2.1.ownBlock=some k->¬S k:=fun k hk=>(hn k hk).1;have un:∀k,k≠g->(set3 w g j t').heap[k]?=w.1[k]?:=fun k hk=>zbc w g j t' k hk;have zz:=z4.putX hv j (by rw[z4.len];exact hj) t' x' hO (fun k hk e=>nS k hk (k7 k (.inl (z7 k (.inr (.inr e))))));refine⟨⟨(un b fun e=>h.nb (e ▸ gS)).trans h.box,⟨fun k=>S1 k\/t'.2.1.ownBlock=some k,S2,S3,ts,⟨T1,T2,fun k=>T3 k\/t'.2.1.ownBlock=some k,ti,tb.set j t',⟨z1.a.of_heap fun k hk=>un k fun e=>(z5 k (z2 k (.inl hk))).2 (e ▸ gT),z1.b.of_heap fun k hk=>un k fun e=>(z5 k (z2 k (.inr hk))).2 (e ▸ gT),z1.ne⟩,z2,z3.of_heap fun k hk _=>un k fun e=>z6 k hk (e ▸ gT),zz,fun k hk=>⟨(z5 k hk).1,fun e=>?_⟩,fun k hk e=>?_,fun k hk=>?_⟩,k2.of_heap fun k hk=>un k fun e=>(k5 g (z7 g (.inr (.inr gT)))).1 (e ▸ k3 k hk),k3,k4.of_heap fun k hk _=>un k fun e=>(k5 g (z7 g (.inr (.inr gT)))).2 (e ▸ hk),fun k hk=>⟨fun e=>?_,fun e=>?_⟩,k6,fun k hk=>?_⟩,fun e=>?_⟩,gS⟩
 ·rcases e with e|e
  ·exact(z5 k hk).2 e
  ·exact nS k e (k7 k (.inl (z7 k (.inl hk))))
 ·rcases e with e|e
  ·exact z6 k hk e
  ·exact nS k e (k7 k (.inl (z7 k (.inr (.inl hk)))))
 ·exact cQ78
 ·exact cQ121
 ·exact cQ120
 ·exact cQ75
 ·rcases e with e|e
  ·exact h.nb e
  ·exact(hn b e).2 rfl
theorem PM.inoAt(h:PM w S b u v iv bv dv pv m)(j:Nat)(hj:j<m.3.length):
  ∃g c p,iv=.slice (some ⟨g,0,none⟩) m.3.length c/\w.cell? ⟨g,j*3,none⟩=some (.int .i64 m.is[j].1)/\w.cell? ⟨g,j*3+1,none⟩=some (.int .i64 m.is[j].2.1)/\w.cell? ⟨g,j*3+2,none⟩=some p/\RInts w p m.is[j].2.2/\(∀k,w.frozen? ⟨g,k,none⟩=false)/\g<w.1.size/\S g:=by
 obtain⟨S1,S2,S3,ts,k1,-,-,-,-,-,k7⟩:=h.own;obtain⟨a,c,e,hc⟩:=k1.dr.i;obtain⟨hl,hc⟩:=hc;obtain⟨g,off,t,rfl,-⟩:=hc j hj;obtain⟨T1,T2,T3,ti,tb,z1,z2,z3,z4,z5,z6,z7⟩:=k1;obtain⟨g',c',e',-⟩:=z3.row.at j (by rw[z3.len];exact hj);rw[e]at e';simp only[Value.slice.injEq,Option.some.injEq,Addr.mk.injEq,and_true]at e';obtain⟨⟨rfl,rfl⟩,-,rfl⟩:=e';obtain⟨⟨a,b',p,q1,q2,q3,rfl,rfl,q4⟩,q5,q6,-,q7⟩:=DO.atI (S:=S1) ⟨T1,T2,T3,ti,tb,z1,z2,z3,z4,z5,z6,z7⟩ e j hj;exact⟨g,c,p,e,q1,q2,q3,q4,q5,q6,k7 g (.inl q7)⟩
theorem PM.blkAt(h:PM w S b u v iv bv dv pv m)(j:Nat)(hj:j<m.4.length):
  ∃g c p,bv=.slice (some ⟨g,0,none⟩) m.4.length c/\w.cell? ⟨g,j*3,none⟩=some (.bool m.bs[j].1)/\w.cell? ⟨g,j*3+1,none⟩=some p/\w.cell? ⟨g,j*3+2,none⟩=some (.string m.bs[j].2.2)/\RSl w p m.bs[j].2.1/\(∀k,w.frozen? ⟨g,k,none⟩=false)/\g<w.1.size/\S g:=by
 obtain⟨S1,S2,S3,ts,k1,-,-,-,-,-,k7⟩:=h.own;obtain⟨a,c,e,hc⟩:=k1.dr.k;obtain⟨hl,hc⟩:=hc;obtain⟨g,off,t,rfl,-⟩:=hc j hj;obtain⟨T1,T2,T3,ti,tb,z1,z2,z3,z4,z5,z6,z7⟩:=k1;obtain⟨g',c',e',-⟩:=z4.row.at j (by rw[z4.len];exact hj);rw[e]at e';simp only[Value.slice.injEq,Option.some.injEq,Addr.mk.injEq,and_true]at e';obtain⟨⟨rfl,rfl⟩,-,rfl⟩:=e';obtain⟨⟨a,p,b',q1,q2,q3,rfl,rfl,q4⟩,q5,q6,-,q7⟩:=DO.atB (S:=S1) ⟨T1,T2,T3,ti,tb,z1,z2,z3,z4,z5,z6,z7⟩ e j hj;exact⟨g,c,p,e,q1,q2,q3,q4,q5,q6,k7 g (.inl q7)⟩
end
def rowsP(f:Dp->Bool)(ts:List Row)(ds:List Dp):List Row:=((ts.zip ds).filter fun q=>f q.2).map (·.1)
theorem zkf(f:Dp->Bool)(ts:List Row)(ds:List Dp)(hl:ts.length=ds.length)(j:Nat)(h1:j<ts.length)(h2:j<ds.length):rowsP f (ts.take (j+1)) (ds.take (j+1))=rowsP f (ts.take j) (ds.take j)++(if f ds[j]=true then[ts[j]]else[]):=by
 unfold rowsP;rw[←List.take_append_getElem h1,←List.take_append_getElem h2,List.zip_append (by rw[List.length_take,List.length_take];omega),List.filter_append,List.map_append];congr 1
 by_cases e:f ds[j]=true<;>simp[e]
theorem zcv(f:Dp->Bool)(ts:List Row)(ds:List Dp):(rowsP f ts ds).length<=ds.length:=by
 unfold rowsP;rw[List.length_map];refine Nat.le_trans (List.length_filter_le _ _) ?_;rw[List.length_zip];omega
theorem GN.keepP{w w2:World}{S:Nat->Prop}{v lv:Value}{ts:List Row}{ds:List Dp}(h:GN KDep w S v ts ds)(P:Dp->Bool)(hn:NOwns w2 42 11 lv (rowsP P ts ds))(hlo:∀k,lv.ownBlock=some k->¬S k)(hb:∀k,S k->k<w.1.size->w2.1[k]?=w.1[k]?):
  GN KDep w2 (fun k=>S k\/lv.ownBlock=some k) lv (rowsP P ts ds) (ds.filter P):=by
 have hl:=h.len;obtain⟨f,h1,h2⟩:=ze7 (fun q:Row×Dp=>P q.2) (ts.zip ds);have e1:ds.filter P=((ts.zip ds).filter fun q=>P q.2).map (·.2):=by
  exact cQ96
 have hlz:(ts.zip ds).length=ts.length:=by rw[List.length_zip];omega
 have hr:∀(j:Nat) (hj:j<(rowsP P ts ds).length),∃(q1:f j<ts.length)(q2:f j<ds.length),(rowsP P ts ds)[j]=ts[f j]/\∀(h':j<(ds.filter P).length),(ds.filter P)[j]=ds[f j]:=fun j hj=>by
  have hj2:j<((ts.zip ds).filter fun q=>P q.2).length:=by simpa[rowsP]using hj
  obtain⟨p1,p2,-⟩:=h1 j hj2;refine⟨by omega,by omega,?_,fun h'=>?_⟩
  ·simp only[rowsP,List.getElem_map,p2,List.getElem_zip]
  ·simp only[e1,List.getElem_map,p2,List.getElem_zip]
 have fi:∀i j,i<(rowsP P ts ds).length->j<(rowsP P ts ds).length->i≠j->f i≠f j:=fun i j hi hj hne=>by
  have hi2:i<((ts.zip ds).filter fun q=>P q.2).length:=by simpa[rowsP]using hi
  have hj2:j<((ts.zip ds).filter fun q=>P q.2).length:=by simpa[rowsP]using hj
  exact cQ115
 have hlt:∀(j:Nat)(hj:j<ts.length)(k:Nat),(KDep.p ts[j]).ownBlock=some k->k<w.1.size:=fun j hj k hk=>KDep.lt (h.inn j hj oM) k hk;refine⟨by rw[e1];simp[rowsP],hn,fun j hj hj'=>?_,fun i j hi hj hne k=>?_,fun j hj k e2 e3=>?_,fun k e=>.inr e,fun j hj k e=>?_⟩
 ·obtain⟨q1,q2,q3,q4⟩:=hr j hj;rw[q3,q4 hj'];exact KDep.heap (h.inn (f j) q1 q2) fun k hk=>hb k (h.si (f j) q1 k hk) (hlt (f j) q1 k hk)
 ·exact cQ97
 ·obtain⟨q1,q2,q3,-⟩:=hr j hj;rw[q3]at e2;exact hlo k e3 (h.si (f j) q1 k e2)
 ·obtain⟨q1,q2,q3,-⟩:=hr j hj;rw[q3]at e;exact .inl (h.si (f j) q1 k e)
theorem PM.keepD{w:World}{S:Nat->Prop}{b:Nat}{u v iv bv dv pv:Value}{m:MD}(h:PM w S b u v iv bv dv pv m):∃ts,ts.length=m.6.length/\(∀(j:Nat)(hj:j<ts.length)(hj':j<m.6.length),KDep.O w ts[j] m.ds[j])/\NOwns w 42 11 pv ts /\
  ∀(w2:World)(lv:Value)(f:Dp->Bool),(∀k,S k->k<w.1.size->w2.1[k]?=w.1[k]?)->w2.1[b]?=w.1[b]?->NOwns w2 42 11 lv (rowsP f ts m.ds)->(∀k,lv.ownBlock=some k->¬S k/\k≠b) ->
   PM (w2.setCell ⟨b,5,none⟩ lv) (fun k=>S k\/lv.ownBlock=some k) b u v iv bv dv lv { m with ds:=m.ds.filter f }:=by
 obtain⟨S1,S2,S3,ts,k1,k2,k3,k4,k5,k6,k7⟩:=h.own;refine⟨ts,k4.len,fun j hj hj'=>k4.inn j hj hj',k4.row,fun w2 lv f h1 h2 h3 h4=>?_⟩;have hb2:AtC w2 b 33 #[u,v,iv,bv,dv,pv,.int .i64 m.nx]:=h2.trans h.box;have G:=k4.keepP f h3 (fun k hk e=>(h4 k hk).1 (k7 k (.inr (.inr e)))) (fun k hk hlt=>h1 k (k7 k (.inr (.inr hk))) hlt);have lvb:∀k,lv.ownBlock=some k->k≠b:=fun k hk=>(h4 k hk).2;have un:∀k,k≠b->(w2.setCell ⟨b,5,none⟩ lv).heap[k]?=w2.1[k]?:=fun k hk=>heap_setCell_other _ ⟨b,5,none⟩ k _ hk;have nb:∀k,S k->k≠b:=fun k hk e=>h.nb (e ▸ hk);refine⟨hb2.set 5 lv,⟨S1,S2,fun k=>S3 k\/lv.ownBlock=some k,_,k1.of_heap fun k hk hlt=>(un k (nb k (k7 k (.inl hk)))).trans (h1 k (k7 k (.inl hk)) hlt),k2.of_heap fun k hk=>(un k (nb k (k7 k (.inr (.inl (k3 k hk)))))).trans (h1 k (k7 k (.inr (.inl (k3 k hk)))) (k2.lt k hk).2),k3,G.of_heap fun k hk _=>un k (hk.elim (fun e=>nb k (k7 k (.inr (.inr e)))) (lvb k)),fun k hk=>⟨(k5 k hk).1,fun e=>?_⟩,fun k hk e=>?_,fun k hk=>?_⟩,fun e=>?_⟩
 ·exact cQ130
 ·exact cQ124
 ·exact cQ77
 ·rcases e with e|e
  ·exact h.nb e
  ·exact(h4 b e).2 rfl
end Kit
namespace Kit
def rowsK(id:Int)(ts:List Row)(ds:List Dp):List Row:=((ts.zip ds).filter fun q=>!decide (q.2.id=id)).map (·.1)
theorem zkg(id:Int)(ts:List Row)(ds:List Dp)(hl:ts.length=ds.length)(j:Nat)(h1:j<ts.length)(h2:j<ds.length):rowsK id (ts.take (j+1)) (ds.take (j+1))=rowsK id (ts.take j) (ds.take j)++(if ds[j].id=id then[]else[ts[j]]):=by
 unfold rowsK;rw[←List.take_append_getElem h1,←List.take_append_getElem h2,List.zip_append (by rw[List.length_take,List.length_take];omega),List.filter_append,List.map_append];congr 1
 by_cases e:ds[j].id=id<;>simp[e]
theorem GN.keep{w w2:World}{S:Nat->Prop}{v lv:Value}{ts:List Row}{ds:List Dp}(h:GN KDep w S v ts ds)(id:Int)(hn:NOwns w2 42 11 lv (rowsK id ts ds))(hlo:∀k,lv.ownBlock=some k->w.1.size<=k)(hb:Below w.1.size w w2):
  GN KDep w2 (fun k=>(S k/\k<w.1.size)\/w.1.size<=k) lv (rowsK id ts ds) (ds.filter fun d=>!decide (d.id=id)):=by
 have hl:=h.len;obtain⟨f,h1,h2⟩:=ze7 (fun q:Row×Dp=>!decide (q.2.id=id)) (ts.zip ds);have e1:(ds.filter fun d=>!decide (d.id=id))=((ts.zip ds).filter fun q=>!decide (q.2.id=id)).map (·.2):=by
  exact cQ96
 have hlz:(ts.zip ds).length=ts.length:=by rw[List.length_zip];omega
 have hr:∀(j:Nat) (hj:j<(rowsK id ts ds).length),∃(q1:f j<ts.length)(q2:f j<ds.length),(rowsK id ts ds)[j]=ts[f j]/\∀(h':j<(ds.filter fun d=>!decide (d.id=id)).length),(ds.filter fun d=>!decide (d.id=id))[j]=ds[f j]:=fun j hj=>by
  have hj2:j<((ts.zip ds).filter fun q=>!decide (q.2.id=id)).length:=by simpa[rowsK]using hj
  obtain⟨p1,p2,-⟩:=h1 j hj2;refine⟨by omega,by omega,?_,fun h'=>?_⟩
  ·simp only[rowsK,List.getElem_map,p2,List.getElem_zip]
  ·simp only[e1,List.getElem_map,p2,List.getElem_zip]
 have fi:∀i j,i<(rowsK id ts ds).length->j<(rowsK id ts ds).length->i≠j->f i≠f j:=fun i j hi hj hne=>by
  have hi2:i<((ts.zip ds).filter fun q=>!decide (q.2.id=id)).length:=by simpa[rowsK]using hi
  have hj2:j<((ts.zip ds).filter fun q=>!decide (q.2.id=id)).length:=by simpa[rowsK]using hj
  exact cQ115
 have hlt:∀(j:Nat)(hj:j<ts.length)(k:Nat),(KDep.p ts[j]).ownBlock=some k->k<w.1.size:=fun j hj k hk=>KDep.lt (h.inn j hj oM) k hk;refine⟨by rw[e1];simp[rowsK],hn,fun j hj hj'=>?_,fun i j hi hj hne k=>?_,fun j hj k e2 e3=>?_,fun k e=>.inr (hlo k e),fun j hj k e=>?_⟩
 ·obtain⟨q1,q2,q3,q4⟩:=hr j hj;rw[q3,q4 hj'];exact KDep.heap (h.inn (f j) q1 q2) fun k hk=>hb.block k (hlt (f j) q1 k hk)
 ·exact cQ97
 ·obtain⟨q1,q2,q3,-⟩:=hr j hj;rw[q3]at e2;have:=hlt (f j) q1 k e2;have:=hlo k e3;omega
 ·obtain⟨q1,q2,q3,-⟩:=hr j hj;rw[q3]at e;exact .inl ⟨h.si (f j) q1 k e,hlt (f j) q1 k e⟩
end Kit
theorem zdu(id:Int)(u v iv bv dv pv:Value)(m:MD)(w:World)(h:MR w u v iv bv dv pv m)(hB:BigM 1048576 m):
  Calls Tryz.prog 14 #[.agg #[u,v,iv,bv,dv,pv,.int .i64 m.nx],.int .i64 id] w fun e w'=>∃u' v' i' b' d' p',e=.returned (.agg #[u',v',i',b',d',p',.int .i64 m.nx])/\MO w' (fun k=>w.1.size<=k) u' v' i' b' d' p' { m with ds:=zbo id m.ds }/\Below w.1.size w w':=by
 have H:=hide h;have HG:=hide hB;have hdl:m.6.length<=1048576:=hB.l;obtain⟨a1,c1,a2,c2,a3,c3,a4,c4,a5,c5,a6,c6,rfl,rfl,rfl,rfl,rfl,rfl⟩:=h.form;clear h hB;have HC:Hid (∀W,Below ((w.alloc (.cells (M7 m a1 c1 a2 c2 a3 c3 a4 c4 a5 c5 a6 c6) 33)).alloc (.cells noM 33)).1.size ((w.alloc (.cells (M7 m a1 c1 a2 c2 a3 c3 a4 c4 a5 c5 a6 c6) 33)).alloc (.cells noM 33)) W->AtC W (w.1.size+1) 33 noM/\Below w.1.size w W/\w.1.size+1+1<=W.1.size):=fun W b2=>by
  have k1:=(AtC.new (w.alloc (.cells (M7 m a1 c1 a2 c2 a3 c3 a4 c4 a5 c5 a6 c6) 33)) 33 noM).over b2;have sz:=b2.size;simp at k1 sz;exact⟨k1,(((Below.refl _ w).alloc nR _).alloc sI _).trans (b2.mono sO),sz⟩
 go_enter Tryz.func14,Tryz.ntmps14
 go_wp2_with fail
 refine(zax _ _ _ _ _ _ m _ (H.out.below (HC.o _ bR).2.1 nR) HG.o).mono ?_;rintro e w2 ⟨u1,u2,u3,u4,u5,u6,rfl,O2,B2⟩;obtain⟨b1,d1,b2,d2,b3,d3,b4,d4,b5,d5,b6,d6,rfl,rfl,rfl,rfl,rfl,rfl⟩:=O2.mr.form;have hz2:=(HC.o w2 B2).2.2;obtain⟨S1,S2,S3,ts,k1,k2,k3,k4,k5,k6,k7⟩:=(O2.mono (S':=fun k=>w.1.size+1+1<=k) (fun k hk=>by simp at hk;omega)).bound;have HS:Hid (∀W,Below (w2.alloc (.cells (M7 m b1 d1 b2 d2 b3 d3 b4 d4 b5 d5 b6 d6) 33)).1.size (w2.alloc (.cells (M7 m b1 d1 b2 d2 b3 d3 b4 d4 b5 d5 b6 d6) 33)) W->AtC W (w.1.size+1) 33 noM/\AtC W w2.1.size 33 (M7 m b1 d1 b2 d2 b3 d3 b4 d4 b5 d5 b6 d6)/\GN KDep W S3 (.slice b6 m.6.length d6) ts m.ds/\Below w.1.size w W):=fun W b=>by
  have bb:Below w2.1.size w2 W:=((Below.refl _ w2).alloc nR _).trans (b.mono sI);have q:=HC.o W (B2.trans (bb.mono B2.size));exact⟨q.1,(AtC.new w2 33 _).over b,k4.below bb nR,q.2.1⟩
 have HKK:=hide (And.intro k1 (And.intro k2 (And.intro k3 (And.intro k4 (And.intro k5 (And.intro k6 k7))))));have hln:ts.length=m.6.length:=k4.len;have HB2:=hide B2;clear O2 B2 k1 k2 k3 k4 k5 k6 k7;go_wp2_with fail
 go_loopw [7,6] (fun i lv wr=>∃j:Nat,j<=m.6.length/\i=.int .i64 j/\Hid (NOwns wr 42 11 lv (rowsK id (ts.take j) (m.ds.take j))/\(∀k,lv.ownBlock=some k->w2.1.size+1<=k)/\Below (w2.alloc (.cells (M7 m b1 d1 b2 d2 b3 d3 b4 d4 b5 d5 b6 d6) 33)).1.size (w2.alloc (.cells (M7 m b1 d1 b2 d2 b3 d3 b4 d4 b5 d5 b6 d6) 33)) wr)) (fun i lv _=>m.6.length-(intOf i).toNat)
 case atStart =>
  refine⟨0,Nat.zero_le _,rfl,?_,?_,bR.alloc nR _⟩
  ·have:=NOwns.of_at (n:=11) (ts:=[]) (AtC.new (w2.alloc (.cells (M7 m b1 d1 b2 d2 b3 d3 b4 d4 b5 d5 b6 d6) 33)) 42 #[]) rfl (Even.nil _) (Nat.zero_le _);simpa[rowsK]using this
  ·intro k hk;simp[Value.ownBlock]at hk;omega
 case round =>
  obtain⟨j,hj,rfl,HR⟩:=hrel;obtain⟨hn,hlo,hbl⟩:=HR.o;have q9:=HS.o wr hbl;by_cases hlt:j<m.6.length
  ·have xb5:=q9.2.1.c5;obtain⟨g,cap,ei,hcell,-,hg,-⟩:=q9.2.2.1.row.at j oM;rw[hln]at ei;simp only[Value.slice.injEq,true_and]at ei;obtain⟨rfl,rfl⟩:=ei;obtain⟨p,hrow,hpo⟩:=q9.2.2.1.inn j oM hlt;have hst:=zkg id ts m.ds hln j oM hlt;rw[hrow]at hst;have nn:DCells wr g (j*11) m.ds[j] p:=DCells.of fun i hi=>by rw[←hrow];exact hcell i hi
   obtain⟨X,hX⟩:∃X,m.ds[j]=X:=⟨_,rfl⟩
   rw[hX]at nn hpo hst;obtain⟨id2,kd,io,pt,bk,sl,nm,bt,ot,af,bl⟩:=X;obtain⟨pa,pc,rfl⟩:=hpo.rints.form;simp only[DCells]at nn;obtain⟨n0,n1,n2,n3,n4,n5,n6,n7,n8,n9,n10⟩:=nn;have HRR:=hide (And.intro hn (And.intro hlo hbl));have HST:=hide hst;have j0:(0:Int)<=(j:Int):=by omega
   have j1:(j:Int)<(m.6.length:Int):=by omega
   clear hn hlo hbl q9 hcell hg hrow hpo hX hst HR;by_cases hid:id2=id
   ·subst hid;go_wp2;go_roundw
    case rel =>
     refine⟨j+1,by omega,by go_num,?_,HRR.o.2.1,HRR.o.2.2⟩;have:=HST.o;simp only[if_true,List.append_nil]at this;rw[this];exact HRR.o.1
    case measure=>simp[intOf];omega
   ·have HT:Hid (NOwns (wr.alloc (.cells (K7 id2 kd io pt bk sl nm bt ot af pa bl.length pc) 42)) 42 11 u6 (rowsK id (ts.take j) (m.ds.take j))):=HRR.o.1.of_heap fun k hk=>((Below.refl _ wr).alloc nR _).block k (HRR.o.1.lt k hk);have HTL:Hid ((rowsK id (ts.take j) (m.ds.take j)).length<=100000000000):=by
     have q:(rowsK id (ts.take j) (m.ds.take j)).length<=j:=by
      unfold rowsK;rw[List.length_map];refine Nat.le_trans (List.length_filter_le _ _) ?_;rw[List.length_zip,List.length_take,List.length_take];omega
     show _<=_;omega
    have HSTEP:Hid (∀v' w',NOwns w' 42 11 v' (rowsK id (ts.take j) (m.ds.take j)++[(⟨id2,kd,io,pt,bk,sl,nm,bt,ot,af,bl⟩:Dp).row (.slice pa bl.length pc)])->(wr.alloc (.cells (K7 id2 kd io pt bk sl nm bt ot af pa bl.length pc) 42)).grownBy w' u6.ownBlock->(∀k,v'.ownBlock=some k->u6.ownBlock=some k\/(wr.alloc (.cells (K7 id2 kd io pt bk sl nm bt ot af pa bl.length pc) 42)).1.size<=k)->NOwns w' 42 11 v' (rowsK id (ts.take (j+1)) (m.ds.take (j+1)))/\(∀k,v'.ownBlock=some k->w2.1.size+1<=k)/\Below (w2.alloc (.cells (M7 m b1 d1 b2 d2 b3 d3 b4 d4 b5 d5 (some ⟨g,0,none⟩) d6) 33)).1.size (w2.alloc (.cells (M7 m b1 d1 b2 d2 b3 d3 b4 d4 b5 d5 (some ⟨g,0,none⟩) d6) 33)) w'):=fun v' w' q1 q2 q3=>by
     obtain⟨hn,hlo,hbl⟩:=HRR.o;have hsz:=hbl.size;have hs1:(w2.alloc (.cells (M7 m b1 d1 b2 d2 b3 d3 b4 d4 b5 d5 (some ⟨g,0,none⟩) d6) 33)).1.size=w2.1.size+1:=by simp
     have:=HST.o;rw[if_neg (by exact hid)]at this;refine⟨by rw[this];exact q1,fun k hk=>?_,?_⟩
     ·rcases q3 k hk with e|e
      ·exact hlo k e
      ·simp at e;omega
     ·exact(hbl.alloc hsz _).grown q2 (by simp at hsz ⊢;omega) (fun k hk=>by rw[hs1];exact hlo k hk)
    clear HRR HST;go_wp2_with (at_builtin;refine wpList_step fun K' hK'=>?_;refine zat _ rfl (.tmp 26) (.tmp 32) 31 rfl 42 Tryz.u31 _ 11 104 Tryz.i42 rfl dC dC u6 _ rfl HT.o wr.1.size ((⟨id2,kd,io,pt,bk,sl,nm,bt,ot,af,bl⟩:Dp).row (.slice pa bl.length pc)) rfl rfl (fun i u hu=>(AtC.new wr 42 (K7 id2 kd io pt bk sl nm bt ot af pa bl.length pc)).at_ i u hu) (by simp[Dp.row,Value.oneCell']) HTL.o ?_;intro v12 w12 T12 G12 V12;refine hK' _ _ ?_;have HR12:=hide (HSTEP.o v12 w12 T12 G12 V12);clear T12 G12 V12 hK')
    go_roundw
    case rel=>exact⟨j+1,by omega,by go_num,HR12.o⟩
    case measure=>simp[intOf];omega
  ·have hj2:j=m.6.length:=by omega
   subst hj2;rw[List.take_length,show ts.take m.6.length=ts by rw[←hln,List.take_length]]at hn;obtain⟨ga,gc,rfl,-⟩:=hn.form;generalize hLN:(rowsK id ts m.ds).length=LN at*;have hs1:(w2.alloc (.cells (M7 m b1 d1 b2 d2 b3 d3 b4 d4 b5 d5 b6 d6) 33)).1.size=w2.1.size+1:=by simp
   have HM:Hid (MO (((((((((wr.setCell ⟨w2.1.size,5,none⟩ (.slice ga LN gc)).setCell ⟨w.1.size+1,0,none⟩ (.slice b1 m.1.length d1)).setCell ⟨w.1.size+1,1,none⟩ (.slice b2 m.2.length d2)).setCell ⟨w.1.size+1,2,none⟩ (.slice b3 m.3.length d3)).setCell ⟨w.1.size+1,3,none⟩ (.slice b4 m.4.length d4)).setCell ⟨w.1.size+1,4,none⟩ (.slice b5 m.5.length d5)).setCell ⟨w.1.size+1,5,none⟩ (.slice ga LN gc)).setCell ⟨w.1.size+1,6,none⟩ (.int .i64 m.nx))) (fun k=>w.1.size<=k) (.slice b1 m.1.length d1) (.slice b2 m.2.length d2) (.slice b3 m.3.length d3) (.slice b4 m.4.length d4) (.slice b5 m.5.length d5) (.slice ga LN gc) { m with ds:=zbo id m.ds }/\Below w.1.size w (((((((((wr.setCell ⟨w2.1.size,5,none⟩ (.slice ga LN gc)).setCell ⟨w.1.size+1,0,none⟩ (.slice b1 m.1.length d1)).setCell ⟨w.1.size+1,1,none⟩ (.slice b2 m.2.length d2)).setCell ⟨w.1.size+1,2,none⟩ (.slice b3 m.3.length d3)).setCell ⟨w.1.size+1,3,none⟩ (.slice b4 m.4.length d4)).setCell ⟨w.1.size+1,4,none⟩ (.slice b5 m.5.length d5)).setCell ⟨w.1.size+1,5,none⟩ (.slice ga LN gc)).setCell ⟨w.1.size+1,6,none⟩ (.int .i64 m.nx)))):=by
    obtain⟨k1,k2,k3,k4,k5,k6,k7⟩:=HKK.o;have bb:Below w2.1.size w2 wr:=((Below.refl _ w2).alloc nR _).trans (hbl.mono sI);have G:=((k4.alloc (.cells (M7 m b1 d1 b2 d2 b3 d3 b4 d4 b5 d5 b6 d6) 33)).keep id hn (fun k hk=>by rw[hs1];exact hlo k hk) hbl).mono (S':=fun k=>S3 k\/w2.1.size+1<=k) (fun k hk=>hk.elim (fun e=>Or.inl e.1) (fun e=>Or.inr (by rw[hs1]at e;exact e)));have hoth:∀k,k≠w.1.size+1->k≠w2.1.size->(((((((((wr.setCell ⟨w2.1.size,5,none⟩ (.slice ga LN gc)).setCell ⟨w.1.size+1,0,none⟩ (.slice b1 m.1.length d1)).setCell ⟨w.1.size+1,1,none⟩ (.slice b2 m.2.length d2)).setCell ⟨w.1.size+1,2,none⟩ (.slice b3 m.3.length d3)).setCell ⟨w.1.size+1,3,none⟩ (.slice b4 m.4.length d4)).setCell ⟨w.1.size+1,4,none⟩ (.slice b5 m.5.length d5)).setCell ⟨w.1.size+1,5,none⟩ (.slice ga LN gc)).setCell ⟨w.1.size+1,6,none⟩ (.int .i64 m.nx))).1[k]?=wr.1[k]?:=fun k _ _=>(((((((heap_setCell_other _ ⟨w.1.size+1,6,none⟩ k _ oA).trans (heap_setCell_other _ ⟨w.1.size+1,5,none⟩ k _ oA)).trans (heap_setCell_other _ ⟨w.1.size+1,4,none⟩ k _ oA)).trans (heap_setCell_other _ ⟨w.1.size+1,3,none⟩ k _ oA)).trans (heap_setCell_other _ ⟨w.1.size+1,2,none⟩ k _ oA)).trans (heap_setCell_other _ ⟨w.1.size+1,1,none⟩ k _ oA)).trans (heap_setCell_other _ ⟨w.1.size+1,0,none⟩ k _ oA)).trans (heap_setCell_other _ ⟨w2.1.size,5,none⟩ k _ (by show k≠w2.1.size;omega));have h3:∀k,(S3 k\/w2.1.size+1<=k)->k≠w.1.size+1/\k≠w2.1.size/\w.1.size<=k:=fun k hk=>by
     rcases hk with hk|hk
     ·have:=k7 k (.inr (.inr hk));omega
     ·omega
    refine⟨⟨S1,S2,fun k=>S3 k\/w2.1.size+1<=k,rowsK id ts m.ds,(k1.below bb nR).of_heap fun k hk _=>hoth k (by have:=k7 k (.inl hk);omega) (by have:=k7 k (.inl hk);omega),(k2.below bb nR).of_heap fun k hk=>hoth k (by have:=k7 k (.inr (.inl (k3 k hk)));omega) (by have:=k7 k (.inr (.inl (k3 k hk)));omega),k3,G.of_heap fun k hk _=>hoth k (h3 k hk).1 (h3 k hk).2.1,fun k hk=>⟨(k5 k hk).1,fun e=>?_⟩,fun k hk e=>?_,fun k hk=>?_⟩,((((((((q9.2.2.2).setCell (by show w.1.size<=w2.1.size;omega) _).setCell sI _).setCell sI _).setCell sI _).setCell sI _).setCell sI _).setCell sI _).setCell sI _⟩
    ·rcases e with e|e
     ·exact(k5 k hk).2 e
     ·have:=k7 k (.inl hk);omega
    ·rcases e with e|e
     ·exact k6 k hk e
     ·have:=k7 k (.inr (.inl hk));omega
    ·rcases hk with hk|hk|hk
     ·have:=k7 k (.inl hk);show w.1.size<=k;omega
     ·have:=k7 k (.inr (.inl hk));show w.1.size<=k;omega
     ·exact(h3 k hk).2.2
   have r0:=q9.1.c0;have v0:=q9.1.frozen 0;have r1:=q9.1.c1;have v1:=q9.1.frozen 1;have r2:=q9.1.c2;have v2:=q9.1.frozen 2;have r3:=q9.1.c3;have v3:=q9.1.frozen 3;have r4:=q9.1.c4;have v4:=q9.1.frozen 4;have r5:=q9.1.c5;have v5:=q9.1.frozen 5;have r6:=q9.1.c6;have v6:=q9.1.frozen 6;obtain⟨y0,y1,y2,y3,y4,y5,y6⟩:=AtC.sev q9.2.1;have z5:=q9.2.1.frozen 5;clear q9 hn hlo hbl HR HKK HS HB2;go_wp2;refine bodyPost_ret (v:=.agg #[.slice b1 m.1.length d1,.slice b2 m.2.length d2,.slice b3 m.3.length d3,.slice b4 m.4.length d4,.slice b5 m.5.length d5,.slice ga LN gc,.int .i64 m.nx]) sR7 rfl ⟨_,_,_,_,_,_,rfl,HM.o.1,HM.o.2⟩
namespace Kit
variable {Z : ZT}
theorem zfb{w:World}{b:Nat}{T:TypeId}{x0 x1 x2 x3 x4 x5 x6:Value}(h:AtC w b T #[x0,x1,x2,x3,x4,x5,x6])(v0 v1 v2 v3 v4 v5 v6:Value):
  AtC (((((((w.setCell ⟨b,0,none⟩ v0).setCell ⟨b,1,none⟩ v1).setCell ⟨b,2,none⟩ v2).setCell ⟨b,3,none⟩ v3).setCell ⟨b,4,none⟩ v4).setCell ⟨b,5,none⟩ v5).setCell ⟨b,6,none⟩ v6) b T #[v0,v1,v2,v3,v4,v5,v6]:=by
 have h0:AtC (w.setCell ⟨b,0,none⟩ v0) b T #[v0,x1,x2,x3,x4,x5,x6]:=h.set 0 v0;have h1:AtC ((w.setCell ⟨b,0,none⟩ v0).setCell ⟨b,1,none⟩ v1) b T #[v0,v1,x2,x3,x4,x5,x6]:=h0.set 1 v1;have h2:AtC (((w.setCell ⟨b,0,none⟩ v0).setCell ⟨b,1,none⟩ v1).setCell ⟨b,2,none⟩ v2) b T #[v0,v1,v2,x3,x4,x5,x6]:=h1.set 2 v2;have h3:=h2.set 3 v3;have h4:=h3.set 4 v4;have h5:=h4.set 5 v5;exact h5.set 6 v6
theorem zaa(w:World)(b:Nat)(v0 v1 v2 v3 v4 v5 v6:Value)(k:Nat)(hk:k≠b):(((((((w.setCell ⟨b,0,none⟩ v0).setCell ⟨b,1,none⟩ v1).setCell ⟨b,2,none⟩ v2).setCell ⟨b,3,none⟩ v3).setCell ⟨b,4,none⟩ v4).setCell ⟨b,5,none⟩ v5).setCell ⟨b,6,none⟩ v6).heap[k]?=w.1[k]?:=by
 rw[heap_setCell_other _ ⟨b,6,none⟩ k _ hk,heap_setCell_other _ ⟨b,5,none⟩ k _ hk,heap_setCell_other _ ⟨b,4,none⟩ k _ hk,heap_setCell_other _ ⟨b,3,none⟩ k _ hk,heap_setCell_other _ ⟨b,2,none⟩ k _ hk,heap_setCell_other _ ⟨b,1,none⟩ k _ hk,heap_setCell_other _ ⟨b,0,none⟩ k _ hk]
theorem zab{w w':World}{B b:Nat}(h:Below B w w')(hb:B<=b)(v0 v1 v2 v3 v4 v5 v6:Value):Below B w (((((((w'.setCell ⟨b,0,none⟩ v0).setCell ⟨b,1,none⟩ v1).setCell ⟨b,2,none⟩ v2).setCell ⟨b,3,none⟩ v3).setCell ⟨b,4,none⟩ v4).setCell ⟨b,5,none⟩ v5).setCell ⟨b,6,none⟩ v6) :=
 ((((((h.setCell hb _).setCell hb _).setCell hb _).setCell hb _).setCell hb _).setCell hb _).setCell hb _
theorem PM.store{w:World}{S:Nat->Prop}{b:Nat}{x0 x1 x2 x3 x4 x5 x6 u v iv bv dv pv:Value}{m:MD}(h:AtC w b 33 #[x0,x1,x2,x3,x4,x5,x6])(ho:MO w S u v iv bv dv pv m)(hb:¬S b):
  PM (((((((w.setCell ⟨b,0,none⟩ u).setCell ⟨b,1,none⟩ v).setCell ⟨b,2,none⟩ iv).setCell ⟨b,3,none⟩ bv).setCell ⟨b,4,none⟩ dv).setCell ⟨b,5,none⟩ pv).setCell ⟨b,6,none⟩ (.int .i64 m.nx)) S b u v iv bv dv pv m :=
 ⟨zfb h _ _ _ _ _ _ _,ho.of_heap fun k hk _=>zaa _ _ _ _ _ _ _ _ _ k fun e=>hb (e ▸ hk),hb⟩
end Kit
variable {Z : ZT}
theorem zd8{m:MD}(h:Sh Z m)(id:Int):Sh Z { m with ds:=zbo id m.ds }:=h.deps (Nat.le_trans (List.length_filter_le _ _) h.l) (fun d hd=>h.dd d (List.mem_filter.1 hd).1) (ze9 _ _)
theorem zlu(L b:Nat)(x y:Int)(w:World)(h:BX Z w L b):
  Calls Tryz.prog 213 #[.pointer (some ⟨b,0,none⟩),.int .i64 x,.int .i64 y] w fun e w'=>e=.returned (.tuple #[])/\BX Z w' L b/\Below L w w':=by
 obtain⟨S,u,v,iv,bv,dv,pv,m,hP,hSL,hLb,hS⟩:=h;obtain⟨a1,c1,a2,c2,a3,c3,a4,c4,a5,c5,a6,c6,rfl,rfl,rfl,rfl,rfl,rfl⟩:=hP.form;obtain⟨x0,x1,x2,x3,x4,x5,x6⟩:=AtC.sev hP.box;have HP:=hide hP;have HS:=hide hS;have HLB:Hid (L<=b/\b<w.1.size):=⟨hLb,hP.box.lt⟩
 have q5:w.frozen? ⟨b,0,none⟩=false:=hP.box.frozen 0;clear hP hS hSL hLb;go_enter Tryz.func213,Tryz.ntmps213
 go_wp2_with fail
 refine(zdu x _ _ _ _ _ _ m w HP.o.mr HS.o.big).mono ?_;rintro e w2 ⟨u1,u2,u3,u4,u5,u6,rfl,O2,B2⟩;obtain⟨b1,d1,b2,d2,b3,d3,b4,d4,b5,d5,b6,d6,rfl,rfl,rfl,rfl,rfl,rfl⟩:=O2.mr.form;obtain⟨n,hn⟩:∃n,({ m with ds:=zbo x m.ds }:MD).ds.length=n:=⟨_,rfl⟩
 rw[hn]at O2;simp only[hn];have A2:=HP.o.box.over B2;have hn40:n<=40:=by rw[←hn];exact(zd8 HS.o x).l
 obtain⟨W3,hW3⟩:∃W3,(((((((w2.setCell ⟨b,0,none⟩ (.slice b1 m.1.length d1)).setCell ⟨b,1,none⟩ (.slice b2 m.2.length d2)).setCell ⟨b,2,none⟩ (.slice b3 m.3.length d3)).setCell ⟨b,3,none⟩ (.slice b4 m.4.length d4)).setCell ⟨b,4,none⟩ (.slice b5 m.5.length d5)).setCell ⟨b,5,none⟩ (.slice b6 n d6)).setCell ⟨b,6,none⟩ (.int .i64 m.nx))=W3:=⟨_,rfl⟩
 have HH:Hid (PM W3 (fun k=>w.1.size<=k) b (.slice b1 m.1.length d1) (.slice b2 m.2.length d2) (.slice b3 m.3.length d3) (.slice b4 m.4.length d4) (.slice b5 m.5.length d5) (.slice b6 n d6) { m with ds:=zbo x m.ds }/\Sh Z { m with ds:=zbo x m.ds }/\({ m with ds:=zbo x m.ds }:MD).ds.length=n/\Below L w W3):=by
  rw[←hW3];exact⟨PM.store A2 O2 (by have:=HLB.o;omega),zd8 HS.o x,hn,zab (B2.mono (by have:=HLB.o;omega)) HLB.o.1 _ _ _ _ _ _ _⟩
 have r0:=A2.c0;have v0:=A2.frozen 0;have r1:=A2.c1;have v1:=A2.frozen 1;have r2:=A2.c2;have v2:=A2.frozen 2;have r3:=A2.c3;have v3:=A2.frozen 3;have r4:=A2.c4;have v4:=A2.frozen 4;have r5:=A2.c5;have v5:=A2.frozen 5;have r6:=A2.c6;have v6:=A2.frozen 6;have y5:=HH.o.1.box.c5;clear A2 O2 B2 hn q5 x0 x1 x2 x3 x4 x5 x6;go_wp2;go_loopw [6] (fun i wr=>∃j:Nat,j<=n/\i=.int .i64 j/\Hid (∃m':MD,PM wr (fun k=>w.1.size<=k) b (.slice b1 m.1.length d1) (.slice b2 m.2.length d2) (.slice b3 m.3.length d3) (.slice b4 m.4.length d4) (.slice b5 m.5.length d5) (.slice b6 n d6) m'/\Sh Z m'/\m'.6.length=n/\Below L w wr)) (fun i _=>n-(intOf i).toNat)
 case atStart=>exact⟨0,Nat.zero_le _,rfl,_,HH.o⟩
 case round =>
  obtain⟨j,hj,rfl,HR⟩:=hrel;obtain⟨m',q1,q2,q3,q4⟩:=HR.o;have y5:=q1.box.c5;by_cases hlt:j<n
  ·have hj2:j<m'.6.length:=by omega
   have hdk:=q2.dd _ (List.getElem_mem hj2);obtain⟨g,c,p,e1,nn,-,hz,gS,hglt,hset⟩:=q1.dep_at j hj2;rw[q3]at e1;simp only[Value.slice.injEq,true_and]at e1;obtain⟨rfl,rfl⟩:=e1;obtain⟨X,hX⟩:∃X,m'.ds[j]=X:=⟨_,rfl⟩
   rw[hX]at nn hset hdk;obtain⟨id,kd,io,pt,bk,sl,nm,bt,ot,af,bl⟩:=X;simp only[DCells]at nn;obtain⟨-,n1,-,-,n4,-,-,-,-,n9,-⟩:=nn;have f9:=hz (j*11+9);have H0:Hid (∃M',PM wr (fun k=>w.1.size<=k) b (.slice b1 m.1.length d1) (.slice b2 m.2.length d2) (.slice b3 m.3.length d3) (.slice b4 m.4.length d4) (.slice b5 m.5.length d5) (.slice (some ⟨g,0,none⟩) n d6) M'/\Sh Z M'/\M'.ds.length=n/\Below L w wr):=⟨m',q1,q2,q3,q4⟩
   have HE:Hid (∃W9,wr.setCell ⟨g,j*11+9,none⟩ (.int .i64 y)=W9/\W9.cell? ⟨b,5,none⟩=some (.slice (some ⟨g,0,none⟩) n d6)/\W9.cell? ⟨g,j*11+4,none⟩=some (.int .i64 bk)/\Hid (∃M',PM W9 (fun k=>w.1.size<=k) b (.slice b1 m.1.length d1) (.slice b2 m.2.length d2) (.slice b3 m.3.length d3) (.slice b4 m.4.length d4) (.slice b5 m.5.length d5) (.slice (some ⟨g,0,none⟩) n d6) M'/\Sh Z M'/\M'.ds.length=n/\Below L w W9)):=by
    have P9:=hset 9 (.int .i64 y) (⟨id,kd,io,pt,bk,sl,nm,bt,ot,y,bl⟩:Dp) dC rfl rfl;have hj9:j<(m'.ds.set j (⟨id,kd,io,pt,bk,sl,nm,bt,ot,y,bl⟩:Dp)).length:=by rw[List.length_set];exact hj2
    obtain⟨g2,c2',p2,e2,nn2,-⟩:=P9.dep_at j hj9;have e3:({ m' with ds:=m'.ds.set j (⟨id,kd,io,pt,bk,sl,nm,bt,ot,y,bl⟩:Dp) }:MD).ds[j]'hj9=⟨id,kd,io,pt,bk,sl,nm,bt,ot,y,bl⟩:=by show(m'.ds.set j _)[j]'_=_;simp
    simp only[Value.slice.injEq,Option.some.injEq,Addr.mk.injEq,and_true]at e2;obtain⟨rfl,-,-⟩:=e2;rw[e3]at nn2;simp only[DCells]at nn2;obtain⟨-,-,-,-,z4,-⟩:=nn2;refine⟨_,rfl,P9.box.cell 5,z4,_,P9,q2.deps (by rw[List.length_set];exact q2.l) (fun q hq=>(List.mem_or_eq_of_mem_set hq).elim (q2.dd q) (fun e=>e ▸ ⟨⟨hdk.io,hdk.pt,hdk.bk,hdk.sl,hdk.bl,hdk.bn,hdk.nm⟩,hdk.id⟩)) (zd7 _ j hj2 _ (by rw[hX];exact⟨Iff.rfl,fun _=>⟨rfl,rfl⟩⟩)),by show(m'.ds.set j _).length=n;rw[List.length_set];exact q3,q4.setCell (Nat.le_trans (Nat.le_of_lt (Nat.lt_of_le_of_lt HLB.o.1 HLB.o.2)) gS) _⟩
   have j0:(0:Int)<=(j:Int):=by omega
   have j1:(j:Int)<(n:Int):=by omega
   clear q1 q2 q3 q4 HR hX hset hdk hz gS;by_cases h1:kd=4
   ·subst h1;by_cases h2:af=x
    ·subst h2;obtain⟨W9,hW9,a5,a4',HW⟩:=HE.o;by_cases h3:y=0
     ·subst h3;obtain⟨U,hU⟩:∃U,uoB bk=U:=⟨_,rfl⟩
      have CU:Hid (∀W,Calls Tryz.prog 203 #[.int .i64 bk] W fun e w'=>e=.returned (.int .i64 U)/\w'=W):=fun W=>by rw[←hU];exact zbl bk W
      clear hU;go_wp2_with fail
      refine(CU.out _).mono ?_;rintro e w9 ⟨rfl,rfl⟩;go_wp2_with fail
      obtain⟨M',r1,r2,r3,r4⟩:=HW.o;refine(zb1 _ b U _ _ _ _ _ _ M' _ r1).mono ?_;rintro e w10 ⟨rfl,P10,C10⟩;have HZ:Hid (∃M',PM w10 (fun k=>w.1.size<=k) b (.slice b1 m.1.length d1) (.slice b2 m.2.length d2) (.slice b3 m.3.length d3) (.slice b4 m.4.length d4) (.slice b5 m.5.length d5) (.slice (some ⟨g,0,none⟩) n d6) M'/\Sh Z M'/\M'.ds.length=n/\Below L w w10):=⟨_,P10,r2.mark U,by rw[show(markU U M').ds=M'.ds by unfold markU;split<;>rfl];exact r3,r4.trans (C10.below (Nat.le_trans (Nat.le_of_lt (Nat.lt_of_le_of_lt HLB.o.1 HLB.o.2)) r4.size) fun k hk=>Nat.le_trans (Nat.le_of_lt (Nat.lt_of_le_of_lt HLB.o.1 HLB.o.2)) hk)⟩
      clear r1 r2 r3 r4 P10 C10;go_wp2;go_roundw
      case rel=>exact⟨j+1,by omega,by go_num,HZ.o⟩
      case measure=>simp[intOf];omega
     ·exact cQ114
    ·exact cQ42
   ·exact cQ42
  ·have HF:Hid (BX Z wr L b/\Below L w wr):=⟨⟨_,_,_,_,_,_,_,m',q1,fun k hk=>Nat.le_trans (Nat.le_of_lt (Nat.lt_of_le_of_lt HLB.o.1 HLB.o.2)) hk,HLB.o.1,q2⟩,q4⟩
   exact cQ92
theorem zhv(id kd io pt bk sl:Int)(nm:ByteArray)(bt ot:Bool)(af:Int)(bl:List Int)(p:Value)(u v iv bv dv pv:Value)(m:MD)(w:World)(h:MR w u v iv bv dv pv m)(hB:BigM 1048576 m)(hv:RInts w p bl)(hl:bl.length<=1048576)(hf:40<=m.6.length):
  Calls Tryz.prog 202 #[.agg #[u,v,iv,bv,dv,pv,.int .i64 m.nx],.agg #[.int .i64 id,.int .i64 kd,.int .i64 io,.int .i64 pt,.int .i64 bk,.int .i64 sl,.string nm,.bool bt,.bool ot,.int .i64 af,p]] w fun e w'=>∃u' v' i' b' d' p',e=.returned (.tuple #[.agg #[u',v',i',b',d',p',.int .i64 m.nx],.int .i64 0])/\MO w' (fun k=>w.1.size<=k) u' v' i' b' d' p' m/\Below w.1.size w w':=by
 have H:=hide h;have HG:=hide hB;have HP:=hide hv;have HL:=hide hl;obtain⟨a1,c1,a2,c2,a3,c3,a4,c4,a5,c5,a6,c6,rfl,rfl,rfl,rfl,rfl,rfl⟩:=h.form;obtain⟨pa,pc,rfl⟩:=hv.form;clear h hB hv hl;have HC:Hid (∀W,Below (((w.alloc (.cells (M7 m a1 c1 a2 c2 a3 c3 a4 c4 a5 c5 a6 c6) 33)).alloc (.cells (K7 id kd io pt bk sl nm bt ot af pa bl.length pc) 42)).alloc (.cells noM 33)).1.size (((w.alloc (.cells (M7 m a1 c1 a2 c2 a3 c3 a4 c4 a5 c5 a6 c6) 33)).alloc (.cells (K7 id kd io pt bk sl nm bt ot af pa bl.length pc) 42)).alloc (.cells noM 33)) W->AtC W w.1.size 33 (M7 m a1 c1 a2 c2 a3 c3 a4 c4 a5 c5 a6 c6)/\AtC W (w.1.size+1) 42 (K7 id kd io pt bk sl nm bt ot af pa bl.length pc)/\AtC W (w.1.size+1+1) 33 noM/\Below w.1.size w W/\w.1.size+1+1+1<=W.1.size):=fun W b2=>by
  exact cQ4
 go_enter Tryz.func202,Tryz.ntmps202
 go_wp2_with fail
 refine(zax _ _ _ _ _ _ m _ (H.out.below (HC.o _ bR).2.2.2.1 nR) HG.o).mono ?_;rintro e w2 ⟨u1,u2,u3,u4,u5,u6,rfl,O2,B2⟩;obtain⟨b1,d1,b2,d2,b3,d3,b4,d4,b5,d5,b6,d6,rfl,rfl,rfl,rfl,rfl,rfl⟩:=O2.mr.form;have hz2:=(HC.o w2 B2).2.2.2.2;have O3:=(O2.mono (S':=fun k=>w.1.size+1+1+1<=k) (fun k hk=>by simp at hk;omega)).bound;have HS:Hid (AtC (w2.alloc (.cells (M7 m b1 d1 b2 d2 b3 d3 b4 d4 b5 d5 b6 d6) 33)) w.1.size 33 (M7 m a1 c1 a2 c2 a3 c3 a4 c4 a5 c5 a6 c6)/\AtC (w2.alloc (.cells (M7 m b1 d1 b2 d2 b3 d3 b4 d4 b5 d5 b6 d6) 33)) (w.1.size+1) 42 (K7 id kd io pt bk sl nm bt ot af pa bl.length pc)/\AtC (w2.alloc (.cells (M7 m b1 d1 b2 d2 b3 d3 b4 d4 b5 d5 b6 d6) 33)) (w.1.size+1+1) 33 noM/\AtC (w2.alloc (.cells (M7 m b1 d1 b2 d2 b3 d3 b4 d4 b5 d5 b6 d6) 33)) w2.1.size 33 (M7 m b1 d1 b2 d2 b3 d3 b4 d4 b5 d5 b6 d6)/\N7 (w2.alloc (.cells (M7 m b1 d1 b2 d2 b3 d3 b4 d4 b5 d5 b6 d6) 33)) (fun k=>w.1.size+1+1+1<=k/\k<w2.1.size) m b1 d1 b2 d2 b3 d3 b4 d4 b5 d5 b6 d6/\Below w.1.size w (w2.alloc (.cells (M7 m b1 d1 b2 d2 b3 d3 b4 d4 b5 d5 b6 d6) 33))/\(w2.alloc (.cells (M7 m b1 d1 b2 d2 b3 d3 b4 d4 b5 d5 b6 d6) 33)).1.size=w2.1.size+1):=by
  exact cQ28
 clear O2 O3 B2;have q1:=HS.o.1;have q3:=HS.o.2.2.1;have q4:=HS.o.2.2.2.1;have x0:=q1.c0;have x1:=q1.c1;have x2:=q1.c2;have x3:=q1.c3;have x4:=q1.c4;have x5:=q1.c5;have x6:=q1.c6;have r0:=q3.c0;have r1:=q3.c1;have r2:=q3.c2;have r3:=q3.c3;have r4:=q3.c4;have r5:=q3.c5;have r6:=q3.c6;have v0:=q3.frozen 0;have v1:=q3.frozen 1;have v2:=q3.frozen 2;have v3:=q3.frozen 3;have v4:=q3.frozen 4;have v5:=q3.frozen 5;have v6:=q3.frozen 6;have y0:=q4.c0;have y1:=q4.c1;have y2:=q4.c2;have y3:=q4.c3;have y4:=q4.c4;have y5:=q4.c5;have y6:=q4.c6;have HM:Hid (MO ((((((((w2.alloc (.cells (M7 m b1 d1 b2 d2 b3 d3 b4 d4 b5 d5 b6 d6) 33)).setCell ⟨(w.1.size+1+1),0,none⟩ (.slice b1 m.1.length d1)).setCell ⟨(w.1.size+1+1),1,none⟩ (.slice b2 m.2.length d2)).setCell ⟨(w.1.size+1+1),2,none⟩ (.slice b3 m.3.length d3)).setCell ⟨(w.1.size+1+1),3,none⟩ (.slice b4 m.4.length d4)).setCell ⟨(w.1.size+1+1),4,none⟩ (.slice b5 m.5.length d5)).setCell ⟨(w.1.size+1+1),5,none⟩ (.slice b6 m.6.length d6)).setCell ⟨(w.1.size+1+1),6,none⟩ (.int .i64 m.nx)) (fun k=>w.1.size<=k) (.slice b1 m.1.length d1) (.slice b2 m.2.length d2) (.slice b3 m.3.length d3) (.slice b4 m.4.length d4) (.slice b5 m.5.length d5) (.slice b6 m.6.length d6) m/\Below w.1.size w ((((((((w2.alloc (.cells (M7 m b1 d1 b2 d2 b3 d3 b4 d4 b5 d5 b6 d6) 33)).setCell ⟨(w.1.size+1+1),0,none⟩ (.slice b1 m.1.length d1)).setCell ⟨(w.1.size+1+1),1,none⟩ (.slice b2 m.2.length d2)).setCell ⟨(w.1.size+1+1),2,none⟩ (.slice b3 m.3.length d3)).setCell ⟨(w.1.size+1+1),3,none⟩ (.slice b4 m.4.length d4)).setCell ⟨(w.1.size+1+1),4,none⟩ (.slice b5 m.5.length d5)).setCell ⟨(w.1.size+1+1),5,none⟩ (.slice b6 m.6.length d6)).setCell ⟨(w.1.size+1+1),6,none⟩ (.int .i64 m.nx))):=by
  exact cQ16
 clear q1 q3 q4 HS HC;have hf1:(40:Int)<=(m.6.length:Int):=by omega
 go_wp2;refine bodyPost_ret (v:=.tuple #[.agg (M7 m b1 d1 b2 d2 b3 d3 b4 d4 b5 d5 b6 d6),.int .i64 0]) sR7 rfl ⟨_,_,_,_,_,_,rfl,HM.o.1,HM.o.2⟩
theorem zhw(id kd io pt bk sl:Int)(nm:ByteArray)(bt ot:Bool)(af:Int)(bl:List Int)(p:Value)(u v iv bv dv pv:Value)(m:MD)(w:World)(h:MR w u v iv bv dv pv m)(hB:BigM 1048576 m)(hv:RInts w p bl)(hl:bl.length<=1048576)(hf:m.6.length<40)(hx:inB m.nx 1 99999=false):
  Calls Tryz.prog 202 #[.agg #[u,v,iv,bv,dv,pv,.int .i64 m.nx],.agg #[.int .i64 id,.int .i64 kd,.int .i64 io,.int .i64 pt,.int .i64 bk,.int .i64 sl,.string nm,.bool bt,.bool ot,.int .i64 af,p]] w fun e w'=>∃u' v' i' b' d' p',e=.returned (.tuple #[.agg #[u',v',i',b',d',p',.int .i64 m.nx],.int .i64 0])/\MO w' (fun k=>w.1.size<=k) u' v' i' b' d' p' m/\Below w.1.size w w':=by
 have H:=hide h;have HG:=hide hB;have HP:=hide hv;have HL:=hide hl;obtain⟨a1,c1,a2,c2,a3,c3,a4,c4,a5,c5,a6,c6,rfl,rfl,rfl,rfl,rfl,rfl⟩:=h.form;obtain⟨pa,pc,rfl⟩:=hv.form;clear h hB hv hl;have HC:Hid (∀W,Below (((w.alloc (.cells (M7 m a1 c1 a2 c2 a3 c3 a4 c4 a5 c5 a6 c6) 33)).alloc (.cells (K7 id kd io pt bk sl nm bt ot af pa bl.length pc) 42)).alloc (.cells noM 33)).1.size (((w.alloc (.cells (M7 m a1 c1 a2 c2 a3 c3 a4 c4 a5 c5 a6 c6) 33)).alloc (.cells (K7 id kd io pt bk sl nm bt ot af pa bl.length pc) 42)).alloc (.cells noM 33)) W->AtC W w.1.size 33 (M7 m a1 c1 a2 c2 a3 c3 a4 c4 a5 c5 a6 c6)/\AtC W (w.1.size+1) 42 (K7 id kd io pt bk sl nm bt ot af pa bl.length pc)/\AtC W (w.1.size+1+1) 33 noM/\Below w.1.size w W/\w.1.size+1+1+1<=W.1.size):=fun W b2=>by
  exact cQ4
 go_enter Tryz.func202,Tryz.ntmps202
 go_wp2_with fail
 refine(zax _ _ _ _ _ _ m _ (H.out.below (HC.o _ bR).2.2.2.1 nR) HG.o).mono ?_;rintro e w2 ⟨u1,u2,u3,u4,u5,u6,rfl,O2,B2⟩;obtain⟨b1,d1,b2,d2,b3,d3,b4,d4,b5,d5,b6,d6,rfl,rfl,rfl,rfl,rfl,rfl⟩:=O2.mr.form;have hz2:=(HC.o w2 B2).2.2.2.2;have O3:=(O2.mono (S':=fun k=>w.1.size+1+1+1<=k) (fun k hk=>by simp at hk;omega)).bound;have HS:Hid (AtC (w2.alloc (.cells (M7 m b1 d1 b2 d2 b3 d3 b4 d4 b5 d5 b6 d6) 33)) w.1.size 33 (M7 m a1 c1 a2 c2 a3 c3 a4 c4 a5 c5 a6 c6)/\AtC (w2.alloc (.cells (M7 m b1 d1 b2 d2 b3 d3 b4 d4 b5 d5 b6 d6) 33)) (w.1.size+1) 42 (K7 id kd io pt bk sl nm bt ot af pa bl.length pc)/\AtC (w2.alloc (.cells (M7 m b1 d1 b2 d2 b3 d3 b4 d4 b5 d5 b6 d6) 33)) (w.1.size+1+1) 33 noM/\AtC (w2.alloc (.cells (M7 m b1 d1 b2 d2 b3 d3 b4 d4 b5 d5 b6 d6) 33)) w2.1.size 33 (M7 m b1 d1 b2 d2 b3 d3 b4 d4 b5 d5 b6 d6)/\N7 (w2.alloc (.cells (M7 m b1 d1 b2 d2 b3 d3 b4 d4 b5 d5 b6 d6) 33)) (fun k=>w.1.size+1+1+1<=k/\k<w2.1.size) m b1 d1 b2 d2 b3 d3 b4 d4 b5 d5 b6 d6/\Below w.1.size w (w2.alloc (.cells (M7 m b1 d1 b2 d2 b3 d3 b4 d4 b5 d5 b6 d6) 33))/\(w2.alloc (.cells (M7 m b1 d1 b2 d2 b3 d3 b4 d4 b5 d5 b6 d6) 33)).1.size=w2.1.size+1):=by
  exact cQ28
 clear O2 O3 B2;have q1:=HS.o.1;have q3:=HS.o.2.2.1;have q4:=HS.o.2.2.2.1;have x0:=q1.c0;have x1:=q1.c1;have x2:=q1.c2;have x3:=q1.c3;have x4:=q1.c4;have x5:=q1.c5;have x6:=q1.c6;have r0:=q3.c0;have r1:=q3.c1;have r2:=q3.c2;have r3:=q3.c3;have r4:=q3.c4;have r5:=q3.c5;have r6:=q3.c6;have v0:=q3.frozen 0;have v1:=q3.frozen 1;have v2:=q3.frozen 2;have v3:=q3.frozen 3;have v4:=q3.frozen 4;have v5:=q3.frozen 5;have v6:=q3.frozen 6;have y0:=q4.c0;have y1:=q4.c1;have y2:=q4.c2;have y3:=q4.c3;have y4:=q4.c4;have y5:=q4.c5;have y6:=q4.c6;have HM:Hid (MO ((((((((w2.alloc (.cells (M7 m b1 d1 b2 d2 b3 d3 b4 d4 b5 d5 b6 d6) 33)).setCell ⟨(w.1.size+1+1),0,none⟩ (.slice b1 m.1.length d1)).setCell ⟨(w.1.size+1+1),1,none⟩ (.slice b2 m.2.length d2)).setCell ⟨(w.1.size+1+1),2,none⟩ (.slice b3 m.3.length d3)).setCell ⟨(w.1.size+1+1),3,none⟩ (.slice b4 m.4.length d4)).setCell ⟨(w.1.size+1+1),4,none⟩ (.slice b5 m.5.length d5)).setCell ⟨(w.1.size+1+1),5,none⟩ (.slice b6 m.6.length d6)).setCell ⟨(w.1.size+1+1),6,none⟩ (.int .i64 m.nx)) (fun k=>w.1.size<=k) (.slice b1 m.1.length d1) (.slice b2 m.2.length d2) (.slice b3 m.3.length d3) (.slice b4 m.4.length d4) (.slice b5 m.5.length d5) (.slice b6 m.6.length d6) m/\Below w.1.size w ((((((((w2.alloc (.cells (M7 m b1 d1 b2 d2 b3 d3 b4 d4 b5 d5 b6 d6) 33)).setCell ⟨(w.1.size+1+1),0,none⟩ (.slice b1 m.1.length d1)).setCell ⟨(w.1.size+1+1),1,none⟩ (.slice b2 m.2.length d2)).setCell ⟨(w.1.size+1+1),2,none⟩ (.slice b3 m.3.length d3)).setCell ⟨(w.1.size+1+1),3,none⟩ (.slice b4 m.4.length d4)).setCell ⟨(w.1.size+1+1),4,none⟩ (.slice b5 m.5.length d5)).setCell ⟨(w.1.size+1+1),5,none⟩ (.slice b6 m.6.length d6)).setCell ⟨(w.1.size+1+1),6,none⟩ (.int .i64 m.nx))):=by
  exact cQ16
 clear q1 q3 q4 HS HC;have hf1:¬((40:Int)<=(m.6.length:Int)):=by omega
 have HX:=hide hx;clear hx;go_wp2_with fail
 refine(zai m.nx 1 99999 _).mono ?_;rintro e w3 ⟨rfl,rfl⟩;rw[HX.o];go_wp2;refine bodyPost_ret (v:=.tuple #[.agg (M7 m b1 d1 b2 d2 b3 d3 b4 d4 b5 d5 b6 d6),.int .i64 0]) sR7 rfl ⟨_,_,_,_,_,_,rfl,HM.o.1,HM.o.2⟩
theorem put_fin{w w12:World}{b:Nat}{A0 A1 A2 A3 A4 A5:Value}{D:Array Value}{u v iv bv dv pv pv':Value}{nx:Int}{R:MD}(hb:w.1.size+1+1+1<=b)
  (h:AtC w12 w.1.size 33 #[A0,A1,A2,A3,A4,A5,.int .i64 nx]/\AtC w12 (w.1.size+1) 42 D/\AtC w12 (w.1.size+1+1) 33 noM/\AtC w12 b 33 #[u,v,iv,bv,dv,pv,.int .i64 nx]/\MO w12 (fun k=>w.1.size+1+1+1<=k/\k≠b) u v iv bv dv pv' R/\Below w.1.size w w12) (y:Int) :
  ∃W13 W14,w12.setCell ⟨b,5,none⟩ pv'=W13/\W13.setCell ⟨b,6,none⟩ (.int .i64 y)=W14/\W13.cell? ⟨b,6,none⟩=some (.int .i64 nx)/\W13.frozen? ⟨b,6,none⟩=false/\W13.cell? ⟨w.1.size,6,none⟩=some (.int .i64 nx)/\Hid (AtC W14 (w.1.size+1) 42 D/\AtC W14 (w.1.size+1+1) 33 noM/\AtC W14 b 33 #[u,v,iv,bv,dv,pv',.int .i64 y]/\MO W14 (fun k=>w.1.size+1+1+1<=k/\k≠b) u v iv bv dv pv' R/\Below w.1.size w W14):=by
 obtain⟨k1,k2,k3,k4,k5,k6⟩:=h;have j4:AtC (w12.setCell ⟨b,5,none⟩ pv') b 33 #[u,v,iv,bv,dv,pv',.int .i64 nx]:=k4.set 5 pv';have i4:AtC ((w12.setCell ⟨b,5,none⟩ pv').setCell ⟨b,6,none⟩ (.int .i64 y)) b 33 #[u,v,iv,bv,dv,pv',.int .i64 y]:=j4.set 6 _;refine⟨_,_,rfl,rfl,j4.cell 6,j4.frozen 6,(k1.other oM _).cell 6,(k2.other oM _).other oM _,(k3.other oM _).other oM _,i4,k5.of_heap fun k hk _=>?_,(k6.setCell oD _).setCell oD _⟩;rw[heap_setCell_other _ ⟨b,6,none⟩ k _ (by show k≠b;omega),heap_setCell_other _ ⟨b,5,none⟩ k _ (by show k≠b;omega)]
theorem zjs(w:World)(e:TypeId)(m:Nat):(w.alloc (.cells #[] e)).ownsRow w.1.size e m (.slice (some ⟨w.1.size,0,none⟩) 0 0) 0 []:=by
 have:=World.ownsRow_lit (base:=w.1.size) (e:=e) (size:=m) w #[] 0 sI (Nat.zero_le _) sI;simpa using this
theorem zjt(id kd io pt bk sl:Int)(nm:ByteArray)(bt ot:Bool)(af:Int)(bl:List Int)(p:Value)(u v iv bv dv pv:Value)(m:MD)(w:World)(h:MR w u v iv bv dv pv m)(hB:BigM 1048576 m)(hv:RInts w p bl)(hl:bl.length<=1048576)(hf:m.6.length<40)(hx:inB m.nx 1 99999=true):
  Calls Tryz.prog 202 #[.agg #[u,v,iv,bv,dv,pv,.int .i64 m.nx],.agg #[.int .i64 id,.int .i64 kd,.int .i64 io,.int .i64 pt,.int .i64 bk,.int .i64 sl,.string nm,.bool bt,.bool ot,.int .i64 af,p]] w fun e w'=>∃u' v' i' b' d' p',e=.returned (.tuple #[.agg #[u',v',i',b',d',p',.int .i64 (m.nx+1)],.int .i64 m.nx])/\MO w' (fun k=>w.1.size<=k) u' v' i' b' d' p' ({ m with ds:=m.ds++[(⟨m.nx,kd,io,pt,bk,sl,nm,bt,ot,af,bl⟩:Dp)],nx:=m.nx+1 }:MD)/\Below w.1.size w w':=by
 have H:=hide h;have HG:=hide hB;have HP:=hide hv;have HL:=hide hl;obtain⟨a1,c1,a2,c2,a3,c3,a4,c4,a5,c5,a6,c6,rfl,rfl,rfl,rfl,rfl,rfl⟩:=h.form;obtain⟨pa,pc,rfl⟩:=hv.form;clear h hB hv hl;have HC:Hid (∀W,Below (((w.alloc (.cells (M7 m a1 c1 a2 c2 a3 c3 a4 c4 a5 c5 a6 c6) 33)).alloc (.cells (K7 id kd io pt bk sl nm bt ot af pa bl.length pc) 42)).alloc (.cells noM 33)).1.size (((w.alloc (.cells (M7 m a1 c1 a2 c2 a3 c3 a4 c4 a5 c5 a6 c6) 33)).alloc (.cells (K7 id kd io pt bk sl nm bt ot af pa bl.length pc) 42)).alloc (.cells noM 33)) W->AtC W w.1.size 33 (M7 m a1 c1 a2 c2 a3 c3 a4 c4 a5 c5 a6 c6)/\AtC W (w.1.size+1) 42 (K7 id kd io pt bk sl nm bt ot af pa bl.length pc)/\AtC W (w.1.size+1+1) 33 noM/\Below w.1.size w W/\w.1.size+1+1+1<=W.1.size):=fun W b2=>by
  exact cQ4
 go_enter Tryz.func202,Tryz.ntmps202
 go_wp2_with fail
 refine(zax _ _ _ _ _ _ m _ (H.out.below (HC.o _ bR).2.2.2.1 nR) HG.o).mono ?_;rintro e w2 ⟨u1,u2,u3,u4,u5,u6,rfl,O2,B2⟩;obtain⟨b1,d1,b2,d2,b3,d3,b4,d4,b5,d5,b6,d6,rfl,rfl,rfl,rfl,rfl,rfl⟩:=O2.mr.form;have hz2:=(HC.o w2 B2).2.2.2.2;have O3:=(O2.mono (S':=fun k=>w.1.size+1+1+1<=k) (fun k hk=>by simp at hk;omega)).bound;have HS:Hid (AtC (w2.alloc (.cells (M7 m b1 d1 b2 d2 b3 d3 b4 d4 b5 d5 b6 d6) 33)) w.1.size 33 (M7 m a1 c1 a2 c2 a3 c3 a4 c4 a5 c5 a6 c6)/\AtC (w2.alloc (.cells (M7 m b1 d1 b2 d2 b3 d3 b4 d4 b5 d5 b6 d6) 33)) (w.1.size+1) 42 (K7 id kd io pt bk sl nm bt ot af pa bl.length pc)/\AtC (w2.alloc (.cells (M7 m b1 d1 b2 d2 b3 d3 b4 d4 b5 d5 b6 d6) 33)) (w.1.size+1+1) 33 noM/\AtC (w2.alloc (.cells (M7 m b1 d1 b2 d2 b3 d3 b4 d4 b5 d5 b6 d6) 33)) w2.1.size 33 (M7 m b1 d1 b2 d2 b3 d3 b4 d4 b5 d5 b6 d6)/\N7 (w2.alloc (.cells (M7 m b1 d1 b2 d2 b3 d3 b4 d4 b5 d5 b6 d6) 33)) (fun k=>w.1.size+1+1+1<=k/\k<w2.1.size) m b1 d1 b2 d2 b3 d3 b4 d4 b5 d5 b6 d6/\Below w.1.size w (w2.alloc (.cells (M7 m b1 d1 b2 d2 b3 d3 b4 d4 b5 d5 b6 d6) 33))/\(w2.alloc (.cells (M7 m b1 d1 b2 d2 b3 d3 b4 d4 b5 d5 b6 d6) 33)).1.size=w2.1.size+1):=by
  exact cQ28
 clear O2 O3 B2;have hf1:¬((40:Int)<=(m.6.length:Int)):=by omega
 have HX:=hide hx;obtain⟨nx1,nx2⟩:=zas hx;clear hx;have q1:=HS.o.1;have q2:=HS.o.2.1;have x0:=q1.c0;have x1:=q1.c1;have x2:=q1.c2;have x3:=q1.c3;have x4:=q1.c4;have x5:=q1.c5;have x6:=q1.c6;have dd0:=q2.c0;have dd1:=q2.c1;have dd2:=q2.c2;have dd3:=q2.c3;have dd4:=q2.c4;have dd5:=q2.c5;have dd6:=q2.c6;have dd7:=q2.c7;have dd8:=q2.c8;have dd9:=q2.c9;have dd10:=q2.c10;have f0:=q2.frozen 0;clear q1 q2;go_wp2_with fail
 refine(zai m.nx 1 99999 _).mono ?_;rintro e w3 ⟨rfl,rfl⟩;rw[HX.o];obtain⟨W5,hW5⟩:∃W5,(w2.alloc (.cells (M7 m b1 d1 b2 d2 b3 d3 b4 d4 b5 d5 b6 d6) 33)).setCell ⟨w.1.size+1,0,none⟩ (.int .i64 m.nx)=W5:=⟨_,rfl⟩
 obtain⟨b,hb⟩:∃b,w2.1.size=b:=⟨_,rfl⟩
 have H5:Hid (AtC W5 w.1.size 33 (M7 m a1 c1 a2 c2 a3 c3 a4 c4 a5 c5 a6 c6)/\AtC W5 (w.1.size+1) 42 (K7 m.nx kd io pt bk sl nm bt ot af pa bl.length pc)/\AtC W5 (w.1.size+1+1) 33 noM/\AtC W5 b 33 (M7 m b1 d1 b2 d2 b3 d3 b4 d4 b5 d5 b6 d6)/\N7 W5 (fun k=>w.1.size+1+1+1<=k/\k<b) m b1 d1 b2 d2 b3 d3 b4 d4 b5 d5 b6 d6/\Below w.1.size w W5/\W5.1.size=b+1/\w.1.size+1+1+1<=b):=by
  obtain⟨k1,k2,k3,k4,k5,k6,k7⟩:=HS.o;rw[←hW5,←hb];exact⟨k1.other oM _,k2.set 0 _,k3.other oM _,k4.other oM _,k5.of_heap fun k hk _=>heap_setCell_other _ ⟨w.1.size+1,0,none⟩ k _ oA,k6.setCell sI _,by rw[←k7];simp,hz2⟩
 have HPR:Hid (RInts (W5.alloc (.cells #[] 3)) (.slice pa bl.length pc) bl):=((HP.o.below H5.o.2.2.2.2.2.1 nR)).alloc _;have HPL:Hid (bl.length<=100000000000):=Nat.le_trans HL.o dC;have HSTEP:Hid (∀(v9:Value)(w9:World),w9.ownsRow W5.1.size 3 1 v9 bl.length (ic bl)->(W5.alloc (.cells #[] 3)).grownBy w9 (Value.slice (some ⟨W5.1.size,0,none⟩) 0 0).ownBlock->∃pb pd W10 ts,v9=.slice pb bl.length pd/\w9.setCell ⟨w.1.size+1,10,none⟩ (.slice pb bl.length pd)=W10/\AtC w9 (w.1.size+1) 42 (K7 m.nx kd io pt bk sl nm bt ot af pa bl.length pc)/\AtC W10 (w.1.size+1) 42 (K7 m.nx kd io pt bk sl nm bt ot af pb bl.length pd)/\W10.cell? ⟨b,5,none⟩=some (.slice b6 m.6.length d6)/\AtC (W10.alloc (.cells (K7 m.nx kd io pt bk sl nm bt ot af pb bl.length pd) 42)) W10.1.size 42 (K7 m.nx kd io pt bk sl nm bt ot af pb bl.length pd)/\NOwns (W10.alloc (.cells (K7 m.nx kd io pt bk sl nm bt ot af pb bl.length pd) 42)) 42 11 (.slice b6 m.6.length d6) ts/\ts.length=m.6.length /\
   ∀v' w',NOwns w' 42 11 v' (ts++[(⟨m.nx,kd,io,pt,bk,sl,nm,bt,ot,af,bl⟩:Dp).row (.slice pb bl.length pd)])->(W10.alloc (.cells (K7 m.nx kd io pt bk sl nm bt ot af pb bl.length pd) 42)).grownBy w' (Value.slice b6 m.6.length d6).ownBlock->(∀k,v'.ownBlock=some k->(Value.slice b6 m.6.length d6).ownBlock=some k\/(W10.alloc (.cells (K7 m.nx kd io pt bk sl nm bt ot af pb bl.length pd) 42)).1.size<=k) ->
    AtC w' w.1.size 33 (M7 m a1 c1 a2 c2 a3 c3 a4 c4 a5 c5 a6 c6)/\AtC w' (w.1.size+1) 42 (K7 m.nx kd io pt bk sl nm bt ot af pb bl.length pd)/\AtC w' (w.1.size+1+1) 33 noM/\AtC w' b 33 (M7 m b1 d1 b2 d2 b3 d3 b4 d4 b5 d5 b6 d6)/\MO w' (fun k=>w.1.size+1+1+1<=k/\k≠b) (.slice b1 m.1.length d1) (.slice b2 m.2.length d2) (.slice b3 m.3.length d3) (.slice b4 m.4.length d4) (.slice b5 m.5.length d5) v' ({ m with ds:=m.ds++[(⟨m.nx,kd,io,pt,bk,sl,nm,bt,ot,af,bl⟩:Dp)],nx:=m.nx+1 }:MD)/\Below w.1.size w w'):=fun v9 w9 R1 R2=>by
  obtain⟨k1,k2,k3,k4,k5,k6,k7,k8⟩:=H5.o;obtain⟨pb,pd,rfl⟩:∃pb pd,v9=.slice pb bl.length pd:=by
   exact cQ62
  have O9:ROwns w9 W5.1.size 3 (.slice pb bl.length pd) (ic bl):=by unfold ROwns;rw[zah];exact R1
  have B9:Below W5.1.size W5 w9:=zbz ((Below.refl _ W5).alloc nR _) sI R2 (fun k hk=>by simp[Value.ownBlock]at hk;omega);have hs9:=B9.size;have K9:=k2.over B9;have O10:ROwns ((w9.setCell ⟨w.1.size+1,10,none⟩ (.slice pb bl.length pd)).alloc (.cells (K7 m.nx kd io pt bk sl nm bt ot af pb bl.length pd) 42)) W5.1.size 3 (.slice pb bl.length pd) (ic bl):=(O9.setCell_other oM _).alloc _;have hm:∀k,(w.1.size+1+1+1<=k/\k<b)->k<W5.1.size->((w9.setCell ⟨w.1.size+1,10,none⟩ (.slice pb bl.length pd)).alloc (.cells (K7 m.nx kd io pt bk sl nm bt ot af pb bl.length pd) 42)).1[k]?=W5.1[k]?:=fun k hk hlt=>by
   have e1:((w9.setCell ⟨w.1.size+1,10,none⟩ (.slice pb bl.length pd)).alloc (.cells (K7 m.nx kd io pt bk sl nm bt ot af pb bl.length pd) 42)).1[k]?=(w9.setCell ⟨w.1.size+1,10,none⟩ (.slice pb bl.length pd)).1[k]?:=(bR.alloc nR _).block k sO;rw[e1,heap_setCell_other _ ⟨w.1.size+1,10,none⟩ k _ oA];exact B9.block k hlt
  obtain⟨ts,t1,t2,t3⟩:=(k5.of_heap hm).appE;have hz:((w9.setCell ⟨w.1.size+1,10,none⟩ (.slice pb bl.length pd)).alloc (.cells (K7 m.nx kd io pt bk sl nm bt ot af pb bl.length pd) 42)).1.size=w9.1.size+1:=by simp
  refine⟨pb,pd,_,ts,rfl,rfl,K9,K9.set 10 _,((k4.over B9).other oM _).cell 5,AtC.new _ 42 _,t1,t2,fun v' w' h1 h2 h3=>?_⟩;have hown:∀k,(Value.slice b6 m.6.length d6).ownBlock=some k->w.1.size+1+1+1<=k/\k<b:=fun k hk=>MO.soP k5 k hk;have hst:∀(q T:Nat)(cs:Array Value),q<W5.1.size->¬(w.1.size+1+1+1<=q/\q<b)->AtC ((w9.setCell ⟨w.1.size+1,10,none⟩ (.slice pb bl.length pd)).alloc (.cells (K7 m.nx kd io pt bk sl nm bt ot af pb bl.length pd) 42)) q T cs->AtC w' q T cs:=fun q T cs hq hn h=>h.grown h2 (fun e=>hn (hown q e));refine⟨hst _ _ _ oM oM (((k1.over B9).other oM _).alloc _),hst _ _ _ oM oM ((K9.set 10 _).alloc _),hst _ _ _ oM oM (((k3.over B9).other oM _).alloc _),hst _ _ _ oM oM (((k4.over B9).other oM _).alloc _),(t3 w' v' _ (⟨m.nx,kd,io,pt,bk,sl,nm,bt,ot,af,bl⟩:Dp) ⟨_,rfl,O10.base_le (Nat.zero_le _)⟩ (fun k hk=>by have:=(O10.lt k hk).1;omega) h1 h2 h3 _).mono fun k hk=>?_,?_⟩
  ·rcases hk with hk|hk|hk
   ·omega
   ·have:=(O10.lt k hk).1;omega
   ·rw[hz]at hk;omega
  ·exact(((k6.trans (B9.mono k6.size)).setCell sI _).alloc sO _).grown h2 sO (fun k hk=>by have:=hown k hk;omega)
 have hb3:w.1.size+1+1+1<=b:=H5.o.2.2.2.2.2.2.2;have g6:=H5.o.1;have x6':=g6.c6;have d10':=H5.o.2.1.c10;have d10a:(W5.alloc (.cells #[] 3)).cell? ⟨w.1.size+1,10,none⟩=some (.slice pa bl.length pc):=(H5.o.2.1.alloc _).cell 10;clear g6 HS HC hz2;go_wp2_with (first| (at_builtin;refine zaj _ rfl _ _ 40 rfl W5.1.size 3 Tryz.underlying40 _ 1 8 Tryz.i3 rfl dC dC (.slice (some ⟨W5.1.size,0,none⟩) 0 0) rfl (zjs W5 3 1) sI _ rfl bl.length (ic bl) HPR.o.rc (by rw[zah,Nat.mul_one]) (zlj bl) HPL.o ?_;intro v9 w9 R1 R2 R3;obtain⟨pb,pd,W10,ts,rfl,hW10,K9,K10,cb5,K11,T11,L11,S11⟩:=HSTEP.o v9 w9 R1 R2;have y10:w9.cell? ⟨w.1.size+1,10,none⟩=some (.slice pa bl.length pc):=K9.cell 10;have yf:=K9.frozen 10;have kc0:W10.cell? ⟨w.1.size+1,0,none⟩=some (.int .i64 m.nx):=K10.cell 0;have kc1:W10.cell? ⟨w.1.size+1,1,none⟩=some (.int .i64 kd):=K10.cell 1;have kc2:W10.cell? ⟨w.1.size+1,2,none⟩=some (.int .i64 io):=K10.cell 2;have kc3:W10.cell? ⟨w.1.size+1,3,none⟩=some (.int .i64 pt):=K10.cell 3;have kc4:W10.cell? ⟨w.1.size+1,4,none⟩=some (.int .i64 bk):=K10.cell 4;have kc5:W10.cell? ⟨w.1.size+1,5,none⟩=some (.int .i64 sl):=K10.cell 5;have kc6:W10.cell? ⟨w.1.size+1,6,none⟩=some (.string nm):=K10.cell 6;have kc7:W10.cell? ⟨w.1.size+1,7,none⟩=some (.bool bt):=K10.cell 7;have kc8:W10.cell? ⟨w.1.size+1,8,none⟩=some (.bool ot):=K10.cell 8;have kc9:W10.cell? ⟨w.1.size+1,9,none⟩=some (.int .i64 af):=K10.cell 9;have kc10:W10.cell? ⟨w.1.size+1,10,none⟩=some (.slice pb bl.length pd):=K10.cell 10;have HK11:=hide K11;have HT11:=hide T11;have HS11:=hide S11;have HL11:Hid (ts.length<=100000000000):=(by have:=L11;show ts.length<=_;omega);have HLL:=hide L11;clear R1 R2 R3 K9 K10 K11 T11 S11 L11)| (at_builtin;refine wpList_step fun K' hK'=>?_;refine zat _ rfl (.tmp 29) (.tmp 31) 31 rfl 42 Tryz.u31 _ 11 104 Tryz.i42 rfl dC dC (.slice b6 m.6.length d6) ts rfl HT11.o W10.1.size ((⟨m.nx,kd,io,pt,bk,sl,nm,bt,ot,af,bl⟩:Dp).row (.slice pb bl.length pd)) rfl rfl (fun i u hu=>(HK11.o.at_ i u hu)) (by simp[Dp.row,Value.oneCell']) HL11.o ?_;intro v12 w12 T12 G12 V12;refine hK' _ _ ?_;have D12:=HS11.o v12 w12 T12 G12 V12;obtain⟨g12,c12,rfl,-⟩:=T12.form;generalize (ts++[(⟨m.nx,kd,io,pt,bk,sl,nm,bt,ot,af,bl⟩:Dp).row (.slice pb bl.length pd)]).length=LL at*;have z5:w12.cell? ⟨b,5,none⟩=some (.slice b6 m.6.length d6):=D12.2.2.2.1.cell 5;have zf5:=D12.2.2.2.1.frozen 5;obtain⟨W13,W14,hW13,hW14,y6,zf6,x6b,HF⟩:=put_fin hb3 D12 (m.nx+1);clear T12 G12 V12 D12 hK'))
 have j2:=HF.o.1;have j3:=HF.o.2.1;have j4:=HF.o.2.2.1;have i0:=j2.c0;obtain⟨y0,y1,y2,y3,y4,y5,y6⟩:=AtC.sev j4;obtain⟨r0,r1,r2,r3,r4,r5,r6⟩:=AtC.sev j3;have v0:=j3.frozen 0;have v1:=j3.frozen 1;have v2:=j3.frozen 2;have v3:=j3.frozen 3;have v4:=j3.frozen 4;have v5:=j3.frozen 5;have v6:=j3.frozen 6;have HM:Hid (MO ((((((((W14.setCell ⟨(w.1.size+1+1),0,none⟩ (.slice b1 m.1.length d1)).setCell ⟨(w.1.size+1+1),1,none⟩ (.slice b2 m.2.length d2)).setCell ⟨(w.1.size+1+1),2,none⟩ (.slice b3 m.3.length d3)).setCell ⟨(w.1.size+1+1),3,none⟩ (.slice b4 m.4.length d4)).setCell ⟨(w.1.size+1+1),4,none⟩ (.slice b5 m.5.length d5)).setCell ⟨(w.1.size+1+1),5,none⟩ (.slice g12 LL c12)).setCell ⟨(w.1.size+1+1),6,none⟩ (.int .i64 (m.nx+1)))).drew (fun k=>w.1.size<=k) (.slice b1 m.1.length d1) (.slice b2 m.2.length d2) (.slice b3 m.3.length d3) (.slice b4 m.4.length d4) (.slice b5 m.5.length d5) (.slice g12 LL c12) ({ m with ds:=m.ds++[(⟨m.nx,kd,io,pt,bk,sl,nm,bt,ot,af,bl⟩:Dp)],nx:=m.nx+1 }:MD)/\Below w.1.size w ((((((((W14.setCell ⟨(w.1.size+1+1),0,none⟩ (.slice b1 m.1.length d1)).setCell ⟨(w.1.size+1+1),1,none⟩ (.slice b2 m.2.length d2)).setCell ⟨(w.1.size+1+1),2,none⟩ (.slice b3 m.3.length d3)).setCell ⟨(w.1.size+1+1),3,none⟩ (.slice b4 m.4.length d4)).setCell ⟨(w.1.size+1+1),4,none⟩ (.slice b5 m.5.length d5)).setCell ⟨(w.1.size+1+1),5,none⟩ (.slice g12 LL c12)).setCell ⟨(w.1.size+1+1),6,none⟩ (.int .i64 (m.nx+1)))).drew):=by
  exact⟨(((HF.o.2.2.2.1.of_heap fun k hk _=>((((((heap_setCell_other _ ⟨(w.1.size+1+1),6,none⟩ k _ (by show k≠(w.1.size+1+1);omega)).trans (heap_setCell_other _ ⟨(w.1.size+1+1),5,none⟩ k _ (by show k≠(w.1.size+1+1);omega))).trans (heap_setCell_other _ ⟨(w.1.size+1+1),4,none⟩ k _ (by show k≠(w.1.size+1+1);omega))).trans (heap_setCell_other _ ⟨(w.1.size+1+1),3,none⟩ k _ (by show k≠(w.1.size+1+1);omega))).trans (heap_setCell_other _ ⟨(w.1.size+1+1),2,none⟩ k _ (by show k≠(w.1.size+1+1);omega))).trans (heap_setCell_other _ ⟨(w.1.size+1+1),1,none⟩ k _ (by show k≠(w.1.size+1+1);omega))).trans (heap_setCell_other _ ⟨(w.1.size+1+1),0,none⟩ k _ (by show k≠(w.1.size+1+1);omega))).mono fun k hk=>by omega).below bR.drew nR),((((((((HF.o.2.2.2.2).setCell oC _).setCell oC _).setCell oC _).setCell oC _).setCell oC _).setCell oC _).setCell oC _).drew⟩
 clear j2 j3 j4 HF H5 HSTEP HPR HPL HK11 HT11 HS11 HL11 HLL
 go_region
 go_wp2;refine bodyPost_ret (v:=.tuple #[.agg #[.slice b1 m.1.length d1,.slice b2 m.2.length d2,.slice b3 m.3.length d3,.slice b4 m.4.length d4,.slice b5 m.5.length d5,.slice g12 LL c12,.int .i64 (m.nx+1)],.int .i64 m.nx]) sR7 rfl ⟨_,_,_,_,_,_,rfl,HM.o.1,HM.o.2⟩
namespace Kit
variable {Z : ZT}
theorem zak{P:Program}(W:World){ops:Array Oper}{o:Oper}{a:Act}{K:Act->World->Prop}{Q:Exit->Act->World->Prop}{E:Prop}(hgd:o.guard=none)(s x:Operand)(t:TypeId)
  (ho:o.op=.call { callee:=.builtin .append,args:=#[s,x],argTypes:=#[t,t] }) (base:Nat) (e:TypeId) (ht:P.underlying t=some (.slice e)) (z:Value) (bytes:Nat)
  (hi:(P.info? e).map (fun i=>(i.zero,i.size,i.bytes))=some (some z,1,bytes)) (hzc:z.cells.size=1) (hby:bytes<=640) (v:Value) (l:List Value) (hs:a.eval s=v) (hown:ROwns W base e v l) (hbase:base<=W.1.size)
  (g:Nat) (y:Value) (hx:a.eval x=.slice (some ⟨g,0,none⟩) 1 1) (hc:W.cell? ⟨g,0,none⟩=some y) (h1:y.oneCell'=true) (hl:l.length<=100000000000)
  (h:∀v' w',ROwns w' base e v' (l++[y])->W.grownBy w' v.ownBlock->(∀k,v'.ownBlock=some k->v.ownBlock=some k\/W.1.size<=k)->K (a.put o.dst v') w') :
  if Region.wanted o (yielded ops a.tmps)=true then Oper.wp P o a W K Q else E:=by
 obtain⟨i0,hi,hz0,hz1,hz2⟩:=info_parts hi;refine step_append_lies _ hgd s x t ho base e i0 z 1 bytes ht hi hz0 hz1 hz2 hzc dC v l.length l hs hown ⟨g,0,none⟩ 1 1 [y] hx rfl ?_ (by simpa using h1) dC ?_ ?_ hbase W.1.size rfl ?_
 ·intro j u hj
  cases j with
  | zero=>simp only[List.getElem?_cons_zero,Option.some.injEq]at hj;subst hj;simpa[Addr.add]using hc
  | succ j=>simp at hj
 ·unfold maxLen;omega
 ·have:(l.length+1)*bytes<=100000000001*640:=Nat.mul_le_mul oM hby;omega
 ·intro g' cap w' hown' hgrow hat _;refine h _ w' ?_ hgrow fun k hk=>?_
  ·unfold ROwns;rw[List.length_append];exact hown'
  ·exact cQ43
def BT(Z:ZT)(w:World)(T:Nat->Prop)(b:Nat):Prop:=∃(S:Nat->Prop)(u v iv bv dv pv:Value)(m:MD),PM w S b u v iv bv dv pv m/\(∀k,S k->T k)/\T b/\Sh Z m
theorem BT.below{w w':World}{T:Nat->Prop}{b:Nat}(h:BT Z w T b)(hb:Below w.1.size w w'):BT Z w' T b:=by
 exact cQ122
theorem BT.mono{w:World}{T T':Nat->Prop}{b:Nat}(h:BT Z w T b)(hs:∀k,T k->T' k):BT Z w T' b:=by
 obtain⟨S,u,v,iv,bv,dv,pv,m,h1,h2,h3,h4⟩:=h;exact⟨S,u,v,iv,bv,dv,pv,m,h1,fun k hk=>hs k (h2 k hk),hs b h3,h4⟩
theorem BT.lt{w:World}{T:Nat->Prop}{b:Nat}(h:BT Z w T b):b<w.1.size/\T b:=by
 obtain⟨S,u,v,iv,bv,dv,pv,m,h1,h2,h3,h4⟩:=h;exact⟨h1.box.lt,h3⟩
theorem BT.weak{Z':ZT}{w:World}{T:Nat->Prop}{b:Nat}(h:BT Z' w T b)(hz:∀i p,Z i p->Z' i p):BT Z w T b:=by
 obtain⟨S,u,v,iv,bv,dv,pv,m,h1,h2,h3,h4⟩:=h;exact⟨S,u,v,iv,bv,dv,pv,m,h1,h2,h3,h4.weak hz⟩
theorem BX.bt{w:World}{L b:Nat}(h:BX Z w L b):BT Z w (fun k=>L<=k) b:=h
theorem BT.bx{w:World}{L b:Nat}(h:BT Z w (fun k=>L<=k) b):BX Z w L b:=h
end Kit
variable {Z : ZT}
theorem zfc(id kd io pt bk sl:Int)(nm:ByteArray)(bt ot:Bool)(af:Int)(bl:List Int)(p:Value)(u v iv bv dv pv:Value)(m:MD)(w:World)(h:MR w u v iv bv dv pv m)(hS:Sh Z m)(hv:RInts w p bl)
  (hd:DOkN ⟨m.nx,kd,io,pt,bk,sl,nm,bt,ot,af,bl⟩) (hr5:kd=5->Kz.Room Z m bl) :
  Calls Tryz.prog 202 #[.agg #[u,v,iv,bv,dv,pv,.int .i64 m.nx],.agg #[.int .i64 id,.int .i64 kd,.int .i64 io,.int .i64 pt,.int .i64 bk,.int .i64 sl,.string nm,.bool bt,.bool ot,.int .i64 af,p]] w fun e w'=>∃u' v' i' b' d' p' m' r,e=.returned (.tuple #[.agg #[u',v',i',b',d',p',.int .i64 m'.nx],.int .i64 r])/\MO w' (fun k=>w.1.size<=k) u' v' i' b' d' p' m'/\Sh Z m'/\0<=r/\r<=99999/\Below w.1.size w w':=by
 have hbl:bl.length<=1048576:=Nat.le_trans hd.bn dC;by_cases hf:40<=m.6.length
 ·refine(zhv id kd io pt bk sl nm bt ot af bl p u v iv bv dv pv m w h hS.big hv hbl hf).mono ?_;rintro e w' ⟨u1,u2,u3,u4,u5,u6,rfl,O,B⟩;exact⟨u1,u2,u3,u4,u5,u6,m,0,rfl,O,hS,by omega,by omega,B⟩
 ·cases hx:inB m.nx 1 99999 with
  | false =>
   refine(zhw id kd io pt bk sl nm bt ot af bl p u v iv bv dv pv m w h hS.big hv hbl oM hx).mono ?_;rintro e w' ⟨u1,u2,u3,u4,u5,u6,rfl,O,B⟩;exact⟨u1,u2,u3,u4,u5,u6,m,0,rfl,O,hS,by omega,by omega,B⟩
  | true =>
   have hr:=zas hx;refine(zjt id kd io pt bk sl nm bt ot af bl p u v iv bv dv pv m w h hS.big hv hbl oM hx).mono ?_;rintro e w' ⟨u1,u2,u3,u4,u5,u6,rfl,O,B⟩;refine⟨u1,u2,u3,u4,u5,u6,_,m.nx,rfl,O,⟨hS.x,hS.y,hS.i,hS.ii,hS.b,hS.bb,hS.f,?_,?_,?_,hS.k.put _ rfl rfl rfl hr5⟩,by omega,by omega,B⟩
   ·rw[List.length_append];simp;omega
   ·exact cQ80
   ·show 1<=m.nx+1/\m.nx+1<=100000;omega
def blkAt(bs:List Blk)(x:Int):Blk:=if inB x 1 bs.length=true then bs.getD (x-1).toNat (false,[],⟨#[]⟩)else(false,[],⟨#[]⟩)
theorem zgw(x:Int)(u v iv bv:Value)(xs ys:List Bool)(is:List Ino)(bs:List Blk)(w0 w:World)(h:DR w0 u v iv bv xs ys is bs)(h0:Below w0.1.size w0 w)(hl:bs.length<=1048576):
  Calls Tryz.prog 56 #[.agg #[u,v,iv,bv],.int .i64 x] w fun e w'=>∃sv,e=.returned (.tuple #[.agg #[.bool (blkAt bs x).1,sv,.string (blkAt bs x).2.2],.bool (inB x 1 bs.length)])/\RSl w0 sv (blkAt bs x).2.1/\Below w.1.size w w':=by
 have HZ:=hide h0;obtain⟨a4,c4,rfl,-,hc⟩:=h.k;have HC:=hide hc;clear h hc h0;have HB:Hid (∀A,Below w.1.size w (((w.alloc (.cells A 30)).alloc (.cells #[.bool false,.slice none 0 0,.string ⟨#[]⟩] 95)))):=fun A=>((Below.refl _ w).alloc nR _).alloc sI _
 cases hb:inB x 1 bs.length with
 | false =>
  have HX:=hide hb;have e0:blkAt bs x=(false,[],⟨#[]⟩):=by unfold blkAt;rw[hb];rfl
  rw[e0];clear hb e0;go_enter Tryz.func56,Tryz.ntmps56
  go_wp2_with fail
  refine(zai x 1 _ _).mono ?_;rintro e w1 ⟨rfl,rfl⟩;rw[HX.o];go_wp2;refine bodyPost_ret (v:=.tuple #[.agg #[.bool false,.slice none 0 0,.string ⟨#[]⟩],.bool false]) sR0 rfl ⟨_,rfl,?_,?_⟩
  ·exact⟨none,0,rfl,Nat.le_refl _,fun j hj=>by simp at hj⟩
  ·exact HB.o _
 | true =>
  have HX:=hide hb;obtain⟨h1,h2⟩:=zas hb;obtain⟨j,rfl⟩:∃j:Nat,x=(j:Int)+1:=⟨(x-1).toNat,by omega⟩
  have hj:j<bs.length:=by omega
  have e0:blkAt bs ((j:Int)+1)=bs[j]:=by
   unfold blkAt;rw[hb,if_pos rfl,show((j:Int)+1-1).toNat=j by omega];simp[hj]
  rw[e0];clear hb e0;obtain⟨g,off,t,rfl,hg,k0,k1,k2,r1,r2,r3⟩:=HC.o j hj
  replace k0:=(HZ.o.cell (p:=⟨g,off+j*3,none⟩) hg).trans k0
  replace k1:=(HZ.o.cell (p:=⟨g,off+j*3+1,none⟩) hg).trans k1
  replace k2:=(HZ.o.cell (p:=⟨g,off+j*3+2,none⟩) hg).trans k2
  replace hg:g<w.1.size:=Nat.lt_of_lt_of_le hg HZ.o.size
  obtain⟨t0,t1,t2⟩:=t;simp only at r1 r2 r3 k0 k1 k2;subst r1 r3;generalize bs[j].1=d at*;generalize bs[j].2.2=tx at*;generalize bs[j].2.1=ss at*;have HR:=hide r2;obtain⟨pa,pc,rfl,-⟩:=r2;have HB2:Hid (∀(A B:Array Value),Below w.1.size w ((w.alloc (.cells A 30)).alloc (.cells B 95))):=fun A B=>((Below.refl _ w).alloc nR _).alloc sI _;have n0:((w.alloc (.cells #[u,v,iv,.slice (some ⟨g,off,none⟩) bs.length c4] 30)).alloc (.cells #[.bool false,.slice none 0 0,.string ⟨#[]⟩] 95)).cell? ⟨g,off+j*3,none⟩=some (.bool d):=((HB.o _).cell (p:=⟨g,off+j*3,none⟩) hg).trans k0;have n1:((w.alloc (.cells #[u,v,iv,.slice (some ⟨g,off,none⟩) bs.length c4] 30)).alloc (.cells #[.bool false,.slice none 0 0,.string ⟨#[]⟩] 95)).cell? ⟨g,off+j*3+1,none⟩=some (.slice pa ss.length pc):=((HB.o _).cell (p:=⟨g,off+j*3+1,none⟩) hg).trans k1;have n2:((w.alloc (.cells #[u,v,iv,.slice (some ⟨g,off,none⟩) bs.length c4] 30)).alloc (.cells #[.bool false,.slice none 0 0,.string ⟨#[]⟩] 95)).cell? ⟨g,off+j*3+2,none⟩=some (.string tx):=((HB.o _).cell (p:=⟨g,off+j*3+2,none⟩) hg).trans k2;have j0:(0:Int)<=(j:Int):=by omega
  have j1:(j:Int)<(bs.length:Int):=by omega
  clear k0 k1 k2;go_enter Tryz.func56,Tryz.ntmps56
  go_wp2_with fail
  refine(zai _ 1 _ _).mono ?_;rintro e w1 ⟨rfl,rfl⟩;rw[HX.o];go_wp2;refine bodyPost_ret (v:=.tuple #[.agg #[.bool d,.slice pa ss.length pc,.string tx],.bool true]) sR0 rfl ⟨_,rfl,?_,?_⟩
  ·exact HR.o
  ·exact HB2.o _ _
theorem za1{s:ByteArray}(h:0<s.size):s.toList.isEmpty=false:=by
 exact cQ89
theorem zbh{a b:ByteArray}(h:¬a=b):(a.toList==b.toList)=false:=by
 exact cQ102
def zlv(ss:List Sl)(nm:ByteArray)(k:Int):Prop:=(k=-1/\(nm.size=0\/∀(i:Nat)(hi:i<ss.length),¬ss[i].1=nm))\/∃(j:Nat)(hj:j<ss.length),k=(j:Int)/\ss[j].1=nm/\nm.size≠0/\∀(i:Nat)(hi:i<j),¬(ss[i]'(Nat.lt_trans hi hj)).1=nm
theorem zju(d:Bool)(sv:Value)(ss:List Sl)(tx nm:ByteArray)(w:World)(h:RSl w sv ss)(hl:ss.length<=1048576):
  Calls Tryz.prog 140 #[.agg #[.bool d,sv,.string tx],.string nm] w fun e w'=>∃k:Int,e=.returned (.int .i64 k)/\zlv ss nm k/\Below w.1.size w w':=by
 have H:=hide h;obtain⟨a,c,rfl,-,hc⟩:=h;obtain⟨W0,hW0⟩:∃W0,w.alloc (.cells #[.bool d,.slice a ss.length c,.string tx] 95)=W0:=⟨_,rfl⟩
 have HB:Hid (Below w.1.size w W0):=by rw[←hW0];exact(Below.refl _ w).alloc nR _
 have x1:W0.cell? ⟨w.1.size,1,none⟩=some (.slice a ss.length c):=by rw[←hW0];exact(AtC.new w 95 _).cell 1
 have HC:Hid (∀(j:Nat)(hj:j<ss.length),∃g off,a=some ⟨g,off,none⟩/\W0.cell? ⟨g,off+j*2,none⟩=some (.string ss[j].1)):=fun j hj=>by
  obtain⟨g,off,e,hg,k0,-⟩:=hc j hj;exact⟨g,off,e,(HB.o.cell (p:=⟨g,off+j*2,none⟩) hg).trans k0⟩
 clear hc;by_cases hn:nm=⟨#[]⟩
 ·subst hn;go_enter Tryz.func140,Tryz.ntmps140
  go_wp2;clear hW0;go_loopw [5] (fun i wr=>∃j:Nat,j<=ss.length/\i=.int .i64 j/\W0=wr) (fun i _=>ss.length-(intOf i).toNat)
  case atStart=>exact⟨0,Nat.zero_le _,rfl,rfl⟩
  case round =>
   obtain⟨j,hj,rfl,rfl⟩:=hrel;by_cases hlt:j<ss.length
   ·have j0:(0:Int)<=(j:Int):=by omega
    have j1:(j:Int)<(ss.length:Int):=by omega
    go_wp2;go_roundw
    case rel=>exact⟨j+1,by omega,by go_num,by first| trivial|rfl⟩
    case measure=>simp[intOf];omega
   ·go_wp2;go_ret;exact⟨_,rfl,.inl ⟨rfl,.inl rfl⟩,HB.o⟩
 ·have HN:Hid (nm.size≠0):=fun e=>hn (by
   obtain⟨⟨l⟩⟩:=nm;have:l=[]:=List.length_eq_zero_iff.1 e;subst this;rfl)
  have hne:nm.toList.isEmpty=false:=za1 (Nat.pos_of_ne_zero HN.o);go_enter Tryz.func140,Tryz.ntmps140
  go_wp2;clear hW0;go_loopw [5] (fun i wr=>∃j:Nat,j<=ss.length/\i=.int .i64 j/\W0=wr/\Hid (∀(i:Nat)(hi:i<ss.length),i<j->¬ss[i].1=nm)) (fun i _=>ss.length-(intOf i).toNat)
  case atStart=>exact⟨0,Nat.zero_le _,rfl,rfl,fun i _ h=>absurd h (Nat.not_lt_zero i)⟩
  case round =>
   obtain⟨j,hj,rfl,rfl,HQ⟩:=hrel;by_cases hlt:j<ss.length
   ·have j0:(0:Int)<=(j:Int):=by omega
    have j1:(j:Int)<(ss.length:Int):=by omega
    obtain⟨g,off,rfl,k0⟩:=HC.o j hlt;obtain⟨t,ht⟩:∃t,ss[j].1=t:=⟨_,rfl⟩
    rw[ht]at k0;by_cases he:t=nm
    ·have HF:Hid (zlv ss nm (j:Int)):=.inr ⟨j,hlt,rfl,ht.trans he,HN.o,fun i hi=>HQ.o i (Nat.lt_trans hi hlt) hi⟩;subst he;clear ht;go_wp2;go_ret;exact⟨_,rfl,HF.o,HB.o⟩
    ·have hbf:(t.toList==nm.toList)=false:=zbh he;have HQ2:Hid (∀(i:Nat)(hi:i<ss.length),i<j+1->¬ss[i].1=nm):=fun i hi h=>by
      by_cases e:i=j
      ·subst e;rw[ht];exact he
      ·exact HQ.o i hi oM
     clear ht;go_wp2;go_roundw
     case rel=>exact⟨j+1,by omega,by go_num,by first| trivial|rfl,HQ2.o⟩
     case measure=>simp[intOf];omega
   ·go_wp2;go_ret;exact⟨_,rfl,.inl ⟨rfl,.inr fun i hi=>HQ.o i hi oM⟩,HB.o⟩
namespace Kit
def more(s:ByteArray):Nat->Nat->Nat->List ByteArray
 | 0,b,_=>[s.extract b s.size]
 | f+1,b,i=>if h:i<s.size then(if (s[i]).toNat=47 then s.extract b i::more s f (i+1) (i+1)else more s f b (i+1))else[s.extract b s.size]
def rest(s:ByteArray)(b i:Nat):List ByteArray:=more s (s.size-i) b i
theorem zex(s:ByteArray)(b i:Nat)(h:s.size<=i):rest s b i=[s.extract b s.size]:=by
 unfold rest;rw[Nat.sub_eq_zero_of_le h];rfl
theorem zgx(s:ByteArray)(b i:Nat)(h:i<s.size)(hc:(s[i]).toNat=47):rest s b i=s.extract b i::rest s (i+1) (i+1):=by
 exact cQ133
theorem zhx(s:ByteArray)(b i:Nat)(h:i<s.size)(hc:(s[i]).toNat≠47):rest s b i=rest s b (i+1):=by
 exact cQ133
theorem zcg(s:ByteArray)(b:Nat):∀(k i:Nat),(∀j,i<=j->j<i+k->∃h:j<s.size,(s[j]).toNat≠47)->rest s b i=rest s b (i+k)
 | 0,_,_=>rfl
 | k+1,i,h=>by
  obtain⟨h1,h2⟩:=h i nR oM;rw[zhx s b i h1 h2,zcg s b k (i+1) (fun j a c=>h j oM oM)];congr 1;omega
theorem zlw(p:ByteArray)(f b i:Nat)(hbi:b<=i)(hp:1<=p.size)(hi:i+f<=p.size-1):
  more p f (b+1) (i+1)=more (p.extract 1 p.size) f b i:=by
 have hz:(p.extract 1 p.size).size=p.size-1:=by rw[ByteArray.size_extract];omega
 have hx:∀b n,n<=p.size-1->(p.extract 1 p.size).extract b n=p.extract (b+1) (n+1):=fun b n hn=>by
  rw[ByteArray.extract_extract];congr 1<;>omega
 induction f generalizing b i with
 | zero=>simp only[more];rw[hx b _ oM,hz];congr 2;omega
 | succ f ih =>
  have h1:i+1<p.size:=by omega
  have h2:i<(p.extract 1 p.size).size:=by omega
  have e:(p.extract 1 p.size)[i]=p[i+1]:=by
   rw[ByteArray.getElem_extract];congr 1;omega
  simp only[more,h1,h2,dif_pos,e];rw[ih (i+1) (i+1) nR oM,ih b (i+1) oM oM,hx b i oM]
theorem zhy(p:ByteArray)(hp:1<=p.size):rest p 1 1=rest (p.extract 1 p.size) 0 0:=by
 unfold rest;rw[zlw p (p.size-1) 0 0 nR hp oM];congr 1
 rw[ByteArray.size_extract];omega
def good(l:List ByteArray):Prop:=(∀s∈l,zan s=true)/\l.length<=4
def zbf(p:ByteArray):Prop:=∃h:0<p.size,(p[0]).toNat=47
def Ans(p:ByteArray)(l:List ByteArray)(ok:Bool):Prop:=(¬zbf p/\l=[]/\ok=false)\/(zbf p/\p.size=1/\l=[]/\ok=true)\/(zbf p/\1<p.size/\good (rest p 1 1)/\l=rest p 1 1/\ok=true)\/(zbf p/\1<p.size/\¬good (rest p 1 1)/\l=[]/\ok=false)
theorem ans_ex(p:ByteArray):∃l ok,Ans p l ok/\l.length<=4:=by
 by_cases h:zbf p
 ·obtain⟨h0,_⟩:=id h;by_cases h1:p.size=1
  ·exact⟨[],true,.inr (.inl ⟨h,h1,rfl,rfl⟩),by simp⟩
  ·by_cases h2:good (rest p 1 1)
   ·exact⟨_,true,.inr (.inr (.inl ⟨h,by omega,h2,rfl,rfl⟩)),h2.2⟩
   ·exact⟨[],false,.inr (.inr (.inr ⟨h,by omega,h2,rfl,rfl⟩)),by simp⟩
 ·exact⟨[],false,.inl ⟨h,rfl,rfl⟩,by simp⟩
theorem Ans.none{p:ByteArray}{l:List ByteArray}{ok:Bool}(h:Ans p l ok)(hb:¬zbf p):l=[]/\ok=false:=by
 rcases h with h|h|h|h
 ·exact h.2
 all_goals exact absurd h.1 hb
theorem Ans.root{p:ByteArray}{l:List ByteArray}{ok:Bool}(h:Ans p l ok)(hb:zbf p)(h1:p.size=1):l=[]/\ok=true:=by
 rcases h with h|h|h|h
 ·exact absurd hb h.1
 ·exact h.2.2
 ·omega
 ·omega
theorem Ans.bad{p:ByteArray}{l:List ByteArray}{ok:Bool}(h:Ans p l ok)(hb:zbf p)(h1:1<p.size)(hg:¬good (rest p 1 1)):l=[]/\ok=false:=by
 rcases h with h|h|h|h
 ·exact absurd hb h.1
 ·omega
 ·exact absurd h.2.2.1 hg
 ·exact h.2.2.2
theorem Ans.good{p:ByteArray}{l:List ByteArray}{ok:Bool}(h:Ans p l ok)(hb:zbf p)(h1:1<p.size)(hg:good (rest p 1 1)):l=rest p 1 1/\ok=true:=by
 rcases h with h|h|h|h
 ·exact absurd hb h.1
 ·omega
 ·exact h.2.2.2
 ·exact absurd hg h.2.2.1
theorem zb8{l a b:List ByteArray}{x:ByteArray}(h:l=a++x::b)(hx:zan x=false):¬good l:=fun hg=>by
 have:=hg.1 x (by rw[h];simp);rw[hx]at this;exact absurd this dC
theorem zcw{l:List ByteArray}(h:4<l.length):¬good l:=fun hg=>by have:=hg.2;omega
theorem zlx{p:ByteArray}(h:0<p.size){c:Nat}(hc:(p[0]).toNat=c)(h47:c=47):zbf p:=⟨h,by rw[hc,h47]⟩
theorem zkh{p:ByteArray}(h:0<p.size){c:Nat}(hc:(p[0]).toNat=c)(h47:c≠47):¬zbf p:=fun⟨_,e⟩=>h47 (by rw[←hc];exact e)
theorem zfd{p:ByteArray}(h:p.size=0):¬zbf p:=fun⟨e,_⟩=>by omega
theorem zly(p:ByteArray)(h:0<p.size)(hc:(p[0]).toNat=47):(p.toList==([47]:List UInt8))=decide (p.size=1):=by
 have hl:p.toList=p.data.toList:=ByteArray.toList_eq ..;have hz:p.data.toList.length=p.size:=rfl;by_cases h1:p.size=1
 ·have:p.toList=[47]:=by
   rw[hl]
   cases he:p.data.toList with
   | nil=>rw[he]at hz;simp at hz;omega
   | cons a r =>
    rw[he]at hz
    cases r with
    | nil =>
     have:p[0]=a:=by
      show p.data[0]=a;have e2:p.data.toList[0]?=some a:=by rw[he];rfl
      rw[Array.getElem?_toList]at e2;exact Option.some.inj ((Array.getElem?_eq_getElem (by exact h)).symm.trans e2)
     rw[this]at hc;have:a=47:=UInt8.toNat_inj.1 (by rw[hc];rfl);rw[this]
    | cons b r=>simp at hz;omega
  rw[this];simp[h1]
 ·rw[decide_eq_false h1];apply beq_eq_false_iff_ne.mpr;intro e;rw[hl]at e;rw[e]at hz;simp at hz;omega
theorem Ans.one{p:ByteArray}{l l2:List ByteArray}{r r2:Bool}(h:Ans p l r)(h2:Ans p l2 r2):l=l2/\r=r2:=by
 rcases h2 with h2|h2|h2|h2
 ·rw[h2.2.1,h2.2.2];exact h.none h2.1
 ·rw[h2.2.2.1,h2.2.2.2];exact h.root h2.1 h2.2.1
 ·rw[h2.2.2.2.1,h2.2.2.2.2];exact h.good h2.1 h2.2.1 h2.2.2.1
 ·rw[h2.2.2.2.1,h2.2.2.2.2];exact h.bad h2.1 h2.2.1 h2.2.2.1
theorem Ans.all{p:ByteArray}{l:List ByteArray}{r:Bool}(h:Ans p l r):(r=true->l.length<=4/\∀s∈l,zan s=true)/\(r=false->l=[]):=by
 rcases h with⟨_,rfl,rfl⟩| ⟨_,_,rfl,rfl⟩| ⟨_,_,g,rfl,rfl⟩| ⟨_,_,_,rfl,rfl⟩
 ·exact⟨fun e=>absurd e dC,fun _=>rfl⟩
 ·exact⟨fun _=>⟨by decide,fun s hs=>by simp at hs⟩,fun _=>rfl⟩
 ·exact⟨fun _=>⟨g.2,g.1⟩,fun e=>absurd e dC⟩
 ·exact⟨fun e=>absurd e dC,fun _=>rfl⟩
def stc(l:List ByteArray):List Value:=l.map fun z=>Value.string z
theorem zaf(l:List ByteArray):(stc l).length=l.length:=by simp[stc]
theorem za3(a b:List ByteArray):stc (a++b)=stc a++stc b:=by simp[stc]
end Kit
def SpE(B:Nat)(w:World)(e:Ending)(l:List ByteArray)(ok:Bool):Prop:=∃lv:Value,e=.returned (.tuple #[lv,.bool ok])/\ROwns w B 9 lv (stc l)
theorem SpE.eq{B:Nat}{w:World}{l l':List ByteArray}{ok ok':Bool}(h:l'=l/\ok'=ok){lv:Value}(ho:ROwns w B 9 lv (stc l)):SpE B w (.returned (.tuple #[lv,.bool ok])) l' ok':=by
 obtain⟨rfl,rfl⟩:=h;exact⟨lv,rfl,ho⟩
def SpR(p:ByteArray)(B:Nat)(w:World)(e:Ending):Prop:=∃(lv:Value)(l:List ByteArray)(r:Bool),e=.returned (.tuple #[lv,.bool r])/\ROwns w B 9 lv (stc l)/\(r=true->l.length<=4/\∀s∈l,zan s=true)/\(r=false->l=[])/\Ans p l r
def left(p:ByteArray)(b n:Nat):List ByteArray:=if n<=p.size then rest p b n else[]
theorem zjv{p:ByteArray}{b n:Nat}(h:n<p.size)(hc:(p[n]).toNat=47):left p b n=p.extract b n::left p (n+1) (n+1):=by
 unfold left;rw[if_pos oM,if_pos oM,zgx p b n h hc]
theorem zlz{p:ByteArray}{b n:Nat}(h:n<p.size)(hc:(p[n]).toNat≠47):left p b n=left p b (n+1):=by
 unfold left;rw[if_pos oM,if_pos oM,zhx p b n h hc]
theorem zjw{p:ByteArray}{b n:Nat}(h:n=p.size):left p b n=p.extract b n::left p (n+1) (n+1):=by
 unfold left;rw[if_pos oM,if_neg oM,zex p b n oM,h]
theorem zl0{p:ByteArray}{b n:Nat}(h:p.size<n):left p b n=[]:=if_neg oM
theorem Tryz.u44:Tryz.prog.underlying 44=some (.slice 9):=by kernel_rfl
theorem Tryz.i9:(Tryz.prog.info? 9).map (fun i=>(i.zero,i.size,i.bytes))=some (some (.string ⟨#[]⟩),1,16):=by kernel_rfl
theorem zgy(p:ByteArray)(w:World)(hp:p.size<=1048576)(al:List ByteArray)(ok:Bool)(ha:Ans p al ok):
  Calls Tryz.prog 200 #[.string p] w fun e w'=>SpE w.1.size w' e al ok/\Below w.1.size w w':=by
 have HANS:=hide ha;clear ha;have H0:Hid (ROwns (w.alloc (.cells #[] 9)) w.1.size 9 (.slice (some ⟨w.1.size,0,none⟩) 0 0) (stc [])/\Below w.1.size w (w.alloc (.cells #[] 9))):=⟨ROwns.lit0 w _ 9 nR,(Below.refl _ w).alloc nR _⟩
 by_cases h0:p.size=0
 ·have HN:=hide (HANS.o.none (zfd h0));have e0:p=⟨#[]⟩:=by
   cases p with| mk d=>cases d with| mk l=>cases l with| nil=>rfl|cons a b=>simp[ByteArray.size]at h0
  clear HANS;subst e0;go_enter Tryz.func200,Tryz.ntmps200
  go_wp2
  go_ret2
  exact⟨SpE.eq HN.o H0.o.1,H0.o.2⟩
 have h1:0<p.size:=by omega
 have hz:((p.size:Int)==0)=false:=beq_eq_false_iff_ne.mpr oM;obtain⟨c0,hc0⟩:∃c0:Nat,(p[0]'h1).toNat=c0:=⟨_,rfl⟩
 by_cases hc:c0=47
 rotate_left
 ·have HN:=hide (HANS.o.none (zkh h1 hc0 hc));have hcb:((c0:Int) != 47)=true:=by simp;omega
  go_enter Tryz.func200,Tryz.ntmps200
  go_wp2
  go_ret2
  exact⟨SpE.eq HN.o H0.o.1,H0.o.2⟩
 have HBG:=hide (zlx h1 hc0 hc);have hone:=zly p h1 (by rw[hc0,hc]);subst hc;by_cases hq:p.size=1
 ·have HN:=hide (HANS.o.root HBG.o hq);rw[decide_eq_true hq]at hone;go_enter Tryz.func200,Tryz.ntmps200
  go_wp2
  go_ret2
  exact⟨SpE.eq HN.o H0.o.1,H0.o.2⟩
 have hp1:1<p.size:=by omega
 rw[decide_eq_false hq]at hone;go_enter Tryz.func200,Tryz.ntmps200
 go_wp2_with fail
 clear hz hc0 hone;go_loopw [6,5,4] (fun i bg lv wr=>∃(n b:Nat)(l:List ByteArray),1<=b/\b<=n/\n<=p.size+1/\i=.int .i64 n/\bg=.int .i64 b/\Hid (ROwns wr w.1.size 9 lv (stc l)/\l.length<=n/\(∀s∈l,zan s=true)/\rest p 1 1=l++left p b n/\Below w.1.size w wr)) (fun i bg lv _=>p.size+2-(intOf i).toNat)
 case atStart=>exact⟨1,1,[],Nat.le_refl _,Nat.le_refl _,by omega,rfl,rfl,H0.o.1,Nat.zero_le _,fun s hs=>by simp at hs,by unfold left;rw[if_pos oM];rfl,H0.o.2⟩
 case round =>
  obtain⟨n,b,l,hb1,hbn,hnp,rfl,rfl,HR⟩:=hrel;have n0:(0:Int)<=(n:Int):=by omega
  have b0:(0:Int)<=(b:Int):=by omega
  by_cases hle:n<=p.size
  ·have n1:(n:Int)<=(p.size:Int):=by omega
   have bn1:(b:Int)<=(n:Int):=by omega
   have HX:Hid ((p.extract b n).size<=1048576):=by show _<=_;rw[ByteArray.size_extract];omega
   obtain⟨r,hr⟩:∃r,zan (p.extract b n)=r:=⟨_,rfl⟩
   have CN:Hid (∀W,Calls Tryz.prog 165 #[.string (p.extract b n)] W fun e w'=>e=.returned (.bool r)/\Below W.1.size W w'):=fun W=>by rw[←hr];exact zcd _ W HX.o
   have HNR:=hide hr;clear hr HX;have HTL:Hid ((stc l).length<=100000000000):=by have:=HR.o.2.1;show _<=_;rw[zaf];omega
   by_cases hlt:n<p.size
   ·obtain⟨c,hc⟩:∃c:Nat,(p[n]).toNat=c:=⟨_,rfl⟩
    have HC:=hide hc;have n2:(n:Int)<(p.size:Int):=by omega
    by_cases h47:c=47
    ·subst h47
     cases r with
     | false =>
      have HBAD:Hid (al=[]/\ok=false):=HANS.o.bad HBG.o hp1 (zb8 (HR.o.2.2.2.1.trans (by rw[zjv hlt HC.o])) HNR.o);go_wp2_with (go_at_call 165;refine(CN.out _).mono ?_;rintro e w2 ⟨rfl,B2⟩;have HB2:=hide (HR.o.2.2.2.2.trans (B2.mono HR.o.2.2.2.2.size));clear B2)
      go_ret2
      exact⟨SpE.eq HBAD.o (ROwns.lit0 _ _ 9 HB2.o.size),HB2.o.alloc HB2.o.size _⟩
     | true =>
      go_wp2_with (first| (go_at_call 165;refine(CN.out _).mono ?_;rintro e w2 ⟨rfl,B2⟩;have HB2:=hide (HR.o.2.2.2.2.trans (B2.mono HR.o.2.2.2.2.size));have HT:Hid (ROwns (w2.alloc (.cells #[.string (p.extract b n)] 9)) w.1.size 9 u4 (stc l)):=(HR.o.1.below B2 nR).alloc _;have HK2:Hid ((w2.alloc (.cells #[.string (p.extract b n)] 9)).cell? ⟨w2.1.size,0,none⟩=some (.string (p.extract b n))):=(AtC.new w2 9 #[.string (p.extract b n)]).cell 0;have HSZ:Hid (w.1.size<=(w2.alloc (.cells #[.string (p.extract b n)] 9)).1.size):=(HB2.o.alloc HB2.o.size _).size;clear B2)| (at_builtin;refine wpList_step fun K' hK'=>?_;refine zak _ rfl (.tmp 43) (.tmp 48) 44 rfl w.1.size 9 Tryz.u44 _ 16 Tryz.i9 rfl dC u4 _ rfl HT.o HSZ.o w2.1.size (.string (p.extract b n)) rfl HK2.o rfl HTL.o ?_;intro v12 w12 T12 G12 V12;refine hK' _ _ ?_;have HR12:=hide (And.intro T12 ((HB2.o.alloc HB2.o.size _).grown G12 HSZ.o (fun k hk=>(HT.o.lt k hk).1)));clear T12 G12 V12 hK'))
      have HREL:Hid (∃(n' b':Nat)(l':List ByteArray),1<=b'/\b'<=n'/\n'<=p.size+1/\Value.int .i64 ((n:Int)+1)=.int .i64 n'/\Value.int .i64 ((n:Int)+1)=.int .i64 b'/\Hid (ROwns w12 w.1.size 9 v12 (stc l')/\l'.length<=n'/\(∀s∈l',zan s=true)/\rest p 1 1=l'++left p b' n'/\Below w.1.size w w12)):=by
       refine⟨n+1,n+1,l++[p.extract b n],by omega,Nat.le_refl _,by omega,by go_num,by go_num,by rw[za3];exact HR12.o.1,by have:=HR.o.2.1;simp;omega,fun s hs=>?_,?_,HR12.o.2⟩
       ·exact cQ83
       ·rw[HR.o.2.2.2.1,zjv hlt HC.o,List.append_assoc];rfl
      go_roundw
      case rel=>first| exact HREL.o|((repeat apply Exists.intro);exact⟨HREL.o,rfl⟩)
      case measure=>simp[intOf];omega
    ·have hcb:((c:Int) != 47)=true:=by simp;omega
     have HS:Hid (left p b n=left p b (n+1)):=zlz hlt (by rw[HC.o];exact h47);go_wp2;go_roundw
     case rel=>exact⟨n+1,b,l,hb1,by omega,by omega,by go_num,rfl,HR.o.1,by have:=HR.o.2.1;omega,HR.o.2.2.1,by rw[←HS.o];exact HR.o.2.2.2.1,HR.o.2.2.2.2⟩
     case measure=>simp[intOf];omega
   ·have n2:¬((n:Int)<(p.size:Int)):=by omega
    have HEQ:Hid (n=p.size):=by show _=_;omega
    cases r with
    | false =>
     have HBAD:Hid (al=[]/\ok=false):=HANS.o.bad HBG.o hp1 (zb8 (HR.o.2.2.2.1.trans (by rw[zjw HEQ.o])) HNR.o);go_wp2_with (go_at_call 165;refine(CN.out _).mono ?_;rintro e w2 ⟨rfl,B2⟩;have HB2:=hide (HR.o.2.2.2.2.trans (B2.mono HR.o.2.2.2.2.size));clear B2)
     go_ret2
     exact⟨SpE.eq HBAD.o (ROwns.lit0 _ _ 9 HB2.o.size),HB2.o.alloc HB2.o.size _⟩
    | true =>
     go_wp2_with (first| (go_at_call 165;refine(CN.out _).mono ?_;rintro e w2 ⟨rfl,B2⟩;have HB2:=hide (HR.o.2.2.2.2.trans (B2.mono HR.o.2.2.2.2.size));have HT:Hid (ROwns (w2.alloc (.cells #[.string (p.extract b n)] 9)) w.1.size 9 u4 (stc l)):=(HR.o.1.below B2 nR).alloc _;have HK2:Hid ((w2.alloc (.cells #[.string (p.extract b n)] 9)).cell? ⟨w2.1.size,0,none⟩=some (.string (p.extract b n))):=(AtC.new w2 9 #[.string (p.extract b n)]).cell 0;have HSZ:Hid (w.1.size<=(w2.alloc (.cells #[.string (p.extract b n)] 9)).1.size):=(HB2.o.alloc HB2.o.size _).size;clear B2)| (at_builtin;refine wpList_step fun K' hK'=>?_;refine zak _ rfl (.tmp 43) (.tmp 48) 44 rfl w.1.size 9 Tryz.u44 _ 16 Tryz.i9 rfl dC u4 _ rfl HT.o HSZ.o w2.1.size (.string (p.extract b n)) rfl HK2.o rfl HTL.o ?_;intro v12 w12 T12 G12 V12;refine hK' _ _ ?_;have HR12:=hide (And.intro T12 ((HB2.o.alloc HB2.o.size _).grown G12 HSZ.o (fun k hk=>(HT.o.lt k hk).1)));clear T12 G12 V12 hK'))
     have HREL:Hid (∃(n' b':Nat)(l':List ByteArray),1<=b'/\b'<=n'/\n'<=p.size+1/\Value.int .i64 ((n:Int)+1)=.int .i64 n'/\Value.int .i64 ((n:Int)+1)=.int .i64 b'/\Hid (ROwns w12 w.1.size 9 v12 (stc l')/\l'.length<=n'/\(∀s∈l',zan s=true)/\rest p 1 1=l'++left p b' n'/\Below w.1.size w w12)):=by
      refine⟨n+1,n+1,l++[p.extract b n],by omega,Nat.le_refl _,by omega,by go_num,by go_num,by rw[za3];exact HR12.o.1,by have:=HR.o.2.1;simp;omega,fun s hs=>?_,?_,HR12.o.2⟩
      ·exact cQ83
      ·rw[HR.o.2.2.2.1,zjw HEQ.o,List.append_assoc];rfl
     go_roundw
     case rel=>first| exact HREL.o|((repeat apply Exists.intro);exact⟨HREL.o,rfl⟩)
     case measure=>simp[intOf];omega
  ·have n1:¬((n:Int)<=(p.size:Int)):=by omega
   have HALL:Hid (rest p 1 1=l):=by have:=HR.o.2.2.2.1;rw[zl0 oM,List.append_nil]at this;exact this
   obtain⟨la,lc,rfl,-⟩:=HR.o.1.form;obtain⟨ll,hll⟩:∃ll,(stc l).length=ll:=⟨_,rfl⟩
   have hl2:l.length=ll:=by rw[←hll,zaf]
   rw[hll]at HR;rw[hll];have HL2:=hide hl2;clear hll hl2;by_cases h4:4<ll
   ·have h4i:(4:Int)<(ll:Int):=by omega
    have HBAD:Hid (al=[]/\ok=false):=HANS.o.bad HBG.o hp1 (zcw (by rw[HALL.o,HL2.o];exact h4));have HE:Hid (ROwns (wr.alloc (.cells #[] 9)) w.1.size 9 (.slice (some ⟨wr.1.size,0,none⟩) 0 0) (stc [])/\Below w.1.size w (wr.alloc (.cells #[] 9))):=⟨ROwns.lit0 wr _ 9 HR.o.2.2.2.2.size,HR.o.2.2.2.2.alloc HR.o.2.2.2.2.size _⟩
    clear HR;go_wp2
    go_ret2
    exact⟨SpE.eq HBAD.o HE.o.1,HE.o.2⟩
   ·have h4i:¬((4:Int)<(ll:Int)):=by omega
    have HGD:Hid (al=l/\ok=true):=by
     have:=HANS.o.good HBG.o hp1 ⟨fun s hs=>HR.o.2.2.1 s (by rwa[HALL.o]at hs),by rw[HALL.o,HL2.o];omega⟩;rw[HALL.o]at this;exact this
    go_wp2
    go_ret2
    exact⟨SpE.eq HGD.o HR.o.1,HR.o.2.2.2.2⟩
theorem zdv(p:ByteArray)(w:World)(hp:p.size<=1048576):
  Calls Tryz.prog 200 #[.string p] w fun e w'=>SpR p w.1.size w' e/\Below w.1.size w w':=by
 obtain⟨al,ok,ha,-⟩:=ans_ex p;exact(zgy p w hp al ok ha).mono fun _ _ ⟨⟨lv,h1,h2⟩,h3⟩=>⟨⟨lv,al,ok,h1,h2,ha.all.1,ha.all.2,ha⟩,h3⟩
theorem zfe(w0 w:World)(c g:Nat)(a:Option Addr)(len cap:Nat)(xs:List Int)(hcode:zbe w0 a len)(hlen:len<=1048576)(hcur:Cur 103 w0 w c a len cap)(hg:AtC w g 3 (ic xs).toArray)(hne:c≠g)(hx0:0<xs.length)(hx1:xs.length<=256):
  Calls Tryz.prog 66 #[.pointer (some ⟨c,0,none⟩),.slice (some ⟨g,0,none⟩) xs.length xs.length] w fun e w'=>∃z:Int,z∈xs/\e=.returned (.int .i64 z)/\Drew w0 w w' c a len cap:=by
 have HC:=hide hcur;have HO:=hide hcode;have HG:=hide hg;clear hcur hcode hg;go_enter Tryz.func66,Tryz.ntmps66
 go_wp2_with fail
 refine(zao w0 w c a len cap xs.length HO.o hlen HC.o hx0 oM).mono ?_;rintro e w1 ⟨x,hx,rfl,hd⟩;have HD:=hide hd;obtain⟨z,hz⟩:∃z,xs[x]=z:=⟨_,rfl⟩
 have hmem:z∈xs:=by rw[←hz];exact List.getElem_mem _
 have hcell:w1.cell? ⟨g,x,none⟩=some (.int .i64 z):=(HG.o.grown hd.2 (by simpa using hne)).at_ x _ (by simp[ic,hx,hz]);have HM:=hide hmem;clear hd hz hmem;go_wp2;go_ret;exact⟨z,HM.o,rfl,HD.o⟩
theorem zff(w0 w:World)(c g:Nat)(a:Option Addr)(len cap:Nat)(xs:List ByteArray)(hcode:zbe w0 a len)(hlen:len<=1048576)(hcur:Cur 103 w0 w c a len cap)(hg:AtC w g 9 (stc xs).toArray)(hne:c≠g)(hx0:0<xs.length)(hx1:xs.length<=256):
  Calls Tryz.prog 128 #[.pointer (some ⟨c,0,none⟩),.slice (some ⟨g,0,none⟩) xs.length xs.length] w fun e w'=>∃z:ByteArray,z∈xs/\e=.returned (.string z)/\Drew w0 w w' c a len cap:=by
 have HC:=hide hcur;have HO:=hide hcode;have HG:=hide hg;clear hcur hcode hg;go_enter Tryz.func128,Tryz.ntmps128
 go_wp2_with fail
 refine(zao w0 w c a len cap xs.length HO.o hlen HC.o hx0 oM).mono ?_;rintro e w1 ⟨x,hx,rfl,hd⟩;have HD:=hide hd;obtain⟨z,hz⟩:∃z,xs[x]=z:=⟨_,rfl⟩
 have hmem:z∈xs:=by rw[←hz];exact List.getElem_mem _
 have hcell:w1.cell? ⟨g,x,none⟩=some (.string z):=(HG.o.grown hd.2 (by simpa using hne)).at_ x _ (by simp[stc,hx,hz]);have HM:=hide hmem;clear hd hz hmem;go_wp2;go_ret;exact⟨z,HM.o,rfl,HD.o⟩
def nmS:List ByteArray:=[⟨#[97]⟩,⟨#[98]⟩,⟨#[99]⟩,⟨#[100,100]⟩,⟨#[101,49]⟩]
theorem nmS_size:∀z∈nmS,z.size<=2:=by decide
theorem name_any(w0 w:World)(c:Nat)(a:Option Addr)(len cap:Nat)(hcode:zbe w0 a len)(hlen:len<=1048576)(hcur:Cur 103 w0 w c a len cap)(hc:c<w.1.size):
  Calls Tryz.prog 139 #[.pointer (some ⟨c,0,none⟩)] w fun e w'=>∃z:ByteArray,z.size<=2/\e=.returned (.string z)/\Drew w0 w w' c a len cap:=by
 obtain⟨W1,hW1⟩:∃W1,w.alloc (.cells #[.string ⟨#[97]⟩,.string ⟨#[98]⟩,.string ⟨#[99]⟩,.string ⟨#[100,100]⟩,.string ⟨#[101,49]⟩] 9)=W1:=⟨_,rfl⟩
 have HC:Hid (Cur 103 w0 W1 c a len cap/\AtC W1 w.1.size 9 (stc nmS).toArray/\w.grownBy W1 (some c)):=by
  exact cQ132
 have HO:=hide hcode;have hne:c≠w.1.size:=by omega
 clear hcur hcode;go_enter Tryz.func139,Tryz.ntmps139
 go_wp2_with fail
 refine(zff w0 W1 c w.1.size a len cap nmS HO.o hlen HC.o.1 HC.o.2.1 hne dC dC).mono ?_;rintro e w1 ⟨z,hz,rfl,hd⟩;have HD:Hid (z.size<=2/\Drew w0 w w1 c a len cap):=⟨nmS_size z hz,hd.1,zae HC.o.2.2 hd.2⟩
 clear hd hz hW1;go_wp2;go_ret;exact⟨z,HD.o.1,rfl,HD.o.2⟩
theorem za6(k:Int)(w:World):
  Calls Tryz.prog 119 #[.int .i64 k] w fun e w'=>∃v,e=.returned (.agg #[.int .i64 k,.int .i64 (zam k),v])/\ROwns w' w.1.size 3 v (ic [0,0])/\Below w.1.size w w':=by
 have mk:=make22;have own:∀o1 o2,ROwns (((w.alloc o1).alloc (.cells #[.int .i64 0,.int .i64 0] 3)).alloc o2) w.1.size 3 (.slice (some ⟨w.1.size+1,0,none⟩) 2 2) (ic [0,0]):=fun o1 o2=>by
  have:=(ROwns.lit (w.alloc o1) w.1.size 3 #[.int .i64 0,.int .i64 0] sI (by simp[maxLen])).alloc o2;simpa[ic]using this
 have bel:∀o1 o2 o3,Below w.1.size w (((w.alloc o1).alloc o2).alloc o3):=fun o1 o2 o3=>(((Below.refl _ w).alloc nR _).alloc sI _).alloc sO _;have HO:=hide own;have HB:=hide bel;clear own bel;by_cases h:k=0
 ·subst h;go_enter Tryz.func119,Tryz.ntmps119
  go_wp2;refine bodyPost_ret (v:=.agg #[.int .i64 0,.int .i64 0,.slice (some ⟨w.1.size+1,0,none⟩) 2 2]) sR0 rfl ⟨_,rfl,HO.o _ _,HB.o _ _ _⟩
 ·have h0:(k==0)=false:=by simpa using h
  have e1:zam k=1:=by simp[zam,h]
  rw[e1];clear e1;go_enter Tryz.func119,Tryz.ntmps119
  go_wp2;refine bodyPost_ret (v:=.agg #[.int .i64 k,.int .i64 1,.slice (some ⟨w.1.size+1,0,none⟩) 2 2]) sR0 rfl ⟨_,rfl,HO.o _ _,HB.o _ _ _⟩
namespace Kit
def plF(name:ByteArray):Nat->List Sl->Int
 | _,[]=>-1
 | k,s::r=>if s.1=name then(k:Int)else plF name (k+1) r
def zbs(xs:List Sl)(name:ByteArray):Int:=if name.size=0 then -1 else plF name 0 xs
theorem zej(xs:List Sl){name:ByteArray}(h:name.size=0):zbs xs name=-1:=if_pos h
theorem zek(xs:List Sl){name:ByteArray}(h:name.size≠0):zbs xs name=plF name 0 (xs.drop 0):=if_neg h
theorem pl_hit{R:Int}{xs:List Sl}{name:ByteArray}{j:Nat}(h:j<xs.length)(hp:R=plF name j (xs.drop j))(hq:xs[j].1=name):R=(j:Int):=by
 rw[hp,List.drop_eq_getElem_cons h,plF,if_pos hq]
theorem zl1{R:Int}{xs:List Sl}{name:ByteArray}{j:Nat}(h:j<xs.length)(hp:R=plF name j (xs.drop j))(hq:¬xs[j].1=name):R=plF name (j+1) (xs.drop (j+1)):=by
 rw[hp,List.drop_eq_getElem_cons h,plF,if_neg hq]
theorem pl_end{R:Int}{xs:List Sl}{name:ByteArray}{j:Nat}(h:xs.length<=j)(hp:R=plF name j (xs.drop j)):R=-1:=by
 rw[hp,List.drop_of_length_le h,plF]
theorem zey{a b:ByteArray}(h:a=b):(a.toList==b.toList)=true:=by rw[h];simp
theorem zbh{a b:ByteArray}(h:¬a=b):(a.toList==b.toList)=false:=by
 exact cQ102
theorem zl2{a b:Int}(h:a=b):Ending.returned (.int .i64 a)=.returned (.int .i64 b):=by rw[h]
end Kit
namespace Kit
def zcx(s:Sl):Bool:=decide ((s.1.size=0/\s.2=0)\/(zan s.1=true/\1<=s.2/\s.2<=8))
theorem zfg{t:ByteArray}{z:Int}(h:(t.size=0/\z=0)\/(zan t=true/\1<=z/\z<=8)):true=zcx (t,z):=(decide_eq_true h).symm
theorem zhz{t:ByteArray}{z:Int}(h:¬((t.size=0/\z=0)\/(zan t=true/\1<=z/\z<=8))):false=zcx (t,z):=(decide_eq_false h).symm
end Kit
namespace Kit
def okF:List Sl->List Sl->Bool
 | _,[]=>true
 | ahead,s::r=>zcx s&&decide (zbs ahead s.1<0)&&okF (ahead++[s]) r
def za4(xs:List Sl):Bool:=decide (xs.length=4)&&okF [] xs
def zaq(d:Bool)(xs:List Sl)(t:ByteArray):Bool:=if d then decide (t.size=0)&&za4 xs else decide (xs.length=0/\t.size<=16)
theorem ok_start{xs:List Sl}(h:xs.length=4):za4 xs=okF (xs.take 0) (xs.drop 0):=by simp[za4,h]
theorem zjx{xs:List Sl}(h:xs.length≠4):za4 xs=false:=by simp[za4,h]
theorem ok_next{R:Bool}{xs:List Sl}{j:Nat}(h:j<xs.length)(hp:R=okF (xs.take j) (xs.drop j))(h1:zcx xs[j]=true)(h2:zbs (xs.take j) xs[j].1<0):R=okF (xs.take (j+1)) (xs.drop (j+1)):=by
 rw[hp,List.drop_eq_getElem_cons h,okF,h1,decide_eq_true h2,List.take_succ_eq_append_getElem h];rfl
theorem ok_bad{R:Bool}{xs:List Sl}{j:Nat}(h:j<xs.length)(hp:R=okF (xs.take j) (xs.drop j))(h1:zcx xs[j]=false):R=false:=by
 rw[hp,List.drop_eq_getElem_cons h,okF,h1];rfl
theorem ok_twice{R:Bool}{xs:List Sl}{j:Nat}(h:j<xs.length)(hp:R=okF (xs.take j) (xs.drop j))(h2:¬zbs (xs.take j) xs[j].1<0):R=false:=by
 rw[hp,List.drop_eq_getElem_cons h,okF,decide_eq_false h2];simp
theorem ok_end{R:Bool}{xs:List Sl}{j:Nat}(h:xs.length<=j)(hp:R=okF (xs.take j) (xs.drop j)):R=true:=by
 rw[hp,List.drop_of_length_le h,okF]
theorem RSl.take{w:World}{a:Option Addr}{c:Nat}{xs:List Sl}(h:RSl w (.slice a xs.length c) xs)(j:Nat)(hj:j<=xs.length):RSl w (.slice a j c) (xs.take j):=by
 obtain⟨a',c',e,hcap,h⟩:=h;simp only[Value.slice.injEq]at e;obtain⟨rfl,-,rfl⟩:=e;have hl:(xs.take j).length=j:=by simp;omega
 refine⟨a,c,by rw[hl],by omega,fun i hi=>?_⟩;rw[hl]at hi;obtain⟨g,off,e,hg,k1,k2⟩:=h i oM;exact⟨g,off,e,hg,by simpa using k1,by simpa using k2⟩
end Kit
namespace Kit
theorem zb2(xs:List Sl)(t:ByteArray)(h:t.size=0):zaq true xs t=za4 xs:=by simp[zaq,h]
theorem zel(xs:List Sl)(t:ByteArray)(h:t.size≠0):zaq true xs t=false:=by simp[zaq,h]
theorem zb9(xs:List Sl)(t:ByteArray):zaq false xs t=decide (xs.length=0/\t.size<=16):=by simp[zaq]
theorem zl3{xs:List Sl}{i j:Nat}(h:i<(xs.take j).length):(xs.take j)[i]=xs[i]'(by simp at h;omega):=by simp
theorem pl_hit'{R:Int}{xs:List Sl}{name:ByteArray}{j k:Nat}(h:k<j)(hx:j<xs.length)(hp:R=plF name k ((xs.take j).drop k))(hq:(xs[k]'oM).1=name):R=(k:Int) :=
 pl_hit sO hp (by rw[zl3];exact hq)
theorem pl_next'{R:Int}{xs:List Sl}{name:ByteArray}{j k:Nat}(h:k<j)(hx:j<xs.length)(hp:R=plF name k ((xs.take j).drop k))(hq:¬(xs[k]'oM).1=name):R=plF name (k+1) ((xs.take j).drop (k+1)) :=
 zl1 sO hp (by rw[zl3];exact hq)
theorem pl_end'{R:Int}{xs:List Sl}{name:ByteArray}{j k:Nat}(h:j<=k)(hp:R=plF name k ((xs.take j).drop k)):R=-1 :=
 pl_end sO hp
end Kit
theorem zh0(d:Bool)(v:Value)(t:ByteArray)(xs:List Sl)(w:World)(hv:RSl w v xs)(h:d=false\/xs.length≠4\/t.size≠0):
  Calls Tryz.prog 135 #[.agg #[.bool d,v,.string t]] w fun e w'=>e=.returned (.bool (zaq d xs t))/\Below w.1.size w w':=by
 cases d with
 | false =>
  rw[zb9];obtain⟨a,c,rfl,-⟩:=hv;generalize xs.length=n at*;by_cases h:n=0
  ·subst h;go_enter Tryz.func135,Tryz.ntmps135
   go_wp2;go_ret;exact⟨zaw sO,by go_grown⟩
  ·have h1:((n:Int)==0)=false:=by simp;omega
   go_enter Tryz.func135,Tryz.ntmps135
   go_wp2;go_ret;exact⟨zaw sI,by go_grown⟩
 | true =>
  have e1:zaq true xs t=false:=by
   by_cases h2:t.size=0
   ·rw[zb2 xs t h2];exact zjx (by simpa[h2]using h)
   ·exact zel xs t h2
  rw[e1];obtain⟨a,c,rfl,-⟩:=hv;generalize xs.length=n at*;by_cases h4:n=4
  ·subst h4;have he:=za1 (s:=t) (by rcases h with h|h|h;cases h;exact absurd rfl h;omega);go_enter Tryz.func135,Tryz.ntmps135
   go_wp2;go_ret;exact⟨rfl,by go_grown⟩
  ·have h1:((n:Int) != 4)=true:=by simp;omega
   go_enter Tryz.func135,Tryz.ntmps135
   go_wp2;go_ret;exact⟨rfl,by go_grown⟩
theorem zi8(v:Value)(t0:ByteArray)(xs:List Sl)(w:World)(hv:RSl w v xs)(hl:xs.length=4)(ht0:t0.size=0)(hbig:∀(j:Nat)(h:j<xs.length),xs[j].1.size<=1048576):
  Calls Tryz.prog 135 #[.agg #[.bool true,v,.string t0]] w fun e w'=>e=.returned (.bool (za4 xs))/\Below w.1.size w w':=by
 have HV:=hide hv;have HG:=hide hbig;obtain⟨a,c,rfl,hcap,hc⟩:=hv;have HC:=hide hc;have HL:=hide hl;clear hc hbig;have HR:=hide (ok_start hl);obtain⟨R,hR⟩:∃R,za4 xs=R:=⟨_,rfl⟩
 rw[hR]at HR ⊢;rw[hl]at HV hcap ⊢;have he0:=zck ht0;clear hR hl ht0;go_enter Tryz.func135,Tryz.ntmps135
 go_wp2;go_loopw [3,4,5] (fun i _ _ wr=>∃j:Nat,j<=4/\i=.int .i64 j/\Hid (R=okF (xs.take j) (xs.drop j))/\Below w.1.size w wr/\AtC wr w.1.size 95 #[.bool true,.slice a 4 c,.string t0]) (fun i _ _ _=>4-(intOf i).toNat)
 case atStart=>exact⟨0,Nat.zero_le _,rfl,HR,(Below.refl _ w).alloc nR _,AtC.new w 95 _⟩
 case round =>
  obtain⟨j,hj,rfl,HP,hb,hat⟩:=hrel;obtain⟨b0,b1,b2,hbl⟩:=hat.three;by_cases hlt:j<4
  ·have hlx:j<xs.length:=by rw[HL.o];exact hlt
   obtain⟨g,off,rfl,hg,k1,k2⟩:=HC.o j hlx;have q1:=(hb.cell (p:=⟨g,off+j*2,none⟩) hg).trans k1;have q2:=(hb.cell (p:=⟨g,off+j*2+1,none⟩) hg).trans k2;have hsz:=hb.size;have j0:(0:Int)<=(j:Int):=by omega
   have j1:(j:Int)<4:=by omega
   have C1:=hide (fun W=>zcd xs[j].1 W (HG.o j hlx));have HBAD:=hide (ok_bad hlx HP.o);have HTW:=hide (ok_twice hlx HP.o);have HNX:=hide (ok_next hlx HP.o);obtain⟨t,ht⟩:∃t,xs[j].1=t:=⟨_,rfl⟩
   obtain⟨z,hz⟩:∃z,xs[j].2=z:=⟨_,rfl⟩
   have e1:xs[j]=(t,z):=by rw[←ht,←hz]
   rw[e1]at HBAD HNX HTW;rw[ht]at q1 C1;rw[hz]at q2;have HAT:=hide hat;have HB:=hide hb;clear k1 k2 ht hz e1 hb HP hlx hat;by_cases hA:t.size=0/\z=0
   ·obtain⟨hA,rfl⟩:=hA;have he:=zck hA;have HQ:=hide (HNX.o (zfg (.inl ⟨hA,rfl⟩)).symm (by rw[zej _ hA];decide));clear hA;go_wp2;go_roundw
    case rel=>exact⟨j+1,by omega,by go_num,HQ,HB.o.alloc hsz _,HAT.o.alloc _⟩
    case measure=>simp[intOf];omega
   ·have HA:=hide hA;obtain⟨n,hn⟩:∃n,zan t=n:=⟨_,rfl⟩
    rw[hn]at C1;have HN:=hide hn;have HE:Hid (∀(P:Prop) [Decidable P],True):=fun _=>trivial;have hAN:=HAT.o.alloc (.cells #[.string t,.int .i64 z] 90);have hBW:=HB.o.alloc hsz (.cells #[.string t,.int .i64 z] 90);have hSW:=AtC.new wr 90 #[.string t,.int .i64 z];have HAN:=hide hAN;have HBW:=hide hBW;have HSW:=hide hSW;clear hn hAN hBW hSW HE;by_cases hG:n=true/\1<=z/\z<=8
    ·obtain⟨rfl,z1,z8⟩:=hG;have hs1:1<=t.size:=(zap HN.o).1;have he:=za1 (s:=t) oM;have zz:(z==0)=false:=by simp;omega
     have hin:inB z 1 8=true:=by simp[inB,z1,z8]
     have HSO:=hide (zfg (t:=t) (z:=z) (.inr ⟨HN.o,z1,z8⟩)).symm;have HNX2:=hide (HNX.o HSO.o);have HPS:=hide (zek (xs.take j) (name:=t) oM);obtain⟨r2,hr2⟩:∃r,zbs (xs.take j) t=r:=⟨_,rfl⟩
     simp only[hr2]at HNX2 HTW HPS;clear hr2 hA HNX HBAD;go_wp2_with (first| (go_at_call 165;refine(C1.out _).mono ?_;rintro e w1 ⟨rfl,B1⟩;obtain⟨s0,s1,sl⟩:=(HSW.o.over B1).two;obtain⟨d0,d1,d2,dl⟩:=(HAN.o.over B1).three)| (go_at_call 50;refine(zai _ _ _ _).mono ?_;rintro e w1 ⟨rfl,rfl⟩))
     have hB1:Below w.1.size w w1:=HBW.o.trans (B1.mono sO);have HB1:=hide hB1;have hA1:=HAN.o.over B1;have HA1:=hide hA1;clear hB1 hA1 B1 b0 b1 b2;go_loopw [5] (fun i wz=>∃k:Nat,k<=j/\i=.int .i64 k/\Hid (r2=plF t k ((xs.take j).drop k))/\∃q,wz=w1.drewN q) (fun i _=>j-(intOf i).toNat)
     case atStart=>exact⟨0,Nat.zero_le _,rfl,HPS,0,rfl⟩
     case round =>
      obtain⟨k,hk,rfl,HK,q,rfl⟩:=hrel;by_cases hkj:k<j
      ·have hkx:k<xs.length:=by rw[HL.o];omega
       obtain⟨g',off',e',hg',m1,m2⟩:=HC.o k hkx;simp only[Option.some.injEq,Addr.mk.injEq]at e';obtain⟨rfl,rfl,-⟩:=e';have n1:=(HB1.o.cell (p:=⟨g,off+k*2,none⟩) hg).trans m1;have hjx:j<xs.length:=by rw[HL.o];exact hlt
       have HIT:=hide (pl_hit' hkj hjx HK.o);have NXT:=hide (pl_next' hkj hjx HK.o);obtain⟨t2,ht2⟩:∃t,xs[k].1=t:=⟨_,rfl⟩
       rw[ht2]at n1 HIT NXT;clear m1 m2 ht2 hjx hkx q1 q2;have k0:(0:Int)<=(k:Int):=by omega
       have k1:(k:Int)<4:=by omega
       by_cases hq:t2=t
       ·have c1:=zey hq;have HQ:=hide (HTW.o (by have:=HIT.o hq;omega));clear hq;go_wp2;go_quiet(fail)
        go_wp2;go_ret;exact⟨zaw HQ.o.symm,below_drewN (below_drewN HB1.o _) _⟩
       ·have c1:=zbh hq;have HQ:=hide (NXT.out hq);clear hq;go_wp2;go_quiet(fail)
        go_wp2;go_roundw
        case rel=>exact⟨k+1,by omega,by go_num,HQ,_,rfl⟩
        case measure=>simp[intOf];omega
      ·have HQ:=hide (HNX2.o (by have:=pl_end' oM HK.o;omega));clear q1 q2;go_wp2;go_roundw
       case rel=>exact⟨j+1,by omega,by go_num,HQ,below_drewN HB1.o _,HA1.o⟩
       case measure=>simp[intOf];omega
    ·have HQ:=hide (HBAD.o (zhz (t:=t) (z:=z) (by rintro(h|h);exact HA.o h;exact hG ⟨by rw[←HN.o];exact h.1,h.2⟩)).symm);have hE:(t.size=0/\(z==0)=false)\/0<t.size:=by
      by_cases h:t.size=0
      ·left;exact⟨h,by simp;intro hz;exact HA.o ⟨h,hz⟩⟩
      ·right;omega
     have hin:n=true->inB z 1 8=false:=fun h=>by simp[inB];intro h1;have:=hG;simp[h]at this;omega
     have HI:=hide hin;have HEE:=hide hE;clear hin hE hA hG HBAD HNX HTW
     cases n with
     | false =>
      rcases HEE.o with⟨h0,hz⟩| h0
      ·have he:=zck h0;clear h0;go_wp2_with (first| (go_at_call 165;refine(C1.out _).mono ?_;rintro e w1 ⟨rfl,B1⟩))
       go_ret;exact⟨zaw HQ.o.symm,HBW.o.trans (B1.mono sO)⟩
      ·have he:=za1 h0;clear h0;go_wp2_with (first| (go_at_call 165;refine(C1.out _).mono ?_;rintro e w1 ⟨rfl,B1⟩))
       go_ret;exact⟨zaw HQ.o.symm,HBW.o.trans (B1.mono sO)⟩
     | true =>
      have hin:=HI.o rfl;have hs1:1<=t.size:=(zap HN.o).1;have he:=za1 (s:=t) oM;go_wp2_with (first| (go_at_call 165;refine(C1.out _).mono ?_;rintro e w1 ⟨rfl,B1⟩;obtain⟨s0,s1,sl⟩:=(HSW.o.over B1).two)| (go_at_call 50;refine(zai _ _ _ _).mono ?_;rintro e w1 ⟨rfl,rfl⟩))
      go_ret;exact⟨zaw HQ.o.symm,HBW.o.trans (B1.mono sO)⟩
  ·have HH:=hide (ok_end (by rw[HL.o];omega) HP.o);have HB:=hide hb;clear hb hat;go_wp2;go_ret;exact⟨zaw HH.o.symm,HB.o⟩
theorem zb3(d:Bool)(v:Value)(t:ByteArray)(xs:List Sl)(w:World)(hv:RSl w v xs)(hbig:∀(j:Nat)(h:j<xs.length),xs[j].1.size<=1048576):
  Calls Tryz.prog 135 #[.agg #[.bool d,v,.string t]] w fun e w'=>e=.returned (.bool (zaq d xs t))/\Below w.1.size w w':=by
 by_cases h:d=false\/xs.length≠4\/t.size≠0
 ·exact zh0 d v t xs w hv h
 ·simp only[not_or,Bool.not_eq_false,Decidable.not_not,ne_eq]at h;obtain⟨rfl,h4,h0⟩:=h;rw[zb2 xs t h0];exact zi8 v t xs w hv h4 h0 hbig
namespace Kit
theorem all_no{α:Type}{f:α->Bool}{l:List α}{j:Nat}(h:j<l.length)(hf:f l[j]=false):l.all f=false:=by
 rw[List.all_eq_false];exact⟨l[j],List.getElem_mem h,by simp[hf]⟩
theorem zl4{α:Type}{f:α->Bool}{l:List α}(h:∀(j:Nat)(h:j<l.length),f l[j]=true):l.all f=true:=by
 rw[List.all_eq_true];intro x hx;obtain⟨j,hj,rfl⟩:=List.getElem_of_mem hx;exact h j hj
end Kit
def inoOk(x:Ino):Bool:=okL x.1 x.2.1 x.2.2
def zgc(l:List Ino):Bool:=l.all inoOk
def blkOk(b:Blk):Bool:=zaq b.1 b.2.1 b.2.2
def zgd(l:List Blk):Bool:=l.all blkOk
def za2(xs ys:List Bool)(is:List Ino)(bs:List Blk):Bool:=okB xs.length ys.length&&(zgc is&&decide (is.length=8))&&(zgd bs&&decide (bs.length=16))
namespace Kit
theorem zl5{nm:ByteArray}:∀(xs:List Sl)(k:Nat),plF nm k xs<0↔∀s∈xs,¬s.1=nm
 | [],k=>by simp[plF]
 | s::r,k=>by
  rw[plF];by_cases h:s.1=nm
  ·rw[if_pos h];exact⟨fun q=>absurd q oM,fun q=>absurd h (q s sI)⟩
  ·rw[if_neg h,zl5 r (k+1)];exact⟨fun q t ht=>(List.mem_cons.1 ht).elim (fun e=>e ▸ h) (q t),fun q t ht=>q t (List.mem_cons_of_mem _ ht)⟩
theorem zh1{nm:ByteArray}{xs:List Sl}:zbs xs nm<0↔(nm.size=0\/∀s∈xs,¬s.1=nm):=by
 unfold zbs;by_cases h:nm.size=0
 ·rw[if_pos h];exact⟨fun _=>.inl h,fun _=>by decide⟩
 ·rw[if_neg h,zl5];exact⟨.inr,fun q=>q.elim (fun e=>absurd e h) id⟩
theorem zl6:∀(r a:List Sl),okF a r=true↔∀(j:Nat)(hj:j<r.length),zcx r[j]=true/\zbs (a++r.take j) r[j].1<0
 | [],a=>by simp[okF]
 | x::r,a=>by
  rw[okF,Bool.and_eq_true,Bool.and_eq_true,zl6 r (a++[x])];constructor
  ·rintro⟨⟨h1,h2⟩,h3⟩ j hj
   cases j with
   | zero=>exact⟨h1,by simpa using h2⟩
   | succ j =>
    have:=h3 j (by simpa using hj);simpa[List.append_assoc]using this
  ·intro h;refine⟨⟨(h 0 sI).1,decide_eq_true (by have:=(h 0 sI).2;rw[List.take_zero,List.append_nil]at this;exact this)⟩,fun j hj=>?_⟩;have:=h (j+1) (by simpa using hj);simpa[List.append_assoc]using this
theorem zge(s:Sl):zcx s=true↔((s.1.size=0/\s.2=0)\/(zan s.1=true/\1<=s.2/\s.2<=8)):=by simp[zcx]
theorem zfh{ss:List Sl}:za4 ss=true↔(ss.length=4/\(∀s∈ss,zcx s=true)/\Unl ss):=by
 unfold za4;rw[Bool.and_eq_true,decide_eq_true_eq,zl6];constructor
 ·rintro⟨h4,h⟩;refine⟨h4,fun s hs=>?_,fun i j hi hj hn e=>?_⟩
  ·obtain⟨j,hj,rfl⟩:=List.getElem_of_mem hs;exact(h j hj).1
  ·have key:∀(i j:Nat)(hi:i<ss.length)(hj:j<ss.length),i<j->ss[i].1=ss[j].1->ss[i].1.size=0:=fun i j hi hj hl e=>by
    rcases zh1.1 (h j hj).2 with q|q
    ·rw[e];exact q
    ·refine absurd e (q ss[i] ?_);rw[List.nil_append];exact List.mem_take_iff_getElem.2 ⟨i,by omega,rfl⟩
   rcases Nat.lt_or_gt_of_ne hn with hl|hl
   ·exact key i j hi hj hl e
   ·rw[e];exact key j i hj hi hl e.symm
 ·rintro⟨h4,h1,h2⟩;refine⟨h4,fun j hj=>⟨h1 _ (List.getElem_mem hj),zh1.2 ?_⟩⟩;by_cases hz:ss[j].1.size=0
  ·exact .inl hz
  ·refine .inr fun s hs e=>hz ?_;rw[List.nil_append]at hs;obtain⟨i,hi,rfl⟩:=List.mem_take_iff_getElem.1 hs;have hij:i<j:=by omega
   have:=h2 i j oM hj oM e;rw[←e];exact this
theorem KOk.ok{x:Blk}(h:KOk x):blkOk x=true:=by
 obtain⟨d,ss,t⟩:=x;unfold blkOk zaq
 cases d with
 | false =>
  have e:ss=[]:=h.f rfl;have:=h.t;subst e;simpa using this
 | true =>
  have h1:t.size=0:=h.e rfl;have h2:ss.length=4:=h.n rfl;simp only[if_true,Bool.and_eq_true,decide_eq_true_eq];refine⟨h1,zfh.2 ⟨h2,fun s hs=>(zge s).2 ?_,h.u⟩⟩;rcases(h.s s hs).2 with q|q
  ·exact .inl q
  ·rcases h.q s hs with z|z
   ·omega
   ·exact .inr ⟨z,q⟩
theorem ok.KOk{x:Blk}(h:blkOk x=true):KOk x:=by
 obtain⟨d,ss,t⟩:=x;unfold blkOk zaq at h
 cases d with
 | false =>
  simp only[Bool.false_eq_true,if_false,decide_eq_true_eq]at h;have e:ss=[]:=List.length_eq_zero_iff.1 h.1;subst e;exact⟨⟨fun e=>(by cases e),by show(0:Nat)<=4;decide,fun s hs=>by simp at hs,h.2⟩,fun _=>rfl,fun e=>(by cases e),fun s hs=>by simp at hs,Unl.nil⟩
 | true =>
  simp only[if_true,Bool.and_eq_true,decide_eq_true_eq]at h;obtain⟨h4,h5,h6⟩:=zfh.1 h.2;have hz:t.size=0:=h.1;have hs2:∀s∈ss,(s.1.size=0/\s.2=0)\/(zan s.1=true/\1<=s.2/\s.2<=8):=fun s hs=>(zge s).1 (h5 s hs);exact⟨⟨fun _=>h4,Nat.le_of_eq h4,fun s hs=>⟨by
   rcases hs2 s hs with q|q
   ·omega
   ·exact(zap q.1).2,(hs2 s hs).imp id fun q=>q.2⟩,by show t.size<=16;omega⟩,fun e=>(by cases e),fun _=>hz,fun s hs=>(hs2 s hs).imp id fun q=>q.1,h6⟩
theorem IOk.ok{x:Ino}(h:IOk x):inoOk x=true:=by
 obtain⟨k,l,ps⟩:=x;have hn:ps.length=2:=h.n
 match ps,hn with
 | [p,q],_ =>
  show okR k l p q=true;have hp:=h.p p sI;have hq:=h.p q sI;have hl:=h.l;simp only at hl;rw[←zc6];rcases h.z with z|z|z
  ·right;have z:k=1:=z;omega
  ·right;have z:k=2:=z;omega
  ·left
   have z1:k=0:=z.1;have z2:l=0:=z.2.1;exact⟨z1,z2,z.2.2 p sI,z.2.2 q sI⟩
theorem ok.IOk{x:Ino}(h:inoOk x=true):IOk x:=by
 obtain⟨k,l,ps⟩:=x;unfold inoOk at h
 match ps,h with
 | [],h=>exact absurd h (by simp[okL])
 | [p],h=>exact absurd h (by simp[okL])
 | p::q::r::rest,h=>exact absurd h (by simp[okL])
 | [p,q],h =>
  have h2:okR k l p q=true:=h;simp only[okR,decide_eq_true_eq]at h2;refine⟨by show 0<=l/\l<=200;omega,rfl,fun z hz=>?_,?_⟩
  ·simp only[List.mem_cons,List.not_mem_nil,or_false]at hz;rcases hz with rfl|rfl
   ·omega
   ·omega
  ·show k=1\/k=2\/(k=0/\l=0/\∀z∈[p,q],z=0);rcases h2 with h2|h2
   ·refine .inr (.inr ⟨h2.1,h2.2.1,fun z hz=>?_⟩);simp only[List.mem_cons,List.not_mem_nil,or_false]at hz;rcases hz with rfl|rfl
    ·omega
    ·omega
   ·omega
theorem disk_ok{xs ys:List Bool}{is:List Ino}{bs:List Blk}(hx:xs.length=16)(hy:ys.length=8)(hi:is.length=8)(hii:∀q∈is,IOk q)(hb:bs.length=16)(hbb:∀q∈bs,KOk q):za2 xs ys is bs=true:=by
 unfold za2;have h1:zgc is=true:=List.all_eq_true.2 fun q hq=>(hii q hq).ok;have h2:zgd bs=true:=List.all_eq_true.2 fun q hq=>(hbb q hq).ok;simp[h1,h2,hi,hb,okB,hx,hy]
theorem Sh.disk{Z:ZT}{m:MD}(h:Sh Z m):za2 m.xs m.ys m.is m.bs=true:=disk_ok h.x h.y h.i h.ii h.b h.bb
end Kit
namespace Kit
theorem AtT.set_other{T:TypeId}{w:World}{b:Nat}{k l:Int}{v:Value}(h:AtT T w b k l v){B j:Nat}(hne:b≠B)(x:Value):AtT T (w.setCell ⟨B,j,none⟩ x) b k l v:=(heap_setCell_other w ⟨B,j,none⟩ b x hne).trans h
theorem AtT.set0{T:TypeId}{w:World}{b:Nat}{k l:Int}{v:Value}(h:AtT T w b k l v)(z:Int):AtT T (w.setCell ⟨b,0,none⟩ (.int .i64 z)) b z l v:=by
 have:=heap_setCell_same w b 0 _ T (.int .i64 z) h;exact this
theorem AtT.set1{T:TypeId}{w:World}{b:Nat}{k l:Int}{v:Value}(h:AtT T w b k l v)(z:Int):AtT T (w.setCell ⟨b,1,none⟩ (.int .i64 z)) b k z v:=by
 have:=heap_setCell_same w b 1 _ T (.int .i64 z) h;exact this
theorem AtT.set2{T:TypeId}{w:World}{b:Nat}{k l:Int}{v:Value}(h:AtT T w b k l v)(u:Value):AtT T (w.setCell ⟨b,2,none⟩ u) b k l u:=by
 have:=heap_setCell_same w b 2 _ T u h;exact this
theorem AtT.frozen{T:TypeId}{w:World}{b:Nat}{k l:Int}{v:Value}(h:AtT T w b k l v):w.frozen? ⟨b,0,none⟩=false/\w.frozen? ⟨b,1,none⟩=false/\w.frozen? ⟨b,2,none⟩=false:=by
 have h':w.1[b]?=some (.cells #[.int .i64 k,.int .i64 l,v] T (0,0)):=h;exact⟨by simp[World.frozen?,h'],by simp[World.frozen?,h'],by simp[World.frozen?,h']⟩
theorem AtT.drew{T:TypeId}{w:World}{b:Nat}{k l:Int}{v:Value}(h:AtT T w b k l v):AtT T w.drew b k l v:=h
end Kit
theorem Drew.refl{w0 w:World}{c len cap:Nat}{a:Option Addr}(h:Cur 103 w0 w c a len cap):Drew w0 w w c a len cap:=⟨h,zal bR _⟩
theorem Drew.drew{w0 w w':World}{c len cap:Nat}{a:Option Addr}(h:Drew w0 w w' c a len cap):Drew w0 w w'.drew c a len cap:=⟨⟨h.1.1,h.1.2.1.drew,h.1.2.2⟩,⟨h.2.os,h.2.tape,h.2.output,h.2.size,h.2.block⟩⟩
theorem Drew.below{w0 w w' w2:World}{c len cap:Nat}{a:Option Addr}(h:Drew w0 w w' c a len cap)(hc:c<w.1.size)(hb:Below w'.1.size w' w2):Drew w0 w w2 c a len cap:=by
 have h1:=h.1.2.1.size;have h2:=h.2.size;refine⟨⟨h.1.1,h.1.2.1.trans (hb.mono h1),?_⟩,zae h.2 (zal hb _)⟩;obtain⟨i,x,hk,hi⟩:=h.1.2.2;exact⟨i,x,by rw[hb.block c oM];exact hk,hi⟩
theorem Drew.setCell{w0 w w':World}{c len cap:Nat}{a:Option Addr}(h:Drew w0 w w' c a len cap)(hc:c<w.1.size){B j:Nat}(hB:w.1.size<=B)(x:Value):Drew w0 w (w'.setCell ⟨B,j,none⟩ x) c a len cap:=by
 have h1:=h.1.1;refine⟨⟨h.1.1,h.1.2.1.setCell (p:=⟨B,j,none⟩) (by show w0.1.size<=B;omega) _,?_⟩,⟨h.2.os,h.2.tape,h.2.output,by simpa using h.2.size,fun k hk hr=>(heap_setCell_other w' ⟨B,j,none⟩ k x (by show k≠B;omega)).trans (h.2.block k hk hr)⟩⟩;obtain⟨i,y,hk,hi⟩:=h.1.2.2;exact⟨i,y,(heap_setCell_other w' ⟨B,j,none⟩ c x (by show c≠B;omega)).trans hk,hi⟩
structure St(w0 w w':World)(c:Nat)(a:Option Addr)(len cap:Nat)(bx g cap2:Nat)(k l p q:Int):Prop where
 res:AtT 59 w' w.1.size 0 0 (.slice none 0 0)
 x:AtT 59 w' bx k l (.slice (some ⟨g,0,none⟩) 2 cap2)
 own:ROwns w' (w.1.size+1) 3 (.slice (some ⟨g,0,none⟩) 2 cap2) (ic [p,q])
 dr:Drew w0 w w' c a len cap
 hx:w.1.size<bx
 hne:bx≠g
 hc:c<w.1.size
namespace St
variable {w0 w w' : World} {c len cap bx g cap2 : Nat} {a : Option Addr} {k l p q : Int}
theorem hg(h:St w0 w w' c a len cap bx g cap2 k l p q):w.1.size<g/\g<w'.1.size:=h.own.lt g rfl
theorem drews(h:St w0 w w' c a len cap bx g cap2 k l p q){w2:World}(hd:Drew w0 w' w2 c a len cap):St w0 w w2 c a len cap bx g cap2 k l p q:=by
 have h1:=h.hc;have h2:=h.hx;have h3:=h.hg;exact⟨h.res.grown hd.2 (by intro e;cases e;omega),h.x.grown hd.2 (by intro e;cases e;omega),h.own.grown hd.2 (fun j hj e=>by cases e;have:=(h.own.lt _ hj).1;omega),h.dr.trans hd,h.hx,h.hne,h.hc⟩
theorem drew(h:St w0 w w' c a len cap bx g cap2 k l p q):St w0 w w'.drew c a len cap bx g cap2 k l p q:=⟨h.res.drew,h.x.drew,h.own.drew,h.dr.drew,h.hx,h.hne,h.hc⟩
theorem alloc(h:St w0 w w' c a len cap bx g cap2 k l p q)(o:Obj):St w0 w (w'.alloc o) c a len cap bx g cap2 k l p q:=⟨h.res.alloc o,h.x.alloc o,h.own.alloc o,h.dr.alloc h.hc o,h.hx,h.hne,h.hc⟩
theorem setLinks(h:St w0 w w' c a len cap bx g cap2 k l p q)(z:Int):St w0 w (w'.setCell ⟨bx,1,none⟩ (.int .i64 z)) c a len cap bx g cap2 k z p q :=
 ⟨h.res.set_other (by have:=h.hx;omega) _,h.x.set1 z,h.own.of_heap fun j hj=>heap_setCell_other _ ⟨bx,1,none⟩ j _ (by have e1:g=j:=(by simpa[Value.ownBlock]using hj);have e2:=h.hne;show j≠bx;omega),h.dr.setCell h.hc (by have:=h.hx;omega) _,h.hx,h.hne,h.hc⟩
theorem setP(h:St w0 w w' c a len cap bx g cap2 k l p q)(z:Int):St w0 w (w'.setCell ⟨g,0,none⟩ (.int .i64 z)) c a len cap bx g cap2 k l z q :=
 ⟨h.res.set_other (by have:=h.hg;omega) _,h.x.set_other h.hne _,(ROwns.stored (l:=ic [p,q]) h.own 0 (.int .i64 z)).1,h.dr.setCell h.hc (by have:=h.hg;omega) _,h.hx,h.hne,h.hc⟩
theorem setQ(h:St w0 w w' c a len cap bx g cap2 k l p q)(z:Int):St w0 w (w'.setCell ⟨g,1,none⟩ (.int .i64 z)) c a len cap bx g cap2 k l p z :=
 ⟨h.res.set_other (by have:=h.hg;omega) _,h.x.set_other h.hne _,(ROwns.stored (l:=ic [p,q]) h.own 1 (.int .i64 z)).1,h.dr.setCell h.hc (by have:=h.hg;omega) _,h.hx,h.hne,h.hc⟩
theorem cells(h:St w0 w w' c a len cap bx g cap2 k l p q):w'.cell? ⟨bx,0,none⟩=some (.int .i64 k)/\w'.cell? ⟨bx,1,none⟩=some (.int .i64 l)/\w'.cell? ⟨bx,2,none⟩=some (.slice (some ⟨g,0,none⟩) 2 cap2)/\w'.frozen? ⟨bx,0,none⟩=false/\w'.frozen? ⟨bx,1,none⟩=false/\w'.frozen? ⟨bx,2,none⟩=false/\bx<w'.1.size:=by
 obtain⟨a1,a2,a3⟩:=h.x.cells;obtain⟨b1,b2,b3⟩:=h.x.frozen;exact⟨a1,a2,a3,b1,b2,b3,h.x.lt⟩
theorem ptrs(h:St w0 w w' c a len cap bx g cap2 k l p q):w'.cell? ⟨g,0,none⟩=some (.int .i64 p)/\w'.cell? ⟨g,1,none⟩=some (.int .i64 q)/\w'.frozen? ⟨g,0,none⟩=false/\w'.frozen? ⟨g,1,none⟩=false:=by
 have h':w'.ownsRow (w.1.size+1) 3 1 (.slice (some ⟨g,0,none⟩) 2 cap2) 2 (ic [p,q]):=h.own;exact⟨h'.cellAt 0 dC,h'.cellAt 1 dC,h'.frozenAt 0,h'.frozenAt 1⟩
end St
namespace Xd
def noI:Ino:=(0,0,[0,0])
def newIs:List Ino:=(2,1,[0,0])::List.replicate 7 noI
def newBs:List Blk:=List.replicate 16 zB
def zD:Array Value:=#[.slice none 0 0,.slice none 0 0,.slice none 0 0,.slice none 0 0]
structure Dw(w w':World)(b:Nat)(u v:Value)(g:Nat)(bv:Value)(is:List Ino):Prop where
 res:AtC w' w.1.size 30 zD
 box:AtC w' b 30 #[u,v,.slice (some ⟨g,0,none⟩) 8 8,bv]
 dsk:DO w' (fun k=>w.1.size<k/\k≠b) u v (.slice (some ⟨g,0,none⟩) 8 8) bv newX newY is newBs
 bel:Below w.1.size w w'
 hb:w.1.size<b
theorem Dw.put{w w' w1:World}{b:Nat}{u v:Value}{g:Nat}{bv:Value}{is:List Ino}(h:Dw w w' b u v g bv is)(j:Nat)(hj:j<is.length)(k l:Int)(p:Value)(hb:Below w'.1.size w' w1)(hO:ROwns w1 w'.1.size 3 p (ic [0,0])):
  Dw w (((w1.setCell ⟨g,j*3,none⟩ (.int .i64 k)).setCell ⟨g,j*3+1,none⟩ (.int .i64 l)).setCell ⟨g,j*3+2,none⟩ p) b u v g bv (is.set j (k,l,[0,0])):=by
 obtain⟨-,-,hg,-,hS,hSb⟩:=h.dsk.atI rfl j hj;have hbs:=h.box.lt;have hsz:=h.bel.size;refine⟨(((h.res.over hb).other oM _).other oM _).other oM _,(((h.box.over hb).other (Ne.symm hSb) _).other (Ne.symm hSb) _).other (Ne.symm hSb) _,?_,(((h.bel.trans (hb.mono hsz)).setCell oG _).setCell oG _).setCell oG _,h.hb⟩;have:=h.dsk.putI rfl j hj (.int .i64 k,.int .i64 l,p) (k,l,[0,0]) hb ⟨rfl,rfl,hO.base_le (Nat.zero_le _)⟩ (fun k hk=>(hO.lt k hk).1);have hr:=h.res.lt;exact this.mono fun k hk=>hk.elim id (fun e=>⟨by omega,by omega⟩)
theorem Dw.below{w w' w1:World}{b:Nat}{u v:Value}{g:Nat}{bv:Value}{is:List Ino}(h:Dw w w' b u v g bv is)(hb:Below w'.1.size w' w1):Dw w w1 b u v g bv is :=
 ⟨h.res.over hb,h.box.over hb,h.dsk.below hb nR,h.bel.trans (hb.mono h.bel.size),h.hb⟩
theorem Dw.drew{w w':World}{b:Nat}{u v:Value}{g:Nat}{bv:Value}{is:List Ino}(h:Dw w w' b u v g bv is):Dw w w'.drew b u v g bv is:=h.below bR.drew
def PostD(MI MB:Array Value)(i lo hi:Nat)(w:World)(v:Value):Prop :=
 (i=0->∃u u',v=.agg #[u,u']/\Two w lo u u' newX newY/\∀k,(u.ownBlock=some k\/u'.ownBlock=some k)->k<hi) /\
 (i=1->v=.slice (some ⟨lo,0,none⟩) 8 8/\hi=lo+1/\AtC w lo 59 MI) /\
 (i=2->v=.slice (some ⟨lo,0,none⟩) 16 16/\hi=lo+1/\AtC w lo 95 MB) /\
 (i=4->v=.pointer (some ⟨lo,0,none⟩)/\hi=lo+1/\AtC w lo 30 #[.slice none 0 0,.slice none 0 0,.slice none 0 0,.slice none 0 0])
theorem PostD.stable(MI MB:Array Value)(i lo hi:Nat)(w w':World)(v:Value)(h:PostD MI MB i lo hi w v)(hb:Below w.1.size w w'):PostD MI MB i lo hi w' v :=
 ⟨fun e=>by obtain⟨u,u',h1,h2,h3⟩:=h.1 e;exact⟨u,u',h1,h2.below hb nR,h3⟩,fun e=>by obtain⟨h1,h2,h3⟩:=h.2.1 e;exact⟨h1,h2,h3.over hb⟩,
  fun e=>by obtain⟨h1,h2,h3⟩:=h.2.2.1 e;exact⟨h1,h2,h3.over hb⟩,fun e=>by obtain⟨h1,h2,h3⟩:=h.2.2.2 e;exact⟨h1,h2,h3.over hb⟩⟩
def InvD(s:List Nat)(x:Nat->Value):Prop:=3∈s->(0∈s/\1∈s/\2∈s)/\∃u u' g1 g2,x 0=.agg #[u,u']/\x 1=.slice (some ⟨g1,0,none⟩) 8 8/\x 2=.slice (some ⟨g2,0,none⟩) 16 16/\x 3=.agg #[u,u',.slice (some ⟨g1,0,none⟩) 8 8,.slice (some ⟨g2,0,none⟩) 16 16]
theorem InvD.next{s:List Nat}{x:Nat->Value}(h:InvD s x){j:Nat}{v:Value}(hj:¬j∈s)(h3:j≠3):InvD (j::s) (upd x j v):=fun hm=>by
 rcases List.mem_cons.1 hm with e|hm
 ·exact absurd e.symm h3
 ·obtain⟨⟨h0,h1,h2⟩,u,u',g1,g2,e0,e1,e2,e3⟩:=h hm;have ne:∀i∈s,i≠j:=fun i hi e=>hj (e ▸ hi);exact⟨⟨List.mem_cons_of_mem _ h0,List.mem_cons_of_mem _ h1,List.mem_cons_of_mem _ h2⟩,u,u',g1,g2,by rw[zav _ _ _ _ (ne _ h0),e0],by rw[zav _ _ _ _ (ne _ h1),e1],by rw[zav _ _ _ _ (ne _ h2),e2],by rw[zav _ _ _ _ (ne _ hm),e3]⟩
end Xd
namespace Xd
theorem specNew_anyB(w:World):
  Calls Tryz.prog 118 #[] w fun e w'=>∃u v,e=.returned (.agg #[u,v])/\Two w' w.1.size u v newX newY/\Below w.1.size w w':=by
 have mk:=make16;have mk2:=make8;go_enter Tryz.func118,Tryz.ntmps118
 go_wp2
 go_region
 all_goals go_wp2
 ·exact bodyPost_ret (v:=.agg #[.slice (some ⟨w.1.size+1,0,none⟩) 16 16,.slice (some ⟨w.1.size+1+1,0,none⟩) 8 8]) sR0 rfl ⟨_,_,rfl,zd5 _ _ _ _ (heap4 _ _ _ _ _).1 (heap4 _ _ _ _ _).2.1 oM oM oM,by go_grown⟩
 ·exact bodyPost_ret (v:=.agg #[.slice (some ⟨w.1.size+1,0,none⟩) 16 16,.slice (some ⟨w.1.size+1+1+1,0,none⟩) 8 8]) sR0 rfl ⟨_,_,rfl,zd5 _ _ _ _ (heap4 _ _ _ _ _).1 (heap4 _ _ _ _ _).2.2 oM oM oM,by go_grown⟩
 ·exact bodyPost_ret (v:=.agg #[.slice (some ⟨w.1.size+1+1,0,none⟩) 16 16,.slice (some ⟨w.1.size+1,0,none⟩) 8 8]) sR0 rfl ⟨_,_,rfl,zd5 _ _ _ _ (heap4 _ _ _ _ _).2.1 (heap4 _ _ _ _ _).1 oM oM oM,by go_grown⟩
 ·exact bodyPost_ret (v:=.agg #[.slice (some ⟨w.1.size+1+1+1,0,none⟩) 16 16,.slice (some ⟨w.1.size+1,0,none⟩) 8 8]) sR0 rfl ⟨_,_,rfl,zd5 _ _ _ _ (heap4 _ _ _ _ _).2.2 (heap4 _ _ _ _ _).1 oM oM oM,by go_grown⟩
 ·exact bodyPost_ret (v:=.agg #[.slice (some ⟨w.1.size+1+1,0,none⟩) 16 16,.slice (some ⟨w.1.size+1+1+1,0,none⟩) 8 8]) sR0 rfl ⟨_,_,rfl,zd5 _ _ _ _ (heap4 _ _ _ _ _).2.1 (heap4 _ _ _ _ _).2.2 oM oM oM,by go_grown⟩
 ·exact bodyPost_ret (v:=.agg #[.slice (some ⟨w.1.size+1+1+1,0,none⟩) 16 16,.slice (some ⟨w.1.size+1+1,0,none⟩) 8 8]) sR0 rfl ⟨_,_,rfl,zd5 _ _ _ _ (heap4 _ _ _ _ _).2.2 (heap4 _ _ _ _ _).2.1 oM oM oM,by go_grown⟩
structure Ds(w w':World)(b:Nat)(u v iv bv:Value)(is:List Ino)(bs:List Blk):Prop where
 res:AtC w' w.1.size 30 zD
 box:AtC w' b 30 #[u,v,iv,bv]
 dsk:DO w' (fun k=>w.1.size<k/\k≠b) u v iv bv newX newY is bs
 bel:Below w.1.size w w'
 hb:w.1.size<b
namespace Ds
variable {w w' w1 : World} {b : Nat} {u v iv bv : Value} {is : List Ino} {bs : List Blk}
theorem below(h:Ds w w' b u v iv bv is bs)(hb:Below w'.1.size w' w1):Ds w w1 b u v iv bv is bs :=
 ⟨h.res.over hb,h.box.over hb,h.dsk.below hb nR,h.bel.trans (hb.mono h.bel.size),h.hb⟩
theorem drew(h:Ds w w' b u v iv bv is bs):Ds w w'.drew b u v iv bv is bs:=h.below bR.drew
theorem put(h:Ds w w' b u v iv bv is bs){g n cap:Nat}(hv:iv=.slice (some ⟨g,0,none⟩) n cap)(j:Nat)(hj:j<is.length)(k l:Int)(p:Value)(hb:Below w'.1.size w' w1)(hO:ROwns w1 w'.1.size 3 p (ic [0,0])):
  Ds w (((w1.setCell ⟨g,j*3,none⟩ (.int .i64 k)).setCell ⟨g,j*3+1,none⟩ (.int .i64 l)).setCell ⟨g,j*3+2,none⟩ p) b u v iv bv (is.set j (k,l,[0,0])) bs:=by
 obtain⟨-,-,hg,-,hS,hSb⟩:=h.dsk.atI hv j hj;have hbs:=h.box.lt;have hsz:=h.bel.size;refine⟨(((h.res.over hb).other oM _).other oM _).other oM _,(((h.box.over hb).other (Ne.symm hSb) _).other (Ne.symm hSb) _).other (Ne.symm hSb) _,?_,(((h.bel.trans (hb.mono hsz)).setCell oG _).setCell oG _).setCell oG _,h.hb⟩;have:=h.dsk.putI hv j hj (.int .i64 k,.int .i64 l,p) (k,l,[0,0]) hb ⟨rfl,rfl,hO.base_le (Nat.zero_le _)⟩ (fun k hk=>(hO.lt k hk).1);have hr:=h.res.lt;exact this.mono fun k hk=>hk.elim id (fun e=>⟨by omega,by omega⟩)
theorem app(h:Ds w w' b u v iv bv is bs):∃ti,TOwns w' 59 iv ti/\ti.length=is.length/\∀(w1 w2:World)(iv' p:Value),Below w'.1.size w' w1->ROwns w1 w'.1.size 3 p (ic [0,0]) ->
  TOwns w2 59 iv' (ti++[(.int .i64 0,.int .i64 0,p)])->w1.grownBy w2 iv.ownBlock->(∀k,iv'.ownBlock=some k->iv.ownBlock=some k\/w1.1.size<=k) ->
  (AtC w2 b 30 #[u,v,iv,bv])/\Ds w (w2.setCell ⟨b,2,none⟩ iv') b u v iv' bv (is++[noI]) bs:=by
 obtain⟨ti,h1,h2,h3⟩:=h.dsk.appI;refine⟨ti,h1,h2,fun w1 w2 iv' p hb hO hr hg hv=>?_⟩;have hS:=(fun(S1:Nat->Prop) k (hk:iv.ownBlock=some k) (q:∀k,iv.ownBlock=some k->S1 k)=>q k hk) (fun k=>w.1.size<k/\k≠b)
 have hso:∀k,iv.ownBlock=some k->w.1.size<k/\k≠b:=by
  obtain⟨S1,S2,S3,ti,tb,a1,a2,a3,a4,a5,a6,a7⟩:=h.dsk;exact fun k hk=>a7 k (.inr (.inl (a3.so k hk)))
 have hbs:=h.box.lt;have hsz:=h.bel.size;have hsz1:=hb.size;have hr0:=h.res.lt;have e1:AtC w2 w.1.size 30 zD:=(hg.block _ oM (fun e=>by have:=hso _ e.symm;omega)).trans (h.res.over hb);have e2:AtC w2 b 30 #[u,v,iv,bv]:=(hg.block _ oM (fun e=>by have:=hso _ e.symm;omega)).trans (h.box.over hb);have d:=h3 w1 w2 iv' (.int .i64 0,.int .i64 0,p) noI hb ⟨rfl,rfl,hO.base_le (Nat.zero_le _)⟩ (fun k hk=>(hO.lt k hk).1) hr hg hv;have b2:Below w.1.size w w2:=(h.bel.trans (hb.mono hsz)).grown hg oM (fun k hk=>by have:=hso k hk;omega);refine⟨e2,⟨e1.other (by have:=h.hb;omega) _,e2.set 2 iv',?_,b2.setCell (by show w.1.size<=b;have:=h.hb;omega) _,h.hb⟩⟩;have d2:=d.mono (S':=fun k=>w.1.size<k/\k≠b) fun k hk=>hk.elim id (fun e=>⟨by omega,by omega⟩);exact d2.of_heap fun k hk _=>heap_setCell_other w2 ⟨b,2,none⟩ k iv' (by show k≠b;omega)
theorem mkB(h:Ds w w' b u v iv bv is bs)(MB:Array Value)(hMB:madeCells #[.bool false,.slice none 0 0,.string ⟨#[]⟩] (16*3)=MB):
  Ds w ((w'.alloc (.cells MB 95)).setCell ⟨b,3,none⟩ (.slice (some ⟨w'.1.size,0,none⟩) 16 16)) b u v iv (.slice (some ⟨w'.1.size,0,none⟩) 16 16) is newBs:=by
 have GB:GO KB (w'.alloc (.cells MB 95)) (fun k=>k=w'.1.size) (.slice (some ⟨w'.1.size,0,none⟩) 16 16) (List.replicate 16 zB3) (List.replicate 16 zB):=GO.of_at (AtC.new w' 95 MB) (by rw[←hMB];exact zf1 _ _ _ _) (by unfold maxLen;decide) (zB_own _) rfl;have hb1:Below w'.1.size w' (w'.alloc (.cells MB 95)):=(Below.refl _ w').alloc nR _;have d:=h.dsk.setB hb1 GB (fun k hk=>by omega);have hbs:=h.box.lt;have hsz:=h.bel.size;have hr0:=h.res.lt;refine⟨(h.res.alloc _).other (by have:=h.hb;omega) _,(h.box.alloc _).set 3 _,?_,(h.bel.alloc hsz _).setCell (by show w.1.size<=b;have:=h.hb;omega) _,h.hb⟩;have d2:=d.mono (S':=fun k=>w.1.size<k/\k≠b) fun k hk=>hk.elim id (fun e=>⟨by omega,by omega⟩);exact d2.of_heap fun k hk _=>heap_setCell_other _ ⟨b,3,none⟩ k _ (by show k≠b;omega)
end Ds
theorem ds_start{w w1:World}{u v:Value}(B1:Below (w.alloc (.cells zD 30)).1.size (w.alloc (.cells zD 30)) w1)(T1:Two w1 (w.alloc (.cells zD 30)).1.size u v newX newY):
  Ds w (w1.alloc (.cells #[u,v,.slice none 0 0,.slice none 0 0] 30)) w1.1.size u v (.slice none 0 0) (.slice none 0 0) [] []:=by
 have hsz:=B1.size;simp only[World.size_alloc]at hsz;have own1:∀k,(u.ownBlock=some k\/v.ownBlock=some k)->w.1.size<k/\k<w1.1.size:=fun k hk=>by
  have:=hk.elim (fun e=>T1.a.lt k e) (fun e=>T1.b.lt k e);simp only[World.size_alloc]at this;omega
 refine⟨((AtC.new w 30 zD).over B1).alloc _,AtC.new w1 30 _,⟨fun k=>u.ownBlock=some k\/v.ownBlock=some k,fun _=>False,fun _=>False,[],[],(T1.alloc _).base_le (Nat.zero_le _),fun k hk=>hk,?_,?_,fun k hk=>⟨id,id⟩,fun k hk=>hk.elim,fun k hk=>?_⟩,?_,by omega⟩
 ·exact cQ37
 ·exact cQ37
 ·rcases hk with hk|hk|hk
  ·have:=own1 k hk;omega
  ·exact hk.elim
  ·exact hk.elim
 ·exact(((Below.refl _ w).alloc nR _).trans (B1.mono sI)).alloc oM _
def PostA(b:Nat)(gi:Option Addr)(n ci:Nat)(i lo hi:Nat)(w:World)(v:Value):Prop :=
 (i=0->v=.pointer (some ⟨b,2,none⟩))/\(i=1->v=.slice gi n ci) /\
 (i=2->∃p,v=.agg #[.int .i64 0,.int .i64 (zam 0),p]/\ROwns w lo 3 p (ic [0,0])/\∀k,p.ownBlock=some k->k<hi) /\
 (i=3->v=.slice (some ⟨lo,0,none⟩) 1 1/\hi=lo+1)
theorem PostA.stable{b:Nat}{gi:Option Addr}{n ci:Nat}(i lo hi:Nat)(w w':World)(v:Value)(h:PostA b gi n ci i lo hi w v)(hb:Below w.1.size w w'):PostA b gi n ci i lo hi w' v :=
 ⟨h.1,h.2.1,fun e=>by obtain⟨p,h1,h2,h3⟩:=h.2.2.1 e;exact⟨p,h1,h2.below hb nR,h3⟩,h.2.2.2⟩
def InvA(s:List Nat)(x:Nat->Value)(w:World):Prop:=3∈s->2∈s/\∃p g,x 2=.agg #[.int .i64 0,.int .i64 (zam 0),p]/\x 3=.slice (some ⟨g,0,none⟩) 1 1/\AtC w g 59 #[.int .i64 0,.int .i64 (zam 0),p]
theorem InvA.next{s:List Nat}{x:Nat->Value}{w w':World}(h:InvA s x w){j:Nat}{v:Value}(hj:¬j∈s)(h3:j≠3)(hb:Below w.1.size w w'):InvA (j::s) (upd x j v) w':=fun hm=>by
 rcases List.mem_cons.1 hm with e|hm
 ·exact absurd e.symm h3
 ·obtain⟨h2,p,g,e2,e3,A⟩:=h hm;have ne:∀i∈s,i≠j:=fun i hi e=>hj (e ▸ hi);exact⟨List.mem_cons_of_mem _ h2,p,g,by rw[zav _ _ _ _ (ne _ h2),e2],by rw[zav _ _ _ _ (ne _ hm),e3],A.over hb⟩
theorem specNew_disk(w:World):
  Calls Tryz.prog 110 #[] w fun e w'=>∃u v iv bv,e=.returned (.agg #[u,v,iv,bv])/\DO w' (fun k=>w.1.size<=k) u v iv bv newX newY newIs newBs/\Below w.1.size w w':=by
 have mb:∀w,(Instr.makeSlice 28 (.int .i64 16) (.int .i64 16)).run Tryz.prog w=.ok (.slice (some ⟨w.1.size,0,none⟩) 16 16) (w.alloc (.cells (madeCells #[.bool false,.slice none 0 0,.string ⟨#[]⟩] (16*3)) 95)):=zjm 16 dC;obtain⟨MB,hMB⟩:∃M,madeCells #[.bool false,.slice none 0 0,.string ⟨#[]⟩] (16*3)=M:=⟨_,rfl⟩
 rw[hMB]at mb;have HMB:=hide hMB;clear hMB;go_enter Tryz.func110,Tryz.ntmps110
 go_wp2_with fail
 refine(specNew_anyB _).mono ?_;rintro e w1 ⟨u,v,rfl,T1,B1⟩;obtain⟨a1,c1,a2,c2,rfl,rfl⟩:=T1.form;have HD:=hide (ds_start B1 T1);clear T1 B1;go_wp2_with fail
 generalize w1.1.size=b at*;generalize w1.alloc (.cells #[.slice a1 newX.length c1,.slice a2 newY.length c2,.slice none 0 0,.slice none 0 0] 30)=W1 at*;go_loopw [2] (fun i wr=>∃j:Nat,j<=8/\i=.int .i64 j/\Hid (∃iv,Ds w wr b (.slice a1 newX.length c1) (.slice a2 newY.length c2) iv (.slice none 0 0) (List.replicate j noI) [])) (fun i _=>8-(intOf i).toNat)
 case atStart=>exact⟨0,Nat.zero_le _,rfl,_,HD.o⟩
 case round =>
  obtain⟨j,hj,rfl,HR⟩:=hrel;obtain⟨iv,hds⟩:=HR.o;by_cases hlt:j<8
  ·have j1:(j:Int)<8:=by omega
   obtain⟨ti,k1,k2,k3⟩:=hds.drew.app;obtain⟨gi,ci,rfl,-⟩:=k1.form;have hti:ti.length=j:=by rw[k2];simp
   have q2:=hds.box.c2;have HX:=hide (And.intro k1 (And.intro k3 hti));have HDS:=hide hds;clear k1 k2 k3 hds HR;have hb:=HDS.o.box.lt;clear hti;go_wp2_with fail
   refine zcp kL [0,1,2,3] [4,5,6] (fun x=>⟨#[.pointer (some ⟨w.1.size,0,none⟩),.pointer (some ⟨b,0,none⟩),.int .i64 (j:Int),.agg #[.slice a1 newX.length c1,.slice a2 newY.length c2],.agg #[.slice a1 newX.length c1,.slice a2 newY.length c2,.slice none 0 0,.slice none 0 0],.int .i64 (j:Int),.bool true,u7,u8,x 0,x 1,x 2,x 3,u13,u14,undef,undef,undef,undef,undef,undef,undef],[]⟩) (fun i=>match i with|0=>u9|1=>u10|2=>u11|_=>u12) rfl (PostA b gi ti.length ci) InvA PostA.stable kL kL rfl (fun h=>by cases h) ?_ ?_
   ·intro j' hj' s x iv W hr hns hp hI K hK;simp only[List.mem_cons,List.not_mem_nil,or_false]at hj';rcases hj' with rfl|rfl|rfl|rfl
    ·refine wpOp_step (o:=_) rfl fun K' hK'=>?_;have HK:Hid (∀v W',Below W.1.size W W'->PostA b gi ti.length ci 0 W.1.size W'.1.size W' v->K' ⟨#[.pointer (some ⟨w.1.size,0,none⟩),.pointer (some ⟨b,0,none⟩),.int .i64 (j:Int),.agg #[.slice a1 newX.length c1,.slice a2 newY.length c2],.agg #[.slice a1 newX.length c1,.slice a2 newY.length c2,.slice none 0 0,.slice none 0 0],.int .i64 (j:Int),.bool true,u7,u8,v,x 1,x 2,x 3,u13,u14,undef,undef,undef,undef,undef,undef,undef],[]⟩ W'):=fun v W' h1 h2=>hK' _ _ (hK v W' h1 h2 (hI.next hns dC h1));clear hK hK' hr hp hI;go_simp;exact HK.o _ _ bR ⟨fun _=>rfl,(fun e=>by cases e),(fun e=>by cases e),(fun e=>by cases e)⟩
    ·have d0:0∈s:=zb0 hr rfl ⟨{ on:=0,ground:=.data },by simp,rfl,rfl⟩;refine wpOp_step (o:=_) rfl fun K' hK'=>?_;have HK:Hid (∀v W',Below W.1.size W W'->PostA b gi ti.length ci 1 W.1.size W'.1.size W' v->K' ⟨#[.pointer (some ⟨w.1.size,0,none⟩),.pointer (some ⟨b,0,none⟩),.int .i64 (j:Int),.agg #[.slice a1 newX.length c1,.slice a2 newY.length c2],.agg #[.slice a1 newX.length c1,.slice a2 newY.length c2,.slice none 0 0,.slice none 0 0],.int .i64 (j:Int),.bool true,u7,u8,x 0,v,x 2,x 3,u13,u14,undef,undef,undef,undef,undef,undef,undef],[]⟩ W'):=fun v W' h1 h2=>hK' _ _ (hK v W' h1 h2 (hI.next hns dC h1));obtain e0:=(hp.post 0 d0).1 rfl;have y2:=(HDS.o.drew.below hp.bel).box.c2;clear hK hK' hr hp hI;simp only[e0];simp only[e0]at HK;go_simp;exact HK.o _ _ bR ⟨(fun e=>by cases e),fun _=>rfl,(fun e=>by cases e),(fun e=>by cases e)⟩
    ·refine wpOp_step (o:=_) rfl fun K' hK'=>?_;have HK:Hid (∀v W',Below W.1.size W W'->PostA b gi ti.length ci 2 W.1.size W'.1.size W' v->K' ⟨#[.pointer (some ⟨w.1.size,0,none⟩),.pointer (some ⟨b,0,none⟩),.int .i64 (j:Int),.agg #[.slice a1 newX.length c1,.slice a2 newY.length c2],.agg #[.slice a1 newX.length c1,.slice a2 newY.length c2,.slice none 0 0,.slice none 0 0],.int .i64 (j:Int),.bool true,u7,u8,x 0,x 1,v,x 3,u13,u14,undef,undef,undef,undef,undef,undef,undef],[]⟩ W'):=fun v W' h1 h2=>hK' _ _ (hK v W' h1 h2 (hI.next hns dC h1));clear hK hK' hr hp hI;go_simp;refine(za6 _ _).mono ?_;rintro e w6 ⟨p,rfl,O6,B6⟩;go_simp;exact HK.o _ _ B6 ⟨(fun e=>by cases e),(fun e=>by cases e),fun _=>⟨p,rfl,O6,fun k hk=>(O6.lt k hk).2⟩,(fun e=>by cases e)⟩
    ·have d2:2∈s:=zb0 hr rfl ⟨{ on:=2,ground:=.data },by simp,rfl,rfl⟩;refine wpOp_step (o:=_) rfl fun K' hK'=>?_;have HK:Hid (∀v W',Below W.1.size W W'->PostA b gi ti.length ci 3 W.1.size W'.1.size W' v->(2∈3::s/\∃p g,upd x 3 v 2=.agg #[.int .i64 0,.int .i64 (zam 0),p]/\upd x 3 v 3=.slice (some ⟨g,0,none⟩) 1 1/\AtC W' g 59 #[.int .i64 0,.int .i64 (zam 0),p])->K' ⟨#[.pointer (some ⟨w.1.size,0,none⟩),.pointer (some ⟨b,0,none⟩),.int .i64 (j:Int),.agg #[.slice a1 newX.length c1,.slice a2 newY.length c2],.agg #[.slice a1 newX.length c1,.slice a2 newY.length c2,.slice none 0 0,.slice none 0 0],.int .i64 (j:Int),.bool true,u7,u8,x 0,x 1,x 2,v,u13,u14,undef,undef,undef,undef,undef,undef,undef],[]⟩ W'):=fun v W' h1 h2 h3=>hK' _ _ (hK v W' h1 h2 (fun _=>h3));obtain⟨p,e2,O2,-⟩:=(hp.post 2 d2).2.2.1 rfl;obtain⟨s1,t1,rfl⟩:=O2.form2;clear hK hK' hr hp hI;simp only[e2];simp only[e2]at HK;go_simp;exact HK.o _ _ ((Below.refl _ W).alloc nR _) ⟨(fun e=>by cases e),(fun e=>by cases e),(fun e=>by cases e),fun _=>⟨rfl,by simp⟩⟩ ⟨List.mem_cons_of_mem _ d2,_,_,by rw[zav _ _ _ _ dC,e2],by rw[za0],AtC.new W 59 _⟩
   ·intro s x iv W hs hp hI;obtain⟨-,p,g,e2,e3,A3⟩:=hI (hs 3 dC);have e1:=(hp.post 1 dC).2.1 rfl;obtain⟨p',f2,O2,-⟩:=(hp.post 2 dC).2.2.1 rfl;rw[e2]at f2;simp only[Value.agg.injEq,Array.mk.injEq,List.cons.injEq,and_true,true_and]at f2;subst f2;have l2:=(hp.lo 2 dC).1;have hbel:=hp.bel;have O3:ROwns W wr.drew.1.size 3 p (ic [0,0]):=O2.base_le l2;obtain⟨s1,t1,rfl⟩:=O3.form2;have hT:TOwns W 59 (.slice gi ti.length ci) ti:=HX.o.1.of_heap fun k hk=>hbel.block k (HX.o.1.lt k hk);have HN:Hid (∀v' w',TOwns w' 59 v' (ti++[(.int .i64 0,.int .i64 0,.slice s1 2 t1)])->W.grownBy w' (Value.slice gi ti.length ci).ownBlock->(∀k,v'.ownBlock=some k->(Value.slice gi ti.length ci).ownBlock=some k\/W.1.size<=k)->(AtC w' b 30 #[.slice a1 newX.length c1,.slice a2 newY.length c2,.slice gi ti.length ci,.slice none 0 0])/\Ds w (w'.setCell ⟨b,2,none⟩ v') b (.slice a1 newX.length c1) (.slice a2 newY.length c2) v' (.slice none 0 0) (List.replicate j noI++[noI]) []):=fun v' w' h1 h2 h3=>HX.o.2.1 W w' v' _ hbel O3 h1 h2 h3;have HTL:Hid (ti.length<=1000000000000):=by have:=HX.o.2.2;show ti.length<=_;omega
    have HA3:=hide A3;have HT:=hide hT;simp only[e1,e2,e3];clear hT O3 O2 hp hI hs l2 hbel A3 e1 e2 e3 HX HDS q2;refine wpList_step fun K' hK'=>?_;refine zaz _ rfl (.tmp 10) (.tmp 12) 27 rfl 59 Tryz.u27 _ 40 Tryz.i59 rfl dC (.slice gi ti.length ci) ti rfl HT.o g (.int .i64 0,.int .i64 0,.slice s1 2 t1) rfl ⟨HA3.o.cell 0,HA3.o.cell 1,HA3.o.cell 2⟩ ⟨rfl,rfl,rfl⟩ HTL.o ?_;intro v9 w9 T9 G9 V9;refine hK' _ _ ?_;obtain⟨e9,D9⟩:=HN.o v9 w9 T9 G9 V9;obtain⟨g9,c9,rfl,-⟩:=T9.form;have e10:(ti++[((.int .i64 0,.int .i64 0,.slice s1 2 t1):V3)]).length=ti.length+1:=by simp
    rw[e10]at D9 ⊢;clear e10;have z2:=e9.frozen 2;have z3:=e9.c2;have H9:=hide D9;clear e9 D9 T9 G9 V9 HN HA3 HT HTL hK' K';go_wp2_with fail
    rw[List.filterMap_nil];go_wp2;go_roundw
    case rel=>exact⟨j+1,by omega,by go_num,_,by rw[List.replicate_succ'];exact H9.o⟩
    case measure=>simp[intOf];omega
  ·have hj8:j=8:=by omega
   subst hj8;obtain⟨ti,k1,k2,-⟩:=hds.app;rw[List.length_replicate]at k2;obtain⟨gi,ci,rfl,-⟩:=k1.at 0 oM;rw[k2]at hds;have q2:=hds.box.c2;have hjl:0<(List.replicate 8 noI).length:=by decide
   have HJ:=hide hjl;have HR2:=hide hds;clear hjl k1 k2 hds HR;go_wp2_with fail
   go_region_held3 (fun w'=>w'.cell? ⟨b,2,none⟩=some (.slice (some ⟨gi,0,none⟩) 8 ci)) (first| exact HR2.o.drew.box.cell 2|exact(HR2.o.drew.below B6).box.cell 2|exact(HR2.o.drew.put rfl 0 HJ.o _ _ _ B6 O6).box.cell 2) ((go_at_call 119;refine(za6 _ _).mono ?_;rintro e w6 ⟨p,rfl,O6,B6⟩;obtain⟨⟨x1,x2,x3,m1,m2,m3,-,-,-⟩,fz,-⟩:=(HR2.o.drew.below B6).dsk.atI rfl 0 HJ.o;have n0:=fz (0*3);have n1:=fz (0*3+1);have n2:=fz (0*3+2);clear fz;obtain⟨s1,t1,rfl⟩:=O6.form2;simp only[Nat.zero_mul,Nat.zero_add]at m1 m2 m3 n0 n1 n2))
   have hp6:=HR2.o.drew.put rfl 0 HJ.o 2 (zam 2) (.slice s1 2 t1) B6 O6;rw[show((2:Int),zam 2,[(0:Int),0])=(2,1,[0,0])from rfl,show(List.replicate 8 noI).set 0 (2,1,[0,0])=newIs from rfl]at hp6;simp only[Nat.zero_mul,Nat.zero_add]at hp6;obtain⟨W6,hW6⟩:∃W6,((w6.setCell ⟨gi,0,none⟩ (.int .i64 2)).setCell ⟨gi,1,none⟩ (.int .i64 (zam 2))).setCell ⟨gi,2,none⟩ (.slice s1 2 t1)=W6:=⟨_,rfl⟩
   rw[hW6]at hp6 ⊢;clear hW6 B6 O6 m1 m2 m3 n0 n1 n2 HR2 HJ;have hp7:=hp6.mkB MB HMB.o;have b3:=hp6.box.c3;have b4:=hp6.box.frozen 3;have b5:=hp6.box.lt;obtain⟨W7,hW7⟩:∃W7,(W6.alloc (.cells MB 95)).setCell ⟨b,3,none⟩ (.slice (some ⟨W6.1.size,0,none⟩) 16 16)=W7:=⟨_,rfl⟩
   rw[hW7]at hp7;have H7:=hide hp7;obtain⟨y0,y1,y2,y3⟩:=AtC.four hp7.box;obtain⟨r0,r1,r2,r3⟩:=AtC.four hp7.res;have v0:=hp7.res.frozen 0;have v1:=hp7.res.frozen 1;have v2:=hp7.res.frozen 2;have v3:=hp7.res.frozen 3;clear hp6 hp7;go_wp2;refine bodyPost_ret (v:=.agg #[.slice a1 newX.length c1,.slice a2 newY.length c2,.slice (some ⟨gi,0,none⟩) 8 ci,.slice (some ⟨W6.1.size,0,none⟩) 16 16]) sR4 rfl ⟨_,_,_,_,rfl,?_,?_⟩
   ·exact(H7.o.dsk.of_heap fun k hk _=>((((heap_setCell_other _ ⟨w.1.size,3,none⟩ k _ oB).trans (heap_setCell_other _ ⟨w.1.size,2,none⟩ k _ oB)).trans (heap_setCell_other _ ⟨w.1.size,1,none⟩ k _ oB)).trans (heap_setCell_other _ ⟨w.1.size,0,none⟩ k _ oB))).mono fun k hk=>by omega
   ·exact(((H7.o.bel.setCell nR _).setCell nR _).setCell nR _).setCell nR _
end Xd
namespace Kit
structure DkR(xs ys:List Bool)(is:List Ino)(bs:List Blk):Prop where
 x:xs.length=16
 y:ys.length=8
 i:is.length=8
 ii:∀q∈is,IOk q
 b:bs.length=16
 bb:∀q∈bs,KOk q
theorem DkR.bit{xs ys:List Bool}{is:List Ino}{bs:List Blk}(h:DkR xs ys is bs)(j:Nat)(z:Bool):DkR (xs.set j z) ys is bs:=⟨by rw[List.length_set];exact h.x,h.y,h.i,h.ii,h.b,h.bb⟩
theorem DkR.ino{xs ys:List Bool}{is:List Ino}{bs:List Blk}(h:DkR xs ys is bs)(j:Nat){z:Ino}(hz:IOk z):DkR xs ys (is.set j z) bs :=
 ⟨h.x,h.y,by rw[List.length_set];exact h.i,fun q hq=>(List.mem_or_eq_of_mem_set hq).elim (h.ii q) (fun e=>e ▸ hz),h.b,h.bb⟩
theorem DkR.blk{xs ys:List Bool}{is:List Ino}{bs:List Blk}(h:DkR xs ys is bs)(j:Nat){z:Blk}(hz:KOk z):DkR xs ys is (bs.set j z) :=
 ⟨h.x,h.y,h.i,h.ii,by rw[List.length_set];exact h.b,fun q hq=>(List.mem_or_eq_of_mem_set hq).elim (h.bb q) (fun e=>e ▸ hz)⟩
section
variable {w : World} {S : Nat -> Prop} {u v iv bv : Value} {xs ys : List Bool} {is : List Ino} {bs : List Blk}
theorem DO.setI(h:DO w S u v iv bv xs ys is bs){g n cap:Nat}(hv:iv=.slice (some ⟨g,0,none⟩) n cap)(j:Nat)(hj:j<is.length)(t':V3)(x':Ino)(hO:KI.O w t' x')(hn:∀k,t'.2.2.ownBlock=some k->¬S k):
  DO (set3 w g j t') (fun k=>S k\/t'.2.2.ownBlock=some k) u v iv bv xs ys (is.set j x') bs:=by
 obtain⟨T1,T2,T3,ti,tb,z1,z2,z3,z4,z5,z6,z7⟩:=h;have gT:T2 g:=z3.so g vR;have un:∀k,k≠g->(set3 w g j t').heap[k]?=w.1[k]?:=fun k hk=>zbc w g j t' k hk;have zz:=z3.putX hv j (by rw[z3.len];exact hj) t' x' hO (fun k hk e=>hn k hk (z7 k (.inr (.inl e))));refine⟨T1,fun k=>T2 k\/t'.2.2.ownBlock=some k,T3,ti.set j t',tb,⟨z1.a.of_heap fun k hk=>un k fun e=>(z5 k (z2 k (.inl hk))).1 (e ▸ gT),z1.b.of_heap fun k hk=>un k fun e=>(z5 k (z2 k (.inr hk))).1 (e ▸ gT),z1.ne⟩,z2,zz,z4.of_heap fun k hk _=>un k fun e=>z6 g gT (e ▸ hk),fun k hk=>⟨fun e=>?_,(z5 k hk).2⟩,fun k hk e=>?_,fun k hk=>?_⟩
 ·rcases e with e|e
  ·exact(z5 k hk).1 e
  ·exact hn k e (z7 k (.inl hk))
 ·rcases hk with hk|hk
  ·exact z6 k hk e
  ·exact hn k hk (z7 k (.inr (.inr e)))
 ·exact cQ76
theorem DO.setBk(h:DO w S u v iv bv xs ys is bs){g n cap:Nat}(hv:bv=.slice (some ⟨g,0,none⟩) n cap)(j:Nat)(hj:j<bs.length)(t':V3)(x':Blk)(hO:KB.O w t' x')(hn:∀k,t'.2.1.ownBlock=some k->¬S k):
  DO (set3 w g j t') (fun k=>S k\/t'.2.1.ownBlock=some k) u v iv bv xs ys is (bs.set j x'):=by
 obtain⟨T1,T2,T3,ti,tb,z1,z2,z3,z4,z5,z6,z7⟩:=h;have gT:T3 g:=z4.so g vR;have un:∀k,k≠g->(set3 w g j t').heap[k]?=w.1[k]?:=fun k hk=>zbc w g j t' k hk;have zz:=z4.putX hv j (by rw[z4.len];exact hj) t' x' hO (fun k hk e=>hn k hk (z7 k (.inr (.inr e))));refine⟨T1,T2,fun k=>T3 k\/t'.2.1.ownBlock=some k,ti,tb.set j t',⟨z1.a.of_heap fun k hk=>un k fun e=>(z5 k (z2 k (.inl hk))).2 (e ▸ gT),z1.b.of_heap fun k hk=>un k fun e=>(z5 k (z2 k (.inr hk))).2 (e ▸ gT),z1.ne⟩,z2,z3.of_heap fun k hk _=>un k fun e=>z6 k hk (e ▸ gT),zz,fun k hk=>⟨(z5 k hk).1,fun e=>?_⟩,fun k hk e=>?_,fun k hk=>?_⟩
 ·rcases e with e|e
  ·exact(z5 k hk).2 e
  ·exact hn k e (z7 k (.inl hk))
 ·rcases e with e|e
  ·exact z6 k hk e
  ·exact hn k e (z7 k (.inr (.inl hk)))
 ·exact cQ78
theorem DO.setX(h:DO w S u v iv bv xs ys is bs){g n cap:Nat}(hv:u=.slice (some ⟨g,0,none⟩) n cap)(j:Nat)(z:Bool):
  DO (w.setCell ⟨g,j,none⟩ (.bool z)) S u v iv bv (xs.set j z) ys is bs:=by
 obtain⟨T1,T2,T3,ti,tb,z1,z2,z3,z4,z5,z6,z7⟩:=h;have gT:T1 g:=z2 g (.inl vR);have un:∀k,k≠g->(w.setCell ⟨g,j,none⟩ (.bool z)).1[k]?=w.1[k]?:=fun k hk=>heap_setCell_other w ⟨g,j,none⟩ k _ hk;have ha:ROwns (w.setCell ⟨g,j,none⟩ (.bool z)) 0 4 u (fc (xs.set j z)):=by
  have k1:=z1.a;obtain⟨a,c,e⟩:=k1.rfl.form;rw[hv]at e;simp only[Value.slice.injEq]at e;obtain⟨-,rfl,-⟩:=e;subst hv;have hl:xs.length=(fc xs).length:=by simp[fc]
  rw[hl]at k1 ⊢;have k2:=(k1.stored j (.bool z)).1;have e2:(fc xs).set j (.bool z)=fc (xs.set j z):=by simp[fc,List.map_set]
  rwa[e2]at k2
 exact⟨T1,T2,T3,ti,tb,⟨ha,z1.b.of_heap fun k hk=>un k fun e=>z1.ne g vR (e ▸ hk),z1.ne⟩,z2,z3.of_heap fun k hk _=>un k fun e=>(z5 g gT).1 (e ▸ hk),z4.of_heap fun k hk _=>un k fun e=>(z5 g gT).2 (e ▸ hk),z5,z6,z7⟩
end
section
variable {w : World} {S : Nat -> Prop} {u v iv bv : Value} {xs ys : List Bool} {is : List Ino} {bs : List Blk}
theorem DO.forms(h:DO w S u v iv bv xs ys is bs)(h1:0<xs.length)(h2:0<is.length)(h3:0<bs.length):∃g1 c1 g2 c2 g3 c3,u=.slice (some ⟨g1,0,none⟩) xs.length c1/\iv=.slice (some ⟨g2,0,none⟩) is.length c2/\bv=.slice (some ⟨g3,0,none⟩) bs.length c3:=by
 obtain⟨T1,T2,T3,ti,tb,z1,z2,z3,z4,z5,z6,z7⟩:=h;obtain⟨g1,c1,e1,-⟩:=z1.a.at 0 (by simpa[fc]using h1);obtain⟨g2,c2,e2,-⟩:=z3.row.at 0 (by rw[z3.len];exact h2);obtain⟨g3,c3,e3,-⟩:=z4.row.at 0 (by rw[z4.len];exact h3);exact⟨g1,c1,g2,c2,g3,c3,by simpa[fc]using e1,by rw[←z3.len];exact e2,by rw[←z4.len];exact e3⟩
theorem DO.ptAt(h:DO w S u v iv bv xs ys is bs){g n cap:Nat}(hv:iv=.slice (some ⟨g,0,none⟩) n cap)(j:Nat)(hj:j<is.length){p q:Int}(hp:is[j].2.2=[p,q]):
  ∃gp cp,∀w2:World,(∀k,S k->k<w.1.size->w2.1[k]?=w.1[k]?)->w2.cell? ⟨g,j*3+2,none⟩=some (.slice (some ⟨gp,0,none⟩) 2 cp)/\w2.cell? ⟨gp,0,none⟩=some (.int .i64 p):=by
 obtain⟨T1,T2,T3,ti,tb,z1,z2,z3,z4,z5,z6,z7⟩:=h;have hj':j<ti.length:=by rw[z3.len];exact hj
 have e3:=(z3.inn j hj' hj).2.2;rw[hp]at e3;obtain⟨gp,cp,e,-⟩:=e3.at 0 (by simp[ic]);refine⟨gp,cp,fun w2 hh=>?_⟩;have z:=z3.of_heap (w':=w2) fun k hs hk=>hh k (z7 k (.inr (.inl hs))) hk;obtain⟨g',c',e',k1,k2,k3,-⟩:=z.row.at j hj';rw[hv]at e';simp only[Value.slice.injEq,Option.some.injEq,Addr.mk.injEq]at e';obtain⟨⟨rfl,-⟩,-,-⟩:=e';have f3:=(z.inn j hj' hj).2.2;rw[hp]at f3;obtain⟨gq,cq,f,m1,-⟩:=f3.at 0 (by simp[ic]);rw[e]at f;simp only[Value.slice.injEq,Option.some.injEq,Addr.mk.injEq]at f;obtain⟨⟨rfl,-⟩,-,rfl⟩:=f;exact⟨by rw[k3,e];simp[ic],by rw[m1];simp[ic]⟩
theorem DO.slAt(h:DO w S u v iv bv xs ys is bs){g n cap:Nat}(hv:bv=.slice (some ⟨g,0,none⟩) n cap)(j:Nat)(hj:j<bs.length)(h4:bs[j].2.1.length=4):
  ∃gs cs,S gs/\∀w2:World,(∀k,S k->k<w.1.size->w2.1[k]?=w.1[k]?) ->
   w2.cell? ⟨g,j*3+1,none⟩=some (.slice (some ⟨gs,0,none⟩) 4 cs)/\gs<w2.1.size/\(∀k,w2.frozen? ⟨gs,k,none⟩=false) /\
   ∀i,i<4->(∃(n:ByteArray)(z:Int),w2.cell? ⟨gs,i*2,none⟩=some (.string n)/\w2.cell? ⟨gs,i*2+1,none⟩=some (.int .i64 z)) /\
    ∀(nm:ByteArray)(z:Int),DO ((w2.setCell ⟨gs,i*2,none⟩ (.string nm)).setCell ⟨gs,i*2+1,none⟩ (.int .i64 z)) S u v iv bv xs ys is (bs.set j (bs[j].1,bs[j].2.1.set i (nm,z),bs[j].2.2)):=by
 have H:=h;obtain⟨T1,T2,T3,ti,tb,z1,z2,z3,z4,z5,z6,z7⟩:=h;have hj':j<tb.length:=by rw[z4.len];exact hj
 obtain⟨gs,cs,e,-⟩:=(z4.inn j hj' hj).2.1.at 0 oM;have gT:T3 gs:=z4.si j hj' gs (by show(tb[j].2.1).ownBlock=some gs;rw[e];rfl);refine⟨gs,cs,z7 gs (.inr (.inr gT)),fun w2 hh=>?_⟩;have z:=z4.of_heap (w':=w2) fun k hs hk=>hh k (z7 k (.inr (.inr hs))) hk;obtain⟨g',c',e',k1,k2,k3,-⟩:=z.row.at j hj';rw[hv]at e';simp only[Value.slice.injEq,Option.some.injEq,Addr.mk.injEq]at e';obtain⟨⟨rfl,-⟩,-,-⟩:=e';have f3:=(z.inn j hj' hj).2.1;have f3':SOwns w2 0 90 (.slice (some ⟨gs,0,none⟩) bs[j].2.1.length cs) bs[j].2.1:=by rw[←e];exact f3
 obtain⟨gq,cq,f,-,-,mf,-,ml,-⟩:=f3.at 0 oM;rw[e]at f;simp only[Value.slice.injEq,Option.some.injEq,Addr.mk.injEq]at f;obtain⟨⟨rfl,-⟩,-,rfl⟩:=f;refine⟨by rw[k2,e,h4],ml,mf,fun i hi=>⟨?_,fun nm x=>?_⟩⟩
 ·obtain⟨gr,cr,f,m1,m2,-⟩:=f3.at i oM;rw[e]at f;simp only[Value.slice.injEq,Option.some.injEq,Addr.mk.injEq]at f;obtain⟨⟨rfl,-⟩,-,-⟩:=f;exact⟨_,_,m1,m2⟩
 ·have hw2:=H.of_heap (w':=w2) hh;have sz:=(f3'.set_both i oM nm x).1;obtain⟨W,hW⟩:∃W,(w2.setCell ⟨gs,i*2,none⟩ (.string nm)).setCell ⟨gs,i*2+1,none⟩ (.int .i64 x)=W:=⟨_,rfl⟩
  have un:∀k,k≠gs->W.1[k]?=w2.1[k]?:=fun k hk=>by
   rw[←hW,heap_setCell_other _ ⟨gs,i*2+1,none⟩ k _ hk,heap_setCell_other _ ⟨gs,i*2,none⟩ k _ hk]
  rw[hW]at sz ⊢;have hout:bv.ownBlock≠some gs:=z.out j hj' gs (by show(tb[j].2.1).ownBlock=some gs;rw[e];rfl);have es:tb.set j tb[j]=tb:=List.set_getElem_self hj';have z':GO KB W T3 bv tb (bs.set j (bs[j].1,bs[j].2.1.set i (nm,x),bs[j].2.2)):=by
   have q:=z.turn (w':=W) (S':=T3) j hj' tb[j] (bs[j].1,bs[j].2.1.set i (nm,x),bs[j].2.2) (by rw[es];exact z.row.of_heap fun k hk=>un k fun e2=>hout (e2 ▸ hk)) ⟨(z.inn j hj' hj).1,by show SOwns W 0 90 tb[j].2.1 _;rw[e];exact sz,(z.inn j hj' hj).2.2⟩
    (fun k _ _ h2=>un k fun e2=>h2 (by rw[e2];show(tb[j].2.1).ownBlock=some gs;rw[e];rfl)) (fun k hk=>.inl hk) (fun k hk=>hk) (fun k hk=>z.si j hj' k hk)
   rw[es]at q;exact q
  have t1:=fun k hk hlt=>hh k (z7 k (.inl (z2 k hk))) hlt;refine⟨T1,T2,T3,ti,tb,⟨(z1.a.of_heap (w':=w2) fun k hk=>t1 k (.inl hk) (z1.a.lt k hk).2).of_heap fun k hk=>un k fun e2=>(z5 k (z2 k (.inl hk))).2 (e2 ▸ gT),(z1.b.of_heap (w':=w2) fun k hk=>t1 k (.inr hk) (z1.b.lt k hk).2).of_heap fun k hk=>un k fun e2=>(z5 k (z2 k (.inr hk))).2 (e2 ▸ gT),z1.ne⟩,z2,(z3.of_heap (w':=w2) fun k hs hk=>hh k (z7 k (.inr (.inl hs))) hk).of_heap fun k hs _=>un k fun e2=>z6 k hs (e2 ▸ gT),z',z5,z6,z7⟩
end
structure Wd(w0 w w':World)(c:Nat)(a:Option Addr)(len cap b:Nat)(u v iv bv:Value)(xs ys:List Bool)(is:List Ino)(bs:List Blk):Prop where
 res:AtC w' w.1.size 30 Xd.zD
 box:AtC w' b 30 #[u,v,iv,bv]
 dsk:DO w' (fun k=>w.1.size<k/\k≠b) u v iv bv xs ys is bs
 dr:Drew w0 w w' c a len cap
 hb:w.1.size<b
 hc:c<w.1.size
 ok:DkR xs ys is bs
namespace Wd
variable {w0 w w' w2 : World} {c len cap b : Nat} {a : Option Addr} {u v iv bv : Value} {xs ys : List Bool} {is : List Ino} {bs : List Blk}
theorem drews(h:Wd w0 w w' c a len cap b u v iv bv xs ys is bs)(hd:Drew w0 w' w2 c a len cap):Wd w0 w w2 c a len cap b u v iv bv xs ys is bs:=by
 have h1:=h.hc;have h2:=h.hb;exact⟨h.res.grown hd.2 sO,h.box.grown hd.2 sO,h.dsk.of_heap fun k hk hlt=>hd.2.block k hlt sO,h.dr.trans hd,h.hb,h.hc,h.ok⟩
theorem over(h:Wd w0 w w' c a len cap b u v iv bv xs ys is bs)(hb:Below w'.1.size w' w2):Wd w0 w w2 c a len cap b u v iv bv xs ys is bs :=
 ⟨h.res.over hb,h.box.over hb,h.dsk.below hb nR,h.dr.below h.hc hb,h.hb,h.hc,h.ok⟩
theorem drew(h:Wd w0 w w' c a len cap b u v iv bv xs ys is bs):Wd w0 w w'.drew c a len cap b u v iv bv xs ys is bs:=h.over bR.drew
theorem alloc(h:Wd w0 w w' c a len cap b u v iv bv xs ys is bs)(o:Obj):Wd w0 w (w'.alloc o) c a len cap b u v iv bv xs ys is bs:=h.over ((Below.refl _ w').alloc nR o)
theorem away(h:Wd w0 w w' c a len cap b u v iv bv xs ys is bs){g:Nat}(hg:w.1.size<g/\g≠b)(j:Nat)(x:Value){xs':List Bool}{is':List Ino}{bs':List Blk}{S:Nat->Prop}(d:DO (w'.setCell ⟨g,j,none⟩ x) S u v iv bv xs' ys is' bs')(hS:∀k,S k->w.1.size<k/\k≠b)(ok:DkR xs' ys is' bs'):
  Wd w0 w (w'.setCell ⟨g,j,none⟩ x) c a len cap b u v iv bv xs' ys is' bs' :=
 ⟨h.res.other oM _,h.box.other (Ne.symm hg.2) _,d.mono hS,h.dr.setCell h.hc oM _,h.hb,h.hc,ok⟩
theorem away3(h:Wd w0 w w' c a len cap b u v iv bv xs ys is bs){g:Nat}(hg:w.1.size<g/\g≠b)(j:Nat)(t:V3){xs':List Bool}{is':List Ino}{bs':List Blk}{S:Nat->Prop}(d:DO (set3 w' g j t) S u v iv bv xs' ys is' bs')(hS:∀k,S k->w.1.size<k/\k≠b)(ok:DkR xs' ys is' bs'):
  Wd w0 w (set3 w' g j t) c a len cap b u v iv bv xs' ys is' bs' :=
 ⟨((h.res.other oM _).other oM _).other oM _,((h.box.other (Ne.symm hg.2) _).other (Ne.symm hg.2) _).other (Ne.symm hg.2) _,d.mono hS,((h.dr.setCell h.hc oM _).setCell h.hc oM _).setCell h.hc oM _,h.hb,h.hc,ok⟩
theorem putI(h:Wd w0 w w' c a len cap b u v iv bv xs ys is bs){g n cp:Nat}(hv:iv=.slice (some ⟨g,0,none⟩) n cp)(j:Nat)(hj:j<8)(hd:Drew w0 w' w2 c a len cap)(k l p q:Int)(pv:Value)(hO:ROwns w2 w'.1.size 3 pv (ic [p,q]))(hz:okR k l p q=true):
  Wd w0 w (set3 w2 g j (.int .i64 k,.int .i64 l,pv)) c a len cap b u v iv bv xs ys (is.set j (k,l,[p,q])) bs:=by
 have h2:=h.drews hd;have hj':j<is.length:=by rw[h.ok.i];exact hj
 obtain⟨-,-,-,-,hg⟩:=h.dsk.atI hv j hj';have hbl:=h.box.lt;have d:=((h.dsk.bound.of_heap (w':=w2) fun k hk hlt=>hd.2.block k hlt (by have:=h.hc;simp;omega))).setI hv j hj' (.int .i64 k,.int .i64 l,pv) (k,l,[p,q]) ⟨rfl,rfl,hO.base_le (Nat.zero_le _)⟩ (fun m hm=>by have h1:=(hO.lt m hm).1;intro e;have:=e.2;omega);refine h2.away3 hg j _ d (fun m hm=>hm.elim (fun e=>e.1) (fun e=>?_)) (h.ok.ino j (ok.IOk (by exact hz)));have h1:=(hO.lt m e).1;have h3:=h.hb;omega
theorem putB(h:Wd w0 w w' c a len cap b u v iv bv xs ys is bs){g n cp:Nat}(hv:bv=.slice (some ⟨g,0,none⟩) n cp)(j:Nat)(hj:j<16)(hd:Drew w0 w' w2 c a len cap)(d:Bool)(sv:Value)(t:ByteArray)(ss:List Sl)(hO:SOwns w2 w'.1.size 90 sv ss)(hz:KOk ((d,ss,t):Blk)):
  Wd w0 w (set3 w2 g j (.bool d,sv,.string t)) c a len cap b u v iv bv xs ys is (bs.set j (d,ss,t)):=by
 have h2:=h.drews hd;have hj':j<bs.length:=by rw[h.ok.b];exact hj
 obtain⟨-,-,-,-,hg⟩:=h.dsk.atB hv j hj';have hbl:=h.box.lt;have dd:=((h.dsk.bound.of_heap (w':=w2) fun k hk hlt=>hd.2.block k hlt (by have:=h.hc;simp;omega))).setBk hv j hj' (.bool d,sv,.string t) (d,ss,t) ⟨rfl,hO.base_le (Nat.zero_le _),rfl⟩ (fun m hm=>by have h1:=(hO.lt m hm).1;intro e;have:=e.2;omega);refine h2.away3 hg j _ dd (fun m hm=>hm.elim (fun e=>e.1) (fun e=>?_)) (h.ok.blk j hz);have h1:=(hO.lt m e).1;have h3:=h.hb;omega
theorem putX(h:Wd w0 w w' c a len cap b u v iv bv xs ys is bs){g n cp:Nat}(hv:u=.slice (some ⟨g,0,none⟩) n cp)(j:Nat)(z:Bool):
  Wd w0 w (w'.setCell ⟨g,j,none⟩ (.bool z)) c a len cap b u v iv bv (xs.set j z) ys is bs:=by
 refine h.away ?_ j _ (h.dsk.setX hv j z) (fun k hk=>hk) (h.ok.bit j z);obtain⟨T1,T2,T3,ti,tb,z1,z2,z3,z4,z5,z6,z7⟩:=h.dsk;exact z7 g (.inl (z2 g (.inl vR)))
theorem cells(h:Wd w0 w w' c a len cap b u v iv bv xs ys is bs):w'.cell? ⟨b,0,none⟩=some u/\w'.cell? ⟨b,1,none⟩=some v/\w'.cell? ⟨b,2,none⟩=some iv/\w'.cell? ⟨b,3,none⟩=some bv/\b<w'.1.size :=
 ⟨h.box.cell 0,h.box.cell 1,h.box.cell 2,h.box.cell 3,h.box.lt⟩
theorem inos(h:Wd w0 w w' c a len cap b u v iv bv xs ys is bs){g n cp:Nat}(hv:iv=.slice (some ⟨g,0,none⟩) n cp)(j:Nat)(hj:j<8):
  ∃x y p,w'.cell? ⟨g,j*3,none⟩=some (.int .i64 x)/\w'.cell? ⟨g,j*3+1,none⟩=some (.int .i64 y)/\w'.cell? ⟨g,j*3+2,none⟩=some p/\w'.frozen? ⟨g,j*3,none⟩=false/\w'.frozen? ⟨g,j*3+1,none⟩=false/\w'.frozen? ⟨g,j*3+2,none⟩=false/\g<w'.1.size:=by
 obtain⟨⟨x,y,p,h1,h2,h3,-⟩,h4,h5,-⟩:=h.dsk.atI hv j (by rw[h.ok.i];exact hj);exact⟨x,y,p,h1,h2,h3,h4 _,h4 _,h4 _,h5⟩
theorem blks(h:Wd w0 w w' c a len cap b u v iv bv xs ys is bs){g n cp:Nat}(hv:bv=.slice (some ⟨g,0,none⟩) n cp)(j:Nat)(hj:j<16):
  ∃x p t,w'.cell? ⟨g,j*3,none⟩=some (.bool x)/\w'.cell? ⟨g,j*3+1,none⟩=some p/\w'.cell? ⟨g,j*3+2,none⟩=some (.string t)/\w'.frozen? ⟨g,j*3,none⟩=false/\w'.frozen? ⟨g,j*3+1,none⟩=false/\w'.frozen? ⟨g,j*3+2,none⟩=false/\g<w'.1.size:=by
 obtain⟨⟨x,p,t,h1,h2,h3,-⟩,h4,h5,-⟩:=h.dsk.atB hv j (by rw[h.ok.b];exact hj);exact⟨x,p,t,h1,h2,h3,h4 _,h4 _,h4 _,h5⟩
theorem bit(h:Wd w0 w w' c a len cap b u v iv bv xs ys is bs){g n cp:Nat}(hv:u=.slice (some ⟨g,0,none⟩) n cp)(j:Nat)(hj:j<16):
  ∃x,w'.cell? ⟨g,j,none⟩=some (.bool x)/\w'.frozen? ⟨g,j,none⟩=false/\g<w'.1.size:=by
 have hx:=h.ok.x;obtain⟨g',c',e',k1,k2,-,k3,-⟩:=h.dsk.two.a.at j (by simpa[fc,hx]using hj);rw[hv]at e';simp only[Value.slice.injEq,Option.some.injEq,Addr.mk.injEq]at e';obtain⟨⟨rfl,-⟩,-,-⟩:=e';exact⟨xs[j]'oM,by rw[k1];simp[fc,hx,hj],k2,k3⟩
theorem slot(h:Wd w0 w w' c a len cap b u v iv bv xs ys is bs){gs j:Nat}{x y:Value}{bs':List Blk}(hs:w.1.size<gs/\gs≠b)(d:DO ((w'.setCell ⟨gs,j,none⟩ x).setCell ⟨gs,j+1,none⟩ y) (fun k=>w.1.size<k/\k≠b) u v iv bv xs ys is bs')(ok:DkR xs ys is bs'):
  Wd w0 w ((w'.setCell ⟨gs,j,none⟩ x).setCell ⟨gs,j+1,none⟩ y) c a len cap b u v iv bv xs ys is bs' :=
 ⟨(h.res.other oM _).other oM _,(h.box.other (Ne.symm hs.2) _).other (Ne.symm hs.2) _,d,(h.dr.setCell h.hc oM _).setCell h.hc oM _,h.hb,h.hc,ok⟩
theorem keepD(h:Wd w0 w w' c a len cap b u v iv bv xs ys is bs)(hd:Drew w0 w' w2 c a len cap):∀k,(w.1.size<k/\k≠b)->k<w'.1.size->w2.1[k]?=w'.1[k]?:=fun k hk hlt=>hd.2.block k hlt (by have:=h.hc;simp;omega)
end Wd
end Kit
theorem text_any(w0 w:World)(c:Nat)(a:Option Addr)(len cap:Nat)(n:Nat)(hcode:zbe w0 a len)(hlen:len<=1048576)(hcur:Cur 103 w0 w c a len cap)(hcw:c<w.1.size)(hn1:n<=5000):
  Calls Tryz.prog 76 #[.pointer (some ⟨c,0,none⟩),.int .i64 n] w fun e w'=>∃l:List UInt8,l.length=n/\e=.returned (.string ⟨l.toArray⟩)/\Drew w0 w w' c a len cap:=by
 have HC:=hide hcur;have HO:=hide hcode;clear hcur hcode;go_enter Tryz.func76,Tryz.ntmps76
 go_wp2;go_loopw [5,6] (fun v i wr=>∃(j:Nat)(pre:List UInt8),j<=n/\i=.int .i64 j/\pre.length=j/\Owns wr w.1.size 5 v pre/\Drew w0 w wr c a len cap) (fun _ i _=>n-(intOf i).toNat)
 case atStart=>exact⟨0,[],Nat.zero_le _,rfl,rfl,Owns.lit0 w _ 5 nR,⟨⟨HC.o.1,HC.o.2.1.alloc (by have:=HC.o.2.1.size;omega) _,by obtain⟨i,h,hb,hi⟩:=HC.o.2.2;exact⟨i,h,by rw[←hb];exact Below.heap_alloc _ _ _ hcw,hi⟩⟩,World.grownBy_alloc _ _ _⟩⟩
 case round =>
  obtain⟨j,pre,hj,rfl,hl,hown,hd⟩:=hrel;have HL:=hide hl;have HD:=hide hd;have HOW:=hide hown;have hl2:pre.length<=1000000000000:=by omega
  have hsz:w.1.size<=wr.1.size:=hd.2.size;clear hl hd hown;by_cases hlt:j<n
  ·go_wp2_with fail
   refine(zce w0 wr c a len cap HO.o hlen HD.o.cur).mono ?_;rintro e w1 ⟨x,hx,rfl,hd1⟩;have HD1:=hide (HD.o.trans hd1);have hown1:=HOW.o.grown hd1.2 (fun k hk=>by cases hk;exact hcw);have hsz1:w.1.size<=w1.1.size:=HD1.o.2.size;clear hd1 HOW HD;go_wp2_with (at_builtin;refine zd4 w1 w1 rfl _ _ 22 rfl w.1.size 5 Tryz.underlying22 Tryz.info5 _ pre (by rfl) hown1 bR hsz1 (by rfl) (lowB x) _ (byte_low x hx) hl2 ?_;intro v' w2 R1 R2 R3)
   have hc1:c<w1.1.size:=by omega
   have RC:Cur 103 w0 w2 c a len cap:=⟨HD1.o.1.1,⟨R2.os.trans HD1.o.1.2.1.os,R2.tape.trans HD1.o.1.2.1.tape,R2.output.trans HD1.o.1.2.1.output,Nat.le_trans HD1.o.1.2.1.size R2.size,fun k hk=>(R2.block k (by have:=HC.o.2.1.size;omega)).trans (HD1.o.1.2.1.block k hk)⟩,by obtain⟨i,h,hb,hi⟩:=HD1.o.1.2.2;exact⟨i,h,by rw[R2.block c hcw,hb],hi⟩⟩
   have RG:w.grownBy w2 (some c):=⟨R2.os.trans HD1.o.2.os,R2.tape.trans HD1.o.2.tape,R2.output.trans HD1.o.2.output,Nat.le_trans HD1.o.2.size R2.size,fun k hk hne=>(R2.block k hk).trans (HD1.o.2.block k hk hne)⟩
   have HR:=hide (And.intro RC RG);clear RC RG R2 R3 hown1;go_wp2;go_roundw
   case rel=>exact⟨j+1,_,by omega,by go_num,by have:=HL.o;simp;omega,R1,HR.o⟩
   case measure=>simp[intOf];omega
  ·have hcv:=zgl (P:=Tryz.prog) 22 9 5 Tryz.underlying22 Tryz.underlying5 Tryz.underlying9 HOW.o;go_wp2;go_ret;exact⟨pre,by have:=HL.o;omega,rfl,HD.o⟩
def noSl:List Sl:=[(⟨#[]⟩,0),(⟨#[]⟩,0),(⟨#[]⟩,0),(⟨#[]⟩,0)]
def zi9:Array Value:=#[.string ⟨#[]⟩,.int .i64 0,.string ⟨#[]⟩,.int .i64 0,.string ⟨#[]⟩,.int .i64 0,.string ⟨#[]⟩,.int .i64 0]
theorem make4(w:World):(Instr.makeSlice 87 (.int .i64 4) (.int .i64 4)).run Tryz.prog w=.ok (.slice (some ⟨w.1.size,0,none⟩) 4 4) (w.alloc (.cells zi9 90)):=by kernel_rfl
theorem own4(w:World)(base:Nat)(hb:base<=w.1.size):SOwns (w.alloc (.cells zi9 90)) base 90 (.slice (some ⟨w.1.size,0,none⟩) 4 4) noSl :=
 SOwns.lit w base 90 zi9 noSl rfl hb (by simp[noSl,maxLen])
theorem zja:KOk ((true,noSl,⟨#[]⟩):Blk):=⟨⟨fun _=>rfl,by decide,fun s hs=>by simp[noSl]at hs;subst hs;exact⟨by decide,.inl ⟨rfl,rfl⟩⟩,by decide⟩,fun e=>absurd e dC,fun _=>rfl,fun s hs=>by simp[noSl]at hs;subst hs;exact .inl ⟨rfl,rfl⟩,fun i j hi hj _ _=>by
 have:∀s∈noSl,s.1.size=0:=fun s hs=>by simp[noSl]at hs;subst hs;rfl
 exact this _ (List.getElem_mem hi)⟩
theorem zd9(w:World):
  Calls Tryz.prog 113 #[] w fun e w'=>∃a c,e=.returned (.agg #[.bool true,.slice a 4 c,.string ⟨#[]⟩])/\SOwns w' w.1.size 90 (.slice a 4 c) noSl/\Below w.1.size w w':=by
 have mk:=make4;have HO:=hide (fun o1=>own4 (w.alloc o1) w.1.size sI);go_enter Tryz.func113,Tryz.ntmps113
 go_wp2;refine bodyPost_ret (v:=.agg #[.bool true,.slice (some ⟨w.1.size+1,0,none⟩) 4 4,.string ⟨#[]⟩]) sR0 rfl ⟨_,_,rfl,by simpa using HO.o _,((Below.refl _ w).alloc nR _).alloc sI _⟩
theorem zl7(w0 w:World)(c:Nat)(a:Option Addr)(len cap:Nat)(hcode:zbe w0 a len)(hlen:len<=1048576)(hcur:Cur 103 w0 w c a len cap)(hc:c<w.1.size):
  Calls Tryz.prog 139 #[.pointer (some ⟨c,0,none⟩)] w fun e w'=>∃z:ByteArray,z∈nmS/\e=.returned (.string z)/\Drew w0 w w' c a len cap:=by
 obtain⟨W1,hW1⟩:∃W1,w.alloc (.cells #[.string ⟨#[97]⟩,.string ⟨#[98]⟩,.string ⟨#[99]⟩,.string ⟨#[100,100]⟩,.string ⟨#[101,49]⟩] 9)=W1:=⟨_,rfl⟩
 have HC:Hid (Cur 103 w0 W1 c a len cap/\AtC W1 w.1.size 9 (stc nmS).toArray/\w.grownBy W1 (some c)):=by
  exact cQ132
 have HO:=hide hcode;have hne:c≠w.1.size:=by omega
 clear hcur hcode;go_enter Tryz.func139,Tryz.ntmps139
 go_wp2_with fail
 refine(zff w0 W1 c w.1.size a len cap nmS HO.o hlen HC.o.1 HC.o.2.1 hne dC dC).mono ?_;rintro e w1 ⟨z,hz,rfl,hd⟩;have HD:Hid (z∈nmS/\Drew w0 w w1 c a len cap):=⟨hz,hd.1,zae HC.o.2.2 hd.2⟩
 clear hd hz hW1;go_wp2;go_ret;exact⟨z,HD.o.1,rfl,HD.o.2⟩
theorem five_ok:∀n∈nmS,zan n=true:=by decide
def Once(xs:List Sl):Prop:=xs.length=4/\(∀s∈xs,s=(⟨#[]⟩,0)\/(s.1∈nmS/\1<=s.2/\s.2<=8))/\Unl xs
theorem nmS_sz:∀n∈nmS,n.size≠0/\n.size<=6:=by decide
theorem Once.kok{xs:List Sl}(h:Once xs):KOk ((true,xs,⟨#[]⟩):Blk):=by
 refine⟨⟨fun _=>h.1,by show xs.length<=4;rw[h.1];decide,fun s hs=>?_,by show(0:Nat)<=16;decide⟩,fun e=>(by cases e),fun _=>rfl,fun s hs=>?_,h.2.2⟩
 ·rcases h.2.1 s hs with rfl|⟨q,z⟩
  ·exact⟨by decide,.inl ⟨rfl,rfl⟩⟩
  ·exact⟨(nmS_sz _ q).2,.inr z⟩
 ·rcases h.2.1 s hs with rfl|⟨q,z⟩
  ·exact .inl ⟨rfl,rfl⟩
  ·exact .inr (five_ok _ q)
theorem data_ok{t:ByteArray}(h:t.size<=16):KOk ((false,[],t):Blk) :=
 ⟨⟨fun e=>(by cases e),by show(0:Nat)<=4;decide,fun s hs=>by simp at hs,h⟩,fun _=>rfl,fun e=>(by cases e),fun s hs=>by simp at hs,Unl.nil⟩
theorem zl8{xs:List Sl}{n:ByteArray}{r:Int}(h:zlv xs n r)(hr:r<0)(hz:n.size≠0):∀s∈xs,s.1≠n:=by
 rcases h with⟨-,h|h⟩| ⟨j,-,rfl,-⟩
 ·exact absurd h hz
 ·intro s hs;obtain⟨i,hi,rfl⟩:=List.getElem_of_mem hs;exact h i hi
 ·omega
theorem once_new:Once noSl:=⟨rfl,fun s hs=>by simp[noSl]at hs;exact .inl hs,zja.u⟩
theorem once_set{xs:List Sl}{j:Nat}{n:ByteArray}{z:Int}(h:Once xs)(hn:n∈nmS)(hne:∀s∈xs,s.1≠n)(hz:1<=z/\z<=8):Once (xs.set j (n,z)):=by
 refine⟨by simp[h.1],fun s hs=>?_,fun a b ha hb hab e=>?_⟩
 ·rcases List.mem_or_eq_of_mem_set hs with h1|rfl
  ·exact h.2.1 s h1
  ·exact .inr ⟨hn,hz⟩
 ·rw[List.length_set]at ha hb;by_cases h1:j=a
  ·subst h1;rw[List.getElem_set_self,List.getElem_set_ne hab]at e;exact absurd e.symm (hne _ (List.getElem_mem hb))
  ·by_cases h2:j=b
   ·subst h2;rw[List.getElem_set_self,List.getElem_set_ne h1]at e;exact absurd e (hne _ (List.getElem_mem ha))
   ·rw[List.getElem_set_ne h1,List.getElem_set_ne h2]at e;rw[List.getElem_set_ne h1];exact h.2.2 a b ha hb hab e
structure Sb(w0 w w':World)(c:Nat)(a:Option Addr)(len cap:Nat)(V g c4:Nat)(xs:List Sl):Prop where
 res:AtC w' w.1.size 95 #[.bool false,.slice none 0 0,.string ⟨#[]⟩]
 var:AtC w' V 95 #[.bool true,.slice (some ⟨g,0,none⟩) 4 c4,.string ⟨#[]⟩]
 own:SOwns w' (w.1.size+1) 90 (.slice (some ⟨g,0,none⟩) 4 c4) xs
 dr:Drew w0 w w' c a len cap
 hv:w.1.size<V
 hgv:g<V
 hc:c<w.1.size
 once:Once xs
namespace Sb
variable {w0 w w' : World} {c len cap V g c4 : Nat} {a : Option Addr} {xs : List Sl}
theorem hg(h:Sb w0 w w' c a len cap V g c4 xs):w.1.size<g:=(h.own.lt g rfl).1
theorem drews(h:Sb w0 w w' c a len cap V g c4 xs){w2:World}(hd:Drew w0 w' w2 c a len cap):Sb w0 w w2 c a len cap V g c4 xs:=by
 have h1:=h.hc;have h2:=h.hv;have h3:=h.hg;exact⟨h.res.grown hd.2 sO,h.var.grown hd.2 sO,h.own.grown hd.2 (fun j hj e=>by have:=(h.own.lt _ hj).1;simp at e;omega),h.dr.trans hd,h.hv,h.hgv,h.hc,h.once⟩
theorem over(h:Sb w0 w w' c a len cap V g c4 xs){w2:World}(hb:Below w'.1.size w' w2):Sb w0 w w2 c a len cap V g c4 xs :=
 ⟨h.res.over hb,h.var.over hb,h.own.below hb nR,h.dr.below h.hc hb,h.hv,h.hgv,h.hc,h.once⟩
theorem alloc(h:Sb w0 w w' c a len cap V g c4 xs)(o:Obj):Sb w0 w (w'.alloc o) c a len cap V g c4 xs:=h.over ((Below.refl _ w').alloc nR o)
theorem put(h:Sb w0 w w' c a len cap V g c4 xs){j:Nat}(hj:j<4)(n:ByteArray)(z:Int)(hn:n∈nmS)(hne:∀s∈xs,s.1≠n)(hz:1<=z/\z<=8):
  Sb w0 w ((w'.setCell ⟨g,j*2,none⟩ (.string n)).setCell ⟨g,j*2+1,none⟩ (.int .i64 z)) c a len cap V g c4 (xs.set j (n,z)):=by
 have h1:=h.hg;have h2:=h.hgv;have hl:=h.once.1;have O:SOwns w' (w.1.size+1) 90 (.slice (some ⟨g,0,none⟩) xs.length c4) xs:=by rw[hl];exact h.own
 have O2:=(O.set_both j oM n z).1;rw[hl]at O2;exact⟨(h.res.other oM _).other oM _,(h.var.other oM _).other oM _,O2,(h.dr.setCell h.hc oM _).setCell h.hc oM _,h.hv,h.hgv,h.hc,once_set h.once hn hne hz⟩
end Sb
theorem zki(w0 w:World)(c:Nat)(a:Option Addr)(len cap:Nat)(hcode:zbe w0 a len)(hlen:len<=1048576)(hcur:Cur 103 w0 w c a len cap)(hcw:c<w.1.size):
  Calls Tryz.prog 112 #[.pointer (some ⟨c,0,none⟩)] w fun e w'=>∃(d:Bool)(v:Value)(t:ByteArray)(xs:List Sl),e=.returned (.agg #[.bool d,v,.string t])/\SOwns w' w.1.size 90 v xs/\KOk ((d,xs,t):Blk)/\Drew w0 w w' c a len cap:=by
 have HC:=hide hcur;have HO:=hide hcode;clear hcur hcode;go_enter Tryz.func112,Tryz.ntmps112
 go_wp2_with fail
 refine(zbk w0 _ c a len cap 2 HO.o hlen (za5 HC.o hcw _) dC dC).mono ?_;rintro e w1 ⟨x,rfl,D1⟩;have d1:Drew w0 w w1 c a len cap:=((Drew.refl HC.o).alloc hcw _).trans D1;have r1:AtC w1 w.1.size 95 #[.bool false,.slice none 0 0,.string ⟨#[]⟩]:=(AtC.new w 95 _).grown D1.2 sO;have s1:w.1.size<w1.1.size:=r1.lt;have H1:=hide (And.intro d1 r1);clear D1 d1 r1
 cases hx:(x==0)with
 | true =>
  clear hx;go_wp2_with fail
  refine(zao w0 _ c a len cap 17 HO.o hlen H1.o.1.cur dC dC).mono ?_;rintro e w2 ⟨n,hn,rfl,D2⟩;have d2:=H1.o.1.trans D2;have r2:=H1.o.2.grown D2.2 sO;have s2:w.1.size<w2.1.size:=r2.lt;have H2:=hide (And.intro d2 r2);clear D2 d2 r2 H1;go_wp2_with fail
  refine(text_any w0 _ c a len cap n HO.o hlen H2.o.1.cur oM oM).mono ?_;rintro e w3 ⟨l,hl,rfl,D3⟩;have d3:=H2.o.1.trans D3;have r3:=H2.o.2.grown D3.2 sO;obtain⟨t,ht⟩:∃t:ByteArray,(⟨l.toArray⟩:ByteArray)=t:=⟨_,rfl⟩
  have htz:t.size<=16:=by rw[←ht];simp[ByteArray.size];omega
  rw[ht];obtain⟨q0,q1,q2,ql⟩:=r3.three;obtain⟨f0,f1,f2⟩:=r3.frz;have H3:=hide d3;have HT:=hide htz;clear D3 d3 r3 H2 ht hl htz;go_wp2;refine bodyPost_ret (v:=.agg #[.bool false,.slice none 0 0,.string t]) sQ3 rfl ⟨false,_,t,[],rfl,SOwns.nil _ _ _,data_ok HT.o,?_⟩;exact((H3.o.setCell hcw nR _).setCell hcw nR _).setCell hcw nR _
 | false =>
  clear hx;go_wp2_with fail
  refine(zd9 w1).mono ?_;rintro e w2 ⟨a2,c4,rfl,O2,B2⟩;obtain⟨g,c5,e1,-,-,-,hg1,hg2,-⟩:=O2.at 0 dC;simp only[Value.slice.injEq]at e1;obtain⟨rfl,-,rfl⟩:=e1;obtain⟨V,hV⟩:∃V,w2.1.size=V:=⟨_,rfl⟩
  have st:Sb w0 w (w2.alloc (.cells #[.bool true,.slice (some ⟨g,0,none⟩) 4 c4,.string ⟨#[]⟩] 95)) c a len cap V g c4 noSl :=
   ⟨(H1.o.2.over B2).alloc _,by rw[←hV];exact AtC.new w2 95 _,(O2.base_le oM).alloc _,(H1.o.1.below hcw B2).alloc hcw _,by have:=B2.size;omega,by omega,hcw,once_new⟩
  have HS:=hide st;clear st O2 B2 H1 hg1 hg2;go_wp2_with fail
  go_loopw [4,5] (fun i _ wr=>∃(j:Nat)(xs:List Sl),j<=4/\i=.int .i64 j/\Sb w0 w wr c a len cap V g c4 xs) (fun i _ _=>4-(intOf i).toNat)
  case atStart=>exact⟨0,noSl,Nat.zero_le _,rfl,HS.o⟩
  case round =>
   obtain⟨j,xs,hj,rfl,hst⟩:=hrel;have HT:=hide hst;have hvw:=hst.hv;have hgw:=hst.hg;have hgV:=hst.hgv;clear hst;by_cases hlt:j<4
   ·have j0:(0:Int)<=(j:Int):=by omega
    have j1:(j:Int)<4:=by omega
    go_wp2_with fail
    refine(zl7 w0 wr c a len cap HO.o hlen HT.o.dr.cur (by have:=HT.o.var.lt;omega)).mono ?_;rintro e w3 ⟨n,hn,rfl,D3⟩;have H3:=hide (HT.o.drews D3);clear D3;go_wp2_with fail
    refine(zao w0 w3 c a len cap 8 HO.o hlen H3.o.dr.cur dC dC).mono ?_;rintro e w4 ⟨z,hz,rfl,D4⟩;have H4:=hide (H3.o.drews D4);have H5:=hide (H4.o.alloc (.cells #[.string n,.int .i64 (1+(z:Int))] 90));have HN5:=hide (AtC.new w4 90 #[.string n,.int .i64 (1+(z:Int))]);obtain⟨v0,v1,v2,vl⟩:=H4.o.var.three;have hVl:V<w4.1.size:=vl;clear D4 H3;go_wp2_with fail
    have HXL:=hide H5.o.once.1;refine(zju true _ xs ⟨#[]⟩ n _ (by have:=H5.o.own.rsl;exact this) (by have:=H5.o.once.1;omega)).mono ?_;rintro e w5 ⟨r,rfl,HSL,B5⟩;have H6:=hide (H5.o.over B5);have HN6:=hide (HN5.o.over B5);have HR:Hid (r<0->∀s∈xs,s.1≠n):=hide (fun hr=>zl8 HSL hr (nmS_sz n hn).1);clear HSL B5 H5 HN5 H4 v0 v1 v2;by_cases hneg:r<0
    ·have hd:decide (r<0)=true:=by simpa using hneg
     have h5l:V<w5.1.size:=H6.o.var.lt;go_wp2_with fail
     refine(zbk w0 w5 c a len cap 2 HO.o hlen H6.o.dr.cur dC dC).mono ?_;rintro e w6 ⟨x6,rfl,D6⟩;have H7:=hide (H6.o.drews D6);have HN7:=hide (HN6.o.grown D6.2 sO);clear D6 H6 HN6
     cases hx6:(x6==0)with
     | true =>
      clear hx6;obtain⟨v0,v1,v2,vl7⟩:=H7.o.var.three;obtain⟨n0,n1,nl⟩:=HN7.o.two;have O7:SOwns w6 (w.1.size+1) 90 (.slice (some ⟨g,0,none⟩) xs.length c4) xs:=by rw[H7.o.once.1];exact H7.o.own
      obtain⟨g3,c3,e3,k1,k2,k3,k4,k5,-⟩:=O7.at j (by rw[H7.o.once.1];exact hlt);simp only[Value.slice.injEq,Option.some.injEq,Addr.mk.injEq]at e3;obtain⟨⟨rfl,-,-⟩,-,rfl⟩:=e3;have H8:=hide (H7.o.put hlt n (1+(z:Int)) hn (HR.o hneg) oM);clear O7 k4 HN7;go_wp2;go_roundw
      case rel=>exact⟨j+1,_,by omega,by go_num,H8.o⟩
      case measure=>simp[intOf];omega
     | false =>
      clear hx6 HN7;go_wp2;go_roundw
      case rel=>exact⟨j+1,_,by omega,by go_num,H7.o⟩
      case measure=>simp[intOf];omega
    ·have hd:decide (r<0)=false:=by simpa using hneg
     clear HN6;go_wp2;go_roundw
     case rel=>exact⟨j+1,_,by omega,by go_num,H6.o⟩
     case measure=>simp[intOf];omega
   ·have H3:=HT;obtain⟨q0,q1,q2,ql⟩:=HT.o.res.three;obtain⟨f0,f1,f2⟩:=HT.o.res.frz;obtain⟨v0,v1,v2,vl⟩:=HT.o.var.three;go_wp2;refine bodyPost_ret (v:=.agg #[.bool true,.slice (some ⟨g,0,none⟩) 4 c4,.string ⟨#[]⟩]) sQ3 rfl ⟨true,_,⟨#[]⟩,xs,rfl,?_,HT.o.once.kok,?_⟩
    ·exact(((HT.o.own.setCell_low oM _).setCell_low oM _).setCell_low oM _).base_le oM
    ·exact((HT.o.dr.setCell hcw nR _).setCell hcw nR _).setCell hcw nR _
namespace Xd
def MkS(n:Nat)(T:TypeId)(cs:Array Value):Mk:=.val [] (fun lo hi w v=>v=.slice (some ⟨lo,0,none⟩) n n/\hi=lo+1/\AtC w lo T cs) (fun _ _ _ _ _ h hb=>⟨h.1,h.2.1,h.2.2.over hb⟩)
def MkM(k l n1 n2 n3 n4 n5:Nat):Mk:=⟨[k,l],fun _ _ _ v x=>∃a1 c1 a2 c2 a3 c3 a4 c4 a5 c5,x k=.agg #[.slice a1 n1 c1,.slice a2 n2 c2,.slice a3 n3 c3,.slice a4 n4 c4]/\x l=.slice a5 n5 c5/\v=.agg #[.slice a1 n1 c1,.slice a2 n2 c2,.slice a3 n3 c3,.slice a4 n4 c4,.slice a5 n5 c5,.slice none 0 0,.int .i64 1],fun _ _ _ _ _ _ h _=>h,fun _ _ _ _ x x' e h=>by
 obtain⟨a1,c1,a2,c2,a3,c3,a4,c4,a5,c5,h1,h2,h3⟩:=h;exact⟨a1,c1,a2,c2,a3,c3,a4,c4,a5,c5,by rw[←e k sI,h1],by rw[←e l sI,h2],h3⟩⟩
def newM(xs ys:List Bool)(is:List Ino)(bs:List Blk):MD:=⟨xs,ys,is,bs,List.replicate 21 false,[],1⟩
def fl21:Array Value:=(fc (List.replicate 21 false)).toArray
theorem zl9{w:World}{lo hi g:Nat}{u v iv bv:Value}{xs ys:List Bool}{is:List Ino}{bs:List Blk}(h:DO w (fun q=>lo<=q/\q<hi) u v iv bv xs ys is bs)(hg:AtC w g 4 fl21)(ha:hi<=g\/g+1<=lo){B:Nat}(hB:B<=lo)(hBg:B<=g):
  MO w (fun q=>B<=q) u v iv bv (.slice (some ⟨g,0,none⟩) 21 21) (.slice none 0 0) (newM xs ys is bs):=by
 refine⟨_,fun q=>q=g,fun _=>False,[],h,?_,fun k hk=>?_,GN.nil _ _,fun k hk=>⟨fun e=>by omega,id⟩,fun k hk e=>e,fun k hk=>?_⟩
 ·exact⟨by rfl,.inr ⟨g,21,fl21,rfl,Nat.zero_le _,hg,Nat.le_refl _,by unfold maxLen;decide,rfl,rfl⟩⟩
 ·simpa[Value.ownBlock]using hk.symm
 ·rcases hk with hk|hk|hk
  ·omega
  ·omega
  ·exact hk.elim
theorem make21(w:World):(Instr.makeSlice 24 (.int .i64 21) (.int .i64 21)).run Tryz.prog w=.ok (.slice (some ⟨w.1.size,0,none⟩) 21 21) (w.alloc (.cells fl21 4)):=by
 have:=zi3 21 dC w;rw[zi4 _ 21 (fc (List.replicate 21 false)) (by simp[fc])]at this;exact this
theorem zkj(u v iv bv:Value)(xs ys:List Bool)(is:List Ino)(bs:List Blk)(w:World)(h:DR w u v iv bv xs ys is bs)(hB:Big 1048576 xs ys is bs):
  Calls Tryz.prog 141 #[.agg #[u,v,iv,bv]] w fun e w'=>∃u' v' i' b' d' p',e=.returned (.agg #[u',v',i',b',d',p',.int .i64 1])/\MO w' (fun k=>w.1.size<=k) u' v' i' b' d' p' (newM xs ys is bs)/\Below w.1.size w w':=by
 have H:=hide h;have HG:=hide hB;have mk:=make21;obtain⟨a1,c1,a2,c2,a3,c3,a4,c4,rfl,rfl,rfl,rfl⟩:=h.form;clear hB h;go_enter Tryz.func141,Tryz.ntmps141
 go_wp2_with fail
 have HC:Hid (∀W,Below ((w.alloc (.cells #[.slice a1 xs.length c1,.slice a2 ys.length c2,.slice a3 is.length c3,.slice a4 bs.length c4] 30)).alloc (.cells noM 33)).drew.heap.size ((w.alloc (.cells #[.slice a1 xs.length c1,.slice a2 ys.length c2,.slice a3 is.length c3,.slice a4 bs.length c4] 30)).alloc (.cells noM 33)).drew W->AtC W w.1.size 30 #[.slice a1 xs.length c1,.slice a2 ys.length c2,.slice a3 is.length c3,.slice a4 bs.length c4]/\AtC W (w.1.size+1) 33 noM/\Below w.1.size w W/\w.1.size+1+1<=W.1.size):=fun W b=>by
  have b2:=zac b;have k1:=(AtC.new (w.alloc (.cells #[.slice a1 xs.length c1,.slice a2 ys.length c2,.slice a3 is.length c3,.slice a4 bs.length c4] 30)) 33 noM).over b2;have sz:=b2.size;simp at k1 sz;exact⟨((AtC.new w 30 _).alloc _).over b2,k1,(((Below.refl _ w).alloc nR _).alloc sI _).trans (b2.mono sO),sz⟩
 refine zbb kL [0,1,2,3] [4] (fun i=>match i with|0=>.const [] (.agg #[.slice a1 xs.length c1,.slice a2 ys.length c2,.slice a3 is.length c3,.slice a4 bs.length c4])|1=>MkD 0 xs ys is bs|2=>MkS 21 4 fl21|3=>MkM 1 2 xs.length ys.length is.length bs.length 21|_=>.triv) (fun x=>⟨#[.agg #[.slice a1 xs.length c1,.slice a2 ys.length c2,.slice a3 is.length c3,.slice a4 bs.length c4],.pointer (some ⟨w.1.size,0,none⟩),.pointer (some ⟨w.1.size+1,0,none⟩),x 0,x 1,x 2,x 3],[]⟩) (fun i=>match i with|0=>undef|1=>undef|2=>undef|3=>undef|_=>undef) rfl kL kL kL rfl ?_ ?_
 ·intro jo hj so x iw W hd hp K hK;simp only[List.mem_cons,List.not_mem_nil,or_false]at hj;rcases hj with rfl|rfl|rfl|rfl<;>refine wpOp_step (o:=_) rfl fun K' hK'=>?_<;>have HK:=hide (fun(v:Value) (W':World) h1 h2=>hK' _ _ (hK v W' h1 h2))<;>simp only[upd,Nat.reduceEqDiff,if_true,if_false]at HK
  ·have k0:=(HC.o W hp.bel).1;obtain⟨q0,q1,q2,q3⟩:=AtC.four k0;clear k0;go_simp;exact HK.o _ _ bR rfl
  ·have e0:x 0=.agg #[.slice a1 xs.length c1,.slice a2 ys.length c2,.slice a3 is.length c3,.slice a4 bs.length c4]:=hp.post 0 (hd 0 mz0);have bl:=(HC.o W hp.bel).2.2.1;simp only[e0]at HK ⊢;go_simp;refine(zbq _ _ _ _ xs ys is bs W (H.out.below bl nR) HG.o).mono ?_;rintro e w6 ⟨p1,p2,p3,p4,rfl,O6,B6⟩;obtain⟨b1,d1,b2,d2,b3,d3,b4,d4,rfl,rfl,rfl,rfl⟩:=O6.dr.form;go_simp;exact HK.o _ _ B6 ⟨b1,d1,b2,d2,b3,d3,b4,d4,rfl,O6.bound⟩
  ·exact cQ112
  ·have e1:∃a1 c1 a2 c2 a3 c3 a4 c4,x 1=.agg #[.slice a1 xs.length c1,.slice a2 ys.length c2,.slice a3 is.length c3,.slice a4 bs.length c4]/\DO W (fun q=>(iw 1).1<=q/\q<(iw 1).2) (.slice a1 xs.length c1) (.slice a2 ys.length c2) (.slice a3 is.length c3) (.slice a4 bs.length c4) xs ys is bs:=hp.post 1 (hd 1 mz0);have e2:x 2=.slice (some ⟨(iw 2).1,0,none⟩) 21 21/\(iw 2).2=(iw 2).1+1/\AtC W (iw 2).1 4 fl21:=hp.post 2 (hd 2 mz1);obtain⟨b1,d1,b2,d2,b3,d3,b4,d4,e1,-⟩:=e1
   replace e2:=e2.1
   have HE:=hide (And.intro e1 e2);simp only[e1,e2]at HK ⊢;clear e1 e2;go_simp;exact HK.o _ _ bR ⟨b1,d1,b2,d2,b3,d3,b4,d4,_,_,by rw[zav _ _ _ _ dC];exact HE.o.1,by rw[zav _ _ _ _ dC];exact HE.o.2,rfl⟩
 ·intro x iw W hp;obtain⟨b1,d1,b2,d2,b3,d3,b4,d4,e1,O1⟩:=hp.post 1 dC;obtain⟨e2,z2,A2⟩:=hp.post 2 dC;obtain⟨g1,h1,g2,h2,g3,h3,g4,h4,g5,h5,f1,f2,e3⟩:=hp.post 3 dC;rw[e1]at f1;rw[e2]at f2;simp only[Value.agg.injEq,Array.mk.injEq,List.cons.injEq,Value.slice.injEq,true_and,and_true]at f1 f2;obtain⟨⟨rfl,rfl⟩,⟨rfl,rfl⟩,⟨rfl,rfl⟩,rfl,rfl⟩:=f1;obtain⟨rfl,rfl⟩:=f2;have p12:=hp.apart 1 dC 2 dC dC;have l1:=hp.lo 1 dC;have l2:=hp.lo 2 dC;simp[World.drew]at l1 l2;obtain⟨-,kR,bel,-⟩:=HC.o W hp.bel;have hM:=zl9 O1 A2 oM (B:=w.1.size+1+1) l1.1 l2.1;obtain⟨r0,r1,r2,r3,r4,r5,r6⟩:=AtC.sev kR;have v0:=kR.frozen 0;have v1:=kR.frozen 1;have v2:=kR.frozen 2;have v3:=kR.frozen 3;have v4:=kR.frozen 4;have v5:=kR.frozen 5;have v6:=kR.frozen 6;generalize (iw 2).1=g at*;have HM:=hide (And.intro hM bel);clear hp O1 A2 z2 p12 l1 l2 kR bel hM HC mk;simp only[e1,e2,e3];clear e1 e2 e3;go_wp2_with fail
  rw[List.filterMap_nil];go_wp2;refine bodyPost_ret (v:=.agg #[.slice b1 xs.length d1,.slice b2 ys.length d2,.slice b3 is.length d3,.slice b4 bs.length d4,.slice (some ⟨g,0,none⟩) 21 21,.slice none 0 0,.int .i64 1]) sR7 rfl ⟨_,_,_,_,_,_,rfl,?_,?_⟩
  ·exact(HM.o.1.of_heap fun k hk _=>((((((heap_setCell_other _ ⟨w.1.size+1,6,none⟩ k _ oA).trans (heap_setCell_other _ ⟨w.1.size+1,5,none⟩ k _ oA)).trans (heap_setCell_other _ ⟨w.1.size+1,4,none⟩ k _ oA)).trans (heap_setCell_other _ ⟨w.1.size+1,3,none⟩ k _ oA)).trans (heap_setCell_other _ ⟨w.1.size+1,2,none⟩ k _ oA)).trans (heap_setCell_other _ ⟨w.1.size+1,1,none⟩ k _ oA)).trans (heap_setCell_other _ ⟨w.1.size+1,0,none⟩ k _ oA)).mono fun k hk=>by omega
  ·exact(((((((HM.o.2).setCell sI _).setCell sI _).setCell sI _).setCell sI _).setCell sI _).setCell sI _).setCell sI _
end Xd
theorem zdf(a1 a2:Option Addr)(n m c1 c2:Nat)(w:World):
  Calls Tryz.prog 133 #[.agg #[.slice a1 n c1,.slice a2 m c2]] w fun e w'=>e=.returned (.bool (okB n m))/\Below w.1.size w w':=by
 by_cases h1:n=16
 ·by_cases h2:m=8
  ·subst h1 h2;go_enter Tryz.func133,Tryz.ntmps133
   go_wp2;go_ret;exact⟨rfl,by go_grown⟩
  ·subst h1;have q:((m:Int)==8)=false:=by simp;omega
   rw[show okB 16 m=false by simp[okB,h2]];go_enter Tryz.func133,Tryz.ntmps133
   go_wp2;go_ret;exact⟨rfl,by go_grown⟩
 ·have q:((n:Int)==16)=false:=by simp;omega
  rw[show okB n m=false by simp[okB,h1]];go_enter Tryz.func133,Tryz.ntmps133
  go_wp2;go_ret;exact⟨rfl,by go_grown⟩
theorem zjb{xs ys:List Bool}{is:List Ino}{bs:List Blk}(h:okB xs.length ys.length=false):false=za2 xs ys is bs:=by unfold za2;rw[h];rfl
theorem diskOk_i{xs ys:List Bool}{is:List Ino}{bs:List Blk}(h:is.length≠8):false=za2 xs ys is bs:=by unfold za2;simp[h]
theorem diskOk_b{xs ys:List Bool}{is:List Ino}{bs:List Blk}(h:bs.length≠16):false=za2 xs ys is bs:=by unfold za2;simp[h]
theorem zma{xs ys:List Bool}{is:List Ino}{bs:List Blk}(h:zgc is=false):false=za2 xs ys is bs:=by unfold za2;simp[h]
theorem zmb{xs ys:List Bool}{is:List Ino}{bs:List Blk}(h:zgd bs=false):false=za2 xs ys is bs:=by unfold za2;simp[h]
theorem zkk{xs ys:List Bool}{is:List Ino}{bs:List Blk}(h:okB xs.length ys.length=true)(h1:is.length=8)(h2:bs.length=16)(h3:zgc is=true)(h4:zgd bs=true):true=za2 xs ys is bs:=by unfold za2;simp[h,h1,h2,h3,h4]
theorem zdg(u v iv bv:Value)(xs ys:List Bool)(is:List Ino)(bs:List Blk)(w:World)(h:DR w u v iv bv xs ys is bs)(hB:∀(j:Nat)(h:j<bs.length)(k:Nat)(h':k<bs[j].2.1.length),bs[j].2.1[k].1.size<=1048576):
  Calls Tryz.prog 108 #[.agg #[u,v,iv,bv]] w fun e w'=>e=.returned (.bool (za2 xs ys is bs))/\Below w.1.size w w':=by
 have H:=hide h;have HG:=hide hB;obtain⟨a3,c3,ri,-,hii⟩:=h.i.ino;obtain⟨a4,c4,rb,-,hkk⟩:=h.k.blk;have HI:=hide hii;have HK:=hide hkk;obtain⟨a1,c1,a2,c2,-,-,-,-,rfl,rfl,-,-⟩:=h.form;subst ri rb;obtain⟨x,hx⟩:∃x,okB xs.length ys.length=x:=⟨_,rfl⟩
 have HX:=hide hx;obtain⟨n,hn⟩:∃n,xs.length=n:=⟨_,rfl⟩
 obtain⟨m,hm⟩:∃m,ys.length=m:=⟨_,rfl⟩
 obtain⟨ni,hni⟩:∃ni,is.length=ni:=⟨_,rfl⟩
 obtain⟨nb,hnb⟩:∃nb,bs.length=nb:=⟨_,rfl⟩
 have HN:=hide (And.intro hni hnb);rw[hn,hm]at hx;rw[hn,hm,hni,hnb];have C:=hide (zdf a1 a2 n m c1 c2);rw[hx]at C;clear h hB hii hkk hx hn hm hni hnb;go_enter Tryz.func108,Tryz.ntmps108
 go_wp2_with fail
 refine(C.out _).mono ?_;rintro e w1 ⟨rfl,B1⟩;have BW:Below w.1.size w w1:=((Below.refl _ w).alloc nR _).trans (B1.mono sI);have K0:AtC w1 w.1.size 30 #[.slice a1 n c1,.slice a2 m c2,.slice a3 ni c3,.slice a4 nb c4]:=(AtC.new w 30 _).over B1;have p2:=K0.c2;have p3:=K0.c3;have HBW:=hide BW;have HK0:=hide K0;clear B1 BW K0 C
 cases x with
 | false =>
  go_wp2;go_ret;exact⟨zaw (zjb HX.o),HBW.o⟩
 | true =>
  by_cases h8:ni=8
  ·by_cases h16:nb=16
   ·subst h8 h16;go_wp2;go_loopw [3] (fun i wr=>∃j:Nat,j<=8/\i=.int .i64 j/\Hid (∀(k:Nat)(h:k<is.length),k<j->inoOk is[k]=true)/\Hid (Below w1.1.size w1 wr)) (fun i _=>8-(intOf i).toNat)
    case atStart=>exact⟨0,Nat.zero_le _,rfl,fun _ _ h=>absurd h (Nat.not_lt_zero _),Below.refl _ _⟩
    case round =>
     obtain⟨j,hj,rfl,HS,HBR⟩:=hrel;have K0:=HK0.o.over HBR.o;have p4:=K0.c2;have p5:=K0.c3;have HB0:=hide (HBW.o.trans (HBR.o.mono HBW.o.size));clear K0;by_cases hlt:j<8
     ·obtain⟨g1,o1,pp,rfl,hg1,m1,m2,m3,hr1⟩:=HI.o j (by rw[HN.o.1];exact hlt);have q1:=(HB0.o.cell (p:=⟨g1,o1+j*3,none⟩) hg1).trans m1;have q2:=(HB0.o.cell (p:=⟨g1,o1+j*3+1,none⟩) hg1).trans m2;have q3:=(HB0.o.cell (p:=⟨g1,o1+j*3+2,none⟩) hg1).trans m3;obtain⟨y,hy⟩:∃x,is[j]'(by rw[HN.o.1];exact hlt)=x:=⟨_,rfl⟩
      obtain⟨y,s,z⟩:=y;rw[hy]at q1 q2 hr1;obtain⟨pa,pc,rfl⟩:=hr1.form;simp only at q1 q2 q3 hr1;have HR:=hide (hr1.below HB0.o nR);have j0:(0:Int)<=(j:Int):=by omega
      have j1:(j:Int)<8:=by omega
      have HY:=hide hy;clear m1 m2 m3 hr1 hy
      cases hq:okL y s z with
      | true =>
       have HQ:=hide hq;clear hq;go_wp2_with (go_at_call 134;refine(ze1 _ _ z _ _ HR.o).mono ?_;rw[HQ.o];rintro e w2 ⟨rfl,B2⟩;have HB2:=hide (HBR.o.trans (B2.mono HBR.o.size));clear B2)
       go_roundw
       case rel =>
        refine⟨j+1,by omega,by go_num,fun k hk hkj=>?_,HB2.o⟩;by_cases hkk:k=j
        ·subst hkk;rw[HY.o];exact HQ.o
        ·exact HS.o k hk oM
       case measure=>simp[intOf];omega
      | false =>
       have hno:zgc is=false:=all_no (by rw[HN.o.1];exact hlt) (by rw[HY.o];exact hq);have HNO:=hide hno;have HQ:=hide hq;clear hq hno;go_wp2_with (go_at_call 134;refine(ze1 _ _ z _ _ HR.o).mono ?_;rw[HQ.o];rintro e w2 ⟨rfl,B2⟩;have HB2:=hide (HB0.o.trans (B2.mono HB0.o.size));clear B2)
       go_ret;exact⟨zaw (zma HNO.o),HB2.o⟩
     ·have hyes:zgc is=true:=zl4 fun k hk=>HS.o k hk (by rw[HN.o.1]at hk;omega);have HYS:=hide hyes;clear hyes;go_wp2;go_loopw [4] (fun i wq=>∃j:Nat,j<=16/\i=.int .i64 j/\Hid (∀(k:Nat)(h:k<bs.length),k<j->blkOk bs[k]=true)/\Hid (Below wr.1.size wr wq)) (fun i _=>16-(intOf i).toNat)
      case atStart=>exact⟨0,Nat.zero_le _,rfl,fun _ _ h=>absurd h (Nat.not_lt_zero _),Below.refl _ _⟩
      case round =>
       obtain⟨j,hj,rfl,HS2,HBQ⟩:=hrel;have HB1:=hide (HB0.o.trans (HBQ.o.mono HB0.o.size));have K1:=HK0.o.over (HBR.o.trans (HBQ.o.mono HBR.o.size));have p6:=K1.c3;clear K1;by_cases hlt2:j<16
       ·obtain⟨g1,o1,pp,rfl,hg1,m1,m2,m3,hr1⟩:=HK.o j (by rw[HN.o.2];exact hlt2);have q1:=(HB1.o.cell (p:=⟨g1,o1+j*3,none⟩) hg1).trans m1;have q2:=(HB1.o.cell (p:=⟨g1,o1+j*3+1,none⟩) hg1).trans m2;have q3:=(HB1.o.cell (p:=⟨g1,o1+j*3+2,none⟩) hg1).trans m3;have key:∀b:Blk,bs[j]'(by rw[HN.o.2];exact hlt2)=b->∀(k:Nat)(h':k<b.2.1.length),b.2.1[k].1.size<=1048576:=by
         rintro b rfl;exact HG.o j _
        obtain⟨y,hy⟩:∃x,bs[j]'(by rw[HN.o.2];exact hlt2)=x:=⟨_,rfl⟩
        obtain⟨y,s,z⟩:=y;rw[hy]at q1 q3 hr1;have hbg:∀(k:Nat)(h':k<s.length),s[k].1.size<=1048576:=key _ hy;obtain⟨pa,pc,rfl⟩:=hr1.form;simp only at q1 q2 q3 hr1;have HR:=hide (hr1.below HB1.o nR);have HBG:=hide hbg;have j0:(0:Int)<=(j:Int):=by omega
        have j1:(j:Int)<16:=by omega
        have HY:=hide hy;clear m1 m2 m3 hr1 hy hbg key
        cases hq:zaq y s z with
        | true =>
         have HQ:=hide hq;clear hq;go_wp2_with (go_at_call 135;refine(zb3 _ _ _ s _ HR.o HBG.o).mono ?_;rw[HQ.o];rintro e w2 ⟨rfl,B2⟩;have HB2:=hide (HBQ.o.trans (B2.mono HBQ.o.size));clear B2)
         go_roundw
         case rel =>
          refine⟨j+1,by omega,by go_num,fun k hk hkj=>?_,HB2.o⟩;by_cases hkk:k=j
          ·subst hkk;rw[HY.o];exact HQ.o
          ·exact HS2.o k hk oM
         case measure=>simp[intOf];omega
        | false =>
         have hno:zgd bs=false:=all_no (by rw[HN.o.2];exact hlt2) (by rw[HY.o];exact hq);have HNO:=hide hno;have HQ:=hide hq;clear hq hno;go_wp2_with (go_at_call 135;refine(zb3 _ _ _ s _ HR.o HBG.o).mono ?_;rw[HQ.o];rintro e w2 ⟨rfl,B2⟩;have HB2:=hide (HB1.o.trans (B2.mono HB1.o.size));clear B2)
         go_ret;exact⟨zaw (zmb HNO.o),HB2.o⟩
       ·have hyes:zgd bs=true:=zl4 fun k hk=>HS2.o k hk (by rw[HN.o.2]at hk;omega);have HYS2:=hide hyes;clear hyes;go_wp2;go_ret;exact⟨zaw (zkk HX.o HN.o.1 HN.o.2 HYS.o HYS2.o),HB1.o⟩
   ·have hne:bs.length≠16:=by rw[HN.o.2];exact h16
    have HNE:=hide hne;have hb16:((nb:Int) != 16)=true:=by simp;omega
    clear hne;subst h8;go_wp2;go_ret;exact⟨zaw (diskOk_b HNE.o),HBW.o⟩
  ·have hne:is.length≠8:=by rw[HN.o.1];exact h8
   have HNE:=hide hne;have hb8:((ni:Int) != 8)=true:=by simp;omega
   clear hne;go_wp2;go_ret;exact⟨zaw (diskOk_i HNE.o),HBW.o⟩
namespace Kit
def AnyB(e:Ending):Prop:=∃r:Bool,e=.returned (.bool r)
end Kit
variable {Z : ZT}
theorem zmc(u v iv bv dv pv:Value)(m:MD)(i:Nat)(w:World)(h:MR w u v iv bv dv pv m)(hm:Sh Z m)(hi:i<m.6.length):
  Calls Tryz.prog 222 #[.agg #[u,v,iv,bv,dv,pv,.int .i64 m.nx],.int .i64 i] w fun e w'=>AnyB e/\Below w.1.size w w':=by
 obtain⟨a1,c1,a2,c2,a3,c3,a4,c4,a5,c5,a6,c6,rfl,rfl,rfl,rfl,rfl,rfl⟩:=h.form;obtain⟨a,c,ei,-,hc⟩:=h.p.dep;simp only[Value.slice.injEq,true_and]at ei;obtain⟨rfl,rfl⟩:=ei;have HC:=hide hc;obtain⟨g,off,p,rfl,hg,nn,hp⟩:=hc i hi;have hdk:=hm.dd _ (List.getElem_mem hi);have hnx1:1<=m.nx:=hm.nx.1;have hnx2:m.nx<=100000:=hm.nx.2;have hdl:m.6.length<=40:=hm.l;obtain⟨X,hX⟩:∃X,m.ds[i]=X:=⟨_,rfl⟩
 rw[hX]at nn hp hdk;obtain⟨id,kd,io,pt,bk,sl,nm,bt,ot,af,bl⟩:=X;simp only at hp;obtain⟨pa,pc,rfl,hpc⟩:=hp;have HPC:=hide hpc;simp only[DCells]at nn;obtain⟨m0,m1,m2,m3,m4,m5,m6,m7,m8,m9,m10⟩:=nn;have bA:Below w.1.size w (w.alloc (.cells (M7 m a1 c1 a2 c2 a3 c3 a4 c4 a5 c5 (some ⟨g,off,none⟩) c6) 33)):=(Below.refl _ w).alloc nR _;have bW:Below w.1.size w ((w.alloc (.cells (M7 m a1 c1 a2 c2 a3 c3 a4 c4 a5 c5 (some ⟨g,off,none⟩) c6) 33)).alloc (.cells (K7 id kd io pt bk sl nm bt ot af pa bl.length pc) 42)):=bA.alloc sI _;have k0:(w.alloc (.cells (M7 m a1 c1 a2 c2 a3 c3 a4 c4 a5 c5 (some ⟨g,off,none⟩) c6) 33)).cell? ⟨g,off+i*11,none⟩=some (.int .i64 id):=(bA.cell (p:=⟨g,off+i*11,none⟩) hg).trans m0;have k1:(w.alloc (.cells (M7 m a1 c1 a2 c2 a3 c3 a4 c4 a5 c5 (some ⟨g,off,none⟩) c6) 33)).cell? ⟨g,off+i*11+1,none⟩=some (.int .i64 kd):=(bA.cell (p:=⟨g,off+i*11+1,none⟩) hg).trans m1;have k2:(w.alloc (.cells (M7 m a1 c1 a2 c2 a3 c3 a4 c4 a5 c5 (some ⟨g,off,none⟩) c6) 33)).cell? ⟨g,off+i*11+2,none⟩=some (.int .i64 io):=(bA.cell (p:=⟨g,off+i*11+2,none⟩) hg).trans m2;have k3:(w.alloc (.cells (M7 m a1 c1 a2 c2 a3 c3 a4 c4 a5 c5 (some ⟨g,off,none⟩) c6) 33)).cell? ⟨g,off+i*11+3,none⟩=some (.int .i64 pt):=(bA.cell (p:=⟨g,off+i*11+3,none⟩) hg).trans m3;have k4:(w.alloc (.cells (M7 m a1 c1 a2 c2 a3 c3 a4 c4 a5 c5 (some ⟨g,off,none⟩) c6) 33)).cell? ⟨g,off+i*11+4,none⟩=some (.int .i64 bk):=(bA.cell (p:=⟨g,off+i*11+4,none⟩) hg).trans m4;have k5:(w.alloc (.cells (M7 m a1 c1 a2 c2 a3 c3 a4 c4 a5 c5 (some ⟨g,off,none⟩) c6) 33)).cell? ⟨g,off+i*11+5,none⟩=some (.int .i64 sl):=(bA.cell (p:=⟨g,off+i*11+5,none⟩) hg).trans m5;have k6:(w.alloc (.cells (M7 m a1 c1 a2 c2 a3 c3 a4 c4 a5 c5 (some ⟨g,off,none⟩) c6) 33)).cell? ⟨g,off+i*11+6,none⟩=some (.string nm):=(bA.cell (p:=⟨g,off+i*11+6,none⟩) hg).trans m6;have k7:(w.alloc (.cells (M7 m a1 c1 a2 c2 a3 c3 a4 c4 a5 c5 (some ⟨g,off,none⟩) c6) 33)).cell? ⟨g,off+i*11+7,none⟩=some (.bool bt):=(bA.cell (p:=⟨g,off+i*11+7,none⟩) hg).trans m7;have k8:(w.alloc (.cells (M7 m a1 c1 a2 c2 a3 c3 a4 c4 a5 c5 (some ⟨g,off,none⟩) c6) 33)).cell? ⟨g,off+i*11+8,none⟩=some (.bool ot):=(bA.cell (p:=⟨g,off+i*11+8,none⟩) hg).trans m8;have k9:(w.alloc (.cells (M7 m a1 c1 a2 c2 a3 c3 a4 c4 a5 c5 (some ⟨g,off,none⟩) c6) 33)).cell? ⟨g,off+i*11+9,none⟩=some (.int .i64 af):=(bA.cell (p:=⟨g,off+i*11+9,none⟩) hg).trans m9;have k10:(w.alloc (.cells (M7 m a1 c1 a2 c2 a3 c3 a4 c4 a5 c5 (some ⟨g,off,none⟩) c6) 33)).cell? ⟨g,off+i*11+10,none⟩=some (.slice pa bl.length pc):=(bA.cell (p:=⟨g,off+i*11+10,none⟩) hg).trans m10;have X0:AtC (w.alloc (.cells (M7 m a1 c1 a2 c2 a3 c3 a4 c4 a5 c5 (some ⟨g,off,none⟩) c6) 33)) w.1.size 33 (M7 m a1 c1 a2 c2 a3 c3 a4 c4 a5 c5 (some ⟨g,off,none⟩) c6):=AtC.new w 33 _;have z5:=X0.c5;have X1:AtC ((w.alloc (.cells (M7 m a1 c1 a2 c2 a3 c3 a4 c4 a5 c5 (some ⟨g,off,none⟩) c6) 33)).alloc (.cells (K7 id kd io pt bk sl nm bt ot af pa bl.length pc) 42)) w.1.size 33 (M7 m a1 c1 a2 c2 a3 c3 a4 c4 a5 c5 (some ⟨g,off,none⟩) c6):=X0.over (bR.alloc nR _);have X2:AtC ((w.alloc (.cells (M7 m a1 c1 a2 c2 a3 c3 a4 c4 a5 c5 (some ⟨g,off,none⟩) c6) 33)).alloc (.cells (K7 id kd io pt bk sl nm bt ot af pa bl.length pc) 42)) (w.1.size+1) 42 (K7 id kd io pt bk sl nm bt ot af pa bl.length pc):=by have:=AtC.new (w.alloc (.cells (M7 m a1 c1 a2 c2 a3 c3 a4 c4 a5 c5 (some ⟨g,off,none⟩) c6) 33)) 42 (K7 id kd io pt bk sl nm bt ot af pa bl.length pc);simpa using this
 have e0:=X1.c0;have e1:=X1.c1;have e2:=X1.c2;have e3:=X1.c3;have e4:=X1.c4;have e5:=X1.c5;have e6:=X1.c6;have f0:=X2.c0;have f1:=X2.c1;have f2:=X2.c2;have f3:=X2.c3;have f4:=X2.c4;have f5:=X2.c5;have f6:=X2.c6;have f7:=X2.c7;have f8:=X2.c8;have f9:=X2.c9;have f10:=X2.c10;have HBW:=hide bW;have HH:=hide h;have HM:=hide hm;have i0:(0:Int)<=(i:Int):=by omega
 have i1:(i:Int)<(m.6.length:Int):=by omega
 have hbn:bl.length<=2:=hdk.bn;have hio1:1<=io:=hdk.io.1;have hio8:io<=8:=hdk.io.2;have hpt0:0<=pt:=hdk.pt.1;have hpt1:pt<=1:=hdk.pt.2;have hbk0:0<=bk:=hdk.bk.1;have hbk16:bk<=16:=hdk.bk.2;have hsl0:0<=sl:=hdk.sl.1;have hsl3:sl<=3:=hdk.sl.2;have HNM:Hid (nm.size<=6):=hdk.nm;clear h hm hdk hX hc hpc bA bW X0 X1 X2 m0 m1 m2 m3 m4 m5 m6 m7 m8 m9 m10;have CI:Hid (∀(x y z:Int)(W:World),Calls Tryz.prog 50 #[.int .i64 x,.int .i64 y,.int .i64 z] W fun e w'=>AnyB e/\w'=W):=fun x y z W=>(zai x y z W).mono fun e w' ⟨h1,h2⟩=>⟨⟨_,h1⟩,h2⟩
 go_enter Tryz.func222,Tryz.ntmps222
 go_upto_region 2 with fail
 generalize hWW:((w.alloc (.cells (M7 m a1 c1 a2 c2 a3 c3 a4 c4 a5 c5 (some ⟨g,off,none⟩) c6) 33)).alloc (.cells (K7 id kd io pt bk sl nm bt ot af pa bl.length pc) 42))=W0 at*;clear hWW;clear k0 k1 k2 k3 k4 k5 k6 k7 k8 k9 k10 z5;go_cut [58]from 8 to 58 (fun c wx=>(∃r,c=.bool r)/\wx=W0)
 case first =>
  go_wp2_with (go_at_call 50;refine(CI.out _ _ _ _).mono ?_;rintro e w3 ⟨⟨r,rfl⟩,rfl⟩;cases r)
  all_goals (go_meet;exact⟨⟨_,rfl⟩,rfl⟩)
 case rest =>
  obtain⟨⟨r,rfl⟩,rfl⟩:=hcut
  cases r
  case true =>
   go_wp2;go_ret;exact⟨⟨_,rfl⟩,HBW.o⟩
  case false =>
   obtain⟨wX,rfl⟩:∃wX,wX=wc:=⟨wc,rfl⟩
   go_wp2_with fail
   go_loopw [6] (fun i' wr=>∃q:Nat,q<=bl.length/\i'=.int .i64 q/\wX=wr) (fun i' _=>bl.length-(intOf i').toNat)
   case atStart=>exact⟨0,Nat.zero_le _,rfl,rfl⟩
   case round =>
    obtain⟨q,hq,rfl,rfl⟩:=hrel;by_cases hlt:q<bl.length
    ·obtain⟨g4,o4,rfl,hg4,r4⟩:=HPC.o q hlt;have y4:=(HBW.o.cell (p:=⟨g4,o4+q,none⟩) hg4).trans r4;generalize bl[q]=pp at y4;have q0:(0:Int)<=(q:Int):=by omega
     have q1:(q:Int)<(bl.length:Int):=by omega
     clear r4;go_wp2_with (go_at_call 50;refine(CI.out _ _ _ _).mono ?_;rintro e w3 ⟨⟨r,rfl⟩,rfl⟩;cases r)
     ·go_ret;exact⟨⟨_,rfl⟩,HBW.o⟩
     ·go_roundw
      case rel=>exact⟨q+1,by omega,by go_num,by first| rfl|trivial⟩
      case measure=>simp[intOf];omega
    ·go_wp2_with fail
     go_loopw [7] (fun i' w'=>∃q:Nat,q<=i/\i'=.int .i64 q/\∃d,w'=wX.drewN d) (fun i' _=>i-(intOf i').toNat)
     case atStart=>exact⟨0,Nat.zero_le _,rfl,0,rfl⟩
     case round =>
      obtain⟨q,hq,rfl,d,rfl⟩:=hrel;by_cases hlt:q<i
      ·obtain⟨g5,o5,p5,e55,hg5,n5,-⟩:=HC.o q oM;simp only[Option.some.injEq,Addr.mk.injEq]at e55;obtain⟨rfl,rfl,-⟩:=e55;simp only[DCells]at n5;have y5:=(HBW.o.cell (p:=⟨g,off+q*11,none⟩) hg5).trans n5.1;generalize m.ds[q].id=jd at y5;have q0:(0:Int)<=(q:Int):=by omega
       have q1:(q:Int)<(m.6.length:Int):=by omega
       have q2:(q:Int)<(i:Int):=by omega
       clear n5;by_cases hid:jd=id
       ·subst hid;go_wp2_with fail
        exact cQ17
       ·go_wp2_with fail
        go_quiet(fail)
        go_wp2;go_roundw
        case rel=>exact⟨q+1,by omega,by go_num,_,rfl⟩
        case measure=>simp[intOf];omega
      ·clear HC;by_cases hk1:kd=1
       ·subst hk1;by_cases hb:0<bk
        ·exact cQ14
        ·have hbd:decide (0<bk)=false:=decide_eq_false hb;go_upto_region 17 with fail
         exact cQ17
       by_cases hk6:kd=6
       ·subst hk6;by_cases hb:0<bk
        ·exact cQ14
        ·have hbd:decide (0<bk)=false:=decide_eq_false hb;go_upto_region 17 with fail
         exact cQ17
       by_cases hk2:kd=2
       ·subst hk2;by_cases hb:0<bk
        ·exact cQ7
        ·have hbd:decide (0<bk)=false:=decide_eq_false hb;go_upto_region 20 with fail
         exact cQ17
       by_cases hk3:kd=3
       ·subst hk3;by_cases hb:0<bk
        ·exact cQ7
        ·have hbd:decide (0<bk)=false:=decide_eq_false hb;go_upto_region 20 with fail
         exact cQ17
       by_cases hk4:kd=4
       ·subst hk4;by_cases hb:0<bk
        ·obtain⟨j,rfl⟩:∃j:Nat,bk=(j:Int)+1:=⟨(bk-1).toNat,by omega⟩
         have hwj:IntKind.i64.wrap (j:Int)=(j:Int):=wrap_small _ oM oM;have hjl:j<m.4.length:=by rw[HM.o.b];omega
         have hkk:=HM.o.bb _ (List.getElem_mem hjl);obtain⟨qa,qc,qe,-,qh⟩:=HH.o.d.k;simp only[Value.slice.injEq,true_and]at qe;obtain⟨rfl,rfl⟩:=qe;obtain⟨g2,o2,⟨t0,t1,t2⟩,rfl,hg2,r0,r1,-,e0,rr,-⟩:=qh j hjl;simp only at r0 r1 e0 rr;subst e0;obtain⟨dd,hdd⟩:∃dd,m.bs[j].1=dd:=⟨_,rfl⟩
         rw[hdd]at r0;obtain⟨sa,sc,rfl,-,sh⟩:=rr;have hkn:=hkk.n;rw[hdd]at hkn;have y0:wX.cell? ⟨g2,o2+j*3,none⟩=some (.bool dd):=(HBW.o.cell (p:=⟨g2,o2+j*3,none⟩) hg2).trans r0;have y1:=(HBW.o.cell (p:=⟨g2,o2+j*3+1,none⟩) hg2).trans r1;have j0:(0:Int)<=(j:Int):=by omega
         have j1:(j:Int)<(m.4.length:Int):=by omega
         have hbd:decide (0<(j:Int)+1)=true:=decide_eq_true oM
         cases dd
         ·clear sh hkn hkk r0 r1 qh hdd;go_wp2;go_ret
          first| exact⟨⟨_,rfl⟩,below_drewN HBW.o _⟩| exact⟨⟨_,rfl⟩,below_drewN (below_drewN HBW.o _) _⟩
         ·clear sh hkn hkk r0 r1 qh hdd;go_wp2_with (go_at_call 165;refine(zcd nm _ (by have:=HNM.o;omega)).mono ?_;rintro e w7 ⟨rfl,B7⟩;have HB7:=hide B7;clear B7)
          go_ret;exact⟨⟨_,rfl⟩,(below_drewN HBW.o _).trans (HB7.o.mono (by have:=(below_drewN HBW.o d).size;exact this))⟩
        ·have hbd:decide (0<bk)=false:=decide_eq_false hb;go_wp2;go_ret
         first| exact⟨⟨_,rfl⟩,below_drewN HBW.o _⟩| exact⟨⟨_,rfl⟩,below_drewN (below_drewN HBW.o _) _⟩
       go_wp2;go_ret
       first| exact⟨⟨_,rfl⟩,below_drewN HBW.o _⟩| exact⟨⟨_,rfl⟩,below_drewN (below_drewN HBW.o _) _⟩
variable {Z : ZT}
theorem zb4(u v iv bv dv pv:Value)(m:MD)(w:World)(h:MR w u v iv bv dv pv m)(hm:Sh Z m):
  Calls Tryz.prog 192 #[.agg #[u,v,iv,bv,dv,pv,.int .i64 m.nx]] w fun e w'=>AnyB e/\Below w.1.size w w':=by
 obtain⟨a1,c1,a2,c2,a3,c3,a4,c4,a5,c5,a6,c6,rfl,rfl,rfl,rfl,rfl,rfl⟩:=h.form;have HH:=hide h;have HM:=hide hm;have hdl:m.6.length<=40:=hm.l;have hfl:((m.5.length:Int) != 21)=false:=by rw[hm.f];rfl
 have HW:Hid (∀W,Below (w.alloc (.cells (M7 m a1 c1 a2 c2 a3 c3 a4 c4 a5 c5 a6 c6) 33)).1.size (w.alloc (.cells (M7 m a1 c1 a2 c2 a3 c3 a4 c4 a5 c5 a6 c6) 33)) W->Below w.1.size w W):=fun W bb=>((Below.refl _ w).alloc nR _).trans (bb.mono sI);have HA:Hid (∀W,Below (w.alloc (.cells (M7 m a1 c1 a2 c2 a3 c3 a4 c4 a5 c5 a6 c6) 33)).1.size (w.alloc (.cells (M7 m a1 c1 a2 c2 a3 c3 a4 c4 a5 c5 a6 c6) 33)) W->AtC W w.1.size 33 (M7 m a1 c1 a2 c2 a3 c3 a4 c4 a5 c5 a6 c6)):=fun W bb=>(AtC.new w 33 _).over bb;have x0:=(AtC.new w 33 (M7 m a1 c1 a2 c2 a3 c3 a4 c4 a5 c5 a6 c6)).c0;have x1:=(AtC.new w 33 (M7 m a1 c1 a2 c2 a3 c3 a4 c4 a5 c5 a6 c6)).c1;have x2:=(AtC.new w 33 (M7 m a1 c1 a2 c2 a3 c3 a4 c4 a5 c5 a6 c6)).c2;have x3:=(AtC.new w 33 (M7 m a1 c1 a2 c2 a3 c3 a4 c4 a5 c5 a6 c6)).c3;have x4:=(AtC.new w 33 (M7 m a1 c1 a2 c2 a3 c3 a4 c4 a5 c5 a6 c6)).c4;have x5:=(AtC.new w 33 (M7 m a1 c1 a2 c2 a3 c3 a4 c4 a5 c5 a6 c6)).c5;have x6:=(AtC.new w 33 (M7 m a1 c1 a2 c2 a3 c3 a4 c4 a5 c5 a6 c6)).c6;have CI:Hid (∀(x y z:Int)(W:World),Calls Tryz.prog 50 #[.int .i64 x,.int .i64 y,.int .i64 z] W fun e w'=>AnyB e/\w'=W):=fun x y z W=>(zai x y z W).mono fun e w' ⟨h1,h2⟩=>⟨⟨_,h1⟩,h2⟩
 have CD:Hid (∀W,Below w.1.size w W->Calls Tryz.prog 108 #[.agg #[.slice a1 m.1.length c1,.slice a2 m.2.length c2,.slice a3 m.3.length c3,.slice a4 m.4.length c4]] W fun e w'=>AnyB e/\Below W.1.size W w'):=fun W bb=>(zdg _ _ _ _ m.xs m.ys m.is m.bs W (HH.o.below bb nR).d (fun j hj k hk=>Nat.le_trans ((HM.o.bb _ (List.getElem_mem hj)).s _ (List.getElem_mem hk)).1 dC)).mono fun e w' ⟨h1,h2⟩=>⟨⟨_,h1⟩,h2⟩
 clear h hm;go_enter Tryz.func192,Tryz.ntmps192
 go_upto_region 1 with fail
 generalize hW0:(w.alloc (.cells (M7 m a1 c1 a2 c2 a3 c3 a4 c4 a5 c5 a6 c6) 33))=W0 at*;clear hW0;go_cut [25]from 4 to 25 (fun c wx=>(∃r,c=.bool r)/\Below W0.1.size W0 wx)
 case first =>
  go_wp2_with (first| (go_at_call 108;refine(CD.out _ (HW.o _ bR)).mono ?_;rintro e w2 ⟨⟨r,rfl⟩,B2⟩;have HB2:=hide B2;have A2:=HA.o w2 B2;have y4:w2.cell? ⟨w.1.size,4,none⟩=some (.slice a5 m.5.length c5):=A2.cell 4;have y5:w2.cell? ⟨w.1.size,5,none⟩=some (.slice a6 m.6.length c6):=A2.cell 5;have y6:w2.cell? ⟨w.1.size,6,none⟩=some (.int .i64 m.nx):=A2.cell 6;clear A2 B2;cases r)| (go_at_call 50;refine(CI.out _ _ _ _).mono ?_;rintro e w3 ⟨⟨r,rfl⟩,rfl⟩;cases r))
  all_goals (go_meet;exact⟨⟨_,rfl⟩,HB2.o⟩)
 case rest =>
  obtain⟨⟨r,rfl⟩,hbw⟩:=hcut;have HBW:=hide hbw;clear hbw x0 x1 x2 x3 x4 x5 x6
  cases r
  case true =>
   go_wp2;go_ret;exact⟨⟨_,rfl⟩,HW.o _ HBW.o⟩
  case false =>
   go_wp2_with fail
   go_loopw [3] (fun i' wr=>∃q:Nat,q<=m.6.length/\i'=.int .i64 q/\Hid (Below W0.1.size W0 wr)) (fun i' _=>m.6.length-(intOf i').toNat)
   case atStart=>exact⟨0,Nat.zero_le _,rfl,HBW.o⟩
   case round =>
    obtain⟨q,hq,rfl,HR⟩:=hrel;have A2:=HA.o wr HR.o;obtain⟨y0,y1,y2,y3,y4,y5,y6⟩:=AtC.sev A2;clear A2;by_cases hlt:q<m.6.length
    ·have q0:(0:Int)<=(q:Int):=by omega
     have q1:(q:Int)<(m.6.length:Int):=by omega
     go_wp2_with (go_at_call 222;refine(zmc _ _ _ _ _ _ m q wr (HH.o.below (HW.o _ HR.o) nR) HM.o hlt).mono ?_;rintro e w2 ⟨⟨r,rfl⟩,B2⟩;have HB2:=hide (HR.o.trans (B2.mono HR.o.size));clear B2;cases r)
     ·go_ret;exact⟨⟨_,rfl⟩,HW.o _ HB2.o⟩
     ·go_roundw
      case rel=>exact⟨q+1,by omega,by go_num,HB2.o⟩
      case measure=>simp[intOf];omega
    ·go_wp2;go_ret;exact⟨⟨_,rfl⟩,HW.o _ HR.o⟩
namespace Kit
def byteN:List Bool->Nat
 | []=>0
 | b::r=>(if b then 1 else 0)+2*byteN r
theorem byteN_lt(l:List Bool):byteN l<2 ^ l.length:=by
 induction l with
 | nil=>simp[byteN]
 | cons b r ih =>
  simp only[byteN,List.length_cons,Nat.pow_succ]
  split<;>omega
theorem zgf(l:List Bool)(b:Bool):byteN (l++[b])=byteN l+(if b then 2 ^ l.length else 0):=by
 induction l with
 | nil=>simp[byteN]
 | cons a r ih =>
  simp only[List.cons_append,byteN,ih,List.length_cons,Nat.pow_succ]
  split<;>split<;>omega
theorem zfi(l:List Bool)(h:l.length<=8):byteN l<256:=by
 have h1:=byteN_lt l;have h2:2 ^ l.length<=2 ^ 8:=Nat.pow_le_pow_right oM h;omega
def bitN(n i:Nat):Bool:=decide (n/2 ^ i%2=1)
def bB(l:List Bool):UInt8:=UInt8.ofNat (byteN l)
theorem bB_toNat(l:List Bool)(h:l.length<=8):(bB l).toNat=byteN l:=by
 have:=zfi l h;simp[bB,UInt8.toNat_ofNat'];omega
theorem bitN_int(n k:Nat):bitN n k=(((n/2 ^ k%2:Nat):Int)==1):=by
 unfold bitN;generalize n/2 ^ k%2=p;rw[Bool.eq_iff_iff];simp;omega
end Kit
def bitP(j:Nat):Int:=((2 ^ j:Nat):Int)
theorem zmd:bitP 0=1:=rfl
theorem zme(j:Nat):bitP (j+1)=2*bitP j:=by unfold bitP;rw[Nat.pow_succ];omega
theorem bitP_le(j:Nat)(h:j<=8):0<=bitP j/\bitP j<=256:=by
 have:=Nat.pow_le_pow_right (n:=2) oM h;unfold bitP;generalize 2 ^ j=p at*;omega
def preN(l:List Bool)(j:Nat):Int:=(byteN (l.take j):Nat)
theorem zmf(l:List Bool):preN l 0=0:=by simp[preN,byteN]
theorem preN_le(l:List Bool)(j:Nat)(h:l.length<=8):0<=preN l j/\preN l j<=255:=by
 have:=zfi (l.take j) sO;unfold preN;omega
theorem preN_yes(l:List Bool)(j:Nat)(h:j<l.length)(ht:l[j]=true):preN l (j+1)=preN l j+bitP j:=by
 unfold preN bitP;rw[List.take_succ_eq_append_getElem h,zgf,ht,List.length_take,Nat.min_eq_left oM];simp
theorem preN_no(l:List Bool)(j:Nat)(h:j<l.length)(ht:l[j]=false):preN l (j+1)=preN l j:=by
 unfold preN;rw[List.take_succ_eq_append_getElem h,zgf,ht];simp
theorem preN_all(l:List Bool)(h:l.length<=8):preN l l.length=((bB l).toNat:Int):=by
 rw[bB_toNat l h,preN,List.take_length]
theorem zdh(v:Value)(l:List Bool)(w:World)(hv:RFl w v l)(hl:l.length<=8):
  Calls Tryz.prog 166 #[v] w fun e w'=>e=.returned (.int .u8 (bB l).toNat)/\w=w':=by
 obtain⟨a,c,rfl,ha⟩:=hv;have HA:=hide ha;clear ha;go_enter Tryz.func166,Tryz.ntmps166
 go_wp2;go_loopw [3,4,5] (fun x y i wr=>∃j:Nat,j<=l.length/\i=.int .i64 j/\x=.int .i64 (preN l j)/\y=.int .i64 (bitP j)/\w=wr) (fun _ _ i _=>l.length-(intOf i).toNat)
 case atStart=>exact⟨0,Nat.zero_le _,rfl,by rw[zmf],by rw[zmd],rfl⟩
 case round =>
  obtain⟨j,hj,rfl,rfl,rfl,rfl⟩:=hrel;obtain⟨p0,p1⟩:=preN_le l j hl;obtain⟨q0,q1⟩:=bitP_le j oM;by_cases hlt:j<l.length
  ·obtain⟨g,off,rfl,_,k1⟩:=HA.o j hlt;obtain⟨t,ht⟩:∃t,l[j]=t:=⟨_,rfl⟩
   rw[ht]at k1;have j0:(0:Int)<=(j:Int):=by omega
   have j1:(j:Int)<(l.length:Int):=by omega
   have E1:=hide (zme j)
   cases t with
   | true =>
    have E2:=hide (preN_yes l j hlt ht);clear ht;go_wp2;go_roundw
    case rel=>exact⟨j+1,by omega,by go_num,by rw[E2.out],by rw[E1.out],trivial⟩
    case measure=>simp[intOf];omega
   | false =>
    have E2:=hide (preN_no l j hlt ht);clear ht;go_wp2;go_roundw
    case rel=>exact⟨j+1,by omega,by go_num,by rw[E2.out],by rw[E1.out],trivial⟩
    case measure=>simp[intOf];omega
  ·have hjl:j=l.length:=by omega
   have HJ:=hide hjl;clear hjl;go_wp2;go_ret;exact⟨zcr (show Value.int .u8 _=Value.int .u8 _ by rw[←preN_all l hl,←HJ.o]),rfl⟩
namespace Kit
end Kit
def textB(xs ys:List Bool):ByteArray:=⟨#[bB (xs.take 8),bB (xs.drop 8),bB ys]⟩
end Go.Proofs.YtgnplpmgkegcnaaGreat
