/- Texts. -/
import Derived.Test.YtgnplpmgkegcnaaGreatRows
import Derived.Test.YtgnplpmgkegcnaaGreatW01
set_option maxRecDepth 100000
set_option maxHeartbeats 12800000
namespace Go.Proofs.YtgnplpmgkegcnaaGreat
open Go.RowKit Kit
theorem zhp(id kd io pt bk sl:Int)(nm:BA)(bt ot:Bool)(af:Int)(bl:List Int)(p:Va)(u v iv bv dv pv:Va)(m:MD)(w:Wd)(h:MR w u v iv bv dv pv m)(hB:BigM 1048576 m)(hv:RInts w p bl)(hl:bl.length<=1048576)(hf:40<=m.6.length):
  Calls Tryz.prog 202 #[.agg #[u,v,iv,bv,dv,pv,nI m.nx],.agg #[nI id,nI kd,nI io,nI pt,nI bk,nI sl,.string nm,.bool bt,.bool ot,nI af,p]] w fun e w'=>∃u' v' i' b' d' p',e=.returned (.tuple #[.agg #[u',v',i',b',d',p',nI m.nx],nI 0])/\MO w' (fun k=>w.1.size<=k) u' v' i' b' d' p' m/\Bw w w':=by
 have H:=hJ h;have HG:=hJ hB;have HP:=hJ hv;have HL:=hJ hl;obtain⟨a1,c1,a2,c2,a3,c3,a4,c4,a5,c5,a6,c6,rfl,rfl,rfl,rfl,rfl,rfl⟩:=h.form;obtain⟨pa,pc,rfl⟩:=hv.form;clear h hB hv hl;have HC:Hid (∀W,Bw (((w.alloc (.cells (M7 m a1 c1 a2 c2 a3 c3 a4 c4 a5 c5 a6 c6) 33)).alloc (.cells (K7 id kd io pt bk sl nm bt ot af pa bl.length pc) 42)).alloc (.cells noM 33)) W->AtC W w.1.size 33 (M7 m a1 c1 a2 c2 a3 c3 a4 c4 a5 c5 a6 c6)/\AtC W (w.1.size+1) 42 (K7 id kd io pt bk sl nm bt ot af pa bl.length pc)/\AtC W (w.1.size+1+1) 33 noM/\Bw w W/\w.1.size+1+1+1<=W.1.size):=fun W b2=>by
  exact cQ4
 go_enter Tryz.func202,Tryz.ntmps202
 go_wp2_with fail
 refine(zax _ _ _ _ _ _ m _ (H.out.below (HC.o _ bR).2.2.2.1 nR) HG.o).mono ?_;rintro e w2 ⟨u1,u2,u3,u4,u5,u6,rfl,O2,B2⟩;obtain⟨b1,d1,b2,d2,b3,d3,b4,d4,b5,d5,b6,d6,rfl,rfl,rfl,rfl,rfl,rfl⟩:=O2.mr.form;have hz2:=(HC.o w2 B2).2.2.2.2;have O3:=(O2.mono (S':=fun k=>w.1.size+1+1+1<=k) (fun k hk=>by simp at hk;omega)).bound;have HS:Hid (AtC (w2.alloc (.cells (M7 m b1 d1 b2 d2 b3 d3 b4 d4 b5 d5 b6 d6) 33)) w.1.size 33 (M7 m a1 c1 a2 c2 a3 c3 a4 c4 a5 c5 a6 c6)/\AtC (w2.alloc (.cells (M7 m b1 d1 b2 d2 b3 d3 b4 d4 b5 d5 b6 d6) 33)) (w.1.size+1) 42 (K7 id kd io pt bk sl nm bt ot af pa bl.length pc)/\AtC (w2.alloc (.cells (M7 m b1 d1 b2 d2 b3 d3 b4 d4 b5 d5 b6 d6) 33)) (w.1.size+1+1) 33 noM/\AtC (w2.alloc (.cells (M7 m b1 d1 b2 d2 b3 d3 b4 d4 b5 d5 b6 d6) 33)) w2.1.size 33 (M7 m b1 d1 b2 d2 b3 d3 b4 d4 b5 d5 b6 d6)/\N7 (w2.alloc (.cells (M7 m b1 d1 b2 d2 b3 d3 b4 d4 b5 d5 b6 d6) 33)) (fun k=>w.1.size+1+1+1<=k/\k<w2.1.size) m b1 d1 b2 d2 b3 d3 b4 d4 b5 d5 b6 d6/\Bw w (w2.alloc (.cells (M7 m b1 d1 b2 d2 b3 d3 b4 d4 b5 d5 b6 d6) 33))/\(w2.alloc (.cells (M7 m b1 d1 b2 d2 b3 d3 b4 d4 b5 d5 b6 d6) 33)).1.size=w2.1.size+1):=by
  exact cQ32
 clear O2 O3 B2;have q1:=HS.o.1;have q3:=HS.o.2.2.1;have q4:=HS.o.2.2.2.1;obtain⟨x0,x1,x2,x3,x4,x5,x6⟩:=q1.k7;obtain⟨r0,r1,r2,r3,r4,r5,r6⟩:=q3.k7;obtain⟨v0,v1,v2,v3,v4,v5,v6⟩:=q3.f7;obtain⟨y0,y1,y2,y3,y4,y5,y6⟩:=q4.k7;have HM:Hid (MO ((w2.alloc (.cells (M7 m b1 d1 b2 d2 b3 d3 b4 d4 b5 d5 b6 d6) 33)).s0 (w.1.size+1+1) m b1 d1 b2 d2 b3 d3 b4 d4 b5 d5 b6 d6) (fun k=>w.1.size<=k) (.slice b1 m.1.length d1) (.slice b2 m.2.length d2) (.slice b3 m.3.length d3) (.slice b4 m.4.length d4) (.slice b5 m.5.length d5) (.slice b6 m.6.length d6) m/\Bw w ((w2.alloc (.cells (M7 m b1 d1 b2 d2 b3 d3 b4 d4 b5 d5 b6 d6) 33)).s0 (w.1.size+1+1) m b1 d1 b2 d2 b3 d3 b4 d4 b5 d5 b6 d6)):=by
  exact cQ15
 clear q1 q3 q4 HS HC;have hf1:(40:Int)<=(m.6.length:Int):=oM
 go_wp2;refine bY (v:=.tuple #[.agg (M7 m b1 d1 b2 d2 b3 d3 b4 d4 b5 d5 b6 d6),nI 0]) sR7 rfl ⟨_,_,_,_,_,_,rfl,HM.o.1,HM.o.2⟩
theorem zhq(id kd io pt bk sl:Int)(nm:BA)(bt ot:Bool)(af:Int)(bl:List Int)(p:Va)(u v iv bv dv pv:Va)(m:MD)(w:Wd)(h:MR w u v iv bv dv pv m)(hB:BigM 1048576 m)(hv:RInts w p bl)(hl:bl.length<=1048576)(hf:m.6.length<40)(hx:inB m.nx 1 99999=false):
  Calls Tryz.prog 202 #[.agg #[u,v,iv,bv,dv,pv,nI m.nx],.agg #[nI id,nI kd,nI io,nI pt,nI bk,nI sl,.string nm,.bool bt,.bool ot,nI af,p]] w fun e w'=>∃u' v' i' b' d' p',e=.returned (.tuple #[.agg #[u',v',i',b',d',p',nI m.nx],nI 0])/\MO w' (fun k=>w.1.size<=k) u' v' i' b' d' p' m/\Bw w w':=by
 have H:=hJ h;have HG:=hJ hB;have HP:=hJ hv;have HL:=hJ hl;obtain⟨a1,c1,a2,c2,a3,c3,a4,c4,a5,c5,a6,c6,rfl,rfl,rfl,rfl,rfl,rfl⟩:=h.form;obtain⟨pa,pc,rfl⟩:=hv.form;clear h hB hv hl;have HC:Hid (∀W,Bw (((w.alloc (.cells (M7 m a1 c1 a2 c2 a3 c3 a4 c4 a5 c5 a6 c6) 33)).alloc (.cells (K7 id kd io pt bk sl nm bt ot af pa bl.length pc) 42)).alloc (.cells noM 33)) W->AtC W w.1.size 33 (M7 m a1 c1 a2 c2 a3 c3 a4 c4 a5 c5 a6 c6)/\AtC W (w.1.size+1) 42 (K7 id kd io pt bk sl nm bt ot af pa bl.length pc)/\AtC W (w.1.size+1+1) 33 noM/\Bw w W/\w.1.size+1+1+1<=W.1.size):=fun W b2=>by
  exact cQ4
 go_enter Tryz.func202,Tryz.ntmps202
 go_wp2_with fail
 refine(zax _ _ _ _ _ _ m _ (H.out.below (HC.o _ bR).2.2.2.1 nR) HG.o).mono ?_;rintro e w2 ⟨u1,u2,u3,u4,u5,u6,rfl,O2,B2⟩;obtain⟨b1,d1,b2,d2,b3,d3,b4,d4,b5,d5,b6,d6,rfl,rfl,rfl,rfl,rfl,rfl⟩:=O2.mr.form;have hz2:=(HC.o w2 B2).2.2.2.2;have O3:=(O2.mono (S':=fun k=>w.1.size+1+1+1<=k) (fun k hk=>by simp at hk;omega)).bound;have HS:Hid (AtC (w2.alloc (.cells (M7 m b1 d1 b2 d2 b3 d3 b4 d4 b5 d5 b6 d6) 33)) w.1.size 33 (M7 m a1 c1 a2 c2 a3 c3 a4 c4 a5 c5 a6 c6)/\AtC (w2.alloc (.cells (M7 m b1 d1 b2 d2 b3 d3 b4 d4 b5 d5 b6 d6) 33)) (w.1.size+1) 42 (K7 id kd io pt bk sl nm bt ot af pa bl.length pc)/\AtC (w2.alloc (.cells (M7 m b1 d1 b2 d2 b3 d3 b4 d4 b5 d5 b6 d6) 33)) (w.1.size+1+1) 33 noM/\AtC (w2.alloc (.cells (M7 m b1 d1 b2 d2 b3 d3 b4 d4 b5 d5 b6 d6) 33)) w2.1.size 33 (M7 m b1 d1 b2 d2 b3 d3 b4 d4 b5 d5 b6 d6)/\N7 (w2.alloc (.cells (M7 m b1 d1 b2 d2 b3 d3 b4 d4 b5 d5 b6 d6) 33)) (fun k=>w.1.size+1+1+1<=k/\k<w2.1.size) m b1 d1 b2 d2 b3 d3 b4 d4 b5 d5 b6 d6/\Bw w (w2.alloc (.cells (M7 m b1 d1 b2 d2 b3 d3 b4 d4 b5 d5 b6 d6) 33))/\(w2.alloc (.cells (M7 m b1 d1 b2 d2 b3 d3 b4 d4 b5 d5 b6 d6) 33)).1.size=w2.1.size+1):=by
  exact cQ32
 clear O2 O3 B2;have q1:=HS.o.1;have q3:=HS.o.2.2.1;have q4:=HS.o.2.2.2.1;obtain⟨x0,x1,x2,x3,x4,x5,x6⟩:=q1.k7;obtain⟨r0,r1,r2,r3,r4,r5,r6⟩:=q3.k7;obtain⟨v0,v1,v2,v3,v4,v5,v6⟩:=q3.f7;obtain⟨y0,y1,y2,y3,y4,y5,y6⟩:=q4.k7;have HM:Hid (MO ((w2.alloc (.cells (M7 m b1 d1 b2 d2 b3 d3 b4 d4 b5 d5 b6 d6) 33)).s0 (w.1.size+1+1) m b1 d1 b2 d2 b3 d3 b4 d4 b5 d5 b6 d6) (fun k=>w.1.size<=k) (.slice b1 m.1.length d1) (.slice b2 m.2.length d2) (.slice b3 m.3.length d3) (.slice b4 m.4.length d4) (.slice b5 m.5.length d5) (.slice b6 m.6.length d6) m/\Bw w ((w2.alloc (.cells (M7 m b1 d1 b2 d2 b3 d3 b4 d4 b5 d5 b6 d6) 33)).s0 (w.1.size+1+1) m b1 d1 b2 d2 b3 d3 b4 d4 b5 d5 b6 d6)):=by
  exact cQ15
 clear q1 q3 q4 HS HC;have hf1:¬((40:Int)<=(m.6.length:Int)):=oM
 have HX:=hJ hx;clear hx;go_wp2_with fail
 refine(zak m.nx 1 99999 _).mono ?_;rintro e w3 ⟨rfl,rfl⟩;rw[HX.o];go_wp2;refine bY (v:=.tuple #[.agg (M7 m b1 d1 b2 d2 b3 d3 b4 d4 b5 d5 b6 d6),nI 0]) sR7 rfl ⟨_,_,_,_,_,_,rfl,HM.o.1,HM.o.2⟩
theorem put_fin{w w12:Wd}{b:Nat}{A0 A1 A2 A3 A4 A5:Va}{D:Array Va}{u v iv bv dv pv pv':Va}{nx:Int}{R:MD}(hb:w.1.size+1+1+1<=b)
  (h:AtC w12 w.1.size 33 #[A0,A1,A2,A3,A4,A5,nI nx]/\AtC w12 (w.1.size+1) 42 D/\AtC w12 (w.1.size+1+1) 33 noM/\AtC w12 b 33 #[u,v,iv,bv,dv,pv,nI nx]/\MO w12 (fun k=>w.1.size+1+1+1<=k/\k≠b) u v iv bv dv pv' R/\Bw w w12) (y:Int) :
  ∃W13 W14,w12.setCell ⟨b,5,none⟩ pv'=W13/\W13.setCell ⟨b,6,none⟩ (nI y)=W14/\W13.cell? ⟨b,6,none⟩=some (nI nx)/\W13.frozen? ⟨b,6,none⟩=false/\W13.cell? ⟨w.1.size,6,none⟩=some (nI nx)/\Hid (AtC W14 (w.1.size+1) 42 D/\AtC W14 (w.1.size+1+1) 33 noM/\AtC W14 b 33 #[u,v,iv,bv,dv,pv',nI y]/\MO W14 (fun k=>w.1.size+1+1+1<=k/\k≠b) u v iv bv dv pv' R/\Bw w W14):=by
 obtain⟨k1,k2,k3,k4,k5,k6⟩:=h;have j4:AtC (w12.setCell ⟨b,5,none⟩ pv') b 33 #[u,v,iv,bv,dv,pv',nI nx]:=k4.set 5 pv';have i4:AtC ((w12.setCell ⟨b,5,none⟩ pv').setCell ⟨b,6,none⟩ (nI y)) b 33 #[u,v,iv,bv,dv,pv',nI y]:=j4.set 6 _;refine⟨_,_,rfl,rfl,j4.cell 6,j4.frozen 6,(k1.other oM _).cell 6,(k2.other oM _).other oM _,(k3.other oM _).other oM _,i4,k5.of_heap fun k hk _=>?_,(k6.setCell oD _).setCell oD _⟩;rw[hO_ _ ⟨b,6,none⟩ k _ (by show k≠b;omega),hO_ _ ⟨b,5,none⟩ k _ (by show k≠b;omega)]
theorem zjo(w:Wd)(e:TypeId)(m:Nat):(w.alloc (.cells #[] e)).ownsRow w.1.size e m (.slice (aA w.1.size 0) 0 0) 0 []:=by
 have:=World.ownsRow_lit (base:=w.1.size) (e:=e) (size:=m) w #[] 0 sI (zL _) sI;simpa using this
theorem zjp(id kd io pt bk sl:Int)(nm:BA)(bt ot:Bool)(af:Int)(bl:List Int)(p:Va)(u v iv bv dv pv:Va)(m:MD)(w:Wd)(h:MR w u v iv bv dv pv m)(hB:BigM 1048576 m)(hv:RInts w p bl)(hl:bl.length<=1048576)(hf:m.6.length<40)(hx:inB m.nx 1 99999=true):
  Calls Tryz.prog 202 #[.agg #[u,v,iv,bv,dv,pv,nI m.nx],.agg #[nI id,nI kd,nI io,nI pt,nI bk,nI sl,.string nm,.bool bt,.bool ot,nI af,p]] w fun e w'=>∃u' v' i' b' d' p',e=.returned (.tuple #[.agg #[u',v',i',b',d',p',nI (m.nx+1)],nI m.nx])/\MO w' (fun k=>w.1.size<=k) u' v' i' b' d' p' ({ m with ds:=m.ds++[(⟨m.nx,kd,io,pt,bk,sl,nm,bt,ot,af,bl⟩:Dp)],nx:=m.nx+1 }:MD)/\Bw w w':=by
 have H:=hJ h;have HG:=hJ hB;have HP:=hJ hv;have HL:=hJ hl;obtain⟨a1,c1,a2,c2,a3,c3,a4,c4,a5,c5,a6,c6,rfl,rfl,rfl,rfl,rfl,rfl⟩:=h.form;obtain⟨pa,pc,rfl⟩:=hv.form;clear h hB hv hl;have HC:Hid (∀W,Bw (((w.alloc (.cells (M7 m a1 c1 a2 c2 a3 c3 a4 c4 a5 c5 a6 c6) 33)).alloc (.cells (K7 id kd io pt bk sl nm bt ot af pa bl.length pc) 42)).alloc (.cells noM 33)) W->AtC W w.1.size 33 (M7 m a1 c1 a2 c2 a3 c3 a4 c4 a5 c5 a6 c6)/\AtC W (w.1.size+1) 42 (K7 id kd io pt bk sl nm bt ot af pa bl.length pc)/\AtC W (w.1.size+1+1) 33 noM/\Bw w W/\w.1.size+1+1+1<=W.1.size):=fun W b2=>by
  exact cQ4
 go_enter Tryz.func202,Tryz.ntmps202
 go_wp2_with fail
 refine(zax _ _ _ _ _ _ m _ (H.out.below (HC.o _ bR).2.2.2.1 nR) HG.o).mono ?_;rintro e w2 ⟨u1,u2,u3,u4,u5,u6,rfl,O2,B2⟩;obtain⟨b1,d1,b2,d2,b3,d3,b4,d4,b5,d5,b6,d6,rfl,rfl,rfl,rfl,rfl,rfl⟩:=O2.mr.form;have hz2:=(HC.o w2 B2).2.2.2.2;have O3:=(O2.mono (S':=fun k=>w.1.size+1+1+1<=k) (fun k hk=>by simp at hk;omega)).bound;have HS:Hid (AtC (w2.alloc (.cells (M7 m b1 d1 b2 d2 b3 d3 b4 d4 b5 d5 b6 d6) 33)) w.1.size 33 (M7 m a1 c1 a2 c2 a3 c3 a4 c4 a5 c5 a6 c6)/\AtC (w2.alloc (.cells (M7 m b1 d1 b2 d2 b3 d3 b4 d4 b5 d5 b6 d6) 33)) (w.1.size+1) 42 (K7 id kd io pt bk sl nm bt ot af pa bl.length pc)/\AtC (w2.alloc (.cells (M7 m b1 d1 b2 d2 b3 d3 b4 d4 b5 d5 b6 d6) 33)) (w.1.size+1+1) 33 noM/\AtC (w2.alloc (.cells (M7 m b1 d1 b2 d2 b3 d3 b4 d4 b5 d5 b6 d6) 33)) w2.1.size 33 (M7 m b1 d1 b2 d2 b3 d3 b4 d4 b5 d5 b6 d6)/\N7 (w2.alloc (.cells (M7 m b1 d1 b2 d2 b3 d3 b4 d4 b5 d5 b6 d6) 33)) (fun k=>w.1.size+1+1+1<=k/\k<w2.1.size) m b1 d1 b2 d2 b3 d3 b4 d4 b5 d5 b6 d6/\Bw w (w2.alloc (.cells (M7 m b1 d1 b2 d2 b3 d3 b4 d4 b5 d5 b6 d6) 33))/\(w2.alloc (.cells (M7 m b1 d1 b2 d2 b3 d3 b4 d4 b5 d5 b6 d6) 33)).1.size=w2.1.size+1):=by
  exact cQ32
 clear O2 O3 B2;have hf1:¬((40:Int)<=(m.6.length:Int)):=oM
 have HX:=hJ hx;obtain⟨nx1,nx2⟩:=zay hx;clear hx;have q1:=HS.o.1;have q2:=HS.o.2.1;obtain⟨x0,x1,x2,x3,x4,x5,x6⟩:=q1.k7;obtain⟨dd0,dd1,dd2,dd3,dd4,dd5,dd6,dd7,dd8,dd9,dd10⟩:=q2.k11;have f0:=q2.frozen 0;clear q1 q2;go_wp2_with fail
 refine(zak m.nx 1 99999 _).mono ?_;rintro e w3 ⟨rfl,rfl⟩;rw[HX.o];obtain⟨W5,hW5⟩:∃W5,(w2.alloc (.cells (M7 m b1 d1 b2 d2 b3 d3 b4 d4 b5 d5 b6 d6) 33)).setCell ⟨w.1.size+1,0,none⟩ (nI m.nx)=W5:=⟨_,rfl⟩
 obtain⟨b,hb⟩:∃b,w2.1.size=b:=⟨_,rfl⟩
 have H5:Hid (AtC W5 w.1.size 33 (M7 m a1 c1 a2 c2 a3 c3 a4 c4 a5 c5 a6 c6)/\AtC W5 (w.1.size+1) 42 (K7 m.nx kd io pt bk sl nm bt ot af pa bl.length pc)/\AtC W5 (w.1.size+1+1) 33 noM/\AtC W5 b 33 (M7 m b1 d1 b2 d2 b3 d3 b4 d4 b5 d5 b6 d6)/\N7 W5 (fun k=>w.1.size+1+1+1<=k/\k<b) m b1 d1 b2 d2 b3 d3 b4 d4 b5 d5 b6 d6/\Bw w W5/\W5.1.size=b+1/\w.1.size+1+1+1<=b):=by
  obtain⟨k1,k2,k3,k4,k5,k6,k7⟩:=HS.o;rw[←hW5,←hb];exact⟨k1.other oM _,k2.set 0 _,k3.other oM _,k4.other oM _,k5.of_heap fun k hk _=>hO_ _ ⟨w.1.size+1,0,none⟩ k _ oA,k6.setCell sI _,by rw[←k7];simp,hz2⟩
 have HPR:Hid (RInts (W5.alloc (.cells #[] 3)) (.slice pa bl.length pc) bl):=((HP.o.below H5.o.2.2.2.2.2.1 nR)).alloc _;have HPL:Hid (bl.length<=100000000000):=lT HL.o dC;have HSTEP:Hid (∀(v9:Va)(w9:Wd),w9.ownsRow W5.1.size 3 1 v9 bl.length (ic bl)->(W5.alloc (.cells #[] 3)).grownBy w9 (Value.slice (aA W5.1.size 0) 0 0).ownBlock->∃pb pd W10 ts,v9=.slice pb bl.length pd/\w9.setCell ⟨w.1.size+1,10,none⟩ (.slice pb bl.length pd)=W10/\AtC w9 (w.1.size+1) 42 (K7 m.nx kd io pt bk sl nm bt ot af pa bl.length pc)/\AtC W10 (w.1.size+1) 42 (K7 m.nx kd io pt bk sl nm bt ot af pb bl.length pd)/\W10.cell? ⟨b,5,none⟩=some (.slice b6 m.6.length d6)/\AtC (W10.alloc (.cells (K7 m.nx kd io pt bk sl nm bt ot af pb bl.length pd) 42)) W10.1.size 42 (K7 m.nx kd io pt bk sl nm bt ot af pb bl.length pd)/\NOwns (W10.alloc (.cells (K7 m.nx kd io pt bk sl nm bt ot af pb bl.length pd) 42)) 42 11 (.slice b6 m.6.length d6) ts/\ts.length=m.6.length /\
   ∀v' w',NOwns w' 42 11 v' (ts++[(⟨m.nx,kd,io,pt,bk,sl,nm,bt,ot,af,bl⟩:Dp).row (.slice pb bl.length pd)])->(W10.alloc (.cells (K7 m.nx kd io pt bk sl nm bt ot af pb bl.length pd) 42)).grownBy w' (Value.slice b6 m.6.length d6).ownBlock->(∀k,v'.ownBlock=some k->(Value.slice b6 m.6.length d6).ownBlock=some k\/(W10.alloc (.cells (K7 m.nx kd io pt bk sl nm bt ot af pb bl.length pd) 42)).1.size<=k) ->
    AtC w' w.1.size 33 (M7 m a1 c1 a2 c2 a3 c3 a4 c4 a5 c5 a6 c6)/\AtC w' (w.1.size+1) 42 (K7 m.nx kd io pt bk sl nm bt ot af pb bl.length pd)/\AtC w' (w.1.size+1+1) 33 noM/\AtC w' b 33 (M7 m b1 d1 b2 d2 b3 d3 b4 d4 b5 d5 b6 d6)/\MO w' (fun k=>w.1.size+1+1+1<=k/\k≠b) (.slice b1 m.1.length d1) (.slice b2 m.2.length d2) (.slice b3 m.3.length d3) (.slice b4 m.4.length d4) (.slice b5 m.5.length d5) v' ({ m with ds:=m.ds++[(⟨m.nx,kd,io,pt,bk,sl,nm,bt,ot,af,bl⟩:Dp)],nx:=m.nx+1 }:MD)/\Bw w w'):=fun v9 w9 R1 R2=>by
  obtain⟨k1,k2,k3,k4,k5,k6,k7,k8⟩:=H5.o;obtain⟨pb,pd,rfl⟩:∃pb pd,v9=.slice pb bl.length pd:=by
   exact cQ67
  have O9:ROwns w9 W5.1.size 3 (.slice pb bl.length pd) (ic bl):=by unfold ROwns;rw[zaf];exact R1
  have B9:Bw W5 w9:=za5 ((bF _ W5).alloc nR _) sI R2 (fun k hk=>by simp[Value.ownBlock]at hk;omega);have hs9:=B9.size;have K9:=k2.over B9;have O10:ROwns ((w9.setCell ⟨w.1.size+1,10,none⟩ (.slice pb bl.length pd)).alloc (.cells (K7 m.nx kd io pt bk sl nm bt ot af pb bl.length pd) 42)) W5.1.size 3 (.slice pb bl.length pd) (ic bl):=(O9.setCell_other oM _).alloc _;have hm:∀k,(w.1.size+1+1+1<=k/\k<b)->k<W5.1.size->((w9.setCell ⟨w.1.size+1,10,none⟩ (.slice pb bl.length pd)).alloc (.cells (K7 m.nx kd io pt bk sl nm bt ot af pb bl.length pd) 42)).1[k]?=W5.1[k]?:=fun k hk hlt=>by
   have e1:((w9.setCell ⟨w.1.size+1,10,none⟩ (.slice pb bl.length pd)).alloc (.cells (K7 m.nx kd io pt bk sl nm bt ot af pb bl.length pd) 42)).1[k]?=(w9.setCell ⟨w.1.size+1,10,none⟩ (.slice pb bl.length pd)).1[k]?:=(bR.alloc nR _).block k sO;rw[e1,hO_ _ ⟨w.1.size+1,10,none⟩ k _ oA];exact B9.block k hlt
  obtain⟨ts,t1,t2,t3⟩:=(k5.of_heap hm).appE;have hz:((w9.setCell ⟨w.1.size+1,10,none⟩ (.slice pb bl.length pd)).alloc (.cells (K7 m.nx kd io pt bk sl nm bt ot af pb bl.length pd) 42)).1.size=w9.1.size+1:=sI
  refine⟨pb,pd,_,ts,rfl,rfl,K9,K9.set 10 _,((k4.over B9).other oM _).cell 5,AtC.new _ 42 _,t1,t2,fun v' w' h1 h2 h3=>?_⟩;have hown:∀k,(Value.slice b6 m.6.length d6).ownBlock=some k->w.1.size+1+1+1<=k/\k<b:=fun k hk=>MO.soP k5 k hk;have hst:∀(q T:Nat)(cs:Array Va),q<W5.1.size->¬(w.1.size+1+1+1<=q/\q<b)->AtC ((w9.setCell ⟨w.1.size+1,10,none⟩ (.slice pb bl.length pd)).alloc (.cells (K7 m.nx kd io pt bk sl nm bt ot af pb bl.length pd) 42)) q T cs->AtC w' q T cs:=fun q T cs hq hn h=>h.grown h2 (fun e=>hn (hown q e));refine⟨hst _ _ _ oM oM (((k1.over B9).other oM _).alloc _),hst _ _ _ oM oM ((K9.set 10 _).alloc _),hst _ _ _ oM oM (((k3.over B9).other oM _).alloc _),hst _ _ _ oM oM (((k4.over B9).other oM _).alloc _),(t3 w' v' _ (⟨m.nx,kd,io,pt,bk,sl,nm,bt,ot,af,bl⟩:Dp) ⟨_,rfl,O10.base_le (zL _)⟩ (fun k hk=>by have:=(O10.lt k hk).1;omega) h1 h2 h3 _).mono fun k hk=>?_,?_⟩
  ·rcases hk with hk|hk|hk
   ·omega
   ·have:=(O10.lt k hk).1;omega
   ·rw[hz]at hk;omega
  ·exact(((k6.trans (B9.mono k6.size)).setCell sI _).alloc sO _).grown h2 sO (fun k hk=>by have:=hown k hk;omega)
 have hb3:=H5.o.2.2.2.2.2.2.2;have g6:=H5.o.1;have x6':=g6.c6;have d10':=H5.o.2.1.c10;have d10a:(W5.alloc (.cells #[] 3)).cell? ⟨w.1.size+1,10,none⟩=some (.slice pa bl.length pc):=(H5.o.2.1.alloc _).cell 10;clear g6 HS HC hz2;go_wp2_with (first| (at_builtin;refine zai _ rfl _ _ 40 rfl W5.1.size 3 Tryz.underlying40 _ 1 8 Tryz.i3 rfl dC dC (.slice (aA W5.1.size 0) 0 0) rfl (zjo W5 3 1) sI _ rfl bl.length (ic bl) HPR.o.rc (by rw[zaf,Nat.mul_one]) (zjg bl) HPL.o ?_;intro v9 w9 R1 R2 R3;obtain⟨pb,pd,W10,ts,rfl,hW10,K9,K10,cb5,K11,T11,L11,S11⟩:=HSTEP.o v9 w9 R1 R2;have y10:w9.cell? ⟨w.1.size+1,10,none⟩=some (.slice pa bl.length pc):=K9.cell 10;have yf:=K9.frozen 10;have kc0:W10.cell? ⟨w.1.size+1,0,none⟩=some (nI m.nx):=K10.cell 0;have kc1:W10.cell? ⟨w.1.size+1,1,none⟩=some (nI kd):=K10.cell 1;have kc2:W10.cell? ⟨w.1.size+1,2,none⟩=some (nI io):=K10.cell 2;have kc3:W10.cell? ⟨w.1.size+1,3,none⟩=some (nI pt):=K10.cell 3;have kc4:W10.cell? ⟨w.1.size+1,4,none⟩=some (nI bk):=K10.cell 4;have kc5:W10.cell? ⟨w.1.size+1,5,none⟩=some (nI sl):=K10.cell 5;have kc6:W10.cell? ⟨w.1.size+1,6,none⟩=some (.string nm):=K10.cell 6;have kc7:W10.cell? ⟨w.1.size+1,7,none⟩=some (.bool bt):=K10.cell 7;have kc8:W10.cell? ⟨w.1.size+1,8,none⟩=some (.bool ot):=K10.cell 8;have kc9:W10.cell? ⟨w.1.size+1,9,none⟩=some (nI af):=K10.cell 9;have kc10:W10.cell? ⟨w.1.size+1,10,none⟩=some (.slice pb bl.length pd):=K10.cell 10;have HK11:=hJ K11;have HT11:=hJ T11;have HS11:=hJ S11;have HL11:Hid (ts.length<=100000000000):=(by have:=L11;show ts.length<=_;omega);have HLL:=hJ L11;clear R1 R2 R3 K9 K10 K11 T11 S11 L11)| (at_builtin;refine wS fun K' hK'=>?_;refine zap _ rfl (.tmp 29) (.tmp 31) 31 rfl 42 Tryz.u31 _ 11 104 Tryz.i42 rfl dC dC (.slice b6 m.6.length d6) ts rfl HT11.o W10.1.size ((⟨m.nx,kd,io,pt,bk,sl,nm,bt,ot,af,bl⟩:Dp).row (.slice pb bl.length pd)) rfl rfl (fun i u hu=>(HK11.o.at_ i u hu)) (by simp[Dp.row,Value.oneCell']) HL11.o ?_;intro v12 w12 T12 G12 V12;refine hK' _ _ ?_;have D12:=HS11.o v12 w12 T12 G12 V12;obtain⟨g12,c12,rfl,-⟩:=T12.form;generalize (ts++[(⟨m.nx,kd,io,pt,bk,sl,nm,bt,ot,af,bl⟩:Dp).row (.slice pb bl.length pd)]).length=LL at*;have z5:w12.cell? ⟨b,5,none⟩=some (.slice b6 m.6.length d6):=D12.2.2.2.1.cell 5;have zf5:=D12.2.2.2.1.frozen 5;obtain⟨W13,W14,hW13,hW14,y6,zf6,x6b,HF⟩:=put_fin hb3 D12 (m.nx+1);clear T12 G12 V12 D12 hK'))
 have j2:=HF.o.1;have j3:=HF.o.2.1;have j4:=HF.o.2.2.1;have i0:=j2.c0;obtain⟨y0,y1,y2,y3,y4,y5,y6⟩:=AtC.sev j4;obtain⟨r0,r1,r2,r3,r4,r5,r6⟩:=AtC.sev j3;obtain⟨v0,v1,v2,v3,v4,v5,v6⟩:=j3.f7;have HM:Hid (MO ((W14.s7 (w.1.size+1+1) (.slice b1 m.1.length d1) (.slice b2 m.2.length d2) (.slice b3 m.3.length d3) (.slice b4 m.4.length d4) (.slice b5 m.5.length d5) (.slice g12 LL c12) (nI (m.nx+1)))).drew (fun k=>w.1.size<=k) (.slice b1 m.1.length d1) (.slice b2 m.2.length d2) (.slice b3 m.3.length d3) (.slice b4 m.4.length d4) (.slice b5 m.5.length d5) (.slice g12 LL c12) ({ m with ds:=m.ds++[(⟨m.nx,kd,io,pt,bk,sl,nm,bt,ot,af,bl⟩:Dp)],nx:=m.nx+1 }:MD)/\Bw w ((W14.s7 (w.1.size+1+1) (.slice b1 m.1.length d1) (.slice b2 m.2.length d2) (.slice b3 m.3.length d3) (.slice b4 m.4.length d4) (.slice b5 m.5.length d5) (.slice g12 LL c12) (nI (m.nx+1)))).drew):=by
  exact⟨(((HF.o.2.2.2.1.of_heap fun k hk _=>hs7 (by show k≠(w.1.size+1+1);omega)).mono fun k hk=>oM).below bR.drew nR),((((((((HF.o.2.2.2.2).setCell oC _).setCell oC _).setCell oC _).setCell oC _).setCell oC _).setCell oC _).setCell oC _).drew⟩
 clear j2 j3 j4 HF H5 HSTEP HPR HPL HK11 HT11 HS11 HL11 HLL
 go_region
 go_wp2;refine bY (v:=.tuple #[.agg #[.slice b1 m.1.length d1,.slice b2 m.2.length d2,.slice b3 m.3.length d3,.slice b4 m.4.length d4,.slice b5 m.5.length d5,.slice g12 LL c12,nI (m.nx+1)],nI m.nx]) sR7 rfl ⟨_,_,_,_,_,_,rfl,HM.o.1,HM.o.2⟩
namespace Kit
def zcx(md:Region.Mode)(ops:Array Oper)(js:List Nat)(exits:List (List Nat)):Bool :=
 (subs js).all fun t=>t==js || exits.contains t || !zd4 md ops t || (!(Region.ready md ops (mask ops.size t)).isEmpty&&(Region.ready md ops (mask ops.size t)).all fun i=>js.contains i&&!t.contains i)
def altOk(md:Region.Mode)(ops:Array Oper)(t:List Nat)(lines:List (List Nat)):Bool :=
 (Region.ready md ops (mask ops.size t)).all (fun j=>lines.any fun l=>match l with| i::r=>i==j&&(ops[i]?).isSome&&zcj md ops (i::t) r|[]=>false)&&!(Region.ready md ops (mask ops.size t)).isEmpty
section
variable {P : Program} {ops : Array Oper} {Q : Exit -> Act -> World -> Prop} {md : Region.Mode}
theorem zk1(t:List Nat)(lines:List (List Nat))(fuel:Nat)(a:Act)(w:Wd)(h:altOk md ops t lines=true)(hl:∀l∈lines,l.length<=fuel)(hw:∀l∈lines,wpList P ops Q (l.filterMap fun i=>ops[i]?) a w):wpAny P md ops Q fuel (mask ops.size t) a w:=by
 simp only[altOk,aE,List.all_eq_true,List.any_eq_true]at h;obtain⟨h1,h2⟩:=h
 cases fuel with
 | zero =>
  exfalso
  cases hr:Region.ready md ops (mask ops.size t)with
  | nil=>rw[hr]at h2;simp at h2
  | cons j r =>
   obtain⟨l,aC,aB⟩:=h1 j (by rw[hr];simp)
   cases l with
   | nil=>simp at aB
   | cons i r=>have:=hl _ aC;simp at this
 | succ fuel =>
  refine wpAny_all rfl (by intro e;rw[e]at h2;simp at h2) fun j hj=>?_;obtain⟨l,aC,aB⟩:=h1 j hj
  cases l with
  | nil=>simp at aB
  | cons i r =>
   simp only[aE,beq_iff_eq]at aB;obtain⟨⟨rfl,h3⟩,h4⟩:=aB;obtain⟨o,ho⟩:=Option.isSome_iff_exists.1 h3;rw[zew];have aD:wpList P ops Q (o::r.filterMap fun i=>ops[i]?) a w:=by simpa[ho]using hw _ aC
   refine wpOp_mono (fun a w hq=>zcc r (i::t) fuel a w h4 (by have:=hl _ aC;simpa using this) hq) ?_;unfold wpOp;rw[ho];exact aD
theorem zdy(js:List Nat)(exits:List (List Nat))(fuel:Nat)(act:(Nat->Value)->Act)(Inv:List Nat->(Nat->Value)->Wd->Prop)(ok:zcx md ops js exits=true)
  (prod:∀j∈js,∀s x W,j∈Region.ready md ops (mask ops.size s)->¬j∈s->Inv s x W->∀K:Act->Wd->Prop,(∀v W',Inv (j::s) (upd x j v) W'->K (act (upd x j v)) W')->wpOp P ops Q j K (act x) W)
  (rest:∀s x W f,fuel<=f->(∀i∈js,i∈s)->Inv s x W->wpAny P md ops Q f (mask ops.size js) (act x) W)
  (out:∀t∈exits,∀s x W f,fuel+(js.filter fun i=>!t.contains i).length<=f->(∀i,i∈s↔i∈t)->Inv s x W->wpAny P md ops Q f (mask ops.size t) (act x) W) :
  ∀(m f:Nat)(s:List Nat)(x:Nat->Value)(W:Wd),(js.filter fun i=>!s.contains i).length<=m->fuel<=f->(∀i∈s,i∈js)->(∀i∈s,∀o,ops[i]?=some o->∀e∈o.after,Region.binds md e=true->e.on∈s)->Inv s x W->wpAny P md ops Q (f+m) (mask ops.size s) (act x) W:=by
 intro m
 induction m with
 | zero =>
  intro f s x W hc hf hs hcl hv;have hall:∀i∈js,i∈s:=fun i hi=>by
   exact cQ76
  rw[zbw ops.size s js fun i=>⟨hs i,hall i⟩];exact rest s x W (f+0) oM hall hv
 | succ m ih =>
  intro f s x W hc hf hs hcl hv;by_cases hall:∀i∈js,i∈s
  ·rw[zbw ops.size s js fun i=>⟨hs i,hall i⟩];exact rest s x W _ oM hall hv
  have aF:∀i,i∈s↔i∈js.filter fun i=>s.contains i:=fun i=>⟨fun h=>List.mem_filter.2 ⟨hs i h,by simpa using h⟩,fun h=>by simpa using(List.mem_filter.1 h).2⟩
  have aB:mask ops.size s=mask ops.size (js.filter fun i=>s.contains i):=zbw _ _ _ aF;by_cases hex:(js.filter fun i=>s.contains i)∈exits
  ·rw[aB];refine out _ hex s x W _ ?_ aF hv;have e:(js.filter fun i=>!(js.filter fun i=>s.contains i).contains i)=js.filter fun i=>!s.contains i:=by
    apply List.filter_congr;intro i hi;by_cases e2:i∈s<;>simp[hi,e2]
   rw[e];omega
  have hk:=List.all_eq_true.1 ok _ (ze3 (fun i=>s.contains i) js);have aH:((js.filter fun i=>s.contains i)==js)=false:=by
   exact cQ100
  have aD:exits.contains (js.filter fun i=>s.contains i)=false:=by
   apply Bool.eq_false_iff.2;intro e;exact hex (by simpa using e)
  have aC:zd4 md ops (js.filter fun i=>s.contains i)=true:=by
   exact cQ53
  rw[aH,aD,aC,Bool.false_or,Bool.false_or,Bool.not_true,Bool.false_or,aE]at hk;obtain⟨h1,h2⟩:=hk;rw[←aB]at h1 h2;refine wpAny_all rfl (by intro e;rw[e]at h1;simp at h1) fun j hj=>?_;have hj2:=List.all_eq_true.1 h2 j hj;simp only[aE,List.contains_iff_mem,Bool.not_eq_true']at hj2;have hjs:j∈js:=by simpa using hj2.1
  have hjn:¬j∈s:=fun h=>by
   exact cQ110
  rw[zew];refine prod j hjs s x W hj hjn hv _ fun v W' aG=>ih f (j::s) _ W' ?_ hf (fun i hi=>(List.mem_cons.1 hi).elim (fun e=>e ▸ hjs) (hs i)) (fun i hi o ho e he hbi=>mC _ ((List.mem_cons.1 hi).elim (fun q=>by subst q;exact zby hj ho ⟨e,he,rfl,hbi⟩) (fun q=>hcl i q o ho e he hbi))) aG;have aK:(js.filter fun i=>!(j::s).contains i).length<(js.filter fun i=>!s.contains i).length:=by
   exact cQ51
  omega
def altsOk(md:Region.Mode)(ops:Array Oper)(js line:List Nat)(alts:List (List Nat×List (List Nat))):Bool :=
 alts.all fun q=>altOk md ops q.1 q.2&&q.2.all fun l=>decide (l.length<=line.length+(js.filter fun i=>!q.1.contains i).length)
theorem zbv{id:Nat}{w:Wd}{a0:Act}(hm:P.follows .mixedOrders=true)(js line:List Nat)(alts:List (List Nat×List (List Nat)))(L:Nat->Mk)(act:(Nat->Value)->Act)(x0:Nat->Value)(ha:a0=act x0)
  (ok:zcx .any ops js (alts.map (·.1))=true) (okl:zcj .any ops js line=true) (oka:altsOk .any ops js line alts=true) (okd:zej ops js (fun i=>(L i).deps)=true) (hsz:line.length+js.length=ops.size)
  (prod:∀j∈js,∀s x iv W,(∀k∈(L j).deps,k∈s)->PX w.drew s (fun i lo hi w x=>(L i).P lo hi w (x i) x) x iv W->∀K:Act->Wd->Prop,(∀v W',Bw W W'->(L j).P W.1.size W'.1.size W' v (upd x j v)->K (act (upd x j v)) W')->wpOp P ops Q j K (act x) W)
  (rest:∀x iv W,PX w.drew js (fun i lo hi w x=>(L i).P lo hi w (x i) x) x iv W->wpList P ops Q (line.filterMap fun i=>ops[i]?) (act x) W)
  (out:∀q∈alts,∀l∈q.2,∀x iv W,PX w.drew q.1 (fun i lo hi w x=>(L i).P lo hi w (x i) x) x iv W->wpList P ops Q (l.filterMap fun i=>ops[i]?) (act x) W):(Code.region id ops true).wp P Q a0 w:=by
 have dep:∀j∈js,∀s,j∈Region.ready .any ops (mask ops.size s)->∀k∈(L j).deps,k∈s:=by
  intro j hj s hr k hk;have h:=List.all_eq_true.1 okd j hj
  exact cQ35
 subst ha;refine wp_region_any hm ?_;have h:=zdy (P:=P) (Q:=Q) (md:=.any) js (alts.map (·.1)) line.length act (fun s x W=>(∀i∈s,∀k∈(L i).deps,k∈s)/\∃iv,PX w.drew s (fun i lo hi w x=>(L i).P lo hi w (x i) x) x iv W) ok ?_ ?_ ?_ js.length line.length [] x0 w.drew (List.length_filter_le _ _) nR (fun i hi=>by cases hi) (fun i hi=>by cases hi) ⟨(fun i hi=>by cases hi),fun _=>(0,0),⟨bF _ _,(fun i hi=>by cases hi),(fun i hi=>by cases hi),(fun i hi=>by cases hi)⟩⟩
 ·rw[hsz,zgs]at h;exact h
 ·intro j hj s x W hr aD hI K hK;obtain⟨aC,aB,hp⟩:=hI;have hd:=dep j hj s hr;refine prod j hj s x aB W hd hp K fun v W' hb aF=>hK v W' ⟨fun i hi k hk=>?_,_,hp.add (fun i=>(L i).deps) (fun i lo hi w w' x h hb=>(L i).st lo hi w w' (x i) x h hb) (fun i lo hi w x x' e1 e2 h=>by rw[←e1];exact(L i).cg lo hi w (x i) x x' e2 h) aC aD hb (by rw[za7];exact aF)⟩;rcases List.mem_cons.1 hi with rfl|hi
  ·exact mC _ (hd k hk)
  exact mC _ (aC i hi k hk)
 ·intro s x W f hf hs hI;obtain⟨-,aB,hp⟩:=hI;exact zcc line js f (act x) W okl hf (rest x aB W (hp.of_mem hs))
 intro t ht s x W f hf aG hI;obtain⟨-,aB,hp⟩:=hI;obtain⟨q,hq,rfl⟩:=List.mem_map.1 ht;have h1:=List.all_eq_true.1 oka q hq;simp only[aE,List.all_eq_true,decide_eq_true_eq]at h1;exact zk1 q.1 q.2 f (act x) W h1.1 (fun l hl=>lT (h1.2 l hl) hf) fun l hl=>out q hq l hl x aB W (hp.of_mem fun i hi=>(aG i).2 hi)
end
end Kit
def okR(k l p q:Int):Bool:=decide ((k=0/\l=0/\p=0/\q=0)\/((k=1\/k=2)/\0<=l/\l<=200/\0<=p/\p<=16/\0<=q/\q<=16))
theorem zc5{k l p q:Int}(h:(k=0/\l=0/\p=0/\q=0)\/((k=1\/k=2)/\0<=l/\l<=200/\0<=p/\p<=16/\0<=q/\q<=16)):true=okR k l p q:=by simp only[okR];exact(dT h).symm
theorem zcr{k l p q:Int}(h:¬((k=0/\l=0/\p=0/\q=0)\/((k=1\/k=2)/\0<=l/\l<=200/\0<=p/\p<=16/\0<=q/\q<=16))):false=okR k l p q:=by simp only[okR];exact(dF h).symm
theorem okR_z{k l p q:Int}(hk:k=0)(hp:(p != 0)=true):false=okR k l p q:=zcr (by simp at hp;omega)
theorem okR_zq{k l p q:Int}(hk:k=0)(hp:(q != 0)=true):false=okR k l p q:=zcr (by simp at hp;omega)
theorem okR_l{k l p q:Int}(hk:k=0)(hp:(p != 0)=false)(hq:(q != 0)=false):(l==0)=okR k l p q:=by
 simp at hp hq;subst hk hp hq;by_cases h:l=0
 ·rw[←zc5 oM];simp[h]
 rw[←zcr oM];simp[h]
theorem RInts.two{w:Wd}{v:Va}{p q:Int}(h:RInts w v [p,q]):∃g aB c,v=.slice (aA g aB) 2 c/\g<w.1.size/\w.cell? ⟨g,aB,none⟩=some (nI p)/\w.cell? ⟨g,aB+1,none⟩=some (nI q):=by
 obtain⟨a,c,rfl,h⟩:=h;obtain⟨g,aB,rfl,hg,h0⟩:=h 0 sI;obtain⟨g1,aC,e,_,h1⟩:=h 1 sI;simp at e;obtain⟨rfl,rfl⟩:=e;exact⟨g,aB,c,rfl,hg,h0,h1⟩
theorem zc6(k l p q:Int)(v:Va)(w:Wd)(hv:RInts w v [p,q]):
  Calls Tryz.prog 134 #[.agg #[nI k,nI l,v]] w fun e w'=>e=.returned (.bool (okR k l p q))/\Bw w w':=by
 obtain⟨g,aB,c,rfl,hg,c0,c1⟩:=RInts.two hv;clear hv;go_enter Tryz.func134,Tryz.ntmps134
 go_wp2
 ·go_rounds 3
  all_goals (go_ret;refine⟨za3 ?_,gW_⟩)
  all_goals first| (refine zc5 ?_;omega)| (refine zcr ?_;omega)| exact okR_z ‹k=0› ‹(p != 0)=true›|exact okR_zq ‹k=0› ‹(q != 0)=true›|exact okR_l ‹k=0› ‹(p != 0)=false› ‹(q != 0)=false›
 all_goals (go_ret;refine⟨za3 ?_,gW_⟩;refine zcr ?_;omega)
theorem zei(k l:Int)(xs:List Int)(v:Va)(w:Wd)(hv:RInts w v xs)(hn:xs.length≠2):
  Calls Tryz.prog 134 #[.agg #[nI k,nI l,v]] w fun e w'=>e=.returned (.bool false)/\Bw w w':=by
 obtain⟨a,c,rfl,-⟩:=hv;generalize xs.length=n at*;have h1:((n:Int) != 2)=true:=sO
 go_enter Tryz.func134,Tryz.ntmps134
 go_wp2
 all_goals (go_ret;exact⟨rfl,gW_⟩)
theorem Tryz.u3:Tryz.prog.underlying 3=some (.int .i64):=by kernel_rfl
def quadB(a b c d:Nat):ByteArray:=⟨#[UInt8.ofNat a,UInt8.ofNat b,UInt8.ofNat c,UInt8.ofNat d]⟩
theorem zke(a b c d:Nat):(quadB a b c d).size=4:=rfl
theorem Tryz.u9:Tryz.prog.underlying 9=some .string:=by kernel_rfl
theorem Tryz.u5:Tryz.prog.underlying 5=some (.int .u8):=by kernel_rfl
theorem zlx(a b c d:Nat)(ha:a<256)(hb:b<256)(hc:c<256)(hd:d<256)(W:Wd)(B C:Nat)
  (h0:W.cell? ⟨B,0,none⟩=some (.int .u8 a)) (h1:W.cell? ⟨B,1,none⟩=some (.int .u8 b)) (h2:W.cell? ⟨B,2,none⟩=some (.int .u8 c)) (h3:W.cell? ⟨B,3,none⟩=some (.int .u8 d)) :
  (convert 22 9 (.slice (aA B 0) 4 C)).run Tryz.prog W=.ok (.string (quadB a b c d)) W:=by
 refine run_convert_bytes_back (P:=Tryz.prog) W 22 9 5 ⟨B,0,none⟩ C [UInt8.ofNat a,UInt8.ofNat b,UInt8.ofNat c,UInt8.ofNat d] Tryz.u22 Tryz.u5 Tryz.u9 ?_;intro j hj;simp at hj
 match j,hj with
 | 0,_=>simp[Addr.add,h0,UInt8.toNat_ofNat'];omega
 | 1,_=>simp[Addr.add,h1,UInt8.toNat_ofNat'];omega
 | 2,_=>simp[Addr.add,h2,UInt8.toNat_ofNat'];omega
 | 3,_=>simp[Addr.add,h3,UInt8.toNat_ofNat'];omega
theorem zhk(k l p q:Int)(v:Va)(w:Wd)(hv:RInts w v [p,q])(hr:okR k l p q=false):
  Calls Tryz.prog 137 #[.agg #[nI k,nI l,v]] w fun e w'=>e=.returned (.tuple #[eT,.bool false])/\Bw w w':=by
 have HC:=hJ (fun(o:Obj)=>zc6 k l p q v (w.alloc o) (hv.alloc o));rw[hr]at HC;obtain⟨g,aB,c,rfl,-⟩:=RInts.two hv;clear hv hr;go_enter Tryz.func137,Tryz.ntmps137
 exact cQ77
theorem zfy(k l:Int)(xs:List Int)(v:Va)(w:Wd)(hv:RInts w v xs)(hn:xs.length≠2):
  Calls Tryz.prog 137 #[.agg #[nI k,nI l,v]] w fun e w'=>e=.returned (.tuple #[eT,.bool false])/\Bw w w':=by
 have HC:=hJ (fun(o:Obj)=>zei k l xs v (w.alloc o) (hv.alloc o) hn);obtain⟨a,c,rfl,-⟩:=hv;go_enter Tryz.func137,Tryz.ntmps137
 exact cQ77
theorem zgo(k l p q:Nat)(v:Va)(w:Wd)(hv:RInts w v [(p:Int),(q:Int)])(hr:okR k l p q=true)(hk:k<256)(hl:l<256)(hp:p<256)(hq:q<256):
  Calls Tryz.prog 137 #[.agg #[nI k,nI l,v]] w fun e w'=>e=.returned (.tuple #[.string (quadB k l p q),.bool true])/\Bw w w':=by
 have HC:=hJ (fun(o:Obj)=>zc6 k l p q v (w.alloc o) (hv.alloc o));rw[hr]at HC;have aF:=zlx k l p q hk hl hp hq;obtain⟨g,aB,c,rfl,hg,c0,c1⟩:=RInts.two hv;clear hv hr;go_enter Tryz.func137,Tryz.ntmps137
 go_wp2_with fail
 refine(HC.o _).mono ?_;rintro e w1 ⟨rfl,B1⟩;have X1:=(AtI.new w k l (.slice (aA g aB) 2 c)).below B1 sI;obtain⟨d0,d1,d2,m1⟩:=X1.cells;have e0:=(B1.cell (p:=⟨g,aB,none⟩) sO).trans ((World.cell?_alloc_lt _ _ _ hg).trans c0);have e1:=(B1.cell (p:=⟨g,aB+1,none⟩) sO).trans ((World.cell?_alloc_lt _ _ _ hg).trans c1);have aC:=hJ B1;have aG:g<w1.1.size:=oM
 clear B1 X1 c0 c1 hg;go_wp2
 go_region
 have h1:Bw w w1:=((bF _ w).alloc nR _).trans (aC.o.mono sI);have aD:=hJ (show∀o,Bw w (w1.alloc o).drew from fun o=>(h1.alloc h1.size o).drew);clear h1;go_wp2
 go_ret2
 exact⟨rfl,aD.o _⟩
namespace Kit
def AtT(T:TypeId)(w:Wd)(b:Nat)(k l:Int)(v:Va):Prop:=w.1[b]?=some (.cells #[nI k,nI l,v] T (0,0))
theorem AtT.lt{T:TypeId}{w:Wd}{b:Nat}{k l:Int}{v:Va}(h:AtT T w b k l v):b<w.1.size:=(Array.getElem?_eq_some_iff.1 h).1
theorem AtT.new(T:TypeId)(w:Wd)(k l:Int)(v:Va):AtT T (w.alloc (.cells #[nI k,nI l,v] T)) w.1.size k l v:=za2 w _
theorem AtT.alloc{T:TypeId}{w:Wd}{b:Nat}{k l:Int}{v:Va}(h:AtT T w b k l v)(o:Obj):AtT T (w.alloc o) b k l v:=(Below.heap_alloc _ _ _ h.lt).trans h
theorem AtT.below{T:TypeId}{w w':Wd}{b B:Nat}{k l:Int}{v:Va}(h:AtT T w b k l v)(hb:Below B w w')(hB:b<B):AtT T w' b k l v:=(hb.block b hB).trans h
theorem AtT.grown{T:TypeId}{w w':Wd}{b:Nat}{k l:Int}{v:Va}{row:Option Nat}(h:AtT T w b k l v)(hg:w.grownBy w' row)(hr:row≠some b):AtT T w' b k l v:=(hg.block b h.lt (fun e=>hr e.symm)).trans h
theorem AtT.cells{T:TypeId}{w:Wd}{b:Nat}{k l:Int}{v:Va}(h:AtT T w b k l v):
  w.cell? ⟨b,0,none⟩=some (nI k)/\w.cell? ⟨b,1,none⟩=some (nI l)/\w.cell? ⟨b,2,none⟩=some v:=by
 have h':w.1[b]?=some (.cells #[nI k,nI l,v] T (0,0)):=h;exact⟨by simp[World.cell?,h'],by simp[World.cell?,h'],by simp[World.cell?,h']⟩
end Kit
def okL(k l:Int):List Int->Bool
 | [p,q]=>okR k l p q
 | _=>false
theorem zhl(k l:Int)(xs:List Int)(h:xs.length≠2):okL k l xs=false:=by
 match xs,h with
 | [],_=>rfl
 | [_],_=>rfl
 | [_,_],h=>exact absurd rfl h
 | _::_::_::_,_=>rfl
theorem two_or(xs:List Int):(∃p q,xs=[p,q])\/xs.length≠2:=by
 match xs with
 | []=>right;simp
 | [_]=>right;simp
 | [p,q]=>left;exact⟨p,q,rfl⟩
 | _::_::_::_=>right;simp
theorem ze0(k l:Int)(xs:List Int)(v:Va)(w:Wd)(hv:RInts w v xs):
  Calls Tryz.prog 134 #[.agg #[nI k,nI l,v]] w fun e w'=>e=.returned (.bool (okL k l xs))/\Bw w w':=by
 rcases two_or xs with⟨p,q,rfl⟩| h
 ·exact zc6 k l p q v w hv
 rw[zhl k l xs h];exact zei k l xs v w hv h
def textL(k l:Int)(xs:List Int):ByteArray:=if okL k l xs then quadB k.toNat l.toNat (xs.getD 0 0).toNat (xs.getD 1 0).toNat else⟨#[]⟩
theorem zkf{k l p q:Int}(h:okR k l p q=true):(0<=k/\k<=2)/\(0<=l/\l<=200)/\(0<=p/\p<=16)/\(0<=q/\q<=16):=by
 have h':=of_decide_eq_true h;omega
theorem zdp(k l:Int)(xs:List Int)(v:Va)(w:Wd)(hv:RInts w v xs):
  Calls Tryz.prog 137 #[.agg #[nI k,nI l,v]] w fun e w'=>e=.returned (.tuple #[.string (textL k l xs),.bool (okL k l xs)])/\Bw w w':=by
 rcases two_or xs with⟨p,q,rfl⟩| h
 ·cases hr:okR k l p q with
  | true =>
   have hL:okL k l [p,q]=true:=hr;obtain⟨hk,hl,hp,hq⟩:=zkf hr;obtain⟨k,rfl⟩:=Int.eq_ofNat_of_zero_le hk.1;obtain⟨l,rfl⟩:=Int.eq_ofNat_of_zero_le hl.1;obtain⟨p,rfl⟩:=Int.eq_ofNat_of_zero_le hp.1;obtain⟨q,rfl⟩:=Int.eq_ofNat_of_zero_le hq.1;have e1:textL (k:Int) (l:Int) [(p:Int),(q:Int)]=quadB k l p q:=by unfold textL;rw[if_pos hL];rfl
   rw[e1,hL];exact zgo k l p q v w hv hr oM oM oM oM
  | false =>
   have hL:okL k l [p,q]=false:=hr;have e1:textL k l [p,q]=⟨#[]⟩:=by unfold textL;rw[if_neg (by simp[hL])]
   rw[e1,hL];exact zhk k l p q v w hv hr
 have hL:=zhl k l xs h;have e1:textL k l xs=⟨#[]⟩:=by unfold textL;rw[if_neg (by simp[hL])]
 rw[e1,hL];exact zfy k l xs v w hv h
theorem zdf(a1 a2:OA)(n m c1 c2:Nat)(w:Wd):
  Calls Tryz.prog 133 #[.agg #[.slice a1 n c1,.slice a2 m c2]] w fun e w'=>e=.returned (.bool (okB n m))/\Bw w w':=by
 by_cases h1:n=16
 ·by_cases h2:m=8
  ·subst h1 h2;go_enter Tryz.func133,Tryz.ntmps133
   go_wp2;go_ret;exact⟨rfl,gW_⟩
  subst h1;have q:((m:Int)==8)=false:=sO
  rw[show okB 16 m=false by simp[okB,h2]];go_enter Tryz.func133,Tryz.ntmps133
  go_wp2;go_ret;exact⟨rfl,gW_⟩
 have q:((n:Int)==16)=false:=sO
 rw[show okB n m=false by simp[okB,h1]];go_enter Tryz.func133,Tryz.ntmps133
 go_wp2;go_ret;exact⟨rfl,gW_⟩
theorem tk{P:Program}{md:Region.Mode}{ops:Array Oper}{Q:Exit->Act->Wd->Prop}{S:Wd->Prop}{fuel:Nat}{listed:Array Bool}{a:Act}{w:Wd}(i:Nat){oi:Oper}{v:Va}(hS:S w)(h:wpAnyH P md ops Q S fuel (listed.setIfInBounds i true) (a.put oi.dst v) w)
  (hi:ops[i]?=some oi:=by rfl) (hs:Region.noSelect ops=true:=by kernel_rfl) (hf:Region.free md ops listed i=true:=by kernel_rfl) (hr:(Region.ready md ops listed).contains i=true:=by kernel_rfl)
  (hQ:∀c a w,Q (.panic c) (a.put oi.dst v) w->Q (.panic c) a w:=by exact fun _ _ _ h=>h) (hw:Region.wanted oi (yielded ops a.tmps)=true:=by rfl)
  (hv:∀w,S w->(execOp a.eval oi).run P w=.ok (.value v) w:=by(intro w aB;(try dsimp only at aB);first| (go_simp;done)| (go_simp;with_reducible rfl))):wpAnyH P md ops Q S (fuel+1) listed a w :=
 wpAnyH_take hi hs hf hr hQ (.inl ⟨hw,hv⟩) hS h
namespace Kit
def byteN:List Bool->Nat
 | []=>0
 | b::r=>(if b then 1 else 0)+2*byteN r
theorem byteN_lt(l:List Bool):byteN l<2 ^ l.length:=by
 induction l with
 | nil=>simp[byteN]
 | cons b r ih =>
  simp only[byteN,lC,Nat.pow_succ]
  split<;>omega
theorem zgc(l:List Bool)(b:Bool):byteN (l++[b])=byteN l+(if b then 2 ^ l.length else 0):=by
 induction l with
 | nil=>simp[byteN]
 | cons a r ih =>
  simp only[List.cons_append,byteN,ih,lC,Nat.pow_succ]
  split<;>split<;>omega
theorem zfg(l:List Bool)(h:l.length<=8):byteN l<256:=by
 have h1:=byteN_lt l;have h2:2 ^ l.length<=2 ^ 8:=Nat.pow_le_pow_right oM h;omega
def bitN(n i:Nat):Bool:=decide (n/2 ^ i%2=1)
def bB(l:List Bool):UInt8:=UInt8.ofNat (byteN l)
theorem bB_toNat(l:List Bool)(h:l.length<=8):(bB l).toNat=byteN l:=by
 have:=zfg l h;simp[bB,UInt8.toNat_ofNat'];omega
theorem bitN_int(n k:Nat):bitN n k=(((n/2 ^ k%2:Nat):Int)==1):=by
 unfold bitN;generalize n/2 ^ k%2=p;rw[Bool.eq_iff_iff];simp;omega
end Kit
def bitP(j:Nat):Int:=((2 ^ j:Nat):Int)
theorem zmq:bitP 0=1:=rfl
theorem zmr(j:Nat):bitP (j+1)=2*bitP j:=by unfold bitP;rw[Nat.pow_succ];omega
theorem bitP_le(j:Nat)(h:j<=8):0<=bitP j/\bitP j<=256:=by
 have:=Nat.pow_le_pow_right (n:=2) oM h;unfold bitP;generalize 2 ^ j=p at*;omega
def preN(l:List Bool)(j:Nat):Int:=(byteN (l.take j):Nat)
theorem zms(l:List Bool):preN l 0=0:=by simp[preN,byteN]
theorem preN_le(l:List Bool)(j:Nat)(h:l.length<=8):0<=preN l j/\preN l j<=255:=by
 have:=zfg (l.take j) sO;unfold preN;omega
theorem preN_yes(l:List Bool)(j:Nat)(h:j<l.length)(ht:l[j]=true):preN l (j+1)=preN l j+bitP j:=by
 unfold preN bitP;rw[tS h,zgc,ht,lK,Nat.min_eq_left oM];simp
theorem preN_no(l:List Bool)(j:Nat)(h:j<l.length)(ht:l[j]=false):preN l (j+1)=preN l j:=by
 unfold preN;rw[tS h,zgc,ht];simp
theorem preN_all(l:List Bool)(h:l.length<=8):preN l l.length=((bB l).toNat:Int):=by
 rw[bB_toNat l h,preN,List.take_length]
theorem zdh(v:Va)(l:List Bool)(w:Wd)(hv:RFl w v l)(hl:l.length<=8):
  Calls Tryz.prog 166 #[v] w fun e w'=>e=.returned (.int .u8 (bB l).toNat)/\w=w':=by
 obtain⟨a,c,rfl,ha⟩:=hv;have HA:=hJ ha;clear ha;go_enter Tryz.func166,Tryz.ntmps166
 go_wp2;go_loopw [3,4,5] (fun x y i wr=>∃j:Nat,j<=l.length/\i=.int .i64 j/\x=.int .i64 (preN l j)/\y=.int .i64 (bitP j)/\w=wr) (fun _ _ i _=>l.length-(intOf i).toNat)
 case atStart=>exact⟨0,zL _,rfl,by rw[zms],by rw[zmq],rfl⟩
 obtain⟨j,hj,rfl,rfl,rfl,rfl⟩:=hrel;obtain⟨p0,p1⟩:=preN_le l j hl;obtain⟨q0,q1⟩:=bitP_le j oM;by_cases hlt:j<l.length
 ·obtain⟨g,aC,rfl,_,k1⟩:=HA.o j hlt;obtain⟨t,ht⟩:∃t,l[j]=t:=⟨_,rfl⟩
  rw[ht]at k1;have j0:(0:Int)<=(j:Int):=oM
  have j1:(j:Int)<(l.length:Int):=oM
  have E1:=hJ (zmr j)
  cases t with
  | true =>
   have E2:=hJ (preN_yes l j hlt ht);clear ht;go_wp2;go_roundw
   case rel=>exact⟨j+1,oM,gK,by rw[E2.out],by rw[E1.out],trivial⟩
   simp[intOf];omega
  | false =>
   have E2:=hJ (preN_no l j hlt ht);clear ht;go_wp2;go_roundw
   case rel=>exact⟨j+1,oM,gK,by rw[E2.out],by rw[E1.out],trivial⟩
   simp[intOf];omega
 have aB:j=l.length:=oM
 have HJ:=hJ aB;clear aB;go_wp2;go_ret;exact⟨zco (show Value.int .u8 _=Value.int .u8 _ by rw[←preN_all l hl,←HJ.o]),rfl⟩
namespace Kit
end Kit
def textB(xs ys:List Bool):ByteArray:=⟨#[bB (xs.take 8),bB (xs.drop 8),bB ys]⟩
namespace Kit
theorem rfl_take{w:Wd}{g off n c c' k:Nat}{xs:List Bool}(h:RFl w (.slice (aA g off) n c) xs)(hk:k<=n):RFl w (.slice (aA g off) k c') (xs.take k):=by
 obtain⟨a,cap,e,h⟩:=h;simp only[vJ]at e;obtain⟨rfl,rfl,-⟩:=e;refine⟨some ⟨g,off,none⟩,c',by rw[lK,Nat.min_eq_left hk],fun j hj=>?_⟩;have aC:j<xs.length:=by simp at hj;omega
 obtain⟨g',aB,e1,e2,e3⟩:=h j aC;exact⟨g',aB,e1,e2,by rw[e3];simp⟩
theorem rfl_drop{w:Wd}{g off n c c' k:Nat}{xs:List Bool}(h:RFl w (.slice (aA g off) n c) xs)(hk:k<=n):RFl w (.slice (aA g (off+k)) (n-k) c') (xs.drop k):=by
 obtain⟨a,cap,e,h⟩:=h;simp only[vJ]at e;obtain⟨rfl,rfl,-⟩:=e;refine⟨some ⟨g,off+k,none⟩,c',by rw[List.length_drop],fun j hj=>?_⟩;have aC:k+j<xs.length:=by simp at hj;omega
 obtain⟨g',aB,e1,e2,e3⟩:=h (k+j) aC;simp only[oJ,aJ]at e1;obtain⟨rfl,rfl,-⟩:=e1;refine⟨g,off+k,rfl,e2,?_⟩;rw[Nat.add_assoc,e3];simp
end Kit
theorem zks(p q r:UInt8)(W:Wd):(convert 22 9 (.slice (aA W.1.size 0) 3 3)).run Tryz.prog (W.n #[.int .u8 (p.toNat:Int),.int .u8 (q.toNat:Int),.int .u8 (r.toNat:Int)] 5).drew=.ok (.string ⟨#[p,q,r]⟩) (W.n #[.int .u8 (p.toNat:Int),.int .u8 (q.toNat:Int),.int .u8 (r.toNat:Int)] 5).drew:=by
 refine run_convert_bytes_back _ 22 9 5 ⟨W.1.size,0,none⟩ 3 [p,q,r] Tryz.underlying22 Tryz.underlying5 Tryz.underlying9 ?_;intro j hj
 match j,hj with
 | 0,_=>simp[Addr.add]
 | 1,_=>simp[Addr.add]
 | 2,_=>simp[Addr.add]
theorem zh0(a1 a2:OA)(n m c1 c2:Nat)(w:Wd)(h:okB n m=false):
  Calls Tryz.prog 136 #[.agg #[.slice a1 n c1,.slice a2 m c2]] w fun e w'=>e=.returned (.tuple #[eT,.bool false])/\Bw w w':=by
 have C:=hJ (zdf a1 a2 n m c1 c2);rw[h]at C;clear h;go_enter Tryz.func136,Tryz.ntmps136
 go_wp2_with fail
 refine(C.out _).mono ?_;rintro e w1 ⟨rfl,B1⟩;have HB:=hJ (((bF _ w).alloc nR _).trans (B1.mono sI));clear B1;go_wp2;refine bY (v:=.tuple #[eT,.bool false]) sR0 rfl ⟨rfl,HB.o⟩
set_option linter.unusedSimpArgs false in
theorem zg1(g1 g2 c1 c2:Nat)(xs ys:List Bool)(w:Wd)(hu:RFl w (.slice (aA g1 0) 16 c1) xs)(hv:RFl w (.slice (aA g2 0) 8 c2) ys)(h1:16<=c1)(h3:c1<=maxLen):
  Calls Tryz.prog 136 #[.agg #[.slice (aA g1 0) 16 c1,.slice (aA g2 0) 8 c2]] w fun e w'=>e=.returned (.tuple #[.string (textB xs ys),.bool true])/\Bw w w':=by
 have aD:xs.length=16:=by obtain⟨a,c,e,-⟩:=hu;simp at e;omega
 have aF:ys.length=8:=by obtain⟨a,c,e,-⟩:=hv;simp at e;omega
 have HT:=hJ (rfl_take (c':=c1) (k:=8) hu dC);have HD:Hid (RFl w (.slice (aA g1 8) 8 (c1-8)) (xs.drop 8)):=rfl_drop (c':=c1-8) (k:=8) hu dC;have HV:=hJ hv;obtain⟨p,hp⟩:∃p,bB (xs.take 8)=p:=⟨_,rfl⟩
 obtain⟨q,hq⟩:∃q,bB (xs.drop 8)=q:=⟨_,rfl⟩
 obtain⟨r,hr⟩:∃r,bB ys=r:=⟨_,rfl⟩
 have R1:=hJ (fun w hv=>zdh (.slice (aA g1 0) 8 c1) (xs.take 8) w hv sO);have R2:=hJ (fun w hv=>zdh (.slice (aA g1 8) 8 (c1-8)) (xs.drop 8) w hv sO);have R3:=hJ (fun w hv=>zdh (.slice (aA g2 0) 8 c2) ys w hv oM);have HX:Hid (textB xs ys=⟨#[p,q,r]⟩):=by show textB xs ys=_;rw[textB,hp,hq,hr]
 rw[hp]at R1;rw[hq]at R2;rw[hr]at R3;have C:=hJ (zdf (aA g1 0) (aA g2 0) 16 8 c1 c2);rw[show okB 16 8=true from rfl]at C;rw[HX.o];clear hp hq hr hu hv aD aF HX;have i1:(8:Int)<=(c1:Int):=oM
 have i2:(16:Int)<=(c1:Int):=oM
 have i3:c1<=9223372036854775807:=h3;have i4:¬c1=8:=oM
 go_enter Tryz.func136,Tryz.ntmps136
 go_wp2_with fail
 refine(C.out _).mono ?_;rintro e w1 ⟨rfl,B1⟩;have X1:=(AtP.new 26 w _ _).below B1 sI;have b1:Bw w w1:=((bF _ w).alloc nR _).trans (B1.mono sI);have U1:=HT.o.below b1 nR;have V1:=HD.o.below b1 nR;have W1:=HV.o.below b1 nR;have H1:=hJ (aI X1 (aI U1 (aI V1 (aI W1 b1))));obtain⟨d0,d1⟩:=X1.cells;have m1:=X1.lt;have aC:=zks p q r w1;clear B1 X1 U1 V1 W1 b1 C HT HD HV;go_wp2_with fail
 refine wp_region_held_drew (S:=(fun w'=>w'.cell? ⟨w.1.size,0,none⟩=some (.slice (aA g1 0) 16 c1)/\w'.cell? ⟨w.1.size,1,none⟩=some (.slice (aA g2 0) 8 c2))) kL ⟨d0,d1⟩ (fun aB=>?_);refine tk 0 aB ?_;simp only[Act.put];refine tk 1 aB ?_;simp only[Act.put];refine tk 2 aB ?_;simp only[Act.put];refine tk 4 aB ?_;simp only[Act.put];refine tk 5 aB ?_;simp only[Act.put];refine tk 6 aB ?_;simp only[Act.put];refine tk 8 aB ?_;simp only[Act.put];refine tk 9 aB ?_;simp only[Act.put];refine wH (rs:=[3]) kL sI ?_;refine rC (o:={ dst:=some 10,op:=Op.call { callee:=Callee.value (Operand.func 166),args:=#[Operand.tmp 9],argTypes:=#[24] },type:=_,pos:=_,after:=_,guard:=none }) rfl (fun K hK=>?_) ?_
 ·go_simp;refine(R1.out _ H1.o.2.1.drew).mono ?_;rintro e w2 ⟨rfl,rfl⟩;go_wp2_with fail
  refine hK.out _ _ (⟨d0,d1⟩) (fun aB=>?_);clear hK K;try simp only[Act.put,sA,cZ,cS]
  refine wH (rs:=[7]) kL sI ?_;refine rC (o:={ dst:=some 14,op:=Op.call { callee:=Callee.value (Operand.func 166),args:=#[Operand.tmp 13],argTypes:=#[24] },type:=_,pos:=_,after:=_,guard:=none }) rfl (fun K hK=>?_) ?_
  ·go_simp;refine(R2.out _ H1.o.2.2.1.drew).mono ?_;rintro e w2 ⟨rfl,rfl⟩;go_wp2_with fail
   refine hK.out _ _ (⟨d0,d1⟩) (fun aB=>?_);clear hK K;try simp only[Act.put,sA,cZ,cS]
   refine wH (rs:=[10]) kL sI ?_;refine rC (o:={ dst:=some 17,op:=Op.call { callee:=Callee.value (Operand.func 166),args:=#[Operand.tmp 16],argTypes:=#[24] },type:=_,pos:=_,after:=_,guard:=none }) rfl (fun K hK=>?_) ?_
   ·go_simp;refine(R3.out _ H1.o.2.2.2.1.drew).mono ?_;rintro e w2 ⟨rfl,rfl⟩;go_wp2_with fail
    refine hK.out _ _ (⟨d0,d1⟩) (fun aB=>?_);clear hK K;try simp only[Act.put,sA,cZ,cS]
    refine wH (rs:=[11]) kL sI ?_;refine rC (o:={ dst:=some 18,op:=Op.buildSlice 22 3 #[(0,Operand.tmp 10),(1,Operand.tmp 14),(2,Operand.tmp 17)],type:=_,pos:=_,after:=_,guard:=none }) rfl (fun K hK=>?_) ?_
    ·go_simp;refine hK.out _ _ ((H1.o.1.alloc _).drew.cells) (fun aB=>?_);clear hK K;try simp only[Act.put,sA,cZ,cS]
     refine wH (rs:=[12]) kL sI ?_;refine rC (o:={ dst:=some 19,op:=Op.convert 22 9 (Operand.tmp 18),type:=_,pos:=_,after:=_,guard:=none }) rfl (fun K hK=>?_) ?_
     ·go_simp;refine hK.out _ _ ((H1.o.1.alloc _).drew.cells) (fun aB=>?_);clear hK K;try simp only[Act.put,sA,cZ,cS]
      refine wpAnyH_take (i:=13) (oi:={ dst:=some 2,op:=Op.assign (Operand.tmp 19),type:=_,pos:=_,after:=_,guard:=none }) (v:=?_) rfl kL kL kL (fun _ _ _ h=>h) (Or.inl ⟨by rfl,?_⟩) aB ?_
      rotate_left
      ·exact cQ106
      try simp only[Act.put,sA,cZ,cS]
      refine wpAnyH_take (i:=14) (oi:={ dst:=some 3,op:=Op.assign (Operand.const (Value.bool true)),type:=_,pos:=_,after:=_,guard:=none }) (v:=?_) rfl kL kL kL (fun _ _ _ h=>h) (Or.inl ⟨by rfl,?_⟩) aB ?_
      rotate_left
      ·exact cQ106
      try simp only[Act.put,sA,cZ,cS]
      refine wpAnyH_done kL ?_ _;have HZ:=hJ (((H1.o.2.2.2.2.alloc H1.o.2.2.2.2.size (.cells #[.int .u8 (p.toNat:Int),.int .u8 (q.toNat:Int),.int .u8 (r.toNat:Int)] 5))).drew);clear H1 aC aB;go_wp2;refine bY (v:=.tuple #[.string ⟨#[p,q,r]⟩,.bool true]) sR0 rfl ⟨rfl,HZ.o⟩
     exact rN
    exact rN
   exact rN
  exact rN
 exact rN
def textA(xs ys:List Bool):ByteArray:=if okB xs.length ys.length then textB xs ys else⟨#[]⟩
theorem zg2(u v:Va)(xs ys:List Bool)(base:Nat)(w:Wd)(h:Two w base u v xs ys):
  Calls Tryz.prog 136 #[.agg #[u,v]] w fun e w'=>e=.returned (.tuple #[.string (textA xs ys),.bool (okB xs.length ys.length)])/\Bw w w':=by
 cases hok:okB xs.length ys.length with
 | false =>
  obtain⟨a1,c1,a2,c2,rfl,rfl⟩:=h.form;have e:textA xs ys=⟨#[]⟩:=by simp[textA,hok]
  rw[e];exact zh0 a1 a2 xs.length ys.length c1 c2 w hok
 | true =>
  obtain⟨h1,h2⟩:=okB_true hok;have e:textA xs ys=textB xs ys:=by simp[textA,hok]
  rw[e];obtain⟨g1,c1,e1,-,-,-,-,k1⟩:=h.a.at 0 (by rw[zad];omega);obtain⟨g2,c2,e2,-,-,-,-,k2⟩:=h.b.at 0 (by rw[zad];omega);rw[zad,h1]at e1 k1;rw[zad,h2]at e2 k2;have hm:c1<=maxLen:=by
   rcases h.a.2 with⟨h3,-⟩| ⟨g,cap,cur,h3,-,-,-,h4,-⟩
   ·rw[h3]at e1;cases e1
   rw[e1]at h3;simp only[vJ]at h3;rw[h3.2.2];exact h4
  have ha:=h.a.rfl;have hb:=h.b.rfl;rw[e1]at ha ⊢;rw[e2]at hb ⊢;exact zg1 g1 g2 c1 c2 xs ys w ha hb k1 hm
def AnyB(e:Ending):Prop:=∃r,e=.returned (.bool r)
theorem zd0(S:Nat->Prop)(b:Nat)(u v iv bv dv pv:Va)(m:MD)(w:Wd)(h:PM w S b u v iv bv dv pv m):
  Calls Tryz.prog 196 #[.pointer (aA b 0)] w fun e w'=>AnyB e/\w'=w:=by
 obtain⟨a1,c1,a2,c2,a3,c3,a4,c4,a5,c5,a6,c6,rfl,rfl,rfl,rfl,rfl,rfl⟩:=h.form;have x5:=h.box.c5;have x6:=h.box.c6;clear h;by_cases h1:(m.6.length:Int)<=32
 ·by_cases h2:m.nx<=99000
  ·exact cQ94
  exact cQ94
 exact cQ94
def isNm(k:Int):Bool:=(k==2 || k==3)|| k==4
theorem zc1(id kd io pt bk sl:Int)(nm:BA)(bt ot:Bool)(af:Int)(a:OA)(n c:Nat)(w:Wd):
  Calls Tryz.prog 41 #[.agg (K7 id kd io pt bk sl nm bt ot af a n c)] w fun e w'=>e=.returned (.bool (isNm kd))/\Bw w w':=by
 by_cases h2:kd=2
 ·subst h2;go_enter Tryz.func41,Tryz.ntmps41
  go_wp2;go_ret;exact⟨rfl,gW_⟩
 by_cases h3:kd=3
 ·subst h3;go_enter Tryz.func41,Tryz.ntmps41
  go_wp2;go_ret;exact⟨rfl,gW_⟩
 by_cases h4:kd=4
 ·subst h4;go_enter Tryz.func41,Tryz.ntmps41
  go_wp2;go_ret;exact⟨rfl,gW_⟩
 have HN:Hid (isNm kd=false):=by show isNm kd=false;unfold isNm;simp[h2,h3,h4]
 go_enter Tryz.func41,Tryz.ntmps41
 go_wp2;go_ret;exact⟨by rw[HN.o];simp[h2,h3,h4],gW_⟩
theorem zfm(x y:Int)(u v iv bv dv pv:Va)(m:MD)(w:Wd)(h:MR w u v iv bv dv pv m)(hl:m.6.length<=1048576):
  Calls Tryz.prog 12 #[.agg #[u,v,iv,bv,dv,pv,nI m.nx],nI x,nI y] w fun e w'=>(∃k:Int,e=.returned (nI k))/\Bw w w':=by
 have H:=hJ h;obtain⟨a1,c1,a2,c2,a3,c3,a4,c4,a5,c5,a6,c6,rfl,rfl,rfl,rfl,rfl,rfl⟩:=h.form;clear h;obtain⟨W0,aC⟩:∃W0,w.alloc (.cells (M7 m a1 c1 a2 c2 a3 c3 a4 c4 a5 c5 a6 c6) 33)=W0:=⟨_,rfl⟩
 have HC:Hid (∀W,Bw W0 W->W.cell? ⟨w.1.size,5,none⟩=some (sL a6 m.6 c6)/\RN KDep W (sL a6 m.6 c6) m.ds/\Bw w W):=fun W b=>by
  rw[←aC]at b;have bb:=((bF _ w).alloc nR (.cells (M7 m a1 c1 a2 c2 a3 c3 a4 c4 a5 c5 a6 c6) 33)).trans (b.mono sI);exact⟨((AtC.new w 33 (M7 m a1 c1 a2 c2 a3 c3 a4 c4 a5 c5 a6 c6)).over b).cell 5,H.out.p.below bb nR,bb⟩
 have x5:=(HC.o _ bR).1;go_enter Tryz.func12,Tryz.ntmps12
 go_wp2;clear aC;go_loopw [7] (fun i wr=>∃j:Nat,j<=m.6.length/\i=.int .i64 j/\Hid (Bw W0 wr)) (fun i _=>m.6.length-(intOf i).toNat)
 case atStart=>exact⟨0,zL _,rfl,bF _ _⟩
 obtain⟨j,hj,rfl,HR⟩:=hrel;obtain⟨y5,hr,hb⟩:=HC.o wr HR.o;by_cases hlt:j<m.6.length
 ·obtain⟨a,c,e1,-,hc⟩:=hr;simp only[vJ,true_and]at e1;obtain⟨rfl,rfl⟩:=e1;obtain⟨g,aB,t,rfl,-,hc,p,rfl,hp⟩:=hc j hlt;obtain⟨X,hX⟩:∃X,m.ds[j]=X:=⟨_,rfl⟩
  rw[hX]at hc hp;obtain⟨id,kd,io,pt,bk,sl,nm,bt,ot,af,bl⟩:=X;simp only at hp;obtain⟨pa,pc,rfl⟩:=hp.form;have n0:wr.cell? ⟨g,aB+j*11,none⟩=some (nI id):=hc 0 dC;have n1:wr.cell? ⟨g,aB+j*11+1,none⟩=some (nI kd):=hc 1 dC;have n2:wr.cell? ⟨g,aB+j*11+2,none⟩=some (nI io):=hc 2 dC;have n3:wr.cell? ⟨g,aB+j*11+3,none⟩=some (nI pt):=hc 3 dC;have n4:wr.cell? ⟨g,aB+j*11+4,none⟩=some (nI bk):=hc 4 dC;have n5:wr.cell? ⟨g,aB+j*11+5,none⟩=some (nI sl):=hc 5 dC;have n6:wr.cell? ⟨g,aB+j*11+6,none⟩=some (.string nm):=hc 6 dC;have n7:wr.cell? ⟨g,aB+j*11+7,none⟩=some (.bool bt):=hc 7 dC;have n8:wr.cell? ⟨g,aB+j*11+8,none⟩=some (.bool ot):=hc 8 dC;have n9:wr.cell? ⟨g,aB+j*11+9,none⟩=some (nI af):=hc 9 dC;have aD:wr.cell? ⟨g,aB+j*11+10,none⟩=some (sL pa bl pc):=hc 10 dC;have HD:Hid (∀W,Bw (wr.n (K7 id kd io pt bk sl nm bt ot af pa bl.length pc) 42) W->AtC W wr.1.size 42 (K7 id kd io pt bk sl nm bt ot af pa bl.length pc)/\Bw W0 W/\Bw w W):=fun W b=>by
   have bb:=(HR.o.alloc HR.o.size (.cells (K7 id kd io pt bk sl nm bt ot af pa bl.length pc) 42)).trans (b.mono (HR.o.alloc HR.o.size (.cells (K7 id kd io pt bk sl nm bt ot af pa bl.length pc) 42)).size);exact⟨(AtC.new wr 42 (K7 id kd io pt bk sl nm bt ot af pa bl.length pc)).over b,bb,(HC.o W bb).2.2⟩
  clear hc hp hX hb HR;have j0:(0:Int)<=(j:Int):=oM
  have j1:(j:Int)<(m.6.length:Int):=oM
  go_wp2_with fail
  refine(zc1 id kd io pt bk sl nm bt ot af pa bl.length pc _).mono ?_;rintro e w5 ⟨rfl,B5⟩;obtain⟨A5,b5,b6⟩:=HD.o w5 B5;obtain⟨d0,-,-,-,d4,d5⟩:=A5.k6;have HB:=hJ (aI b5 b6);clear A5 b5 b6 B5 HD
  cases hn:isNm kd with
  | false =>
   clear hn;go_wp2;go_roundw
   case rel=>exact⟨j+1,oM,gK,HB.o.1⟩
   simp[intOf];omega
  | true =>
   clear hn;by_cases h1:bk=x
   ·by_cases h2:sl=y
    ·subst h1 h2;go_wp2;go_ret;exact⟨⟨_,rfl⟩,HB.o.2⟩
    subst h1;go_wp2;go_roundw
    case rel=>exact⟨j+1,oM,gK,HB.o.1⟩
    simp[intOf];omega
   go_wp2;go_roundw
   case rel=>exact⟨j+1,oM,gK,HB.o.1⟩
   simp[intOf];omega
 have HB:=hJ hb;clear hr hb HR;go_wp2;go_ret;exact⟨⟨_,rfl⟩,HB.o⟩
namespace Kit
def depAt(b s:Int):List Dp->Int
 | []=>0
 | d::r=>if isNm d.kd=true/\d.bk=b/\d.sl=s then d.id else depAt b s r
theorem zgj(b s:Int)(l:List Dp)(j:Nat)(h:j<l.length):depAt b s (l.drop j)=if isNm l[j].kd=true/\l[j].bk=b/\l[j].sl=s then l[j].id else depAt b s (l.drop (j+1)):=by
 rw[dG h];rfl
theorem zin(b s:Int)(l:List Dp)(j:Nat)(h:l.length<=j):depAt b s (l.drop j)=0:=by
 rw[List.drop_eq_nil_of_le h];rfl
end Kit
theorem zgk(id kd io pt bk sl:Int)(nm:BA)(bt ot:Bool)(af:Int)(a:OA)(n c:Nat)(w:Wd):
  Calls Tryz.prog 38 #[.agg (K7 id kd io pt bk sl nm bt ot af a n c)] w fun e w'=>e=.returned (.bool (isNm kd))/\Bw w w':=by
 by_cases h2:kd=2
 ·subst h2;go_enter Tryz.func38,Tryz.ntmps38
  go_wp2;go_ret;exact⟨rfl,gW_⟩
 ·by_cases h3:kd=3
  ·subst h3;go_enter Tryz.func38,Tryz.ntmps38
   go_wp2;go_ret;exact⟨rfl,gW_⟩
  ·by_cases h4:kd=4
   ·subst h4;go_enter Tryz.func38,Tryz.ntmps38
    go_wp2;go_ret;exact⟨rfl,gW_⟩
   ·go_enter Tryz.func38,Tryz.ntmps38
    go_wp2;go_ret;exact⟨rfl,gW_⟩
theorem zli(u v iv bv dv pv:Va)(m:MD)(b s:Int)(w:Wd)(h:MR w u v iv bv dv pv m)(hl:m.6.length<=1048576):
  Calls Tryz.prog 12 #[.agg #[u,v,iv,bv,dv,pv,nI m.nx],nI b,nI s] w fun e w'=>e=.returned (nI (depAt b s m.ds))/\Bw w w':=by
 obtain⟨a1,c1,a2,c2,a3,c3,a4,c4,a5,c5,a6,c6,rfl,rfl,rfl,rfl,rfl,rfl⟩:=h.form;obtain⟨a,c,ei,-,hc⟩:=h.p.dep;simp only[vJ,true_and]at ei;obtain⟨rfl,rfl⟩:=ei;have HC:=hJ hc;obtain⟨R,hR⟩:∃R,depAt b s m.ds=R:=⟨_,rfl⟩
 have HR:=hJ hR;have HA:Hid (∀W,Bw (w.alloc (.cells (M7 m a1 c1 a2 c2 a3 c3 a4 c4 a5 c5 a6 c6) 33)) W->W.cell? ⟨w.1.size,5,none⟩=some (.slice a6 m.6.length c6)):=fun W bb=>((AtC.new w 33 _).over bb).cell 5;have HW:Hid (∀W,Bw (w.alloc (.cells (M7 m a1 c1 a2 c2 a3 c3 a4 c4 a5 c5 a6 c6) 33)) W->Bw w W):=fun W bb=>((bF _ w).alloc nR _).trans (bb.mono sI);clear hc h;rw[hR];clear hR;go_enter Tryz.func12,Tryz.ntmps12
 go_wp2;generalize w.alloc (.cells (M7 m a1 c1 a2 c2 a3 c3 a4 c4 a5 c5 a6 c6) 33)=W0 at*;go_loopw [7] (fun i wr=>∃j:Nat,j<=m.6.length/\i=.int .i64 j/\Hid (R=depAt b s (m.ds.drop j))/\Hid (Bw W0 wr)) (fun i _=>m.6.length-(intOf i).toNat)
 case atStart=>exact⟨0,zL _,rfl,by show R=_;rw[List.drop_zero,HR.o],bF _ _⟩
 case round =>
  obtain⟨j,hj,rfl,HD,HB⟩:=hrel;have x5:=HA.o _ HB.o;by_cases hlt:j<m.6.length
  ·obtain⟨g,off,p,rfl,hg,mm,hp⟩:=HC.o j hlt;have hb:=HW.o _ HB.o;have hd:=zgj b s m.ds j hlt;rw[←HD.o]at hd;obtain⟨X,hX⟩:∃X,m.ds[j]=X:=⟨_,rfl⟩
   rw[hX]at mm hp hd;obtain⟨id,kd,io,pt,bk,sl,nm,bt,ot,af,bl⟩:=X;simp only at hp hd;obtain⟨pa,pc,rfl⟩:=hp.form;simp only[DCells]at mm;obtain⟨m0,m1,m2,m3,m4,m5,m6,m7,m8,m9,m10⟩:=mm;have q0:=(hb.cell (p:=⟨g,off+j*11,none⟩) hg).trans m0;have q1:=(hb.cell (p:=⟨g,off+j*11+1,none⟩) hg).trans m1;have q2:=(hb.cell (p:=⟨g,off+j*11+2,none⟩) hg).trans m2;have q3:=(hb.cell (p:=⟨g,off+j*11+3,none⟩) hg).trans m3;have q4:=(hb.cell (p:=⟨g,off+j*11+4,none⟩) hg).trans m4;have q5:=(hb.cell (p:=⟨g,off+j*11+5,none⟩) hg).trans m5;have q6:=(hb.cell (p:=⟨g,off+j*11+6,none⟩) hg).trans m6;have q7:=(hb.cell (p:=⟨g,off+j*11+7,none⟩) hg).trans m7;have q8:=(hb.cell (p:=⟨g,off+j*11+8,none⟩) hg).trans m8;have q9:=(hb.cell (p:=⟨g,off+j*11+9,none⟩) hg).trans m9;have q10:wr.cell? ⟨g,off+j*11+10,none⟩=some (.slice pa bl.length pc):=(hb.cell (p:=⟨g,off+j*11+10,none⟩) hg).trans m10;have HD2:=hJ hd;have hsz:=HB.o.size;have j0:(0:Int)<=(j:Int):=oM
   have j1:(j:Int)<(m.6.length:Int):=oM
   clear m0 m1 m2 m3 m4 m5 m6 m7 m8 m9 m10 hb hd hp hX HD;by_cases hN:isNm kd=true
   ·have CN:Hid (∀W,Calls Tryz.prog 41 #[.agg (K7 id kd io pt bk sl nm bt ot af pa bl.length pc)] W fun e w'=>e=.returned (.bool true)/\Bw W w'):=fun W=>by
     exact cQ136
    by_cases hbk:bk=b
    ·by_cases hsl:sl=s
     ·have HE:Hid (R=id):=by show R=id;rw[HD2.o,if_pos ⟨hN,hbk,hsl⟩]
      subst hbk hsl;go_wp2_with (go_at_call 41;refine(CN.out _).mono ?_;rintro e w1 ⟨rfl,B1⟩;have K1:=(AtC.new wr 42 (K7 id kd io pt bk sl nm bt ot af pa bl.length pc)).over B1;have v0:w1.cell? ⟨wr.1.size,0,none⟩=some (nI id):=K1.cell 0;have v4:w1.cell? ⟨wr.1.size,4,none⟩=some (nI bk):=K1.cell 4;have v5:w1.cell? ⟨wr.1.size,5,none⟩=some (nI sl):=K1.cell 5;have HB1:=hJ (HB.o.trans ((((bF _ wr).alloc nR _).trans (B1.mono sI)).mono hsz));clear K1 B1)
      go_ret;exact⟨by rw[HE.o];rfl,HW.o _ HB1.o⟩
     ·have HE:Hid (R=depAt b s (m.ds.drop (j+1))):=by show R=_;rw[HD2.o,if_neg (fun e=>hsl e.2.2)]
      subst hbk;go_wp2_with (go_at_call 41;refine(CN.out _).mono ?_;rintro e w1 ⟨rfl,B1⟩;have K1:=(AtC.new wr 42 (K7 id kd io pt bk sl nm bt ot af pa bl.length pc)).over B1;have v0:w1.cell? ⟨wr.1.size,0,none⟩=some (nI id):=K1.cell 0;have v4:w1.cell? ⟨wr.1.size,4,none⟩=some (nI bk):=K1.cell 4;have v5:w1.cell? ⟨wr.1.size,5,none⟩=some (nI sl):=K1.cell 5;have HB1:=hJ (HB.o.trans ((((bF _ wr).alloc nR _).trans (B1.mono sI)).mono hsz));clear K1 B1)
      go_roundw
      case rel=>exact⟨j+1,oM,gK,HE.o,HB1.o⟩
      case measure=>simp[intOf];omega
    ·have HE:Hid (R=depAt b s (m.ds.drop (j+1))):=by show R=_;rw[HD2.o,if_neg (fun e=>hbk e.2.1)]
     exact cQ28
   ·have HE:Hid (R=depAt b s (m.ds.drop (j+1))):=by show R=_;rw[HD2.o,if_neg (fun e=>hN e.1)]
    replace hN:isNm kd=false:=by simpa using hN
    have CN:Hid (∀W,Calls Tryz.prog 41 #[.agg (K7 id kd io pt bk sl nm bt ot af pa bl.length pc)] W fun e w'=>e=.returned (.bool false)/\Bw W w'):=fun W=>by
     exact cQ136
    exact cQ28
  ·exact cQ104
theorem zgl(u v iv bv dv pv:Va)(m:MD)(b s:Int)(w:Wd)(h:MR w u v iv bv dv pv m)(hl:m.6.length<=1048576):
  Calls Tryz.prog 9 #[.agg #[u,v,iv,bv,dv,pv,nI m.nx],nI b,nI s] w fun e w'=>e=.returned (nI (depAt b s m.ds))/\Bw w w':=by
 obtain⟨a1,c1,a2,c2,a3,c3,a4,c4,a5,c5,a6,c6,rfl,rfl,rfl,rfl,rfl,rfl⟩:=h.form;obtain⟨a,c,ei,-,hc⟩:=h.p.dep;simp only[vJ,true_and]at ei;obtain⟨rfl,rfl⟩:=ei;have HC:=hJ hc;obtain⟨R,hR⟩:∃R,depAt b s m.ds=R:=⟨_,rfl⟩
 have HR:=hJ hR;have HA:Hid (∀W,Bw (w.alloc (.cells (M7 m a1 c1 a2 c2 a3 c3 a4 c4 a5 c5 a6 c6) 33)) W->W.cell? ⟨w.1.size,5,none⟩=some (.slice a6 m.6.length c6)):=fun W bb=>((AtC.new w 33 _).over bb).cell 5;have HW:Hid (∀W,Bw (w.alloc (.cells (M7 m a1 c1 a2 c2 a3 c3 a4 c4 a5 c5 a6 c6) 33)) W->Bw w W):=fun W bb=>((bF _ w).alloc nR _).trans (bb.mono sI);clear hc h;rw[hR];clear hR;go_enter Tryz.func9,Tryz.ntmps9
 go_wp2;generalize w.alloc (.cells (M7 m a1 c1 a2 c2 a3 c3 a4 c4 a5 c5 a6 c6) 33)=W0 at*;go_loopw [12] (fun i wr=>∃j:Nat,j<=m.6.length/\i=.int .i64 j/\Hid (R=depAt b s (m.ds.drop j))/\Hid (Bw W0 wr)) (fun i _=>m.6.length-(intOf i).toNat)
 case atStart=>exact⟨0,zL _,rfl,by show R=_;rw[List.drop_zero,HR.o],bF _ _⟩
 case round =>
  obtain⟨j,hj,rfl,HD,HB⟩:=hrel;have x5:=HA.o _ HB.o;by_cases hlt:j<m.6.length
  ·obtain⟨g,off,p,rfl,hg,mm,hp⟩:=HC.o j hlt;have hb:=HW.o _ HB.o;have hd:=zgj b s m.ds j hlt;rw[←HD.o]at hd;obtain⟨X,hX⟩:∃X,m.ds[j]=X:=⟨_,rfl⟩
   rw[hX]at mm hp hd;obtain⟨id,kd,io,pt,bk,sl,nm,bt,ot,af,bl⟩:=X;simp only at hp hd;obtain⟨pa,pc,rfl⟩:=hp.form;simp only[DCells]at mm;obtain⟨m0,m1,m2,m3,m4,m5,m6,m7,m8,m9,m10⟩:=mm;have q0:=(hb.cell (p:=⟨g,off+j*11,none⟩) hg).trans m0;have q1:=(hb.cell (p:=⟨g,off+j*11+1,none⟩) hg).trans m1;have q2:=(hb.cell (p:=⟨g,off+j*11+2,none⟩) hg).trans m2;have q3:=(hb.cell (p:=⟨g,off+j*11+3,none⟩) hg).trans m3;have q4:=(hb.cell (p:=⟨g,off+j*11+4,none⟩) hg).trans m4;have q5:=(hb.cell (p:=⟨g,off+j*11+5,none⟩) hg).trans m5;have q6:=(hb.cell (p:=⟨g,off+j*11+6,none⟩) hg).trans m6;have q7:=(hb.cell (p:=⟨g,off+j*11+7,none⟩) hg).trans m7;have q8:=(hb.cell (p:=⟨g,off+j*11+8,none⟩) hg).trans m8;have q9:=(hb.cell (p:=⟨g,off+j*11+9,none⟩) hg).trans m9;have q10:wr.cell? ⟨g,off+j*11+10,none⟩=some (.slice pa bl.length pc):=(hb.cell (p:=⟨g,off+j*11+10,none⟩) hg).trans m10;have HD2:=hJ hd;have hsz:=HB.o.size;have j0:(0:Int)<=(j:Int):=oM
   have j1:(j:Int)<(m.6.length:Int):=oM
   clear m0 m1 m2 m3 m4 m5 m6 m7 m8 m9 m10 hb hd hp hX HD;by_cases hN:isNm kd=true
   ·have CN:Hid (∀W,Calls Tryz.prog 38 #[.agg (K7 id kd io pt bk sl nm bt ot af pa bl.length pc)] W fun e w'=>e=.returned (.bool true)/\Bw W w'):=fun W=>by
     exact cQ135
    by_cases hbk:bk=b
    ·by_cases hsl:sl=s
     ·have HE:Hid (R=id):=by show R=id;rw[HD2.o,if_pos ⟨hN,hbk,hsl⟩]
      subst hbk hsl;go_wp2_with (go_at_call 38;refine(CN.out _).mono ?_;rintro e w1 ⟨rfl,B1⟩;have K1:=(AtC.new wr 42 (K7 id kd io pt bk sl nm bt ot af pa bl.length pc)).over B1;have v0:w1.cell? ⟨wr.1.size,0,none⟩=some (nI id):=K1.cell 0;have v4:w1.cell? ⟨wr.1.size,4,none⟩=some (nI bk):=K1.cell 4;have v5:w1.cell? ⟨wr.1.size,5,none⟩=some (nI sl):=K1.cell 5;have HB1:=hJ (HB.o.trans ((((bF _ wr).alloc nR _).trans (B1.mono sI)).mono hsz));clear K1 B1)
      go_ret;exact⟨by rw[HE.o];rfl,HW.o _ HB1.o⟩
     ·have HE:Hid (R=depAt b s (m.ds.drop (j+1))):=by show R=_;rw[HD2.o,if_neg (fun e=>hsl e.2.2)]
      subst hbk;go_wp2_with (go_at_call 38;refine(CN.out _).mono ?_;rintro e w1 ⟨rfl,B1⟩;have K1:=(AtC.new wr 42 (K7 id kd io pt bk sl nm bt ot af pa bl.length pc)).over B1;have v0:w1.cell? ⟨wr.1.size,0,none⟩=some (nI id):=K1.cell 0;have v4:w1.cell? ⟨wr.1.size,4,none⟩=some (nI bk):=K1.cell 4;have v5:w1.cell? ⟨wr.1.size,5,none⟩=some (nI sl):=K1.cell 5;have HB1:=hJ (HB.o.trans ((((bF _ wr).alloc nR _).trans (B1.mono sI)).mono hsz));clear K1 B1)
      go_roundw
      case rel=>exact⟨j+1,oM,gK,HE.o,HB1.o⟩
      case measure=>simp[intOf];omega
    ·have HE:Hid (R=depAt b s (m.ds.drop (j+1))):=by show R=_;rw[HD2.o,if_neg (fun e=>hbk e.2.1)]
     exact cQ29
   ·have HE:Hid (R=depAt b s (m.ds.drop (j+1))):=by show R=_;rw[HD2.o,if_neg (fun e=>hN e.1)]
    replace hN:isNm kd=false:=by simpa using hN
    have CN:Hid (∀W,Calls Tryz.prog 38 #[.agg (K7 id kd io pt bk sl nm bt ot af pa bl.length pc)] W fun e w'=>e=.returned (.bool false)/\Bw W w'):=fun W=>by
     exact cQ135
    exact cQ29
  ·exact cQ104
namespace Kit
theorem and255(n:Int):bits .and .i64 n 255=n%256:=by
 have h8:(BitVec.ofInt 64 255).toNat=2 ^ 8-1:=dC
 show IntKind.i64.wrap ((BitVec.ofInt 64 n &&& BitVec.ofInt 64 255).toNat:Nat)=n%256;rw[BitVec.toNat_and,BitVec.toNat_ofInt,h8,Nat.and_two_pow_sub_one_eq_mod,IntKind.wrap_i64];omega
theorem and30(n:Int):bits .and .i64 n 1073741823=n%1073741824:=by
 have h8:(BitVec.ofInt 64 1073741823).toNat=2 ^ 30-1:=dC
 show IntKind.i64.wrap ((BitVec.ofInt 64 n &&& BitVec.ofInt 64 1073741823).toNat:Nat)=n%1073741824;rw[BitVec.toNat_and,BitVec.toNat_ofInt,h8,Nat.and_two_pow_sub_one_eq_mod,IntKind.wrap_i64];omega
def za0(w:Wd)(a:OA)(len:Nat):Prop:=∀j,j<len->∃(b off:Nat)(z:Int),a=some ⟨b,off,none⟩/\b<w.1.size/\w.cell? ⟨b,off+j,none⟩=some (.int .u8 z)/\0<=z/\z<256
def Cur(T:TypeId)(w0 w:Wd)(c:Nat)(a:OA)(len cap:Nat):Prop :=
 w0.1.size<=c/\Bw w0 w/\∃(i:Nat)(h:Int),w.1[c]?=some (.cells #[.slice a len cap,nI i,nI h] T (0,0))/\i<=len
theorem zgp{T:TypeId}{w0 w:Wd}{c len cap i:Nat}{a:OA}{h h2:Int}(q:Nat)(hc0:w0.1.size<=c)(hB:Bw w0 w)(hblk:w.1[c]?=some (.cells #[.slice a len cap,nI i,nI h] T (0,0)))(hi:i<=len):
  Cur T w0 ((w.setCell ⟨c,2,none⟩ (nI h2)).drewN q) c a len cap/\w.grownBy ((w.setCell ⟨c,2,none⟩ (nI h2)).drewN q) (some c):=by
 have hs:=heap_setCell_same w c 2 _ T (nI h2) hblk;refine⟨⟨hc0,bD (hB.setCell (p:=⟨c,2,none⟩) hc0 _) q,i,h2,?_,hi⟩,⟨rfl,rfl,rfl,by show w.1.size<=(w.setCell _ _).heap.size;simp,fun k _ hk=>hO_ w ⟨c,2,none⟩ k _ (fun e=>hk (by simp[e]))⟩⟩;show(w.setCell ⟨c,2,none⟩ (nI h2)).1[c]?=_;rw[hs];rfl
theorem zjh{T:TypeId}{w0 w:Wd}{c len cap i:Nat}{a:OA}{h h2:Int}(q:Nat)(hc0:w0.1.size<=c)(hB:Bw w0 w)(hblk:w.1[c]?=some (.cells #[.slice a len cap,nI i,nI h] T (0,0)))(hi:i<len):
  Cur T w0 (((w.setCell ⟨c,2,none⟩ (nI h2)).drewN q).setCell ⟨c,1,none⟩ (nI ((i:Int)+1))) c a len cap/\w.grownBy (((w.setCell ⟨c,2,none⟩ (nI h2)).drewN q).setCell ⟨c,1,none⟩ (nI ((i:Int)+1))) (some c):=by
 obtain⟨⟨_,aC,i2,h3,aF,_⟩,hg⟩:=zgp (h2:=h2) q hc0 hB hblk oM;have aB:=heap_setCell_same w c 2 _ T (nI h2) hblk;have aD:((w.setCell ⟨c,2,none⟩ (nI h2)).drewN q).heap[c]?=some (.cells #[.slice a len cap,nI i,nI h2] T (0,0)):=by
  show(w.setCell ⟨c,2,none⟩ (nI h2)).1[c]?=_;rw[aB];rfl
 have hs:=heap_setCell_same ((w.setCell ⟨c,2,none⟩ (nI h2)).drewN q) c 1 _ T (nI ((i:Int)+1)) aD;refine⟨⟨hc0,aC.setCell (p:=⟨c,1,none⟩) hc0 _,i+1,h2,?_,oM⟩,zae hg ⟨rfl,rfl,rfl,sI,fun k _ hk=>hO_ _ ⟨c,1,none⟩ k _ (fun e=>hk (by simp[e]))⟩⟩;rw[hs];rfl
theorem Cur.draws{T:TypeId}{w0 w:Wd}{c len cap:Nat}{a:OA}(h:Cur T w0 w c a len cap)(q:Nat):Cur T w0 (w.drewN q) c a len cap:=⟨h.1,bD h.2.1 q,h.2.2⟩
theorem zgq{w w':Wd}{row:Option Nat}(h:w.grownBy w' row)(q:Nat):w.grownBy (w'.drewN q) row:=⟨h.os,h.tape,h.output,h.size,h.block⟩
theorem nat_of{x:Int}(h0:0<=x)(h1:x<256):∃n:Nat,n<256/\x=n:=⟨x.toNat,oM,oM⟩
theorem zgr{x:Int}{n:Nat}(h:x=n):Ending.returned (nI x)=.returned (nI n):=by rw[h]
theorem Owns.grown{w w':Wd}{base:Nat}{e:TypeId}{v:Va}{l:List UInt8}{row:Option Nat}(h:Owns w base e v l)(hg:w.grownBy w' row)(hr:∀k,row=some k->k<base):Owns w' base e v l:=by
 refine World.ownsRow.kept h hg ?_
 cases hv:v.ownBlock with
 | none=>exact .inl rfl
 | some k =>
  right
  intro e;have h1:=(World.ownsRow.lt h k hv).1;have h2:=hr k e.symm;omega
end Kit
theorem zly(w0 w:Wd)(c:Nat)(a:OA)(len cap:Nat)(hcode:za0 w0 a len)(hlen:len<=1048576)(hcur:Cur 103 w0 w c a len cap):
  Calls Tryz.prog 67 #[.pointer (aA c 0)] w fun e w'=>∃x:Nat,x<256/\e=.returned (nI x)/\Cur 103 w0 w' c a len cap/\w.grownBy w' (some c):=by
 obtain⟨aC,hB,i,h,aB,hi⟩:=hcur;have c0:w.cell? ⟨c,0,none⟩=some (.slice a len cap):=by simp[World.cell?,aB]
 have c1:w.cell? ⟨c,1,none⟩=some (nI i):=by simp[World.cell?,aB]
 have c2:w.cell? ⟨c,2,none⟩=some (nI h):=by simp[World.cell?,aB]
 have f1:w.frozen? ⟨c,1,none⟩=false:=by simp[World.frozen?,aB]
 have f2:w.frozen? ⟨c,2,none⟩=false:=by simp[World.frozen?,aB]
 have HK:=hJ aB;clear aB;have aG:=fun n=>and255 n;by_cases hlt:i<len
 ·obtain⟨b,aD,z,rfl,hb,hz,aH,aK⟩:=hcode i hlt;have k1:w.cell? ⟨b,aD+i,none⟩=some (.int .u8 z):=(hB.cell (p:=⟨b,aD+i,none⟩) hb).trans hz;have aL:¬b=c:=oM
  have aF:¬c=b:=oM
  have i0:(0:Int)<=(i:Int):=oM
  have i1:(i:Int)<(len:Int):=oM
  clear hz hcode;go_enter Tryz.func67,Tryz.ntmps67
  go_wp2;generalize wrap64 (wrap64 (h*6364136223846793005)+1442695040888963407)=h2;go_quiet(fail)
  generalize hx:bits BinOp.xor IntKind.i64 (h2/8589934592) (h2/35184372088832)%256=x;have x0:0<=x:=oM
  have x1:x<256:=oM
  clear hx;go_wp2;go_quiet(fail)
  go_wp2;go_quiet(fail)
  go_wp2;go_ret;obtain⟨n,hn,he⟩:=nat_of (show 0<=(x+z)%256 by omega) oM;exact⟨n,hn,zgr he,(zjh (h2:=h2) _ aC hB HK.o hlt).1,(zjh (h2:=h2) _ aC hB HK.o hlt).2⟩
 have i1:¬(i:Int)<(len:Int):=oM
 clear hcode;go_enter Tryz.func67,Tryz.ntmps67
 go_wp2;generalize wrap64 (wrap64 (h*6364136223846793005)+1442695040888963407)=h2;go_quiet(fail)
 generalize hx:bits BinOp.xor IntKind.i64 (h2/8589934592) (h2/35184372088832)%256=x;have x0:0<=x:=oM
 have x1:x<256:=oM
 clear hx;go_wp2;go_quiet(fail)
 go_wp2;go_ret;obtain⟨n,hn,he⟩:=nat_of x0 x1;exact⟨n,hn,zgr he,(zgp (h2:=h2) _ aC hB HK.o oM).1.draws _,zgq (zgp (h2:=h2) _ aC hB HK.o oM).2 _⟩
def Drew(w0 w w':Wd)(c:Nat)(a:OA)(len cap:Nat):Prop:=Cur 103 w0 w' c a len cap/\w.grownBy w' (some c)
theorem Drew.trans{w0 w w1 w2:Wd}{c len cap:Nat}{a:OA}(h:Drew w0 w w1 c a len cap)(k:Drew w0 w1 w2 c a len cap):Drew w0 w w2 c a len cap:=⟨k.1,zae h.2 k.2⟩
theorem Drew.cur{w0 w w':Wd}{c len cap:Nat}{a:OA}(h:Drew w0 w w' c a len cap):Cur 103 w0 w' c a len cap:=h.1
theorem zcb(w0 w:Wd)(c:Nat)(a:OA)(len cap:Nat)(hcode:za0 w0 a len)(hlen:len<=1048576)(hcur:Cur 103 w0 w c a len cap):
  Calls Tryz.prog 67 #[.pointer (aA c 0)] w fun e w'=>∃x:Nat,x<256/\e=.returned (nI x)/\Drew w0 w w' c a len cap:=zly w0 w c a len cap hcode hlen hcur
theorem zah(w0 w:Wd)(c:Nat)(a:OA)(len cap:Nat)(n:Nat)(hcode:za0 w0 a len)(hlen:len<=1048576)(hcur:Cur 103 w0 w c a len cap)(hn:0<n)(hn1:n<=4294967296):
  Calls Tryz.prog 36 #[.pointer (aA c 0),nI n] w fun e w'=>∃x:Nat,x<n/\e=.returned (nI x)/\Drew w0 w w' c a len cap:=by
 by_cases h256:n<=256
 ·have nz:((n:Int)==0)=false:=sO
  have HC:=hJ hcur;have HO:=hJ hcode;clear hcur hcode;go_enter Tryz.func36,Tryz.ntmps36
  go_wp2_with fail
  refine(zcb w0 w c a len cap HO.o hlen HC.o).mono ?_;rintro e w1 ⟨x,hx,rfl,hd⟩;have HD:=hJ hd;clear hd;go_wp2;go_ret;exact⟨x%n,Nat.mod_lt _ hn,zgr (Int.natCast_emod x n).symm,HD.o⟩
 have nz:((n:Int)==0)=false:=sO
 have HC:=hJ hcur;have HO:=hJ hcode;clear hcur hcode;go_enter Tryz.func36,Tryz.ntmps36
 go_wp2_with fail
 refine(zcb w0 w c a len cap HO.o hlen HC.o).mono ?_;rintro e w1 ⟨x,hx,rfl,aH⟩;have aD:=hJ aH;clear aH;go_wp2_with fail
 refine(zcb w0 w1 c a len cap HO.o hlen aD.o.cur).mono ?_;rintro e w2 ⟨y,hy,rfl,aK⟩;have aC:=hJ (aD.o.trans aK);clear aK aD;go_wp2_with fail
 refine(zcb w0 w2 c a len cap HO.o hlen aC.o.cur).mono ?_;rintro e w3 ⟨z,hz,rfl,aG⟩;have aB:=hJ (aC.o.trans aG);clear aG aC;go_wp2_with fail
 refine(zcb w0 w3 c a len cap HO.o hlen aB.o.cur).mono ?_;rintro e w4 ⟨v,hv,rfl,aF⟩;have aL:=hJ (aB.o.trans aF);clear aF aB;go_wp2;go_ret;exact⟨(x*16777216+y*65536+z*256+v)%n,Nat.mod_lt _ hn,zgr (by rw[Int.natCast_emod];rfl),aL.o⟩
theorem zaw(w0 w:Wd)(c:Nat)(a:OA)(len cap:Nat)(n:Nat)(hcode:za0 w0 a len)(hlen:len<=1048576)(hcur:Cur 103 w0 w c a len cap)(hn:0<n)(hn1:n<=4294967296):
  Calls Tryz.prog 35 #[.pointer (aA c 0),nI n] w fun e w'=>∃x:Nat,e=.returned (.bool (x==0))/\Drew w0 w w' c a len cap:=by
 have HC:=hJ hcur;have HO:=hJ hcode;clear hcur hcode;go_enter Tryz.func35,Tryz.ntmps35
 go_wp2_with fail
 refine(zah w0 w c a len cap n HO.o hlen HC.o hn hn1).mono ?_;rintro e w1 ⟨x,hx,rfl,hd⟩;have HD:=hJ hd;clear hd;go_wp2;go_ret;exact⟨x,by rw[show((x:Int)==0)=(x==0)by rw[Bool.eq_iff_iff];simp];rfl,HD.o⟩
theorem byte_low(x:Nat)(h:x<256):(x:Int)=((UInt8.ofNat x).toNat:Int):=by simp[UInt8.toNat_ofNat'];omega
def lowB(x:Nat):UInt8:=UInt8.ofNat x
theorem zji(w:Wd)(a:OA)(len cap:Nat)(hcode:za0 w a len)(hlen:len<=1048576):
  Calls Tryz.prog 33 #[.slice a len cap] w fun e w'=>e=.returned (.pointer (aA w.1.size 0))/\Cur 103 w w' w.1.size a len cap/\w.1.size<w'.1.size:=by
 have HO:=hJ hcode;have aF:=fun n=>and30 n;clear hcode;go_enter Tryz.func33,Tryz.ntmps33
 go_wp2
 go_loop [3,4] (fun x i=>∃(j:Nat)(h:Int),j<=len/\i=.int .i64 j/\x=.int .i64 h/\0<=h/\h<1073741824) (fun _ i=>len-(intOf i).toNat)
 case atStart=>exact⟨0,_,zL _,rfl,rfl,oM,oM⟩
 obtain⟨j,h,hj,rfl,rfl,h0,h1⟩:=hrel;by_cases hlt:j<len
 ·by_cases h4:j<4000
  ·obtain⟨b,aD,z,rfl,hb,hz,aB,aC⟩:=HO.o j hlt;have i0:(0:Int)<=(j:Int):=oM
   have i1:(j:Int)<(len:Int):=oM
   go_wp2
   go_round
   case rel=>exact⟨j+1,_,oM,gK,rfl,oM,oM⟩
   simp[intOf];omega
  exact cQ115
 exact cQ115
theorem za6{w0 w:Wd}{c len cap:Nat}{a:OA}(h:Cur 103 w0 w c a len cap)(hc:c<w.1.size)(o:Obj):Cur 103 w0 (w.alloc o) c a len cap :=
 ⟨h.1,h.2.1.alloc (by have:=h.2.1.size;omega) _,by obtain⟨i,x,hb,hi⟩:=h.2.2;exact⟨i,x,by rw[←hb];exact Below.heap_alloc _ _ _ hc,hi⟩⟩
theorem Drew.alloc{w0 w w':Wd}{c len cap:Nat}{a:OA}(h:Drew w0 w w' c a len cap)(hc:c<w.1.size)(o:Obj):Drew w0 w (w'.alloc o) c a len cap :=
 ⟨za6 h.1 (by have:=h.2.size;omega) o,zae h.2 (gA _ _ _)⟩
theorem zc7{w w':Wd}{a:OA}{len:Nat}(h:za0 w a len)(hb:Bw w w'):za0 w' a len:=by
 intro j hj;obtain⟨b,aB,z,h1,h2,h3,h4⟩:=h j hj;exact⟨b,aB,z,h1,by have:=hb.size;omega,(hb.cell (p:=⟨b,aB+j,none⟩) h2).trans h3,h4⟩
theorem zll(id kd io pt bk sl:Int)(nm:BA)(bt ot:Bool)(af:Int)(bl:List Int)(p:Va)(w:Wd)(hv:RInts w p bl)(hl:bl.length<=1048576)(hn:nm.size<=1048576):
  Calls Tryz.prog 102 #[.agg #[nI id,nI kd,nI io,nI pt,nI bk,nI sl,.string nm,.bool bt,.bool ot,nI af,p]] w fun e w'=>∃u,e=.returned (.agg #[nI id,nI kd,nI io,nI pt,nI bk,nI sl,.string nm,.bool bt,.bool ot,nI af,u])/\ROwns w' w.1.size 3 u (ic bl)/\Bw w w':=by
 have HV:=hJ hv;obtain⟨a,c,rfl⟩:=hv.form;clear hv;go_enter Tryz.func102,Tryz.ntmps102
 go_wp2_with fail
 refine(ze4 nm _ (lT hn dC)).mono ?_;rintro e w1 ⟨rfl,B1⟩;have K0:AtC w1 w.1.size 42 (K7 id kd io pt bk sl nm bt ot af a bl.length c):=((AtC.new w 42 _).alloc _).over B1;have K1:AtC w1 (w.1.size+1) 42 #[nI 0,nI 0,nI 0,nI 0,nI 0,nI 0,eT,.bool false,.bool false,nI 0,nZ]:=by
  have:=(AtC.new (w.alloc (.cells (K7 id kd io pt bk sl nm bt ot af a bl.length c) 42)) 42 #[nI 0,nI 0,nI 0,nI 0,nI 0,nI 0,eT,.bool false,.bool false,nI 0,nZ]).over B1;simpa using this
 have BW:Bw w w1:=(((bF _ w).alloc nR _).alloc sI _).trans (B1.mono sO);have aL:w.1.size+1+1<=w1.1.size:=by have:=B1.size;simpa using this
 have p6:=K0.c6;have y6:=K0.frozen 6;have HK:Hid ((fun(wW:Wd)=>AtC wW w.1.size 42 (K7 id kd io pt bk sl nm bt ot af a bl.length c)/\AtC wW (w.1.size+1) 42 #[nI 0,nI 0,nI 0,nI 0,nI 0,nI 0,eT,.bool false,.bool false,nI 0,nZ]/\Bw w wW) (w1.setCell ⟨w.1.size,6,none⟩ (.string nm))):=⟨K0.set 6 (.string nm),K1.other oM _,BW.setCell sI _⟩
 obtain⟨W1,aC⟩:∃W1,w1.setCell ⟨w.1.size,6,none⟩ (.string nm)=W1:=⟨_,rfl⟩
 have aB:W1.1.size=w1.1.size:=by rw[←aC];simp
 rw[aC]at HK;have aF:=HK.o.1.c10;clear B1 K0 K1 BW;go_wp2_with fail
 refine(zjj _ bl _ (HV.o.below HK.o.2.2 nR) hl).mono ?_;rintro e w2 ⟨u,rfl,O2,B2⟩;obtain⟨a1,c1,rfl⟩:=O2.rints.form;have L0:=HK.o.1.over B2;have L1:=HK.o.2.1.over B2;have O3:ROwns w2 (w.1.size+1+1) 3 (sL a1 bl c1) (ic bl):=O2.base_le oM;have B3:=HK.o.2.2.trans (B2.mono HK.o.2.2.size);obtain⟨d0,d1,d2,d3,d4,d5,d6,d7,d8,d9,aH⟩:=AtC.elv L0;obtain⟨q0,q1,q2,q3,q4,q5,q6,q7,q8,q9,aD⟩:=L1.k11;obtain⟨z0,z1,z2,z3,z4,z5,z6,z7,z8,z9,aG⟩:=L1.f11;have aK:=L0.frozen 10;have HO:=hJ O3;have HB:=hJ B3;clear O2 O3 B2 B3 L0 L1 HK aF p6 y6 aC aB;go_wp2;refine bY (v:=.agg (K7 id kd io pt bk sl nm bt ot af a1 bl.length c1)) (by simp[results,go_sem,q0,q1,q2,q3,q4,q5,q6,q7,q8,q9,aD]) rfl ⟨_,rfl,?_,?_⟩
 ·exact((((((((((((HO.o.setCell_other oM _).setCell_other oM _).setCell_other oM _).setCell_other oM _).setCell_other oM _).setCell_other oM _).setCell_other oM _).setCell_other oM _).setCell_other oM _).setCell_other oM _).setCell_other oM _).setCell_other oM _).base_le oM
 exact((((((((((((HB.o.setCell sI _).setCell sI _).setCell sI _).setCell sI _).setCell sI _).setCell sI _).setCell sI _).setCell sI _).setCell sI _).setCell sI _).setCell sI _).setCell sI _)
theorem zgn(va vb:Va)(l:List Bool)(w:Wd)(ha:RFl w va l)(hb:RFl w vb l)(hl:l.length<=1000000000):
  Calls Tryz.prog 72 #[va,vb] w fun e w'=>e=.returned (.bool true)/\Bw w w':=by
 obtain⟨a1,c1,rfl,ha⟩:=ha;obtain⟨a2,c2,rfl,hb⟩:=hb;have HA:=hJ ha;have HB:=hJ hb;clear ha hb;go_enter Tryz.func72,Tryz.ntmps72
 exact cQ30
theorem zlo(va vb:Va)(l:List Int)(w:Wd)(ha:RInts w va l)(hb:RInts w vb l)(hl:l.length<=1000000000):
  Calls Tryz.prog 43 #[va,vb] w fun e w'=>e=.returned (.bool true)/\Bw w w':=by
 obtain⟨a1,c1,rfl,ha⟩:=ha;obtain⟨a2,c2,rfl,hb⟩:=hb;have HA:=hJ ha;have HB:=hJ hb;clear ha hb;go_enter Tryz.func43,Tryz.ntmps43
 exact cQ30
theorem zlp(k l:Int)(va vb:Va)(xs:List Int)(w:Wd)(ha:RInts w va xs)(hb:RInts w vb xs)(hl:xs.length<=1000000000):
  Calls Tryz.prog 73 #[.agg #[nI k,nI l,va],.agg #[nI k,nI l,vb]] w fun e w'=>e=.returned (.bool true)/\Bw w w':=by
 obtain⟨a1,c1,rfl,ha⟩:=ha;obtain⟨a2,c2,rfl,hb⟩:=hb;have HA:=hJ ha;have HB:=hJ hb;clear ha hb;go_enter Tryz.func73,Tryz.ntmps73
 go_wp2;go_loopw [5] (fun i wr=>∃j:Nat,j<=xs.length/\i=.int .i64 j/\∃q,wr=((w.alloc (.cells #[.int .i64 k,.int .i64 l,.slice a1 xs.length c1] 59)).alloc (.cells #[.int .i64 k,.int .i64 l,.slice a2 xs.length c2] 59)).drewN q) (fun i _=>xs.length-(intOf i).toNat)
 case atStart=>exact⟨0,zL _,rfl,0,rfl⟩
 obtain⟨j,hj,rfl,q,rfl⟩:=hrel;by_cases hlt:j<xs.length
 ·obtain⟨g1,o1,rfl,aC,m1⟩:=HA.o j hlt;obtain⟨g2,o2,rfl,aF,m2⟩:=HB.o j hlt;obtain⟨t,ht⟩:∃t,xs[j]=t:=⟨_,rfl⟩
  rw[ht]at m1 m2;clear ht;have aB:g1<w.1.size+1:=oM
  have aD:g2<w.1.size+1:=oM
  have j0:(0:Int)<=(j:Int):=oM
  have j1:(j:Int)<(xs.length:Int):=oM
  exact cQ47
 exact cQ124
theorem zlq(d:Bool)(va vb:Va)(t:BA)(l:List Sl)(w:Wd)(ha:RSl w va l)(hb:RSl w vb l)(hl:l.length<=1048576):
  Calls Tryz.prog 74 #[.agg #[.bool d,va,.string t],.agg #[.bool d,vb,.string t]] w fun e w'=>e=.returned (.bool true)/\Bw w w':=by
 obtain⟨a1,c1,rfl,-,ha⟩:=ha;obtain⟨a2,c2,rfl,-,hb⟩:=hb;have HA:=hJ ha;have HB:=hJ hb;clear ha hb;go_enter Tryz.func74,Tryz.ntmps74
 go_wp2;go_loopw [5] (fun i wr=>∃j:Nat,j<=l.length/\i=.int .i64 j/\∃q,wr=((w.alloc (.cells #[.bool d,.slice a1 l.length c1,.string t] 95)).alloc (.cells #[.bool d,.slice a2 l.length c2,.string t] 95)).drewN q) (fun i _=>l.length-(intOf i).toNat)
 case atStart=>exact⟨0,zL _,rfl,0,rfl⟩
 obtain⟨j,hj,rfl,q,rfl⟩:=hrel;by_cases hlt:j<l.length
 ·obtain⟨g1,o1,rfl,aC,m1,m2⟩:=HA.o j hlt;obtain⟨g2,o2,rfl,aF,m3,m4⟩:=HB.o j hlt;obtain⟨n,hn⟩:∃n,l[j].1=n:=⟨_,rfl⟩
  obtain⟨z,hz⟩:∃z,l[j].2=z:=⟨_,rfl⟩
  rw[hn]at m1 m3;rw[hz]at m2 m4;clear hn hz;have aB:g1<w.1.size+1:=oM
  have aD:g2<w.1.size+1:=oM
  have j0:(0:Int)<=(j:Int):=oM
  have j1:(j:Int)<(l.length:Int):=oM
  exact cQ47
 exact cQ124
structure Tb(W wr:Wd)(b1 b2:Nat)(A B:Array Va):Prop where
 b:Bw W wr
 x:AtC wr b1 30 A
 y:AtC wr b2 30 B
theorem Tb.over{W wr wr':Wd}{b1 b2:Nat}{A B:Array Va}(h:Tb W wr b1 b2 A B)(hb:Bw wr wr'):Tb W wr' b1 b2 A B:=⟨h.b.trans (hb.mono h.b.size),h.x.over hb,h.y.over hb⟩
theorem zlr(u v iv bv u' v' i' b':Va)(xs ys:List Bool)(is:List Ino)(bs:List Blk)(w:Wd)(h:DR w u v iv bv xs ys is bs)(h':DR w u' v' i' b' xs ys is bs)(hB:Big 1048576 xs ys is bs):
  Calls Tryz.prog 42 #[.agg #[u,v,iv,bv],.agg #[u',v',i',b']] w fun e w'=>e=.returned (.bool true)/\Bw w w':=by
 have HH:=hJ h;have aM:=hJ h';have HG:=hJ hB;obtain⟨a1,c1,a2,c2,a3,c3,a4,c4,rfl,rfl,rfl,rfl⟩:=h.form;obtain⟨d1,e1,d2,e2,d3,e3,d4,e4,rfl,rfl,rfl,rfl⟩:=h'.form;obtain⟨A,hA⟩:∃A,A=#[sL a1 xs c1,sL a2 ys c2,sL a3 is c3,sL a4 bs c4]:=⟨_,rfl⟩
 obtain⟨B,aQ⟩:∃A,A=#[sL d1 xs e1,sL d2 ys e2,sL d3 is e3,sL d4 bs e4]:=⟨_,rfl⟩
 have HT:Hid (Tb w ((w.n #[sL a1 xs c1,sL a2 ys c2,sL a3 is c3,sL a4 bs c4] 30).n #[sL d1 xs e1,sL d2 ys e2,sL d3 is e3,sL d4 bs e4] 30) w.1.size (w.1.size+1) A B):=by
  subst hA aQ;have a:=AtC.new (w.alloc (.cells #[sL a1 xs c1,sL a2 ys c2,sL a3 is c3,sL a4 bs c4] 30)) 30 #[sL d1 xs e1,sL d2 ys e2,sL d3 is e3,sL d4 bs e4];rw[wA_]at a;exact⟨((bF _ w).alloc nR _).alloc sI _,(AtC.new w 30 _).alloc _,a⟩
 have HC:Hid (∀W,Tb w W w.1.size (w.1.size+1) A B->(W.r4 w.1.size (sL a1 xs c1) (sL a2 ys c2) (sL a3 is c3) (sL a4 bs c4))/\(W.r4 (w.1.size+1) (sL d1 xs e1) (sL d2 ys e2) (sL d3 is e3) (sL d4 bs e4))):=fun W t=>by
  subst hA aQ;exact⟨⟨t.x.cell 0,t.x.cell 1,t.x.cell 2,t.x.cell 3⟩,t.y.cell 0,t.y.cell 1,t.y.cell 2,t.y.cell 3⟩
 have F1:=hJ (fun W (b:Bw w W)=>zgn _ _ xs W (HH.o.a.below b nR) (aM.o.a.below b nR) (lT HG.o.x dC));have F2:=hJ (fun W (b:Bw w W)=>zgn _ _ ys W (HH.o.b.below b nR) (aM.o.b.below b nR) (lT HG.o.y dC));have aR:=hJ HH.o.i;have aS:=hJ aM.o.i;have aV:=hJ HH.o.k;have aX:=hJ aM.o.k;have aP:is.length<=1048576:=HG.o.i;have aU:bs.length<=1048576:=HG.o.b;clear h h' hB hA aQ;go_enter Tryz.func42,Tryz.ntmps42
 go_wp2_with fail
 refine(F1.out _ HT.o.b).mono ?_;rintro e w1 ⟨rfl,B1⟩;have aL:=hJ (HT.o.over B1);obtain⟨⟨y0,y1,y2,y3⟩,z0,z1,z2,z3⟩:=HC.o _ aL.o;clear B1 HT;go_wp2_with fail
 refine(F2.out _ aL.o.b).mono ?_;rintro e w2 ⟨rfl,B2⟩;have aT:=hJ (aL.o.over B2);clear y0 y1 y2 y3 z0 z1 z2 z3;obtain⟨⟨y0,y1,y2,y3⟩,z0,z1,z2,z3⟩:=HC.o _ aT.o;clear B2 aL;go_wp2_with fail
 clear y0 y1 y2 y3 z0 z1 z2 z3;go_loopw [5] (fun i wr=>∃j:Nat,j<=is.length/\i=.int .i64 j/\Hid (Tb w wr w.1.size (w.1.size+1) A B)) (fun i _=>is.length-(intOf i).toNat)
 case atStart=>exact⟨0,zL _,rfl,aT.o⟩
 obtain⟨j,hj,rfl,HR⟩:=hrel;have j0:(0:Int)<=(j:Int):=oM
 obtain⟨⟨-,-,y2,y3⟩,-,-,z2,z3⟩:=HC.o _ HR.o;by_cases hlt:j<is.length
 ·have j1:(j:Int)<(is.length:Int):=oM
  obtain⟨_,_,q1,-,qh⟩:=aR.o;simp only[vJ,true_and]at q1;obtain⟨rfl,rfl⟩:=q1;obtain⟨_,_,q2,-,aO⟩:=aS.o;simp only[vJ,true_and]at q2;obtain⟨rfl,rfl⟩:=q2;obtain⟨g,o,⟨t0,t1,t2⟩,rfl,hg,r0,r1,r2,f0,f1,f2⟩:=qh j hlt;obtain⟨g',o',⟨s0,s1,s2⟩,rfl,aF,aD,aC,aB,aK,aG,aH⟩:=aO j hlt;simp only at f0 f1 f2 aK aG aH r0 r1 r2 aD aC aB;subst f0 f1 aK aG;have CI:=hJ (fun W (b:Bw w W)=>zlp is[j].1 is[j].2.1 t2 s2 is[j].2.2 W (RInts.below f2 b nR) (RInts.below aH b nR) (lT (HG.o.p j hlt) dC));obtain⟨pa,pc,rfl⟩:=f2.form;obtain⟨qa,qc,rfl⟩:=aH.form;obtain⟨⟨kd,ln,pp⟩,hX⟩:∃X,is[j]=X:=⟨_,rfl⟩
  rw[hX]at CI r0 r1 r2 aD aC aB;simp only at CI r0 r1 r2 aD aC aB;have HS:Hid (∀W,Bw wr W->Tb w W w.1.size (w.1.size+1) A B/\W.q w.1.size 2=some (sL (aA g o) is c3)/\W.q (w.1.size+1) 2=some (sL (aA g' o') is e3)/\W.q g (o+j*3)=some (nI kd)/\W.q g (o+j*3+1)=some (nI ln)/\W.q g (o+j*3+2)=some (sL pa pp pc)/\W.q g' (o'+j*3)=some (nI kd)/\W.q g' (o'+j*3+1)=some (nI ln)/\W.q g' (o'+j*3+2)=some (sL qa pp qc)):=fun W b=>by
   have t:=HR.o.over b;obtain⟨⟨-,-,y2,-⟩,-,-,z2,-⟩:=HC.o _ t;exact⟨t,y2,z2,(t.b.cell (p:=⟨g,o+j*3,none⟩) hg).trans r0,(t.b.cell (p:=⟨g,o+j*3+1,none⟩) hg).trans r1,(t.b.cell (p:=⟨g,o+j*3+2,none⟩) hg).trans r2,(t.b.cell (p:=⟨g',o'+j*3,none⟩) aF).trans aD,(t.b.cell (p:=⟨g',o'+j*3+1,none⟩) aF).trans aC,(t.b.cell (p:=⟨g',o'+j*3+2,none⟩) aF).trans aB⟩
  obtain⟨-,x0,x1,x2,x3,x4,x5,x6,x7⟩:=HS.o _ bR;go_upto_region 6 with fail
  go_region_held3 (fun w'=>w'.cell? ⟨w.1.size,2,none⟩=some (.slice (some ⟨g,o,none⟩) is.length c3)/\w'.cell? ⟨w.1.size+1,2,none⟩=some (.slice (some ⟨g',o',none⟩) is.length e3)/\w'.cell? ⟨g,o+j*3,none⟩=some (.int .i64 kd)/\w'.cell? ⟨g,o+j*3+1,none⟩=some (.int .i64 ln)/\w'.cell? ⟨g,o+j*3+2,none⟩=some (.slice pa pp.length pc)/\w'.cell? ⟨g',o'+j*3,none⟩=some (.int .i64 kd)/\w'.cell? ⟨g',o'+j*3+1,none⟩=some (.int .i64 ln)/\w'.cell? ⟨g',o'+j*3+2,none⟩=some (.slice qa pp.length qc)) (first| exact(HS.o _ bR.drew).2|exact(HS.o _ (zac B7)).2) ((go_at_call 73;refine(CI.out _ (HS.o _ bR.drew).1.b).mono ?_;rintro e w7 ⟨rfl,B7⟩))
  have aN:=hJ (HS.o _ (zac B7)).1;clear B7 HS;go_wp2;go_roundw
  case rel=>exact⟨j+1,oM,gK,aN.o⟩
  simp[intOf];omega
 have j1:¬(j:Int)<(is.length:Int):=oM
 have aW:=hJ HR.o;clear HR;go_wp2_with fail
 clear y2 y3 z2 z3 aR aS aP hj j0 j1 hlt;go_loopw [6] (fun i wr=>∃j:Nat,j<=bs.length/\i=.int .i64 j/\Hid (Tb w wr w.1.size (w.1.size+1) A B)) (fun i _=>bs.length-(intOf i).toNat)
 case atStart=>exact⟨0,zL _,rfl,aW.o⟩
 obtain⟨j,hj,rfl,HR⟩:=hrel;have j0:(0:Int)<=(j:Int):=oM
 obtain⟨⟨-,-,-,y3⟩,-,-,-,z3⟩:=HC.o _ HR.o;by_cases hlt:j<bs.length
 rotate_left
 ·have j1:¬(j:Int)<(bs.length:Int):=oM
  go_wp2;go_ret;exact⟨rfl,HR.o.b⟩
 have j1:(j:Int)<(bs.length:Int):=oM
 obtain⟨_,_,q1,-,qh⟩:=aV.o;simp only[vJ,true_and]at q1;obtain⟨rfl,rfl⟩:=q1;obtain⟨_,_,q2,-,aO⟩:=aX.o;simp only[vJ,true_and]at q2;obtain⟨rfl,rfl⟩:=q2;obtain⟨g,o,⟨t0,t1,t2⟩,rfl,hg,r0,r1,r2,f0,f1,f2⟩:=qh j hlt;obtain⟨g',o',⟨s0,s1,s2⟩,rfl,aF,aD,aC,aB,aK,aG,aH⟩:=aO j hlt;simp only at f0 f1 f2 aK aG aH r0 r1 r2 aD aC aB;subst f0 f2 aK aH;have CI:=hJ (fun W (b:Bw w W)=>zlq bs[j].1 t1 s1 bs[j].2.2 bs[j].2.1 W (RSl.below f1 b nR) (RSl.below aG b nR) (HG.o.s j hlt).1);obtain⟨pa,pc,rfl⟩:=f1.form;obtain⟨qa,qc,rfl⟩:=aG.form;obtain⟨⟨kd,pp,tx⟩,hX⟩:∃X,bs[j]=X:=⟨_,rfl⟩
 rw[hX]at CI r0 r1 r2 aD aC aB;simp only at CI r0 r1 r2 aD aC aB;have HS:Hid (∀W,Bw wr W->Tb w W w.1.size (w.1.size+1) A B/\W.q w.1.size 3=some (sL (aA g o) bs c4)/\W.q (w.1.size+1) 3=some (sL (aA g' o') bs e4)/\W.q g (o+j*3)=some (.bool kd)/\W.q g (o+j*3+1)=some (sL pa pp pc)/\W.q g (o+j*3+2)=some (.string tx)/\W.q g' (o'+j*3)=some (.bool kd)/\W.q g' (o'+j*3+1)=some (sL qa pp qc)/\W.q g' (o'+j*3+2)=some (.string tx)):=fun W b=>by
  have t:=HR.o.over b;obtain⟨⟨-,-,-,y3⟩,-,-,-,z3⟩:=HC.o _ t;exact⟨t,y3,z3,(t.b.cell (p:=⟨g,o+j*3,none⟩) hg).trans r0,(t.b.cell (p:=⟨g,o+j*3+1,none⟩) hg).trans r1,(t.b.cell (p:=⟨g,o+j*3+2,none⟩) hg).trans r2,(t.b.cell (p:=⟨g',o'+j*3,none⟩) aF).trans aD,(t.b.cell (p:=⟨g',o'+j*3+1,none⟩) aF).trans aC,(t.b.cell (p:=⟨g',o'+j*3+2,none⟩) aF).trans aB⟩
 obtain⟨-,x0,x1,x2,x3,x4,x5,x6,x7⟩:=HS.o _ bR;go_upto_region 11 with fail
 go_region_held3 (fun w'=>w'.cell? ⟨w.1.size,3,none⟩=some (.slice (some ⟨g,o,none⟩) bs.length c4)/\w'.cell? ⟨w.1.size+1,3,none⟩=some (.slice (some ⟨g',o',none⟩) bs.length e4)/\w'.cell? ⟨g,o+j*3,none⟩=some (.bool kd)/\w'.cell? ⟨g,o+j*3+1,none⟩=some (.slice pa pp.length pc)/\w'.cell? ⟨g,o+j*3+2,none⟩=some (.string tx)/\w'.cell? ⟨g',o'+j*3,none⟩=some (.bool kd)/\w'.cell? ⟨g',o'+j*3+1,none⟩=some (.slice qa pp.length qc)/\w'.cell? ⟨g',o'+j*3+2,none⟩=some (.string tx)) (first| exact(HS.o _ bR.drew).2|exact(HS.o _ (zac B7)).2) ((go_at_call 74;refine(CI.out _ (HS.o _ bR.drew).1.b).mono ?_;rintro e w7 ⟨rfl,B7⟩))
 have aN:=hJ (HS.o _ (zac B7)).1;clear B7 HS;go_wp2;go_roundw
 case rel=>exact⟨j+1,oM,gK,aN.o⟩
 simp[intOf];omega
end Go.Proofs.YtgnplpmgkegcnaaGreat
