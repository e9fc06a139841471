/- Texts. -/
import Derived.Test.YtgnplpmgkegcnaaGreatW22
set_option maxRecDepth 100000
set_option maxHeartbeats 12800000
namespace Go.Proofs.YtgnplpmgkegcnaaGreat
open Go.RowKit Kit
theorem zj7(w0 w:Wd)(c:Nat)(a:OA)(len cap:Nat)(hcode:za0 w0 a len)(hlen:len<=1048576)(hcur:Cur 103 w0 w c a len cap)(hcw:c<w.1.size):
  Calls Tryz.prog 34 #[.pointer (aA c 0)] w fun e w'=>MemX w' w.1.size e/\Drew w0 w w' c a len cap:=by
 have HC:=hJ hcur;have HO:=hJ hcode;clear hcur hcode;obtain⟨W0,hW0⟩:∃W0,w.alloc (.cells E7 33)=W0:=⟨_,rfl⟩
 have HR0:Hid (AtC W0 w.1.size 33 E7/\Drew w0 w W0 c a len cap/\c<W0.1.size/\w.1.size<W0.1.size):=by
  rw[←hW0];exact⟨AtC.new w 33 _,(Drew.refl HC.o).alloc hcw _,sO,sI⟩
 go_enter Tryz.func34,Tryz.ntmps34
 go_wp2_with fail
 clear hW0;refine(mem_any w0 W0 c a len cap HO.o hlen HR0.o.2.1.cur HR0.o.2.2.1).mono ?_;rintro e w2 ⟨⟨n1,o1,n2,o2,n3,o3,n4,o4,n5,o5,n6,o6,m,rfl,M2,S2⟩,D2⟩;have HB:=hJ S2.big;have HF:Hid (m.5.length=21):=S2.f;have HLB:Hid (m.6.length+1<=1048576):=by have:=S2.l;show _<=_;omega
 have HID:Hid (IdW m.ds):=fun d hd=>by
  have:=(S2.dd d hd).id;show(decide (IntKind.i64.min<=d.id)&&decide (d.id<=IntKind.i64.max))=true;have e1:IntKind.i64.min=-9223372036854775808:=rfl;have e2:IntKind.i64.max=9223372036854775807:=rfl;rw[aE,decide_eq_true_eq,decide_eq_true_eq];omega
 have HR2:=hJ (aI M2.mr (aI (HR0.o.1.grown D2.2 (by intro e;cases e;have:=HR0.o.2.2;omega)) (aI (HR0.o.2.1.trans D2) (show w.1.size<w2.1.size from lL HR0.o.2.2.2 D2.2.size))));clear M2 S2 D2 HR0 HC;go_wp2_with fail
 refine(zax _ _ _ _ _ _ m w2 HR2.o.1 HB.o).mono ?_;rintro e w3 ⟨v1,v2,v3,v4,v5,v6,rfl,O3,B3⟩;obtain⟨a1,c1,a2,c2,a3,c3,a4,c4,a5,c5,a6,c6,rfl,rfl,rfl,rfl,rfl,rfl⟩:=O3.mr.form;have HD:Hid (Mx w0 w (w3.alloc (.cells (M7 m a1 c1 a2 c2 a3 c3 a4 c4 a5 c5 a6 c6) 33)) c a len cap w3.1.size (.slice a1 m.1.length c1) (.slice a2 m.2.length c2) (.slice a3 m.3.length c3) (.slice a4 m.4.length c4) (.slice a5 m.5.length c5) (.slice a6 m.6.length c6) m.nx m):=by
  obtain⟨-,h2,h3,h4⟩:=HR2.o;have hs:=B3.size;exact⟨(h2.over B3).alloc _,AtC.new w3 33 _,(O3.bound.mono fun k hk=>⟨by have:=hk.1;omega,hk.2⟩).alloc _,(h3.below hcw B3).alloc hcw _,oM,hcw⟩
 clear O3 B3 HR2;go_wp2_with fail
 refine(zah w0 _ c a len cap 16 HO.o hlen HD.o.dr.cur dC dC).mono ?_;rintro e w4 ⟨x,hx,rfl,D4⟩;have HD4:=hJ (HD.o.drews D4);clear D4 HD;have hxx:x=0\/x=1\/x=2\/x=3\/x=4\/5<=x:=oM
 rcases hxx with rfl|rfl|rfl|rfl|rfl|h4
 ·go_wp2_with fail
  refine(zn2 w0 w4 c a len cap HO.o hlen HD4.o.dr.cur (by have h1:=HD4.o.hc;have h2:=HD4.o.dr.2.size;omega)).mono ?_;rintro e w5 ⟨u5,v5,i5,b5,xs5,ys5,is5,bs5,rfl,N5,G5,D5⟩;have HD5:=hJ (HD4.o.drews D5);have DD5:DR w5 u5 v5 i5 b5 xs5 ys5 is5 bs5:=N5 w5 (fun _ _ _=>rfl) nR;obtain⟨b1,e1,b2,e2,b3,e3,b4,e4,rfl,rfl,rfl,rfl⟩:=DD5.form;have HN5:=hJ N5;have HXL:Hid (w3.1.size<w4.1.size):=HD4.o.x.lt;have HB0:Hid (BigM 1048576 { m with xs:=xs5,ys:=ys5,is:=is5,bs:=bs5 }):=⟨G5,HB.o.f,HB.o.l,HB.o.b,HB.o.t⟩
  clear DD5 N5 G5 D5 HD4;have HA:Hid (AtC (w5.s4 w3.1.size (.slice b1 xs5.length e1) (.slice b2 ys5.length e2) (.slice b3 is5.length e3) (.slice b4 bs5.length e4)) w.1.size 33 E7/\AtC (w5.s4 w3.1.size (.slice b1 xs5.length e1) (.slice b2 ys5.length e2) (.slice b3 is5.length e3) (.slice b4 bs5.length e4)) w3.1.size 33 #[.slice b1 xs5.length e1,.slice b2 ys5.length e2,.slice b3 is5.length e3,.slice b4 bs5.length e4,.slice a5 m.5.length c5,.slice a6 m.6.length c6,nI m.nx]/\Drew w0 w (w5.s4 w3.1.size (.slice b1 xs5.length e1) (.slice b2 ys5.length e2) (.slice b3 is5.length e3) (.slice b4 bs5.length e4)) c a len cap):=by
   have h:=HD5.o;have h1:=h.hx;exact⟨(((h.res.other oM _).other oM _).other oM _).other oM _,(((h.x.set 0 _).set 1 _).set 2 _).set 3 _,(((h.dr.setCell h.hc oM _).setCell h.hc oM _).setCell h.hc oM _).setCell h.hc oM _⟩
  have HE:Hid (∀x1 x2 x3 x4 x5 x6 x7,MRn w.1.size (set7 (w5.s4 w3.1.size (.slice b1 xs5.length e1) (.slice b2 ys5.length e2) (.slice b3 is5.length e3) (.slice b4 bs5.length e4)) w.1.size x1 x2 x3 x4 x5 x6 x7) (.slice b1 xs5.length e1) (.slice b2 ys5.length e2) (.slice b3 is5.length e3) (.slice b4 bs5.length e4) (.slice a5 m.5.length c5) (.slice a6 m.6.length c6) { m with xs:=xs5,ys:=ys5,is:=is5,bs:=bs5 }):=fun x1 x2 x3 x4 x5 x6 x7 w2' hw hs2=>by
   have h:=HD5.o;have h1:=h.hx;have h2:=HXL.o;rw[zbi]at hw hs2;have hh:∀k,w.1.size<k->k≠w3.1.size->k<w5.1.size->w2'.1[k]?=w5.1[k]?:=fun k k1 k2 k3=>by
    refine(hw k oM (by simpa using k3)).trans ?_;rw[zba _ _ _ _ _ _ _ _ _ k oM,hO_ _ ⟨w3.1.size,3,none⟩ k _ k2,hO_ _ ⟨w3.1.size,2,none⟩ k _ k2,hO_ _ ⟨w3.1.size,1,none⟩ k _ k2,hO_ _ ⟨w3.1.size,0,none⟩ k _ k2]
   have om:=(h.o.of_heap (w':=w2') fun k hk hl=>hh k oM oM hl).mr;exact⟨HN5.o w2' (fun k hk hl=>hh k oM oM hl) (by simpa using hs2),om.f,om.p⟩
  obtain⟨p0,p1,p2,p3,p4,p5,p6,f0,f1,f2,f3,f4,f5,f6,m9⟩:=cs7 HD5.o.x;clear HD5 HN5 HXL;obtain⟨q0,q1,q2,q3,q4,q5,q6,z0,z1,z2,z3,z4,z5,z6,m0⟩:=cs7 HA.o.1;obtain⟨s0,s1,s2,s3,s4,s5,s6,r0,r1,r2,r3,r4,r5,r6,r9⟩:=cs7 HA.o.2.1;have HDR:=hJ (fun x1 x2 x3 x4 x5 x6 x7=>zbs HA.o.2.2 hcw nR x1 x2 x3 x4 x5 x6 x7);clear HA;go_wp2;exact bY (v:=.agg #[.slice b1 xs5.length e1,.slice b2 ys5.length e2,.slice b3 is5.length e3,.slice b4 bs5.length e4,.slice a5 m.5.length c5,.slice a6 m.6.length c6,nI m.nx]) (by simp[results,go_sem,q0,q1,q2,q3,q4,q5,q6]) rfl ⟨MemX.mk (m:={ m with xs:=xs5,ys:=ys5,is:=is5,bs:=bs5 }) (HE.o _ _ _ _ _ _ _) HB0.o HID.o,HDR.o _ _ _ _ _ _ _⟩
 ·have hf5:∃g5,a5=some ⟨g5,0,none⟩/\m.5.length<=c5:=by
   obtain⟨S1,S2,S3,ts,h1,h2,-⟩:=HD4.o.o;obtain⟨g,k,e,-,-,-,-,hl⟩:=h2.at 0 (by rw[zad,HF.o];decide);simp only[vJ]at e;obtain⟨e1,-,rfl⟩:=e;rw[zad]at hl;exact⟨g,e1,hl⟩
  obtain⟨g5,rfl,hc5⟩:=hf5;rw[HF.o]at HD4 hc5 ⊢;obtain⟨p0,p1,p2,p3,p4,p5,p6,f0,f1,f2,f3,f4,f5,f6,m9⟩:=cs7 HD4.o.x;have HB0:Hid (BigM 1048576 { m with fs:=m.fs.tail }):=⟨HB.o.d,by show m.fs.tail.length<=_;rw[List.length_tail];exact lT (Nat.sub_le _ _) HB.o.f,HB.o.l,HB.o.b,HB.o.t⟩
  have HA:Hid (AtC (w4.setCell ⟨w3.1.size,4,none⟩ (.slice (aA g5 1) 20 (c5-1))) w.1.size 33 E7/\AtC (w4.setCell ⟨w3.1.size,4,none⟩ (.slice (aA g5 1) 20 (c5-1))) w3.1.size 33 #[.slice a1 m.1.length c1,.slice a2 m.2.length c2,.slice a3 m.3.length c3,.slice a4 m.4.length c4,.slice (aA g5 1) 20 (c5-1),.slice a6 m.6.length c6,nI m.nx]/\Drew w0 w (w4.setCell ⟨w3.1.size,4,none⟩ (.slice (aA g5 1) 20 (c5-1))) c a len cap):=by
   have h:=HD4.o;have h1:=h.hx;exact⟨h.res.other oM _,h.x.set 4 _,h.dr.setCell h.hc oM _⟩
  have HE:Hid (∀x1 x2 x3 x4 x5 x6 x7,MRn w.1.size (set7 (w4.setCell ⟨w3.1.size,4,none⟩ (.slice (aA g5 1) 20 (c5-1))) w.1.size x1 x2 x3 x4 x5 x6 x7) (.slice a1 m.1.length c1) (.slice a2 m.2.length c2) (.slice a3 m.3.length c3) (.slice a4 m.4.length c4) (.slice (aA g5 1) 20 (c5-1)) (.slice a6 m.6.length c6) { m with fs:=m.fs.tail }):=fun x1 x2 x3 x4 x5 x6 x7 w2' hw hs2=>by
   have h:=HD4.o;have h1:=h.hx;rw[zbi]at hw hs2;have om:=(h.o.of_heap (w':=w2') fun k hk hl=>(hw k oM (by simpa using hl)).trans (by rw[zba _ _ _ _ _ _ _ _ _ k oM,hO_ _ ⟨w3.1.size,4,none⟩ k _ (by have:=hk.2;show k≠w3.1.size;omega)])).mr;exact⟨om.d,zg0 om.f (by rw[HF.o];decide) _,om.p⟩
  clear HD4;obtain⟨q0,q1,q2,q3,q4,q5,q6,z0,z1,z2,z3,z4,z5,z6,m0⟩:=cs7 HA.o.1;obtain⟨s0,s1,s2,s3,s4,s5,s6,r0,r1,r2,r3,r4,r5,r6,r9⟩:=cs7 HA.o.2.1;have HDR:=hJ (fun x1 x2 x3 x4 x5 x6 x7=>zbs HA.o.2.2 hcw nR x1 x2 x3 x4 x5 x6 x7);clear HA;go_wp2;exact bY (v:=.agg #[.slice a1 m.1.length c1,.slice a2 m.2.length c2,.slice a3 m.3.length c3,.slice a4 m.4.length c4,.slice (aA g5 1) 20 (c5-1),.slice a6 m.6.length c6,nI m.nx]) (by simp[results,go_sem,q0,q1,q2,q3,q4,q5,q6]) rfl ⟨MemX.mk (m:={ m with fs:=m.fs.tail }) (HE.o _ _ _ _ _ _ _) HB0.o HID.o,HDR.o _ _ _ _ _ _ _⟩
 ·go_wp2_with fail
  refine(zbh w0 _ c w4.1.size a len cap [0,1,100000,100001] HO.o hlen (HD4.o.over ((bF _ w4).alloc nR _)).dr.cur (za2 w4 _) (by have h1:=HD4.o.hc;have h2:=HD4.o.dr.2.size;omega) sI sI).mono ?_;rintro e w5 ⟨z,-,rfl,D5⟩;have HD5:=hJ ((HD4.o.over ((bF _ w4).alloc nR _)).drews D5);clear D5 HD4;obtain⟨p0,p1,p2,p3,p4,p5,p6,f0,f1,f2,f3,f4,f5,f6,m9⟩:=cs7 HD5.o.x;have HB0:Hid (BigM 1048576 { m with nx:=z }):=⟨HB.o.d,HB.o.f,HB.o.l,HB.o.b,HB.o.t⟩
  have HA:Hid (AtC (w5.setCell ⟨w3.1.size,6,none⟩ (nI z)) w.1.size 33 E7/\AtC (w5.setCell ⟨w3.1.size,6,none⟩ (nI z)) w3.1.size 33 #[.slice a1 m.1.length c1,.slice a2 m.2.length c2,.slice a3 m.3.length c3,.slice a4 m.4.length c4,.slice a5 m.5.length c5,.slice a6 m.6.length c6,nI z]/\Drew w0 w (w5.setCell ⟨w3.1.size,6,none⟩ (nI z)) c a len cap):=by
   have h:=HD5.o;have h1:=h.hx;exact⟨h.res.other oM _,h.x.set 6 _,h.dr.setCell h.hc oM _⟩
  have HE:Hid (∀x1 x2 x3 x4 x5 x6 x7,MRn w.1.size (set7 (w5.setCell ⟨w3.1.size,6,none⟩ (nI z)) w.1.size x1 x2 x3 x4 x5 x6 x7) (.slice a1 m.1.length c1) (.slice a2 m.2.length c2) (.slice a3 m.3.length c3) (.slice a4 m.4.length c4) (.slice a5 m.5.length c5) (.slice a6 m.6.length c6) { m with nx:=z }):=fun x1 x2 x3 x4 x5 x6 x7 w2' hw hs2=>by
   have h:=HD5.o;have h1:=h.hx;rw[zbi]at hw hs2;have om:=(h.o.of_heap (w':=w2') fun k hk hl=>(hw k oM (by simpa using hl)).trans (by rw[zba _ _ _ _ _ _ _ _ _ k oM,hO_ _ ⟨w3.1.size,6,none⟩ k _ (by have:=hk.2;show k≠w3.1.size;omega)])).mr;exact⟨om.d,om.f,om.p⟩
  clear HD5;obtain⟨q0,q1,q2,q3,q4,q5,q6,z0,z1,z2,z3,z4,z5,z6,m0⟩:=cs7 HA.o.1;obtain⟨s0,s1,s2,s3,s4,s5,s6,r0,r1,r2,r3,r4,r5,r6,r9⟩:=cs7 HA.o.2.1;have HDR:=hJ (fun x1 x2 x3 x4 x5 x6 x7=>zbs HA.o.2.2 hcw nR x1 x2 x3 x4 x5 x6 x7);clear HA;go_wp2;exact bY (v:=.agg #[.slice a1 m.1.length c1,.slice a2 m.2.length c2,.slice a3 m.3.length c3,.slice a4 m.4.length c4,.slice a5 m.5.length c5,.slice a6 m.6.length c6,nI z]) (by simp[results,go_sem,q0,q1,q2,q3,q4,q5,q6]) rfl ⟨MemX.mk (m:={ m with nx:=z }) (HE.o _ _ _ _ _ _ _) HB0.o HID.o,HDR.o _ _ _ _ _ _ _⟩
 ·obtain⟨dn,hdn⟩:∃n,m.6.length=n:=⟨_,rfl⟩
  rw[hdn]at HD4 ⊢;have HDN:=hJ hdn;have hd20:dn<=1048576:=by rw[←hdn];exact HB.o.l
  clear hdn;rcases Nat.eq_zero_or_pos dn with rfl|hdp
  ·exact cQ17
  ·have hg6:∃g6,a6=some ⟨g6,0,none⟩:=by
    exact cQ82
   obtain⟨g6,rfl⟩:=hg6;obtain⟨p0,p1,p2,p3,p4,p5,p6,-,-,-,-,-,-,-,-⟩:=cs7 HD4.o.x;have hl0:(0:Int)<(dn:Int):=oM
   go_wp2_with fail
   refine(zah w0 _ c a len cap dn HO.o hlen HD4.o.dr.cur oM oM).mono ?_;rintro e w5 ⟨z,hz,rfl,D5⟩;have HD5:=hJ (HD4.o.drews D5);have HZ:Hid (z<m.6.length):=by show z<_;rw[HDN.o];exact hz
   have j0:(0:Int)<=(z:Int):=oM
   have j1:(z:Int)<(dn:Int):=oM
   clear D5 HD4 p0 p1 p2 p3 p4 p5 p6 hl0;go_upto_region 12 with fail
   go_region_held3 (fun w'=>w'.cell? ⟨w3.1.size,5,none⟩=some (.slice (some ⟨g6,0,none⟩) dn c6)) (first| exact(cs7 HD5.o.drew.x).2.2.2.2.2.1|exact(cs7 (HD5.o.drew.drews D7).x).2.2.2.2.2.1|exact(cs7 HD8.o.x).2.2.2.2.2.1) (first| (go_at_call 36;refine(zah w0 _ c a len cap 7 HO.o hlen HD5.o.drew.dr.cur dC dC).mono ?_;rintro e w7 ⟨z7,-,rfl,D7⟩;obtain⟨⟨pp,dc⟩,fz,-,-⟩:=(HD5.o.drew.drews D7).dcell z HZ.o;have y1:=dc.2.1;have y2:=fz (z*11+1);have HD8:=hJ ((HD5.o.drew.drews D7).fld z HZ.o 1 dC (.int .i64 z7) { m.ds[z]'HZ.out with kd:=z7 } (fun _=>rfl) rfl);clear dc fz))
   have HM8:Hid (∃M:MD,M.ds.length=m.6.length/\BigM 1048576 M/\IdW M.ds/\Mx w0 w (w7.setCell ⟨g6,z*11+1,none⟩ (nI z7)) c a len cap w3.1.size (.slice a1 m.1.length c1) (.slice a2 m.2.length c2) (.slice a3 m.3.length c3) (.slice a4 m.4.length c4) (.slice a5 m.5.length c5) (.slice (aA g6 0) dn c6) m.nx M/\M.nx=m.nx) :=
    ⟨{ m with ds:=m.ds.set z { m.ds[z]'HZ.out with kd:=(z7:Int) } },sI,zn3 HB.o HZ.o rfl rfl,zn4 HID.o HZ.o rfl,HD8.o,rfl⟩
   clear HD5 D7 HD8 y1 y2;obtain⟨w8,hw8⟩:∃w8,w7.setCell ⟨g6,z*11+1,none⟩ (nI z7)=w8:=⟨_,rfl⟩
   rw[hw8]at HM8 ⊢;clear hw8;obtain⟨M,l8,g8,i8,X8,x8⟩:=HM8.o;have HX8:=hJ X8;have HG8:=hJ (aI l8 (aI g8 (aI i8 x8)));clear HM8 l8 g8 i8 X8 x8;go_upto_region 13 with fail
   go_region_held3 (fun w'=>w'.cell? ⟨w3.1.size,5,none⟩=some (.slice (some ⟨g6,0,none⟩) dn c6)) (first| exact(cs7 HX8.o.drew.x).2.2.2.2.2.1|exact(cs7 (HX8.o.drew.over ((bF _ w8.drew).alloc nR _)).x).2.2.2.2.2.1|exact(cs7 HXA.o.x).2.2.2.2.2.1|exact(cs7 HXB.o.x).2.2.2.2.2.1) (first| (go_at_call 66;refine(zbh w0 _ c w8.drew.1.size a len cap [-1,0,3,16,17] HO.o hlen (HX8.o.drew.over ((bF _ w8.drew).alloc nR _)).dr.cur (za2 w8.drew _) (by have h1:=HX8.o.hc;have h2:=HX8.o.dr.2.size;show c≠w8.1.size;omega) sI sI).mono ?_;rintro e w9 ⟨z9,-,rfl,D9⟩;have HXA:=hJ ((HX8.o.drew.over ((bF _ w8.drew).alloc nR _)).drews D9);obtain⟨⟨pp,dc⟩,fz,-,-⟩:=HXA.o.dcell z (by rw[HG8.o.1];exact HZ.o);have y1:=dc.2.2.2.2.1;have y2:=fz (z*11+4);have HXB:=hJ (HXA.o.fld z (by rw[HG8.o.1];exact HZ.o) 4 dC (.int .i64 z9) { M.ds[z]'(by rw[HG8.o.1];exact HZ.o)with bk:=z9 } (fun _=>rfl) rfl);clear dc fz))
   have HM9:Hid (∃M:MD,BigM 1048576 M/\IdW M.ds/\Mx w0 w (w9.setCell ⟨g6,z*11+4,none⟩ (nI z9)) c a len cap w3.1.size (.slice a1 m.1.length c1) (.slice a2 m.2.length c2) (.slice a3 m.3.length c3) (.slice a4 m.4.length c4) (.slice a5 m.5.length c5) (.slice (aA g6 0) dn c6) m.nx M/\M.nx=m.nx) :=
    ⟨{ M with ds:=M.ds.set z { M.ds[z]'(by rw[HG8.o.1];exact HZ.o)with bk:=z9 } },zn3 HG8.o.2.1 (by rw[HG8.o.1];exact HZ.o) rfl rfl,zn4 HG8.o.2.2.1 (by rw[HG8.o.1];exact HZ.o) rfl,HXB.o,HG8.o.2.2.2⟩
   clear HX8 D9 HXA HXB y1 y2 HG8 HZ j0 j1;obtain⟨w10,hw10⟩:∃w10,w9.setCell ⟨g6,z*11+4,none⟩ (nI z9)=w10:=⟨_,rfl⟩
   rw[hw10]at HM9 ⊢;clear hw10;obtain⟨M9,g9,i9,X9,x9⟩:=HM9.o;have HX9:=hJ X9;have HG9:=hJ (aI g9 i9);have HNX:=hJ x9;clear HM9 g9 i9 X9 x9;have HE:Hid (∀x1 x2 x3 x4 x5 x6 x7,MRn w.1.size (set7 w10 w.1.size x1 x2 x3 x4 x5 x6 x7) (.slice a1 m.1.length c1) (.slice a2 m.2.length c2) (.slice a3 m.3.length c3) (.slice a4 m.4.length c4) (.slice a5 m.5.length c5) (.slice (aA g6 0) dn c6) M9):=fun x1 x2 x3 x4 x5 x6 x7 w2' hw hs2 =>
    (HX9.o.o.of_heap (w':=w2') fun k hk hl=>(hw k (by have:=hk.1;omega) (by rw[zbi];exact hl)).trans (zba _ _ _ _ _ _ _ _ _ k (by have:=hk.1;omega))).mr
   have HA:=hJ (aI HX9.o.res (aI HX9.o.x HX9.o.dr));clear HX9;obtain⟨q0,q1,q2,q3,q4,q5,q6,z0,z1,z2,z3,z4,z5,z6,m0⟩:=cs7 HA.o.1;obtain⟨s0,s1,s2,s3,s4,s5,s6,r0,r1,r2,r3,r4,r5,r6,r9⟩:=cs7 HA.o.2.1;have HDR:=hJ (fun x1 x2 x3 x4 x5 x6 x7=>zbs HA.o.2.2 hcw nR x1 x2 x3 x4 x5 x6 x7);clear HA;go_wp2;exact bY (v:=.agg #[.slice a1 m.1.length c1,.slice a2 m.2.length c2,.slice a3 m.3.length c3,.slice a4 m.4.length c4,.slice a5 m.5.length c5,.slice (aA g6 0) dn c6,nI m.nx]) (by simp[results,go_sem,q0,q1,q2,q3,q4,q5,q6]) rfl ⟨MemX.mk (m:={ M9 with nx:=m.nx }) (mrn_nx (HE.o _ _ _ _ _ _ _) _) ⟨HG9.o.1.d,HG9.o.1.f,HG9.o.1.l,HG9.o.1.b,HG9.o.1.t⟩ HG9.o.2,HDR.o _ _ _ _ _ _ _⟩
 ·obtain⟨dn,hdn⟩:∃n,m.6.length=n:=⟨_,rfl⟩
  rw[hdn]at HD4 ⊢;have HDN:=hJ hdn;have hd20:dn<=1048576:=by rw[←hdn];exact HB.o.l
  clear hdn;rcases Nat.eq_zero_or_pos dn with rfl|hdp
  ·exact cQ17
  ·have hg6:∃g6,a6=some ⟨g6,0,none⟩:=by
    exact cQ82
   obtain⟨g6,rfl⟩:=hg6;obtain⟨p0,p1,p2,p3,p4,p5,p6,-,-,-,-,-,-,-,-⟩:=cs7 HD4.o.x;have hl0:(0:Int)<(dn:Int):=oM
   have HZ:Hid (0<m.6.length):=by show 0<_;rw[HDN.o];exact hdp
   go_upto_region 16 with fail
   clear p0 p1 p2 p3 p4 p5 p6;obtain⟨ts,pa,pc,hts,row,dc,hgb,hgw,FIN⟩:=HD4.o.appD0 HZ.o;obtain⟨d0,hd0⟩:∃d,m.ds[0]'HZ.out=d:=⟨_,rfl⟩
   have HD0:=hJ hd0;rw[hd0]at dc FIN;clear hd0;rw[HDN.o]at hts;have HFIN:=hJ FIN;have HGB:=hJ (aI hgb hgw);clear FIN hgb hgw;have HDC:=hJ dc;obtain⟨id,kd,io,pt,bk,sl,nm,bt,ot,af,bl⟩:=d0;simp only[DCells]at dc;obtain⟨k0,k1,k2,k3,k4,k5,k6,k7,k8,k9,k10⟩:=dc;obtain⟨p0,p1,p2,p3,p4,p5,p6,f0,f1,f2,f3,f4,f5,f6,m9⟩:=cs7 HD4.o.x;have HT:=hJ (fun o=>NOwns.of_heap (w':=w4.drew.alloc o) row fun k hk=>Below.heap_alloc w4.drew _ _ (row.lt k hk));have HTL:Hid (ts.length<=100000000000):=by show _<=_;omega
   have HNB:Hid ((w4.drew.alloc (.cells (K7 id kd io pt bk sl nm bt ot af pa bl.length pc) 42)).cell? ⟨w3.1.size,5,none⟩=some (.slice (aA g6 0) dn c6)):=(HD4.o.drew.x.alloc _).cell 5;refine rP ?_;refine wp_region_held_drew (S:=fun _=>True) kL trivial (fun hHeld=>?_);clear hHeld;refine tk 0 trivial ?_;simp only[Act.put];refine tk 2 trivial ?_;simp only[Act.put];refine wH (rs:=[1,3]) kL sI ?_;refine rC rfl (fun K hK=>?_) (rC rfl (fun K hK=>?_) rN);go_simp;refine hK.out _ _ trivial (fun hHeld=>?_);clear hHeld hK K;try simp only[Act.put]
   refine wH (rs:=[3]) kL sI ?_;refine rC rfl (fun K hK=>?_) rN;go_simp;refine hK.out _ _ trivial (fun hHeld=>?_);clear hHeld hK K;try simp only[Act.put]
   refine tk 4 trivial ?_;simp only[Act.put];refine wH (rs:=[5]) kL sI ?_;refine rC rfl (fun K hK=>?_) rN;go_simp;refine hK.out _ _ trivial (fun hHeld=>?_);clear hHeld hK K;try simp only[Act.put]
   refine wH (rs:=[6]) kL sI ?_;refine rC rfl (fun K hK=>?_) rN;go_simp;refine hK.out _ _ trivial (fun hHeld=>?_);clear hHeld hK K;try simp only[Act.put]
   rotate_left
   go_simp;refine hK.out _ _ trivial (fun hHeld=>?_);clear hHeld hK K;try simp only[Act.put]
   refine tk 4 trivial ?_;simp only[Act.put];refine wH (rs:=[1,5]) kL sI ?_;refine rC rfl (fun K hK=>?_) (rC rfl (fun K hK=>?_) rN);go_simp;refine hK.out _ _ trivial (fun hHeld=>?_);clear hHeld hK K;try simp only[Act.put]
   refine wH (rs:=[5]) kL sI ?_;refine rC rfl (fun K hK=>?_) rN;go_simp;refine hK.out _ _ trivial (fun hHeld=>?_);clear hHeld hK K;try simp only[Act.put]
   refine wH (rs:=[6]) kL sI ?_;refine rC rfl (fun K hK=>?_) rN;go_simp;refine hK.out _ _ trivial (fun hHeld=>?_);clear hHeld hK K;try simp only[Act.put]
   rotate_left
   go_simp;refine hK.out _ _ trivial (fun hHeld=>?_);clear hHeld hK K;try simp only[Act.put]
   refine wH (rs:=[1,6]) kL sI ?_;refine rC rfl (fun K hK=>?_) (rC rfl (fun K hK=>?_) rN);go_simp;refine hK.out _ _ trivial (fun hHeld=>?_);clear hHeld hK K;try simp only[Act.put]
   refine wH (rs:=[6]) kL sI ?_;refine rC rfl (fun K hK=>?_) rN;go_simp;refine hK.out _ _ trivial (fun hHeld=>?_);clear hHeld hK K;try simp only[Act.put]
   rotate_left
   go_simp;refine hK.out _ _ trivial (fun hHeld=>?_);clear hHeld hK K;try simp only[Act.put]
   have y0:=HNB.o;refine wH (rs:=[1]) kL sI ?_;refine rC rfl (fun K hK=>?_) rN;go_simp;refine hK.out _ _ trivial (fun hHeld=>?_);clear hHeld hK K;try simp only[Act.put]
   all_goals
    refine wH (rs:=[7]) kL sI ?_;refine rC rfl (fun K hK=>?_) rN;refine zap _ rfl (.tmp 60) (.tmp 65) 31 rfl 42 Tryz.u31 _ 11 104 Tryz.i42 rfl dC dC (.slice (aA g6 0) dn c6) _ rfl (HT.o _) w4.1.size ((⟨id,kd,io,pt,bk,sl,nm,bt,ot,af,bl⟩:Dp).row (.slice pa bl.length pc)) rfl rfl (fun i u hu=>(AtC.new w4.drew 42 (K7 id kd io pt bk sl nm bt ot af pa bl.length pc)).at_ i u hu) (by simp[Dp.row,Value.oneCell']) HTL.o ?_;intro v12 w12 T12 G12 V12;refine hK.out _ _ trivial (fun hHeld=>?_);clear hHeld hK K;try simp only[Act.put]
    obtain⟨a12,c12,e12,-⟩:=T12.form;rw[lA,List.length_singleton,hts]at e12;subst e12;have HX12:=hJ ((HD4.o.drew.x.alloc (.cells (K7 id kd io pt bk sl nm bt ot af pa bl.length pc) 42)).grown G12 (fun e=>by have:=HGB.o.1;have h2:g6=w3.1.size:=Option.some.inj e;omega));have y1:=HX12.o.cell 5;have y2:=HX12.o.frozen 5;have HR12:=hJ (aI T12 (aI G12 V12));clear T12 G12 V12;refine tk 8 trivial ?_;simp only[Act.put];refine wH (rs:=[9]) kL sI ?_;refine rC rfl (fun K hK=>?_) rN;go_simp;refine hK.out _ _ trivial (fun hHeld=>?_);clear hHeld hK K;try simp only[Act.put]
    refine wpAnyH_done kL ?_ _;refine NoPanic.normal ?_;have HB9:Hid (BigM 1048576 { m with ds:=m.ds++[m.ds[0]'HZ.out] }):=big_app HB.o HLB.o HZ.o;have HID9:Hid (IdW (m.ds++[m.ds[0]'HZ.out])):=fun d hd=>by
     rcases List.mem_append.1 hd with q|q
     ·exact HID.o d q
     ·rw[List.mem_singleton.1 q];exact HID.o _ (gM_ HZ.o)
    have HA:Hid (AtC (w12.setCell ⟨w3.1.size,5,none⟩ (.slice a12 (dn+1) c12)) w.1.size 33 E7/\AtC (w12.setCell ⟨w3.1.size,5,none⟩ (.slice a12 (dn+1) c12)) w3.1.size 33 #[.slice a1 m.1.length c1,.slice a2 m.2.length c2,.slice a3 m.3.length c3,.slice a4 m.4.length c4,.slice a5 m.5.length c5,.slice a12 (dn+1) c12,nI m.nx]/\Drew w0 w (w12.setCell ⟨w3.1.size,5,none⟩ (.slice a12 (dn+1) c12)) c a len cap):=by
     have h1:=HD4.o.hx;have h2:=HGB.o;have ne:∀k,k<w.1.size+1->(.slice (aA g6 0) dn c6:Va).ownBlock≠some k:=fun k hk e=>by have h3:g6=k:=Option.some.inj e;omega
     refine⟨((HD4.o.drew.res.alloc _).grown HR12.o.2.1 (ne _ oM)).other oM _,HX12.o.set 5 _,(zjx ((HD4.o.drew.dr).alloc HD4.o.hc _) HD4.o.hc HR12.o.2.1 (fun k hk=>?_)).setCell HD4.o.hc oM _⟩;have h3:g6=k:=Option.some.inj hk;omega
    have HE:Hid (∀x1 x2 x3 x4 x5 x6 x7,MRn w.1.size (set7 (w12.setCell ⟨w3.1.size,5,none⟩ (.slice a12 (dn+1) c12)) w.1.size x1 x2 x3 x4 x5 x6 x7) (.slice a1 m.1.length c1) (.slice a2 m.2.length c2) (.slice a3 m.3.length c3) (.slice a4 m.4.length c4) (.slice a5 m.5.length c5) (.slice a12 (dn+1) c12) { m with ds:=m.ds++[m.ds[0]'HZ.out] }):=fun x1 x2 x3 x4 x5 x6 x7 w2' hw hs2=>by
     have hx:=HD4.o.x.lt;have hgs:=HR12.o.2.1.size;simp only[wA_,World.size_drew]at hgs;rw[zbi,World.size_setCell]at hs2;rw[zbi,World.size_setCell]at hw;have hm:(m.ds[0]'HZ.out)=⟨id,kd,io,pt,bk,sl,nm,bt,ot,af,bl⟩:=HD0.o;rw[hm];refine HFIN.o _ w12 w2' HR12.o.1 (fun k hk hkg=>?_) oM (fun k hk=>?_) (fun k hk hb hl=>?_) hs2
     ·exact(HR12.o.2.1.block k (by simp only[wA_,World.size_drew];omega) (fun e=>hkg (Option.some.inj e))).trans (Below.heap_alloc w4.drew _ _ hk)
     ·rcases HR12.o.2.2 k hk with q|q
      ·exact .inl (Option.some.inj q)
      ·exact .inr (by simp only[wA_,World.size_drew]at q;omega)
     ·exact(hw k oM hl).trans (by rw[zba _ _ _ _ _ _ _ _ _ k oM,hO_ _ ⟨w3.1.size,5,none⟩ k _ (by show k≠_;omega)])
    clear HD4 HX12 HR12 HFIN HGB HT HNB;obtain⟨q0,q1,q2,q3,q4,q5,q6,z0,z1,z2,z3,z4,z5,z6,m0⟩:=cs7 HA.o.1;obtain⟨s0,s1,s2,s3,s4,s5,s6,r0,r1,r2,r3,r4,r5,r6,r9⟩:=cs7 HA.o.2.1;have HDR:=hJ (fun x1 x2 x3 x4 x5 x6 x7=>zbs HA.o.2.2 hcw nR x1 x2 x3 x4 x5 x6 x7);clear HA;go_wp2;exact bY (v:=.agg #[.slice a1 m.1.length c1,.slice a2 m.2.length c2,.slice a3 m.3.length c3,.slice a4 m.4.length c4,.slice a5 m.5.length c5,.slice a12 (dn+1) c12,nI m.nx]) (by simp[results,go_sem,q0,q1,q2,q3,q4,q5,q6]) rfl ⟨MemX.mk (m:={ m with ds:=m.ds++[m.ds[0]'HZ.out] }) (HE.o _ _ _ _ _ _ _) HB9.o HID9.o,HDR.o _ _ _ _ _ _ _⟩
 ·have e0:((x:Int)==0)=false:=sO
  have e1:((x:Int)==1)=false:=sO
  have e2:((x:Int)==2)=false:=sO
  have e3:((x:Int)==3)=false:=sO
  have e4:((x:Int)==4)=false:=sO
  have HE:Hid (∀x1 x2 x3 x4 x5 x6 x7,MRn w.1.size (set7 w4 w.1.size x1 x2 x3 x4 x5 x6 x7) (.slice a1 m.1.length c1) (.slice a2 m.2.length c2) (.slice a3 m.3.length c3) (.slice a4 m.4.length c4) (.slice a5 m.5.length c5) (.slice a6 m.6.length c6) m):=fun x1 x2 x3 x4 x5 x6 x7 w2' hw hs2 =>
   (HD4.o.o.of_heap (w':=w2') fun k hk hl=>(hw k (by have:=hk.1;omega) (by rw[zbi];exact hl)).trans (zba _ _ _ _ _ _ _ _ _ k (by have:=hk.1;omega))).mr
  have HA:=hJ (aI HD4.o.res (aI HD4.o.x HD4.o.dr));clear HD4;obtain⟨q0,q1,q2,q3,q4,q5,q6,z0,z1,z2,z3,z4,z5,z6,m0⟩:=cs7 HA.o.1;obtain⟨s0,s1,s2,s3,s4,s5,s6,r0,r1,r2,r3,r4,r5,r6,r9⟩:=cs7 HA.o.2.1;have HDR:=hJ (fun x1 x2 x3 x4 x5 x6 x7=>zbs HA.o.2.2 hcw nR x1 x2 x3 x4 x5 x6 x7);clear HA;go_wp2;exact bY (v:=.agg (M7 m a1 c1 a2 c2 a3 c3 a4 c4 a5 c5 a6 c6)) (by simp[results,go_sem,q0,q1,q2,q3,q4,q5,q6]) rfl ⟨MemX.mk (m:=m) (HE.o _ _ _ _ _ _ _) HB.o HID.o,HDR.o _ _ _ _ _ _ _⟩
structure Dz(W0 w w1:Wd)(c:Nat)(a:OA)(len cap:Nat)(bx:Nat)(p1 p2 p3 p4 p5 p6:Va)(m:MD)(W:Wd):Prop where
 d:Drew W0 w1 W c a len cap
 x:AtC W bx 33 #[p1,p2,p3,p4,p5,p6,nI m.nx]
 z:AtC W w.1.size 33 E7
 b:Bw w W
 r:MRn w1.1.size W p1 p2 p3 p4 p5 p6 m
 hx:w1.1.size<=bx
 hc:c<w1.1.size
 hw:w.1.size<w1.1.size
 hW:W0=w.alloc (.cells E7 33)
namespace Dz
variable {W0 w w1 W : World} {c : Nat} {a : Option Addr} {len cap : Nat} {bx : Nat} {p1 p2 p3 p4 p5 p6 : Value} {m : MD}
theorem drews(h:Dz W0 w w1 c a len cap bx p1 p2 p3 p4 p5 p6 m W){W':World}(hd:Drew W0 W W' c a len cap):Dz W0 w w1 c a len cap bx p1 p2 p3 p4 p5 p6 m W':=by
 have h1:=h.hc;have h2:=h.hx;have h3:=h.hw;have h4:=hd.2.size;have q:=hd.1.2.1;rw[h.hW]at q;refine⟨h.d.trans hd,h.x.grown hd.2 (by intro e;cases e;omega),(AtC.new w 33 _).over q,((Below.refl _ w).alloc nR _).trans (q.mono sI),fun w2 k1 k2=>h.r w2 (fun k hk hl=>(k1 k hk oM).trans (hd.2.block k hl (by intro e;cases e;omega))) oM,h2,h1,h3,h.hW⟩
theorem drew(h:Dz W0 w w1 c a len cap bx p1 p2 p3 p4 p5 p6 m W):Dz W0 w w1 c a len cap bx p1 p2 p3 p4 p5 p6 m W.drew:=h.drews (Drew.refl h.d.cur).drew
theorem alloc(h:Dz W0 w w1 c a len cap bx p1 p2 p3 p4 p5 p6 m W)(o:Obj):Dz W0 w w1 c a len cap bx p1 p2 p3 p4 p5 p6 m (W.alloc o):=h.drews ((Drew.refl h.d.cur).alloc (Nat.lt_of_lt_of_le h.hc h.d.2.size) o)
theorem put(h:Dz W0 w w1 c a len cap bx p1 p2 p3 p4 p5 p6 m W){W':World}(h2:Below W.1.size W W'):Dz W0 w w1 c a len cap bx p1 p2 p3 p4 p5 p6 m W':=h.drews ((Drew.refl h.d.cur).below (Nat.lt_of_lt_of_le h.hc h.d.2.size) h2)
theorem start{w2:World}(hD:Drew W0 w1 w2 c a len cap)(hM:MRn w1.1.size w2 p1 p2 p3 p4 p5 p6 m)(hc:c<w1.1.size)(hw:w.1.size<w1.1.size)(hW:W0=w.alloc (.cells E7 33)):
  Dz W0 w w1 c a len cap w2.1.size p1 p2 p3 p4 p5 p6 m (w2.alloc (.cells #[p1,p2,p3,p4,p5,p6,.int .i64 m.nx] 33)):=by
 have d:=hD.alloc hc (.cells #[p1,p2,p3,p4,p5,p6,.int .i64 m.nx] 33);have hs:=hD.2.size;have q:=d.1.2.1;rw[hW]at q;have aB:(w2.alloc (.cells #[p1,p2,p3,p4,p5,p6,.int .i64 m.nx] 33)).1.size=w2.1.size+1:=by simp
 exact⟨d,AtC.new w2 33 _,(AtC.new w 33 _).over q,((Below.refl _ w).alloc nR _).trans (q.mono sI),fun w3 k1 k2=>hM w3 (fun k hk hl=>(k1 k hk oM).trans (Below.heap_alloc w2 _ _ hl)) oM,hs,hc,hw,hW⟩
theorem fin(h:Dz W0 w w1 c a len cap bx p1 p2 p3 p4 p5 p6 m W):∀x1 x2 x3 x4 x5 x6 x7,MR (set7 W w.1.size x1 x2 x3 x4 x5 x6 x7) p1 p2 p3 p4 p5 p6 m/\Below w.1.size w (set7 W w.1.size x1 x2 x3 x4 x5 x6 x7):=fun x1 x2 x3 x4 x5 x6 x7=>by
 have h3:=h.hw;refine⟨h.r _ (fun k hk _=>zba _ _ _ _ _ _ _ _ _ k oM) (by rw[zbi];exact Nat.le_refl _),?_⟩;exact((((((h.b.setCell (p:=⟨w.1.size,0,none⟩) nR x1).setCell (p:=⟨w.1.size,1,none⟩) nR x2).setCell (p:=⟨w.1.size,2,none⟩) nR x3).setCell (p:=⟨w.1.size,3,none⟩) nR x4).setCell (p:=⟨w.1.size,4,none⟩) nR x5).setCell (p:=⟨w.1.size,5,none⟩) nR x6).setCell (p:=⟨w.1.size,6,none⟩) nR x7
theorem finD(h:Dz W0 w w1 c a len cap bx p1 p2 p3 p4 p5 p6 m W)(x1 x2 x3 x4 x5 x6 x7:Value):MR (((((((W.setCell ⟨w.1.size,0,none⟩ x1).setCell ⟨w.1.size,1,none⟩ x2).setCell ⟨w.1.size,2,none⟩ x3).setCell ⟨w.1.size,3,none⟩ x4).setCell ⟨w.1.size,4,none⟩ x5).setCell ⟨w.1.size,5,none⟩ x6).setCell ⟨w.1.size,6,none⟩ x7).drew p1 p2 p3 p4 p5 p6 m/\Below w.1.size w (((((((W.setCell ⟨w.1.size,0,none⟩ x1).setCell ⟨w.1.size,1,none⟩ x2).setCell ⟨w.1.size,2,none⟩ x3).setCell ⟨w.1.size,3,none⟩ x4).setCell ⟨w.1.size,4,none⟩ x5).setCell ⟨w.1.size,5,none⟩ x6).setCell ⟨w.1.size,6,none⟩ x7).drew:=⟨(h.fin x1 x2 x3 x4 x5 x6 x7).1.drew,(h.fin x1 x2 x3 x4 x5 x6 x7).2.drew⟩
theorem dform{a6:Option Addr}{c6:Nat}(h:Dz W0 w w1 c a len cap bx p1 p2 p3 p4 p5 (.slice a6 m.6.length c6) m W)(h0:0<m.6.length):∃g aB,a6=some ⟨g,aB,none⟩:=by
 obtain⟨a',c',e,-,hd⟩:=h.r.mr.p.dep;simp only[Value.slice.injEq,true_and]at e;obtain⟨rfl,rfl⟩:=e;obtain⟨g,aB,p,e1,-⟩:=hd 0 h0;exact⟨g,aB,e1⟩
theorem dcell{g off c6:Nat}(h:Dz W0 w w1 c a len cap bx p1 p2 p3 p4 p5 (.slice (some ⟨g,off,none⟩) m.6.length c6) m W)(j:Nat)(hj:j<m.6.length):∃p,DCells W g (off+j*11) m.ds[j] p:=by
 obtain⟨a',c',e,-,hd⟩:=h.r.mr.p.dep;simp only[Value.slice.injEq,true_and]at e;obtain⟨rfl,rfl⟩:=e;obtain⟨g',aB,p,e1,-,e2,-⟩:=hd j hj;simp only[Option.some.injEq,Addr.mk.injEq,and_true]at e1;obtain⟨rfl,rfl⟩:=e1;exact⟨p,e2⟩
theorem c7(h:Dz W0 w w1 c a len cap bx p1 p2 p3 p4 p5 p6 m W):W.cell? ⟨bx,0,none⟩=some (p1)/\W.cell? ⟨bx,1,none⟩=some (p2)/\W.cell? ⟨bx,2,none⟩=some (p3)/\W.cell? ⟨bx,3,none⟩=some (p4)/\W.cell? ⟨bx,4,none⟩=some (p5)/\W.cell? ⟨bx,5,none⟩=some (p6)/\W.cell? ⟨bx,6,none⟩=some (.int .i64 m.nx):=⟨h.x.cell 0,h.x.cell 1,h.x.cell 2,h.x.cell 3,h.x.cell 4,h.x.cell 5,h.x.cell 6⟩
theorem c7s(h:Dz W0 w w1 c a len cap bx p1 p2 p3 p4 p5 p6 m W)(x1 x2 x3 x4 x5 x6 x7:Value):(((((((W.setCell ⟨w.1.size,0,none⟩ x1).setCell ⟨w.1.size,1,none⟩ x2).setCell ⟨w.1.size,2,none⟩ x3).setCell ⟨w.1.size,3,none⟩ x4).setCell ⟨w.1.size,4,none⟩ x5).setCell ⟨w.1.size,5,none⟩ x6).setCell ⟨w.1.size,6,none⟩ x7).cell? ⟨bx,0,none⟩=some (p1)/\(((((((W.setCell ⟨w.1.size,0,none⟩ x1).setCell ⟨w.1.size,1,none⟩ x2).setCell ⟨w.1.size,2,none⟩ x3).setCell ⟨w.1.size,3,none⟩ x4).setCell ⟨w.1.size,4,none⟩ x5).setCell ⟨w.1.size,5,none⟩ x6).setCell ⟨w.1.size,6,none⟩ x7).cell? ⟨bx,1,none⟩=some (p2)/\(((((((W.setCell ⟨w.1.size,0,none⟩ x1).setCell ⟨w.1.size,1,none⟩ x2).setCell ⟨w.1.size,2,none⟩ x3).setCell ⟨w.1.size,3,none⟩ x4).setCell ⟨w.1.size,4,none⟩ x5).setCell ⟨w.1.size,5,none⟩ x6).setCell ⟨w.1.size,6,none⟩ x7).cell? ⟨bx,2,none⟩=some (p3)/\(((((((W.setCell ⟨w.1.size,0,none⟩ x1).setCell ⟨w.1.size,1,none⟩ x2).setCell ⟨w.1.size,2,none⟩ x3).setCell ⟨w.1.size,3,none⟩ x4).setCell ⟨w.1.size,4,none⟩ x5).setCell ⟨w.1.size,5,none⟩ x6).setCell ⟨w.1.size,6,none⟩ x7).cell? ⟨bx,3,none⟩=some (p4)/\(((((((W.setCell ⟨w.1.size,0,none⟩ x1).setCell ⟨w.1.size,1,none⟩ x2).setCell ⟨w.1.size,2,none⟩ x3).setCell ⟨w.1.size,3,none⟩ x4).setCell ⟨w.1.size,4,none⟩ x5).setCell ⟨w.1.size,5,none⟩ x6).setCell ⟨w.1.size,6,none⟩ x7).cell? ⟨bx,4,none⟩=some (p5)/\(((((((W.setCell ⟨w.1.size,0,none⟩ x1).setCell ⟨w.1.size,1,none⟩ x2).setCell ⟨w.1.size,2,none⟩ x3).setCell ⟨w.1.size,3,none⟩ x4).setCell ⟨w.1.size,4,none⟩ x5).setCell ⟨w.1.size,5,none⟩ x6).setCell ⟨w.1.size,6,none⟩ x7).cell? ⟨bx,5,none⟩=some (p6)/\(((((((W.setCell ⟨w.1.size,0,none⟩ x1).setCell ⟨w.1.size,1,none⟩ x2).setCell ⟨w.1.size,2,none⟩ x3).setCell ⟨w.1.size,3,none⟩ x4).setCell ⟨w.1.size,4,none⟩ x5).setCell ⟨w.1.size,5,none⟩ x6).setCell ⟨w.1.size,6,none⟩ x7).cell? ⟨bx,6,none⟩=some (.int .i64 m.nx):=by
 have h1:=h.hx;have h2:=h.hw;have X:AtC (((((((W.setCell ⟨w.1.size,0,none⟩ x1).setCell ⟨w.1.size,1,none⟩ x2).setCell ⟨w.1.size,2,none⟩ x3).setCell ⟨w.1.size,3,none⟩ x4).setCell ⟨w.1.size,4,none⟩ x5).setCell ⟨w.1.size,5,none⟩ x6).setCell ⟨w.1.size,6,none⟩ x7) bx 33 #[p1,p2,p3,p4,p5,p6,.int .i64 m.nx]:=((((((h.x.other oM x1).other oM x2).other oM x3).other oM x4).other oM x5).other oM x6).other oM x7;exact⟨X.cell 0,X.cell 1,X.cell 2,X.cell 3,X.cell 4,X.cell 5,X.cell 6⟩
theorem put11(h:Dz W0 w w1 c a len cap bx p1 p2 p3 p4 p5 p6 m W){W':World}{k:Nat}(hd:Drew W0 W W' c a len cap)(hk:W.1.size<=k)(hx:AtC W' k 42 #[.int .i64 0,.int .i64 0,.int .i64 0,.int .i64 0,.int .i64 0,.int .i64 0,.string ⟨#[]⟩,.bool false,.bool false,.int .i64 0,.slice none 0 0])(x0 x1 x2 x3 x4 x5 x6 x7 x8 x9 x10:Value):
  Drew W0 W (((((((((((W'.setCell ⟨k,0,none⟩ x0).setCell ⟨k,1,none⟩ x1).setCell ⟨k,2,none⟩ x2).setCell ⟨k,3,none⟩ x3).setCell ⟨k,4,none⟩ x4).setCell ⟨k,5,none⟩ x5).setCell ⟨k,6,none⟩ x6).setCell ⟨k,7,none⟩ x7).setCell ⟨k,8,none⟩ x8).setCell ⟨k,9,none⟩ x9).setCell ⟨k,10,none⟩ x10) c a len cap/\Dz W0 w w1 c a len cap bx p1 p2 p3 p4 p5 p6 m (((((((((((W'.setCell ⟨k,0,none⟩ x0).setCell ⟨k,1,none⟩ x1).setCell ⟨k,2,none⟩ x2).setCell ⟨k,3,none⟩ x3).setCell ⟨k,4,none⟩ x4).setCell ⟨k,5,none⟩ x5).setCell ⟨k,6,none⟩ x6).setCell ⟨k,7,none⟩ x7).setCell ⟨k,8,none⟩ x8).setCell ⟨k,9,none⟩ x9).setCell ⟨k,10,none⟩ x10)/\(((((((((((W'.setCell ⟨k,0,none⟩ x0).setCell ⟨k,1,none⟩ x1).setCell ⟨k,2,none⟩ x2).setCell ⟨k,3,none⟩ x3).setCell ⟨k,4,none⟩ x4).setCell ⟨k,5,none⟩ x5).setCell ⟨k,6,none⟩ x6).setCell ⟨k,7,none⟩ x7).setCell ⟨k,8,none⟩ x8).setCell ⟨k,9,none⟩ x9).setCell ⟨k,10,none⟩ x10).cell? ⟨k,4,none⟩=some x4/\(((((((((((W'.setCell ⟨k,0,none⟩ x0).setCell ⟨k,1,none⟩ x1).setCell ⟨k,2,none⟩ x2).setCell ⟨k,3,none⟩ x3).setCell ⟨k,4,none⟩ x4).setCell ⟨k,5,none⟩ x5).setCell ⟨k,6,none⟩ x6).setCell ⟨k,7,none⟩ x7).setCell ⟨k,8,none⟩ x8).setCell ⟨k,9,none⟩ x9).setCell ⟨k,10,none⟩ x10).cell? ⟨k,5,none⟩=some x5:=by
 have hc:c<W.1.size:=Nat.lt_of_lt_of_le h.hc h.d.2.size;have X0:AtC _ k 42 #[x0,.int .i64 0,.int .i64 0,.int .i64 0,.int .i64 0,.int .i64 0,.string ⟨#[]⟩,.bool false,.bool false,.int .i64 0,.slice none 0 0]:=hx.set 0 x0;have X1:AtC _ k 42 #[x0,x1,.int .i64 0,.int .i64 0,.int .i64 0,.int .i64 0,.string ⟨#[]⟩,.bool false,.bool false,.int .i64 0,.slice none 0 0]:=X0.set 1 x1;have X2:AtC _ k 42 #[x0,x1,x2,.int .i64 0,.int .i64 0,.int .i64 0,.string ⟨#[]⟩,.bool false,.bool false,.int .i64 0,.slice none 0 0]:=X1.set 2 x2;have X3:AtC _ k 42 #[x0,x1,x2,x3,.int .i64 0,.int .i64 0,.string ⟨#[]⟩,.bool false,.bool false,.int .i64 0,.slice none 0 0]:=X2.set 3 x3;have X4:AtC _ k 42 #[x0,x1,x2,x3,x4,.int .i64 0,.string ⟨#[]⟩,.bool false,.bool false,.int .i64 0,.slice none 0 0]:=X3.set 4 x4;have X5:AtC _ k 42 #[x0,x1,x2,x3,x4,x5,.string ⟨#[]⟩,.bool false,.bool false,.int .i64 0,.slice none 0 0]:=X4.set 5 x5;have X6:AtC _ k 42 #[x0,x1,x2,x3,x4,x5,x6,.bool false,.bool false,.int .i64 0,.slice none 0 0]:=X5.set 6 x6;have X7:AtC _ k 42 #[x0,x1,x2,x3,x4,x5,x6,x7,.bool false,.int .i64 0,.slice none 0 0]:=X6.set 7 x7;have X8:AtC _ k 42 #[x0,x1,x2,x3,x4,x5,x6,x7,x8,.int .i64 0,.slice none 0 0]:=X7.set 8 x8;have X9:AtC _ k 42 #[x0,x1,x2,x3,x4,x5,x6,x7,x8,x9,.slice none 0 0]:=X8.set 9 x9;have aB:AtC _ k 42 #[x0,x1,x2,x3,x4,x5,x6,x7,x8,x9,x10]:=X9.set 10 x10;have D:Drew W0 W (((((((((((W'.setCell ⟨k,0,none⟩ x0).setCell ⟨k,1,none⟩ x1).setCell ⟨k,2,none⟩ x2).setCell ⟨k,3,none⟩ x3).setCell ⟨k,4,none⟩ x4).setCell ⟨k,5,none⟩ x5).setCell ⟨k,6,none⟩ x6).setCell ⟨k,7,none⟩ x7).setCell ⟨k,8,none⟩ x8).setCell ⟨k,9,none⟩ x9).setCell ⟨k,10,none⟩ x10) c a len cap:=(((((((((((hd.setCell hc hk x0).setCell hc hk x1).setCell hc hk x2).setCell hc hk x3).setCell hc hk x4).setCell hc hk x5).setCell hc hk x6).setCell hc hk x7).setCell hc hk x8).setCell hc hk x9).setCell hc hk x10)
 exact⟨D,h.drews D,aB.cell 4,aB.cell 5⟩
theorem dcellS{g off c6:Nat}(h:Dz W0 w w1 c a len cap bx p1 p2 p3 p4 p5 (.slice (some ⟨g,off,none⟩) m.6.length c6) m W)(j:Nat)(hj:j<m.6.length):∃pa pn pc,DCells W g (off+j*11) m.ds[j] (.slice pa pn pc)/\g<W.1.size:=by
 obtain⟨a',c',e,-,hd⟩:=h.r.mr.p.dep;simp only[Value.slice.injEq,true_and]at e;obtain⟨rfl,rfl⟩:=e;obtain⟨g',aB,p,e1,hg,e2,pa,pc,rfl,-⟩:=hd j hj;simp only[Option.some.injEq,Addr.mk.injEq,and_true]at e1;obtain⟨rfl,rfl⟩:=e1;exact⟨_,_,_,e2,hg⟩
theorem lo{g off c6:Nat}(h:Dz W0 w w1 c a len cap bx p1 p2 p3 p4 p5 (.slice (some ⟨g,off,none⟩) m.6.length c6) m W)(h0:0<m.6.length):w1.1.size<=g/\g<W.1.size:=by
 obtain⟨_,_,_,dc,hg⟩:=h.dcellS 0 h0;refine⟨Nat.le_of_not_lt fun aC=>?_,hg⟩;have q:=h.r (W.setCell ⟨g,off+0*11,none⟩ (.bool true)) (fun k hk _=>heap_setCell_other _ ⟨g,off+0*11,none⟩ k _ (by show k≠g;omega)) sI;obtain⟨a',c',e,-,hd⟩:=q.p.dep;simp only[Value.slice.injEq,true_and]at e;obtain⟨rfl,rfl⟩:=e;obtain⟨g',aB,p,e1,-,e2,-⟩:=hd 0 h0;simp only[Option.some.injEq,Addr.mk.injEq,and_true]at e1;obtain⟨rfl,rfl⟩:=e1;have e3:=e2.1;rw[World.cell?_setCell_same _ _ _ dc.1]at e3
 cases e3
theorem same(h:Dz W0 w w1 c a len cap bx p1 p2 p3 p4 p5 p6 m W){W':World}(hd:Drew W0 W W' c a len cap){g:Nat}(hg:w1.1.size<=g/\g<W.1.size):∀i,W'.cell? ⟨g,i,none⟩=W.cell? ⟨g,i,none⟩:=fun i =>
 World.cell?_of_block (a:=⟨g,i,none⟩) (hd.2.block g hg.2 (by have:=h.hc;intro e;cases e;omega))
theorem sameS(h:Dz W0 w w1 c a len cap bx p1 p2 p3 p4 p5 p6 m W){W':World}(hd:Drew W0 W W' c a len cap){g:Nat}(hg:w1.1.size<=g/\g<W.1.size)(x1 x2 x3 x4 x5 x6 x7:Value):∀i,(((((((W'.setCell ⟨w.1.size,0,none⟩ x1).setCell ⟨w.1.size,1,none⟩ x2).setCell ⟨w.1.size,2,none⟩ x3).setCell ⟨w.1.size,3,none⟩ x4).setCell ⟨w.1.size,4,none⟩ x5).setCell ⟨w.1.size,5,none⟩ x6).setCell ⟨w.1.size,6,none⟩ x7).cell? ⟨g,i,none⟩=W.cell? ⟨g,i,none⟩:=fun i =>
 (World.cell?_of_block (a:=⟨g,i,none⟩) (zba W' _ x1 x2 x3 x4 x5 x6 x7 g (by have:=h.hw;omega))).trans (h.same hd hg i)
end Dz
def DrX(w w':World)(p1 p2 p3 p4 p5 p6:Value)(m:MD):Prop:=MR w' p1 p2 p3 p4 p5 p6 m/\BigM 1048576 m/\IdW m.ds/\Below w.1.size w w'
theorem wf_of{z:Int}(h1:IntKind.i64.min<=z)(h2:z<=IntKind.i64.max):(Lit.int .i64 z).wf=true:=by
 show(decide (IntKind.i64.min<=z)&&decide (z<=IntKind.i64.max))=true;rw[Bool.and_eq_true,decide_eq_true_eq,decide_eq_true_eq];exact⟨h1,h2⟩
theorem zlh(w:Wd)(a:OA)(len cap:Nat)(hcode:za0 w a len)(hlen:len<=1048576):
  Calls Tryz.prog 8 #[.slice a len cap] w fun e w'=>∃p1 p2 p3 p4 p5 p6 m y z,e=.returned (.tuple #[.agg #[p1,p2,p3,p4,p5,p6,nI m.nx],nI y,nI z])/\DrX w w' p1 p2 p3 p4 p5 p6 m:=by
 obtain⟨W0,aP⟩:∃W0,w.alloc (.cells E7 33)=W0:=⟨_,rfl⟩
 have HO:Hid (za0 W0 a len):=by rw[←aP];exact zc7 hcode ((bF _ w).alloc nR _)
 have bC:w.1.size<W0.1.size:=by rw[←aP];simp
 have aX:=hJ aP.symm;clear hcode;go_enter Tryz.func8,Tryz.ntmps8
 go_wp2_with fail
 clear aP;refine(zji W0 a len cap HO.o hlen).mono ?_;rintro e w1 ⟨rfl,C1,aL⟩;have aW:Hid (Drew W0 w1 w1 W0.1.size a len cap):=Drew.refl C1;clear C1;go_wp2_with fail
 refine(zj7 W0 w1 W0.1.size a len cap HO.o hlen aW.o.cur aL).mono ?_;rintro e w2 ⟨⟨a1,c1,a2,c2,a3,c3,a4,c4,a5,c5,a6,c6,m,rfl,M2,G2,I2⟩,D2⟩;have HG:=hJ (aI G2 I2);have HZ:=hJ (Dz.start D2 M2 aL oM aX.o);obtain⟨p0,p1,p2,p3,p4,p5,p6,f0,f1,f2,f3,f4,f5,f6,m9⟩:=cs7 HZ.o.x;clear M2 G2 I2 D2 aW;have aU:Hid (m.6.length<=1048576):=HG.o.1.l;rcases Nat.eq_zero_or_pos m.6.length with h0|hp
 ·have q1:¬(0:Int)<(m.6.length:Int):=oM
  clear h0;go_wp2_with fail
  go_region_held3 (fun w'=>w'.cell? ⟨w2.1.size,0,none⟩=some (.slice a1 m.1.length c1)/\w'.cell? ⟨w2.1.size,1,none⟩=some (.slice a2 m.2.length c2)/\w'.cell? ⟨w2.1.size,2,none⟩=some (.slice a3 m.3.length c3)/\w'.cell? ⟨w2.1.size,3,none⟩=some (.slice a4 m.4.length c4)/\w'.cell? ⟨w2.1.size,4,none⟩=some (.slice a5 m.5.length c5)/\w'.cell? ⟨w2.1.size,5,none⟩=some (.slice a6 m.6.length c6)/\w'.cell? ⟨w2.1.size,6,none⟩=some (.int .i64 m.nx)) (first| (with_reducible exact HZ.o.drew.c7)| (with_reducible exact aD.o.c7)| (with_reducible exact aF.o.c7)| (with_reducible exact aF.o.c7s _ _ _ _ _ _ _)) (first| (have h9:=aD.o.hc;go_at_call 37;refine(zcd W0 _ W0.1.size a len cap 4 HO.o hlen aD.o.d.cur (by have h1:=aD.o.hc;have h2:=aD.o.d.2.size;exact lL h1 h2) dC dC).mono ?_;rintro e w9 ⟨z9,-,-,rfl,D9⟩;have aF:=hJ (aD.o.drews D9);clear D9;obtain⟨q0,q1,q2,q3,q4,q5,q6,r0,r1,r2,r3,r4,r5,r6,-⟩:=cs7 aF.o.z)| (go_at_call 37;refine(zcd W0 _ W0.1.size a len cap 16 HO.o hlen HZ.o.drew.d.cur (by have h1:=HZ.o.hc;have h2:=HZ.o.d.2.size;exact lL h1 h2) dC dC).mono ?_;rintro e w8 ⟨z8,-,-,rfl,D8⟩;have aD:=hJ (HZ.o.drew.drews D8);clear D8))
  all_goals go_wp2
  all_goals exact bY (v:=.tuple #[.agg (M7 m a1 c1 a2 c2 a3 c3 a4 c4 a5 c5 a6 c6),nI z8,nI z9]) (by simp[results,go_sem,q0,q1,q2,q3,q4,q5,q6]) rfl ⟨_,_,_,_,_,_,m,z8,z9,rfl,(aF.o.fin _ _ _ _ _ _ _).1,HG.o.1,HG.o.2,(aF.o.fin _ _ _ _ _ _ _).2⟩
 have q1:(0:Int)<(m.6.length:Int):=oM
 have HP:=hJ hp;obtain⟨g,aH,rfl⟩:=HZ.o.dform hp;clear hp;go_wp2_with fail
 refine(zaw W0 _ W0.1.size a len cap 4 HO.o hlen HZ.o.d.cur dC dC).mono ?_;rintro e w3 ⟨y,rfl,D3⟩;have aB:=hJ (HZ.o.drews D3);clear D3 HZ p0 p1 p2 p3 p4 p5 p6 f0 f1 f2 f3 f4 f5 f6 m9;obtain⟨p0,p1,p2,p3,p4,p5,p6,f0,f1,f2,f3,f4,f5,f6,m9⟩:=cs7 aB.o.x
 cases hy:(y==0)with
 | true =>
  clear hy;go_wp2_with fail
  go_region_held3 (fun w'=>w'.cell? ⟨w2.1.size,0,none⟩=some (.slice a1 m.1.length c1)/\w'.cell? ⟨w2.1.size,1,none⟩=some (.slice a2 m.2.length c2)/\w'.cell? ⟨w2.1.size,2,none⟩=some (.slice a3 m.3.length c3)/\w'.cell? ⟨w2.1.size,3,none⟩=some (.slice a4 m.4.length c4)/\w'.cell? ⟨w2.1.size,4,none⟩=some (.slice a5 m.5.length c5)/\w'.cell? ⟨w2.1.size,5,none⟩=some (.slice (some ⟨g,aH,none⟩) m.6.length c6)/\w'.cell? ⟨w2.1.size,6,none⟩=some (.int .i64 m.nx)) (first| (with_reducible exact aB.o.drew.c7)| (with_reducible exact aD.o.c7)| (with_reducible exact aF.o.c7)| (with_reducible exact aF.o.c7s _ _ _ _ _ _ _)) (first| (have h9:=aD.o.hc;go_at_call 37;refine(zcd W0 _ W0.1.size a len cap 4 HO.o hlen aD.o.d.cur (by have h1:=aD.o.hc;have h2:=aD.o.d.2.size;exact lL h1 h2) dC dC).mono ?_;rintro e w9 ⟨z9,-,-,rfl,D9⟩;have aF:=hJ (aD.o.drews D9);clear D9;obtain⟨q0,q1,q2,q3,q4,q5,q6,r0,r1,r2,r3,r4,r5,r6,-⟩:=cs7 aF.o.z)| (go_at_call 37;refine(zcd W0 _ W0.1.size a len cap 16 HO.o hlen aB.o.drew.d.cur (by have h1:=aB.o.hc;have h2:=aB.o.d.2.size;exact lL h1 h2) dC dC).mono ?_;rintro e w8 ⟨z8,-,-,rfl,D8⟩;have aD:=hJ (aB.o.drew.drews D8);clear D8))
  all_goals go_wp2
  all_goals exact bY (v:=.tuple #[.agg (M7 m a1 c1 a2 c2 a3 c3 a4 c4 a5 c5 (aA g aH) c6),nI z8,nI z9]) (by simp[results,go_sem,q0,q1,q2,q3,q4,q5,q6]) rfl ⟨_,_,_,_,_,_,m,z8,z9,rfl,(aF.o.fin _ _ _ _ _ _ _).1,HG.o.1,HG.o.2,(aF.o.fin _ _ _ _ _ _ _).2⟩
 | false =>
  clear hy;go_upto_region 4 with fail
  have aT:=hJ aB.o.drew;have aN:=hJ (aB.o.lo HP.o);have aO:=hJ ((Drew.refl aB.o.d.cur).alloc (lL aB.o.hc aB.o.d.2.size) (.cells #[.int .i64 0,.int .i64 0,.int .i64 0,.int .i64 0,.int .i64 0,.int .i64 0,.string ⟨#[]⟩,.bool false,.bool false,.int .i64 0,.slice none 0 0] 42)).drew;go_cut [7]from 21 to 29 (fun b wx=>∃(k:Nat)(y z:Int),b=.pointer (some ⟨k,0,none⟩)/\w.1.size<k/\Hid (Drew W0 w3 wx W0.1.size a len cap/\Dz W0 w w1 W0.1.size a len cap w2.1.size (.slice a1 m.1.length c1) (.slice a2 m.2.length c2) (.slice a3 m.3.length c3) (.slice a4 m.4.length c4) (.slice a5 m.5.length c5) (.slice (some ⟨g,aH,none⟩) m.6.length c6) m wx/\wx.cell? ⟨k,4,none⟩=some (.int .i64 y)/\wx.cell? ⟨k,5,none⟩=some (.int .i64 z)))
  case first =>
   go_region_held3 (fun w'=>(∀i,w'.cell? ⟨g,i,none⟩=w3.cell? ⟨g,i,none⟩)/\w'.cell? ⟨w2.1.size,5,none⟩=some (.slice (some ⟨g,aH,none⟩) m.6.length c6)) (first| (with_reducible exact⟨aB.o.same aS.o aN.o,aD.o.c7.2.2.2.2.2.1⟩)| (with_reducible exact⟨aB.o.same (aR.o _) aN.o,(aD.o.alloc _).c7.2.2.2.2.2.1⟩)| (with_reducible exact⟨aB.o.same (aG.o _ _ _ _ _ _ _ _ _ _ _).1 aN.o,(aG.o _ _ _ _ _ _ _ _ _ _ _).2.1.c7.2.2.2.2.2.1⟩)| exact⟨fun _=>rfl,aT.o.c7.2.2.2.2.2.1⟩| exact⟨aB.o.same aO.o aN.o,(aB.o.drews aO.o).c7.2.2.2.2.2.1⟩) (first| (go_at_call 36;(with_reducible show Calls _ _ _ w3.drew _);refine(zah W0 _ W0.1.size a len cap m.6.length HO.o hlen aT.o.d.cur HP.o (by have:=aU.o;omega)).mono ?_;rintro e w8 ⟨x8,aM,rfl,D8⟩;have D9:=(Drew.refl aB.o.d.cur).drew.trans D8;have aQ:Hid (x8<m.6.length):=aM;have j0:(0:Int)<=(x8:Int):=oM;have j1:(x8:Int)<(m.6.length:Int):=oM;have aS:=hJ D9;have aD:=hJ (aB.o.drews D9);have aR:=hJ (fun o=>D9.alloc (lL aB.o.hc aB.o.d.2.size) o);obtain⟨pa,pn,pc,dc,-⟩:=aB.o.dcellS x8 aQ.o;obtain⟨d0,aK⟩:∃d,m.ds[x8]'aQ.out=d:=⟨_,rfl⟩;rw[aK]at dc;clear aK D8 D9 aM;obtain⟨id,kd,io,pt,bk,sl,nm,bt,ot,af,bl⟩:=d0;simp only[DCells]at dc;obtain⟨k0,k1,k2,k3,k4,k5,k6,k7,k8,k9,k10⟩:=dc)| (go_at_call 36;refine(zah W0 _ W0.1.size a len cap m.6.length HO.o hlen aO.o.cur HP.o (by have:=aU.o;omega)).mono ?_;rintro e w8 ⟨x8,aM,rfl,D8⟩;have D9:=aO.o.trans D8;have aQ:Hid (x8<m.6.length):=aM;have j0:(0:Int)<=(x8:Int):=oM;have j1:(x8:Int)<(m.6.length:Int):=oM;have aS:=hJ D9;have aD:=hJ (aB.o.drews D9);have aR:=hJ (fun o=>D9.alloc (lL aB.o.hc aB.o.d.2.size) o);have aC:=(show AtC (w3.alloc (.cells #[.int .i64 0,.int .i64 0,.int .i64 0,.int .i64 0,.int .i64 0,.int .i64 0,.string ⟨#[]⟩,.bool false,.bool false,.int .i64 0,.slice none 0 0] 42)).drew w3.1.size 42 #[.int .i64 0,.int .i64 0,.int .i64 0,.int .i64 0,.int .i64 0,.int .i64 0,.string ⟨#[]⟩,.bool false,.bool false,.int .i64 0,.slice none 0 0]from AtC.new w3 42 #[.int .i64 0,.int .i64 0,.int .i64 0,.int .i64 0,.int .i64 0,.int .i64 0,.string ⟨#[]⟩,.bool false,.bool false,.int .i64 0,.slice none 0 0]).grown D8.2 (by intro e;have h1:=(lL aB.o.hc aB.o.d.2.size);have h2:=Option.some.inj e;omega);have aG:=hJ (aB.o.put11 D9 (Nat.le_refl w3.1.size) aC);have b0:=aC.cell 0;have g0:=aC.frozen 0;have b1:=aC.cell 1;have g1:=aC.frozen 1;have b2:=aC.cell 2;have g2:=aC.frozen 2;have b3:=aC.cell 3;have g3:=aC.frozen 3;have b4:=aC.cell 4;have g4:=aC.frozen 4;have b5:=aC.cell 5;have g5:=aC.frozen 5;have b6:=aC.cell 6;have g6:=aC.frozen 6;have b7:=aC.cell 7;have g7:=aC.frozen 7;have b8:=aC.cell 8;have g8:=aC.frozen 8;have b9:=aC.cell 9;have g9:=aC.frozen 9;have aY:=aC.cell 10;have bE:=aC.frozen 10;clear aC;obtain⟨pa,pn,pc,dc,-⟩:=aB.o.dcellS x8 aQ.o;obtain⟨d0,aK⟩:∃d,m.ds[x8]'aQ.out=d:=⟨_,rfl⟩;rw[aK]at dc;clear aK D8 D9 aM;obtain⟨id,kd,io,pt,bk,sl,nm,bt,ot,af,bl⟩:=d0;simp only[DCells]at dc;obtain⟨k0,k1,k2,k3,k4,k5,k6,k7,k8,k9,k10⟩:=dc))
   all_goals go_wp2_with fail
   all_goals go_meet
   all_goals first| exact⟨_,bk,sl,rfl,lL aB.o.hw aB.o.d.2.size,aG.o _ _ _ _ _ _ _ _ _ _ _⟩| exact⟨_,bk,sl,rfl,lL aD.o.hw aD.o.d.2.size,aR.o _,aD.o.alloc _,(AtC.new w8 42 _).cell 4,(AtC.new w8 42 _).cell 5⟩
  obtain⟨k,y9,z9,rfl,aV,HR⟩:=hcut;have aZ:w.1.size≠k:=Nat.ne_of_lt aV;clear aV;clear p0 p1 p2 p3 p4 p5 p6 f0 f1 f2 f3 f4 f5 f6 m9;have aF:=hJ HR.o.2.1;obtain⟨p0,p1,p2,p3,p4,p5,p6,f0,f1,f2,f3,f4,f5,f6,m9⟩:=cs7 aF.o.x;obtain⟨q0,q1,q2,q3,q4,q5,q6,r0,r1,r2,r3,r4,r5,r6,-⟩:=cs7 aF.o.z;have y4:=HR.o.2.2.1;have y5:=HR.o.2.2.2;go_upto_region 5 with fail
  go_region
  all_goals go_wp2
  all_goals exact bY (v:=.tuple #[.agg (M7 m a1 c1 a2 c2 a3 c3 a4 c4 a5 c5 (aA g aH) c6),nI y9,nI z9]) (by simp[results,go_sem,q0,q1,q2,q3,q4,q5,q6]) rfl ⟨_,_,_,_,_,_,m,y9,z9,rfl,(aF.o.finD _ _ _ _ _ _ _).1,HG.o.1,HG.o.2,(aF.o.finD _ _ _ _ _ _ _).2⟩
theorem zim(w:Wd)(a:OA)(len cap:Nat)(hcode:za0 w a len)(hlen:len<=1048576):
  Calls Tryz.prog 10 #[.slice a len cap] w fun e w'=>∃p1 p2 p3 p4 p5 p6 m z,e=.returned (.tuple #[.agg #[p1,p2,p3,p4,p5,p6,nI m.nx],nI z])/\(Lit.int .i64 z).wf=true/\DrX w w' p1 p2 p3 p4 p5 p6 m:=by
 obtain⟨W0,aH⟩:∃W0,w.alloc (.cells E7 33)=W0:=⟨_,rfl⟩
 have HO:Hid (za0 W0 a len):=by rw[←aH];exact zc7 hcode ((bF _ w).alloc nR _)
 have aS:w.1.size<W0.1.size:=by rw[←aH];simp
 have aQ:=hJ aH.symm;clear hcode;go_enter Tryz.func10,Tryz.ntmps10
 go_wp2_with fail
 clear aH;refine(zji W0 a len cap HO.o hlen).mono ?_;rintro e w1 ⟨rfl,C1,aD⟩;have aO:Hid (Drew W0 w1 w1 W0.1.size a len cap):=Drew.refl C1;clear C1;go_wp2_with fail
 refine(zj7 W0 w1 W0.1.size a len cap HO.o hlen aO.o.cur aD).mono ?_;rintro e w2 ⟨⟨a1,c1,a2,c2,a3,c3,a4,c4,a5,c5,a6,c6,m,rfl,M2,G2,I2⟩,D2⟩;have HG:=hJ (aI G2 I2);have HZ:=hJ (Dz.start D2 M2 aD oM aQ.o);obtain⟨p0,p1,p2,p3,p4,p5,p6,f0,f1,f2,f3,f4,f5,f6,m9⟩:=cs7 HZ.o.x;clear M2 G2 I2 D2 aO;have aR:Hid (m.6.length<=1048576):=HG.o.1.l;rcases Nat.eq_zero_or_pos m.6.length with h0|hp
 ·have q1:¬(0:Int)<(m.6.length:Int):=oM
  clear h0;go_wp2_with fail
  go_region_held3 (fun w'=>w'.cell? ⟨w2.1.size,0,none⟩=some (.slice a1 m.1.length c1)/\w'.cell? ⟨w2.1.size,1,none⟩=some (.slice a2 m.2.length c2)/\w'.cell? ⟨w2.1.size,2,none⟩=some (.slice a3 m.3.length c3)/\w'.cell? ⟨w2.1.size,3,none⟩=some (.slice a4 m.4.length c4)/\w'.cell? ⟨w2.1.size,4,none⟩=some (.slice a5 m.5.length c5)/\w'.cell? ⟨w2.1.size,5,none⟩=some (.slice a6 m.6.length c6)/\w'.cell? ⟨w2.1.size,6,none⟩=some (.int .i64 m.nx)) (first| (with_reducible exact HZ.o.drew.c7)| (with_reducible exact aB.o.c7)| (with_reducible exact aB.o.c7s _ _ _ _ _ _ _)) (first| (go_at_call 37;refine(zcd W0 _ W0.1.size a len cap 9 HO.o hlen HZ.o.drew.d.cur (by have h1:=HZ.o.hc;have h2:=HZ.o.d.2.size;exact lL h1 h2) dC dC).mono ?_;rintro e w8 ⟨z8,z1,z2,rfl,D8⟩;have aB:=hJ (HZ.o.drew.drews D8);have aF:=hJ (wf_of z1 z2);clear z1 z2 D8;obtain⟨q0,q1,q2,q3,q4,q5,q6,r0,r1,r2,r3,r4,r5,r6,-⟩:=cs7 aB.o.z))
  go_wp2;exact bY (v:=.tuple #[.agg (M7 m a1 c1 a2 c2 a3 c3 a4 c4 a5 c5 a6 c6),nI z8]) (by simp[results,go_sem,q0,q1,q2,q3,q4,q5,q6]) rfl ⟨_,_,_,_,_,_,m,z8,rfl,aF.o,(aB.o.fin _ _ _ _ _ _ _).1,HG.o.1,HG.o.2,(aB.o.fin _ _ _ _ _ _ _).2⟩
 have q1:(0:Int)<(m.6.length:Int):=oM
 have HP:=hJ hp;obtain⟨g,aG,rfl⟩:=HZ.o.dform hp;clear hp;go_wp2_with fail
 refine(zaw W0 _ W0.1.size a len cap 4 HO.o hlen HZ.o.d.cur dC dC).mono ?_;rintro e w3 ⟨y,rfl,D3⟩;have aC:=hJ (HZ.o.drews D3);clear D3 HZ p0 p1 p2 p3 p4 p5 p6 f0 f1 f2 f3 f4 f5 f6 m9;obtain⟨p0,p1,p2,p3,p4,p5,p6,f0,f1,f2,f3,f4,f5,f6,m9⟩:=cs7 aC.o.x
 cases hy:(y==0)with
 | true =>
  clear hy;go_wp2_with fail
  go_region_held3 (fun w'=>w'.cell? ⟨w2.1.size,0,none⟩=some (.slice a1 m.1.length c1)/\w'.cell? ⟨w2.1.size,1,none⟩=some (.slice a2 m.2.length c2)/\w'.cell? ⟨w2.1.size,2,none⟩=some (.slice a3 m.3.length c3)/\w'.cell? ⟨w2.1.size,3,none⟩=some (.slice a4 m.4.length c4)/\w'.cell? ⟨w2.1.size,4,none⟩=some (.slice a5 m.5.length c5)/\w'.cell? ⟨w2.1.size,5,none⟩=some (.slice (some ⟨g,aG,none⟩) m.6.length c6)/\w'.cell? ⟨w2.1.size,6,none⟩=some (.int .i64 m.nx)) (first| (with_reducible exact aC.o.drew.c7)| (with_reducible exact aB.o.c7)| (with_reducible exact aB.o.c7s _ _ _ _ _ _ _)) (first| (go_at_call 37;refine(zcd W0 _ W0.1.size a len cap 9 HO.o hlen aC.o.drew.d.cur (by have h1:=aC.o.hc;have h2:=aC.o.d.2.size;exact lL h1 h2) dC dC).mono ?_;rintro e w8 ⟨z8,z1,z2,rfl,D8⟩;have aB:=hJ (aC.o.drew.drews D8);have aF:=hJ (wf_of z1 z2);clear z1 z2 D8;obtain⟨q0,q1,q2,q3,q4,q5,q6,r0,r1,r2,r3,r4,r5,r6,-⟩:=cs7 aB.o.z))
  go_wp2;exact bY (v:=.tuple #[.agg (M7 m a1 c1 a2 c2 a3 c3 a4 c4 a5 c5 (aA g aG) c6),nI z8]) (by simp[results,go_sem,q0,q1,q2,q3,q4,q5,q6]) rfl ⟨_,_,_,_,_,_,m,z8,rfl,aF.o,(aB.o.fin _ _ _ _ _ _ _).1,HG.o.1,HG.o.2,(aB.o.fin _ _ _ _ _ _ _).2⟩
 | false =>
  clear hy;have i0:=HP.o;go_upto_region 4 with fail
  have aM:=hJ (aC.o.lo HP.o)
  go_region_held3 (fun w'=>(∀i,w'.cell? ⟨g,i,none⟩=w3.cell? ⟨g,i,none⟩)/\w'.cell? ⟨w2.1.size,0,none⟩=some (.slice a1 m.1.length c1)/\w'.cell? ⟨w2.1.size,1,none⟩=some (.slice a2 m.2.length c2)/\w'.cell? ⟨w2.1.size,2,none⟩=some (.slice a3 m.3.length c3)/\w'.cell? ⟨w2.1.size,3,none⟩=some (.slice a4 m.4.length c4)/\w'.cell? ⟨w2.1.size,4,none⟩=some (.slice a5 m.5.length c5)/\w'.cell? ⟨w2.1.size,5,none⟩=some (.slice (some ⟨g,aG,none⟩) m.6.length c6)/\w'.cell? ⟨w2.1.size,6,none⟩=some (.int .i64 m.nx)) (first| (with_reducible exact⟨aC.o.same aL.o aM.o,aB.o.c7⟩)| (with_reducible exact⟨aC.o.sameS aL.o aM.o _ _ _ _ _ _ _,aB.o.c7s _ _ _ _ _ _ _⟩)| exact⟨fun _=>rfl,aC.o.drew.c7⟩) (first| (go_at_call 36;refine(zah W0 _ W0.1.size a len cap m.6.length HO.o hlen aC.o.drew.d.cur HP.o (by have:=aR.o;omega)).mono ?_;rintro e w8 ⟨x8,aP,rfl,D8⟩;have aB:=hJ (aC.o.drew.drews D8);have aL:=hJ ((Drew.refl aC.o.d.cur).drew.trans D8);have aN:Hid (x8<m.6.length):=aP;have j0:(0:Int)<=(x8:Int):=oM;have j1:(x8:Int)<(m.6.length:Int):=oM;clear D8 aP;obtain⟨q0,q1,q2,q3,q4,q5,q6,r0,r1,r2,r3,r4,r5,r6,-⟩:=cs7 aB.o.z;obtain⟨_,_,_,dc,-⟩:=aC.o.dcellS x8 aN.o;obtain⟨z8,aK⟩:∃z,(m.ds[x8]'aN.out).id=z:=⟨_,rfl⟩;have aF:=hJ aK;have kx:=dc.1;rw[aK]at kx;clear dc aK))
  all_goals go_wp2
  all_goals exact bY (v:=.tuple #[.agg (M7 m a1 c1 a2 c2 a3 c3 a4 c4 a5 c5 (aA g aG) c6),nI z8]) (by simp[results,go_sem,q0,q1,q2,q3,q4,q5,q6]) rfl ⟨_,_,_,_,_,_,m,z8,rfl,by rw[←aF.o];exact HG.o.2 _ (gM_ aN.o),(aB.o.fin _ _ _ _ _ _ _).1,HG.o.1,HG.o.2,(aB.o.fin _ _ _ _ _ _ _).2⟩
namespace Dq
theorem big_no(a:OA)(len cap:Nat)(w:Wd)(h:len<=1048576):Calls Tryz.prog 7 #[.slice a len cap] w fun e w'=>e=.returned (.bool false)/\w=w':=by
 have hb:decide ((1048576:Int)<(len:Int))=false:=sO
 go_enter Tryz.func7,Tryz.ntmps7
 go_wp2;go_ret;exact⟨rfl,rfl⟩
theorem big_yes(a:OA)(len cap:Nat)(w:Wd)(h:¬len<=1048576):Calls Tryz.prog 7 #[.slice a len cap] w fun e w'=>e=.returned (.bool true)/\w=w':=by
 have hb:decide ((1048576:Int)<(len:Int))=true:=sO
 go_enter Tryz.func7,Tryz.ntmps7
 go_wp2;go_ret;exact⟨rfl,rfl⟩
structure Lv(b:Nat)(p1 p2 p3 p4 p5 p6:Va)(m:MD)(w:Wd):Prop where
 x:AtC w b 33 #[p1,p2,p3,p4,p5,p6,nI m.nx]
 r:MR w p1 p2 p3 p4 p5 p6 m
theorem Lv.new{w:Wd}{p1 p2 p3 p4 p5 p6:Va}{m:MD}(h:MR w p1 p2 p3 p4 p5 p6 m):Lv w.1.size p1 p2 p3 p4 p5 p6 m (w.n #[p1,p2,p3,p4,p5,p6,nI m.nx] 33):=⟨AtC.new w 33 _,h.alloc _⟩
theorem Lv.below{b:Nat}{p1 p2 p3 p4 p5 p6:Va}{m:MD}{w w':Wd}(h:Lv b p1 p2 p3 p4 p5 p6 m w)(hb:Bw w w'):Lv b p1 p2 p3 p4 p5 p6 m w':=⟨h.x.over hb,h.r.below hb nR⟩
theorem c7{b:Nat}{w:Wd}{p1 p2 p3 p4 p5 p6 p7:Va}(h:AtC w b 33 #[p1,p2,p3,p4,p5,p6,p7]):w.r7 b p1 p2 p3 p4 p5 p6 p7:=⟨h.cell 0,h.cell 1,h.cell 2,h.cell 3,h.cell 4,h.cell 5,h.cell 6⟩
theorem zero_mr(w:Wd):MR w (nZ) (nZ) (nZ) (nZ) (nZ) (nZ) ⟨[],[],[],[],[],[],0⟩ :=
 have f:RFl w (nZ) []:=⟨none,0,rfl,fun _ h=>absurd h (Nat.not_lt_zero _)⟩
 ⟨⟨f,f,⟨none,0,rfl,Nat.le_refl _,fun _ h=>absurd h (Nat.not_lt_zero _)⟩,⟨none,0,rfl,Nat.le_refl _,fun _ h=>absurd h (Nat.not_lt_zero _)⟩⟩,f,⟨none,0,rfl,Nat.le_refl _,fun _ h=>absurd h (Nat.not_lt_zero _)⟩⟩
end Dq
namespace fnDepsAt
open Dq
theorem walk(a:OA)(len cap:Nat)(w:Wd)(hcode:za0 w a len)(_hl:len<=maxLen):
  Calls Tryz.prog 3 #[.slice a len cap] w fun e w'=>e=.returned (.bool true)/\Bw w w':=by
 have HO:=hJ hcode;clear hcode;by_cases hlen:len<=1048576
 rotate_left
 ·go_enter Tryz.func3,Tryz.ntmps3
  go_wp2_with fail
  refine(big_yes a len cap w hlen).mono ?_;rintro e w1 ⟨rfl,rfl⟩;go_wp2;go_ret;exact⟨rfl,bF _ _⟩
 go_enter Tryz.func3,Tryz.ntmps3
 go_wp2_with fail
 refine(big_no a len cap w hlen).mono ?_;rintro e w1 ⟨rfl,rfl⟩;go_wp2_with fail
 refine(zlh w a len cap HO.o hlen).mono ?_;rintro e w1 ⟨u1,u2,u3,u4,u5,u6,m,y,z,rfl,R1,G1,-,B1⟩;obtain⟨a1,c1,a2,c2,a3,c3,a4,c4,a5,c5,a6,c6,rfl,rfl,rfl,rfl,rfl,rfl⟩:=R1.form;have HG:=hJ G1;have HL:=hJ (Lv.new R1);have aV:=hJ (B1.alloc B1.size (.cells (M7 m a1 c1 a2 c2 a3 c3 a4 c4 a5 c5 a6 c6) 33));have cG:=hJ (zc7 HO.o aV.o);clear R1 G1 B1 HO;obtain⟨p0,p1,p2,p3,p4,p5,p6,-,-,-,-,-,-,-,-⟩:=cs7 HL.o.x;go_wp2_with fail
 refine(zgl _ _ _ _ _ _ m y z _ HL.o.r HG.o.l).mono ?_;rintro e w2 ⟨rfl,B2⟩;have cH:=hJ (HL.o.below B2);have bP:=hJ (aV.o.trans (B2.mono aV.o.size));have cF:=hJ (zc7 cG.o B2);clear B2 HL aV cG p0 p1 p2 p3 p4 p5 p6;go_wp2_with fail
 refine(zim w2 a len cap cF.o hlen).mono ?_;rintro e w3 ⟨v1,v2,v3,v4,v5,v6,m',z',rfl,cC,R3,G3,I3,B3⟩;obtain⟨bG,aY,bE,aZ,bH,bN,bK,bX,bO,bJ,bL,bI,rfl,rfl,rfl,rfl,rfl,rfl⟩:=R3.form;have aB:=hJ (aI cC (aI G3 I3));have bS:=B3.alloc B3.size (.cells (M7 m' bG aY bE aZ bH bN bK bX bO bJ bL bI) 33);have HK:=hJ (Lv.new R3);have cD:=hJ (cH.o.below bS);have bU:=hJ (bP.o.trans (bS.mono bP.o.size));clear R3 G3 I3 B3 bS cC cH bP cF;obtain⟨p0,p1,p2,p3,p4,p5,p6,-,-,-,-,-,-,-,-⟩:=cs7 HK.o.x;go_wp2_with fail
 refine(zn8 z' aB.o.1 _ _ _ _ _ _ m' _ HK.o.r aB.o.2.1 (fun j hj=>aB.o.2.2 _ (gM_ hj))).mono ?_;rintro e w4 ⟨t1,t2,t3,t4,t5,t6,rfl,O4,B4⟩;obtain⟨aP,aH,aN,aT,aL,aR,aS,aQ,aG,aK,aM,aO,rfl,rfl,rfl,rfl,rfl,rfl⟩:=O4.mr.form;obtain⟨M,hM⟩:∃M:MD,{ m' with ds:=za4 z' m'.ds }=M:=⟨_,rfl⟩
 have HM:=hJ hM.symm;rw[hM]at O4 ⊢;clear hM;have aW:=hJ (AtC.new w4 33 #[sL aP M.xs aH,sL aN M.ys aT,sL aL M.is aR,sL aS M.bs aQ,sL aG M.fs aK,sL aM M.ds aO,nI m'.nx]);have aX:=B4.alloc B4.size (.cells #[sL aP M.xs aH,sL aN M.ys aT,sL aL M.is aR,sL aS M.bs aQ,sL aG M.fs aK,sL aM M.ds aO,nI m'.nx] 33);have bV:=hJ (O4.mr.alloc (.cells #[sL aP M.xs aH,sL aN M.ys aT,sL aL M.is aR,sL aS M.bs aQ,sL aG M.fs aK,sL aM M.ds aO,nI m'.nx] 33));have bZ:=hJ (cD.o.below aX);have bC:=hJ (HK.o.below aX);have bQ:=hJ (bU.o.trans (aX.mono bU.o.size));clear B4 aX O4 cD HK bU p0 p1 p2 p3 p4 p5 p6;obtain⟨W4,cE⟩:∃W,w4.alloc (.cells #[sL aP M.xs aH,sL aN M.ys aT,sL aL M.is aR,sL aS M.bs aQ,sL aG M.fs aK,sL aM M.ds aO,nI m'.nx] 33)=W:=⟨_,rfl⟩
 rw[cE]at aW bV bZ bC bQ;obtain⟨be,cB⟩:∃b,w4.1.size=b:=⟨_,rfl⟩
 rw[cB]at aW;have cJ:Hid (∀(j:Nat)(h:j<M.ds.length),(M.ds[j].id==z')=false):=fun j h=>by
  have h3:∀d∈M.ds,(d.id==z')=false:=by
   rw[HM.o];intro d hd;simpa using(List.mem_filter.1 hd).2
  exact h3 _ (gM_ h)
 have cL:Hid (BigM 1048576 M):=by
  rw[HM.o];refine⟨aB.o.2.1.d,aB.o.2.1.f,lT (List.length_filter_le _ _) aB.o.2.1.l,fun i hi=>?_,fun i hi=>?_⟩
  ·obtain⟨q,hq,e⟩:=List.getElem_of_mem (List.mem_filter.1 (gM_ hi)).1;show(za4 z' m'.ds)[i].bl.length<=_;have:=aB.o.2.1.b q hq;rw[e]at this;exact this
  obtain⟨q,hq,e⟩:=List.getElem_of_mem (List.mem_filter.1 (gM_ hi)).1;show(za4 z' m'.ds)[i].nm.size<=_;have:=aB.o.2.1.t q hq;rw[e]at this;exact this
 have cK:Hid (M.ds.length<=1048576):=by
  rw[HM.o];exact lT (List.length_filter_le _ _) aB.o.2.1.l
 go_wp2_with fail
 clear cE cB;go_loopw [10] (fun i wr=>∃j:Nat,j<=M.ds.length/\i=.int .i64 j/\Hid (Bw W4 wr)) (fun i _=>M.ds.length-(intOf i).toNat)
 case atStart=>exact⟨0,zL _,rfl,bF _ _⟩
 obtain⟨j,hj,rfl,HB⟩:=hrel;have y:=aW.o.over HB.o;have y5:=y.cell 5;have y4:=y.cell 4;clear y;by_cases hlt:j<M.ds.length
 ·obtain⟨_,_,e,-,hd⟩:=(bV.o.below HB.o nR).p.dep;simp only[vJ,true_and]at e;obtain⟨rfl,rfl⟩:=e;obtain⟨g,cN,pp,rfl,-,dc,-⟩:=hd j hlt;have k0:=dc.1;have e0:=cJ.o j hlt;have j0:(0:Int)<=(j:Int):=oM
  have j1:(j:Int)<(M.ds.length:Int):=oM
  have jd:=cK.o;obtain⟨zz,cA⟩:∃q,M.ds[j].id=q:=⟨_,rfl⟩
  rw[cA]at k0 e0;clear dc hd cA;go_wp2;go_roundw
  case rel=>exact⟨j+1,oM,gK,HB.o⟩
  simp[intOf];omega
 have j1:¬(j:Int)<(M.ds.length:Int):=oM
 clear y4 y5;have cQ:((M.fs.length:Int)==(m'.5.length:Int))=true:=by rw[HM.o];simp
 have cI:Hid (m'.nx=M.nx):=by show _=_;rw[HM.o]
 have HF:Hid (∀W,Bw wr W->Bw W4 W):=fun W b=>HB.o.trans (b.mono HB.o.size);have HS:Hid (∀w',Bw W4 w'->(w'.r0 w1.1.size m a1 c1 a2 c2 a3 c3 a4 c4 a5 c5 a6 c6)/\(w'.r0 w3.1.size m' bG aY bE aZ bH bN bK bX bO bJ bL bI)/\(w'.r7 be (sL aP M.xs aH) (sL aN M.ys aT) (sL aL M.is aR) (sL aS M.bs aQ) (sL aG M.fs aK) (sL aM M.ds aO) (nI m'.nx))):=fun w' b=>⟨c7 (bZ.o.below b).x,c7 (bC.o.below b).x,c7 (aW.o.over b)⟩
 obtain⟨⟨p0,p1,p2,p3,p4,p5,p6⟩,⟨q0,q1,q2,q3,q4,q5,q6⟩,⟨r0,r1,r2,r3,r4,r5,r6⟩⟩:=HS.o _ HB.o;go_upto_region 12 with fail
 go_region_held3 (fun w'=>(w'.cell? ⟨w1.1.size,0,none⟩=some (.slice a1 m.1.length c1)/\w'.cell? ⟨w1.1.size,1,none⟩=some (.slice a2 m.2.length c2)/\w'.cell? ⟨w1.1.size,2,none⟩=some (.slice a3 m.3.length c3)/\w'.cell? ⟨w1.1.size,3,none⟩=some (.slice a4 m.4.length c4)/\w'.cell? ⟨w1.1.size,4,none⟩=some (.slice a5 m.5.length c5)/\w'.cell? ⟨w1.1.size,5,none⟩=some (.slice a6 m.6.length c6)/\w'.cell? ⟨w1.1.size,6,none⟩=some (.int .i64 m.nx))/\(w'.cell? ⟨w3.1.size,0,none⟩=some (.slice bG m'.1.length aY)/\w'.cell? ⟨w3.1.size,1,none⟩=some (.slice bE m'.2.length aZ)/\w'.cell? ⟨w3.1.size,2,none⟩=some (.slice bH m'.3.length bN)/\w'.cell? ⟨w3.1.size,3,none⟩=some (.slice bK m'.4.length bX)/\w'.cell? ⟨w3.1.size,4,none⟩=some (.slice bO m'.5.length bJ)/\w'.cell? ⟨w3.1.size,5,none⟩=some (.slice bL m'.6.length bI)/\w'.cell? ⟨w3.1.size,6,none⟩=some (.int .i64 m'.nx))/\(w'.cell? ⟨be,0,none⟩=some (.slice aP M.xs.length aH)/\w'.cell? ⟨be,1,none⟩=some (.slice aN M.ys.length aT)/\w'.cell? ⟨be,2,none⟩=some (.slice aL M.is.length aR)/\w'.cell? ⟨be,3,none⟩=some (.slice aS M.bs.length aQ)/\w'.cell? ⟨be,4,none⟩=some (.slice aG M.fs.length aK)/\w'.cell? ⟨be,5,none⟩=some (.slice aM M.ds.length aO)/\w'.cell? ⟨be,6,none⟩=some (.int .i64 m'.nx))) (first| exact HS.o _ aU.o|exact HS.o _ aD.o|exact HS.o _ aC.o|exact HS.o _ aF.o|exact HS.o _ (HF.o _ bR.drew)) (first| (go_at_call 12;refine(zli _ _ _ _ _ _ m y z _ (bZ.o.below (HF.o _ bR.drew)).r HG.o.l).mono ?_;rintro e cO ⟨rfl,B⟩;have aF:=hJ (HF.o _ ((bF _ wr).drew.trans B));clear B)| (go_at_call 9;refine(zgl _ _ _ _ _ _ ⟨[],[],[],[],[],[],0⟩ y z _ (zero_mr _) (zL _)).mono ?_;rintro e cR ⟨rfl,B⟩;have aC:=hJ (aF.o.trans (B.mono aF.o.size));clear B)| (go_at_call 14;refine(zct z' _ _ _ _ _ _ m' _ (bC.o.below aC.o).r aB.o.2.1).mono ?_;rintro e cP ⟨s1,s2,s3,s4,s5,s6,rfl,O,B⟩;rw[←HM.o]at O;have bM:=hJ O.mr;have aD:=hJ (aC.o.trans (B.mono aC.o.size));clear B O)| (go_at_call 13;have CS:=zls _ _ _ _ _ _ _ _ _ _ _ _ M _ (bV.o.below aD.o nR) bM.o cL.o;rw[←cI.o]at CS;refine CS.mono ?_;clear CS;rintro e cM ⟨rfl,B⟩;have aU:=hJ (aD.o.trans (B.mono aD.o.size));clear B))
 go_wp2;go_ret;exact⟨rfl,bQ.o.trans (aU.o.mono bQ.o.size)⟩
end fnDepsAt
end Go.Proofs.YtgnplpmgkegcnaaGreat
