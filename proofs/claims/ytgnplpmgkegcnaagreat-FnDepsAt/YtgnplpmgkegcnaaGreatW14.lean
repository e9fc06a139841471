/- Texts. -/
import Derived.Test.YtgnplpmgkegcnaaGreatW10
import Derived.Test.YtgnplpmgkegcnaaGreatW11
import Derived.Test.YtgnplpmgkegcnaaGreatW09
set_option maxRecDepth 100000
set_option maxHeartbeats 12800000
namespace Go.Proofs.YtgnplpmgkegcnaaGreat
open Go.RowKit Kit
variable {Z : ZT}
def PutR(Z:ZT)(lo hi:Nat)(w:Wd)(a r:Va):Prop:=∃(n1:OA)(o1:Nat)(n2:OA)(o2:Nat)(n3:OA)(o3:Nat)(n4:OA)(o4:Nat)(n5:OA)(o5:Nat)(n6:OA)(o6:Nat)(mn:MD)(rr:Int),a=.agg (M7 mn n1 o1 n2 o2 n3 o3 n4 o4 n5 o5 n6 o6)/\r=.int .i64 rr/\N7 w (fun k=>lo<=k/\k<hi) mn n1 o1 n2 o2 n3 o3 n4 o4 n5 o5 n6 o6/\Sh Z mn/\0<=rr/\rr<=99999
theorem PutR.below{Z:ZT}(lo hi:Nat)(w w':Wd)(a r:Va)(h:PutR Z lo hi w a r)(hb:Bw w w'):PutR Z lo hi w' a r:=by
 obtain⟨n1,o1,n2,o2,n3,o3,n4,o4,n5,o5,n6,o6,mn,rr,h1,h2,h3,h4⟩:=h;exact⟨n1,o1,n2,o2,n3,o3,n4,o4,n5,o5,n6,o6,mn,rr,h1,h2,h3.below hb nR,h4⟩
theorem zj5(T:Nat->Prop)(b j t:Nat)(by_:Int)(S:Nat->Prop)(u v iv bv dv pv:Va)(m:MD)(w:Wd)(hP:PM w S b u v iv bv dv pv m)(hST:∀k,S k->T k)(hTb:T b)(hT:∀k,w.1.size<=k->T k)(hm:Sh Z m)(hj:j<m.4.length)(ht:t<m.bs[j].2.1.length)(hio:1<=m.bs[j].2.1[t].2/\m.bs[j].2.1[t].2<=8):
  Calls Tryz.prog 206 #[.pointer (some ⟨b,0,none⟩),.int .i64 ((j:Int)+1),.int .i64 (t:Int),.int .i64 by_] w fun e w'=>e=.returned (.tuple #[])/\BT Z w' T b/\Chg T w w':=by
 replace hP:=hP.bound
 obtain⟨g,c,gs,cs,rfl,r0,r1,q1,q2,-,gS,gl,-⟩:=hP.slotAt j hj t ht;obtain⟨a1,c1,a2,c2,a3,c3,a4,c4,a5,c5,a6,c6,rfl,rfl,rfl,e4,rfl,rfl⟩:=hP.form;clear e4 a4 c4;have hkk:=hm.bb _ (gM_ hj);have hs4:=hkk.m;have hso:=hkk.s _ (gM_ ht);have hj16:j<16:=by rw[←hm.b];exact hj
 obtain⟨nm,hnm⟩:∃nm,m.bs[j].2.1[t].1=nm:=⟨_,rfl⟩
 obtain⟨io,hi⟩:∃io,m.bs[j].2.1[t].2=io:=⟨_,rfl⟩
 rw[hnm]at q1;rw[hi]at q2 hio;have HNM:Hid (nm.size<=6):=by rw[←hnm];exact hso.1
 have HHT:=hJ ht;obtain⟨sl,hsl⟩:∃sl,m.bs[j].2.1.length=sl:=⟨_,rfl⟩
 have HSL:=hJ hsl;rw[hsl]at r1 hs4;have htl:t<sl:=by rw[←hsl];exact ht
 have HSH:Hid (Sh Z { m with bs:=m.bs.set j (m.bs[j].1,m.bs[j].2.1.set t (⟨#[]⟩,0),m.bs[j].2.2) }):=hm.block j ⟨⟨fun e=>by rw[lS];exact hkk.n e,by rw[lS];exact hkk.m,fun s hs=>(mS hs).elim (hkk.s s) (fun e=>e ▸ ⟨zL _,.inl ⟨rfl,rfl⟩⟩),hkk.t⟩,fun e=>by have e0:=hkk.f e;rw[e0]at ht;exact absurd ht (Nat.not_lt_zero t),hkk.e,fun s hs=>(mS hs).elim (hkk.q s) (fun e=>e ▸ .inl ⟨rfl,rfl⟩),hkk.u.set (.inl rfl)⟩;have hwj:IntKind.i64.wrap (j:Int)=(j:Int):=wrap_small _ oM oM;have j0:(0:Int)<=(j:Int):=oM
 have j1:(j:Int)<(m.4.length:Int):=oM
 have t0:(0:Int)<=(t:Int):=oM
 have t1:(t:Int)<(sl:Int):=oM
 have HIO:=hJ hio;have HP:=hJ hP;have HM:=hJ hm;have HTB:Hid (T b/\b<w.1.size):=⟨hTb,hP.box.lt⟩
 have HSS:Hid (∀k,(S k/\k<w.1.size)->T k/\k≠w.1.size):=fun k hk=>⟨hST k hk.1,by have:=hk.2;omega⟩
 have HTT:Hid (∀k,(w.alloc (.cells #[.string nm,.int .i64 io] 90)).1.size<=k->T k/\k≠w.1.size):=fun k hk=>by simp at hk;exact⟨hT k oM,oM⟩
 have HKK:Hid (∀W,Chg (fun k=>T k/\k≠w.1.size) (w.alloc (.cells #[.string nm,.int .i64 io] 90)) W->AtC W w.1.size 90 #[.string nm,.int .i64 io]/\Chg T w W/\w.1.size+1<=W.1.size):=fun W hc=>⟨(hc.block _ sI (fun e=>e.2 rfl)).trans (AtC.new w 90 #[.string nm,.int .i64 io]),(Chg.of_below ((bF _ w).alloc nR _)).trans (hc.mono fun k hk=>hk.1),by have:=hc.size;simp at this;exact this⟩
 have x3:=hP.box.c3;have y0:(w.alloc (.cells #[.string nm,.int .i64 io] 90)).cell? ⟨b,0,none⟩=some (.slice a1 m.1.length c1):=(hP.alloc _).box.cell 0;have y1:(w.alloc (.cells #[.string nm,.int .i64 io] 90)).cell? ⟨b,1,none⟩=some (.slice a2 m.2.length c2):=(hP.alloc _).box.cell 1;have y2:(w.alloc (.cells #[.string nm,.int .i64 io] 90)).cell? ⟨b,2,none⟩=some (.slice a3 m.3.length c3):=(hP.alloc _).box.cell 2;have y3:(w.alloc (.cells #[.string nm,.int .i64 io] 90)).cell? ⟨b,3,none⟩=some (.slice (some ⟨g,0,none⟩) m.4.length c):=(hP.alloc _).box.cell 3;have y4:(w.alloc (.cells #[.string nm,.int .i64 io] 90)).cell? ⟨b,4,none⟩=some (.slice a5 m.5.length c5):=(hP.alloc _).box.cell 4;have y5:(w.alloc (.cells #[.string nm,.int .i64 io] 90)).cell? ⟨b,5,none⟩=some (.slice a6 m.6.length c6):=(hP.alloc _).box.cell 5;have y6:(w.alloc (.cells #[.string nm,.int .i64 io] 90)).cell? ⟨b,6,none⟩=some (.int .i64 m.nx):=(hP.alloc _).box.cell 6;clear hP hm hio hkk hso hnm hi hsl hST hTb hT gS ht;go_enter Tryz.func206,Tryz.ntmps206
 go_wp2_with fail
 generalize hw1:(w.alloc (.cells #[.string nm,.int .i64 io] 90))=W1 at*;have HP1:Hid (P7 W1 (fun k=>S k/\k<w.1.size) b m a1 c1 a2 c2 a3 c3 (some ⟨g,0,none⟩) c a5 c5 a6 c6):=by rw[←hw1];exact HP.o.alloc _
 have HLW:Hid (w.1.size<W1.1.size):=by rw[←hw1];show _<_;simp
 clear hw1 HP r0 r1 q1 q2 x3;refine(zfm ((j:Int)+1) t _ _ _ _ _ _ m W1 HP1.o.mr (lT HM.o.l dC)).mono ?_;rintro e w2 ⟨⟨id,rfl⟩,B2⟩;have HP2:Hid (P7 w2 (fun k=>S k/\k<w.1.size) b m a1 c1 a2 c2 a3 c3 (some ⟨g,0,none⟩) c a5 c5 a6 c6):=HP1.o.below B2;have HC2:Hid (Chg (fun k=>T k/\k≠w.1.size) W1 w2):=Chg.of_below B2;clear B2 y0 y1 y2 y3 y4 y5 y6 HP1;go_wp2_with fail
 refine(kind_any _ b id _ _ _ _ _ _ m w2 HP2.o (lT HM.o.l dC)).mono ?_;rintro e w2' ⟨⟨kd,rfl⟩,hw2⟩;rw[hw2];clear hw2 w2';obtain⟨g',c',gs',cs',e5,r0,r1,q1,q2,fz,gS,gl',hput⟩:=HP2.o.slotAt j hj t HHT.o;simp only[vJ,oJ,aJ,true_and,and_true]at e5;obtain⟨rfl,rfl⟩:=e5;rw[HSL.o]at r1;obtain⟨rv1,q1⟩:∃rv,w2.cell? ⟨gs',t*2,none⟩=some rv:=⟨_,q1⟩
 obtain⟨rv2,q2⟩:∃rv,w2.cell? ⟨gs',t*2+1,none⟩=some rv:=⟨_,q2⟩
 have hst:=hput ⟨#[]⟩ 0;have HB3:Hid (BT Z ((w2.setCell ⟨gs',t*2,none⟩ (.string ⟨#[]⟩)).setCell ⟨gs',t*2+1,none⟩ (.int .i64 0)) (fun k=>T k/\k≠w.1.size) b/\Chg (fun k=>T k/\k≠w.1.size) W1 ((w2.setCell ⟨gs',t*2,none⟩ (.string ⟨#[]⟩)).setCell ⟨gs',t*2+1,none⟩ (.int .i64 0))):=by
  have sg:=HSS.o gs' gS;exact⟨⟨_,_,_,_,_,_,_,_,hst,HSS.o,⟨HTB.o.1,by have:=HTB.o.2;omega⟩,HSH.o⟩,(HC2.o.setCell sg _).setCell sg _⟩
 have f1:=fz (t*2);have f2:=fz (t*2+1);have z3:=HP2.o.box.c3;obtain⟨U,hU⟩:∃U,uoB ((j:Int)+1)=U:=⟨_,rfl⟩
 have CU:Hid (∀W,Calls Tryz.prog 203 #[.int .i64 ((j:Int)+1)] W fun e w'=>e=.returned (.int .i64 U)/\w'=W):=fun W=>by rw[←hU];exact zbl _ W
 clear hU fz hput hst HP2 HC2 HSH;go_wp2_with fail
 generalize ((w2.setCell ⟨gs',t*2,none⟩ (.string ⟨#[]⟩)).setCell ⟨gs',t*2+1,none⟩ (.int .i64 0))=W3 at*;clear r0 r1 q1 q2 f1 f2 z3;refine(CU.out _).mono ?_;rintro e w3' ⟨rfl,hw3⟩;rw[hw3];clear hw3 w3';go_wp2_with fail
 refine(zdx _ b U W3 HB3.o.1).mono ?_;rintro e w4 ⟨rfl,b4,c4⟩;have HB4:Hid (BT Z w4 (fun k=>T k/\k≠w.1.size) b/\Chg (fun k=>T k/\k≠w.1.size) W1 w4):=⟨b4,HB3.o.2.trans c4⟩
 have HT4:Hid (∀k,w4.1.size<=k->T k/\k≠w.1.size):=fun k hk=>HTT.o k (by have:=HB4.o.2.size;omega);clear b4 c4 HB3 CU;go_upto_region 5 with fail
 go_cut [57]from 13 to 57 (fun c wx=>(∃r,c=.bool r)/\w4=wx)
 case first =>
  by_cases h2:kd=2
  ·subst h2;go_wp2_with fail
   go_meet
   exact⟨⟨_,rfl⟩,rfl⟩
  ·have h2b:(kd==2)=false:=by simp[h2]
   exact cQ63
 case rest =>
  obtain⟨⟨r,rfl⟩,rfl⟩:=hcut
  cases r
  case true =>
   go_wp2_with fail
   refine(zla _ b id by_ w4 HB4.o.1 HT4.o).mono ?_;rintro e w5 ⟨rfl,b5,c5⟩;have HB5:Hid (BT Z w5 (fun k=>T k/\k≠w.1.size) b/\Chg (fun k=>T k/\k≠w.1.size) W1 w5):=⟨b5,HB4.o.2.trans c5⟩
   have HT5:Hid (∀k,w5.1.size<=k->T k/\k≠w.1.size):=fun k hk=>HTT.o k (by have:=HB5.o.2.size;omega);have k1:=(HKK.o w5 HB5.o.2).1.c1;clear b5 c5 HB4 HT4;go_wp2_with fail
   refine(zg4 _ b io w5 HB5.o.1 HT5.o HIO.o.1 HIO.o.2).mono ?_;rintro e w6 ⟨rfl,b6,c6⟩;have HF:Hid (BT Z w6 T b/\Chg T w w6):=⟨b6.mono fun k hk=>hk.1,(HKK.o w6 (HB5.o.2.trans c6)).2.1⟩
   clear b6 c6 HB5 HT5;go_wp2;exact bY (results_none rfl _ _ _) rfl ⟨rfl,HF.o⟩
  case false =>
   obtain⟨S4,pu,pv,pi,pb,pd,pp,mp,hP4,hS4,hTb4,hmp⟩:=HB4.o.1;obtain⟨p1,r1,p2,r2,p3,r3,p4,r4,p5,r5,p6,r6,rfl,rfl,rfl,rfl,rfl,rfl⟩:=hP4.form;obtain⟨y0,y1,y2,y3,y4,y5,y6⟩:=AtC.sev hP4.box;have HK4:=hJ (HKK.o w4 HB4.o.2).1;obtain⟨k0,k1⟩:=HK4.o.k2;have AA:=HK4.o.over ((bF _ w4).alloc nR (.cells E7 33));obtain⟨ka0,ka1⟩:=AA.k2;obtain⟨ya0,ya1,ya2,ya3,ya4,ya5,ya6⟩:=(hP4.alloc (.cells E7 33)).box.k7;clear AA;have HP4:=hJ hP4;have HMP:=hJ hmp;have HDO:Hid (DOkN ⟨mp.nx,4,io,0,(j:Int)+1,(t:Int),nm,false,false,by_,[]⟩):=⟨HIO.o,sI,⟨by show(0:Int)<=(j:Int)+1;omega,by show(j:Int)+1<=16;omega⟩,⟨by show(0:Int)<=(t:Int);omega,by show(t:Int)<=3;omega⟩,fun p hp=>by simp at hp,sI,HNM.o⟩
   clear hP4 hS4 hTb4 hmp;go_upto_region 8 with fail
   go_cut [11]from 66 to 80 (fun c wx=>∃(bn:Nat)(u' v' i' b' d' p':Va)(mn:MD),c=.pointer (some ⟨bn,0,none⟩)/\AtC wx bn 33 #[u',v',i',b',d',p',.int .i64 mn.nx]/\MO wx (fun k=>w4.1.size<=k) u' v' i' b' d' p' mn/\Sh Z mn/\Bw w4 wx)
   case first =>
    refine zbv kL [0,1,2,3,4,5,6,7,8,9,10,11,12,13,14,15] [16,17] [([0,1,2,3,4,5,6,7,8,9,10,11,12,13,15],[[14,16,17],[16,14,17]])] (fun i=>match i with|0=>.const [] (.pointer (some ⟨b,0,none⟩))|1=>.const [0] (.pointer (some ⟨b,0,none⟩))|2=>.const [1] (.agg (M7 mp p1 r1 p2 r2 p3 r3 p4 r4 p5 r5 p6 r6))|3=>.const [] (.pointer (some ⟨w.1.size,1,none⟩))|4=>.const [3] (.int .i64 io)|5=>.const [] (.int .i64 ((j:Int)+1))|6=>.const [] (.int .i64 (t:Int))|7=>.const [] (.pointer (some ⟨w.1.size,0,none⟩))|8=>.const [7] (.string nm)|9=>.const [] (.int .i64 by_)|10=>.const [4,5,6,8,9] (.agg (K7 0 4 io 0 ((j:Int)+1) (t:Int) nm false false by_ none 0 0))|11=>MkT2 [2,10] (PutR Z) PutR.below|12=>MkMv 11|13=>MkFs 12|14=>MkSd 12|15=>MkW 33 E7|_=>.triv) (fun x=>⟨List.toArray ((.pointer (some ⟨b,0,none⟩))::(.int .i64 (↑j+1))::(.int .i64 ↑t)::(.int .i64 by_)::undef::undef::undef::undef::(.pointer (some ⟨w.1.size,0,none⟩))::(.int .i64 id)::(.int .i64 kd)::(x 15)::undef::u13::u14::u15::u16::u17::u18::u19::u20::u21::u22::u23::u24::u25::u26::u27::u28::u29::u30::u31::u32::u33::u34::u35::u36::u37::u38::u39::u40::u41::u42::u43::u44::u45::u46::u47::u48::u49::u50::u51::u52::u53::u54::u55::u56::(.bool false)::undef::undef::undef::undef::undef::undef::undef::undef::(x 12)::(x 0)::(x 1)::(x 2)::(x 3)::(x 4)::(x 5)::(x 6)::(x 7)::(x 8)::(x 9)::(x 10)::(x 11)::(x 13)::(x 14)::undef::undef::undef::[]),[]⟩) (fun i=>match i with|0=>undef|1=>undef|2=>undef|3=>undef|4=>undef|5=>undef|6=>undef|7=>undef|8=>undef|9=>undef|10=>undef|11=>undef|12=>undef|13=>undef|14=>undef|15=>undef|_=>undef) rfl (zbr kL kL) kL kL kL rfl ?_ ?_ ?_
    ·intro jo hj so x iw W hd hp K hK;simp only[mN,nN,or_false]at hj;rcases hj with rfl|rfl|rfl|rfl|rfl|rfl|rfl|rfl|rfl|rfl|rfl|rfl|rfl|rfl|rfl|rfl<;>refine wpOp_step (o:=_) rfl fun K' hK'=>?_<;>have HK:=hJ (fun(v:Va) (W':Wd) h1 h2=>hK' _ _ (hK v W' h1 h2))<;>simp only[upd,Nat.reduceEqDiff,if_true,if_false]at HK
     ·exact cQ6
     ·exact cQ49
     ·have e1:x 1=.pointer (some ⟨b,0,none⟩):=hp.post 1 (hd 1 mz0);have bw:=zac hp.bel;have k0:=HP4.o.box.over bw;obtain⟨q0,q1,q2,q3,q4,q5,q6⟩:=AtC.sev k0;clear k0 bw;simp only[e1]at HK ⊢;go_simp;exact HK.o _ _ bR rfl
     ·exact cQ6
     ·have e3:x 3=.pointer (some ⟨w.1.size,1,none⟩):=hp.post 3 (hd 3 mz0);have bw:=zac hp.bel;have q0:=(HK4.o.over bw).c1;clear bw;simp only[e3]at HK ⊢;go_simp;exact HK.o _ _ bR rfl
     ·exact cQ6
     ·exact cQ6
     ·exact cQ6
     ·have e7:x 7=.pointer (some ⟨w.1.size,0,none⟩):=hp.post 7 (hd 7 mz0);have bw:=zac hp.bel;have q0:=(HK4.o.over bw).c0;clear bw;simp only[e7]at HK ⊢;go_simp;exact HK.o _ _ bR rfl
     ·exact cQ6
     ·have e4:x 4=.int .i64 io:=hp.post 4 (hd 4 mz0);have e5:x 5=.int .i64 ((j:Int)+1):=hp.post 5 (hd 5 mz1);have e6:x 6=.int .i64 (t:Int):=hp.post 6 (hd 6 mz2);have e8:x 8=.string nm:=hp.post 8 (hd 8 mz3);have e9:x 9=.int .i64 by_:=hp.post 9 (hd 9 mz4);simp only[e4,e5,e6,e8,e9]at HK ⊢;go_simp;exact HK.o _ _ bR rfl
     ·have e2:x 2=.agg (M7 mp p1 r1 p2 r2 p3 r3 p4 r4 p5 r5 p6 r6):=hp.post 2 (hd 2 mz0);have e10:x 10=.agg (K7 0 4 io 0 ((j:Int)+1) (t:Int) nm false false by_ none 0 0):=hp.post 10 (hd 10 mz1);have HM4:Hid (R7 W mp p1 r1 p2 r2 p3 r3 p4 r4 p5 r5 p6 r6):=(HP4.o.below (zac hp.bel)).mr;simp only[e2,e10]at HK ⊢;clear e2 e10;go_simp;refine(zfc 0 4 io 0 ((j:Int)+1) t nm false false by_ [] _ _ _ _ _ _ _ mp W HM4.o HMP.o ⟨none,0,rfl,fun j hj=>by simp at hj⟩ HDO.o (fun e=>absurd e dC)).mono ?_;rintro e wn ⟨u1,u2,u3,u4,u5,u6,mn,rr,rfl,On,hSn,hr0,hr9,Bn⟩;obtain⟨n1,o1,n2,o2,n3,o3,n4,o4,n5,o5,n6,o6,rfl,rfl,rfl,rfl,rfl,rfl⟩:=On.mr.form;go_simp;exact HK.o _ _ Bn ⟨_,_,rfl,_,_,_,_,_,_,_,_,_,_,_,_,mn,rr,rfl,rfl,On.bound,hSn,hr0,hr9⟩
     ·have e11:∃a r,x 11=.tuple #[a,r]/\PutR Z (iw 11).1 (iw 11).2 W a r:=hp.post 11 (hd 11 mz0);obtain⟨a,r,e11,-⟩:=e11;have ea:=hJ e11;simp only[e11]at HK ⊢;clear e11;go_simp;exact HK.o _ _ bR ⟨ea.out,a,r,rfl⟩
     ·have e12:x 11=x 12/\∃a r,x 12=.tuple #[a,r]:=hp.post 12 (hd 12 mz0);obtain⟨-,a,r,e12⟩:=e12;have ea:Hid (a=fstOf (x 12)):=by rw[e12];rfl
      simp only[e12]at HK ⊢;clear e12;go_simp;exact HK.o _ _ bR ea.out
     ·have e12:x 11=x 12/\∃a r,x 12=.tuple #[a,r]:=hp.post 12 (hd 12 mz0);obtain⟨-,a,r,e12⟩:=e12;have ea:Hid (r=sndOf (x 12)):=by rw[e12];rfl
      simp only[e12]at HK ⊢;clear e12;go_simp;exact HK.o _ _ bR ea.out
     ·exact cQ73
    ·intro x iw W hp;obtain⟨a,r,e11,R11⟩:=hp.post 11 dC;obtain⟨e12,-⟩:=hp.post 12 dC;have e13:x 13=fstOf (x 12):=hp.post 13 dC;have e14:x 14=sndOf (x 12):=hp.post 14 dC;obtain⟨e15,z15,A15⟩:=hp.post 15 dC;have l15:=hp.lo 15 dC;have lc:=hp.lo 11 dC;have bel:=zac hp.bel;have ap:=hp.apart 11 dC 15 dC dC;rw[←e12,e11]at e13;rw[←e12,e11]at e14
     replace e14:x 14=r:=e14
     rw[e11]at e12
     replace e12:=e12.symm
     replace e13:x 13=a:=e13
     obtain⟨y0,y1,y2,y3,y4,y5,y6⟩:=A15.k7;obtain⟨f0,f1,f2,f3,f4,f5,f6⟩:=A15.f7;obtain⟨n1,o1,n2,o2,n3,o3,n4,o4,n5,o5,n6,o6,mn,rr,rfl,rfl,On,hSn,-,-⟩:=R11;have HFI:Hid (AtC W (iw 15).1 33 E7/\N7 W (fun k=>(iw 11).1<=k/\k<(iw 11).2) mn n1 o1 n2 o2 n3 o3 n4 o4 n5 o5 n6 o6/\Sh Z mn/\Bw w4 W/\((iw 11).2<=(iw 15).1\/(iw 15).1<(iw 11).1)/\w4.1.size<=(iw 11).1/\w4.1.size<=(iw 15).1):=⟨A15,On,hSn,bel,oM,by have:=lc.1;exact this,by have:=l15.1;exact this⟩
     clear hp A15 On hSn bel ap lc l15 z15;simp only[e12,e13,e15,e14]at*;generalize (iw 15).1=bn at*;generalize (iw 11).1=lo at*;generalize (iw 11).2=hi at*;go_wp2_with fail
     exact cQ27
    ·intro qa hqa l hl x iw W hp;simp only[mN,nN,or_false]at hqa;subst hqa;simp only[mN,nN,or_false]at hl;obtain⟨a,r,e11,R11⟩:=hp.post 11 dC;obtain⟨e12,-⟩:=hp.post 12 dC;have e13:x 13=fstOf (x 12):=hp.post 13 dC;obtain⟨e15,z15,A15⟩:=hp.post 15 dC;have l15:=hp.lo 15 dC;have lc:=hp.lo 11 dC;have bel:=zac hp.bel;have ap:=hp.apart 11 dC 15 dC dC;rw[←e12,e11]at e13;rw[e11]at e12
     replace e12:=e12.symm
     replace e13:x 13=a:=e13
     obtain⟨y0,y1,y2,y3,y4,y5,y6⟩:=A15.k7;obtain⟨f0,f1,f2,f3,f4,f5,f6⟩:=A15.f7;obtain⟨n1,o1,n2,o2,n3,o3,n4,o4,n5,o5,n6,o6,mn,rr,rfl,rfl,On,hSn,-,-⟩:=R11;have HFI:Hid (AtC W (iw 15).1 33 E7/\N7 W (fun k=>(iw 11).1<=k/\k<(iw 11).2) mn n1 o1 n2 o2 n3 o3 n4 o4 n5 o5 n6 o6/\Sh Z mn/\Bw w4 W/\((iw 11).2<=(iw 15).1\/(iw 15).1<(iw 11).1)/\w4.1.size<=(iw 11).1/\w4.1.size<=(iw 15).1):=⟨A15,On,hSn,bel,oM,by have:=lc.1;exact this,by have:=l15.1;exact this⟩
     clear hp A15 On hSn bel ap lc l15 z15;simp only[e12,e13,e15]at*;generalize (iw 15).1=bn at*;generalize (iw 11).1=lo at*;generalize (iw 11).2=hi at*;rcases hl with rfl|rfl
     ·go_wp2_with fail
      exact cQ27
     ·go_wp2_with fail
      exact cQ27
   case rest =>
    obtain⟨bn,u1,u2,u3,u4,u5,u6,mn,rfl,An,On,hSn,Bn⟩:=hcut;obtain⟨n1,o1,n2,o2,n3,o3,n4,o4,n5,o5,n6,o6,rfl,rfl,rfl,rfl,rfl,rfl⟩:=On.mr.form;have A2:=HP4.o.box.over Bn;obtain⟨r0,r1,r2,r3,r4,r5,r6⟩:=A2.k7;obtain⟨v0,v1,v2,v3,v4,v5,v6⟩:=A2.f7;obtain⟨s0,s1,s2,s3,s4,s5,s6⟩:=AtC.sev An;have hF:=zh4 (w:=w4) (T:=(fun k=>T k/\k≠w.1.size)) A2 On (Chg.of_below Bn) hSn ⟨HTB.o.1,by have:=HTB.o.2;omega⟩ HP4.o.box.lt HT4.o;have HF:Hid (BT Z (wc.s0 b mn n1 o1 n2 o2 n3 o3 n4 o4 n5 o5 n6 o6) T b/\Chg T w (wc.s0 b mn n1 o1 n2 o2 n3 o3 n4 o4 n5 o5 n6 o6)):=⟨hF.1.mono fun k hk=>hk.1,(HKK.o _ (HB4.o.2.trans hF.2)).2.1⟩
    clear A2 On hSn Bn An hF y0 y1 y2 y3 y4 y5 y6 ya0 ya1 ya2 ya3 ya4 ya5 ya6 ka0 ka1 k0 k1 HK4 HB4 HT4 HP4 HMP HDO;go_wp2
    go_end0
    exact⟨rfl,HF.o⟩
namespace Kit
structure Dy(w w':Wd)(A:Array Va)(b:Nat)(u v iv bv:Va)(xs ys:List Bool)(is:List Ino)(bs:List Blk):Prop where
 arg:AtC w' w.1.size 46 A
 res:AtC w' (w.1.size+1) 30 noD
 box:AtC w' b 30 #[u,v,iv,bv]
 dsk:DO w' (fun k=>w.1.size+1<k/\k≠b) u v iv bv xs ys is bs
 bel:Bw w w'
 hb:w.1.size+1<b
namespace Dy
variable {w w' w1 : World} {A : Array Value} {b : Nat} {u v iv bv : Value} {xs ys : List Bool} {is : List Ino} {bs : List Blk}
theorem below(h:Dy w w' A b u v iv bv xs ys is bs)(hb:Below w'.1.size w' w1):Dy w w1 A b u v iv bv xs ys is bs :=
 ⟨h.arg.over hb,h.res.over hb,h.box.over hb,h.dsk.below hb nR,h.bel.trans (hb.mono h.bel.size),h.hb⟩
theorem drew(h:Dy w w' A b u v iv bv xs ys is bs):Dy w w'.drew A b u v iv bv xs ys is bs:=h.below bR.drew
theorem alloc(h:Dy w w' A b u v iv bv xs ys is bs)(o:Obj):Dy w (w'.alloc o) A b u v iv bv xs ys is bs:=h.below (bR.alloc nR o)
theorem other(h:Dy w w' A b u v iv bv xs ys is bs){B j:Nat}(hB:w.1.size+1<B)(hb:B≠b)(hn:∀k,k=B->¬(w.1.size+1<k/\k≠b/\k<w1.1.size))(x:Value)(hw:Below w1.1.size w1 w')(h1:Dy w w1 A b u v iv bv xs ys is bs):Dy w (w'.setCell ⟨B,j,none⟩ x) A b u v iv bv xs ys is bs:=by
 exact cQ40
theorem appI(h:Dy w w' A b u v iv bv xs ys is bs):∃ti,TOwns w' 59 iv ti/\ti.length=is.length/\∀(w1 w2:World)(aB:Value)(t':V3)(x':Ino),Below w'.1.size w' w1->KI.O w1 t' x'->(∀k,t'.2.2.ownBlock=some k->w'.1.size<=k) ->
  TOwns w2 59 aB (ti++[t'])->w1.grownBy w2 iv.ownBlock->(∀k,aB.ownBlock=some k->iv.ownBlock=some k\/w1.1.size<=k) ->
  AtC w2 b 30 #[u,v,iv,bv]/\Dy w (w2.setCell ⟨b,2,none⟩ aB) A b u v aB bv xs ys (is++[x']) bs:=by
 obtain⟨ti,h1,h2,h3⟩:=h.dsk.appI;refine⟨ti,h1,h2,fun w1 w2 aB t' x' hb hO hn hr hg hv=>?_⟩;have aC:=fun k (hk:iv.ownBlock=some k)=>h.dsk.soI k (.inl hk);have aH:=h.box.lt;have aF:=h.bel.size;have aD:=hb.size;have aG:=h.res.lt;have aL:=h.arg.lt;have e0:AtC w2 w.1.size 46 A:=(hg.block _ oM (fun e=>by have:=aC _ e.symm;omega)).trans (h.arg.over hb);have e1:AtC w2 (w.1.size+1) 30 noD:=(hg.block _ oM (fun e=>by have:=aC _ e.symm;omega)).trans (h.res.over hb);have e2:AtC w2 b 30 #[u,v,iv,bv]:=(hg.block _ oM (fun e=>by have:=aC _ e.symm;omega)).trans (h.box.over hb);have d:=h3 w1 w2 aB t' x' hb hO hn hr hg hv;have b2:=(h.bel.trans (hb.mono aF)).grown hg oM (fun k hk=>by have:=aC k hk;omega);have aK:=h.hb;refine⟨e2,⟨e0.other oM _,e1.other oM _,e2.set 2 aB,?_,b2.setCell oD _,h.hb⟩⟩;have d2:=d.mono (S':=fun k=>w.1.size+1<k/\k≠b) fun k hk=>hk.elim id (fun e=>⟨by omega,by omega⟩);exact d2.of_heap fun k hk _=>heap_setCell_other w2 ⟨b,2,none⟩ k aB (by show k≠b;omega)
theorem appB(h:Dy w w' A b u v iv bv xs ys is bs):∃tb,TOwns w' 95 bv tb/\tb.length=bs.length/\∀(w1 w2:World)(bv':Value)(t':V3)(x':Blk),Below w'.1.size w' w1->KB.O w1 t' x'->(∀k,t'.2.1.ownBlock=some k->w'.1.size<=k) ->
  TOwns w2 95 bv' (tb++[t'])->w1.grownBy w2 bv.ownBlock->(∀k,bv'.ownBlock=some k->bv.ownBlock=some k\/w1.1.size<=k) ->
  AtC w2 b 30 #[u,v,iv,bv]/\Dy w (w2.setCell ⟨b,3,none⟩ bv') A b u v iv bv' xs ys is (bs++[x']):=by
 obtain⟨ti,h1,h2,h3⟩:=h.dsk.appB;refine⟨ti,h1,h2,fun w1 w2 aC t' x' hb hO hn hr hg hv=>?_⟩;have aB:=fun k (hk:bv.ownBlock=some k)=>h.dsk.soI k (.inr hk);have aH:=h.box.lt;have aF:=h.bel.size;have aD:=hb.size;have aG:=h.res.lt;have aL:=h.arg.lt;have e0:AtC w2 w.1.size 46 A:=(hg.block _ oM (fun e=>by have:=aB _ e.symm;omega)).trans (h.arg.over hb);have e1:AtC w2 (w.1.size+1) 30 noD:=(hg.block _ oM (fun e=>by have:=aB _ e.symm;omega)).trans (h.res.over hb);have e2:AtC w2 b 30 #[u,v,iv,bv]:=(hg.block _ oM (fun e=>by have:=aB _ e.symm;omega)).trans (h.box.over hb);have d:=h3 w1 w2 aC t' x' hb hO hn hr hg hv;have b2:=(h.bel.trans (hb.mono aF)).grown hg oM (fun k hk=>by have:=aB k hk;omega);have aK:=h.hb;refine⟨e2,⟨e0.other oM _,e1.other oM _,e2.set 3 aC,?_,b2.setCell oD _,h.hb⟩⟩;have d2:=d.mono (S':=fun k=>w.1.size+1<k/\k≠b) fun k hk=>hk.elim id (fun e=>⟨by omega,by omega⟩);exact d2.of_heap fun k hk _=>heap_setCell_other w2 ⟨b,3,none⟩ k aC (by show k≠b;omega)
end Dy
structure Dy0(w w':World)(A:Array Value)(b c:Nat)(u v:Value)(xs ys:List Bool):Prop where
 arg:AtC w' w.1.size 46 A
 res:AtC w' (w.1.size+1) 30 noD
 box:AtC w' b 30 noD
 var:AtC w' c 26 #[u,v]
 two:Two w' (w.1.size+2) u v xs ys
 nb:∀k,(u.ownBlock=some k\/v.ownBlock=some k)->k≠b/\k≠c
 bel:Below w.1.size w w'
 hb:w.1.size+1<b
 hc:b<c
namespace Dy0
variable {w w' w1 : World} {A : Array Value} {b c : Nat} {u v : Value} {xs ys : List Bool}
theorem below(h:Dy0 w w' A b c u v xs ys)(hb:Below w'.1.size w' w1):Dy0 w w1 A b c u v xs ys :=
 ⟨h.arg.over hb,h.res.over hb,h.box.over hb,h.var.over hb,h.two.below hb nR,h.nb,h.bel.trans (hb.mono h.bel.size),h.hb,h.hc⟩
theorem anew(h:Dy0 w w' A b c u v xs ys)(hb:Below w'.1.size w' w1){u' v':Value}{xs' ys':List Bool}(hT:Two w1 w'.1.size u' v' xs' ys'):Dy0 w ((w1.setCell ⟨c,0,none⟩ u').setCell ⟨c,1,none⟩ v') A b c u' v' xs' ys':=by
 have h1:=h.hb;have h2:=h.hc;have l1:=h.var.lt;have l2:=hb.size;have own:∀k,(u'.ownBlock=some k\/v'.ownBlock=some k)->w'.1.size<=k:=fun k hk=>hk.elim (fun e=>(hT.a.lt k e).1) (fun e=>(hT.b.lt k e).1);refine⟨((h.arg.over hb).other oM _).other oM _,((h.res.over hb).other oM _).other oM _,((h.box.over hb).other oM _).other oM _,((h.var.over hb).set 0 u').set 1 v',?_,fun k hk=>by have:=own k hk;omega,(((h.bel.trans (hb.mono h.bel.size)).setCell (by show w.1.size<=c;omega) _).setCell (by show w.1.size<=c;omega) _),h.hb,h.hc⟩;exact((hT.set_other oM _).set_other oM _).base_le oM
theorem store(h:Dy0 w w' A b c u v xs ys):Dy w ((w'.setCell ⟨b,0,none⟩ u).setCell ⟨b,1,none⟩ v) A b u v (.slice none 0 0) (.slice none 0 0) xs ys [] []:=by
 have h1:=h.hb;have T2:Two ((w'.setCell ⟨b,0,none⟩ u).setCell ⟨b,1,none⟩ v) (w.1.size+2) u v xs ys:=by
  have hn:∀k,(u.ownBlock=some k\/v.ownBlock=some k)->((w'.setCell ⟨b,0,none⟩ u).setCell ⟨b,1,none⟩ v).heap[k]?=w'.1[k]?:=fun k hk=>(heap_setCell_other _ ⟨b,1,none⟩ k v (by show k≠b;exact(h.nb k hk).1)).trans (heap_setCell_other _ ⟨b,0,none⟩ k u (by show k≠b;exact(h.nb k hk).1));exact⟨h.two.a.of_heap fun k hk=>hn k (.inl hk),h.two.b.of_heap fun k hk=>hn k (.inr hk),h.two.ne⟩
 refine⟨(h.arg.other oM _).other oM _,(h.res.other oM _).other oM _,(h.box.set 0 u).set 1 v,?_,(h.bel.setCell oD _).setCell oD _,h1⟩;exact⟨fun k=>u.ownBlock=some k\/v.ownBlock=some k,fun _=>False,fun _=>False,[],[],T2.base_le (Nat.zero_le _),fun k hk=>hk,⟨rfl,TOwns.nil _ _,fun j hj=>by simp at hj,fun i j hi=>by simp at hi,fun j hj=>by simp at hj,(fun k e=>by cases e),fun j hj=>by simp at hj⟩,⟨rfl,TOwns.nil _ _,fun j hj=>by simp at hj,fun i j hi=>by simp at hi,fun j hj=>by simp at hj,(fun k e=>by cases e),fun j hj=>by simp at hj⟩,fun k hk=>⟨id,id⟩,fun k hk=>hk.elim,fun k hk=>hk.elim (fun hk=>⟨by have:=hk.elim (fun e=>(h.two.a.lt k e).1) (fun e=>(h.two.b.lt k e).1);omega,(h.nb k hk).1⟩) (fun e=>e.elim (fun e=>e.elim) (fun e=>e.elim))⟩
theorem setX(h:Dy0 w w' A b c u v xs ys)(j:Nat)(hj:j<xs.length):∃g cap,u=.slice (some ⟨g,0,none⟩) xs.length cap/\g<w'.1.size/\(∃x,w'.cell? ⟨g,j,none⟩=some (.bool x))/\w'.frozen? ⟨g,j,none⟩=false/\Dy0 w (w'.setCell ⟨g,j,none⟩ (.bool true)) A b c u v (xs.set j true) ys:=by
 obtain⟨g,cap,e,c1,c2,g1,g2,-⟩:=h.two.a.at j (by rw[zad];exact hj);have S0:=h.two.a;rw[e]at S0;have S1:=(S0.stored j (.bool true)).1;rw[zad]at e;rw[zad]at S1;subst e;have h1:=h.hb;have h2:=h.hc;have hn:=h.nb g (.inl rfl);refine⟨g,cap,rfl,g2,⟨xs[j],by rw[c1];simp[fc,hj]⟩,c2,h.arg.other oM _,h.res.other oM _,h.box.other oM _,h.var.other oM _,?_,h.nb,h.bel.setCell oG _,h.hb,h.hc⟩;exact⟨by rw[zcl];exact S1,(h.two.b.of_heap fun k hk=>heap_setCell_other _ ⟨g,j,none⟩ k _ (by show k≠g;exact fun e=>h.two.ne g rfl (e ▸ hk))),h.two.ne⟩
theorem setY(h:Dy0 w w' A b c u v xs ys)(j:Nat)(hj:j<ys.length):∃g cap,v=.slice (some ⟨g,0,none⟩) ys.length cap/\g<w'.1.size/\(∃x,w'.cell? ⟨g,j,none⟩=some (.bool x))/\w'.frozen? ⟨g,j,none⟩=false/\Dy0 w (w'.setCell ⟨g,j,none⟩ (.bool true)) A b c u v xs (ys.set j true):=by
 obtain⟨g,cap,e,c1,c2,g1,g2,-⟩:=h.two.b.at j (by rw[zad];exact hj);have S0:=h.two.b;rw[e]at S0;have S1:=(S0.stored j (.bool true)).1;rw[zad]at e;rw[zad]at S1;subst e;have h1:=h.hb;have h2:=h.hc;have hn:=h.nb g (.inr rfl);refine⟨g,cap,rfl,g2,⟨ys[j],by rw[c1];simp[fc,hj]⟩,c2,h.arg.other oM _,h.res.other oM _,h.box.other oM _,h.var.other oM _,?_,h.nb,h.bel.setCell oG _,h.hb,h.hc⟩;exact⟨(h.two.a.of_heap fun k hk=>heap_setCell_other _ ⟨g,j,none⟩ k _ (by show k≠g;exact fun e=>h.two.ne g (e ▸ hk) rfl)),by rw[zcl];exact S1,h.two.ne⟩
end Dy0
theorem zn0{w w1 w3:World}{A:Array Value}{u v:Value}{xs ys:List Bool}(B1:Below ((w.alloc (.cells A 46)).alloc (.cells noD 30)).1.size ((w.alloc (.cells A 46)).alloc (.cells noD 30)) w1)
  (B3:Below (w1.alloc (.cells noD 30)).1.size (w1.alloc (.cells noD 30)) w3) (T:Two w3 (w1.alloc (.cells noD 30)).1.size u v xs ys) :
  Dy0 w (w3.alloc (.cells #[u,v] 26)) A w1.1.size w3.1.size u v xs ys:=by
 have s1:=B1.size;have s3:=B3.size;simp at s1 s3;have k1:=(AtC.new (w.alloc (.cells A 46)) 30 noD).over B1;simp at k1;have own:∀k,(u.ownBlock=some k\/v.ownBlock=some k)->w1.1.size+1<=k/\k<w3.1.size:=fun k hk=>by
  have:=hk.elim (fun e=>T.a.lt k e) (fun e=>T.b.lt k e);simpa using this
 refine⟨(((((AtC.new w 46 A).alloc _).over B1).alloc _).over B3).alloc _,((k1.alloc _).over B3).alloc _,((AtC.new w1 30 noD).over B3).alloc _,AtC.new w3 26 _,(T.alloc _).base_le sO,fun k hk=>by have:=own k hk;omega,?_,by omega,by omega⟩;exact((((((Below.refl _ w).alloc nR _).alloc sI _).trans (B1.mono sO)).alloc oM _).trans (B3.mono sO)).alloc oM _
end Kit
namespace Kit
structure DkOk(xs ys:List Bool)(is:List Ino)(bs:List Blk):Prop where
 x:xs.length=16
 y:ys.length=8
 i:is.length=8
 ii:∀q∈is,IOk q
 b:bs.length=16
 bb:∀q∈bs,KOk q
theorem readR_ok{s:BA}{d:Bool}{xs:List Sl}{t:BA}(h:readR s=some (d,xs,t)):KOk (d,xs,t):=by
 unfold readR at h
 split at h
 ·split at h
  ·split at h
   ·cases h
   ·split at h
    ·rename_i hok;simp only[oJ,Prod.mk.injEq]at h;obtain⟨rfl,rfl,rfl⟩:=h;refine ok.KOk ?_;unfold blkOk zao;simp only[if_true,aE,decide_eq_true_eq];exact⟨rfl,hok.2⟩
    ·cases h
  ·split at h
   ·rename_i hok;simp only[oJ,Prod.mk.injEq]at h;obtain⟨rfl,rfl,rfl⟩:=h;refine ok.KOk ?_;unfold blkOk zao;simp only[Bool.false_eq_true,if_false,decide_eq_true_eq];exact⟨rfl,by rw[ByteArray.size_extract];omega⟩
   ·cases h
 ·cases h
theorem rK_ok(s:BA):KOk (rD s,rX s,rT s):=by
 cases h:readR s with
 | none =>
  obtain⟨-,e1,e2,e3⟩:=zik h;rw[e1,e2,e3];exact⟨⟨(fun e=>by cases e),dC,fun q hq=>by simp at hq,dC⟩,fun _=>rfl,fun e=>absurd e dC,fun q hq=>by simp at hq,Unl.nil⟩
 | some x =>
  obtain⟨d,xs,t⟩:=x;obtain⟨-,e1,e2,e3⟩:=znx h;rw[e1,e2,e3];exact readR_ok h
theorem RSt.all{w:Wd}{v:Va}{ts:List BA}(h:RSt w v ts)(h0:0<ts.length):∃g off cap,v=.slice (aA g off) ts.length cap/\g<w.1.size/\∀(j:Nat)(hj:j<ts.length),w.cell? ⟨g,off+j,none⟩=some (.string ts[j]):=by
 obtain⟨a,c,rfl,h⟩:=h;obtain⟨g,off,rfl,hg,-⟩:=h 0 h0;refine⟨g,off,c,rfl,hg,fun j hj=>?_⟩;obtain⟨g1,off1,e,-,hc⟩:=h j hj;simp only[oJ,aJ]at e;obtain⟨rfl,rfl,-⟩:=e;exact hc
theorem okD_all{ts:List BA}(h:okD ts=true):ts.length=21/\∀(j:Nat)(h:j<ts.length),ts[j].size<=60:=by
 simp only[okD,zbu,aE,beq_iff_eq,List.all_eq_true,decide_eq_true_eq]at h;exact⟨h.1,fun j hj=>h.2 _ (gM_ hj)⟩
end Kit
theorem zlg(sv:Va)(ts:List BA)(w:Wd)(hv:RSt w sv ts)(hl:ts.length<=1048576)(hs:∀(j:Nat)(h:j<ts.length),ts[j].size<=1048576):
  Calls Tryz.prog 83 #[.agg #[sv]] w fun e w'=>∃r u v iv bv xs ys is bs,e=.returned (.tuple #[.agg #[u,v,iv,bv],.bool r])/\DO w' (fun k=>w.1.size<=k) u v iv bv xs ys is bs/\(okD ts=true->DkOk xs ys is bs)/\Bw w w':=by
 have HV:=hJ hv;obtain⟨a0,c0,rfl,-⟩:=hv;have HW0:Hid (∀W,Bw ((w.alloc (.cells #[.slice a0 ts.length c0] 46)).alloc (.cells noD 30)) W->Bw w W/\AtC W (w.1.size+1) 30 noD/\AtC W w.1.size 46 #[.slice a0 ts.length c0]/\w.1.size+1+1<=W.1.size):=fun W b2=>by
  have k1:=(AtC.new (w.alloc (.cells #[.slice a0 ts.length c0] 46)) 30 noD).over b2;have k2:=((AtC.new w 46 #[.slice a0 ts.length c0]).alloc (.cells noD 30)).over b2;have sz:=b2.size;simp at k1 sz;exact⟨(((bF _ w).alloc nR _).alloc sI _).trans (b2.mono sO),k1,k2,sz⟩
 have x0:((w.alloc (.cells #[.slice a0 ts.length c0] 46)).alloc (.cells noD 30)).cell? ⟨w.1.size,0,none⟩=some (.slice a0 ts.length c0):=(HW0.o _ bR).2.2.1.cell 0;have CO:=hJ (fun W (h:Bw w W)=>zdj (.slice a0 ts.length c0) ts W (HV.o.below h nR) hl hs);obtain⟨r,hr⟩:∃r,okD ts=r:=⟨_,rfl⟩
 rw[hr]at CO;have HR:=hJ hr;clear hr hl hs;go_enter Tryz.func83,Tryz.ntmps83
 go_wp2_with fail
 refine(CO.out _ (HW0.o _ bR).1).mono ?_;rintro e w1 ⟨rfl,B1⟩;have HB1:=hJ B1;obtain⟨kb,kr,ka,ks⟩:=HW0.o w1 B1;clear x0
 cases r with
 | false =>
  obtain⟨r0,r1,r2,r3⟩:=AtC.four kr;obtain⟨v0,v1,v2,v3⟩:=kr.f4;have HK:=hJ kb;clear kb kr ka B1;go_wp2;refine bY (v:=.tuple #[.agg #[.slice none 0 0,.slice none 0 0,.slice none 0 0,.slice none 0 0],.bool false]) sR4 rfl ⟨false,_,_,_,_,[],[],[],[],rfl,DO.bits (Two.nil _ _),(fun e=>by rw[HR.o]at e;cases e),?_⟩;exact(((HK.o.setCell oE _).setCell oE _).setCell oE _).setCell oE _
 | true =>
  obtain⟨hn,hz⟩:=okD_all HR.o;obtain⟨g,off,cap,e0,hg,-⟩:=HV.o.all oM;obtain⟨rfl,rfl⟩:a0=some ⟨g,off,none⟩/\c0=cap:=by simpa using e0
  have HC:Hid (∀W,Bw w W->∀(j:Nat)(hj:j<ts.length),W.cell? ⟨g,off+j,none⟩=some (.string ts[j])):=fun W hW j hj=>by
   obtain⟨g',off',cap',e,-,h⟩:=(HV.o.below hW nR).all oM;simp only[vJ,oJ,aJ]at e;obtain⟨⟨rfl,rfl,-⟩,-,-⟩:=e;exact h j hj
  have HZ:=hJ hz;have HN:=hJ hn;rw[hn]at ka HB1 ⊢;clear e0 hz hn HV CO HW0 B1 HR;obtain⟨s0,hs0⟩:∃s,ts[0]'(by have:=HN.o;omega)=s:=⟨_,rfl⟩
  have z0:s0.size<=60:=by rw[←hs0];exact HZ.o 0 (by have:=HN.o;omega)
  obtain⟨rb,xs0,ys0,lx,lr,CB⟩:=zhc s0 oM;have HCB:=hJ CB;have HLR:=hJ lr;have B2:Bw w (w1.alloc (.cells noD 30)):=kb.alloc oM _;have q0:(w1.alloc (.cells #[.slice none 0 0,.slice none 0 0,.slice none 0 0,.slice none 0 0] 30)).cell? ⟨w.1.size,0,none⟩=some (.slice (aA g off) 21 c0):=(ka.alloc _).cell 0;have q1:(w1.alloc (.cells #[.slice none 0 0,.slice none 0 0,.slice none 0 0,.slice none 0 0] 30)).cell? ⟨g,off,none⟩=some (.string s0):=by rw[←hs0];exact HC.o _ B2 0 (by have:=HN.o;omega)
  have HS0:=hJ hs0;clear CB lr kb kr hs0 B2;go_wp2_with fail
  refine(HCB.o _).mono ?_;rintro e w3 ⟨u,v,rfl,T3,B3⟩;have HD:=hJ (zn0 HB1.o B3 T3);obtain⟨a1,c1,a2,c2,rfl,rfl⟩:=T3.form;clear T3 B3 HCB HB1 q0 q1 ka;go_upto_if 31 with fail
  generalize hb:w1.1.size=b at*;generalize hc:w3.1.size=c at*;generalize hW4:w3.alloc (.cells #[.slice a1 xs0.length c1,.slice a2 ys0.length c2] 26)=W4 at*;clear hb hc hW4;go_cut [7,8]from 32 to 54 (fun _ _ wx=>∃u v xs ys,xs.length=16/\ys.length=8/\Dy0 w wx #[.slice (some ⟨g,off,none⟩) 21 c0] b c u v xs ys)
  case first =>
   cases rb with
   | true =>
    go_wp2_with fail
    go_meet
    exact⟨_,_,_,_,(HLR.o trivial).1,(HLR.o trivial).2,HD.o⟩
   | false =>
    go_wp2_with fail
    refine(Xd.specNew_anyB _).mono ?_;rintro e w5 ⟨u',v',rfl,T5,B5⟩;have D5:=HD.o.below B5;obtain⟨y0,y1,y2⟩:=D5.var.two;obtain⟨f0,f1⟩:=D5.var.f2;have HD5:=hJ (HD.o.anew B5 T5);obtain⟨a3,c3,a4,c4,rfl,rfl⟩:=T5.form;clear T5 B5 D5;rw[show newX.length=16 from rfl,show newY.length=8 from rfl]at HD5;try rw[show newX.length=16 from rfl,show newY.length=8 from rfl]
    go_wp2_with fail
    generalize (w5.setCell ⟨c,0,none⟩ (.slice a3 16 c3)).setCell ⟨c,1,none⟩ (.slice a4 8 c4)=W5 at*;clear y0 y1 y2 f0 f1;go_loopw [7] (fun x wr=>∃j:Nat,j<=16/\x=.int .i64 j/\Hid (∃xs ys,xs.length=16/\ys.length=8/\Dy0 w wr #[.slice (some ⟨g,off,none⟩) 21 c0] b c (.slice a3 16 c3) (.slice a4 8 c4) xs ys)) (fun x _=>16-(intOf x).toNat)
    case atStart=>exact⟨0,zL _,rfl,_,_,rfl,rfl,HD5.o⟩
    case round =>
     obtain⟨j,hj,rfl,HJ⟩:=hrel;obtain⟨xs,ys,lx1,ly1,hD⟩:=HJ.o;by_cases hlt:j<16
     ·obtain⟨g3,cp,e3,hg3,⟨xx,hx3⟩,fz3,hD2⟩:=hD.setX j oM;simp only[vJ]at e3;obtain⟨rfl,-,-⟩:=e3;have y0:=hD.var.c0;have j1:(j:Int)<16:=oM
      have HD2:=hJ hD2;have HL:=hJ (aI lx1 ly1);clear hD hD2 HJ lx1 ly1;go_wp2_with fail
      go_roundw
      case rel=>exact⟨j+1,oM,gK,_,_,by rw[lS];exact HL.o.1,HL.o.2,HD2.o⟩
      case measure=>simp[intOf];omega
     ·obtain rfl:j=16:=oM
      have y0:=hD.var.c0;have HD6:=hJ hD;have HL6:=hJ (aI lx1 ly1);clear hD HJ lx1 ly1;go_wp2_with fail
      go_loopw [8] (fun x wr=>∃j:Nat,j<=8/\x=.int .i64 j/\Hid (∃xs ys,xs.length=16/\ys.length=8/\Dy0 w wr #[.slice (some ⟨g,off,none⟩) 21 c0] b c (.slice a3 16 c3) (.slice a4 8 c4) xs ys)) (fun x _=>8-(intOf x).toNat)
      case atStart=>exact⟨0,zL _,rfl,_,_,HL6.o.1,HL6.o.2,HD6.o⟩
      case round =>
       obtain⟨j,hj,rfl,HJ⟩:=hrel;obtain⟨xs,ys,lx1,ly1,hD⟩:=HJ.o;by_cases hlt:j<8
       ·obtain⟨g3,cp,e3,hg3,⟨xx,hx3⟩,fz3,hD2⟩:=hD.setY j oM;simp only[vJ]at e3;obtain⟨rfl,-,-⟩:=e3;have y1:=hD.var.c1;have j1:(j:Int)<8:=oM
        have HD2:=hJ hD2;have HL:=hJ (aI lx1 ly1);clear hD hD2 HJ lx1 ly1;go_wp2_with fail
        go_roundw
        case rel=>exact⟨j+1,oM,gK,_,_,HL.o.1,by rw[lS];exact HL.o.2,HD2.o⟩
        case measure=>simp[intOf];omega
       ·obtain rfl:j=8:=oM
        have y1:=hD.var.c1;have HD6:=hJ hD;have HL6:=hJ (aI lx1 ly1);clear hD HJ lx1 ly1;go_wp2_with fail
        go_meet
        exact⟨_,_,_,_,HL6.o.1,HL6.o.2,HD6.o⟩
  case rest =>
   obtain⟨u,v,xs,ys,lx1,ly1,hD⟩:=hcut;obtain⟨W5,rfl⟩:∃W5,W5=wc:=⟨wc,rfl⟩
   obtain⟨a3,c3,a4,c4,rfl,rfl⟩:=hD.two.form;obtain⟨y0,y1⟩:=hD.var.k2;obtain⟨y2,y3⟩:=hD.box.k2;obtain⟨y4,y5⟩:=hD.box.f2;have y6:=hD.box.lt;have y7:=hD.var.lt;have HDy:=hJ hD.store;have HL:=hJ (aI lx1 ly1);clear hD lx1 ly1 HLR HD;go_wp2_with fail
   generalize (W5.setCell ⟨b,0,none⟩ (.slice a3 xs.length c3)).setCell ⟨b,1,none⟩ (.slice a4 ys.length c4)=W6 at*;clear y0 y1 y2 y3 y4 y5 y6 y7;go_loopw [9,10,11,12,13] (fun i _ _ _ _ wr=>∃j:Nat,j<=8/\i=.int .i64 j/\Hid (∃iv is,is.length=j/\(∀q∈is,IOk q)/\Dy w wr #[.slice (some ⟨g,off,none⟩) 21 c0] b (.slice a3 xs.length c3) (.slice a4 ys.length c4) iv (.slice none 0 0) xs ys is [])) (fun i _ _ _ _ _=>8-(intOf i).toNat)
   case atStart=>exact⟨0,zL _,rfl,_,_,rfl,(fun q hq=>by simp at hq),HDy.o⟩
   case round =>
    obtain⟨j,hj,rfl,HJ⟩:=hrel;obtain⟨iv,is,li,hi,hD⟩:=HJ.o;by_cases hlt:j<8
    ·obtain⟨m,hm⟩:∃m:Nat,1+j/2=m:=⟨_,rfl⟩
     obtain⟨d,hd⟩:∃d:Nat,j%2=d:=⟨_,rfl⟩
     have j1:(j:Int)<8:=oM
     have m1:1+(j:Int)/2=(m:Int):=oM
     have m2:(m:Int)<21:=oM
     have m3:(0:Int)<=(m:Int):=oM
     have d1:(j:Int)%2=(d:Int):=oM
     have d2:d<2:=oM
     obtain⟨s,hs⟩:∃s,ts[m]'(by have:=HN.o;omega)=s:=⟨_,rfl⟩
     have zs:s.size<=60:=by rw[←hs];exact HZ.o m (by have:=HN.o;omega)
     have q0:=hD.arg.c0;have q1:wr.cell? ⟨g,off+m,none⟩=some (.string s):=by rw[←hs];exact HC.o _ hD.bel m (by have:=HN.o;omega)
     have HDR:=hJ hD;have HIS:=hJ (aI li hi);clear hm hd hs hD li hi HJ;go_wp2_with fail
     refine(zbc 0 _).mono ?_;rintro e w7 ⟨p,rfl,O7,B7⟩;obtain⟨s1,t1,rfl⟩:=O7.form2;rw[show zan 0=0 from rfl];have HO7:=hJ O7;have HB7:=hJ B7;clear O7 B7 q0 q1;go_upto_if 71 with fail
     have HB8:Hid (∀W,Bw (w7.alloc (.cells #[nI 0,nI 0,.slice s1 2 t1] 59)) W->AtC W w7.1.size 59 #[nI 0,nI 0,.slice s1 2 t1]/\Bw wr W/\w7.1.size<W.1.size/\ROwns W wr.1.size 3 (.slice s1 2 t1) (ic [0,0])):=fun W hW=>by
      have sz:=hW.size;have sz7:=HB7.o.size;simp at sz;exact⟨(AtC.new w7 59 _).over hW,(HB7.o.alloc sz7 _).trans (hW.mono sO),oM,(HO7.o.alloc _).below hW nR⟩
     have k0:=HB7.o.size;generalize hb8:w7.1.size=b8 at*;generalize hW8:w7.alloc (.cells #[.int .i64 0,.int .i64 0,.slice s1 2 t1] 59)=W8 at*;clear hb8 hW8 HO7 HB7;go_cut [12,13]from 68 to 86 (fun _ _ wx=>∃k l p zs,AtC wx b8 59 #[.int .i64 k,.int .i64 l,p]/\ROwns wx wr.1.size 3 p (ic zs)/\IOk (k,l,zs)/\Bw wr wx)
     case first =>
      by_cases h8:s.size=8
      ·have h8i:(s.size:Int)=8:=oM
       have e0:(0:Int)<=4*(d:Int):=oM
       have e1:4*(d:Int)<=4*(d:Int)+4:=oM
       have e2:4*(d:Int)+4<=8:=oM
       go_wp2_with fail
       obtain⟨tt,htt⟩:∃tt,s.extract (4*d) (4*d+4)=tt:=⟨_,rfl⟩
       have ztt:tt.size<=60:=by rw[←htt,ByteArray.size_extract];omega
       obtain⟨r,k,l,zz,hR,hzl⟩:=rd_ex tt;rw[htt];refine(zii hR _ oM).mono ?_;rintro e w9 ⟨p,rfl,O9,B9⟩;obtain⟨s9,t9,rfl,-⟩:=O9.form;obtain⟨X1,X2,X3,X4⟩:=HB8.o _ B9;have kk:=(HB8.o _ bR).2.2.1;have HRk:=hJ hR.ok;have A10:AtC (w9.alloc (.cells #[nI k,nI l,.slice s9 (ic zz).length t9] 59)) b8 59 #[nI 0,nI 0,.slice s1 2 t1]:=X1.alloc _;obtain⟨y0,y1,y2⟩:=X1.k3;obtain⟨y3,y4,y5⟩:=X1.f3;have y6:=X1.lt;have HA:=hJ A10;have HA9:=hJ X1;have HO9:=hJ O9;have HX:=hJ X2;have HX4:=hJ X4;have HO:=hJ (O9.alloc (.cells #[nI k,nI l,.slice s9 (ic zz).length t9] 59));have B9s:=B9.size;clear hR X1 X2 X4 O9 B9 A10 htt e0 e1 e2
       cases r with
       | true =>
        go_wp2_with fail
        go_meet
        refine⟨k,l,_,zz,(((HA9.o.set 0 _).set 1 _).set 2 _).alloc _,?_,HRk.o (by trivial),?_⟩
        ·exact((((HO9.o.setCell_other kk _).setCell_other kk _).setCell_other kk _).alloc _).base_le oM
        ·exact(((HX.o.setCell k0 _).setCell k0 _).setCell k0 _).alloc sO _
       | false =>
        go_wp2_with fail
        go_meet
        exact⟨0,0,_,_,HA.o,HX4.o.alloc _,IOk.none,HX.o.alloc oM _⟩
      ·have h8b:((s.size:Int)==8)=false:=sO
       go_wp2_with fail
       go_meet
       obtain⟨r1,r2,r3,r4⟩:=HB8.o _ bR;exact⟨0,0,_,_,r1,r4,IOk.none,r2⟩
     case rest =>
      obtain⟨k,l,p,zz,A9,O9,I9,B9⟩:=hcut;obtain⟨W9,rfl⟩:∃W9,W9=wc:=⟨wc,rfl⟩
      obtain⟨s9,t9,rfl,-⟩:=O9.form;obtain⟨ti,k1,k2,k3⟩:=HDR.o.appI;obtain⟨gi,ci,rfl,-⟩:=k1.form;have x0:=(HDR.o.below B9).box.c2;obtain⟨x1,x2,x3⟩:=A9.k3;have x4:=A9.lt;have x5:=(HDR.o.below B9).box.lt;have B10:Bw wr (W9.alloc (.cells #[nI k,nI l,.slice s9 (ic zz).length t9] 59)):=B9.alloc B9.size _;have HT:=hJ (k1.of_heap (w':=W9.alloc (.cells #[nI k,nI l,.slice s9 (ic zz).length t9] 59)) fun q hq=>B10.block q (k1.lt q hq));have HN10:=hJ (fun v9 w11=>k3 (W9.alloc (.cells #[nI k,nI l,.slice s9 (ic zz).length t9] 59)) w11 v9 (nI k,nI l,.slice s9 (ic zz).length t9) (k,l,zz) B10 ⟨rfl,rfl,(O9.alloc _).base_le (zL _)⟩ (fun q hq=>(O9.lt q hq).1));have HA10:=hJ (AtC.new W9 59 #[nI k,nI l,.slice s9 (ic zz).length t9]);have HTL:Hid (ti.length<=1000000000000):=by have:=HIS.o.1;show ti.length<=_;omega
      have HI9:=hJ I9;clear k1 k2 k3 B9 B10 A9 O9 I9;go_wp2_with (at_builtin;refine wS fun K' hK'=>?_;refine zas _ rfl (.tmp 88) (.tmp 90) 27 rfl 59 Tryz.u27 _ 40 Tryz.i59 rfl dC (.slice gi ti.length ci) ti rfl HT.o W9.1.size (nI k,nI l,.slice s9 (ic zz).length t9) rfl ⟨HA10.o.cell 0,HA10.o.cell 1,HA10.o.cell 2⟩ ⟨rfl,rfl,rfl⟩ HTL.o ?_;intro v9 w11 T9 G9 V9;refine hK' _ _ ?_;obtain⟨e9,D9⟩:=HN10.o v9 w11 T9 G9 V9;obtain⟨g9,c9,rfl,-⟩:=T9.form;simp only[lA,lC,List.length_nil,zA_]at D9;have z2:=e9.frozen 2;have z3:w11.cell? ⟨b,2,none⟩=some (.slice gi ti.length ci):=e9.cell 2;have z4:=e9.lt;have H9:=hJ D9;clear e9 D9 T9 G9 V9 HN10 HA10 HT HTL hK' K' x0 x1 x2 x3 x4 x5)
      go_roundw
      case rel=>exact⟨j+1,oM,gK,_,is++[(k,l,zz)],by rw[lA,HIS.o.1];rfl,fun q hq=>(List.mem_append.1 hq).elim (HIS.o.2 q) (fun e=>by rw[List.mem_singleton]at e;subst e;exact HI9.o),H9.o⟩
      case measure=>simp[intOf];omega
    ·obtain rfl:j=8:=oM
     have HDR:=hJ hD;have HIS:=hJ (aI li hi);clear hD li hi HJ;go_wp2_with fail
     go_loopw [14,15,16] (fun i _ _ wr=>∃j:Nat,j<=16/\i=.int .i64 j/\Hid (∃bv bs,bs.length=j/\(∀q∈bs,KOk q)/\Dy w wr #[.slice (some ⟨g,off,none⟩) 21 c0] b (.slice a3 xs.length c3) (.slice a4 ys.length c4) iv bv xs ys is bs)) (fun i _ _ _=>16-(intOf i).toNat)
     case atStart=>exact⟨0,zL _,rfl,_,_,rfl,(fun q hq=>by simp at hq),HDR.o⟩
     case round =>
      clear HDR;obtain⟨j,hj,rfl,HJ⟩:=hrel;obtain⟨bv,bs,lb,hbb,hD⟩:=HJ.o;by_cases hlt:j<16
      ·obtain⟨m,hm⟩:∃m:Nat,5+j=m:=⟨_,rfl⟩
       have j1:(j:Int)<16:=oM
       have m1:5+(j:Int)=(m:Int):=oM
       have m2:(m:Int)<21:=oM
       have m3:(0:Int)<=(m:Int):=oM
       obtain⟨s,hs⟩:∃s,ts[m]'(by have:=HN.o;omega)=s:=⟨_,rfl⟩
       have zs:s.size<=60:=by rw[←hs];exact HZ.o m (by have:=HN.o;omega)
       have q0:=hD.arg.c0;have q1:wr.cell? ⟨g,off+m,none⟩=some (.string s):=by rw[←hs];exact HC.o _ hD.bel m (by have:=HN.o;omega)
       have HDR:=hJ hD;have HBS:=hJ (aI lb hbb);clear hm hs hD lb hbb HJ;go_wp2_with fail
       refine(zhe s _ oM).mono ?_;rintro e w7 ⟨p,rfl,O7,B7⟩;have HKO:=hJ (rK_ok s);obtain⟨dd,hdd⟩:∃dd,rD s=dd:=⟨_,rfl⟩
       obtain⟨zz,hzz⟩:∃zz,rX s=zz:=⟨_,rfl⟩
       obtain⟨tt,htt⟩:∃tt,rT s=tt:=⟨_,rfl⟩
       rw[hzz]at O7;rw[hdd,hzz,htt]at HKO;rw[hdd,htt];obtain⟨s9,t9,rfl,-⟩:=O7.form;obtain⟨ti,k1,k2,k3⟩:=HDR.o.appB;obtain⟨gi,ci,rfl,-⟩:=k1.form;have x0:=(HDR.o.below B7).box.c3;have x5:=(HDR.o.below B7).box.lt;have B10:Bw wr ((w7.alloc (.cells #[.bool dd,.slice s9 zz.length t9,.string tt] 95)).alloc (.cells #[.bool dd,.slice s9 zz.length t9,.string tt] 95)):=(B7.alloc B7.size _).alloc (by have:=B7.size;simp;omega) _;have HT:=hJ (k1.of_heap (w':=(w7.alloc (.cells #[.bool dd,.slice s9 zz.length t9,.string tt] 95)).alloc (.cells #[.bool dd,.slice s9 zz.length t9,.string tt] 95)) fun q hq=>B10.block q (k1.lt q hq));have HN10:=hJ (fun v9 w11=>k3 ((w7.alloc (.cells #[.bool dd,.slice s9 zz.length t9,.string tt] 95)).alloc (.cells #[.bool dd,.slice s9 zz.length t9,.string tt] 95)) w11 v9 (.bool dd,.slice s9 zz.length t9,.string tt) (dd,zz,tt) B10 ⟨rfl,((O7.alloc _).alloc _).base_le (zL _),rfl⟩ (fun q hq=>(O7.lt q hq).1));have A10:=AtC.new (w7.alloc (.cells #[.bool dd,.slice s9 zz.length t9,.string tt] 95)) 95 #[.bool dd,.slice s9 zz.length t9,.string tt];rw[wA_]at A10;have HA10:=hJ A10;clear A10;have HTL:Hid (ti.length<=1000000000000):=by have:=HBS.o.1;show ti.length<=_;omega
       clear k1 k2 k3 B7 B10 O7 q0 q1 hdd hzz htt;go_wp2_with (at_builtin;refine wS fun K' hK'=>?_;refine zas _ rfl (.tmp 108) (.tmp 110) 28 rfl 95 Tryz.u28 _ 48 Tryz.i95 rfl dC (.slice gi ti.length ci) ti rfl HT.o (w7.1.size+1) (.bool dd,.slice s9 zz.length t9,.string tt) rfl ⟨HA10.o.cell 0,HA10.o.cell 1,HA10.o.cell 2⟩ ⟨rfl,rfl,rfl⟩ HTL.o ?_;(intro v9 w11 T9 G9 V9;refine hK' _ _ ?_;obtain⟨e9,D9⟩:=HN10.o v9 w11 T9 G9 V9;obtain⟨g9,c9,rfl,-⟩:=T9.form;simp only[lA,lC,List.length_nil,zA_]at D9;have z2:=e9.frozen 3;have z3:w11.cell? ⟨b,3,none⟩=some (.slice gi ti.length ci):=e9.cell 3;have z4:=e9.lt;have H9:=hJ D9;clear e9 D9 T9 G9 V9 HN10 HA10 HT HTL hK' K' x0 x5))
       go_roundw
       case rel=>exact⟨_,_,_,_,_,_,_,_,_,_,_,_,_,_,_,_,_,_,_,_,_,_,_,⟨j+1,oM,gK,_,bs++[(dd,zz,tt)],by rw[lA,HBS.o.1];rfl,fun q hq=>(List.mem_append.1 hq).elim (HBS.o.2 q) (fun e=>by rw[List.mem_singleton]at e;subst e;exact HKO.o),H9.o⟩,rfl⟩
       case measure=>simp[intOf];omega
      ·obtain rfl:j=16:=oM
       obtain⟨ti,k1,-,-⟩:=hD.appI;obtain⟨gi,ci,rfl,-⟩:=k1.form;obtain⟨tb,k2,-,-⟩:=hD.appB;obtain⟨gb,cb,rfl,-⟩:=k2.form;obtain⟨y0,y1,y2,y3⟩:=AtC.four hD.box;obtain⟨r0,r1,r2,r3⟩:=AtC.four hD.res;obtain⟨v0,v1,v2,v3⟩:=hD.res.f4;have l0:=hD.box.lt;have l1:=hD.res.lt;have HDE:=hJ hD;have HBE:=hJ (aI lb hbb);clear hD HJ lb hbb k1 k2;go_wp2;refine bY (v:=.tuple #[.agg #[.slice a3 xs.length c3,.slice a4 ys.length c4,.slice gi ti.length ci,.slice gb tb.length cb],.bool true]) sR4 rfl ⟨true,_,_,_,_,xs,ys,is,bs,rfl,?_,fun _=>⟨HL.o.1,HL.o.2,HIS.o.1,HIS.o.2,HBE.o.1,HBE.o.2⟩,?_⟩
       ·exact(HDE.o.dsk.of_heap fun k hk _=>(hs4 oA)).mono fun k hk=>by omega
       ·exact(((HDE.o.bel.setCell oE _).setCell oE _).setCell oE _).setCell oE _
theorem bcSet(l:List UInt8)(j:Nat)(b:UInt8):(bc l).set j (.int .u8 (b.toNat:Int))=bc (l.set j b):=by simp[bc,List.map_set]
theorem bcLen(l:List UInt8):(bc l).length=l.length:=by simp[bc]
theorem made_by(w:Wd)(n:Nat)(h:n<=1000):ROwns (w.n (madeCells #[.int .u8 0] n) 5) w.1.size 5 (.slice (aA w.1.size 0) n n) (bc (List.replicate n 0)):=by
 have e1:(madeCells #[.int .u8 0] n).toList=bc (List.replicate n 0):=by rw[toList_madeCells_one];simp[bc]
 have e2:(madeCells #[.int .u8 0] n).size=n:=by rw[←Array.length_toList,e1,bcLen,lR]
 have:=ROwns.lit w w.1.size 5 (madeCells #[.int .u8 0] n) nR (by rw[e2];unfold maxLen;omega)
 rwa[e1,e2]at this
theorem long_any(n z:Nat)(w:Wd)(hn:n<=1000)(hz:z<256):
  Calls Tryz.prog 46 #[nI (n:Int),.int .u8 (z:Int)] w fun e w'=>∃t:ByteArray,t.size=n/\e=.returned (.string t)/\Bw w w':=by
 have mk:=make_by n oM;obtain⟨b,hb⟩:∃b:UInt8,(z:Int)=(b.toNat:Int):=⟨UInt8.ofNat z,sO⟩
 have HB:=hJ hb;have aD:¬(n:Int)<0:=oM
 clear hb;go_enter Tryz.func46,Tryz.ntmps46
 go_wp2;go_loopw [6] (fun i wr=>∃(j:Nat)(l:List UInt8),j<=n/\i=.int .i64 j/\l.length=n/\Hid (ROwns wr w.1.size 5 (.slice (some ⟨w.1.size,0,none⟩) n n) (bc l)/\Bw w wr)) (fun i _=>n-(intOf i).toNat)
 case atStart=>exact⟨0,List.replicate n 0,zL _,rfl,sI,made_by w n hn,(bF _ w).alloc nR _⟩
 obtain⟨j,l,hj,rfl,hl,HR⟩:=hrel;by_cases hlt:j<n
 ·have j0:(0:Int)<=(j:Int):=oM
  have j1:(j:Int)<(n:Int):=oM
  have aB:(bc l).length=n:=by rw[bcLen,hl]
  obtain⟨g,cp,e1,k1,k2,k3,k4,-⟩:=HR.o.1.at j oM;rw[aB]at e1;simp only[vJ,oJ,aJ]at e1;obtain⟨⟨rfl,-⟩,-,-⟩:=e1;have k5:(bc l)[j]?=some (.int .u8 ((l[j]'oM).toNat:Int)):=by simp[bc];exact⟨_,gE oM,rfl⟩
  rw[k5]at k1;have O:ROwns wr w.1.size 5 (.slice (aA w.1.size 0) (bc l).length n) (bc l):=by rw[aB];exact HR.o.1
  have O2:=(O.stored j (.int .u8 (b.toNat:Int))).1;rw[bcSet,aB,←HB.o]at O2;have aC:=hJ (aI O2 (HR.o.2.setCell (p:=⟨w.1.size,j,none⟩) nR (.int .u8 (z:Int))));have HL:=hJ hl;generalize ((l[j]'oM).toNat:Int)=q at k1;clear O O2 HR aB k5 hl mk;go_wp2;go_roundw
  case rel=>exact⟨j+1,l.set j b,oM,gK,by rw[lS];exact HL.o,aC.o⟩
  simp[intOf];omega
 have OW:Owns wr w.1.size 5 (.slice (aA w.1.size 0) n n) l:=by
  have h1:=HR.o.1;unfold Owns;have h2:wr.ownsRow w.1.size 5 1 (.slice (aA w.1.size 0) n n) (bc l).length (bc l):=h1
  rwa[bcLen]at h2
 have aF:=zev (P:=Tryz.prog) 22 9 5 Tryz.underlying22 Tryz.underlying5 Tryz.underlying9 OW;have HL:=hJ hl;clear OW hl mk;go_wp2;go_ret;exact⟨⟨l.toArray⟩,by have:=HL.o;simp[ByteArray.size];omega,rfl,HR.o.2⟩
theorem zcd(w0 w:Wd)(c:Nat)(a:OA)(len cap n:Nat)(hcode:za0 w0 a len)(hlen:len<=1048576)(hcur:Cur 103 w0 w c a len cap)(hcw:c<w.1.size)(hn:0<n)(hn1:n<=1000):
  Calls Tryz.prog 37 #[.pointer (aA c 0),nI (n:Int)] w fun e w'=>∃z:Int,IntKind.i64.min<=z/\z<=IntKind.i64.max/\e=.returned (nI z)/\Drew w0 w w' c a len cap:=by
 have HC:=hJ hcur;have HO:=hJ hcode;have wn:IntKind.i64.wrap ((n:Int)+1)=(n:Int)+1:=zdd oM oM;clear hcur hcode;go_enter Tryz.func37,Tryz.ntmps37
 go_wp2_with fail
 refine(zaw w0 w c a len cap 15 HO.o hlen HC.o dC dC).mono ?_;rintro e w1 ⟨x,rfl,D1⟩;have HD:=hJ D1;have aB:c<w1.1.size:=by have:=D1.2.size;omega
 clear D1 HC
 cases hx:(x==0)with
 | true =>
  clear hx;go_wp2_with fail
  refine(zbh w0 _ c w1.1.size a len cap [-1,(n:Int),(n:Int)+1,9223372036854775807,-9223372036854775808] HO.o hlen (za6 HD.o.cur aB _) (AtC.new w1 3 _) oM sI sI).mono ?_;rintro e w2 ⟨z,hz,rfl,D2⟩;have HD2:=hJ ((HD.o.alloc hcw _).trans D2);have hz2:Hid (IntKind.i64.min<=z/\z<=IntKind.i64.max):=by
   simp only[mN,nN,or_false]at hz;show(-9223372036854775808:Int)<=z/\z<=9223372036854775807;omega
  exact cQ145
 | false =>
  clear hx;go_wp2_with fail
  refine(zah w0 _ c a len cap n HO.o hlen HD.o.cur hn oM).mono ?_;rintro e w2 ⟨z,hz,rfl,D2⟩;have HD2:=hJ (HD.o.trans D2);have hz2:Hid (IntKind.i64.min<=(z:Int)/\(z:Int)<=IntKind.i64.max):=by
   show(-9223372036854775808:Int)<=(z:Int)/\(z:Int)<=9223372036854775807;omega
  exact cQ145
structure Sk(w0 w w':Wd)(c:Nat)(a:OA)(len cap:Nat)(bx:Nat)(d:Bool)(v:Va)(t:BA)(xs:List Sl):Prop where
 res:AtC w' w.1.size 95 #[.bool false,nZ,eT]
 x:AtC w' bx 95 #[.bool d,v,.string t]
 own:SOwns w' (w.1.size+1) 90 v xs
 dr:Drew w0 w w' c a len cap
 hx:w.1.size<bx
 hne:∀k,v.ownBlock=some k->k≠bx
 hc:c<w.1.size
namespace Sk
variable {w0 w w' : World} {c len cap bx : Nat} {a : Option Addr} {d : Bool} {v : Value} {t : ByteArray} {xs : List Sl}
theorem drews(h:Sk w0 w w' c a len cap bx d v t xs){w2:World}(hd:Drew w0 w' w2 c a len cap):Sk w0 w w2 c a len cap bx d v t xs:=by
 have h1:=h.hc;have h2:=h.hx;exact⟨h.res.grown hd.2 (by intro e;cases e;omega),h.x.grown hd.2 (by intro e;cases e;omega),h.own.grown hd.2 (fun j hj e=>by cases e;have:=(h.own.lt _ hj).1;omega),h.dr.trans hd,h.hx,h.hne,h.hc⟩
theorem drew(h:Sk w0 w w' c a len cap bx d v t xs):Sk w0 w w'.drew c a len cap bx d v t xs:=⟨h.res,h.x,h.own.drew,h.dr.drew,h.hx,h.hne,h.hc⟩
theorem over(h:Sk w0 w w' c a len cap bx d v t xs){w2:World}(hb:Below w'.1.size w' w2):Sk w0 w w2 c a len cap bx d v t xs:=⟨h.res.over hb,h.x.over hb,h.own.below hb nR,h.dr.below h.hc hb,h.hx,h.hne,h.hc⟩
theorem alloc(h:Sk w0 w w' c a len cap bx d v t xs)(o:Obj):Sk w0 w (w'.alloc o) c a len cap bx d v t xs:=h.over ((Below.refl _ w').alloc nR o)
theorem ownX(h:Sk w0 w w' c a len cap bx d v t xs)(j:Nat)(z:Value):SOwns (w'.setCell ⟨bx,j,none⟩ z) (w.1.size+1) 90 v xs:=h.own.setCell_other (fun e=>h.hne _ e rfl) _
theorem setD(h:Sk w0 w w' c a len cap bx d v t xs)(z:Bool):Sk w0 w (w'.setCell ⟨bx,0,none⟩ (.bool z)) c a len cap bx z v t xs :=
 ⟨h.res.other (by have:=h.hx;omega) _,h.x.set 0 _,h.ownX _ _,h.dr.setCell h.hc (by have:=h.hx;omega) _,h.hx,h.hne,h.hc⟩
theorem setT(h:Sk w0 w w' c a len cap bx d v t xs)(z:ByteArray):Sk w0 w (w'.setCell ⟨bx,2,none⟩ (.string z)) c a len cap bx d v z xs :=
 ⟨h.res.other (by have:=h.hx;omega) _,h.x.set 2 _,h.ownX _ _,h.dr.setCell h.hc (by have:=h.hx;omega) _,h.hx,h.hne,h.hc⟩
theorem cells(h:Sk w0 w w' c a len cap bx d v t xs):w'.cell? ⟨bx,0,none⟩=some (.bool d)/\w'.cell? ⟨bx,1,none⟩=some v/\w'.cell? ⟨bx,2,none⟩=some (.string t)/\w'.frozen? ⟨bx,0,none⟩=false/\w'.frozen? ⟨bx,1,none⟩=false/\w'.frozen? ⟨bx,2,none⟩=false/\bx<w'.1.size:=⟨h.x.cell 0,h.x.cell 1,h.x.cell 2,h.x.frozen 0,h.x.frozen 1,h.x.frozen 2,h.x.lt⟩
theorem ress(h:Sk w0 w w' c a len cap bx d v t xs):w'.cell? ⟨w.1.size,0,none⟩=some (.bool false)/\w'.cell? ⟨w.1.size,1,none⟩=some (.slice none 0 0)/\w'.cell? ⟨w.1.size,2,none⟩=some (.string ⟨#[]⟩)/\w'.frozen? ⟨w.1.size,0,none⟩=false/\w'.frozen? ⟨w.1.size,1,none⟩=false/\w'.frozen? ⟨w.1.size,2,none⟩=false/\w.1.size<w'.1.size:=⟨h.res.cell 0,h.res.cell 1,h.res.cell 2,h.res.frozen 0,h.res.frozen 1,h.res.frozen 2,h.res.lt⟩
theorem fin(h:Sk w0 w w' c a len cap bx d v t xs)(x y z:Value):SOwns (((w'.setCell ⟨w.1.size,0,none⟩ x).setCell ⟨w.1.size,1,none⟩ y).setCell ⟨w.1.size,2,none⟩ z) w.1.size 90 v xs/\Drew w0 w (((w'.setCell ⟨w.1.size,0,none⟩ x).setCell ⟨w.1.size,1,none⟩ y).setCell ⟨w.1.size,2,none⟩ z) c a len cap :=
 ⟨((((h.own.setCell_low oM _).setCell_low oM _).setCell_low oM _).base_le oM),((h.dr.setCell h.hc nR _).setCell h.hc nR _).setCell h.hc nR _⟩
theorem hg{g n k:Nat}(h:Sk w0 w w' c a len cap bx d (.slice (some ⟨g,0,none⟩) n k) t xs):w.1.size<g/\g<w'.1.size/\g≠bx:=⟨(h.own.lt g rfl).1,(h.own.lt g rfl).2,h.hne g rfl⟩
theorem setN{g k n:Nat}(h:Sk w0 w w' c a len cap bx d (.slice (some ⟨g,0,none⟩) n k) t xs)(hn:n=xs.length)(j:Nat)(hj:j<xs.length)(z:ByteArray):Sk w0 w (w'.setCell ⟨g,j*2,none⟩ (.string z)) c a len cap bx d (.slice (some ⟨g,0,none⟩) n k) t (xs.set j (z,xs[j].2)):=by
 subst hn;obtain⟨h1,h2,h3⟩:=h.hg;exact⟨h.res.other oM _,h.x.other (Ne.symm h3) _,(h.own.set_name j hj z).1,h.dr.setCell h.hc oM _,h.hx,h.hne,h.hc⟩
theorem setI{g k n:Nat}(h:Sk w0 w w' c a len cap bx d (.slice (some ⟨g,0,none⟩) n k) t xs)(hn:n=xs.length)(j:Nat)(hj:j<xs.length)(z:Int):Sk w0 w (w'.setCell ⟨g,j*2+1,none⟩ (.int .i64 z)) c a len cap bx d (.slice (some ⟨g,0,none⟩) n k) t (xs.set j (xs[j].1,z)):=by
 subst hn;obtain⟨h1,h2,h3⟩:=h.hg;exact⟨h.res.other oM _,h.x.other (Ne.symm h3) _,(h.own.set_ino j hj z).1,h.dr.setCell h.hc oM _,h.hx,h.hne,h.hc⟩
end Sk
def BkN(xs:List Sl)(t:ByteArray):Prop:=(xs=[]\/xs.length=4)/\(∀s∈xs,s.1.size<=1000)/\t.size<=1000
theorem BkN.set{xs:List Sl}{t:ByteArray}(h:BkN xs t){j:Nat}{s:Sl}(hs:s.1.size<=1000):BkN (xs.set j s) t:=by
 refine⟨h.1.elim (fun e=>.inl (by rw[e];rfl)) (fun e=>.inr (by rw[List.length_set];exact e)),fun x hx=>?_,h.2.2⟩;rcases List.mem_or_eq_of_mem_set hx with q|rfl
 ·exact h.2.1 x q
 exact hs
theorem blkX_any(w0 w:World)(c:Nat)(a:Option Addr)(len cap:Nat)(hcode:za0 w0 a len)(hlen:len<=1048576)(hcur:Cur 103 w0 w c a len cap)(hcw:c<w.1.size):
  Calls Tryz.prog 101 #[.pointer (some ⟨c,0,none⟩)] w fun e w'=>∃(d:Bool)(v:Value)(t:ByteArray)(xs:List Sl),e=.returned (.agg #[.bool d,v,.string t])/\SOwns w' w.1.size 90 v xs/\BkN xs t/\Drew w0 w w' c a len cap:=by
 have HC:=hJ hcur;have HO:=hJ hcode;clear hcur hcode;obtain⟨W0,aV⟩:∃W0,w.alloc (.cells #[.bool false,.slice none 0 0,.string ⟨#[]⟩] 95)=W0:=⟨_,rfl⟩
 have aL:Hid (AtC W0 w.1.size 95 #[.bool false,.slice none 0 0,.string ⟨#[]⟩]/\Drew w0 w W0 c a len cap/\c<W0.1.size/\w.1.size<W0.1.size):=by
  rw[←aV];exact⟨AtC.new w 95 _,(Drew.refl HC.o).alloc hcw _,by simp;omega,by simp⟩
 go_enter Tryz.func101,Tryz.ntmps101
 go_wp2_with fail
 clear aV;refine(zgb w0 W0 c a len cap HO.o hlen aL.o.2.1.cur aL.o.2.2.1).mono ?_;rintro e w1 ⟨d,v1,t,xs,rfl,O1,K1,D1⟩;have HK:Hid (BkN xs t):=by
  refine⟨?_,fun s hs=>Nat.le_trans (K1.s s hs).1 dC,Nat.le_trans K1.t dC⟩
  cases d with
  | true=>exact .inr (K1.n rfl)
  | false=>exact .inl (K1.f rfl)
 obtain⟨b1,e1,rfl,-⟩:=O1.form;have aP:=hJ (And.intro O1.rsl (And.intro (aL.o.1.grown D1.2 (by intro e;cases e;have:=aL.o.2.2.1;omega)) (aL.o.2.1.trans D1)));have bE:=aP.o.2.1.lt;clear O1 K1 D1 aL HC;go_wp2_with fail
 refine(ze6 d t _ xs w1 aP.o.1 (by rcases HK.o.1 with e|e<;>simp[e])).mono ?_;rintro e w2 ⟨v2,rfl,O2,B2⟩;obtain⟨b2,e2,rfl,-⟩:=O2.form;have HS:Hid (Sk w0 w (w2.alloc (.cells #[.bool d,.slice b2 xs.length e2,.string t] 95)) c a len cap w2.1.size d (.slice b2 xs.length e2) t xs) :=
  ⟨(aP.o.2.1.over B2).alloc _,AtC.new w2 95 _,(O2.base_le oM).alloc _,(aP.o.2.2.below hcw B2).alloc hcw _,by have:=B2.size;omega,fun k hk=>by have:=(O2.lt k hk).2;omega,hcw⟩
 clear O2 B2 aP bE;go_wp2_with fail
 refine(zah w0 _ c a len cap 12 HO.o hlen HS.o.dr.cur dC dC).mono ?_;rintro e w3 ⟨x,hx,rfl,D3⟩;have HS3:=hJ (HS.o.drews D3);clear D3 HS;have bH:x=0\/x=1\/x=2\/x=3\/4<=x:=by omega
 rcases bH with rfl|rfl|rfl|rfl|h4
 ·obtain⟨p0,p1,p2,f0,f1,f2,m9⟩:=HS3.o.cells;have aG:=hJ (HS3.o.setD (!d));clear HS3;obtain⟨q0,q1,q2,z0,z1,z2,m0⟩:=aG.o.ress;obtain⟨s0,s1,s2,r0,r1,r2,r9⟩:=aG.o.cells;have H9:=hJ (aG.o.fin (.bool (!d)) (.slice b2 xs.length e2) (.string t));clear aG;go_wp2;exact bodyPost_ret (v:=.agg #[.bool (!d),.slice b2 xs.length e2,.string t]) sQ3 rfl ⟨_,_,_,_,rfl,H9.o.1,HK.o,H9.o.2⟩
 ·go_wp2_with fail
  refine(zah w0 _ c a len cap 2 HO.o hlen HS3.o.dr.cur dC dC).mono ?_;rintro e w4 ⟨z,hz,rfl,D4⟩;have aS:=hJ (HS3.o.drews D4);have wq:IntKind.i64.wrap (16+(z:Int))=((16+z:Nat):Int):=by rw[zdd oM oM];omega
  clear D4 HS3;go_wp2_with fail
  refine(long_any (16+z) 65 _ oM dC).mono ?_;rintro e w5 ⟨t5,bC,rfl,B5⟩;have aB:=hJ (aS.o.over B5);have aW:=hJ (show t5.size<=1000 by omega);clear B5 aS bC;obtain⟨p0,p1,p2,f0,f1,f2,m9⟩:=aB.o.cells;have aG:=hJ (aB.o.setT t5);clear aB;obtain⟨q0,q1,q2,z0,z1,z2,m0⟩:=aG.o.ress;obtain⟨s0,s1,s2,r0,r1,r2,r9⟩:=aG.o.cells;have H9:=hJ (aG.o.fin (.bool d) (.slice b2 xs.length e2) (.string t5));clear aG;go_wp2;exact bodyPost_ret (v:=.agg #[.bool d,.slice b2 xs.length e2,.string t5]) sQ3 rfl ⟨_,_,_,_,rfl,H9.o.1,⟨HK.o.1,HK.o.2.1,aW.o⟩,H9.o.2⟩
 ·obtain⟨p0,p1,p2,f0,f1,f2,m9⟩:=HS3.o.cells;rcases HK.o.1 with hx0|aF
  ·exact cQ50
  obtain⟨g,aT,e0,-,-,-,aY,bG,-⟩:=HS3.o.own.at 0 (by rw[aF];decide);simp only[Value.slice.injEq,true_and]at e0;obtain⟨rfl,rfl⟩:=e0;have aC:=hJ aF;rw[aF]at HS3 p1 ⊢;clear aF;have aD:c≠w3.1.size:=by have h1:=HS3.o.hc;have h2:=HS3.o.dr.2.size;omega
  clear p0 p1 p2 f0 f1 f2 m9;have p1:=HS3.o.cells.2.1;go_wp2_with fail
  clear p1
  go_region_held3 (fun w'=>w'.cell? ⟨w2.1.size,1,none⟩=some (.slice (some ⟨g,0,none⟩) 4 e2)) (first| exact HS3.o.drew.cells.2.1|exact(HS3.o.drew.alloc _).cells.2.1|exact((HS3.o.drew.alloc _).drews D8).cells.2.1|exact(aB.o.setI aC.o.symm 1 (by rw[aC.o];decide) z8).cells.2.1) (first| (go_at_call 66;refine(zbh w0 _ c w3.drew.1.size a len cap [-1,0,8,9] HO.o hlen (HS3.o.drew.alloc _).dr.cur (za2 w3.drew _) aD sI sI).mono ?_;rintro e w8 ⟨z8,aN,rfl,D8⟩;have aU:=hJ aN;clear aN;have aB:=hJ ((HS3.o.drew.alloc _).drews D8);obtain⟨g',e',e0,t0,t1,t2,-,-,-⟩:=aB.o.own.at 1 (by rw[aC.o];decide);simp only[Value.slice.injEq,Option.some.injEq,Addr.mk.injEq,and_true]at e0;obtain⟨rfl,-,rfl⟩:=e0))
  have aX:1<xs.length:=by rw[aC.o];decide
  have aK:Hid (∃X,Sk w0 w (w8.setCell ⟨g,3,none⟩ (.int .i64 z8)) c a len cap w2.1.size d (.slice (some ⟨g,0,none⟩) 4 e2) t X/\BkN X t):=⟨_,aB.o.setI aC.o.symm 1 (by rw[aC.o];decide) z8,HK.o.set (s:=(xs[1].1,z8)) (HK.o.2.1 xs[1] (List.getElem_mem aX))⟩
  clear HS3 aB D8 t0 t1 t2 aD;obtain⟨w9,aM⟩:∃w9,w8.setCell ⟨g,3,none⟩ (.int .i64 z8)=w9:=⟨_,rfl⟩
  rw[aM]at aK ⊢;clear aM;obtain⟨X,aO,aQ⟩:=aK.o;have aH:=hJ aO;have aR:=hJ aQ;clear aK aO aQ;obtain⟨q0,q1,q2,z0,z1,z2,m0⟩:=aH.o.ress;obtain⟨s0,s1,s2,r0,r1,r2,r9⟩:=aH.o.cells;have H9:=hJ (aH.o.fin (.bool d) (.slice (some ⟨g,0,none⟩) 4 e2) (.string t));clear aH;go_wp2;exact bodyPost_ret (v:=.agg #[.bool d,.slice (some ⟨g,0,none⟩) 4 e2,.string t]) sQ3 rfl ⟨_,_,_,_,rfl,H9.o.1,aR.o,H9.o.2⟩
 ·obtain⟨p0,p1,p2,f0,f1,f2,m9⟩:=HS3.o.cells;rcases HK.o.1 with hx0|aF
  ·exact cQ50
  obtain⟨g,aT,e0,-,-,-,aY,bG,-⟩:=HS3.o.own.at 0 (by rw[aF];decide);simp only[Value.slice.injEq,true_and]at e0;obtain⟨rfl,rfl⟩:=e0;have aC:=hJ aF;rw[aF]at HS3 p1 ⊢;clear aF;have aD:c≠w3.1.size:=by have h1:=HS3.o.hc;have h2:=HS3.o.dr.2.size;omega
  clear p0 p1 p2 f0 f1 f2 m9;have p1:=HS3.o.cells.2.1;go_wp2_with fail
  clear p1
  go_region_held3 (fun w'=>w'.cell? ⟨w2.1.size,1,none⟩=some (.slice (some ⟨g,0,none⟩) 4 e2)) (first| exact HS3.o.drew.cells.2.1|exact(HS3.o.drew.alloc _).cells.2.1|exact((HS3.o.drew.alloc _).drews D8).cells.2.1|exact(aB.o.setN aC.o.symm 0 (by rw[aC.o];decide) z8).cells.2.1) (first| (go_at_call 128;refine(zdv w0 _ c w3.drew.1.size a len cap [⟨#[]⟩,⟨#[65]⟩,⟨#[97]⟩,⟨#[97,98,99,100,101,102,103]⟩] HO.o hlen (HS3.o.drew.alloc _).dr.cur (za2 w3.drew _) aD sI sI).mono ?_;rintro e w8 ⟨z8,aN,rfl,D8⟩;have aU:=hJ aN;clear aN;have aB:=hJ ((HS3.o.drew.alloc _).drews D8);obtain⟨g',e',e0,t0,t1,t2,-,-,-⟩:=aB.o.own.at 0 (by rw[aC.o];decide);simp only[Value.slice.injEq,Option.some.injEq,Addr.mk.injEq,and_true]at e0;obtain⟨rfl,-,rfl⟩:=e0))
  have aZ:z8.size<=1000:=by have h:=aU.o;simp only[List.mem_cons,List.not_mem_nil,or_false]at h;rcases h with rfl|rfl|rfl|rfl<;>decide
  have aK:Hid (∃X,Sk w0 w (w8.setCell ⟨g,0,none⟩ (.string z8)) c a len cap w2.1.size d (.slice (some ⟨g,0,none⟩) 4 e2) t X/\BkN X t):=⟨_,aB.o.setN aC.o.symm 0 (by rw[aC.o];decide) z8,HK.o.set (aZ)⟩
  clear HS3 aB D8 t0 t1 t2 aD;obtain⟨w9,aM⟩:∃w9,w8.setCell ⟨g,0,none⟩ (.string z8)=w9:=⟨_,rfl⟩
  rw[aM]at aK ⊢;clear aM;obtain⟨X,aO,aQ⟩:=aK.o;have aH:=hJ aO;have aR:=hJ aQ;clear aK aO aQ;obtain⟨q0,q1,q2,z0,z1,z2,m0⟩:=aH.o.ress;obtain⟨s0,s1,s2,r0,r1,r2,r9⟩:=aH.o.cells;have H9:=hJ (aH.o.fin (.bool d) (.slice (some ⟨g,0,none⟩) 4 e2) (.string t));clear aH;go_wp2;exact bodyPost_ret (v:=.agg #[.bool d,.slice (some ⟨g,0,none⟩) 4 e2,.string t]) sQ3 rfl ⟨_,_,_,_,rfl,H9.o.1,aR.o,H9.o.2⟩
 have e0:((x:Int)==0)=false:=by simp;omega
 have e1:((x:Int)==1)=false:=by simp;omega
 have aT:((x:Int)==2)=false:=by simp;omega
 have e3:((x:Int)==3)=false:=by simp;omega
 obtain⟨q0,q1,q2,z0,z1,z2,m0⟩:=HS3.o.ress;obtain⟨s0,s1,s2,r0,r1,r2,r9⟩:=HS3.o.cells;have H9:=hJ (HS3.o.fin (.bool d) (.slice b2 xs.length e2) (.string t));clear HS3;go_wp2;exact bodyPost_ret (v:=.agg #[.bool d,.slice b2 xs.length e2,.string t]) sQ3 rfl ⟨_,_,_,_,rfl,H9.o.1,HK.o,H9.o.2⟩
theorem zjw(w:Wd)(T:TypeId)(v:Va):(w.alloc (.cells #[v] T)).cell? ⟨w.1.size,0,none⟩=some v:=cell_of_row _ _ 0 #[v] T _ (za2 w _)
def Nw(B:Nat)(v:Va):Prop:=∀g o n c,v=.slice (aA g o) n c->B<=g
theorem Nw.mono{B B':Nat}{v:Va}(h:Nw B v)(hb:B'<=B):Nw B' v:=fun g o n c e=>lT hb (h g o n c e)
structure Db(w0 w w':Wd)(c:Nat)(a:OA)(len cap:Nat)(bx:Nat)(u v:Va)(g k n:Nat)(xs ys:List Bool):Prop where
 res:AtC w' w.1.size 26 #[nZ,nZ]
 x:AtC w' bx 26 #[u,v]
 nx:n=xs.length
 ga:ROwns w' (w.1.size+1) 4 (.slice (aA g 0) n k) (fc xs)
 gb:ROwns w' (w.1.size+1) 4 v (fc ys)
 gx:g≠bx
 gv:v.ownBlock≠some g
 xv:v.ownBlock≠some bx
 dr:Drew w0 w w' c a len cap
 hx:w.1.size<bx
 hc:c<w.1.size
namespace Db
variable {w0 w w' : World} {c len cap bx g k n : Nat} {a : Option Addr} {u v : Value} {xs ys : List Bool}
theorem gl(h:Db w0 w w' c a len cap bx u v g k n xs ys):w.1.size<g/\g<w'.1.size:=h.ga.lt g rfl
theorem drews(h:Db w0 w w' c a len cap bx u v g k n xs ys){w2:World}(hd:Drew w0 w' w2 c a len cap):Db w0 w w2 c a len cap bx u v g k n xs ys:=by
 have h1:=h.hc;have h2:=h.hx;have h3:=h.gl;exact⟨h.res.grown hd.2 (by intro e;cases e;omega),h.x.grown hd.2 (by intro e;cases e;omega),h.nx,h.ga.grown hd.2 (fun j hj e=>by cases e;have:=(h.ga.lt _ hj).1;omega),h.gb.grown hd.2 (fun j hj e=>by cases e;have:=(h.gb.lt _ hj).1;omega),h.gx,h.gv,h.xv,h.dr.trans hd,h.hx,h.hc⟩
theorem drew(h:Db w0 w w' c a len cap bx u v g k n xs ys):Db w0 w w'.drew c a len cap bx u v g k n xs ys:=⟨h.res,h.x,h.nx,h.ga.drew,h.gb.drew,h.gx,h.gv,h.xv,h.dr.drew,h.hx,h.hc⟩
theorem over(h:Db w0 w w' c a len cap bx u v g k n xs ys){w2:World}(hb:Below w'.1.size w' w2):Db w0 w w2 c a len cap bx u v g k n xs ys:=⟨h.res.over hb,h.x.over hb,h.nx,h.ga.below hb nR,h.gb.below hb nR,h.gx,h.gv,h.xv,h.dr.below h.hc hb,h.hx,h.hc⟩
theorem oth{b:Nat}{z:Value}{l:List Value}{v:Value}(h:ROwns w' (w.1.size+1) 4 v l)(hb:v.ownBlock≠some b)(j:Nat):ROwns (w'.setCell ⟨b,j,none⟩ z) (w.1.size+1) 4 v l :=
 h.of_heap fun q hq=>heap_setCell_other _ ⟨b,j,none⟩ q _ (fun e=>hb (by rw[hq];exact congrArg some e))
theorem setA(h:Db w0 w w' c a len cap bx u v g k n xs ys)(j:Nat)(z:Bool):Db w0 w (w'.setCell ⟨g,j,none⟩ (.bool z)) c a len cap bx u v g k n (xs.set j z) ys:=by
 have h3:=h.gl;refine⟨h.res.other oM _,h.x.other (Ne.symm h.gx) _,by rw[List.length_set];exact h.nx,?_,oth h.gb h.gv j,h.gx,h.gv,h.xv,h.dr.setCell h.hc oM _,h.hx,h.hc⟩;have ho:=h.ga;have hn:n=(fc xs).length:=by rw[zad];exact h.nx
 subst hn;rw[zcl];exact(ROwns.stored ho j (.bool z)).1
theorem setB{g2 k2 n2:Nat}(h:Db w0 w w' c a len cap bx u (.slice (some ⟨g2,0,none⟩) n2 k2) g k n xs ys)(hn2:n2=ys.length)(j:Nat)(z:Bool):Db w0 w (w'.setCell ⟨g2,j,none⟩ (.bool z)) c a len cap bx u (.slice (some ⟨g2,0,none⟩) n2 k2) g k n xs (ys.set j z):=by
 have h4:=h.gb.lt g2 rfl;have h5:g2≠bx:=fun e=>h.xv (by rw[←e];rfl);have h6:g≠g2:=fun e=>h.gv (by rw[e];rfl);refine⟨h.res.other oM _,h.x.other (Ne.symm h5) _,h.nx,oth h.ga (fun e=>h6 (Option.some.inj e)) j,?_,h.gx,h.gv,h.xv,h.dr.setCell h.hc oM _,h.hx,h.hc⟩;have ho:=h.gb;have hn:n2=(fc ys).length:=by rw[zad];exact hn2
 subst hn;rw[zcl];exact(ROwns.stored ho j (.bool z)).1
theorem setU(h:Db w0 w w' c a len cap bx u v g k n xs ys)(z:Value):Db w0 w (w'.setCell ⟨bx,0,none⟩ z) c a len cap bx z v g k n xs ys :=
 ⟨h.res.other (by have:=h.hx;omega) _,h.x.set 0 _,h.nx,oth h.ga (fun e=>h.gx (Option.some.inj e)) 0,oth h.gb h.xv 0,h.gx,h.gv,h.xv,h.dr.setCell h.hc (by have:=h.hx;omega) _,h.hx,h.hc⟩
theorem cells(h:Db w0 w w' c a len cap bx u v g k n xs ys):w'.cell? ⟨bx,0,none⟩=some u/\w'.cell? ⟨bx,1,none⟩=some v/\w'.frozen? ⟨bx,0,none⟩=false/\w'.frozen? ⟨bx,1,none⟩=false/\bx<w'.1.size:=⟨h.x.cell 0,h.x.cell 1,h.x.frozen 0,h.x.frozen 1,h.x.lt⟩
theorem ress(h:Db w0 w w' c a len cap bx u v g k n xs ys):w'.cell? ⟨w.1.size,0,none⟩=some (.slice none 0 0)/\w'.cell? ⟨w.1.size,1,none⟩=some (.slice none 0 0)/\w'.frozen? ⟨w.1.size,0,none⟩=false/\w'.frozen? ⟨w.1.size,1,none⟩=false/\w.1.size<w'.1.size:=⟨h.res.cell 0,h.res.cell 1,h.res.frozen 0,h.res.frozen 1,h.res.lt⟩
theorem atA(h:Db w0 w w' c a len cap bx u v g k n xs ys)(j:Nat)(hj:j<xs.length):w'.cell? ⟨g,j,none⟩=some (.bool xs[j])/\w'.frozen? ⟨g,j,none⟩=false:=by
 obtain⟨g',k',e,hc,hf,-⟩:=h.ga.at j (by rw[zad];exact hj);simp only[Value.slice.injEq,Option.some.injEq,Addr.mk.injEq,and_true]at e;obtain⟨rfl,-,rfl⟩:=e;refine⟨hc.trans ?_,hf⟩;simp[fc,hj]
theorem atB{g2 k2 n2:Nat}(h:Db w0 w w' c a len cap bx u (.slice (some ⟨g2,0,none⟩) n2 k2) g k n xs ys)(j:Nat)(hj:j<ys.length):w'.cell? ⟨g2,j,none⟩=some (.bool ys[j])/\w'.frozen? ⟨g2,j,none⟩=false:=by
 obtain⟨g',k',e,hc,hf,-⟩:=h.gb.at j (by rw[zad];exact hj);simp only[Value.slice.injEq,Option.some.injEq,Addr.mk.injEq,and_true]at e;obtain⟨rfl,-,rfl⟩:=e;refine⟨hc.trans ?_,hf⟩;simp[fc,hj]
theorem fin(h:Db w0 w w' c a len cap bx u v g k n xs ys)(x y:Value):RFl ((w'.setCell ⟨w.1.size,0,none⟩ x).setCell ⟨w.1.size,1,none⟩ y) (.slice (some ⟨g,0,none⟩) n k) xs/\RFl ((w'.setCell ⟨w.1.size,0,none⟩ x).setCell ⟨w.1.size,1,none⟩ y) v ys/\Drew w0 w ((w'.setCell ⟨w.1.size,0,none⟩ x).setCell ⟨w.1.size,1,none⟩ y) c a len cap/\(∀o n' k',Nw w.1.size (.slice (some ⟨g,o,none⟩) n' k'))/\Nw w.1.size v :=
 ⟨((h.ga.setCell_other oM _).setCell_other oM _).rfl,((h.gb.setCell_other oM _).setCell_other oM _).rfl,(h.dr.setCell h.hc nR _).setCell h.hc nR _,fun o n' k' g' o' m c e=>(by cases e;have:=h.gl;omega),fun g' o' m c e=>(by subst e;have:=(h.gb.lt g' rfl).1;omega)⟩
end Db
theorem zg0{w:World}{g n k:Nat}{xs:List Bool}(h:RFl w (.slice (some ⟨g,0,none⟩) n k) xs)(h0:0<xs.length)(k':Nat):RFl w (.slice (some ⟨g,1,none⟩) (n-1) k') xs.tail:=by
 obtain⟨a,c,e,hc⟩:=h;simp only[Value.slice.injEq]at e;obtain⟨rfl,rfl,rfl⟩:=e;refine⟨some ⟨g,1,none⟩,k',by rw[List.length_tail],fun j hj=>?_⟩;obtain⟨g',o',e,hg,hk⟩:=hc (j+1) (by rw[List.length_tail]at hj;omega);simp only[Option.some.injEq,Addr.mk.injEq,and_true]at e;obtain⟨rfl,rfl⟩:=e;refine⟨g,1,rfl,hg,?_⟩;rw[show(1+j)=0+(j+1)by omega,hk];simp
theorem zjx{w0 w w' w2:World}{c len cap:Nat}{a:Option Addr}(h:Drew w0 w w' c a len cap)(hc:c<w.1.size){r:Option Nat}(hg:w'.grownBy w2 r)(hr:∀k,r=some k->w.1.size<=k):Drew w0 w w2 c a len cap:=by
 have h1:=h.1.1;have h2:=h.1.2.1.size;have h3:=h.2.size;refine⟨⟨h.1.1,h.1.2.1.grown hg h2 (fun k hk=>by have:=hr k hk;omega),?_⟩,⟨hg.os.trans h.2.os,hg.tape.trans h.2.tape,hg.output.trans h.2.output,Nat.le_trans h3 hg.size,fun k hk hn=>(hg.block k (Nat.lt_of_lt_of_le hk h3) (fun e=>by have:=hr k e.symm;omega)).trans (h.2.block k hk hn)⟩⟩;obtain⟨i,y,hk,hi⟩:=h.1.2.2;exact⟨i,y,(hg.block c (Nat.lt_of_lt_of_le hc h3) (fun e=>by have:=hr c e.symm;omega)).trans hk,hi⟩
theorem Tryz.i4b:(Tryz.prog.info? 4).map (fun i=>(i.zero,i.size,i.bytes))=some (some (.bool false),1,1):=by kernel_rfl
theorem Db.app{w0 w w' w2:World}{c len cap bx g k n:Nat}{a:Option Addr}{u v v2:Value}{xs ys:List Bool}(h:Db w0 w w' c a len cap bx u v g k n xs ys)(ho:ROwns w2 (w.1.size+1) 4 v2 (fc (ys++[true])))(hg:w'.grownBy w2 v.ownBlock)(hv:∀k,v2.ownBlock=some k->v.ownBlock=some k\/w'.1.size<=k):Db w0 w (w2.setCell ⟨bx,1,none⟩ v2) c a len cap bx u v2 g k n xs (ys++[true]):=by
 have h1:=h.hx;have h2:=h.gl;have h3:=h.x.lt;have n1:v2.ownBlock≠some g:=fun e=>(hv g e).elim h.gv (fun e=>by omega);have n2:v2.ownBlock≠some bx:=fun e=>(hv bx e).elim h.xv (fun e=>by omega);have hl:∀q,v.ownBlock=some q->w.1.size+1<=q:=fun q e=>(h.gb.lt q e).1;have r2:=h.res.grown hg (fun e=>by have:=hl _ e;omega);have x2:=h.x.grown hg h.xv;have a2:=h.ga.grown hg (fun q e e'=>h.gv (e'.trans e.symm));exact⟨r2.other oM _,x2.set 1 _,h.nx,Db.oth a2 (fun e=>h.gx (Option.some.inj e)) 1,Db.oth ho n2 1,h.gx,n1,n2,(zjx h.dr h.hc hg (fun q e=>by have:=hl q e;omega)).setCell h.hc oM _,h.hx,h.hc⟩
theorem zml(w0 w:World)(c:Nat)(a:Option Addr)(len cap:Nat)(hcode:za0 w0 a len)(hlen:len<=1048576)(hcur:Cur 103 w0 w c a len cap)(hcw:c<w.1.size):
  Calls Tryz.prog 99 #[.pointer (some ⟨c,0,none⟩)] w fun e w'=>∃(u v:Value)(xs ys:List Bool),e=.returned (.agg #[u,v])/\RFl w' u xs/\RFl w' v ys/\xs.length<=100/\ys.length<=100/\Drew w0 w w' c a len cap/\Nw w.1.size u/\Nw w.1.size v:=by
 have HC:=hJ hcur;have HO:=hJ hcode;clear hcur hcode;obtain⟨W0,bH⟩:∃W0,w.alloc (.cells #[.slice none 0 0,.slice none 0 0] 26)=W0:=⟨_,rfl⟩
 have bC:Hid (AtC W0 w.1.size 26 #[.slice none 0 0,.slice none 0 0]/\Drew w0 w W0 c a len cap/\w.1.size<W0.1.size):=by
  rw[←bH];exact⟨AtC.new w 26 _,(Drew.refl HC.o).alloc hcw _,by simp⟩
 go_enter Tryz.func99,Tryz.ntmps99
 go_wp2_with fail
 clear bH;refine(Xd.specNew_anyB W0).mono ?_;rintro e w1 ⟨u,v,rfl,T1,B1⟩;obtain⟨g1,k1,rfl,-,-,bL,aW,-⟩:=T1.a.at 0 dC;obtain⟨g2,k2,rfl,-,-,bI,aN,-⟩:=T1.b.at 0 dC;have bG:g1≠g2:=fun e=>T1.ne g1 rfl (by rw[e];rfl);have HD:Hid (Db w0 w (w1.alloc (.cells #[.slice (some ⟨g1,0,none⟩) 16 k1,.slice (some ⟨g2,0,none⟩) 8 k2] 26)) c a len cap w1.1.size (.slice (some ⟨g1,0,none⟩) 16 k1) (.slice (some ⟨g2,0,none⟩) 8 k2) g1 k1 16 newX newY):=by
  obtain⟨h1,h2,h3⟩:=bC.o;have hs:=B1.size;exact⟨(h1.over B1).alloc _,AtC.new w1 26 _,rfl,(T1.a.base_le oM).alloc _,(T1.b.base_le oM).alloc _,by omega,fun e=>bG (Option.some.inj e).symm,fun e=>Nat.ne_of_lt aN (Option.some.inj e),(h2.below hcw B1).alloc hcw _,by omega,hcw⟩
 clear T1 B1 bC HC bL aW bI aN bG;go_wp2_with fail
 have HX:Hid (∃xs ys,xs.length=16/\ys.length=8/\Db w0 w _ c a len cap w1.1.size (.slice (some ⟨g1,0,none⟩) 16 k1) (.slice (some ⟨g2,0,none⟩) 8 k2) g1 k1 16 xs ys):=⟨_,_,rfl,rfl,HD.o⟩
 clear HD;go_loopw [4] (fun i wr=>∃j:Nat,j<=16/\i=.int .i64 j/\Hid (∃xs ys,xs.length=16/\ys.length=8/\Db w0 w wr c a len cap w1.1.size (.slice (some ⟨g1,0,none⟩) 16 k1) (.slice (some ⟨g2,0,none⟩) 8 k2) g1 k1 16 xs ys)) (fun i _=>16-(intOf i).toNat)
 case atStart=>exact⟨0,Nat.zero_le _,rfl,HX.o⟩
 obtain⟨j,hj,rfl,HR⟩:=hrel;obtain⟨xs,ys,hx,hy,aU⟩:=HR.o;have HN:=hJ (And.intro hx hy);have HD:=hJ aU;clear hx hy aU HR HX;have j0:(0:Int)<=(j:Int):=by omega
 obtain⟨p0,p1,-,-,-⟩:=HD.o.cells;by_cases hlt:j<16
 ·have j1:(j:Int)<16:=by omega
  go_upto_region 5 with fail
  clear p0 p1
  go_region_held3 (fun w'=>w'.cell? ⟨w1.1.size,0,none⟩=some (.slice (some ⟨g1,0,none⟩) 16 k1)) (first| exact HD.o.drew.cells.1|exact(HD.o.drew.drews D8).cells.1|exact((HD.o.drew.drews D8).setA j (z8==0)).cells.1) (first| (go_at_call 35;refine(zaw w0 _ c a len cap 2 HO.o hlen HD.o.drew.dr.cur dC dC).mono ?_;rintro e w8 ⟨z8,rfl,D8⟩;obtain⟨t0,t1⟩:=(HD.o.drew.drews D8).atA j (by have:=HN.o;omega)))
  have aY:Hid (∃xs ys,xs.length=16/\ys.length=8/\Db w0 w (w8.setCell ⟨g1,j,none⟩ (.bool (z8==0))) c a len cap w1.1.size (.slice (some ⟨g1,0,none⟩) 16 k1) (.slice (some ⟨g2,0,none⟩) 8 k2) g1 k1 16 xs ys):=⟨_,_,by have:=HN.o;simp;omega,by have:=HN.o;omega,(HD.o.drew.drews D8).setA j (z8==0)⟩
  clear D8 t0 t1 HD HN;go_wp2;go_roundw
  case rel=>exact⟨j+1,by omega,by go_num,aY.o⟩
  simp[intOf];omega
 have j1:¬(j:Int)<16:=by omega
 clear hj j0;go_wp2_with fail
 have HX:Hid (∃xs ys,xs.length=16/\ys.length=8/\Db w0 w _ c a len cap w1.1.size (.slice (some ⟨g1,0,none⟩) 16 k1) (.slice (some ⟨g2,0,none⟩) 8 k2) g1 k1 16 xs ys):=⟨_,_,HN.o.1,HN.o.2,HD.o⟩
 clear HD p0 p1;go_loopw [5] (fun i wr=>∃j:Nat,j<=8/\i=.int .i64 j/\Hid (∃xs ys,xs.length=16/\ys.length=8/\Db w0 w wr c a len cap w1.1.size (.slice (some ⟨g1,0,none⟩) 16 k1) (.slice (some ⟨g2,0,none⟩) 8 k2) g1 k1 16 xs ys)) (fun i _=>8-(intOf i).toNat)
 case atStart=>exact⟨0,Nat.zero_le _,rfl,HX.o⟩
 obtain⟨j,hj,rfl,HR⟩:=hrel;obtain⟨xs,ys,hx,hy,aU⟩:=HR.o;have HN:=hJ (And.intro hx hy);have HD:=hJ aU;clear hx hy aU HR HX;have j0:(0:Int)<=(j:Int):=by omega
 obtain⟨p0,p1,-,-,-⟩:=HD.o.cells;by_cases hlt:j<8
 ·have j1:(j:Int)<8:=by omega
  go_upto_region 9 with fail
  clear p0 p1
  go_region_held3 (fun w'=>w'.cell? ⟨w1.1.size,1,none⟩=some (.slice (some ⟨g2,0,none⟩) 8 k2)) (first| exact HD.o.drew.cells.2.1|exact(HD.o.drew.drews D8).cells.2.1|exact((HD.o.drew.drews D8).setB HN.o.2.symm j (z8==0)).cells.2.1) (first| (go_at_call 35;refine(zaw w0 _ c a len cap 2 HO.o hlen HD.o.drew.dr.cur dC dC).mono ?_;rintro e w8 ⟨z8,rfl,D8⟩;obtain⟨t0,t1⟩:=(HD.o.drew.drews D8).atB j (by have:=HN.o;omega)))
  have aY:Hid (∃xs ys,xs.length=16/\ys.length=8/\Db w0 w (w8.setCell ⟨g2,j,none⟩ (.bool (z8==0))) c a len cap w1.1.size (.slice (some ⟨g1,0,none⟩) 16 k1) (.slice (some ⟨g2,0,none⟩) 8 k2) g1 k1 16 xs ys):=⟨_,_,by have:=HN.o;omega,by have:=HN.o;simp;omega,(HD.o.drew.drews D8).setB HN.o.2.symm j (z8==0)⟩
  clear D8 t0 t1 HD HN;go_wp2;go_roundw
  case rel=>exact⟨j+1,by omega,by go_num,aY.o⟩
  simp[intOf];omega
 have j1:¬(j:Int)<8:=by omega
 clear hj j0;go_wp2_with fail
 refine(zaw w0 _ c a len cap 10 HO.o hlen HD.o.dr.cur dC dC).mono ?_;rintro e w5 ⟨z5,rfl,D5⟩;have aD:=hJ (HD.o.drews D5);clear D5 HD p0 p1 j1 hlt
 cases hz5:(z5==0)with
 | false =>
  go_wp2_with fail
  refine(zaw w0 _ c a len cap 10 HO.o hlen aD.o.dr.cur dC dC).mono ?_;rintro e w7 ⟨z7,rfl,D7⟩;have aC:=hJ (aD.o.drews D7);clear D7 aD
  cases hz7:(z7==0)with
  | false =>
   obtain⟨q0,q1,z0,z1,m0⟩:=aC.o.ress;obtain⟨s0,s1,r0,r1,r9⟩:=aC.o.cells;have H9:=hJ (aC.o.fin (.slice (some ⟨g1,0,none⟩) 16 k1) (.slice (some ⟨g2,0,none⟩) 8 k2));clear aC;go_wp2;exact bodyPost_ret (v:=.agg #[.slice (some ⟨g1,0,none⟩) 16 k1,.slice (some ⟨g2,0,none⟩) 8 k2]) (by simp[results,go_sem,q0,q1]) rfl ⟨_,_,_,_,rfl,H9.o.1,H9.o.2.1,by have:=HN.o;simp at this ⊢;omega,by have:=HN.o;omega,H9.o.2.2.1,H9.o.2.2.2.1 _ _ _,H9.o.2.2.2.2⟩
  | true =>
   obtain⟨p0,p1,f0,f1,m1⟩:=aC.o.cells;have aH:=hJ (aC.o.over ((Below.refl _ w7).alloc nR (.cells #[.bool true] 4)));have aX:=hJ (zjw w7 4 (.bool true));have aV:Hid (w.1.size+1<=(w7.alloc (.cells #[.bool true] 4)).1.size):=by have:=aC.o.res.lt;show _<=_;simp;omega
   have aZ:Hid ((fc ys).length<=100000000000):=by show _<=_;rw[zad];have:=HN.o;omega
   clear aC;go_wp2_with (at_builtin;refine wpList_step fun K' aO=>?_;refine zam _ rfl (.tmp 42) (.tmp 43) 24 rfl (w.1.size+1) 4 Tryz.u24 _ 1 Tryz.i4b rfl dC (.slice (some ⟨g2,0,none⟩) 8 k2) _ rfl aH.o.gb aV.o w7.1.size (.bool true) rfl aX.o rfl aZ.o ?_;intro bK bJ aK aL aR;obtain⟨aT,aP,aS,-⟩:=aK.form;obtain⟨aQ,aG⟩:∃n,(fc ys++[Value.bool true]).length=n:=⟨_,rfl⟩;rw[aG]at aS;subst aS;have aF:=hJ (aH.o.x.grown aL aH.o.xv);have y1:=aF.o.cell 1;have y2:=aF.o.frozen 1;refine aO _ _ ?_;have aB:=hJ (aH.o.app (by rw[zdo];exact aK) aL aR);clear aG;obtain⟨q0,q1,z0,z1,m0⟩:=aB.o.ress;obtain⟨s0,s1,r0,r1,r9⟩:=aB.o.cells;have H9:=hJ (aB.o.fin (.slice (some ⟨g1,0,none⟩) 16 k1) (.slice aT aQ aP));clear aB aK aL aR aO)
   exact bodyPost_ret (v:=.agg #[.slice (some ⟨g1,0,none⟩) 16 k1,.slice aT aQ aP]) (by simp[results,go_sem,q0,q1]) rfl ⟨_,_,_,_,rfl,H9.o.1,H9.o.2.1,by have:=HN.o;simp at this ⊢;omega,by have:=HN.o;simp;omega,H9.o.2.2.1,H9.o.2.2.2.1 _ _ _,H9.o.2.2.2.2⟩
 | true =>
  have kk:1<=16:=by decide
  obtain⟨p0,p1,f0,f1,m1⟩:=aD.o.cells;have bM:16<=k1:=by
   obtain⟨_,_,e,_,_,_,_,h⟩:=aD.o.ga.at 0 (by rw[zad];have:=HN.o;omega);simp only[Value.slice.injEq]at e;obtain⟨-,-,rfl⟩:=e;rw[zad]at h;have:=HN.o;omega
  have aM:=hJ (aD.o.setU (.slice (some ⟨g1,1,none⟩) 15 (k1-1)));obtain⟨w6,bE⟩:∃w6,w5.setCell ⟨w1.1.size,0,none⟩ (.slice (some ⟨g1,1,none⟩) 15 (k1-1))=w6:=⟨_,rfl⟩
  rw[bE]at aM;clear aD;have aD:=aM;clear aM;go_wp2_with fail
  clear bE p0 p1 f0 f1 m1;refine(zaw w0 _ c a len cap 10 HO.o hlen aD.o.dr.cur dC dC).mono ?_;rintro e w7 ⟨z7,rfl,D7⟩;have aC:=hJ (aD.o.drews D7);clear D7 aD
  cases hz7:(z7==0)with
  | false =>
   obtain⟨q0,q1,z0,z1,m0⟩:=aC.o.ress;obtain⟨s0,s1,r0,r1,r9⟩:=aC.o.cells;have H9:=hJ (aC.o.fin (.slice (some ⟨g1,1,none⟩) 15 (k1-1)) (.slice (some ⟨g2,0,none⟩) 8 k2));clear aC;go_wp2;exact bodyPost_ret (v:=.agg #[.slice (some ⟨g1,1,none⟩) 15 (k1-1),.slice (some ⟨g2,0,none⟩) 8 k2]) (by simp[results,go_sem,q0,q1]) rfl ⟨_,_,xs.tail,_,rfl,zg0 H9.o.1 (by have:=HN.o;omega) _,H9.o.2.1,by have:=HN.o;simp at this ⊢;omega,by have:=HN.o;omega,H9.o.2.2.1,H9.o.2.2.2.1 _ _ _,H9.o.2.2.2.2⟩
  | true =>
   obtain⟨p0,p1,f0,f1,m1⟩:=aC.o.cells;have aH:=hJ (aC.o.over ((Below.refl _ w7).alloc nR (.cells #[.bool true] 4)));have aX:=hJ (zjw w7 4 (.bool true));have aV:Hid (w.1.size+1<=(w7.alloc (.cells #[.bool true] 4)).1.size):=by have:=aC.o.res.lt;show _<=_;simp;omega
   have aZ:Hid ((fc ys).length<=100000000000):=by show _<=_;rw[zad];have:=HN.o;omega
   clear aC;go_wp2_with (at_builtin;refine wpList_step fun K' aO=>?_;refine zam _ rfl (.tmp 42) (.tmp 43) 24 rfl (w.1.size+1) 4 Tryz.u24 _ 1 Tryz.i4b rfl dC (.slice (some ⟨g2,0,none⟩) 8 k2) _ rfl aH.o.gb aV.o w7.1.size (.bool true) rfl aX.o rfl aZ.o ?_;intro bK bJ aK aL aR;obtain⟨aT,aP,aS,-⟩:=aK.form;obtain⟨aQ,aG⟩:∃n,(fc ys++[Value.bool true]).length=n:=⟨_,rfl⟩;rw[aG]at aS;subst aS;have aF:=hJ (aH.o.x.grown aL aH.o.xv);have y1:=aF.o.cell 1;have y2:=aF.o.frozen 1;refine aO _ _ ?_;have aB:=hJ (aH.o.app (by rw[zdo];exact aK) aL aR);clear aG;obtain⟨q0,q1,z0,z1,m0⟩:=aB.o.ress;obtain⟨s0,s1,r0,r1,r9⟩:=aB.o.cells;have H9:=hJ (aB.o.fin (.slice (some ⟨g1,1,none⟩) 15 (k1-1)) (.slice aT aQ aP));clear aB aK aL aR aO)
   exact bodyPost_ret (v:=.agg #[.slice (some ⟨g1,1,none⟩) 15 (k1-1),.slice aT aQ aP]) (by simp[results,go_sem,q0,q1]) rfl ⟨_,_,xs.tail,_,rfl,zg0 H9.o.1 (by have:=HN.o;omega) _,H9.o.2.1,by have:=HN.o;simp at this ⊢;omega,by have:=HN.o;simp;omega,H9.o.2.2.1,H9.o.2.2.2.1 _ _ _,H9.o.2.2.2.2⟩
def SqR(B:Nat)(w:Wd)(e:Ending)(l:List BA)(ok:Bool):Prop:=∃lv:Value,e=.returned (.tuple #[lv,.bool ok])/\ROwns w B 9 lv (stc l)
theorem SqR.eq{B:Nat}{w:Wd}{l l':List BA}{ok ok':Bool}(h:l'=l/\ok'=ok){lv:Va}(ho:ROwns w B 9 lv (stc l)):SqR B w (.returned (.tuple #[lv,.bool ok])) l' ok':=by
 obtain⟨rfl,rfl⟩:=h;exact⟨lv,rfl,ho⟩
end Go.Proofs.YtgnplpmgkegcnaaGreat
