/- Texts. -/
import Derived.Test.YtgnplpmgkegcnaaGreatW03
import Derived.Test.YtgnplpmgkegcnaaGreatW02
set_option maxRecDepth 100000
set_option maxHeartbeats 12800000
namespace Go.Proofs.YtgnplpmgkegcnaaGreat
namespace Kit
open Go.RowKit
theorem all_no{α:Type}{f:α->Bool}{l:List α}{j:Nat}(h:j<l.length)(hf:f l[j]=false):l.all f=false:=by
 rw[List.all_eq_false];exact⟨l[j],gM_ h,by simp[hf]⟩
theorem zmg{α:Type}{f:α->Bool}{l:List α}(h:∀(j:Nat)(h:j<l.length),f l[j]=true):l.all f=true:=by
 rw[List.all_eq_true];intro x hx;obtain⟨j,hj,rfl⟩:=List.getElem_of_mem hx;exact h j hj
end Kit
open Go.RowKit Kit
def inoOk(x:Ino):Bool:=okL x.1 x.2.1 x.2.2
def zf8(l:List Ino):Bool:=l.all inoOk
def blkOk(b:Blk):Bool:=zao b.1 b.2.1 b.2.2
def zf9(l:List Blk):Bool:=l.all blkOk
def za9(xs ys:List Bool)(is:List Ino)(bs:List Blk):Bool:=okB xs.length ys.length&&(zf8 is&&decide (is.length=8))&&(zf9 bs&&decide (bs.length=16))
theorem zi1{xs ys:List Bool}{is:List Ino}{bs:List Blk}(h:okB xs.length ys.length=false):false=za9 xs ys is bs:=by unfold za9;rw[h];rfl
theorem diskOk_i{xs ys:List Bool}{is:List Ino}{bs:List Blk}(h:is.length≠8):false=za9 xs ys is bs:=by unfold za9;simp[h]
theorem diskOk_b{xs ys:List Bool}{is:List Ino}{bs:List Blk}(h:bs.length≠16):false=za9 xs ys is bs:=by unfold za9;simp[h]
theorem zmn{xs ys:List Bool}{is:List Ino}{bs:List Blk}(h:zf8 is=false):false=za9 xs ys is bs:=by unfold za9;simp[h]
theorem zmo{xs ys:List Bool}{is:List Ino}{bs:List Blk}(h:zf9 bs=false):false=za9 xs ys is bs:=by unfold za9;simp[h]
theorem zkr{xs ys:List Bool}{is:List Ino}{bs:List Blk}(h:okB xs.length ys.length=true)(h1:is.length=8)(h2:bs.length=16)(h3:zf8 is=true)(h4:zf9 bs=true):true=za9 xs ys is bs:=by unfold za9;simp[h,h1,h2,h3,h4]
theorem zdg(u v iv bv:Va)(xs ys:List Bool)(is:List Ino)(bs:List Blk)(w:Wd)(h:DR w u v iv bv xs ys is bs)(hB:∀(j:Nat)(h:j<bs.length)(k:Nat)(h':k<bs[j].2.1.length),bs[j].2.1[k].1.size<=1048576):
  Calls Tryz.prog 108 #[.agg #[u,v,iv,bv]] w fun e w'=>e=.returned (.bool (za9 xs ys is bs))/\Bw w w':=by
 have H:=hJ h;have HG:=hJ hB;obtain⟨a3,c3,ri,-,bC⟩:=h.i.ino;obtain⟨a4,c4,rb,-,aL⟩:=h.k.blk;have HI:=hJ bC;have HK:=hJ aL;obtain⟨a1,c1,a2,c2,-,-,-,-,rfl,rfl,-,-⟩:=h.form;subst ri rb;obtain⟨x,hx⟩:∃x,okB xs.length ys.length=x:=⟨_,rfl⟩
 have HX:=hJ hx;obtain⟨n,hn⟩:∃n,xs.length=n:=⟨_,rfl⟩
 obtain⟨m,hm⟩:∃m,ys.length=m:=⟨_,rfl⟩
 obtain⟨ni,aT⟩:∃ni,is.length=ni:=⟨_,rfl⟩
 obtain⟨nb,aR⟩:∃nb,bs.length=nb:=⟨_,rfl⟩
 have HN:=hJ (aI aT aR);rw[hn,hm]at hx;rw[hn,hm,aT,aR];have C:=hJ (zdf a1 a2 n m c1 c2);rw[hx]at C;clear h hB bC aL hx hn hm aT aR;go_enter Tryz.func108,Tryz.ntmps108
 go_wp2_with fail
 refine(C.out _).mono ?_;rintro e w1 ⟨rfl,B1⟩;have BW:Bw w w1:=((bF _ w).alloc nR _).trans (B1.mono sI);have K0:AtC w1 w.1.size 30 #[.slice a1 n c1,.slice a2 m c2,.slice a3 ni c3,.slice a4 nb c4]:=(AtC.new w 30 _).over B1;obtain⟨-,-,p2,p3⟩:=K0.k4;have aM:=hJ BW;have aW:=hJ K0;clear B1 BW K0 C
 cases x with
 | false =>
  go_wp2;go_ret;exact⟨za3 (zi1 HX.o),aM.o⟩
 | true =>
  by_cases h8:ni=8
  ·by_cases h16:nb=16
   ·subst h8 h16;go_wp2;go_loopw [3] (fun i wr=>∃j:Nat,j<=8/\i=.int .i64 j/\Hid (∀(k:Nat)(h:k<is.length),k<j->inoOk is[k]=true)/\Hid (Bw w1 wr)) (fun i _=>8-(intOf i).toNat)
    case atStart=>exact⟨0,zL _,rfl,fun _ _ h=>absurd h (Nat.not_lt_zero _),bF _ _⟩
    obtain⟨j,hj,rfl,HS,aK⟩:=hrel;have K0:=aW.o.over aK.o;obtain⟨-,-,p4,p5⟩:=K0.k4;have aD:=hJ (aM.o.trans (aK.o.mono aM.o.size));clear K0;by_cases hlt:j<8
    ·obtain⟨g1,o1,pp,rfl,aH,m1,m2,m3,aB⟩:=HI.o j (by rw[HN.o.1];exact hlt);have q1:=(aD.o.cell (p:=⟨g1,o1+j*3,none⟩) aH).trans m1;have q2:=(aD.o.cell (p:=⟨g1,o1+j*3+1,none⟩) aH).trans m2;have q3:=(aD.o.cell (p:=⟨g1,o1+j*3+2,none⟩) aH).trans m3;obtain⟨y,hy⟩:∃x,is[j]'(by rw[HN.o.1];exact hlt)=x:=⟨_,rfl⟩
     obtain⟨y,s,z⟩:=y;rw[hy]at q1 q2 aB;obtain⟨pa,pc,rfl⟩:=aB.form;simp only at q1 q2 q3 aB;have HR:=hJ (aB.below aD.o nR);have j0:(0:Int)<=(j:Int):=oM
     have j1:(j:Int)<8:=oM
     have HY:=hJ hy;clear m1 m2 m3 aB hy
     cases hq:okL y s z with
     | true =>
      have HQ:=hJ hq;clear hq;go_wp2_with (go_at_call 134;refine(ze0 _ _ z _ _ HR.o).mono ?_;rw[HQ.o];rintro e w2 ⟨rfl,B2⟩;have aG:=hJ (aK.o.trans (B2.mono aK.o.size));clear B2)
      go_roundw
      case rel =>
       refine⟨j+1,oM,gK,fun k hk bH=>?_,aG.o⟩;by_cases aL:k=j
       ·subst aL;rw[HY.o];exact HQ.o
       exact HS.o k hk oM
      simp[intOf];omega
     | false =>
      have aO:zf8 is=false:=all_no (by rw[HN.o.1];exact hlt) (by rw[HY.o];exact hq);have aU:=hJ aO;have HQ:=hJ hq;clear hq aO;go_wp2_with (go_at_call 134;refine(ze0 _ _ z _ _ HR.o).mono ?_;rw[HQ.o];rintro e w2 ⟨rfl,B2⟩;have aG:=hJ (aD.o.trans (B2.mono aD.o.size));clear B2)
      go_ret;exact⟨za3 (zmn aU.o),aG.o⟩
    have aC:zf8 is=true:=zmg fun k hk=>HS.o k hk (by rw[HN.o.1]at hk;omega);have bG:=hJ aC;clear aC;go_wp2;go_loopw [4] (fun i wq=>∃j:Nat,j<=16/\i=.int .i64 j/\Hid (∀(k:Nat)(h:k<bs.length),k<j->blkOk bs[k]=true)/\Hid (Bw wr wq)) (fun i _=>16-(intOf i).toNat)
    case atStart=>exact⟨0,zL _,rfl,fun _ _ h=>absurd h (Nat.not_lt_zero _),bF _ _⟩
    obtain⟨j,hj,rfl,aZ,aP⟩:=hrel;have aF:=hJ (aD.o.trans (aP.o.mono aD.o.size));have K1:=aW.o.over (aK.o.trans (aP.o.mono aK.o.size));have p6:=K1.c3;clear K1;by_cases hlt2:j<16
    ·obtain⟨g1,o1,pp,rfl,aH,m1,m2,m3,aB⟩:=HK.o j (by rw[HN.o.2];exact hlt2);have q1:=(aF.o.cell (p:=⟨g1,o1+j*3,none⟩) aH).trans m1;have q2:=(aF.o.cell (p:=⟨g1,o1+j*3+1,none⟩) aH).trans m2;have q3:=(aF.o.cell (p:=⟨g1,o1+j*3+2,none⟩) aH).trans m3;have aV:∀b:Blk,bs[j]'(by rw[HN.o.2];exact hlt2)=b->∀(k:Nat)(h':k<b.2.1.length),b.2.1[k].1.size<=1048576:=by
      rintro b rfl;exact HG.o j _
     obtain⟨y,hy⟩:∃x,bs[j]'(by rw[HN.o.2];exact hlt2)=x:=⟨_,rfl⟩
     obtain⟨y,s,z⟩:=y;rw[hy]at q1 q3 aB;have aY:∀(k:Nat)(h':k<s.length),s[k].1.size<=1048576:=aV _ hy;obtain⟨pa,pc,rfl⟩:=aB.form;simp only at q1 q2 q3 aB;have HR:=hJ (aB.below aF.o nR);have aX:=hJ aY;have j0:(0:Int)<=(j:Int):=oM
     have j1:(j:Int)<16:=oM
     have HY:=hJ hy;clear m1 m2 m3 aB hy aY aV
     cases hq:zao y s z with
     | true =>
      have HQ:=hJ hq;clear hq;go_wp2_with (go_at_call 135;refine(zb1 _ _ _ s _ HR.o aX.o).mono ?_;rw[HQ.o];rintro e w2 ⟨rfl,B2⟩;have aG:=hJ (aP.o.trans (B2.mono aP.o.size));clear B2)
      go_roundw
      case rel =>
       refine⟨j+1,oM,gK,fun k hk bH=>?_,aG.o⟩;by_cases aL:k=j
       ·subst aL;rw[HY.o];exact HQ.o
       exact aZ.o k hk oM
      simp[intOf];omega
     | false =>
      have aO:zf9 bs=false:=all_no (by rw[HN.o.2];exact hlt2) (by rw[HY.o];exact hq);have aU:=hJ aO;have HQ:=hJ hq;clear hq aO;go_wp2_with (go_at_call 135;refine(zb1 _ _ _ s _ HR.o aX.o).mono ?_;rw[HQ.o];rintro e w2 ⟨rfl,B2⟩;have aG:=hJ (aF.o.trans (B2.mono aF.o.size));clear B2)
      go_ret;exact⟨za3 (zmo aU.o),aG.o⟩
    have aC:zf9 bs=true:=zmg fun k hk=>aZ.o k hk (by rw[HN.o.2]at hk;omega);have aS:=hJ aC;clear aC;go_wp2;go_ret;exact⟨za3 (zkr HX.o HN.o.1 HN.o.2 bG.o aS.o),aF.o⟩
   have aN:bs.length≠16:=by rw[HN.o.2];exact h16
   have aQ:=hJ aN;have bE:((nb:Int) != 16)=true:=sO
   clear aN;subst h8;go_wp2;go_ret;exact⟨za3 (diskOk_b aQ.o),aM.o⟩
  have aN:is.length≠8:=by rw[HN.o.1];exact h8
  have aQ:=hJ aN;have bI:((ni:Int) != 8)=true:=sO
  clear aN;go_wp2;go_ret;exact⟨za3 (diskOk_i aQ.o),aM.o⟩
namespace Kit
def AnyB(e:Ending):Prop:=∃r:Bool,e=.returned (.bool r)
end Kit
variable {Z : ZT}
theorem zmp(u v iv bv dv pv:Va)(m:MD)(i:Nat)(w:Wd)(h:MR w u v iv bv dv pv m)(hm:Sh Z m)(hi:i<m.6.length):
  Calls Tryz.prog 222 #[.agg #[u,v,iv,bv,dv,pv,nI m.nx],nI i] w fun e w'=>AnyB e/\Bw w w':=by
 obtain⟨a1,c1,a2,c2,a3,c3,a4,c4,a5,c5,a6,c6,rfl,rfl,rfl,rfl,rfl,rfl⟩:=h.form;obtain⟨a,c,ei,-,hc⟩:=h.p.dep;simp only[vJ,true_and]at ei;obtain⟨rfl,rfl⟩:=ei;have HC:=hJ hc;obtain⟨g,off,p,rfl,hg,nn,hp⟩:=hc i hi;have hdk:=hm.dd _ (gM_ hi);have hnx1:=hm.nx.1;have hnx2:=hm.nx.2;have hdl:=hm.l;obtain⟨X,hX⟩:∃X,m.ds[i]=X:=⟨_,rfl⟩
 rw[hX]at nn hp hdk;obtain⟨id,kd,io,pt,bk,sl,nm,bt,ot,af,bl⟩:=X;simp only at hp;obtain⟨pa,pc,rfl,hpc⟩:=hp;have HPC:=hJ hpc;simp only[DCells]at nn;obtain⟨m0,m1,m2,m3,m4,m5,m6,m7,m8,m9,m10⟩:=nn;have bA:Bw w (w.alloc (.cells (M7 m a1 c1 a2 c2 a3 c3 a4 c4 a5 c5 (aA g off) c6) 33)):=(bF _ w).alloc nR _;have bW:Bw w ((w.alloc (.cells (M7 m a1 c1 a2 c2 a3 c3 a4 c4 a5 c5 (aA g off) c6) 33)).alloc (.cells (K7 id kd io pt bk sl nm bt ot af pa bl.length pc) 42)):=bA.alloc sI _;have k0:=(bA.cell (p:=⟨g,off+i*11,none⟩) hg).trans m0;have k1:=(bA.cell (p:=⟨g,off+i*11+1,none⟩) hg).trans m1;have k2:=(bA.cell (p:=⟨g,off+i*11+2,none⟩) hg).trans m2;have k3:=(bA.cell (p:=⟨g,off+i*11+3,none⟩) hg).trans m3;have k4:=(bA.cell (p:=⟨g,off+i*11+4,none⟩) hg).trans m4;have k5:=(bA.cell (p:=⟨g,off+i*11+5,none⟩) hg).trans m5;have k6:=(bA.cell (p:=⟨g,off+i*11+6,none⟩) hg).trans m6;have k7:=(bA.cell (p:=⟨g,off+i*11+7,none⟩) hg).trans m7;have k8:=(bA.cell (p:=⟨g,off+i*11+8,none⟩) hg).trans m8;have k9:=(bA.cell (p:=⟨g,off+i*11+9,none⟩) hg).trans m9;have k10:(w.alloc (.cells (M7 m a1 c1 a2 c2 a3 c3 a4 c4 a5 c5 (aA g off) c6) 33)).cell? ⟨g,off+i*11+10,none⟩=some (.slice pa bl.length pc):=(bA.cell (p:=⟨g,off+i*11+10,none⟩) hg).trans m10;have X0:AtC (w.alloc (.cells (M7 m a1 c1 a2 c2 a3 c3 a4 c4 a5 c5 (aA g off) c6) 33)) w.1.size 33 (M7 m a1 c1 a2 c2 a3 c3 a4 c4 a5 c5 (aA g off) c6):=AtC.new w 33 _;have z5:=X0.c5;have X1:AtC ((w.alloc (.cells (M7 m a1 c1 a2 c2 a3 c3 a4 c4 a5 c5 (aA g off) c6) 33)).alloc (.cells (K7 id kd io pt bk sl nm bt ot af pa bl.length pc) 42)) w.1.size 33 (M7 m a1 c1 a2 c2 a3 c3 a4 c4 a5 c5 (aA g off) c6):=X0.over (bR.alloc nR _);have X2:AtC ((w.alloc (.cells (M7 m a1 c1 a2 c2 a3 c3 a4 c4 a5 c5 (aA g off) c6) 33)).alloc (.cells (K7 id kd io pt bk sl nm bt ot af pa bl.length pc) 42)) (w.1.size+1) 42 (K7 id kd io pt bk sl nm bt ot af pa bl.length pc):=by have:=AtC.new (w.alloc (.cells (M7 m a1 c1 a2 c2 a3 c3 a4 c4 a5 c5 (aA g off) c6) 33)) 42 (K7 id kd io pt bk sl nm bt ot af pa bl.length pc);simpa using this
 obtain⟨e0,e1,e2,e3,e4,e5,e6⟩:=X1.k7;obtain⟨f0,f1,f2,f3,f4,f5,f6,f7,f8,f9,f10⟩:=X2.k11;have HBW:=hJ bW;have HH:=hJ h;have HM:=hJ hm;have i0:(0:Int)<=(i:Int):=oM
 have i1:(i:Int)<(m.6.length:Int):=oM
 have hbn:bl.length<=2:=hdk.bn;have hio1:1<=io:=hdk.io.1;have hio8:io<=8:=hdk.io.2;have hpt0:0<=pt:=hdk.pt.1;have hpt1:pt<=1:=hdk.pt.2;have hbk0:0<=bk:=hdk.bk.1;have hbk16:bk<=16:=hdk.bk.2;have hsl0:0<=sl:=hdk.sl.1;have hsl3:sl<=3:=hdk.sl.2;have HNM:Hid (nm.size<=6):=hdk.nm;clear h hm hdk hX hc hpc bA bW X0 X1 X2 m0 m1 m2 m3 m4 m5 m6 m7 m8 m9 m10;have CI:Hid (∀(x y z:Int)(W:Wd),Calls Tryz.prog 50 #[nI x,nI y,nI z] W fun e w'=>AnyB e/\w'=W):=fun x y z W=>(zak x y z W).mono fun e w' ⟨h1,h2⟩=>⟨⟨_,h1⟩,h2⟩
 go_enter Tryz.func222,Tryz.ntmps222
 go_upto_region 2 with fail
 generalize hWW:((w.alloc (.cells (M7 m a1 c1 a2 c2 a3 c3 a4 c4 a5 c5 (some ⟨g,off,none⟩) c6) 33)).alloc (.cells (K7 id kd io pt bk sl nm bt ot af pa bl.length pc) 42))=W0 at*;clear hWW;clear k0 k1 k2 k3 k4 k5 k6 k7 k8 k9 k10 z5;go_cut [58]from 8 to 58 (fun c wx=>(∃r,c=.bool r)/\wx=W0)
 case first =>
  go_wp2_with (go_at_call 50;refine(CI.out _ _ _ _).mono ?_;rintro e w3 ⟨⟨r,rfl⟩,rfl⟩;cases r)
  all_goals (go_meet;exact⟨⟨_,rfl⟩,rfl⟩)
 case rest =>
  obtain⟨⟨r,rfl⟩,rfl⟩:=hcut
  cases r
  case true =>
   go_wp2;go_ret;exact⟨⟨_,rfl⟩,HBW.o⟩
  case false =>
   obtain⟨wX,rfl⟩:∃wX,wX=wc:=⟨wc,rfl⟩
   go_wp2_with fail
   go_loopw [6] (fun i' wr=>∃q:Nat,q<=bl.length/\i'=.int .i64 q/\wX=wr) (fun i' _=>bl.length-(intOf i').toNat)
   case atStart=>exact⟨0,zL _,rfl,rfl⟩
   case round =>
    obtain⟨q,hq,rfl,rfl⟩:=hrel;by_cases hlt:q<bl.length
    ·obtain⟨g4,o4,rfl,hg4,r4⟩:=HPC.o q hlt;have y4:=(HBW.o.cell (p:=⟨g4,o4+q,none⟩) hg4).trans r4;generalize bl[q]=pp at y4;have q0:(0:Int)<=(q:Int):=oM
     have q1:(q:Int)<(bl.length:Int):=oM
     clear r4;go_wp2_with (go_at_call 50;refine(CI.out _ _ _ _).mono ?_;rintro e w3 ⟨⟨r,rfl⟩,rfl⟩;cases r)
     ·go_ret;exact⟨⟨_,rfl⟩,HBW.o⟩
     ·go_roundw
      case rel=>exact⟨q+1,oM,gK,by first| rfl|trivial⟩
      case measure=>simp[intOf];omega
    ·go_wp2_with fail
     go_loopw [7] (fun i' w'=>∃q:Nat,q<=i/\i'=.int .i64 q/\∃d,w'=wX.drewN d) (fun i' _=>i-(intOf i').toNat)
     case atStart=>exact⟨0,zL _,rfl,0,rfl⟩
     case round =>
      obtain⟨q,hq,rfl,d,rfl⟩:=hrel;by_cases hlt:q<i
      ·obtain⟨g5,o5,p5,e55,hg5,n5,-⟩:=HC.o q oM;simp only[oJ,aJ]at e55;obtain⟨rfl,rfl,-⟩:=e55;simp only[DCells]at n5;have y5:=(HBW.o.cell (p:=⟨g,off+q*11,none⟩) hg5).trans n5.1;generalize m.ds[q].id=jd at y5;have q0:(0:Int)<=(q:Int):=oM
       have q1:(q:Int)<(m.6.length:Int):=oM
       have q2:(q:Int)<(i:Int):=oM
       clear n5;by_cases hid:jd=id
       ·subst hid;go_wp2_with fail
        exact cQ16
       ·go_wp2_with fail
        go_quiet(fail)
        go_wp2;go_roundw
        case rel=>exact⟨q+1,oM,gK,_,rfl⟩
        case measure=>simp[intOf];omega
      ·clear HC;by_cases hk1:kd=1
       ·subst hk1;by_cases hb:0<bk
        ·exact cQ13
        ·have hbd:=dF hb;go_upto_region 17 with fail
         exact cQ16
       by_cases hk6:kd=6
       ·subst hk6;by_cases hb:0<bk
        ·exact cQ13
        ·have hbd:=dF hb;go_upto_region 17 with fail
         exact cQ16
       by_cases hk2:kd=2
       ·subst hk2;by_cases hb:0<bk
        ·exact cQ8
        ·have hbd:=dF hb;go_upto_region 20 with fail
         exact cQ16
       by_cases hk3:kd=3
       ·subst hk3;by_cases hb:0<bk
        ·exact cQ8
        ·have hbd:=dF hb;go_upto_region 20 with fail
         exact cQ16
       by_cases hk4:kd=4
       ·subst hk4;by_cases hb:0<bk
        ·obtain⟨j,rfl⟩:∃j:Nat,bk=(j:Int)+1:=⟨(bk-1).toNat,oM⟩
         have hwj:IntKind.i64.wrap (j:Int)=(j:Int):=wrap_small _ oM oM;have hjl:j<m.4.length:=by rw[HM.o.b];omega
         have hkk:=HM.o.bb _ (gM_ hjl);obtain⟨qa,qc,qe,-,qh⟩:=HH.o.d.k;simp only[vJ,true_and]at qe;obtain⟨rfl,rfl⟩:=qe;obtain⟨g2,o2,⟨t0,t1,t2⟩,rfl,hg2,r0,r1,-,e0,rr,-⟩:=qh j hjl;simp only at r0 r1 e0 rr;subst e0;obtain⟨dd,hdd⟩:∃dd,m.bs[j].1=dd:=⟨_,rfl⟩
         rw[hdd]at r0;obtain⟨sa,sc,rfl,-,sh⟩:=rr;have hkn:=hkk.n;rw[hdd]at hkn;have y0:=(HBW.o.cell (p:=⟨g2,o2+j*3,none⟩) hg2).trans r0;have y1:=(HBW.o.cell (p:=⟨g2,o2+j*3+1,none⟩) hg2).trans r1;have j0:(0:Int)<=(j:Int):=oM
         have j1:(j:Int)<(m.4.length:Int):=oM
         have hbd:decide (0<(j:Int)+1)=true:=dT oM
         cases dd
         ·clear sh hkn hkk r0 r1 qh hdd;go_wp2;go_ret
          first| exact⟨⟨_,rfl⟩,bD HBW.o _⟩| exact⟨⟨_,rfl⟩,bD (bD HBW.o _) _⟩
         ·clear sh hkn hkk r0 r1 qh hdd;go_wp2_with (go_at_call 165;refine(zca nm _ (by have:=HNM.o;omega)).mono ?_;rintro e w7 ⟨rfl,B7⟩;have HB7:=hJ B7;clear B7)
          go_ret;exact⟨⟨_,rfl⟩,(bD HBW.o _).trans (HB7.o.mono (by have:=(bD HBW.o d).size;exact this))⟩
        ·have hbd:=dF hb;go_wp2;go_ret
         first| exact⟨⟨_,rfl⟩,bD HBW.o _⟩| exact⟨⟨_,rfl⟩,bD (bD HBW.o _) _⟩
       go_wp2;go_ret
       first| exact⟨⟨_,rfl⟩,bD HBW.o _⟩| exact⟨⟨_,rfl⟩,bD (bD HBW.o _) _⟩
variable {Z : ZT}
theorem zb2(u v iv bv dv pv:Va)(m:MD)(w:Wd)(h:MR w u v iv bv dv pv m)(hm:Sh Z m):
  Calls Tryz.prog 192 #[.agg #[u,v,iv,bv,dv,pv,nI m.nx]] w fun e w'=>AnyB e/\Bw w w':=by
 obtain⟨a1,c1,a2,c2,a3,c3,a4,c4,a5,c5,a6,c6,rfl,rfl,rfl,rfl,rfl,rfl⟩:=h.form;have HH:=hJ h;have HM:=hJ hm;have hdl:=hm.l;have hfl:((m.5.length:Int) != 21)=false:=by rw[hm.f];rfl
 have HW:Hid (∀W,Bw (w.alloc (.cells (M7 m a1 c1 a2 c2 a3 c3 a4 c4 a5 c5 a6 c6) 33)) W->Bw w W):=fun W bb=>((bF _ w).alloc nR _).trans (bb.mono sI);have HA:Hid (∀W,Bw (w.alloc (.cells (M7 m a1 c1 a2 c2 a3 c3 a4 c4 a5 c5 a6 c6) 33)) W->AtC W w.1.size 33 (M7 m a1 c1 a2 c2 a3 c3 a4 c4 a5 c5 a6 c6)):=fun W bb=>(AtC.new w 33 _).over bb;obtain⟨x0,x1,x2,x3,x4,x5,x6⟩:=(AtC.new w 33 (M7 m a1 c1 a2 c2 a3 c3 a4 c4 a5 c5 a6 c6)).k7;have CI:Hid (∀(x y z:Int)(W:Wd),Calls Tryz.prog 50 #[nI x,nI y,nI z] W fun e w'=>AnyB e/\w'=W):=fun x y z W=>(zak x y z W).mono fun e w' ⟨h1,h2⟩=>⟨⟨_,h1⟩,h2⟩
 have CD:Hid (∀W,Bw w W->Calls Tryz.prog 108 #[.agg #[.slice a1 m.1.length c1,.slice a2 m.2.length c2,.slice a3 m.3.length c3,.slice a4 m.4.length c4]] W fun e w'=>AnyB e/\Bw W w'):=fun W bb=>(zdg _ _ _ _ m.xs m.ys m.is m.bs W (HH.o.below bb nR).d (fun j hj k hk=>lT ((HM.o.bb _ (gM_ hj)).s _ (gM_ hk)).1 dC)).mono fun e w' ⟨h1,h2⟩=>⟨⟨_,h1⟩,h2⟩
 clear h hm;go_enter Tryz.func192,Tryz.ntmps192
 go_upto_region 1 with fail
 generalize hW0:(w.alloc (.cells (M7 m a1 c1 a2 c2 a3 c3 a4 c4 a5 c5 a6 c6) 33))=W0 at*;clear hW0;go_cut [25]from 4 to 25 (fun c wx=>(∃r,c=.bool r)/\Bw W0 wx)
 case first =>
  go_wp2_with (first| (go_at_call 108;refine(CD.out _ (HW.o _ bR)).mono ?_;rintro e w2 ⟨⟨r,rfl⟩,B2⟩;have HB2:=hJ B2;have A2:=HA.o w2 B2;have y4:w2.cell? ⟨w.1.size,4,none⟩=some (.slice a5 m.5.length c5):=A2.cell 4;have y5:w2.cell? ⟨w.1.size,5,none⟩=some (.slice a6 m.6.length c6):=A2.cell 5;have y6:w2.cell? ⟨w.1.size,6,none⟩=some (nI m.nx):=A2.cell 6;clear A2 B2;cases r)| (go_at_call 50;refine(CI.out _ _ _ _).mono ?_;rintro e w3 ⟨⟨r,rfl⟩,rfl⟩;cases r))
  all_goals (go_meet;exact⟨⟨_,rfl⟩,HB2.o⟩)
 case rest =>
  obtain⟨⟨r,rfl⟩,hbw⟩:=hcut;have HBW:=hJ hbw;clear hbw x0 x1 x2 x3 x4 x5 x6
  cases r
  case true =>
   go_wp2;go_ret;exact⟨⟨_,rfl⟩,HW.o _ HBW.o⟩
  case false =>
   go_wp2_with fail
   go_loopw [3] (fun i' wr=>∃q:Nat,q<=m.6.length/\i'=.int .i64 q/\Hid (Bw W0 wr)) (fun i' _=>m.6.length-(intOf i').toNat)
   case atStart=>exact⟨0,zL _,rfl,HBW.o⟩
   case round =>
    obtain⟨q,hq,rfl,HR⟩:=hrel;have A2:=HA.o wr HR.o;obtain⟨y0,y1,y2,y3,y4,y5,y6⟩:=AtC.sev A2;clear A2;by_cases hlt:q<m.6.length
    ·have q0:(0:Int)<=(q:Int):=oM
     have q1:(q:Int)<(m.6.length:Int):=oM
     go_wp2_with (go_at_call 222;refine(zmp _ _ _ _ _ _ m q wr (HH.o.below (HW.o _ HR.o) nR) HM.o hlt).mono ?_;rintro e w2 ⟨⟨r,rfl⟩,B2⟩;have HB2:=hJ (HR.o.trans (B2.mono HR.o.size));clear B2;cases r)
     ·go_ret;exact⟨⟨_,rfl⟩,HW.o _ HB2.o⟩
     ·go_roundw
      case rel=>exact⟨q+1,oM,gK,HB2.o⟩
      case measure=>simp[intOf];omega
    ·go_wp2;go_ret;exact⟨⟨_,rfl⟩,HW.o _ HR.o⟩
namespace Kit
theorem zmh{nm:BA}:∀(xs:List Sl)(k:Nat),plF nm k xs<0↔∀s∈xs,¬s.1=nm
 | [],k=>by simp[plF]
 | s::r,k=>by
  rw[plF];by_cases h:s.1=nm
  ·rw[if_pos h];exact⟨fun q=>absurd q oM,fun q=>absurd h (q s sI)⟩
  ·rw[if_neg h,zmh r (k+1)];exact⟨fun q t ht=>(List.mem_cons.1 ht).elim (fun e=>e ▸ h) (q t),fun q t ht=>q t (mC _ ht)⟩
theorem zhx{nm:BA}{xs:List Sl}:zdw xs nm<0↔(nm.size=0\/∀s∈xs,¬s.1=nm):=by
 unfold zdw;by_cases h:nm.size=0
 ·rw[if_pos h];exact⟨fun _=>.inl h,fun _=>dC⟩
 rw[if_neg h,zmh];exact⟨.inr,fun q=>q.elim (fun e=>absurd e h) id⟩
theorem zmi:∀(r a:List Sl),okF a r=true↔∀(j:Nat)(hj:j<r.length),zcu r[j]=true/\zdw (a++r.take j) r[j].1<0
 | [],a=>by simp[okF]
 | x::r,a=>by
  rw[okF,aE,aE,zmi r (a++[x])];constructor
  ·rintro⟨⟨h1,h2⟩,h3⟩ j hj
   cases j with
   | zero=>exact⟨h1,by simpa using h2⟩
   | succ j =>
    have:=h3 j (by simpa using hj);simpa[List.append_assoc]using this
  ·intro h;refine⟨⟨(h 0 sI).1,dT (by have:=(h 0 sI).2;rw[List.take_zero,List.append_nil]at this;exact this)⟩,fun j hj=>?_⟩;have:=h (j+1) (by simpa using hj);simpa[List.append_assoc]using this
theorem zga(s:Sl):zcu s=true↔((s.1.size=0/\s.2=0)\/(zat s.1=true/\1<=s.2/\s.2<=8)):=by simp[zcu]
theorem zff{ss:List Sl}:zbb ss=true↔(ss.length=4/\(∀s∈ss,zcu s=true)/\Unl ss):=by
 unfold zbb;rw[aE,decide_eq_true_eq,zmi];constructor
 ·rintro⟨h4,h⟩;refine⟨h4,fun s hs=>?_,fun i j hi hj hn e=>?_⟩
  ·obtain⟨j,hj,rfl⟩:=List.getElem_of_mem hs;exact(h j hj).1
  have aB:∀(i j:Nat)(hi:i<ss.length)(hj:j<ss.length),i<j->ss[i].1=ss[j].1->ss[i].1.size=0:=fun i j hi hj hl e=>by
   rcases zhx.1 (h j hj).2 with q|q
   ·rw[e];exact q
   refine absurd e (q ss[i] ?_);rw[List.nil_append];exact List.mem_take_iff_getElem.2 ⟨i,oM,rfl⟩
  rcases Nat.lt_or_gt_of_ne hn with hl|hl
  ·exact aB i j hi hj hl e
  rw[e];exact aB j i hj hi hl e.symm
 rintro⟨h4,h1,h2⟩;refine⟨h4,fun j hj=>⟨h1 _ (gM_ hj),zhx.2 ?_⟩⟩;by_cases hz:ss[j].1.size=0
 ·exact .inl hz
 refine .inr fun s hs e=>hz ?_;rw[List.nil_append]at hs;obtain⟨i,hi,rfl⟩:=List.mem_take_iff_getElem.1 hs;have aC:i<j:=oM
 have:=h2 i j oM hj oM e;rw[←e];exact this
theorem KOk.ok{x:Blk}(h:KOk x):blkOk x=true:=by
 obtain⟨d,ss,t⟩:=x;unfold blkOk zao
 cases d with
 | false =>
  have e:ss=[]:=h.f rfl;have:=h.t;subst e;simpa using this
 | true =>
  have h1:t.size=0:=h.e rfl;have h2:ss.length=4:=h.n rfl;simp only[if_true,aE,decide_eq_true_eq];refine⟨h1,zff.2 ⟨h2,fun s hs=>(zga s).2 ?_,h.u⟩⟩;rcases(h.s s hs).2 with q|q
  ·exact .inl q
  rcases h.q s hs with z|z
  ·omega
  exact .inr ⟨z,q⟩
theorem ok.KOk{x:Blk}(h:blkOk x=true):KOk x:=by
 obtain⟨d,ss,t⟩:=x;unfold blkOk zao at h
 cases d with
 | false =>
  simp only[Bool.false_eq_true,if_false,decide_eq_true_eq]at h;have e:=List.length_eq_zero_iff.1 h.1;subst e;exact⟨⟨fun e=>(by cases e),by show(0:Nat)<=4;decide,fun s hs=>by simp at hs,h.2⟩,fun _=>rfl,fun e=>(by cases e),fun s hs=>by simp at hs,Unl.nil⟩
 | true =>
  simp only[if_true,aE,decide_eq_true_eq]at h;obtain⟨h4,h5,h6⟩:=zff.1 h.2;have hz:=h.1;have aB:∀s∈ss,(s.1.size=0/\s.2=0)\/(zat s.1=true/\1<=s.2/\s.2<=8):=fun s hs=>(zga s).1 (h5 s hs);exact⟨⟨fun _=>h4,Nat.le_of_eq h4,fun s hs=>⟨by
   rcases aB s hs with q|q
   ·omega
   exact(za1 q.1).2,(aB s hs).imp id fun q=>q.2⟩,by show t.size<=16;omega⟩,fun e=>(by cases e),fun _=>hz,fun s hs=>(aB s hs).imp id fun q=>q.1,h6⟩
theorem IOk.ok{x:Ino}(h:IOk x):inoOk x=true:=by
 obtain⟨k,l,ps⟩:=x;have hn:ps.length=2:=h.n
 match ps,hn with
 | [p,q],_ =>
  show okR k l p q=true;have hp:=h.p p sI;have hq:=h.p q sI;have hl:=h.l;simp only at hl;rw[←zc5];rcases h.z with z|z|z
  ·right;have z:k=1:=z;omega
  ·right;have z:k=2:=z;omega
  left
  have z1:k=0:=z.1;have z2:l=0:=z.2.1;exact⟨z1,z2,z.2.2 p sI,z.2.2 q sI⟩
theorem ok.IOk{x:Ino}(h:inoOk x=true):IOk x:=by
 obtain⟨k,l,ps⟩:=x;unfold inoOk at h
 match ps,h with
 | [],h=>exact absurd h (by simp[okL])
 | [p],h=>exact absurd h (by simp[okL])
 | p::q::r::rest,h=>exact absurd h (by simp[okL])
 | [p,q],h =>
  have h2:okR k l p q=true:=h;simp only[okR,decide_eq_true_eq]at h2;refine⟨by show 0<=l/\l<=200;omega,rfl,fun z hz=>?_,?_⟩
  ·simp only[mN,nN,or_false]at hz;rcases hz with rfl|rfl
   ·omega
   omega
  show k=1\/k=2\/(k=0/\l=0/\∀z∈[p,q],z=0);rcases h2 with h2|h2
  ·refine .inr (.inr ⟨h2.1,h2.2.1,fun z hz=>?_⟩);simp only[mN,nN,or_false]at hz;rcases hz with rfl|rfl
   ·omega
   omega
  omega
theorem disk_ok{xs ys:List Bool}{is:List Ino}{bs:List Blk}(hx:xs.length=16)(hy:ys.length=8)(hi:is.length=8)(hii:∀q∈is,IOk q)(hb:bs.length=16)(hbb:∀q∈bs,KOk q):za9 xs ys is bs=true:=by
 unfold za9;have h1:zf8 is=true:=List.all_eq_true.2 fun q hq=>(hii q hq).ok;have h2:zf9 bs=true:=List.all_eq_true.2 fun q hq=>(hbb q hq).ok;simp[h1,h2,hi,hb,okB,hx,hy]
theorem Sh.disk{Z:ZT}{m:MD}(h:Sh Z m):za9 m.xs m.ys m.is m.bs=true:=disk_ok h.x h.y h.i h.ii h.b h.bb
end Kit
theorem readA(w:Wd)(a b c d:Int):AtT 59 (((w.alloc (Obj.cells #[nI 0,nI 0,nZ] 59)).alloc (Obj.cells #[nI c,nI d] 3)).alloc (Obj.cells #[nI a,nI b,.slice (aA (w.1.size+1) 0) 2 2] 59)).drew w.1.size 0 0 (nZ) /\
  AtT 59 (((w.alloc (Obj.cells #[nI 0,nI 0,nZ] 59)).alloc (Obj.cells #[nI c,nI d] 3)).alloc (Obj.cells #[nI a,nI b,.slice (aA (w.1.size+1) 0) 2 2] 59)).drew (w.1.size+1+1) a b (.slice (aA (w.1.size+1) 0) 2 2) /\
  ROwns (((w.alloc (Obj.cells #[nI 0,nI 0,nZ] 59)).alloc (Obj.cells #[nI c,nI d] 3)).alloc (Obj.cells #[nI a,nI b,.slice (aA (w.1.size+1) 0) 2 2] 59)).drew (w.1.size+1) 3 (.slice (aA (w.1.size+1) 0) 2 2) (ic [c,d]) /\
  Bw w (((w.alloc (Obj.cells #[nI 0,nI 0,nZ] 59)).alloc (Obj.cells #[nI c,nI d] 3)).alloc (Obj.cells #[nI a,nI b,.slice (aA (w.1.size+1) 0) 2 2] 59)).drew:=by
 refine⟨zhj w _ _ _,?_,?_,?_⟩
 ·have:=AtT.new 59 ((w.alloc (Obj.cells #[nI 0,nI 0,nZ] 59)).alloc (Obj.cells #[nI c,nI d] 3)) a b (.slice (aA (w.1.size+1) 0) 2 2);rw[wA_,wA_]at this;exact this
 ·have:=((ROwns.lit (w.alloc (Obj.cells #[nI 0,nI 0,nZ] 59)) (w.1.size+1) 3 #[nI c,nI d] sI (by simp[maxLen])).alloc (Obj.cells #[nI a,nI b,.slice (aA (w.1.size+1) 0) 2 2] 59)).drew;rw[wA_]at this;exact this
 exact cQ132
theorem readB(w:Wd)(a b c d:Int):AtT 59 (((w.alloc (Obj.cells #[nI 0,nI 0,nZ] 59)).alloc (Obj.cells #[nI a,nI b,.slice (aA (w.1.size+1+1) 0) 2 2] 59)).alloc (Obj.cells #[nI c,nI d] 3)).drew w.1.size 0 0 (nZ) /\
  AtT 59 (((w.alloc (Obj.cells #[nI 0,nI 0,nZ] 59)).alloc (Obj.cells #[nI a,nI b,.slice (aA (w.1.size+1+1) 0) 2 2] 59)).alloc (Obj.cells #[nI c,nI d] 3)).drew (w.1.size+1) a b (.slice (aA (w.1.size+1+1) 0) 2 2) /\
  ROwns (((w.alloc (Obj.cells #[nI 0,nI 0,nZ] 59)).alloc (Obj.cells #[nI a,nI b,.slice (aA (w.1.size+1+1) 0) 2 2] 59)).alloc (Obj.cells #[nI c,nI d] 3)).drew (w.1.size+1) 3 (.slice (aA (w.1.size+1+1) 0) 2 2) (ic [c,d]) /\
  Bw w (((w.alloc (Obj.cells #[nI 0,nI 0,nZ] 59)).alloc (Obj.cells #[nI a,nI b,.slice (aA (w.1.size+1+1) 0) 2 2] 59)).alloc (Obj.cells #[nI c,nI d] 3)).drew:=by
 refine⟨zhj w _ _ _,?_,?_,?_⟩
 ·have:=(AtT.new 59 (w.alloc (Obj.cells #[nI 0,nI 0,nZ] 59)) a b (.slice (aA (w.1.size+1+1) 0) 2 2)).alloc (Obj.cells #[nI c,nI d] 3);rw[wA_]at this;exact this
 ·have:=(ROwns.lit ((w.alloc (Obj.cells #[nI 0,nI 0,nZ] 59)).alloc (Obj.cells #[nI a,nI b,.slice (aA (w.1.size+1+1) 0) 2 2] 59)) (w.1.size+1) 3 #[nI c,nI d] sI (by simp[maxLen])).drew;rw[wA_,wA_]at this;exact this
 exact cQ132
theorem zih(s:BA)(w:Wd)(h:s.size≠4)(_h1:s.size<=1048576):
  Calls Tryz.prog 120 #[.string s] w fun e w'=>e=.returned (.tuple #[.agg #[nI 0,nI 0,nZ],.bool false])/\Bw w w':=by
 have h2:((s.size:Int) != 4)=true:=sO
 go_enter Tryz.func120,Tryz.ntmps120
 go_wp2;refine bY (v:=.tuple #[.agg #[nI 0,nI 0,nZ],.bool false]) sR0 rfl ⟨rfl,gW_⟩
theorem zha(s:BA)(w:Wd)(hs:s.size=4)(a b c d:Nat)(ha:(s[0]).toNat=a)(hb:(s[1]).toNat=b)(hc:(s[2]).toNat=c)(hd:(s[3]).toNat=d)(r:Bool)(hr:okR a b c d=r):
  Calls Tryz.prog 120 #[.string s] w fun e w'=>∃v,e=.returned (.tuple #[.agg #[nI (if r then(a:Int)else 0),nI (if r then(b:Int)else 0),v],.bool r])/\ROwns w' w.1.size 3 v (ic (if r then[(c:Int),(d:Int)]else[]))/\Bw w w':=by
 have C1:=hJ (zc6 a b c d);rw[hr]at C1;clear hr;have h4:(s.size:Int)=4:=oM
 have i0:(0:Int)<(s.size:Int):=oM
 have i1:(1:Int)<(s.size:Int):=oM
 have i2:(2:Int)<(s.size:Int):=oM
 have i3:(3:Int)<(s.size:Int):=oM
 have a1:a<256:=by have:=(s[0]).toNat_lt;omega
 have b1:b<256:=by have:=(s[1]).toNat_lt;omega
 have c1:c<256:=by have:=(s[2]).toNat_lt;omega
 have d1:d<256:=by have:=(s[3]).toNat_lt;omega
 go_enter Tryz.func120,Tryz.ntmps120
 go_wp2
 go_region
 ·go_wp2_with fail
  obtain⟨X0,X1,O0,B0⟩:=readA w a b c d;refine(C1.out _ _ O0.rints).mono ?_;intro e w1 hh;obtain⟨rfl,B1⟩:=hh;have Y0:=X0.below B1 X0.lt;have Y1:=X1.below B1 X1.lt;have O1:=O0.below B1 nR;have b1:Bw w w1:=B0.trans (B1.mono B0.size);obtain⟨q0,q1,q2,z0,z1,z2,m0⟩:=zbk (w1:=w1) (b:=w.1.size) Y0;obtain⟨d0,d1,d2⟩:=Y1.cells;have m1:=Y1.lt;have HO:=hJ O1;have HB:=hJ b1;clear B1 Y0 Y1 O1 b1 X0 X1 O0 B0 C1 ha hb hc hd hs i0 i1 i2 i3
  cases r with
  | true =>
   go_wp2;refine bY (v:=.tuple #[.agg #[nI a,nI b,.slice (aA (w.1.size+1) 0) 2 2],.bool true]) sQ3 rfl ⟨_,rfl,?_,?_⟩
   ·exact cQ107
   exact((HB.o.setCell nR _).setCell nR _).setCell nR _
  | false =>
   exact cQ65
 go_wp2_with fail
 obtain⟨X0,X1,O0,B0⟩:=readB w a b c d;refine(C1.out _ _ O0.rints).mono ?_;intro e w1 hh;obtain⟨rfl,B1⟩:=hh;have Y0:=X0.below B1 X0.lt;have Y1:=X1.below B1 X1.lt;have O1:=O0.below B1 nR;have b1:Bw w w1:=B0.trans (B1.mono B0.size);obtain⟨q0,q1,q2,z0,z1,z2,m0⟩:=zbk (w1:=w1) (b:=w.1.size) Y0;obtain⟨d0,d1,d2⟩:=Y1.cells;have m1:=Y1.lt;have HO:=hJ O1;have HB:=hJ b1;clear B1 Y0 Y1 O1 b1 X0 X1 O0 B0 C1 ha hb hc hd hs i0 i1 i2 i3
 cases r with
 | true =>
  go_wp2;refine bY (v:=.tuple #[.agg #[nI a,nI b,.slice (aA (w.1.size+1+1) 0) 2 2],.bool true]) sQ3 rfl ⟨_,rfl,?_,?_⟩
  ·exact cQ107
  exact((HB.o.setCell nR _).setCell nR _).setCell nR _
 | false =>
  exact cQ65
def Rd(s:BA)(r:Bool)(k l:Int)(xs:List Int):Prop :=
 (s.size≠4/\r=false/\k=0/\l=0/\xs=[]) \/
 ∃(_:s.size=4)(a b c d:Nat),(s[0]).toNat=a/\(s[1]).toNat=b/\(s[2]).toNat=c/\(s[3]).toNat=d/\okR a b c d=r/\k=(if r then(a:Int)else 0)/\l=(if r then(b:Int)else 0)/\xs=(if r then[(c:Int),(d:Int)]else[])
theorem Rd.none{s:BA}(h:s.size≠4):Rd s false 0 0 []:=.inl ⟨h,rfl,rfl,rfl,rfl⟩
theorem Rd.four{s:BA}(h:s.size=4)(a b c d:Nat)(ha:(s[0]).toNat=a)(hb:(s[1]).toNat=b)(hc:(s[2]).toNat=c)(hd:(s[3]).toNat=d)(r:Bool)(hr:okR a b c d=r):Rd s r (if r then(a:Int)else 0) (if r then(b:Int)else 0) (if r then[(c:Int),(d:Int)]else[]) :=
 .inr ⟨h,a,b,c,d,ha,hb,hc,hd,hr,rfl,rfl,rfl⟩
theorem rd_ex(s:BA):∃r k l xs,Rd s r k l xs/\xs.length<=2:=by
 by_cases h:s.size=4
 ·refine⟨_,_,_,_,.four h _ _ _ _ rfl rfl rfl rfl _ rfl,?_⟩
  split<;>simp
 exact⟨_,_,_,_,.none h,sI⟩
theorem zii{s:BA}{r:Bool}{k l:Int}{xs:List Int}(h:Rd s r k l xs)(w:Wd)(h1:s.size<=1048576):
  Calls Tryz.prog 120 #[.string s] w fun e w'=>∃v,e=.returned (.tuple #[.agg #[nI k,nI l,v],.bool r])/\ROwns w' w.1.size 3 v (ic xs)/\Bw w w':=by
 rcases h with⟨h,rfl,rfl,rfl,rfl⟩| ⟨h,a,b,c,d,ha,hb,hc,hd,hr,rfl,rfl,rfl⟩
 ·exact(zih s w h h1).mono fun e w' ⟨he,hb⟩=>⟨_,he,ROwns.nil _ _ _,hb⟩
 exact zha s w h a b c d ha hb hc hd r hr
theorem Rd.ok{s:BA}{r:Bool}{k l:Int}{xs:List Int}(h:Rd s r k l xs)(hr:r=true):IOk (k,l,xs):=by
 rcases h with⟨-,e,-⟩| ⟨h4,a,b,c,d,-,-,-,-,h5,rfl,rfl,rfl⟩
 ·rw[hr]at e;simp at e
 subst hr;exact ok.IOk (by simp only[if_true];exact h5)
end Go.Proofs.YtgnplpmgkegcnaaGreat
