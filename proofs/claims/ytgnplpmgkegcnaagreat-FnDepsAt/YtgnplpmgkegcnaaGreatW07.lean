/- Texts. -/
import Derived.Test.YtgnplpmgkegcnaaGreatW02
import Derived.Test.YtgnplpmgkegcnaaGreatW03
set_option maxRecDepth 100000
set_option maxHeartbeats 12800000
namespace Go.Proofs.YtgnplpmgkegcnaaGreat
open Go.RowKit Kit
variable {Z : ZT}
theorem flag_any(L b:Nat)(x:Int)(w:Wd)(h:BX Z w L b):
  Calls Tryz.prog 211 #[.pointer (aA b 0),nI x] w fun e w'=>e=.returned (.tuple #[])/\BX Z w' L b/\Below L w w':=by
 obtain⟨S,u,v,iv,bv,dv,pv,m,hP,aN,aL,hS⟩:=h;obtain⟨a6,c6,rfl,-⟩:=hP.mr.p;obtain⟨n,hn⟩:∃n,m.6.length=n:=⟨_,rfl⟩
 rw[hn]at hP;have aQ:n<=40:=by rw[←hn];exact hS.l
 have x5:=hP.box.c5;have HH:Hid (PM w S b u v iv bv dv (.slice a6 n c6) m/\Sh Z m/\m.6.length=n/\Below L w w):=⟨hP,hS,hn,bF _ _⟩
 have aK:=hJ aN;have aO:=hJ aL;clear hP hS hn aN aL;go_enter Tryz.func211,Tryz.ntmps211
 go_wp2;go_loopw [4] (fun i wr=>∃j:Nat,j<=n/\i=.int .i64 j/\Hid (∃m':MD,PM wr S b u v iv bv dv (.slice a6 n c6) m'/\Sh Z m'/\m'.6.length=n/\Below L w wr)) (fun i _=>n-(intOf i).toNat)
 case atStart=>exact⟨0,zL _,rfl,m,HH.o⟩
 obtain⟨j,hj,rfl,HR⟩:=hrel;obtain⟨m',q1,q2,q3,q4⟩:=HR.o;have y5:=q1.box.c5;by_cases hlt:j<n
 ·have aH:j<m'.6.length:=oM
  have aP:=q2.dd _ (gM_ aH);obtain⟨g,c,p,e1,nn,rp,-,-,aG,-⟩:=q1.dep_at j aH;rw[q3]at e1;simp only[vJ,true_and]at e1;obtain⟨rfl,rfl⟩:=e1;obtain⟨X,hX⟩:∃X,m'.ds[j]=X:=⟨_,rfl⟩
  rw[hX]at nn rp aP;obtain⟨id,kd,io,pt,bk,sl,nm,bt,ot,af,bl⟩:=X;simp only at rp;obtain⟨pa,pc,rfl⟩:=rp.form;simp only[DCells]at nn;obtain⟨n0,n1,n2,n3,n4,n5,n6,n7,n8,n9,aT⟩:=nn;have HT:Hid (∀(aC aD:Bool)(W:Wd)(M:MD),PM W S b u v iv bv dv (.slice (aA g 0) n c6) M->Sh Z M->M.ds.length=n->(∃h:j<M.ds.length,M.ds[j]=(⟨id,kd,io,pt,bk,sl,nm,aC,aD,af,bl⟩:Dp))->Below L w W ->
    W.cell? ⟨b,5,none⟩=some (.slice (aA g 0) n c6)/\W.cell? ⟨g,j*11+7,none⟩=some (.bool aC)/\W.frozen? ⟨g,j*11+7,none⟩=false/\W.cell? ⟨g,j*11+8,none⟩=some (.bool aD)/\W.frozen? ⟨g,j*11+8,none⟩=false /\
    (∃M',PM (W.setCell ⟨g,j*11+7,none⟩ (.bool true)) S b u v iv bv dv (.slice (aA g 0) n c6) M'/\Sh Z M'/\M'.ds.length=n/\(∃h:j<M'.ds.length,M'.ds[j]=(⟨id,kd,io,pt,bk,sl,nm,true,aD,af,bl⟩:Dp))/\Below L w (W.setCell ⟨g,j*11+7,none⟩ (.bool true))) /\
    (∃M',PM (W.setCell ⟨g,j*11+8,none⟩ (.bool true)) S b u v iv bv dv (.slice (aA g 0) n c6) M'/\Sh Z M'/\M'.ds.length=n/\(∃h:j<M'.ds.length,M'.ds[j]=(⟨id,kd,io,pt,bk,sl,nm,aC,true,af,bl⟩:Dp))/\Below L w (W.setCell ⟨g,j*11+8,none⟩ (.bool true)))):=fun aC aD W M h1 h2 h3 h4 h5=>by
   obtain⟨aF,hM⟩:=h4;obtain⟨g',c',p',e1,nn,rp,hz,gS,aS,aB⟩:=h1.dep_at j aF;simp only[vJ,oJ,aJ,and_true]at e1;obtain⟨rfl,-,rfl⟩:=e1;have dk:=h2.dd _ (gM_ aF);rw[hM]at nn aB dk;simp only[DCells]at nn;obtain⟨-,-,-,-,-,-,-,z7,z8,-⟩:=nn;have mk:∀d':Dp,DOk d'->AlkD d' M.ds[j]->Sh Z { M with ds:=M.ds.set j d' }/\({ M with ds:=M.ds.set j d' }:MD).ds.length=n/\∃h:j<({ M with ds:=M.ds.set j d' }:MD).ds.length,({ M with ds:=M.ds.set j d' }:MD).ds[j]=d':=fun d' hd ha=>⟨h2.deps (by rw[lS];exact h2.l) (fun q hq=>(mS hq).elim (h2.dd q) (fun e=>e ▸ hd)) (zd5 _ j aF _ ha),by show(M.ds.set j d').length=n;rw[lS];exact h3,by show j<(M.ds.set j d').length;rw[lS];exact aF,by show(M.ds.set j d')[j]'_=d';simp⟩
   refine⟨h1.box.cell 5,z7,hz _,z8,hz _,⟨_,aB 7 (.bool true) (⟨id,kd,io,pt,bk,sl,nm,true,aD,af,bl⟩:Dp) dC rfl rfl,?_⟩,⟨_,aB 8 (.bool true) (⟨id,kd,io,pt,bk,sl,nm,aC,true,af,bl⟩:Dp) dC rfl rfl,?_⟩⟩
   ·obtain⟨a,b',c⟩:=mk (⟨id,kd,io,pt,bk,sl,nm,true,aD,af,bl⟩:Dp) ⟨⟨dk.io,dk.pt,dk.bk,dk.sl,dk.bl,dk.bn,dk.nm⟩,dk.id⟩ (by rw[hM];exact⟨Iff.rfl,fun _=>⟨rfl,rfl⟩⟩);exact⟨a,b',c,h5.setCell (aK.o _ gS) _⟩
   ·obtain⟨a,b',c⟩:=mk (⟨id,kd,io,pt,bk,sl,nm,aC,true,af,bl⟩:Dp) ⟨⟨dk.io,dk.pt,dk.bk,dk.sl,dk.bl,dk.bn,dk.nm⟩,dk.id⟩ (by rw[hM];exact⟨Iff.rfl,fun _=>⟨rfl,rfl⟩⟩);exact⟨a,b',c,h5.setCell (aK.o _ gS) _⟩
  have bw:Below L w (wr.n (K7 id kd io pt bk sl nm bt ot af pa bl.length pc) 42):=q4.alloc (lT aO.o (Nat.le_of_lt q1.box.lt)) _;have T0:=HT.o bt ot (wr.alloc (.cells (K7 id kd io pt bk sl nm bt ot af pa bl.length pc) 42)) m' (q1.alloc _) q2 q3 ⟨aH,hX⟩ bw;have H0:Hid (∃M',PM (wr.n (K7 id kd io pt bk sl nm bt ot af pa bl.length pc) 42) S b u v iv bv dv (.slice (aA g 0) n c6) M'/\Sh Z M'/\M'.ds.length=n/\Below L w (wr.n (K7 id kd io pt bk sl nm bt ot af pa bl.length pc) 42)):=⟨m',q1.alloc _,q2,q3,bw⟩
  have HE:Hid (∃W7,(wr.n (K7 id kd io pt bk sl nm bt ot af pa bl.length pc) 42).setCell ⟨g,j*11+7,none⟩ (.bool true)=W7/\W7.cell? ⟨b,5,none⟩=some (.slice (aA g 0) n c6)/\W7.cell? ⟨g,j*11+8,none⟩=some (.bool ot)/\W7.frozen? ⟨g,j*11+8,none⟩=false/\AtC W7 wr.1.size 42 (K7 id kd io pt bk sl nm bt ot af pa bl.length pc)/\Hid ((∃M',PM W7 S b u v iv bv dv (.slice (aA g 0) n c6) M'/\Sh Z M'/\M'.ds.length=n/\Below L w W7)/\∃M',PM (W7.setCell ⟨g,j*11+8,none⟩ (.bool true)) S b u v iv bv dv (.slice (aA g 0) n c6) M'/\Sh Z M'/\M'.ds.length=n/\Below L w (W7.setCell ⟨g,j*11+8,none⟩ (.bool true)))):=by
   obtain⟨M1,r1,r2,r3,r4,r5⟩:=T0.2.2.2.2.2.1;obtain⟨s1,-,-,s4,s5,-,M2,t1,t2,t3,-,t5⟩:=HT.o true ot _ M1 r1 r2 r3 r4 r5;exact⟨_,rfl,s1,s4,s5,(AtC.new wr 42 _).other (Nat.ne_of_gt aG) _,⟨M1,r1,r2,r3,r5⟩,M2,t1,t2,t3,t5⟩
  have HO:Hid (∃W8,(wr.n (K7 id kd io pt bk sl nm bt ot af pa bl.length pc) 42).setCell ⟨g,j*11+8,none⟩ (.bool true)=W8/\Hid (∃M',PM W8 S b u v iv bv dv (.slice (aA g 0) n c6) M'/\Sh Z M'/\M'.ds.length=n/\Below L w W8)):=by
   obtain⟨M2,t1,t2,t3,-,t5⟩:=T0.2.2.2.2.2.2;exact⟨_,rfl,M2,t1,t2,t3,t5⟩
  obtain⟨z5,z7,f7,z8,f8,-,-⟩:=T0;clear HT q1 q2 q3 q4 HR bw hX rp aP;have j0:(0:Int)<=(j:Int):=oM
  have j1:(j:Int)<(n:Int):=oM
  by_cases h1:kd=1
  ·subst h1;obtain⟨U,hU⟩:∃U,uoB bk=U:=⟨_,rfl⟩
   have CU:Hid (∀W,Calls Tryz.prog 203 #[nI bk] W fun e w'=>e=.returned (nI U)/\w'=W):=fun W=>by rw[←hU];exact zbl bk W
   clear hU;by_cases hx:x=0
   ·subst hx;obtain⟨W7,aM,a5,a8,b8,A7,HW⟩:=HE.o;obtain⟨-,d1,d2,-,d4⟩:=A7.k5;clear A7;by_cases hU:U=0
    ·subst hU;go_wp2_with (go_at_call 203;refine(CU.out _).mono ?_;rintro e w9 ⟨rfl,rfl⟩)
     go_roundw
     case rel=>exact⟨j+1,oM,gK,HW.o.2⟩
     simp[intOf];omega
    go_wp2_with (go_at_call 203;refine(CU.out _).mono ?_;rintro e w9 ⟨rfl,rfl⟩)
    go_roundw
    case rel=>exact⟨j+1,oM,gK,HW.o.1⟩
    simp[intOf];omega
   by_cases hU:U=x
   ·subst hU;obtain⟨W8,aR,HW⟩:=HO.o;go_wp2_with (go_at_call 203;refine(CU.out _).mono ?_;rintro e w9 ⟨rfl,rfl⟩)
    go_roundw
    case rel=>exact⟨j+1,oM,gK,HW.o⟩
    simp[intOf];omega
   go_wp2_with (go_at_call 203;refine(CU.out _).mono ?_;rintro e w9 ⟨rfl,rfl⟩)
   go_roundw
   case rel=>exact⟨j+1,oM,gK,H0.o⟩
   simp[intOf];omega
  by_cases h2:kd=2
  ·subst h2;obtain⟨U,hU⟩:∃U,uoI io=U:=⟨_,rfl⟩
   have CU:Hid (∀W,Calls Tryz.prog 198 #[nI io] W fun e w'=>e=.returned (nI U)/\w'=W):=fun W=>by rw[←hU];exact zbp io W
   clear hU;by_cases hx:x=0
   ·subst hx;obtain⟨W7,aM,a5,a8,b8,A7,HW⟩:=HE.o;obtain⟨-,d1,d2,-,d4⟩:=A7.k5;clear A7;by_cases hU:U=0
    ·subst hU;go_wp2_with (go_at_call 198;refine(CU.out _).mono ?_;rintro e w9 ⟨rfl,rfl⟩)
     go_roundw
     case rel=>exact⟨j+1,oM,gK,HW.o.2⟩
     simp[intOf];omega
    go_wp2_with (go_at_call 198;refine(CU.out _).mono ?_;rintro e w9 ⟨rfl,rfl⟩)
    go_roundw
    case rel=>exact⟨j+1,oM,gK,HW.o.1⟩
    simp[intOf];omega
   by_cases hU:U=x
   ·subst hU;obtain⟨W8,aR,HW⟩:=HO.o;go_wp2_with (go_at_call 198;refine(CU.out _).mono ?_;rintro e w9 ⟨rfl,rfl⟩)
    go_roundw
    case rel=>exact⟨j+1,oM,gK,HW.o⟩
    simp[intOf];omega
   go_wp2_with (go_at_call 198;refine(CU.out _).mono ?_;rintro e w9 ⟨rfl,rfl⟩)
   go_roundw
   case rel=>exact⟨j+1,oM,gK,H0.o⟩
   simp[intOf];omega
  have g1:=dF h1;have g2:=dF h2;by_cases hx:x=0
  ·subst hx;obtain⟨W7,aM,a5,a8,b8,A7,HW⟩:=HE.o;obtain⟨-,d1,d2,-,d4⟩:=A7.k5;clear A7;go_wp2
   ·go_roundw
    case rel=>exact⟨j+1,oM,gK,HW.o.1⟩
    simp[intOf];omega
   go_roundw
   case rel=>exact⟨j+1,oM,gK,H0.o⟩
   simp[intOf];omega
  exact cQ46
 have HF:Hid (BX Z wr L b/\Below L w wr):=⟨⟨S,u,v,iv,bv,dv,_,m',q1,aK.o,aO.o,q2⟩,q4⟩
 exact cQ101
theorem zbq{s:BA}(h:0<s.size):s.toList.isEmpty=false:=by
 exact cQ98
theorem zbm{a b:BA}(h:¬a=b):(a.toList==b.toList)=false:=by
 exact cQ108
def zmb(ss:List Sl)(nm:BA)(k:Int):Prop:=(k=-1/\(nm.size=0\/∀(i:Nat)(hi:i<ss.length),¬ss[i].1=nm))\/∃(j:Nat)(hj:j<ss.length),k=(j:Int)/\ss[j].1=nm/\nm.size≠0/\∀(i:Nat)(hi:i<j),¬(ss[i]'(Nat.lt_trans hi hj)).1=nm
theorem zjq(d:Bool)(sv:Va)(ss:List Sl)(tx nm:BA)(w:Wd)(h:RSl w sv ss)(hl:ss.length<=1048576):
  Calls Tryz.prog 140 #[.agg #[.bool d,sv,.string tx],.string nm] w fun e w'=>∃k:Int,e=.returned (nI k)/\zmb ss nm k/\Bw w w':=by
 have H:=hJ h;obtain⟨a,c,rfl,-,hc⟩:=h;obtain⟨W0,aC⟩:∃W0,w.alloc (.cells #[.bool d,sL a ss c,.string tx] 95)=W0:=⟨_,rfl⟩
 have HB:Hid (Bw w W0):=by rw[←aC];exact(bF _ w).alloc nR _
 have x1:W0.cell? ⟨w.1.size,1,none⟩=some (sL a ss c):=by rw[←aC];exact(AtC.new w 95 _).cell 1
 have HC:Hid (∀(j:Nat)(hj:j<ss.length),∃g aB,a=some ⟨g,aB,none⟩/\W0.cell? ⟨g,aB+j*2,none⟩=some (.string ss[j].1)):=fun j hj=>by
  obtain⟨g,aB,e,hg,k0,-⟩:=hc j hj;exact⟨g,aB,e,(HB.o.cell (p:=⟨g,aB+j*2,none⟩) hg).trans k0⟩
 clear hc;by_cases hn:nm=⟨#[]⟩
 ·subst hn;go_enter Tryz.func140,Tryz.ntmps140
  go_wp2;clear aC;go_loopw [5] (fun i wr=>∃j:Nat,j<=ss.length/\i=.int .i64 j/\W0=wr) (fun i _=>ss.length-(intOf i).toNat)
  case atStart=>exact⟨0,zL _,rfl,rfl⟩
  obtain⟨j,hj,rfl,rfl⟩:=hrel;by_cases hlt:j<ss.length
  ·have j0:(0:Int)<=(j:Int):=oM
   have j1:(j:Int)<(ss.length:Int):=oM
   go_wp2;go_roundw
   case rel=>exact⟨j+1,oM,gK,by first| trivial|rfl⟩
   simp[intOf];omega
  go_wp2;go_ret;exact⟨_,rfl,.inl ⟨rfl,.inl rfl⟩,HB.o⟩
 have HN:Hid (nm.size≠0):=fun e=>hn (by
  obtain⟨⟨l⟩⟩:=nm;have:l=[]:=List.length_eq_zero_iff.1 e;subst this;rfl)
 have aG:=zbq (Nat.pos_of_ne_zero HN.o);go_enter Tryz.func140,Tryz.ntmps140
 go_wp2;clear aC;go_loopw [5] (fun i wr=>∃j:Nat,j<=ss.length/\i=.int .i64 j/\W0=wr/\Hid (∀(i:Nat)(hi:i<ss.length),i<j->¬ss[i].1=nm)) (fun i _=>ss.length-(intOf i).toNat)
 case atStart=>exact⟨0,zL _,rfl,rfl,fun i _ h=>absurd h (Nat.not_lt_zero i)⟩
 obtain⟨j,hj,rfl,rfl,HQ⟩:=hrel;by_cases hlt:j<ss.length
 ·have j0:(0:Int)<=(j:Int):=oM
  have j1:(j:Int)<(ss.length:Int):=oM
  obtain⟨g,aB,rfl,k0⟩:=HC.o j hlt;obtain⟨t,ht⟩:∃t,ss[j].1=t:=⟨_,rfl⟩
  rw[ht]at k0;by_cases he:t=nm
  ·have HF:Hid (zmb ss nm (j:Int)):=.inr ⟨j,hlt,rfl,ht.trans he,HN.o,fun i hi=>HQ.o i (Nat.lt_trans hi hlt) hi⟩;subst he;clear ht;go_wp2;go_ret;exact⟨_,rfl,HF.o,HB.o⟩
  have aF:=zbm he;have aD:Hid (∀(i:Nat)(hi:i<ss.length),i<j+1->¬ss[i].1=nm):=fun i hi h=>by
   by_cases e:i=j
   ·subst e;rw[ht];exact he
   exact HQ.o i hi oM
  clear ht;go_wp2;go_roundw
  case rel=>exact⟨j+1,oM,gK,by first| trivial|rfl,aD.o⟩
  simp[intOf];omega
 go_wp2;go_ret;exact⟨_,rfl,.inl ⟨rfl,.inr fun i hi=>HQ.o i hi oM⟩,HB.o⟩
namespace Kit
section
variable {P : Program} {ops : Array Oper} {Q : Exit -> Act -> World -> Prop} {a : Act} {w : World}
theorem line2{i j:Nat}{o1 o2:Oper}(h1:ops[i]?=some o1)(h2:ops[j]?=some o2)(h:wpList P ops Q [o1,o2] a w):wpList P ops Q ([i,j].filterMap fun k=>ops[k]?) a w:=by
 simpa[h1,h2]using h
theorem line3{i j k:Nat}{o1 o2 o3:Oper}(h1:ops[i]?=some o1)(h2:ops[j]?=some o2)(h3:ops[k]?=some o3)(h:wpList P ops Q [o1,o2,o3] a w):wpList P ops Q ([i,j,k].filterMap fun k=>ops[k]?) a w:=by
 simpa[h1,h2,h3]using h
end
def fstOf:Va->Value
 | .tuple xs=>xs.getD 0 undef
 | u=>u
def MkBf(k l:Nat)(w0:Wd)(d:Bool)(t:BA)(ss:List Sl)(f:Bool):Mk:=.val [k,l] (fun _ _ _ v=>∃a c,v=.tuple #[.agg #[.bool d,.slice a ss.length c,.string t],.bool f]/\RSl w0 (.slice a ss.length c) ss)
 (fun _ _ _ _ _ h _=>h)
def MkBv(k:Nat)(d:Bool)(t:BA)(n:Nat)(f:Bool):Mk:=.val1 [k] k sI (fun _ _ _ u v=>u=v/\∃a c,v=.tuple #[.agg #[.bool d,.slice a n c,.string t],.bool f]) (fun _ _ _ _ _ _ h _=>h)
def MkBx(k:Nat):Mk:=.val1 [k] k sI (fun _ _ _ u v=>v=fstOf u) (fun _ _ _ _ _ _ h _=>h)
end Kit
theorem zm5{xs ys:List Bool}{is:List Ino}{bs:List Blk}(hB:Big 1048576 xs ys is bs)(x:Int):(blkAt bs x).2.1.length<=1048576:=by
 unfold blkAt
 split
 ·by_cases h:(x-1).toNat<bs.length
  ·rw[gD_,gE h];exact(hB.s _ h).1
  rw[gD_,List.getElem?_eq_none oM];exact zL _
 exact zL _
def zh7(bs:List Blk)(nm:BA)(B s k:Int):Prop:=(B=0/\s=0/\k=0)\/(inB B 1 bs.length=true/\(blkAt bs B).1=true/\∃(j:Nat) (hj:j<(blkAt bs B).2.1.length),s=(j:Int)/\k=(blkAt bs B).2.1[j].2/\(blkAt bs B).2.1[j].1=nm/\nm.size≠0)
namespace Kit
def sndOf:Va->Value
 | .tuple xs=>xs.getD 1 undef
 | u=>u
def thdOf:Va->Value
 | .tuple xs=>xs.getD 2 undef
 | u=>u
def MkT2(ds:List Nat)(R:Nat->Nat->Wd->Va->Va->Prop)(hst:∀lo hi w w' a r,R lo hi w a r->Bw w w'->R lo hi w' a r):Mk:=.val ds (fun lo hi w v=>∃a r,v=.tuple #[a,r]/\R lo hi w a r)
 (fun lo hi w w' _ h hb=>by obtain⟨a,r,h1,h2⟩:=h;exact⟨a,r,h1,hst lo hi w w' a r h2 hb⟩)
def MkMv(k:Nat):Mk:=.val1 [k] k sI (fun _ _ _ u v=>u=v/\∃a r,v=.tuple #[a,r]) (fun _ _ _ _ _ _ h _=>h)
def MkMv3(k:Nat):Mk:=.val1 [k] k sI (fun _ _ _ u v=>u=v/\∃a r q,v=.tuple #[a,r,q]) (fun _ _ _ _ _ _ h _=>h)
def MkFs(k:Nat):Mk:=.val1 [k] k sI (fun _ _ _ u v=>v=fstOf u) (fun _ _ _ _ _ _ h _=>h)
def MkSd(k:Nat):Mk:=.val1 [k] k sI (fun _ _ _ u v=>v=sndOf u) (fun _ _ _ _ _ _ h _=>h)
def MkTd(k:Nat):Mk:=.val1 [k] k sI (fun _ _ _ u v=>v=thdOf u) (fun _ _ _ _ _ _ h _=>h)
end Kit
namespace Kit
def needs(md:Region.Mode)(ops:Array Oper)(t:List Nat)(x:Nat):Bool:=t.any fun i=>match ops[i]? with| some o=>o.after.any fun e=>Region.binds md e&&e.on==x|none=>false
def zge(md:Region.Mode)(ops:Array Oper):List Nat->List (List Nat)
 | []=>[[]]
 | x::r=>(zge md ops r).filter (fun t=>!needs md ops t x)++(zge md ops r).map fun t=>x::t
theorem zg5:∀(js t:List Nat),t∈subs js->∀i∈t,i∈js
 | [],t,h,i,hi=>by simp[subs]at h;subst h;simp at hi
 | x::r,t,h,i,hi=>by
  rw[subs,List.mem_append]at h;rcases h with h|h
  ·exact mC _ (zg5 r t h i hi)
  ·obtain⟨t',h',rfl⟩:=List.mem_map.mp h;rcases List.mem_cons.mp hi with rfl|hi
   ·exact List.mem_cons_self
   ·exact mC _ (zg5 r t' h' i hi)
theorem zea(md:Region.Mode)(ops:Array Oper):∀(js:List Nat),js.Nodup->∀t∈subs js,(∀i∈t,∀o,ops[i]?=some o->∀e∈o.after,Region.binds md e=true->e.on∈js->e.on∈t)->t∈zge md ops js
 | [],_,t,ht,_=>by simpa[subs,zge]using ht
 | x::r,hn,t,ht,hc=>by
  obtain⟨hx,hr⟩:=List.nodup_cons.mp hn;rw[subs,List.mem_append]at ht;rw[zge,List.mem_append];rcases ht with ht|ht
  ·left
   refine List.mem_filter.mpr ⟨zea md ops r hr t ht fun i hi o ho e he hb hj=>hc i hi o ho e he hb (mC _ hj),?_⟩;have aB:x∉t:=fun e=>hx (zg5 r t ht x e);simp only[Bool.not_eq_true',needs,List.any_eq_false];intro i hi
   cases ho:ops[i]? with
   | none=>simp
   | some o =>
    intro hh;obtain⟨k,hk,hh⟩:=Array.any_eq_true.mp hh;simp only[aE,beq_iff_eq]at hh;obtain⟨hb,he⟩:=hh;exact aB (he ▸ hc i hi o ho o.after[k] (Array.getElem_mem hk) hb (by rw[he];exact List.mem_cons_self))
  ·right
   obtain⟨t',h',rfl⟩:=List.mem_map.mp ht;refine List.mem_map.mpr ⟨t',zea md ops r hr t' h' fun i hi o ho e he hb hj=>?_,rfl⟩;rcases List.mem_cons.mp (hc i (mC _ hi) o ho e he hb (mC _ hj))with q|q
   ·exact absurd (q ▸ hj) hx
   ·exact q
def zm6(md:Region.Mode)(ops:Array Oper)(js:List Nat)(exits:List (List Nat)):Bool :=
 (zge md ops js).all fun t=>t==js || exits.contains t || !zd4 md ops t || (!(Region.ready md ops (mask ops.size t)).isEmpty&&(Region.ready md ops (mask ops.size t)).all fun i=>js.contains i&&!t.contains i)
theorem zbr{md:Region.Mode}{ops:Array Oper}{js:List Nat}{exits:List (List Nat)}(hn:decide js.Nodup=true)(h:zm6 md ops js exits=true):zcx md ops js exits=true:=by
 unfold zcx;refine List.all_eq_true.mpr fun t ht=>?_;by_cases hc:zd4 md ops t=true
 ·refine List.all_eq_true.mp h t (zea md ops js (of_decide_eq_true hn) t ht fun i hi o ho e he hb _=>?_);have:=List.all_eq_true.mp hc i hi;rw[ho]at this;obtain⟨k,hk,rfl⟩:=Array.mem_iff_getElem.mp he;have:=Array.all_eq_true.mp this k hk;rw[hb]at this;simpa using this
 simp[hc]
end Kit
namespace Kit
section
variable {P : Program} {ops : Array Oper} {Q : Exit -> Act -> World -> Prop}
theorem upd_same{α:Type}(x:Nat->α)(j:Nat):upd x j (x j)=x:=funext fun i=>by
 unfold upd
 split
 ·rename_i e;rw[e]
 ·rfl
theorem zeq{id:Nat}{w:Wd}{a0:Act}(hm:P.follows .mixedOrders=true)(js:List Nat)(st:Nat)(need:List Nat)(L:Nat->Mk)(act:(Nat->Value)->Act)(x0:Nat->Value)(ha:a0=act x0)(F:(Nat->Value)->(Nat->Nat×Nat)->Wd->World)
  (ok:zcx .any ops (st::js) []=true) (aG:zcj .any ops (st::js) []=true) (okd:zej ops js (fun i=>(L i).deps)=true) (okn:zej ops [st] (fun _=>need)=true) (hsz:0+(st::js).length=ops.size) (hst:st∉js) (hdj:∀j∈js,st∉(L j).deps)
  (hF:∀j v p x iv W,j∉need->F (upd x j v) (upd iv j p) W=F x iv W)
  (prod:∀j∈js,∀s x iv W,(∀k∈(L j).deps,k∈s)->PX w.drew s (fun i lo hi w x=>(L i).P lo hi w (x i) x) x iv W->∀K:Act->Wd->Prop,(∀v W',Bw W W'->(L j).P W.1.size W'.1.size W' v (upd x j v)->K (act (upd x j v)) W')->wpOp P ops Q j K (act x) W)
  (prod2:∀j∈js,j∉need->∀s x iv W',(∀k∈(L j).deps,k∈s)->PX w.drew s (fun i lo hi w x=>(L i).P lo hi w (x i) x) x iv W'->∀(W:Wd)(K:Act->Wd->Prop),(∀v,(L j).P W'.1.size W'.1.size W' v (upd x j v)->K (act (upd x j v)) W)->wpOp P ops Q j K (act x) W)
  (store:∀s x iv W,(∀k∈need,k∈s)->PX w.drew s (fun i lo hi w x=>(L i).P lo hi w (x i) x) x iv W->∀K:Act->Wd->Prop,K (act x) (F x iv W)->wpOp P ops Q st K (act x) W)
  (done:∀x iv W,PX w.drew js (fun i lo hi w x=>(L i).P lo hi w (x i) x) x iv W->Q .normal (act x) (F x iv W)):(Code.region id ops true).wp P Q a0 w:=by
 have aD:∀(D:Nat->List Nat)(l:List Nat),zej ops l D=true->∀j∈l,∀s,j∈Region.ready .any ops (mask ops.size s)->∀k∈D j,k∈s:=by
  intro D l aG j hj s hr k hk;have h:=List.all_eq_true.1 aG j hj
  exact cQ35
 subst ha;refine wp_region_any hm ?_;have h:=zdy (P:=P) (Q:=Q) (md:=.any) (st::js) [] 0 act (fun s x W=>((∀i∈s,i≠st->∀k∈(L i).deps,k∈s)/\∀i∈s,i∈st::js)/\((st∉s/\∃iv,PX w.drew s (fun i lo hi w x=>(L i).P lo hi w (x i) x) x iv W)\/(st∈s/\(∀k∈need,k∈s)/\∃iv W',PX w.drew (s.filter (· != st)) (fun i lo hi w x=>(L i).P lo hi w (x i) x) x iv W'/\W=F x iv W'))) ok ?_ ?_ ?_ (st::js).length 0 [] x0 w.drew (List.length_filter_le _ _) nR (fun i hi=>by cases hi) (fun i hi=>by cases hi) ⟨⟨(fun i hi=>by cases hi),(fun i hi=>by cases hi)⟩,.inl ⟨sI,fun _=>(0,0),⟨bF _ _,(fun i hi=>by cases hi),(fun i hi=>by cases hi),(fun i hi=>by cases hi)⟩⟩⟩
 ·rw[hsz,zgs]at h;exact h
 ·intro j hj s x W hr aF hI K hK;obtain⟨⟨hcl,aM⟩,hI⟩:=hI;have aB:∀i∈j::s,i∈st::js:=fun i hi=>(List.mem_cons.1 hi).elim (fun e=>e ▸ hj) (aM i);rcases List.mem_cons.1 hj with rfl|hj
  ·have aC:=aD (fun _=>need) [j] okn j sI s hr;rcases hI with⟨h1,iv,hp⟩| ⟨h1,-⟩
   ·refine store s x iv W aC hp K ?_;have:=hK (x j) (F x iv W);rw[upd_same]at this;refine this ⟨⟨fun i hi hne k hk=>?_,aB⟩,.inr ⟨sI,fun k hk=>mC _ (aC k hk),iv,W,hp.of_mem fun i hi=>?_,rfl⟩⟩
    ·rcases List.mem_cons.1 hi with e|hi
     ·exact absurd e hne
     exact mC _ (hcl i hi hne k hk)
    have:=List.mem_filter.1 hi;rcases List.mem_cons.1 this.1 with e|hi
    ·rw[e]at this;simp at this
    exact hi
   exact absurd h1 aF
  have hd:=aD (fun i=>(L i).deps) js okd j hj s hr;have aH:j≠st:=fun e=>hst (e ▸ hj);rcases hI with⟨h1,iv,hp⟩| ⟨h1,aC,iv,W',hp,rfl⟩
  ·refine prod j hj s x iv W hd hp K fun v W' hb aK=>hK v W' ⟨⟨fun i hi hne k hk=>?_,aB⟩,.inl ⟨fun e=>?_,_,hp.add (fun i=>(L i).deps) (fun i lo hi w w' x h hb=>(L i).st lo hi w w' (x i) x h hb) (fun i lo hi w x x' e1 e2 h=>by rw[←e1];exact(L i).cg lo hi w (x i) x x' e2 h) (fun i hi k hk=>hcl i hi (fun e=>h1 (e ▸ hi)) k hk) aF hb (by rw[za7];exact aK)⟩⟩
   ·exact cQ97
   rcases List.mem_cons.1 e with e|e
   ·exact aH e.symm
   exact h1 e
  have aN:j∉need:=fun e=>aF (aC j e);have aO:∀k∈(L j).deps,k∈s.filter (· != st):=fun k hk=>List.mem_filter.2 ⟨hd k hk,by simp;exact fun e=>hdj j hj (e ▸ hk)⟩;refine prod2 j hj aN _ x iv W' aO hp (F x iv W') K fun v aK=>hK v (F x iv W') ⟨⟨fun i hi hne k hk=>?_,aB⟩,.inr ⟨mC _ h1,fun k hk=>mC _ (aC k hk),upd iv j (W'.1.size,W'.1.size),W',?_,?_⟩⟩
  ·exact cQ97
  ·have aP:¬j∈s.filter (· != st):=fun e=>aF (List.mem_filter.1 e).1;have aL:∀i∈s.filter (· != st),∀k∈(L i).deps,k∈s.filter (· != st):=fun i hi k hk=>by
    have h3:=List.mem_filter.1 hi;have hne:i≠st:=by simpa using h3.2
    refine List.mem_filter.2 ⟨hcl i h3.1 hne k hk,?_⟩;have aQ:=(List.mem_cons.1 (aM i h3.1)).elim (fun e=>absurd e hne) (fun e=>e);simp;exact fun e=>hdj i aQ (e ▸ hk)
   have:=hp.add (j:=j) (v:=v) (fun i=>(L i).deps) (fun i lo hi w w' x h hb=>(L i).st lo hi w w' (x i) x h hb) (fun i lo hi w x x' e1 e2 h=>by rw[←e1];exact(L i).cg lo hi w (x i) x x' e2 h) aL aP bR (by rw[za7];exact aK);refine this.of_mem fun i hi=>?_;have h3:=List.mem_filter.1 hi;rcases List.mem_cons.1 h3.1 with e|e
   ·rw[e];simp
   exact mC _ (List.mem_filter.2 ⟨e,h3.2⟩)
  rw[hF j v _ x iv W' aN]
 ·intro s x W f hf hs hI;obtain⟨-,hI⟩:=hI;rcases hI with⟨h1,-⟩| ⟨h1,aC,iv,W',hp,rfl⟩
  ·exact absurd (hs st sI) h1
  refine zcc [] (st::js) f (act x) _ aG (zL _) ?_;have:=done x iv W' (hp.of_mem fun i hi=>List.mem_filter.2 ⟨hs i (mC _ hi),by simp;exact fun e=>hst (e ▸ hi)⟩);simpa[wpList]using this
 intro t ht
 cases ht
end
end Kit
theorem joinS(p:List UInt8)(b:UInt8)(n:Nat)(t:BA):accB p++oneB b++zbt n++t=accB ((p++[b])++(vb n++t.data.toList)):=by
 have e1:oneB b=accB [b]:=rfl;have e2:zbt n=accB (vb n):=rfl;have e3:=zh1 t;rw[e1,e2,zdi,zdi]
 conv=>lhs;rw[←e3]
 rw[zdi];simp
theorem conv_at(b:UInt8)(z:Int)(hz:z=(b.toNat:Int))(W:Wd)(g:Nat)(h:W.cell? ⟨g,0,none⟩=some (.int .u8 z)):(convert 22 9 (.slice (aA g 0) 1 1)).run Tryz.prog W=.ok (.string (oneB b)) W:=by
 refine run_convert_bytes_back W 22 9 5 ⟨g,0,none⟩ 1 [b] Tryz.underlying22 Tryz.underlying5 Tryz.underlying9 ?_;intro j hj
 match j,hj with
 | 0,_=>simpa[Addr.add,hz]using h
theorem zh2(d:Bool)(v:Va)(t:BA)(xs:List Sl)(w:Wd)(hv:RSl w v xs)(hbig:∀(j:Nat)(h:j<xs.length),xs[j].1.size<=1048576)(hno:zao d xs t=false):
  Calls Tryz.prog 138 #[.agg #[.bool d,v,.string t]] w fun e w'=>e=.returned (.tuple #[.string (zbd d xs t),.bool (zao d xs t)])/\Bw w w':=by
 have HV:=hJ hv;have C:=hJ (fun W h=>zb1 d v t xs W h hbig);obtain⟨a,c,rfl,-⟩:=hv;have e1:zbd d xs t=⟨#[]⟩:=by simp[zbd,hno]
 rw[e1,hno];rw[hno]at C;clear e1 hno hbig;go_enter Tryz.func138,Tryz.ntmps138
 go_wp2_with (go_at_call 135;refine(C.out _ (HV.o.alloc _)).mono ?_;rintro e w1 ⟨rfl,aB⟩)
 go_ret2
 exact⟨rfl,((bF _ w).alloc nR _).trans (aB.mono sI)⟩
theorem zkv(v:Va)(t:BA)(xs:List Sl)(w:Wd)(hv:RSl w v xs)(hbig:∀(j:Nat)(h:j<xs.length),xs[j].1.size<=1048576)(hok:zao false xs t=true):
  Calls Tryz.prog 138 #[.agg #[.bool false,v,.string t]] w fun e w'=>e=.returned (.tuple #[.string (zbd false xs t),.bool (zao false xs t)])/\Bw w w':=by
 have HV:=hJ hv;have C:=hJ (fun W h=>zb1 false v t xs W h hbig);obtain⟨a,c,rfl,-⟩:=hv;have e1:zbd false xs t=oneB 116++t:=by simp[zbd,hok]
 have ht:t.size<=16:=by rw[zb6]at hok;exact(of_decide_eq_true hok).2
 rw[e1,hok];rw[hok]at C;have aC:(⟨#[116]⟩:BA)=oneB 116:=rfl;have aD:=ze1 116;clear e1 hok hbig;go_enter Tryz.func138,Tryz.ntmps138
 go_wp2_with (go_at_call 135;refine(C.out _ (HV.o.alloc _)).mono ?_;rintro e w1 ⟨rfl,aB⟩;obtain⟨q0,q1,q2,-⟩:=((AtC.new w 95 #[.bool false,sL a xs c,.string t]).over aB).three)
 go_ret2
 exact⟨rfl,((bF _ w).alloc nR _).trans (aB.mono sI)⟩
set_option linter.unusedSimpArgs false in
theorem zkw(v:Va)(t0:BA)(xs:List Sl)(w:Wd)(hv:RSl w v xs)(hbig:∀(j:Nat)(h:j<xs.length),xs[j].1.size<=1048576)(hok:zao true xs t0=true):
  Calls Tryz.prog 138 #[.agg #[.bool true,v,.string t0]] w fun e w'=>e=.returned (.tuple #[.string (zbd true xs t0),.bool (zao true xs t0)])/\Bw w w':=by
 have HV:=hJ hv;have C:=hJ (fun W h=>zb1 true v t0 xs W h hbig);obtain⟨a,c,rfl,aM,hc⟩:=hv;have HC:=hJ hc;have e1:zbd true xs t0=accB (100::encs xs):=by simp[zbd,hok]
 have aL:zbb xs=true:=by
  by_cases h:t0.size=0
  ·rw[zb0 _ _ h]at hok;exact hok
  rw[zel _ _ h]at hok;cases hok
 obtain⟨aK,aQ⟩:=zcv aL;have HL:=hJ aK;have aV:=hJ aQ;have aU:=hJ (zku aL);rw[e1,hok];rw[hok]at C;rw[aK]at HV C aM ⊢;have aT:(⟨#[100]⟩:BA)=accB [100]:=rfl;clear e1 hok hbig hc aL aK aQ;go_enter Tryz.func138,Tryz.ntmps138
 go_wp2_with (go_at_call 135;refine(C.out _ (HV.o.alloc _)).mono ?_;rintro e w1 ⟨rfl,aG⟩;obtain⟨q0,q1,q2,-⟩:=((AtC.new w 95 #[.bool true,.slice a 4 c,.string t0]).over aG).three)
 have aP:=(AtC.new w 95 #[.bool true,.slice a 4 c,.string t0]).over aG;have aO:Bw w w1:=((bF _ w).alloc nR _).trans (aG.mono sI);have aS:=hJ aP;have aF:=hJ aO;clear aP aO aG q0 q1 q2;go_loopw [4,5] (fun s i wr=>∃j:Nat,j<=4/\i=.int .i64 j/\s=.string (accB (pre xs j))/\Bw w1 wr) (fun _ i _=>4-(intOf i).toNat)
 case atStart=>exact⟨0,zL _,rfl,rfl,bF _ _⟩
 obtain⟨j,hj,rfl,rfl,hb⟩:=hrel;by_cases hlt:j<4
 ·have aH:j<xs.length:=by rw[HL.o];exact hlt
  obtain⟨g,aC,rfl,hg,m1,m2⟩:=HC.o j aH;have aN:=aF.o.size;have aD:Bw w wr:=aF.o.trans (hb.mono aN);have HS:Hid (∀w',Bw wr w'->w'.cell? ⟨w.1.size,1,none⟩=some (.slice (aA g aC) 4 c)/\w'.cell? ⟨g,aC+j*2,none⟩=some (.string xs[j].1)/\w'.cell? ⟨g,aC+j*2+1,none⟩=some (nI xs[j].2)):=fun w' h =>
   ⟨(((aS.o.over hb).over h).three).2.1,((aD.trans (h.mono aD.size)).cell (p:=⟨g,aC+j*2,none⟩) hg).trans m1,((aD.trans (h.mono aD.size)).cell (p:=⟨g,aC+j*2+1,none⟩) hg).trans m2⟩
  obtain⟨b1,b2,b3⟩:=aV.o j aH;have HN:=hJ (pre_next xs j aH);obtain⟨t,ht⟩:∃t,xs[j].1=t:=⟨_,rfl⟩
  obtain⟨z,hz⟩:∃z:Nat,xs[j].2=(z:Int):=⟨xs[j].2.toNat,oM⟩
  rw[ht,hz]at HS HN;rw[ht]at b3;rw[hz]at b1 b2;have hp:=aU.o j;have HB:=hJ hb;clear m1 m2 ht hz hb aD aH;obtain⟨r1,r2,r3⟩:=HS.o _ bR;obtain⟨P0,aR⟩:∃p,pre xs j=p:=⟨_,rfl⟩
  rw[aR]at hp HN ⊢;have aX:=ze2 P0;have aZ:=ze1 (loB z);have bC:=ziw t.size;have aW:=conv_at (loB z) (z:Int) (zf4 z oM);have aY:IntKind.u8.wrap (z:Int)=(z:Int):=by simp[IntKind.wrap,IntKind.signed,IntKind.bits];omega
  have n1:¬9223372036854775807<P0.length+1:=oM
  have n2:¬9223372036854775807<P0.length+1+(zbt t.size).size:=oM
  have n3:¬9223372036854775807<P0.length+1+(zbt t.size).size+t.size:=oM
  have j0:(0:Int)<=(j:Int):=oM
  have j1:(j:Int)<4:=oM
  rw[Int.toNat_natCast]at HN;clear aR;go_wp2_with fail
  refine wp_region_held_drew (S:=(fun w'=>w'.cell? ⟨w.1.size,1,none⟩=some (.slice (aA g aC) 4 c)/\w'.cell? ⟨g,aC+j*2,none⟩=some (.string t)/\w'.cell? ⟨g,aC+j*2+1,none⟩=some (nI (z:Int)))) kL (HS.o _ bR.drew) (fun aB=>?_);refine tk 0 aB ?_;simp only[Act.put];refine tk 1 aB ?_;simp only[Act.put];refine tk 2 aB ?_;simp only[Act.put];refine tk 3 aB ?_;simp only[Act.put];refine tk 4 aB ?_;simp only[Act.put];refine tk 5 aB ?_;simp only[Act.put];refine tk 6 aB ?_;simp only[Act.put];refine tk 7 aB ?_;simp only[Act.put];refine tk 11 aB ?_;simp only[Act.put];refine tk 12 aB ?_;simp only[Act.put];refine tk 13 aB ?_;simp only[Act.put];refine tk 14 aB ?_;simp only[Act.put];refine tk 15 aB ?_;simp only[Act.put];refine tk 16 aB ?_;simp only[Act.put];refine wpAnyH_take (i:=17) (oi:={ dst:=some 36,op:=Op.call { callee:=Callee.builtin Builtin.len,args:=#[Operand.tmp 35],argTypes:=#[9] },type:=_,pos:=_,after:=_,guard:=none }) (v:=?_) rfl kL kL kL (fun _ _ _ h=>h) (Or.inl ⟨by rfl,?_⟩) aB ?_
  rotate_left
  ·exact cQ106
  try simp only[Act.put,sA,cZ,cS]
  refine tk 20 aB ?_;simp only[Act.put];refine tk 21 aB ?_;simp only[Act.put];refine tk 22 aB ?_;simp only[Act.put];refine tk 23 aB ?_;simp only[Act.put];refine tk 24 aB ?_;simp only[Act.put];refine tk 25 aB ?_;simp only[Act.put];refine wH (rs:=[8,18]) kL sI ?_;refine rC (o:={ dst:=some 27,op:=Op.buildSlice 22 1 #[(0,Operand.tmp 26)],type:=_,pos:=_,after:=_,guard:=none }) rfl (fun K hK=>?_) ?_
  ·go_simp;refine hK.out _ _ (HS.o _ (bR.alloc nR _).drew) (fun aB=>?_);clear hK K;try simp only[Act.put,sA,cZ,cS]
   refine wH (rs:=[9,18]) kL sI ?_;refine rC (o:={ dst:=some 28,op:=Op.convert 22 9 (Operand.tmp 27),type:=_,pos:=_,after:=_,guard:=none }) rfl (fun K hK=>?_) ?_
   ·go_simp;refine hK.out _ _ (HS.o _ (bR.alloc nR _).drew) (fun aB=>?_);clear hK K;try simp only[Act.put,sA,cZ,cS]
    refine tk 10 aB ?_;simp only[Act.put];refine wH (rs:=[18]) kL sI ?_;refine rC (o:={ dst:=some 37,op:=Op.call { callee:=Callee.value (Operand.func 167),args:=#[Operand.tmp 36],argTypes:=#[3] },type:=_,pos:=_,after:=_,guard:=none }) rfl (fun K hK=>?_) ?_
    ·go_simp;refine(zcf _ _ oM oM).mono ?_;rintro e w6 ⟨rfl,B6⟩;go_wp2_with fail
     have B7:=((bF _ wr).alloc nR (.cells #[.int .u8 (z:Int)] 5)).trans ((zac B6).mono sI);refine hK.out _ _ (HS.o _ B7) (fun aB=>?_);clear hK K;try simp only[Act.put,sA,cZ,cS]
     refine tk 19 aB ?_;simp only[Act.put];refine tk 26 aB ?_;simp only[Act.put];refine tk 27 aB ?_;simp only[Act.put];refine wpAnyH_done kL ?_ _;have HZ:=hJ (HB.o.trans (B7.mono HB.o.size));clear aB;go_wp2;go_roundw
     case rel=>exact⟨j+1,oM,gK,by(rw[HN.o,←joinS];try rfl),HZ.o⟩
     simp[intOf];omega
    exact rN
   refine rC (o:={ dst:=some 37,op:=Op.call { callee:=Callee.value (Operand.func 167),args:=#[Operand.tmp 36],argTypes:=#[3] },type:=_,pos:=_,after:=_,guard:=none }) rfl (fun K hK=>?_) ?_
   ·go_simp;refine(zcf _ _ oM oM).mono ?_;rintro e w6 ⟨rfl,B6⟩;go_wp2_with fail
    have B7:=((bF _ wr).alloc nR (.cells #[.int .u8 (z:Int)] 5)).trans ((zac B6).mono sI);have cx:=((AtC.new wr 5 #[.int .u8 (z:Int)]).over (zac B6)).c0;refine hK.out _ _ (HS.o _ B7) (fun aB=>?_);clear hK K;try simp only[Act.put,sA,cZ,cS]
    refine wH (rs:=[9]) kL sI ?_;refine rC (o:={ dst:=some 28,op:=Op.convert 22 9 (Operand.tmp 27),type:=_,pos:=_,after:=_,guard:=none }) rfl (fun K hK=>?_) ?_
    ·go_simp;refine hK.out _ _ (HS.o _ B7) (fun aB=>?_);clear hK K;try simp only[Act.put,sA,cZ,cS]
     refine tk 10 aB ?_;simp only[Act.put];refine tk 19 aB ?_;simp only[Act.put];refine tk 26 aB ?_;simp only[Act.put];refine tk 27 aB ?_;simp only[Act.put];refine wpAnyH_done kL ?_ _;have HZ:=hJ (HB.o.trans (B7.mono HB.o.size));clear aB;go_wp2;go_roundw
     case rel=>exact⟨j+1,oM,gK,by(rw[HN.o,←joinS];try rfl),HZ.o⟩
     simp[intOf];omega
    exact rN
   exact rN
  refine rC (o:={ dst:=some 37,op:=Op.call { callee:=Callee.value (Operand.func 167),args:=#[Operand.tmp 36],argTypes:=#[3] },type:=_,pos:=_,after:=_,guard:=none }) rfl (fun K hK=>?_) ?_
  ·go_simp;refine(zcf _ _ oM oM).mono ?_;rintro e w6 ⟨rfl,B6⟩;go_wp2_with fail
   refine hK.out _ _ (HS.o _ (zac B6)) (fun aB=>?_);clear hK K;try simp only[Act.put,sA,cZ,cS]
   refine wH (rs:=[8]) kL sI ?_;refine rC (o:={ dst:=some 27,op:=Op.buildSlice 22 1 #[(0,Operand.tmp 26)],type:=_,pos:=_,after:=_,guard:=none }) rfl (fun K hK=>?_) ?_
   ·go_simp;refine hK.out _ _ (HS.o _ ((zac B6).alloc (zac B6).size _)) (fun aB=>?_);clear hK K;try simp only[Act.put,sA,cZ,cS]
    refine wH (rs:=[9]) kL sI ?_;refine rC (o:={ dst:=some 28,op:=Op.convert 22 9 (Operand.tmp 27),type:=_,pos:=_,after:=_,guard:=none }) rfl (fun K hK=>?_) ?_
    ·go_simp;refine hK.out _ _ (HS.o _ ((zac B6).alloc (zac B6).size _)) (fun aB=>?_);clear hK K;try simp only[Act.put,sA,cZ,cS]
     refine tk 10 aB ?_;simp only[Act.put];refine tk 19 aB ?_;simp only[Act.put];refine tk 26 aB ?_;simp only[Act.put];refine tk 27 aB ?_;simp only[Act.put];refine wpAnyH_done kL ?_ _;have HZ:=hJ (HB.o.trans (((zac B6).alloc (zac B6).size (.cells #[.int .u8 (z:Int)] 5)).mono HB.o.size));clear aB;go_wp2;go_roundw
     case rel=>exact⟨j+1,oM,gK,by(rw[HN.o,←joinS];try rfl),HZ.o⟩
     simp[intOf];omega
    exact rN
   exact rN
  exact rN
 have HF:=hJ (pre_all xs j (by rw[HL.o];omega));have HZ:=hJ (aF.o.trans (hb.mono aF.o.size));clear hb;go_wp2
 go_ret2
 exact⟨by rw[HF.o];rfl,HZ.o⟩
theorem zcg(d:Bool)(v:Va)(t:BA)(xs:List Sl)(w:Wd)(hv:RSl w v xs)(hbig:∀(j:Nat)(h:j<xs.length),xs[j].1.size<=1048576):
  Calls Tryz.prog 138 #[.agg #[.bool d,v,.string t]] w fun e w'=>e=.returned (.tuple #[.string (zbd d xs t),.bool (zao d xs t)])/\Bw w w':=by
 cases hok:zao d xs t with
 | false=>rw[←hok];exact zh2 d v t xs w hv hbig hok
 | true =>
  rw[←hok]
  cases d with
  | true=>exact zkw v t xs w hv hbig hok
  | false=>exact zkv v t xs w hv hbig hok
namespace Kit
theorem zij(f:Nat):∀(rest pre:List UInt8)(k n m c:Nat),f+k=5->pre.length=k->(∀b∈pre,128<=b.toNat)->n=val pre->rdF f rest k n=some (m,c)->vb m=(pre++rest).take c/\c<=k+rest.length:=by
 induction f with
 | zero=>intro rest pre k n m c _ _ _ _ h;simp[rdF]at h
 | succ f ih =>
  intro rest pre k n m c hf hk hb hn h
  cases rest with
  | nil=>simp[rdF]at h
  | cons b r =>
   rw[rdF]at h
   split at h
   ·rename_i hge;have:=ih r (pre++[b]) (k+1) _ m c oM (by simp[hk]) (fun x hx=>by
     rcases List.mem_append.1 hx with h1|h1
     ·exact hb x h1
     ·simp at h1;subst h1;exact hge) (by rw[zdt,hk,hn]) h
    simp only[List.append_assoc,List.singleton_append,lC]at this ⊢;exact⟨this.1,oM⟩
   rename_i hlt
   split at h
   ·cases h
   rename_i hno;simp only[oJ,Prod.mk.injEq]at h;obtain⟨h1,h2⟩:=h;subst h2;have hv:n+b.toNat%128*128 ^ k=val (pre++[b]):=by rw[zdt,hk,hn]
   refine⟨?_,sI⟩;rw[←h1,hv,(zf3 pre b oM hb oM).2 (by rw[hk];omega)];rw[show k+1=pre.length+1 by omega,List.take_append];simp[tL]
theorem rd_canon{s:BA}{p n c:Nat}(h:rd s p=some (n,c)):vb n=(s.data.toList.drop p).take c:=by
 have:=(zij 5 (s.data.toList.drop p) [] 0 0 n c rfl rfl sI rfl h).1;simpa using this
def rsO(s:BA)(p:Nat):Option (ByteArray×Nat):=match rd s p with
 | none=>none
 | some (n,c)=>if 20000<n\/s.size-(p+c)<n then none else some (s.extract (p+c) (p+c+n),p+c+n)
theorem znv{s:BA}{p:Nat}(hp:p<=s.size){t:BA}{q:Nat}(h:rsO s p=some (t,q)):t.size<=20000/\p<=q/\q<=s.size/\vb t.size++t.data.toList=(s.data.toList.drop p).take (q-p):=by
 unfold rsO at h
 cases hr:rd s p with
 | none=>rw[hr]at h;simp at h
 | some nc =>
  obtain⟨n,c⟩:=nc;rw[hr]at h;simp only at h
  split at h
  ·cases h
  rename_i hno;simp only[oJ,Prod.mk.injEq]at h;obtain⟨rfl,rfl⟩:=h;have hc:=rd_canon hr;have hl:s.data.toList.length=s.size:=rfl;have aB:p+c<=s.size:=by
   have:=(zij 5 (s.data.toList.drop p) [] 0 0 n c rfl rfl sI rfl hr).2;rw[List.length_drop,hl]at this;omega
  have hz:(s.extract (p+c) (p+c+n)).size=n:=by rw[ByteArray.size_extract];omega
  refine⟨by rw[hz];omega,oM,oM,?_⟩;rw[hz,zb9,hc,show p+c+n-p=c+n by omega,show p+c+n-(p+c)=n by omega,List.take_add,List.drop_drop]
def tk(s:BA):Nat->Nat->Option (List Sl×Nat)
 | 0,p=>some ([],p)
 | n+1,p=>if h:p<s.size then(match rsO s (p+1)with
   | none=>none
   | some (t,q)=>(match tk s n q with
     | none=>none
     | some (xs,e)=>some ((t,((s[p]).toNat:Int))::xs,e)))else none
theorem tk_short{s:BA}{n p:Nat}(h:¬p<s.size):tk s (n+1) p=none:=by rw[tk,dif_neg h]
theorem tk_none{s:BA}{n p:Nat}(h:p<s.size)(hr:rsO s (p+1)=none):tk s (n+1) p=none:=by rw[tk,dif_pos h,hr]
theorem tk_some{s:BA}{n p q:Nat}{t:BA}(h:p<s.size)(hr:rsO s (p+1)=some (t,q)):tk s (n+1) p=(tk s n q).map fun x=>((t,((s[p]).toNat:Int))::x.1,x.2):=by
 rw[tk,dif_pos h,hr]
 dsimp only
 cases tk s n q with
 | none=>rfl
 | some x=>rfl
def Upto(s:BA)(j p:Nat)(ys:List Sl):Prop :=
 ys.length=j/\p<=s.size/\tk s 4 1=(tk s (4-j) p).map (fun x=>(ys++x.1,x.2))/\s.data.toList.take p=s.data.toList.take 1++encs ys/\(∀y∈ys,y.1.size<=20000)
theorem Upto.start{s:BA}(h:1<=s.size):Upto s 0 1 []:=by
 refine⟨rfl,h,?_,by simp[encs],sI⟩
 cases tk s 4 1<;>simp
theorem Upto.short{s:BA}{j p:Nat}{ys:List Sl}(h:Upto s j p ys)(hj:j<4)(hp:¬p<s.size):tk s 4 1=none:=by
 obtain⟨_,_,h3,_⟩:=h;rw[h3,show 4-j=(4-(j+1))+1 by omega,tk_short hp];rfl
theorem Upto.none{s:BA}{j p:Nat}{ys:List Sl}(h:Upto s j p ys)(hj:j<4)(hp:p<s.size)(hr:rsO s (p+1)=.none):tk s 4 1=.none:=by
 obtain⟨_,_,h3,_⟩:=h;rw[h3,show 4-j=(4-(j+1))+1 by omega,tk_none hp hr];rfl
theorem Upto.next{s:BA}{j p q:Nat}{t:BA}{ys:List Sl}(h:Upto s j p ys)(hj:j<4)(hp:p<s.size)(hr:rsO s (p+1)=some (t,q)):Upto s (j+1) q (ys++[(t,((s[p]).toNat:Int))]):=by
 obtain⟨h1,h2,h3,h4,h5⟩:=h;obtain⟨k1,k2,k3,k4⟩:=znv oM hr;refine⟨by simp[h1],k3,?_,?_,?_⟩
 ·rw[h3,show 4-j=(4-(j+1))+1 by omega,tk_some hp hr]
  cases tk s (4-(j+1)) q with
  | none=>rfl
  | some x=>simp
 ·have aB:p<s.data.toList.length:=hp;have e1:s.data.toList.take q=s.data.toList.take p++((s.data.toList.drop p).take (q-p)):=by
   conv=>lhs;rw[show q=p+(q-p)by omega,List.take_add]
  rw[e1,h4,zfh];have e2:(s.data.toList.drop p).take (q-p)=s[p]::(s.data.toList.drop (p+1)).take (q-(p+1)):=by
   rw[dG aB,show q-p=(q-(p+1))+1 by omega,List.take_succ_cons];rfl
  rw[e2,←k4];simp[encs,enc,loB]
 intro y hy;rcases List.mem_append.1 hy with h|h
 ·exact h5 y h
 simp at h;subst h;exact k1
theorem Upto.done{s:BA}{p:Nat}{ys:List Sl}(h:Upto s 4 p ys):tk s 4 1=some (ys,p):=by
 obtain⟨_,_,h3,_⟩:=h;rw[h3];simp[tk]
theorem Upto.whole{s:BA}{j p:Nat}{ys:List Sl}(h:Upto s j p ys)(h0:1<=s.size)(hd:s[0]=100):accB (100::encs ys)=s↔p=s.size:=by
 obtain⟨_,h2,_,h4,_⟩:=h;have hl:s.data.toList.length=s.size:=rfl;have e1:s.data.toList.take 1=[100]:=by
  rw[List.take_one,List.head?_eq_getElem?,gE oM];have:s.data.toList[0]'oM=s[0]:=rfl;rw[this,hd];rfl
 rw[e1]at h4;have e2:accB (100::encs ys)=accB (s.data.toList.take p):=by rw[h4];rfl
 rw[e2];constructor
 ·intro h;have:=congrArg ByteArray.size h;rw[ze2,lK,hl]at this;omega
 intro h;rw[tL oM,zh1]
def readR(s:BA):Option (Bool×List Sl×ByteArray) :=
 if h:0<s.size then
  if s[0]=100 then(match tk s 4 1 with
   | .none=>.none
   | some (xs,e)=>if e=s.size/\zbb xs=true then some (true,xs,⟨#[]⟩)else .none)
  else if s[0]=116/\s.size<=17 then some (false,[],s.extract 1 s.size)else .none
 else .none
theorem zi6{s:BA}(h:s.size=0):readR s=.none:=by simp[readR,h]
theorem znw{s:BA}(h:0<s.size)(hd:s[0]=100){xs:List Sl}{e:Nat}(ht:tk s 4 1=some (xs,e)):readR s=if e=s.size/\zbb xs=true then some (true,xs,⟨#[]⟩)else .none:=by
 rw[readR,dif_pos h,if_pos hd,ht]
theorem zgi{s:BA}(h:0<s.size)(hd:s[0]=100)(ht:tk s 4 1=.none):readR s=.none:=by
 rw[readR,dif_pos h,if_pos hd,ht]
theorem zlf{s:BA}(h:0<s.size)(hd:s[0]≠100):readR s=if s[0]=116/\s.size<=17 then some (false,[],s.extract 1 s.size)else .none:=by
 rw[readR,dif_pos h,if_neg hd]
def rOk(s:BA):Bool:=(readR s).isSome
def rD(s:BA):Bool:=match readR s with| some x=>x.1|_=>false
def rX(s:BA):List Sl:=match readR s with| some x=>x.2.1|_=>[]
def rT(s:BA):ByteArray:=match readR s with| some x=>x.2.2|_=>⟨#[]⟩
theorem zik{s:BA}(h:readR s=.none):rOk s=false/\rD s=false/\rX s=[]/\rT s=⟨#[]⟩:=by simp[rOk,rD,rX,rT,h]
theorem znx{s:BA}{d:Bool}{xs:List Sl}{t:BA}(h:readR s=some (d,xs,t)):rOk s=true/\rD s=d/\rX s=xs/\rT s=t:=by simp[rOk,rD,rX,rT,h]
end Kit
namespace Kit
theorem zcn{P:Program}(w0 w:Wd){ops:Array Oper}{o:Oper}{a:Act}{K:Act->Wd->Prop}{Q:Exit->Act->Wd->Prop}{E:Prop}(hgd:o.guard=none)(s x:Operand)(t:TypeId)
  (ho:o.op=.call { callee:=.builtin .append,args:=#[s,x],argTypes:=#[t,t] }) (base:Nat) (e:TypeId) (ht:P.underlying t=some (.slice e)) (z:Va) (bytes:Nat)
  (hi:(P.info? e).map (fun i=>(i.zero,i.size,i.bytes))=some (some z,2,bytes)) (hzc:z.cells.size=2) (hby:bytes<=64) (v:Va) (xs:List Sl) (hs:a.eval s=v) (hown:SOwns w base e v xs)
  (hb:Below base w0 w) (hbase:base<=w.1.size) (n:BA) (i:Int) (hx:a.eval x=.slice (aA w.1.size 0) 1 1) (hl:xs.length<=1000000000000)
  (h:∀v' w',SOwns w' base e v' (xs++[(n,i)])->Below base w0 w'->Keeps w w' v v'->K (a.put o.dst v') w') :
  if Region.wanted o (yielded ops a.tmps)=true then Oper.wp P o a (w.alloc (.cells #[.string n,nI i] e)).drew K Q else E:=by
 obtain⟨i0,hi,aF,aG,aD⟩:=info_parts hi;have aB:(w.alloc (.cells #[.string n,nI i] e)).drew.ownsRow base e 2 v xs.length (sc xs):=(hown.alloc _).drew;refine step_append_lies _ hgd s x t ho base e i0 z 2 bytes ht hi aF aG aD hzc dC v xs.length (sc xs) hs aB ⟨w.1.size,0,none⟩ 1 1 (sc [(n,i)]) hx rfl ?_ ?_ dC ?_ ?_ sO (w.1.size+1) sI ?_
 ·intro j y hj
  match j,hj with
  | 0,hj=>simp[sc]at hj;subst hj;simp[Addr.add]
  | 1,hj=>simp[sc]at hj;subst hj;simp[Addr.add]
  | j+2,hj=>simp[sc]at hj
 ·intro y hy;simp[sc]at hy;rcases hy with rfl|rfl<;>rfl
 ·unfold maxLen;omega
 ·exact cQ137
 intro g' cap w' aC hgrow hat _;refine h _ w' ?_ ((hb.alloc hbase _).drew.grown hgrow sO fun k hk=>(aB.lt k hk).1) ?_
 ·unfold SOwns;rw[lA,zlu];exact aC
 exact cQ37
end Kit
theorem zny(s:BA)(p:Nat)(w:Wd)(hs:s.size<=1048576)(hp:p<=s.size):
  Calls Tryz.prog 182 #[.string s,nI p] w fun e w'=>e=.returned (rdVal s p)/\Bw w w':=by
 have hB:inB p 0 s.size=true:=by simp[inB];omega
 go_enter Tryz.func182,Tryz.ntmps182
 go_wp2_with (go_at_call 50;refine(zak _ _ _ _).mono ?_;rintro e w' ⟨rfl,rfl⟩)
 go_loop [7,8,9] (fun n q i=>∃(k m W:Nat),k<=5/\p+k<=s.size/\Hid (W=128 ^ k)/\W<=34359738368/\m<W/\n=.int .i64 m/\i=.int .i64 (p+k:Nat)/\q=.int .i64 W/\AtK s p k m) (fun _ _ i=>s.size-(intOf i).toNat)
 case atStart=>exact⟨0,0,1,oM,oM,hJ rfl,oM,oM,rfl,rfl,rfl,AtK.start s p⟩
 obtain⟨k,m,W,hk,hl,HW,hW,hm,rfl,rfl,rfl,aB⟩:=hrel;by_cases hlt:p+k<s.size
 ·by_cases h5:k<5
  ·have aD:W<=268435456:=by rw[HW.o];exact pow_le h5
   obtain⟨c,hc⟩:∃c:Nat,(s[p+k]).toNat=c:=⟨_,rfl⟩
   have aG:c<256:=by rw[←hc];exact(s[p+k]).toNat_lt
   have aF:c%128*W<=127*268435456:=Nat.mul_le_mul oM aD;have HE:=hJ (cast3 m c W);have q1:(0:Int)<=(c:Int)%128*(W:Int):=Int.mul_nonneg oM oM;have q2:(c:Int)%128*(W:Int)<=34091302912:=by
    have:((c%128*W:Nat):Int)<=34091302912:=oM
    simpa using this
   clear aF;have HC:=hJ hc;by_cases h1:127<c
   ·have HN:=hJ (zl4 aB HW.o hlt h5 hc h1);go_wp2
    go_round
    case rel=>exact⟨k+1,m+c%128*W,W*128,oM,oM,hJ (by rw[HW.o,Nat.pow_succ]),oM,HN.o.2,by rw[HE.o],gK,gK,HN.o.1⟩
    simp[intOf];omega
   obtain⟨T,hT⟩:∃T:Nat,(m:Int)+(c:Int)%128*(W:Int)=T:=⟨_,(cast3 m c W).symm⟩
   have aC:m+c%128*W=T:=by have:=cast3 m c W;omega
   have HT:=hJ aC;clear aC;by_cases h2:1000000000<T
   ·have HN:=hJ (zl5 aB HW.o hlt h5 hc oM (.inl (by have:=HT.o;omega)));have b2:decide ((1000000000:Int)<(T:Int))=true:=sO
    go_wp2_with fail
    go_quiet(fail)
    go_wp2
    go_ret3
    exact⟨zco HN.o,bD bR _⟩
   have HF:=hJ (form_eq aB HW.o hlt h5 hc oM);have b2:decide ((1000000000:Int)<(T:Int))=false:=sO
   have s1:(0:Int)<=(p:Int):=oM
   have s2:(p:Int)<=(p:Int)+(k:Int)+1:=oM
   have s3:(p:Int)+(k:Int)+1<=(s.size:Int):=oM
   have s4:(0:Int)<=(p:Int)+(k:Int)+1:=oM
   have hw:=zdd oM oM;go_wp2_with fail
   go_region_held3 (fun _=>True) (trivial) ((go_at_call 167;refine(zcf _ _ oM oM).mono ?_;rintro e w1 ⟨rfl,hb⟩))
   go_wp2
   ·have hx:(!(zbt T).toList==(s.extract p ((p:Int)+(k:Int)+1).toNat).toList)=true:=by assumption
    have HN:=zl5 aB HW.o hlt h5 hc oM (.inr (form_no HT.o HF.o hx))
    go_ret3
    exact⟨zco HN,zac hb⟩
   have hx:(!(zbt T).toList==(s.extract p ((p:Int)+(k:Int)+1).toNat).toList)=false:=by assumption
   have hy:=form_yes HT.o HF.o hx;have HN:=at_some aB HW.o hlt h5 hc oM (by have:=HT.o;omega);rw[hT]at HN
   go_ret3
   exact⟨zco HN,zac hb⟩
  have HN:=hJ (zda (aB.out (.inr oM)));go_wp2
  go_ret3
  exact⟨zco HN.o,bF _ _⟩
 have HN:=hJ (zda (aB.out (.inl oM)));go_wp2
 go_ret3
 exact⟨zco HN.o,bF _ _⟩
theorem znz(s:BA)(p:Nat)(w:Wd)(hs:s.size<=1048576)(hp:p<=s.size):
  Calls Tryz.prog 149 #[.string s,nI p] w fun e w'=>e=.returned (rsVal s p)/\Bw w w':=by
 have H:=fun w=>zny s p w hs hp
 cases hr:rd s p with
 | none =>
  rw[zda hr]at H;have G:=hJ H;have HV:=hJ (zki hr);clear H hr;go_enter Tryz.func149,Tryz.ntmps149
  exact cQ113
 | some nc =>
  obtain⟨n,c⟩:=nc;obtain⟨hn,hc⟩:=rd_bound hp hr;rw[zf7 hr]at H;obtain⟨q,hq⟩:∃q,p+c=q:=⟨_,rfl⟩
  have hB:=fun h=>zl7 hr h;have hG:=fun h=>zkj hr h;rw[hq]at H hc hB hG;have G:=hJ H;have HB:=hJ hB;have HG:=hJ hG;clear H hr hq hB hG;by_cases h1:20000<n
  ·go_enter Tryz.func149,Tryz.ntmps149
   go_wp2_with (go_at_call 182;refine(G.out _).mono ?_;rintro e w1 ⟨rfl,hb⟩)
   go_ret3
   exact⟨zco (HB.o (.inl h1)),hb⟩
  by_cases h2:(s.size:Int)-(q:Int)<(n:Int)
  ·go_enter Tryz.func149,Tryz.ntmps149
   go_wp2_with (go_at_call 182;refine(G.out _).mono ?_;rintro e w1 ⟨rfl,hb⟩)
   go_ret3
   exact⟨zco (HB.o (.inr oM)),hb⟩
  have hv:=HG.o oM;have e1:((q:Int)+(n:Int)).toNat=q+n:=oM
  have e2:((q+n:Nat):Int)=(q:Int)+(n:Int):=oM
  rw[e2]at hv;have HV:=hJ hv;clear hv e2;go_enter Tryz.func149,Tryz.ntmps149
  exact cQ113
theorem zi7{s:BA}{p:Nat}(h:rsO s p=none):rsVal s p=.tuple #[eT,nI 0,.bool false]:=by
 unfold rsO at h;unfold rsVal
 cases hr:rd s p with
 | none=>rfl
 | some nc =>
  obtain⟨n,c⟩:=nc;rw[hr]at h;simp only at h ⊢
  split at h
  ·rename_i hb;rw[if_pos hb]
  cases h
theorem zi8{s:BA}{p q:Nat}{t:BA}(h:rsO s p=some (t,q)):rsVal s p=.tuple #[.string t,nI q,.bool true]:=by
 unfold rsO at h;unfold rsVal
 cases hr:rd s p with
 | none=>rw[hr]at h;cases h
 | some nc =>
  obtain⟨n,c⟩:=nc;rw[hr]at h;simp only at h ⊢
  split at h
  ·cases h
  rename_i hb;rw[if_neg hb];simp only[oJ,Prod.mk.injEq]at h;obtain⟨rfl,rfl⟩:=h;rfl
end Go.Proofs.YtgnplpmgkegcnaaGreat
