/- Texts. -/
import Derived.Test.YtgnplpmgkegcnaaGreatW12
import Derived.Test.YtgnplpmgkegcnaaGreatW13
set_option maxRecDepth 100000
set_option maxHeartbeats 12800000
namespace Go.Proofs.YtgnplpmgkegcnaaGreat
open Go.RowKit Kit
theorem Kit.Nx.ret{w0 w wr:Wd}{c:Nat}{a:OA}{len cap:Nat}{WD E:Array Va}{be:Nat}{fv dv av:Va}{fl dl al:List BA}(h:Nx w0 w wr c a len cap WD E be fv dv av fl dl al)(x0 x1 x2 x3 x4:Va):
  Drew w0 w (((((wr.setCell ⟨w.1.size+1,0,none⟩ x0).setCell ⟨w.1.size+1,1,none⟩ x1).setCell ⟨w.1.size+1,2,none⟩ x2).setCell ⟨w.1.size+1,3,none⟩ x3).setCell ⟨w.1.size+1,4,none⟩ x4) c a len cap:=by
 have aC:=h.hc;have aB:∀(W:Wd)(i:Nat)(x:Va),Drew w0 w W c a len cap->Drew w0 w (W.setCell ⟨w.1.size+1,i,none⟩ x) c a len cap:=fun W i x hd=>by
  obtain⟨⟨k1,k2,j,y,k3,k4⟩,hg⟩:=hd;have ho:∀k,k≠w.1.size+1->(W.setCell ⟨w.1.size+1,i,none⟩ x).heap[k]?=W.1[k]?:=fun k hk=>hO_ W ⟨w.1.size+1,i,none⟩ k _ hk;have hz:w0.1.size<=w.1.size+1:=oM
  exact⟨⟨k1,k2.setCell (p:=⟨w.1.size+1,i,none⟩) hz _,j,y,(ho c oM).trans k3,k4⟩,⟨hg.os,hg.tape,hg.output,lT hg.size sI,fun k hk hn=>(ho k oM).trans (hg.block k hk hn)⟩⟩
 exact aB _ _ _ (aB _ _ _ (aB _ _ _ (aB _ _ _ (aB _ _ _ ⟨h.cur,h.gr⟩))))
def EvR(L:Nat)(e:Ending):Prop:=∃(kd:Int)(p q:BA)(at_:Int)(tx:BA),e=.returned (.agg #[nI kd,.string p,.string q,nI at_,.string tx])/\1<=kd/\kd<=7/\p.size<=L+3/\q.size<=L+3/\tx.size<=16
def znr:List Int:=[1,1,1,2,2,3,3,3,4,4,5,5,6,6,6,6,6,6,6,7]
theorem zns:∀z∈znr,1<=z/\z<=7:=dC
def txS:List BA:=[⟨#[]⟩,⟨#[120]⟩,⟨#[104,101,108,108,111]⟩,⟨#[48,49,50,51,52,53,54,55,56,57,97,98,99,100,101,102]⟩]
theorem txS_size:∀z∈txS,z.size<=16:=dC
theorem next_any(L:Nat)(w0:Wd)(c:Nat)(a:OA)(len cap:Nat)(m:MD)(ns:List Nd)(a1 a2 a3 a4 a5 a6 ta ma ka pa:OA)(c1 c2 c3 c4 c5 c6 tl tc mc kl kc pl pc:Nat)(B:Nat)(w:Wd)(hcode:za0 w0 a len)(hlen:len<=1048576)(hcur:Cur 103 w0 w c a len cap)(hc:c<w.1.size)
  (hn:NdO w B (sL ma ns mc) ns) (hcB:c<B) (hf:ROwns w 0 4 (sL a5 m.5 c5) (fc m.fs)) (hfc:∀k,(sL a5 m.5 c5).ownBlock=some k->k≠c) (hf21:m.5.length=21) (hnl:ns.length<=900) (hL:NdB L ns) (hL6:L<=1000000) :
  Calls Tryz.prog 116 #[.pointer (aA c 0),.agg #[sL a1 m.1 c1,sL a2 m.2 c2,sL a3 m.3 c3,sL a4 m.4 c4,sL a5 m.5 c5,sL a6 m.6 c6,nI m.nx,.slice ta tl tc,sL ma ns mc,.slice ka kl kc,.slice pa pl pc]] w fun e w'=>EvR L e/\Drew w0 w w' c a len cap:=by
 obtain⟨W1,cU⟩:∃W1,(((w.alloc (.cells #[sL a1 m.1 c1,sL a2 m.2 c2,sL a3 m.3 c3,sL a4 m.4 c4,sL a5 m.5 c5,sL a6 m.6 c6,nI m.nx,.slice ta tl tc,sL ma ns mc,.slice ka kl kc,.slice pa pl pc] 154)).alloc (.cells #[nI 0,eT,eT,nI 0,eT] 158)).alloc (.cells #[nI 1,nI 1,nI 1,nI 2,nI 2,nI 3,nI 3,nI 3,nI 4,nI 4,nI 5,nI 5,nI 6,nI 6,nI 6,nI 6,nI 6,nI 6,nI 6,nI 7] 3))=W1:=⟨_,rfl⟩
 have bM:Hid (Cur 103 w0 W1 c a len cap/\AtC W1 (w.1.size+1+1) 3 (ic znr).toArray/\AtC W1 w.1.size 154 #[sL a1 m.1 c1,sL a2 m.2 c2,sL a3 m.3 c3,sL a4 m.4 c4,sL a5 m.5 c5,sL a6 m.6 c6,nI m.nx,.slice ta tl tc,sL ma ns mc,.slice ka kl kc,.slice pa pl pc]/\AtC W1 (w.1.size+1) 158 #[nI 0,eT,eT,nI 0,eT]/\w.grownBy W1 (some c)):=by
  rw[←cU];have k2:=(AtC.new (w.alloc (.cells #[sL a1 m.1 c1,sL a2 m.2 c2,sL a3 m.3 c3,sL a4 m.4 c4,sL a5 m.5 c5,sL a6 m.6 c6,nI m.nx,.slice ta tl tc,sL ma ns mc,.slice ka kl kc,.slice pa pl pc] 154)) 158 #[nI 0,eT,eT,nI 0,eT]).alloc (.cells #[nI 1,nI 1,nI 1,nI 2,nI 2,nI 3,nI 3,nI 3,nI 4,nI 4,nI 5,nI 5,nI 6,nI 6,nI 6,nI 6,nI 6,nI 6,nI 6,nI 7] 3);have k3:=AtC.new ((w.alloc (.cells #[sL a1 m.1 c1,sL a2 m.2 c2,sL a3 m.3 c3,sL a4 m.4 c4,sL a5 m.5 c5,sL a6 m.6 c6,nI m.nx,.slice ta tl tc,sL ma ns mc,.slice ka kl kc,.slice pa pl pc] 154)).alloc (.cells #[nI 0,eT,eT,nI 0,eT] 158)) 3 #[nI 1,nI 1,nI 1,nI 2,nI 2,nI 3,nI 3,nI 3,nI 4,nI 4,nI 5,nI 5,nI 6,nI 6,nI 6,nI 6,nI 6,nI 6,nI 6,nI 7];have e2:(w.n #[sL a1 m.1 c1,sL a2 m.2 c2,sL a3 m.3 c3,sL a4 m.4 c4,sL a5 m.5 c5,sL a6 m.6 c6,nI m.nx,.slice ta tl tc,sL ma ns mc,.slice ka kl kc,.slice pa pl pc] 154).1.size=w.1.size+1:=sI
  have e3:((w.n #[sL a1 m.1 c1,sL a2 m.2 c2,sL a3 m.3 c3,sL a4 m.4 c4,sL a5 m.5 c5,sL a6 m.6 c6,nI m.nx,.slice ta tl tc,sL ma ns mc,.slice ka kl kc,.slice pa pl pc] 154).n #[nI 0,eT,eT,nI 0,eT] 158).1.size=w.1.size+1+1:=sI
  rw[e2]at k2;rw[e3]at k3;exact⟨za6 (za6 (za6 hcur hc _) sO _) sO _,k3,((AtC.new w 154 _).alloc _).alloc _,k2,zae (zae (gA _ _ _) (gA _ _ _)) (gA _ _ _)⟩
 have HO:=hJ hcode;have eA:c≠w.1.size+1+1:=oM
 have HN:Hid (∀wr,w.grownBy wr (some c)->NdO wr B (sL ma ns mc) ns/\ROwns wr 0 4 (sL a5 m.5 c5) (fc m.fs)):=fun wr hg=>by
  have n2:NdO wr B (sL ma ns mc) ns:=hn.of_heap fun k hk=>by
   have:=hn.lt k hk;exact hg.block k this.2 sO
  exact⟨n2,hf.of_heap fun k hk=>hg.block k (hf.lt k hk).2 (by simp;exact hfc k hk)⟩
 have dN:=hJ hL;have aZ:=hJ hf21;clear hcode hcur hn hf hfc hL hf21;go_enter Tryz.func116,Tryz.ntmps116
 go_wp2_with fail
 refine(zbh w0 W1 c (w.1.size+1+1) a len cap znr HO.o hlen bM.o.1 bM.o.2.1 eA dC dC).mono ?_;rintro e w1 ⟨kd,cC,rfl,hd⟩;have cW:=zns kd cC;have cV:=hJ cW;obtain⟨be,dK⟩:∃be,w1.1.size=be:=⟨_,rfl⟩
 obtain⟨W5,cK⟩:∃W5,((((w1.alloc (.cells #[nI kd,eT,eT,nI 0,eT] 158)).alloc (.cells #[] 9)).alloc (.cells #[eT] 9)).alloc (.cells #[] 9))=W5:=⟨_,rfl⟩
 have bX:Hid (Nx w0 w W5 c a len cap #[sL a1 m.1 c1,sL a2 m.2 c2,sL a3 m.3 c3,sL a4 m.4 c4,sL a5 m.5 c5,sL a6 m.6 c6,nI m.nx,.slice ta tl tc,sL ma ns mc,.slice ka kl kc,.slice pa pl pc] #[nI kd,eT,eT,nI 0,eT] be (.slice (aA (be+1) 0) 0 0) (.slice (aA (be+1+1) 0) 1 1) (.slice (aA (be+1+1+1) 0) 0 0) [] [⟨#[]⟩] []):=by
  obtain⟨q1,q2,q3,q4,q5⟩:=bM.o;have g1:=zae q5 hd.2;have z1:w.1.size+1+1<w1.1.size:=by have:=q2.lt;have:=hd.2.size;omega
  rw[←cK,←dK];have dZ:c<w1.1.size:=oM
  have b1:=(bF _ w1).alloc nR (.cells #[nI kd,eT,eT,nI 0,eT] 158);have e1:(w1.n #[nI kd,eT,eT,nI 0,eT] 158).1.size=w1.1.size+1:=sI
  have e2:((w1.n #[nI kd,eT,eT,nI 0,eT] 158).n #[] 9).1.size=w1.1.size+1+1:=sI
  have e3:(((w1.n #[nI kd,eT,eT,nI 0,eT] 158).n #[] 9).n #[eT] 9).1.size=w1.1.size+1+1+1:=sI
  have f:=ROwns.lit0 (w1.alloc (.cells #[nI kd,eT,eT,nI 0,eT] 158)) (w.1.size+1+1) 9 sO;have d:=ROwns.lit1 ((w1.alloc (.cells #[nI kd,eT,eT,nI 0,eT] 158)).alloc (.cells #[] 9)) (w.1.size+1+1) 9 (eT) sO;have l:=ROwns.lit0 (((w1.alloc (.cells #[nI kd,eT,eT,nI 0,eT] 158)).alloc (.cells #[] 9)).alloc (.cells #[eT] 9)) (w.1.size+1+1) 9 sO;rw[e1]at f;rw[e2]at d;rw[e3]at l;have h1:Bw w1 ((((w1.n #[nI kd,eT,eT,nI 0,eT] 158).n #[] 9).n #[eT] 9).n #[] 9):=((b1.alloc sI _).alloc sO _).alloc sO _;obtain⟨k1,k2,i,x,k3,k4⟩:=hd.1;refine⟨⟨k1,k2.trans (h1.mono k2.size),i,x,(h1.block c dZ).trans k3,k4⟩,hc,zae g1 (zal h1 _),(q3.grown hd.2 sO).over h1,(q4.grown hd.2 sO).over h1,(((AtC.new w1 158 _).alloc _).alloc _).alloc _,(f.alloc _).alloc _,d.alloc _,l,?_,?_,?_,oM⟩
  ·intro k hk;simp[Value.ownBlock]at hk ⊢;omega
  ·intro k hk;simp[Value.ownBlock]at hk ⊢;omega
  intro k hk;simp[Value.ownBlock]at hk ⊢;omega
 have x8:=bX.o.bx.c8;clear hd cC bM cW;go_wp2_with fail
 clear cK dK cU x8;go_loopw [6,7,8,9] (fun xf xd xa i wr=>∃(fv dv av:Va)(fl dl al:List BA)(n:Nat),fv=xf/\dv=xd/\av=xa/\n<=ns.length/\i=.int .i64 n/\Hid (Nx w0 w wr c a len cap #[.slice a1 m.1.length c1,.slice a2 m.2.length c2,.slice a3 m.3.length c3,.slice a4 m.4.length c4,.slice a5 m.5.length c5,.slice a6 m.6.length c6,.int .i64 m.nx,.slice ta tl tc,.slice ma ns.length mc,.slice ka kl kc,.slice pa pl pc] #[.int .i64 kd,.string ⟨#[]⟩,.string ⟨#[]⟩,.int .i64 0,.string ⟨#[]⟩] be fv dv av fl dl al/\fl.length<=n/\dl.length<=n+1/\1<=dl.length/\al.length<=n/\SzB L fl/\SzB L dl/\SzB L al)) (fun _ _ _ i _=>ns.length-(intOf i).toNat)
 case atStart=>exact⟨_,_,_,[],[⟨#[]⟩],[],0,rfl,rfl,rfl,zL _,rfl,bX.o,Nat.le_refl _,dC,dC,Nat.le_refl _,SzB.nil _,fun s hs=>by simp at hs;subst hs;exact zL _,SzB.nil _⟩
 obtain⟨fv,dv,av,fl,dl,al,n,e6,e7,e8,hn,rfl,HR⟩:=hrel;subst e6 e7 e8;obtain⟨wo,dP⟩:∃wo,wo=wr:=⟨_,rfl⟩
 subst dP;clear bX;have x8:=HR.o.1.bx.c8;have n0:(0:Int)<=(n:Int):=oM
 by_cases hlt:n<ns.length
 ·have n1:(n:Int)<(ns.length:Int):=oM
  have n2:n<900:=oM
  obtain⟨g,dW,e1,p0,p1,-,-,-,hg,-⟩:=(HN.o wo HR.o.1.gr).1.at_ n hlt;simp only[vJ,true_and]at e1;obtain⟨rfl,rfl⟩:=e1;obtain⟨xp,bQ⟩:∃xp,ns[n].1=xp:=⟨_,rfl⟩
  obtain⟨xb,bZ⟩:∃xb,ns[n].2.1=xb:=⟨_,rfl⟩
  have bL:Hid (xp.size<=L):=by have:=dN.o _ (gM_ hlt);rw[bQ]at this;exact this
  rw[bQ]at p0;rw[bZ]at p1;have cF:Hid (ns[n].1=xp/\ns[n].2.1=xb):=⟨bQ,bZ⟩
  clear bQ bZ;have cP:Hid (Bw wo (wo.n #[.string xp] 9)):=(bF _ wo).alloc nR _;have HT:Hid (ROwns (wo.n #[.string xp] 9) (w.1.size+1+1) 9 av (stc al)):=HR.o.1.l.alloc _;have aW:Hid ((wo.n #[.string xp] 9).cell? ⟨wo.1.size,0,none⟩=some (.string xp)):=(AtC.new wo 9 #[.string xp]).cell 0;have aX:Hid (w.1.size+1+1<=(wo.n #[.string xp] 9).1.size):=by have:=HR.o.1.rs.lt;show _<=_;simp;omega
  have aU:Hid ((stc al).length<=100000000000):=by have:=HR.o.2.2.2.2.1;show _<=_;rw[zaj];omega
  have aY:Hid (∀aF aB,ROwns aB (w.1.size+1+1) 9 aF (stc al++[.string xp])->(wo.n #[.string xp] 9).grownBy aB av.ownBlock->(∀k,aF.ownBlock=some k->av.ownBlock=some k\/(wo.n #[.string xp] 9).1.size<=k)->Nx w0 w aB c a len cap #[sL a1 m.1 c1,sL a2 m.2 c2,sL a3 m.3 c3,sL a4 m.4 c4,sL a5 m.5 c5,sL a6 m.6 c6,nI m.nx,.slice ta tl tc,sL (aA g 0) ns mc,.slice ka kl kc,.slice pa pl pc] #[nI kd,eT,eT,nI 0,eT] be fv dv aF fl dl (al++[xp])):=fun aF aB aP aS bE=>(HR.o.1.below cP.o).appA (by rw[zbj];exact aP) aS bE;go_upto_region 9 with(at_builtin;refine wS fun K' aM=>?_;refine zam _ rfl (.tmp 27) (.tmp 34) 44 rfl (w.1.size+1+1) 9 Tryz.u44 _ 16 Tryz.i9 rfl dC av _ rfl HT.o aX.o wo.1.size (.string xp) rfl aW.o rfl aU.o ?_;intro aF aB aP aS bE;refine aM _ _ ?_;have aC:=hJ (aY.o aF aB aP aS bE);clear aP aS bE aM)
  clear HT aW aX aU aY cP p0 p1 x8;have x8:=aC.o.bx.c8;obtain⟨g',eF,e1,p0,p1,-,-,-,-,-⟩:=(HN.o aB aC.o.gr).1.at_ n hlt;simp only[vJ,oJ,aJ,and_true,true_and]at e1;obtain⟨rfl,-⟩:=e1;rw[cF.o.1]at p0;rw[cF.o.2]at p1
  cases xb with
  | true =>
   have HT:Hid (ROwns (aB.n #[.string xp] 9) (w.1.size+1+1) 9 dv (stc dl)):=aC.o.d.alloc _;have aW:Hid ((aB.n #[.string xp] 9).cell? ⟨aB.1.size,0,none⟩=some (.string xp)):=(AtC.new aB 9 #[.string xp]).cell 0;have aX:Hid (w.1.size+1+1<=(aB.n #[.string xp] 9).1.size):=by have:=aC.o.rs.lt;show _<=_;simp;omega
   have aU:Hid ((stc dl).length<=100000000000):=by have:=HR.o.2;show _<=_;rw[zaj];omega
   have aY:Hid (∀aG w13,ROwns w13 (w.1.size+1+1) 9 aG (stc dl++[.string xp])->(aB.n #[.string xp] 9).grownBy w13 (dv).ownBlock->(∀k,aG.ownBlock=some k->(dv).ownBlock=some k\/(aB.n #[.string xp] 9).1.size<=k)->Nx w0 w w13 c a len cap #[sL a1 m.1 c1,sL a2 m.2 c2,sL a3 m.3 c3,sL a4 m.4 c4,sL a5 m.5 c5,sL a6 m.6 c6,nI m.nx,.slice ta tl tc,sL (aA g 0) ns mc,.slice ka kl kc,.slice pa pl pc] #[nI kd,eT,eT,nI 0,eT] be fv aG aF fl (dl++[xp]) (al++[xp])):=fun aG w13 aO aN aR=>(aC.o.below ((bF _ aB).alloc nR _)).appD (by rw[zbj];exact aO) aN aR;go_wp2_with (at_builtin;refine wS fun K' aM=>?_;refine zam _ rfl (.tmp 42) (.tmp 49) 44 rfl (w.1.size+1+1) 9 Tryz.u44 _ 16 Tryz.i9 rfl dC dv _ rfl HT.o aX.o aB.1.size (.string xp) rfl aW.o rfl aU.o ?_;intro aG w13 aO aN aR;refine aM _ _ ?_;have bC:=hJ (aY.o aG w13 aO aN aR);clear aO aN aR aM)
   go_roundw
   case rel =>
    obtain⟨-,q1,q2,q3,q4,q5,q6,q7⟩:=HR.o;exact⟨fv,aG,aF,fl,dl++[xp],al++[xp],n+1,rfl,rfl,rfl,oM,gK,bC.o,oM,sO,sI,sO,q5,q6.app bL.o,q7.app bL.o⟩
   simp[intOf];omega
  | false =>
   have HT:Hid (ROwns (aB.n #[.string xp] 9) (w.1.size+1+1) 9 fv (stc fl)):=aC.o.f.alloc _;have aW:Hid ((aB.n #[.string xp] 9).cell? ⟨aB.1.size,0,none⟩=some (.string xp)):=(AtC.new aB 9 #[.string xp]).cell 0;have aX:Hid (w.1.size+1+1<=(aB.n #[.string xp] 9).1.size):=by have:=aC.o.rs.lt;show _<=_;simp;omega
   have aU:Hid ((stc fl).length<=100000000000):=by have:=HR.o.2;show _<=_;rw[zaj];omega
   have aY:Hid (∀aG w13,ROwns w13 (w.1.size+1+1) 9 aG (stc fl++[.string xp])->(aB.n #[.string xp] 9).grownBy w13 (fv).ownBlock->(∀k,aG.ownBlock=some k->(fv).ownBlock=some k\/(aB.n #[.string xp] 9).1.size<=k)->Nx w0 w w13 c a len cap #[sL a1 m.1 c1,sL a2 m.2 c2,sL a3 m.3 c3,sL a4 m.4 c4,sL a5 m.5 c5,sL a6 m.6 c6,nI m.nx,.slice ta tl tc,sL (aA g 0) ns mc,.slice ka kl kc,.slice pa pl pc] #[nI kd,eT,eT,nI 0,eT] be aG dv aF (fl++[xp]) dl (al++[xp])):=fun aG w13 aO aN aR=>(aC.o.below ((bF _ aB).alloc nR _)).appF (by rw[zbj];exact aO) aN aR;go_wp2_with (at_builtin;refine wS fun K' aM=>?_;refine zam _ rfl (.tmp 51) (.tmp 58) 44 rfl (w.1.size+1+1) 9 Tryz.u44 _ 16 Tryz.i9 rfl dC fv _ rfl HT.o aX.o aB.1.size (.string xp) rfl aW.o rfl aU.o ?_;intro aG w13 aO aN aR;refine aM _ _ ?_;have bC:=hJ (aY.o aG w13 aO aN aR);clear aO aN aR aM)
   go_roundw
   case rel =>
    obtain⟨-,q1,q2,q3,q4,q5,q6,q7⟩:=HR.o;exact⟨aG,dv,aF,fl++[xp],dl,al++[xp],n+1,rfl,rfl,rfl,oM,gK,bC.o,sO,oM,q3,sO,q5.app bL.o,q6,q7.app bL.o⟩
   simp[intOf];omega
 have n1:¬((n:Int)<(ns.length:Int)):=oM
 obtain⟨bH,eM,eN,dV,eO,cE,cD,dL⟩:=HR.o;have HX:=hJ bH;have HS:=hJ (aI cE (aI cD dL));obtain⟨da,dc,dA,-⟩:=bH.d.form;rw[zaj]at dA;subst dA;obtain⟨fa,aK,cJ,-⟩:=bH.f.form;rw[zaj]at cJ;subst cJ;obtain⟨la,lc,cH,-⟩:=bH.l.form;rw[zaj]at cH;subst cH;clear HR bH cE cD dL;have cN:0<dl.length/\dl.length<=1000:=⟨oM,oM⟩
 go_upto_region 12 with fail
 clear x8;go_cut [10]from 20 to 70 (fun c10 wx=>(∃fr:ByteArray,c10=.string fr/\fr.size<=L+3)/\Nx w0 w wx c a len cap #[.slice a1 m.1.length c1,.slice a2 m.2.length c2,.slice a3 m.3.length c3,.slice a4 m.4.length c4,.slice a5 m.5.length c5,.slice a6 m.6.length c6,.int .i64 m.nx,.slice ta tl tc,.slice ma ns.length mc,.slice ka kl kc,.slice pa pl pc] #[.int .i64 kd,.string ⟨#[]⟩,.string ⟨#[]⟩,.int .i64 0,.string ⟨#[]⟩] be (.slice fa fl.length aK) (.slice da dl.length dc) (.slice la al.length lc) fl dl al)
 case first =>
  obtain⟨gd,cd,ed,-,-⟩:=zc0 HX.o.d 0 cN.1;simp only[vJ,true_and]at ed;obtain⟨rfl,rfl⟩:=ed;have cO:Hid (∀W,Nx w0 w W c a len cap #[sL a1 m.1 c1,sL a2 m.2 c2,sL a3 m.3 c3,sL a4 m.4 c4,sL a5 m.5 c5,sL a6 m.6 c6,nI m.nx,.slice ta tl tc,sL ma ns mc,.slice ka kl kc,.slice pa pl pc] #[nI kd,eT,eT,nI 0,eT] be (sL fa fl aK) (sL (aA gd 0) dl dc) (sL la al lc) fl dl al->∀x:Nat,x<dl.length->W.cell? ⟨gd,x,none⟩=some (.string (dl.getD x ⟨#[]⟩))/\(dl.getD x ⟨#[]⟩).size<=L):=fun W hN x hx=>by
   obtain⟨gd',cd',e1,k1,-⟩:=zc0 hN.d x hx;simp only[vJ,oJ,aJ,and_true,true_and]at e1;obtain⟨rfl,-⟩:=e1;have e:dl.getD x ⟨#[]⟩=dl[x]:=by simp[hx]
   rw[e];exact⟨k1,HS.o.2.1 _ (gM_ hx)⟩
  have cQ:Hid (Nx w0 w wo.drew c a len cap #[sL a1 m.1 c1,sL a2 m.2 c2,sL a3 m.3 c3,sL a4 m.4 c4,sL a5 m.5 c5,sL a6 m.6 c6,nI m.nx,.slice ta tl tc,sL ma ns mc,.slice ka kl kc,.slice pa pl pc] #[nI kd,eT,eT,nI 0,eT] be (sL fa fl aK) (sL (aA gd 0) dl dc) (sL la al lc) fl dl al):=HX.o.below bR.drew;have dY:dl.length<=4294967296:=oM
  have eG:Hid (∀s z:ByteArray,s.size<=L->z.size<=2->((s++(⟨#[47]⟩:BA))++z).size<=L+3):=fun s z h1 h2=>by
   rw[bA_,bA_];have:(⟨#[47]⟩:BA).size=1:=rfl;omega
  have dM:Hid (∀W,Nx w0 w W c a len cap #[sL a1 m.1 c1,sL a2 m.2 c2,sL a3 m.3 c3,sL a4 m.4 c4,sL a5 m.5 c5,sL a6 m.6 c6,nI m.nx,.slice ta tl tc,sL ma ns mc,.slice ka kl kc,.slice pa pl pc] #[nI kd,eT,eT,nI 0,eT] be (sL fa fl aK) (sL (aA gd 0) dl dc) (sL la al lc) fl dl al->c<W.1.size):=fun W hN=>by have:=hN.size;omega
  go_region_with (first| (go_at_call 36;refine(zah w0 _ c a len cap dl.length HO.o hlen cQ.o.cur cN.1 dY).mono ?_;rintro e w13 ⟨x,hx,rfl,hd13⟩;have HX13:=hJ (cQ.o.drew hd13);obtain⟨ks,hsz⟩:=cO.o w13 HX13.o x hx;obtain⟨s,hs⟩:∃s,dl.getD x ⟨#[]⟩=s:=⟨_,rfl⟩;rw[hs]at ks hsz;have eH:=hJ hs;clear hd13 hs;have x0:(0:Int)<=(x:Int):=Int.natCast_nonneg x;have x1:(x:Int)<(dl.length:Int):=Int.ofNat_lt.2 hx;have h3:¬9223372036854775807<s.size+1:=(fun q=>oM))| (go_at_call 139;refine(name_any w0 _ c a len cap HO.o hlen HX13.o.cur (dM.o _ HX13.o)).mono ?_;rintro e dX ⟨z,hz,rfl,bI⟩;have bJ:=hJ (HX13.o.drew bI);have dU:=(cO.o dX bJ.o x hx).1;rw[eH.o]at dU;clear bI;have h4:¬9223372036854775807<s.size+1+z.size:=(fun q=>oM)))
  all_goals (go_wp2_with fail;go_meet;exact⟨⟨_,rfl,eG.o s z hsz hz⟩,bJ.o⟩)
 obtain⟨⟨fr,rfl,bU⟩,hx⟩:=hcut;obtain⟨w2,eC⟩:∃w2,w2=wc:=⟨_,rfl⟩
 subst eC;have aH:=hJ hx;have bO:=hx.hb;have eI:¬be=w.1.size+1:=oM
 have eK:¬w.1.size+1=be:=oM
 clear bO;have eE:c<w2.1.size:=by have:=hx.size;omega
 clear hx HX;obtain⟨e0,e1,e2,e3,e4⟩:=aH.o.ev.k5;obtain⟨f0,f1,f2,f3,f4⟩:=aH.o.ev.f5;obtain⟨r0,r1,r2,r3,r4⟩:=aH.o.rs.k5;obtain⟨v0,v1,v2,v3,v4⟩:=aH.o.rs.f5;by_cases h1:kd=1
 ·subst h1;go_wp2;refine bY (v:=.agg #[nI 1,.string fr,eT,nI 0,eT]) sR5 rfl ⟨⟨_,_,_,_,_,rfl,dC,dC,bU,by show(0:Nat)<=_;omega,by show(0:Nat)<=16;omega⟩,(aH.o.setE 1 (.string fr)).ret _ _ _ _ _⟩
 by_cases h2:kd=2
 ·subst h2;go_wp2;refine bY (v:=.agg #[nI 2,.string fr,eT,nI 0,eT]) sR5 rfl ⟨⟨_,_,_,_,_,rfl,dC,dC,bU,by show(0:Nat)<=_;omega,by show(0:Nat)<=16;omega⟩,(aH.o.setE 1 (.string fr)).ret _ _ _ _ _⟩
 by_cases h7:kd=7
 ·subst h7;go_wp2;refine bY (v:=.agg #[nI 7,eT,eT,nI 0,eT]) sR5 rfl ⟨⟨_,_,_,_,_,rfl,dC,dC,by show(0:Nat)<=_;omega,by show(0:Nat)<=_;omega,by show(0:Nat)<=16;omega⟩,aH.o.ret _ _ _ _ _⟩
 by_cases h5:kd=5
 ·subst h5;obtain⟨W3,aV⟩:∃W3,w2.setCell ⟨be,1,none⟩ (.string ⟨#[47,97]⟩)=W3:=⟨_,rfl⟩
  have HX3:Hid (Nx w0 w W3 c a len cap #[sL a1 m.1 c1,sL a2 m.2 c2,sL a3 m.3 c3,sL a4 m.4 c4,sL a5 m.5 c5,sL a6 m.6 c6,nI m.nx,.slice ta tl tc,sL ma ns mc,.slice ka kl kc,.slice pa pl pc] #[nI 5,.string ⟨#[47,97]⟩,eT,nI 0,eT] be (sL fa fl aK) (sL da dl dc) (sL la al lc) fl dl al):=by rw[←aV];exact aH.o.setE 1 (.string ⟨#[47,97]⟩)
  go_upto_if 84 with fail
  clear e0 e1 e2 e3 e4 f0 f1 f2 f3 f4 r0 r1 r2 r3 r4 v0 v1 v2 v3 v4 aV;go_cut [5]from 82 to 92 (fun cx wx=>cx=.pointer (some ⟨be,0,none⟩)/\∃pp:ByteArray,pp.size<=L+3/\Nx w0 w wx c a len cap #[.slice a1 m.1.length c1,.slice a2 m.2.length c2,.slice a3 m.3.length c3,.slice a4 m.4.length c4,.slice a5 m.5.length c5,.slice a6 m.6.length c6,.int .i64 m.nx,.slice ta tl tc,.slice ma ns.length mc,.slice ka kl kc,.slice pa pl pc] #[.int .i64 5,.string pp,.string ⟨#[]⟩,.int .i64 0,.string ⟨#[]⟩] be (.slice fa fl.length aK) (.slice da dl.length dc) (.slice la al.length lc) fl dl al)
  case first =>
   exact cQ18
  obtain⟨rfl,pp,bV,hx⟩:=hcut;obtain⟨w4,cB⟩:∃w4,w4=wc:=⟨_,rfl⟩
  subst cB;have aD:=hJ hx;clear hx HX3;obtain⟨e0,e1,e2,e3,e4⟩:=aD.o.ev.k5;obtain⟨f0,f1,f2,f3,f4⟩:=aD.o.ev.f5;obtain⟨r0,r1,r2,r3,r4⟩:=aD.o.rs.k5;obtain⟨v0,v1,v2,v3,v4⟩:=aD.o.rs.f5;go_wp2;refine bY (v:=.agg #[nI 5,.string pp,.string fr,nI 0,eT]) sR5 rfl ⟨⟨_,_,_,_,_,rfl,dC,dC,bV,bU,by show(0:Nat)<=16;omega⟩,(aD.o.setE 2 (.string fr)).ret _ _ _ _ _⟩
 by_cases h4:kd=4
 ·subst h4;by_cases hz:0<al.length
  rotate_left
  ·have hz1:¬(0:Int)<(al.length:Int):=oM
   go_wp2;refine bY (v:=.agg #[nI 4,.string ⟨#[47,98]⟩,eT,nI 0,eT]) sR5 rfl ⟨⟨_,_,_,_,_,rfl,dC,dC,by show(2:Nat)<=L+3;omega,by show(0:Nat)<=_;omega,by show(0:Nat)<=16;omega⟩,(aH.o.setE 1 (.string ⟨#[47,98]⟩)).ret _ _ _ _ _⟩
  have hz1:(0:Int)<(al.length:Int):=oM
  obtain⟨W3,aV⟩:∃W3,w2.setCell ⟨be,1,none⟩ (.string ⟨#[47,98]⟩)=W3:=⟨_,rfl⟩
  have HX3:Hid (Nx w0 w W3 c a len cap #[sL a1 m.1 c1,sL a2 m.2 c2,sL a3 m.3 c3,sL a4 m.4 c4,sL a5 m.5 c5,sL a6 m.6 c6,nI m.nx,.slice ta tl tc,sL ma ns mc,.slice ka kl kc,.slice pa pl pc] #[nI 4,.string ⟨#[47,98]⟩,eT,nI 0,eT] be (sL fa fl aK) (sL da dl dc) (sL la al lc) fl dl al):=by rw[←aV];exact aH.o.setE 1 (.string ⟨#[47,98]⟩)
  obtain⟨gd,cd,ed,-,-⟩:=zc0 HX3.o.l 0 hz;simp only[vJ,true_and]at ed;obtain⟨rfl,rfl⟩:=ed;go_wp2_with fail
  refine(zah w0 W3 c a len cap al.length HO.o hlen HX3.o.cur hz oM).mono ?_;rintro e w13 ⟨x,hx,rfl,hd13⟩;have HX13:=hJ (HX3.o.drew hd13);obtain⟨gd',cd',e1',ks,-⟩:=zc0 HX13.o.l x hx;simp only[vJ,oJ,aJ,and_true,true_and]at e1';obtain⟨rfl,-⟩:=e1';have hsz:=HS.o.2.2 _ (gM_ hx);obtain⟨s,hs⟩:∃s,al[x]=s:=⟨_,rfl⟩
  rw[hs]at ks hsz;have x0:(0:Int)<=(x:Int):=oM
  have x1:(x:Int)<(al.length:Int):=oM
  clear e0 e1 e2 e3 e4 f0 f1 f2 f3 f4 r0 r1 r2 r3 r4 v0 v1 v2 v3 v4 hd13 hs aV;obtain⟨e0,e1,e2,e3,e4⟩:=HX13.o.ev.k5;obtain⟨f0,f1,f2,f3,f4⟩:=HX13.o.ev.f5;obtain⟨r0,r1,r2,r3,r4⟩:=HX13.o.rs.k5;obtain⟨v0,v1,v2,v3,v4⟩:=HX13.o.rs.f5;go_wp2;refine bY (v:=.agg #[nI 4,.string s,eT,nI 0,eT]) sR5 rfl ⟨⟨_,_,_,_,_,rfl,dC,dC,oM,by show(0:Nat)<=_;omega,by show(0:Nat)<=16;omega⟩,(HX13.o.setE 1 (.string s)).ret _ _ _ _ _⟩
 by_cases h3:kd=3
 ·subst h3;obtain⟨W3,aV⟩:∃W3,w2.setCell ⟨be,1,none⟩ (.string ⟨#[47,97]⟩)=W3:=⟨_,rfl⟩
  have HX3:Hid (Nx w0 w W3 c a len cap #[sL a1 m.1 c1,sL a2 m.2 c2,sL a3 m.3 c3,sL a4 m.4 c4,sL a5 m.5 c5,sL a6 m.6 c6,nI m.nx,.slice ta tl tc,sL ma ns mc,.slice ka kl kc,.slice pa pl pc] #[nI 3,.string ⟨#[47,97]⟩,eT,nI 0,eT] be (sL fa fl aK) (sL da dl dc) (sL la al lc) fl dl al):=by rw[←aV];exact aH.o.setE 1 (.string ⟨#[47,97]⟩)
  go_upto_if 84 with fail
  clear e0 e1 e2 e3 e4 f0 f1 f2 f3 f4 r0 r1 r2 r3 r4 v0 v1 v2 v3 v4 aV;go_cut [5]from 82 to 92 (fun cx wx=>cx=.pointer (some ⟨be,0,none⟩)/\∃pp:ByteArray,pp.size<=L+3/\Nx w0 w wx c a len cap #[.slice a1 m.1.length c1,.slice a2 m.2.length c2,.slice a3 m.3.length c3,.slice a4 m.4.length c4,.slice a5 m.5.length c5,.slice a6 m.6.length c6,.int .i64 m.nx,.slice ta tl tc,.slice ma ns.length mc,.slice ka kl kc,.slice pa pl pc] #[.int .i64 3,.string pp,.string ⟨#[]⟩,.int .i64 0,.string ⟨#[]⟩] be (.slice fa fl.length aK) (.slice da dl.length dc) (.slice la al.length lc) fl dl al)
  case first =>
   exact cQ18
  obtain⟨rfl,pp,bV,hx⟩:=hcut;obtain⟨w4,cB⟩:∃w4,w4=wc:=⟨_,rfl⟩
  subst cB;have aD:=hJ hx;clear hx HX3;obtain⟨e0,e1,e2,e3,e4⟩:=aD.o.ev.k5;obtain⟨f0,f1,f2,f3,f4⟩:=aD.o.ev.f5;obtain⟨r0,r1,r2,r3,r4⟩:=aD.o.rs.k5;obtain⟨v0,v1,v2,v3,v4⟩:=aD.o.rs.f5;obtain⟨W6,cR⟩:∃W6,w4.alloc (.cells #[eT,.string ⟨#[120]⟩,.string ⟨#[104,101,108,108,111]⟩,.string ⟨#[48,49,50,51,52,53,54,55,56,57,97,98,99,100,101,102]⟩] 9)=W6:=⟨_,rfl⟩
  have bP:Hid (Nx w0 w W6 c a len cap #[sL a1 m.1 c1,sL a2 m.2 c2,sL a3 m.3 c3,sL a4 m.4 c4,sL a5 m.5 c5,sL a6 m.6 c6,nI m.nx,.slice ta tl tc,sL ma ns mc,.slice ka kl kc,.slice pa pl pc] #[nI 3,.string pp,eT,nI 0,eT] be (sL fa fl aK) (sL da dl dc) (sL la al lc) fl dl al/\AtC W6 w4.1.size 9 (stc txS).toArray/\c≠w4.1.size):=by
   rw[←cR];exact⟨aD.o.below ((bF _ w4).alloc nR _),AtC.new w4 9 _,by have:=aD.o.size;omega⟩
  go_wp2_with fail
  refine(zdv w0 W6 c w4.1.size a len cap txS HO.o hlen bP.o.1.cur bP.o.2.1 bP.o.2.2 dC dC).mono ?_;rintro e w7 ⟨tx,cX,rfl,bG⟩;have bS:=txS_size tx cX;have aL:=hJ (bP.o.1.drew bG);clear e0 e1 e2 e3 e4 f0 f1 f2 f3 f4 r0 r1 r2 r3 r4 v0 v1 v2 v3 v4 bG cX cR;obtain⟨e0,e1,e2,e3,e4⟩:=aL.o.ev.k5;obtain⟨f0,f1,f2,f3,f4⟩:=aL.o.ev.f5;obtain⟨r0,r1,r2,r3,r4⟩:=aL.o.rs.k5;obtain⟨v0,v1,v2,v3,v4⟩:=aL.o.rs.f5;obtain⟨W8,cG⟩:∃W8,w7.setCell ⟨be,4,none⟩ (.string tx)=W8:=⟨_,rfl⟩
  have aT:Hid (Nx w0 w W8 c a len cap #[sL a1 m.1 c1,sL a2 m.2 c2,sL a3 m.3 c3,sL a4 m.4 c4,sL a5 m.5 c5,sL a6 m.6 c6,nI m.nx,.slice ta tl tc,sL ma ns mc,.slice ka kl kc,.slice pa pl pc] #[nI 3,.string pp,eT,nI 0,.string tx] be (sL fa fl aK) (sL da dl dc) (sL la al lc) fl dl al):=by rw[←cG];exact aL.o.setE 4 (.string tx)
  go_wp2_with fail
  refine(zah w0 W8 c a len cap 2 HO.o hlen aT.o.cur dC dC).mono ?_;rintro e w9 ⟨x,hx,rfl,cT⟩;have bK:=hJ (aT.o.drew cT);clear e0 e1 e2 e3 e4 f0 f1 f2 f3 f4 r0 r1 r2 r3 r4 v0 v1 v2 v3 v4 cT cG;obtain⟨e0,e1,e2,e3,e4⟩:=bK.o.ev.k5;obtain⟨f0,f1,f2,f3,f4⟩:=bK.o.ev.f5;obtain⟨r0,r1,r2,r3,r4⟩:=bK.o.rs.k5;obtain⟨v0,v1,v2,v3,v4⟩:=bK.o.rs.f5;go_wp2;refine bY (v:=.agg #[nI 3,.string pp,eT,nI (x:Int),.string tx]) sR5 rfl ⟨⟨_,_,_,_,_,rfl,dC,dC,bV,by show(0:Nat)<=_;omega,bS⟩,(bK.o.setE 3 (nI (x:Int))).ret _ _ _ _ _⟩
 have h6:kd=6:=by have:=cV.o;omega
 subst h6;clear h1 h2 h7 h5 h4 h3 cV;go_wp2_with fail
 refine(zah w0 w2 c a len cap 21 HO.o hlen aH.o.cur dC dC).mono ?_;rintro e w3 ⟨x,hx,rfl,cI⟩;have HX3:=hJ (aH.o.drew cI);clear e0 e1 e2 e3 e4 f0 f1 f2 f3 f4 r0 r1 r2 r3 r4 v0 v1 v2 v3 v4 cI;obtain⟨e0,e1,e2,e3,e4⟩:=HX3.o.ev.k5;obtain⟨f0,f1,f2,f3,f4⟩:=HX3.o.ev.f5;obtain⟨r0,r1,r2,r3,r4⟩:=HX3.o.rs.k5;obtain⟨v0,v1,v2,v3,v4⟩:=HX3.o.rs.f5;obtain⟨W4,dJ⟩:∃W4,w3.setCell ⟨be,3,none⟩ (nI (x:Int))=W4:=⟨_,rfl⟩
 have aD:Hid (Nx w0 w W4 c a len cap #[sL a1 m.1 c1,sL a2 m.2 c2,sL a3 m.3 c3,sL a4 m.4 c4,sL a5 m.5 c5,sL a6 m.6 c6,nI m.nx,.slice ta tl tc,sL ma ns mc,.slice ka kl kc,.slice pa pl pc] #[nI 6,eT,eT,nI (x:Int),eT] be (sL fa fl aK) (sL da dl dc) (sL la al lc) fl dl al/\W4.1.size=w3.1.size):=by
  rw[←dJ];exact⟨HX3.o.setE 3 (nI (x:Int)),sI⟩
 obtain⟨Wd,cY⟩:∃Wd,W4.alloc (.cells #[] 3)=Wd:=⟨_,rfl⟩
 have bN:Hid (ROwns Wd w3.1.size 3 (.slice (aA w3.1.size 0) 0 0) (ic [])/\Below w3.1.size W4 Wd):=by
  rw[←cY,←aD.o.2];exact⟨ROwns.lit0 W4 _ 3 nR,(bF _ W4).alloc nR _⟩
 have dH:Hid (∀W,Below w3.1.size W4 W->Nx w0 w W c a len cap #[sL a1 m.1 c1,sL a2 m.2 c2,sL a3 m.3 c3,sL a4 m.4 c4,sL a5 m.5 c5,sL a6 m.6 c6,nI m.nx,.slice ta tl tc,sL ma ns mc,.slice ka kl kc,.slice pa pl pc] #[nI 6,eT,eT,nI (x:Int),eT] be (sL fa fl aK) (sL da dl dc) (sL la al lc) fl dl al):=fun W bb=>aD.o.1.below (by rw[aD.o.2];exact bb);have x4:=(dH.o Wd bN.o.2).bx.c4;have dO:W4.1.size=w3.1.size:=aD.o.2;go_wp2_with fail
 clear e0 e1 e2 e3 e4 f0 f1 f2 f3 f4 r0 r1 r2 r3 r4 v0 v1 v2 v3 v4 dJ cY x4 aH HX3;have dQ:(m.5.length:Int)<=21:=by have:=aZ.o;omega
 go_loopw [11,12] (fun dS i wr=>∃(lv:Va)(l:List Int)(n:Nat),lv=dS/\n<=m.5.length/\i=.int .i64 n/\Hid (ROwns wr w3.1.size 3 lv (ic l)/\Below w3.1.size W4 wr/\l.length<=n)) (fun _ i _=>m.5.length-(intOf i).toNat)
 case atStart=>exact⟨_,[],0,rfl,zL _,rfl,bN.o.1,bN.o.2,Nat.le_refl _⟩
 obtain⟨lv,l,n,eD,hn,rfl,HR⟩:=hrel;subst eD;clear bN;have aQ:=hJ (dH.o wr HR.o.2.1);have x4:=aQ.o.bx.c4;have n0:(0:Int)<=(n:Int):=oM
 by_cases hlt:n<m.5.length
 ·have n1:(n:Int)<(m.5.length:Int):=oM
  have eJ:n<21:=by have:=aZ.o;omega
  obtain⟨gf,cf,ef,kf,-⟩:=(HN.o wr aQ.o.gr).2.at n (by rw[zad];exact hlt);rw[zad]at ef;simp only[vJ,true_and]at ef;obtain⟨rfl,rfl⟩:=ef;obtain⟨fb,cL⟩:∃fb,m.fs[n]=fb:=⟨_,rfl⟩
  replace kf:wr.cell? ⟨gf,n,none⟩=some (.bool fb):=kf.trans (by simp[fc,hlt,cL])
  clear cL
  cases fb with
  | false =>
   go_wp2;go_roundw
   case rel=>exact⟨lv,l,n+1,rfl,oM,gK,HR.o.1,HR.o.2.1,by have:=HR.o.2.2;omega⟩
   simp[intOf];omega
  | true =>
   have HT:Hid (ROwns (wr.n #[nI (n:Int)] 3) w3.1.size 3 lv (ic l)):=HR.o.1.alloc _;have aW:Hid ((wr.n #[nI (n:Int)] 3).cell? ⟨wr.1.size,0,none⟩=some (nI (n:Int))):=(AtC.new wr 3 #[nI (n:Int)]).cell 0;have aX:Hid (w3.1.size<=(wr.n #[nI (n:Int)] 3).1.size):=by have:=HR.o.2.1.size;show _<=_;simp;omega
   have aU:Hid ((ic l).length<=100000000000):=by have:=HR.o.2.2;show _<=_;rw[zaf];omega
   have aY:Hid (∀aF aB,ROwns aB w3.1.size 3 aF (ic l++[nI (n:Int)])->(wr.n #[nI (n:Int)] 3).grownBy aB lv.ownBlock->ROwns aB w3.1.size 3 aF (ic (l++[(n:Int)]))/\Below w3.1.size W4 aB):=fun aF aB aP aS=>by
    have b:=HR.o.2.1;have ba:=b.alloc (by have:=b.size;omega) (.cells #[nI (n:Int)] 3);exact⟨by simpa[ic]using aP,ba.grown aS (by have:=ba.size;omega) (fun k hk=>(HR.o.1.lt k hk).1)⟩
   go_wp2_with (at_builtin;refine wS fun K' aM=>?_;refine zam _ rfl (.tmp 141) (.tmp 143) 40 rfl w3.1.size 3 Tryz.u40 _ 8 Tryz.i3 rfl dC lv _ rfl HT.o aX.o wr.1.size (nI (n:Int)) rfl aW.o rfl aU.o ?_;intro aF aB aP aS bE;refine aM _ _ ?_;have aC:=hJ (aY.o aF aB aP aS);clear aP aS bE aM)
   go_roundw
   case rel=>exact⟨aF,l++[(n:Int)],n+1,rfl,oM,gK,aC.o.1,aC.o.2,by have:=HR.o.2.2;simp;omega⟩
   simp[intOf];omega
 have n1:¬((n:Int)<(m.5.length:Int)):=oM
 obtain⟨va,vc,elv,-⟩:=HR.o.1.form;rw[zaf]at elv;subst elv;have eL:l.length<=21:=by have:=HR.o.2.2;have:=aZ.o;omega
 obtain⟨e0,e1,e2,e3,e4⟩:=aQ.o.ev.k5;obtain⟨f0,f1,f2,f3,f4⟩:=aQ.o.ev.f5;obtain⟨r0,r1,r2,r3,r4⟩:=aQ.o.rs.k5;obtain⟨v0,v1,v2,v3,v4⟩:=aQ.o.rs.f5;by_cases hz:0<l.length
 rotate_left
 ·have hz1:¬(0:Int)<(l.length:Int):=oM
  go_wp2;refine bY (v:=.agg #[nI 6,eT,eT,nI (x:Int),eT]) sR5 rfl ⟨⟨_,_,_,_,_,rfl,dC,dC,by show(0:Nat)<=_;omega,by show(0:Nat)<=_;omega,by show(0:Nat)<=16;omega⟩,aQ.o.ret _ _ _ _ _⟩
 have hz1:(0:Int)<(l.length:Int):=oM
 go_wp2_with fail
 refine(zaw w0 wr c a len cap 6 HO.o hlen aQ.o.cur dC dC).mono ?_;rintro e w7 ⟨y,rfl,bG⟩;obtain⟨bb,bO⟩:∃bb,(y==0)=bb:=⟨_,rfl⟩
 rw[bO];have aL:=hJ (aQ.o.drew bG);have dE:Hid (ROwns w7 w3.1.size 3 (sL va l vc) (ic l)):=HR.o.1.grown bG.2 (fun k hk=>by have:=(HR.o.1.lt k hk).1;have:=aD.o.1.size;have:=aD.o.2;simp;omega);clear e0 e1 e2 e3 e4 f0 f1 f2 f3 f4 r0 r1 r2 r3 r4 v0 v1 v2 v3 v4 bO bG x4;obtain⟨e0,e1,e2,e3,e4⟩:=aL.o.ev.k5;obtain⟨f0,f1,f2,f3,f4⟩:=aL.o.ev.f5;obtain⟨r0,r1,r2,r3,r4⟩:=aL.o.rs.k5;obtain⟨v0,v1,v2,v3,v4⟩:=aL.o.rs.f5
 cases bb with
 | true =>
  go_wp2;refine bY (v:=.agg #[nI 6,eT,eT,nI (x:Int),eT]) sR5 rfl ⟨⟨_,_,_,_,_,rfl,dC,dC,by show(0:Nat)<=_;omega,by show(0:Nat)<=_;omega,by show(0:Nat)<=16;omega⟩,aL.o.ret _ _ _ _ _⟩
 | false =>
  go_wp2_with fail
  refine(zah w0 w7 c a len cap l.length HO.o hlen aL.o.cur hz oM).mono ?_;rintro e w8 ⟨y2,dD,rfl,cA⟩;have aT:=hJ (aL.o.drew cA);have dI:=dE.o.grown cA.2 (fun k hk=>by have:=(dE.o.lt k hk).1;have:=aD.o.1.size;have:=aD.o.2;simp;omega);obtain⟨gf,cf,ef,kf,-⟩:=dI.at y2 (by rw[zaf];exact dD);rw[zaf]at ef;simp only[vJ,true_and]at ef;obtain⟨rfl,rfl⟩:=ef;obtain⟨zz,cM⟩:∃zz,l[y2]=zz:=⟨_,rfl⟩
  replace kf:w8.cell? ⟨gf,y2,none⟩=some (nI zz):=kf.trans (by simp[ic,dD,cM])
  have y0:(0:Int)<=(y2:Int):=oM
  have y1:(y2:Int)<(l.length:Int):=oM
  clear e0 e1 e2 e3 e4 f0 f1 f2 f3 f4 r0 r1 r2 r3 r4 v0 v1 v2 v3 v4 cM cA dI;obtain⟨e0,e1,e2,e3,e4⟩:=aT.o.ev.k5;obtain⟨f0,f1,f2,f3,f4⟩:=aT.o.ev.f5;obtain⟨r0,r1,r2,r3,r4⟩:=aT.o.rs.k5;obtain⟨v0,v1,v2,v3,v4⟩:=aT.o.rs.f5;go_wp2;refine bY (v:=.agg #[nI 6,eT,eT,nI zz,eT]) sR5 rfl ⟨⟨_,_,_,_,_,rfl,dC,dC,by show(0:Nat)<=_;omega,by show(0:Nat)<=_;omega,by show(0:Nat)<=16;omega⟩,(aT.o.setE 3 (nI zz)).ret _ _ _ _ _⟩
end Go.Proofs.YtgnplpmgkegcnaaGreat
