/- Texts. -/
import Derived.Test.YtgnplpmgkegcnaaGreatW05
import Derived.Test.YtgnplpmgkegcnaaGreatW06
import Derived.Test.YtgnplpmgkegcnaaGreatW07
set_option maxRecDepth 100000
set_option maxHeartbeats 12800000
namespace Go.Proofs.YtgnplpmgkegcnaaGreat
namespace Kit
open Go.RowKit
def rowsW(ds:List Dp)(ts:List Row):List Row:=List.zipWith (fun d t=>d.row (KDep.p t)) ds ts
theorem zcy(ds:List Dp)(ts:List Row):(rowsW ds ts).length=min ds.length ts.length:=by simp[rowsW]
theorem zjz(ds:List Dp)(ts:List Row)(i:Nat)(h:i<(rowsW ds ts).length)(h1:i<ds.length)(h2:i<ts.length):(rowsW ds ts)[i]=ds[i].row (KDep.p ts[i]):=by simp[rowsW]
theorem zfk(d:Dp):∀(ds:List Dp)(ts:List Row)(h:ds.length<ts.length),rowsW (ds++[d]) ts=rowsW ds ts++[d.row (KDep.p ts[ds.length])]
 | [],[],h=>by simp at h
 | [],t::ts,h=>by simp[rowsW]
 | a::ds,[],h=>by simp at h
 | a::ds,t::ts,h=>by
  have ih:=zfk d ds ts uI;show _::rowsW (ds++[d]) ts=_::(rowsW ds ts++_);rw[ih];rfl
theorem zk2(ds:List Dp)(ts:List Row)(d:Dp)(n:Nat)(hn:ds.length=n)(h:n<ts.length):rowsW (ds++[d]) ts=rowsW ds ts++[d.row (KDep.p ts[n])]:=by
 subst hn;exact zfk d ds ts h
theorem pRow(d:Dp)(p:Va):KDep.p (d.row p)=p:=rfl
theorem NOwns.rc{w:Wd}{e:TypeId}{n:Nat}{v:Va}{ts:List Row}(h:NOwns w e n v ts):RC w v ts.length ts.flatten:=by
 have hf:=zbx h.1;rcases h.2.2 with⟨h1,h0⟩| ⟨g,cap,cur,rfl,h2,h3,h4,h5,h6,h7⟩
 ·have:ts=[]:=List.length_eq_zero_iff.mp h0;subst this;obtain⟨a,c,e1,-⟩:=h.form;exact⟨a,c,e1,fun j u hj=>by simp at hj⟩
 have h':w.ownsRow 0 e n (sL (aA g 0) ts cap) ts.length ts.flatten:=h.2;refine⟨_,_,rfl,fun j u hj=>⟨g,0,rfl,?_⟩⟩;rw[zA_];exact(h'.cellAt j (by have:=List.getElem?_eq_some_iff.mp hj;obtain⟨q,-⟩:=this;omega)).trans hj
theorem row_one{w:Wd}{t:Row}{x:Dp}(h:KDep.O w t x):∀u∈t,u.oneCell'=true:=by
 obtain⟨p,rfl,h⟩:=h;obtain⟨a,c,rfl,-⟩:=h.form;simp[Dp.row,Value.oneCell']
theorem GN.kinds{w w2:Wd}{S:Nat->Prop}{v lv:Va}{ts:List Row}{ds ds':List Dp}(h:GN KDep w S v ts ds)(hl:ds'.length=ds.length)(hk:∀(i:Nat)(h1:i<ds'.length)(h2:i<ds.length),ds'[i].bl=ds[i].bl)(hn:NOwns w2 42 11 lv (rowsW ds' ts))(hlo:∀k,lv.ownBlock=some k->¬S k)(hb:∀k,S k->k<w.1.size->w2.1[k]?=w.1[k]?):
  GN KDep w2 (fun k=>S k\/lv.ownBlock=some k) lv (rowsW ds' ts) ds':=by
 have aD:=h.len;have aC:(rowsW ds' ts).length=ds'.length:=by rw[zcy];omega
 have hp:∀(j:Nat) (hj:j<(rowsW ds' ts).length),∃(h2:j<ts.length),KDep.p (rowsW ds' ts)[j]=KDep.p ts[j]:=fun j hj=>⟨oM,by rw[zjz _ _ _ _ oM oM];rfl⟩
 refine⟨by rw[aC],hn,fun j hj aB=>?_,fun i j hi hj aF k=>?_,fun j hj k e2 e3=>?_,fun k e=>.inr e,fun j hj k e=>?_⟩
 ·rw[zjz _ _ _ _ aB oM];obtain⟨p,e,ho⟩:=h.inn j oM oM;rw[e,pRow];refine⟨p,rfl,?_⟩;rw[hk j aB oM];refine ho.of_heap fun k hk=>hb k (h.si j oM k ?_) (ho.lt k hk).2;rw[e,pRow];exact hk
 ·obtain⟨q1,q2⟩:=hp i hi;obtain⟨r1,r2⟩:=hp j hj;rw[q2,r2];exact h.sep i j q1 r1 aF k
 ·obtain⟨q1,q2⟩:=hp j hj;rw[q2]at e2;exact hlo k e3 (h.si j q1 k e2)
 obtain⟨q1,q2⟩:=hp j hj;rw[q2]at e;exact .inl (h.si j q1 k e)
theorem PM.kindsF{w:Wd}{S:Nat->Prop}{b:Nat}{u v iv bv dv pv:Va}{m:MD}(h:PM w S b u v iv bv dv pv m):∃ts,ts.length=m.6.length/\(∀(j:Nat)(hj:j<ts.length)(aC:j<m.6.length),KDep.O w ts[j] m.ds[j])/\NOwns w 42 11 pv ts /\
  (∀(W:Wd)(bf:Va),Chg (fun k=>dv.ownBlock=some k) w W->NOwns W 42 11 bf ts->(∀k,bf.ownBlock=some k->¬S k)->RN KDep W bf m.ds) /\
  ∀(w2:Wd)(lv:Va)(aF:List Bool)(aB:List Dp),Chg (fun k=>dv.ownBlock=some k) w w2->ROwns w2 0 4 dv (fc aF)->aB.length=m.6.length->(∀(i:Nat)(h1:i<aB.length)(h2:i<m.6.length),aB[i].bl=m.ds[i].bl)->NOwns w2 42 11 lv (rowsW aB ts)->(∀k,lv.ownBlock=some k->¬S k/\k≠b) ->
   PM (w2.setCell ⟨b,5,none⟩ lv) (fun k=>S k\/lv.ownBlock=some k) b u v iv bv dv lv { m with fs:=aF,ds:=aB }:=by
 obtain⟨S1,S2,S3,ts,k1,k2,k3,k4,k5,k6,k7⟩:=h.own;have nb:∀k,S k->k≠b:=fun k hk e=>h.nb (e ▸ hk);refine⟨ts,k4.len,fun j hj aC=>k4.inn j hj aC,k4.row,fun W bf hc hn aL=>?_,fun w2 lv aF aB hc hr hl hk h3 h4=>?_⟩
 ·have un:∀k,S3 k->k<w.1.size->W.1[k]?=w.1[k]?:=fun k hk aD=>hc.block k aD fun e=>k6 k (k3 k e) hk;have G:GN KDep W (fun k=>S3 k\/bf.ownBlock=some k) bf ts m.ds:=⟨k4.len,hn,fun j hj aC=>KDep.heap (k4.inn j hj aC) fun k hk=>un k (k4.si j hj k hk) (KDep.lt (k4.inn j hj aC) k hk),k4.sep,fun j hj k e2 e3=>aL k e3 (k7 k (.inr (.inr (k4.si j hj k e2)))),fun k e=>.inr e,fun j hj k e=>.inl (k4.si j hj k e)⟩
  exact G.rn
 have aG:∀k,dv.ownBlock=some k->k≠b:=fun k hk=>nb k (k7 k (.inr (.inl (k3 k hk))));have aK:AtC w2 b 33 #[u,v,iv,bv,dv,pv,nI m.nx]:=(hc.block b h.box.lt fun e=>aG b e rfl).trans h.box;have G:=k4.kinds hl hk h3 (fun k hk e=>(h4 k hk).1 (k7 k (.inr (.inr e)))) (fun k hk aD=>hc.block k aD fun e=>k6 k (k3 k e) hk);have aH:∀k,lv.ownBlock=some k->k≠b:=fun k hk=>(h4 k hk).2;have un:∀k,k≠b->(w2.setCell ⟨b,5,none⟩ lv).heap[k]?=w2.1[k]?:=fun k hk=>hO_ _ ⟨b,5,none⟩ k _ hk;refine⟨aK.set 5 lv,⟨S1,S2,fun k=>S3 k\/lv.ownBlock=some k,_,k1.of_heap fun k hk aD=>(un k (nb k (k7 k (.inl hk)))).trans (hc.block k aD fun e=>(k5 k hk).1 (k3 k e)),hr.of_heap fun k hk=>un k (aG k hk),k3,G.of_heap fun k hk _=>un k (hk.elim (fun e=>nb k (k7 k (.inr (.inr e)))) (aH k)),fun k hk=>⟨(k5 k hk).1,fun e=>?_⟩,fun k hk e=>?_,fun k hk=>?_⟩,fun e=>?_⟩
 ·exact cQ138
 ·exact cQ130
 ·exact cQ85
 rcases e with e|e
 ·exact h.nb e
 exact(h4 b e).2 rfl
end Kit
open Go.RowKit Kit
theorem zm0(S:Nat->Prop)(b:Nat)(x:Int)(u v iv bv dv pv:Va)(m:MD)(w:Wd)(h:PM w S b u v iv bv dv pv m):
  Calls Tryz.prog 197 #[.pointer (aA b 0),nI x] w fun e w'=>e=.returned (.tuple #[])/\PM w' S b u v iv bv dv pv (markU x m)/\Chg (fun k=>dv.ownBlock=some k) w w':=by
 obtain⟨a1,c1,a2,c2,a3,c3,a4,c4,a5,c5,a6,c6,rfl,rfl,rfl,rfl,rfl,rfl⟩:=h.form;have x4:=h.box.c4;have H:=hJ h;by_cases h0:0<=x
 ·have H0:=hJ h0;by_cases h1:x<(m.5.length:Int)
  ·have H1:=hJ h1;obtain⟨n,rfl⟩:∃n:Nat,x=(n:Int):=⟨x.toNat,oM⟩
   have hn:n<m.5.length:=oM
   obtain⟨g,cap,e1,k1,k2,k3,k4⟩:=h.ownF.at n (by rw[zad];exact hn);rw[zad]at e1;simp only[vJ,true_and]at e1;obtain⟨rfl,rfl⟩:=e1;have aB:w.cell? ⟨g,n,none⟩=some (.bool m.fs[n]):=k1.trans (by simp[fc,hn]);generalize m.fs[n]=t0 at aB;have HS:=hJ (ROwns.stored (l:=fc m.fs) (g:=g) (cap:=c5) (by rw[zad];exact h.ownF) n (.bool true));have hd:=dT h1;clear k1 h;go_enter Tryz.func197,Tryz.ntmps197
   go_wp2
   go_end0
   have q:=HS.o.1;have q2:=HS.o.2;rw[zad,←zcl]at q;have e:markU (n:Int) m={ m with fs:=m.fs.set n true }:=by unfold markU;rw[if_pos ⟨H0.o,H1.o⟩];rfl
   rw[e];exact⟨rfl,H.out.turnF q q2,Chg.of_grown q2 fun k hk=>hk⟩
  exact cQ58
 exact cQ72
namespace Kit
variable {Z : ZT}
def RI(w wr:Wd)(S:Nat->Prop)(b:Nat)(u v iv bv dv pv:Va)(m:MD)(v9:Va)(ts:List Row)(n9:Nat):Prop :=
 ∃fs':List Bool,PM wr S b u v iv bv dv pv { m with fs:=fs' }/\fs'.length=m.5.length/\NOwns wr 42 11 v9 ts/\Chg (fun k=>dv.ownBlock=some k) w wr/\n9<=wr.1.size
namespace RI
variable {w wr w' : World} {S : Nat -> Prop} {b : Nat} {u v iv bv dv pv : Value} {m : MD} {v9 : Value} {ts : List Row} {n9 : Nat}
theorem below(h:RI w wr S b u v iv bv dv pv m v9 ts n9)(hb:Below wr.1.size wr w'):RI w w' S b u v iv bv dv pv m v9 ts n9:=by
 obtain⟨fs',h1,h2,h3,h4,h5⟩:=h;exact⟨fs',h1.below hb,h2,h3.of_heap fun k hk=>hb.block k (h3.lt k hk),h4.trans (Chg.of_below hb),Nat.le_trans h5 hb.size⟩
theorem set(h:RI w wr S b u v iv bv dv pv m v9 ts n9){g i:Nat}{x:Value}(h1:¬S g)(h2:g≠b)(h3:v9.ownBlock≠some g)(h4:w.1.size<=g):RI w (wr.setCell ⟨g,i,none⟩ x) S b u v iv bv dv pv m v9 ts n9:=by
 obtain⟨fs',k1,k2,k3,k4,k5⟩:=h;have un:∀k,k≠g->(wr.setCell ⟨g,i,none⟩ x).heap[k]?=wr.1[k]?:=fun k hk=>heap_setCell_other _ ⟨g,i,none⟩ k _ hk;refine⟨fs',⟨k1.box.other (Ne.symm h2) _,k1.own.of_heap fun k hk _=>un k (fun e=>h1 (e ▸ hk)),k1.nb⟩,k2,k3.of_heap fun k hk=>un k (fun e=>h3 (e ▸ hk)),⟨k4.os,k4.tape,k4.output,by have:=k4.size;simp;omega,fun k hk hn=>(un k oM).trans (k4.block k hk hn)⟩,by simp;exact k5⟩
end RI
end Kit
variable {Z : ZT}
theorem zh5(w wr:Wd)(S:Nat->Prop)(b:Nat)(x:Int)(u v iv bv dv pv:Va)(m:MD)(v9:Va)(ts:List Row)(n9:Nat)(h:RI w wr S b u v iv bv dv pv m v9 ts n9)(hd:∀k,dv.ownBlock=some k->v9.ownBlock≠some k):
  Calls Tryz.prog 197 #[.pointer (aA b 0),nI x] wr fun e w'=>e=.returned (.tuple #[])/\RI w w' S b u v iv bv dv pv m v9 ts n9/\Chg (fun k=>dv.ownBlock=some k) wr w':=by
 obtain⟨fs',h1,h2,h3,h4,h5⟩:=h;refine(zm0 S b x _ _ _ _ _ _ _ wr h1).mono ?_;rintro e w' ⟨rfl,P2,C2⟩;refine⟨rfl,?_,C2⟩;have hn:=h3.of_heap fun k hk=>C2.block k (h3.lt k hk) fun e=>hd k e hk;unfold markU at P2
 split at P2
 ·exact⟨_,P2,by rw[lS];exact h2,hn,h4.trans C2,lT h5 C2.size⟩
 ·exact⟨fs',P2,h2,hn,h4.trans C2,lT h5 C2.size⟩
theorem zm1(T:Nat->Prop)(b:Nat)(w:Wd)(h:BT Z w T b)(hT:∀k,w.1.size<=k->T k):
  Calls Tryz.prog 215 #[.pointer (aA b 0)] w fun e w'=>e=.returned (.tuple #[])/\BT Z w' T b/\Chg T w w':=by
 obtain⟨S0,u,v,iv,bv,dv,pv,m,hP0,hS0,hTb,hm⟩:=h;have hP:=hP0.bound;obtain⟨S,hSd⟩:∃S:Nat->Prop,S=fun k=>S0 k/\k<w.1.size:=⟨_,rfl⟩
 rw[←hSd]at hP;have HSS:Hid (∀k,S k->T k/\k<w.1.size):=fun k hk=>by rw[hSd]at hk;exact⟨hS0 k hk.1,hk.2⟩
 clear hSd hP0 hS0;obtain⟨a1,c1,a2,c2,a3,c3,a4,c4,a5,c5,a6,c6,rfl,rfl,rfl,rfl,rfl,rfl⟩:=hP.form;obtain⟨ts,hln,hro,hnt,hrn,hkf⟩:=hP.kindsF;have x5:=hP.box.c5;have x5a:=(hP.alloc (.cells #[] 42)).box.c5;have HP:=hJ hP;have HM:=hJ hm;have HRO:=hJ hro;have HNT:=hJ hnt;have HRN:=hJ hrn;have HKF:=hJ hkf;have HBL:Hid (b<w.1.size/\T b):=⟨hP.box.lt,hTb⟩
 have HTT:=hJ hT;have hdl:=hm.l;have HDV:=hJ hP.soF;have HFL:Hid (ts.flatten.length=m.6.length*11):=by have:=zbx hnt.1;rw[hln]at this;exact this
 have HON:Hid (∀u∈ts.flatten,u.oneCell'=true):=fun u hu=>by
  obtain⟨t,ht,hu⟩:=List.mem_flatten.mp hu;obtain⟨i,hi,rfl⟩:=List.mem_iff_getElem.mp ht;exact row_one (hro i hi oM) u hu
 have HRC:Hid (RC (w.alloc (.cells #[] 42)) (.slice a6 m.6.length c6) m.6.length ts.flatten):=by
  have:=(hnt.of_heap fun k hk=>((bF _ w).alloc nR (.cells #[] 42)).block k (hnt.lt k hk)).rc;rw[hln]at this;exact this
 have HL4:Hid (m.6.length<=100000000000):=by show _<=_;omega
 clear hP hm hro hnt hrn hkf hT hTb;go_enter Tryz.func215,Tryz.ntmps215
 go_wp2_with (at_builtin;refine zai _ rfl _ _ 31 rfl w.1.size 42 Tryz.u31 _ 11 104 Tryz.i42 rfl dC dC (.slice (aA w.1.size 0) 0 0) rfl (zjo w 42 11) sI _ rfl m.6.length ts.flatten HRC.o HFL.o HON.o HL4.o ?_;intro v9 w9 R1 R2 R3;have HR1:=hJ R1;have HR2:=hJ R2;clear R1 R2 R3)
 have hN9:NOwns w9 42 11 v9 ts:=⟨HNT.o.1,by have:=HR1.o;rw[←hln]at this;exact World.ownsRow.mono this (zL _)⟩
 have hb9:Bw w w9:=((bF _ w).alloc nR (.cells #[] 42)).grown HR2.o sI (fun k hk=>by simp[Value.ownBlock]at hk;omega);have hv9:∀k,v9.ownBlock=some k->w.1.size<=k:=fun k hk=>(World.ownsRow.lt HR1.o k hk).1;obtain⟨ba,bc,rfl,-⟩:=hN9.form;have HLN:=hJ hln;rw[hln];rw[hln]at hN9 hv9;clear hln;have HV9:=hJ hv9;have HI0:Hid (RI w w9 S b (.slice a1 m.1.length c1) (.slice a2 m.2.length c2) (.slice a3 m.3.length c3) (.slice a4 m.4.length c4) (.slice a5 m.5.length c5) (.slice a6 m.6.length c6) m (.slice ba m.6.length bc) ts w9.1.size):=⟨m.fs,HP.o.below hb9,rfl,hN9,Chg.of_below hb9,Nat.le_refl _⟩
 have h9:=hb9.size;clear hN9 hb9 hv9 HR1 HR2 HRC HFL HON HL4 x5 x5a;go_loopw [4,3] (fun i lv wr=>∃(q:Nat)(ds':List Dp),q<=m.6.length/\i=.int .i64 q/\Hid (NOwns wr 42 11 lv (rowsW ds' ts)/\ds'.length=q/\(∀(i:Nat)(h1:i<ds'.length)(h2:i<m.6.length),ds'[i].bl=m.ds[i].bl/\AlkD ds'[i] m.ds[i])/\(∀d∈ds',DOk d)/\(∀k,lv.ownBlock=some k->w9.1.size<=k)/\RI w wr S b (.slice a1 m.1.length c1) (.slice a2 m.2.length c2) (.slice a3 m.3.length c3) (.slice a4 m.4.length c4) (.slice a5 m.5.length c5) (.slice a6 m.6.length c6) m (.slice ba m.6.length bc) ts w9.1.size)) (fun i lv _=>m.6.length-(intOf i).toNat)
 case atStart =>
  refine⟨0,[],zL _,rfl,?_,rfl,fun i h1=>by simp at h1,fun d hd=>by simp at hd,?_,HI0.o.below (bR.alloc nR _)⟩
  ·have:=NOwns.of_at (n:=11) (ts:=[]) (AtC.new w9 42 #[]) rfl (Even.nil _) (zL _);simpa[rowsW]using this
  ·intro k hk;simp[Value.ownBlock]at hk;omega
 case round =>
  obtain⟨q,ds',hq,rfl,HR⟩:=hrel;by_cases hlt:q<m.6.length
  ·obtain⟨fs',-,-,hN,-,-⟩:=HR.o.2.2.2.2.2;obtain⟨g,cap,ei,hcell,-,hg,-⟩:=hN.at q (by rw[HLN.o];exact hlt);rw[HLN.o]at ei;simp only[vJ,true_and]at ei;obtain⟨rfl,rfl⟩:=ei;obtain⟨p,hrow,hpo⟩:=HRO.o q (by rw[HLN.o];exact hlt) hlt;have hst:=zk2 ds' ts;have nn:=DCells.of fun i hi=>by rw[←hrow];exact hcell i hi
   have hdk:=HM.o.dd _ (gM_ hlt);have hsn:∀d:Dp,rowsW (ds'++[d]) ts=rowsW ds' ts++[d.row p]:=fun d=>by
    rw[hst d q HR.o.2.1 (by rw[HLN.o];exact hlt),hrow,pRow]
   have hbl:∀d:Dp,d.bl=m.ds[q].bl->AlkD d m.ds[q]->∀(i:Nat) (h1:i<(ds'++[d]).length) (h2:i<m.6.length),(ds'++[d])[i].bl=m.ds[i].bl/\AlkD (ds'++[d])[i] m.ds[i]:=fun d hd ha i h1 h2=>by
    by_cases hi:i<ds'.length
    ·rw[gL_ hi];exact HR.o.2.2.1 i hi h2
    ·have e:i=q:=by have:=HR.o.2.1;simp at h1;omega
     subst e;rw[gR_ oM];simp only[List.getElem_singleton];exact⟨hd,ha⟩
   obtain⟨X,hX⟩:∃X,m.ds[q]=X:=⟨_,rfl⟩
   rw[hX]at nn hpo hdk hbl;obtain⟨id,kd,io,pt,bk,sl,nm,bt,ot,af,bl⟩:=X;obtain⟨pa,pc,rfl⟩:=hpo.rints.form;simp only[DCells]at nn;obtain⟨n0,n1,n2,n3,n4,n5,n6,n7,n8,n9,n10⟩:=nn;have HSN:=hJ hsn;have HBLS:=hJ hbl;have HDK:=hJ hdk;have q0:(0:Int)<=(q:Int):=oM
   have q1:(q:Int)<(m.6.length:Int):=oM
   have HZ:Hid (w9.1.size<=wr.1.size):=by obtain⟨-,-,-,-,-,z⟩:=HR.o.2.2.2.2.2;exact z
   have HLV:=hJ HR.o.1.lt;have HV9o:=hJ hg;clear hN hcell hg hrow hpo hst hdk hsn hbl hX;go_upto_region 6 with fail
   generalize hbd:wr.1.size=bd at*;have HBD:=hJ hbd;have HIA:Hid (RI w (wr.alloc (.cells (K7 id kd io pt bk sl nm bt ot af pa bl.length pc) 42)) S b (.slice a1 m.1.length c1) (.slice a2 m.2.length c2) (.slice a3 m.3.length c3) (.slice a4 m.4.length c4) (.slice a5 m.5.length c5) (.slice a6 m.6.length c6) m (.slice (aA g 0) m.6.length bc) ts w9.1.size/\AtC (wr.alloc (.cells (K7 id kd io pt bk sl nm bt ot af pa bl.length pc) 42)) bd 42 (K7 id kd io pt bk sl nm bt ot af pa bl.length pc)/\NOwns (wr.alloc (.cells (K7 id kd io pt bk sl nm bt ot af pa bl.length pc) 42)) 42 11 u3 (rowsW ds' ts)):=by
    have b1:Bw wr (wr.alloc (.cells (K7 id kd io pt bk sl nm bt ot af pa bl.length pc) 42)):=(bF _ wr).alloc nR _;refine⟨HR.o.2.2.2.2.2.below b1,?_,HR.o.1.of_heap fun k hk=>b1.block k (HR.o.1.lt k hk)⟩;rw[←HBD.o];exact AtC.new wr 42 _
   have HLW:=hJ HR.o.2.2.2.2.1;have HDS:=hJ (aI HR.o.2.1 (aI HR.o.2.2.2.1 HR.o.2.2.1));clear n0 n1 n2 n3 n4 n5 n6 n7 n8 n9 n10 HR hbd;generalize wr.alloc (.cells (K7 id kd io pt bk sl nm bt ot af pa bl.length pc) 42)=wA at*;obtain⟨-,d1,d2,-,-,-,-,d7,d8⟩:=HIA.o.2.1.k9;have dz:=HIA.o.2.1.frozen 1;go_cut [33]from 13 to 67 (fun c wx=>(∃r,c=.bool r/\(r=true->kd=1))/\wx=wA)
   case first =>
    by_cases hk1:kd=1
    ·subst hk1
     cases bt<;>cases ot<;>(go_wp2_with fail;go_meet;exact⟨⟨_,rfl,sI⟩,rfl⟩)
    ·have hk1b:(kd==1)=false:=by simp[hk1]
     exact cQ114
   case rest =>
    obtain⟨⟨r,rfl,hr1⟩,rfl⟩:=hcut;go_upto_if 33 with fail
    go_cut []from 13 to 67 (fun wx=>∃k2,RI w wx S b (.slice a1 m.1.length c1) (.slice a2 m.2.length c2) (.slice a3 m.3.length c3) (.slice a4 m.4.length c4) (.slice a5 m.5.length c5) (.slice a6 m.6.length c6) m (.slice (some ⟨g,0,none⟩) m.6.length bc) ts w9.1.size/\AtC wx bd 42 (K7 id k2 io pt bk sl nm bt ot af pa bl.length pc)/\NOwns wx 42 11 u3 (rowsW ds' ts)/\(k2=5↔kd=5))
    case first =>
     cases r
     ·go_wp2_with fail
      go_meet
      exact⟨kd,HIA.o.1,HIA.o.2.1,HIA.o.2.2,Iff.rfl⟩
     ·have HIB:Hid (RI w (wc.setCell ⟨bd,1,none⟩ (nI 6)) S b (.slice a1 m.1.length c1) (.slice a2 m.2.length c2) (.slice a3 m.3.length c3) (.slice a4 m.4.length c4) (.slice a5 m.5.length c5) (.slice a6 m.6.length c6) m (.slice (aA g 0) m.6.length bc) ts w9.1.size/\AtC (wc.setCell ⟨bd,1,none⟩ (nI 6)) bd 42 (K7 id 6 io pt bk sl nm bt ot af pa bl.length pc)/\NOwns (wc.setCell ⟨bd,1,none⟩ (nI 6)) 42 11 u3 (rowsW ds' ts)):=by
       have hz:=HZ.o;have hbb:=HBL.o.1;exact⟨HIA.o.1.set (fun e=>by have:=(HSS.o _ e).2;omega) oM (fun e=>by simp only[Value.ownBlock,oJ]at e;have:=HV9o.o;omega) oM,HIA.o.2.1.set 1 _,HIA.o.2.2.of_heap fun k hk=>hO_ _ ⟨bd,1,none⟩ k _ (by have:=HLV.o k hk;show k≠bd;omega)⟩
      have e2:=HIB.o.2.1.c2;obtain⟨U,hU⟩:∃U,uoI io=U:=⟨_,rfl⟩
      have CU:Hid (∀W,Calls Tryz.prog 198 #[nI io] W fun e w'=>e=.returned (nI U)/\w'=W):=fun W=>by rw[←hU];exact zbp _ W
      clear hU;go_wp2_with fail
      generalize wc.setCell ⟨bd,1,none⟩ (nI 6)=wB at*;refine(CU.out _).mono ?_;rintro e w3 ⟨rfl,hw3⟩;rw[hw3];clear hw3 w3;go_wp2_with fail
      refine(zh5 w wB S b U _ _ _ _ _ _ m _ ts w9.1.size HIB.o.1 (fun k hk=>by have:=(HSS.o k (HDV.o k hk)).2;exact fun e=>by have:=HV9.o k e;omega)).mono ?_;rintro e w4 ⟨rfl,I4,C4⟩;have HIC:Hid (∃k2,RI w w4 S b (.slice a1 m.1.length c1) (.slice a2 m.2.length c2) (.slice a3 m.3.length c3) (.slice a4 m.4.length c4) (.slice a5 m.5.length c5) (.slice a6 m.6.length c6) m (.slice (aA g 0) m.6.length bc) ts w9.1.size/\AtC w4 bd 42 (K7 id k2 io pt bk sl nm bt ot af pa bl.length pc)/\NOwns w4 42 11 u3 (rowsW ds' ts)/\(k2=5↔kd=5)):=by
       have hz:=HZ.o;have hdv:∀k,(Value.slice a5 m.5.length c5).ownBlock=some k->k<w.1.size:=fun k hk=>(HSS.o k (HDV.o k hk)).2;exact⟨6,I4,(C4.block bd HIB.o.2.1.lt (fun e=>by have:=hdv _ e;omega)).trans HIB.o.2.1,HIB.o.2.2.of_heap fun k hk=>C4.block k (HIB.o.2.2.lt k hk) (fun e=>by have:=hdv _ e;have:=HLW.o k hk;omega),by have:=hr1 sI;omega⟩
      clear I4 C4;go_wp2_with fail
      go_meet
      exact HIC.o
    case rest =>
     obtain⟨k2,hIc,hAc,hNc,hk5⟩:=hcut;obtain⟨wD,rfl⟩:∃wD,wD=wc:=⟨wc,rfl⟩
     have HIA2:=hJ (aI hIc (aI hAc hNc));clear hIc hAc hNc HIA d1 d7 d8 d2 dz;obtain⟨-,d1,-,-,d4,-,-,d7,d8⟩:=HIA2.o.2.1.k9;have dz:=HIA2.o.2.1.frozen 1;have HRN2:Hid (RN KDep wD (.slice (aA g 0) m.6.length bc) m.ds):=by
      obtain⟨fs2,-,-,hN,hC,-⟩:=HIA2.o.1;exact HRN.o wD _ hC hN (fun k hk e=>by have:=(HSS.o k e).2;have:=HV9.o k hk;omega)
     go_upto_region 9 with fail
     go_cut [57]from 13 to 67 (fun c wx=>(∃r,c=.bool r/\(r=true->k2=2))/\wx=wD)
     case first =>
      by_cases hk2:k2=2
      ·subst hk2
       cases bt<;>cases ot<;>(go_wp2_with (go_at_call 224;refine(ziu _ m.ds bk _ HRN2.o oM).mono ?_;rintro e w7 ⟨⟨r7,rfl⟩,rfl⟩);go_meet;exact⟨⟨_,rfl,sI⟩,rfl⟩)
      ·have hk2b:(k2==2)=false:=by simp[hk2]
       exact cQ114
     case rest =>
      obtain⟨⟨r,rfl,hr2⟩,rfl⟩:=hcut;clear HRN2;go_upto_if 57 with fail
      go_cut []from 13 to 67 (fun wx=>∃k3,RI w wx S b (.slice a1 m.1.length c1) (.slice a2 m.2.length c2) (.slice a3 m.3.length c3) (.slice a4 m.4.length c4) (.slice a5 m.5.length c5) (.slice a6 m.6.length c6) m (.slice (some ⟨g,0,none⟩) m.6.length bc) ts w9.1.size/\AtC wx bd 42 (K7 id k3 io pt bk sl nm bt ot af pa bl.length pc)/\NOwns wx 42 11 u3 (rowsW ds' ts)/\(k3=5↔kd=5))
      case first =>
       cases r
       ·go_wp2_with fail
        go_meet
        exact⟨k2,HIA2.o.1,HIA2.o.2.1,HIA2.o.2.2,hk5⟩
       ·have HIB:Hid (RI w (wc.setCell ⟨bd,1,none⟩ (nI 3)) S b (.slice a1 m.1.length c1) (.slice a2 m.2.length c2) (.slice a3 m.3.length c3) (.slice a4 m.4.length c4) (.slice a5 m.5.length c5) (.slice a6 m.6.length c6) m (.slice (aA g 0) m.6.length bc) ts w9.1.size/\AtC (wc.setCell ⟨bd,1,none⟩ (nI 3)) bd 42 (K7 id 3 io pt bk sl nm bt ot af pa bl.length pc)/\NOwns (wc.setCell ⟨bd,1,none⟩ (nI 3)) 42 11 u3 (rowsW ds' ts)):=by
         have hz:=HZ.o;have hbb:=HBL.o.1;exact⟨HIA2.o.1.set (fun e=>by have:=(HSS.o _ e).2;omega) oM (fun e=>by simp only[Value.ownBlock,oJ]at e;have:=HV9o.o;omega) oM,HIA2.o.2.1.set 1 _,HIA2.o.2.2.of_heap fun k hk=>hO_ _ ⟨bd,1,none⟩ k _ (by have:=HLV.o k hk;show k≠bd;omega)⟩
        have e4:=HIB.o.2.1.c4;obtain⟨U,hU⟩:∃U,uoB bk=U:=⟨_,rfl⟩
        have CU:Hid (∀W,Calls Tryz.prog 203 #[nI bk] W fun e w'=>e=.returned (nI U)/\w'=W):=fun W=>by rw[←hU];exact zbl _ W
        clear hU;go_wp2_with fail
        generalize wc.setCell ⟨bd,1,none⟩ (nI 3)=wB at*;refine(CU.out _).mono ?_;rintro e w3 ⟨rfl,hw3⟩;rw[hw3];clear hw3 w3;go_wp2_with fail
        refine(zh5 w wB S b U _ _ _ _ _ _ m _ ts w9.1.size HIB.o.1 (fun k hk=>by have:=(HSS.o k (HDV.o k hk)).2;exact fun e=>by have:=HV9.o k e;omega)).mono ?_;rintro e w4 ⟨rfl,I4,C4⟩;have HIC:Hid (∃k2,RI w w4 S b (.slice a1 m.1.length c1) (.slice a2 m.2.length c2) (.slice a3 m.3.length c3) (.slice a4 m.4.length c4) (.slice a5 m.5.length c5) (.slice a6 m.6.length c6) m (.slice (aA g 0) m.6.length bc) ts w9.1.size/\AtC w4 bd 42 (K7 id k2 io pt bk sl nm bt ot af pa bl.length pc)/\NOwns w4 42 11 u3 (rowsW ds' ts)/\(k2=5↔kd=5)):=by
         have hz:=HZ.o;have hdv:∀k,(Value.slice a5 m.5.length c5).ownBlock=some k->k<w.1.size:=fun k hk=>(HSS.o k (HDV.o k hk)).2;exact⟨3,I4,(C4.block bd HIB.o.2.1.lt (fun e=>by have:=hdv _ e;omega)).trans HIB.o.2.1,HIB.o.2.2.of_heap fun k hk=>C4.block k (HIB.o.2.2.lt k hk) (fun e=>by have:=hdv _ e;have:=HLW.o k hk;omega),by have:=hr2 sI;omega⟩
        clear I4 C4;go_wp2_with fail
        go_meet
        exact HIC.o
      case rest =>
       obtain⟨k3,hIc,hAc,hNc,hk53⟩:=hcut;obtain⟨wE,rfl⟩:∃wE,wE=wc:=⟨wc,rfl⟩
       clear HIA2 d1 d7 d8 d4 dz;obtain⟨d0,d1,d2,d3,d4,d5,d6,d7,d8,d9,d10⟩:=AtC.elv hAc;have HT:Hid (NOwns (wE.alloc (.cells (K7 id k3 io pt bk sl nm bt ot af pa bl.length pc) 42)) 42 11 u3 (rowsW ds' ts)):=hNc.of_heap fun k hk=>((bF _ wE).alloc nR _).block k (hNc.lt k hk);have HTL:Hid ((rowsW ds' ts).length<=100000000000):=by
        have:=HDS.o.1;show _<=_;rw[zcy];omega
       have HSTEP:Hid (∀v' w',NOwns w' 42 11 v' (rowsW ds' ts++[(⟨id,k3,io,pt,bk,sl,nm,bt,ot,af,bl⟩:Dp).row (.slice pa bl.length pc)])->(wE.alloc (.cells (K7 id k3 io pt bk sl nm bt ot af pa bl.length pc) 42)).grownBy w' u3.ownBlock->(∀k,v'.ownBlock=some k->u3.ownBlock=some k\/(wE.alloc (.cells (K7 id k3 io pt bk sl nm bt ot af pa bl.length pc) 42)).1.size<=k)->NOwns w' 42 11 v' (rowsW (ds'++[(⟨id,k3,io,pt,bk,sl,nm,bt,ot,af,bl⟩:Dp)]) ts)/\(ds'++[(⟨id,k3,io,pt,bk,sl,nm,bt,ot,af,bl⟩:Dp)]).length=q+1/\(∀(i:Nat) (h1:i<(ds'++[(⟨id,k3,io,pt,bk,sl,nm,bt,ot,af,bl⟩:Dp)]).length) (h2:i<m.6.length),(ds'++[(⟨id,k3,io,pt,bk,sl,nm,bt,ot,af,bl⟩:Dp)])[i].bl=m.ds[i].bl/\AlkD (ds'++[(⟨id,k3,io,pt,bk,sl,nm,bt,ot,af,bl⟩:Dp)])[i] m.ds[i])/\(∀d∈ds'++[(⟨id,k3,io,pt,bk,sl,nm,bt,ot,af,bl⟩:Dp)],DOk d)/\(∀k,v'.ownBlock=some k->w9.1.size<=k)/\RI w w' S b (.slice a1 m.1.length c1) (.slice a2 m.2.length c2) (.slice a3 m.3.length c3) (.slice a4 m.4.length c4) (.slice a5 m.5.length c5) (.slice a6 m.6.length c6) m (.slice (aA g 0) m.6.length bc) ts w9.1.size):=fun v' w' j1 j2 j3=>by
        have hz:w9.1.size<=wE.1.size:=by obtain⟨-,-,-,-,-,z⟩:=hIc;exact z
        refine⟨by rw[HSN.o];exact j1,by have:=HDS.o.1;simp;omega,HBLS.o _ rfl ⟨hk53,fun _=>⟨rfl,rfl⟩⟩,fun d hd=>?_,fun k hk=>?_,?_⟩
        ·rcases List.mem_append.mp hd with e|e
         ·exact HDS.o.2.1 d e
         ·simp only[mN,nN,or_false]at e;subst e;have:=HDK.o;exact⟨⟨this.io,this.pt,this.bk,this.sl,this.bl,this.bn,this.nm⟩,this.id⟩
        ·rcases j3 k hk with e|e
         ·exact HLW.o k e
         ·simp at e;omega
        ·obtain⟨fs2,z1,z2,z3,z4,z5⟩:=hIc.below ((bF _ wE).alloc nR (.cells (K7 id k3 io pt bk sl nm bt ot af pa bl.length pc) 42));have hw9:=h9;have un:∀k,k<w9.1.size->w'.1[k]?=(wE.alloc (.cells (K7 id k3 io pt bk sl nm bt ot af pa bl.length pc) 42)).1[k]?:=fun k hk=>j2.block k sO fun e=>by have:=HLW.o k e.symm;omega
         have hbb:=HBL.o.1;refine⟨fs2,⟨(un b oM).trans z1.box,z1.own.of_heap fun k hk _=>un k (by have:=(HSS.o k hk).2;omega),z1.nb⟩,z2,z3.of_heap fun k hk=>un k (by have:=HI0.o;obtain⟨-,-,-,zz,-,-⟩:=this;exact zz.lt k hk),⟨j2.os.trans z4.os,j2.tape.trans z4.tape,j2.output.trans z4.output,lT z4.size j2.size,fun k hk hn=>(un k oM).trans (z4.block k hk hn)⟩,lT z5 j2.size⟩
       have HAA:=hJ hAc;clear hIc hAc hNc HDS HDK HBLS HSN;go_wp2_with (at_builtin;refine wS fun K' hK'=>?_;refine zap _ rfl (.tmp 64) (.tmp 66) 31 rfl 42 Tryz.u31 _ 11 104 Tryz.i42 rfl dC dC u3 _ rfl HT.o wE.1.size ((⟨id,k3,io,pt,bk,sl,nm,bt,ot,af,bl⟩:Dp).row (.slice pa bl.length pc)) rfl rfl (fun i u hu=>(AtC.new wE 42 (K7 id k3 io pt bk sl nm bt ot af pa bl.length pc)).at_ i u hu) (by simp[Dp.row,Value.oneCell']) HTL.o ?_;intro v12 w12 T12 G12 V12;refine hK' _ _ ?_;have HR12:=hJ (HSTEP.o v12 w12 T12 G12 V12);clear T12 G12 V12 hK')
       go_roundw
       case rel=>exact⟨q+1,_,oM,gK,HR12.o⟩
       case measure=>simp[intOf];omega
  ·obtain⟨hn,hd1,hdb,hdo,hlo,fs',P',hfl,hN',hC,hz⟩:=HR.o;have hq2:q=m.6.length:=oM
   obtain⟨ga,gc,rfl,-⟩:=hn.form;have hbb:=HBL.o;have hrl:(rowsW ds' ts).length=q:=by rw[zcy,HLN.o];omega
   rw[hrl]at hn hlo;have HFIN:Hid (BT Z (wr.setCell ⟨b,5,none⟩ (.slice ga q gc)) T b/\Chg T w (wr.setCell ⟨b,5,none⟩ (.slice ga q gc))):=by
    have pk:=HKF.o wr (.slice ga q gc) fs' ds' hC P'.ownF oM (fun i h1 h2=>(hdb i h1 h2).1) hn (fun k hk=>⟨fun e=>by have:=(HSS.o k e).2;have:=hlo k hk;omega,by have:=hlo k hk;omega⟩);refine⟨⟨_,_,_,_,_,_,_,_,pk,fun k hk=>?_,hbb.2,⟨HM.o.x,HM.o.y,HM.o.i,HM.o.ii,HM.o.b,HM.o.bb,by rw[←HM.o.f];exact hfl,by show ds'.length<=40;omega,hdo,HM.o.nx,HM.o.k.of rfl (zgv ds' m.ds oM (fun i h1 h2=>(hdb i h1 h2).2)) rfl⟩⟩,(hC.mono fun k hk=>(HSS.o k (HDV.o k hk)).1).setCell hbb.2 _⟩;rcases hk with hk|hk
    ·exact(HSS.o k hk).1
    ·exact HTT.o k (by have:=hlo k hk;omega)
   have z5:=P'.box.c5;have zf:=P'.box.frozen 5;rw[hrl];clear hn hdb hdo hlo P' hN' hC HR hrl hd1 hfl hq2;go_wp2
   go_end0
   exact⟨rfl,HFIN.o⟩
namespace Kit
variable {Z : ZT}
def stepS(p:Int)(xs:List Sl)(d:Dp):List Sl:=if d.bk=p/\d.sl.toNat<xs.length then(if d.kd=2 then xs.set d.sl.toNat (⟨#[]⟩,0)else if d.kd=4/\0<d.af then xs.set d.sl.toNat (d.nm,d.io)else xs)else xs
def imgS(p:Int)(ds:List Dp)(ss:List Sl):List Sl:=ds.foldl (stepS p) ss
theorem zm3(p:Int)(ds:List Dp)(ss:List Sl)(j:Nat)(h:j<ds.length):imgS p (ds.take (j+1)) ss=stepS p (imgS p (ds.take j) ss) ds[j]:=by
 unfold imgS;rw[←tG h,List.foldl_append];rfl
theorem zh6(p:Int)(xs:List Sl)(d:Dp):(stepS p xs d).length=xs.length:=by
 unfold stepS
 split
 ·split
  ·simp
  split<;>simp
 rfl
theorem zbe(p:Int):∀(ds:List Dp)(ss:List Sl),(imgS p ds ss).length=ss.length
 | [],_=>rfl
 | d::ds,ss=>by
  have:imgS p (d::ds) ss=imgS p ds (stepS p ss d):=rfl;rw[this,zbe p ds,zh6]
def imgB(m:MD)(p:Int):Blk:=if inB p 1 16=true then((m.bs.getD (p-1).toNat (false,[],⟨#[]⟩)).1,imgS p m.ds (m.bs.getD (p-1).toNat (false,[],⟨#[]⟩)).2.1,(m.bs.getD (p-1).toNat (false,[],⟨#[]⟩)).2.2)else(false,[],⟨#[]⟩)
end Kit
variable {Z : ZT}
theorem zk4(u v iv bv dv pv:Va)(m:MD)(i:Int)(w:Wd)(h:MR w u v iv bv dv pv m)(hm:Sh Z m):
  Calls Tryz.prog 209 #[.agg #[u,v,iv,bv,dv,pv,nI m.nx],nI i] w fun e w'=>∃v9,e=.returned (.agg #[.bool (imgB m i).1,v9,.string (imgB m i).2.2])/\SOwns w' w.1.size 90 v9 (imgB m i).2.1/\Bw w w':=by
 obtain⟨a1,c1,a2,c2,a3,c3,a4,c4,a5,c5,a6,c6,rfl,rfl,rfl,rfl,rfl,rfl⟩:=h.form;have HH:=hJ h;have HM:=hJ hm;have bN:=hm.l;have bH:=hJ hm.b;have aH:Hid (∀W,Bw ((w.alloc (.cells (M7 m a1 c1 a2 c2 a3 c3 a4 c4 a5 c5 a6 c6) 33)).alloc (.cells #[.bool false,nZ,eT] 95)) W->Bw w W/\AtC W (w.1.size+1) 95 #[.bool false,nZ,eT]/\AtC W w.1.size 33 (M7 m a1 c1 a2 c2 a3 c3 a4 c4 a5 c5 a6 c6)/\w.1.size+1+1<=W.1.size):=fun W b2=>by
  have k1:=(AtC.new (w.alloc (.cells (M7 m a1 c1 a2 c2 a3 c3 a4 c4 a5 c5 a6 c6) 33)) 95 #[.bool false,nZ,eT]).over b2;have k2:=((AtC.new w 33 (M7 m a1 c1 a2 c2 a3 c3 a4 c4 a5 c5 a6 c6)).over ((bF _ (w.alloc (.cells (M7 m a1 c1 a2 c2 a3 c3 a4 c4 a5 c5 a6 c6) 33))).alloc nR (.cells #[.bool false,nZ,eT] 95))).over b2;have sz:=b2.size;simp at k1 sz;exact⟨(((bF _ w).alloc nR _).alloc sI _).trans (b2.mono sO),k1,k2,sz⟩
 have x2:((w.alloc (.cells (M7 m a1 c1 a2 c2 a3 c3 a4 c4 a5 c5 a6 c6) 33)).alloc (.cells #[.bool false,nZ,eT] 95)).cell? ⟨w.1.size,3,none⟩=some (sL a4 m.4 c4):=(aH.o _ bR).2.2.1.cell 3;have e8:(m.4.length:Int)=16:=by rw[hm.b];rfl
 have aX:=hJ e8;clear h hm e8
 cases hib:inB i 1 16 with
 | false =>
  have hI:imgB m i=(false,[],⟨#[]⟩):=by unfold imgB;rw[hib];rfl
  rw[hI];have aU:=hJ hib;clear hib hI;go_enter Tryz.func209,Tryz.ntmps209
  go_wp2_with fail
  rw[aX.o];refine(zak i 1 16 _).mono ?_;rintro e w3 ⟨rfl,rfl⟩;rw[aU.o];have k1:=aH.o _ bR;obtain⟨s0,s1,s2⟩:=k1.2.1.k3;obtain⟨z0,z1,z2⟩:=k1.2.1.f3;have HF:=hJ k1.1;clear k1 x2;go_wp2;refine bY (v:=.agg #[.bool false,nZ,eT]) (by simp[results,go_sem,s0,s1,s2]) rfl ⟨_,rfl,SOwns.nil _ _ _,HF.o⟩
 | true =>
  have aU:=hJ hib;obtain⟨h1,h2⟩:=zay hib;obtain⟨j,rfl⟩:∃j:Nat,i=(j:Int)+1:=⟨(i-1).toNat,oM⟩
  have hj:j<m.4.length:=by rw[bH.o];omega
  have hI:imgB m ((j:Int)+1)=(m.bs[j].1,imgS ((j:Int)+1) m.ds m.bs[j].2.1,m.bs[j].2.2):=by
   unfold imgB;rw[hib,if_pos rfl,show((j:Int)+1-1).toNat=j by omega];simp[hj]
  rw[hI];clear hib hI;obtain⟨qa,qc,qe,-,qh⟩:=HH.o.d.k;simp only[vJ,true_and]at qe;obtain⟨rfl,rfl⟩:=qe;obtain⟨g2,o2,⟨t0,t1,t2⟩,rfl,aO,r0,r1,r2,e0,rr,e1⟩:=qh j hj;have aP:=HM.o.bb _ (gM_ hj);obtain⟨⟨kd,ps,ln⟩,hX⟩:∃X,m.bs[j]=X:=⟨_,rfl⟩
  rw[hX]at e0 e1 rr aP;rw[hX];simp only at e0 e1 rr r0 r1 r2;subst e0 e1;obtain⟨sa,sc,rfl,-⟩:=id rr;have bK:=hJ rr;have bW:=(aH.o _ bR).1;have y0:=(bW.cell (p:=⟨g2,o2+j*3,none⟩) aO).trans r0;have y1:=(bW.cell (p:=⟨g2,o2+j*3+1,none⟩) aO).trans r1;have y2:=(bW.cell (p:=⟨g2,o2+j*3+2,none⟩) aO).trans r2;have j0:(0:Int)<=(j:Int):=oM
  have j1:(j:Int)<(m.4.length:Int):=oM
  have bV:ps.length<=4:=aP.m;clear qh hX aP rr bW r0 r1 r2;go_enter Tryz.func209,Tryz.ntmps209
  go_wp2_with fail
  rw[aX.o];refine(zak ((j:Int)+1) 1 16 _).mono ?_;rintro e w3 ⟨rfl,rfl⟩;rw[aU.o];go_wp2_with fail
  refine(ze6 kd ln _ ps _ (bK.o.below (aH.o _ bR).1 nR) oM).mono ?_;rintro e w1 ⟨uu,rfl,O1,B1⟩;obtain⟨s1,t1,rfl,-⟩:=O1.form;have k1:=aH.o w1 B1;have aF:=hJ k1;have HO1:Hid (∀k,(sL s1 ps t1).ownBlock=some k->w.1.size+2<=k/\k<w1.1.size):=fun k hk=>by have:=O1.lt k hk;simp at this;exact this
  have aZ:Hid (SOwns (w1.alloc (.cells #[.bool kd,sL s1 ps t1,.string ln] 95)) w.1.size 90 (sL s1 ps t1) ps):=(O1.base_le sO).alloc _;have bI:Hid (AtC (w1.alloc (.cells #[.bool kd,sL s1 ps t1,.string ln] 95)) w1.1.size 95 #[.bool kd,sL s1 ps t1,.string ln]):=AtC.new w1 95 _;have HS:Hid (∀W,Chg (fun k=>(sL s1 ps t1).ownBlock=some k) (w1.alloc (.cells #[.bool kd,sL s1 ps t1,.string ln] 95)) W->Bw w W/\AtC W (w.1.size+1) 95 #[.bool false,nZ,eT]/\AtC W w.1.size 33 (M7 m a1 c1 a2 c2 a3 c3 (aA g2 o2) c4 a5 c5 a6 c6)/\AtC W w1.1.size 95 #[.bool kd,sL s1 ps t1,.string ln]):=fun W hc=>by
   have z:=aF.o.2.2.2;have b3:Bw w1 (w1.alloc (.cells #[.bool kd,sL s1 ps t1,.string ln] 95)):=(bF _ w1).alloc nR _;have lo:∀k,k<w.1.size+2->W.1[k]?=w1.1[k]?:=fun k hk=>(hc.block k sO (fun e=>by have:=(HO1.o k e).1;omega)).trans (b3.block k oM);refine⟨⟨?_,?_,?_,?_,fun k hk=>(lo k oM).trans (aF.o.1.block k hk)⟩,(lo _ oM).trans aF.o.2.1,(lo _ oM).trans aF.o.2.2.1,(hc.block _ sI (fun e=>by have:=(HO1.o _ e).2;omega)).trans bI.o⟩
   ·exact hc.os.trans aF.o.1.os
   ·exact hc.tape.trans aF.o.1.tape
   ·exact hc.output.trans aF.o.1.output
   have:=hc.size;simp at this;omega
  clear O1 B1 k1 x2 y0 y1 y2;go_wp2_with fail
  generalize hb5:w1.1.size=b5 at*;clear hb5;generalize w1.alloc (.cells #[.bool kd,.slice s1 ps.length t1,.string ln] 95)=W2 at*;obtain⟨a,c,ei,-,hc⟩:=HH.o.p.dep;simp only[vJ,true_and]at ei;obtain⟨rfl,rfl⟩:=ei;have HC:=hJ hc;clear hc;go_loopw [6] (fun i' wr=>∃q:Nat,q<=m.6.length/\i'=.int .i64 q/\Hid (SOwns wr w.1.size 90 (.slice s1 ps.length t1) (imgS ((j:Int)+1) (m.ds.take q) ps)/\Chg (fun k=>(Value.slice s1 ps.length t1).ownBlock=some k) W2 wr)) (fun i' _=>m.6.length-(intOf i').toNat)
  case atStart=>exact⟨0,zL _,rfl,aZ.o,Chg.refl _ _⟩
  obtain⟨q,hq,rfl,HR⟩:=hrel;obtain⟨hbw,aD,aN,h5⟩:=HS.o wr HR.o.2;have x5:=aN.c5;by_cases hlt:q<m.6.length
  ·obtain⟨g6,o6,p,rfl,aC,nn,hp⟩:=HC.o q hlt;have aM:=HM.o.dd _ (gM_ hlt);have aQ:=zm3 ((j:Int)+1) m.ds ps q hlt;obtain⟨X,hX⟩:∃X,m.ds[q]=X:=⟨_,rfl⟩
   rw[hX]at nn hp aM aQ;obtain⟨id,kk,io,pt,bk,sl,nm,bt,ot,af,bl⟩:=X;simp only at hp;obtain⟨pa,pc,rfl,-⟩:=hp;simp only[DCells]at nn;obtain⟨m0,m1,m2,m3,m4,m5,m6,m7,m8,m9,aY⟩:=nn;have k0:=(hbw.cell (p:=⟨g6,o6+q*11,none⟩) aC).trans m0;have k1:=(hbw.cell (p:=⟨g6,o6+q*11+1,none⟩) aC).trans m1;have k2:=(hbw.cell (p:=⟨g6,o6+q*11+2,none⟩) aC).trans m2;have k3:=(hbw.cell (p:=⟨g6,o6+q*11+3,none⟩) aC).trans m3;have k4:=(hbw.cell (p:=⟨g6,o6+q*11+4,none⟩) aC).trans m4;have k5:=(hbw.cell (p:=⟨g6,o6+q*11+5,none⟩) aC).trans m5;have k6:=(hbw.cell (p:=⟨g6,o6+q*11+6,none⟩) aC).trans m6;have k7:=(hbw.cell (p:=⟨g6,o6+q*11+7,none⟩) aC).trans m7;have k8:=(hbw.cell (p:=⟨g6,o6+q*11+8,none⟩) aC).trans m8;have k9:=(hbw.cell (p:=⟨g6,o6+q*11+9,none⟩) aC).trans m9;have k10:wr.cell? ⟨g6,o6+q*11+10,none⟩=some (sL pa bl pc):=(hbw.cell (p:=⟨g6,o6+q*11+10,none⟩) aC).trans aY;have bC:0<=sl:=aM.sl.1;have bG:sl<=3:=aM.sl.2;obtain⟨t,rfl⟩:∃t:Nat,sl=(t:Int):=⟨sl.toNat,oM⟩
   have HSN:=hJ aQ;have q0:(0:Int)<=(q:Int):=oM
   have q1:(q:Int)<(m.6.length:Int):=oM
   have b1:Bw wr (wr.alloc (.cells (K7 id kk io pt bk (t:Int) nm bt ot af pa bl.length pc) 42)):=(bF _ wr).alloc nR _;have HA:Hid (SOwns (wr.alloc (.cells (K7 id kk io pt bk (t:Int) nm bt ot af pa bl.length pc) 42)) w.1.size 90 (sL s1 ps t1) (imgS ((j:Int)+1) (m.ds.take q) ps)/\Chg (fun k=>(sL s1 ps t1).ownBlock=some k) W2 (wr.alloc (.cells (K7 id kk io pt bk (t:Int) nm bt ot af pa bl.length pc) 42))/\AtC (wr.alloc (.cells (K7 id kk io pt bk (t:Int) nm bt ot af pa bl.length pc) 42)) wr.1.size 42 (K7 id kk io pt bk (t:Int) nm bt ot af pa bl.length pc)):=⟨HR.o.1.alloc _,HR.o.2.trans (Chg.of_below b1),AtC.new wr 42 _⟩
   have aV:Hid (∀k,(sL s1 ps t1).ownBlock=some k->k<wr.1.size):=fun k hk=>(HR.o.1.lt k hk).2;clear m0 m1 m2 m3 m4 m5 m6 m7 m8 m9 aY aM hX hbw aD aN h5 aQ b1;go_upto_region 8 with fail
   generalize hbd:wr.1.size=bd at*;clear hbd HR k0 k1 k2 k3 k4 k5 k6 k7 k8 k9 k10 x5;generalize wr.alloc (.cells (K7 id kk io pt bk (t:Int) nm bt ot af pa bl.length pc) 42)=wA at*;have h5:=(HS.o wA HA.o.2.1).2.2.2;obtain⟨-,d1,d2,-,d4,d5,d6,-,-,d9⟩:=HA.o.2.2.k10;have f2:=h5.c1;clear h5;have t0:(0:Int)<=(t:Int):=oM
   have bU:decide ((t:Int)<0)=false:=dF oM;go_cut [52]from 24 to 79 (fun c wx=>c=.bool (decide (¬(bk=(j:Int)+1/\t<ps.length)))/\wA=wx)
   case first =>
    by_cases hk:bk=(j:Int)+1
    ·subst hk;by_cases ht:t<ps.length
     ·have bJ:¬((ps.length:Int)<=(t:Int)):=oM
      go_wp2_with fail
      go_meet
      exact⟨by simp[ht],rfl⟩
     have bJ:(ps.length:Int)<=(t:Int):=oM
     go_wp2_with fail
     go_meet
     exact⟨by simp[ht],rfl⟩
    have bP:(bk != (j:Int)+1)=true:=by simp[hk]
    go_wp2_with fail
    go_meet
    exact⟨by simp[hk],rfl⟩
   obtain⟨rfl,rfl⟩:=hcut;by_cases hd:bk=(j:Int)+1/\t<ps.length
   ·rw[dF (fun e=>e hd)];obtain⟨rfl,ht⟩:=hd;have t2:(t:Int)<(ps.length:Int):=oM
    obtain⟨g,cap,e9,aW,aG,aR,-⟩:=HA.o.1.at t (by rw[zbe];exact ht);rw[zbe]at e9;simp only[vJ,true_and]at e9;obtain⟨rfl,rfl⟩:=e9;obtain⟨rv,k9⟩:∃rv,wA.cell? ⟨g,t*2,none⟩=some rv:=⟨_,aW⟩
    obtain⟨bL,k10⟩:∃rv,wA.cell? ⟨g,t*2+1,none⟩=some rv:=⟨_,aG⟩
    have f9:=aR (t*2);have bQ:=aR (t*2+1);clear aW aG aR;have HN:Hid (∀(aK:BA)(aL:Int),SOwns ((wA.setCell ⟨g,t*2,none⟩ (.string aK)).setCell ⟨g,t*2+1,none⟩ (nI aL)) w.1.size 90 (sL (aA g 0) ps t1) ((imgS ((j:Int)+1) (m.ds.take q) ps).set t (aK,aL))/\Chg (fun k=>(sL (aA g 0) ps t1).ownBlock=some k) W2 ((wA.setCell ⟨g,t*2,none⟩ (.string aK)).setCell ⟨g,t*2+1,none⟩ (nI aL))):=fun aK aL=>by
     have hl:(imgS ((j:Int)+1) (m.ds.take q) ps).length=ps.length:=zbe _ _ _;have z:=SOwns.set_both (l:=imgS ((j:Int)+1) (m.ds.take q) ps) (g:=g) (cap:=t1) (by rw[hl];exact HA.o.1) t (by rw[hl];exact ht) aK aL;rw[hl]at z;exact⟨z.1,(HA.o.2.1.setCell rfl _).setCell rfl _⟩
    have HQ:Hid (SOwns wA w.1.size 90 (sL (aA g 0) ps t1) (imgS ((j:Int)+1) (m.ds.take q) ps)/\Chg (fun k=>(sL (aA g 0) ps t1).ownBlock=some k) W2 wA):=⟨HA.o.1,HA.o.2.1⟩
    have aB:Hid (imgS ((j:Int)+1) (m.ds.take (q+1)) ps=if kk=2 then(imgS ((j:Int)+1) (m.ds.take q) ps).set t (⟨#[]⟩,0)else if kk=4/\0<af then(imgS ((j:Int)+1) (m.ds.take q) ps).set t (nm,io)else imgS ((j:Int)+1) (m.ds.take q) ps):=by
     have:=HSN.o;unfold stepS at this;rw[if_pos ⟨rfl,by rw[zbe];exact ht⟩]at this;exact this
    have aT:=hJ HA.o.2.2;clear HSN HA;by_cases h2:kk=2
    ·subst h2;have HE:=aB.o;rw[if_pos rfl]at HE;have aS:Hid (SOwns ((wA.setCell ⟨g,t*2,none⟩ (eT)).setCell ⟨g,t*2+1,none⟩ (nI 0)) w.1.size 90 (sL (aA g 0) ps t1) (imgS ((j:Int)+1) (m.ds.take (q+1)) ps)/\Chg (fun k=>(sL (aA g 0) ps t1).ownBlock=some k) W2 ((wA.setCell ⟨g,t*2,none⟩ (eT)).setCell ⟨g,t*2+1,none⟩ (nI 0))):=by rw[HE];exact HN.o _ _
     have bO:((wA.setCell ⟨g,t*2,none⟩ (eT)).setCell ⟨g,t*2+1,none⟩ (nI 0)).cell? ⟨bd,1,none⟩=some (nI 2):=(((aT.o.other (by have:=aV.o g rfl;omega) _).other (by have:=aV.o g rfl;omega) _)).cell 1;clear aB HE HN HQ;go_wp2;go_roundw
     case rel=>exact⟨q+1,oM,gK,aS.o⟩
     simp[intOf];omega
    have bM:(kk==2)=false:=by simp[h2]
    by_cases h4:kk=4
    ·subst h4;by_cases ha:0<af
     ·have HE:=aB.o;rw[if_neg h2,if_pos ⟨rfl,ha⟩]at HE;have aS:Hid (SOwns ((wA.setCell ⟨g,t*2,none⟩ (.string nm)).setCell ⟨g,t*2+1,none⟩ (nI io)) w.1.size 90 (sL (aA g 0) ps t1) (imgS ((j:Int)+1) (m.ds.take (q+1)) ps)/\Chg (fun k=>(sL (aA g 0) ps t1).ownBlock=some k) W2 ((wA.setCell ⟨g,t*2,none⟩ (.string nm)).setCell ⟨g,t*2+1,none⟩ (nI io))):=by rw[HE];exact HN.o _ _
      clear aB HE HN HQ;go_wp2;go_roundw
      case rel=>exact⟨q+1,oM,gK,aS.o⟩
      simp[intOf];omega
     have HE:=aB.o;rw[if_neg h2,if_neg (fun e=>ha e.2)]at HE;rw[←HE]at HQ;clear aB HE HN;go_wp2;go_roundw
     case rel=>exact⟨q+1,oM,gK,HQ.o⟩
     simp[intOf];omega
    have bS:(kk==4)=false:=by simp[h4]
    have HE:=aB.o;rw[if_neg h2,if_neg (fun e=>h4 e.1)]at HE;rw[←HE]at HQ;clear aB HE HN;go_wp2;go_roundw
    case rel=>exact⟨q+1,oM,gK,HQ.o⟩
    simp[intOf];omega
   rw[dT hd];have HN:Hid (SOwns wA w.1.size 90 (sL s1 ps t1) (imgS ((j:Int)+1) (m.ds.take (q+1)) ps)/\Chg (fun k=>(sL s1 ps t1).ownBlock=some k) W2 wA):=by
    have:=HSN.o;unfold stepS at this;rw[if_neg (fun e=>hd ⟨e.1,by have:=e.2;rw[zbe]at this;exact this⟩)]at this;rw[this];exact⟨HA.o.1,HA.o.2.1⟩
   exact cQ109
  have hq2:q=m.6.length:=oM
  obtain⟨f0,f2,f1⟩:=h5.k3;obtain⟨s0,bE,s2⟩:=aD.k3;obtain⟨z0,z1,z2⟩:=aD.f3;have HF:Hid (SOwns (wr.s3 (w.1.size+1) (.bool kd) (sL s1 ps t1) (.string ln)) w.1.size 90 (sL s1 ps t1) (imgS ((j:Int)+1) m.ds ps)/\Bw w (wr.s3 (w.1.size+1) (.bool kd) (sL s1 ps t1) (.string ln))):=by
   exact cQ38
  clear hbw aD aN h5 HR hq2;go_wp2;refine bY (v:=.agg #[.bool kd,sL s1 ps t1,.string ln]) (by simp[results,go_sem,s0,bE,s2]) rfl ⟨_,rfl,HF.o⟩
namespace Kit
variable {Z : ZT}
def imgP(i:Int)(ds:List Dp)(ps:List Int):List Int:=ds.foldl (fun xs d=>if d.kd=1/\d.io=i then xs.set d.pt.toNat 0 else xs) ps
theorem zm2(i:Int)(ds:List Dp)(ps:List Int)(j:Nat)(h:j<ds.length):imgP i (ds.take (j+1)) ps=if ds[j].kd=1/\ds[j].io=i then(imgP i (ds.take j) ps).set ds[j].pt.toNat 0 else imgP i (ds.take j) ps:=by
 unfold imgP;rw[←tG h,List.foldl_append];rfl
theorem zb3(i:Int):∀(ds:List Dp)(ps:List Int),(imgP i ds ps).length=ps.length
 | [],_=>rfl
 | d::ds,ps=>by
  have:imgP i (d::ds) ps=imgP i ds (if d.kd=1/\d.io=i then ps.set d.pt.toNat 0 else ps):=rfl;rw[this,zb3 i ds]
  split<;>simp
theorem ic_set(l:List Int)(k:Nat)(x:Int):ic (l.set k x)=(ic l).set k (nI x):=by simp[ic,List.map_set]
def imgI(m:MD)(i:Int):Ino:=if inB i 1 8=true then((m.is.getD (i-1).toNat (0,0,[])).1,(m.is.getD (i-1).toNat (0,0,[])).2.1,imgP i m.ds (m.is.getD (i-1).toNat (0,0,[])).2.2)else(0,zan 0,[0,0])
end Kit
variable {Z : ZT}
theorem zk3(u v iv bv dv pv:Va)(m:MD)(i:Int)(w:Wd)(h:MR w u v iv bv dv pv m)(hm:Sh Z m):
  Calls Tryz.prog 208 #[.agg #[u,v,iv,bv,dv,pv,nI m.nx],nI i] w fun e w'=>∃v9,e=.returned (.agg #[nI (imgI m i).1,nI (imgI m i).2.1,v9])/\ROwns w' w.1.size 3 v9 (ic (imgI m i).2.2)/\Bw w w':=by
 obtain⟨a1,c1,a2,c2,a3,c3,a4,c4,a5,c5,a6,c6,rfl,rfl,rfl,rfl,rfl,rfl⟩:=h.form;have HH:=hJ h;have HM:=hJ hm;have hdl:=hm.l;have HIL:=hJ hm.i;have HW0:Hid (∀W,Bw ((w.alloc (.cells (M7 m a1 c1 a2 c2 a3 c3 a4 c4 a5 c5 a6 c6) 33)).alloc (.cells #[nI 0,nI 0,.slice none 0 0] 59)) W->Bw w W/\AtC W (w.1.size+1) 59 #[nI 0,nI 0,.slice none 0 0]/\AtC W w.1.size 33 (M7 m a1 c1 a2 c2 a3 c3 a4 c4 a5 c5 a6 c6)/\w.1.size+1+1<=W.1.size):=fun W b2=>by
  have k1:=(AtC.new (w.alloc (.cells (M7 m a1 c1 a2 c2 a3 c3 a4 c4 a5 c5 a6 c6) 33)) 59 #[nI 0,nI 0,.slice none 0 0]).over b2;have k2:=((AtC.new w 33 (M7 m a1 c1 a2 c2 a3 c3 a4 c4 a5 c5 a6 c6)).over ((bF _ (w.alloc (.cells (M7 m a1 c1 a2 c2 a3 c3 a4 c4 a5 c5 a6 c6) 33))).alloc nR (.cells #[nI 0,nI 0,.slice none 0 0] 59))).over b2;have sz:=b2.size;simp at k1 sz;exact⟨(((bF _ w).alloc nR _).alloc sI _).trans (b2.mono sO),k1,k2,sz⟩
 have x2:((w.alloc (.cells (M7 m a1 c1 a2 c2 a3 c3 a4 c4 a5 c5 a6 c6) 33)).alloc (.cells #[nI 0,nI 0,.slice none 0 0] 59)).cell? ⟨w.1.size,2,none⟩=some (.slice a3 m.3.length c3):=(HW0.o _ bR).2.2.1.cell 2;have e8:(m.3.length:Int)=8:=by rw[hm.i];rfl
 have HE8:=hJ e8;clear h hm e8
 cases hib:inB i 1 8 with
 | false =>
  have hI:imgI m i=(0,zan 0,[0,0]):=by unfold imgI;rw[hib];rfl
  rw[hI];have HIB:=hJ hib;clear hib hI;go_enter Tryz.func208,Tryz.ntmps208
  go_wp2_with fail
  rw[HE8.o];refine(zak i 1 8 _).mono ?_;rintro e w3 ⟨rfl,rfl⟩;rw[HIB.o];go_wp2_with fail
  refine(zbc 0 _).mono ?_;rintro e w1 ⟨v9,rfl,O1,B1⟩;obtain⟨n1,n2,rfl,-⟩:=O1.form;have k1:=HW0.o w1 B1;obtain⟨s0,s1,s2⟩:=k1.2.1.k3;obtain⟨z0,z1,z2⟩:=k1.2.1.f3;have HF:Hid (ROwns (w1.s3 (w.1.size+1) (nI 0) (nI (zan 0)) (.slice n1 [0,0].length n2)) w.1.size 3 (.slice n1 [0,0].length n2) (ic [0,0])/\Bw w (w1.s3 (w.1.size+1) (nI 0) (nI (zan 0)) (.slice n1 [0,0].length n2))):=by
   have hz:=k1.2.2.2;refine⟨(O1.base_le sO).of_heap fun k hk=>?_,((k1.1.setCell sI _).setCell sI _).setCell sI _⟩;have:=(O1.lt k hk).1;simp at this;rw[hO_ _ ⟨w.1.size+1,2,none⟩ k _ oA,hO_ _ ⟨w.1.size+1,1,none⟩ k _ oA,hO_ _ ⟨w.1.size+1,0,none⟩ k _ oA]
  rw[zaf]at*;clear O1 B1 k1 x2;go_wp2;refine bY (v:=.agg #[nI 0,nI (zan 0),.slice n1 [0,0].length n2]) (by simp[results,go_sem,s0,s1,s2]) rfl ⟨_,rfl,HF.o⟩
 | true =>
  have HIB:=hJ hib;obtain⟨h1,h2⟩:=zay hib;obtain⟨j,rfl⟩:∃j:Nat,i=(j:Int)+1:=⟨(i-1).toNat,oM⟩
  have hj:j<m.3.length:=by rw[HIL.o];omega
  have hI:imgI m ((j:Int)+1)=(m.is[j].1,m.is[j].2.1,imgP ((j:Int)+1) m.ds m.is[j].2.2):=by
   unfold imgI;rw[hib,if_pos rfl,show((j:Int)+1-1).toNat=j by omega];simp[hj]
  rw[hI];clear hib hI;obtain⟨qa,qc,qe,-,qh⟩:=HH.o.d.i;simp only[vJ,true_and]at qe;obtain⟨rfl,rfl⟩:=qe;obtain⟨g2,o2,⟨t0,t1,t2⟩,rfl,hg2,r0,r1,r2,e0,e1,rr⟩:=qh j hj;have hio:=HM.o.ii _ (gM_ hj);obtain⟨⟨kd,ln,ps⟩,hX⟩:∃X,m.is[j]=X:=⟨_,rfl⟩
  rw[hX]at e0 e1 rr hio;rw[hX];simp only at e0 e1 rr r0 r1 r2;subst e0 e1;have HPN:Hid (ps.length=2):=hio.n;obtain⟨sa,sc,rfl⟩:=rr.form;have HRR:=hJ rr;have bW:=(HW0.o _ bR).1;have y0:=(bW.cell (p:=⟨g2,o2+j*3,none⟩) hg2).trans r0;have y1:=(bW.cell (p:=⟨g2,o2+j*3+1,none⟩) hg2).trans r1;have y2:=(bW.cell (p:=⟨g2,o2+j*3+2,none⟩) hg2).trans r2;have j0:(0:Int)<=(j:Int):=oM
  have j1:(j:Int)<(m.3.length:Int):=oM
  have hpl:ps.length<=2:=Nat.le_of_eq hio.n;clear qh hX hio rr bW r0 r1 r2;go_enter Tryz.func208,Tryz.ntmps208
  go_wp2_with fail
  rw[HE8.o];refine(zak ((j:Int)+1) 1 8 _).mono ?_;rintro e w3 ⟨rfl,rfl⟩;rw[HIB.o];go_wp2_with fail
  refine(ze5 kd ln _ ps _ (HRR.o.below (HW0.o _ bR).1 nR) oM).mono ?_;rintro e w1 ⟨uu,rfl,O1,B1⟩;obtain⟨s1,t1,rfl⟩:=O1.rints.form;have k1:=HW0.o w1 B1;have HW1:=hJ k1;have HO1:Hid (∀k,(Value.slice s1 ps.length t1).ownBlock=some k->w.1.size+2<=k/\k<w1.1.size):=fun k hk=>by have:=O1.lt k hk;simp at this;exact this
  have HP0:Hid (ROwns (w1.alloc (.cells #[nI kd,nI ln,.slice s1 ps.length t1] 59)) w.1.size 3 (.slice s1 ps.length t1) (ic ps)):=(O1.base_le sO).alloc _;have HA5:Hid (AtC (w1.alloc (.cells #[nI kd,nI ln,.slice s1 ps.length t1] 59)) w1.1.size 59 #[nI kd,nI ln,.slice s1 ps.length t1]):=AtC.new w1 59 _;have HS:Hid (∀W,Chg (fun k=>(Value.slice s1 ps.length t1).ownBlock=some k) (w1.alloc (.cells #[nI kd,nI ln,.slice s1 ps.length t1] 59)) W->Bw w W/\AtC W (w.1.size+1) 59 #[nI 0,nI 0,.slice none 0 0]/\AtC W w.1.size 33 (M7 m a1 c1 a2 c2 (aA g2 o2) c3 a4 c4 a5 c5 a6 c6)/\AtC W w1.1.size 59 #[nI kd,nI ln,.slice s1 ps.length t1]):=fun W hc=>by
   have z:=HW1.o.2.2.2;have b3:Bw w1 (w1.alloc (.cells #[nI kd,nI ln,.slice s1 ps.length t1] 59)):=(bF _ w1).alloc nR _;have lo:∀k,k<w.1.size+2->W.1[k]?=w1.1[k]?:=fun k hk=>(hc.block k sO (fun e=>by have:=(HO1.o k e).1;omega)).trans (b3.block k oM);refine⟨⟨?_,?_,?_,?_,fun k hk=>(lo k oM).trans (HW1.o.1.block k hk)⟩,(lo _ oM).trans HW1.o.2.1,(lo _ oM).trans HW1.o.2.2.1,(hc.block _ sI (fun e=>by have:=(HO1.o _ e).2;omega)).trans HA5.o⟩
   ·exact hc.os.trans HW1.o.1.os
   ·exact hc.tape.trans HW1.o.1.tape
   ·exact hc.output.trans HW1.o.1.output
   ·have:=hc.size;simp at this;omega
  clear O1 B1 k1 x2 y0 y1 y2;go_wp2_with fail
  generalize hb5:w1.1.size=b5 at*;clear hb5;generalize w1.alloc (.cells #[.int .i64 kd,.int .i64 ln,.slice s1 ps.length t1] 59)=W2 at*;obtain⟨a,c,ei,-,hc⟩:=HH.o.p.dep;simp only[vJ,true_and]at ei;obtain⟨rfl,rfl⟩:=ei;have HC:=hJ hc;clear hc;go_loopw [6] (fun i' wr=>∃q:Nat,q<=m.6.length/\i'=.int .i64 q/\Hid (ROwns wr w.1.size 3 (.slice s1 ps.length t1) (ic (imgP ((j:Int)+1) (m.ds.take q) ps))/\Chg (fun k=>(Value.slice s1 ps.length t1).ownBlock=some k) W2 wr)) (fun i' _=>m.6.length-(intOf i').toNat)
  case atStart=>exact⟨0,zL _,rfl,HP0.o,Chg.refl _ _⟩
  case round =>
   obtain⟨q,hq,rfl,HR⟩:=hrel;obtain⟨hbw,hres,hmb,h5⟩:=HS.o wr HR.o.2;have x5:=hmb.c5;by_cases hlt:q<m.6.length
   ·obtain⟨g6,o6,p,rfl,hg6,nn,hp⟩:=HC.o q hlt;have hdk:=HM.o.dd _ (gM_ hlt);have hsn:=zm2 ((j:Int)+1) m.ds ps q hlt;obtain⟨X,hX⟩:∃X,m.ds[q]=X:=⟨_,rfl⟩
    rw[hX]at nn hp hdk hsn;obtain⟨id,kk,io,pt,bk,sl,nm,bt,ot,af,bl⟩:=X;simp only at hp hsn;obtain⟨pa,pc,rfl,-⟩:=hp;simp only[DCells]at nn;obtain⟨m0,m1,m2,m3,m4,m5,m6,m7,m8,m9,m10⟩:=nn;have k0:=(hbw.cell (p:=⟨g6,o6+q*11,none⟩) hg6).trans m0;have k1:=(hbw.cell (p:=⟨g6,o6+q*11+1,none⟩) hg6).trans m1;have k2:=(hbw.cell (p:=⟨g6,o6+q*11+2,none⟩) hg6).trans m2;have k3:=(hbw.cell (p:=⟨g6,o6+q*11+3,none⟩) hg6).trans m3;have k4:=(hbw.cell (p:=⟨g6,o6+q*11+4,none⟩) hg6).trans m4;have k5:=(hbw.cell (p:=⟨g6,o6+q*11+5,none⟩) hg6).trans m5;have k6:=(hbw.cell (p:=⟨g6,o6+q*11+6,none⟩) hg6).trans m6;have k7:=(hbw.cell (p:=⟨g6,o6+q*11+7,none⟩) hg6).trans m7;have k8:=(hbw.cell (p:=⟨g6,o6+q*11+8,none⟩) hg6).trans m8;have k9:=(hbw.cell (p:=⟨g6,o6+q*11+9,none⟩) hg6).trans m9;have k10:wr.cell? ⟨g6,o6+q*11+10,none⟩=some (.slice pa bl.length pc):=(hbw.cell (p:=⟨g6,o6+q*11+10,none⟩) hg6).trans m10;have hpt0:0<=pt:=hdk.pt.1;have hpt1:pt<=1:=hdk.pt.2;obtain⟨t,rfl⟩:∃t:Nat,pt=(t:Int):=⟨pt.toNat,oM⟩
    have HSN:=hJ hsn;have q0:(0:Int)<=(q:Int):=oM
    have q1:(q:Int)<(m.6.length:Int):=oM
    have b1:Bw wr (wr.alloc (.cells (K7 id kk io (t:Int) bk sl nm bt ot af pa bl.length pc) 42)):=(bF _ wr).alloc nR _;have HA:Hid (ROwns (wr.alloc (.cells (K7 id kk io (t:Int) bk sl nm bt ot af pa bl.length pc) 42)) w.1.size 3 (.slice s1 ps.length t1) (ic (imgP ((j:Int)+1) (m.ds.take q) ps))/\Chg (fun k=>(Value.slice s1 ps.length t1).ownBlock=some k) W2 (wr.alloc (.cells (K7 id kk io (t:Int) bk sl nm bt ot af pa bl.length pc) 42))/\AtC (wr.alloc (.cells (K7 id kk io (t:Int) bk sl nm bt ot af pa bl.length pc) 42)) wr.1.size 42 (K7 id kk io (t:Int) bk sl nm bt ot af pa bl.length pc)):=⟨HR.o.1.alloc _,HR.o.2.trans (Chg.of_below b1),AtC.new wr 42 _⟩
    clear m0 m1 m2 m3 m4 m5 m6 m7 m8 m9 m10 hdk hX hbw hres hmb h5 hsn b1;go_upto_region 8 with fail
    generalize hbd:wr.1.size=bd at*;clear hbd HR k0 k1 k2 k3 k4 k5 k6 k7 k8 k9 k10 x5;generalize wr.alloc (.cells (K7 id kk io (t:Int) bk sl nm bt ot af pa bl.length pc) 42)=wA at*;have h5:=(HS.o wA HA.o.2.1).2.2.2;obtain⟨-,d1,d2,d3⟩:=HA.o.2.2.k4;have f2:=h5.c2;clear h5;have t0:(0:Int)<=(t:Int):=oM
    have ht2:t<ps.length:=by rw[HPN.o];omega
    have t2:(t:Int)<(ps.length:Int):=oM
    go_cut [57]from 24 to 62 (fun c wx=>c=.bool (decide (kk=1/\io=(j:Int)+1))/\wA=wx)
    case first =>
     by_cases hk:kk=1
     ·subst hk;by_cases hi:io=(j:Int)+1
      ·subst hi;go_wp2_with fail
       go_meet
       exact⟨sI,rfl⟩
      ·have hib:(io==(j:Int)+1)=false:=by simp[hi]
       go_wp2_with fail
       go_meet
       exact⟨by simp[hi],rfl⟩
     ·have hkb:(kk==1)=false:=by simp[hk]
      go_wp2_with fail
      go_meet
      exact⟨by simp[hk],rfl⟩
    case rest =>
     obtain⟨rfl,rfl⟩:=hcut;by_cases hd:kk=1/\io=(j:Int)+1
     ·rw[dT hd];have HE:Hid (imgP ((j:Int)+1) (m.ds.take (q+1)) ps=(imgP ((j:Int)+1) (m.ds.take q) ps).set t 0):=by have:=HSN.o;rw[if_pos hd]at this;exact this
      obtain⟨g,cap,e9,kq9,f9,-,-,-⟩:=HA.o.1.at t (by rw[zaf,zb3];exact ht2);rw[zaf,zb3]at e9;simp only[vJ,true_and]at e9;obtain⟨rfl,rfl⟩:=e9;obtain⟨rv,k9⟩:∃rv,wA.cell? ⟨g,t,none⟩=some rv:=by
       rw[kq9];exact⟨_,gE (by rw[zaf,zb3];exact ht2)⟩
      have HN:Hid (ROwns (wA.setCell ⟨g,t,none⟩ (nI 0)) w.1.size 3 (.slice (aA g 0) ps.length t1) (ic (imgP ((j:Int)+1) (m.ds.take (q+1)) ps))/\Chg (fun k=>(Value.slice (aA g 0) ps.length t1).ownBlock=some k) W2 (wA.setCell ⟨g,t,none⟩ (nI 0))):=by
       have hl:(ic (imgP ((j:Int)+1) (m.ds.take q) ps)).length=ps.length:=by rw[zaf,zb3]
       have z:=ROwns.stored (l:=ic (imgP ((j:Int)+1) (m.ds.take q) ps)) (g:=g) (cap:=t1) (by rw[hl];exact HA.o.1) t (nI 0);rw[hl,←ic_set,←HE.o]at z;exact⟨z.1,HA.o.2.1.setCell rfl _⟩
      clear HSN HE HA hd kq9;go_wp2;go_roundw
      case rel=>exact⟨q+1,oM,gK,HN.o⟩
      case measure=>simp[intOf];omega
     ·rw[dF hd];have HN:Hid (ROwns wA w.1.size 3 (.slice s1 ps.length t1) (ic (imgP ((j:Int)+1) (m.ds.take (q+1)) ps))/\Chg (fun k=>(Value.slice s1 ps.length t1).ownBlock=some k) W2 wA):=by
       have:=HSN.o;rw[if_neg hd]at this;rw[this];exact⟨HA.o.1,HA.o.2.1⟩
      exact cQ109
   ·have hq2:q=m.6.length:=oM
    obtain⟨f0,f1,f2⟩:=h5.k3;obtain⟨s0,s1',s2⟩:=hres.k3;obtain⟨z0,z1,z2⟩:=hres.f3;have HF:Hid (ROwns (wr.s3 (w.1.size+1) (nI kd) (nI ln) (.slice s1 ps.length t1)) w.1.size 3 (.slice s1 ps.length t1) (ic (imgP ((j:Int)+1) m.ds ps))/\Bw w (wr.s3 (w.1.size+1) (nI kd) (nI ln) (.slice s1 ps.length t1))):=by
     exact cQ38
    clear hbw hres hmb h5 HR hq2;go_wp2;refine bY (v:=.agg #[nI kd,nI ln,.slice s1 ps.length t1]) (by simp[results,go_sem,s0,s1',s2]) rfl ⟨_,rfl,HF.o⟩
def inoB(x:Ino):ByteArray:=textL x.1 x.2.1 x.2.2
def blkB(b:Blk):ByteArray:=zbd b.1 b.2.1 b.2.2
def unitB(xs ys:List Bool)(is:List Ino)(bs:List Blk)(u:Nat):ByteArray :=
 if u=0 then textB xs ys else if u<=4 then inoB (is.getD (2*u-2) zI)++inoB (is.getD (2*u-1) zI)else blkB (bs.getD (u-5) zB)
theorem zh3{xs ys:List Bool}{is:List Ino}{bs:List Blk}(h:za9 xs ys is bs=true):okB xs.length ys.length=true/\is.length=8/\bs.length=16/\(∀(j:Nat)(h:j<is.length),inoOk is[j]=true)/\∀(j:Nat)(h:j<bs.length),blkOk bs[j]=true:=by
 unfold za9 at h;simp only[aE,decide_eq_true_eq]at h;refine⟨h.1.1,h.1.2.2,h.2.2,fun j hj=>?_,fun j hj=>?_⟩
 ·exact List.all_eq_true.1 h.1.2.1 _ (gM_ hj)
 exact List.all_eq_true.1 h.2.1 _ (gM_ hj)
theorem zdb(k l:Int)(xs:List Int):(textL k l xs).size<=4:=by
 unfold textL
 split
 ·rw[zke];omega
 exact zL _
theorem zkx(u v iv bv:Va)(xs ys:List Bool)(is:List Ino)(bs:List Blk)(k:Nat)(w:Wd)(h:DR w u v iv bv xs ys is bs)(hl:is.length=8)(hk:1<=k)(hk4:k<=4):
  Calls Tryz.prog 109 #[.agg #[u,v,iv,bv],nI k] w fun e w'=>e=.returned (.string (inoB (is.getD (2*k-2) zI)++inoB (is.getD (2*k-1) zI)))/\Bw w w':=by
 obtain⟨a3,c3,ri,-,aG⟩:=h.i.ino;obtain⟨a1,c1,a2,c2,-,-,a4,c4,rfl,rfl,-,rfl⟩:=h.form;subst ri;clear h;obtain⟨n4,aK⟩:∃n,bs.length=n:=⟨_,rfl⟩
 obtain⟨n1,aH⟩:∃n,xs.length=n:=⟨_,rfl⟩
 obtain⟨n2,aL⟩:∃n,ys.length=n:=⟨_,rfl⟩
 obtain⟨g1,o1,p1,rfl,aD,m1,m2,m3,aB⟩:=aG (2*k-2) oM;obtain⟨g2,o2,p2,e2,aN,s1,s2,s3,aC⟩:=aG (2*k-1) oM;simp only[oJ,aJ]at e2;obtain⟨rfl,rfl,-⟩:=e2;rw[show is.getD (2*k-2) zI=is[2*k-2]'oM by simp[List.getD,gE (show 2*k-2<is.length by omega)],show is.getD (2*k-1) zI=is[2*k-1]'oM by simp[List.getD,gE (show 2*k-1<is.length by omega)]];obtain⟨x,hx⟩:∃x,is[2*k-2]'oM=x:=⟨_,rfl⟩
 obtain⟨y,hy⟩:∃x,is[2*k-1]'oM=x:=⟨_,rfl⟩
 rw[hx]at m1 m2 aB ⊢;rw[hy]at s1 s2 aC ⊢;obtain⟨x1,x2,x3⟩:=x;obtain⟨y1,y2,y3⟩:=y;obtain⟨pa,pc,rfl⟩:=aB.form;obtain⟨qa,qc,rfl⟩:=aC.form;simp only at m1 m2 m3 s1 s2 s3 aB aC;rw[hl,aH,aL,aK];clear aG hx hy hl aH aL aK;have H1:=hJ aB;have H2:=hJ aC;have i0:((k:Int)==0)=false:=sO
 have i4:decide ((k:Int)<=4)=true:=sO
 have C1:=hJ (fun W h=>zdp x1 x2 x3 (sL pa x3 pc) W h);have C2:=hJ (fun W h=>zdp y1 y2 y3 (sL qa y3 qc) W h);have z1:=zdb x1 x2 x3;have z2:=zdb y1 y2 y3;show Calls Tryz.prog 109 _ w fun e w'=>e=.returned (.string (textL x1 x2 x3++textL y1 y2 y3))/\Bw w w';generalize textL x1 x2 x3=T1 at*;generalize textL y1 y2 y3=T2 at*;clear aB aC;go_enter Tryz.func109,Tryz.ntmps109
 go_wp2_with fail
 refine(C1.out _ (H1.o.alloc _)).mono ?_;rintro e w1 ⟨rfl,B1⟩;have BW:Bw w w1:=((bF _ w).alloc nR _).trans (B1.mono sI);have K0:AtC w1 w.1.size 30 #[.slice a1 n1 c1,.slice a2 n2 c2,.slice (aA g1 o1) 8 c3,.slice a4 n4 c4]:=(AtC.new w 30 _).over B1;have p2:=K0.c2;have t1:=(BW.cell (p:=⟨g1,o1+(2*k-1)*3,none⟩) aD).trans s1;have t2:=(BW.cell (p:=⟨g1,o1+(2*k-1)*3+1,none⟩) aD).trans s2;have t3:=(BW.cell (p:=⟨g1,o1+(2*k-1)*3+2,none⟩) aD).trans s3;have aF:=hJ BW;clear B1 BW K0 m1 m2 m3 s1 s2 s3;go_wp2_with fail
 refine(C2.out _ (H2.o.below aF.o nR)).mono ?_;rintro e w2 ⟨rfl,B2⟩;have aM:=hJ (aF.o.trans (B2.mono aF.o.size));clear B2;go_wp2;go_ret;exact⟨rfl,aM.o⟩
theorem zky(u v iv bv:Va)(xs ys:List Bool)(is:List Ino)(bs:List Blk)(k:Nat)(w:Wd)(h:DR w u v iv bv xs ys is bs)(hl:bs.length=16)(hk:5<=k)(hk4:k<=20)(hB:∀(j:Nat)(h:j<bs.length),bigB 1048576 bs[j]):
  Calls Tryz.prog 109 #[.agg #[u,v,iv,bv],nI k] w fun e w'=>e=.returned (.string (blkB (bs.getD (k-5) zB)))/\Bw w w':=by
 obtain⟨a4,c4,ri,-,aG⟩:=h.k.blk;obtain⟨a1,c1,a2,c2,a3,c3,-,-,rfl,rfl,rfl,-⟩:=h.form;subst ri;clear h;obtain⟨n3,aD⟩:∃n,is.length=n:=⟨_,rfl⟩
 obtain⟨n1,aF⟩:∃n,xs.length=n:=⟨_,rfl⟩
 obtain⟨n2,aH⟩:∃n,ys.length=n:=⟨_,rfl⟩
 obtain⟨g1,o1,p1,rfl,aL,m1,m2,m3,aB⟩:=aG (k-5) oM;rw[show bs.getD (k-5) zB=bs[k-5]'oM by simp[List.getD,gE (show k-5<bs.length by omega)]];have aC:=hB (k-5) oM;obtain⟨x,hx⟩:∃x,bs[k-5]'oM=x:=⟨_,rfl⟩
 rw[hx]at m1 m3 aB aC ⊢;obtain⟨x1,x2,x3⟩:=x;obtain⟨pa,pc,rfl⟩:=aB.form;simp only at m1 m2 m3 aB;rw[hl,aF,aH,aD];have H1:=hJ aB;have i0:((k:Int)==0)=false:=sO
 have i4:decide ((k:Int)<=4)=false:=sO
 have HG:=hJ aC.2.1;have C1:=hJ (fun W h=>zcg x1 (sL pa x2 pc) x3 x2 W h HG.o);clear aB aG hx hl aF aH aD aC HG hB;go_enter Tryz.func109,Tryz.ntmps109
 go_wp2_with fail
 refine(C1.out _ (H1.o.alloc _)).mono ?_;rintro e w1 ⟨rfl,B1⟩;have aK:=hJ (((bF _ w).alloc nR (.cells #[.slice a1 n1 c1,.slice a2 n2 c2,.slice a3 n3 c3,.slice (aA g1 o1) 16 c4] 30)).trans (B1.mono sI));clear B1;go_wp2;go_ret;exact⟨rfl,aK.o⟩
theorem zkz(u v iv bv:Va)(xs ys:List Bool)(is:List Ino)(bs:List Blk)(base:Nat)(w:Wd)(h:DR w u v iv bv xs ys is bs)(hT:Two w base u v xs ys):
  Calls Tryz.prog 109 #[.agg #[u,v,iv,bv],nI 0] w fun e w'=>e=.returned (.string (textA xs ys))/\Bw w w':=by
 have HT:=hJ hT;obtain⟨a1,c1,a2,c2,a3,c3,a4,c4,rfl,rfl,rfl,rfl⟩:=h.form;clear h hT;go_enter Tryz.func109,Tryz.ntmps109
 go_wp2_with fail
 refine(zg2 _ _ xs ys base _ (HT.o.alloc _)).mono ?_;rintro e w1 ⟨rfl,B1⟩;have aB:=hJ (((bF _ w).alloc nR (.cells #[sL a1 xs c1,sL a2 ys c2,sL a3 is c3,sL a4 bs c4] 30)).trans (B1.mono sI));clear B1;go_wp2;go_ret;exact⟨rfl,aB.o⟩
namespace Kit
theorem R3.sub{α:Type}{K:Kd α}{w:Wd}{g o n c:Nat}{xs:List α}(h:R3 K w (.slice (aA g o) n c) xs)(i m:Nat)(him:i+m<=xs.length):R3 K w (.slice (aA g (o+i*3)) m m) ((xs.drop i).take m):=by
 obtain⟨a,cap,e,hc,h⟩:=h;have aB:((xs.drop i).take m).length=m:=sO
 refine⟨some ⟨g,o+i*3,none⟩,m,by rw[aB],by rw[aB];exact Nat.le_refl _,fun j hj=>?_⟩;rw[aB]at hj;obtain⟨g',aC,t,e1,hg,c0,c1,c2,r⟩:=h (i+j) oM;simp only[vJ]at e;rw[←e.1]at e1;simp only[oJ,aJ]at e1;obtain⟨rfl,rfl,-⟩:=e1;rw[show o+(i+j)*3=o+i*3+j*3 by omega]at c0 c1 c2;exact⟨g,o+i*3,t,rfl,hg,c0,c1,c2,by simpa using r⟩
end Kit
def unitT(xs ys:List Bool)(is:List Ino)(bs:List Blk)(u:Int):ByteArray:=if za9 xs ys is bs&&(decide (0<=u)&&decide (u<21))then unitB xs ys is bs u.toNat else⟨#[]⟩
theorem unitB_z{xs ys:List Bool}{is:List Ino}{bs:List Blk}(h:okB xs.length ys.length=true):unitB xs ys is bs 0=textA xs ys:=by simp[unitB,textA,h]
theorem unitB_i{xs ys:List Bool}{is:List Ino}{bs:List Blk}{k:Nat}(h:1<=k)(h4:k<=4):unitB xs ys is bs k=inoB (is.getD (2*k-2) zI)++inoB (is.getD (2*k-1) zI):=by
 unfold unitB;rw[if_neg oM,if_pos h4]
theorem unitB_b{xs ys:List Bool}{is:List Ino}{bs:List Blk}{k:Nat}(h:5<=k):unitB xs ys is bs k=blkB (bs.getD (k-5) zB):=by
 unfold unitB;rw[if_neg oM,if_neg oM]
theorem zem(u v iv bv:Va)(xs ys:List Bool)(is:List Ino)(bs:List Blk)(k base:Nat)(w:Wd)(h:DR w u v iv bv xs ys is bs)(hT:Two w base u v xs ys)(hok:za9 xs ys is bs=true)(hk:k<=20)(hB:∀(j:Nat)(h:j<bs.length),bigB 1048576 bs[j]):
  Calls Tryz.prog 109 #[.agg #[u,v,iv,bv],nI k] w fun e w'=>e=.returned (.string (unitB xs ys is bs k))/\Bw w w':=by
 obtain⟨p1,p2,p3,-,-⟩:=zh3 hok;by_cases h0:k=0
 ·subst h0;rw[unitB_z p1];exact zkz u v iv bv xs ys is bs base w h hT
 by_cases h4:k<=4
 ·rw[unitB_i oM h4];exact zkx u v iv bv xs ys is bs k w h p2 oM h4
 rw[unitB_b oM];exact zky u v iv bv xs ys is bs k w h p3 oM hk hB
def zcw(xs ys:List Bool)(is:List Ino)(bs:List Blk)(u:Int):Bool:=za9 xs ys is bs&&(decide (0<=u)&&decide (u<21))
theorem zjy{xs ys:List Bool}{is:List Ino}{bs:List Blk}{u:Int}(h:zcw xs ys is bs u=false):unitT xs ys is bs u=⟨#[]⟩:=by
 unfold unitT;unfold zcw at h;rw[h];rfl
theorem zmt{xs ys:List Bool}{is:List Ino}{bs:List Blk}{u:Int}(h:zcw xs ys is bs u=true):unitT xs ys is bs u=unitB xs ys is bs u.toNat:=by
 unfold unitT;unfold zcw at h;rw[h];rfl
theorem in_is(u:Int):inB u 0 20=(decide (0<=u)&&decide (u<21)):=by
 unfold inB;rw[Bool.eq_iff_iff];simp;omega
theorem zk0(u v iv bv:Va)(xs ys:List Bool)(is:List Ino)(bs:List Blk)(n:Int)(base:Nat)(w:Wd)(h:DR w u v iv bv xs ys is bs)(hT:Two w base u v xs ys)(hB:∀(j:Nat)(h:j<bs.length),bigB 1048576 bs[j]):
  Calls Tryz.prog 210 #[.agg #[u,v,iv,bv],nI n] w fun e w'=>e=.returned (.tuple #[.string (unitT xs ys is bs n),.bool (zcw xs ys is bs n)])/\Bw w w':=by
 have H:=hJ h;have HT:=hJ hT;have HG:=hJ hB;obtain⟨a1,c1,a2,c2,a3,c3,a4,c4,rfl,rfl,rfl,rfl⟩:=h.form;clear h hT hB;have C0:=hJ (fun W h=>zdg (sL a1 xs c1) (sL a2 ys c2) (sL a3 is c3) (sL a4 bs c4) xs ys is bs W h (fun j hj=>(HG.o j hj).2.1))
 cases hok:za9 xs ys is bs with
 | false =>
  have aC:zcw xs ys is bs n=false:=by unfold zcw;rw[hok];rfl
  rw[zjy aC,aC];rw[hok]at C0;clear hok aC HG HT;go_enter Tryz.func210,Tryz.ntmps210
  go_wp2_with fail
  refine(C0.out _ (H.out.alloc _)).mono ?_;rintro e w1 ⟨rfl,B1⟩;have aB:=hJ (((bF _ w).alloc nR (.cells #[sL a1 xs c1,sL a2 ys c2,sL a3 is c3,sL a4 bs c4] 30)).trans (B1.mono sI));clear B1;go_wp2;refine bY (v:=.tuple #[eT,.bool false]) sR0 rfl ⟨rfl,aB.o⟩
 | true =>
  have aF:=hJ hok;rw[hok]at C0;have L:=hJ (fun W=>zak n 0 20 W);rw[in_is]at L
  cases hin:(decide (0<=n)&&decide (n<21))with
  | false =>
   have aC:zcw xs ys is bs n=false:=by unfold zcw;rw[hin,Bool.and_false]
   rw[zjy aC,aC];rw[hin]at L;clear hok aC HG HT hin aF;go_enter Tryz.func210,Tryz.ntmps210
   go_wp2_with fail
   refine(C0.out _ (H.out.alloc _)).mono ?_;rintro e w1 ⟨rfl,B1⟩;have aB:=hJ (((bF _ w).alloc nR (.cells #[sL a1 xs c1,sL a2 ys c2,sL a3 is c3,sL a4 bs c4] 30)).trans (B1.mono sI));clear B1;go_wp2_with (go_at_call 50;refine(L.out _).mono ?_;rintro e w2 ⟨rfl,rfl⟩)
   refine bY (v:=.tuple #[eT,.bool false]) sR0 rfl ⟨rfl,aB.o⟩
  | true =>
   have aD:zcw xs ys is bs n=true:=by unfold zcw;rw[hok,hin];rfl
   rw[zmt aD,aD];rw[hin]at L;simp only[aE,decide_eq_true_eq]at hin;obtain⟨m,rfl⟩:∃m:Nat,n=m:=⟨n.toNat,oM⟩
   have hm:m<=20:=oM
   rw[Int.toNat_natCast];have C1:=hJ (fun W h hT=>zem (sL a1 xs c1) (sL a2 ys c2) (sL a3 is c3) (sL a4 bs c4) xs ys is bs m base W h hT aF.o hm HG.o);generalize unitB xs ys is bs m=T at*;clear hok aD HG hin aF;go_enter Tryz.func210,Tryz.ntmps210
   go_wp2_with fail
   refine(C0.out _ (H.out.alloc _)).mono ?_;rintro e w1 ⟨rfl,B1⟩;have X1:AtC w1 w.1.size 30 #[sL a1 xs c1,sL a2 ys c2,sL a3 is c3,sL a4 bs c4]:=(AtC.new w 30 _).over B1;have b1:Bw w w1:=((bF _ w).alloc nR _).trans (B1.mono sI);obtain⟨r0,r1,r2,r3⟩:=AtC.four X1;have aB:=hJ b1;clear B1 X1 b1 C0;go_wp2_with (first| (go_at_call 50;refine(L.out _).mono ?_;rintro e w2 ⟨rfl,rfl⟩)| (go_at_call 109;refine(C1.out _ (H.out.below aB.o nR) (HT.o.below aB.o nR)).mono ?_;rintro e w3 ⟨rfl,B3⟩;have aG:=hJ (aB.o.trans (B3.mono aB.o.size));clear B3))
   refine bY (v:=.tuple #[.string T,.bool true]) sR0 rfl ⟨rfl,aG.o⟩
def zce(is:List Ino)(i:Int):Int:=if inB i 1 is.length=true then(is.getD (i-1).toNat (0,0,[])).1 else 0
def zb7(is:List Ino)(i:Int):List Int:=if inB i 1 is.length=true then(is.getD (i-1).toNat (0,0,[])).2.2 else[]
def nmdS(ss:List Sl):List Sl:=ss.filter fun s=>decide (¬s.1=⟨#[]⟩)
def nmd(b:Blk):List Sl:=if b.1=true then nmdS b.2.1 else[]
def nmdP(bs:List Blk)(ps:List Int):List Sl:=ps.flatMap fun p=>nmd (blkAt bs p)
def named(is:List Ino)(bs:List Blk)(i:Int):List Sl:=if zce is i=2 then nmdP bs (zb7 is i)else[]
def findI:List Sl->ByteArray->Int
 | [],_=>0
 | s::r,nm=>if s.1=nm then s.2 else findI r nm
theorem zen{a b:List Sl}{nm:BA}(h:∀s∈a,¬s.1=nm):findI (a++b) nm=findI b nm:=by
 induction a with
 | nil=>rfl
 | cons s r ih =>
  rw[List.cons_append,findI,if_neg (h s sI)];exact ih fun x hx=>h x (by simp[hx])
theorem zk7{a:List Sl}{nm:BA}(h:∀s∈a,¬s.1=nm):findI a nm=0:=by
 have:=zen (b:=[]) h;rw[List.append_nil]at this;rw[this];rfl
theorem zj0{is:List Ino}{bs:List Blk}{j:Nat}(h:j<is.length):named is bs ((j:Int)+1)=if is[j].1=2 then nmdP bs is[j].2.2 else[]:=by
 have hb:inB ((j:Int)+1) 1 is.length=true:=by simp[inB];omega
 unfold named zce zb7;rw[if_pos hb,if_pos hb,show((j:Int)+1-1).toNat=j by omega,gD_,gE h];rfl
theorem znb{is:List Ino}{bs:List Blk}{x:Int}(h:inB x 1 is.length=false):named is bs x=[]:=by
 unfold named zce;rw[h];rfl
theorem zi4{bs:List Blk}{x:Int}(h:inB x 1 bs.length=false):nmd (blkAt bs x)=[]:=by
 unfold blkAt;rw[h];rfl
theorem size_ne{nm:BA}(h:nm.size≠0):¬nm=⟨#[]⟩:=fun e=>h (by rw[e];rfl)
theorem znc{nm:BA}(h:¬nm=⟨#[]⟩):nm.size≠0:=fun e=>h (by
 obtain⟨⟨l⟩⟩:=nm;have:l=[]:=List.length_eq_zero_iff.1 e;subst this;rfl)
theorem zi5{ss c:List Sl}{nm:BA}{j:Nat}(hj:j<ss.length)(h:ss[j].1=nm)(hn:nm.size≠0)(hf:∀(i:Nat)(hi:i<j),¬(ss[i]'(Nat.lt_trans hi hj)).1=nm):findI (nmdS ss++c) nm=ss[j].2:=by
 induction ss generalizing j with
 | nil=>simp at hj
 | cons s r ih =>
  cases j with
  | zero =>
   have h':s.1=nm:=h;have:nmdS (s::r)=s::nmdS r:=by simp[nmdS,h',size_ne hn]
   rw[this,List.cons_append,findI,if_pos h'];rfl
  | succ j =>
   have h0:¬s.1=nm:=hf 0 (Nat.succ_pos _);have hi:=ih (j:=j) (by simpa using hj) h (fun i hi=>hf (i+1) (Nat.succ_lt_succ hi));by_cases e:s.1=⟨#[]⟩
   ·have:nmdS (s::r)=nmdS r:=by simp[nmdS,e]
    rw[this];exact hi
   have:nmdS (s::r)=s::nmdS r:=by simp[nmdS,e]
   rw[this,List.cons_append,findI,if_neg h0];exact hi
theorem zey{ss:List Sl}{s:Sl}(h:s∈nmdS ss):s∈ss/\¬s.1=⟨#[]⟩:=by
 have:=List.mem_filter.1 h;exact⟨this.1,by simpa using this.2⟩
theorem znd{ss:List Sl}{nm:BA}(h:∀(i:Nat)(hi:i<ss.length),¬ss[i].1=nm):∀s∈nmdS ss,¬s.1=nm:=fun s hs=>by
 obtain⟨i,hi,rfl⟩:=List.getElem_of_mem (zey hs).1;exact h i hi
theorem zh8{bs:List Blk}{ps:List Int}{q:Nat}(h:q<ps.length):nmdP bs (ps.take (q+1))=nmdP bs (ps.take q)++nmd (blkAt bs ps[q]):=by
 rw[tS h];unfold nmdP;rw[List.flatMap_append,List.flatMap_cons,List.flatMap_nil,List.append_nil]
theorem zk8{bs:List Blk}{ps:List Int}{q:Nat}(h:q<ps.length):nmdP bs ps=nmdP bs (ps.take q)++(nmd (blkAt bs ps[q])++nmdP bs (ps.drop (q+1))):=by
 have e:ps=ps.take q++ps[q]::ps.drop (q+1):=by
  rw[←dG h,List.take_append_drop]
 have:nmdP bs (ps.take q++ps[q]::ps.drop (q+1))=nmdP bs (ps.take q)++(nmd (blkAt bs ps[q])++nmdP bs (ps.drop (q+1))):=by
  unfold nmdP;rw[List.flatMap_append,List.flatMap_cons]
 rw[←e]at this;exact this
theorem zne{ss:List Sl}{t:Nat}(h:t<ss.length):nmdS (ss.take (t+1))=nmdS (ss.take t)++(if ss[t].1=⟨#[]⟩then[]else[ss[t]]):=by
 rw[tS h];unfold nmdS;rw[List.filter_append];by_cases e:ss[t].1=⟨#[]⟩
 ·rw[if_pos e,List.filter_cons_of_neg (by simp[e]),List.filter_nil]
 rw[if_neg e,List.filter_cons_of_pos (by simp[e]),List.filter_nil]
theorem zdz{is:List Ino}{j:Nat}(h:j<is.length):zce is ((j:Int)+1)=is[j].1/\zb7 is ((j:Int)+1)=is[j].2.2:=by
 have hb:inB ((j:Int)+1) 1 is.length=true:=by simp[inB];omega
 unfold zce zb7;rw[if_pos hb,if_pos hb,show((j:Int)+1-1).toNat=j by omega];simp[h]
theorem zgf{is:List Ino}{i:Int}(h:inB i 1 is.length=false):zce is i=0:=by unfold zce;rw[h];rfl
theorem zj1{bs:List Blk}{x:Int}(h:inB x 1 bs.length=false):blkAt bs x=(false,[],⟨#[]⟩):=by unfold blkAt;rw[h];rfl
def FindP(is:List Ino)(bs:List Blk)(nm:BA)(B s k:Int):Prop:=zh7 bs nm B s k/\(k≠0->∃x∈is,B∈x.2.2)
theorem FindP.zero(is:List Ino)(bs:List Blk)(nm:BA):FindP is bs nm 0 0 0:=⟨.inl ⟨rfl,rfl,rfl⟩,fun e=>absurd rfl e⟩
theorem zfl(x:Int)(nm:BA)(dx dy iv bv:Va)(xs ys:List Bool)(is:List Ino)(bs:List Blk)(w:Wd)(h:DR w dx dy iv bv xs ys is bs)(hB:Big 1048576 xs ys is bs):
  Calls Tryz.prog 204 #[.agg #[dx,dy,iv,bv],.int .i64 x,.string nm] w fun e w'=>∃B s k:Int,e=.returned (.tuple #[.int .i64 B,.int .i64 s,.int .i64 k])/\FindP is bs nm B s k/\k=findI (named is bs x) nm/\Bw w w':=by
 have H:=hJ h;have HG:=hJ hB;obtain⟨a3,c3,rfl,-,hc⟩:=h.i;have HC:=hJ hc;clear h hc hB
 cases hb:inB x 1 is.length with
 | false =>
  have HX:=hJ hb;have HNM:Hid (0=findI (named is bs x) nm):=by show 0=_;rw[znb hb];rfl
  clear hb;have HB:Hid (∀A,Bw w (w.alloc (.cells A 30))):=fun A=>(bF _ w).alloc nR _;go_enter Tryz.func204,Tryz.ntmps204
  go_wp2_with fail
  refine(zak x 1 _ _).mono ?_;rintro e w1 ⟨rfl,rfl⟩;rw[HX.o];go_wp2
  go_ret3
  exact⟨0,0,0,rfl,FindP.zero is bs nm,HNM.o,HB.o _⟩
 | true =>
  have HX:=hJ hb;obtain⟨h1,h2⟩:=zay hb;clear hb;obtain⟨j,rfl⟩:∃j:Nat,x=(j:Int)+1:=⟨(x-1).toNat,oM⟩
  have hj:j<is.length:=oM
  obtain⟨g,off,t,rfl,hg,k0,k1,k2,r1,r2,r3⟩:=HC.o j hj;obtain⟨t0,t1,t2⟩:=t;simp only at r1 r2 r3 k0 k1 k2;subst r1 r2;have hps:=HG.o.p j hj;have HNM:Hid (named is bs ((j:Int)+1)=if is[j].1=2 then nmdP bs is[j].2.2 else[]):=zj0 hj;have hil:is.length<=1048576:=HG.o.i;generalize is[j].1=kd at*;generalize is[j].2.1=ln at*;have HPS:Hid (∀p,p∈is[j].2.2->∃x∈is,p∈x.2.2):=fun p hp=>⟨_,gM_ hj,hp⟩
  generalize is[j].2.2=ps at*;have HR:=hJ r3;obtain⟨pa,pc,rfl,-⟩:=r3;have HB:Hid (Bw w (w.alloc (.cells #[dx,dy,.slice (some ⟨g,off,none⟩) is.length c3,bv] 30))):=(bF _ w).alloc nR _;have n0:(w.alloc (.cells #[dx,dy,.slice (some ⟨g,off,none⟩) is.length c3,bv] 30)).cell? ⟨g,off+j*3,none⟩=some (.int .i64 kd):=(HB.o.cell (p:=⟨g,off+j*3,none⟩) hg).trans k0;have n1:(w.alloc (.cells #[dx,dy,.slice (some ⟨g,off,none⟩) is.length c3,bv] 30)).cell? ⟨g,off+j*3+1,none⟩=some (.int .i64 ln):=(HB.o.cell (p:=⟨g,off+j*3+1,none⟩) hg).trans k1;have n2:(w.alloc (.cells #[dx,dy,.slice (some ⟨g,off,none⟩) is.length c3,bv] 30)).cell? ⟨g,off+j*3+2,none⟩=some (.slice pa ps.length pc):=(HB.o.cell (p:=⟨g,off+j*3+2,none⟩) hg).trans k2;have j0:(0:Int)<=(j:Int):=oM
  have j1:(j:Int)<(is.length:Int):=oM
  clear k0 k1 k2;go_enter Tryz.func204,Tryz.ntmps204
  go_wp2_with fail
  refine(zak _ 1 _ _).mono ?_;rintro e w1 ⟨rfl,rfl⟩;rw[HX.o];by_cases hk:kd=2
  ·subst hk;have HW:Hid (∀W,Bw ((w.alloc (.cells #[dx,dy,.slice (some ⟨g,off,none⟩) is.length c3,bv] 30)).alloc (.cells #[.int .i64 2,.int .i64 ln,.slice pa ps.length pc] 59)) W->AtC W w.1.size 30 #[dx,dy,.slice (some ⟨g,off,none⟩) is.length c3,bv]/\AtC W (w.1.size+1) 59 #[.int .i64 2,.int .i64 ln,.slice pa ps.length pc]/\Bw w W/\RInts W (.slice pa ps.length pc) ps/\DR W dx dy (.slice (some ⟨g,off,none⟩) is.length c3) bv xs ys is bs):=fun W b=>by
    have q2:=(AtC.new (w.alloc (.cells #[dx,dy,.slice (some ⟨g,off,none⟩) is.length c3,bv] 30)) 59 #[.int .i64 2,.int .i64 ln,.slice pa ps.length pc]).over b;simp at q2;have bb:Bw w W:=(((bF _ w).alloc nR _).alloc sI _).trans (b.mono sO);exact⟨((AtC.new w 30 _).alloc _).over b,q2,bb,HR.o.below bb nR,H.out.below bb nR⟩
   go_wp2;go_loopw [10] (fun i wr=>∃q:Nat,q<=ps.length/\i=.int .i64 q/\Hid (Bw ((w.alloc (.cells #[dx,dy,.slice (some ⟨g,off,none⟩) is.length c3,bv] 30)).alloc (.cells #[.int .i64 2,.int .i64 ln,.slice pa ps.length pc] 59)) wr)/\Hid (∀s∈nmdP bs (ps.take q),¬s.1=nm)) (fun i _=>ps.length-(intOf i).toNat)
   case atStart=>exact⟨0,zL _,rfl,bF _ _,fun s hs=>by simp[nmdP]at hs⟩
   case round =>
    obtain⟨q,hq,rfl,HQ,HTK⟩:=hrel;obtain⟨A0,A1,-,-,-⟩:=HW.o wr HQ.o;have y2:=A1.c2;clear A0 A1;by_cases hlt:q<ps.length
    ·obtain⟨A0,A1,-,rI,dR⟩:=HW.o wr HQ.o;obtain⟨pa',pc',e1,hcp⟩:=rI;simp only[vJ,true_and]at e1;obtain⟨rfl,rfl⟩:=e1;obtain⟨gp,op,rfl,hgp,kp⟩:=hcp q hlt;obtain⟨Pn,hPn⟩:∃Pn,ps[q]=Pn:=⟨_,rfl⟩
     rw[hPn]at kp;have HNQ:Hid ((∀s∈nmd (blkAt bs Pn),¬s.1=nm)->∀s∈nmdP bs (ps.take (q+1)),¬s.1=nm):=fun h s hs=>by
      rw[zh8 hlt,hPn]at hs;exact(List.mem_append.1 hs).elim (HTK.o s) (h s)
     have HNS:Hid (∀r,(∀c,findI (nmd (blkAt bs Pn)++c) nm=r)->r=findI (named is bs ((j:Int)+1)) nm):=fun r h=>by
      rw[HNM.o,if_pos trivial,zk8 hlt,zen HTK.o,hPn];exact(h _).symm
     have HPM:Hid (∃x∈is,Pn∈x.2.2):=HPS.o Pn (by rw[←hPn];exact gM_ _);have HD:=hJ dR;have hbl:bs.length<=1048576:=HG.o.b;have CB:=hJ (fun(W:Wd)(hd:Bw wr W)=>zix Pn dx dy (.slice (some ⟨g,off,none⟩) is.length c3) bv xs ys is bs wr W HD.o hd hbl);have hbn:=zm5 HG.o Pn;obtain⟨⟨bd,bss,btx⟩,hBD⟩:∃X,blkAt bs Pn=X:=⟨_,rfl⟩
     obtain⟨F,hF⟩:∃F,inB Pn 1 bs.length=F:=⟨_,rfl⟩
     rw[hBD,hF]at CB;rw[hBD]at hbn;have HBD:=hJ hBD;have HFF:=hJ hF;have q0:(0:Int)<=(q:Int):=oM
     have q1:(q:Int)<(ps.length:Int):=oM
     have HC2:Hid (∀W,Bw wr.drew W->AtC W w.1.size 30 #[dx,dy,.slice (some ⟨g,off,none⟩) is.length c3,bv]/\AtC W (w.1.size+1) 59 #[.int .i64 2,.int .i64 ln,.slice (some ⟨gp,op,none⟩) ps.length pc]/\W.cell? ⟨gp,op+q,none⟩=some (.int .i64 Pn)/\DR W dx dy (.slice (some ⟨g,off,none⟩) is.length c3) bv xs ys is bs):=fun W b=>by
      have b2:=zac b;exact⟨A0.over b2,A1.over b2,(b2.cell (p:=⟨gp,op+q,none⟩) hgp).trans kp,HD.o.below b2 nR⟩
     have HKP:=hJ kp;clear hPn kp dR hcp hBD hF A0 A1;go_wp2_with fail
     refine Exists.elim (p:=fun QQ:Exit->Act->Wd->Prop=>∀ex ac W,QQ ex ac W↔(ex=.normal/\∃(z6:Va)(bw:Nat)(sa:OA)(sc:Nat),ac=⟨List.toArray ((Value.agg #[dx,dy,Value.slice (some ⟨g,off,none⟩) is.length c3,bv])::(Value.int IntKind.i64 (↑j+1))::(Value.string nm)::(Value.pointer (some ⟨w.1.size,0,none⟩))::undef::undef::u6::u7::u8::(Value.pointer (some ⟨w.1.size+1,0,none⟩))::(Value.int IntKind.i64 ↑q)::(.pointer (some ⟨bw,0,none⟩))::(.bool F)::u13::(Value.int IntKind.i64 (↑j+1))::(Value.pointer (some ⟨w.1.size,2,none⟩))::(Value.slice (some ⟨g,off,none⟩) is.length c3)::(Value.int IntKind.i64 ↑is.length)::(Value.bool true)::(Value.bool false)::(Value.bool false)::(Value.pointer (some ⟨w.1.size,2,none⟩))::(Value.slice (some ⟨g,off,none⟩) is.length c3)::(Value.int IntKind.i64 (↑j+1))::(Value.int IntKind.i64 ↑j)::(Value.pointer (some ⟨g,off+j*3,none⟩))::(Value.pointer (some ⟨g,off+j*3,none⟩))::(Value.int IntKind.i64 2)::(Value.bool false)::(Value.bool false)::(Value.pointer (some ⟨w.1.size,2,none⟩))::(Value.slice (some ⟨g,off,none⟩) is.length c3)::(Value.int IntKind.i64 (↑j+1))::(Value.int IntKind.i64 ↑j)::(Value.pointer (some ⟨g,off+j*3,none⟩))::(Value.agg #[Value.int IntKind.i64 2,Value.int IntKind.i64 ln,Value.slice (some ⟨gp,op,none⟩) ps.length pc])::(Value.int IntKind.i64 ↑q)::(Value.pointer (some ⟨w.1.size+1,2,none⟩))::(Value.slice (some ⟨gp,op,none⟩) ps.length pc)::(Value.int IntKind.i64 ↑ps.length)::(Value.bool true)::u41::u42::z6::(.agg #[dx,dy,.slice (some ⟨g,off,none⟩) is.length c3,bv])::(.pointer (some ⟨w.1.size+1,2,none⟩))::(.slice (some ⟨gp,op,none⟩) ps.length pc)::(.int .i64 q)::(.pointer (some ⟨gp,op+q,none⟩))::(.int .i64 Pn)::z6::(.agg #[.bool bd,.slice sa bss.length sc,.string btx])::(.bool F)::u53::u54::u55::u56::u57::u58::u59::u60::u61::u62::u63::u64::u65::u66::u67::u68::u69::u70::u71::u72::u73::u74::u75::u76::[]),[]⟩/\AtC W bw 95 #[.bool bd,.slice sa bss.length sc,.string btx]/\RSl wr (.slice sa bss.length sc) bss/\Bw wr W)) ⟨_,fun _ _ _=>Iff.rfl⟩ fun QQ hQQ=>?_;have HQQ:=hJ hQQ;clear hQQ;refine Code.wp_mono (Q:=QQ) ?_ ?_
     rotate_left
     ·refine zbv kL [0,1,2,3,4,5,6,7,8,9,10] [11,12] [([0,1,2,3,4,5,6,7,8,10],[[9,11,12],[11,9,12]])] (fun i=>match i with|0=>.const [] (.agg #[dx,dy,.slice (some ⟨g,off,none⟩) is.length c3,bv])|1=>.const [] (.pointer (some ⟨w.1.size+1,2,none⟩))|2=>.const [1] (.slice (some ⟨gp,op,none⟩) ps.length pc)|3=>.const [] (.int .i64 q)|4=>.const [2,3] (.pointer (some ⟨gp,op+q,none⟩))|5=>.const [4] (.int .i64 Pn)|6=>MkBf 0 5 wr bd btx bss F|7=>MkBv 6 bd btx bss.length F|8=>MkBx 7|9=>.const [7] (.bool F)|10=>MkW 95 #[.bool false,.slice none 0 0,.string ⟨#[]⟩]|_=>.triv) (fun x=>⟨List.toArray ((.agg #[dx,dy,.slice (some ⟨g,off,none⟩) is.length c3,bv])::(.int .i64 (↑j+1))::(.string nm)::(.pointer (some ⟨w.1.size,0,none⟩))::undef::undef::u6::u7::u8::(.pointer (some ⟨w.1.size+1,0,none⟩))::(.int .i64 ↑q)::(x 10)::u12::u13::(.int .i64 (↑j+1))::(.pointer (some ⟨w.1.size,2,none⟩))::(.slice (some ⟨g,off,none⟩) is.length c3)::(.int .i64 ↑is.length)::(.bool true)::(.bool false)::(.bool false)::(.pointer (some ⟨w.1.size,2,none⟩))::(.slice (some ⟨g,off,none⟩) is.length c3)::(.int .i64 (↑j+1))::(.int .i64 ↑j)::(.pointer (some ⟨g,off+j*3,none⟩))::(.pointer (some ⟨g,off+j*3,none⟩))::(.int .i64 2)::(.bool false)::(.bool false)::(.pointer (some ⟨w.1.size,2,none⟩))::(.slice (some ⟨g,off,none⟩) is.length c3)::(.int .i64 (↑j+1))::(.int .i64 ↑j)::(.pointer (some ⟨g,off+j*3,none⟩))::(.agg #[.int .i64 2,.int .i64 ln,.slice (some ⟨gp,op,none⟩) ps.length pc])::(.int .i64 ↑q)::(.pointer (some ⟨w.1.size+1,2,none⟩))::(.slice (some ⟨gp,op,none⟩) ps.length pc)::(.int .i64 ↑ps.length)::(.bool true)::u41::u42::(x 7)::(x 0)::(x 1)::(x 2)::(x 3)::(x 4)::(x 5)::(x 6)::(x 8)::(x 9)::u53::u54::u55::u56::u57::u58::u59::u60::u61::u62::u63::u64::u65::u66::u67::u68::u69::u70::u71::u72::u73::u74::u75::u76::[]),[]⟩) (fun i=>match i with|0=>u44|1=>u45|2=>u46|3=>u47|4=>u48|5=>u49|6=>u50|7=>u43|8=>u51|9=>u52|10=>u11|_=>undef) rfl kL kL kL kL rfl ?_ ?_ ?_
      ·intro jo hj so x iw W hd hp K hK;simp only[mN,nN,or_false]at hj;rcases hj with rfl|rfl|rfl|rfl|rfl|rfl|rfl|rfl|rfl|rfl|rfl<;>refine wpOp_step (o:=_) rfl fun K' hK'=>?_<;>have HK:=hJ (fun(v:Va) (W':Wd) h1 h2=>hK' _ _ (hK v W' h1 h2))<;>simp only[upd,Nat.reduceEqDiff,if_true,if_false]at HK
       ·have k0:=(HC2.o W hp.bel).1;obtain⟨y0,y1,y2,y3⟩:=k0.k4;clear k0;go_simp;exact HK.o _ _ bR rfl
       ·exact cQ6
       ·have e1:x 1=.pointer (some ⟨w.1.size+1,2,none⟩):=hp.post 1 (hd 1 mz0);have y0:=(HC2.o W hp.bel).2.1.c2;simp only[e1]at HK ⊢;go_simp;exact HK.o _ _ bR rfl
       ·exact cQ6
       ·have e2:x 2=.slice (some ⟨gp,op,none⟩) ps.length pc:=hp.post 2 (hd 2 mz0);have e3:x 3=.int .i64 q:=hp.post 3 (hd 3 mz1);simp only[e2,e3]at HK ⊢;go_simp;exact HK.o _ _ bR rfl
       ·have e4:x 4=.pointer (some ⟨gp,op+q,none⟩):=hp.post 4 (hd 4 mz0);have y0:W.cell? ⟨gp,op+q,none⟩=some (.int .i64 Pn):=(HC2.o W hp.bel).2.2.1;simp only[e4]at HK ⊢;go_simp;exact HK.o _ _ bR rfl
       ·have e0:x 0=.agg #[dx,dy,.slice (some ⟨g,off,none⟩) is.length c3,bv]:=hp.post 0 (hd 0 mz0);have e5:x 5=.int .i64 Pn:=hp.post 5 (hd 5 mz1);have dr:=zac hp.bel;simp only[e0,e5]at HK ⊢;clear e0 e5;go_simp;refine(CB.out W dr).mono ?_;rintro e w6 ⟨sv,rfl,R6,B6⟩;obtain⟨sa,sc,rfl,hR6⟩:=R6;go_simp;exact HK.o _ _ B6 ⟨sa,sc,rfl,sa,sc,rfl,hR6⟩
       ·have e6:∃a c,x 6=.tuple #[.agg #[.bool bd,.slice a bss.length c,.string btx],.bool F]/\RSl wr (.slice a bss.length c) bss:=hp.post 6 (hd 6 mz0);obtain⟨sa,sc,e6,-⟩:=e6;have e6a:=hJ e6;simp only[e6]at HK ⊢;clear e6;go_simp;exact HK.o _ _ bR ⟨e6a.out,sa,sc,rfl⟩
       ·have e7:x 6=x 7/\∃a c,x 7=.tuple #[.agg #[.bool bd,.slice a bss.length c,.string btx],.bool F]:=hp.post 7 (hd 7 mz0);obtain⟨-,sa,sc,e7⟩:=e7;have e7a:Hid (.agg #[.bool bd,.slice sa bss.length sc,.string btx]=fstOf (x 7)):=by rw[e7];rfl
        simp only[e7]at HK ⊢;clear e7;go_simp;exact HK.o _ _ bR e7a.out
       ·have e7:x 6=x 7/\∃a c,x 7=.tuple #[.agg #[.bool bd,.slice a bss.length c,.string btx],.bool F]:=hp.post 7 (hd 7 mz0);obtain⟨-,sa,sc,e7⟩:=e7;simp only[e7]at HK ⊢;clear e7;go_simp;exact HK.o _ _ bR rfl
       ·exact cQ74
      ·intro x iw W hp;obtain⟨e7,-⟩:=hp.post 7 dC;obtain⟨sa,sc,e6,R6⟩:=hp.post 6 dC;have e8:x 8=fstOf (x 7):=hp.post 8 dC;obtain⟨e10,z10,A10⟩:=hp.post 10 dC;have l10:=hp.lo 10 dC;have bel:=zac hp.bel;rw[←e7,e6]at e8;rw[e6]at e7
       replace e8:x 8=.agg #[.bool bd,.slice sa bss.length sc,.string btx]:=e8
       have e9:x 9=.bool F:=hp.post 9 dC;have e0:x 0=.agg #[dx,dy,.slice (some ⟨g,off,none⟩) is.length c3,bv]:=hp.post 0 dC;have e1:x 1=.pointer (some ⟨w.1.size+1,2,none⟩):=hp.post 1 dC;have e2:x 2=.slice (some ⟨gp,op,none⟩) ps.length pc:=hp.post 2 dC;have e3:x 3=.int .i64 q:=hp.post 3 dC;have e4:x 4=.pointer (some ⟨gp,op+q,none⟩):=hp.post 4 dC;have e5:x 5=.int .i64 Pn:=hp.post 5 dC;obtain⟨y0,y1,y2⟩:=A10.k3;obtain⟨f0,f1,f2⟩:=A10.f3;have hb10:wr.1.size<=(iw 10).1:=l10.1;have HM:Hid (AtC (W.s3 ((iw 10).1) (.bool bd) (.slice sa bss.length sc) (.string btx)) (iw 10).1 95 #[.bool bd,.slice sa bss.length sc,.string btx]/\RSl wr (.slice sa bss.length sc) bss/\Bw wr (W.s3 ((iw 10).1) (.bool bd) (.slice sa bss.length sc) (.string btx))):=by
        exact cQ44
       clear hp l10 A10 bel hb10 z10;generalize (iw 10).1=bw at*;simp only[e0,e1,e2,e3,e4,e5,e6,←e7,e8,e9,e10];clear e0 e1 e2 e3 e4 e5 e6 e7 e8 e9 e10;refine line2 rfl rfl ?_;go_wp2;exact(HQQ.o _ _ _).2 ⟨rfl,_,bw,sa,sc,rfl,HM.o.1,HM.o.2.1,HM.o.2.2⟩
      ·intro qa hqa l hl x iw W hp;simp only[mN,nN,or_false]at hqa;subst hqa;simp only[mN,nN,or_false]at hl;obtain⟨e7,-⟩:=hp.post 7 dC;obtain⟨sa,sc,e6,R6⟩:=hp.post 6 dC;have e8:x 8=fstOf (x 7):=hp.post 8 dC;obtain⟨e10,z10,A10⟩:=hp.post 10 dC;have l10:=hp.lo 10 dC;have bel:=zac hp.bel;rw[←e7,e6]at e8;rw[e6]at e7
       replace e8:x 8=.agg #[.bool bd,.slice sa bss.length sc,.string btx]:=e8
       have e0:x 0=.agg #[dx,dy,.slice (some ⟨g,off,none⟩) is.length c3,bv]:=hp.post 0 dC;have e1:x 1=.pointer (some ⟨w.1.size+1,2,none⟩):=hp.post 1 dC;have e2:x 2=.slice (some ⟨gp,op,none⟩) ps.length pc:=hp.post 2 dC;have e3:x 3=.int .i64 q:=hp.post 3 dC;have e4:x 4=.pointer (some ⟨gp,op+q,none⟩):=hp.post 4 dC;have e5:x 5=.int .i64 Pn:=hp.post 5 dC;obtain⟨y0,y1,y2⟩:=A10.k3;obtain⟨f0,f1,f2⟩:=A10.f3;have hb10:wr.1.size<=(iw 10).1:=l10.1;have HM:Hid (AtC (W.s3 ((iw 10).1) (.bool bd) (.slice sa bss.length sc) (.string btx)) (iw 10).1 95 #[.bool bd,.slice sa bss.length sc,.string btx]/\RSl wr (.slice sa bss.length sc) bss/\Bw wr (W.s3 ((iw 10).1) (.bool bd) (.slice sa bss.length sc) (.string btx))):=by
        exact cQ44
       clear hp l10 A10 bel hb10 z10;generalize (iw 10).1=bw at*;simp only[e0,e1,e2,e3,e4,e5,e6,←e7,e8,e10];clear e0 e1 e2 e3 e4 e5 e6 e7 e8 e10;rcases hl with rfl|rfl
       ·exact cQ112
       ·exact cQ112
     intro ex ac W3 hq3;obtain⟨rfl,z6,bw,sa,sc,rfl,A3,R3,B3⟩:=(HQQ.o _ _ _).1 hq3;clear hq3 HQQ;have HN:Hid (∀W,Bw W3 W->AtC W bw 95 #[.bool bd,.slice sa bss.length sc,.string btx]/\RSl W (.slice sa bss.length sc) bss/\W.cell? ⟨w.1.size+1,2,none⟩=some (.slice (some ⟨gp,op,none⟩) ps.length pc)/\W.cell? ⟨gp,op+q,none⟩=some (.int .i64 Pn)/\Bw w W/\Bw ((w.alloc (.cells #[dx,dy,.slice (some ⟨g,off,none⟩) is.length c3,bv] 30)).alloc (.cells #[.int .i64 2,.int .i64 ln,.slice (some ⟨gp,op,none⟩) ps.length pc] 59)) W):=fun W b=>by
      have b2:=B3.trans (b.mono B3.size);have b3:=HQ.o.trans (b2.mono HQ.o.size);obtain⟨-,k2,k3,-⟩:=HW.o W b3;exact⟨A3.over b,R3.below b2 nR,k2.cell 2,(b2.cell (p:=⟨gp,op+q,none⟩) hgp).trans HKP.o,k3,b3⟩
     obtain⟨d1,d2,-⟩:=HN.o _ bR;obtain⟨g0,g1,g2⟩:=d1.k3;have HD2:=hJ d2;clear d1 d2 A3 R3 B3 y2 CB HC2;go_wp2_with fail
     refine(zjq bd _ bss btx nm W3 HD2.o hbn).mono ?_;rintro e w4 ⟨k,rfl,SL,B4⟩;obtain⟨d1,d2,d3,d4,d5,d6⟩:=HN.o w4 B4;obtain⟨g0,g1⟩:=d1.k2;have HE:=hJ (aI d5 d6);clear d1 d5 d6 HN B4 HD2 HQ
     cases F with
     | false =>
      have HTN:Hid (∀s∈nmdP bs (ps.take (q+1)),¬s.1=nm):=HNQ.o (by rw[zi4 HFF.o];intro s hs;simp at hs);go_wp2;go_roundw
      case rel=>exact⟨q+1,oM,gK,HE.o.2,HTN.o⟩
      case measure=>simp[intOf];omega
     | true =>
      cases bd with
      | false =>
       have HTN:Hid (∀s∈nmdP bs (ps.take (q+1)),¬s.1=nm):=HNQ.o (by rw[HBD.o];intro s hs;simp[nmd]at hs);go_wp2;go_roundw
       case rel=>exact⟨q+1,oM,gK,HE.o.2,HTN.o⟩
       case measure=>simp[intOf];omega
      | true =>
       rcases SL with⟨rfl,hno⟩| ⟨jj,hjj,rfl,hnm,hsz,hfst⟩
       ·have HTN:Hid (∀s∈nmdP bs (ps.take (q+1)),¬s.1=nm):=HNQ.o (by
         rw[HBD.o];intro s hs e;have hs2:s∈nmdS bss:=by simpa[nmd]using hs
         rcases hno with h0|h0
         ·exact absurd (by rw[e];exact h0) (znc (zey hs2).2)
         ·exact znd h0 s hs2 e)
        clear hno;go_wp2;go_roundw
        case rel=>exact⟨q+1,oM,gK,HE.o.2,HTN.o⟩
        case measure=>simp[intOf];omega
       ·obtain⟨sa',sc',e1,-,hcs⟩:=d2;simp only[vJ,true_and]at e1;obtain⟨rfl,rfl⟩:=e1;obtain⟨gs,os,rfl,-,-,ks⟩:=hcs jj hjj;have HFI:Hid (zh7 bs nm Pn (jj:Int) bss[jj].2):=by
         show zh7 bs nm Pn (jj:Int) bss[jj].2;unfold zh7;rw[HBD.o];exact .inr ⟨HFF.o,rfl,jj,hjj,rfl,rfl,hnm,hsz⟩
        have HFX:Hid (bss[jj].2=findI (named is bs ((j:Int)+1)) nm):=HNS.o _ fun c=>by
         rw[HBD.o];exact zi5 hjj hnm hsz hfst
        clear hfst;generalize bss[jj].2=ino at*;have t0:(0:Int)<=(jj:Int):=oM
        have t1:(jj:Int)<(bss.length:Int):=oM
        clear hcs hnm hsz;go_wp2;go_quiet(fail)
        go_wp2
        go_ret3
        exact⟨_,_,_,rfl,⟨HFI.o,fun _=>HPM.o⟩,HFX.o,bD HE.o.1 _⟩
    ·have HF:=hJ (HW.o wr HQ.o).2.2.1;have HFX:Hid (0=findI (named is bs ((j:Int)+1)) nm):=by
      have e:=HTK.o;rw[tL oM]at e;show 0=_;rw[HNM.o,if_pos trivial,zk7 e]
     clear HQ;go_wp2
     go_ret3
     exact⟨0,0,0,rfl,FindP.zero is bs nm,HFX.o,HF.o⟩
  ·have hk2:decide (kd=2)=false:=dF hk;have HFX:Hid (0=findI (named is bs ((j:Int)+1)) nm):=by show 0=_;rw[HNM.o,if_neg hk];rfl
   go_wp2
   go_ret3
   exact⟨0,0,0,rfl,FindP.zero is bs nm,HFX.o,HB.o⟩
theorem zh9(x:Int)(nm:BA)(dx dy iv bv:Va)(xs ys:List Bool)(is:List Ino)(bs:List Blk)(w:Wd)(h:DR w dx dy iv bv xs ys is bs)(hB:Big 1048576 xs ys is bs):
  Calls Tryz.prog 204 #[.agg #[dx,dy,iv,bv],.int .i64 x,.string nm] w fun e w'=>∃B s k:Int,e=.returned (.tuple #[.int .i64 B,.int .i64 s,.int .i64 k])/\FindP is bs nm B s k/\Bw w w' :=
 (zfl x nm dx dy iv bv xs ys is bs w h hB).mono fun _ _ ⟨a,b,c,h1,h2,_,h3⟩=>⟨a,b,c,h1,h2,h3⟩
theorem find_any(x:Int)(nm:BA)(dx dy iv bv:Va)(xs ys:List Bool)(is:List Ino)(bs:List Blk)(w:Wd)(h:DR w dx dy iv bv xs ys is bs)(hB:Big 1048576 xs ys is bs):
  Calls Tryz.prog 204 #[.agg #[dx,dy,iv,bv],.int .i64 x,.string nm] w fun e w'=>∃B s k:Int,e=.returned (.tuple #[.int .i64 B,.int .i64 s,.int .i64 k])/\zh7 bs nm B s k/\Bw w w' :=
 (zfl x nm dx dy iv bv xs ys is bs w h hB).mono fun _ _ ⟨a,b,c,h1,h2,_,h3⟩=>⟨a,b,c,h1,h2.1,h3⟩
namespace Kit
theorem PM.slotAt{w:Wd}{S:Nat->Prop}{b:Nat}{u v iv bv dv pv:Va}{m:MD}(h:PM w S b u v iv bv dv pv m)(j:Nat)(hj:j<m.4.length)(t:Nat)(ht:t<m.bs[j].2.1.length):
  ∃g c gs cs,bv=.slice (aA g 0) m.4.length c/\w.cell? ⟨g,j*3,none⟩=some (.bool m.bs[j].1)/\w.cell? ⟨g,j*3+1,none⟩=some (.slice (aA gs 0) m.bs[j].2.1.length cs)/\w.cell? ⟨gs,t*2,none⟩=some (.string m.bs[j].2.1[t].1)/\w.cell? ⟨gs,t*2+1,none⟩=some (nI m.bs[j].2.1[t].2)/\(∀k,w.frozen? ⟨gs,k,none⟩=false)/\S gs/\gs<w.1.size /\
   ∀(nm:BA)(z:Int),PM ((w.setCell ⟨gs,t*2,none⟩ (.string nm)).setCell ⟨gs,t*2+1,none⟩ (nI z)) S b u v iv bv dv pv { m with bs:=m.bs.set j (m.bs[j].1,m.bs[j].2.1.set t (nm,z),m.bs[j].2.2) }:=by
 obtain⟨S1,S2,S3,ts,k1,k2,k3,k4,k5,k6,k7⟩:=h.own;obtain⟨T1,T2,T3,ti,tb,z1,z2,z3,z4,z5,z6,z7⟩:=k1;have hl:=z4.len;obtain⟨g,c,e,r0,r1,r2,fz,gl,-⟩:=z4.row.at j oM;obtain⟨i1,i2,i3⟩:=z4.inn j oM hj;obtain⟨gs,cs,e2,q1,q2,aF,-,aD,-⟩:=i2.at t ht;have sT:=z4.si j oM gs (by show(tb[j].2.1).ownBlock=some gs;rw[e2];rfl);have aB:=z7 gs (.inr (.inr sT));have sS:=k7 gs (.inl aB);refine⟨g,c,gs,cs,by rw[e,hl],by rw[r0,i1],by rw[r1,e2],q1,q2,aF,sS,aD,fun nm z=>?_⟩;have un:∀k,k≠gs->((w.setCell ⟨gs,t*2,none⟩ (.string nm)).setCell ⟨gs,t*2+1,none⟩ (nI z)).1[k]?=w.1[k]?:=fun k hk=>(hO_ _ ⟨gs,t*2+1,none⟩ k _ hk).trans (hO_ _ ⟨gs,t*2,none⟩ k _ hk);have aG:=SOwns.set_both (l:=m.bs[j].2.1) (g:=gs) (cap:=cs) (by rw[←e2];exact i2) t ht nm z;have aC:(m.bs[j].2.1.set t (nm,z)).length=m.bs[j].2.1.length:=sI
 have zz:=z4.turn (w':=(w.setCell ⟨gs,t*2,none⟩ (.string nm)).setCell ⟨gs,t*2+1,none⟩ (nI z)) (S':=T3) j oM tb[j] (m.bs[j].1,m.bs[j].2.1.set t (nm,z),m.bs[j].2.2)
  (by rw[List.set_getElem_self];exact z4.row.of_heap fun k hk=>un k fun q=>z4.out j oM gs (by show(tb[j].2.1).ownBlock=some gs;rw[e2];rfl) (q ▸ hk))
  ⟨i1,by rw[e2];exact aG.1,i3⟩
  (fun k _ _ hn=>un k fun q=>hn (by show(tb[j].2.1).ownBlock=some k;rw[e2,q];rfl))
  (fun k hk=>.inl hk) (fun k hk=>hk) (fun k hk=>z4.si j oM k hk)
 exact⟨(un b fun q=>h.nb (q ▸ sS)).trans h.box,⟨S1,S2,S3,ts,⟨T1,T2,T3,ti,_,⟨z1.a.of_heap fun k hk=>un k fun q=>(z5 k (z2 k (.inl hk))).2 (q ▸ sT),z1.b.of_heap fun k hk=>un k fun q=>(z5 k (z2 k (.inr hk))).2 (q ▸ sT),z1.ne⟩,z2,z3.of_heap fun k hk _=>un k fun q=>z6 k hk (q ▸ sT),zz,z5,z6,z7⟩,k2.of_heap fun k hk=>un k fun q=>(k5 gs aB).1 (q ▸ k3 k hk),k3,k4.of_heap fun k hk _=>un k fun q=>(k5 gs aB).2 (q ▸ hk),k5,k6,k7⟩,h.nb⟩
theorem PM.ptrAt{w:Wd}{S:Nat->Prop}{b:Nat}{u v iv bv dv pv:Va}{m:MD}(h:PM w S b u v iv bv dv pv m)(j:Nat)(hj:j<m.3.length)(t:Nat)(ht:t<m.is[j].2.2.length):
  ∃g c gs cs,iv=.slice (aA g 0) m.3.length c/\w.cell? ⟨g,j*3,none⟩=some (nI m.is[j].1)/\w.cell? ⟨g,j*3+2,none⟩=some (.slice (aA gs 0) m.is[j].2.2.length cs)/\w.cell? ⟨gs,t,none⟩=some (nI m.is[j].2.2[t])/\w.frozen? ⟨gs,t,none⟩=false/\S gs/\gs<w.1.size /\
   ∀z:Int,PM (w.setCell ⟨gs,t,none⟩ (nI z)) S b u v iv bv dv pv { m with is:=m.is.set j (m.is[j].1,m.is[j].2.1,m.is[j].2.2.set t z) }:=by
 obtain⟨S1,S2,S3,ts,k1,k2,k3,k4,k5,k6,k7⟩:=h.own;obtain⟨T1,T2,T3,ti,tb,z1,z2,z3,z4,z5,z6,z7⟩:=k1;have hl:=z3.len;obtain⟨g,c,e,r0,r1,r2,fz,gl,-⟩:=z3.row.at j oM;obtain⟨i1,i2,i3⟩:=z3.inn j oM hj;obtain⟨gs,cs,e2,q1,aG,-,aF,-⟩:=i3.at t (by rw[zaf];exact ht);rw[zaf]at e2;have sT:=z3.si j oM gs (by show(ti[j].2.2).ownBlock=some gs;rw[e2];rfl);have aB:=z7 gs (.inr (.inl sT));have sS:=k7 gs (.inl aB);refine⟨g,c,gs,cs,by rw[e,hl],by rw[r0,i1],by rw[r2,e2],q1.trans (by simp[ic,ht]),aG,sS,aF,fun z=>?_⟩;have un:∀k,k≠gs->(w.setCell ⟨gs,t,none⟩ (nI z)).1[k]?=w.1[k]?:=fun k hk=>hO_ _ ⟨gs,t,none⟩ k _ hk;have aC:=ROwns.stored (l:=ic m.is[j].2.2) (g:=gs) (cap:=cs) (by rw[zaf,←e2];exact i3) t (nI z);have aD:(ic m.is[j].2.2).set t (nI z)=ic (m.is[j].2.2.set t z):=by simp[ic,List.map_set]
 rw[zaf,aD]at aC;have zz:=z3.turn (w':=w.setCell ⟨gs,t,none⟩ (nI z)) (S':=T2) j oM ti[j] (m.is[j].1,m.is[j].2.1,m.is[j].2.2.set t z)
  (by rw[List.set_getElem_self];exact z3.row.of_heap fun k hk=>un k fun q=>z3.out j oM gs (by show(ti[j].2.2).ownBlock=some gs;rw[e2];rfl) (q ▸ hk))
  ⟨i1,i2,by rw[e2];exact aC.1⟩
  (fun k _ _ hn=>un k fun q=>hn (by show(ti[j].2.2).ownBlock=some k;rw[e2,q];rfl))
  (fun k hk=>.inl hk) (fun k hk=>hk) (fun k hk=>z3.si j oM k hk)
 exact⟨(un b fun q=>h.nb (q ▸ sS)).trans h.box,⟨S1,S2,S3,ts,⟨T1,T2,T3,_,tb,⟨z1.a.of_heap fun k hk=>un k fun q=>(z5 k (z2 k (.inl hk))).1 (q ▸ sT),z1.b.of_heap fun k hk=>un k fun q=>(z5 k (z2 k (.inr hk))).1 (q ▸ sT),z1.ne⟩,z2,zz,z4.of_heap fun k hk _=>un k fun q=>z6 gs sT (q ▸ hk),z5,z6,z7⟩,k2.of_heap fun k hk=>un k fun q=>(k5 gs aB).1 (q ▸ k3 k hk),k3,k4.of_heap fun k hk _=>un k fun q=>(k5 gs aB).2 (q ▸ hk),k5,k6,k7⟩,h.nb⟩
end Kit
namespace Kit
theorem PM.lnkAt{w:Wd}{S:Nat->Prop}{b:Nat}{u v iv bv dv pv:Va}{m:MD}(h:PM w S b u v iv bv dv pv m)(j:Nat)(hj:j<m.3.length)(hp:m.is[j].2.2.length=2):
  ∃g c,iv=.slice (aA g 0) m.3.length c/\w.cell? ⟨g,j*3+1,none⟩=some (nI m.is[j].2.1)/\w.frozen? ⟨g,j*3+1,none⟩=false/\S g/\g<w.1.size /\
   ∀z:Int,PM (w.setCell ⟨g,j*3+1,none⟩ (nI z)) S b u v iv bv dv pv { m with is:=m.is.set j (m.is[j].1,z,m.is[j].2.2) }:=by
 obtain⟨g,c,gs,cs,rfl,k0,k2,kt,kf,kS,kl,hput⟩:=h.ptrAt j hj 0 oM;obtain⟨g',c',p',e1,q0,q1,q2,-,qf,ql,qS⟩:=h.inoAt j hj;simp only[vJ,oJ,aJ,true_and,and_true]at e1;obtain⟨rfl,rfl⟩:=e1;refine⟨g,c,rfl,q1,qf _,qS,ql,fun z=>?_⟩;obtain⟨S1,S2,S3,ts,k1,k2',k3,k4,k5,k6,k7⟩:=h.own;obtain⟨T1,T2,T3,ti,tb,z1,z2,z3,z4,z5,z6,z7⟩:=k1;have hl:=z3.len;obtain⟨g3,c3,e3,r0,r1,r2,fz,gl,-⟩:=z3.row.at j oM;simp only[vJ,oJ,aJ,and_true]at e3;obtain⟨rfl,-,rfl⟩:=e3;obtain⟨i1,i2,i3⟩:=z3.inn j oM hj;have gT:=z3.so g rfl;have sS1:=z7 g (.inr (.inl gT));have un:∀k,k≠g->(w.setCell ⟨g,j*3+1,none⟩ (nI z)).1[k]?=w.1[k]?:=fun k hk=>hO_ _ ⟨g,j*3+1,none⟩ k _ hk;have hj':j<ti.length:=oM
 have row:=z3.row;rw[←hl]at row;have rs:=row.set1 j hj' (nI z);rw[hl]at rs;have nG:∀k,(ti[j]'hj').2.2.ownBlock=some k->k≠g:=fun k hk e=>by
  subst e;exact z3.out j hj' k hk rfl
 have hlen:=hl;have zz:=z3.turn (w':=w.setCell ⟨g,j*3+1,none⟩ (nI z)) (S':=T2) j oM (ti[j].1,nI z,ti[j].2.2) (m.is[j].1,z,m.is[j].2.2)
  rs
  ⟨i1,rfl,(i3.of_heap fun k hk=>un k (nG k hk))⟩
  (fun k h1 h2 hn=>un k fun q=>h2 (by rw[q];rfl))
  (fun k hk=>.inl hk) (fun k hk=>hk) (fun k hk=>z3.si j oM k hk)
 exact⟨(un b fun q=>h.nb (q ▸ qS)).trans h.box,⟨S1,S2,S3,ts,⟨T1,T2,T3,_,tb,⟨z1.a.of_heap fun k hk=>un k fun q=>(z5 k (z2 k (.inl hk))).1 (q ▸ gT),z1.b.of_heap fun k hk=>un k fun q=>(z5 k (z2 k (.inr hk))).1 (q ▸ gT),z1.ne⟩,z2,zz,z4.of_heap fun k hk _=>un k fun q=>z6 g gT (q ▸ hk),z5,z6,z7⟩,k2'.of_heap fun k hk=>un k fun q=>(k5 g sS1).1 (q ▸ k3 k hk),k3,k4.of_heap fun k hk _=>un k fun q=>(k5 g sS1).2 (q ▸ hk),k5,k6,k7⟩,h.nb⟩
end Kit
variable {Z : ZT}
theorem zla(T:Nat->Prop)(b:Nat)(x y:Int)(w:Wd)(h:BT Z w T b)(hT:∀k,w.1.size<=k->T k):
  Calls Tryz.prog 213 #[.pointer (aA b 0),nI x,nI y] w fun e w'=>e=.returned (.tuple #[])/\BT Z w' T b/\Chg T w w':=by
 obtain⟨S,u,v,iv,bv,dv,pv,m,hP,hSL,hLb,hS⟩:=h;obtain⟨a1,c1,a2,c2,a3,c3,a4,c4,a5,c5,a6,c6,rfl,rfl,rfl,rfl,rfl,rfl⟩:=hP.form;obtain⟨x0,x1,x2,x3,x4,x5,x6⟩:=AtC.sev hP.box;have HP:=hJ hP;have HS:=hJ hS;have HLB:Hid (T b/\b<w.1.size):=⟨hLb,hP.box.lt⟩
 have HTT:=hJ hT;have q5:=hP.box.frozen 0;clear hP hS hSL hLb hT;go_enter Tryz.func213,Tryz.ntmps213
 go_wp2_with fail
 refine(zct x _ _ _ _ _ _ m w HP.o.mr HS.o.big).mono ?_;rintro e w2 ⟨u1,u2,u3,u4,u5,u6,rfl,O2,B2⟩;obtain⟨b1,d1,b2,d2,b3,d3,b4,d4,b5,d5,b6,d6,rfl,rfl,rfl,rfl,rfl,rfl⟩:=O2.mr.form;obtain⟨n,hn⟩:∃n,({ m with ds:=za4 x m.ds }:MD).ds.length=n:=⟨_,rfl⟩
 rw[hn]at O2;simp only[hn];have A2:=HP.o.box.over B2;have hn40:n<=40:=by rw[←hn];exact(zd6 HS.o x).l
 obtain⟨W3,hW3⟩:∃W3,(((((((w2.setCell ⟨b,0,none⟩ (sL b1 m.1 d1)).setCell ⟨b,1,none⟩ (sL b2 m.2 d2)).setCell ⟨b,2,none⟩ (sL b3 m.3 d3)).setCell ⟨b,3,none⟩ (sL b4 m.4 d4)).setCell ⟨b,4,none⟩ (sL b5 m.5 d5)).setCell ⟨b,5,none⟩ (.slice b6 n d6)).setCell ⟨b,6,none⟩ (nI m.nx))=W3:=⟨_,rfl⟩
 have HH:Hid (PM W3 (fun k=>w.1.size<=k) b (sL b1 m.1 d1) (sL b2 m.2 d2) (sL b3 m.3 d3) (sL b4 m.4 d4) (sL b5 m.5 d5) (.slice b6 n d6) { m with ds:=za4 x m.ds }/\Sh Z { m with ds:=za4 x m.ds }/\({ m with ds:=za4 x m.ds }:MD).ds.length=n/\Chg T w W3):=by
  rw[←hW3];exact⟨PM.store A2 O2 (by have:=HLB.o;omega),zd6 HS.o x,hn,((((((((Chg.of_below B2).setCell HLB.o.1 _).setCell HLB.o.1 _).setCell HLB.o.1 _).setCell HLB.o.1 _).setCell HLB.o.1 _).setCell HLB.o.1 _).setCell HLB.o.1 _)⟩
 obtain⟨r0,r1,r2,r3,r4,r5,r6⟩:=A2.k7;obtain⟨v0,v1,v2,v3,v4,v5,v6⟩:=A2.f7;have y5:=HH.o.1.box.c5;clear A2 O2 B2 hn q5 x0 x1 x2 x3 x4 x5 x6;go_wp2;go_loopw [6] (fun i wr=>∃j:Nat,j<=n/\i=.int .i64 j/\Hid (∃m':MD,PM wr (fun k=>w.1.size<=k) b (.slice b1 m.1.length d1) (.slice b2 m.2.length d2) (.slice b3 m.3.length d3) (.slice b4 m.4.length d4) (.slice b5 m.5.length d5) (.slice b6 n d6) m'/\Sh Z m'/\m'.6.length=n/\Chg T w wr)) (fun i _=>n-(intOf i).toNat)
 case atStart=>exact⟨0,zL _,rfl,_,HH.o⟩
 case round =>
  obtain⟨j,hj,rfl,HR⟩:=hrel;obtain⟨m',q1,q2,q3,q4⟩:=HR.o;have y5:=q1.box.c5;by_cases hlt:j<n
  ·have hj2:j<m'.6.length:=oM
   have hdk:=q2.dd _ (gM_ hj2);obtain⟨g,c,p,e1,nn,-,hz,gS,hglt,hset⟩:=q1.dep_at j hj2;rw[q3]at e1;simp only[vJ,true_and]at e1;obtain⟨rfl,rfl⟩:=e1;obtain⟨X,hX⟩:∃X,m'.ds[j]=X:=⟨_,rfl⟩
   rw[hX]at nn hset hdk;obtain⟨id,kd,io,pt,bk,sl,nm,bt,ot,af,bl⟩:=X;simp only[DCells]at nn;obtain⟨-,n1,-,-,n4,-,-,-,-,n9,-⟩:=nn;have f9:=hz (j*11+9);have H0:Hid (∃M',PM wr (fun k=>w.1.size<=k) b (sL b1 m.1 d1) (sL b2 m.2 d2) (sL b3 m.3 d3) (sL b4 m.4 d4) (sL b5 m.5 d5) (.slice (aA g 0) n d6) M'/\Sh Z M'/\M'.ds.length=n/\Chg T w wr):=⟨m',q1,q2,q3,q4⟩
   have HE:Hid (∃W9,wr.setCell ⟨g,j*11+9,none⟩ (nI y)=W9/\W9.cell? ⟨b,5,none⟩=some (.slice (aA g 0) n d6)/\W9.cell? ⟨g,j*11+4,none⟩=some (nI bk)/\Hid (∃M',PM W9 (fun k=>w.1.size<=k) b (sL b1 m.1 d1) (sL b2 m.2 d2) (sL b3 m.3 d3) (sL b4 m.4 d4) (sL b5 m.5 d5) (.slice (aA g 0) n d6) M'/\Sh Z M'/\M'.ds.length=n/\Chg T w W9)):=by
    have P9:=hset 9 (nI y) (⟨id,kd,io,pt,bk,sl,nm,bt,ot,y,bl⟩:Dp) dC rfl rfl;have hj9:j<(m'.ds.set j (⟨id,kd,io,pt,bk,sl,nm,bt,ot,y,bl⟩:Dp)).length:=by rw[lS];exact hj2
    obtain⟨g2,c2',p2,e2,nn2,-⟩:=P9.dep_at j hj9;have e3:({ m' with ds:=m'.ds.set j (⟨id,kd,io,pt,bk,sl,nm,bt,ot,y,bl⟩:Dp) }:MD).ds[j]'hj9=⟨id,kd,io,pt,bk,sl,nm,bt,ot,y,bl⟩:=by show(m'.ds.set j _)[j]'_=_;simp
    simp only[vJ,oJ,aJ,and_true]at e2;obtain⟨rfl,-,-⟩:=e2;rw[e3]at nn2;simp only[DCells]at nn2;obtain⟨-,-,-,-,z4,-⟩:=nn2;refine⟨_,rfl,P9.box.cell 5,z4,_,P9,q2.deps (by rw[lS];exact q2.l) (fun q hq=>(mS hq).elim (q2.dd q) (fun e=>e ▸ ⟨⟨hdk.io,hdk.pt,hdk.bk,hdk.sl,hdk.bl,hdk.bn,hdk.nm⟩,hdk.id⟩)) (zd5 _ j hj2 _ (by rw[hX];exact⟨Iff.rfl,fun _=>⟨rfl,rfl⟩⟩)),by show(m'.ds.set j _).length=n;rw[lS];exact q3,q4.setCell (HTT.o _ gS) _⟩
   have j0:(0:Int)<=(j:Int):=oM
   have j1:(j:Int)<(n:Int):=oM
   clear q1 q2 q3 q4 HR hX hset hdk hz gS;by_cases h1:kd=4
   ·subst h1;by_cases h2:af=x
    ·subst h2;obtain⟨W9,hW9,a5,a4',HW⟩:=HE.o;by_cases h3:y=0
     ·subst h3;obtain⟨U,hU⟩:∃U,uoB bk=U:=⟨_,rfl⟩
      have CU:Hid (∀W,Calls Tryz.prog 203 #[nI bk] W fun e w'=>e=.returned (nI U)/\w'=W):=fun W=>by rw[←hU];exact zbl bk W
      clear hU;go_wp2_with fail
      refine(CU.out _).mono ?_;rintro e w9 ⟨rfl,rfl⟩;go_wp2_with fail
      obtain⟨M',r1,r2,r3,r4⟩:=HW.o;refine(zbz _ b U _ _ _ _ _ _ M' _ r1).mono ?_;rintro e w10 ⟨rfl,P10,C10⟩;have HZ:Hid (∃M',PM w10 (fun k=>w.1.size<=k) b (sL b1 m.1 d1) (sL b2 m.2 d2) (sL b3 m.3 d3) (sL b4 m.4 d4) (sL b5 m.5 d5) (.slice (aA g 0) n d6) M'/\Sh Z M'/\M'.ds.length=n/\Chg T w w10):=⟨_,P10,r2.mark U,by rw[show(markU U M').ds=M'.ds by unfold markU;split<;>rfl];exact r3,r4.trans (C10.mono HTT.o)⟩
      clear r1 r2 r3 r4 P10 C10;go_wp2;go_roundw
      case rel=>exact⟨j+1,oM,gK,HZ.o⟩
      case measure=>simp[intOf];omega
     ·exact cQ118
    ·exact cQ46
   ·exact cQ46
  ·have HF:Hid (BT Z wr T b/\Chg T w wr):=⟨⟨_,_,_,_,_,_,_,m',q1,HTT.o,HLB.o.1,q2⟩,q4⟩
   exact cQ101
end Go.Proofs.YtgnplpmgkegcnaaGreat
