/- Texts. -/
import Derived.Test.YtgnplpmgkegcnaaGreatW02
import Derived.Test.YtgnplpmgkegcnaaGreatW03
import Derived.Test.YtgnplpmgkegcnaaGreatW04
set_option maxRecDepth 100000
set_option maxHeartbeats 12800000
namespace Go.Proofs.YtgnplpmgkegcnaaGreat
open Go.RowKit Kit
def noSl:List Sl:=[(⟨#[]⟩,0),(⟨#[]⟩,0),(⟨#[]⟩,0),(⟨#[]⟩,0)]
def ziz:Array Va:=#[.string ⟨#[]⟩,nI 0,.string ⟨#[]⟩,nI 0,.string ⟨#[]⟩,nI 0,.string ⟨#[]⟩,nI 0]
theorem make4(w:Wd):(Instr.makeSlice 87 (nI 4) (nI 4)).run Tryz.prog w=.ok (.slice (aA w.1.size 0) 4 4) (w.n ziz 90):=by kernel_rfl
theorem own4(w:Wd)(base:Nat)(hb:base<=w.1.size):SOwns (w.n ziz 90) base 90 (.slice (aA w.1.size 0) 4 4) noSl :=
 SOwns.lit w base 90 ziz noSl rfl hb (by simp[noSl,maxLen])
theorem zi0:KOk ((true,noSl,⟨#[]⟩):Blk):=⟨⟨fun _=>rfl,dC,fun s hs=>by simp[noSl]at hs;subst hs;exact⟨dC,.inl ⟨rfl,rfl⟩⟩,dC⟩,fun e=>absurd e dC,fun _=>rfl,fun s hs=>by simp[noSl]at hs;subst hs;exact .inl ⟨rfl,rfl⟩,fun i j hi hj _ _=>by
 have:∀s∈noSl,s.1.size=0:=fun s hs=>by simp[noSl]at hs;subst hs;rfl
 exact this _ (gM_ hi)⟩
theorem zd8(w:Wd):
  Calls Tryz.prog 113 #[] w fun e w'=>∃a c,e=.returned (.agg #[.bool true,.slice a 4 c,eT])/\SOwns w' w.1.size 90 (.slice a 4 c) noSl/\Bw w w':=by
 have mk:=make4;have HO:=hJ (fun o1=>own4 (w.alloc o1) w.1.size sI);go_enter Tryz.func113,Tryz.ntmps113
 go_wp2;refine bY (v:=.agg #[.bool true,.slice (aA (w.1.size+1) 0) 4 4,eT]) sR0 rfl ⟨_,_,rfl,by simpa using HO.o _,((bF _ w).alloc nR _).alloc sI _⟩
namespace Kit
theorem zia:∀(l:List Bool),ff l≠0->ff l-1<l.length/\l[ff l-1]?=some false
 | [],h=>by simp[ff]at h
 | b::r,h=>by
  cases b with
  | false=>simp[ff]
  | true =>
   have hr:ff r≠0:=fun e=>h (by simp[ff,e]);have:=zia r hr;have e:ff (true::r)=ff r+1:=by simp[ff,hr]
   rw[e];refine⟨sO,?_⟩;rw[show ff r+1-1=(ff r-1)+1 by omega,List.getElem?_cons_succ];exact this.2
theorem zib{m:MD}(h:ff m.xs≠0):takeB m={ m with xs:=m.xs.set (ff m.xs-1) true,fs:=m.fs.set 0 true }:=by unfold takeB;rw[if_neg h]
theorem znj{m:MD}(h:Sh Z0 m)(hf:ff m.xs≠0)(j t:Nat)(hj:j<m.3.length)(ht:t<m.is[j].2.2.length)(h0:m.is[j].2.2[t]=0)(hk:m.is[j].1≠0):
  Sh Z0 { m with xs:=m.xs.set (ff m.xs-1) true,fs:=m.fs.set 0 true,is:=m.is.set j (m.is[j].1,m.is[j].2.1,m.is[j].2.2.set t (ff m.xs:Int)) }:=by
 obtain⟨p1,p2⟩:=zia m.xs hf;have hx:=h.ii _ (gM_ hj);have aB:=h.x;refine⟨by rw[lS];exact h.x,h.y,by rw[lS];exact h.i,fun q hq=>(mS hq).elim (h.ii q) (fun e=>?_),h.b,h.bb,by rw[lS];exact h.f,h.l,h.dd,h.nx,?_⟩
 ·subst e;refine⟨hx.l,by rw[lS];exact hx.n,fun p hp=>(mS hp).elim (hx.p p) (fun e=>?_),hx.z.elim .inl fun z=>z.elim (fun z=>.inr (.inl z)) fun z=>absurd z.1 hk⟩;omega
 refine h.k.take j (ff m.xs-1) _ _ p1 p2 (fun aC q q1=>?_);show(m.is[j].2.2.set t (ff m.xs:Int)).count q<=_;rw[List.count_set ht,h0];have e:((ff m.xs-1:Nat):Int)+1=(ff m.xs:Int):=oM
 rw[e];by_cases hq:q=(ff m.xs:Int)
 ·subst hq;simp
 have:((ff m.xs:Int)==q)=false:=beq_eq_false_iff_ne.mpr (fun x=>hq x.symm);simp[this];omega
end Kit
namespace Xd
def noI:Ino:=(0,0,[0,0])
def newIs:List Ino:=(2,1,[0,0])::List.replicate 7 noI
def newBs:List Blk:=List.replicate 16 zB
def zD:Array Va:=#[.slice none 0 0,.slice none 0 0,.slice none 0 0,.slice none 0 0]
structure Dw(w w':Wd)(b:Nat)(u v:Va)(g:Nat)(bv:Va)(is:List Ino):Prop where
 res:AtC w' w.1.size 30 zD
 box:AtC w' b 30 #[u,v,.slice (aA g 0) 8 8,bv]
 dsk:DO w' (fun k=>w.1.size<k/\k≠b) u v (.slice (aA g 0) 8 8) bv newX newY is newBs
 bel:Bw w w'
 hb:w.1.size<b
theorem Dw.put{w w' w1:Wd}{b:Nat}{u v:Va}{g:Nat}{bv:Va}{is:List Ino}(h:Dw w w' b u v g bv is)(j:Nat)(hj:j<is.length)(k l:Int)(p:Va)(hb:Bw w' w1)(hO:ROwns w1 w'.1.size 3 p (ic [0,0])):
  Dw w (((w1.setCell ⟨g,j*3,none⟩ (nI k)).setCell ⟨g,j*3+1,none⟩ (nI l)).setCell ⟨g,j*3+2,none⟩ p) b u v g bv (is.set j (k,l,[0,0])):=by
 obtain⟨-,-,hg,-,hS,aB⟩:=h.dsk.atI rfl j hj;have aD:=h.box.lt;have aC:=h.bel.size;refine⟨(((h.res.over hb).other oM _).other oM _).other oM _,(((h.box.over hb).other (Ne.symm aB) _).other (Ne.symm aB) _).other (Ne.symm aB) _,?_,(((h.bel.trans (hb.mono aC)).setCell oG _).setCell oG _).setCell oG _,h.hb⟩;have:=h.dsk.putI rfl j hj (nI k,nI l,p) (k,l,[0,0]) hb ⟨rfl,rfl,hO.base_le (zL _)⟩ (fun k hk=>(hO.lt k hk).1);have hr:=h.res.lt;exact this.mono fun k hk=>hk.elim id (fun e=>⟨oM,oM⟩)
theorem Dw.below{w w' w1:Wd}{b:Nat}{u v:Va}{g:Nat}{bv:Va}{is:List Ino}(h:Dw w w' b u v g bv is)(hb:Bw w' w1):Dw w w1 b u v g bv is :=
 ⟨h.res.over hb,h.box.over hb,h.dsk.below hb nR,h.bel.trans (hb.mono h.bel.size),h.hb⟩
theorem Dw.drew{w w':Wd}{b:Nat}{u v:Va}{g:Nat}{bv:Va}{is:List Ino}(h:Dw w w' b u v g bv is):Dw w w'.drew b u v g bv is:=h.below bR.drew
def PostD(MI MB:Array Va)(i lo hi:Nat)(w:Wd)(v:Va):Prop :=
 (i=0->∃u u',v=.agg #[u,u']/\Two w lo u u' newX newY/\∀k,(u.ownBlock=some k\/u'.ownBlock=some k)->k<hi) /\
 (i=1->v=.slice (aA lo 0) 8 8/\hi=lo+1/\AtC w lo 59 MI) /\
 (i=2->v=.slice (aA lo 0) 16 16/\hi=lo+1/\AtC w lo 95 MB) /\
 (i=4->v=.pointer (aA lo 0)/\hi=lo+1/\AtC w lo 30 #[.slice none 0 0,.slice none 0 0,.slice none 0 0,.slice none 0 0])
theorem PostD.stable(MI MB:Array Va)(i lo hi:Nat)(w w':Wd)(v:Va)(h:PostD MI MB i lo hi w v)(hb:Bw w w'):PostD MI MB i lo hi w' v :=
 ⟨fun e=>by obtain⟨u,u',h1,h2,h3⟩:=h.1 e;exact⟨u,u',h1,h2.below hb nR,h3⟩,fun e=>by obtain⟨h1,h2,h3⟩:=h.2.1 e;exact⟨h1,h2,h3.over hb⟩,
  fun e=>by obtain⟨h1,h2,h3⟩:=h.2.2.1 e;exact⟨h1,h2,h3.over hb⟩,fun e=>by obtain⟨h1,h2,h3⟩:=h.2.2.2 e;exact⟨h1,h2,h3.over hb⟩⟩
def InvD(s:List Nat)(x:Nat->Value):Prop:=3∈s->(0∈s/\1∈s/\2∈s)/\∃u u' g1 g2,x 0=.agg #[u,u']/\x 1=.slice (aA g1 0) 8 8/\x 2=.slice (aA g2 0) 16 16/\x 3=.agg #[u,u',.slice (aA g1 0) 8 8,.slice (aA g2 0) 16 16]
theorem InvD.next{s:List Nat}{x:Nat->Value}(h:InvD s x){j:Nat}{v:Va}(hj:¬j∈s)(h3:j≠3):InvD (j::s) (upd x j v):=fun hm=>by
 rcases List.mem_cons.1 hm with e|hm
 ·exact absurd e.symm h3
 ·obtain⟨⟨h0,h1,h2⟩,u,u',g1,g2,e0,e1,e2,e3⟩:=h hm;have ne:∀i∈s,i≠j:=fun i hi e=>hj (e ▸ hi);exact⟨⟨mC _ h0,mC _ h1,mC _ h2⟩,u,u',g1,g2,by rw[zaq _ _ _ _ (ne _ h0),e0],by rw[zaq _ _ _ _ (ne _ h1),e1],by rw[zaq _ _ _ _ (ne _ h2),e2],by rw[zaq _ _ _ _ (ne _ hm),e3]⟩
end Xd
namespace Xd
theorem specNew_anyB(w:Wd):
  Calls Tryz.prog 118 #[] w fun e w'=>∃u v,e=.returned (.agg #[u,v])/\Two w' w.1.size u v newX newY/\Bw w w':=by
 have mk:=make16;have aB:=make8;go_enter Tryz.func118,Tryz.ntmps118
 go_wp2
 go_region
 all_goals go_wp2
 ·exact bY (v:=.agg #[.slice (some ⟨w.1.size+1,0,none⟩) 16 16,.slice (some ⟨w.1.size+1+1,0,none⟩) 8 8]) sR0 rfl ⟨_,_,rfl,zd3 _ _ _ _ (heap4 _ _ _ _ _).1 (heap4 _ _ _ _ _).2.1 oM oM oM,gW_⟩
 ·exact bY (v:=.agg #[.slice (some ⟨w.1.size+1,0,none⟩) 16 16,.slice (some ⟨w.1.size+1+1+1,0,none⟩) 8 8]) sR0 rfl ⟨_,_,rfl,zd3 _ _ _ _ (heap4 _ _ _ _ _).1 (heap4 _ _ _ _ _).2.2 oM oM oM,gW_⟩
 ·exact bY (v:=.agg #[.slice (some ⟨w.1.size+1+1,0,none⟩) 16 16,.slice (some ⟨w.1.size+1,0,none⟩) 8 8]) sR0 rfl ⟨_,_,rfl,zd3 _ _ _ _ (heap4 _ _ _ _ _).2.1 (heap4 _ _ _ _ _).1 oM oM oM,gW_⟩
 ·exact bY (v:=.agg #[.slice (some ⟨w.1.size+1+1+1,0,none⟩) 16 16,.slice (some ⟨w.1.size+1,0,none⟩) 8 8]) sR0 rfl ⟨_,_,rfl,zd3 _ _ _ _ (heap4 _ _ _ _ _).2.2 (heap4 _ _ _ _ _).1 oM oM oM,gW_⟩
 ·exact bY (v:=.agg #[.slice (some ⟨w.1.size+1+1,0,none⟩) 16 16,.slice (some ⟨w.1.size+1+1+1,0,none⟩) 8 8]) sR0 rfl ⟨_,_,rfl,zd3 _ _ _ _ (heap4 _ _ _ _ _).2.1 (heap4 _ _ _ _ _).2.2 oM oM oM,gW_⟩
 exact bY (v:=.agg #[.slice (some ⟨w.1.size+1+1+1,0,none⟩) 16 16,.slice (some ⟨w.1.size+1+1,0,none⟩) 8 8]) sR0 rfl ⟨_,_,rfl,zd3 _ _ _ _ (heap4 _ _ _ _ _).2.2 (heap4 _ _ _ _ _).2.1 oM oM oM,gW_⟩
structure Ds(w w':Wd)(b:Nat)(u v iv bv:Va)(is:List Ino)(bs:List Blk):Prop where
 res:AtC w' w.1.size 30 zD
 box:AtC w' b 30 #[u,v,iv,bv]
 dsk:DO w' (fun k=>w.1.size<k/\k≠b) u v iv bv newX newY is bs
 bel:Bw w w'
 hb:w.1.size<b
namespace Ds
variable {w w' w1 : World} {b : Nat} {u v iv bv : Value} {is : List Ino} {bs : List Blk}
theorem below(h:Ds w w' b u v iv bv is bs)(hb:Below w'.1.size w' w1):Ds w w1 b u v iv bv is bs :=
 ⟨h.res.over hb,h.box.over hb,h.dsk.below hb nR,h.bel.trans (hb.mono h.bel.size),h.hb⟩
theorem drew(h:Ds w w' b u v iv bv is bs):Ds w w'.drew b u v iv bv is bs:=h.below bR.drew
theorem put(h:Ds w w' b u v iv bv is bs){g n cap:Nat}(hv:iv=.slice (some ⟨g,0,none⟩) n cap)(j:Nat)(hj:j<is.length)(k l:Int)(p:Value)(hb:Below w'.1.size w' w1)(hO:ROwns w1 w'.1.size 3 p (ic [0,0])):
  Ds w (((w1.setCell ⟨g,j*3,none⟩ (.int .i64 k)).setCell ⟨g,j*3+1,none⟩ (.int .i64 l)).setCell ⟨g,j*3+2,none⟩ p) b u v iv bv (is.set j (k,l,[0,0])) bs:=by
 obtain⟨-,-,hg,-,hS,aB⟩:=h.dsk.atI hv j hj;have aD:=h.box.lt;have aC:=h.bel.size;refine⟨(((h.res.over hb).other oM _).other oM _).other oM _,(((h.box.over hb).other (Ne.symm aB) _).other (Ne.symm aB) _).other (Ne.symm aB) _,?_,(((h.bel.trans (hb.mono aC)).setCell oG _).setCell oG _).setCell oG _,h.hb⟩;have:=h.dsk.putI hv j hj (.int .i64 k,.int .i64 l,p) (k,l,[0,0]) hb ⟨rfl,rfl,hO.base_le (Nat.zero_le _)⟩ (fun k hk=>(hO.lt k hk).1);have hr:=h.res.lt;exact this.mono fun k hk=>hk.elim id (fun e=>⟨by omega,by omega⟩)
theorem app(h:Ds w w' b u v iv bv is bs):∃ti,TOwns w' 59 iv ti/\ti.length=is.length/\∀(w1 w2:World)(aB p:Value),Below w'.1.size w' w1->ROwns w1 w'.1.size 3 p (ic [0,0]) ->
  TOwns w2 59 aB (ti++[(.int .i64 0,.int .i64 0,p)])->w1.grownBy w2 iv.ownBlock->(∀k,aB.ownBlock=some k->iv.ownBlock=some k\/w1.1.size<=k) ->
  (AtC w2 b 30 #[u,v,iv,bv])/\Ds w (w2.setCell ⟨b,2,none⟩ aB) b u v aB bv (is++[noI]) bs:=by
 obtain⟨ti,h1,h2,h3⟩:=h.dsk.appI;refine⟨ti,h1,h2,fun w1 w2 aB p hb hO hr hg hv=>?_⟩;have hS:=(fun(S1:Nat->Prop) k (hk:iv.ownBlock=some k) (q:∀k,iv.ownBlock=some k->S1 k)=>q k hk) (fun k=>w.1.size<k/\k≠b)
 have aC:∀k,iv.ownBlock=some k->w.1.size<k/\k≠b:=by
  obtain⟨S1,S2,S3,ti,tb,a1,a2,a3,a4,a5,a6,a7⟩:=h.dsk;exact fun k hk=>a7 k (.inr (.inl (a3.so k hk)))
 have aH:=h.box.lt;have aF:=h.bel.size;have aD:=hb.size;have aG:=h.res.lt;have e1:AtC w2 w.1.size 30 zD:=(hg.block _ oM (fun e=>by have:=aC _ e.symm;omega)).trans (h.res.over hb);have e2:AtC w2 b 30 #[u,v,iv,bv]:=(hg.block _ oM (fun e=>by have:=aC _ e.symm;omega)).trans (h.box.over hb);have d:=h3 w1 w2 aB (.int .i64 0,.int .i64 0,p) noI hb ⟨rfl,rfl,hO.base_le (Nat.zero_le _)⟩ (fun k hk=>(hO.lt k hk).1) hr hg hv;have b2:=(h.bel.trans (hb.mono aF)).grown hg oM (fun k hk=>by have:=aC k hk;omega);refine⟨e2,⟨e1.other (by have:=h.hb;omega) _,e2.set 2 aB,?_,b2.setCell (by show w.1.size<=b;have:=h.hb;omega) _,h.hb⟩⟩;have d2:=d.mono (S':=fun k=>w.1.size<k/\k≠b) fun k hk=>hk.elim id (fun e=>⟨by omega,by omega⟩);exact d2.of_heap fun k hk _=>heap_setCell_other w2 ⟨b,2,none⟩ k aB (by show k≠b;omega)
theorem mkB(h:Ds w w' b u v iv bv is bs)(MB:Array Value)(hMB:madeCells #[.bool false,.slice none 0 0,.string ⟨#[]⟩] (16*3)=MB):
  Ds w ((w'.alloc (.cells MB 95)).setCell ⟨b,3,none⟩ (.slice (some ⟨w'.1.size,0,none⟩) 16 16)) b u v iv (.slice (some ⟨w'.1.size,0,none⟩) 16 16) is newBs:=by
 have GB:GO KB (w'.alloc (.cells MB 95)) (fun k=>k=w'.1.size) (.slice (some ⟨w'.1.size,0,none⟩) 16 16) (List.replicate 16 zB3) (List.replicate 16 zB):=GO.of_at (AtC.new w' 95 MB) (by rw[←hMB];exact zkg _ _ _ _) (by unfold maxLen;decide) (zB_own _) rfl;have aC:Below w'.1.size w' (w'.alloc (.cells MB 95)):=(Below.refl _ w').alloc nR _;have d:=h.dsk.setB aC GB (fun k hk=>by omega);have aD:=h.box.lt;have aB:=h.bel.size;have aF:=h.res.lt;refine⟨(h.res.alloc _).other (by have:=h.hb;omega) _,(h.box.alloc _).set 3 _,?_,(h.bel.alloc aB _).setCell (by show w.1.size<=b;have:=h.hb;omega) _,h.hb⟩;have d2:=d.mono (S':=fun k=>w.1.size<k/\k≠b) fun k hk=>hk.elim id (fun e=>⟨by omega,by omega⟩);exact d2.of_heap fun k hk _=>heap_setCell_other _ ⟨b,3,none⟩ k _ (by show k≠b;omega)
end Ds
theorem ds_start{w w1:World}{u v:Value}(B1:Below (w.alloc (.cells zD 30)).1.size (w.alloc (.cells zD 30)) w1)(T1:Two w1 (w.alloc (.cells zD 30)).1.size u v newX newY):
  Ds w (w1.alloc (.cells #[u,v,.slice none 0 0,.slice none 0 0] 30)) w1.1.size u v (.slice none 0 0) (.slice none 0 0) [] []:=by
 have aC:=B1.size;simp only[World.size_alloc]at aC;have aB:∀k,(u.ownBlock=some k\/v.ownBlock=some k)->w.1.size<k/\k<w1.1.size:=fun k hk=>by
  have:=hk.elim (fun e=>T1.a.lt k e) (fun e=>T1.b.lt k e);simp only[World.size_alloc]at this;omega
 refine⟨((AtC.new w 30 zD).over B1).alloc _,AtC.new w1 30 _,⟨fun k=>u.ownBlock=some k\/v.ownBlock=some k,fun _=>False,fun _=>False,[],[],(T1.alloc _).base_le (Nat.zero_le _),fun k hk=>hk,?_,?_,fun k hk=>⟨id,id⟩,fun k hk=>hk.elim,fun k hk=>?_⟩,?_,by omega⟩
 ·exact cQ42
 ·exact cQ42
 ·rcases hk with hk|hk|hk
  ·have:=aB k hk;omega
  ·exact hk.elim
  exact hk.elim
 exact(((Below.refl _ w).alloc nR _).trans (B1.mono sI)).alloc oM _
def PostA(b:Nat)(gi:Option Addr)(n ci:Nat)(i lo hi:Nat)(w:World)(v:Value):Prop :=
 (i=0->v=.pointer (some ⟨b,2,none⟩))/\(i=1->v=.slice gi n ci) /\
 (i=2->∃p,v=.agg #[.int .i64 0,.int .i64 (zan 0),p]/\ROwns w lo 3 p (ic [0,0])/\∀k,p.ownBlock=some k->k<hi) /\
 (i=3->v=.slice (some ⟨lo,0,none⟩) 1 1/\hi=lo+1)
theorem PostA.stable{b:Nat}{gi:Option Addr}{n ci:Nat}(i lo hi:Nat)(w w':World)(v:Value)(h:PostA b gi n ci i lo hi w v)(hb:Below w.1.size w w'):PostA b gi n ci i lo hi w' v :=
 ⟨h.1,h.2.1,fun e=>by obtain⟨p,h1,h2,h3⟩:=h.2.2.1 e;exact⟨p,h1,h2.below hb nR,h3⟩,h.2.2.2⟩
def InvA(s:List Nat)(x:Nat->Value)(w:World):Prop:=3∈s->2∈s/\∃p g,x 2=.agg #[.int .i64 0,.int .i64 (zan 0),p]/\x 3=.slice (some ⟨g,0,none⟩) 1 1/\AtC w g 59 #[.int .i64 0,.int .i64 (zan 0),p]
theorem InvA.next{s:List Nat}{x:Nat->Value}{w w':World}(h:InvA s x w){j:Nat}{v:Value}(hj:¬j∈s)(h3:j≠3)(hb:Below w.1.size w w'):InvA (j::s) (upd x j v) w':=fun hm=>by
 rcases List.mem_cons.1 hm with e|hm
 ·exact absurd e.symm h3
 ·obtain⟨h2,p,g,e2,e3,A⟩:=h hm;have ne:∀i∈s,i≠j:=fun i hi e=>hj (e ▸ hi);exact⟨List.mem_cons_of_mem _ h2,p,g,by rw[zaq _ _ _ _ (ne _ h2),e2],by rw[zaq _ _ _ _ (ne _ hm),e3],A.over hb⟩
theorem specNew_disk(w:World):
  Calls Tryz.prog 110 #[] w fun e w'=>∃u v iv bv,e=.returned (.agg #[u,v,iv,bv])/\DO w' (fun k=>w.1.size<=k) u v iv bv newX newY newIs newBs/\Below w.1.size w w':=by
 have mb:∀w,(Instr.makeSlice 28 (.int .i64 16) (.int .i64 16)).run Tryz.prog w=.ok (.slice (some ⟨w.1.size,0,none⟩) 16 16) (w.alloc (.cells (madeCells #[.bool false,.slice none 0 0,.string ⟨#[]⟩] (16*3)) 95)):=make_blk 16 dC;obtain⟨MB,aL⟩:∃M,madeCells #[.bool false,.slice none 0 0,.string ⟨#[]⟩] (16*3)=M:=⟨_,rfl⟩
 rw[aL]at mb;have aV:=hJ aL;clear aL;go_enter Tryz.func110,Tryz.ntmps110
 go_wp2_with fail
 refine(specNew_anyB _).mono ?_;rintro e w1 ⟨u,v,rfl,T1,B1⟩;obtain⟨a1,c1,a2,c2,rfl,rfl⟩:=T1.form;have HD:=hJ (ds_start B1 T1);clear T1 B1;go_wp2_with fail
 generalize w1.1.size=b at*;generalize w1.alloc (.cells #[.slice a1 newX.length c1,.slice a2 newY.length c2,.slice none 0 0,.slice none 0 0] 30)=W1 at*;go_loopw [2] (fun i wr=>∃j:Nat,j<=8/\i=.int .i64 j/\Hid (∃iv,Ds w wr b (.slice a1 newX.length c1) (.slice a2 newY.length c2) iv (.slice none 0 0) (List.replicate j noI) [])) (fun i _=>8-(intOf i).toNat)
 case atStart=>exact⟨0,Nat.zero_le _,rfl,_,HD.o⟩
 obtain⟨j,hj,rfl,HR⟩:=hrel;obtain⟨iv,aC⟩:=HR.o;by_cases hlt:j<8
 ·have j1:(j:Int)<8:=by omega
  obtain⟨ti,k1,k2,k3⟩:=aC.drew.app;obtain⟨gi,ci,rfl,-⟩:=k1.form;have aP:ti.length=j:=by rw[k2];simp
  have q2:=aC.box.c2;have HX:=hJ (And.intro k1 (And.intro k3 aP));have aN:=hJ aC;clear k1 k2 k3 aC HR;have hb:=aN.o.box.lt;clear aP;go_wp2_with fail
  refine zck kL [0,1,2,3] [4,5,6] (fun x=>⟨#[.pointer (some ⟨w.1.size,0,none⟩),.pointer (some ⟨b,0,none⟩),.int .i64 (j:Int),.agg #[.slice a1 newX.length c1,.slice a2 newY.length c2],.agg #[.slice a1 newX.length c1,.slice a2 newY.length c2,.slice none 0 0,.slice none 0 0],.int .i64 (j:Int),.bool true,u7,u8,x 0,x 1,x 2,x 3,u13,u14,undef,undef,undef,undef,undef,undef,undef],[]⟩) (fun i=>match i with|0=>u9|1=>u10|2=>u11|_=>u12) rfl (PostA b gi ti.length ci) InvA PostA.stable kL kL rfl (fun h=>by cases h) ?_ ?_
  ·intro j' aO s x iv W hr aM hp hI K hK;simp only[List.mem_cons,List.not_mem_nil,or_false]at aO;rcases aO with rfl|rfl|rfl|rfl
   ·refine wpOp_step (o:=_) rfl fun K' aB=>?_;have HK:Hid (∀v W',Below W.1.size W W'->PostA b gi ti.length ci 0 W.1.size W'.1.size W' v->K' ⟨#[.pointer (some ⟨w.1.size,0,none⟩),.pointer (some ⟨b,0,none⟩),.int .i64 (j:Int),.agg #[.slice a1 newX.length c1,.slice a2 newY.length c2],.agg #[.slice a1 newX.length c1,.slice a2 newY.length c2,.slice none 0 0,.slice none 0 0],.int .i64 (j:Int),.bool true,u7,u8,v,x 1,x 2,x 3,u13,u14,undef,undef,undef,undef,undef,undef,undef],[]⟩ W'):=fun v W' h1 h2=>aB _ _ (hK v W' h1 h2 (hI.next aM dC h1));clear hK aB hr hp hI;go_simp;exact HK.o _ _ bR ⟨fun _=>rfl,(fun e=>by cases e),(fun e=>by cases e),(fun e=>by cases e)⟩
   ·have d0:0∈s:=zby hr rfl ⟨{ on:=0,ground:=.data },by simp,rfl,rfl⟩;refine wpOp_step (o:=_) rfl fun K' aB=>?_;have HK:Hid (∀v W',Below W.1.size W W'->PostA b gi ti.length ci 1 W.1.size W'.1.size W' v->K' ⟨#[.pointer (some ⟨w.1.size,0,none⟩),.pointer (some ⟨b,0,none⟩),.int .i64 (j:Int),.agg #[.slice a1 newX.length c1,.slice a2 newY.length c2],.agg #[.slice a1 newX.length c1,.slice a2 newY.length c2,.slice none 0 0,.slice none 0 0],.int .i64 (j:Int),.bool true,u7,u8,x 0,v,x 2,x 3,u13,u14,undef,undef,undef,undef,undef,undef,undef],[]⟩ W'):=fun v W' h1 h2=>aB _ _ (hK v W' h1 h2 (hI.next aM dC h1));obtain e0:=(hp.post 0 d0).1 rfl;have y2:=(aN.o.drew.below hp.bel).box.c2;clear hK aB hr hp hI;simp only[e0];simp only[e0]at HK;go_simp;exact HK.o _ _ bR ⟨(fun e=>by cases e),fun _=>rfl,(fun e=>by cases e),(fun e=>by cases e)⟩
   ·refine wpOp_step (o:=_) rfl fun K' aB=>?_;have HK:Hid (∀v W',Below W.1.size W W'->PostA b gi ti.length ci 2 W.1.size W'.1.size W' v->K' ⟨#[.pointer (some ⟨w.1.size,0,none⟩),.pointer (some ⟨b,0,none⟩),.int .i64 (j:Int),.agg #[.slice a1 newX.length c1,.slice a2 newY.length c2],.agg #[.slice a1 newX.length c1,.slice a2 newY.length c2,.slice none 0 0,.slice none 0 0],.int .i64 (j:Int),.bool true,u7,u8,x 0,x 1,v,x 3,u13,u14,undef,undef,undef,undef,undef,undef,undef],[]⟩ W'):=fun v W' h1 h2=>aB _ _ (hK v W' h1 h2 (hI.next aM dC h1));clear hK aB hr hp hI;go_simp;refine(zbc _ _).mono ?_;rintro e w6 ⟨p,rfl,O6,B6⟩;go_simp;exact HK.o _ _ B6 ⟨(fun e=>by cases e),(fun e=>by cases e),fun _=>⟨p,rfl,O6,fun k hk=>(O6.lt k hk).2⟩,(fun e=>by cases e)⟩
   have d2:2∈s:=zby hr rfl ⟨{ on:=2,ground:=.data },by simp,rfl,rfl⟩;refine wpOp_step (o:=_) rfl fun K' aB=>?_;have HK:Hid (∀v W',Below W.1.size W W'->PostA b gi ti.length ci 3 W.1.size W'.1.size W' v->(2∈3::s/\∃p g,upd x 3 v 2=.agg #[.int .i64 0,.int .i64 (zan 0),p]/\upd x 3 v 3=.slice (some ⟨g,0,none⟩) 1 1/\AtC W' g 59 #[.int .i64 0,.int .i64 (zan 0),p])->K' ⟨#[.pointer (some ⟨w.1.size,0,none⟩),.pointer (some ⟨b,0,none⟩),.int .i64 (j:Int),.agg #[.slice a1 newX.length c1,.slice a2 newY.length c2],.agg #[.slice a1 newX.length c1,.slice a2 newY.length c2,.slice none 0 0,.slice none 0 0],.int .i64 (j:Int),.bool true,u7,u8,x 0,x 1,x 2,v,u13,u14,undef,undef,undef,undef,undef,undef,undef],[]⟩ W'):=fun v W' h1 h2 h3=>aB _ _ (hK v W' h1 h2 (fun _=>h3));obtain⟨p,e2,O2,-⟩:=(hp.post 2 d2).2.2.1 rfl;obtain⟨s1,t1,rfl⟩:=O2.form2;clear hK aB hr hp hI;simp only[e2];simp only[e2]at HK;go_simp;exact HK.o _ _ ((Below.refl _ W).alloc nR _) ⟨(fun e=>by cases e),(fun e=>by cases e),(fun e=>by cases e),fun _=>⟨rfl,by simp⟩⟩ ⟨List.mem_cons_of_mem _ d2,_,_,by rw[zaq _ _ _ _ dC,e2],by rw[za7],AtC.new W 59 _⟩
  intro s x iv W hs hp hI;obtain⟨-,p,g,e2,e3,A3⟩:=hI (hs 3 dC);have e1:=(hp.post 1 dC).2.1 rfl;obtain⟨p',f2,O2,-⟩:=(hp.post 2 dC).2.2.1 rfl;rw[e2]at f2;simp only[Value.agg.injEq,Array.mk.injEq,List.cons.injEq,and_true,true_and]at f2;subst f2;have l2:=(hp.lo 2 dC).1;have aG:=hp.bel;have O3:=O2.base_le l2;obtain⟨s1,t1,rfl⟩:=O3.form2;have hT:=HX.o.1.of_heap fun k hk=>aG.block k (HX.o.1.lt k hk);have HN:Hid (∀v' w',TOwns w' 59 v' (ti++[(.int .i64 0,.int .i64 0,.slice s1 2 t1)])->W.grownBy w' (Value.slice gi ti.length ci).ownBlock->(∀k,v'.ownBlock=some k->(Value.slice gi ti.length ci).ownBlock=some k\/W.1.size<=k)->(AtC w' b 30 #[.slice a1 newX.length c1,.slice a2 newY.length c2,.slice gi ti.length ci,.slice none 0 0])/\Ds w (w'.setCell ⟨b,2,none⟩ v') b (.slice a1 newX.length c1) (.slice a2 newY.length c2) v' (.slice none 0 0) (List.replicate j noI++[noI]) []):=fun v' w' h1 h2 h3=>HX.o.2.1 W w' v' _ aG O3 h1 h2 h3;have aS:Hid (ti.length<=1000000000000):=by have:=HX.o.2.2;show ti.length<=_;omega
  have aK:=hJ A3;have HT:=hJ hT;simp only[e1,e2,e3];clear hT O3 O2 hp hI hs l2 aG A3 e1 e2 e3 HX aN q2;refine wpList_step fun K' aB=>?_;refine zas _ rfl (.tmp 10) (.tmp 12) 27 rfl 59 Tryz.u27 _ 40 Tryz.i59 rfl dC (.slice gi ti.length ci) ti rfl HT.o g (.int .i64 0,.int .i64 0,.slice s1 2 t1) rfl ⟨aK.o.cell 0,aK.o.cell 1,aK.o.cell 2⟩ ⟨rfl,rfl,rfl⟩ aS.o ?_;intro v9 w9 T9 G9 V9;refine aB _ _ ?_;obtain⟨e9,D9⟩:=HN.o v9 w9 T9 G9 V9;obtain⟨g9,c9,rfl,-⟩:=T9.form;have aQ:(ti++[((.int .i64 0,.int .i64 0,.slice s1 2 t1):V3)]).length=ti.length+1:=by simp
  rw[aQ]at D9 ⊢;clear aQ;have z2:=e9.frozen 2;have z3:=e9.c2;have H9:=hJ D9;clear e9 D9 T9 G9 V9 HN aK HT aS aB K';go_wp2_with fail
  rw[List.filterMap_nil];go_wp2;go_roundw
  case rel=>exact⟨j+1,by omega,by go_num,_,by rw[List.replicate_succ'];exact H9.o⟩
  simp[intOf];omega
 have aW:j=8:=by omega
 subst aW;obtain⟨ti,k1,k2,-⟩:=aC.app;rw[List.length_replicate]at k2;obtain⟨gi,ci,rfl,-⟩:=k1.at 0 oM;rw[k2]at aC;have q2:=aC.box.c2;have aR:0<(List.replicate 8 noI).length:=by decide
 have HJ:=hJ aR;have aH:=hJ aC;clear aR k1 k2 aC HR;go_wp2_with fail
 go_region_held3 (fun w'=>w'.cell? ⟨b,2,none⟩=some (.slice (some ⟨gi,0,none⟩) 8 ci)) (first| exact aH.o.drew.box.cell 2|exact(aH.o.drew.below B6).box.cell 2|exact(aH.o.drew.put rfl 0 HJ.o _ _ _ B6 O6).box.cell 2) ((go_at_call 119;refine(zbc _ _).mono ?_;rintro e w6 ⟨p,rfl,O6,B6⟩;obtain⟨⟨x1,x2,x3,m1,m2,m3,-,-,-⟩,fz,-⟩:=(aH.o.drew.below B6).dsk.atI rfl 0 HJ.o;have n0:=fz (0*3);have n1:=fz (0*3+1);have n2:=fz (0*3+2);clear fz;obtain⟨s1,t1,rfl⟩:=O6.form2;simp only[Nat.zero_mul,Nat.zero_add]at m1 m2 m3 n0 n1 n2))
 have aF:=aH.o.drew.put rfl 0 HJ.o 2 (zan 2) (.slice s1 2 t1) B6 O6;rw[show((2:Int),zan 2,[(0:Int),0])=(2,1,[0,0])from rfl,show(List.replicate 8 noI).set 0 (2,1,[0,0])=newIs from rfl]at aF;simp only[Nat.zero_mul,Nat.zero_add]at aF;obtain⟨W6,aT⟩:∃W6,((w6.setCell ⟨gi,0,none⟩ (.int .i64 2)).setCell ⟨gi,1,none⟩ (.int .i64 (zan 2))).setCell ⟨gi,2,none⟩ (.slice s1 2 t1)=W6:=⟨_,rfl⟩
 rw[aT]at aF ⊢;clear aT B6 O6 m1 m2 m3 n0 n1 n2 aH HJ;have aD:=aF.mkB MB aV.o;have b3:=aF.box.c3;have b4:=aF.box.frozen 3;have b5:=aF.box.lt;obtain⟨W7,aU⟩:∃W7,(W6.alloc (.cells MB 95)).setCell ⟨b,3,none⟩ (.slice (some ⟨W6.1.size,0,none⟩) 16 16)=W7:=⟨_,rfl⟩
 rw[aU]at aD;have H7:=hJ aD;obtain⟨y0,y1,y2,y3⟩:=AtC.four aD.box;obtain⟨r0,r1,r2,r3⟩:=AtC.four aD.res;have v0:=aD.res.frozen 0;have v1:=aD.res.frozen 1;have v2:=aD.res.frozen 2;have v3:=aD.res.frozen 3;clear aF aD;go_wp2;refine bodyPost_ret (v:=.agg #[.slice a1 newX.length c1,.slice a2 newY.length c2,.slice (some ⟨gi,0,none⟩) 8 ci,.slice (some ⟨W6.1.size,0,none⟩) 16 16]) sR4 rfl ⟨_,_,_,_,rfl,?_,?_⟩
 ·exact(H7.o.dsk.of_heap fun k hk _=>((((heap_setCell_other _ ⟨w.1.size,3,none⟩ k _ oB).trans (heap_setCell_other _ ⟨w.1.size,2,none⟩ k _ oB)).trans (heap_setCell_other _ ⟨w.1.size,1,none⟩ k _ oB)).trans (heap_setCell_other _ ⟨w.1.size,0,none⟩ k _ oB))).mono fun k hk=>by omega
 exact(((H7.o.bel.setCell nR _).setCell nR _).setCell nR _).setCell nR _
end Xd
namespace Xd
def MkS(n:Nat)(T:TypeId)(cs:Array Va):Mk:=.val [] (fun lo hi w v=>v=.slice (some ⟨lo,0,none⟩) n n/\hi=lo+1/\AtC w lo T cs) (fun _ _ _ _ _ h hb=>⟨h.1,h.2.1,h.2.2.over hb⟩)
def MkM(k l n1 n2 n3 n4 n5:Nat):Mk:=⟨[k,l],fun _ _ _ v x=>∃a1 c1 a2 c2 a3 c3 a4 c4 a5 c5,x k=.agg #[.slice a1 n1 c1,.slice a2 n2 c2,.slice a3 n3 c3,.slice a4 n4 c4]/\x l=.slice a5 n5 c5/\v=.agg #[.slice a1 n1 c1,.slice a2 n2 c2,.slice a3 n3 c3,.slice a4 n4 c4,.slice a5 n5 c5,.slice none 0 0,.int .i64 1],fun _ _ _ _ _ _ h _=>h,fun _ _ _ _ x x' e h=>by
 obtain⟨a1,c1,a2,c2,a3,c3,a4,c4,a5,c5,h1,h2,h3⟩:=h;exact⟨a1,c1,a2,c2,a3,c3,a4,c4,a5,c5,by rw[←e k sI,h1],by rw[←e l sI,h2],h3⟩⟩
def newM(xs ys:List Bool)(is:List Ino)(bs:List Blk):MD:=⟨xs,ys,is,bs,List.replicate 21 false,[],1⟩
def fl21:Array Va:=(fc (List.replicate 21 false)).toArray
theorem zmm{w:Wd}{lo hi g:Nat}{u v iv bv:Va}{xs ys:List Bool}{is:List Ino}{bs:List Blk}(h:DO w (fun q=>lo<=q/\q<hi) u v iv bv xs ys is bs)(hg:AtC w g 4 fl21)(ha:hi<=g\/g+1<=lo){B:Nat}(hB:B<=lo)(hBg:B<=g):
  MO w (fun q=>B<=q) u v iv bv (.slice (some ⟨g,0,none⟩) 21 21) (.slice none 0 0) (newM xs ys is bs):=by
 refine⟨_,fun q=>q=g,fun _=>False,[],h,?_,fun k hk=>?_,GN.nil _ _,fun k hk=>⟨fun e=>oM,id⟩,fun k hk e=>e,fun k hk=>?_⟩
 ·exact⟨by rfl,.inr ⟨g,21,fl21,rfl,zL _,hg,Nat.le_refl _,by unfold maxLen;decide,rfl,rfl⟩⟩
 ·simpa[Value.ownBlock]using hk.symm
 rcases hk with hk|hk|hk
 ·omega
 ·omega
 exact hk.elim
theorem make21(w:Wd):(Instr.makeSlice 24 (.int .i64 21) (.int .i64 21)).run Tryz.prog w=.ok (.slice (some ⟨w.1.size,0,none⟩) 21 21) (w.n fl21 4):=by
 have:=zis 21 dC w;rw[zit _ 21 (fc (List.replicate 21 false)) (by simp[fc])]at this;exact this
theorem zkq(u v iv bv:Va)(xs ys:List Bool)(is:List Ino)(bs:List Blk)(w:Wd)(h:DR w u v iv bv xs ys is bs)(hB:Big 1048576 xs ys is bs):
  Calls Tryz.prog 141 #[.agg #[u,v,iv,bv]] w fun e w'=>∃u' v' i' b' d' p',e=.returned (.agg #[u',v',i',b',d',p',.int .i64 1])/\MO w' (fun k=>w.1.size<=k) u' v' i' b' d' p' (newM xs ys is bs)/\Bw w w':=by
 have H:=hJ h;have HG:=hJ hB;have mk:=make21;obtain⟨a1,c1,a2,c2,a3,c3,a4,c4,rfl,rfl,rfl,rfl⟩:=h.form;clear hB h;go_enter Tryz.func141,Tryz.ntmps141
 go_wp2_with fail
 have HC:Hid (∀W,Bw ((w.n #[.slice a1 xs.length c1,.slice a2 ys.length c2,.slice a3 is.length c3,.slice a4 bs.length c4] 30).n noM 33).drew W->AtC W w.1.size 30 #[.slice a1 xs.length c1,.slice a2 ys.length c2,.slice a3 is.length c3,.slice a4 bs.length c4]/\AtC W (w.1.size+1) 33 noM/\Bw w W/\w.1.size+1+1<=W.1.size):=fun W b=>by
  have b2:=zac b;have k1:=(AtC.new (w.alloc (.cells #[.slice a1 xs.length c1,.slice a2 ys.length c2,.slice a3 is.length c3,.slice a4 bs.length c4] 30)) 33 noM).over b2;have sz:=b2.size;simp at k1 sz;exact⟨((AtC.new w 30 _).alloc _).over b2,k1,(((bF _ w).alloc nR _).alloc sI _).trans (b2.mono sO),sz⟩
 refine zau kL [0,1,2,3] [4] (fun i=>match i with|0=>.const [] (.agg #[.slice a1 xs.length c1,.slice a2 ys.length c2,.slice a3 is.length c3,.slice a4 bs.length c4])|1=>MkD 0 xs ys is bs|2=>MkS 21 4 fl21|3=>MkM 1 2 xs.length ys.length is.length bs.length 21|_=>.triv) (fun x=>⟨#[.agg #[.slice a1 xs.length c1,.slice a2 ys.length c2,.slice a3 is.length c3,.slice a4 bs.length c4],.pointer (some ⟨w.1.size,0,none⟩),.pointer (some ⟨w.1.size+1,0,none⟩),x 0,x 1,x 2,x 3],[]⟩) (fun i=>match i with|0=>undef|1=>undef|2=>undef|3=>undef|_=>undef) rfl kL kL kL rfl ?_ ?_
 ·intro jo hj so x iw W hd hp K hK;simp only[mN,nN,or_false]at hj;rcases hj with rfl|rfl|rfl|rfl<;>refine wpOp_step (o:=_) rfl fun K' hK'=>?_<;>have HK:=hJ (fun(v:Va) (W':Wd) h1 h2=>hK' _ _ (hK v W' h1 h2))<;>simp only[upd,Nat.reduceEqDiff,if_true,if_false]at HK
  ·have k0:=(HC.o W hp.bel).1;obtain⟨q0,q1,q2,q3⟩:=AtC.four k0;clear k0;go_simp;exact HK.o _ _ bR rfl
  ·have e0:x 0=.agg #[.slice a1 xs.length c1,.slice a2 ys.length c2,.slice a3 is.length c3,.slice a4 bs.length c4]:=hp.post 0 (hd 0 mz0);have bl:=(HC.o W hp.bel).2.2.1;simp only[e0]at HK ⊢;go_simp;refine(zbo _ _ _ _ xs ys is bs W (H.out.below bl nR) HG.o).mono ?_;rintro e w6 ⟨p1,p2,p3,p4,rfl,O6,B6⟩;obtain⟨b1,d1,b2,d2,b3,d3,b4,d4,rfl,rfl,rfl,rfl⟩:=O6.dr.form;go_simp;exact HK.o _ _ B6 ⟨b1,d1,b2,d2,b3,d3,b4,d4,rfl,O6.bound⟩
  ·exact cQ116
  have e1:∃a1 c1 a2 c2 a3 c3 a4 c4,x 1=.agg #[.slice a1 xs.length c1,.slice a2 ys.length c2,.slice a3 is.length c3,.slice a4 bs.length c4]/\DO W (fun q=>(iw 1).1<=q/\q<(iw 1).2) (.slice a1 xs.length c1) (.slice a2 ys.length c2) (.slice a3 is.length c3) (.slice a4 bs.length c4) xs ys is bs:=hp.post 1 (hd 1 mz0);have e2:x 2=.slice (some ⟨(iw 2).1,0,none⟩) 21 21/\(iw 2).2=(iw 2).1+1/\AtC W (iw 2).1 4 fl21:=hp.post 2 (hd 2 mz1);obtain⟨b1,d1,b2,d2,b3,d3,b4,d4,e1,-⟩:=e1
  replace e2:=e2.1
  have HE:=hJ (aI e1 e2);simp only[e1,e2]at HK ⊢;clear e1 e2;go_simp;exact HK.o _ _ bR ⟨b1,d1,b2,d2,b3,d3,b4,d4,_,_,by rw[zaq _ _ _ _ dC];exact HE.o.1,by rw[zaq _ _ _ _ dC];exact HE.o.2,rfl⟩
 intro x iw W hp;obtain⟨b1,d1,b2,d2,b3,d3,b4,d4,e1,O1⟩:=hp.post 1 dC;obtain⟨e2,z2,A2⟩:=hp.post 2 dC;obtain⟨g1,h1,g2,h2,g3,h3,g4,h4,g5,h5,f1,f2,e3⟩:=hp.post 3 dC;rw[e1]at f1;rw[e2]at f2;simp only[Value.agg.injEq,Array.mk.injEq,List.cons.injEq,vJ,true_and,and_true]at f1 f2;obtain⟨⟨rfl,rfl⟩,⟨rfl,rfl⟩,⟨rfl,rfl⟩,rfl,rfl⟩:=f1;obtain⟨rfl,rfl⟩:=f2;have aC:=hp.apart 1 dC 2 dC dC;have l1:=hp.lo 1 dC;have l2:=hp.lo 2 dC;simp[World.drew]at l1 l2;obtain⟨-,kR,aB,-⟩:=HC.o W hp.bel;have hM:=zmm O1 A2 oM (B:=w.1.size+1+1) l1.1 l2.1;obtain⟨r0,r1,r2,r3,r4,r5,r6⟩:=AtC.sev kR;obtain⟨v0,v1,v2,v3,v4,v5,v6⟩:=kR.f7;generalize (iw 2).1=g at*;have HM:=hJ (aI hM aB);clear hp O1 A2 z2 aC l1 l2 kR aB hM HC mk;simp only[e1,e2,e3];clear e1 e2 e3;go_wp2_with fail
 rw[List.filterMap_nil];go_wp2;refine bY (v:=.agg #[.slice b1 xs.length d1,.slice b2 ys.length d2,.slice b3 is.length d3,.slice b4 bs.length d4,.slice (some ⟨g,0,none⟩) 21 21,.slice none 0 0,.int .i64 1]) sR7 rfl ⟨_,_,_,_,_,_,rfl,?_,?_⟩
 ·exact(HM.o.1.of_heap fun k hk _=>hs7 oA).mono fun k hk=>by omega
 exact(((((((HM.o.2).setCell sI _).setCell sI _).setCell sI _).setCell sI _).setCell sI _).setCell sI _).setCell sI _
end Xd
namespace Kit
def zer(s:BA)(k:Nat):Bool:=bitN (s.data.toList.getD (k/8) 0).toNat (k%8)
def pX(s:BA)(i:Nat):List Bool:=(List.range (min i 16)).map (zer s)
def pY(s:BA)(i:Nat):List Bool:=(List.range (i-16)).map fun k=>zer s (k+16)
theorem zfr(s:BA)(i:Nat):(pX s i).length=min i 16:=by simp[pX]
theorem zfs(s:BA)(i:Nat):(pY s i).length=i-16:=by simp[pY]
theorem pX_lo(s:BA)(i:Nat)(h:i<16):pX s (i+1)=pX s i++[zer s i]:=by
 unfold pX;rw[Nat.min_eq_left oM,Nat.min_eq_left oM,List.range_succ];simp
theorem pY_lo(s:BA)(i:Nat)(h:i<16):pY s (i+1)=pY s i:=by
 unfold pY;rw[show i+1-16=0 by omega,show i-16=0 by omega]
theorem pX_hi(s:BA)(i:Nat)(h:¬i<16):pX s (i+1)=pX s i:=by
 unfold pX;rw[Nat.min_eq_right oM,Nat.min_eq_right oM]
theorem pY_hi(s:BA)(i:Nat)(h:¬i<16):pY s (i+1)=pY s i++[zer s i]:=by
 unfold pY;rw[show i+1-16=(i-16)+1 by omega,List.range_succ];simp;congr 1
 omega
theorem znu{wr w2:Wd}{base:Nat}{u v u':Va}{xs ys:List Bool}{b:Bool}(h:Two wr base u v xs ys)(R1:ROwns w2 base 4 u' (fc xs++[.bool b]))(R3:Keeps wr w2 u u'):Two w2 base u' v (xs++[b]) ys :=
 ⟨by rw[zdo];exact R1,h.b.of_heap fun k hk=>(R3 k (h.b.lt k hk).2 (fun e=>h.ne k e hk)).2,fun k e1 e2=>(R3 k (h.b.lt k e2).2 (fun e=>h.ne k e e2)).1 e1⟩
theorem zld{wr w2:Wd}{base:Nat}{u v v':Va}{xs ys:List Bool}{b:Bool}(h:Two wr base u v xs ys)(R1:ROwns w2 base 4 v' (fc ys++[.bool b]))(R3:Keeps wr w2 v v'):Two w2 base u v' xs (ys++[b]) :=
 ⟨h.a.of_heap fun k hk=>(R3 k (h.a.lt k hk).2 (fun e=>h.ne k hk e)).2,by rw[zdo];exact R1,fun k e1 e2=>(R3 k (h.a.lt k e1).2 (fun e=>h.ne k e1 e)).1 e2⟩
def dv(c j:Nat):Int:=((c/2 ^ j:Nat):Int)
theorem dv_zero(c:Nat):dv c 0=(c:Int):=by simp[dv]
theorem dv_succ(c j:Nat):dv c (j+1)=dv c j/2:=by
 unfold dv;rw[Nat.pow_succ,←Nat.div_div_eq_div_mul];omega
theorem dv_le(c j:Nat)(h:c<256):0<=dv c j/\dv c j<=255:=by
 have:c/2 ^ j<=c:=Nat.div_le_self _ _;unfold dv;generalize c/2 ^ j=p at*;omega
end Kit
theorem zle(s:BA)(i:Nat)(h:i/8<s.size):zer s i=((((s[i/8]).toNat/2 ^ (i%8)%2:Nat):Int)==1):=by
 rw[←bitN_int,zer];congr 1
 simp[h];rfl
theorem zhb(s:BA)(w:Wd)(h:s.size≠3)(_h1:s.size<=1048576):
  Calls Tryz.prog 117 #[.string s] w fun e w'=>e=.returned (.tuple #[.agg #[nZ,nZ],.bool false])/\Bw w w':=by
 have h2:((s.size:Int) != 3)=true:=sO
 go_enter Tryz.func117,Tryz.ntmps117
 go_wp2;refine bY (v:=.tuple #[.agg #[nZ,nZ],.bool false]) sR0 rfl ⟨rfl,gW_⟩
theorem flag_dv(s:BA)(i:Nat)(h:i/8<s.size):zer s i=(dv (s[i/8]).toNat (i%8)%2==1):=by
 rw[zle s i h];unfold dv;generalize (s[i/8]).toNat/2 ^ (i%8)=p;rw[show((p%2:Nat):Int)=(p:Int)%2 by omega]
structure RsB(w wr:Wd)(u v:Va)(xs ys:List Bool):Prop where
 res:AtP 26 wr w.1.size (nZ) (nZ)
 var:AtP 26 wr (w.1.size+1) u v
 two:Two wr (w.1.size+1+1) u v xs ys
 bel:Bw w wr
theorem RsB.first{w wr w2:Wd}{u v u':Va}{xs ys:List Bool}{b:Bool}(h:RsB w wr u v xs ys)(R1:ROwns w2 (w.1.size+1+1) 4 u' (fc xs++[.bool b]))(R2:Below (w.1.size+1+1) wr w2)(R3:Keeps wr w2 u u'):
  RsB w (w2.setCell ⟨w.1.size+1,0,none⟩ u') u' v (xs++[b]) ys/\w2.cell? ⟨w.1.size+1,0,none⟩=some u/\w2.frozen? ⟨w.1.size+1,0,none⟩=false/\w.1.size+1<w2.1.size:=by
 have k1:=h.var.below R2 oM;exact⟨⟨(h.res.below R2 oM).set_other oM _,k1.set0 u',(znu h.two R1 R3).set_other oM _,(h.bel.trans (R2.mono oM)).setCell oE _⟩,k1.cells.1,k1.frozen.1,k1.lt⟩
theorem RsB.second{w wr w2:Wd}{u v v':Va}{xs ys:List Bool}{b:Bool}(h:RsB w wr u v xs ys)(R1:ROwns w2 (w.1.size+1+1) 4 v' (fc ys++[.bool b]))(R2:Below (w.1.size+1+1) wr w2)(R3:Keeps wr w2 v v'):
  RsB w (w2.setCell ⟨w.1.size+1,1,none⟩ v') u v' xs (ys++[b])/\w2.cell? ⟨w.1.size+1,1,none⟩=some v/\w2.frozen? ⟨w.1.size+1,1,none⟩=false/\w.1.size+1<w2.1.size:=by
 have k1:=h.var.below R2 oM;exact⟨⟨(h.res.below R2 oM).set_other oM _,k1.set1 v',(zld h.two R1 R3).set_other oM _,(h.bel.trans (R2.mono oM)).setCell oE _⟩,k1.cells.2,k1.frozen.2,k1.lt⟩
theorem zft(s:BA)(w:Wd)(hs:s.size=3):
  Calls Tryz.prog 117 #[.string s] w fun e w'=>∃u v,e=.returned (.tuple #[.agg #[u,v],.bool true])/\Two w' w.1.size u v (pX s 24) (pY s 24)/\Bw w w':=by
 have h3:(s.size:Int)=3:=oM
 have R0:RsB w ((w.alloc (Obj.cells #[nZ,nZ] 26)).alloc (Obj.cells #[nZ,nZ] 26)) (nZ) (nZ) (pX s 0) (pY s 0):=by
  refine⟨(AtP.new 26 w _ _).alloc _,?_,Two.nil _ _,((bF _ w).alloc nR _).alloc sI _⟩;have:=AtP.new 26 (w.alloc (Obj.cells #[nZ,nZ] 26)) (nZ) (nZ)
  rwa[wA_]at this
 have aK:=hJ R0;clear R0;go_enter Tryz.func117,Tryz.ntmps117
 go_wp2;go_loopw [5] (fun x wr=>∃(i:Nat)(u v:Va),i<=24/\x=.int .i64 i/\RsB w wr u v (pX s i) (pY s i)) (fun x _=>24-(intOf x).toNat)
 case atStart=>exact⟨0,_,_,oM,rfl,aK.o⟩
 obtain⟨i,u,v,hi,rfl,hR⟩:=hrel;by_cases hlt:i<24
 ·have aG:i/8<s.size:=oM
  have aH:=flag_dv s i aG;obtain⟨t,ht⟩:∃t,zer s i=t:=⟨_,rfl⟩
  obtain⟨d,hd⟩:∃d,i/8=d:=⟨_,rfl⟩
  obtain⟨r,hr⟩:∃r,i%8=r:=⟨_,rfl⟩
  have d1:(i:Int)/8=(d:Int):=oM
  have r1:(i:Int)%8=(r:Int):=oM
  have r2:r<8:=oM
  have aM:d<s.size:=oM
  obtain⟨c,hc⟩:∃c:Nat,(s[d]).toNat=c:=⟨_,rfl⟩
  have aL:(dv c r%2==1)=t:=by rw[←ht,aH];subst hd hr hc;rfl
  have c1:c<256:=by have:=(s[d]).toNat_lt;omega
  have d2:(0:Int)<=(d:Int):=oM
  have d3:(d:Int)<3:=oM
  have HT:=hJ ht;have HR:=hJ hR;have HI:=hJ (aI hlt (aI hd hr));clear ht aH hd hr aG hR aK;go_wp2;go_loopw [6,7] (fun x y w'=>∃j:Nat,j<=r/\y=.int .i64 j/\x=.int .i64 (dv c j)/\wr=w') (fun _ y _=>r-(intOf y).toNat)
  case atStart=>exact⟨0,zL _,rfl,by rw[dv_zero],rfl⟩
  obtain⟨j,hj,rfl,rfl,rfl⟩:=hrel;obtain⟨p0,p1⟩:=dv_le c j c1;by_cases hjl:j<r
  ·have E1:=hJ (dv_succ c j);have j0:(0:Int)<=(j:Int):=oM
   have j1:(j:Int)<(r:Int):=oM
   go_wp2;go_roundw
   case rel=>exact⟨j+1,oM,gK,by rw[E1.out],trivial⟩
   simp[intOf];omega
  obtain rfl:j=r:=oM
  clear hj hjl;obtain⟨a1,e1,a2,e2,hu,hv⟩:=HR.o.two.form;subst hu hv;obtain⟨v0,v1⟩:=HR.o.var.cells;have m1:=HR.o.var.lt;by_cases h16:i<16
  ·have HP:=hJ (aI (pX_lo s i h16) (pY_lo s i h16));rw[HT.o]at HP;have lp:(fc (pX s i)).length<=1000000000000:=by rw[zad,zfr];omega
   obtain⟨P,hP⟩:∃P,pX s i=P:=⟨_,rfl⟩
   obtain⟨Q,hQ⟩:∃Q,pY s i=Q:=⟨_,rfl⟩
   rw[hP,hQ]at HP HR;rw[hP]at lp;rw[hP]at v0;rw[hQ]at v1;have aB:=HR.o.two.a;clear hP hQ;go_wp2_with (at_builtin;refine zb5 wr wr rfl _ _ 24 rfl (w.1.size+1+1) 4 Tryz.u24 (.bool false) 1 Tryz.i4 rfl dC _ (fc P) (by rfl) aB bR (by have:=HR.o.var.lt;omega) (.bool t) rfl (by rfl) lp ?_;intro v' w2 R1 R2 R3;obtain⟨b1,f1,aD,-⟩:=R1.form;generalize (fc P++[Value.bool t]).length=n1 at aD;subst aD;obtain⟨aC,q0,q1,q2⟩:=HR.o.first R1 R2 R3;have aF:=hJ aC;clear R1 R2 R3 aC)
   go_roundw
   case rel=>exact⟨i+1,_,_,oM,gK,by rw[HP.o.1,HP.o.2];exact aF.o⟩
   simp[intOf];omega
  have HP:=hJ (aI (pX_hi s i h16) (pY_hi s i h16));rw[HT.o]at HP;have lp:(fc (pY s i)).length<=1000000000000:=by rw[zad,zfs];omega
  obtain⟨P,hP⟩:∃P,pX s i=P:=⟨_,rfl⟩
  obtain⟨Q,hQ⟩:∃Q,pY s i=Q:=⟨_,rfl⟩
  rw[hP,hQ]at HP HR;rw[hQ]at lp;rw[hP]at v0;rw[hQ]at v1;have aB:=HR.o.two.b;clear hP hQ;go_wp2_with (at_builtin;refine zb5 wr wr rfl _ _ 24 rfl (w.1.size+1+1) 4 Tryz.u24 (.bool false) 1 Tryz.i4 rfl dC _ (fc Q) (by rfl) aB bR (by have:=HR.o.var.lt;omega) (.bool t) rfl (by rfl) lp ?_;intro v' w2 R1 R2 R3;obtain⟨b1,f1,aD,-⟩:=R1.form;generalize (fc Q++[Value.bool t]).length=n1 at aD;subst aD;obtain⟨aC,q0,q1,q2⟩:=HR.o.second R1 R2 R3;have aF:=hJ aC;clear R1 R2 R3 aC)
  go_roundw
  case rel=>exact⟨i+1,_,_,oM,gK,by rw[HP.o.1,HP.o.2];exact aF.o⟩
  simp[intOf];omega
 obtain rfl:i=24:=oM
 obtain⟨a1,e1,a2,e2,hu,hv⟩:=hR.two.form;subst hu hv;generalize (pX s 24).length=n1 at*;generalize (pY s 24).length=n2 at*;obtain⟨v0,v1⟩:=hR.var.cells;obtain⟨q0,q1⟩:=hR.res.cells;obtain⟨f0,f1⟩:=hR.res.frozen;have m1:=hR.var.lt;have m0:=hR.res.lt;have HT:=hJ hR.two;have HB:=hJ hR.bel;clear hR;go_wp2;refine bY (v:=.tuple #[.agg #[.slice a1 n1 e1,.slice a2 n2 e2],.bool true]) (by simp[results,go_sem,q0,q1]) rfl ⟨_,_,rfl,?_,?_⟩
 ·exact((HT.o.set_other oM _).set_other oM _).base_le oM
 exact((HB.o.setCell sI _).setCell sI _)
theorem zhc(s:BA)(h1:s.size<=1048576):
  ∃(r:Bool)(xs ys:List Bool),(xs.length<=16/\ys.length<=8)/\(r=true->xs.length=16/\ys.length=8)/\∀w:Wd,Calls Tryz.prog 117 #[.string s] w fun e w'=>∃u v,e=.returned (.tuple #[.agg #[u,v],.bool r])/\Two w' w.1.size u v xs ys/\Bw w w':=by
 by_cases h:s.size=3
 ·refine⟨true,pX s 24,pY s 24,?_,?_,fun w=>zft s w h⟩
  ·rw[zfr,zfs];omega
  intro _;rw[zfr,zfs];omega
 refine⟨false,[],[],?_,?_,fun w=>(zhb s w h h1).mono fun e w' ⟨he,hb⟩=>⟨_,_,he,Two.nil _ _,hb⟩⟩
 ·simp
 simp
namespace Kit
open Go.Maps
theorem zkc(d:Dp)(p:Va)(pl:Nat)(o:Option Nat):lnRow d p pl o=#[.int .i64 d.id,.int .i64 d.kd,.int .i64 d.io,.int .i64 d.pt,.int .i64 d.bk,.int .i64 d.sl,.string d.nm,.bool d.bt,.bool d.ot,.int .i64 d.af,p,.int .i64 (pl:Int),ptrV o]:=rfl
def MkPv(k:Nat)(d:Dp):Mk:=.val [k] (fun lo hi w v=>∃a c,v=.agg (d.row (.slice a d.bl.length c)).toArray/\ROwns w lo 3 (.slice a d.bl.length c) (ic d.bl)/\∀i,(Value.slice a d.bl.length c).ownBlock=some i->i<hi)
 (fun _ _ _ _ _ h hb=>by obtain⟨a,c,h1,h2,h3⟩:=h;exact⟨a,c,h1,h2.below hb nR,h3⟩)
def MkPl(k i j:Nat)(d:Dp)(pl:Nat)(o:Option Nat):Mk:=⟨[k,i,j],fun _ _ _ v x=>∃a c,x k=.agg (d.row (.slice a d.bl.length c)).toArray/\v=.agg (lnRow d (.slice a d.bl.length c) pl o),fun _ _ _ _ _ _ h _=>h,fun _ _ _ _ x x' e h=>by
 obtain⟨a,c,h1,h2⟩:=h;exact⟨a,c,by rw[←e k sI,h1],h2⟩⟩
def MkPb(k:Nat)(d:Dp)(pl:Nat)(o:Option Nat):Mk:=.val1 [k] k sI (fun lo hi w u v=>v=.pointer (some ⟨lo,0,none⟩)/\hi=lo+1/\∃a c,u=.agg (lnRow d (.slice a d.bl.length c) pl o)/\AtC w lo 142 (lnRow d (.slice a d.bl.length c) pl o))
 (fun _ _ _ _ _ _ h hb=>by obtain⟨h1,h2,a,c,h3,h4⟩:=h;exact⟨h1,h2,a,c,h3,h4.over hb⟩)
end Kit
open Go.Maps
theorem Tryz.u72:Tryz.prog.underlying 72=some (.map 3 139):=by kernel_rfl
theorem Tryz.z139(w:Wd):(zeroValue 139).run Tryz.prog w=.ok (.pointer none) w:=by kernel_rfl
theorem put_any(L B:Nat)(E:List Ln)(ps:List Va)(pl:Nat)(id kd io pt bk sl:Int)(nm:BA)(bt ot:Bool)(af:Int)(bl:List Int)(p:Va)(w:Wd)(h:LE Tryz.prog w L B E ps)(hv:RInts w p bl)(hl:bl.length<=1048576)(hn:nm.size<=1048576)(hw:(Lit.int .i64 id).wf=true)(hE:E.length<1048576)(hL:L<=w.1.size):
  Calls Tryz.prog 68 #[.map (some B),.agg #[.int .i64 id,.int .i64 kd,.int .i64 io,.int .i64 pt,.int .i64 bk,.int .i64 sl,.string nm,.bool bt,.bool ot,.int .i64 af,p],.int .i64 (pl:Int)] w fun e w'=>e=.returned (.tuple #[])/\∃g u,LE Tryz.prog w' L B (E++[⟨pl,(⟨id,kd,io,pt,bk,sl,nm,bt,ot,af,bl⟩:Dp),g⟩]) (ps++[u])/\w.grownBy w' (some B):=by
 have H:=hJ h;have HV:=hJ hv;have HW:=hJ hw;have HE:=hJ hE;have HL:=hJ hL;obtain⟨a,c,rfl⟩:=hv.form;clear h hv hw hE hL;go_enter Tryz.func68,Tryz.ntmps68
 go_wp2_with fail
 have HC:Hid (∀W,Bw (w.n (K7 id kd io pt bk sl nm bt ot af a bl.length c) 42).drew W->AtC W w.1.size 42 (K7 id kd io pt bk sl nm bt ot af a bl.length c)/\Bw w W/\w.1.size+1<=W.1.size):=fun W b=>by
  have b2:=zac b;have sz:=b2.size;simp at sz;exact⟨(AtC.new w 42 _).over b2,((bF _ w).alloc nR _).trans (b2.mono sI),sz⟩
 refine zau kL [0,1,2,3,4,5,6,7,8,9,10,11] [12] (fun i=>match i with|0=>.const [] (.map (some B))|1=>.const [] (.pointer (some ⟨w.1.size,0,none⟩))|2=>.const [1] (.int .i64 id)|3=>.const [] (.agg (K7 id kd io pt bk sl nm bt ot af a bl.length c))|4=>MkPv 3 (⟨id,kd,io,pt,bk,sl,nm,bt,ot,af,bl⟩:Dp)|5=>.const [] (.int .i64 (pl:Int))|6=>.const [] (.map (some B))|7=>.const [] (.pointer (some ⟨w.1.size,0,none⟩))|8=>.const [7] (.int .i64 id)|9=>.const [6,8] (ptrV (lastP id E))|10=>MkPl 4 5 9 (⟨id,kd,io,pt,bk,sl,nm,bt,ot,af,bl⟩:Dp) pl (lastP id E)|11=>MkPb 10 (⟨id,kd,io,pt,bk,sl,nm,bt,ot,af,bl⟩:Dp) pl (lastP id E)|_=>.triv) (fun x=>⟨#[Value.map (some B),.agg (K7 id kd io pt bk sl nm bt ot af a bl.length c),.int .i64 ↑pl,undef,.pointer (some ⟨w.1.size,0,none⟩),undef,x 0,x 1,x 2,x 3,x 4,x 5,x 6,x 7,x 8,x 9,x 10,x 11],[]⟩) (fun i=>match i with|0=>undef|1=>undef|2=>undef|3=>undef|4=>undef|5=>undef|6=>undef|7=>undef|8=>undef|9=>undef|10=>undef|11=>undef|_=>undef) rfl kL kL kL rfl ?_ ?_
 ·intro jo hj so x iw W hd hp K hK;simp only[mN,nN,or_false]at hj;rcases hj with rfl|rfl|rfl|rfl|rfl|rfl|rfl|rfl|rfl|rfl|rfl|rfl<;>refine wpOp_step (o:=_) rfl fun K' hK'=>?_<;>have HK:=hJ (fun(v:Va) (W':Wd) h1 h2=>hK' _ _ (hK v W' h1 h2))<;>simp only[upd,Nat.reduceEqDiff,if_true,if_false]at HK
  ·exact cQ6
  ·exact cQ6
  ·exact cQ89
  ·have k0:=(HC.o W hp.bel).1;obtain⟨q0,q1,q2,q3,q4,q5,q6,q7,q8,q9,aQ⟩:=AtC.elv k0;clear k0;go_simp;exact HK.o _ _ bR rfl
  ·have e3:x 3=.agg (K7 id kd io pt bk sl nm bt ot af a bl.length c):=hp.post 3 (hd 3 mz0);have aP:=(HC.o W hp.bel).2.1;simp only[e3]at HK ⊢;go_simp;refine(zll id kd io pt bk sl nm bt ot af bl _ W (HV.o.below aP nR) hl hn).mono ?_;rintro e w6 ⟨u,rfl,O6,B6⟩;obtain⟨b1,d1,rfl⟩:=O6.rints.form;go_simp;exact HK.o _ _ B6 ⟨b1,d1,rfl,O6,fun i hi=>(O6.lt i hi).2⟩
  ·exact cQ6
  ·exact cQ6
  ·exact cQ6
  ·have e7:x 7=.pointer (some ⟨w.1.size,0,none⟩):=hp.post 7 (hd 7 mz0);have q0:=(HC.o W hp.bel).1.c0;simp only[e7]at HK ⊢;go_simp;exact HK.o _ _ bR rfl
  ·have e6:x 6=.map (some B):=hp.post 6 (hd 6 mz0);have e8:x 8=.int .i64 id:=hp.post 8 (hd 8 mz1);have lk:=(H.out.below (HC.o W hp.bel).2.1).look Tryz.u3 Tryz.u72 Tryz.z139 HW.o;simp only[e6,e8]at HK ⊢;go_simp;exact HK.o _ _ bR rfl
  ·have e4:∃a c,x 4=.agg ((⟨id,kd,io,pt,bk,sl,nm,bt,ot,af,bl⟩:Dp).row (.slice a (⟨id,kd,io,pt,bk,sl,nm,bt,ot,af,bl⟩:Dp).bl.length c)).toArray/\ROwns W (iw 4).1 3 (.slice a (⟨id,kd,io,pt,bk,sl,nm,bt,ot,af,bl⟩:Dp).bl.length c) (ic (⟨id,kd,io,pt,bk,sl,nm,bt,ot,af,bl⟩:Dp).bl)/\∀i,(Value.slice a (⟨id,kd,io,pt,bk,sl,nm,bt,ot,af,bl⟩:Dp).bl.length c).ownBlock=some i->i<(iw 4).2:=hp.post 4 (hd 4 mz0);have e5:x 5=.int .i64 (pl:Int):=hp.post 5 (hd 5 mz1);have e9:x 9=ptrV (lastP id E):=hp.post 9 (hd 9 mz2);obtain⟨b1,d1,e4,-⟩:=e4;have aD:=hJ e4;have aR:Hid (∀o,lastP id E=o->lastP id E=o):=fun _ h=>h;rw[e4,e5,e9]at HK ⊢;clear e4 e5 e9;generalize lastP id E=o at HK ⊢
   cases o<;>simp only[ptrV,Dp.row]at HK ⊢<;>go_simp<;>exact HK.o _ _ bR ⟨b1,d1,by rw[zaq _ _ _ _ dC];exact aD.o,rfl⟩
  have aB:∃a c,x 4=.agg ((⟨id,kd,io,pt,bk,sl,nm,bt,ot,af,bl⟩:Dp).row (.slice a (⟨id,kd,io,pt,bk,sl,nm,bt,ot,af,bl⟩:Dp).bl.length c)).toArray/\x 10=.agg (lnRow (⟨id,kd,io,pt,bk,sl,nm,bt,ot,af,bl⟩:Dp) (.slice a (⟨id,kd,io,pt,bk,sl,nm,bt,ot,af,bl⟩:Dp).bl.length c) pl (lastP id E)):=hp.post 10 (hd 10 mz0);obtain⟨b1,d1,-,aB⟩:=aB;have aD:=hJ aB;simp only[aB]at HK ⊢;clear aB;generalize lastP id E=o at*
  cases o<;>simp only[ptrV,lnRow]at HK ⊢<;>go_simp<;>exact HK.o _ _ ((bF _ W).alloc nR _) ⟨rfl,sI,b1,d1,by rw[zaq _ _ _ _ dC];exact aD.o,AtC.new W 142 _⟩
 intro x iw W hp;have e0:x 0=.map (some B):=hp.post 0 dC;have e2:x 2=.int .i64 id:=hp.post 2 dC;obtain⟨b1,d1,e4,O4,aG⟩:=hp.post 4 dC;obtain⟨b2,d2,k4,aB⟩:=hp.post 10 dC;obtain⟨aF,aN,b3,d3,k10,aO⟩:=hp.post 11 dC;rw[e4]at k4;rw[aB]at k10;simp only[Dp.row,zkc,Value.agg.injEq,Array.mk.injEq,List.cons.injEq,vJ,true_and,and_true]at k4 k10;obtain⟨rfl,rfl⟩:=k4;obtain⟨rfl,rfl⟩:=k10;have aC:=hp.apart 4 dC 11 dC dC;have l4:=hp.lo 4 dC;have aL:=hp.lo 11 dC;simp[World.drew]at l4 aL;obtain⟨kA,bel,-⟩:=HC.o W hp.bel;have aM:lastP ((⟨id,kd,io,pt,bk,sl,nm,bt,ot,af,bl⟩:Dp)).id E=lastP id E:=rfl;obtain⟨D,m1,m2⟩:=H.out.put (g:=(iw 11).1) (p:=.slice b1 bl.length d1) (d:=(⟨id,kd,io,pt,bk,sl,nm,bt,ot,af,bl⟩:Dp)) (pl:=pl) Tryz.u3 bel aO oM (O4.base_le (zL _)) (fun k hk=>by
  have q1:=(O4.lt k hk).1;have q2:=aG k hk;omega) HW.o HL.o
 generalize (iw 11).1=g at*;simp only[e0,e2,aF];clear hp O4 aG e4 aB kA aN aC l4 aL e0 e2 aF;refine wpList_mapUpdate_own (H:=Nat) _ rfl _ _ _ 72 rfl 3 139 (int_keyed Tryz.u3) Tryz.u72 ptrE B E.length D rfl m1 (by have:=HE.o;show E.length<maxLen;exact Nat.lt_trans this dC) _ _ (.int .i64 id) rfl rfl (keyOf_int_mk Tryz.u3 HW.o) (.held g) [] rfl ?_;intro w2 o2 g2;have aH:=m2 w2 o2 g2;have aK:=hJ (aI aH (zae (zal bel _) g2));clear m1 m2 o2 g2 aH bel;go_wp2
 go_end0
 exact⟨rfl,g,_,aK.o.1,aK.o.2⟩
namespace Kit
def lenOf:Va->Nat
 | .slice _ n _=>n
 | _=>0
structure Fo(w:Wd)(E:List Ln)(wr:Wd)(v:Va)(F:List (Fin E.length)):Prop where
 own:NOwns wr 139 1 v (F.map fun j=>[Value.pointer (aA (E[j].b) 0)])
 lo:∀k,v.ownBlock=some k->w.1.size<k
 bel:Bw w wr
 sz:w.1.size<wr.1.size
 nd:F.Nodup
namespace Fo
variable {w wr w' : World} {E : List Ln} {v v' : Value} {F : List (Fin E.length)}
theorem len(h:Fo w E wr v F):F.length<=E.length:=by
 have:=List.Nodup.length_le_of_subset h.nd (l₂:=List.finRange E.length) (fun a _=>List.mem_finRange a);simpa using this
theorem lenV(h:Fo w E wr v F):lenOf v=F.length:=by
 obtain⟨a,c,rfl,-⟩:=h.own.form;simp[lenOf]
theorem turn(h:Fo w E wr v F)(hg:wr.grownBy w' (some w.1.size)):Fo w E w' v F :=
 ⟨h.own.of_heap fun k hk=>hg.block k (h.own.lt k hk) (fun e=>by have:=h.lo k hk;cases e;omega),h.lo,h.bel.grown hg (Nat.le_of_lt h.sz) (fun k hk=>by cases hk;exact Nat.le_refl _),Nat.lt_of_lt_of_le h.sz hg.size,h.nd⟩
theorem app(h:Fo w E wr v F)(i:Fin E.length)(hi:i∉F){o:Obj}(h1:NOwns w' 139 1 v' ((F.map fun j=>[Value.pointer (some ⟨E[j].b,0,none⟩)])++[[Value.pointer (some ⟨E[i].b,0,none⟩)]]))(h2:(wr.alloc o).grownBy w' v.ownBlock)(h3:∀k,v'.ownBlock=some k->v.ownBlock=some k\/(wr.alloc o).heap.size<=k):Fo w E w' v' (F++[i]):=by
 have hz:=h.sz;have hs:(wr.alloc o).heap.size=wr.1.size+1:=by simp
 refine⟨by rw[List.map_append];exact h1,fun k hk=>?_,?_,?_,?_⟩
 ·rcases h3 k hk with e|e
  ·exact h.lo k e
  omega
 ·exact(h.bel.alloc (Nat.le_of_lt hz) o).grown h2 oM (fun k hk=>Nat.le_of_lt (h.lo k hk))
 ·have:=h2.size;omega
 rw[List.nodup_append];exact⟨h.nd,by simp,fun a ha b hb=>by simp at hb;subst hb;exact fun e=>hi (e ▸ ha)⟩
end Fo
theorem zfw(x y:Int):(Lit.int .i64 x).sameKey (.int .i64 y)=decide (x=y):=by
 simp[Lit.sameKey]
theorem zlm(E:List Ln)(j:Nat)(hj:j<E.length):lastP E[j].d.id E≠none:=by
 intro e;rcases zef E[j].d.id E E.length nR with⟨-,h⟩| ⟨i,hi,-,h,-⟩
 ·exact h j hj hj rfl
 rw[List.take_length,e]at h
 cases h
def rowsL(E:List Ln)(ps:List Value):List Row:=List.zipWith (fun e p=>e.d.row p) E ps
theorem zc3{E:List Ln}{ps:List Value}(h:ps.length=E.length):(rowsL E ps).length=E.length:=by simp[rowsL,h]
theorem zhf{E:List Ln}{ps:List Value}(j:Nat)(h:j<(rowsL E ps).length)(h1:j<E.length)(h2:j<ps.length):(rowsL E ps)[j]=E[j].d.row ps[j]:=by simp[rowsL]
theorem LEN.list{P:Program}{w w2:World}{L B N:Nat}{E:List Ln}{ps:List Value}(h:LEN P w L B E ps N){lv:Value}(hn:NOwns w2 42 11 lv (rowsL E ps))(hlo:∀k,lv.ownBlock=some k->w.1.size<=k)(hb:Below w.1.size w w2):
  GN KDep w2 (fun k=>(∃(i:Nat)(hi:i<ps.length),ps[i].ownBlock=some k)\/w.1.size<=k) lv (rowsL E ps) (E.map (·.d)):=by
 have hl:=h.len;have aF:=zc3 hl;have aB:∀(j:Nat) (hj:j<(rowsL E ps).length),∃(h2:j<ps.length),KDep.p (rowsL E ps)[j]=ps[j]:=fun j hj=>⟨by omega,by rw[zhf j hj oM oM];rfl⟩
 have aC:∀(j:Nat)(hj:j<ps.length)(k:Nat),ps[j].ownBlock=some k->k<w.1.size:=fun j hj k hk=>((h.own j oM hj).lt k hk).2;refine⟨by simp[aF],hn,fun j hj aG=>?_,fun i j hi hj aD k e1 e2=>?_,fun j hj k e1 e2=>?_,fun k e=>.inr (hlo k e),fun j hj k e=>?_⟩
 ·refine⟨ps[j]'oM,?_,?_⟩
  ·rw[zhf j hj oM oM,List.getElem_map]
  rw[List.getElem_map];exact(h.own j oM oM).below hb nR
 ·obtain⟨q1,r1⟩:=aB i hi;obtain⟨q2,r2⟩:=aB j hj;rw[r1]at e1;rw[r2]at e2;exact h.np i j q1 q2 aD k e1 e2
 ·obtain⟨q1,r1⟩:=aB j hj;rw[r1]at e1;have:=aC j q1 k e1;have:=hlo k e2;omega
 obtain⟨q1,r1⟩:=aB j hj;rw[r1]at e;exact .inl ⟨j,q1,e⟩
end Kit
theorem Tryz.u144:Tryz.prog.underlying 144=some (.slice 139):=by kernel_rfl
theorem Tryz.i139:(Tryz.prog.info? 139).map (fun i=>(i.zero,i.size,i.bytes))=some (some (.pointer none),1,8):=by kernel_rfl
theorem zjc{N:Nat}(L B:Nat)(E:List Ln)(ps:List Va)(w:Wd)(h:LEN Tryz.prog w L B E ps N)(hpl:∀i j:Fin E.length,i<j->E[i].pl<E[j].pl)(hE:E.length<=1048576):
  Calls Tryz.prog 71 #[.map (some B)] w fun e w'=>∃lv ts,e=.returned lv/\GN KDep w' (fun k=>(∃(i:Nat)(hi:i<ps.length),ps[i].ownBlock=some k)\/w.1.size<=k) lv ts (E.map (·.d))/\Below w.1.size w w':=by
 have H:=hJ h;have HPL:=hJ hpl;have HE:=hJ hE;obtain⟨D,hown,hat,hhas⟩:=h.map;have HAT:=hJ hat;have HAS:=hJ hhas;clear h hpl hE hat hhas;go_enter Tryz.func71,Tryz.ntmps71
 go_wp2_with (first| (at_range;refine wpList_range_own (H:=Nat) _ rfl _ 72 rfl 3 139 (int_keyed Tryz.u3) Tryz.u72 ptrE B N D rfl hown ?_;intro w0 hrg0 hg0 hs0)| go_in)
 go_frame
 go_loopw [3] (fun fv wr=>Hid (∃left cnt F,wr.ranges Tryz.prog 3 ptrE B w.1.size N D left cnt/\Fo w E wr fv F/\∀j:Fin E.length,j∈F↔left (.int .i64 E[j].d.id)=false)) (fun fv wr=>wr.rangeLeft B w.1.size)
 case atStart =>
  refine⟨_,_,[],hrg0,⟨NOwns.nil _ _ _,(fun k hk=>by cases hk),?_,oM,List.nodup_nil⟩,fun j=>?_⟩
  ·exact(bF _ w).grown hg0 nR (fun k hk=>by cases hk)
  ·have e1:=HAS.o E[j].d.id (H.out.wf j j.2);have e2:=zlm E j j.2;rw[e1];constructor
   ·intro e;cases e
   ·intro e
    cases e3:lastP E[j].d.id E with
    | none=>exact absurd e3 e2
    | some b=>rw[e3]at e;cases e
 case round =>
  obtain⟨left,cnt,F,hrg,hF,hmem⟩:=hrel.out;have HF:=hJ (aI hrg (aI hF hmem));clear hF hmem hrel hrg0 hg0 hs0;go_wp2_with (at_next;refine wpList_next_ranges (H:=Nat) _ rfl _ rfl 3 (int_keyed Tryz.u3) ptrE (Value.int .i64) ptrV (fun key kl hkey=>by obtain⟨x,rfl,_⟩:=Maps.keyOf_int_inv Tryz.u3 hkey;exact⟨x,rfl⟩) (fun v y hv=>by obtain⟨o,rfl,_⟩:=zj8 hv;exact⟨o,rfl⟩) B w.1.size N D left cnt rfl hrg ?_ ?_)
  ·intro hc0 hl0;have hall:∀j:Fin E.length,j∈F:=fun j=>(HF.o.2.2 j).2 (hl0 _);have hFo:=HF.o.2.1;have hsz:=hFo.bel.size;have HALL:=hJ hall;have HFO:=hJ hFo;have HCALL:Hid (Calls Tryz.prog 105 #[u3,.func (.func 106) #[] #[]] wr fun e w'=>e=.returned (.tuple #[])/\∃a c,u3=.slice a E.length c/\(∀(k:Nat)(h:k<E.length),∃g,a=some ⟨g,0,none⟩/\g<w'.1.size/\w'.cell? ⟨g,k,none⟩=some (.pointer (some ⟨E[k].b,0,none⟩)))/\Below w.1.size w w'):=by
    have hFl:F.length=E.length:=by
     have:=((List.perm_ext_iff_of_nodup hFo.nd (List.nodup_finRange E.length)).2 fun a=>⟨fun _=>List.mem_finRange a,fun _=>hall a⟩).length_eq;simpa using this
    obtain⟨a,c,e3,hc,ha0⟩:=hFo.own.form;rw[lM]at e3 hc;by_cases e0:E.length=0
    ·have e00:u3=.slice a 0 c:=by rw[e3,hFl,e0]
     rw[e00];have hcon:=AnyF.slices_SortFunc_none { Tryz.sortL with } a c (.func (.func 106) #[] #[]) wr
     change Calls Tryz.prog 105 _ _ _ at hcon
     refine hcon.mono ?_;rintro e w' ⟨rfl,rfl⟩;exact⟨rfl,a,c,by rw[e0],fun k hk=>oM,hFo.bel⟩
    ·obtain⟨g,cap,e4,-,hfr,hg,-⟩:=hFo.own.at 0 (by rw[lM];omega);rw[lM]at e4;have hlo:w.1.size<g:=hFo.lo g (by rw[e4];rfl);have hLE:=H.out.below hFo.bel;have hb0:∀j:Fin E.length,E[j].b<w.1.size:=fun j=>(H.out.cell j j.2 (by have:=H.out.len;omega)).lt;rw[e4];refine Calls.mono (zn6 E F g cap wr (fun j=>?_) (fun j=>?_) (fun j=>?_) HPL.o hFo.nd hall oM HE.o hg (fun k hk=>?_)) ?_
     ·exact(hLE.cell j j.2 (by have:=H.out.len;omega)).cell 11
     ·have:=hb0 j;omega
     ·have:=hb0 j;omega
     ·obtain⟨g2,cap2,e5,hcell,hfr2,-,-⟩:=hFo.own.at k (by rw[lM];exact hk);rw[e4]at e5;simp only[vJ,oJ,aJ]at e5;obtain⟨⟨rfl,-⟩,-⟩:=e5;refine⟨?_,hfr2 k⟩;have:=hcell 0 dC;rw[Nat.mul_one,Nat.add_zero]at this;rw[this];simp
     ·rintro e w' ⟨rfl,b1,-,b3⟩;exact⟨rfl,_,_,by rw[hFl],fun k hk=>⟨g,rfl,lL hg b1.size,b3 k hk⟩,hFo.bel.trans (b1.mono oM)⟩
   clear hall hFo hsz hl0;go_wp2_with (go_at_call 105;refine HCALL.o.mono ?_;rintro e w9 ⟨rfl,a9,c9,rfl,C9,B9⟩;have HC9:=hJ C9;have HB9:=hJ B9;clear C9 B9)
   clear HCALL HF hrg hc0;go_loopw [29,6] (fun i lv wr=>∃j:Nat,j<=E.length/\i=.int .i64 j/\Hid (NOwns wr 42 11 lv ((rowsL E ps).take j)/\(∀k,lv.ownBlock=some k->w9.1.size<=k)/\Below w9.1.size w9 wr)) (fun i lv _=>E.length-(intOf i).toNat)
   case atStart=>exact⟨0,zL _,rfl,NOwns.nil _ _ _,(fun k hk=>by cases hk),bF _ _⟩
   case round =>
    obtain⟨j,hj,rfl,HR⟩:=hrel;by_cases hlt:j<E.length
    ·obtain⟨hn,hlo,hbl⟩:=HR.o;obtain⟨g,rfl,hg,hcj⟩:=HC9.o j hlt;have hlm:=H.out.len;have hbw:Below w.1.size w wr:=HB9.o.trans (hbl.mono HB9.o.size);have cj:wr.cell? ⟨g,j,none⟩=some (.pointer (some ⟨E[j].b,0,none⟩)):=(hbl.cell (p:=⟨g,j,none⟩) hg).trans hcj;have kc:=(H.out.below hbw).cell j hlt oM;have own:=(H.out.below hbw).own j hlt oM;have hrl:=zc3 hlm;have htk:(rowsL E ps).take j++[E[j].d.row (ps[j]'oM)]=(rowsL E ps).take (j+1):=by
      rw[←zhf j oM hlt oM];exact tG oM
     obtain⟨X,hX⟩:∃X,E[j].d=X:=⟨_,rfl⟩
     obtain⟨p,hp⟩:∃p,ps[j]'oM=p:=⟨_,rfl⟩
     rw[hX,hp]at kc own htk;obtain⟨id,kd,io,pt,bk,sl,nm,bt,ot,af,bl⟩:=X;obtain⟨pa,pc,rfl⟩:=own.rints.form;simp only[zkc]at kc;obtain⟨eb,heb⟩:∃eb,E[j].b=eb:=⟨_,rfl⟩
     rw[heb]at kc cj;obtain⟨a1,c1,e1,hc1,-⟩:=hn.form;have htl:((rowsL E ps).take j).length=j:=by rw[lK];omega
     obtain⟨d0,d1,d2,d3,d4,d5,d6,d7,d8,d9,d10⟩:=AtC.elv kc;have HT:Hid (NOwns (wr.alloc (.cells (K7 id kd io pt bk sl nm bt ot af pa bl.length pc) 42)) 42 11 u6 ((rowsL E ps).take j)):=hn.of_heap fun k hk=>((bF _ wr).alloc nR _).block k (hn.lt k hk);have HTL:Hid (((rowsL E ps).take j).length<=100000000000):=by
      have q2:=HE.o;show _<=_;omega
     have HSTEP:Hid (∀v' w',NOwns w' 42 11 v' ((rowsL E ps).take j++[(⟨id,kd,io,pt,bk,sl,nm,bt,ot,af,bl⟩:Dp).row (.slice pa bl.length pc)])->(wr.alloc (.cells (K7 id kd io pt bk sl nm bt ot af pa bl.length pc) 42)).grownBy w' u6.ownBlock->(∀k,v'.ownBlock=some k->u6.ownBlock=some k\/(wr.alloc (.cells (K7 id kd io pt bk sl nm bt ot af pa bl.length pc) 42)).1.size<=k)->NOwns w' 42 11 v' ((rowsL E ps).take (j+1))/\(∀k,v'.ownBlock=some k->w9.1.size<=k)/\Below w9.1.size w9 w'):=fun v' w' q1 q2 q3=>by
      have hsz:=hbl.size;refine⟨by rw[htk]at q1;exact q1,fun k hk=>?_,?_⟩
      ·rcases q3 k hk with e|e
       ·exact hlo k e
       ·simp at e;omega
      ·exact(hbl.alloc hsz _).grown q2 sO (fun k hk=>hlo k hk)
     have hE1:E.length<=1048576:=HE.o;have j0:(0:Int)<=(j:Int):=oM
     have j1:(j:Int)<(E.length:Int):=oM
     clear HR hn hlo hbl hcj hbw kc own htk hX hp heb e1 hc1 hg;go_wp2_with (at_builtin;refine wS fun K' hK'=>?_;refine zap _ rfl (.tmp 33) (.tmp 38) 31 rfl 42 Tryz.u31 _ 11 104 Tryz.i42 rfl dC dC u6 _ rfl HT.o wr.1.size ((⟨id,kd,io,pt,bk,sl,nm,bt,ot,af,bl⟩:Dp).row (.slice pa bl.length pc)) rfl rfl (fun i u hu=>(AtC.new wr 42 (K7 id kd io pt bk sl nm bt ot af pa bl.length pc)).at_ i u hu) (by simp[Dp.row,Value.oneCell']) HTL.o ?_;intro v12 w12 T12 G12 V12;refine hK' _ _ ?_;have HR12:=hJ (HSTEP.o v12 w12 T12 G12 V12);clear T12 G12 V12 hK')
     go_roundw
     case rel=>exact⟨j+1,oM,gK,HR12.o⟩
     case measure=>simp[intOf];omega
    ·have hj2:j=E.length:=oM
     subst hj2;go_wp2;go_ret;obtain⟨hn,hlo,hbl⟩:=HR.o;have hbw:Below w.1.size w wr:=HB9.o.trans (hbl.mono HB9.o.size);have hrl:=zc3 H.out.len;rw[←hrl,List.take_length]at hn;exact⟨_,_,rfl,H.out.list hn (fun k hk=>lT HB9.o.size (hlo k hk)) hbw,hbw⟩
  ·intro x c kl ya yb w1 cnt1 hkey hlk hv hzat hrg1 hlt hg1 hs1 hen;obtain⟨x',ex,rfl,hwx⟩:=Maps.keyOf_int_inv Tryz.u3 hkey
   cases ex
   have hc:lastP x E=c:=by
    have e1:=HAT.o x hwx;rw[hzat]at e1;rw[zn5]at hv;simp only[oJ,Prod.mk.injEq]at hv;rw[←hv.1]at e1;exact(zj9 e1).symm
   subst hc;have HI:=hJ (aI hrg1 (aI (HF.o.2.1.turn hg1) HF.o.2.2));have HLK:=hJ hlk;have HLT:=hJ (aI hlt hrg);clear hkey hv hzat hrg hrg1 hlk hlt hg1 hs1 HF;go_wp2_with fail
   go_loopw [5,3] (fun one fv wr=>Hid (∃t F,t<=E.length/\one=ptrV (lastP x (E.take t))/\wr.ranges Tryz.prog 3 ptrE B w.1.size N D (fun z=>left z&&!z.sameKey (.int .i64 x)) cnt1/\Fo w E wr fv F/\∀j:Fin E.length,j∈F↔(left (.int .i64 E[j].d.id)=false\/(E[j].d.id=x/\t<=j.1)))) (fun one fv wr=>E.length-lenOf fv)
   case atStart=>exact⟨E.length,F,Nat.le_refl _,by rw[List.take_length],HI.o.1,HI.o.2.1,fun j=>(HI.o.2.2 j).trans ⟨.inl,fun e=>e.elim id fun e=>absurd e.2 (by have:=j.2;omega)⟩⟩
   case round =>
    obtain⟨t,F2,ht,e5,hrg2,hF2,hm2⟩:=hrel.out;clear hrel;rcases zef x E t ht with⟨h1,h2⟩| ⟨i,hi,hit,h1,h3,h4⟩
    ·rw[h1]at e5;simp only[ptrV]at e5;subst e5;go_wp2;go_roundw
     case rel =>
      refine⟨_,cnt1,F2,hrg2,hF2,fun j=>(hm2 j).trans ⟨fun e=>?_,fun e=>?_⟩⟩
      ·rcases e with e|e
       ·show(left (.int .i64 E[j].d.id)&&!(Lit.int .i64 E[j].d.id).sameKey (.int .i64 x))=false;rw[e];rfl
       ·show(left (.int .i64 E[j].d.id)&&!(Lit.int .i64 E[j].d.id).sameKey (.int .i64 x))=false;rw[zfw,e.1];simp
      ·by_cases e2:E[j].d.id=x
       ·exact .inr ⟨e2,by
         by_cases q:t<=j.1
         ·exact q
         ·exact absurd e2 (h2 j j.2 oM)⟩
       ·refine .inl ?_;have e':(left (.int .i64 E[j].d.id)&&!(Lit.int .i64 E[j].d.id).sameKey (.int .i64 x))=false:=e;rw[zfw,dF e2,Bool.not_false,Bool.and_true]at e';exact e'
     case measure=>rw[hrg2.left_eq,HLT.o.2.left_eq];exact HLT.o.1
    ·rw[h1]at e5;simp only[ptrV]at e5;subst e5;have hlm:=H.out.len;have hni:(⟨i,hi⟩:Fin E.length)∉F2:=fun q=>by
      rcases(hm2 ⟨i,hi⟩).1 q with e|e
      ·have e':left (.int .i64 E[i].d.id)=false:=e;rw[h3,HLK.o]at e'
       cases e'
      ·have:=e.2;simp only at this;omega
     have HT:Hid (NOwns (wr.alloc (.cells #[.pointer (some ⟨E[i].b,0,none⟩)] 139)) 139 1 u3 (F2.map fun j=>[Value.pointer (some ⟨E[j].b,0,none⟩)])):=hF2.own.of_heap fun k hk=>((bF _ wr).alloc nR _).block k (hF2.own.lt k hk);have HTL:Hid ((F2.map fun j=>[Value.pointer (some ⟨E[j].b,0,none⟩)]).length<=100000000000):=by
      have q1:=hF2.len;have q2:=HE.o;show _<=_;rw[lM];omega
     have HSTEP:Hid (∀v' w',NOwns w' 139 1 v' ((F2.map fun j=>[Value.pointer (some ⟨E[j].b,0,none⟩)])++[[Value.pointer (some ⟨E[i].b,0,none⟩)]])->(wr.alloc (.cells #[.pointer (some ⟨E[i].b,0,none⟩)] 139)).grownBy w' u3.ownBlock->(∀k,v'.ownBlock=some k->u3.ownBlock=some k\/(wr.alloc (.cells #[.pointer (some ⟨E[i].b,0,none⟩)] 139)).1.size<=k)->w'.cell? ⟨E[i].b,12,none⟩=some (ptrV (lastP x (E.take i)))/\lenOf v'=F2.length+1/\∃t F,t<=E.length/\ptrV (lastP x (E.take i))=ptrV (lastP x (E.take t))/\w'.ranges Tryz.prog 3 ptrE B w.1.size N D (fun z=>left z&&!z.sameKey (.int .i64 x)) cnt1/\Fo w E w' v' F/\∀j:Fin E.length,j∈F↔(left (.int .i64 E[j].d.id)=false\/(E[j].d.id=x/\t<=j.1))):=fun v' w' q1 q2 q3=>by
      have hF3:=hF2.app ⟨i,hi⟩ hni q1 q2 q3;have hsz:=hF2.sz;refine⟨?_,?_,i,_,Nat.le_of_lt hi,rfl,?_,hF3,fun j=>?_⟩
      ·have k:=((H.out.below hF3.bel).cell i hi oM).cell 12;rw[h3]at k;exact k
      ·rw[hF3.lenV,lA];rfl
      ·refine(hrg2.alloc _).kept q2 (fun e=>?_) (fun e=>?_)
       ·have:=hF2.lo B e.symm;have:=H.out.lt;omega
       ·have:=hF2.lo w.1.size e.symm;omega
      ·rw[List.mem_append,hm2 j];constructor
       ·rintro((q|q)| q)
        ·exact .inl q
        ·exact .inr ⟨q.1,oM⟩
        ·have q':j=⟨i,hi⟩:=by simpa using q
         subst q';exact .inr ⟨h3,Nat.le_refl _⟩
       ·rintro(q|q)
        ·exact .inl (.inl q)
        ·by_cases e:t<=j.1
         ·exact .inl (.inr ⟨q.1,e⟩)
         ·by_cases e2:i=j.1
          ·right
           rw[List.mem_singleton];exact Fin.ext e2.symm
          ·exact absurd q.1 (h4 j j.2 oM oM)
     have hlv:=hF2.lenV;have hlen2:F2.length+1<=E.length:=by
      have:=List.Nodup.length_le_of_subset (l₁:=F2++[⟨i,hi⟩]) (l₂:=List.finRange E.length) (by
       rw[List.nodup_append];exact⟨hF2.nd,sI,fun a ha b hb=>by simp at hb;subst hb;exact fun e=>hni (e ▸ ha)⟩) (fun a _=>List.mem_finRange a)
      simpa using this
     have HLV:=hJ (aI hlv hlen2);clear hrg2 hF2 hm2 h4 h1 hni hlv hlen2;generalize E[i].b=eb at*;go_wp2_with (at_builtin;refine wS fun K' hK'=>?_;refine zap _ rfl (.tmp 21) (.tmp 23) 144 rfl 139 Tryz.u144 _ 1 8 Tryz.i139 rfl dC dC u3 _ rfl HT.o wr.1.size [.pointer (some ⟨eb,0,none⟩)] rfl rfl (fun j u hu=>(AtC.new wr 139 #[.pointer (some ⟨eb,0,none⟩)]).at_ j u hu) (by simp[Value.oneCell']) HTL.o ?_;intro v12 w12 T12 G12 V12;refine hK' _ _ ?_;obtain⟨c12,l12,R12⟩:=HSTEP.o v12 w12 T12 G12 V12;have HR12:=hJ R12;clear R12 T12 G12 V12 hK')
     go_roundw
     case rel=>exact HR12.o
     case measure =>
      have q:=HLV.o;simp only[l12,q.1];omega
namespace Kit
def MkWg(k:Nat)(xs:List Bool):Mk:=.val [k] (fun lo hi w v=>∃a c,v=.slice a xs.length c/\ROwns w lo 4 v (fc xs)/\∀i,v.ownBlock=some i->i<hi)
 (fun _ _ _ _ _ h hb=>by obtain⟨a,c,h1,h2,h3⟩:=h;exact⟨a,c,h1,h2.below hb nR,h3⟩)
def MkWo(k n:Nat)(ps:List Va)(ds:List Dp):Mk:=.val [k] (fun lo hi w v=>∃a c ts,v=.slice a n c/\GN KDep w (fun k=>(∃(i:Nat)(hi:i<ps.length),ps[i].ownBlock=some k)\/(lo<=k/\k<hi)) v ts ds)
 (fun _ _ _ _ _ h hb=>by obtain⟨a,c,ts,h1,h2⟩:=h;exact⟨a,c,ts,h1,h2.below hb nR⟩)
def MkM7(k l o q n1 n2 n3 n4 n5 n6:Nat)(nx:Int):Mk:=⟨[k,l,o,q],fun _ _ _ v x=>∃a1 c1 a2 c2 a3 c3 a4 c4 a5 c5 a6 c6,x k=.agg #[.slice a1 n1 c1,.slice a2 n2 c2,.slice a3 n3 c3,.slice a4 n4 c4]/\x l=.slice a5 n5 c5/\x o=.slice a6 n6 c6/\v=.agg #[.slice a1 n1 c1,.slice a2 n2 c2,.slice a3 n3 c3,.slice a4 n4 c4,.slice a5 n5 c5,.slice a6 n6 c6,.int .i64 nx],fun _ _ _ _ _ _ h _=>h,fun _ _ _ _ x x' e h=>by
 obtain⟨a1,c1,a2,c2,a3,c3,a4,c4,a5,c5,a6,c6,h1,h2,h3,h4⟩:=h;exact⟨a1,c1,a2,c2,a3,c3,a4,c4,a5,c5,a6,c6,by rw[←e k sI,h1],by rw[←e l sI,h2],by rw[←e o sI,h3],h4⟩⟩
end Kit
theorem zje{N:Nat}(L B:Nat)(E:List Ln)(ps:List Va)(u v iv bv dv pv:Va)(m:MD)(w:Wd)(h:MR w u v iv bv dv pv m)(hB:BigM 1048576 m)(hE:LEN Tryz.prog w L B E ps N)(hpl:∀i j:Fin E.length,i<j->E[i].pl<E[j].pl)(hEl:E.length<=1048576)(hL:L<=w.1.size):
  Calls Tryz.prog 40 #[.agg #[u,v,iv,bv,dv,pv,.int .i64 m.nx],.map (some B)] w fun e w'=>∃u' v' i' b' d' p',e=.returned (.agg #[u',v',i',b',d',p',.int .i64 m.nx])/\MO w' (fun k=>L<=k) u' v' i' b' d' p' { m with ds:=E.map (·.d) }/\Bw w w':=by
 have H:=hJ h;have HG:=hJ hB;have HE:=hJ hE;have aG:=hJ hpl;have aL:=hJ hEl;have HL:=hJ hL;obtain⟨a1,c1,a2,c2,a3,c3,a4,c4,a5,c5,a6,c6,rfl,rfl,rfl,rfl,rfl,rfl⟩:=h.form;clear h hB hE hpl hEl hL;go_enter Tryz.func40,Tryz.ntmps40
 go_wp2_with fail
 have HC:Hid (∀W,Bw ((w.n (M7 m a1 c1 a2 c2 a3 c3 a4 c4 a5 c5 a6 c6) 33).n noM 33).drew W->AtC W w.1.size 33 (M7 m a1 c1 a2 c2 a3 c3 a4 c4 a5 c5 a6 c6)/\AtC W (w.1.size+1) 33 noM/\Bw w W/\w.1.size+1+1<=W.1.size):=fun W b=>by
  exact cQ45
 refine zau kL [0,1,2,3,4,5,6,7,8,9,10] [11] (fun i=>match i with|0=>.const [] (.pointer (some ⟨w.1.size,0,none⟩))|1=>.const [0] (.agg #[.slice a1 m.1.length c1,.slice a2 m.2.length c2,.slice a3 m.3.length c3,.slice a4 m.4.length c4])|2=>MkD 1 m.xs m.ys m.is m.bs|3=>.const [] (.pointer (some ⟨w.1.size,4,none⟩))|4=>.const [3] (.slice a5 m.5.length c5)|5=>MkWg 4 m.fs|6=>.const [] (.map (some B))|7=>MkWo 6 E.length ps (E.map (·.d))|8=>.const [] (.pointer (some ⟨w.1.size,6,none⟩))|9=>.const [8] (.int .i64 m.nx)|10=>MkM7 2 5 7 9 m.1.length m.2.length m.3.length m.4.length m.5.length E.length m.nx|_=>.triv) (fun x=>⟨#[.agg (M7 m a1 c1 a2 c2 a3 c3 a4 c4 a5 c5 a6 c6),Value.map (some B),.pointer (some ⟨w.1.size,0,none⟩),undef,.pointer (some ⟨w.1.size+1,0,none⟩),x 0,x 1,x 2,x 3,x 4,x 5,x 6,x 7,x 8,x 9,x 10],[]⟩) (fun i=>match i with|0=>undef|1=>undef|2=>undef|3=>undef|4=>undef|5=>undef|6=>undef|7=>undef|8=>undef|9=>undef|10=>undef|_=>undef) rfl kL kL kL rfl ?_ ?_
 ·intro jo hj so x iw W hd hp K hK;simp only[mN,nN,or_false]at hj;rcases hj with rfl|rfl|rfl|rfl|rfl|rfl|rfl|rfl|rfl|rfl|rfl<;>refine wpOp_step (o:=_) rfl fun K' hK'=>?_<;>have HK:=hJ (fun(v:Va) (W':Wd) h1 h2=>hK' _ _ (hK v W' h1 h2))<;>simp only[upd,Nat.reduceEqDiff,if_true,if_false]at HK
  ·exact cQ6
  ·exact cQ69
  ·have e1:x 1=.agg #[.slice a1 m.1.length c1,.slice a2 m.2.length c2,.slice a3 m.3.length c3,.slice a4 m.4.length c4]:=hp.post 1 (hd 1 mz0);have bl:=(HC.o W hp.bel).2.2.1;simp only[e1]at HK ⊢;go_simp;refine(zjd _ _ _ _ m.xs m.ys m.is m.bs W (H.out.d.below bl nR) HG.o.d).mono ?_;rintro e w6 ⟨p1,p2,p3,p4,rfl,O6,B6⟩;obtain⟨b1,d1,b2,d2,b3,d3,b4,d4,rfl,rfl,rfl,rfl⟩:=O6.dr.form;go_simp;exact HK.o _ _ B6 ⟨b1,d1,b2,d2,b3,d3,b4,d4,rfl,O6.bound⟩
  ·exact cQ6
  ·have e3:x 3=.pointer (some ⟨w.1.size,4,none⟩):=hp.post 3 (hd 3 mz0);have q0:=(HC.o W hp.bel).1.c4;simp only[e3]at HK ⊢;go_simp;exact HK.o _ _ bR rfl
  ·have e4:x 4=.slice a5 m.5.length c5:=hp.post 4 (hd 4 mz0);have bl:=(HC.o W hp.bel).2.2.1;simp only[e4]at HK ⊢;go_simp;refine(zhg _ m.fs W (H.out.f.below bl nR) HG.o.f).mono ?_;rintro e w6 ⟨u,rfl,O6,B6⟩;obtain⟨b1,d1,rfl⟩:=O6.rfl.form;go_simp;exact HK.o _ _ B6 ⟨b1,d1,rfl,O6,fun i hi=>(O6.lt i hi).2⟩
  ·exact cQ6
  ·have e6:x 6=.map (some B):=hp.post 6 (hd 6 mz0);have bl:=(HC.o W hp.bel).2.2.1;simp only[e6]at HK ⊢;go_simp;refine(zjc L B E ps W (HE.o.below bl) aG.o aL.o).mono ?_;rintro e w6 ⟨lv,ts,rfl,O6,B6⟩;obtain⟨b1,d1,ef⟩:=O6.form;rw[lM]at ef;subst ef;have O7:GN KDep w6 (fun k=>(∃(i:Nat)(hi:i<ps.length),ps[i].ownBlock=some k)\/(W.1.size<=k/\k<w6.1.size)) (.slice b1 E.length d1) ts (E.map (·.d)):=O6.bound.mono fun k hk=>hk.1.elim (fun e=>Or.inl e) fun e=>Or.inr ⟨e,hk.2⟩;go_simp;exact HK.o _ _ B6 ⟨b1,d1,ts,rfl,O7⟩
  ·exact cQ6
  ·have e8:x 8=.pointer (some ⟨w.1.size,6,none⟩):=hp.post 8 (hd 8 mz0);have q0:=(HC.o W hp.bel).1.c6;simp only[e8]at HK ⊢;go_simp;exact HK.o _ _ bR rfl
  have e2:∃a1 c1 a2 c2 a3 c3 a4 c4,x 2=.agg #[.slice a1 m.1.length c1,.slice a2 m.2.length c2,.slice a3 m.3.length c3,.slice a4 m.4.length c4]/\DO W (fun q=>(iw 2).1<=q/\q<(iw 2).2) (.slice a1 m.1.length c1) (.slice a2 m.2.length c2) (.slice a3 m.3.length c3) (.slice a4 m.4.length c4) m.xs m.ys m.is m.bs:=hp.post 2 (hd 2 mz0);have e5:∃a c,x 5=.slice a m.5.length c/\ROwns W (iw 5).1 4 (x 5) (fc m.fs)/\∀i,(x 5).ownBlock=some i->i<(iw 5).2:=hp.post 5 (hd 5 mz1);have e7:∃a c ts,x 7=.slice a E.length c/\GN KDep W (fun k=>(∃(i:Nat)(hi:i<ps.length),ps[i].ownBlock=some k)\/((iw 7).1<=k/\k<(iw 7).2)) (x 7) ts (E.map (·.d)):=hp.post 7 (hd 7 mz2);have e9:x 9=.int .i64 m.nx:=hp.post 9 (hd 9 mz3);obtain⟨b1,d1,b2,d2,b3,d3,b4,d4,e2,-⟩:=e2;obtain⟨b5,d5,e5,-⟩:=e5;obtain⟨b6,d6,ts,e7,-⟩:=e7;have aC:=hJ (aI e2 (aI e5 e7));simp only[e2,e5,e7,e9]at HK ⊢;clear e2 e5 e7 e9;go_simp;exact HK.o _ _ bR ⟨b1,d1,b2,d2,b3,d3,b4,d4,b5,d5,b6,d6,by rw[zaq _ _ _ _ dC];exact aC.o.1,by rw[zaq _ _ _ _ dC];exact aC.o.2.1,by rw[zaq _ _ _ _ dC];exact aC.o.2.2,rfl⟩
 intro x iw W hp;obtain⟨b1,d1,b2,d2,b3,d3,b4,d4,e2,O2⟩:=hp.post 2 dC;obtain⟨b5,d5,e5,O5,aD⟩:=hp.post 5 dC;obtain⟨b6,d6,ts,e7,O7⟩:=hp.post 7 dC;obtain⟨g1,h1,g2,h2,g3,h3,g4,h4,g5,h5,g6,h6,k2,k5,k7,aF⟩:=hp.post 10 dC;rw[e2]at k2;rw[e5]at k5 O5 aD;rw[e7]at k7 O7;simp only[Value.agg.injEq,Array.mk.injEq,List.cons.injEq,vJ,true_and,and_true]at k2 k5 k7;obtain⟨⟨rfl,rfl⟩,⟨rfl,rfl⟩,⟨rfl,rfl⟩,rfl,rfl⟩:=k2;obtain⟨rfl,rfl⟩:=k5;obtain⟨rfl,rfl⟩:=k7;have aH:=hp.apart 2 dC 5 dC dC;have aM:=hp.apart 2 dC 7 dC dC;have aK:=hp.apart 5 dC 7 dC dC;have l2:=hp.lo 2 dC;have l5:=hp.lo 5 dC;have l7:=hp.lo 7 dC;simp[World.drew]at l2 l5 l7;obtain⟨kA,kR,bel,-⟩:=HC.o W hp.bel;have hps:∀(i:Nat)(hi:i<ps.length)(k:Nat),ps[i].ownBlock=some k->L<=k/\k<w.1.size:=fun i hi k hk=>⟨HE.o.lop i hi k hk,((HE.o.own i (by have:=HE.o.len;omega) hi).lt k hk).2⟩
 have hL:=HL.o;have HM:Hid (MO ((W.s7 (w.1.size+1) (.slice b1 m.1.length d1) (.slice b2 m.2.length d2) (.slice b3 m.3.length d3) (.slice b4 m.4.length d4) (.slice b5 m.5.length d5) (.slice b6 E.length d6) (.int .i64 m.nx))) (fun k=>L<=k) (.slice b1 m.1.length d1) (.slice b2 m.2.length d2) (.slice b3 m.3.length d3) (.slice b4 m.4.length d4) (.slice b5 m.5.length d5) (.slice b6 E.length d6) { m with ds:=E.map (·.d) }/\Bw w ((W.s7 (w.1.size+1) (.slice b1 m.1.length d1) (.slice b2 m.2.length d2) (.slice b3 m.3.length d3) (.slice b4 m.4.length d4) (.slice b5 m.5.length d5) (.slice b6 E.length d6) (.int .i64 m.nx)))):=by
  have aB:∀k,k≠w.1.size+1->((W.s7 (w.1.size+1) (.slice b1 m.1.length d1) (.slice b2 m.2.length d2) (.slice b3 m.3.length d3) (.slice b4 m.4.length d4) (.slice b5 m.5.length d5) (.slice b6 E.length d6) (.int .i64 m.nx))).1[k]?=W.1[k]?:=fun k hk=>hs7 (by show k≠w.1.size+1;exact hk);refine⟨⟨_,fun k=>(iw 5).1<=k/\k<(iw 5).2,_,ts,O2.of_heap fun k hk _=>aB k oM,(O5.of_heap fun k hk=>aB k (by have:=(O5.lt k hk).1;omega)).base_le (zL _),fun k hk=>⟨(O5.lt k hk).1,aD k hk⟩,O7.of_heap fun k hk _=>aB k ?_,fun k hk=>⟨fun e=>?_,fun e=>?_⟩,fun k hk e=>?_,fun k hk=>?_⟩,(((((((bel).setCell sI _).setCell sI _).setCell sI _).setCell sI _).setCell sI _).setCell sI _).setCell sI _⟩
  ·rcases hk with⟨i,hi,hk⟩| hk
   ·have:=hps i hi k hk;omega
   omega
  ·omega
  ·exact cQ144
  ·exact cQ144
  rcases hk with hk|hk|⟨i,hi,hk⟩| hk
  ·show L<=k;omega
  ·show L<=k;omega
  ·exact(hps i hi k hk).1
  show L<=k;omega
 obtain⟨r0,r1,r2,r3,r4,r5,r6⟩:=kR.k7;obtain⟨v0,v1,v2,v3,v4,v5,v6⟩:=kR.f7;clear hp O2 O5 O7 aD kA kR bel aH aM aK l2 l5 l7 hps HC;simp only[e2,e5,e7,aF];clear e2 e5 e7 aF;go_wp2;rw[List.filterMap_nil];go_wp2;refine bY (v:=.agg #[.slice b1 m.1.length d1,.slice b2 m.2.length d2,.slice b3 m.3.length d3,.slice b4 m.4.length d4,.slice b5 m.5.length d5,.slice b6 E.length d6,.int .i64 m.nx]) sR7 rfl ⟨_,_,_,_,_,_,rfl,HM.o.1,HM.o.2⟩
theorem zeu(n:Int)(w:Wd):(Instr.makeMap 72 (some (nI n))).run Tryz.prog w=.ok (.map (some w.1.size)) (w.alloc (.map #[] 0)):=by
 simp[Instr.makeMap,run_underlying Tryz.u72,asInt,asIntOf,Result.andThen]
theorem zhh(pv:Va)(ds:List Dp)(w:Wd)(h:RN KDep w pv ds)(hl:ds.length<=1048576)(hb:∀(j:Nat)(h:j<ds.length),ds[j].bl.length<=1048576)(ht:∀(j:Nat)(h:j<ds.length),ds[j].nm.size<=1048576)(hw:∀(j:Nat)(h:j<ds.length),(Lit.int .i64 ds[j].id).wf=true):
  Calls Tryz.prog 39 #[pv] w fun e w'=>∃B E ps,e=.returned (.map (some B))/\LE Tryz.prog w' w.1.size B E ps/\E.map (·.d)=ds/\(∀(j:Nat)(h:j<E.length),E[j].pl=j)/\Bw w w':=by
 have H:=hJ h;have HB:=hJ hb;have HT:=hJ ht;have HW:=hJ hw;obtain⟨a6,c6,rfl,-⟩:=h.dep;clear h hb ht hw;have aT:=zeu;go_enter Tryz.func39,Tryz.ntmps39
 go_wp2_with fail
 go_loopw [11] (fun i wr=>∃j:Nat,j<=ds.length/\i=.int .i64 j/\Hid (∃E ps,LE Tryz.prog wr w.1.size w.1.size E ps/\E.map (·.d)=ds.take j/\(∀(k:Nat)(h:k<E.length),E[k].pl=k)/\Bw w wr)) (fun i _=>ds.length-(intOf i).toNat)
 case atStart=>exact⟨0,zL _,rfl,[],[],LE.nil _ w,sI,fun k h=>by simp at h,(bF _ w).alloc nR _⟩
 obtain⟨j,hj,rfl,HR⟩:=hrel;by_cases hlt:j<ds.length
 ·obtain⟨E,ps,hE,hd,hp,aB⟩:=HR.o;obtain⟨ai,aU,ei,-,aO⟩:=H.out.dep;obtain⟨g,aS,p,rfl,hg,mm,aD⟩:=aO j hlt;simp only[vJ,true_and]at ei;obtain⟨rfl,rfl⟩:=ei;have aH:=HB.o j hlt;have aG:=HT.o j hlt;have aK:=HW.o j hlt;have aL:=tG hlt;obtain⟨X,hX⟩:∃X,ds[j]=X:=⟨_,rfl⟩
  rw[hX]at mm aD aH aG aK aL;obtain⟨id,kd,io,pt,bk,sl,nm,bt,ot,af,bl⟩:=X;simp only at aD aH aG aK;obtain⟨pa,pc,rfl⟩:=aD.form;have aN:E.length=j:=by
   have:=congrArg List.length hd;rw[lM,lK]at this;omega
  have nn:=mm.below aB hg;simp only[DCells]at nn;obtain⟨n0,n1,n2,n3,n4,n5,n6,n7,n8,n9,aR⟩:=nn;have aC:Bw wr (wr.n (K7 id kd io pt bk sl nm bt ot af pa bl.length pc) 42):=(bF _ wr).alloc nR _;have aM:=aB.size;have aF:Hid (Calls Tryz.prog 68 #[.map (some w.1.size),.agg (K7 id kd io pt bk sl nm bt ot af pa bl.length pc),nI (j:Int)] (wr.n (K7 id kd io pt bk sl nm bt ot af pa bl.length pc) 42) fun e w'=>e=.returned (.tuple #[])/\∃E ps,LE Tryz.prog w' w.1.size w.1.size E ps/\E.map (·.d)=ds.take (j+1)/\(∀(k:Nat)(h:k<E.length),E[k].pl=k)/\Bw w w'):=by
   refine Calls.mono (put_any w.1.size w.1.size E ps j id kd io pt bk sl nm bt ot af bl (sL pa bl pc) _ (hE.below aC) ((aD.below aB nR).below aC nR) aH aG aK oM (lT aM aC.size)) ?_;rintro e w' ⟨rfl,g',u,L',G'⟩;refine⟨rfl,_,_,L',?_,fun k hk=>?_,?_⟩
   ·rw[List.map_append,hd];exact aL
   ·by_cases e:k<E.length
    ·rw[gL_ e];exact hp k e
    have e2:k=E.length:=by simp at hk;omega
    subst e2;rw[gR_ nR];simp[aN]
   exact(aB.trans (aC.mono aM)).grown G' (lT aM aC.size) (fun k hk=>by cases hk;exact Nat.le_refl _)
  have j0:(0:Int)<=(j:Int):=oM
  have j1:(j:Int)<(ds.length:Int):=oM
  clear HR hE hd hp aB aO hX mm aD aH aG aK aL aC hg aN;go_wp2_with (go_at_call 68;refine aF.o.mono ?_;rintro e w9 ⟨rfl,E9,aQ,L9⟩;have H9:=hJ L9;clear L9)
  go_roundw
  case rel=>exact⟨j+1,oM,gK,E9,aQ,H9.o⟩
  simp[intOf];omega
 have aP:j=ds.length:=oM
 subst aP;go_wp2;go_ret;obtain⟨E,ps,hE,hd,hp,aB⟩:=HR.o;rw[List.take_length]at hd;exact⟨_,E,ps,rfl,hE,hd,hp,aB⟩
namespace Kit
theorem asc{E:List Ln}(h:∀(j:Nat)(h:j<E.length),E[j].pl=j):∀i j:Fin E.length,i<j->E[i].pl<E[j].pl:=fun i j aB=>by
 have h1:=h i i.2;have h2:=h j j.2;show E[i.1].pl<E[j.1].pl;rw[h1,h2];exact aB
end Kit
structure Ub(W wr:Wd)(b1 b2:Nat)(A B:Array Va):Prop where
 b:Bw W wr
 x:AtC wr b1 33 A
 y:AtC wr b2 33 B
theorem Ub.over{W wr wr':Wd}{b1 b2:Nat}{A B:Array Va}(h:Ub W wr b1 b2 A B)(hb:Bw wr wr'):Ub W wr' b1 b2 A B:=⟨h.b.trans (hb.mono h.b.size),h.x.over hb,h.y.over hb⟩
theorem zls(u v iv bv dv pv u' v' i' b' d' p':Va)(m:MD)(w:Wd)(h:MR w u v iv bv dv pv m)(h':MR w u' v' i' b' d' p' m)(hB:BigM 1048576 m):
  Calls Tryz.prog 13 #[.agg #[u,v,iv,bv,dv,pv,nI m.nx],.agg #[u',v',i',b',d',p',nI m.nx]] w fun e w'=>e=.returned (.bool true)/\Bw w w':=by
 have HH:=hJ h;have aH:=hJ h';have HG:=hJ hB;obtain⟨a1,c1,a2,c2,a3,c3,a4,c4,a5,c5,a6,c6,rfl,rfl,rfl,rfl,rfl,rfl⟩:=h.form;obtain⟨d1,e1,d2,e2,d3,e3,d4,e4,d5,e5,d6,e6,rfl,rfl,rfl,rfl,rfl,rfl⟩:=h'.form;obtain⟨A,hA⟩:∃A,A=#[sL a1 m.1 c1,sL a2 m.2 c2,sL a3 m.3 c3,sL a4 m.4 c4,sL a5 m.5 c5,sL a6 m.6 c6,nI m.nx]:=⟨_,rfl⟩
 obtain⟨B,aF⟩:∃A,A=#[sL d1 m.1 e1,sL d2 m.2 e2,sL d3 m.3 e3,sL d4 m.4 e4,sL d5 m.5 e5,sL d6 m.6 e6,nI m.nx]:=⟨_,rfl⟩
 have HT:Hid (Ub w ((w.n (M7 m a1 c1 a2 c2 a3 c3 a4 c4 a5 c5 a6 c6) 33).n (M7 m d1 e1 d2 e2 d3 e3 d4 e4 d5 e5 d6 e6) 33) w.1.size (w.1.size+1) A B):=by
  subst hA aF;have a:=AtC.new (w.alloc (.cells (M7 m a1 c1 a2 c2 a3 c3 a4 c4 a5 c5 a6 c6) 33)) 33 (M7 m d1 e1 d2 e2 d3 e3 d4 e4 d5 e5 d6 e6);rw[wA_]at a;exact⟨((bF _ w).alloc nR _).alloc sI _,(AtC.new w 33 _).alloc _,a⟩
 have HC:Hid (∀W,Ub w W w.1.size (w.1.size+1) A B->(W.r0 w.1.size m a1 c1 a2 c2 a3 c3 a4 c4 a5 c5 a6 c6)/\(W.r0 (w.1.size+1) m d1 e1 d2 e2 d3 e3 d4 e4 d5 e5 d6 e6)):=fun W t=>by
  subst hA aF;exact⟨⟨t.x.cell 0,t.x.cell 1,t.x.cell 2,t.x.cell 3,t.x.cell 4,t.x.cell 5,t.x.cell 6⟩,t.y.cell 0,t.y.cell 1,t.y.cell 2,t.y.cell 3,t.y.cell 4,t.y.cell 5,t.y.cell 6⟩
 have FD:=hJ (fun W (b:Bw w W)=>zlr _ _ _ _ _ _ _ _ m.xs m.ys m.is m.bs W (HH.o.d.below b nR) (aH.o.d.below b nR) HG.o.d);have aM:=hJ HH.o.f;have aK:=hJ aH.o.f;have aW:=hJ HH.o.p.dep;have aY:=hJ aH.o.p.dep;have aZ:=HG.o.f;have aQ:=HG.o.l;clear h h' hB hA aF;go_enter Tryz.func13,Tryz.ntmps13
 go_wp2_with fail
 refine(FD.out _ HT.o.b).mono ?_;rintro e w1 ⟨rfl,B1⟩;have aN:=hJ (HT.o.over B1);obtain⟨⟨y0,y1,y2,y3,y4,y5,y6⟩,z0,z1,z2,z3,z4,z5,z6⟩:=HC.o _ aN.o;clear B1 HT;go_wp2_with fail
 clear y0 y1 y2 y3 y4 y5 y6 z0 z1 z2 z3 z4 z5 z6;go_loopw [5] (fun i wr=>∃j:Nat,j<=m.5.length/\i=.int .i64 j/\Hid (Ub w wr w.1.size (w.1.size+1) A B)) (fun i _=>m.5.length-(intOf i).toNat)
 case atStart=>exact⟨0,zL _,rfl,aN.o⟩
 obtain⟨j,hj,rfl,HR⟩:=hrel;have j0:(0:Int)<=(j:Int):=oM
 obtain⟨⟨-,-,-,-,y4,y5,-⟩,-,-,-,-,z4,z5,-⟩:=HC.o _ HR.o;by_cases hlt:j<m.5.length
 ·have j1:(j:Int)<(m.5.length:Int):=oM
  obtain⟨_,_,q1,qh⟩:=aM.o;simp only[vJ,true_and]at q1;obtain⟨rfl,rfl⟩:=q1;obtain⟨_,_,q2,aD⟩:=aK.o;simp only[vJ,true_and]at q2;obtain⟨rfl,rfl⟩:=q2;obtain⟨g,o,rfl,hg,k0⟩:=qh j hlt;obtain⟨g',o',rfl,aB,aG⟩:=aD j hlt;obtain⟨t,ht⟩:∃t,m.fs[j]=t:=⟨_,rfl⟩
  rw[ht]at k0 aG
  replace k0:=(HR.o.b.cell (p:=⟨g,o+j,none⟩) hg).trans k0
  replace aG:=(HR.o.b.cell (p:=⟨g',o'+j,none⟩) aB).trans aG
  clear ht;go_wp2;go_quiet(fail)
  go_wp2;have aX:∀q,Ub w (wr.drewN q) w.1.size (w.1.size+1) A B:=fun q=>HR.o.over (bD bR q);go_roundw
  case rel=>exact⟨j+1,oM,gK,aX _⟩
  simp[intOf];omega
 have j1:¬(j:Int)<(m.5.length:Int):=oM
 have aS:=hJ HR.o;clear HR;go_wp2_with fail
 clear y4 y5 z4 z5 hj j0 j1 hlt aM aK;go_loopw [6] (fun i wr=>∃j:Nat,j<=m.6.length/\i=.int .i64 j/\Hid (Ub w wr w.1.size (w.1.size+1) A B)) (fun i _=>m.6.length-(intOf i).toNat)
 case atStart=>exact⟨0,zL _,rfl,aS.o⟩
 obtain⟨j,hj,rfl,HR⟩:=hrel;have j0:(0:Int)<=(j:Int):=oM
 obtain⟨⟨-,-,-,-,-,y5,-⟩,-,-,-,-,-,z5,-⟩:=HC.o _ HR.o;by_cases hlt:j<m.6.length
 rotate_left
 ·have j1:¬(j:Int)<(m.6.length:Int):=oM
  go_wp2;go_ret;exact⟨rfl,HR.o.b⟩
 have j1:(j:Int)<(m.6.length:Int):=oM
 obtain⟨_,_,q1,-,qh⟩:=aW.o;simp only[vJ,true_and]at q1;obtain⟨rfl,rfl⟩:=q1;obtain⟨_,_,q2,-,aD⟩:=aY.o;simp only[vJ,true_and]at q2;obtain⟨rfl,rfl⟩:=q2;obtain⟨g,o,p,rfl,hg,n,r⟩:=qh j hlt;obtain⟨g',o',p1,rfl,aB,n',r'⟩:=aD j hlt;have CI:=hJ (fun W (b:Bw w W)=>zlo p p1 m.ds[j].bl W (r.below b nR) (r'.below b nR) (lT (HG.o.b j hlt) dC));obtain⟨pa,pc,rfl⟩:=r.form;obtain⟨qa,qc,rfl⟩:=r'.form;obtain⟨X,hX⟩:∃X,m.ds[j]=X:=⟨_,rfl⟩
 rw[hX]at n n' CI;obtain⟨id,kd,io,pt,bk,sl,nm,bt,ot,af,bl⟩:=X
 replace n:=n.below HR.o.b hg
 replace n':=n'.below HR.o.b aB
 have aC:=lL aB HR.o.b.size
 replace n':=n'.below ((bF wr.1.size wr).alloc nR (.cells (K7 id kd io pt bk sl nm bt ot af pa bl.length pc) 42)) aC
 simp only[DCells]at n n';obtain⟨m0,m1,m2,m3,m4,m5,m6,m7,m8,m9,aO⟩:=n;obtain⟨o0,o1,o2,o3,o4,o5,o6,o7,o8,o9,aT⟩:=n';have bC:¬g=wr.1.size:=by have:=HR.o.b.size;omega
 have aV:¬g'=wr.1.size:=by have:=HR.o.b.size;omega
 have bE:¬g=wr.1.size+1:=by have:=HR.o.b.size;omega
 have aP:¬g'=wr.1.size+1:=by have:=HR.o.b.size;omega
 have bG:¬w.1.size+1=wr.1.size:=by have:=HR.o.y.lt;omega
 have aR:=(HC.o _ (HR.o.over ((bF _ wr).alloc nR (.cells (K7 id kd io pt bk sl nm bt ot af pa bl.length pc) 42)))).2.2.2.2.2.2.1;have aL:Hid (∀P Q,Bw wr ((wr.n P 42).n Q 42)):=fun P Q=>((bF _ wr).alloc nR _).alloc sI _;clear hX;go_wp2_with fail
 refine(CI.out _ (HR.o.over (aL.o _ _)).b).mono ?_;rintro e w3 ⟨rfl,B3⟩;have aU:=hJ ((HR.o.over (aL.o (K7 id kd io pt bk sl nm bt ot af pa bl.length pc) (K7 id kd io pt bk sl nm bt ot af qa bl.length qc))).over B3);clear aR B3 m0 m1 m2 m3 m4 m5 m6 m7 m8 m9 aO o0 o1 o2 o3 o4 o5 o6 o7 o8 o9 aT;go_wp2;go_roundw
 case rel=>exact⟨j+1,oM,gK,aU.o⟩
 simp[intOf];omega
namespace Kit
theorem zln(id x:Int)(hx:x≠id)(l:List Ln):∀acc:Option Nat,(l.filter fun e=>!decide (e.d.id=id)).foldl (fun acc e=>if e.d.id=x then some e.b else acc) acc=l.foldl (fun acc e=>if e.d.id=x then some e.b else acc) acc:=by
 induction l with
 | nil=>exact fun _=>rfl
 | cons a l ih =>
  intro acc;by_cases h:a.d.id=id
  ·rw[List.filter_cons,if_neg (by simp[h]),ih,List.foldl_cons,if_neg (fun e=>hx (by rw[←e,h]))]
  ·rw[List.filter_cons,if_pos (by simp[h]),List.foldl_cons,List.foldl_cons,ih]
theorem zc4(id x:Int)(hx:x≠id)(l:List Ln):lastP x (l.filter fun e=>!decide (e.d.id=id))=lastP x l:=zln id x hx l none
theorem zgm(id:Int)(l:List Ln):lastP id (l.filter fun e=>!decide (e.d.id=id))=none:=by
 rcases zef id (l.filter fun e=>!decide (e.d.id=id)) _ nR with⟨h,-⟩| ⟨i,hi,-,-,h,-⟩
 ·rw[List.take_length]at h;exact h
 ·have:=gM_ hi;rw[List.mem_filter]at this;simp[h]at this
theorem zeg{α:Type}(l:List α)(d:α)(k:Nat)(h:k<l.length):l.getD k d=l[k]:=by simp[List.getD,h]
theorem LEN.del{P:Program}{w w':Wd}{L B N:Nat}{E:List Ln}{ps:List Va}(h:LEN P w L B E ps N){id:Int}{E':List Ln}(hE':(E.filter fun e=>!decide (e.d.id=id))=E'){D:DataW Nat}(hD:(∀id,(Lit.int .i64 id).wf=true->D.atKey (.int .i64 id) .nil=datP (lastP id E))/\∀id,(Lit.int .i64 id).wf=true->Maps.has D (.int .i64 id)=(lastP id E).isSome)
  (hm:w'.ownsMap P 3 ptrE B N (D.del (.int .i64 id))) (hg:w.grownBy w' (some B)) :
  ∃ps',LEN P w' L B E' ps' N/\((∀i j:Fin E.length,i<j->E[i].pl<E[j].pl)->∀i j:Fin E'.length,i<j->E'[i].pl<E'[j].pl):=by
 have hlen:=h.len;have hfa:=zdr (fun e:Ln=>!decide (e.d.id=id)) E;rw[hE']at hfa;obtain⟨f,h1,h2⟩:=hfa;have hid:∀(j:Nat)(hj:j<E'.length),E'[j].d.id≠id:=fun j hj=>by
  have m:∀y∈E',y.d.id≠id:=fun y hy=>by
   rw[←hE',List.mem_filter]at hy;simpa using hy.2
  exact m _ (gM_ hj)
 have fl:∀j,j<E'.length->f j<E.length:=fun j hj=>(h1 j hj).1;have fi:∀i j,i<E'.length->j<E'.length->i≠j->f i≠f j:=fun i j hi hj hne=>by
  rcases Nat.lt_or_gt_of_ne hne with q|q
  ·have:=h2 i j q hj;omega
  ·have:=h2 j i q hi;omega
 have oth:∀k,k<w.1.size->k≠B->w'.1[k]?=w.1[k]?:=fun k hk hne=>hg.block k hk (fun e=>hne (by cases e;rfl));refine⟨(List.range E'.length).map fun j=>ps.getD (f j) undef,⟨sI,⟨_,hm,fun x hx=>?_,fun x hx=>?_⟩,fun j hj hj'=>?_,fun j hj hj'=>?_,h.loB,fun j hj=>?_,fun j hj k hk=>?_,fun i j hi hj hne=>?_,fun j hj=>?_,fun i j hi hj hne k e1=>?_,fun i j hi hj k e1=>?_,fun i hi k e1=>?_,fun j hj=>?_⟩,fun hpl i j hij=>?_⟩
 ·by_cases e:x=id
  ·subst e;rw[atKey_del_same,←hE',zgm];rfl
  ·rw[atKey_del_other (fun q=>e (by injection q)),hD.1 x hx,←hE',zc4 id x e]
 ·by_cases e:x=id
  ·subst e;rw[has_del_same,←hE',zgm];rfl
  ·rw[has_del_other (fun q=>e (by injection q)),hD.2 x hx,←hE',zc4 id x e]
 ·obtain⟨q1,q2,q3⟩:=h1 j hj;have k:=h.cell (f j) q1 oM;have hn:=hid j hj;have e1:lastP E'[j].d.id (E'.take j)=lastP E[f j].d.id (E.take (f j)):=by
   rw[←q3,zc4 _ _ hn,q2]
  rw[e1];have e2:((List.range E'.length).map fun j=>ps.getD (f j) undef)[j]=ps[f j]'oM:=by
   rw[List.getElem_map,List.getElem_range,zeg _ _ _ oM]
  rw[e2,q2];exact(oth _ k.lt (h.nB (f j) q1)).trans k
 ·obtain⟨q1,q2,q3⟩:=h1 j hj;have k:=h.own (f j) q1 oM;have e2:((List.range E'.length).map fun j=>ps.getD (f j) undef)[j]=ps[f j]'oM:=by
   rw[List.getElem_map,List.getElem_range,zeg _ _ _ oM]
  rw[e2,q2];exact k.of_heap fun q hq=>oth q (k.lt q hq).2 (h.npB (f j) oM q hq)
 ·obtain⟨q1,q2,-⟩:=h1 j hj;rw[q2];exact h.lob (f j) q1
 ·have hj':j<E'.length:=by simpa using hj
  have q1:=fl j hj';rw[List.getElem_map,List.getElem_range,zeg _ _ _ oM]at hk;exact h.lop (f j) oM k hk
 ·obtain⟨q1,q2,-⟩:=h1 i hi;obtain⟨r1,r2,-⟩:=h1 j hj;rw[q2,r2];exact h.nb _ _ q1 r1 (fi i j hi hj hne)
 ·obtain⟨q1,q2,-⟩:=h1 j hj;rw[q2];exact h.nB (f j) q1
 ·have hi':i<E'.length:=by simpa using hi
  have hj':j<E'.length:=by simpa using hj
  have q1:=fl i hi';have q2:=fl j hj';rw[List.getElem_map,List.getElem_range,zeg _ _ _ oM]at e1 ⊢;exact h.np (f i) (f j) oM oM (fi i j hi' hj' hne) k e1
 ·have hi':i<E'.length:=by simpa using hi
  have q1:=fl i hi';obtain⟨r1,r2,-⟩:=h1 j hj;rw[List.getElem_map,List.getElem_range,zeg _ _ _ oM]at e1;rw[r2];exact h.npb (f i) (f j) oM r1 k e1
 ·have hi':i<E'.length:=by simpa using hi
  have q1:=fl i hi';rw[List.getElem_map,List.getElem_range,zeg _ _ _ oM]at e1;exact h.npB (f i) oM k e1
 ·obtain⟨q1,q2,-⟩:=h1 j hj;rw[q2];exact h.wf (f j) q1
 ·obtain⟨q1,q2,-⟩:=h1 i i.2;obtain⟨r1,r2,-⟩:=h1 j j.2;show E'[i.1].pl<E'[j.1].pl;rw[q2,r2];exact hpl ⟨f i,q1⟩ ⟨f j,r1⟩ (h2 i j hij j.2)
end Kit
theorem zn8(id:Int)(hid:(Lit.int .i64 id).wf=true)(u v iv bv dv pv:Va)(m:MD)(w:Wd)(h:MR w u v iv bv dv pv m)(hB:BigM 1048576 m)(hw:∀(j:Nat)(h:j<m.6.length),(Lit.int .i64 m.ds[j].id).wf=true):
  Calls Tryz.prog 11 #[.agg #[u,v,iv,bv,dv,pv,nI m.nx],nI id] w fun e w'=>∃u' v' i' b' d' p',e=.returned (.agg #[u',v',i',b',d',p',nI m.nx])/\MO w' (fun k=>w.1.size<=k) u' v' i' b' d' p' { m with ds:=za4 id m.ds }/\Bw w w':=by
 have H:=hJ h;have HG:=hJ hB;have HW:=hJ hw;have aK:=hJ hid;obtain⟨a1,c1,a2,c2,a3,c3,a4,c4,a5,c5,a6,c6,rfl,rfl,rfl,rfl,rfl,rfl⟩:=h.form;clear h hB hw hid;have HC:Hid (∀W,Bw ((w.n (M7 m a1 c1 a2 c2 a3 c3 a4 c4 a5 c5 a6 c6) 33).n noM 33) W->AtC W w.1.size 33 (M7 m a1 c1 a2 c2 a3 c3 a4 c4 a5 c5 a6 c6)/\AtC W (w.1.size+1) 33 noM/\Bw w W/\w.1.size+1+1<=W.1.size):=fun W b2=>by
  exact cQ26
 go_enter Tryz.func11,Tryz.ntmps11
 go_wp2_with fail
 refine(zhh _ m.ds _ ((H.out.p.below (HC.o _ bR).2.2.1 nR)) HG.o.l HG.o.b HG.o.t HW.o).mono ?_;rintro e w2 ⟨B,E,ps,rfl,O2,F2,G2,B2⟩;obtain⟨D,m1,m2,m3⟩:=O2.map;have aG:=hJ B2;have aC:=hJ (aI O2 (aI F2 (aI G2 (aI m2 m3))));clear O2 F2 G2 m2 m3 B2;obtain⟨w5,aF,o5,t5⟩:=m1.drop (int_keyed Tryz.u3) Tryz.u72 (keyOf_int_mk Tryz.u3 aK.o) 0;have HD:Hid (Bw ((w.n (M7 m a1 c1 a2 c2 a3 c3 a4 c4 a5 c5 a6 c6) 33).n noM 33) w5/\∃E' aB,LEN Tryz.prog w5 ((w.n (M7 m a1 c1 a2 c2 a3 c3 a4 c4 a5 c5 a6 c6) 33).n noM 33).1.size B E' aB E.length/\E'.map (·.d)=za4 id m.ds/\(∀i j:Fin E'.length,i<j->E'[i].pl<E'[j].pl)/\E'.length<=1048576):=by
  obtain⟨O2,F2,G2,m2,m3⟩:=aC.o;obtain⟨aB,q1,q2⟩:=O2.del (id:=id) rfl ⟨m2,m3⟩ o5 t5.grown;refine⟨aG.o.grown t5.grown aG.o.size (fun k hk=>by cases hk;exact O2.loB),_,aB,q1,?_,q2 (asc G2),?_⟩
  ·rw[←F2];simp only[za4,List.filter_map];rfl
  have q3:=HG.o.l;rw[←F2,lM]at q3;exact lT (List.length_filter_le _ _) q3
 obtain⟨E',aB,L5,F5,G5,N5⟩:=HD.o.2;have kA:=(HC.o w5 HD.o.1).1;obtain⟨x0,x1,x2,x3,x4,x5,x6⟩:=AtC.sev kA;have aD:=hJ L5;clear L5 kA o5 t5 aC;go_wp2_with fail
 refine(zje _ B E' aB _ _ _ _ _ _ m w5 (H.out.below (HC.o w5 HD.o.1).2.2.1 nR) HG.o aD.o G5 N5 HD.o.1.size).mono ?_;rintro e w9 ⟨u1,u2,u3,u4,u5,u6,rfl,O9,B9⟩;rw[F5]at O9;obtain⟨b1,d1,b2,d2,b3,d3,b4,d4,b5,d5,b6,d6,rfl,rfl,rfl,rfl,rfl,rfl⟩:=O9.mr.form;have q9:=HC.o w9 (HD.o.1.trans (B9.mono HD.o.1.size));have kR:=q9.2.1;obtain⟨r0,r1,r2,r3,r4,r5,r6⟩:=kR.k7;obtain⟨v0,v1,v2,v3,v4,v5,v6⟩:=kR.f7;have HM:Hid (MO ((w9.s7 (w.1.size+1) (sL b1 m.1 d1) (sL b2 m.2 d2) (sL b3 m.3 d3) (sL b4 m.4 d4) (sL b5 m.5 d5) (.slice b6 (za4 id m.ds).length d6) (nI m.nx))) (fun k=>w.1.size<=k) (sL b1 m.1 d1) (sL b2 m.2 d2) (sL b3 m.3 d3) (sL b4 m.4 d4) (sL b5 m.5 d5) (.slice b6 (za4 id m.ds).length d6) { m with ds:=za4 id m.ds }/\Bw w ((w9.s7 (w.1.size+1) (sL b1 m.1 d1) (sL b2 m.2 d2) (sL b3 m.3 d3) (sL b4 m.4 d4) (sL b5 m.5 d5) (.slice b6 (za4 id m.ds).length d6) (nI m.nx)))):=by
  have aH:=O9.mono (S':=fun k=>w.1.size+1+1<=k) (fun k hk=>by simp at hk;omega);exact⟨(aH.of_heap fun k hk _=>hs7 oA).mono fun k hk=>oM,(((((((q9.2.2.1).setCell sI _).setCell sI _).setCell sI _).setCell sI _).setCell sI _).setCell sI _).setCell sI _⟩
 clear q9 kR O9 B9 aD;go_wp2;refine bY (v:=.agg #[sL b1 m.1 d1,sL b2 m.2 d2,sL b3 m.3 d3,sL b4 m.4 d4,sL b5 m.5 d5,.slice b6 (za4 id m.ds).length d6,nI m.nx]) sR7 rfl ⟨_,_,_,_,_,_,rfl,HM.o.1,HM.o.2⟩
end Go.Proofs.YtgnplpmgkegcnaaGreat
