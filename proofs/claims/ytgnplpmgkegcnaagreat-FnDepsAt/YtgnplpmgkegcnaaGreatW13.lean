/- Texts. -/
import Derived.Test.YtgnplpmgkegcnaaGreatW09
import Derived.Test.YtgnplpmgkegcnaaGreatW10
set_option maxRecDepth 100000
set_option maxHeartbeats 12800000
namespace Go.Proofs.YtgnplpmgkegcnaaGreat
namespace Kit
open Go.RowKit
theorem zc0{w:Wd}{B:Nat}{v:Va}{l:List BA}(h:ROwns w B 9 v (stc l))(j:Nat)(hj:j<l.length):∃g c,v=.slice (aA g 0) l.length c/\w.cell? ⟨g,j,none⟩=some (.string l[j])/\g<w.1.size:=by
 obtain⟨g,c,e,h1,-,-,h4,-⟩:=h.at j (by rw[zaj];exact hj);rw[zaj]at e;exact⟨g,c,e,h1.trans (by simp[stc,hj]),h4⟩
end Kit
open Go.RowKit Kit
def walkN(is:List Ino)(bs:List Blk):Int->List BA->Int
 | i,[]=>i
 | i,n::r=>if inB (findI (named is bs i) n) 1 is.length=true then walkN is bs (findI (named is bs i) n) r else 0
def InoN(is:List Ino)(bs:List Blk)(p:BA)(e:Ending):Prop:=∃k:Int,e=.returned (nI k)/\0<=k/\k<=8/\∀l,Ans p l true->k=walkN is bs 1 l
theorem InoN.mk{is:List Ino}{bs:List Blk}{p:BA}{e:Ending}(h:∃k:Int,e=.returned (nI k)/\0<=k/\k<=8/\∀l,Ans p l true->k=walkN is bs 1 l):InoN is bs p e:=h
theorem zch(dx dy iv bv:Va)(xs ys:List Bool)(is:List Ino)(bs:List Blk)(p:BA)(w:Wd)(h:DR w dx dy iv bv xs ys is bs)(hB:Big 1048576 xs ys is bs)(hi:is.length=8)(hp:p.size<=1048576):
  Calls Tryz.prog 193 #[.agg #[dx,dy,iv,bv],.string p] w fun e w'=>InoN is bs p e/\Bw w w':=by
 obtain⟨a1,c1,a2,c2,a3,c3,a4,c4,rfl,rfl,rfl,rfl⟩:=h.form;have HH:=hJ h;have HB:=hJ hB;have HI:=hJ hi;have HPP:=hJ hp;have HW:Hid (∀W,Bw (w.alloc (.cells #[.slice a1 xs.length c1,.slice a2 ys.length c2,.slice a3 is.length c3,.slice a4 bs.length c4] 30)) W->Bw w W/\AtC W w.1.size 30 #[.slice a1 xs.length c1,.slice a2 ys.length c2,.slice a3 is.length c3,.slice a4 bs.length c4]):=fun W bb=>⟨((bF _ w).alloc nR _).trans (bb.mono sI),(AtC.new w 30 _).over bb⟩
 clear h hB hi hp;go_enter Tryz.func193,Tryz.ntmps193
 go_wp2_with fail
 refine(zdu p _ HPP.o).mono ?_;rintro e w1 ⟨⟨lv,l,r,rfl,O1,hl1,-,hans⟩,B1⟩;have HANS:=hJ hans;clear hans;obtain⟨la,lc,rfl,-⟩:=O1.form;obtain⟨ll,hll⟩:∃ll,(stc l).length=ll:=⟨_,rfl⟩
 have HL2:Hid (l.length=ll):=by show l.length=ll;rw[←hll,zaj]
 rw[hll]at O1;rw[hll];clear hll;generalize hW0:(w.alloc (.cells #[.slice a1 xs.length c1,.slice a2 ys.length c2,.slice a3 is.length c3,.slice a4 bs.length c4] 30))=W0 at*;clear hW0;have HO1:=hJ O1;have HL1:=hJ hl1;have HB1:=hJ B1;clear O1 hl1 B1
 cases r with
 | false =>
  go_wp2;go_ret;exact⟨InoN.mk ⟨0,rfl,dC,dC,fun l2 h2=>absurd (HANS.o.one h2).2 dC⟩,(HW.o _ HB1.o).1⟩
 | true =>
  have HL3:=hJ (HL1.o rfl);have hl4:ll<=4:=by have:=HL2.o;have:=HL3.o.1;omega
  clear HL1;go_wp2_with fail
  go_loopw [8,7] (fun i' k' wr=>∃(q:Nat)(k:Int),q<=ll/\i'=.int .i64 q/\k'=.int .i64 k/\1<=k/\k<=8/\Hid (Bw w1 wr/\walkN is bs 1 l=walkN is bs k (l.drop q))) (fun i' k' _=>ll-(intOf i').toNat)
  case atStart=>exact⟨0,1,zL _,rfl,rfl,dC,dC,bF _ _,by rw[List.drop_zero]⟩
  case round =>
   obtain⟨q,k,hq,rfl,rfl,hk1,hk8,HR2⟩:=hrel;have HR:=hJ HR2.o.1;have HWN:=hJ HR2.o.2;clear HR2;by_cases hlt:q<ll
   ·obtain⟨g,c,e9,kq9,hg⟩:=zc0 (HO1.o.below HR.o nR) q (by rw[HL2.o];exact hlt);rw[HL2.o]at e9;simp only[vJ,true_and]at e9;obtain⟨rfl,rfl⟩:=e9;obtain⟨nm,hnm⟩:∃nm,l[q]'(by rw[HL2.o];exact hlt)=nm:=⟨_,rfl⟩
    have k9:wr.cell? ⟨g,q,none⟩=some (.string nm):=by rw[←hnm];exact kq9
    have HWS:Hid (walkN is bs 1 l=if inB (findI (named is bs k) nm) 1 is.length=true then walkN is bs (findI (named is bs k) nm) (l.drop (q+1))else 0):=by
     show _=_;rw[HWN.o,dG (show q<l.length by rw[HL2.o];exact hlt),hnm];rfl
    clear hnm;have hbw:=HW.o wr (HB1.o.trans (HR.o.mono HB1.o.size));have HAL:Hid (∀W,Bw wr W->AtC W w.1.size 30 #[.slice a1 xs.length c1,.slice a2 ys.length c2,.slice a3 is.length c3,.slice a4 bs.length c4]/\Bw w W/\Bw w1 W):=fun W bb=>⟨hbw.2.over bb,hbw.1.trans (bb.mono hbw.1.size),HR.o.trans (bb.mono HR.o.size)⟩
    have A0:=hbw.2;obtain⟨x0,x1,x2,x3⟩:=AtC.four A0;have q0:(0:Int)<=(q:Int):=oM
    have q1:(q:Int)<(ll:Int):=oM
    clear A0 hbw hg kq9;go_upto_region 8 with fail
    go_cut [7]from 16 to 38 (fun c wx=>(∃k2:Int,c=.int .i64 k2/\k2=findI (named is bs k) nm)/\Bw wr wx)
    case first =>
     go_region_with (go_at_call 204;refine(zfl k nm _ _ _ _ xs ys is bs _ (HH.o.below (HAL.o _ (zac bR)).2.1 nR) HB.o).mono ?_;rintro e w2 ⟨Bk,s2,k2,rfl,-,hk2,B2⟩;have HB2:=hJ (aI hk2 B2);clear B2 hk2)
     all_goals (go_wp2_with fail;go_meet;exact⟨⟨_,rfl,HB2.o.1⟩,zac HB2.o.2⟩)
    case rest =>
     obtain⟨⟨k2,rfl,hk2⟩,hb2⟩:=hcut;have HK2:=hJ hk2;clear hk2;obtain⟨A2,b2,b3⟩:=HAL.o wc hb2;have y2:=A2.c2;have HZ:=hJ (aI b2 b3);clear A2 b2 b3 hb2 HAL x0 x1 x2 x3 k9
     cases hin:inB k2 1 is.length with
     | false =>
      have HIN:=hJ hin;clear hin;go_wp2_with fail
      refine(zak k2 1 _ _).mono ?_;rintro e w7 ⟨rfl,rfl⟩;rw[HIN.o];go_wp2;go_ret;exact⟨InoN.mk ⟨0,rfl,dC,dC,fun l2 h2=>by rw[←(HANS.o.one h2).1,HWS.o,←HK2.o,HIN.o];rfl⟩,HZ.o.1⟩
     | true =>
      have HIN:=hJ hin;have hk:=zay hin;have HK:Hid (1<=k2/\k2<=8):=by rw[HI.o]at hk;exact hk
      clear hin hk;go_wp2_with fail
      refine(zak k2 1 _ _).mono ?_;rintro e w7 ⟨rfl,rfl⟩;rw[HIN.o];go_wp2;have HREL:Hid (∃(q':Nat)(k':Int),q'<=ll/\nI ((q:Int)+1)=nI q'/\nI k2=nI k'/\1<=k'/\k'<=8/\Hid (Bw w1 w7/\walkN is bs 1 l=walkN is bs k' (l.drop q'))):=⟨q+1,k2,oM,gK,rfl,HK.o.1,HK.o.2,HZ.o.2,by rw[HWS.o,←HK2.o,HIN.o];rfl⟩
      go_roundw
      case rel=>first| exact HREL.o|((repeat apply Exists.intro);exact⟨HREL.o,rfl⟩)
      case measure=>simp[intOf];omega
   ·have HF:=hJ (HW.o wr (HB1.o.trans (HR.o.mono HB1.o.size))).1;go_wp2;go_ret;exact⟨InoN.mk ⟨k,rfl,oM,hk8,fun l2 h2=>by rw[←(HANS.o.one h2).1,HWN.o,List.drop_of_length_le (by rw[HL2.o];omega)];rfl⟩,HF.o⟩
theorem zb8{bs:List Blk}{x:Int}(h:inB x 1 bs.length=true):∃(jb:Nat)(hb:jb<bs.length),x=(jb:Int)+1/\blkAt bs x=bs[jb]:=by
 obtain⟨h1,h2⟩:=zay h;refine⟨(x-1).toNat,oM,oM,?_⟩;unfold blkAt;rw[h,if_pos rfl];rw[gD_,gE (show(x-1).toNat<bs.length by omega)];rfl
theorem zgg{is:List Ino}{bs:List Blk}{n:BA}{k:Int}:∀(l:List BA)(i:Int),walkN is bs i l=k->k≠0->walkN is bs i (l++[n])=if inB (findI (named is bs k) n) 1 is.length=true then findI (named is bs k) n else 0
 | [],i,h,_=>by
  have e:i=k:=h;subst e;rfl
 | a::r,i,h,hk=>by
  show(if inB (findI (named is bs i) a) 1 is.length=true then walkN is bs (findI (named is bs i) a) (r++[n])else 0)=_;have h':(if inB (findI (named is bs i) a) 1 is.length=true then walkN is bs (findI (named is bs i) a) r else 0)=k:=h;by_cases hb:inB (findI (named is bs i) a) 1 is.length=true
  ·rw[if_pos hb]at h' ⊢;exact zgg r _ h' hk
  ·rw[if_neg hb]at h';exact absurd h'.symm hk
theorem zic{nm:BA}:∀{L:List Sl},(∃s∈L,s.1=nm)->∃s∈L,s.1=nm/\findI L nm=s.2
 | [],h=>by obtain⟨s,hs,_⟩:=h;simp at hs
 | a::r,h=>by
  by_cases e:a.1=nm
  ·exact⟨a,sI,e,by rw[findI,if_pos e]⟩
  ·obtain⟨s,hs,h1⟩:=h;rcases List.mem_cons.1 hs with h2|h2
   ·subst h2;exact absurd h1 e
   ·obtain⟨t,ht,h3,h4⟩:=zic (L:=r) ⟨s,h2,h1⟩;exact⟨t,mC _ ht,h3,by rw[findI,if_neg e,h4]⟩
def Abs(j:Nat)(nm:BA)(is:List Ino)(bs:List Blk):Prop:=∀h:j<is.length,is[j].1≠0/\∀p∈is[j].2.2,∀s∈nmd (blkAt bs p),¬s.1=nm
theorem nmd_ino{Z:ZT}{m:MD}(hm:Sh Z m){p:Int}{s:Sl}(h:s∈nmd (blkAt m.bs p)):1<=s.2/\s.2<=8:=by
 by_cases hb:inB p 1 m.4.length=true
 ·obtain⟨jb,hl,e1,e2⟩:=zb8 hb;rw[e2]at h;have hk:=hm.bb _ (gM_ hl);generalize m.bs[jb]=X at h hk;obtain⟨d,ss,t⟩:=X
  cases d with
  | false=>simp[nmd]at h
  | true =>
   have h2:s∈nmdS ss:=by simpa[nmd]using h
   obtain⟨h3,h4⟩:=zey h2;have h5:=hk.s s h3;rcases h5.2 with h6|h6
   ·exact absurd h6.1 (znc h4)
   exact h6
 rw[zi4 (by simpa using hb)]at h;simp at h
theorem zfn{Z:ZT}{m:MD}(hm:Sh Z m){l:List BA}{nm:BA}{j:Nat}(hw:walkN m.is m.bs 1 l=(j:Int)+1)(h0:walkN m.is m.bs 1 (l++[nm])=0)(hj:j<m.3.length)(hk:m.is[j].1=2):Abs j nm m.is m.bs:=fun h=>by
 refine⟨by rw[hk];decide,fun p hp s hs e=>?_⟩;rw[zgg l 1 hw oM]at h0;have hn:named m.is m.bs ((j:Int)+1)=nmdP m.bs m.is[j].2.2:=by rw[zj0 hj,if_pos hk]
 rw[hn]at h0;obtain⟨t,ht,-,h2⟩:=zic (L:=nmdP m.bs m.is[j].2.2) (nm:=nm) ⟨s,by unfold nmdP;exact List.mem_flatMap.2 ⟨p,hp,hs⟩,e⟩;unfold nmdP at ht;obtain⟨p2,-,h3⟩:=List.mem_flatMap.1 ht;have h4:=nmd_ino hm h3;have hb:inB (findI (nmdP m.bs m.is[j].2.2) nm) 1 m.3.length=true:=by rw[h2,hm.i];simp[inB];omega
 rw[if_pos hb,h2]at h0;omega
theorem Abs.set0{j:Nat}{nm:BA}{is:List Ino}{bs:List Blk}(h:Abs j nm is bs)(q:Nat){kd ln:Int}(hk:kd≠0):Abs j nm (is.set q (kd,ln,[0,0])) bs:=fun hl=>by
 rw[lS]at hl;rw[List.getElem_set];by_cases e:q=j
 ·rw[if_pos e];refine⟨hk,fun p hp s hs=>?_⟩;have aB:p=0:=by simpa using hp
  subst aB;rw[zi4 (by simp[inB])]at hs;simp at hs
 ·rw[if_neg e];exact h hl
theorem Abs.setL{j:Nat}{nm:BA}{is:List Ino}{bs:List Blk}(h:Abs j nm is bs)(q:Nat)(hq:q<is.length)(ln:Int):Abs j nm (is.set q (is[q].1,ln,is[q].2.2)) bs:=fun hl=>by
 rw[lS]at hl;rw[List.getElem_set];by_cases e:q=j
 ·subst e;rw[if_pos rfl];exact h hq
 ·rw[if_neg e];exact h hl
theorem zj2(u:Int)(m:MD):(markU u m).is=m.is:=by unfold markU;split<;>rfl
theorem zid(u:Int)(m:MD):(markU u m).bs=m.bs:=by unfold markU;split<;>rfl
def BTQ(Q:List Ino->List Blk->Prop)(w:Wd)(T:Nat->Prop)(b:Nat):Prop:=∃(S:Nat->Prop)(u v iv bv dv pv:Va)(m:MD),PM w S b u v iv bv dv pv m/\(∀k,S k->T k)/\T b/\Sh Z0 m/\Q m.is m.bs
theorem znl{Q:List Ino->List Blk->Prop}(T:Nat->Prop)(b:Nat)(x:Int)(w:Wd)(h:BTQ Q w T b):
  Calls Tryz.prog 197 #[.pointer (aA b 0),nI x] w fun e w'=>e=.returned (.tuple #[])/\BTQ Q w' T b/\Chg T w w':=by
 obtain⟨S,u,v,iv,bv,dv,pv,m,hP,hS,hb,hm,hq⟩:=h;refine(zbz S b x _ _ _ _ _ _ m w hP).mono ?_;rintro e w' ⟨rfl,P2,C2⟩;exact⟨rfl,⟨S,u,v,iv,bv,dv,pv,_,P2,hS,hb,hm.mark x,by rw[zj2,zid];exact hq⟩,C2.mono hS⟩
def slotO(bs:List Blk)(jb t:Nat):Option Sl:=(bs[jb]?).bind fun x=>x.2.1[t]?
def Keep(m:MD)(bs':List Blk):Prop:=∀(jb t:Nat)(s:Sl),m.xs[jb]?=some true->slotO m.bs jb t=some s->1<=s.2->slotO bs' jb t=some s
def FreeS(bs:List Blk)(ps:List Int)(B s:Int):Prop:=(B=0/\s=0)\/∃(jb t:Nat),B=(jb:Int)+1/\s=(t:Int)/\jb<16/\t<4/\B∈ps/\∃nm,slotO bs jb t=some (nm,0)
def NoN(bs:List Blk)(jb:Nat)(nm:BA):Prop:=∀(h:jb<bs.length)(i:Nat)(hi:i<bs[jb].2.1.length),¬bs[jb].2.1[i].1=nm
theorem NoN.of{m:MD}(hm:Sh Z0 m){jb:Nat}{nm:BA}(hn:zat nm=true)(h:∀s∈nmd (blkAt m.bs ((jb:Int)+1)),¬s.1=nm):NoN m.bs jb nm:=fun hl i hi e=>by
 have hb:inB ((jb:Int)+1) 1 m.4.length=true:=by simp[inB];omega
 obtain⟨j2,aB,e1,e2⟩:=zb8 hb;have e3:j2=jb:=oM
 subst e3;rw[e2]at h;have hk:=hm.bb _ (gM_ hl);generalize m.bs[j2]=X at h hk hi e;obtain⟨d,ss,t⟩:=X
 cases d with
 | false =>
  have e4:ss=[]:=hk.f rfl;subst e4;exact absurd hi (Nat.not_lt_zero i)
 | true =>
  refine h ss[i] ?_ e;have:¬ss[i].1=⟨#[]⟩:=fun e5=>by
   have e6:ss[i].1=nm:=e;have:=(za1 hn).1;rw[←e6,e5]at this;exact absurd this dC
  have h2:ss[i]∈nmdS ss:=List.mem_filter.2 ⟨gM_ hi,by simpa using this⟩;simpa[nmd]using h2
theorem zj3{bs:List Blk}{jb t:Nat}(h:jb<bs.length)(ht:t<bs[jb].2.1.length):slotO bs jb t=some bs[jb].2.1[t]:=by simp[slotO,h,ht]
theorem zgh{bs:List Blk}{jb t:Nat}{s:Sl}(h:slotO bs jb t=some s):∃(h1:jb<bs.length)(h2:t<bs[jb].2.1.length),bs[jb].2.1[t]=s:=by
 unfold slotO at h
 cases hb:bs[jb]? with
 | none=>rw[hb]at h;simp at h
 | some x =>
  rw[hb]at h;obtain⟨h1,rfl⟩:=List.getElem?_eq_some_iff.1 hb;simp only[Option.bind_some]at h;obtain⟨h2,h3⟩:=List.getElem?_eq_some_iff.1 h;exact⟨h1,h2,h3⟩
theorem zeo{bs:List Blk}{jb kb t:Nat}{x:Blk}(h:kb≠jb):slotO (bs.set kb x) jb t=slotO bs jb t:=by simp[slotO,List.getElem?_set_ne h]
theorem Keep.block{m:MD}{bs:List Blk}(h:Keep m bs)(kb:Nat)(x:Blk)(hf:m.xs[kb]?=some false):Keep m (bs.set kb x):=fun jb t s hx hs h1=>by
 have hn:kb≠jb:=fun e=>by rw[←e,hf]at hx;simp at hx
 rw[zeo hn];exact h jb t s hx hs h1
theorem Keep.slot{m:MD}{bs:List Blk}(h:Keep m bs)(kb k:Nat)(hk:kb<bs.length)(y:Sl)(hf:m.xs[kb]?=some true->∃nm,slotO m.bs kb k=some (nm,0)):Keep m (bs.set kb (bs[kb].1,bs[kb].2.1.set k y,bs[kb].2.2)):=fun jb t s hx hs h1=>by
 have q:=h jb t s hx hs h1;by_cases hn:kb=jb
 ·subst hn;obtain⟨nm,e⟩:=hf hx;have aB:k≠t:=fun e2=>by
   subst e2;rw[hs]at e;simp only[oJ]at e;subst e;simp at h1
  unfold slotO at q ⊢;rw[List.getElem?_set_self hk];simp only[Option.bind_some];rw[List.getElem?_set_ne aB];rw[gE hk]at q;exact q
 ·rw[zeo hn];exact q
theorem Keep.refl(m:MD):Keep m m.bs:=fun _ _ _ _ h _=>h
theorem zg8(u:Int)(m:MD):(markU u m).bs=m.bs:=zid u m
theorem zj4{Z:ZT}(id kd io pt bk sl:Int)(nm:BA)(bt ot:Bool)(af:Int)(bl:List Int)(p:Va)(u v iv bv dv pv:Va)(m:MD)(w:Wd)(h:MR w u v iv bv dv pv m)(hS:Sh Z m)(hv:RInts w p bl)
  (hd:DOkN ⟨m.nx,kd,io,pt,bk,sl,nm,bt,ot,af,bl⟩) (hr5:kd=5->Kz.Room Z m bl) :
  Calls Tryz.prog 202 #[.agg #[u,v,iv,bv,dv,pv,.int .i64 m.nx],.agg #[.int .i64 id,.int .i64 kd,.int .i64 io,.int .i64 pt,.int .i64 bk,.int .i64 sl,.string nm,.bool bt,.bool ot,.int .i64 af,p]] w fun e w'=>∃u' v' i' b' d' p' m' r,e=.returned (.tuple #[.agg #[u',v',i',b',d',p',.int .i64 m'.nx],.int .i64 r])/\MO w' (fun k=>w.1.size<=k) u' v' i' b' d' p' m'/\Sh Z m'/\m'.bs=m.bs/\0<=r/\r<=99999/\Below w.1.size w w':=by
 have aB:bl.length<=1048576:=lT hd.bn dC;by_cases hf:40<=m.6.length
 ·refine(zhp id kd io pt bk sl nm bt ot af bl p u v iv bv dv pv m w h hS.big hv aB hf).mono ?_;rintro e w' ⟨u1,u2,u3,u4,u5,u6,rfl,O,B⟩;exact⟨u1,u2,u3,u4,u5,u6,m,0,rfl,O,hS,rfl,oM,oM,B⟩
 cases hx:inB m.nx 1 99999 with
 | false =>
  refine(zhq id kd io pt bk sl nm bt ot af bl p u v iv bv dv pv m w h hS.big hv aB oM hx).mono ?_;rintro e w' ⟨u1,u2,u3,u4,u5,u6,rfl,O,B⟩;exact⟨u1,u2,u3,u4,u5,u6,m,0,rfl,O,hS,rfl,oM,oM,B⟩
 | true =>
  have hr:=zay hx;refine(zjp id kd io pt bk sl nm bt ot af bl p u v iv bv dv pv m w h hS.big hv aB oM hx).mono ?_;rintro e w' ⟨u1,u2,u3,u4,u5,u6,rfl,O,B⟩;refine⟨u1,u2,u3,u4,u5,u6,_,m.nx,rfl,O,⟨hS.x,hS.y,hS.i,hS.ii,hS.b,hS.bb,hS.f,?_,?_,?_,hS.k.put _ rfl rfl rfl hr5⟩,rfl,oM,oM,B⟩
  ·rw[lA];simp;omega
  ·exact cQ88
  show 1<=m.nx+1/\m.nx+1<=100000;omega
theorem zk9{m:MD}(hm:Sh Z0 m)(x:Int):(blkAt m.bs x).2.1.length<=4:=by
 cases h:inB x 1 m.4.length with
 | false=>unfold blkAt;rw[h];simp
 | true =>
  obtain⟨jb,hb,-,e⟩:=zb8 h;rw[e];exact(hm.bb _ (gM_ hb)).m
def BlkR(w0:Wd)(bd:Bool)(btx:BA)(bss:List Sl)(F:Bool)(_ _:Nat)(_:Wd)(a r:Va):Prop:=∃(sa:OA)(sc:Nat),a=.agg #[.bool bd,.slice sa bss.length sc,.string btx]/\r=.bool F/\RSl w0 (.slice sa bss.length sc) bss
theorem BlkR.below{w0:Wd}{bd:Bool}{btx:BA}{bss:List Sl}{F:Bool}(lo hi:Nat)(w w':Wd)(a r:Va)(h:BlkR w0 bd btx bss F lo hi w a r)(_:Below w.1.size w w'):BlkR w0 bd btx bss F lo hi w' a r:=h
theorem zfo{a:BA}(h:¬a=⟨#[]⟩):(a.toList==([]:List UInt8))=false:=by
 have:=zbm (b:=⟨#[]⟩) h
 rwa[show(⟨#[]⟩:BA).toList=[]from by rw[ByteArray.toList_eq]]at this
theorem znm{w:Wd}{g j:Nat}{x:Va}(h:w.cell? ⟨g,j,none⟩=some x):g<w.1.size:=by
 exact cQ99
theorem zg9(n:Int)(h0:-1<=n)(h1:n<1000000):IntKind.i64.wrap n=n:=by
 by_cases h:n=-1
 ·subst h;decide
 exact wrap_small n oM oM
def BBx(B:List Blk)(w:Wd)(T:Nat->Prop)(b:Nat):Prop:=∃(S:Nat->Prop)(u v iv bv dv pv:Va)(m:MD),PM w S b u v iv bv dv pv m/\(∀k,S k->T k)/\T b/\Sh Z0 m/\m.bs=B
theorem zd1(B:List Blk)(T:Nat->Prop)(b:Nat)(x:Int)(w:Wd)(h:BBx B w T b):
  Calls Tryz.prog 197 #[.pointer (some ⟨b,0,none⟩),.int .i64 x] w fun e w'=>e=.returned (.tuple #[])/\BBx B w' T b/\Chg T w w':=by
 obtain⟨S,u,v,iv,bv,dv,pv,m,hP,hS,hb,hm,hB⟩:=h;refine(zbz S b x _ _ _ _ _ _ m w hP).mono ?_;rintro e w' ⟨rfl,P2,C2⟩;exact⟨rfl,⟨S,u,v,iv,bv,dv,pv,_,P2,hS,hb,hm.mark x,(zg8 x m).trans hB⟩,C2.mono hS⟩
def KT(m:MD)(w:Wd)(T:Nat->Prop)(b:Nat):Prop:=∃(S:Nat->Prop)(u v iv bv dv pv:Va)(m':MD),PM w S b u v iv bv dv pv m'/\(∀k,S k->T k)/\T b/\Sh Z0 m'/\Keep m m'.bs
theorem zie(T:Nat->Prop)(b j:Nat)(nm:BA)(ino:Int)(S:Nat->Prop)(u v iv bv dv pv:Va)(m:MD)(w:Wd)(hP:PM w S b u v iv bv dv pv m)(hST:∀k,S k->T k)(hTb:T b)(hT:∀k,w.1.size<=k->T k)(hm:Sh Z0 m)(hj8:j<8)(hn6:nm.size<=6)(hino:1<=ino/\ino<=8)(hnok:zat nm=true)(hab:Abs j nm m.is m.bs):
  Calls Tryz.prog 199 #[.pointer (some ⟨b,0,none⟩),.int .i64 ((j:Int)+1),.string nm,.int .i64 ino] w fun e w'=>(∃id:Int,e=.returned (.int .i64 id)/\0<=id/\id<=99999)/\KT m w' T b/\Chg T w w':=by
 replace hP:=hP.bound
 have hj:j<m.3.length:=by rw[hm.i];exact hj8
 obtain⟨a1,c1,a2,c2,a3,c3,a4,c4,a5,c5,a6,c6,rfl,rfl,rfl,rfl,rfl,rfl⟩:=hP.form;obtain⟨qa,qc,qe,-,qh⟩:=hP.mr.d.i;simp only[vJ,true_and]at qe;obtain⟨rfl,rfl⟩:=qe;obtain⟨g2,o2,⟨t0,t1,t2⟩,rfl,jB,r0,r1,r2,e0,e1,rr⟩:=qh j hj;simp only at e0 e1 rr r0 r1 r2;subst e0 e1;obtain⟨pa,pc,rfl⟩:=rr.form;have cR:=hm.ii _ (gM_ hj);obtain⟨⟨kd,ln,ps⟩,hX⟩:∃X,m.is[j]=X:=⟨_,rfl⟩
 have fD:Hid (kd≠0/\∀p∈ps,∀s∈nmd (blkAt m.bs p),¬s.1=nm):=by have:=hab hj;rw[hX]at this;exact this
 have dM:=hJ hnok;clear hab hnok;rw[hX]at r0 r1 r2 rr cR;simp only at r0 r1 r2 rr;have iL:=hJ cR;have dZ:=hJ hX;have aY:ps.length=2:=cR.n;obtain⟨eK,eI,ep,dK⟩:=rr;simp only[vJ,true_and]at ep;obtain⟨rfl,rfl⟩:=ep;obtain⟨gp,op,rfl,-,-⟩:=dK 0 oM;have rr:RInts w (.slice (some ⟨gp,op,none⟩) ps.length pc) ps:=⟨_,_,rfl,dK⟩
 have iZ:IntKind.i64.wrap (j:Int)=(j:Int):=wrap_small _ oM oM;have j0:(0:Int)<=(j:Int):=oM
 have j1:(j:Int)<(m.3.length:Int):=oM
 obtain⟨W1,eS⟩:∃W1,w.alloc (.cells #[.int .i64 kd,.int .i64 ln,.slice (some ⟨gp,op,none⟩) ps.length pc] 59)=W1:=⟨_,rfl⟩
 have HC:Hid (∀W,Below W1.1.size W1 W->AtC W w.1.size 59 #[.int .i64 kd,.int .i64 ln,.slice (some ⟨gp,op,none⟩) ps.length pc]/\P7 W (fun k=>S k/\k<w.1.size) b m a1 c1 a2 c2 (some ⟨g2,o2,none⟩) c3 a4 c4 a5 c5 a6 c6/\RInts W (.slice (some ⟨gp,op,none⟩) ps.length pc) ps/\Below w.1.size w W/\w.1.size+1<=W.1.size):=fun W bb=>by
  rw[←eS]at bb;have b1:Below w.1.size w W:=((bF _ w).alloc nR _).trans (bb.mono sI);have z1:=bb.size;simp at z1;exact⟨(AtC.new w 59 _).over bb,hP.below b1,rr.below b1 nR,b1,z1⟩
 have fF:Hid (Below W1.1.size W1 W1):=bF _ _;have HM:=hJ hm;have bE:Hid (T b/\b<w.1.size):=⟨hTb,hP.box.lt⟩
 have eE:Hid (∀k,(S k/\k<w.1.size)->T k):=fun k hk=>hST k hk.1;have dD:Hid (∀k,w.1.size<=k->T k):=hT;have fZ:=hJ hino;have gX:=hJ hn6;have gD:=hJ aY;obtain⟨x0,x1,x2,x3,x4,x5,x6⟩:=AtC.sev hP.box;have y2:=(HC.o W1 fF.o).1.c2;have iC:(ps.length:Int)<=2:=oM
 have jE:IntKind.i64.wrap ((ps.length:Int)-1)=(ps.length:Int)-1:=wrap_small _ oM oM;clear hP hm hino hn6 cR hX dK rr qh hST hTb hT aY;go_enter Tryz.func199,Tryz.ntmps199
 go_wp2_with fail
 clear x0 x1 x2 x3 x4 x5 x6 r0 r1 r2 eS y2;go_loopw [10,11,12] (fun bb ss kk wr=>∃(B s kz:Int),bb=.int .i64 B/\ss=.int .i64 s/\kk=.int .i64 kz/\-1<=kz/\kz<(ps.length:Int)/\Hid (FreeS m.bs ps B s/\Below W1.1.size W1 wr)) (fun _ _ kk _=>(intOf kk+1).toNat)
 case atStart =>
  have q2:=gD.o;exact⟨0,0,(ps.length:Int)-1,rfl,rfl,rfl,oM,oM,.inl ⟨rfl,rfl⟩,fF.o⟩
 obtain⟨B,s,kz,rfl,rfl,rfl,iM,iK,HR⟩:=hrel;obtain⟨wo,gG⟩:∃wo,wo=wr:=⟨_,rfl⟩
 subst gG;by_cases hkz:0<=kz
 rotate_left
 ·have e1:kz=-1:=oM
  subst e1;have HF:=hJ HR.o.1;have bG:=hJ HR.o.2;have fO:m.6.length<=1048576:=lT HM.o.l dC;clear HR;go_upto_if 102 with fail
  go_cut [10,11]from 16 to 168 (fun c10 cW wx=>∃(pn t:Nat)(S':Nat->Prop)(u v iv bv dv pv:Va)(m':MD),c10=.int .i64 ((pn:Int)+1)/\cW=.int .i64 (t:Int)/\pn<16/\t<4/\PM wx S' b u v iv bv dv pv m'/\(∀k,S' k->T k)/\Sh Z0 m'/\Keep m m'.bs/\(∃s0,slotO m'.bs pn t=some s0)/\NoN m'.bs pn nm/\(m.xs[pn]?=some true->∃bM,slotO m.bs pn t=some (bM,0))/\Chg T w wx)
  case first =>
   rcases HF.o with⟨rfl,rfl⟩| ⟨jb,t,rfl,rfl,fE,dH,eZ,bM,bU⟩
   rotate_left
   ·have iS:(((jb:Int)+1)==0)=false:=beq_eq_false_iff_ne.mpr oM;have fP:Hid (NoN m.bs jb nm):=NoN.of HM.o dM.o (fD.o.2 _ eZ);clear eZ;have gM:Hid (jb<16/\t<4/\∃bM,slotO m.bs jb t=some (bM,0)):=⟨fE,dH,bM,bU⟩
    clear bU fE dH;go_wp2_with fail
    go_meet
    obtain⟨h1,h2,bM,h3⟩:=gM.o;obtain⟨A0,P0,rI,bW,zW⟩:=HC.o wo bG.o;exact⟨jb,t,_,_,_,_,_,_,_,m,rfl,rfl,h1,h2,P0,eE.o,HM.o,Keep.refl m,⟨_,h3⟩,fP.o,fun _=>⟨_,h3⟩,Chg.of_below bW⟩
   have y2:=(HC.o wo bG.o).1.c2;clear HF;go_wp2_with fail
   go_loopw [16] (fun kk wr=>∃q:Nat,q<=ps.length/\kk=.int .i64 q/\wo=wr) (fun kk _=>ps.length-(intOf kk).toNat)
   case atStart=>exact⟨0,zL _,rfl,rfl⟩
   obtain⟨q,hq,rfl,rfl⟩:=hrel;have q0:(0:Int)<=(q:Int):=oM
   by_cases hql:q<ps.length
   rotate_left
   ·have iJ:((q:Int)==(ps.length:Int))=true:=sO
    have q1:¬((q:Int)<(ps.length:Int)):=oM
    go_wp2;go_ret;obtain⟨A0,P0,rI,bW,zW⟩:=HC.o wo bG.o;exact⟨⟨0,rfl,oM,oM⟩,⟨_,_,_,_,_,_,_,m,P0,eE.o,bE.o.1,HM.o,Keep.refl m⟩,Chg.of_below bW⟩
   obtain⟨A0,P0,rI,bW,zW⟩:=HC.o wo bG.o;obtain⟨eK,eI,e1,cH⟩:=rI;simp only[vJ,true_and]at e1;obtain⟨rfl,rfl⟩:=e1;obtain⟨gZ,gU,e2,cQ,kp⟩:=cH q hql;simp only[oJ,aJ,and_true]at e2;obtain⟨rfl,rfl⟩:=e2;have q1:(q:Int)<(ps.length:Int):=oM
   obtain⟨Pn,bC⟩:∃Pn,ps[q]=Pn:=⟨_,rfl⟩
   rw[bC]at kp;have fT:=hJ bC;have bH:=hJ P0;have dI:=hJ (aI bW zW);clear bC cH A0 P0 bW zW cQ;by_cases hz:Pn=0
   rotate_left
   ·have jF:(Pn==0)=false:=beq_eq_false_iff_ne.mpr hz;have gI:q<2:=oM
    go_wp2;go_roundw
    case rel=>exact⟨q+1,oM,gK,trivial⟩
    simp[intOf];omega
   subst hz;have iY:((q:Int)==(ps.length:Int))=false:=beq_eq_false_iff_ne.mpr oM;have gI:q<2:=oM
   obtain⟨x0,x1,x2,x3,x4,x5,x6⟩:=AtC.sev bH.o.box;by_cases hf:ff m.xs=0
   ·have CT:Hid (Calls Tryz.prog 201 #[.agg (M7 m a1 c1 a2 c2 (some ⟨g2,o2,none⟩) c3 a4 c4 a5 c5 a6 c6)] wo fun e w'=>∃(z1:OA)(l1 y1:Nat)(z2:OA)(l2 y2:Nat)(z3:OA)(l3 y3:Nat)(z4:OA)(l4 y4:Nat)(z5:OA)(l5 y5:Nat)(z6:OA)(l6 y6:Nat),e=.returned (.tuple #[.agg #[.slice z1 l1 y1,.slice z2 l2 y2,.slice z3 l3 y3,.slice z4 l4 y4,.slice z5 l5 y5,.slice z6 l6 y6,.int .i64 m.nx],.int .i64 0])/\Below wo.1.size wo w'):=by
     refine(zc9 _ _ _ _ _ _ m wo bH.o.mr HM.o.big).mono ?_;rintro e w' ⟨v1,v2,v3,v4,v5,v6,rfl,O8,B8⟩;obtain⟨z1,y1,z2,y2,z3,y3,z4,y4,z5,y5,z6,y6,rfl,rfl,rfl,rfl,rfl,rfl⟩:=O8.mr.form;rw[hf];exact⟨z1,_,y1,z2,_,y2,z3,_,y3,z4,_,y4,z5,_,y5,z6,_,y6,rfl,B8⟩
    go_wp2_with fail
    refine CT.out.mono ?_;rintro e w8 ⟨z1,l1,y1,z2,l2,bI,z3,l3,y3,z4,l4,y4,z5,l5,y5,z6,l6,y6,rfl,B8⟩;have fM:=hJ B8;clear B8 CT;go_wp2;go_ret;have b8:=fM.o.alloc fM.o.size (.cells #[.slice z1 l1 y1,.slice z2 l2 bI,.slice z3 l3 y3,.slice z4 l4 y4,.slice z5 l5 y5,.slice z6 l6 y6,.int .i64 m.nx] 33);have bw:=dI.o.1;exact⟨⟨0,rfl,oM,oM⟩,⟨_,_,_,_,_,_,_,m,bH.o.below b8,eE.o,bE.o.1,HM.o,Keep.refl m⟩,Chg.of_below (bw.trans (b8.mono bw.size))⟩
   obtain⟨p1,p2⟩:=zia m.xs hf;obtain⟨qn,iO⟩:∃qn:Nat,ff m.xs=qn+1:=⟨ff m.xs-1,oM⟩
   have aM:qn<16:=by have:=HM.o.x;omega
   have hz:((ff m.xs:Nat):Int)=(qn:Int)+1:=oM
   have fN:Hid (m.xs[qn]?=some false):=by
    have e:ff m.xs-1=qn:=oM
    rw[←e];exact p2
   have CT:Hid (Calls Tryz.prog 201 #[.agg (M7 m a1 c1 a2 c2 (some ⟨g2,o2,none⟩) c3 a4 c4 a5 c5 a6 c6)] wo fun e w'=>∃(z1:OA)(y1:Nat)(z2:OA)(y2:Nat)(z3:OA)(y3:Nat)(z4:OA)(y4:Nat)(z5:OA)(y5:Nat)(z6:OA)(y6:Nat),e=.returned (.tuple #[.agg (M7 m z1 y1 z2 y2 z3 y3 z4 y4 z5 y5 z6 y6),.int .i64 ((qn:Int)+1)])/\MO w' (fun k=>wo.1.size<=k) (.slice z1 m.1.length y1) (.slice z2 m.2.length y2) (.slice z3 m.3.length y3) (.slice z4 m.4.length y4) (.slice z5 m.5.length y5) (.slice z6 m.6.length y6) ({ m with xs:=m.xs.set (ff m.xs-1) true,fs:=m.fs.set 0 true }:MD)/\Below wo.1.size wo w'):=by
    refine(zc9 _ _ _ _ _ _ m wo bH.o.mr HM.o.big).mono ?_;rintro e w' ⟨v1,v2,v3,v4,v5,v6,rfl,O8,B8⟩;rw[zib hf]at O8;obtain⟨z1,y1,z2,y2,z3,y3,z4,y4,z5,y5,z6,y6,e1,rfl,rfl,rfl,e5,rfl⟩:=O8.mr.form;have fX:v1=.slice z1 m.1.length y1:=e1.trans (by rw[show({ m with xs:=m.xs.set (ff m.xs-1) true,fs:=m.fs.set 0 true }:MD).xs.length=m.1.length from lS ..]);have fY:v5=.slice z5 m.5.length y5:=e5.trans (by rw[show({ m with xs:=m.xs.set (ff m.xs-1) true,fs:=m.fs.set 0 true }:MD).fs.length=m.5.length from lS ..]);clear e1 e5;subst fX fY;rw[hz];exact⟨z1,y1,z2,y2,z3,y3,z4,y4,z5,y5,z6,y6,rfl,O8,B8⟩
   have fK:Hid (Sh Z0 { m with xs:=m.xs.set (ff m.xs-1) true,fs:=m.fs.set 0 true,is:=m.is.set j (m.is[j].1,m.is[j].2.1,m.is[j].2.2.set q ((qn:Int)+1)),bs:=(m.bs.set qn (true,noSl,⟨#[]⟩)) }):=by
    rw[←hz];have e0:=dZ.o;exact(znj HM.o hf j q hj (by simp only[e0];omega) (by simp only[e0];exact fT.o) (by simp only[e0];exact fD.o.1)).block qn zi0
   go_wp2_with fail
   refine CT.out.mono ?_;rintro e w8 ⟨z1,y1,z2,bI,z3,y3,z4,y4,z5,y5,z6,y6,rfl,O8,B8⟩;obtain⟨W9,cE⟩:∃W9,w8.alloc (.cells (M7 m z1 y1 z2 bI z3 y3 z4 y4 z5 y5 z6 y6) 33)=W9:=⟨_,rfl⟩
   obtain⟨bn,aT⟩:∃bn,w8.1.size=bn:=⟨_,rfl⟩
   have bK:Hid (PM W9 (fun k=>wo.1.size<=k/\k<bn) bn (.slice z1 m.1.length y1) (.slice z2 m.2.length bI) (.slice z3 m.3.length y3) (.slice z4 m.4.length y4) (.slice z5 m.5.length y5) (.slice z6 m.6.length y6) ({ m with xs:=m.xs.set (ff m.xs-1) true,fs:=m.fs.set 0 true }:MD)/\Below wo.1.size wo W9/\wo.1.size<=bn/\bn<W9.1.size):=by
    rw[←cE];have z8:=B8.size;refine⟨⟨?_,(O8.bound.below ((bF _ w8).alloc nR _) nR).mono (fun k hk=>by have:wo.1.size<=k/\k<w8.1.size:=hk;omega),oM⟩,B8.alloc z8 _,oM,sO⟩;rw[←aT];exact AtC.new w8 33 _
   have jD:(((qn:Int)+1)==0)=false:=beq_eq_false_iff_ne.mpr oM;obtain⟨gb,cb,pb,eb,cN,eN,cP,-,aV,aS,cX⟩:=bK.o.1.blkAt qn (show qn<m.4.length by rw[HM.o.b];exact aM);simp only[vJ,true_and]at eb;obtain⟨rfl,rfl⟩:=eb;obtain⟨v0,cN⟩:∃v0,W9.cell? ⟨gb,qn*3,none⟩=some v0:=⟨_,cN⟩
   obtain⟨v2,cP⟩:∃v2,W9.cell? ⟨gb,qn*3+2,none⟩=some v2:=⟨_,cP⟩
   have eP:=bK.o.1.box.c3;have f0:=aV (qn*3);have f1:=aV (qn*3+1);have f2:=aV (qn*3+2);have eQ:Hid (∀W,Below W9.1.size W9 W->W.cell? ⟨bn,3,none⟩=some (.slice (some ⟨gb,0,none⟩) m.4.length y4)/\W.cell? ⟨gb,qn*3,none⟩=some v0/\W.cell? ⟨gb,qn*3+1,none⟩=some pb/\W.cell? ⟨gb,qn*3+2,none⟩=some v2/\W.frozen? ⟨gb,qn*3,none⟩=false/\W.frozen? ⟨gb,qn*3+1,none⟩=false/\W.frozen? ⟨gb,qn*3+2,none⟩=false):=fun W bb=>⟨(bb.cell (p:=⟨bn,3,none⟩) bK.o.2.2.2).trans eP,(bb.cell (p:=⟨gb,qn*3,none⟩) aS).trans cN,(bb.cell (p:=⟨gb,qn*3+1,none⟩) aS).trans eN,(bb.cell (p:=⟨gb,qn*3+2,none⟩) aS).trans cP,(bb.frozen (p:=⟨gb,qn*3,none⟩) aS).trans f0,(bb.frozen (p:=⟨gb,qn*3+1,none⟩) aS).trans f1,(bb.frozen (p:=⟨gb,qn*3+2,none⟩) aS).trans f2⟩
   have cK:Hid (∀(W:Wd)(sa:OA)(sc:Nat),SOwns W W9.1.size 90 (.slice sa 4 sc) noSl->Below W9.1.size W9 W->∃S9:Nat->Prop,PM (((W.setCell ⟨gb,qn*3,none⟩ (.bool true)).setCell ⟨gb,qn*3+1,none⟩ (.slice sa 4 sc)).setCell ⟨gb,qn*3+2,none⟩ (.string ⟨#[]⟩)) S9 bn (.slice z1 m.1.length y1) (.slice z2 m.2.length bI) (.slice z3 m.3.length y3) (.slice (some ⟨gb,0,none⟩) m.4.length y4) (.slice z5 m.5.length y5) (.slice z6 m.6.length y6) { ({ m with xs:=m.xs.set (ff m.xs-1) true,fs:=m.fs.set 0 true }:MD)with bs:=(m.bs.set qn (true,noSl,⟨#[]⟩)) }/\(∀k,S9 k->wo.1.size<=k)/\Below wo.1.size wo (((W.setCell ⟨gb,qn*3,none⟩ (.bool true)).setCell ⟨gb,qn*3+1,none⟩ (.slice sa 4 sc)).setCell ⟨gb,qn*3+2,none⟩ (.string ⟨#[]⟩))):=fun W sa sc O bb=>by
    obtain⟨P9,b9,l9,iX⟩:=bK.o;have hp:=(P9.below bb).putB rfl qn (show qn<m.4.length by rw[HM.o.b];exact aM) (.bool true,.slice sa 4 sc,.string ⟨#[]⟩) (true,noSl,⟨#[]⟩) ⟨rfl,O.base_le (zL _),rfl⟩ (fun k hk=>by
     have h1:=(O.lt k hk).1;exact⟨fun e=>by have:=e.2;omega,oM⟩)
    have hg:wo.1.size<=gb:=cX.1;have bo:=b9.trans (bb.mono b9.size);refine⟨_,hp.1,fun k hk=>?_,((bo.setCell (p:=⟨gb,qn*3,none⟩) hg _).setCell (p:=⟨gb,qn*3+1,none⟩) hg _).setCell (p:=⟨gb,qn*3+2,none⟩) hg _⟩;rcases hk with h|h
    ·exact h.1
    have h1:=(O.lt k h).1;have:=b9.size;omega
   have fS:IntKind.i64.wrap (qn:Int)=(qn:Int):=wrap_small _ oM oM;have iU:(0:Int)<=(qn:Int):=oM
   have jC:(qn:Int)<(m.4.length:Int):=by have:=HM.o.b;omega
   clear O8 B8 CT p1 p2 x0 x1 x2 x3 x4 x5 x6 y2 kp aV;go_upto_region 23 with fail
   clear cE aT;go_cut [17]from 130 to 138 (fun c wx=>c=.pointer (some ⟨bn,0,none⟩)/\∃S9:Nat->Prop,PM wx S9 bn (.slice z1 m.1.length y1) (.slice z2 m.2.length bI) (.slice z3 m.3.length y3) (.slice (some ⟨gb,0,none⟩) m.4.length y4) (.slice z5 m.5.length y5) (.slice z6 m.6.length y6) { ({ m with xs:=m.xs.set (ff m.xs-1) true,fs:=m.fs.set 0 true }:MD)with bs:=(m.bs.set qn (true,noSl,⟨#[]⟩)) }/\(∀k,S9 k->wo.1.size<=k)/\Below wo.1.size wo wx)
   case first =>
    go_region_with (go_at_call 113;refine(zd8 _).mono ?_;rintro e bL ⟨sa,sc,rfl,eV,bJ⟩;have bQ:=hJ (aI eV bJ);obtain⟨n0,n1,n2,n3,n4,n5,n6⟩:=eQ.o bL (zac bJ);clear eV bJ)
    all_goals (go_wp2_with fail;go_meet;exact⟨rfl,cK.o bL sa sc bQ.o.1 (zac bQ.o.2)⟩)
   obtain⟨rfl,S9,bX,dL,bJ⟩:=hcut
   replace bX:=bX.bound
   have eD:wo.1.size<=bn:=bK.o.2.2.1;obtain⟨gi,ci,gs,cs,ei,-,k2,kt,kf,kS,-,aK⟩:=bX.ptrAt j hj q (show q<m.is[j].2.2.length by have e0:=dZ.o;simp only[e0];exact hql);simp only[vJ,true_and]at ei;obtain⟨rfl,rfl⟩:=ei;have fB:m.is[j].2.2.length=ps.length:=by have e0:=dZ.o;simp only[e0]
   have fW:wc.cell? ⟨gi,j*3+2,none⟩=some (.slice (some ⟨gs,0,none⟩) ps.length cs):=by rw[←fB];exact k2
   obtain⟨zv,iA⟩:∃zv,wc.cell? ⟨gs,q,none⟩=some zv:=⟨_,kt⟩
   have gF:=bX.box.c2;obtain⟨cL,cB⟩:∃cL,wc.setCell ⟨gs,q,none⟩ (.int .i64 ((qn:Int)+1))=cL:=⟨_,rfl⟩
   have aQ:Hid (BBx (m.bs.set qn (true,noSl,⟨#[]⟩)) cL (fun k=>wo.1.size<=k) bn/\Below wo.1.size wo cL):=by
    rw[←cB];have eY:wo.1.size<=gs:=dL gs kS.1;exact⟨⟨_,_,_,_,_,_,_,_,aK _,fun k hk=>dL k hk.1,eD,fK.o,rfl⟩,bJ.setCell (p:=⟨gs,q,none⟩) eY _⟩
   obtain⟨U,hU⟩:∃U,uoB ((qn:Int)+1)=U:=⟨_,rfl⟩
   have CU:Hid (∀W,Calls Tryz.prog 203 #[.int .i64 ((qn:Int)+1)] W fun e w'=>e=.returned (.int .i64 U)/\w'=W):=fun W=>by rw[←hU];exact zbl _ W
   obtain⟨U2,fG⟩:∃U2,uoI ((j:Int)+1)=U2:=⟨_,rfl⟩
   have fJ:Hid (∀W,Calls Tryz.prog 198 #[.int .i64 ((j:Int)+1)] W fun e w'=>e=.returned (.int .i64 U2)/\w'=W):=fun W=>by rw[←fG];exact zbp _ W
   clear hU fG aK k2 kt fB fK bX dL bJ kS bK cK eQ cX aS cN eN cP eP f0 f1 f2;go_wp2_with fail
   refine(CU.out _).mono ?_;rintro e cC ⟨rfl,aU⟩;rw[aU];clear aU cC cB fW iA gF kf;go_wp2_with fail
   refine(zd1 _ _ bn U cL aQ.o.1).mono ?_;rintro e dQ ⟨rfl,eU,fH⟩;have aP:Hid (BBx (m.bs.set qn (true,noSl,⟨#[]⟩)) dQ (fun k=>wo.1.size<=k) bn/\Below wo.1.size wo dQ):=⟨eU,aQ.o.2.trans (fH.below aQ.o.2.size (fun k hk=>hk))⟩
   clear eU fH aQ CU;go_wp2_with fail
   refine(fJ.out _).mono ?_;rintro e cC ⟨rfl,aU⟩;rw[aU];clear aU cC;go_wp2_with fail
   refine(zd1 _ _ bn U2 dQ aP.o.1).mono ?_;rintro e cI ⟨rfl,fR,eG⟩;have aR:Hid (Below wo.1.size wo cI):=aP.o.2.trans (eG.below aP.o.2.size (fun k hk=>hk));obtain⟨SB,u,v,iv,bv,dv,pv,mb,PB,dY,dJ,cM,bV⟩:=fR;obtain⟨h1,k1,h2,k2,h3,k3,h4,k4,h5,k5,h6,k6,rfl,rfl,rfl,rfl,rfl,rfl⟩:=PB.form;obtain⟨t0,t1,t2,t3,t4,t5,t6⟩:=AtC.sev PB.box;have aF:=hJ (aI PB (aI cM bV));have cD:Hid (DOkN ⟨mb.nx,1,(j:Int)+1,(q:Int),(qn:Int)+1,0,⟨#[]⟩,false,false,0,[]⟩):=⟨⟨by show 1<=(j:Int)+1;omega,by show(j:Int)+1<=8;omega⟩,⟨by show(0:Int)<=q;omega,by show(q:Int)<=1;omega⟩,⟨by show(0:Int)<=(qn:Int)+1;omega,by show(qn:Int)+1<=16;omega⟩,sI,fun p hp=>by simp at hp,sI,by show(0:Nat)<=6;omega⟩
   clear PB dY dJ cM bV eG aP fJ;go_wp2_with fail
   refine(zj4 0 1 ((j:Int)+1) q ((qn:Int)+1) 0 ⟨#[]⟩ false false 0 [] _ _ _ _ _ _ _ mb cI aF.o.1.mr aF.o.2.1 ⟨none,0,rfl,fun j hj=>by simp at hj⟩ cD.o (fun e=>absurd e dC)).mono ?_;rintro e wn ⟨u1,u2,u3,u4,u5,u6,mn,rr,rfl,On,bZ,aT,-,-,Bn⟩;obtain⟨aH,r1,q2,r2,q3,r3,q4,r4,q5,r5,q6,r6,rfl,rfl,rfl,rfl,rfl,rfl⟩:=On.mr.form;have AN:AtC wn bn 33 (M7 mb h1 k1 h2 k2 h3 k3 h4 k4 h5 k5 h6 k6):=aF.o.1.box.over Bn;have dU:Below wo.1.size wo wn:=aR.o.trans (Bn.mono aR.o.size);have AO:AtC wn b 33 (M7 m a1 c1 a2 c2 (some ⟨g2,o2,none⟩) c3 a4 c4 a5 c5 a6 c6):=bH.o.box.over dU;have gR:b<wo.1.size:=bH.o.box.lt;have fU:b≠bn:=oM
   have fV:bn≠b:=oM
   obtain⟨s0,s1,s2,s3,s4,s5,s6⟩:=AtC.sev AN;obtain⟨x0,x1,x2,x3,x4,x5,x6⟩:=AtC.sev AO;obtain⟨f0,f1,f2,f3,f4,f5,f6⟩:=AN.f7;obtain⟨e0,e1,e2,e3,e4,e5,e6⟩:=AO.f7;have aD:Hid (PM ((wn.s0 bn mn aH r1 q2 r2 q3 r3 q4 r4 q5 r5 q6 r6).s0 b mn aH r1 q2 r2 q3 r3 q4 r4 q5 r5 q6 r6) (fun k=>cI.1.size<=k) b (.slice aH mn.1.length r1) (.slice q2 mn.2.length r2) (.slice q3 mn.3.length r3) (.slice q4 mn.4.length r4) (.slice q5 mn.5.length r5) (.slice q6 mn.6.length r6) mn/\Sh Z0 mn/\mn.bs=(m.bs.set qn (true,noSl,⟨#[]⟩))/\Chg T w ((wn.s0 bn mn aH r1 q2 r2 q3 r3 q4 r4 q5 r5 q6 r6).s0 b mn aH r1 q2 r2 q3 r3 q4 r4 q5 r5 q6 r6)/\w.1.size<=cI.1.size):=by
    have cV:=aR.o.size;have zo:=dI.o.2;have aX:T bn:=dD.o bn oM;have bT:=bE.o.1;have cw:Chg T w wn:=Chg.of_below (dI.o.1.trans (dU.mono oM));have iG:=aF.o.1.box.lt;refine⟨PM.store ((zaa _ _ _ _ _ _ _ _ _ b fU).trans AO) (On.of_heap fun k hk _=>zaa _ _ _ _ _ _ _ _ _ k (by have:cI.1.size<=k:=hk;omega)) oM,bZ,aT.trans aF.o.2.2,?_,oM⟩;exact(((((((((((((cw.setCell aX _).setCell aX _).setCell aX _).setCell aX _).setCell aX _).setCell aX _).setCell aX _).setCell bT _).setCell bT _).setCell bT _).setCell bT _).setCell bT _).setCell bT _).setCell bT _
   clear AN AO On bZ Bn aF cD aR aT dU;go_wp2_with fail
   go_meet
   refine⟨qn,0,_,_,_,_,_,_,_,mn,rfl,rfl,aM,oM,aD.o.1,fun k hk=>dD.o k (lT aD.o.2.2.2.2 hk),aD.o.2.1,?_,?_,?_,fun e=>?_,aD.o.2.2.2.1⟩
   ·rw[aD.o.2.2.1];exact(Keep.refl m).block qn _ fN.o
   ·rw[aD.o.2.2.1];have gH:qn<m.4.length:=by rw[HM.o.b];exact aM
    exact⟨(⟨#[]⟩,0),by unfold slotO;rw[List.getElem?_set_self gH];rfl⟩
   ·intro hl i hi e;have e9:mn.bs[qn]=(true,noSl,⟨#[]⟩):=by
     have bO:=aD.o.2.2.1;simp only[bO];exact gS_ ..
    have e8:∀s∈mn.bs[qn].2.1,s.1.size=0:=by
     rw[e9];intro s hs;simp[noSl]at hs;subst hs;rfl
    have e7:=e8 _ (gM_ hi);rw[e]at e7;have:=(za1 dM.o).1;omega
   have:=fN.o;rw[e]at this;simp at this
  obtain⟨pn,t,S',u,v,iv,bv,dv,pv,m',rfl,rfl,jA,dH,P8,dP,dS,fL,dA,dV,bP,eJ⟩:=hcut
  replace P8:=P8.bound
  obtain⟨f1,e1,f2,e2,f3,e3,f4,e4,f5,e5,f6,e6,rfl,rfl,rfl,rfl,rfl,rfl⟩:=P8.form;obtain⟨s0,bU⟩:=dA;obtain⟨aY,eC,-⟩:=zgh bU;obtain⟨gb,cb,gs,cs,eb,k0,k1,k2,k3,aV,cX,aS,aK⟩:=P8.slotAt pn aY t eC;simp only[vJ,true_and]at eb;obtain⟨rfl,rfl⟩:=eb;obtain⟨sl,dW⟩:∃sl,m'.bs[pn].2.1.length=sl:=⟨_,rfl⟩
  have gY:t<sl:=by rw[←dW];exact eC
  rw[dW]at k1;obtain⟨v2,k2⟩:∃v2,wc.cell? ⟨gs,t*2,none⟩=some v2:=⟨_,k2⟩
  obtain⟨v3,k3⟩:∃v3,wc.cell? ⟨gs,t*2+1,none⟩=some v3:=⟨_,k3⟩
  have aN:=dS.bb _ (gM_ aY);have fI:=hJ fZ.o;obtain⟨W9,cE⟩:∃W9,(wc.setCell ⟨gs,t*2,none⟩ (.string nm)).setCell ⟨gs,t*2+1,none⟩ (.int .i64 ino)=W9:=⟨_,rfl⟩
  have cG:Hid (BBx (m'.bs.set pn (m'.bs[pn].1,m'.bs[pn].2.1.set t (nm,ino),m'.bs[pn].2.2)) W9 T b/\Chg T w W9/\Keep m (m'.bs.set pn (m'.bs[pn].1,m'.bs[pn].2.1.set t (nm,ino),m'.bs[pn].2.2))):=by
   rw[←cE];have gT:T gs:=dP gs cX.1;refine⟨⟨_,_,_,_,_,_,_,_,aK nm ino,fun k hk=>dP k hk.1,bE.o.1,dS.block pn ⟨⟨fun e=>by rw[lS];exact aN.n e,by rw[lS];exact aN.m,fun s hs=>(mS hs).elim (aN.s s) (fun e=>e ▸ ⟨gX.o,.inr fI.o⟩),aN.t⟩,fun e=>by have e0:=aN.f e;have h9:=eC;rw[e0]at h9;exact absurd h9 (Nat.not_lt_zero t),aN.e,fun s hs=>(mS hs).elim (aN.q s) (fun e=>e ▸ .inr dM.o),aN.u.set (.inr (dV aY))⟩,rfl⟩,(eJ.setCell gT _).setCell gT _,fL.slot pn t aY (nm,ino) bP⟩
  obtain⟨BB,eR⟩:∃BB,m'.bs.set pn (m'.bs[pn].1,m'.bs[pn].2.1.set t (nm,ino),m'.bs[pn].2.2)=BB:=⟨_,rfl⟩
  rw[eR]at cG;have x3:=P8.box.c3;have z0:=aV (t*2);have z1:=aV (t*2+1);have fS:IntKind.i64.wrap (pn:Int)=(pn:Int):=wrap_small _ oM oM;have iT:(0:Int)<=(pn:Int):=oM
  have iQ:(pn:Int)<(m'.4.length:Int):=oM
  have t0:(0:Int)<=(t:Int):=oM
  have t1:(t:Int)<(sl:Int):=oM
  obtain⟨U,hU⟩:∃U,uoB ((pn:Int)+1)=U:=⟨_,rfl⟩
  have CU:Hid (∀W,Calls Tryz.prog 203 #[.int .i64 ((pn:Int)+1)] W fun e w'=>e=.returned (.int .i64 U)/\w'=W):=fun W=>by rw[←hU];exact zbl _ W
  clear hU aK aV P8 aN bU eR bP fL dS dP eJ dW;go_wp2_with fail
  refine(CU.out _).mono ?_;rintro e cC ⟨rfl,aU⟩;rw[aU];clear aU cC k0 k1 k2 k3 x3 z0 z1 cE;go_wp2_with fail
  refine(zd1 _ _ b U W9 cG.o.1).mono ?_;rintro e bL ⟨rfl,eM,c10⟩;have aZ:Hid (BBx BB bL T b/\Chg T w bL):=⟨eM,cG.o.2.1.trans c10⟩
  clear eM c10 CU;go_wp2_with fail
  refine(zd1 _ _ b 0 bL aZ.o.1).mono ?_;rintro e bN ⟨rfl,gO,cW⟩;have aW:Hid (Chg T w bN):=aZ.o.2.trans cW;obtain⟨SB,u,v,iv,bv,dv,pv,mb,PB,dY,dJ,cM,bV⟩:=gO;obtain⟨h1,k1,h2,k2,h3,k3,h4,k4,h5,k5,h6,k6,rfl,rfl,rfl,rfl,rfl,rfl⟩:=PB.form;obtain⟨y0,y1,y2,y3,y4,y5,y6⟩:=AtC.sev PB.box;have aF:=hJ (aI PB (aI cM bV));have cD:Hid (DOkN ⟨mb.nx,2,ino,0,(pn:Int)+1,(t:Int),⟨#[]⟩,false,false,0,[]⟩):=⟨fI.o,sI,⟨by show(0:Int)<=(pn:Int)+1;omega,by show(pn:Int)+1<=16;omega⟩,⟨by show(0:Int)<=t;omega,by show(t:Int)<=3;omega⟩,fun p hp=>by simp at hp,sI,by show(0:Nat)<=6;omega⟩
  clear PB dY dJ cM bV cW aZ;go_wp2_with fail
  refine(zj4 0 2 ino 0 ((pn:Int)+1) t ⟨#[]⟩ false false 0 [] _ _ _ _ _ _ _ mb bN aF.o.1.mr aF.o.2.1 ⟨none,0,rfl,fun j hj=>by simp at hj⟩ cD.o (fun e=>absurd e dC)).mono ?_;rintro e wn ⟨u1,u2,u3,u4,u5,u6,mn,rr,rfl,On,bZ,aT,fC,eH,Bn⟩;obtain⟨aH,r1,q2,r2,q3,r3,q4,r4,q5,r5,q6,r6,rfl,rfl,rfl,rfl,rfl,rfl⟩:=On.mr.form;obtain⟨WA,fA⟩:∃WA,wn.alloc (.cells (M7 mn aH r1 q2 r2 q3 r3 q4 r4 q5 r5 q6 r6) 33)=WA:=⟨_,rfl⟩
  have bA:Below wn.1.size wn WA:=by rw[←fA];exact(bF _ wn).alloc nR _
  have AO:AtC WA b 33 (M7 mb h1 k1 h2 k2 h3 k3 h4 k4 h5 k5 h6 k6):=(aF.o.1.box.over Bn).over bA;have AN:AtC WA wn.1.size 33 (M7 mn aH r1 q2 r2 q3 r3 q4 r4 q5 r5 q6 r6):=by rw[←fA];exact AtC.new wn 33 _
  have gR:b<bN.1.size:=aF.o.1.box.lt;have iV:=Bn.size;obtain⟨s0,s1,s2,s3,s4,s5,s6⟩:=AtC.sev AN;obtain⟨g0,g1,g2,g3,g4,g5,g6⟩:=AO.f7;obtain⟨x0,x1,x2,x3,x4,x5,x6⟩:=AtC.sev AO;have aD:Hid (PM (WA.s0 b mn aH r1 q2 r2 q3 r3 q4 r4 q5 r5 q6 r6) (fun k=>bN.1.size<=k) b (.slice aH mn.1.length r1) (.slice q2 mn.2.length r2) (.slice q3 mn.3.length r3) (.slice q4 mn.4.length r4) (.slice q5 mn.5.length r5) (.slice q6 mn.6.length r6) mn/\Sh Z0 mn/\Keep m mn.bs/\Chg T w (WA.s0 b mn aH r1 q2 r2 q3 r3 q4 r4 q5 r5 q6 r6)/\w.1.size<=bN.1.size/\0<=rr/\rr<=99999):=by
   have iP:=aW.o.size;have bT:=bE.o.1;have cw:Chg T w WA:=aW.o.trans (Chg.of_below (Bn.trans (bA.mono Bn.size)));refine⟨PM.store AO (On.below bA nR) oM,bZ,by rw[aT,aF.o.2.2];exact cG.o.2.2,?_,oM,fC,eH⟩;exact((((((cw.setCell bT _).setCell bT _).setCell bT _).setCell bT _).setCell bT _).setCell bT _).setCell bT _
  clear AN AO On bZ Bn aF cD cG aT bA fC eH aW;go_wp2;go_ret;exact⟨⟨rr,rfl,aD.o.2.2.2.2.2.1,aD.o.2.2.2.2.2.2⟩,⟨_,_,_,_,_,_,_,mn,aD.o.1,fun k hk=>dD.o k (lT aD.o.2.2.2.2.1 hk),bE.o.1,aD.o.2.1,aD.o.2.2.1⟩,aD.o.2.2.2.1⟩
 obtain⟨q,rfl⟩:∃q:Nat,kz=(q:Int):=⟨kz.toNat,oM⟩
 have hq:q<ps.length:=oM
 obtain⟨A0,P0,rI,-,-⟩:=HC.o wo HR.o.2;obtain⟨eK,eI,e1,cH⟩:=rI;simp only[vJ,true_and]at e1;obtain⟨rfl,rfl⟩:=e1;obtain⟨gZ,gU,e2,cQ,kp⟩:=cH q hq;simp only[oJ,aJ,and_true]at e2;obtain⟨rfl,rfl⟩:=e2;obtain⟨Pn,bC⟩:∃Pn,ps[q]=Pn:=⟨_,rfl⟩
 rw[bC]at kp;have fQ:Hid (Pn∈ps):=by rw[←bC];exact gM_ _
 have CB:=hJ (fun(W:Wd)(hd:Below wo.1.size wo W)=>zix Pn (.slice a1 m.1.length c1) (.slice a2 m.2.length c2) (.slice (some ⟨g2,o2,none⟩) m.3.length c3) (.slice a4 m.4.length c4) m.xs m.ys m.is m.bs wo W P0.mr.d hd (by rw[HM.o.b];decide));have eF:=zk9 HM.o Pn;obtain⟨⟨bd,aC,cY⟩,cO⟩:∃X,blkAt m.bs Pn=X:=⟨_,rfl⟩
 obtain⟨F,hF⟩:∃F,inB Pn 1 m.4.length=F:=⟨_,rfl⟩
 have gJ:Hid (F=true->∃jb:Nat,Pn=(jb:Int)+1/\jb<16/\∀(t:Nat)(h:t<aC.length),slotO m.bs jb t=some aC[t]):=fun e=>by
  rw[e]at hF;obtain⟨jb,hb,e1,e2⟩:=zb8 hF;rw[cO]at e2;have e3:aC=m.bs[jb].2.1:=congrArg (fun z:Blk=>z.2.1) e2;subst e3;exact⟨jb,e1,by rw[←HM.o.b];exact hb,fun t h=>zj3 hb h⟩
 rw[cO,hF]at CB;rw[cO]at eF;simp only at eF;have q0:(0:Int)<=(q:Int):=oM
 have q1:(q:Int)<(ps.length:Int):=oM
 have HKP:Hid (∀W,Below wo.1.size wo W->W.cell? ⟨gp,op+q,none⟩=some (.int .i64 Pn)):=fun W b=>(b.cell (p:=⟨gp,op+q,none⟩) cQ).trans kp;have HWR:Hid (∀W,Below wo.1.size wo W->AtC W w.1.size 59 #[.int .i64 kd,.int .i64 ln,.slice (some ⟨gp,op,none⟩) ps.length pc]/\P7 W (fun k=>S k/\k<w.1.size) b m a1 c1 a2 c2 (some ⟨g2,o2,none⟩) c3 a4 c4 a5 c5 a6 c6/\Below W1.1.size W1 W):=fun W b=>⟨A0.over b,P0.below b,HR.o.2.trans (b.mono HR.o.2.size)⟩
 clear bC kp cH cO hF A0 P0 cQ;go_upto_region 7 with fail
 go_cut [13,14]from 34 to 100 (fun bv ok wx=>∃(bw:Nat)(sa:OA)(sc:Nat),bv=.pointer (some ⟨bw,0,none⟩)/\ok=.bool F/\AtC wx bw 95 #[.bool bd,.slice sa aC.length sc,.string cY]/\RSl wx (.slice sa aC.length sc) aC/\Below wo.1.size wo wx)
 case first =>
  refine zbv kL [0,1,2,3,4,5,6,7,8,9,10,11,12,13] [14,15] [([0,1,2,3,4,5,6,7,8,9,10,11,13],[[12,14,15],[14,12,15]])] (fun i=>match i with|0=>.const [] (.pointer (some ⟨b,0,none⟩))|1=>.const [0] (.pointer (some ⟨b,0,none⟩))|2=>.const [1] (.pointer (some ⟨b,0,none⟩))|3=>.const [2] (.agg #[.slice a1 m.1.length c1,.slice a2 m.2.length c2,.slice (some ⟨g2,o2,none⟩) m.3.length c3,.slice a4 m.4.length c4])|4=>.const [] (.pointer (some ⟨w.1.size,2,none⟩))|5=>.const [4] (.slice (some ⟨gp,op,none⟩) ps.length pc)|6=>.const [] (.int .i64 (q:Int))|7=>.const [5,6] (.pointer (some ⟨gp,op+q,none⟩))|8=>.const [7] (.int .i64 Pn)|9=>MkT2 [3,8] (BlkR wo bd cY aC F) BlkR.below|10=>MkMv 9|11=>MkFs 10|12=>MkSd 10|13=>MkW 95 #[.bool false,.slice none 0 0,.string ⟨#[]⟩]|_=>.triv) (fun x=>⟨List.toArray ((.pointer (some ⟨b,0,none⟩))::(.int .i64 (↑j+1))::(.string nm)::(.int .i64 ino)::undef::undef::undef::undef::(.int .i64 0)::(.pointer (some ⟨w.1.size,0,none⟩))::(.int .i64 B)::(.int .i64 s)::(.int .i64 ↑q)::(x 13)::u14::u15::undef::undef::undef::undef::undef::(.pointer (some ⟨b,0,none⟩))::(.pointer (some ⟨b,0,none⟩))::(.pointer (some ⟨b,0,none⟩))::(.pointer (some ⟨b,2,none⟩))::(.slice (some ⟨g2,o2,none⟩) m.3.length c3)::(.int .i64 (↑j+1))::(.int .i64 ↑j)::(.pointer (some ⟨g2,o2+j*3,none⟩))::(.agg #[.int .i64 kd,.int .i64 ln,.slice (some ⟨gp,op,none⟩) ps.length pc])::(.pointer (some ⟨w.1.size,2,none⟩))::(.slice (some ⟨gp,op,none⟩) ps.length pc)::(.int .i64 ↑ps.length)::(.int .i64 (↑ps.length-1))::(.int .i64 ↑q)::(.bool true)::u36::u37::(x 10)::(x 0)::(x 1)::(x 2)::(x 3)::(x 4)::(x 5)::(x 6)::(x 7)::(x 8)::(x 9)::(x 11)::(x 12)::u51::u52::u53::u54::u55::u56::u57::u58::u59::u60::u61::u62::u63::u64::u65::u66::u67::u68::u69::u70::u71::u72::u73::u74::u75::u76::u77::u78::u79::u80::u81::u82::u83::u84::u85::u86::u87::u88::u89::u90::u91::u92::u93::u94::u95::u96::u97::u98::u99::u100::undef::undef::undef::undef::undef::undef::undef::undef::undef::undef::undef::undef::undef::undef::undef::undef::undef::undef::undef::undef::undef::undef::undef::undef::undef::undef::undef::undef::undef::undef::undef::undef::undef::undef::undef::undef::undef::undef::undef::undef::undef::undef::undef::undef::undef::undef::undef::undef::undef::undef::undef::undef::undef::undef::undef::undef::undef::undef::undef::undef::undef::undef::undef::undef::undef::undef::undef::undef::undef::undef::undef::undef::undef::undef::undef::undef::undef::undef::undef::undef::undef::undef::undef::undef::undef::undef::undef::undef::undef::undef::undef::undef::undef::undef::undef::undef::undef::undef::undef::undef::undef::undef::undef::undef::[]),[]⟩) (fun i=>match i with|0=>u39|1=>u40|2=>u41|3=>u42|4=>u43|5=>u44|6=>u45|7=>u46|8=>u47|9=>u48|10=>u38|11=>u49|12=>u50|13=>u13|_=>undef) rfl (zbr kL kL) kL kL kL rfl ?_ ?_ ?_
  ·intro jo hj so x iw W hd hp K hK;simp only[mN,nN,or_false]at hj;rcases hj with rfl|rfl|rfl|rfl|rfl|rfl|rfl|rfl|rfl|rfl|rfl|rfl|rfl|rfl<;>refine wpOp_step (o:=_) rfl fun K' hK'=>?_<;>have HK:=hJ (fun(v:Va) (W':Wd) h1 h2=>hK' _ _ (hK v W' h1 h2))<;>simp only[upd,Nat.reduceEqDiff,if_true,if_false]at HK
   ·exact cQ6
   ·exact cQ49
   ·exact cQ62
   ·have e2:x 2=.pointer (some ⟨b,0,none⟩):=hp.post 2 (hd 2 mz0);have bw:=zac hp.bel;have k0:=(HWR.o W bw).2.1.box;obtain⟨q0,q1,q2,q3⟩:=AtC.four k0;clear k0 bw;simp only[e2]at HK ⊢;go_simp;exact HK.o _ _ bR rfl
   ·exact cQ6
   ·have e4:x 4=.pointer (some ⟨w.1.size,2,none⟩):=hp.post 4 (hd 4 mz0);have bw:=zac hp.bel;have q0:=(HWR.o W bw).1.c2;clear bw;simp only[e4]at HK ⊢;go_simp;exact HK.o _ _ bR rfl
   ·exact cQ6
   ·have e5:x 5=.slice (some ⟨gp,op,none⟩) ps.length pc:=hp.post 5 (hd 5 mz0);have e6:x 6=.int .i64 (q:Int):=hp.post 6 (hd 6 mz1);simp only[e5,e6]at HK ⊢;go_simp;exact HK.o _ _ bR rfl
   ·have e7:x 7=.pointer (some ⟨gp,op+q,none⟩):=hp.post 7 (hd 7 mz0);have bw:=zac hp.bel;have q9:=HKP.o W bw;clear bw;simp only[e7]at HK ⊢;go_simp;exact HK.o _ _ bR rfl
   ·have e3:x 3=.agg #[.slice a1 m.1.length c1,.slice a2 m.2.length c2,.slice (some ⟨g2,o2,none⟩) m.3.length c3,.slice a4 m.4.length c4]:=hp.post 3 (hd 3 mz0);have e8:x 8=.int .i64 Pn:=hp.post 8 (hd 8 mz1);have dr:=zac hp.bel;simp only[e3,e8]at HK ⊢;clear e3 e8;go_simp;refine(CB.out W dr).mono ?_;rintro e w6 ⟨sv,rfl,R6,B6⟩;obtain⟨sa,sc,rfl,iB⟩:=R6;go_simp;exact HK.o _ _ B6 ⟨_,_,rfl,sa,sc,rfl,rfl,sa,sc,rfl,iB⟩
   ·have e9:∃a r,x 9=.tuple #[a,r]/\BlkR wo bd cY aC F (iw 9).1 (iw 9).2 W a r:=hp.post 9 (hd 9 mz0);obtain⟨a,r,e9,-⟩:=e9;have ea:=hJ e9;simp only[e9]at HK ⊢;clear e9;go_simp;exact HK.o _ _ bR ⟨ea.out,a,r,rfl⟩
   ·have aB:x 9=x 10/\∃a r,x 10=.tuple #[a,r]:=hp.post 10 (hd 10 mz0);obtain⟨-,a,r,aB⟩:=aB;have ea:Hid (a=fstOf (x 10)):=by rw[aB];rfl
    simp only[aB]at HK ⊢;clear aB;go_simp;exact HK.o _ _ bR ea.out
   ·have aB:x 9=x 10/\∃a r,x 10=.tuple #[a,r]:=hp.post 10 (hd 10 mz0);obtain⟨-,a,r,aB⟩:=aB;have ea:Hid (r=sndOf (x 10)):=by rw[aB];rfl
    simp only[aB]at HK ⊢;clear aB;go_simp;exact HK.o _ _ bR ea.out
   exact cQ74
  ·intro x iw W hp;obtain⟨a,r,e9,R9⟩:=hp.post 9 dC;obtain⟨aB,-⟩:=hp.post 10 dC;have aO:x 11=fstOf (x 10):=hp.post 11 dC;have cU:x 12=sndOf (x 10):=hp.post 12 dC;obtain⟨dN,cV,aL⟩:=hp.post 13 dC;have cA:=hp.lo 13 dC;have lc:=hp.lo 9 dC;have cF:=zac hp.bel;have ap:=hp.apart 9 dC 13 dC dC;rw[←aB,e9]at aO;rw[←aB,e9]at cU
   replace cU:x 12=r:=cU
   rw[e9]at aB
   replace aB:=aB.symm
   replace aO:x 11=a:=aO
   obtain⟨y0,y1,y2⟩:=aL.k3;obtain⟨f0,f1,f2⟩:=aL.f3;obtain⟨sa,sc,rfl,rfl,hR⟩:=R9;have aG:wo.1.size<=(iw 13).1:=cA.1;have HFI:Hid (AtC W (iw 13).1 95 #[.bool false,.slice none 0 0,.string ⟨#[]⟩]/\RSl wo (.slice sa aC.length sc) aC/\Below wo.1.size wo W/\wo.1.size<=(iw 13).1):=⟨aL,hR,cF,aG⟩
   clear hp aL hR cF ap lc cA cV aG;simp only[aB,aO,dN,cU]at*;generalize (iw 13).1=bw at*;go_wp2_with fail
   exact cQ23
  intro qa eW l hl x iw W hp;simp only[mN,nN,or_false]at eW;subst eW;simp only[mN,nN,or_false]at hl;obtain⟨a,r,e9,R9⟩:=hp.post 9 dC;obtain⟨aB,-⟩:=hp.post 10 dC;have aO:x 11=fstOf (x 10):=hp.post 11 dC;obtain⟨dN,cV,aL⟩:=hp.post 13 dC;have cA:=hp.lo 13 dC;have lc:=hp.lo 9 dC;have cF:=zac hp.bel;have ap:=hp.apart 9 dC 13 dC dC;rw[←aB,e9]at aO;rw[e9]at aB
  replace aB:=aB.symm
  replace aO:x 11=a:=aO
  obtain⟨y0,y1,y2⟩:=aL.k3;obtain⟨f0,f1,f2⟩:=aL.f3;obtain⟨sa,sc,rfl,rfl,hR⟩:=R9;have aG:wo.1.size<=(iw 13).1:=cA.1;have HFI:Hid (AtC W (iw 13).1 95 #[.bool false,.slice none 0 0,.string ⟨#[]⟩]/\RSl wo (.slice sa aC.length sc) aC/\Below wo.1.size wo W/\wo.1.size<=(iw 13).1):=⟨aL,hR,cF,aG⟩
  clear hp aL hR cF ap lc cA cV aG;simp only[aB,aO,dN]at*;generalize (iw 13).1=bw at*;rcases hl with rfl|rfl
  ·go_wp2_with fail
   exact cQ23
  go_wp2_with fail
  exact cQ23
 obtain⟨bw,sa,sc,rfl,rfl,Aw,Rw,Bw⟩:=hcut;obtain⟨wi,hZ⟩:∃wi,wi=wc:=⟨_,rfl⟩
 subst hZ;have HN:Hid (∀W,Below wi.1.size wi W->AtC W bw 95 #[.bool bd,.slice sa aC.length sc,.string cY]/\RSl W (.slice sa aC.length sc) aC/\Below wo.1.size wo W):=fun W b=>⟨Aw.over b,Rw.below b nR,Bw.trans (b.mono Bw.size)⟩
 have bG:Hid (Below wi.1.size wi wi):=bF _ _;have gQ:IntKind.i64.wrap ((aC.length:Int)-1)=(aC.length:Int)-1:=zg9 _ oM oM;have g1:=Aw.c1;clear Aw Rw Bw CB;go_wp2_with fail
 clear g1;go_loopw [10,11,15] (fun bb ss kk wx=>∃(B s sz:Int),bb=.int .i64 B/\ss=.int .i64 s/\kk=.int .i64 sz/\-1<=sz/\sz<(aC.length:Int)/\Hid (FreeS m.bs ps B s/\Below wi.1.size wi wx)) (fun _ _ kk _=>(intOf kk+1).toNat)
 case atStart=>exact⟨B,s,(aC.length:Int)-1,rfl,rfl,rfl,oM,oM,HR.o.1,bG.o⟩
 obtain⟨B',s',sz,rfl,rfl,rfl,iW,iR,HS⟩:=hrel;obtain⟨Aw,Rw,Bw⟩:=HN.o wr HS.o.2;have iN:IntKind.i64.wrap ((q:Int)-1)=(q:Int)-1:=zg9 _ oM oM;have g0:=Aw.c0;have HX1:Hid (FreeS m.bs ps B' s'/\Below W1.1.size W1 wr):=⟨HS.o.1,(HWR.o wr Bw).2.2⟩
 by_cases hsz:0<=sz
 rotate_left
 ·have e1:sz=-1:=oM
  subst e1;clear HS HR HWR HKP Aw Rw Bw;go_wp2;go_roundw
  case rel=>exact⟨B',s',(q:Int)-1,rfl,rfl,by first| rfl|go_num,oM,oM,HX1.o⟩
  simp[intOf]
 obtain⟨t,rfl⟩:∃t:Nat,sz=(t:Int):=⟨sz.toNat,oM⟩
 have t0:(0:Int)<=(t:Int):=oM
 cases F with
 | false =>
  exact cQ81
 | true =>
 cases bd with
 | false =>
  exact cQ81
 | true =>
 have ht:t<aC.length:=oM
 obtain⟨iE,iH,e1,-,eL⟩:=Rw;simp only[vJ,true_and]at e1;obtain⟨rfl,rfl⟩:=e1;obtain⟨gs,os,rfl,eY,cJ,bS⟩:=eL t ht;have g1:=Aw.c1;obtain⟨⟨sn,si⟩,dE⟩:∃X,aC[t]=X:=⟨_,rfl⟩
 rw[dE]at cJ bS;simp only at cJ bS;have gW:Hid (si=0->FreeS m.bs ps Pn t):=fun e=>by
  obtain⟨jb,e1,e2,e3⟩:=gJ.o rfl;refine .inr ⟨jb,t,e1,rfl,e2,oM,fQ.o,sn,?_⟩;rw[e3 t ht,dE,e]
 have t1:(t:Int)<(aC.length:Int):=oM
 have eX:Hid (∀W,Below wr.1.size wr W->Below wi.1.size wi W):=fun W b=>HS.o.2.trans (b.mono HS.o.2.size);have gP:=hJ HS.o.1;have cT:Hid (∀W,Below wr.1.size wr W->AtC W w.1.size 59 #[.int .i64 kd,.int .i64 ln,.slice (some ⟨gp,op,none⟩) ps.length pc]/\P7 W (fun k=>S k/\k<w.1.size) b m a1 c1 a2 c2 (some ⟨g2,o2,none⟩) c3 a4 c4 a5 c5 a6 c6/\W.cell? ⟨gp,op+q,none⟩=some (.int .i64 Pn)):=fun W bb=>by
  have q2:=Bw.trans (bb.mono Bw.size);have q3:=HWR.o W q2;exact⟨q3.1,q3.2.1,HKP.o W q2⟩
 have gV:Hid (Below wr.1.size wr wr):=bF _ _;have fO:m.6.length<=1048576:=lT HM.o.l dC;clear dE eL HS HR Aw Bw HWR HKP;go_upto_region 11 with fail
 go_cut [94]from 55 to 100 (fun c wy=>(∃r,c=.bool r/\(r=true->si=0))/\Below wr.1.size wr wy)
 case first =>
  by_cases hsi:si=0
  rotate_left
  ·have iF:(si==0)=false:=beq_eq_false_iff_ne.mpr hsi;by_cases hsn:sn=⟨#[]⟩
   ·subst hsn;go_quiet(fail)
    exact cQ129
   have dO:(sn.toList==([]:List UInt8))=false:=zfo hsn;go_quiet(fail)
   exact cQ129
  subst hsi;by_cases hsn:sn=⟨#[]⟩
  rotate_left
  ·have dO:(sn.toList==([]:List UInt8))=false:=zfo hsn;go_quiet(fail)
   go_wp2_with fail
   go_meet
   exact⟨⟨_,rfl,fun _=>by first| trivial|rfl⟩,bD bR _⟩
  subst hsn;have eA:Hid (∀w',Below wr.1.size wr w'->(w'.cell? ⟨bw,1,none⟩=some (.slice (some ⟨gs,os,none⟩) aC.length sc)/\w'.cell? ⟨gs,os+t*2,none⟩=some (.string ⟨#[]⟩)/\w'.cell? ⟨gs,os+t*2+1,none⟩=some (.int .i64 0)/\w'.cell? ⟨b,0,none⟩=some (.slice a1 m.1.length c1)/\w'.cell? ⟨b,1,none⟩=some (.slice a2 m.2.length c2)/\w'.cell? ⟨b,2,none⟩=some (.slice (some ⟨g2,o2,none⟩) m.3.length c3)/\w'.cell? ⟨b,3,none⟩=some (.slice a4 m.4.length c4)/\w'.cell? ⟨b,4,none⟩=some (.slice a5 m.5.length c5)/\w'.cell? ⟨b,5,none⟩=some (.slice a6 m.6.length c6)/\w'.cell? ⟨b,6,none⟩=some (.int .i64 m.nx)/\w'.cell? ⟨w.1.size,2,none⟩=some (.slice (some ⟨gp,op,none⟩) ps.length pc)/\w'.cell? ⟨gp,op+q,none⟩=some (.int .i64 Pn))):=fun w' bb=>by
   have q3:=cT.o w' bb;have bx:=q3.2.1.box;exact⟨(bb.cell (p:=⟨bw,1,none⟩) (znm g1)).trans g1,(bb.cell (p:=⟨gs,os+t*2,none⟩) (znm cJ)).trans cJ,(bb.cell (p:=⟨gs,os+t*2+1,none⟩) (znm bS)).trans bS,bx.cell 0,bx.cell 1,bx.cell 2,bx.cell 3,bx.cell 4,bx.cell 5,bx.cell 6,q3.1.cell 2,q3.2.2⟩
  go_region_held3 (fun w'=>w'.cell? ⟨bw,1,none⟩=some (.slice (some ⟨gs,os,none⟩) aC.length sc)/\w'.cell? ⟨gs,os+t*2,none⟩=some (.string ⟨#[]⟩)/\w'.cell? ⟨gs,os+t*2+1,none⟩=some (.int .i64 0)/\w'.cell? ⟨b,0,none⟩=some (.slice a1 m.1.length c1)/\w'.cell? ⟨b,1,none⟩=some (.slice a2 m.2.length c2)/\w'.cell? ⟨b,2,none⟩=some (.slice (some ⟨g2,o2,none⟩) m.3.length c3)/\w'.cell? ⟨b,3,none⟩=some (.slice a4 m.4.length c4)/\w'.cell? ⟨b,4,none⟩=some (.slice a5 m.5.length c5)/\w'.cell? ⟨b,5,none⟩=some (.slice a6 m.6.length c6)/\w'.cell? ⟨b,6,none⟩=some (.int .i64 m.nx)/\w'.cell? ⟨w.1.size,2,none⟩=some (.slice (some ⟨gp,op,none⟩) ps.length pc)/\w'.cell? ⟨gp,op+q,none⟩=some (.int .i64 Pn)) (first| exact eA.o _ bR.drew|exact eA.o _ (zac B2)) ((go_at_call 12;refine(zfm Pn t _ _ _ _ _ _ m _ (cT.o _ (zac bR)).2.1.mr fO).mono ?_;rintro e w2 ⟨⟨kk,rfl⟩,B2⟩))
  have gB:=hJ B2;clear B2 eA;go_wp2_with fail
  go_meet
  exact⟨⟨_,rfl,fun _=>by first| trivial|rfl⟩,zac gB.o⟩
 obtain⟨⟨r,rfl,hr⟩,bO⟩:=hcut;have eO:Hid (Below wi.1.size wi wc):=eX.o _ bO;have dX:=cT.o wc bO;have z2:=dX.1.c2;have z3:wc.cell? ⟨gp,op+q,none⟩=some (.int .i64 Pn):=dX.2.2;have iI:IntKind.i64.wrap ((t:Int)-1)=(t:Int)-1:=zg9 _ oM oM;clear dX bO g0 g1 cJ bS cT eX gV
 cases r with
 | false =>
  go_wp2;go_roundw
  case rel=>exact⟨B',s',(t:Int)-1,rfl,rfl,by first| rfl|go_num,oM,oM,gP.o,eO.o⟩
  simp[intOf]
 | true =>
  have iD:Hid (FreeS m.bs ps Pn t):=gW.o (hr rfl);clear hr;go_wp2;go_roundw
  case rel=>exact⟨Pn,t,(t:Int)-1,rfl,rfl,by first| rfl|go_num,oM,oM,iD.o,eO.o⟩
  simp[intOf]
namespace Kit
def SplR(p:BA)(e:Ending):Prop:=∃(s t:BA)(r:Bool),e=.returned (.tuple #[.string s,.string t,.bool r])/\s.size<=100/\t.size<=6/\(r=true->zat t=true/\∃l,Ans p (l++[t]) true/\Ans s l true)
theorem SplR.mk{p:BA}{e:Ending}(h:∃(s t:BA)(r:Bool),e=.returned (.tuple #[.string s,.string t,.bool r])/\s.size<=100/\t.size<=6/\(r=true->zat t=true/\∃l,Ans p (l++[t]) true/\Ans s l true)):SplR p e:=h
theorem jn_nil{l:List BA}(h:(jn l).size=0):l=[]:=by
 cases l with
 | nil=>rfl
 | cons a r =>
  have:(mkB++a++jn r).size=0:=h;rw[bA_,bA_]at this;have e:mkB.size=1:=rfl;omega
end Kit
theorem zdc(p:BA)(w:Wd)(hp:p.size<=1048576):
  Calls Tryz.prog 191 #[.string p] w fun e w'=>SplR p e/\Bw w w':=by
 have aS:=hJ hp;clear hp;go_enter Tryz.func191,Tryz.ntmps191
 go_wp2_with fail
 refine(zdu p _ aS.o).mono ?_;rintro e w1 ⟨⟨lv,l,r,rfl,O1,aP,-,aG⟩,B1⟩;have aF:=hJ aG;clear aG;obtain⟨la,lc,rfl,-⟩:=O1.form;obtain⟨ll,aL⟩:∃ll,(stc l).length=ll:=⟨_,rfl⟩
 have aC:Hid (l.length=ll):=by show l.length=ll;rw[←aL,zaj]
 rw[aL]at O1;rw[aL];clear aL;have aW:=hJ O1;have aR:=hJ aP;have HB1:=hJ B1;clear O1 aP B1
 cases r with
 | false =>
  go_wp2
  exact cQ121
 | true =>
  have aK:=hJ (aR.o rfl);have bC:ll<=4:=by have:=aC.o;have:=aK.o.1;omega
  clear aR;by_cases hz:ll=0
  ·subst hz;go_wp2
   exact cQ121
  have aX:((ll:Int)==0)=false:=beq_eq_false_iff_ne.mpr oM;go_wp2_with fail
  clear aX;go_loopw [8,7] (fun i' s' wr=>∃(q:Nat)(s:BA),q<ll/\i'=.int .i64 q/\s'=.string s/\Hid (s.size<=7*q/\s=jn (l.take q))/\w1=wr) (fun i' s' _=>ll-(intOf i').toNat)
  case atStart=>exact⟨0,⟨#[]⟩,oM,rfl,rfl,⟨Nat.le_refl _,rfl⟩,rfl⟩
  obtain⟨q,s,hq,rfl,rfl,HS,rfl⟩:=hrel;obtain⟨g,c,e9,aO,hg⟩:=zc0 aW.o q (by rw[aC.o];exact hq);have aD:=aK.o.2 _ (gM_ (show q<l.length by rw[aC.o];exact hq));rw[aC.o]at e9;simp only[vJ,true_and]at e9;obtain⟨rfl,rfl⟩:=e9;by_cases hlt:q+1<ll
  ·obtain⟨nm,aB⟩:∃nm,l[q]'(by rw[aC.o];exact hq)=nm:=⟨_,rfl⟩
   rw[aB]at aO aD;have q0:(0:Int)<=(q:Int):=oM
   have q1:(q:Int)<(ll:Int):=oM
   have q2:(q:Int)+1<(ll:Int):=oM
   have aY:=(za1 aD).2;have aT:Hid (s++mkB++nm=jn (l.take (q+1))):=by show _=_;rw[tS (show q<l.length by rw[aC.o];exact hq),jn_snoc,←HS.o.2,aB]
   have aU:s.size<=28:=by have:=HS.o.1;omega
   clear aD aB hg;go_wp2;go_roundw
   case rel=>exact⟨q+1,_,oM,gK,rfl,⟨by have:=HS.o.1;show ByteArray.size _<=_;simp only[bA_];show s.size+1+nm.size<=_;omega,aT.o⟩,by first| rfl|trivial⟩
   simp[intOf];omega
  have aV:ll=q+1:=oM
  subst aV;obtain⟨nm,aB⟩:∃nm,l[q]'(by rw[aC.o];exact hq)=nm:=⟨_,rfl⟩
  rw[aB]at aO aD;have q0:(0:Int)<=(q:Int):=oM
  have q1:(q:Int)<(q:Int)+1:=oM
  have aZ:=wrap_small _ oM oM;have aH:=hJ aD;have aQ:Hid (l=l.take q++[nm]):=by
   show l=_;have e:=tL (by rw[aC.o];exact Nat.le_refl _);rw[←aB,←tS (show q<l.length by rw[aC.o];exact hq),e]
  have aN:Hid (Ans (if l.take q=[]then mkB else s) (l.take q) true):=by
   show Ans _ _ _;rw[HS.o.2];exact ans_jn (fun x hx=>aK.o.2 x (List.mem_of_mem_take hx)) (by rw[lK];have:=aK.o.1;omega)
  clear aD aB hg;by_cases he:(s.toList==([]:List UInt8))=true
  ·have aM:Hid (∃l0,Ans p (l0++[nm]) true/\Ans (⟨#[47]⟩:BA) l0 true):=by
    have hz:s.size=0:=by
     have e2:s.toList=[]:=by simpa using he
     rw[ByteArray.toList_eq]at e2;have e3:s.data.toList.length=s.size:=rfl;rw[e2]at e3;exact e3.symm
    have e0:=jn_nil (by rw[←HS.o.2];exact hz);have e1:=aN.o;rw[if_pos e0]at e1;exact⟨l.take q,by rw[←aQ.o];exact aF.o,e1⟩
   go_upto_region 11 with fail
   go_quiet(fail)
   go_wp2
   go_ret3
   exact⟨SplR.mk ⟨_,_,_,rfl,dC,(za1 aH.o).2,fun _=>⟨aH.o,aM.o⟩⟩,bD HB1.o _⟩
  replace he:(s.toList==([]:List UInt8))=false:=by simpa using he
  have aM:Hid (∃l0,Ans p (l0++[nm]) true/\Ans s l0 true):=by
   have e0:l.take q≠[]:=fun e=>by
    have:=HS.o.2;rw[e]at this;subst this;have h5:(jn []).toList=[]:=by rw[ByteArray.toList_eq];rfl
    rw[h5]at he;exact absurd he dC
   have e1:=aN.o;rw[if_neg e0]at e1;exact⟨l.take q,by rw[←aQ.o];exact aF.o,e1⟩
  go_upto_region 11 with fail
  go_quiet(fail)
  go_wp2
  go_ret3
  exact⟨SplR.mk ⟨_,_,_,rfl,by have:=HS.o.1;show s.size<=100;omega,(za1 aH.o).2,fun _=>⟨aH.o,aM.o⟩⟩,bD HB1.o _⟩
namespace Kit
structure NmR(w wr:Wd)(D X:Array Va)(bw:Nat)(lv:Va)(l:List BA):Prop where
 o:ROwns wr (w.1.size+1) 9 lv (stc l)
 n:∀k,lv.ownBlock=some k->k≠w.1.size+1+1/\k≠bw
 b:Below w.1.size w wr
 d:AtC wr w.1.size 30 D
 x:AtC wr (w.1.size+1+1) 59 X
theorem NmR.below{w wr wr':Wd}{D X:Array Va}{bw:Nat}{lv:Va}{l:List BA}(h:NmR w wr D X bw lv l)(hb:Below wr.1.size wr wr'):NmR w wr' D X bw lv l :=
 ⟨h.o.below hb nR,h.n,h.b.trans (hb.mono h.b.size),h.d.over hb,h.x.over hb⟩
theorem NmR.app{w wr wr':Wd}{D X:Array Va}{bw:Nat}{lv lv':Va}{l l':List BA}(h:NmR w wr D X bw lv l)(ho:ROwns wr' (w.1.size+1) 9 lv' (stc l'))(hg:wr.grownBy wr' lv.ownBlock)(hv:∀k,lv'.ownBlock=some k->lv.ownBlock=some k\/wr.1.size<=k)(hbw:bw<wr.1.size):NmR w wr' D X bw lv' l' :=
 ⟨ho,fun k hk=>(hv k hk).elim (h.n k) (fun e=>by have:=h.x.lt;omega),h.b.grown hg h.b.size (fun k hk=>by have:=(h.o.lt k hk).1;omega),h.d.grown hg (fun e=>by have:=(h.o.lt _ e).1;omega),h.x.grown hg (fun e=>(h.n _ e).1 rfl)⟩
theorem NmR.turn{w wr:Wd}{D X:Array Va}{bw bw':Nat}{lv:Va}{l:List BA}(h:NmR w wr D X bw lv l)(hb:∀k,lv.ownBlock=some k->k≠bw'):NmR w wr D X bw' lv l:=⟨h.o,fun k hk=>⟨(h.n k hk).1,hb k hk⟩,h.b,h.d,h.x⟩
theorem zfp{bs:List Blk}(hk:∀q∈bs,q.2.1.length<=4)(x:Int):(blkAt bs x).2.1.length<=4:=by
 cases h:inB x 1 bs.length with
 | false=>unfold blkAt;rw[h];simp
 | true =>
  obtain⟨jb,hb,-,e⟩:=zb8 h;rw[e];exact hk _ (gM_ hb)
def TxR(B:Nat)(w:Wd)(e:Ending):Prop:=∃(lv:Va)(l:List BA),e=.returned lv/\ROwns w B 9 lv (stc l)/\l.length<=100
theorem TxR.mk{B:Nat}{w:Wd}{e:Ending}(h:∃(lv:Va)(l:List BA),e=.returned lv/\ROwns w B 9 lv (stc l)/\l.length<=100):TxR B w e:=h
end Kit
theorem zfq{α β:Type}{f:α->List β}{m:Nat}:∀(l:List α),(∀x∈l,(f x).length<=m)->(l.flatMap f).length<=l.length*m
 | [],_=>by simp
 | x::r,h=>by
  have h1:=h x sI;have h2:=zfq r (fun y hy=>h y (by simp[hy]));rw[List.flatMap_cons,lA,lC,Nat.add_mul];omega
theorem names_ex(x:Int)(dx dy iv bv:Va)(xs ys:List Bool)(is:List Ino)(bs:List Blk)(w:Wd)(h:DR w dx dy iv bv xs ys is bs)(hi:is.length=8)(hbl:bs.length<=1048576)(hp:∀q∈is,q.2.2.length<=2)(hk:∀q∈bs,q.2.1.length<=4):
  Calls Tryz.prog 26 #[.agg #[dx,dy,iv,bv],.int .i64 x] w fun e w'=>∃lv,e=.returned lv/\ROwns w' w.1.size 9 lv (stc ((named is bs x).map (·.1)))/\Below w.1.size w w':=by
 obtain⟨a1,c1,a2,c2,a3,c3,a4,c4,rfl,rfl,rfl,rfl⟩:=h.form;have HH:=hJ h;have HW:Hid (∀W,Below ((w.n #[.slice a1 xs.length c1,.slice a2 ys.length c2,.slice a3 is.length c3,.slice a4 bs.length c4] 30).n #[] 9).1.size ((w.n #[.slice a1 xs.length c1,.slice a2 ys.length c2,.slice a3 is.length c3,.slice a4 bs.length c4] 30).n #[] 9) W->Below w.1.size w W/\AtC W w.1.size 30 #[.slice a1 xs.length c1,.slice a2 ys.length c2,.slice a3 is.length c3,.slice a4 bs.length c4]/\w.1.size+1+1<=W.1.size):=fun W bb=>by
  have k1:=((AtC.new w 30 #[.slice a1 xs.length c1,.slice a2 ys.length c2,.slice a3 is.length c3,.slice a4 bs.length c4]).over ((bF _ (w.alloc (.cells #[.slice a1 xs.length c1,.slice a2 ys.length c2,.slice a3 is.length c3,.slice a4 bs.length c4] 30))).alloc nR (.cells #[] 9))).over bb;have sz:=bb.size;simp at sz;exact⟨(((bF _ w).alloc nR _).alloc sI _).trans (bb.mono sO),k1,sz⟩
 have bJ:Hid (ROwns ((w.n #[.slice a1 xs.length c1,.slice a2 ys.length c2,.slice a3 is.length c3,.slice a4 bs.length c4] 30).n #[] 9) w.1.size 9 (.slice (some ⟨w.1.size+1,0,none⟩) 0 0) (stc [])):=by
  have l0:=ROwns.lit0 (w.alloc (.cells #[.slice a1 xs.length c1,.slice a2 ys.length c2,.slice a3 is.length c3,.slice a4 bs.length c4] 30)) w.1.size 9 sI;have e0:(w.n #[.slice a1 xs.length c1,.slice a2 ys.length c2,.slice a3 is.length c3,.slice a4 bs.length c4] 30).1.size=w.1.size+1:=sI
  rw[e0]at l0;exact l0
 have x2:((w.n #[.slice a1 xs.length c1,.slice a2 ys.length c2,.slice a3 is.length c3,.slice a4 bs.length c4] 30).n #[] 9).cell? ⟨w.1.size,2,none⟩=some (.slice a3 is.length c3):=(HW.o _ bR).2.1.cell 2;have cM:=hJ hbl;have cE:=hJ hk
 cases hin:inB x 1 is.length with
 | false =>
  have aP:=hJ hin;have e0:named is bs x=[]:=by unfold named;rw[zgf hin];rfl
  rw[e0];clear e0;clear hin h hi hp hk hbl;go_enter Tryz.func26,Tryz.ntmps26
  go_wp2_with (go_at_call 50;refine(zak x 1 _ _).mono ?_;rintro e w7 ⟨rfl,rfl⟩;rw[aP.o])
  go_ret;exact⟨_,rfl,bJ.o,(HW.o _ bR).1⟩
 | true =>
  have aP:=hJ hin;obtain⟨h1,h2⟩:=zay hin;obtain⟨j,rfl⟩:∃j:Nat,x=(j:Int)+1:=⟨(x-1).toNat,oM⟩
  have hj:j<is.length:=oM
  have dD:j<8:=oM
  have bU:named is bs ((j:Int)+1)=if is[j].1=2 then nmdP bs is[j].2.2 else[]:=by unfold named;rw[(zdz hj).1,(zdz hj).2]
  rw[bU];clear bU;have cR:IntKind.i64.wrap (j:Int)=(j:Int):=wrap_small _ oM oM;obtain⟨qa,qc,qe,-,qh⟩:=h.i;simp only[vJ,true_and]at qe;obtain⟨rfl,rfl⟩:=qe;obtain⟨g2,o2,⟨t0,t1,t2⟩,rfl,bI,r0,r1,r2,e0,e1,rr⟩:=qh j hj;have bQ:=hp _ (gM_ hj);obtain⟨⟨kd,ln,ps⟩,hX⟩:∃X,is[j]=X:=⟨_,rfl⟩
  rw[hX]at e0 e1 rr bQ ⊢;simp only at e0 e1 rr r0 r1 r2 bQ;subst e0 e1;obtain⟨sa,sc,rfl⟩:=rr.form;have cH:=hJ rr;have cJ:=hJ h;have bW:=(HW.o _ bR).1;have y0:=(bW.cell (p:=⟨g2,o2+j*3,none⟩) bI).trans r0;have y1:=(bW.cell (p:=⟨g2,o2+j*3+1,none⟩) bI).trans r1;have y2:=(bW.cell (p:=⟨g2,o2+j*3+2,none⟩) bI).trans r2;have j0:(0:Int)<=(j:Int):=oM
  have j1:(j:Int)<(is.length:Int):=oM
  clear qh hX rr bW r0 r1 r2 hin h1 h2 hp hk hbl h hi;by_cases hkd:kd=2
  rotate_left
  ·have cY:(kd != 2)=true:=by simp[hkd]
   rw[if_neg hkd];go_enter Tryz.func26,Tryz.ntmps26
   go_wp2_with (go_at_call 50;refine(zak ((j:Int)+1) 1 _ _).mono ?_;rintro e w7 ⟨rfl,rfl⟩;rw[aP.o])
   go_ret;exact⟨_,rfl,bJ.o,(HW.o _ bR).1⟩
  subst hkd;rw[if_pos rfl];obtain⟨cV,aF⟩:∃r,(nmdP bs ps).map (·.1)=r:=⟨_,rfl⟩
  rw[aF];have bC:=hJ aF;clear aF;obtain⟨W1,bO⟩:∃W1,(((w.alloc (.cells #[.slice a1 xs.length c1,.slice a2 ys.length c2,.slice (some ⟨g2,o2,none⟩) is.length c3,.slice a4 bs.length c4] 30)).alloc (.cells #[] 9)).alloc (.cells #[.int .i64 2,.int .i64 ln,.slice sa ps.length sc] 59))=W1:=⟨_,rfl⟩
  have aT:Hid (AtC W1 (w.1.size+1+1) 59 #[.int .i64 2,.int .i64 ln,.slice sa ps.length sc]/\Below ((w.n #[.slice a1 xs.length c1,.slice a2 ys.length c2,.slice (some ⟨g2,o2,none⟩) is.length c3,.slice a4 bs.length c4] 30).n #[] 9).1.size ((w.n #[.slice a1 xs.length c1,.slice a2 ys.length c2,.slice (some ⟨g2,o2,none⟩) is.length c3,.slice a4 bs.length c4] 30).n #[] 9) W1):=by
   rw[←bO];refine⟨?_,bR.alloc nR _⟩;have k:=AtC.new ((w.alloc (.cells #[.slice a1 xs.length c1,.slice a2 ys.length c2,.slice (some ⟨g2,o2,none⟩) is.length c3,.slice a4 bs.length c4] 30)).alloc (.cells #[] 9)) 59 #[.int .i64 2,.int .i64 ln,.slice sa ps.length sc];have e0:((w.n #[.slice a1 xs.length c1,.slice a2 ys.length c2,.slice (some ⟨g2,o2,none⟩) is.length c3,.slice a4 bs.length c4] 30).n #[] 9).1.size=w.1.size+1+1:=sI
   rw[e0]at k;exact k
  have cB:Hid (NmR w W1 #[.slice a1 xs.length c1,.slice a2 ys.length c2,.slice (some ⟨g2,o2,none⟩) is.length c3,.slice a4 bs.length c4] #[.int .i64 2,.int .i64 ln,.slice sa ps.length sc] 0 (.slice (some ⟨w.1.size+1,0,none⟩) 0 0) []):=by
   obtain⟨k1,k2,k3⟩:=HW.o W1 aT.o.2;have l0:=ROwns.lit0 (w.alloc (.cells #[.slice a1 xs.length c1,.slice a2 ys.length c2,.slice (some ⟨g2,o2,none⟩) is.length c3,.slice a4 bs.length c4] 30)) (w.1.size+1) 9 sI;have e0:(w.n #[.slice a1 xs.length c1,.slice a2 ys.length c2,.slice (some ⟨g2,o2,none⟩) is.length c3,.slice a4 bs.length c4] 30).1.size=w.1.size+1:=sI
   rw[e0]at l0;exact⟨l0.below aT.o.2 nR,fun k hk=>by simp[Value.ownBlock]at hk;omega,k1,k2,aT.o.1⟩
  go_enter Tryz.func26,Tryz.ntmps26
  go_wp2_with (go_at_call 50;refine(zak ((j:Int)+1) 1 _ _).mono ?_;rintro e w7 ⟨rfl,rfl⟩;rw[aP.o])
  clear bO y0 y1 y2 x2 aT HW bJ;go_loopw [5,7] (fun x5 kk wr=>∃(lv:Va)(l:List BA)(q:Nat),lv=x5/\q<=ps.length/\kk=.int .i64 q/\Hid (NmR w wr #[.slice a1 xs.length c1,.slice a2 ys.length c2,.slice (some ⟨g2,o2,none⟩) is.length c3,.slice a4 bs.length c4] #[.int .i64 2,.int .i64 ln,.slice sa ps.length sc] 0 lv l/\l.length<=4*q/\l=(nmdP bs (ps.take q)).map (·.1))) (fun _ kk _=>ps.length-(intOf kk).toNat)
  case atStart=>exact⟨_,[],0,rfl,zL _,rfl,cB.o,dC,by simp[nmdP]⟩
  obtain⟨lv,l,q,bH,hq,rfl,HR⟩:=hrel;subst bH;obtain⟨wo,cD⟩:∃wo,wo=wr:=⟨_,rfl⟩
  subst cD;clear cB;have q0:(0:Int)<=(q:Int):=oM
  have x7:=HR.o.1.x.c2;by_cases hlt:q<ps.length
  rotate_left
  ·have q1:¬((q:Int)<(ps.length:Int)):=oM
   go_wp2;go_ret;refine⟨_,rfl,?_,HR.o.1.b⟩;have e1:=HR.o.2.2;rw[tL oM,bC.o]at e1;rw[←e1];exact HR.o.1.o.base_le oM
  have q1:(q:Int)<(ps.length:Int):=oM
  obtain⟨dA,cX,e1,cA⟩:=cH.o;simp only[vJ,true_and]at e1;obtain⟨rfl,rfl⟩:=e1;obtain⟨gp,op,rfl,cG,kp⟩:=cA q hlt;obtain⟨Pn,bL⟩:∃Pn,ps[q]=Pn:=⟨_,rfl⟩
  rw[bL]at kp;have aQ:=hJ (zh8 (bs:=bs) hlt);rw[bL]at aQ;have CB:=hJ (fun(W:Wd)(hd:Below w.1.size w W)=>zix Pn (.slice a1 xs.length c1) (.slice a2 ys.length c2) (.slice (some ⟨g2,o2,none⟩) is.length c3) (.slice a4 bs.length c4) xs ys is bs w W cJ.o hd cM.o);have bN:(blkAt bs Pn).2.1.length<=4:=zfp cE.o Pn;obtain⟨⟨bd,aB,aG⟩,aS⟩:∃X,blkAt bs Pn=X:=⟨_,rfl⟩
  obtain⟨F,hF⟩:∃F,inB Pn 1 bs.length=F:=⟨_,rfl⟩
  rw[aS,hF]at CB;rw[aS]at bN;simp only at bN;have aM:Hid (∀W,Below wo.1.size wo W->NmR w W #[.slice a1 xs.length c1,.slice a2 ys.length c2,.slice (some ⟨g2,o2,none⟩) is.length c3,.slice a4 bs.length c4] #[.int .i64 2,.int .i64 ln,.slice (some ⟨gp,op,none⟩) ps.length sc] 0 lv l/\W.cell? ⟨gp,op+q,none⟩=some (.int .i64 Pn)):=fun W b=>by
   have r2:=HR.o.1.below b;exact⟨r2,(r2.b.cell (p:=⟨gp,op+q,none⟩) cG).trans kp⟩
  rw[aS]at aQ;clear bL kp cA aS hF;go_upto_region 8 with fail
  clear x7;go_cut [8,9]from 35 to 78 (fun bv ok wx=>∃(bw:Nat)(ba:OA)(bc:Nat),bv=.pointer (some ⟨bw,0,none⟩)/\ok=.bool F/\AtC wx bw 95 #[.bool bd,.slice ba aB.length bc,.string aG]/\RSl w (.slice ba aB.length bc) aB/\Below wo.1.size wo wx/\wo.1.size<=bw)
  case first =>
   refine zbv kL [0,1,2,3,4,5,6,7,8,9,10] [11,12] [([0,1,2,3,4,5,6,7,8,10],[[9,11,12],[11,9,12]])] (fun i=>match i with|0=>.const [] (.agg #[.slice a1 xs.length c1,.slice a2 ys.length c2,.slice (some ⟨g2,o2,none⟩) is.length c3,.slice a4 bs.length c4])|1=>.const [] (.pointer (some ⟨w.1.size+1+1,2,none⟩))|2=>.const [1] (.slice (some ⟨gp,op,none⟩) ps.length sc)|3=>.const [] (.int .i64 (q:Int))|4=>.const [2,3] (.pointer (some ⟨gp,op+q,none⟩))|5=>.const [4] (.int .i64 Pn)|6=>MkT2 [0,5] (BlkR w bd aG aB F) BlkR.below|7=>MkMv 6|8=>MkFs 7|9=>MkSd 7|10=>MkW 95 #[.bool false,.slice none 0 0,.string ⟨#[]⟩]|_=>.triv) (fun x=>⟨List.toArray ((.agg #[.slice a1 xs.length c1,.slice a2 ys.length c2,.slice (some ⟨g2,o2,none⟩) is.length c3,.slice a4 bs.length c4])::(.int .i64 (↑j+1))::(.pointer (some ⟨w.1.size,0,none⟩))::undef::(.slice none 0 0)::lv::(.pointer (some ⟨w.1.size+1+1,0,none⟩))::(.int .i64 ↑q)::(x 10)::u9::u10::(.slice (some ⟨w.1.size+1,0,none⟩) 0 0)::(.int .i64 (↑j+1))::(.pointer (some ⟨w.1.size,2,none⟩))::(.slice (some ⟨g2,o2,none⟩) is.length c3)::(.int .i64 ↑is.length)::(.bool true)::(.bool false)::(.bool false)::(.pointer (some ⟨w.1.size,2,none⟩))::(.slice (some ⟨g2,o2,none⟩) is.length c3)::(.int .i64 (↑j+1))::(.int .i64 ↑j)::(.pointer (some ⟨g2,o2+j*3,none⟩))::(.pointer (some ⟨g2,o2+j*3,none⟩))::(.int .i64 2)::(.bool false)::(.bool false)::undef::(.pointer (some ⟨w.1.size,2,none⟩))::(.slice (some ⟨g2,o2,none⟩) is.length c3)::(.int .i64 (↑j+1))::(.int .i64 ↑j)::(.pointer (some ⟨g2,o2+j*3,none⟩))::(.agg #[.int .i64 2,.int .i64 ln,.slice (some ⟨gp,op,none⟩) ps.length sc])::(.int .i64 ↑q)::(.pointer (some ⟨w.1.size+1+1,2,none⟩))::(.slice (some ⟨gp,op,none⟩) ps.length sc)::(.int .i64 ↑ps.length)::(.bool true)::u40::u41::(x 7)::(x 0)::(x 1)::(x 2)::(x 3)::(x 4)::(x 5)::(x 6)::(x 8)::(x 9)::u52::u53::u54::u55::u56::u57::u58::u59::u60::u61::u62::u63::u64::u65::u66::u67::u68::u69::u70::u71::u72::u73::u74::u75::u76::u77::u78::undef::[]),[]⟩) (fun i=>match i with|0=>u43|1=>u44|2=>u45|3=>u46|4=>u47|5=>u48|6=>u49|7=>u42|8=>u50|9=>u51|10=>u8|_=>undef) rfl (zbr kL kL) kL kL kL rfl ?_ ?_ ?_
   ·intro jo hj so x iw W hd hp K hK;simp only[mN,nN,or_false]at hj;rcases hj with rfl|rfl|rfl|rfl|rfl|rfl|rfl|rfl|rfl|rfl|rfl<;>refine wpOp_step (o:=_) rfl fun K' hK'=>?_<;>have HK:=hJ (fun(v:Va) (W':Wd) h1 h2=>hK' _ _ (hK v W' h1 h2))<;>simp only[upd,Nat.reduceEqDiff,if_true,if_false]at HK
    ·have bw:=zac hp.bel;have k0:=(aM.o W bw).1.d;obtain⟨q5,q6,q7,q8⟩:=AtC.four k0;clear k0 bw;go_simp;exact HK.o _ _ bR rfl
    ·exact cQ6
    ·have e1:x 1=.pointer (some ⟨w.1.size+1+1,2,none⟩):=hp.post 1 (hd 1 mz0);have bw:=zac hp.bel;have q5:=(aM.o W bw).1.x.c2;clear bw;simp only[e1]at HK ⊢;go_simp;exact HK.o _ _ bR rfl
    ·exact cQ6
    ·have e2:x 2=.slice (some ⟨gp,op,none⟩) ps.length sc:=hp.post 2 (hd 2 mz0);have e3:x 3=.int .i64 (q:Int):=hp.post 3 (hd 3 mz1);simp only[e2,e3]at HK ⊢;go_simp;exact HK.o _ _ bR rfl
    ·have e4:x 4=.pointer (some ⟨gp,op+q,none⟩):=hp.post 4 (hd 4 mz0);have bw:=zac hp.bel;have q9:=(aM.o W bw).2;clear bw;simp only[e4]at HK ⊢;go_simp;exact HK.o _ _ bR rfl
    ·have e0:x 0=.agg #[.slice a1 xs.length c1,.slice a2 ys.length c2,.slice (some ⟨g2,o2,none⟩) is.length c3,.slice a4 bs.length c4]:=hp.post 0 (hd 0 mz0);have e5:x 5=.int .i64 Pn:=hp.post 5 (hd 5 mz1);have dr:=(aM.o W (zac hp.bel)).1.b;simp only[e0,e5]at HK ⊢;clear e0 e5;go_simp;refine(CB.out W dr).mono ?_;rintro e w6 ⟨sv,rfl,R6,B6⟩;obtain⟨ba,bc,rfl,cQ⟩:=R6;go_simp;exact HK.o _ _ B6 ⟨_,_,rfl,ba,bc,rfl,rfl,ba,bc,rfl,cQ⟩
    ·have e6:∃a r,x 6=.tuple #[a,r]/\BlkR w bd aG aB F (iw 6).1 (iw 6).2 W a r:=hp.post 6 (hd 6 mz0);obtain⟨a,r,e6,-⟩:=e6;have ea:=hJ e6;simp only[e6]at HK ⊢;clear e6;go_simp;exact HK.o _ _ bR ⟨ea.out,a,r,rfl⟩
    ·exact cQ70
    ·exact cQ71
    exact cQ74
   ·intro x iw W hp;obtain⟨a,r,e6,R6⟩:=hp.post 6 dC;obtain⟨e7,-⟩:=hp.post 7 dC;have e8:x 8=fstOf (x 7):=hp.post 8 dC;have e9:x 9=sndOf (x 7):=hp.post 9 dC;obtain⟨aW,aZ,aD⟩:=hp.post 10 dC;have aL:=hp.lo 10 dC;have lc:=hp.lo 6 dC;have aN:=zac hp.bel;have ap:=hp.apart 6 dC 10 dC dC;rw[←e7,e6]at e8;rw[←e7,e6]at e9
    replace e9:x 9=r:=e9
    rw[e6]at e7
    replace e7:=e7.symm
    replace e8:x 8=a:=e8
    obtain⟨y0,y1,y2⟩:=aD.k3;obtain⟨f0,f1,f2⟩:=aD.f3;obtain⟨ba,bc,rfl,rfl,hR⟩:=R6;have aC:wo.1.size<=(iw 10).1:=aL.1;have HFI:Hid (AtC W (iw 10).1 95 #[.bool false,.slice none 0 0,.string ⟨#[]⟩]/\RSl w (.slice ba aB.length bc) aB/\Below wo.1.size wo W/\wo.1.size<=(iw 10).1):=⟨aD,hR,aN,aC⟩
    clear hp aD hR aN ap lc aL aZ aC;simp only[e7,e8,aW,e9]at*;generalize (iw 10).1=bw at*;go_wp2_with fail
    exact cQ31
   intro qa bX l hl x iw W hp;simp only[mN,nN,or_false]at bX;subst bX;simp only[mN,nN,or_false]at hl;obtain⟨a,r,e6,R6⟩:=hp.post 6 dC;obtain⟨e7,-⟩:=hp.post 7 dC;have e8:x 8=fstOf (x 7):=hp.post 8 dC;obtain⟨aW,aZ,aD⟩:=hp.post 10 dC;have aL:=hp.lo 10 dC;have lc:=hp.lo 6 dC;have aN:=zac hp.bel;have ap:=hp.apart 6 dC 10 dC dC;rw[←e7,e6]at e8;rw[e6]at e7
   replace e7:=e7.symm
   replace e8:x 8=a:=e8
   obtain⟨y0,y1,y2⟩:=aD.k3;obtain⟨f0,f1,f2⟩:=aD.f3;obtain⟨ba,bc,rfl,rfl,hR⟩:=R6;have aC:wo.1.size<=(iw 10).1:=aL.1;have HFI:Hid (AtC W (iw 10).1 95 #[.bool false,.slice none 0 0,.string ⟨#[]⟩]/\RSl w (.slice ba aB.length bc) aB/\Below wo.1.size wo W/\wo.1.size<=(iw 10).1):=⟨aD,hR,aN,aC⟩
   clear hp aD hR aN ap lc aL aZ aC;simp only[e7,e8,aW]at*;generalize (iw 10).1=bw at*;rcases hl with rfl|rfl
   ·go_wp2_with fail
    exact cQ31
   go_wp2_with fail
   exact cQ31
  obtain⟨bw,ba,bc,rfl,rfl,Aw,Rw,Bw,lw⟩:=hcut;have aK:Hid (NmR w wc #[.slice a1 xs.length c1,.slice a2 ys.length c2,.slice (some ⟨g2,o2,none⟩) is.length c3,.slice a4 bs.length c4] #[.int .i64 2,.int .i64 ln,.slice (some ⟨gp,op,none⟩) ps.length sc] bw lv l/\AtC wc bw 95 #[.bool bd,.slice ba aB.length bc,.string aG]/\l.length<=4*q+0/\l=(nmdP bs (ps.take q)).map (·.1)++(nmdS (aB.take 0)).map (·.1)):=⟨(HR.o.1.below Bw).turn (fun k hk=>by have:=(HR.o.1.o.lt k hk).2;omega),Aw,HR.o.2.1,by rw[HR.o.2.2];simp[nmdS]⟩
  have cL:=hJ Rw;clear Aw Rw Bw CB HR aM lw;go_wp2_with fail
  go_loopw [5,10] (fun x5 kk wr=>∃(lv:Va)(l:List BA)(t:Nat),lv=x5/\t<=aB.length/\kk=.int .i64 t/\Hid (NmR w wr #[.slice a1 xs.length c1,.slice a2 ys.length c2,.slice (some ⟨g2,o2,none⟩) is.length c3,.slice a4 bs.length c4] #[.int .i64 2,.int .i64 ln,.slice (some ⟨gp,op,none⟩) ps.length sc] bw lv l/\AtC wr bw 95 #[.bool bd,.slice ba aB.length bc,.string aG]/\l.length<=4*q+t/\l=(nmdP bs (ps.take q)).map (·.1)++(nmdS (aB.take t)).map (·.1)/\(bd=true\/t=0))) (fun _ kk _=>aB.length-(intOf kk).toNat)
  case atStart=>exact⟨lv,l,0,rfl,zL _,rfl,aK.o.1,aK.o.2.1,aK.o.2.2.1,aK.o.2.2.2,.inr rfl⟩
  clear aK;obtain⟨aO,l',t,bH,ht,rfl,HS⟩:=hrel;subst bH;obtain⟨g0,g1⟩:=HS.o.2.1.k2;have t0:(0:Int)<=(t:Int):=oM
  have cT:q<2:=oM
  by_cases htl:t<aB.length
  rotate_left
  ·have t1:¬((t:Int)<(aB.length:Int)):=oM
   go_wp2;go_roundw
   case rel =>
    refine⟨aO,l',q+1,rfl,oM,gK,HS.o.1.turn (fun k hk=>by have:=(HS.o.1.o.lt k hk).1;omega),by have:=HS.o.2.2.1;omega,?_⟩;rw[aQ.o,List.map_append,HS.o.2.2.2.1,tL (show aB.length<=t by omega)];rcases HS.o.2.2.2.2 with rfl|e
    ·rfl
    have:aB=[]:=List.length_eq_zero_iff.1 oM;subst this
    cases bd<;>rfl
   simp[intOf];omega
  have t1:(t:Int)<(aB.length:Int):=oM
  cases bd with
  | false =>
   go_wp2;go_roundw
   case rel =>
    refine⟨aO,l',q+1,rfl,oM,gK,HS.o.1.turn (fun k hk=>by have:=(HS.o.1.o.lt k hk).1;omega),by have:=HS.o.2.2.1;omega,?_⟩;rcases HS.o.2.2.2.2 with e|e
    ·cases e
    subst e;rw[aQ.o,List.map_append,HS.o.2.2.2.1];rfl
   simp[intOf];omega
  | true =>
  obtain⟨cU,cW,e1,-,bZ⟩:=cL.o;simp only[vJ,true_and]at e1;obtain⟨rfl,rfl⟩:=e1;obtain⟨gs,os,rfl,cP,bM,cF⟩:=bZ t htl;obtain⟨sn,aY⟩:∃sn,aB[t].1=sn:=⟨_,rfl⟩
  rw[aY]at bM;have bS:=hJ (zne htl);have aX:=hJ aY
  replace bM:=(HS.o.1.b.cell (p:=⟨gs,os+t*2,none⟩) cP).trans bM
  clear bZ aY cF;by_cases hse:sn=⟨#[]⟩
  ·subst hse;go_wp2;go_roundw
   case rel =>
    refine⟨aO,l',t+1,rfl,oM,gK,HS.o.1,HS.o.2.1,by have:=HS.o.2.2.1;omega,?_,sI⟩;rw[bS.o,HS.o.2.2.2.1,if_pos aX.o,List.append_nil]
   simp[intOf];omega
  have bE:(sn.toList==([]:List UInt8))=false:=zfo hse;have cN:(sn.toList != ([]:List UInt8))=true:=by simp[bne,bE]
  have HT:Hid (ROwns (wr.n #[.string sn] 9) (w.1.size+1) 9 aO (stc l')):=HS.o.1.o.alloc _;have cO:Hid ((wr.n #[.string sn] 9).cell? ⟨wr.1.size,0,none⟩=some (.string sn)):=(AtC.new wr 9 #[.string sn]).cell 0;have cC:Hid (w.1.size+1<=(wr.n #[.string sn] 9).1.size):=by have:=HS.o.1.b.size;show _<=_;simp;omega
  have cK:Hid ((stc l').length<=100000000000):=by have:=HS.o.2.2.1;show _<=_;rw[zaj];omega
  have bK:Hid (Below wr.1.size wr (wr.n #[.string sn] 9)):=(bF _ wr).alloc nR _;go_wp2_with (at_builtin;refine wS fun K' hK'=>?_;refine zam _ rfl (.tmp 70) (.tmp 77) 44 rfl (w.1.size+1) 9 Tryz.u44 _ 16 Tryz.i9 rfl dC aO _ rfl HT.o cC.o wr.1.size (.string sn) rfl cO.o rfl cK.o ?_;intro bP bV aR aH aV;refine hK' _ _ ?_;have bG:=hJ (aI aR (aI aH aV));clear aR aH aV hK')
  have aU:Hid (NmR w bV #[.slice a1 xs.length c1,.slice a2 ys.length c2,.slice (some ⟨g2,o2,none⟩) is.length c3,.slice a4 bs.length c4] #[.int .i64 2,.int .i64 ln,.slice (some ⟨gp,op,none⟩) ps.length sc] bw bP (l'++[sn])/\AtC bV bw 95 #[.bool true,.slice (some ⟨gs,os,none⟩) aB.length bc,.string aG]/\(l'++[sn]).length<=4*q+(t+1)/\l'++[sn]=(nmdP bs (ps.take q)).map (·.1)++(nmdS (aB.take (t+1))).map (·.1)):=by
   obtain⟨aR,aH,aV⟩:=bG.o;have n1:=HS.o.1.below bK.o;have cI:bw<(wr.n #[.string sn] 9).1.size:=(HS.o.2.1.over bK.o).lt;refine⟨n1.app (by rw[zbj];exact aR) aH aV cI,(HS.o.2.1.over bK.o).grown aH (fun e=>(HS.o.1.n _ e).2 rfl),by have:=HS.o.2.2.1;simp;omega,?_⟩;rw[bS.o,HS.o.2.2.2.1,if_neg (by rw[aX.o];exact hse),List.map_append,List.append_assoc,List.map_cons,List.map_nil,aX.o]
  go_roundw
  case rel=>exact⟨bP,l'++[sn],t+1,rfl,oM,gK,aU.o.1,aU.o.2.1,aU.o.2.2.1,aU.o.2.2.2,sI⟩
  simp[intOf];omega
theorem znn(x:Int)(dx dy iv bv:Va)(xs ys:List Bool)(is:List Ino)(bs:List Blk)(w:Wd)(h:DR w dx dy iv bv xs ys is bs)(hi:is.length=8)(hbl:bs.length<=1048576)(hp:∀q∈is,q.2.2.length<=2)(hk:∀q∈bs,q.2.1.length<=4):
  Calls Tryz.prog 26 #[.agg #[dx,dy,iv,bv],.int .i64 x] w fun e w'=>TxR w.1.size w' e/\Below w.1.size w w':=by
 refine(names_ex x dx dy iv bv xs ys is bs w h hi hbl hp hk).mono ?_;rintro e w' ⟨lv,rfl,O,B⟩;refine⟨TxR.mk ⟨lv,_,rfl,O,?_⟩,B⟩;rw[lM];unfold named
 split
 ·have h1:=zfq (m:=4) (f:=fun p=>nmd (blkAt bs p)) (zb7 is x) (fun p _=>by
   unfold nmd
   split
   ·exact lT (List.length_filter_le _ _) (zfp hk p)
   ·simp)
  have h2:(zb7 is x).length<=2:=by
   unfold zb7
   split
   ·rename_i hin;obtain⟨q1,q2⟩:=zay hin;have hj:(x-1).toNat<is.length:=oM
    rw[gD_,gE hj];exact hp _ (gM_ hj)
   simp
  show(nmdP bs (zb7 is x)).length<=100;have e:nmdP bs (zb7 is x)=(zb7 is x).flatMap (fun p=>nmd (blkAt bs p)):=rfl;rw[e];have:=Nat.mul_le_mul_right 4 h2;omega
 simp
variable {Z : ZT}
theorem zno(b:Nat)(x:Int)(u v iv bv dv pv:Va)(m:MD)(w:Wd)(hbx:AtC w b 33 #[u,v,iv,bv,dv,pv,nI m.nx])(h:MR w u v iv bv dv pv m)(hl:m.6.length<=1048576):
  Calls Tryz.prog 223 #[.pointer (aA b 0),nI x] w fun e w'=>(∃k:Int,e=.returned (nI k))/\w'=w:=by
 obtain⟨a6,c6,rfl,-,ha⟩:=h.p;have x5:=hbx.c5;have HA:=hJ ha;clear ha h;go_enter Tryz.func223,Tryz.ntmps223
 exact cQ25
theorem deep_any(u v iv bv dv pv:Va)(m:MD)(p:BA)(w:Wd)(h:MR w u v iv bv dv pv m)(hm:Sh Z m)(hp:p.size<=1048576):
  Calls Tryz.prog 207 #[.agg #[u,v,iv,bv,dv,pv,nI m.nx],.string p] w fun e w'=>AnyB e/\Bw w w':=by
 obtain⟨a1,c1,a2,c2,a3,c3,a4,c4,a5,c5,a6,c6,rfl,rfl,rfl,rfl,rfl,rfl⟩:=h.form;have HH:=hJ h;have HM:=hJ hm;have HPP:=hJ hp;have HW:Hid (∀W,Bw (w.alloc (.cells (M7 m a1 c1 a2 c2 a3 c3 a4 c4 a5 c5 a6 c6) 33)) W->Bw w W/\AtC W w.1.size 33 (M7 m a1 c1 a2 c2 a3 c3 a4 c4 a5 c5 a6 c6)):=fun W bb=>⟨((bF _ w).alloc nR _).trans (bb.mono sI),(AtC.new w 33 _).over bb⟩
 clear h hm hp;go_enter Tryz.func207,Tryz.ntmps207
 go_wp2_with fail
 refine(zdu p _ HPP.o).mono ?_;rintro e w1 ⟨⟨lv,l,r,rfl,O1,hl1,hl0,-⟩,B1⟩;obtain⟨la,lc,rfl,-⟩:=O1.form;obtain⟨ll,hll⟩:∃ll,(stc l).length=ll:=⟨_,rfl⟩
 have HL2:Hid (l.length=ll):=by show l.length=ll;rw[←hll,zaj]
 have hl4:ll<=4:=by
  rw[←hll,zaj]
  cases r with
  | true=>exact(hl1 rfl).1
  | false=>rw[hl0 rfl];decide
 rw[hll]at O1;rw[hll];clear hll;generalize hW0:(w.alloc (.cells (M7 m a1 c1 a2 c2 a3 c3 a4 c4 a5 c5 a6 c6) 33))=W0 at*;clear hW0;have HO1:=hJ O1;have HB1:=hJ B1;clear O1 hl1 hl0 B1;go_wp2_with fail
 go_loopw [8,7] (fun i' k' wr=>∃(q:Nat)(k:Int),q<=ll/\i'=.int .i64 q/\k'=.int .i64 k/\Hid (Bw w1 wr)) (fun i' k' _=>ll-(intOf i').toNat)
 case atStart=>exact⟨0,1,zL _,rfl,rfl,bF _ _⟩
 case round =>
  obtain⟨q,k,hq,rfl,rfl,HR⟩:=hrel;by_cases hlt:q<ll
  ·obtain⟨g,c,e9,kq9,hg⟩:=zc0 (HO1.o.below HR.o nR) q (by rw[HL2.o];exact hlt);rw[HL2.o]at e9;simp only[vJ,true_and]at e9;obtain⟨rfl,rfl⟩:=e9;obtain⟨nm,k9⟩:∃nm,wr.cell? ⟨g,q,none⟩=some (.string nm):=⟨_,kq9⟩
   have hbw:=HW.o wr (HB1.o.trans (HR.o.mono HB1.o.size));have HAL:Hid (∀W,Bw wr W->AtC W w.1.size 33 (M7 m a1 c1 a2 c2 a3 c3 a4 c4 a5 c5 a6 c6)/\Bw w W/\Bw w1 W):=fun W bb=>⟨hbw.2.over bb,hbw.1.trans (bb.mono hbw.1.size),HR.o.trans (bb.mono HR.o.size)⟩
   have A0:=hbw.2;obtain⟨x0,x1,x2,x3⟩:=AtC.four A0;have q0:(0:Int)<=(q:Int):=oM
   have q1:(q:Int)<(ll:Int):=oM
   clear A0 hbw hg kq9;go_upto_region 6 with fail
   go_cut [9,10,11]from 18 to 51 (fun c1 c2 c3 wx=>(∃k1 k2 k3:Int,c1=.int .i64 k1/\c2=.int .i64 k2/\c3=.int .i64 k3)/\Bw wr wx)
   case first =>
    go_region_with (go_at_call 204;refine(find_any k nm _ _ _ _ m.xs m.ys m.is m.bs _ (HH.o.below (HAL.o _ (zac bR)).2.1 nR).d HM.o.big.d).mono ?_;rintro e w2 ⟨Bk,s2,k2,rfl,-,B2⟩;have HB2:=hJ B2;clear B2)
    all_goals (go_wp2_with fail;go_meet;exact⟨⟨_,_,_,rfl,rfl,rfl⟩,zac HB2.o⟩)
   case rest =>
    obtain⟨⟨k1,k2,k3,rfl,rfl,rfl⟩,hb2⟩:=hcut;obtain⟨A2,b2,b3⟩:=HAL.o wc hb2;obtain⟨y0,y1,y2,y3,y4,y5,y6⟩:=AtC.sev A2;have HZ:=hJ (aI b2 (aI b3 A2));clear A2 b2 b3 hb2 HAL x0 x1 x2 x3 k9;go_wp2_with fail
    refine(zfm k1 k2 _ _ _ _ _ _ m wc (HH.o.below HZ.o.1 nR) (lT HM.o.l dC)).mono ?_;rintro e w3 ⟨⟨id,rfl⟩,B3⟩;have HZ3:Hid (Bw w w3/\Bw w1 w3/\AtC w3 w.1.size 33 (M7 m a1 c1 a2 c2 a3 c3 a4 c4 a5 c5 a6 c6)):=⟨HZ.o.1.trans (B3.mono HZ.o.1.size),HZ.o.2.1.trans (B3.mono HZ.o.2.1.size),HZ.o.2.2.over B3⟩
    clear B3 y0 y1 y2 y3 y4 y5 y6 HZ;go_wp2_with fail
    refine(zno w.1.size id _ _ _ _ _ _ m w3 HZ3.o.2.2 (HH.o.below HZ3.o.1 nR) (lT HM.o.l dC)).mono ?_;rintro e w4 ⟨⟨kd,rfl⟩,rfl⟩;have HREL:Hid (∃(q':Nat)(k':Int),q'<=ll/\nI ((q:Int)+1)=nI q'/\nI k3=nI k'/\Hid (Bw w1 w4)):=⟨q+1,k3,oM,gK,rfl,HZ3.o.2.1⟩
    go_upto_region 8 with fail
    go_cut [50]from 18 to 51 (fun c wx=>(∃r,c=.bool r)/\w4=wx)
    case first =>
     by_cases h3:0<k3
     ·by_cases h2:kd=2
      ·subst h2;go_wp2_with fail
       go_meet
       exact⟨⟨_,rfl⟩,rfl⟩
      ·have h2b:(kd==2)=false:=by simp[h2]
       exact cQ63
     ·exact cQ63
    case rest =>
     obtain⟨⟨r,rfl⟩,rfl⟩:=hcut
     cases r
     ·go_wp2;go_roundw
      case rel=>first| exact HREL.o|((repeat apply Exists.intro);exact⟨HREL.o,rfl⟩)
      case measure=>simp[intOf];omega
     ·go_wp2;go_ret;exact⟨⟨_,rfl⟩,HZ3.o.1⟩
  ·have HF:=hJ (HW.o wr (HB1.o.trans (HR.o.mono HB1.o.size))).1;go_wp2;go_ret;exact⟨⟨_,rfl⟩,HF.o⟩
structure RD(is:List Ino)(bs:List Blk):Prop where
 hi:is.length=8
 hb:bs.length=16
 kd:∀q∈is,q.1=0\/q.1=1\/q.1=2
 two:∀q∈is,q.2.2.length=2
 four:∀q∈bs,q.2.1.length<=4
 text:∀q∈bs,q.1=false->q.2.1=[]
 nm:∀q∈bs,∀s∈q.2.1,s.1=⟨#[]⟩\/zat s.1=true
 tx:∀q∈bs,q.2.2.size<=16
theorem zi9(bs:List Blk)(x:Int):blkAt bs x=(false,[],⟨#[]⟩)\/blkAt bs x∈bs:=by
 cases h:inB x 1 bs.length with
 | false=>exact .inl (zj1 h)
 | true =>
  obtain⟨jb,hb,-,e⟩:=zb8 h;exact .inr (by rw[e];exact gM_ hb)
theorem zil{is:List Ino}(i:Int):(zce is i=0/\zb7 is i=[])\/∃q∈is,zce is i=q.1/\zb7 is i=q.2.2:=by
 cases h:inB i 1 is.length with
 | false=>exact .inl ⟨zgf h,by unfold zb7;rw[h];rfl⟩
 | true =>
  obtain⟨h1,h2⟩:=zay h;obtain⟨j,rfl⟩:∃j:Nat,i=(j:Int)+1:=⟨(i-1).toNat,oM⟩
  have hj:j<is.length:=oM
  exact .inr ⟨is[j],gM_ hj,(zdz hj).1,(zdz hj).2⟩
theorem RD.kind{is:List Ino}{bs:List Blk}(h:RD is bs)(i:Int):zce is i=0\/zce is i=1\/zce is i=2:=by
 rcases zil (is:=is) i with⟨e,-⟩| ⟨q,hq,e,-⟩
 ·exact .inl e
 rw[e];exact h.kd q hq
theorem RD.name{is:List Ino}{bs:List Blk}(h:RD is bs){i:Int}{s:Sl}(hs:s∈named is bs i):zat s.1=true:=by
 unfold named at hs
 split at hs
 ·obtain⟨p,-,hp⟩:=List.mem_flatMap.1 hs;unfold nmd at hp
  split at hp
  ·obtain⟨h1,h2⟩:=zey hp;rcases zi9 bs p with e|e
   ·rw[e]at h1;simp at h1
   exact(h.nm _ e s h1).resolve_left h2
  simp at hp
 simp at hs
def blocksOf(is:List Ino)(bs:List Blk)(i kind:Int):List Blk:=if zce is i=kind then(zb7 is i).map (blkAt bs)else[]
structure BoR(w wr:Wd)(D L:Array Va):Prop where
 b:Bw w wr
 d:AtC wr w.1.size 30 D
 l:AtC wr (w.1.size+1+1) 95 L
theorem BoR.below{w wr wr':Wd}{D L:Array Va}(h:BoR w wr D L)(hb:Bw wr wr'):BoR w wr' D L:=⟨h.b.trans (hb.mono h.b.size),h.d.over hb,h.l.over hb⟩
theorem BoR.set{w wr:Wd}{D L:Array Va}(h:BoR w wr D L)(j:Nat)(x:Va):BoR w (wr.setCell ⟨w.1.size+1+1,j,none⟩ x) D (L.setIfInBounds j x) :=
 ⟨h.b.setCell (p:=⟨w.1.size+1+1,j,none⟩) oC x,h.d.other oM _,h.l.set j x⟩
theorem BoR.set3{w wr:Wd}{D L:Array Va}(h:BoR w wr D L)(o:Nat)(x y z:Va):BoR w (((wr.setCell ⟨w.1.size+1+1,o,none⟩ x).setCell ⟨w.1.size+1+1,o+1,none⟩ y).setCell ⟨w.1.size+1+1,o+2,none⟩ z) D (((L.setIfInBounds o x).setIfInBounds (o+1) y).setIfInBounds (o+2) z):=((h.set o x).set (o+1) y).set (o+2) z
end Go.Proofs.YtgnplpmgkegcnaaGreat
