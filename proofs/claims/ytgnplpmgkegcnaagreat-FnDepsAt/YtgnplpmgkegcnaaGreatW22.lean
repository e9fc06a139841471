/- Texts. -/
import Derived.Test.YtgnplpmgkegcnaaGreatW21
set_option maxRecDepth 100000
set_option maxHeartbeats 12800000
namespace Go.Proofs.YtgnplpmgkegcnaaGreat
open Go.RowKit Kit Xd
theorem DvOk.okD{ts:List BA}(h:DvOk ts):okD ts=true:=by
 unfold Kit.okD zbu;rw[aE,beq_iff_eq,List.all_eq_true];exact⟨h.n,fun t ht=>dT (by obtain⟨j,hj,rfl⟩:=List.getElem_of_mem ht;exact h.s j hj)⟩
theorem zn1(w0 w:Wd)(c:Nat)(a:OA)(len cap:Nat)(hcode:za0 w0 a len)(hlen:len<=1048576)(hcur:Cur 103 w0 w c a len cap)(hcw:c<w.1.size):
  Calls Tryz.prog 52 #[.pointer (aA c 0)] w fun e w'=>∃u v iv bv xs ys is bs,e=.returned (.agg #[u,v,iv,bv])/\DO w' (fun k=>w.1.size<=k) u v iv bv xs ys is bs/\DkR xs ys is bs/\Drew w0 w w' c a len cap:=by
 have HC:=hJ hcur;have HO:=hJ hcode;clear hcur hcode;go_enter Tryz.func52,Tryz.ntmps52
 go_wp2_with fail
 refine(zaw w0 _ c a len cap 3 HO.o hlen (za6 HC.o hcw _) dC dC).mono ?_;rintro e w1 ⟨x,rfl,D1⟩;have d1:Drew w0 w w1 c a len cap:=((Drew.refl HC.o).alloc hcw _).trans D1;have r1:AtC w1 w.1.size 30 Xd.zD:=(AtC.new w 30 _).grown D1.2 sO;have s1:w.1.size<w1.1.size:=r1.lt;have aF:=hJ d1;have aM:=hJ r1;clear D1 d1 r1 HC
 cases hx:(x==0)with
 | true =>
  clear hx;go_wp2_with fail
  refine(wild_any w0 w1 c a len cap HO.o hlen aF.o.cur oM).mono ?_;rintro e w2 ⟨u,v,iv,bv,xs,ys,is,bs,rfl,O2,K2,D2⟩;have bC:=hJ (O2.mono (S':=fun k=>w.1.size<k) fun k hk=>oM);have aK:=hJ K2;have aN:=hJ (aF.o.trans D2);have aH:=hJ (aM.o.grown D2.2 sO);clear O2 K2 D2 aF aM;obtain⟨a1,c1,a2,c2,a3,c3,a4,c4,rfl,rfl,rfl,rfl⟩:=bC.o.dr.form;have k0:=aH.o;have r0:=k0.cell 0;have r1:=k0.cell 1;have r2:=k0.cell 2;have r3:=k0.cell 3;obtain⟨f0,f1,f2,f3⟩:=k0.f4;have hl:=k0.lt;simp only[Xd.zD]at r0 r1 r2 r3;simp at r0 r1 r2 r3;clear k0;go_wp2;refine bY (v:=.agg #[.slice a1 xs.length c1,.slice a2 ys.length c2,.slice a3 is.length c3,.slice a4 bs.length c4]) sR4 rfl ⟨_,_,_,_,xs,ys,is,bs,rfl,?_,aK.o,?_⟩
  ·exact((bC.o).of_heap fun k hk _=>by rw[hO_ _ ⟨w.1.size,3,none⟩ k _ oB,hO_ _ ⟨w.1.size,2,none⟩ k _ oB,hO_ _ ⟨w.1.size,1,none⟩ k _ oB,hO_ _ ⟨w.1.size,0,none⟩ k _ oB]).mono fun k hk=>by omega
  exact(((aN.o.setCell hcw nR _).setCell hcw nR _).setCell hcw nR _).setCell hcw nR _
 | false =>
  clear hx;go_wp2_with fail
  refine(fs_any w0 w1 c a len cap HO.o hlen aF.o.cur oM).mono ?_;rintro e w2 ⟨fv,rfl,F2,D2⟩;obtain⟨n1,o1,n2,o2,n3,o3,n4,o4,n5,o5,n6,o6,n7,o7,m,ts,rfl,M2,T2,S2,V2⟩:=F2;have aZ:=hJ M2;have aL:=hJ T2;have aC:=hJ (aI S2 V2);have aN:=hJ (aF.o.trans D2);have aH:=hJ (aM.o.grown D2.2 sO);have s2:w.1.size<w2.1.size:=aH.o.lt;clear M2 T2 S2 V2 D2 aF aM;obtain⟨W2,bE⟩:∃W2,w2.alloc (.cells (M9 m n1 o1 n2 o2 n3 o3 n4 o4 n5 o5 n6 o6 n7 ts.length o7) 119)=W2:=⟨_,rfl⟩
  obtain⟨b,hb⟩:∃b,w2.1.size=b:=⟨_,rfl⟩
  have aD:Hid (AtC W2 b 119 (M9 m n1 o1 n2 o2 n3 o3 n4 o4 n5 o5 n6 o6 n7 ts.length o7)/\Bw w2 W2/\Drew w0 w W2 c a len cap/\AtC W2 w.1.size 30 Xd.zD/\w.1.size<b/\b<W2.1.size):=by
   subst bE hb;exact⟨AtC.new w2 119 _,(bF _ w2).alloc nR _,aN.o.alloc hcw _,aH.o.alloc _,s2,sI⟩
  go_wp2_with fail
  clear bE hb;refine(zaw w0 W2 c a len cap 2 HO.o hlen aD.o.2.2.1.cur dC dC).mono ?_;rintro e w3 ⟨y,rfl,D3⟩;have aB:Hid (AtC w3 b 119 (M9 m n1 o1 n2 o2 n3 o3 n4 o4 n5 o5 n6 o6 n7 ts.length o7)/\Drew w0 w w3 c a len cap/\AtC w3 w.1.size 30 Xd.zD/\b<w3.1.size):=by
   obtain⟨h1,h2,h3,h4,h5,h6⟩:=aD.o;exact⟨h1.grown D3.2 sO,h3.trans D3,h4.grown D3.2 sO,by have:=D3.2.size;omega⟩
  have bH:w.1.size<b:=aD.o.2.2.2.2.1;have aO:Hid (DR w3 (.slice n1 m.1.length o1) (.slice n2 m.2.length o2) (.slice n3 m.3.length o3) (.slice n4 m.4.length o4) m.xs m.ys m.is m.bs/\RSt w3 (.slice n7 ts.length o7) ts):=by
   have hk:∀k,w1.1.size<=k->k<w2.1.size->w3.1[k]?=w2.1[k]?:=fun k h1 h2=>(D3.2.block k (by have:=aD.o.2.1.size;omega) sO).trans (aD.o.2.1.block k h2);obtain⟨S1,S2,S3,tm,q1,q2,q3,q4,q5,q6,q7⟩:=aZ.o;exact⟨(q1.of_heap (w':=w3) fun k hs bG=>hk k (q7 k (.inl hs)) bG).dr,(aL.o.of_heap (w':=w3) fun k hs=>hk k (aL.o.lt k hs).1 (aL.o.lt k hs).2).rst⟩
  have c0:=aB.o.1.cell 0;have aT:=aB.o.1.cell 1;have aS:=aB.o.1.cell 2;have aW:=aB.o.1.cell 3;have aY:=aB.o.1.cell 7;simp at c0 aT aS aW aY;clear D3 aD aZ aL aN aH
  cases hy:(y==0)with
  | true =>
   clear hy aY;go_wp2_with fail
   refine(zbo _ _ _ _ m.xs m.ys m.is m.bs w3 aO.o.1 aC.o.1.big.d).mono ?_;rintro e w4 ⟨u,v,iv,bv,rfl,O4,B4⟩;obtain⟨xs,ys,is,bs,aP,aR,aU,aV⟩:∃xs ys is bs,m.xs=xs/\m.ys=ys/\m.is=is/\m.bs=bs:=⟨_,_,_,_,rfl,rfl,rfl,rfl⟩
   have aK:Hid (DkR xs ys is bs):=by
    obtain⟨hs,-⟩:=aC.o;subst aP aR aU aV;exact⟨hs.x,hs.y,hs.i,hs.ii,hs.b,hs.bb⟩
   rw[aP,aR,aU,aV]at O4;have aG:=hJ (O4.mono (S':=fun k=>w.1.size<k) fun k hk=>by have:=aB.o.2.2.2;omega);have aX:=hJ (aB.o.2.1.below hcw B4);have aQ:=hJ (aB.o.2.2.1.over B4);clear O4 B4 aB aO aC aP aR aU aV c0 aT aS aW;obtain⟨a1,c1,a2,c2,a3,c3,a4,c4,rfl,rfl,rfl,rfl⟩:=aG.o.dr.form;have k0:=aQ.o;have r0:=k0.cell 0;have r1:=k0.cell 1;have r2:=k0.cell 2;have r3:=k0.cell 3;obtain⟨f0,f1,f2,f3⟩:=k0.f4;have hl:=k0.lt;simp only[Xd.zD]at r0 r1 r2 r3;simp at r0 r1 r2 r3;clear k0;go_wp2;refine bY (v:=.agg #[.slice a1 xs.length c1,.slice a2 ys.length c2,.slice a3 is.length c3,.slice a4 bs.length c4]) sR4 rfl ⟨_,_,_,_,xs,ys,is,bs,rfl,?_,aK.o,?_⟩
   ·exact((aG.o).of_heap fun k hk _=>by rw[hO_ _ ⟨w.1.size,3,none⟩ k _ oB,hO_ _ ⟨w.1.size,2,none⟩ k _ oB,hO_ _ ⟨w.1.size,1,none⟩ k _ oB,hO_ _ ⟨w.1.size,0,none⟩ k _ oB]).mono fun k hk=>by omega
   exact(((aX.o.setCell hcw nR _).setCell hcw nR _).setCell hcw nR _).setCell hcw nR _
  | false =>
   clear hy c0 aT aS aW;go_wp2_with fail
   refine(zlg _ ts w3 aO.o.2 (by rw[aC.o.2.n];decide) (fun j hj=>by have:=aC.o.2.s j hj;omega)).mono ?_;rintro e w4 ⟨r,u,v,iv,bv,xs,ys,is,bs,rfl,O4,K4,B4⟩;have aK:Hid (DkR xs ys is bs):=by
    have hs:=K4 aC.o.2.okD;exact⟨hs.x,hs.y,hs.i,hs.ii,hs.b,hs.bb⟩
   have aG:=hJ (O4.mono (S':=fun k=>w.1.size<k) fun k hk=>by have:=aB.o.2.2.2;omega);have aX:=hJ (aB.o.2.1.below hcw B4);have aQ:=hJ (aB.o.2.2.1.over B4);clear O4 B4 K4 aB aO aC aY;obtain⟨a1,c1,a2,c2,a3,c3,a4,c4,rfl,rfl,rfl,rfl⟩:=aG.o.dr.form;have k0:=aQ.o;have r0:=k0.cell 0;have r1:=k0.cell 1;have r2:=k0.cell 2;have r3:=k0.cell 3;obtain⟨f0,f1,f2,f3⟩:=k0.f4;have hl:=k0.lt;simp only[Xd.zD]at r0 r1 r2 r3;simp at r0 r1 r2 r3;clear k0;go_wp2;refine bY (v:=.agg #[.slice a1 xs.length c1,.slice a2 ys.length c2,.slice a3 is.length c3,.slice a4 bs.length c4]) (by simp[results,go_sem,r0,r1,r2,r3,hl]) rfl ⟨_,_,_,_,xs,ys,is,bs,rfl,?_,aK.o,?_⟩
   ·refine DO.alloc ?_ _;exact((aG.o).of_heap fun k hk _=>by rw[hO_ _ ⟨w.1.size,3,none⟩ k _ oB,hO_ _ ⟨w.1.size,2,none⟩ k _ oB,hO_ _ ⟨w.1.size,1,none⟩ k _ oB,hO_ _ ⟨w.1.size,0,none⟩ k _ oB]).mono fun k hk=>by omega
   refine Drew.alloc ?_ hcw _;exact(((aX.o.setCell hcw nR _).setCell hcw nR _).setCell hcw nR _).setCell hcw nR _
theorem dkR_big{xs ys:List Bool}{is:List Ino}{bs:List Blk}(h:DkR xs ys is bs):Big 1048576 xs ys is bs :=
 ⟨by rw[h.x];decide,by rw[h.y];decide,by rw[h.i];decide,fun j hj=>by rw[(h.ii _ (gM_ hj)).n];decide,by rw[h.b];decide,fun j hj=>zgx (h.bb _ (gM_ hj)).toKOk0⟩
theorem r3_put{α:Type}{K:Kd α}{w w2:Wd}{S:Nat->Prop}{v:Va}{ts:List V3}{xs:List α}(h:GO K w S v ts xs){g n cap:Nat}(hv:v=.slice (aA g 0) n cap)(j:Nat)(hj:j<xs.length)(t':V3)(x':α)
  (hh:∀k,S k->k≠g->k<w.1.size->w2.1[k]?=w.1[k]?) (hg:w2.1[g]?=(set3 w g j t').heap[g]?) (hR:K.R w2 t' x'):R3 K w2 v (xs.set j x'):=by
 obtain⟨a,c,e,hc,-⟩:=h.row.form;have hl:=h.len;have row:=h.row;rw[hv]at e;simp only[vJ]at e;obtain⟨rfl,rfl,rfl⟩:=e;subst hv;have r2:TOwns (set3 w g j t') K.T (sL (aA g 0) ts cap) (ts.set j t'):=row.set j oM t'.1 t'.2.1 t'.2.2;have r3:TOwns w2 K.T (sL (aA g 0) ts cap) (ts.set j t'):=r2.of_heap fun k hk=>by
  have:g=k:=Option.some.inj hk;subst this;exact hg
 refine⟨some ⟨g,0,none⟩,cap,by rw[lS,hl],by rw[lS];omega,fun i hi=>?_⟩;rw[lS]at hi;obtain⟨g',c',e1,c0,c1,c2,_,aB,_⟩:=r3.at i (by rw[lS];omega);simp only[vJ,oJ,aJ,and_true]at e1;obtain⟨rfl,-,rfl⟩:=e1;refine⟨g,0,(ts.set j t')[i]'(by rw[lS];omega),rfl,aB,by rw[zA_];exact c0,by rw[zA_];exact c1,by rw[zA_];exact c2,?_⟩;by_cases hji:j=i
 ·subst hji;simp only[gS_];exact hR
 simp only[gN hji];exact K.rd (K.heap (h.inn i oM hi) fun k hk=>hh k (h.si i oM k hk) (fun e=>h.out i oM k hk (by rw[e];rfl)) (K.lt (h.inn i oM hi) k hk))
variable {w w2 : World} {S : Nat -> Prop} {u v iv bv : Value} {xs ys : List Bool} {is : List Ino} {bs : List Blk}
theorem dr_putI(h:DO w S u v iv bv xs ys is bs){g n cap:Nat}(hv:iv=.slice (aA g 0) n cap)(j:Nat)(hj:j<is.length)(t':V3)(x':Ino)
  (hh:∀k,S k->k≠g->k<w.1.size->w2.1[k]?=w.1[k]?) (hg:w2.1[g]?=(set3 w g j t').heap[g]?) (hR:KI.R w2 t' x'):DR w2 u v iv bv xs ys (is.set j x') bs:=by
 obtain⟨T1,T2,T3,ti,tb,z1,z2,z3,z4,z5,z6,z7⟩:=h;have gT:T2 g:=z3.so g vR;exact⟨(z1.a.of_heap fun k hk=>hh k (z7 k (.inl (z2 k (.inl hk)))) (fun e=>(z5 k (z2 k (.inl hk))).1 (e ▸ gT)) (z1.a.lt k hk).2).rfl,
  (z1.b.of_heap fun k hk=>hh k (z7 k (.inl (z2 k (.inr hk)))) (fun e=>(z5 k (z2 k (.inr hk))).1 (e ▸ gT)) (z1.b.lt k hk).2).rfl,
  r3_put z3 hv j hj t' x' (fun k hk hn hl=>hh k (z7 k (.inr (.inl hk))) hn hl) hg hR,
  (z4.of_heap fun k hk hl=>hh k (z7 k (.inr (.inr hk))) (fun e=>z6 g gT (e ▸ hk)) hl).r3⟩
theorem dr_putB(h:DO w S u v iv bv xs ys is bs){g n cap:Nat}(hv:bv=.slice (aA g 0) n cap)(j:Nat)(hj:j<bs.length)(t':V3)(x':Blk)
  (hh:∀k,S k->k≠g->k<w.1.size->w2.1[k]?=w.1[k]?) (hg:w2.1[g]?=(set3 w g j t').heap[g]?) (hR:KB.R w2 t' x'):DR w2 u v iv bv xs ys is (bs.set j x'):=by
 obtain⟨T1,T2,T3,ti,tb,z1,z2,z3,z4,z5,z6,z7⟩:=h;have gT:T3 g:=z4.so g vR;exact⟨(z1.a.of_heap fun k hk=>hh k (z7 k (.inl (z2 k (.inl hk)))) (fun e=>(z5 k (z2 k (.inl hk))).2 (e ▸ gT)) (z1.a.lt k hk).2).rfl,
  (z1.b.of_heap fun k hk=>hh k (z7 k (.inl (z2 k (.inr hk)))) (fun e=>(z5 k (z2 k (.inr hk))).2 (e ▸ gT)) (z1.b.lt k hk).2).rfl,
  (z3.of_heap fun k hk hl=>hh k (z7 k (.inr (.inl hk))) (fun e=>z6 k hk (e ▸ gT)) hl).r3,
  r3_put z4 hv j hj t' x' (fun k hk hn hl=>hh k (z7 k (.inr (.inr hk))) hn hl) hg hR⟩
structure Dx(w0 w w':Wd)(c:Nat)(a:OA)(len cap:Nat)(bx:Nat)(u v iv bv:Va)(xs ys:List Bool)(is:List Ino)(bs:List Blk):Prop where
 res:AtC w' w.1.size 30 #[nZ,nZ,nZ,nZ]
 x:AtC w' bx 30 #[u,v,iv,bv]
 o:DO w' (fun k=>w.1.size+1<=k/\k<bx) u v iv bv xs ys is bs
 dr:Drew w0 w w' c a len cap
 hx:w.1.size<bx
 hc:c<w.1.size
namespace Dx
variable {w0 w w' : World} {c len cap bx : Nat} {a : Option Addr} {u v iv bv : Value} {xs ys : List Bool} {is : List Ino} {bs : List Blk}
theorem drews(h:Dx w0 w w' c a len cap bx u v iv bv xs ys is bs){w2:World}(hd:Drew w0 w' w2 c a len cap):Dx w0 w w2 c a len cap bx u v iv bv xs ys is bs:=by
 have h1:=h.hc;have h2:=h.hx;exact⟨h.res.grown hd.2 (by intro e;cases e;omega),h.x.grown hd.2 (by intro e;cases e;omega),h.o.of_heap fun k hk hl=>hd.2.block k hl (by intro e;cases e;omega),h.dr.trans hd,h.hx,h.hc⟩
theorem drew(h:Dx w0 w w' c a len cap bx u v iv bv xs ys is bs):Dx w0 w w'.drew c a len cap bx u v iv bv xs ys is bs:=⟨h.res,h.x,h.o.of_heap fun _ _ _=>rfl,h.dr.drew,h.hx,h.hc⟩
theorem cells(h:Dx w0 w w' c a len cap bx u v iv bv xs ys is bs):w'.cell? ⟨bx,0,none⟩=some u/\w'.cell? ⟨bx,1,none⟩=some v/\w'.cell? ⟨bx,2,none⟩=some iv/\w'.cell? ⟨bx,3,none⟩=some bv/\w'.frozen? ⟨bx,0,none⟩=false/\w'.frozen? ⟨bx,1,none⟩=false/\w'.frozen? ⟨bx,2,none⟩=false/\w'.frozen? ⟨bx,3,none⟩=false/\bx<w'.1.size:=⟨h.x.cell 0,h.x.cell 1,h.x.cell 2,h.x.cell 3,h.x.frozen 0,h.x.frozen 1,h.x.frozen 2,h.x.frozen 3,h.x.lt⟩
end Dx
def DRn(B:Nat)(w:World)(u v iv bv:Value)(xs ys:List Bool)(is:List Ino)(bs:List Blk):Prop:=∀w2:World,(∀k,B<=k->k<w.1.size->w2.1[k]?=w.1[k]?)->w.1.size<=w2.1.size->DR w2 u v iv bv xs ys is bs
theorem res30{w:World}{b:Nat}(h:AtC w b 30 #[.slice none 0 0,.slice none 0 0,.slice none 0 0,.slice none 0 0]):w.cell? ⟨b,0,none⟩=some (.slice none 0 0)/\w.cell? ⟨b,1,none⟩=some (.slice none 0 0)/\w.cell? ⟨b,2,none⟩=some (.slice none 0 0)/\w.cell? ⟨b,3,none⟩=some (.slice none 0 0)/\w.frozen? ⟨b,0,none⟩=false/\w.frozen? ⟨b,1,none⟩=false/\w.frozen? ⟨b,2,none⟩=false/\w.frozen? ⟨b,3,none⟩=false/\b<w.1.size:=⟨h.cell 0,h.cell 1,h.cell 2,h.cell 3,h.frozen 0,h.frozen 1,h.frozen 2,h.frozen 3,h.lt⟩
def set4(w:World)(b:Nat)(p q r s:Value):World:=(((w.setCell ⟨b,0,none⟩ p).setCell ⟨b,1,none⟩ q).setCell ⟨b,2,none⟩ r).setCell ⟨b,3,none⟩ s
theorem zbg(w:World)(b:Nat)(p q r s:Value)(k:Nat)(hk:k≠b):(set4 w b p q r s).heap[k]?=w.1[k]?:=by
 unfold set4;rw[heap_setCell_other _ ⟨b,3,none⟩ k _ hk,heap_setCell_other _ ⟨b,2,none⟩ k _ hk,heap_setCell_other _ ⟨b,1,none⟩ k _ hk,heap_setCell_other _ ⟨b,0,none⟩ k _ hk]
theorem zc2{w0 w w':World}{c len cap:Nat}{a:Option Addr}(h:Drew w0 w w' c a len cap)(hc:c<w.1.size){b:Nat}(hb:w.1.size<=b)(p q r s:Value):Drew w0 w (set4 w' b p q r s) c a len cap :=
 (((h.setCell hc hb p).setCell hc hb q).setCell hc hb r).setCell hc hb s
theorem zj6{B:Nat}{w w2:World}{v:Value}{xs:List Bool}(h:RFl w v xs)(hn:Nw B v)(hh:∀k,B<=k->k<w.1.size->w2.1[k]?=w.1[k]?)(hs:w.1.size<=w2.1.size):RFl w2 v xs:=by
 obtain⟨a,c,rfl,hc⟩:=h;refine⟨a,c,rfl,fun i hi=>?_⟩;obtain⟨g,o,rfl,hg,hk⟩:=hc i hi;refine⟨g,o,rfl,Nat.lt_of_lt_of_le hg hs,?_⟩;unfold World.cell?;rw[hh g (hn g o _ c rfl) hg];exact hk
theorem PtN.heap{B:Nat}{w w2:World}{v:Value}{ps:List Int}(h:PtN B w v ps)(hh:∀k,B<=k->k<w.1.size->w2.1[k]?=w.1[k]?)(hs:w.1.size<=w2.1.size):PtN B w2 v ps:=by
 obtain⟨g,o,c,rfl,h1,h2,h3⟩:=h;refine⟨g,o,c,rfl,h1,Nat.lt_of_lt_of_le h2 hs,fun j hj=>?_⟩;unfold World.cell?;rw[hh g h1 h2];exact h3 j hj
theorem r3_tail{α:Type}{K:Kd α}{w:World}{g n c:Nat}{xs:List α}(h:R3 K w (.slice (some ⟨g,0,none⟩) n c) xs)(h0:0<xs.length):R3 K w (.slice (some ⟨g,3,none⟩) (n-1) (c-1)) xs.tail:=by
 obtain⟨a,k,e,hk,hc⟩:=h;simp only[Value.slice.injEq]at e;obtain⟨rfl,rfl,rfl⟩:=e;refine⟨some ⟨g,3,none⟩,c-1,by rw[List.length_tail],by rw[List.length_tail];omega,fun j hj=>?_⟩;rw[List.length_tail]at hj;obtain⟨g',o',t,e,hg,c0,c1,c2,r⟩:=hc (j+1) oM;simp only[Option.some.injEq,Addr.mk.injEq,and_true]at e;obtain⟨rfl,rfl⟩:=e;refine⟨g,3,t,rfl,hg,?_,?_,?_,by simpa using r⟩
 ·rw[show 3+j*3=0+(j+1)*3 by omega];exact c0
 ·rw[show 3+j*3+1=0+(j+1)*3+1 by omega];exact c1
 rw[show 3+j*3+2=0+(j+1)*3+2 by omega];exact c2
theorem Dx.ino{w0 w w':World}{c len cap bx:Nat}{a:Option Addr}{u v iv bv:Value}{xs ys:List Bool}{is:List Ino}{bs:List Blk}(h:Dx w0 w w' c a len cap bx u v iv bv xs ys is bs){g n k:Nat}(hv:iv=.slice (some ⟨g,0,none⟩) n k)(j:Nat)(hj:j<is.length):
  ∃p q r,w'.cell? ⟨g,j*3,none⟩=some p/\w'.cell? ⟨g,j*3+1,none⟩=some q/\w'.cell? ⟨g,j*3+2,none⟩=some r/\w'.frozen? ⟨g,j*3,none⟩=false/\w'.frozen? ⟨g,j*3+1,none⟩=false/\w'.frozen? ⟨g,j*3+2,none⟩=false/\w.1.size<g/\g<bx:=by
 obtain⟨T1,T2,T3,ti,tb,z1,z2,z3,z4,z5,z6,z7⟩:=h.o;have gT:T2 g:=z3.so g vR;have gg:=z7 g (.inr (.inl gT));obtain⟨g',c',e,c0,c1,c2,f,-,-⟩:=z3.row.at j (by rw[z3.len];exact hj);rw[hv]at e;simp only[Value.slice.injEq,Option.some.injEq,Addr.mk.injEq,and_true]at e;obtain⟨rfl,-,-⟩:=e;exact⟨_,_,_,c0,c1,c2,f _,f _,f _,gg.1,gg.2⟩
theorem Dx.blk{w0 w w':World}{c len cap bx:Nat}{a:Option Addr}{u v iv bv:Value}{xs ys:List Bool}{is:List Ino}{bs:List Blk}(h:Dx w0 w w' c a len cap bx u v iv bv xs ys is bs){g n k:Nat}(hv:bv=.slice (some ⟨g,0,none⟩) n k)(j:Nat)(hj:j<bs.length):
  ∃p q r,w'.cell? ⟨g,j*3,none⟩=some p/\w'.cell? ⟨g,j*3+1,none⟩=some q/\w'.cell? ⟨g,j*3+2,none⟩=some r/\w'.frozen? ⟨g,j*3,none⟩=false/\w'.frozen? ⟨g,j*3+1,none⟩=false/\w'.frozen? ⟨g,j*3+2,none⟩=false/\w.1.size<g/\g<bx:=by
 obtain⟨T1,T2,T3,ti,tb,z1,z2,z3,z4,z5,z6,z7⟩:=h.o;have gT:T3 g:=z4.so g vR;have gg:=z7 g (.inr (.inr gT));obtain⟨g',c',e,c0,c1,c2,f,-,-⟩:=z4.row.at j (by rw[z4.len];exact hj);rw[hv]at e;simp only[Value.slice.injEq,Option.some.injEq,Addr.mk.injEq,and_true]at e;obtain⟨rfl,-,-⟩:=e;exact⟨_,_,_,c0,c1,c2,f _,f _,f _,gg.1,gg.2⟩
theorem Dx.put{w0 w w':World}{c len cap bx:Nat}{a:Option Addr}{u v iv bv:Value}{xs ys:List Bool}{is:List Ino}{bs:List Blk}(h:Dx w0 w w' c a len cap bx u v iv bv xs ys is bs){g:Nat}(h1:w.1.size<g)(h2:g<bx)(j:Nat)(t:V3):
  AtC (set3 w' g j t) w.1.size 30 #[.slice none 0 0,.slice none 0 0,.slice none 0 0,.slice none 0 0]/\AtC (set3 w' g j t) bx 30 #[u,v,iv,bv]/\Drew w0 w (set3 w' g j t) c a len cap:=by
 unfold set3;exact⟨((h.res.other oM _).other oM _).other oM _,((h.x.other oM _).other oM _).other oM _,((h.dr.setCell h.hc oM _).setCell h.hc oM _).setCell h.hc oM _⟩
theorem zn2(w0 w:World)(c:Nat)(a:Option Addr)(len cap:Nat)(hcode:za0 w0 a len)(hlen:len<=1048576)(hcur:Cur 103 w0 w c a len cap)(hcw:c<w.1.size):
  Calls Tryz.prog 65 #[.pointer (some ⟨c,0,none⟩)] w fun e w'=>∃u v iv bv xs ys is bs,e=.returned (.agg #[u,v,iv,bv])/\DRn w.1.size w' u v iv bv xs ys is bs/\Big 1048576 xs ys is bs/\Drew w0 w w' c a len cap:=by
 have HC:=hJ hcur;have HO:=hJ hcode;clear hcur hcode;obtain⟨W0,bG⟩:∃W0,w.alloc (.cells #[.slice none 0 0,.slice none 0 0,.slice none 0 0,.slice none 0 0] 30)=W0:=⟨_,rfl⟩
 have aS:Hid (AtC W0 w.1.size 30 #[.slice none 0 0,.slice none 0 0,.slice none 0 0,.slice none 0 0]/\Drew w0 w W0 c a len cap/\c<W0.1.size/\w.1.size<W0.1.size):=by
  rw[←bG];exact⟨AtC.new w 30 _,(Drew.refl HC.o).alloc hcw _,by simp;omega,by simp⟩
 go_enter Tryz.func65,Tryz.ntmps65
 go_wp2_with fail
 clear bG;refine(zn1 w0 W0 c a len cap HO.o hlen aS.o.2.1.cur aS.o.2.2.1).mono ?_;rintro e w2 ⟨u,v,iv,bv,xs,ys,is,bs,rfl,O2,K2,D2⟩;have HK:=hJ (dkR_big K2);have HL:=hJ (And.intro K2.x (And.intro K2.y (And.intro K2.i K2.b)));have aZ:=hJ (And.intro O2.dr (And.intro (aS.o.1.grown D2.2 (by intro e;cases e;have:=aS.o.2.2;omega)) (And.intro (aS.o.2.1.trans D2) (show w.1.size<w2.1.size from Nat.lt_of_lt_of_le aS.o.2.2.2 D2.2.size))));clear O2 K2 D2 aS HC;go_wp2_with fail
 refine(zbo u v iv bv xs ys is bs w2 aZ.o.1 HK.o).mono ?_;rintro e w3 ⟨u',v',i',b',rfl,O3,B3⟩;obtain⟨a1,c1,a2,c2,a3,c3,a4,c4,rfl,rfl,rfl,rfl⟩:=O3.dr.form;have HD:Hid (Dx w0 w (w3.alloc (.cells #[.slice a1 xs.length c1,.slice a2 ys.length c2,.slice a3 is.length c3,.slice a4 bs.length c4] 30)) c a len cap w3.1.size (.slice a1 xs.length c1) (.slice a2 ys.length c2) (.slice a3 is.length c3) (.slice a4 bs.length c4) xs ys is bs):=by
  obtain⟨-,h2,h3,h4⟩:=aZ.o;have hs:=B3.size;exact⟨(h2.over B3).alloc _,AtC.new w3 30 _,(O3.bound.mono fun k hk=>⟨by have:=hk.1;omega,hk.2⟩).alloc _,(h3.below hcw B3).alloc hcw _,by omega,hcw⟩
 clear O3 B3 aZ;obtain⟨n1,n2,n3,n4⟩:=HL.o;rw[n1,n2,n3,n4]at HD ⊢;clear n1 n2 n3 n4;go_wp2_with fail
 refine(zah w0 _ c a len cap 12 HO.o hlen HD.o.dr.cur dC dC).mono ?_;rintro e w4 ⟨x,hx,rfl,D4⟩;have aB:=hJ (HD.o.drews D4);clear D4 HD;have bI:x=0\/x=1\/x=2\/x=3\/4<=x:=by omega
 rcases bI with rfl|rfl|rfl|rfl|h4
 ·go_wp2_with fail
  refine(zml w0 w4 c a len cap HO.o hlen aB.o.dr.cur (by have h1:=aB.o.hc;have h2:=aB.o.dr.2.size;omega)).mono ?_;rintro e w5 ⟨u5,v5,aG,aH,rfl,A5,B5,l5,l6,D5,N5,N6⟩;have aV:=hJ (aB.o.drews D5);obtain⟨b1,e1,rfl⟩:=A5.form;obtain⟨b2,e2,rfl⟩:=B5.form;have aY:w4.1.size<=w5.1.size:=D5.2.size;have aW:=hJ (And.intro A5 (And.intro B5 (And.intro N5 N6)));have bC:=hJ (And.intro l5 l6);have bE:Hid (w3.1.size<w4.1.size):=aB.o.x.lt;clear A5 B5 D5 N5 N6 aB l5 l6;obtain⟨p0,p1,p2,p3,f0,f1,f2,f3,m9⟩:=aV.o.cells;have aF:Hid (AtC ((w5.setCell ⟨w3.1.size,0,none⟩ (.slice b1 aG.length e1)).setCell ⟨w3.1.size,1,none⟩ (.slice b2 aH.length e2)) w.1.size 30 #[.slice none 0 0,.slice none 0 0,.slice none 0 0,.slice none 0 0]/\AtC ((w5.setCell ⟨w3.1.size,0,none⟩ (.slice b1 aG.length e1)).setCell ⟨w3.1.size,1,none⟩ (.slice b2 aH.length e2)) w3.1.size 30 #[.slice b1 aG.length e1,.slice b2 aH.length e2,.slice a3 8 c3,.slice a4 16 c4]/\Drew w0 w ((w5.setCell ⟨w3.1.size,0,none⟩ (.slice b1 aG.length e1)).setCell ⟨w3.1.size,1,none⟩ (.slice b2 aH.length e2)) c a len cap):=by
   have h:=aV.o;have h1:=h.hx;exact⟨(h.res.other oM _).other oM _,(h.x.set 0 _).set 1 _,(h.dr.setCell h.hc oM _).setCell h.hc oM _⟩
  have HE:Hid (∀p q r s,DRn w.1.size (set4 ((w5.setCell ⟨w3.1.size,0,none⟩ (.slice b1 aG.length e1)).setCell ⟨w3.1.size,1,none⟩ (.slice b2 aH.length e2)) w.1.size p q r s) (.slice b1 aG.length e1) (.slice b2 aH.length e2) (.slice a3 8 c3) (.slice a4 16 c4) aG aH is bs):=fun p q r s w2 hw aT=>by
   have h:=aV.o;have h1:=h.hx;have h2:=bE.o;have aK:(set4 ((w5.setCell ⟨w3.1.size,0,none⟩ (.slice b1 aG.length e1)).setCell ⟨w3.1.size,1,none⟩ (.slice b2 aH.length e2)) w.1.size p q r s).heap.size=w5.1.size:=by simp[set4]
   have hh:∀k,w.1.size<k->k≠w3.1.size->k<w5.1.size->w2.1[k]?=w5.1[k]?:=fun k k1 k2 k3=>by
    have bH:k≠w.1.size:=by omega
    refine(hw k oM oM).trans ?_;rw[zbg _ _ _ _ _ _ k bH,heap_setCell_other _ ⟨w3.1.size,1,none⟩ k _ k2,heap_setCell_other _ ⟨w3.1.size,0,none⟩ k _ k2]
   have hz:w5.1.size<=w2.1.size:=by omega
   have od:=(h.o.of_heap (w':=w2) fun k hk hl=>hh k oM oM hl).dr;exact⟨zj6 aW.o.1 aW.o.2.2.1 (fun k hk hl=>hh k oM oM hl) hz,zj6 aW.o.2.1 aW.o.2.2.2 (fun k hk hl=>hh k oM oM hl) hz,od.i,od.k⟩
  have aR:Hid (Big 1048576 aG aH is bs):=⟨Nat.le_trans bC.o.1 dC,Nat.le_trans bC.o.2 dC,HK.o.i,HK.o.p,HK.o.b,HK.o.s⟩
  have aD:=aV.o.hc;clear aV aW bE aY;obtain⟨q0,q1,q2,q3,z0,z1,z2,z3,m0⟩:=res30 aF.o.1;have s0:=aF.o.2.1.cell 0;have s1:=aF.o.2.1.cell 1;have s2:=aF.o.2.1.cell 2;have s3:=aF.o.2.1.cell 3;have aN:=hJ (fun p q r s=>zc2 aF.o.2.2 aD nR p q r s);clear aF;go_wp2;exact bodyPost_ret (v:=.agg #[.slice b1 aG.length e1,.slice b2 aH.length e2,.slice a3 8 c3,.slice a4 16 c4]) (by simp[results,go_sem,q0,q1,q2,q3]) rfl ⟨_,_,_,_,aG,aH,is,bs,rfl,HE.o _ _ _ _,aR.o,aN.o _ _ _ _⟩
 ·obtain⟨g1,d1,g3,d3,g4,d4,e1,e3,e4⟩:=aB.o.o.forms (by rw[HL.o.1];decide) (by rw[HL.o.2.2.1];decide) (by rw[HL.o.2.2.2];decide);simp only[Value.slice.injEq]at e3;obtain⟨rfl,-,rfl⟩:=e3;clear e1 e4;go_upto_region 6 with fail
  go_region_held3 (fun w'=>w'.cell? ⟨w3.1.size,2,none⟩=some (.slice (some ⟨g3,0,none⟩) 8 c3)) (first| exact aB.o.drew.cells.2.2.1|exact(aB.o.drew.drews D5).cells.2.2.1|exact((aB.o.drew.drews D5).drews D6).cells.2.2.1|exact(((aB.o.drew.drews D5).drews D6).put i7 i8 z5 (.int .i64 k6,.int .i64 l6,.slice pa aO.length pc)).2.1.cell 2) (first| (go_at_call 36;refine(zah w0 _ c a len cap 8 HO.o hlen aB.o.drew.dr.cur dC dC).mono ?_;rintro e w5 ⟨z5,aK,rfl,D5⟩;have j0:(0:Int)<=(z5:Int):=Int.natCast_nonneg z5;have j1:(z5:Int)<8:=Int.ofNat_lt.2 aK)| (go_at_call 100;refine(inoX_any w0 _ c a len cap HO.o hlen (aB.o.drew.drews D5).dr.cur (by have h1:=aB.o.hc;have h2:=(aB.o.drew.drews D5).dr.2.size;omega)).mono ?_;rintro e w6 ⟨k6,l6,v6,aO,rfl,P6,L6,D6⟩;obtain⟨y0,y1,y2,i1,i2,i3,i4,i5,i6,i7,i8⟩:=((aB.o.drew.drews D5).drews D6).ino rfl z5 (by rw[HL.o.2.2.1];exact aK);obtain⟨pa,pc,rfl⟩:=P6.rints.form))
  have aL:=hJ ((aB.o.drew.drews D5).drews D6);have aU:Hid (w3.1.size<w5.1.size):=(aB.o.drew.drews D5).x.lt;have aC:=hJ (And.intro P6 (And.intro L6 (And.intro i7 i8)));have aX:=hJ aK;clear D5 D6 P6 L6 aB j0 j1 i1 i2 i3 i4 i5 i6 i7 i8 aK;have HQ:=hJ (aL.o.put aC.o.2.2.1 aC.o.2.2.2 z5 (.int .i64 k6,.int .i64 l6,.slice pa aO.length pc));have HE:Hid (∀p q r s,DRn w.1.size (set4 (set3 w6 g3 z5 (.int .i64 k6,.int .i64 l6,.slice pa aO.length pc)) w.1.size p q r s) (.slice a1 16 c1) (.slice a2 8 c2) (.slice (some ⟨g3,0,none⟩) 8 c3) (.slice a4 16 c4) xs ys (is.set z5 (k6,l6,aO)) bs):=fun p q r s w2 hw aT=>by
   have h:=aL.o;have h1:=h.hx;have h2:=aU.o;have h3:=aC.o.2.2;refine dr_putI h.o rfl z5 (by rw[HL.o.2.2.1];exact aX.o) (.int .i64 k6,.int .i64 l6,.slice pa aO.length pc) ((k6,l6,aO)) (fun k hk hn hl=>?_) ?_ ?_
   ·refine(hw k oM (by simpa[set4,set3]using hl)).trans ?_;rw[zbg _ _ _ _ _ _ k oM,zaz _ _ _ _ k hn]
   ·exact(hw _ oM (by have:=h.x.lt;simp[set4,set3];omega)).trans (zbg _ _ _ _ _ _ _ oM)
   exact⟨rfl,rfl,(PtN.heap aC.o.1 (fun k hk hl=>(hw k oM (by simpa[set4,set3]using hl)).trans (by rw[zbg _ _ _ _ _ _ k oM,zaz _ _ _ _ k oM])) (by simpa[set4,set3]using aT)).rints⟩
  have aR:Hid (Big 1048576 xs ys (is.set z5 (k6,l6,aO)) bs):=⟨HK.o.x,HK.o.y,by rw[List.length_set];exact HK.o.i,fun j hj=>by
   rw[List.length_set]at hj;by_cases e:z5=j
   ·subst e;rw[List.getElem_set_self];exact Nat.le_trans aC.o.2.1 dC
   rw[List.getElem_set_ne e];exact HK.o.p j hj,HK.o.b,HK.o.s⟩
  have aD:=aL.o.hc;clear aL aU aX;obtain⟨w7,aQ⟩:∃w7,set3 w6 g3 z5 (.int .i64 k6,.int .i64 l6,.slice pa aO.length pc)=w7:=⟨_,rfl⟩
  have aM:=aQ;unfold set3 at aM;simp only at aM;rw[aM];rw[aQ]at HQ HE;clear aQ aM aC;obtain⟨q0,q1,q2,q3,z0,z1,z2,z3,m0⟩:=res30 HQ.o.1;have s0:=HQ.o.2.1.cell 0;have s1:=HQ.o.2.1.cell 1;have s2:=HQ.o.2.1.cell 2;have s3:=HQ.o.2.1.cell 3;have aN:=hJ (fun p q r s=>zc2 HQ.o.2.2 aD nR p q r s);clear HQ;go_wp2;exact bodyPost_ret (v:=.agg #[.slice a1 16 c1,.slice a2 8 c2,.slice (some ⟨g3,0,none⟩) 8 c3,.slice a4 16 c4]) (by simp[results,go_sem,q0,q1,q2,q3]) rfl ⟨_,_,_,_,xs,ys,_,_,rfl,HE.o _ _ _ _,aR.o,aN.o _ _ _ _⟩
 ·obtain⟨g1,d1,g3,d3,g4,d4,e1,e3,e4⟩:=aB.o.o.forms (by rw[HL.o.1];decide) (by rw[HL.o.2.2.1];decide) (by rw[HL.o.2.2.2];decide);simp only[Value.slice.injEq]at e4;obtain⟨rfl,-,rfl⟩:=e4;clear e1 e3;go_upto_region 8 with fail
  go_region_held3 (fun w'=>w'.cell? ⟨w3.1.size,3,none⟩=some (.slice (some ⟨g4,0,none⟩) 16 c4)) (first| exact aB.o.drew.cells.2.2.2.1|exact(aB.o.drew.drews D5).cells.2.2.2.1|exact((aB.o.drew.drews D5).drews D6).cells.2.2.2.1|exact(((aB.o.drew.drews D5).drews D6).put i7 i8 z5 (.bool d6,.slice pa aP.length pc,.string t6)).2.1.cell 3) (first| (go_at_call 36;refine(zah w0 _ c a len cap 16 HO.o hlen aB.o.drew.dr.cur dC dC).mono ?_;rintro e w5 ⟨z5,aK,rfl,D5⟩;have j0:(0:Int)<=(z5:Int):=Int.natCast_nonneg z5;have j1:(z5:Int)<16:=Int.ofNat_lt.2 aK)| (go_at_call 101;refine(blkX_any w0 _ c a len cap HO.o hlen (aB.o.drew.drews D5).dr.cur (by have h1:=aB.o.hc;have h2:=(aB.o.drew.drews D5).dr.2.size;omega)).mono ?_;rintro e w6 ⟨d6,v6,t6,aP,rfl,P6,L6,D6⟩;obtain⟨y0,y1,y2,i1,i2,i3,i4,i5,i6,i7,i8⟩:=((aB.o.drew.drews D5).drews D6).blk rfl z5 (by rw[HL.o.2.2.2];exact aK);obtain⟨pa,pc,rfl,-⟩:=P6.form))
  have aL:=hJ ((aB.o.drew.drews D5).drews D6);have aU:Hid (w3.1.size<w5.1.size):=(aB.o.drew.drews D5).x.lt;have aC:=hJ (And.intro P6 (And.intro L6 (And.intro i7 i8)));have aX:=hJ aK;clear D5 D6 P6 L6 aB j0 j1 i1 i2 i3 i4 i5 i6 i7 i8 aK;have HQ:=hJ (aL.o.put aC.o.2.2.1 aC.o.2.2.2 z5 (.bool d6,.slice pa aP.length pc,.string t6));have HE:Hid (∀p q r s,DRn w.1.size (set4 (set3 w6 g4 z5 (.bool d6,.slice pa aP.length pc,.string t6)) w.1.size p q r s) (.slice a1 16 c1) (.slice a2 8 c2) (.slice a3 8 c3) (.slice (some ⟨g4,0,none⟩) 16 c4) xs ys is (bs.set z5 (d6,aP,t6))):=fun p q r s w2 hw aT=>by
   have h:=aL.o;have h1:=h.hx;have h2:=aU.o;have h3:=aC.o.2.2;refine dr_putB h.o rfl z5 (by rw[HL.o.2.2.2];exact aX.o) (.bool d6,.slice pa aP.length pc,.string t6) ((d6,aP,t6)) (fun k hk hn hl=>?_) ?_ ?_
   ·refine(hw k oM (by simpa[set4,set3]using hl)).trans ?_;rw[zbg _ _ _ _ _ _ k oM,zaz _ _ _ _ k hn]
   ·exact(hw _ oM (by have:=h.x.lt;simp[set4,set3];omega)).trans (zbg _ _ _ _ _ _ _ oM)
   exact⟨rfl,(aC.o.1.of_heap fun k hk=>by have h9:=aC.o.1.lt k hk;exact(hw k oM (by simpa[set4,set3]using h9.2)).trans (by rw[zbg _ _ _ _ _ _ k oM,zaz _ _ _ _ k oM])).rsl,rfl⟩
  have aR:Hid (Big 1048576 xs ys is (bs.set z5 (d6,aP,t6))):=⟨HK.o.x,HK.o.y,HK.o.i,HK.o.p,by rw[List.length_set];exact HK.o.b,fun j hj=>by
   rw[List.length_set]at hj;by_cases e:z5=j
   ·subst e;rw[List.getElem_set_self];exact⟨by rcases aC.o.2.1.1 with e|e<;>simp[e],fun i hi=>Nat.le_trans (aC.o.2.1.2.1 _ (List.getElem_mem hi)) dC,Nat.le_trans aC.o.2.1.2.2 dC⟩
   rw[List.getElem_set_ne e];exact HK.o.s j hj⟩
  have aD:=aL.o.hc;clear aL aU aX;obtain⟨w7,aQ⟩:∃w7,set3 w6 g4 z5 (.bool d6,.slice pa aP.length pc,.string t6)=w7:=⟨_,rfl⟩
  have aM:=aQ;unfold set3 at aM;simp only at aM;rw[aM];rw[aQ]at HQ HE;clear aQ aM aC;obtain⟨q0,q1,q2,q3,z0,z1,z2,z3,m0⟩:=res30 HQ.o.1;have s0:=HQ.o.2.1.cell 0;have s1:=HQ.o.2.1.cell 1;have s2:=HQ.o.2.1.cell 2;have s3:=HQ.o.2.1.cell 3;have aN:=hJ (fun p q r s=>zc2 HQ.o.2.2 aD nR p q r s);clear HQ;go_wp2;exact bodyPost_ret (v:=.agg #[.slice a1 16 c1,.slice a2 8 c2,.slice a3 8 c3,.slice (some ⟨g4,0,none⟩) 16 c4]) (by simp[results,go_sem,q0,q1,q2,q3]) rfl ⟨_,_,_,_,xs,ys,_,_,rfl,HE.o _ _ _ _,aR.o,aN.o _ _ _ _⟩
 ·have bJ:8<=c3:=by
   obtain⟨_,_,e,h⟩:=aB.o.o.dr.i.form2;simp only[Value.slice.injEq]at e;obtain⟨-,h8,rfl⟩:=e;omega
  obtain⟨g1,d1,g3,d3,g4,d4,e1,e3,e4⟩:=aB.o.o.forms (by rw[HL.o.1];decide) (by rw[HL.o.2.2.1];decide) (by rw[HL.o.2.2.2];decide);simp only[Value.slice.injEq]at e3;obtain⟨rfl,-,rfl⟩:=e3;clear e1 e4;obtain⟨p0,p1,p2,p3,f0,f1,f2,f3,m9⟩:=aB.o.cells;have aF:Hid (AtC (w4.setCell ⟨w3.1.size,2,none⟩ (.slice (some ⟨g3,3,none⟩) 7 (c3-1))) w.1.size 30 #[.slice none 0 0,.slice none 0 0,.slice none 0 0,.slice none 0 0]/\AtC (w4.setCell ⟨w3.1.size,2,none⟩ (.slice (some ⟨g3,3,none⟩) 7 (c3-1))) w3.1.size 30 #[.slice a1 16 c1,.slice a2 8 c2,.slice (some ⟨g3,3,none⟩) 7 (c3-1),.slice a4 16 c4]/\Drew w0 w (w4.setCell ⟨w3.1.size,2,none⟩ (.slice (some ⟨g3,3,none⟩) 7 (c3-1))) c a len cap):=by
   have h:=aB.o;have h1:=h.hx;exact⟨h.res.other oM _,h.x.set 2 _,h.dr.setCell h.hc oM _⟩
  have HE:Hid (∀p q r s,DRn w.1.size (set4 (w4.setCell ⟨w3.1.size,2,none⟩ (.slice (some ⟨g3,3,none⟩) 7 (c3-1))) w.1.size p q r s) (.slice a1 16 c1) (.slice a2 8 c2) (.slice (some ⟨g3,3,none⟩) 7 (c3-1)) (.slice a4 16 c4) xs ys is.tail bs):=fun p q r s w2 hw aT=>by
   have h:=aB.o;have od:=(h.o.of_heap (w':=w2) fun k hk hl=>by
    refine(hw k oM (by simpa[set4]using hl)).trans ?_;rw[zbg _ _ _ _ _ _ k oM,heap_setCell_other _ ⟨w3.1.size,2,none⟩ k _ (by have:=hk.2;show k≠w3.1.size;omega)]).dr
   exact⟨od.a,od.b,r3_tail od.i (by rw[HL.o.2.2.1];decide),od.k⟩
  have aR:Hid (Big 1048576 xs ys is.tail bs):=⟨HK.o.x,HK.o.y,by rw[List.length_tail];exact Nat.le_trans (Nat.sub_le _ _) HK.o.i,fun j hj=>by rw[List.getElem_tail];exact HK.o.p _ _,HK.o.b,HK.o.s⟩
  have aD:=aB.o.hc;clear aB;obtain⟨q0,q1,q2,q3,z0,z1,z2,z3,m0⟩:=res30 aF.o.1;have s0:=aF.o.2.1.cell 0;have s1:=aF.o.2.1.cell 1;have s2:=aF.o.2.1.cell 2;have s3:=aF.o.2.1.cell 3;have aN:=hJ (fun p q r s=>zc2 aF.o.2.2 aD nR p q r s);clear aF;go_wp2;exact bodyPost_ret (v:=.agg #[.slice a1 16 c1,.slice a2 8 c2,.slice (some ⟨g3,3,none⟩) 7 (c3-1),.slice a4 16 c4]) (by simp[results,go_sem,q0,q1,q2,q3]) rfl ⟨_,_,_,_,xs,ys,is.tail,bs,rfl,HE.o _ _ _ _,aR.o,aN.o _ _ _ _⟩
 have e0:((x:Int)==0)=false:=by simp;omega
 have e1:((x:Int)==1)=false:=by simp;omega
 have e2:((x:Int)==2)=false:=by simp;omega
 have e3:((x:Int)==3)=false:=by simp;omega
 obtain⟨p0,p1,p2,p3,f0,f1,f2,f3,m9⟩:=aB.o.cells;have HE:Hid (∀p q r s,DRn w.1.size (set4 w4 w.1.size p q r s) (.slice a1 16 c1) (.slice a2 8 c2) (.slice a3 8 c3) (.slice a4 16 c4) xs ys is bs):=fun p q r s w2 hw aT =>
  (aB.o.o.of_heap (w':=w2) fun k hk hl=>(hw k (by have:=hk.1;omega) (by simpa[set4]using hl)).trans (zbg _ _ _ _ _ _ k (by have:=hk.1;omega))).dr
 have aN:=hJ (fun p q r s=>zc2 aB.o.dr aB.o.hc nR p q r s);obtain⟨q0,q1,q2,q3,z0,z1,z2,z3,m0⟩:=res30 aB.o.res;clear aB;go_wp2;exact bodyPost_ret (v:=.agg #[.slice a1 16 c1,.slice a2 8 c2,.slice a3 8 c3,.slice a4 16 c4]) (by simp[results,go_sem,q0,q1,q2,q3]) rfl ⟨_,_,_,_,xs,ys,is,bs,rfl,HE.o _ _ _ _,HK.o,aN.o _ _ _ _⟩
structure Mx(w0 w w':Wd)(c:Nat)(a:OA)(len cap:Nat)(bx:Nat)(p1 p2 p3 p4 p5 p6:Va)(nx:Int)(m:MD):Prop where
 res:AtC w' w.1.size 33 E7
 x:AtC w' bx 33 #[p1,p2,p3,p4,p5,p6,nI nx]
 o:MO w' (fun k=>w.1.size+1<=k/\k<bx) p1 p2 p3 p4 p5 p6 m
 dr:Drew w0 w w' c a len cap
 hx:w.1.size<bx
 hc:c<w.1.size
namespace Mx
variable {w0 w w' : World} {c len cap bx : Nat} {a : Option Addr} {p1 p2 p3 p4 p5 p6 : Value} {nx : Int} {m : MD}
theorem drews(h:Mx w0 w w' c a len cap bx p1 p2 p3 p4 p5 p6 nx m){w2:World}(hd:Drew w0 w' w2 c a len cap):Mx w0 w w2 c a len cap bx p1 p2 p3 p4 p5 p6 nx m:=by
 exact cQ66
theorem drew(h:Mx w0 w w' c a len cap bx p1 p2 p3 p4 p5 p6 nx m):Mx w0 w w'.drew c a len cap bx p1 p2 p3 p4 p5 p6 nx m:=⟨h.res,h.x,h.o.of_heap fun _ _ _=>rfl,h.dr.drew,h.hx,h.hc⟩
theorem over(h:Mx w0 w w' c a len cap bx p1 p2 p3 p4 p5 p6 nx m){w2:World}(hb:Below w'.1.size w' w2):Mx w0 w w2 c a len cap bx p1 p2 p3 p4 p5 p6 nx m:=⟨h.res.over hb,h.x.over hb,h.o.below hb nR,h.dr.below h.hc hb,h.hx,h.hc⟩
end Mx
def Cs7(w:World)(b:Nat)(p1 p2 p3 p4 p5 p6 p7:Value):Prop:=w.cell? ⟨b,0,none⟩=some p1/\w.cell? ⟨b,1,none⟩=some p2/\w.cell? ⟨b,2,none⟩=some p3/\w.cell? ⟨b,3,none⟩=some p4/\w.cell? ⟨b,4,none⟩=some p5/\w.cell? ⟨b,5,none⟩=some p6/\w.cell? ⟨b,6,none⟩=some p7/\w.frozen? ⟨b,0,none⟩=false/\w.frozen? ⟨b,1,none⟩=false/\w.frozen? ⟨b,2,none⟩=false/\w.frozen? ⟨b,3,none⟩=false/\w.frozen? ⟨b,4,none⟩=false/\w.frozen? ⟨b,5,none⟩=false/\w.frozen? ⟨b,6,none⟩=false/\b<w.1.size
theorem cs7{w:World}{b:Nat}{T:TypeId}{p1 p2 p3 p4 p5 p6 p7:Value}(h:AtC w b T #[p1,p2,p3,p4,p5,p6,p7]):Cs7 w b p1 p2 p3 p4 p5 p6 p7 :=
 ⟨h.cell 0,h.cell 1,h.cell 2,h.cell 3,h.cell 4,h.cell 5,h.cell 6,h.frozen 0,h.frozen 1,h.frozen 2,h.frozen 3,h.frozen 4,h.frozen 5,h.frozen 6,h.lt⟩
def set7(w:World)(b:Nat)(p1 p2 p3 p4 p5 p6 p7:Value):World:=((((((w.setCell ⟨b,0,none⟩ p1).setCell ⟨b,1,none⟩ p2).setCell ⟨b,2,none⟩ p3).setCell ⟨b,3,none⟩ p4).setCell ⟨b,4,none⟩ p5).setCell ⟨b,5,none⟩ p6).setCell ⟨b,6,none⟩ p7
theorem zba(w:World)(b:Nat)(p1 p2 p3 p4 p5 p6 p7:Value)(k:Nat)(hk:k≠b):(set7 w b p1 p2 p3 p4 p5 p6 p7).heap[k]?=w.1[k]?:=by
 unfold set7;rw[heap_setCell_other _ ⟨b,6,none⟩ k _ hk,heap_setCell_other _ ⟨b,5,none⟩ k _ hk,heap_setCell_other _ ⟨b,4,none⟩ k _ hk,heap_setCell_other _ ⟨b,3,none⟩ k _ hk,heap_setCell_other _ ⟨b,2,none⟩ k _ hk,heap_setCell_other _ ⟨b,1,none⟩ k _ hk,heap_setCell_other _ ⟨b,0,none⟩ k _ hk]
theorem zbi(w:World)(b:Nat)(p1 p2 p3 p4 p5 p6 p7:Value):(set7 w b p1 p2 p3 p4 p5 p6 p7).heap.size=w.1.size:=by simp[set7]
theorem zbs{w0 w w':World}{c len cap:Nat}{a:Option Addr}(h:Drew w0 w w' c a len cap)(hc:c<w.1.size){b:Nat}(hb:w.1.size<=b)(p1 p2 p3 p4 p5 p6 p7:Value):Drew w0 w (set7 w' b p1 p2 p3 p4 p5 p6 p7) c a len cap :=
 ((((((h.setCell hc hb p1).setCell hc hb p2).setCell hc hb p3).setCell hc hb p4).setCell hc hb p5).setCell hc hb p6).setCell hc hb p7
def MRn(B:Nat)(w:World)(p1 p2 p3 p4 p5 p6:Value)(m:MD):Prop:=∀w2:World,(∀k,B<=k->k<w.1.size->w2.1[k]?=w.1[k]?)->w.1.size<=w2.1.size->MR w2 p1 p2 p3 p4 p5 p6 m
theorem MRn.mr{B:Nat}{w:World}{p1 p2 p3 p4 p5 p6:Value}{m:MD}(h:MRn B w p1 p2 p3 p4 p5 p6 m):MR w p1 p2 p3 p4 p5 p6 m:=h w (fun _ _ _=>rfl) nR
def IdW(ds:List Dp):Prop:=∀d∈ds,(Lit.int .i64 d.id).wf=true
def MemX(w':World)(B:Nat)(e:Ending):Prop:=∃(a1:Option Addr)(c1:Nat)(a2:Option Addr)(c2:Nat)(a3:Option Addr)(c3:Nat)(a4:Option Addr)(c4:Nat)(a5:Option Addr)(c5:Nat)(a6:Option Addr)(c6:Nat)(m:MD),e=.returned (.agg (M7 m a1 c1 a2 c2 a3 c3 a4 c4 a5 c5 a6 c6))/\MRn B w' (.slice a1 m.1.length c1) (.slice a2 m.2.length c2) (.slice a3 m.3.length c3) (.slice a4 m.4.length c4) (.slice a5 m.5.length c5) (.slice a6 m.6.length c6) m/\BigM 1048576 m/\IdW m.ds
theorem MemX.mk{w':World}{B:Nat}{p1 p2 p3 p4 p5 p6:Value}{m:MD}(h1:MRn B w' p1 p2 p3 p4 p5 p6 m)(h2:BigM 1048576 m)(h3:IdW m.ds):MemX w' B (.returned (.agg #[p1,p2,p3,p4,p5,p6,.int .i64 m.nx])):=by
 obtain⟨a1,c1,a2,c2,a3,c3,a4,c4,a5,c5,a6,c6,rfl,rfl,rfl,rfl,rfl,rfl⟩:=h1.mr.form;exact⟨a1,c1,a2,c2,a3,c3,a4,c4,a5,c5,a6,c6,m,rfl,h1,h2,h3⟩
theorem GN.fld{w:World}{S:Nat->Prop}{v:Value}{ts:List Row}{xs:List Dp}(h:GN KDep w S v ts xs){g n cap:Nat}(hv:v=.slice (some ⟨g,0,none⟩) n cap)(j:Nat)(hj:j<xs.length)(i:Nat)(hi:i<10)(x:Value)(d':Dp)(hd:∀p,(xs[j].row p).set i x=d'.row p)(hb:d'.bl=xs[j].bl):
  GN KDep (w.setCell ⟨g,j*11+i,none⟩ x) S v (ts.set j ((ts[j]'(by rw[h.len];exact hj)).set i x)) (xs.set j d'):=by
 have hl:=h.len;have aH:j<ts.length:=by omega
 have aF:v.ownBlock=some g:=by rw[hv];rfl
 have un:∀k,k≠g->(w.setCell ⟨g,j*11+i,none⟩ x).heap[k]?=w.1[k]?:=fun k hk=>heap_setCell_other w ⟨g,j*11+i,none⟩ k _ hk;have row:NOwns (w.setCell ⟨g,j*11+i,none⟩ x) 42 11 v (ts.set j (ts[j].set i x)):=by
  have r:=h.row;obtain⟨a,c,e,-⟩:=r.form;rw[hv]at e;simp only[Value.slice.injEq]at e;obtain⟨-,rfl,rfl⟩:=e;subst hv;exact NOwns.set (n:=11) r j i aH oM x
 have hp:∀(q:Nat)(hq:q<ts.length),KDep.p ((ts.set j (ts[j].set i x))[q]'(by rw[List.length_set];exact hq))=KDep.p ts[q]:=fun q hq=>by
  by_cases e:j=q
  ·subst e;rw[List.getElem_set_self];show(ts[j].set i x).getD 10 _=ts[j].getD 10 _;rw[List.getD_eq_getElem?_getD,List.getD_eq_getElem?_getD,List.getElem?_set_ne oM]
  rw[List.getElem_set_ne e]
 have aD:∀(q:Nat)(hq:q<ts.length)(k:Nat),(KDep.p ts[q]).ownBlock=some k->k≠g:=fun q hq k hk e=>h.out q hq k hk (by rw[aF,e]);refine⟨by simp[hl],row,fun q hq aC=>?_,fun a b ha aB aG k e1 e2=>?_,fun q hq k e1=>?_,h.so,fun q hq k e1=>?_⟩
 ·rw[List.length_set]at hq aC;by_cases e:j=q
  ·subst e;rw[List.getElem_set_self,List.getElem_set_self];obtain⟨p,e,ho⟩:=h.inn j hq aC;refine⟨p,by rw[e];exact hd p,?_⟩;rw[hb];refine ho.of_heap fun k hk=>un k (aD j hq k ?_);show(ts[j].getD 10 _).ownBlock=some k;rw[e];exact hk
  rw[List.getElem_set_ne e,List.getElem_set_ne e];exact KDep.heap (h.inn q hq aC) fun k hk=>un k (aD q hq k hk)
 ·rw[List.length_set]at ha aB;rw[hp a ha]at e1;rw[hp b aB]at e2;exact h.sep a b ha aB aG k e1 e2
 ·rw[List.length_set]at hq;rw[hp q hq]at e1;exact h.out q hq k e1
 rw[List.length_set]at hq;rw[hp q hq]at e1;exact h.si q hq k e1
theorem Mx.fld{w0 w w':World}{c len cap bx:Nat}{a:Option Addr}{p1 p2 p3 p4 p5:Value}{nx:Int}{m:MD}{g n k6:Nat}(h:Mx w0 w w' c a len cap bx p1 p2 p3 p4 p5 (.slice (some ⟨g,0,none⟩) n k6) nx m)(j:Nat)(hj:j<m.6.length)(i:Nat)(hi:i<10)(x:Value)(d':Dp)(hd:∀p,(m.ds[j].row p).set i x=d'.row p)(hb:d'.bl=m.ds[j].bl):
  Mx w0 w (w'.setCell ⟨g,j*11+i,none⟩ x) c a len cap bx p1 p2 p3 p4 p5 (.slice (some ⟨g,0,none⟩) n k6) nx { m with ds:=m.ds.set j d' }:=by
 obtain⟨S1,S2,S3,ts,h1,h2,h3,h4,h5,h6,h7⟩:=h.o;have gS:S3 g:=h4.so g rfl;have gg:=h7 g (.inr (.inr gS));have un:∀k,k≠g->(w'.setCell ⟨g,j*11+i,none⟩ x).heap[k]?=w'.1[k]?:=fun k hk=>heap_setCell_other w' ⟨g,j*11+i,none⟩ k _ hk;exact⟨h.res.other oM _,h.x.other oM _,⟨S1,S2,S3,_,h1.of_heap fun k hk _=>un k fun e=>(h5 k hk).2 (e ▸ gS),h2.of_heap fun k hk=>un k fun e=>h6 k (h3 k hk) (e ▸ gS),h3,GN.fld h4 rfl j hj i hi x d' hd hb,h5,h6,h7⟩,h.dr.setCell h.hc oM _,h.hx,h.hc⟩
theorem Mx.dcell{w0 w w':World}{c len cap bx:Nat}{a:Option Addr}{p1 p2 p3 p4 p5:Value}{nx:Int}{m:MD}{g n k6:Nat}(h:Mx w0 w w' c a len cap bx p1 p2 p3 p4 p5 (.slice (some ⟨g,0,none⟩) n k6) nx m)(j:Nat)(hj:j<m.6.length):(∃p,DCells w' g (j*11) m.ds[j] p)/\(∀i,w'.frozen? ⟨g,i,none⟩=false)/\g<bx/\w.1.size<g:=by
 obtain⟨S1,S2,S3,ts,h1,h2,h3,h4,h5,h6,h7⟩:=h.o;have gS:S3 g:=h4.so g rfl;have gg:=h7 g (.inr (.inr gS));have aB:j<ts.length:=by rw[h4.len];exact hj
 obtain⟨p,e,-⟩:=h4.inn j aB hj;obtain⟨d1,d2⟩:=NOwns.deps h4.row j aB e rfl;obtain⟨g',c',e',k1,k2,k3,-⟩:=h4.row.at j aB;simp only[Value.slice.injEq,Option.some.injEq,Addr.mk.injEq,and_true]at e';obtain⟨rfl,-,-⟩:=e';exact⟨⟨p,d1⟩,k2,gg.2,gg.1⟩
theorem zn3{n:Nat}{m:MD}(h:BigM n m){j:Nat}(hj:j<m.6.length){d':Dp}(h1:d'.bl=m.ds[j].bl)(h2:d'.nm=m.ds[j].nm):BigM n { m with ds:=m.ds.set j d' }:=by
 refine⟨h.d,h.f,by show(m.ds.set j d').length<=n;rw[List.length_set];exact h.l,fun i hi=>?_,fun i hi=>?_⟩
 all_goals
  have aB:i<m.6.length:=by simpa using hi
  show _<=n;by_cases e:j=i
  ·subst e;simp only[List.getElem_set_self]
   first| (rw[h1];exact h.b j hj)| (rw[h2];exact h.t j hj)
  ·simp only[List.getElem_set_ne e]
   first| exact h.b i aB|exact h.t i aB
theorem zn4{ds:List Dp}(h:IdW ds){j:Nat}(hj:j<ds.length){d':Dp}(h1:d'.id=ds[j].id):IdW (ds.set j d'):=fun d hd=>by
 rcases List.mem_or_eq_of_mem_set hd with q|rfl
 ·exact h d q
 ·rw[h1];exact h _ (List.getElem_mem hj)
theorem mrn_nx{B:Nat}{w:World}{p1 p2 p3 p4 p5 p6:Value}{m:MD}(h:MRn B w p1 p2 p3 p4 p5 p6 m)(z:Int):MRn B w p1 p2 p3 p4 p5 p6 { m with nx:=z }:=fun w2 h1 h2=>⟨(h w2 h1 h2).d,(h w2 h1 h2).f,(h w2 h1 h2).p⟩
theorem Mx.appD0{w0 w w4:World}{c len cap bx:Nat}{a:Option Addr}{p1 p2 p3 p4 p5:Value}{nx:Int}{m:MD}{g n k6:Nat}(h:Mx w0 w w4 c a len cap bx p1 p2 p3 p4 p5 (.slice (some ⟨g,0,none⟩) n k6) nx m)(h0:0<m.6.length):
  ∃(ts:List Row)(pa:Option Addr)(pc:Nat),ts.length=m.6.length/\NOwns w4 42 11 (.slice (some ⟨g,0,none⟩) n k6) ts/\DCells w4 g 0 m.ds[0] (.slice pa m.ds[0].bl.length pc)/\g<bx/\w.1.size<g /\
   ∀(v:Value)(w2 w':World),NOwns w2 42 11 v (ts++[m.ds[0].row (.slice pa m.ds[0].bl.length pc)])->(∀k,k<w4.1.size->k≠g->w2.1[k]?=w4.1[k]?)->w4.1.size<=w2.1.size->(∀k,v.ownBlock=some k->g=k\/w4.1.size<=k) ->
    (∀k,w.1.size<k->k≠bx->k<w2.1.size->w'.1[k]?=w2.1[k]?)->w2.1.size<=w'.1.size->MR w' p1 p2 p3 p4 p5 v { m with ds:=m.ds++[m.ds[0]] }:=by
 obtain⟨S1,S2,S3,ts,h1,h2,h3,h4,h5,h6,h7⟩:=h.o;have gS:S3 g:=h4.so g rfl;have gg:=h7 g (.inr (.inr gS));have hl:=h4.len;have aN:=h.x.lt;have aF:0<ts.length:=by omega
 obtain⟨p,e,ho⟩:=h4.inn 0 aF h0;obtain⟨pa,pc,rfl,-⟩:=ho.form;have el:(ic m.ds[0].bl).length=m.ds[0].bl.length:=by simp[ic]
 rw[el]at e ho;have d1:=(NOwns.deps h4.row 0 aF e rfl).1;rw[Nat.zero_mul]at d1;refine⟨ts,pa,pc,hl,h4.row,d1,gg.2,gg.1,fun v w2 w' hr hh hs hv aC aO=>?_⟩;have un:∀k,S1 k\/S2 k\/S3 k->k≠g->k<w4.1.size->w'.1[k]?=w4.1[k]?:=fun k hk hg aB=>by
  have q:=h7 k hk;exact(aC k q.1 oM oM).trans (hh k aB hg)
 refine⟨(h1.of_heap (w':=w') fun k hk aB=>un k (.inl hk) (fun e=>(h5 k hk).2 (e ▸ gS)) aB).dr,(h2.of_heap (w':=w') fun k hk=>un k (.inr (.inl (h3 k hk))) (fun e=>h6 k (h3 k hk) (e ▸ gS)) (h2.lt k hk).2).rfl,?_⟩;have aH:NOwns w' 42 11 v (ts++[m.ds[0].row (.slice pa m.ds[0].bl.length pc)]):=hr.of_heap fun k hk=>by
  have aK:=hr.lt k hk;rcases hv k hk with rfl|q
  ·exact aC g gg.1 oM aK
  exact aC k oM oM aK
 have O:∀(j:Nat)(hj:j<ts.length)(aD:j<m.6.length),KDep.R w' ts[j] m.ds[j]:=fun j hj aD =>
  KDep.rd (KDep.heap (h4.inn j hj aD) fun k hk=>un k (.inr (.inr (h4.si j hj k hk))) (fun e=>h4.out j hj k hk (by rw[e];rfl)) (KDep.lt (h4.inn j hj aD) k hk))
 obtain⟨a',aG,e',aM,-⟩:=aH.form;rw[List.length_append,List.length_singleton]at e' aM;refine⟨a',aG,by rw[e',hl];simp,by simp;omega,fun j hj=>?_⟩;have aL:j<(ts++[m.ds[0].row (.slice pa m.ds[0].bl.length pc)]).length:=by simp at hj ⊢;omega
 obtain⟨g',c',e2,k1,k2,k3,-⟩:=aH.at j aL;rw[e']at e2;simp only[Value.slice.injEq]at e2;refine⟨g',0,_,e2.1,k3,fun i hi=>by rw[Nat.zero_add];exact k1 i hi,?_⟩;by_cases q:j<ts.length
 ·rw[List.getElem_append_left q];show KDep.R w' ts[j] (m.ds++[m.ds[0]])[j];rw[List.getElem_append_left oM];exact O j q oM
 have q2:j=ts.length:=by simp at aL;omega
 subst q2;have e3:(ts++[m.ds[0].row (.slice pa m.ds[0].bl.length pc)])[ts.length]=ts[0]:=by simp[e]
 have e4:(m.ds++[m.ds[0]])[ts.length]'sO=m.ds[0]:=by simp[hl]
 rw[e3];show KDep.R w' ts[0] ((m.ds++[m.ds[0]])[ts.length]);rw[e4];exact O 0 aF h0
theorem big_app{n:Nat}{m:MD}(h:BigM n m)(hl:m.6.length+1<=n)(h0:0<m.6.length):BigM n { m with ds:=m.ds++[m.ds[0]] }:=by
 have aB:∀i (hi:i<(m.ds++[m.ds[0]]).length),∃j,∃h:j<m.6.length,(m.ds++[m.ds[0]])[i]=m.ds[j]:=fun i hi=>by
  by_cases e:i<m.6.length
  ·exact⟨i,e,List.getElem_append_left e⟩
  have e2:i=m.6.length:=by simp at hi;omega
  subst e2;exact⟨0,h0,by simp⟩
 refine⟨h.d,h.f,by simpa using hl,fun i hi=>?_,fun i hi=>?_⟩
 ·obtain⟨j,hj,e⟩:=aB i hi;show(m.ds++[m.ds[0]])[i].bl.length<=n;rw[e];exact h.b j hj
 obtain⟨j,hj,e⟩:=aB i hi;show(m.ds++[m.ds[0]])[i].nm.size<=n;rw[e];exact h.t j hj
end Go.Proofs.YtgnplpmgkegcnaaGreat
