/- Texts of the proof, bundled. -/
import Derived.Deep.RegionHeld3
import Derived.BigQuiet
import Derived.Test.YtgnplpmgkegcnaaGreatU04
import Derived.Test.YtgnplpmgkegcnaaGreatU05
import Derived.Test.YtgnplpmgkegcnaaGreatU01
import Derived.Test.YtgnplpmgkegcnaaGreatU02
import Derived.Test.YtgnplpmgkegcnaaGreatU03
set_option maxRecDepth 100000
set_option maxHeartbeats 12800000
namespace Go.Proofs.YtgnplpmgkegcnaaGreat
open Go.RowKit Kit Xd
theorem DvOk.okD{ts:List ByteArray}(h:DvOk ts):okD ts=true:=by
 unfold Kit.okD zbq;rw[Bool.and_eq_true,beq_iff_eq,List.all_eq_true];exact⟨h.n,fun t ht=>decide_eq_true (by obtain⟨j,hj,rfl⟩:=List.getElem_of_mem ht;exact h.s j hj)⟩
theorem zoe(w0 w:World)(c:Nat)(a:Option Addr)(len cap:Nat)(hcode:za2 w0 a len)(hlen:len<=1048576)(hcur:Cur 103 w0 w c a len cap)(hcw:c<w.1.size):
  Calls Tryz.prog 52 #[.pointer (some ⟨c,0,none⟩)] w fun e w'=>∃u v iv bv xs ys is bs,e=.returned (.agg #[u,v,iv,bv])/\DO w' (fun k=>w.1.size<=k) u v iv bv xs ys is bs/\DkR xs ys is bs/\Drew w0 w w' c a len cap:=by
 have HC:=hide hcur;have HO:=hide hcode;clear hcur hcode;go_enter Tryz.func52,Tryz.ntmps52
 go_wp2_with fail
 refine(za6 w0 _ c a len cap 3 HO.o hlen (zay HC.o hcw _) dC dC).mono ?_;rintro e w1 ⟨x,rfl,D1⟩;have d1:Drew w0 w w1 c a len cap:=((Drew.refl HC.o).alloc hcw _).trans D1;have r1:AtC w1 w.1.size 30 Xd.zD:=(AtC.new w 30 _).grown D1.2 sO;have s1:w.1.size<w1.1.size:=r1.lt;have HD1:=hide d1;have HR1:=hide r1;clear D1 d1 r1 HC
 cases hx:(x==0)with
 | true =>
  clear hx;go_wp2_with fail
  refine(wild_any w0 w1 c a len cap HO.o hlen HD1.o.cur oM).mono ?_;rintro e w2 ⟨u,v,iv,bv,xs,ys,is,bs,rfl,O2,K2,D2⟩;have HO2:=hide (O2.mono (S':=fun k=>w.1.size<k) fun k hk=>by omega);have HK2:=hide K2;have HD2:=hide (HD1.o.trans D2);have HR2:=hide (HR1.o.grown D2.2 sO);clear O2 K2 D2 HD1 HR1;obtain⟨a1,c1,a2,c2,a3,c3,a4,c4,rfl,rfl,rfl,rfl⟩:=HO2.o.dr.form;have k0:=HR2.o;have r0:=k0.cell 0;have r1:=k0.cell 1;have r2:=k0.cell 2;have r3:=k0.cell 3;have f0:=k0.frozen 0;have f1:=k0.frozen 1;have f2:=k0.frozen 2;have f3:=k0.frozen 3;have hl:=k0.lt;simp only[Xd.zD]at r0 r1 r2 r3;simp at r0 r1 r2 r3;clear k0;go_wp2;refine bodyPost_ret (v:=.agg #[.slice a1 xs.length c1,.slice a2 ys.length c2,.slice a3 is.length c3,.slice a4 bs.length c4]) sR4 rfl ⟨_,_,_,_,xs,ys,is,bs,rfl,?_,HK2.o,?_⟩
  ·exact((HO2.o).of_heap fun k hk _=>by rw[heap_setCell_other _ ⟨w.1.size,3,none⟩ k _ oB,heap_setCell_other _ ⟨w.1.size,2,none⟩ k _ oB,heap_setCell_other _ ⟨w.1.size,1,none⟩ k _ oB,heap_setCell_other _ ⟨w.1.size,0,none⟩ k _ oB]).mono fun k hk=>by omega
  ·exact(((HD2.o.setCell hcw nR _).setCell hcw nR _).setCell hcw nR _).setCell hcw nR _
 | false =>
  clear hx;go_wp2_with fail
  refine(fs_any w0 w1 c a len cap HO.o hlen HD1.o.cur oM).mono ?_;rintro e w2 ⟨fv,rfl,F2,D2⟩;obtain⟨n1,o1,n2,o2,n3,o3,n4,o4,n5,o5,n6,o6,n7,o7,m,ts,rfl,M2,T2,S2,V2⟩:=F2;have HM2:=hide M2;have HT2:=hide T2;have HS2:=hide (And.intro S2 V2);have HD2:=hide (HD1.o.trans D2);have HR2:=hide (HR1.o.grown D2.2 sO);have s2:w.1.size<w2.1.size:=HR2.o.lt;clear M2 T2 S2 V2 D2 HD1 HR1;obtain⟨W2,hW2⟩:∃W2,w2.alloc (.cells (M9 m n1 o1 n2 o2 n3 o3 n4 o4 n5 o5 n6 o6 n7 ts.length o7) 119)=W2:=⟨_,rfl⟩
  obtain⟨b,hb⟩:∃b,w2.1.size=b:=⟨_,rfl⟩
  have HW2:Hid (AtC W2 b 119 (M9 m n1 o1 n2 o2 n3 o3 n4 o4 n5 o5 n6 o6 n7 ts.length o7)/\Below w2.1.size w2 W2/\Drew w0 w W2 c a len cap/\AtC W2 w.1.size 30 Xd.zD/\w.1.size<b/\b<W2.1.size):=by
   subst hW2 hb;exact⟨AtC.new w2 119 _,(Below.refl _ w2).alloc nR _,HD2.o.alloc hcw _,HR2.o.alloc _,s2,by simp⟩
  go_wp2_with fail
  clear hW2 hb;refine(za6 w0 W2 c a len cap 2 HO.o hlen HW2.o.2.2.1.cur dC dC).mono ?_;rintro e w3 ⟨y,rfl,D3⟩;have HB3:Hid (AtC w3 b 119 (M9 m n1 o1 n2 o2 n3 o3 n4 o4 n5 o5 n6 o6 n7 ts.length o7)/\Drew w0 w w3 c a len cap/\AtC w3 w.1.size 30 Xd.zD/\b<w3.1.size):=by
   obtain⟨h1,h2,h3,h4,h5,h6⟩:=HW2.o;exact⟨h1.grown D3.2 sO,h3.trans D3,h4.grown D3.2 sO,by have:=D3.2.size;omega⟩
  have hwb:w.1.size<b:=HW2.o.2.2.2.2.1;have HM3:Hid (DR w3 (.slice n1 m.1.length o1) (.slice n2 m.2.length o2) (.slice n3 m.3.length o3) (.slice n4 m.4.length o4) m.xs m.ys m.is m.bs/\RSt w3 (.slice n7 ts.length o7) ts):=by
   have hk:∀k,w1.1.size<=k->k<w2.1.size->w3.1[k]?=w2.1[k]?:=fun k h1 h2=>(D3.2.block k (by have:=HW2.o.2.1.size;omega) sO).trans (HW2.o.2.1.block k h2);obtain⟨S1,S2,S3,tm,q1,q2,q3,q4,q5,q6,q7⟩:=HM2.o;exact⟨(q1.of_heap (w':=w3) fun k hs hlt=>hk k (q7 k (.inl hs)) hlt).dr,(HT2.o.of_heap (w':=w3) fun k hs=>hk k (HT2.o.lt k hs).1 (HT2.o.lt k hs).2).rst⟩
  have c0:=HB3.o.1.cell 0;have c1':=HB3.o.1.cell 1;have c2':=HB3.o.1.cell 2;have c3':=HB3.o.1.cell 3;have c7':=HB3.o.1.cell 7;simp at c0 c1' c2' c3' c7';clear D3 HW2 HM2 HT2 HD2 HR2
  cases hy:(y==0)with
  | true =>
   clear hy c7';go_wp2_with fail
   refine(zb8 _ _ _ _ m.xs m.ys m.is m.bs w3 HM3.o.1 HS2.o.1.big.d).mono ?_;rintro e w4 ⟨u,v,iv,bv,rfl,O4,B4⟩;obtain⟨xs,ys,is,bs,hxs,hys,his,hbs⟩:∃xs ys is bs,m.xs=xs/\m.ys=ys/\m.is=is/\m.bs=bs:=⟨_,_,_,_,rfl,rfl,rfl,rfl⟩
   have HK2:Hid (DkR xs ys is bs):=by
    obtain⟨hs,-⟩:=HS2.o;subst hxs hys his hbs;exact⟨hs.x,hs.y,hs.i,hs.ii,hs.b,hs.bb⟩
   rw[hxs,hys,his,hbs]at O4;have HO4:=hide (O4.mono (S':=fun k=>w.1.size<k) fun k hk=>by have:=HB3.o.2.2.2;omega);have HD4:=hide (HB3.o.2.1.below hcw B4);have HR4:=hide (HB3.o.2.2.1.over B4);clear O4 B4 HB3 HM3 HS2 hxs hys his hbs c0 c1' c2' c3';obtain⟨a1,c1,a2,c2,a3,c3,a4,c4,rfl,rfl,rfl,rfl⟩:=HO4.o.dr.form;have k0:=HR4.o;have r0:=k0.cell 0;have r1:=k0.cell 1;have r2:=k0.cell 2;have r3:=k0.cell 3;have f0:=k0.frozen 0;have f1:=k0.frozen 1;have f2:=k0.frozen 2;have f3:=k0.frozen 3;have hl:=k0.lt;simp only[Xd.zD]at r0 r1 r2 r3;simp at r0 r1 r2 r3;clear k0;go_wp2;refine bodyPost_ret (v:=.agg #[.slice a1 xs.length c1,.slice a2 ys.length c2,.slice a3 is.length c3,.slice a4 bs.length c4]) sR4 rfl ⟨_,_,_,_,xs,ys,is,bs,rfl,?_,HK2.o,?_⟩
   ·exact((HO4.o).of_heap fun k hk _=>by rw[heap_setCell_other _ ⟨w.1.size,3,none⟩ k _ oB,heap_setCell_other _ ⟨w.1.size,2,none⟩ k _ oB,heap_setCell_other _ ⟨w.1.size,1,none⟩ k _ oB,heap_setCell_other _ ⟨w.1.size,0,none⟩ k _ oB]).mono fun k hk=>by omega
   ·exact(((HD4.o.setCell hcw nR _).setCell hcw nR _).setCell hcw nR _).setCell hcw nR _
  | false =>
   clear hy c0 c1' c2' c3';go_wp2_with fail
   refine(zlm _ ts w3 HM3.o.2 (by rw[HS2.o.2.n];decide) (fun j hj=>by have:=HS2.o.2.s j hj;omega)).mono ?_;rintro e w4 ⟨r,u,v,iv,bv,xs,ys,is,bs,rfl,O4,K4,B4⟩;have HK2:Hid (DkR xs ys is bs):=by
    have hs:=K4 HS2.o.2.okD;exact⟨hs.x,hs.y,hs.i,hs.ii,hs.b,hs.bb⟩
   have HO4:=hide (O4.mono (S':=fun k=>w.1.size<k) fun k hk=>by have:=HB3.o.2.2.2;omega);have HD4:=hide (HB3.o.2.1.below hcw B4);have HR4:=hide (HB3.o.2.2.1.over B4);clear O4 B4 K4 HB3 HM3 HS2 c7';obtain⟨a1,c1,a2,c2,a3,c3,a4,c4,rfl,rfl,rfl,rfl⟩:=HO4.o.dr.form;have k0:=HR4.o;have r0:=k0.cell 0;have r1:=k0.cell 1;have r2:=k0.cell 2;have r3:=k0.cell 3;have f0:=k0.frozen 0;have f1:=k0.frozen 1;have f2:=k0.frozen 2;have f3:=k0.frozen 3;have hl:=k0.lt;simp only[Xd.zD]at r0 r1 r2 r3;simp at r0 r1 r2 r3;clear k0;go_wp2;refine bodyPost_ret (v:=.agg #[.slice a1 xs.length c1,.slice a2 ys.length c2,.slice a3 is.length c3,.slice a4 bs.length c4]) (by simp[results,go_sem,r0,r1,r2,r3,hl]) rfl ⟨_,_,_,_,xs,ys,is,bs,rfl,?_,HK2.o,?_⟩
   ·refine DO.alloc ?_ _;exact((HO4.o).of_heap fun k hk _=>by rw[heap_setCell_other _ ⟨w.1.size,3,none⟩ k _ oB,heap_setCell_other _ ⟨w.1.size,2,none⟩ k _ oB,heap_setCell_other _ ⟨w.1.size,1,none⟩ k _ oB,heap_setCell_other _ ⟨w.1.size,0,none⟩ k _ oB]).mono fun k hk=>by omega
   ·refine Drew.alloc ?_ hcw _;exact(((HD4.o.setCell hcw nR _).setCell hcw nR _).setCell hcw nR _).setCell hcw nR _
theorem bcSet(l:List UInt8)(j:Nat)(b:UInt8):(bc l).set j (.int .u8 (b.toNat:Int))=bc (l.set j b):=by simp[bc,List.map_set]
theorem bcLen(l:List UInt8):(bc l).length=l.length:=by simp[bc]
theorem made_by(w:World)(n:Nat)(h:n<=1000):ROwns (w.alloc (.cells (madeCells #[.int .u8 0] n) 5)) w.1.size 5 (.slice (some ⟨w.1.size,0,none⟩) n n) (bc (List.replicate n 0)):=by
 have e1:(madeCells #[.int .u8 0] n).toList=bc (List.replicate n 0):=by rw[toList_madeCells_one];simp[bc]
 have e2:(madeCells #[.int .u8 0] n).size=n:=by rw[←Array.length_toList,e1,bcLen,List.length_replicate]
 have:=ROwns.lit w w.1.size 5 (madeCells #[.int .u8 0] n) nR (by rw[e2];unfold maxLen;omega)
 rwa[e1,e2]at this
theorem zhl(n z:Nat)(w:World)(hn:n<=1000)(hz:z<256):
  Calls Tryz.prog 46 #[.int .i64 (n:Int),.int .u8 (z:Int)] w fun e w'=>∃t:ByteArray,t.size=n/\e=.returned (.string t)/\Below w.1.size w w':=by
 have mk:=make_by n oM;obtain⟨b,hb⟩:∃b:UInt8,(z:Int)=(b.toNat:Int):=⟨UInt8.ofNat z,by simp;omega⟩
 have HB:=hide hb;have hn0:¬(n:Int)<0:=by omega
 clear hb;go_enter Tryz.func46,Tryz.ntmps46
 go_wp2;go_loopw [6] (fun i wr=>∃(j:Nat)(l:List UInt8),j<=n/\i=.int .i64 j/\l.length=n/\Hid (ROwns wr w.1.size 5 (.slice (some ⟨w.1.size,0,none⟩) n n) (bc l)/\Below w.1.size w wr)) (fun i _=>n-(intOf i).toNat)
 case atStart=>exact⟨0,List.replicate n 0,Nat.zero_le _,rfl,by simp,made_by w n hn,(Below.refl _ w).alloc nR _⟩
 case round =>
  obtain⟨j,l,hj,rfl,hl,HR⟩:=hrel;by_cases hlt:j<n
  ·have j0:(0:Int)<=(j:Int):=by omega
   have j1:(j:Int)<(n:Int):=by omega
   have hbl:(bc l).length=n:=by rw[bcLen,hl]
   obtain⟨g,cp,e1,k1,k2,k3,k4,-⟩:=HR.o.1.at j oM;rw[hbl]at e1;simp only[Value.slice.injEq,Option.some.injEq,Addr.mk.injEq]at e1;obtain⟨⟨rfl,-⟩,-,-⟩:=e1;have k5:(bc l)[j]?=some (.int .u8 ((l[j]'oM).toNat:Int)):=by simp[bc];exact⟨_,List.getElem?_eq_getElem oM,rfl⟩
   rw[k5]at k1;have O:ROwns wr w.1.size 5 (.slice (some ⟨w.1.size,0,none⟩) (bc l).length n) (bc l):=by rw[hbl];exact HR.o.1
   have O2:=(O.stored j (.int .u8 (b.toNat:Int))).1;rw[bcSet,hbl,←HB.o]at O2;have HR2:=hide (And.intro O2 (HR.o.2.setCell (p:=⟨w.1.size,j,none⟩) nR (.int .u8 (z:Int))));have HL:=hide hl;generalize ((l[j]'oM).toNat:Int)=q at k1;clear O O2 HR hbl k5 hl mk;go_wp2;go_roundw
   case rel=>exact⟨j+1,l.set j b,by omega,by go_num,by rw[List.length_set];exact HL.o,HR2.o⟩
   case measure=>simp[intOf];omega
  ·have OW:Owns wr w.1.size 5 (.slice (some ⟨w.1.size,0,none⟩) n n) l:=by
    have h1:=HR.o.1;unfold Owns;have h2:wr.ownsRow w.1.size 5 1 (.slice (some ⟨w.1.size,0,none⟩) n n) (bc l).length (bc l):=h1
    rwa[bcLen]at h2
   have hcv:=ze2 (P:=Tryz.prog) 22 9 5 Tryz.underlying22 Tryz.underlying5 Tryz.underlying9 OW;have HL:=hide hl;clear OW hl mk;go_wp2;go_ret;exact⟨⟨l.toArray⟩,by have:=HL.o;simp[ByteArray.size];omega,rfl,HR.o.2⟩
theorem ziv(w0 w:World)(c:Nat)(a:Option Addr)(len cap n:Nat)(hcode:za2 w0 a len)(hlen:len<=1048576)(hcur:Cur 103 w0 w c a len cap)(hcw:c<w.1.size)(hn:0<n)(hn1:n<=1000):
  Calls Tryz.prog 37 #[.pointer (some ⟨c,0,none⟩),.int .i64 (n:Int)] w fun e w'=>∃z:Int,IntKind.i64.min<=z/\z<=IntKind.i64.max/\e=.returned (.int .i64 z)/\Drew w0 w w' c a len cap:=by
 have HC:=hide hcur;have HO:=hide hcode;have wn:IntKind.i64.wrap ((n:Int)+1)=(n:Int)+1:=zcg oM oM;clear hcur hcode;go_enter Tryz.func37,Tryz.ntmps37
 go_wp2_with fail
 refine(za6 w0 w c a len cap 15 HO.o hlen HC.o dC dC).mono ?_;rintro e w1 ⟨x,rfl,D1⟩;have HD:=hide D1;have hc1:c<w1.1.size:=by have:=D1.2.size;omega
 clear D1 HC
 cases hx:(x==0)with
 | true =>
  clear hx;go_wp2_with fail
  refine(zdw w0 _ c w1.1.size a len cap [-1,(n:Int),(n:Int)+1,9223372036854775807,-9223372036854775808] HO.o hlen (zay HD.o.cur hc1 _) (AtC.new w1 3 _) oM sI sI).mono ?_;rintro e w2 ⟨z,hz,rfl,D2⟩;have HD2:=hide ((HD.o.alloc hcw _).trans D2);have hz2:Hid (IntKind.i64.min<=z/\z<=IntKind.i64.max):=by
   simp only[List.mem_cons,List.not_mem_nil,or_false]at hz;show(-9223372036854775808:Int)<=z/\z<=9223372036854775807;omega
  exact cQ134
 | false =>
  clear hx;go_wp2_with fail
  refine(zah w0 _ c a len cap n HO.o hlen HD.o.cur hn oM).mono ?_;rintro e w2 ⟨z,hz,rfl,D2⟩;have HD2:=hide (HD.o.trans D2);have hz2:Hid (IntKind.i64.min<=(z:Int)/\(z:Int)<=IntKind.i64.max):=by
   show(-9223372036854775808:Int)<=(z:Int)/\(z:Int)<=9223372036854775807;omega
  exact cQ134
namespace Kit
structure Dq(w0 w w':World)(c:Nat)(a:Option Addr)(len cap b g n cp:Nat)(ts:List ByteArray):Prop where
 res:AtC w' w.1.size 46 #[.slice none 0 0]
 box:AtC w' b 46 #[.slice (some ⟨g,0,none⟩) n cp]
 own:ROwns w' (w.1.size+1) 9 (.slice (some ⟨g,0,none⟩) n cp) (stc ts)
 nb:g≠b
 dr:Drew w0 w w' c a len cap
 hb:w.1.size<b
 hc:c<w.1.size
 n1:21<=ts.length
 n2:ts.length<=22
 s:∀t∈ts,t.size<=6000
namespace Dq
variable {w0 w w' w2 : World} {c len cap b g n cp : Nat} {a : Option Addr} {ts : List ByteArray}
theorem hg(h:Dq w0 w w' c a len cap b g n cp ts):w.1.size<g/\g<w'.1.size:=h.own.lt g rfl
theorem drews(h:Dq w0 w w' c a len cap b g n cp ts)(hd:Drew w0 w' w2 c a len cap):Dq w0 w w2 c a len cap b g n cp ts:=by
 have h1:=h.hc;have h2:=h.hb;have h3:=h.hg;exact⟨h.res.grown hd.2 sO,h.box.grown hd.2 sO,h.own.grown hd.2 (fun j hj e=>by cases e;have:=(h.own.lt _ hj).1;omega),h.nb,h.dr.trans hd,h.hb,h.hc,h.n1,h.n2,h.s⟩
theorem over(h:Dq w0 w w' c a len cap b g n cp ts)(hb:Below w'.1.size w' w2):Dq w0 w w2 c a len cap b g n cp ts :=
 ⟨h.res.over hb,h.box.over hb,h.own.below hb nR,h.nb,h.dr.below h.hc hb,h.hb,h.hc,h.n1,h.n2,h.s⟩
theorem drew(h:Dq w0 w w' c a len cap b g n cp ts):Dq w0 w w'.drew c a len cap b g n cp ts:=h.over bR.drew
theorem lenq(h:Dq w0 w w' c a len cap b g n cp ts):n=ts.length:=by
 obtain⟨g',c',e,-⟩:=h.own.at 0 (by rw[zae];have:=h.n1;omega);rw[zae]at e;simp only[Value.slice.injEq]at e;exact e.2.1
theorem cells(h:Dq w0 w w' c a len cap b g n cp ts):w'.cell? ⟨b,0,none⟩=some (.slice (some ⟨g,0,none⟩) n cp)/\w'.frozen? ⟨b,0,none⟩=false/\b<w'.1.size:=⟨h.box.cell 0,h.box.frozen 0,h.box.lt⟩
theorem text(h:Dq w0 w w' c a len cap b g n cp ts){q:Nat}(hq:∀t∈ts,t.size<=q)(i:Nat)(hi:i<21):∃s:ByteArray,s.size<=q/\w'.cell? ⟨g,i,none⟩=some (.string s)/\w'.frozen? ⟨g,i,none⟩=false/\g<w'.1.size:=by
 have hn:=h.n1;obtain⟨g',c',e,k1,k2,-,k3,-⟩:=h.own.at i (by rw[zae];omega);simp only[Value.slice.injEq,Option.some.injEq,Addr.mk.injEq]at e;obtain⟨⟨rfl,-⟩,-,-⟩:=e;exact⟨ts[i]'oM,hq _ (List.getElem_mem _),by rw[k1];simp[stc],k2,k3⟩
theorem set(h:Dq w0 w w' c a len cap b g n cp ts)(i:Nat)(t:ByteArray)(ht:t.size<=6000):Dq w0 w (w'.setCell ⟨g,i,none⟩ (.string t)) c a len cap b g n cp (ts.set i t):=by
 have h3:=h.hg;have hl:=h.lenq;have o1:ROwns w' (w.1.size+1) 9 (.slice (some ⟨g,0,none⟩) (stc ts).length cp) (stc ts):=by rw[zae,←hl];exact h.own
 have o2:=(o1.stored i (.string t)).1;rw[zae,←hl,show(stc ts).set i (.string t)=stc (ts.set i t)by simp[stc,List.map_set]]at o2;exact⟨h.res.other oM _,h.box.other (Ne.symm h.nb) _,o2,h.nb,h.dr.setCell h.hc oM _,h.hb,h.hc,by rw[List.length_set];exact h.n1,by rw[List.length_set];exact h.n2,fun x hx=>(List.mem_or_eq_of_mem_set hx).elim (h.s x) (fun e=>e ▸ ht)⟩
theorem fin(h:Dq w0 w w' c a len cap b g n cp ts)(x:Value):ROwns (w'.setCell ⟨w.1.size,0,none⟩ x) w.1.size 9 (.slice (some ⟨g,0,none⟩) n cp) (stc ts)/\Drew w0 w (w'.setCell ⟨w.1.size,0,none⟩ x) c a len cap :=
 ⟨(h.own.setCell_other oM _).base_le oM,h.dr.setCell h.hc nR _⟩
theorem app(h:Dq w0 w w' c a len cap b g n cp ts)(hl:ts.length=21){o:Obj}{v12:Value}{w12:World}{x:ByteArray}(hx:x.size<=6000)(T:ROwns w12 (w.1.size+1) 9 v12 (stc ts++[.string x]))(G:(w'.alloc o).grownBy w12 (some g))(V:∀k,v12.ownBlock=some k->some g=some k\/(w'.alloc o).heap.size<=k):
  ∃g2 n2 cp2,v12=.slice (some ⟨g2,0,none⟩) n2 cp2/\(∃y,w12.cell? ⟨b,0,none⟩=some y)/\w12.frozen? ⟨b,0,none⟩=false/\b<w12.1.size/\AtC w12 w.1.size 46 #[.slice none 0 0]/\w.1.size≠b/\Dq w0 w (w12.setCell ⟨b,0,none⟩ v12) c a len cap b g2 n2 cp2 (ts++[x]):=by
 obtain⟨g2,cp2,rfl,-⟩:=T.at 0 sI;have h1:=h.hc;have h2:=h.hb;have h3:=h.hg;have h4:=h.box.lt;have h5:=h.nb;have h6:g2≠b:=by
  rcases V g2 rfl with e|e
  ·cases e;exact h5
  ·rw[World.size_alloc]at e;omega
 have d1:=h.dr.alloc h.hc o;have bx:AtC w12 b 46 #[.slice (some ⟨g,0,none⟩) n cp]:=(h.box.alloc o).grown G sO;have dr:Drew w0 w w12 c a len cap:=by
  obtain⟨⟨k1,k2,i,z,k3,k4⟩,k5⟩:=d1;have z1:=k2.size;have z0:w0.1.size<=w.1.size:=by
   have:=h.dr.1.2.1.size;omega
  exact⟨⟨k1,⟨G.os.trans k2.os,G.tape.trans k2.tape,G.output.trans k2.output,Nat.le_trans z1 G.size,fun k hk=>(G.block k oM sO).trans (k2.block k hk)⟩,i,z,(G.block c sO sO).trans k3,k4⟩,⟨G.os.trans k5.os,G.tape.trans k5.tape,G.output.trans k5.output,Nat.le_trans k5.size G.size,fun k hk hr=>(G.block k (by have:=k5.size;omega) sO).trans (k5.block k hk hr)⟩⟩
 refine⟨g2,_,cp2,rfl,⟨_,bx.cell 0⟩,bx.frozen 0,bx.lt,(h.res.alloc o).grown G sO,by omega,((h.res.alloc o).grown G sO).other oM _,bx.set 0 _,?_,h6,dr.setCell h.hc oM _,h.hb,h.hc,by simp;omega,by simp;omega,fun t ht=>?_⟩
 ·have e:stc ts++[Value.string x]=stc (ts++[x]):=by simp[stc]
  have T':ROwns w12 (w.1.size+1) 9 (.slice (some ⟨g2,0,none⟩) (stc ts++[Value.string x]).length cp2) (stc (ts++[x])):=by rw[←e];exact T
  exact T'.of_heap fun k hk=>heap_setCell_other _ ⟨b,0,none⟩ k _ (by cases hk;exact h6)
 ·rcases List.mem_append.1 ht with q|q
  ·exact h.s t q
  ·rw[List.mem_singleton.1 q];exact hx
end Dq
end Kit
theorem zke(w0 w:World)(c:Nat)(a:Option Addr)(len cap:Nat)(hcode:za2 w0 a len)(hlen:len<=1048576)(hcur:Cur 103 w0 w c a len cap)(hcw:c<w.1.size):
  Calls Tryz.prog 45 #[.pointer (some ⟨c,0,none⟩)] w fun e w'=>∃(tv:Value)(ts:List ByteArray),e=.returned (.agg #[tv])/\ROwns w' w.1.size 9 tv (stc ts)/\21<=ts.length/\ts.length<=22/\(∀t∈ts,t.size<=6000)/\Drew w0 w w' c a len cap:=by
 have HC:=hide hcur;have HO:=hide hcode;clear hcur hcode;go_enter Tryz.func45,Tryz.ntmps45
 go_wp2_with fail
 refine(zoe w0 _ c a len cap HO.o hlen (zay HC.o hcw _) sO).mono ?_;rintro e w1 ⟨u,v,iv,bv,xs,ys,is,bs,rfl,O1,K1,D1⟩;have d1:Drew w0 w w1 c a len cap:=((Drew.refl HC.o).alloc hcw _).trans D1;have r1:AtC w1 w.1.size 46 #[.slice none 0 0]:=(AtC.new w 46 _).grown D1.2 sO;have s1:w.1.size<w1.1.size:=r1.lt;have HO1:=hide O1;have HK1:=hide K1;have HD1:=hide d1;have HR1:=hide r1;clear O1 K1 D1 d1 r1 HC;go_wp2_with fail
 refine(Xd.devOf_any _ u v iv bv xs ys is bs w1 HO1.o (zmw HK1.o.x HK1.o.y HK1.o.i HK1.o.ii HK1.o.b HK1.o.bb) (fun j hj=>zg2 (HK1.o.bb _ (List.getElem_mem hj)).toKOk0)).mono ?_;rintro e w2 ⟨tv,ts,rfl,T2,V2,B2⟩;obtain⟨g,cp,rfl,-,-,hg1,hg2,-⟩:=T2.at 0 (by rw[zae,V2.n];decide);rw[zae,V2.n]at T2 ⊢;obtain⟨b,hb⟩:∃b,w2.1.size=b:=⟨_,rfl⟩
 obtain⟨W2,hW2⟩:∃W2,w2.alloc (.cells #[.slice (some ⟨g,0,none⟩) 21 cp] 46)=W2:=⟨_,rfl⟩
 have hts:=V2.n;have h60:∀t∈ts,t.size<=60:=fun t ht=>by obtain⟨j,hj,rfl⟩:=List.getElem_of_mem ht;exact V2.s j hj
 have HS:Hid (Dq w0 w W2 c a len cap b g 21 cp ts):=by
  subst hW2 hb;exact⟨(HR1.o.over B2).alloc _,AtC.new w2 46 _,(T2.base_le oM).alloc _,by omega,(HD1.o.below hcw B2).alloc hcw _,by have:=B2.size;omega,hcw,by rw[V2.n];decide,by rw[V2.n];decide,fun t ht=>by obtain⟨j,hj,rfl⟩:=List.getElem_of_mem ht;have:=V2.s j hj;omega⟩
 clear T2 V2 B2 HO1 HK1 HD1 HR1 hg1 hg2;go_wp2_with fail
 clear hW2 hb;refine(zah w0 W2 c a len cap 8 HO.o hlen HS.o.dr.cur dC dC).mono ?_;rintro e w3 ⟨x,hx8,rfl,D3⟩;have H3:=hide (HS.o.drews D3);have hcw3:c<w3.1.size:=by have:=H3.o.dr.2.size;omega
 clear D3 HS;by_cases x0:x=0
 ·subst x0;go_wp2
  go_region_held3 (fun w'=>w'.cell? ⟨b,0,none⟩=some (.slice (some ⟨g,0,none⟩) 21 cp)) (first| exact H3.o.drew.cells.1|exact(H3.o.drew.drews D4).cells.1|exact((H3.o.drew.drews D4).drews D5).cells.1|exact(((H3.o.drew.drews D4).drews D5).drews D6).cells.1|exact((((H3.o.drew.drews D4).drews D5).drews D6).set i tx htx).cells.1) (first| (go_at_call 76;refine(zdx w0 _ c a len cap n5 HO.o hlen ((H3.o.drew.drews D4).drews D5).dr.cur (by have h9:=((H3.o.drew.drews D4).drews D5).dr.2.size;omega) oM).mono ?_;rintro e w6 ⟨l,hl,rfl,D6⟩;obtain⟨tx,htl⟩:∃tx:ByteArray,(⟨l.toArray⟩:ByteArray)=tx:=⟨_,rfl⟩;have htx:tx.size<=6000:=(by rw[←htl];simp[ByteArray.size];omega);rw[htl];clear htl hl;obtain⟨y0,-,t0,t1,t2⟩:=(((H3.o.drew.drews D4).drews D5).drews D6).text H3.o.s i hi)| (go_at_call 36;refine(zah w0 _ c a len cap 6 HO.o hlen (H3.o.drew.drews D4).dr.cur dC dC).mono ?_;rintro e w5 ⟨n5,hn5,rfl,D5⟩)| (go_at_call 36;refine(zah w0 _ c a len cap 21 HO.o hlen H3.o.drew.dr.cur dC dC).mono ?_;rintro e w4 ⟨i,hi,rfl,D4⟩;have i0:(0:Int)<=(i:Int):=oM;have i1:(i:Int)<21:=oM))
  have HF:=hide ((((H3.o.drew.drews D4).drews D5).drews D6).set i tx htx);clear D4 D5 D6 t0 t1 t2 H3;obtain⟨q0,q1,q2⟩:=HF.o.cells;have r0:=HF.o.res.cell 0;have f0:=HF.o.res.frozen 0;have hl:=HF.o.res.lt;simp at r0;go_wp2;exact bodyPost_ret (v:=.agg #[.slice (some ⟨g,0,none⟩) 21 cp]) (by simp[results,go_sem,r0]) rfl ⟨_,_,rfl,(HF.o.fin _).1,HF.o.n1,HF.o.n2,HF.o.s,(HF.o.fin _).2⟩
 by_cases x1:x=1
 ·subst x1;clear x0;go_wp2
  go_region_held3 (fun w'=>w'.cell? ⟨b,0,none⟩=some (.slice (some ⟨g,0,none⟩) 21 cp)) (first| exact H3.o.drew.cells.1|exact(H3.o.drew.drews D4).cells.1|exact((H3.o.drew.drews D4).drews D5).cells.1|exact(((H3.o.drew.drews D4).drews D5).over B6).cells.1|exact((((H3.o.drew.drews D4).drews D5).over B6).set i tx oM).cells.1) (first| (go_at_call 46;refine(zhl (60+n5) 65 _ oM dC).mono ?_;rintro e w6 ⟨tx,htx,rfl,B6⟩;obtain⟨y0,-,t0,t1,t2⟩:=(((H3.o.drew.drews D4).drews D5).over B6).text H3.o.s i hi)| (go_at_call 36;refine(zah w0 _ c a len cap 2 HO.o hlen (H3.o.drew.drews D4).dr.cur dC dC).mono ?_;rintro e w5 ⟨n5,hn5,rfl,D5⟩;have w60:IntKind.i64.wrap (60+(n5:Int))=((60+n5:Nat):Int):=(by rw[zcg oM oM];omega))| (go_at_call 36;refine(zah w0 _ c a len cap 21 HO.o hlen H3.o.drew.dr.cur dC dC).mono ?_;rintro e w4 ⟨i,hi,rfl,D4⟩;have i0:(0:Int)<=(i:Int):=oM;have i1:(i:Int)<21:=oM))
  have HF:=hide ((((H3.o.drew.drews D4).drews D5).over B6).set i tx oM);clear D4 D5 B6 t0 t1 t2 H3;obtain⟨q0,q1,q2⟩:=HF.o.cells;have r0:=HF.o.res.cell 0;have f0:=HF.o.res.frozen 0;have hl:=HF.o.res.lt;simp at r0;go_wp2;exact bodyPost_ret (v:=.agg #[.slice (some ⟨g,0,none⟩) 21 cp]) (by simp[results,go_sem,r0]) rfl ⟨_,_,rfl,(HF.o.fin _).1,HF.o.n1,HF.o.n2,HF.o.s,(HF.o.fin _).2⟩
 by_cases x2:x=2
 ·subst x2;clear x0 x1;obtain⟨q0,q1,q2⟩:=H3.o.cells;have HK2:Hid ((w3.alloc (.cells #[.string ⟨#[120]⟩] 9)).cell? ⟨w3.1.size,0,none⟩=some (.string ⟨#[120]⟩)):=(AtC.new w3 9 _).cell 0;have HT:Hid (ROwns (w3.alloc (.cells #[.string ⟨#[120]⟩] 9)) (w.1.size+1) 9 (.slice (some ⟨g,0,none⟩) 21 cp) (stc ts)):=H3.o.own.alloc _;have HSZ:Hid (w.1.size+1<=(w3.alloc (.cells #[.string ⟨#[120]⟩] 9)).1.size):=by have:=H3.o.hg;show _<=_;rw[World.size_alloc];omega
  have HL:Hid ((stc ts).length<=100000000000):=by show _<=_;rw[zae,hts];decide
  go_wp2_with (at_builtin;refine wpList_step fun K' hK'=>?_;refine zal _ rfl (.tmp 39) (.tmp 40) 44 rfl (w.1.size+1) 9 Tryz.u44 _ 16 Tryz.i9 rfl dC (.slice (some ⟨g,0,none⟩) 21 cp) (stc ts) rfl HT.o HSZ.o w3.1.size (.string ⟨#[120]⟩) rfl HK2.o rfl HL.o ?_;intro v12 w12 T12 G12 V12;refine hK' _ _ ?_;obtain⟨g9,n9,c9,rfl,⟨y9,t0⟩,t1,t2,R9,hwb,D9⟩:=H3.o.app hts (show(⟨#[120]⟩:ByteArray).size<=6000 by decide) T12 G12 V12;have HF:=hide D9;have r0:=R9.cell 0;have f0:=R9.frozen 0;have hl:=R9.lt;simp at r0;clear T12 G12 V12 D9 R9 hK' q0 q1 q2)
  exact bodyPost_ret (v:=.agg #[.slice (some ⟨g9,0,none⟩) n9 c9]) (by simp[results,go_sem,r0]) rfl ⟨_,_,rfl,(HF.o.fin _).1,HF.o.n1,HF.o.n2,HF.o.s,(HF.o.fin _).2⟩
 by_cases x3:x=3
 ·subst x3;clear x0 x1 x2;go_wp2_with fail
  refine(zah w0 _ c a len cap 21 HO.o hlen H3.o.dr.cur dC dC).mono ?_;rintro e w4 ⟨i,hi,rfl,D4⟩;have H4:=hide (H3.o.drews D4);have i0:(0:Int)<=(i:Int):=by omega
  have i1:(i:Int)<21:=by omega
  clear D4 H3;go_wp2;try refine wp_region_noPanic ?_
  refine wp_region_held_drew (S:=fun w'=>w'.cell? ⟨b,0,none⟩=some (.slice (some ⟨g,0,none⟩) 21 cp)) kL H4.o.drew.cells.1 (fun hHeld=>?_);refine tk 0 hHeld ?_;simp only[Act.put];refine tk 1 hHeld ?_;simp only[Act.put];refine tk 2 hHeld ?_;simp only[Act.put];refine tk 3 hHeld ?_;simp only[Act.put];refine tk 4 hHeld ?_;simp only[Act.put];refine tk 5 hHeld ?_;simp only[Act.put];refine tk 6 hHeld ?_;simp only[Act.put];refine tk 7 hHeld ?_;simp only[Act.put];obtain⟨sx,hsx,l0,l1,l2⟩:=H4.o.drew.text h60 i hi;refine wpAnyH_ready (rs:=[8]) kL sI ?_;refine AllReadyH.cons rfl (fun K hK=>?_) AllReadyH.nil;go_simp;refine hK.out _ _ hHeld (fun hHeld=>?_);clear hK K;refine wpAnyH_ready (rs:=[9]) kL sI ?_;refine AllReadyH.cons rfl (fun K hK=>?_) AllReadyH.nil;go_simp
  go_at_call 77
  refine(zkr w0 _ c a len cap sx HO.o hlen H4.o.drew.dr.cur (by have:=H4.o.drew.dr.2.size;omega) oM).mono ?_;rintro e w6 ⟨tx,htx,rfl,D6⟩;have H6:=hide (H4.o.drew.drews D6);clear D6 l0 l1 l2 hHeld H4;obtain⟨y0,-,t0,t1,t2⟩:=H6.o.text h60 i hi;go_wp2_with fail
  refine hK.out _ _ H6.o.cells.1 (fun hHeld=>?_);clear hK K;refine tk 10 hHeld ?_;simp only[Act.put];refine wpAnyH_ready (rs:=[11]) kL sI ?_;refine AllReadyH.cons rfl (fun K hK=>?_) AllReadyH.nil;go_simp;have HF:=hide (H6.o.set i tx htx);refine hK.out _ _ HF.o.cells.1 (fun hHeld=>?_);clear hK K t0 t1 t2 H6;refine wpAnyH_done kL ?_ _;try refine NoPanic.normal ?_
  clear hHeld;obtain⟨q0,q1,q2⟩:=HF.o.cells;have r0:=HF.o.res.cell 0;have f0:=HF.o.res.frozen 0;have hl:=HF.o.res.lt;simp at r0;go_wp2;exact bodyPost_ret (v:=.agg #[.slice (some ⟨g,0,none⟩) 21 cp]) (by simp[results,go_sem,r0]) rfl ⟨_,_,rfl,(HF.o.fin _).1,HF.o.n1,HF.o.n2,HF.o.s,(HF.o.fin _).2⟩
 have e0:((x:Int)==0)=false:=by simp;omega
 have e1:((x:Int)==1)=false:=by simp;omega
 have e2:((x:Int)==2)=false:=by simp;omega
 have e3:((x:Int)==3)=false:=by simp;omega
 clear x0 x1 x2 x3;have HF:=H3;obtain⟨q0,q1,q2⟩:=HF.o.cells;have r0:=HF.o.res.cell 0;have f0:=HF.o.res.frozen 0;have hl:=HF.o.res.lt;simp at r0;go_wp2;exact bodyPost_ret (v:=.agg #[.slice (some ⟨g,0,none⟩) 21 cp]) (by simp[results,go_sem,r0]) rfl ⟨_,_,rfl,(HF.o.fin _).1,HF.o.n1,HF.o.n2,HF.o.s,(HF.o.fin _).2⟩
theorem zog(w:World)(a:Option Addr)(len cap:Nat)(hcode:za2 w a len)(hlen:len<=1048576):
  Calls Tryz.prog 15 #[.slice a len cap] w fun e w'=>∃(tv:Value)(ts:List ByteArray)(z:Int)(t:ByteArray),e=.returned (.tuple #[.agg #[tv],.int .i64 z,.string t])/\ROwns w' w.1.size 9 tv (stc ts)/\21<=ts.length/\ts.length<=22/\(∀t∈ts,t.size<=6000)/\IntKind.i64.min<=z/\z<=IntKind.i64.max/\t.size<=1000/\Below w.1.size w w':=by
 obtain⟨W0,hW0⟩:∃W0,w.alloc (.cells #[.slice none 0 0] 46)=W0:=⟨_,rfl⟩
 have HO:Hid (za2 W0 a len):=by rw[←hW0];exact zkk hcode ((Below.refl _ w).alloc nR _)
 have hsz:w.1.size<W0.1.size:=by rw[←hW0];simp
 have hR:∀w',Below W0.1.size W0 w'->AtC w' w.1.size 46 #[.slice none 0 0]/\Below w.1.size w w':=fun w' hb=>by
  rw[←hW0]at hb;exact⟨(AtC.new w 46 _).over hb,((Below.refl _ w).alloc nR _).trans (hb.mono sI)⟩
 clear hcode;go_enter Tryz.func15,Tryz.ntmps15
 go_wp2_with fail
 clear hW0;refine(dNew_any W0 a len cap HO.o hlen).mono ?_;rintro e w1 ⟨rfl,C1,hlt1⟩;have HD1:Hid (Drew W0 w1 w1 W0.1.size a len cap):=Drew.refl C1;clear C1;go_wp2_with fail
 refine(zah W0 w1 W0.1.size a len cap 6 HO.o hlen HD1.o.cur dC dC).mono ?_;rintro e w2 ⟨x,hx,rfl,D2⟩;have HD2:=hide (HD1.o.trans D2);have s2:w1.1.size<=w2.1.size:=D2.2.size;clear D2 HD1;go_wp2_with fail
 refine(za6 W0 w2 W0.1.size a len cap 8 HO.o hlen HD2.o.cur dC dC).mono ?_;rintro e w3 ⟨y,rfl,D3⟩;have HD3:=hide (HD2.o.trans D3);have s3:w2.1.size<=w3.1.size:=D3.2.size;clear D3 HD2
 cases hy:(y==0)with
 | false =>
  clear hy;go_wp2_with fail
  refine(zke W0 w3 W0.1.size a len cap HO.o hlen HD3.o.cur oM).mono ?_;rintro e w5 ⟨tv,ts,rfl,T5,n1,n2,hs,D5⟩;obtain⟨g,cp,rfl,-,-,hg1,hg2,-⟩:=T5.at 0 (by rw[zae];omega);have HT5:=hide T5;have HS5:=hide (And.intro n1 (And.intro n2 hs));have HD5:=hide (HD3.o.trans D5);have s5:w3.1.size<=w5.1.size:=D5.2.size;obtain⟨nn,hnn⟩:∃nn,(stc ts).length=nn:=⟨_,rfl⟩
  rw[hnn]at HT5;clear T5 D5 n1 n2 hs HD3;go_wp2_with fail
  refine(ziv W0 w5 W0.1.size a len cap 21 HO.o hlen HD5.o.cur oM dC dC).mono ?_;rintro e w6 ⟨z,hz1,hz2,rfl,D6⟩;have HT6:=hide (HT5.o.grown D6.2 (fun j hj e=>by cases e;have:=(HT5.o.lt _ hj).1;omega));have HD6:=hide (HD5.o.trans D6);have HZ:=hide (And.intro hz1 hz2);have s6:w5.1.size<=w6.1.size:=D6.2.size;clear D6 HT5 HD5 hz1 hz2 hg2;go_wp2_with fail
  refine(zhl x 66 _ oM dC).mono ?_;rintro e w7 ⟨t,ht,rfl,B7⟩;have HT7:=hide (HT6.o.below B7 nR);have HB7:=hide (HD6.o.1.2.1.trans (B7.mono HD6.o.1.2.1.size));have HR:=hide (hR w7 HB7.o);have HZT:=hide (show t.size<=1000 by omega);have r0:=HR.o.1.cell 0;have f0:=HR.o.1.frozen 0;have hl:=HR.o.1.lt;simp at r0;clear B7 HT6 HD6 ht;go_wp2;exact bodyPost_ret (v:=.tuple #[.agg #[.slice (some ⟨g,0,none⟩) nn cp],.int .i64 z,.string t]) (by simp[results,go_sem,r0]) rfl ⟨_,ts,z,t,rfl,(HT7.o.setCell_other (b:=w.1.size) oM _).base_le oM,HS5.o.1,HS5.o.2.1,HS5.o.2.2,HZ.o.1,HZ.o.2,HZT.o,HR.o.2.setCell sI _⟩
 | true =>
  clear hy;go_wp2_with fail
  refine(zah W0 w3 W0.1.size a len cap 2 HO.o hlen HD3.o.cur dC dC).mono ?_;rintro e w4 ⟨q,hq,rfl,D4⟩;have HD4:=hide (HD3.o.trans D4);have s4:w3.1.size<=w4.1.size:=D4.2.size;have wq:IntKind.i64.wrap (60+(q:Int))=((60+q:Nat):Int):=by rw[zcg oM oM];omega
  clear D4 HD3;go_wp2_with fail
  refine(zke W0 w4 W0.1.size a len cap HO.o hlen HD4.o.cur oM).mono ?_;rintro e w5 ⟨tv,ts,rfl,T5,n1,n2,hs,D5⟩;obtain⟨g,cp,rfl,-,-,hg1,hg2,-⟩:=T5.at 0 (by rw[zae];omega);have HT5:=hide T5;have HS5:=hide (And.intro n1 (And.intro n2 hs));have HD5:=hide (HD4.o.trans D5);have s5:w4.1.size<=w5.1.size:=D5.2.size;obtain⟨nn,hnn⟩:∃nn,(stc ts).length=nn:=⟨_,rfl⟩
  rw[hnn]at HT5;clear T5 D5 n1 n2 hs HD4;go_wp2_with fail
  refine(ziv W0 w5 W0.1.size a len cap 21 HO.o hlen HD5.o.cur oM dC dC).mono ?_;rintro e w6 ⟨z,hz1,hz2,rfl,D6⟩;have HT6:=hide (HT5.o.grown D6.2 (fun j hj e=>by cases e;have:=(HT5.o.lt _ hj).1;omega));have HD6:=hide (HD5.o.trans D6);have HZ:=hide (And.intro hz1 hz2);have s6:w5.1.size<=w6.1.size:=D6.2.size;clear D6 HT5 HD5 hz1 hz2 hg2;go_wp2_with fail
  refine(zhl (60+q) 66 _ oM dC).mono ?_;rintro e w7 ⟨t,ht,rfl,B7⟩;have HT7:=hide (HT6.o.below B7 nR);have HB7:=hide (HD6.o.1.2.1.trans (B7.mono HD6.o.1.2.1.size));have HR:=hide (hR w7 HB7.o);have HZT:=hide (show t.size<=1000 by omega);have r0:=HR.o.1.cell 0;have f0:=HR.o.1.frozen 0;have hl:=HR.o.1.lt;simp at r0;clear B7 HT6 HD6 ht;go_wp2;exact bodyPost_ret (v:=.tuple #[.agg #[.slice (some ⟨g,0,none⟩) nn cp],.int .i64 z,.string t]) (by simp[results,go_sem,r0]) rfl ⟨_,ts,z,t,rfl,(HT7.o.setCell_other (b:=w.1.size) oM _).base_le oM,HS5.o.1,HS5.o.2.1,HS5.o.2.2,HZ.o.1,HZ.o.2,HZT.o,HR.o.2.setCell sI _⟩
namespace Wu
def zbf(j:Nat)(xs:List ByteArray):List ByteArray:=xs.take j++List.replicate (xs.length-j) ByteArray.empty
theorem zd4(j:Nat)(xs:List ByteArray)(h:j<=xs.length):(zbf j xs).length=xs.length:=by simp[zbf];omega
theorem zjo(xs:List ByteArray):zbf 0 xs=List.replicate xs.length ByteArray.empty:=by simp[zbf]
theorem zln(xs:List ByteArray):zbf xs.length xs=xs:=by simp[zbf]
theorem zjp(j:Nat)(xs:List ByteArray)(h:j<xs.length):(stc (zbf j xs))[j]?=some (.string ByteArray.empty):=by
 unfold stc zbf;have e:(List.map (fun z=>Value.string z) (xs.take j)).length=j:=by simp;omega
 rw[List.map_append,List.getElem?_append_right oM,e,Nat.sub_self,List.map_replicate,List.getElem?_replicate,if_pos oM]
theorem zlo(j:Nat)(xs:List ByteArray)(h:j<xs.length):(stc (zbf j xs)).set j (.string xs[j])=stc (zbf (j+1) xs):=by
 have e:(zbf j xs).set j xs[j]=zbf (j+1) xs:=by
  unfold zbf;rw[List.set_append_right _ _ sO,List.take_succ_eq_append_getElem h,List.length_take,Nat.min_eq_left oM,Nat.sub_self,show xs.length-j=(xs.length-(j+1))+1 by omega,List.replicate_succ,List.set_cons_zero,List.append_assoc];rfl
 rw[←e];simp[stc,List.map_set]
theorem zlp(w:World)(xs:List ByteArray)(h:xs.length<=8388608)(e:TypeId):ROwns (w.alloc (.cells (madeCells #[.string ByteArray.empty] xs.length) e)) w.1.size e (.slice (some ⟨w.1.size,0,none⟩) xs.length xs.length) (stc (zbf 0 xs)):=by
 have e1:(madeCells #[.string ByteArray.empty] xs.length).toList=stc (zbf 0 xs):=by rw[toList_madeCells_one,zjo];simp[stc]
 have e2:(madeCells #[.string ByteArray.empty] xs.length).size=xs.length:=by rw[←Array.length_toList,e1,zae,zd4 0 xs (Nat.zero_le _)]
 have:=ROwns.lit w w.1.size e (madeCells #[.string ByteArray.empty] xs.length) nR (by rw[e2];unfold maxLen;omega)
 rwa[e1,e2]at this
theorem ze7{wr:World}{base g n:Nat}{e:TypeId}{j:Nat}{xs:List ByteArray}(hn:xs.length=n)(hj:j<n)(h:ROwns wr base e (.slice (some ⟨g,0,none⟩) n n) (stc (zbf j xs))):
  ROwns (wr.setCell ⟨g,j,none⟩ (.string (xs[j]'oM))) base e (.slice (some ⟨g,0,none⟩) n n) (stc (zbf (j+1) xs))/\wr.cell? ⟨g,j,none⟩=some (.string ByteArray.empty)/\wr.frozen? ⟨g,j,none⟩=false/\g<wr.1.size:=by
 have hml:(stc (zbf j xs)).length=n:=by rw[zae,zd4 j xs oM,hn]
 obtain⟨g2,c2,e1,q2,q3,-,q5,-⟩:=h.at j oM;rw[zjp j xs oM]at q2;simp only[Value.slice.injEq,Option.some.injEq,Addr.mk.injEq]at e1;obtain⟨⟨rfl,-,-⟩,-,rfl⟩:=e1;have O1:ROwns wr base e (.slice (some ⟨g,0,none⟩) (stc (zbf j xs)).length n) (stc (zbf j xs)):=by rw[hml];exact h
 have O2:=O1.stored j (.string (xs[j]'oM));rw[zlo j xs oM,hml]at O2;exact⟨O2.1,q2,q3,q5⟩
theorem make_st(n:Nat)(h:n<=8388608)(w:World):(Instr.makeSlice 44 (.int .i64 (n:Int)) (.int .i64 (n:Int))).run Tryz.prog w=.ok (.slice (some ⟨w.1.size,0,none⟩) n n) (w.alloc (.cells (madeCells #[.string ByteArray.empty] n) 9)) :=
 run_make_row' 44 9 (.string ByteArray.empty) 16 Tryz.u44 Tryz.i9 rfl .i64 .i64 n oM oM w
theorem zej(v:Value)(xs:List ByteArray)(w:World)(hv:RSt w v xs)(hl:xs.length<=1048576)(hs:∀(j:Nat)(h:j<xs.length),xs[j].size<=1048576):
  Calls Tryz.prog 18 #[.agg #[v]] w fun e w'=>e=.returned (.bool (okD xs))/\Below w.1.size w w':=by
 obtain⟨a,c,rfl,hc⟩:=hv;have HC:=hide hc;have HS:=hide hs;obtain⟨r,hr⟩:∃r,okD xs=r:=⟨_,rfl⟩
 rw[hr];have HR:=hide hr;clear hc hs hr;have hB:=(Below.refl w.1.size w).alloc nR (.cells #[.slice a xs.length c] 46);have c0:=(AtO.new 46 w (.slice a xs.length c)).cell;have l0:=(AtO.new 46 w (.slice a xs.length c)).lt;obtain⟨W,hW⟩:∃W,w.alloc (.cells #[.slice a xs.length c] 46)=W:=⟨_,rfl⟩
 rw[hW]at hB c0 l0;have HB:=hide hB;clear hB;by_cases h21:xs.length=21
 ·have b21:((xs.length:Int)==21)=true:=by simp;omega
  have H21:=hide h21;clear h21;go_enter Tryz.func18,Tryz.ntmps18
  go_wp2;go_loopw [12] (fun i wr=>∃j:Nat,j<=xs.length/\i=.int .i64 j/\Hid (∀(k:Nat)(h:k<xs.length),k<j->xs[k].size<=60)/\W=wr) (fun i _=>xs.length-(intOf i).toNat)
  case atStart=>exact⟨0,Nat.zero_le _,rfl,fun _ _ h=>absurd h (Nat.not_lt_zero _),rfl⟩
  case round =>
   obtain⟨j,hj,rfl,HK,rfl⟩:=hrel;clear hW;by_cases hlt:j<xs.length
   ·exact cQ29
   ·have HF:=hide (zj5 HK.o oM);go_wp2;go_ret;exact⟨by rw[←HR.o,zib HF.o,H21.o];rfl,HB.o⟩
 ·have b21:((xs.length:Int)==21)=false:=by simp;omega
  go_enter Tryz.func18,Tryz.ntmps18
  go_wp2;go_ret;exact⟨by rw[←HR.o,okD_len h21];rfl,HB.o⟩
theorem zkf(v:Value)(xs:List ByteArray)(w:World)(hv:RSt w v xs)(hl:xs.length<=1048576)(hs:∀(j:Nat)(h:j<xs.length),xs[j].size<=1048576):
  Calls Tryz.prog 48 #[v] w fun e w'=>e=.returned (.slice (some ⟨w.1.size,0,none⟩) xs.length xs.length)/\ROwns w' w.1.size 9 (.slice (some ⟨w.1.size,0,none⟩) xs.length xs.length) (stc xs)/\Below w.1.size w w':=by
 obtain⟨a,c,rfl,hc⟩:=hv;have HC:=hide hc;have HS:=hide hs;clear hc hs;have mk:=make_st xs.length oM;go_enter Tryz.func48,Tryz.ntmps48
 go_wp2;go_loopw [11] (fun i wr=>∃j:Nat,j<=xs.length/\i=.int .i64 j/\ROwns wr w.1.size 9 (.slice (some ⟨w.1.size,0,none⟩) xs.length xs.length) (stc (zbf j xs))/\Below w.1.size w wr) (fun i _=>xs.length-(intOf i).toNat)
 case atStart=>exact⟨0,Nat.zero_le _,rfl,zlp w xs oM 9,(Below.refl _ w).alloc nR _⟩
 case round =>
  obtain⟨j,hj,rfl,hown,hb⟩:=hrel;by_cases hlt:j<xs.length
  ·obtain⟨g,off,rfl,hg,k1⟩:=HC.o j hlt;have q1:wr.cell? ⟨g,off+j,none⟩=some (.string xs[j]):=(hb.cell (p:=⟨g,off+j,none⟩) hg).trans k1;have hgt:=HS.o j hlt;obtain⟨t,ht⟩:∃t,xs[j]=t:=⟨_,rfl⟩
   have HN:Hid (∀w1,Below wr.1.size wr w1->ROwns (w1.setCell ⟨w.1.size,j,none⟩ (.string t)) w.1.size 9 (.slice (some ⟨w.1.size,0,none⟩) xs.length xs.length) (stc (zbf (j+1) xs))/\Below w.1.size w (w1.setCell ⟨w.1.size,j,none⟩ (.string t))/\w1.cell? ⟨w.1.size,j,none⟩=some (.string ByteArray.empty)/\w1.frozen? ⟨w.1.size,j,none⟩=false/\w.1.size<w1.1.size):=fun w1 b1=>by
    obtain⟨O2,q2,q3,q4⟩:=ze7 rfl hlt (hown.below b1 nR);rw[ht]at O2;exact⟨O2,(hb.trans (b1.mono hb.size)).setCell (p:=⟨w.1.size,j,none⟩) nR (.string t),q2,q3,q4⟩
   rw[ht]at q1 hgt;have hg2:g<wr.1.size:=by have:=hb.size;omega
   have hcl:t.size<=281474976710656:=by omega
   have j0:(0:Int)<=(j:Int):=by omega
   have j1:(j:Int)<(xs.length:Int):=by omega
   clear hown hb ht k1 mk;go_wp2_with (go_at_call 54;refine(zdr t _ hcl).mono ?_;rintro e w1 ⟨rfl,b1⟩;obtain⟨n1,n2,n3,n4,n5⟩:=HN.o _ b1;have N1:=hide (And.intro n1 n2);clear n1 n2 b1)
   go_roundw
   case rel=>exact⟨j+1,by omega,by go_num,N1.out.1,N1.out.2⟩
   case measure=>simp[intOf];omega
  ·have hjl:j=xs.length:=by omega
   have HR:=hide (And.intro hown hb);have HJ:=hide hjl;clear hown hb hjl mk;go_wp2;go_ret;exact⟨rfl,by have:=HR.o.1;rwa[HJ.o,zln]at this,HR.o.2⟩
theorem zlq(u:Int)(w:World):Calls Tryz.prog 47 #[.int .i64 u] w fun e w'=>e=.returned (.bool (decide (0<=u)&&decide (u<21)))/\w=w':=by
 by_cases h:0<=u
 ·have b0:decide (0<=u)=true:=by simpa using h
  rw[b0,Bool.true_and];go_enter Tryz.func47,Tryz.ntmps47
  go_wp2;go_ret;exact⟨rfl,rfl⟩
 ·have b0:decide (0<=u)=false:=by simpa using h
  rw[b0,Bool.false_and];go_enter Tryz.func47,Tryz.ntmps47
  go_wp2;go_ret;exact⟨rfl,rfl⟩
theorem zlr(g n k:Nat)(w:World)(hk:k<n)(hn:n<=1048576):Calls Tryz.prog 49 #[.slice (some ⟨g,0,none⟩) n n,.int .i64 (k:Int)] w fun e w'=>e=.returned (.slice (some ⟨g,k,none⟩) 1 1)/\w=w':=by
 have n0:(k:Int)+1<=(n:Int):=by omega
 have n1:(k:Int)<=(n:Int):=by omega
 have n2:((k:Int)+1).toNat=k+1:=by omega
 go_enter Tryz.func49,Tryz.ntmps49
 go_wp2;go_ret;exact⟨by go_num,rfl⟩
theorem zls(s:ByteArray)(v:Value)(w:World)(hv:RSt w v [s])(hs:s.size<=1048576):
  Calls Tryz.prog 48 #[v] w fun e w'=>e=.returned (.slice (some ⟨w.1.size,0,none⟩) 1 1)/\w'.cell? ⟨w.1.size,0,none⟩=some (.string s)/\Below w.1.size w w':=by
 refine(zkf v [s] w hv sI (fun j hj=>by match j,hj with| 0,_=>exact hs)).mono ?_;rintro e w' ⟨rfl,h2,h3⟩;refine⟨rfl,?_,h3⟩;obtain⟨g,c,e1,k1,-⟩:=h2.at 0 (by simp[stc]);simp only[Value.slice.injEq,Option.some.injEq,Addr.mk.injEq]at e1;obtain⟨⟨rfl,-,-⟩,-,-⟩:=e1;rw[k1];rfl
theorem Tryz.i9s:(Tryz.prog.info? 9).map (fun i=>i.size)=some 1:=by kernel_rfl
theorem copy_one(w:World)(g k:Nat)(a:Addr)(xs:List ByteArray)(s:ByteArray)(hW:w.1[g]?=some (.cells (stc xs).toArray 9 (0,0)))(hk:k<xs.length)(hs:w.cell? a=some (.string s)):
  ∃w',(Builtin.copy_ #[44,44] 3 #[.slice (some ⟨g,k,none⟩) 1 1,.slice (some a) 1 1]).run Tryz.prog w=.ok (goInt 1) w'/\w'.1[g]?=some (.cells (stc (xs.set k s)).toArray 9 (0,0))/\∀B w0,Below B w0 w->B<=g->Below B w0 w':=by
 have h:=run_copy_row (P:=Tryz.prog) w 44 44 3 9 g k 1 1 a 1 1 (stc xs).toArray 9 [.string s] Tryz.u44 Tryz.i9s hW (by rfl) (fun j y hj=>by
  match j,hj with
  | 0,hj=>simp at hj;subst hj;simpa[Addr.add]using hs) (by simp[zae];omega) (fun y hy=>by simp at hy;subst hy;rfl)
 refine⟨_,h,?_,fun B w0 hb hB=>below_setRow hb hB _⟩;have e:((stc xs).toArray.toList.take k++[Value.string s]++(stc xs).toArray.toList.drop (k+[Value.string s].length)).toArray=(stc (xs.set k s)).toArray:=by
  rw[←zk5 xs k s hk];simp[splice]
 rw[e];exact setRow_heap w g _ _ 9 _ hW
theorem zhm(v:Value)(xs:List ByteArray)(u:Int)(s:ByteArray)(w:World)(hv:RSt w v xs)(hl:xs.length<=1048576)(hs:∀(j:Nat)(h:j<xs.length),xs[j].size<=1048576)(hz:s.size<=1048576):
  Calls Tryz.prog 16 #[.agg #[v],.int .i64 u,.string s] w fun e w'=>∃v',e=.returned (.tuple #[.agg #[v'],.bool (okW xs u s)])/\ROwns w' w.1.size 9 v' (stc (wrD xs u s))/\Below w.1.size w w':=by
 obtain⟨a,c,rfl⟩:=hv.form;obtain⟨r,hr⟩:∃r,okD xs=r:=⟨_,rfl⟩
 obtain⟨q,hq⟩:∃q,(decide (0<=u)&&decide (u<21))=q:=⟨_,rfl⟩
 have HR:=hide hr;have HQ:=hide hq;have C1:=hide (fun(v:Value)(w:World)(hv:RSt w v xs)=>zej v xs w hv hl hs);have C2:=hide (zlq u);have C3:=hide (fun(v:Value)(w:World)(hv:RSt w v xs)=>zkf v xs w hv hl hs);rw[hr]at C1;rw[hq]at C2;have HV:=hide hv;clear hs hr hq hv;go_enter Tryz.func16,Tryz.ntmps16
 go_wp2_with fail
 refine(C1.out _ _ ((HV.o.alloc _).alloc _)).mono ?_;rintro e w1 ⟨rfl,B1⟩;have X1:AtO 46 w1 w.1.size (.slice a xs.length c):=((AtO.new 46 w _).alloc _).below B1 sO;have X2:AtO 46 w1 (w.1.size+1) (.slice none 0 0):=by
  have:=(AtO.new 46 (w.alloc (.cells #[.slice a xs.length c] 46)) (.slice none 0 0)).below B1 sI
  rwa[World.size_alloc]at this
 have X3:Below w.1.size w w1:=(((Below.refl _ w).alloc nR _).alloc sI _).trans (B1.mono sO);have X4:=HV.o.below X3 nR;have c0:=X1.cell;have l0:=X1.lt;have l2:w.1.size+1<w1.1.size:=X2.lt;have H1:=hide (And.intro X2 (And.intro X3 X4));have CN:=hide (C3.out _ w1 X4);clear B1 X1 X2 X3 X4 C1 C3 HV;have hend:Hid (∀w2,ROwns w2 w1.1.size 9 (.slice (some ⟨w1.1.size,0,none⟩) xs.length xs.length) (stc xs)->Below w1.1.size w1 w2->AtO 46 w2 (w.1.size+1) (.slice none 0 0)/\Below w.1.size w w2/\w1.1.size<w2.1.size):=fun w2 h1 h2=>⟨H1.o.1.below h2 l2,H1.o.2.1.trans (h2.mono oM),(h1.lt _ rfl).2⟩
 by_cases hok:okW xs u s=true
 ·have e1:=hide hok;have HA:Hid (r=true/\q=true/\s.size<=60):=by
   have h:=hok;unfold okW at h;rw[HR.o,HQ.o]at h;simp at h;exact⟨h.1.1,h.1.2,h.2⟩
  obtain rfl:=HA.o.1;obtain rfl:=HA.o.2.1;have h60:=HA.o.2.2;obtain⟨k,hk,rfl⟩:∃k:Nat,k<21/\u=k:=by have:=HQ.o;simp at this;exact⟨u.toNat,by omega,by omega⟩
  have hkx:k<xs.length:=by have h:=HR.o;unfold okD at h;simp at h;omega
  have HK:=hide hkx;clear hok hkx;go_wp2_with (go_at_call 47;refine(C2.out _).mono ?_;rintro e w3 ⟨rfl,rfl⟩)
  refine CN.out.mono ?_;rintro e w2 ⟨rfl,O2,B2⟩;have HO2:=hide (And.intro O2 B2);obtain⟨Y2,Y3,Y4⟩:=hend.out w2 O2 B2;have HY:=hide (And.intro Y2 Y3);clear O2 B2 Y2 Y3;go_wp2_with (go_at_call 49;refine(zlr _ _ k _ HK.o hl).mono ?_;rintro e w3 ⟨rfl,rfl⟩)
  have L2:RSt (w2.alloc (.cells #[.string s] 9)) (.slice (some ⟨w2.1.size,0,none⟩) 1 1) [s]:=ROwns.rst (xs:=[s]) (ROwns.lit w2 w2.1.size 9 #[.string s] nR (by simp[maxLen]));refine(zls s _ _ L2 hz).mono ?_;rintro e w3 ⟨rfl,O3,B3⟩;rw[World.size_alloc]at O3;have W2:w2.1[w1.1.size]?=some (.cells (stc xs).toArray 9 (0,0)):=by
   have:=HO2.o.1;exact ROwns.whole (by rw[zae];exact this)
  have b3:Below w1.1.size w1 w3:=(HO2.o.2.alloc oM (.cells #[.string s] 9)).trans (B3.mono sO);have W3:w3.1[w1.1.size]?=some (.cells (stc xs).toArray 9 (0,0)):=(B3.block _ sO).trans ((Below.heap_alloc _ _ _ Y4).trans W2);have H3:=hide (And.intro b3 W3);have HO3:=hide O3;clear L2 W2 W3 b3 B3 O3 c0 l0;obtain⟨w4,hcp,W4,R0⟩:=copy_one w3 w1.1.size k ⟨w2.1.size+1,0,none⟩ xs s H3.o.2 HK.o HO3.o;have R2:=R0 w1.1.size w1 H3.o.1 nR;have Y5:=H1.o.1.below R2 l2;have d5:=Y5.cell;have f5:=Y5.frozen;have k5:=Y5.lt;have HR1:=hide (And.intro W4 R2);clear R0 R2 Y5 W4;go_wp2;have W4:=HR1.o.1;have O4:ROwns w4 w1.1.size 9 (.slice (some ⟨w1.1.size,0,none⟩) xs.length xs.length) (stc (xs.set k s)):=by
   have:=zk4 (base:=w1.1.size) W4 nR (by rw[zae,List.length_set];unfold maxLen;omega)
   rwa[zae,List.length_set]at this
  refine bodyPost_ret (v:=.tuple #[.agg #[.slice (some ⟨w1.1.size,0,none⟩) xs.length xs.length],.bool true]) (by simp[results,go_sem,d5]) rfl ⟨_,by rw[e1.out],?_,?_⟩
  ·rw[zjh e1.out];exact(O4.setCell_other oM _).base_le oM
  ·exact(H1.o.2.1.trans (HR1.o.2.mono oM)).setCell sI _
 ·have e1:Hid (okW xs u s=false):=hide (by simpa using hok);have HA:Hid (r=true->q=true->¬s.size<=60):=fun h1 h2 h3=>hok (by unfold okW;rw[HR.o,HQ.o,h1,h2];simpa using h3);clear hok;have fin:Hid (∀w2,ROwns w2 w1.1.size 9 (.slice (some ⟨w1.1.size,0,none⟩) xs.length xs.length) (stc xs)->Below w1.1.size w1 w2->ROwns (w2.setCell ⟨w.1.size+1,0,none⟩ (.slice (some ⟨w1.1.size,0,none⟩) xs.length xs.length)) w.1.size 9 (.slice (some ⟨w1.1.size,0,none⟩) xs.length xs.length) (stc (wrD xs u s))/\Below w.1.size w (w2.setCell ⟨w.1.size+1,0,none⟩ (.slice (some ⟨w1.1.size,0,none⟩) xs.length xs.length))):=fun w2 h1 h2=>by
   rw[zic e1.out];exact⟨(h1.setCell_other oM _).base_le oM,(hend.out w2 h1 h2).2.1.setCell sI _⟩
  cases r with
  | false =>
   go_wp2_with fail
   refine CN.out.mono ?_;rintro e w2 ⟨rfl,O2,B2⟩;obtain⟨Y2,Y3,Y4⟩:=hend.out w2 O2 B2;have d5:=Y2.cell;have f5:=Y2.frozen;have k5:=Y2.lt;have HF:=hide (fin.out w2 O2 B2);clear Y2 Y3 O2 B2;go_wp2;exact bodyPost_ret (v:=.tuple #[.agg #[.slice (some ⟨w1.1.size,0,none⟩) xs.length xs.length],.bool false]) (by simp[results,go_sem,d5]) rfl ⟨_,by rw[e1.out],HF.o.1,HF.o.2⟩
  | true =>
   cases q with
   | false =>
    go_wp2_with (go_at_call 47;refine(C2.out _).mono ?_;rintro e w3 ⟨rfl,rfl⟩)
    refine CN.out.mono ?_;rintro e w2 ⟨rfl,O2,B2⟩;obtain⟨Y2,Y3,Y4⟩:=hend.out w2 O2 B2;have d5:=Y2.cell;have f5:=Y2.frozen;have k5:=Y2.lt;have HF:=hide (fin.out w2 O2 B2);clear Y2 Y3 O2 B2;go_wp2;exact bodyPost_ret (v:=.tuple #[.agg #[.slice (some ⟨w1.1.size,0,none⟩) xs.length xs.length],.bool false]) (by simp[results,go_sem,d5]) rfl ⟨_,by rw[e1.out],HF.o.1,HF.o.2⟩
   | true =>
    have h60:=HA.o rfl rfl;go_wp2_with (go_at_call 47;refine(C2.out _).mono ?_;rintro e w3 ⟨rfl,rfl⟩)
    refine CN.out.mono ?_;rintro e w2 ⟨rfl,O2,B2⟩;obtain⟨Y2,Y3,Y4⟩:=hend.out w2 O2 B2;have d5:=Y2.cell;have f5:=Y2.frozen;have k5:=Y2.lt;have HF:=hide (fin.out w2 O2 B2);clear Y2 Y3 O2 B2;go_wp2;exact bodyPost_ret (v:=.tuple #[.agg #[.slice (some ⟨w1.1.size,0,none⟩) xs.length xs.length],.bool false]) (by simp[results,go_sem,d5];omega) rfl ⟨_,by rw[e1.out],HF.o.1,HF.o.2⟩
end Wu
namespace Wu
theorem eqS_same(va vb:Value)(l:List ByteArray)(w:World)(ha:RSt w va l)(hb:RSt w vb l)(hl:l.length<=1000000000):
  Calls Tryz.prog 25 #[va,vb] w fun e w'=>e=.returned (.bool true)/\Below w.1.size w w':=by
 obtain⟨a1,c1,rfl,ha⟩:=ha;obtain⟨a2,c2,rfl,hb⟩:=hb;have HA:=hide ha;have HB:=hide hb;clear ha hb;go_enter Tryz.func25,Tryz.ntmps25
 go_wp2;go_loopw [5] (fun i wr=>∃j:Nat,j<=l.length/\i=.int .i64 j/\∃q,wr=w.drewN q) (fun i _=>l.length-(intOf i).toNat)
 case atStart=>exact⟨0,Nat.zero_le _,rfl,0,rfl⟩
 case round =>
  obtain⟨j,hj,rfl,q,rfl⟩:=hrel;by_cases hlt:j<l.length
  ·obtain⟨g1,o1,rfl,_,k1⟩:=HA.o j hlt;obtain⟨g2,o2,rfl,_,k2⟩:=HB.o j hlt;obtain⟨t,ht⟩:∃t,l[j]=t:=⟨_,rfl⟩
   rw[ht]at k1 k2;clear ht;have j0:(0:Int)<=(j:Int):=by omega
   have j1:(j:Int)<(l.length:Int):=by omega
   go_wp2;go_quiet(fail)
   go_wp2;go_roundw
   case rel=>exact⟨j+1,by omega,by go_num,_,rfl⟩
   case measure=>simp[intOf];omega
  ·go_wp2;go_ret;exact⟨rfl,below_drewN bR _⟩
theorem zoh(va vb:Value)(l:List ByteArray)(w:World)(ha:RSt w va l)(hb:RSt w vb l)(hl:l.length<=1000000000):
  Calls Tryz.prog 20 #[.agg #[va],.agg #[vb]] w fun e w'=>e=.returned (.bool true)/\Below w.1.size w w':=by
 obtain⟨a1,c1,rfl⟩:=ha.form;obtain⟨a2,c2,rfl⟩:=hb.form;obtain⟨W,hW⟩:∃W,(w.alloc (.cells #[.slice a1 l.length c1] 46)).alloc (.cells #[.slice a2 l.length c2] 46)=W:=⟨_,rfl⟩
 have HB:Hid (Below w.1.size w W/\RSt W (.slice a1 l.length c1) l/\RSt W (.slice a2 l.length c2) l):=by
  rw[←hW];exact⟨((Below.refl _ w).alloc nR _).alloc sI _,(ha.alloc _).alloc _,(hb.alloc _).alloc _⟩
 have c0:W.cell? ⟨w.1.size,0,none⟩=some (.slice a1 l.length c1):=by rw[←hW];exact((AtO.new 46 w _).alloc _).cell
 have c1':W.cell? ⟨w.1.size+1,0,none⟩=some (.slice a2 l.length c2):=by
  rw[←hW];have:=(AtO.new 46 (w.alloc (.cells #[.slice a1 l.length c1] 46)) (.slice a2 l.length c2)).cell
  rwa[World.size_alloc]at this
 clear ha hb;go_enter Tryz.func20,Tryz.ntmps20
 go_wp2_with fail
 refine(eqS_same _ _ l W HB.o.2.1 HB.o.2.2 hl).mono ?_;rintro e w1 ⟨rfl,B1⟩;have HE:=hide (HB.o.1.trans (B1.mono HB.o.1.size));clear B1 hW;go_wp2;go_ret;exact⟨rfl,HE.o⟩
theorem big_no(a:Option Addr)(len cap:Nat)(w:World)(h:len<=1048576):Calls Tryz.prog 7 #[.slice a len cap] w fun e w'=>e=.returned (.bool false)/\w=w':=by
 have hb:decide ((1048576:Int)<(len:Int))=false:=by simp;omega
 go_enter Tryz.func7,Tryz.ntmps7
 go_wp2;go_ret;exact⟨rfl,rfl⟩
theorem big_yes(a:Option Addr)(len cap:Nat)(w:World)(h:¬len<=1048576):Calls Tryz.prog 7 #[.slice a len cap] w fun e w'=>e=.returned (.bool true)/\w=w':=by
 have hb:decide ((1048576:Int)<(len:Int))=true:=by simp;omega
 go_enter Tryz.func7,Tryz.ntmps7
 go_wp2;go_ret;exact⟨rfl,rfl⟩
theorem RSt.at{w:World}{a:Option Addr}{n c:Nat}{xs:List ByteArray}(h:RSt w (.slice a n c) xs)(j:Nat)(hj:j<xs.length):∃g off,a=some ⟨g,off,none⟩/\g<w.1.size/\w.cell? ⟨g,off+j,none⟩=some (.string xs[j]):=by
 obtain⟨a',c',e,hc⟩:=h;simp only[Value.slice.injEq]at e;obtain⟨rfl,-,-⟩:=e;exact hc j hj
theorem zhn{xs:List ByteArray}:okD xs=true↔(xs.length=21/\∀t∈xs,t.size<=60):=by
 unfold okD zbq;rw[Bool.and_eq_true,beq_iff_eq,List.all_eq_true];exact⟨fun h=>⟨h.1,fun t ht=>of_decide_eq_true (h.2 t ht)⟩,fun h=>⟨h.1,fun t ht=>decide_eq_true (h.2 t ht)⟩⟩
theorem okD_set{xs:List ByteArray}{k:Nat}{t:ByteArray}(h:okD xs=true)(ht:t.size<=60):okD (xs.set k t)=true:=by
 obtain⟨h1,h2⟩:=zhn.1 h;exact zhn.2 ⟨by rw[List.length_set];exact h1,fun x hx=>(List.mem_or_eq_of_mem_set hx).elim (h2 x) (fun e=>e ▸ ht)⟩
structure Ug(w wi:World)(vd vg vs:Value)(bd bg bs:Nat)(xs ys:List ByteArray):Prop where
 b:Below w.1.size w wi
 d:AtO 46 wi bd vd
 g:AtO 46 wi bg vg
 s:AtO 46 wi bs vs
 rd:RSt wi vd xs
 rg:RSt wi vg ys
theorem Ug.over{w wi wj:World}{vd vg vs:Value}{bd bg bs:Nat}{xs ys:List ByteArray}(h:Ug w wi vd vg vs bd bg bs xs ys)(hb:Below wi.1.size wi wj):Ug w wj vd vg vs bd bg bs xs ys :=
 ⟨h.b.trans (hb.mono h.b.size),h.d.below hb h.d.lt,h.g.below hb h.g.lt,h.s.below hb h.s.lt,h.rd.below hb nR,h.rg.below hb nR⟩
end Wu
namespace fnUnitWrites
open Wu
theorem walk(a:Option Addr)(len cap:Nat)(w:World)(hcode:za2 w a len)(_hl:len<=maxLen):
  Calls Tryz.prog 4 #[.slice a len cap] w fun e w'=>e=.returned (.bool true)/\Below w.1.size w w':=by
 have HO:=hide hcode;clear hcode;by_cases hlen:len<=1048576
 rotate_left
 ·go_enter Tryz.func4,Tryz.ntmps4
  go_wp2_with fail
  refine(big_yes a len cap w hlen).mono ?_;rintro e w1 ⟨rfl,rfl⟩;go_wp2;go_ret;exact⟨rfl,Below.refl _ _⟩
 go_enter Tryz.func4,Tryz.ntmps4
 go_wp2_with fail
 refine(big_no a len cap w hlen).mono ?_;rintro e w1 ⟨rfl,rfl⟩;go_wp2_with fail
 refine(zog w a len cap HO.o hlen).mono ?_;rintro e w1 ⟨tv,ts,z,t,rfl,T1,n1,n2,hs,z1,z2,ht,B1⟩;obtain⟨a1,c1,rfl⟩:=T1.rst.form;have HT1:=hide T1.rst;have HB1:=hide B1;have HTS:Hid (ts.length<=1048576/\(∀(j:Nat)(h:j<ts.length),ts[j].size<=1048576)/\t.size<=1048576):=⟨by omega,fun j h=>by have:=hs _ (List.getElem_mem h);omega,by omega⟩
 obtain⟨bd,hbd⟩:∃b,w1.1.size=b:=⟨_,rfl⟩
 obtain⟨W1,hW1⟩:∃W1,w1.alloc (.cells #[.slice a1 ts.length c1] 46)=W1:=⟨_,rfl⟩
 have HW1:Hid (Below w.1.size w W1/\AtO 46 W1 bd (.slice a1 ts.length c1)/\RSt W1 (.slice a1 ts.length c1) ts):=by
  subst hW1 hbd;exact⟨HB1.o.alloc HB1.o.size _,AtO.new 46 w1 _,HT1.o.alloc _⟩
 have x1:=HW1.o.2.1.cell;have l1:=HW1.o.2.1.lt;obtain⟨r,hr⟩:∃r,okW ts z t=r:=⟨_,rfl⟩
 obtain⟨ys,hys⟩:∃ys,wrD ts z t=ys:=⟨_,rfl⟩
 have hyl:ys.length=ts.length:=by rw[←hys,zk6]
 have HYL:=hide hyl;have HR:=hide hr;have HYS:=hide hys;clear T1 B1 HT1 HB1 hs ht hyl n1 z1 z2;go_wp2_with fail
 clear hW1 hbd;refine(zhm _ ts z t W1 HW1.o.2.2 HTS.o.1 HTS.o.2.1 HTS.o.2.2).mono ?_;rintro e w2 ⟨vg,rfl,O2,B2⟩;rw[hr];rw[hys]at O2;obtain⟨a2,c2,rfl⟩:=O2.rst.form;have HU2:Hid (Below w.1.size w w2/\AtO 46 w2 bd (.slice a1 ts.length c1)/\RSt w2 (.slice a1 ts.length c1) ts/\RSt w2 (.slice a2 ys.length c2) ys):=⟨HW1.o.1.trans (B2.mono HW1.o.1.size),HW1.o.2.1.below B2 l1,HW1.o.2.2.below B2 nR,O2.rst⟩
 obtain⟨bg,hbg⟩:∃b,w2.1.size=b:=⟨_,rfl⟩
 obtain⟨W2,hW2⟩:∃W2,w2.alloc (.cells #[.slice a2 ys.length c2] 46)=W2:=⟨_,rfl⟩
 have HW2:Hid (Below w.1.size w W2/\AtO 46 W2 bd (.slice a1 ts.length c1)/\RSt W2 (.slice a1 ts.length c1) ts/\RSt W2 (.slice a2 ys.length c2) ys/\AtO 46 W2 bg (.slice a2 ys.length c2)):=by
  subst hW2 hbg;exact⟨HU2.o.1.alloc HU2.o.1.size _,HU2.o.2.1.alloc _,HU2.o.2.2.1.alloc _,HU2.o.2.2.2.alloc _,AtO.new 46 w2 _⟩
 clear O2 B2 HW1 HU2 x1 l1;have x2:=HW2.o.2.1.cell;have l2:=HW2.o.2.1.lt;go_wp2_with fail
 clear hW2 hbg;refine(zdy _ ts z t W2 HW2.o.2.2.1 HTS.o.1 HTS.o.2.1 HTS.o.2.2).mono ?_;rintro e w3 ⟨vs,rfl,O3,B3⟩;rw[hr];obtain⟨a3,c3,rfl⟩:=O3.rst.form;rw[hys]at O3 ⊢;obtain⟨bs,hbs⟩:∃b,w3.1.size=b:=⟨_,rfl⟩
 obtain⟨W3,hW3⟩:∃W3,w3.alloc (.cells #[.slice a3 ys.length c3] 46)=W3:=⟨_,rfl⟩
 have HU:Hid (Ug w W3 (.slice a1 ts.length c1) (.slice a2 ys.length c2) (.slice a3 ys.length c3) bd bg bs ts ys):=by
  subst hW3 hbs;obtain⟨h1,h2,h3,h4,h5⟩:=HW2.o;exact⟨(h1.trans (B3.mono h1.size)).alloc (h1.trans (B3.mono h1.size)).size _,(h2.below B3 h2.lt).alloc _,(h5.below B3 h5.lt).alloc _,AtO.new 46 w3 _,(h3.below B3 nR).alloc _,(h4.below B3 nR).alloc _⟩
 clear O3 B3 HW2 x2 l2;have CI:=hide (fun(W:World) (h:RSt W (.slice a1 ts.length c1) ts)=>zej (.slice a1 ts.length c1) ts W h HTS.o.1 HTS.o.2.1);have CS:=hide (fun(W:World) (h:RSt W (.slice a1 ts.length c1) ts)=>zco (.slice a1 ts.length c1) ts W h HTS.o.1 HTS.o.2.1);obtain⟨q,hq⟩:∃q,okD ts=q:=⟨_,rfl⟩
 rw[hq]at CI CS;have HQ:=hide hq;clear hq hr hys;have HS:Hid (∀W,Below W3.1.size W3 W->W.cell? ⟨bd,0,none⟩=some (.slice a1 ts.length c1)):=fun W hb=>(HU.o.over hb).d.cell
 cases r with
 | false =>
  have hye:Hid (ys=ts):=by rw[←HYS.o];exact zic HR.o
  have y1:=HU.o.d.cell;go_wp2;clear hW3 hbs
  go_region_held3 (fun w'=>w'.cell? ⟨bd,0,none⟩=some (.slice a1 ts.length c1)) (first| exact HS.o _ bR.drew|exact HS.o _ (zac B8)| exact HS.o _ ((zac B8).trans (B9.mono (zac B8).size))) (first| (go_at_call 18;refine(CI.out _ (HU.o.rd.below bR.drew nR)).mono ?_;rintro e w8 ⟨rfl,B8⟩)| (go_at_call 19;refine(CS.out _ (HU.o.rd.below (zac B8) nR)).mono ?_;rintro e w9 ⟨rfl,B9⟩))
  have HU9:=hide (HU.o.over ((zac B8).trans (B9.mono (zac B8).size)));clear B8 B9 HS CI CS HU y1;have y1:=HU9.o.d.cell;have y2:=HU9.o.g.cell;go_wp2_with fail
  refine(zoh _ _ ts _ (by have h:=HU9.o.rg;rwa[hye.out]at h ⊢) HU9.o.rd (by have:=HTS.o.1;omega)).mono ?_;rintro e w10 ⟨rfl,B10⟩;have HE:=hide (HU9.o.over B10).b;clear B10 HU9 y1 y2;go_wp2;go_ret;exact⟨rfl,HE.o⟩
 | true =>
  have HA:Hid (okD ts=true/\0<=z/\z<21/\t.size<=60):=by
   have h:=HR.o;unfold okW at h;simp only[Bool.and_eq_true,decide_eq_true_eq]at h;exact⟨h.1.1,h.1.2.1,h.1.2.2,h.2⟩
  obtain⟨k,hk,rfl⟩:∃k:Nat,k<21/\z=k:=⟨z.toNat,by have:=HA.o.2.1;have:=HA.o.2.2.1;omega,by have:=HA.o.2.1;omega⟩
  have h21:ts.length=21:=(zhn.1 HA.o.1).1;have hye:ys=ts.set k t:=by rw[←HYS.o,zjh HR.o];simp
  have HOK:Hid (okD ys=true):=by rw[hye];exact okD_set HA.o.1 HA.o.2.2.2
  have hky:k<ys.length:=by rw[HYL.o];omega
  have HK:Hid (ys[k]=t):=by subst hye;exact List.getElem_set_self _
  have HN:Hid (∀(j:Nat)(h1:j<ts.length)(h2:j<ys.length),j≠k->ys[j]=ts[j]):=by
   intro j h1 h2 hne;subst hye;exact List.getElem_set_ne (Ne.symm hne) _
  have y1:=HU.o.d.cell;have k0:(0:Int)<=(k:Int):=by omega
  have k9:(k:Int)<(ys.length:Int):=by omega
  have H21:=hide h21;clear hye h21;go_wp2;clear hW3 hbs
  go_region_held3 (fun w'=>w'.cell? ⟨bd,0,none⟩=some (.slice a1 ts.length c1)) (first| exact HS.o _ bR.drew|exact HS.o _ (zac B8)| exact HS.o _ ((zac B8).trans (B9.mono (zac B8).size))) (first| (go_at_call 18;refine(CI.out _ (HU.o.rd.below bR.drew nR)).mono ?_;rintro e w8 ⟨rfl,B8⟩)| (go_at_call 19;refine(CS.out _ (HU.o.rd.below (zac B8) nR)).mono ?_;rintro e w9 ⟨rfl,B9⟩))
  have HU9:=hide (HU.o.over ((zac B8).trans (B9.mono (zac B8).size)));clear B8 B9 HS CI CS HU y1;have y1:=HU9.o.d.cell;go_wp2;go_loopw [10] (fun i wr=>∃j:Nat,j<=ts.length/\i=.int .i64 j/\Below w9.1.size w9 wr) (fun i _=>ts.length-(intOf i).toNat)
  case atStart=>exact⟨0,Nat.zero_le _,rfl,Below.refl _ _⟩
  case round =>
   obtain⟨j,hj,rfl,hb⟩:=hrel;have HUr:=hide (HU9.o.over hb);have HB:=hide hb;clear y1 hb;have y1:=HUr.o.d.cell;have y2:=HUr.o.g.cell;by_cases hlt:j<ts.length
   ·have hlt2:j<ys.length:=by rw[HYL.o];exact hlt
    have j0:(0:Int)<=(j:Int):=by omega
    have j1:(j:Int)<(ts.length:Int):=by omega
    have j2:(j:Int)<(ys.length:Int):=by omega
    by_cases hjk:j=k
    ·have b0:((j:Int) != (k:Int))=false:=by simp;omega
     clear y2;go_wp2;go_quiet(fail)
     go_wp2;go_roundw
     case rel=>exact⟨j+1,by omega,by go_num,by first| exact HB.o|exact HB.o.drew|exact below_drewN HB.o _⟩
     case measure=>simp[intOf];omega
    ·have b0:((j:Int) != (k:Int))=true:=by simp;omega
     obtain⟨g1,o1,rfl,-,k1⟩:=Wu.RSt.at HUr.o.rd j hlt;obtain⟨g2,o2,rfl,-,k2⟩:=Wu.RSt.at HUr.o.rg j hlt2;rw[HN.o j hlt hlt2 hjk]at k2;obtain⟨sx,hsx⟩:∃sx,ts[j]=sx:=⟨_,rfl⟩
     rw[hsx]at k1 k2;clear hsx;go_wp2;go_quiet(fail)
     go_wp2;go_roundw
     case rel=>exact⟨j+1,by omega,by go_num,by first| exact HB.o|exact HB.o.drew|exact below_drewN HB.o _⟩
     case measure=>simp[intOf];omega
   ·have j1:¬(j:Int)<(ts.length:Int):=by omega
    obtain⟨g2,o2,rfl,-,k2⟩:=Wu.RSt.at HUr.o.rg k hky;rw[HK.o]at k2;have CO:=zej (.slice (some ⟨g2,o2,none⟩) ys.length c2) ys wr HUr.o.rg (by rw[HYL.o];exact HTS.o.1) (fun j hj=>by have:=(zhn.1 HOK.o).2 _ (List.getElem_mem hj);omega);rw[HOK.o]at CO;have HC:=hide CO;clear CO;go_wp2_with fail
    refine HC.o.mono ?_;rintro e w10 ⟨rfl,B10⟩;have HE:=hide (HUr.o.over B10).b;clear B10 HUr y1 y2 k2;go_wp2;go_ret;exact⟨rfl,HE.o⟩
end fnUnitWrites
end Go.Proofs.YtgnplpmgkegcnaaGreat
