/- Texts of the proof, bundled. -/
import Derived.Handy
import Derived.Deep.RegionHeld3
import Derived.BigQuiet
import Derived.Deep.DeepCutAuto
import Derived.Deep.CutRange
import Derived.Test.YtgnplpmgkegcnaaGreatV04
import Derived.Test.YtgnplpmgkegcnaaGreatV05
import Derived.Test.YtgnplpmgkegcnaaGreatV01
import Derived.Test.YtgnplpmgkegcnaaGreatV02
import Derived.Test.YtgnplpmgkegcnaaGreatV03
set_option maxRecDepth 100000
set_option maxHeartbeats 12800000
namespace Go.Proofs.YtgnplpmgkegcnaaGreat
open Go.RowKit Kit Xd
theorem DvOk.okD{ts:List ByteArray}(h:DvOk ts):okD ts=true:=by
 unfold Kit.okD zbv;rw[Bool.and_eq_true,beq_iff_eq,List.all_eq_true];exact⟨h.n,fun t ht=>decide_eq_true (by obtain⟨j,hj,rfl⟩:=List.getElem_of_mem ht;exact h.s j hj)⟩
theorem zno(w0 w:World)(c:Nat)(a:Option Addr)(len cap:Nat)(hcode:zbe w0 a len)(hlen:len<=1048576)(hcur:Cur 103 w0 w c a len cap)(hcw:c<w.1.size):
  Calls Tryz.prog 52 #[.pointer (some ⟨c,0,none⟩)] w fun e w'=>∃u v iv bv xs ys is bs,e=.returned (.agg #[u,v,iv,bv])/\DO w' (fun k=>w.1.size<=k) u v iv bv xs ys is bs/\DkR xs ys is bs/\Drew w0 w w' c a len cap:=by
 have HC:=hide hcur;have HO:=hide hcode;clear hcur hcode;go_enter Tryz.func52,Tryz.ntmps52
 go_wp2_with fail
 refine(zbk w0 _ c a len cap 3 HO.o hlen (za5 HC.o hcw _) dC dC).mono ?_;rintro e w1 ⟨x,rfl,D1⟩;have d1:Drew w0 w w1 c a len cap:=((Drew.refl HC.o).alloc hcw _).trans D1;have r1:AtC w1 w.1.size 30 Xd.zD:=(AtC.new w 30 _).grown D1.2 sO;have s1:w.1.size<w1.1.size:=r1.lt;have HD1:=hide d1;have HR1:=hide r1;clear D1 d1 r1 HC
 cases hx:(x==0)with
 | true =>
  clear hx;go_wp2_with fail
  refine(wild_any w0 w1 c a len cap HO.o hlen HD1.o.cur oM).mono ?_;rintro e w2 ⟨u,v,iv,bv,xs,ys,is,bs,rfl,O2,K2,D2⟩;have HO2:=hide (O2.mono (S':=fun k=>w.1.size<k) fun k hk=>by omega);have HK2:=hide K2;have HD2:=hide (HD1.o.trans D2);have HR2:=hide (HR1.o.grown D2.2 sO);clear O2 K2 D2 HD1 HR1;obtain⟨a1,c1,a2,c2,a3,c3,a4,c4,rfl,rfl,rfl,rfl⟩:=HO2.o.dr.form;have k0:=HR2.o;have r0:=k0.cell 0;have r1:=k0.cell 1;have r2:=k0.cell 2;have r3:=k0.cell 3;have f0:=k0.frozen 0;have f1:=k0.frozen 1;have f2:=k0.frozen 2;have f3:=k0.frozen 3;have hl:=k0.lt;simp only[Xd.zD]at r0 r1 r2 r3;simp at r0 r1 r2 r3;clear k0;go_wp2;refine bodyPost_ret (v:=.agg #[.slice a1 xs.length c1,.slice a2 ys.length c2,.slice a3 is.length c3,.slice a4 bs.length c4]) sR4 rfl ⟨_,_,_,_,xs,ys,is,bs,rfl,?_,HK2.o,?_⟩
  ·exact((HO2.o).of_heap fun k hk _=>by rw[heap_setCell_other _ ⟨w.1.size,3,none⟩ k _ oB,heap_setCell_other _ ⟨w.1.size,2,none⟩ k _ oB,heap_setCell_other _ ⟨w.1.size,1,none⟩ k _ oB,heap_setCell_other _ ⟨w.1.size,0,none⟩ k _ oB]).mono fun k hk=>by omega
  ·exact(((HD2.o.setCell hcw nR _).setCell hcw nR _).setCell hcw nR _).setCell hcw nR _
 | false =>
  clear hx;go_wp2_with fail
  refine(fs_any w0 w1 c a len cap HO.o hlen HD1.o.cur oM).mono ?_;rintro e w2 ⟨fv,rfl,F2,D2⟩;obtain⟨n1,o1,n2,o2,n3,o3,n4,o4,n5,o5,n6,o6,n7,o7,m,ts,rfl,M2,T2,S2,V2⟩:=F2;have HM2:=hide M2;have HT2:=hide T2;have HS2:=hide (And.intro S2 V2);have HD2:=hide (HD1.o.trans D2);have HR2:=hide (HR1.o.grown D2.2 sO);have s2:w.1.size<w2.1.size:=HR2.o.lt;clear M2 T2 S2 V2 D2 HD1 HR1;obtain⟨W2,hW2⟩:∃W2,w2.alloc (.cells (M9 m n1 o1 n2 o2 n3 o3 n4 o4 n5 o5 n6 o6 n7 ts.length o7) 119)=W2:=⟨_,rfl⟩
  obtain⟨b,hb⟩:∃b,w2.1.size=b:=⟨_,rfl⟩
  have HW2:Hid (AtC W2 b 119 (M9 m n1 o1 n2 o2 n3 o3 n4 o4 n5 o5 n6 o6 n7 ts.length o7)/\Below w2.1.size w2 W2/\Drew w0 w W2 c a len cap/\AtC W2 w.1.size 30 Xd.zD/\w.1.size<b/\b<W2.1.size):=by
   subst hW2 hb;exact⟨AtC.new w2 119 _,(Below.refl _ w2).alloc nR _,HD2.o.alloc hcw _,HR2.o.alloc _,s2,by simp⟩
  go_wp2_with fail
  clear hW2 hb;refine(zbk w0 W2 c a len cap 2 HO.o hlen HW2.o.2.2.1.cur dC dC).mono ?_;rintro e w3 ⟨y,rfl,D3⟩;have HB3:Hid (AtC w3 b 119 (M9 m n1 o1 n2 o2 n3 o3 n4 o4 n5 o5 n6 o6 n7 ts.length o7)/\Drew w0 w w3 c a len cap/\AtC w3 w.1.size 30 Xd.zD/\b<w3.1.size):=by
   obtain⟨h1,h2,h3,h4,h5,h6⟩:=HW2.o;exact⟨h1.grown D3.2 sO,h3.trans D3,h4.grown D3.2 sO,by have:=D3.2.size;omega⟩
  have hwb:w.1.size<b:=HW2.o.2.2.2.2.1;have HM3:Hid (DR w3 (.slice n1 m.1.length o1) (.slice n2 m.2.length o2) (.slice n3 m.3.length o3) (.slice n4 m.4.length o4) m.xs m.ys m.is m.bs/\RSt w3 (.slice n7 ts.length o7) ts):=by
   have hk:∀k,w1.1.size<=k->k<w2.1.size->w3.1[k]?=w2.1[k]?:=fun k h1 h2=>(D3.2.block k (by have:=HW2.o.2.1.size;omega) sO).trans (HW2.o.2.1.block k h2);obtain⟨S1,S2,S3,tm,q1,q2,q3,q4,q5,q6,q7⟩:=HM2.o;exact⟨(q1.of_heap (w':=w3) fun k hs hlt=>hk k (q7 k (.inl hs)) hlt).dr,(HT2.o.of_heap (w':=w3) fun k hs=>hk k (HT2.o.lt k hs).1 (HT2.o.lt k hs).2).rst⟩
  have c0:=HB3.o.1.cell 0;have c1':=HB3.o.1.cell 1;have c2':=HB3.o.1.cell 2;have c3':=HB3.o.1.cell 3;have c7':=HB3.o.1.cell 7;simp at c0 c1' c2' c3' c7';clear D3 HW2 HM2 HT2 HD2 HR2
  cases hy:(y==0)with
  | true =>
   clear hy c7';go_wp2_with fail
   refine(zbq _ _ _ _ m.xs m.ys m.is m.bs w3 HM3.o.1 HS2.o.1.big.d).mono ?_;rintro e w4 ⟨u,v,iv,bv,rfl,O4,B4⟩;obtain⟨xs,ys,is,bs,hxs,hys,his,hbs⟩:∃xs ys is bs,m.xs=xs/\m.ys=ys/\m.is=is/\m.bs=bs:=⟨_,_,_,_,rfl,rfl,rfl,rfl⟩
   have HK2:Hid (DkR xs ys is bs):=by
    obtain⟨hs,-⟩:=HS2.o;subst hxs hys his hbs;exact⟨hs.x,hs.y,hs.i,hs.ii,hs.b,hs.bb⟩
   rw[hxs,hys,his,hbs]at O4;have HO4:=hide (O4.mono (S':=fun k=>w.1.size<k) fun k hk=>by have:=HB3.o.2.2.2;omega);have HD4:=hide (HB3.o.2.1.below hcw B4);have HR4:=hide (HB3.o.2.2.1.over B4);clear O4 B4 HB3 HM3 HS2 hxs hys his hbs c0 c1' c2' c3';obtain⟨a1,c1,a2,c2,a3,c3,a4,c4,rfl,rfl,rfl,rfl⟩:=HO4.o.dr.form;have k0:=HR4.o;have r0:=k0.cell 0;have r1:=k0.cell 1;have r2:=k0.cell 2;have r3:=k0.cell 3;have f0:=k0.frozen 0;have f1:=k0.frozen 1;have f2:=k0.frozen 2;have f3:=k0.frozen 3;have hl:=k0.lt;simp only[Xd.zD]at r0 r1 r2 r3;simp at r0 r1 r2 r3;clear k0;go_wp2;refine bodyPost_ret (v:=.agg #[.slice a1 xs.length c1,.slice a2 ys.length c2,.slice a3 is.length c3,.slice a4 bs.length c4]) sR4 rfl ⟨_,_,_,_,xs,ys,is,bs,rfl,?_,HK2.o,?_⟩
   ·exact((HO4.o).of_heap fun k hk _=>by rw[heap_setCell_other _ ⟨w.1.size,3,none⟩ k _ oB,heap_setCell_other _ ⟨w.1.size,2,none⟩ k _ oB,heap_setCell_other _ ⟨w.1.size,1,none⟩ k _ oB,heap_setCell_other _ ⟨w.1.size,0,none⟩ k _ oB]).mono fun k hk=>by omega
   ·exact(((HD4.o.setCell hcw nR _).setCell hcw nR _).setCell hcw nR _).setCell hcw nR _
  | false =>
   clear hy c0 c1' c2' c3';go_wp2_with fail
   refine(zk9 _ ts w3 HM3.o.2 (by rw[HS2.o.2.n];decide) (fun j hj=>by have:=HS2.o.2.s j hj;omega)).mono ?_;rintro e w4 ⟨r,u,v,iv,bv,xs,ys,is,bs,rfl,O4,K4,B4⟩;have HK2:Hid (DkR xs ys is bs):=by
    have hs:=K4 HS2.o.2.okD;exact⟨hs.x,hs.y,hs.i,hs.ii,hs.b,hs.bb⟩
   have HO4:=hide (O4.mono (S':=fun k=>w.1.size<k) fun k hk=>by have:=HB3.o.2.2.2;omega);have HD4:=hide (HB3.o.2.1.below hcw B4);have HR4:=hide (HB3.o.2.2.1.over B4);clear O4 B4 K4 HB3 HM3 HS2 c7';obtain⟨a1,c1,a2,c2,a3,c3,a4,c4,rfl,rfl,rfl,rfl⟩:=HO4.o.dr.form;have k0:=HR4.o;have r0:=k0.cell 0;have r1:=k0.cell 1;have r2:=k0.cell 2;have r3:=k0.cell 3;have f0:=k0.frozen 0;have f1:=k0.frozen 1;have f2:=k0.frozen 2;have f3:=k0.frozen 3;have hl:=k0.lt;simp only[Xd.zD]at r0 r1 r2 r3;simp at r0 r1 r2 r3;clear k0;go_wp2;refine bodyPost_ret (v:=.agg #[.slice a1 xs.length c1,.slice a2 ys.length c2,.slice a3 is.length c3,.slice a4 bs.length c4]) (by simp[results,go_sem,r0,r1,r2,r3,hl]) rfl ⟨_,_,_,_,xs,ys,is,bs,rfl,?_,HK2.o,?_⟩
   ·refine DO.alloc ?_ _;exact((HO4.o).of_heap fun k hk _=>by rw[heap_setCell_other _ ⟨w.1.size,3,none⟩ k _ oB,heap_setCell_other _ ⟨w.1.size,2,none⟩ k _ oB,heap_setCell_other _ ⟨w.1.size,1,none⟩ k _ oB,heap_setCell_other _ ⟨w.1.size,0,none⟩ k _ oB]).mono fun k hk=>by omega
   ·refine Drew.alloc ?_ hcw _;exact(((HD4.o.setCell hcw nR _).setCell hcw nR _).setCell hcw nR _).setCell hcw nR _
structure RD(is:List Ino)(bs:List Blk):Prop where
 hi:is.length=8
 hb:bs.length=16
 kd:∀q∈is,q.1=0\/q.1=1\/q.1=2
 two:∀q∈is,q.2.2.length=2
 four:∀q∈bs,q.2.1.length<=4
 text:∀q∈bs,q.1=false->q.2.1=[]
 nm:∀q∈bs,∀s∈q.2.1,s.1=⟨#[]⟩\/zan s.1=true
 tx:∀q∈bs,q.2.2.size<=16
theorem zcn(bs:List Blk)(x:Int):blkAt bs x=(false,[],⟨#[]⟩)\/blkAt bs x∈bs:=by
 cases h:inB x 1 bs.length with
 | false=>exact .inl (zg4 h)
 | true =>
  obtain⟨jb,hb,-,e⟩:=zbw h;exact .inr (by rw[e];exact List.getElem_mem hb)
theorem zcb{is:List Ino}(i:Int):(zbm is i=0/\zbg is i=[])\/∃q∈is,zbm is i=q.1/\zbg is i=q.2.2:=by
 cases h:inB i 1 is.length with
 | false=>exact .inl ⟨zch h,by unfold zbg;rw[h];rfl⟩
 | true =>
  obtain⟨h1,h2⟩:=zas h;obtain⟨j,rfl⟩:∃j:Nat,i=(j:Int)+1:=⟨(i-1).toNat,by omega⟩
  have hj:j<is.length:=by omega
  exact .inr ⟨is[j],List.getElem_mem hj,(zbi hj).1,(zbi hj).2⟩
theorem RD.kind{is:List Ino}{bs:List Blk}(h:RD is bs)(i:Int):zbm is i=0\/zbm is i=1\/zbm is i=2:=by
 rcases zcb (is:=is) i with⟨e,-⟩| ⟨q,hq,e,-⟩
 ·exact .inl e
 ·rw[e];exact h.kd q hq
theorem RD.blk4{is:List Ino}{bs:List Blk}(h:RD is bs)(x:Int):(blkAt bs x).2.1.length<=4:=by
 rcases zcn bs x with e|e
 ·rw[e];simp
 ·exact h.four _ e
theorem nmd_len{is:List Ino}{bs:List Blk}(h:RD is bs)(x:Int):(nmd (blkAt bs x)).length<=4:=by
 unfold nmd
 split
 ·exact Nat.le_trans (List.length_filter_le _ _) (h.blk4 x)
 ·simp
theorem RD.named8{is:List Ino}{bs:List Blk}(h:RD is bs)(i:Int):(named is bs i).length<=8:=by
 unfold named
 split
 ·have h1:=zdm (m:=4) (f:=fun p=>nmd (blkAt bs p)) (zbg is i) (fun p _=>nmd_len h p);have h2:(zbg is i).length<=2:=by
   rcases zcb (is:=is) i with⟨-,e⟩| ⟨q,hq,-,e⟩
   ·rw[e];simp
   ·rw[e,h.two q hq];exact Nat.le_refl _
  have:nmdP bs (zbg is i)=(zbg is i).flatMap (fun p=>nmd (blkAt bs p)):=rfl;rw[this];have:(zbg is i).length*4<=2*4:=Nat.mul_le_mul_right _ h2;omega
 ·simp
theorem RD.name{is:List Ino}{bs:List Blk}(h:RD is bs){i:Int}{s:Sl}(hs:s∈named is bs i):zan s.1=true:=by
 unfold named at hs
 split at hs
 ·obtain⟨p,-,hp⟩:=List.mem_flatMap.1 hs;unfold nmd at hp
  split at hp
  ·obtain⟨h1,h2⟩:=zdy hp;rcases zcn bs p with e|e
   ·rw[e]at h1;simp at h1
   ·exact(h.nm _ e s h1).resolve_left h2
  ·simp at hp
 ·simp at hs
def zbn(is:List Ino)(bs:List Blk)(i:Int):ByteArray×ByteArray:=if zbm is i=1 then((blkAt bs ((zbg is i).getD 0 0)).2.2,(blkAt bs ((zbg is i).getD 1 0)).2.2)else(⟨#[]⟩,⟨#[]⟩)
theorem RD.of_dkR{xs ys:List Bool}{is:List Ino}{bs:List Blk}(h:DkR xs ys is bs):RD is bs :=
 ⟨h.i,h.b,fun q hq=>by rcases(h.ii q hq).z with e|e|⟨e,-⟩<;>simp[e],fun q hq=>(h.ii q hq).n,fun q hq=>(h.bb q hq).m,fun q hq=>(h.bb q hq).f,
  fun q hq s hs=>by
   rcases(h.bb q hq).q s hs with⟨e,-⟩| e
   ·refine .inl ?_;obtain⟨⟨⟨l⟩⟩,n⟩:=s;have:l=[]:=List.length_eq_zero_iff.1 e;subst this;rfl
   ·exact .inr e,
  fun q hq=>(h.bb q hq).t⟩
theorem znp(i:Int)(w:World):
  Calls Tryz.prog 122 #[.int .i64 i] w fun e w'=>∃r:Int,e=.returned (.int .i64 r)/\decide (0<=r)=inB i 1 8/\w'=w:=by
 cases hb:inB i 1 8 with
 | false =>
  rcases zhs hb with h|h
  ·have h2:decide (i<1)=true:=by simp;omega
   go_enter Tryz.func122,Tryz.ntmps122
   go_wp2;go_ret;exact⟨-1,rfl,by decide,rfl⟩
  ·have h1:decide (i<1)=false:=by simp;omega
   have h2:decide (8<i)=true:=by simp;omega
   go_enter Tryz.func122,Tryz.ntmps122
   go_wp2;go_ret;exact⟨-1,rfl,by decide,rfl⟩
 | true =>
  obtain⟨h0,h1⟩:=zas hb;have h2:decide (i<1)=false:=by simp;omega
  have h3:decide (8<i)=false:=by simp;omega
  go_enter Tryz.func122,Tryz.ntmps122
  go_wp2;go_ret;refine⟨_,rfl,?_,rfl⟩;simp;omega
theorem znq(i:Int)(w:World):
  Calls Tryz.prog 123 #[.int .i64 i] w fun e w'=>∃r:Int,e=.returned (.int .i64 r)/\decide (0<=r)=inB i 1 16/\w'=w:=by
 cases hb:inB i 1 16 with
 | false =>
  rcases zhs hb with h|h
  ·have h2:decide (i<1)=true:=by simp;omega
   go_enter Tryz.func123,Tryz.ntmps123
   go_wp2;go_ret;exact⟨-1,rfl,by decide,rfl⟩
  ·have h1:decide (i<1)=false:=by simp;omega
   have h2:decide (16<i)=true:=by simp;omega
   go_enter Tryz.func123,Tryz.ntmps123
   go_wp2;go_ret;exact⟨-1,rfl,by decide,rfl⟩
 | true =>
  obtain⟨h0,h1⟩:=zas hb;have h2:decide (i<1)=false:=by simp;omega
  have h3:decide (16<i)=false:=by simp;omega
  go_enter Tryz.func123,Tryz.ntmps123
  go_wp2;go_ret;refine⟨_,rfl,?_,rfl⟩;simp;omega
theorem zj6(i:Int)(dx dy bv:Value)(a3:Option Addr)(c3:Nat)(w:World):
  Calls Tryz.prog 85 #[.agg #[dx,dy,.slice a3 8 c3,bv],.int .i64 i] w fun e w'=>e=.returned (.bool (inB i 1 8))/\w'=w.alloc (.cells #[dx,dy,.slice a3 8 c3,bv] 30):=by
 have CU:=hide (fun W=>znp i W)
 cases hb:inB i 1 8 with
 | false =>
  rw[hb]at CU;go_enter Tryz.func85,Tryz.ntmps85
  exact cQ110
 | true =>
  rw[hb]at CU;obtain⟨h0,h1⟩:=zas hb;have h2:decide (i<=8)=true:=by simp;omega
  go_enter Tryz.func85,Tryz.ntmps85
  go_wp2_with fail
  refine(CU.out _).mono ?_;rintro e w1 ⟨r,rfl,hr,rfl⟩;go_wp2;go_ret;exact⟨rfl,rfl⟩
theorem hasB_any(i:Int)(dx dy iv:Value)(a3:Option Addr)(c3:Nat)(w:World):
  Calls Tryz.prog 86 #[.agg #[dx,dy,iv,.slice a3 16 c3],.int .i64 i] w fun e w'=>e=.returned (.bool (inB i 1 16))/\w'=w.alloc (.cells #[dx,dy,iv,.slice a3 16 c3] 30):=by
 have CU:=hide (fun W=>znq i W)
 cases hb:inB i 1 16 with
 | false =>
  rw[hb]at CU;go_enter Tryz.func86,Tryz.ntmps86
  exact cQ110
 | true =>
  rw[hb]at CU;obtain⟨h0,h1⟩:=zas hb;have h2:decide (i<=16)=true:=by simp;omega
  go_enter Tryz.func86,Tryz.ntmps86
  go_wp2_with fail
  refine(CU.out _).mono ?_;rintro e w1 ⟨r,rfl,hr,rfl⟩;go_wp2;go_ret;exact⟨rfl,rfl⟩
def zay(is:List Ino)(bs:List Blk)(i kind:Int):List Blk:=if zbm is i=kind then(zbg is i).map (blkAt bs)else[]
theorem ziq{w:World}{bv:Value}{bs:List Blk}(h:R3 KB w bv bs)(x:Int):∃t:V3,KB.R w t (blkAt bs x)/\(inB x 1 bs.length=false->t=(.bool false,.slice none 0 0,.string ⟨#[]⟩))/\(inB x 1 bs.length=true->∃(j:Nat)(g off c:Nat),x=(j:Int)+1/\j<bs.length/\bv=.slice (some ⟨g,off,none⟩) bs.length c/\g<w.1.size/\w.cell? ⟨g,off+j*3,none⟩=some t.1/\w.cell? ⟨g,off+j*3+1,none⟩=some t.2.1/\w.cell? ⟨g,off+j*3+2,none⟩=some t.2.2):=by
 cases hb:inB x 1 bs.length with
 | false =>
  rw[zg4 hb];exact⟨(.bool false,.slice none 0 0,.string ⟨#[]⟩),⟨rfl,⟨none,0,rfl,Nat.le_refl _,fun j hj=>by simp at hj⟩,rfl⟩,(fun _=>rfl),fun e=>by cases e⟩
 | true =>
  obtain⟨j,hj,rfl,e⟩:=zbw hb;obtain⟨a,c,rfl,-,hc⟩:=h;obtain⟨g,off,t,rfl,hg,k0,k1,k2,hr⟩:=hc j hj;exact⟨t,by rw[e];exact hr,(fun e=>by cases e),fun _=>⟨j,g,off,c,rfl,hj,rfl,hg,k0,k1,k2⟩⟩
def zbt(u v:V3):Nat->Array Value
 | 0=>#[.bool false,.slice none 0 0,.string ⟨#[]⟩,.bool false,.slice none 0 0,.string ⟨#[]⟩]
 | 1=>#[u.1,u.2.1,u.2.2,.bool false,.slice none 0 0,.string ⟨#[]⟩]
 | _=>#[u.1,u.2.1,u.2.2,v.1,v.2.1,v.2.2]
theorem cellsJ_1(u v:V3):(((zbt u v 0).setIfInBounds 0 u.1).setIfInBounds 1 u.2.1).setIfInBounds 2 u.2.2=zbt u v 1:=by simp[zbt]
theorem cellsJ_2(u v:V3):(((zbt u v 1).setIfInBounds 3 v.1).setIfInBounds 4 v.2.1).setIfInBounds 5 v.2.2=zbt u v 2:=by simp[zbt]
structure BoR(w wr:World)(D L:Array Value):Prop where
 b:Below w.1.size w wr
 d:AtC wr w.1.size 30 D
 l:AtC wr (w.1.size+1+1) 95 L
theorem BoR.below{w wr wr':World}{D L:Array Value}(h:BoR w wr D L)(hb:Below wr.1.size wr wr'):BoR w wr' D L:=⟨h.b.trans (hb.mono h.b.size),h.d.over hb,h.l.over hb⟩
theorem BoR.set{w wr:World}{D L:Array Value}(h:BoR w wr D L)(j:Nat)(x:Value):BoR w (wr.setCell ⟨w.1.size+1+1,j,none⟩ x) D (L.setIfInBounds j x) :=
 ⟨h.b.setCell (p:=⟨w.1.size+1+1,j,none⟩) oC x,h.d.other oM _,h.l.set j x⟩
theorem BoR.set3{w wr:World}{D L:Array Value}(h:BoR w wr D L)(o:Nat)(x y z:Value):BoR w (((wr.setCell ⟨w.1.size+1+1,o,none⟩ x).setCell ⟨w.1.size+1+1,o+1,none⟩ y).setCell ⟨w.1.size+1+1,o+2,none⟩ z) D (((L.setIfInBounds o x).setIfInBounds (o+1) y).setIfInBounds (o+2) z):=((h.set o x).set (o+1) y).set (o+2) z
theorem r3_two{w:World}{g:Nat}{u v:V3}{x y:Blk}(h:AtC w g 95 #[u.1,u.2.1,u.2.2,v.1,v.2.1,v.2.2])(hu:KB.R w u x)(hv:KB.R w v y):R3 KB w (.slice (some ⟨g,0,none⟩) 2 2) [x,y]:=by
 refine⟨some ⟨g,0,none⟩,2,rfl,Nat.le_refl _,fun j hj=>?_⟩;have hj':j=0\/j=1:=by simp at hj;omega
 rcases hj' with rfl|rfl
 ·exact⟨g,0,u,rfl,h.lt,h.cell 0,h.cell 1,h.cell 2,hu⟩
 ·exact⟨g,0,v,rfl,h.lt,h.cell 3,h.cell 4,h.cell 5,hv⟩
theorem zc4(i kind:Int)(dx dy iv bv:Value)(xs ys:List Bool)(is:List Ino)(bs:List Blk)(w:World)(h:DR w dx dy iv bv xs ys is bs)(hR:RD is bs)(hk0:¬kind=0):
  Calls Tryz.prog 55 #[.agg #[dx,dy,iv,bv],.int .i64 i,.int .i64 kind] w fun e w'=>∃v,e=.returned v/\R3 KB w' v (zay is bs i kind)/\Below w.1.size w w':=by
 have HH:=hide h;have HRD:=hide hR;obtain⟨a1,c1,a2,c2,a3,c3,a4,c4,rfl,rfl,rfl,rfl⟩:=h.form;have h8:=hR.hi;have h16:=hR.hb;have hc:=h.i;rw[h8,h16];have HB0:Hid (∀A B,Below w.1.size w ((w.alloc (.cells A 30)).alloc (.cells B 30))):=fun A B=>((Below.refl _ w).alloc nR _).alloc sI _;have CH:=hide (fun W=>zj6 i (.slice a1 xs.length c1) (.slice a2 ys.length c2) (.slice a4 16 c4) a3 c3 W);have hnil:∀W,R3 KB W (.slice none 0 0) []:=fun W=>⟨none,0,rfl,Nat.le_refl _,fun j hj=>by simp at hj⟩
 have HNIL:=hide hnil;clear hnil
 cases hb:inB i 1 8 with
 | false =>
  rw[hb]at CH;have e0:zay is bs i kind=[]:=by unfold zay;rw[zch (by rw[h8];exact hb),if_neg (fun e=>hk0 e.symm)]
  rw[e0];clear hc h hR hb e0 h8 h16;go_enter Tryz.func55,Tryz.ntmps55
  exact cQ100
 | true =>
  rw[hb]at CH;obtain⟨h1,h2⟩:=zas hb;obtain⟨j,rfl⟩:∃j:Nat,i=(j:Int)+1:=⟨(i-1).toNat,by omega⟩
  have hj:j<is.length:=by omega
  obtain⟨qa,qc,qe,-,qh⟩:=hc;simp only[Value.slice.injEq,true_and]at qe;obtain⟨rfl,rfl⟩:=qe;obtain⟨g2,o2,⟨t0,t1,t2⟩,rfl,hg2,r0,r1,r2,e0,e1,rr⟩:=qh j hj;have hpl:=hR.two _ (List.getElem_mem hj);have hB:zay is bs ((j:Int)+1) kind=if is[j].1=kind then is[j].2.2.map (blkAt bs)else[]:=by unfold zay;rw[(zbi hj).1,(zbi hj).2]
  rw[hB];obtain⟨⟨kd,ln,ps⟩,hX⟩:∃X,is[j]=X:=⟨_,rfl⟩
  rw[hX]at e0 e1 rr hpl ⊢;simp only at e0 e1 rr r0 r1 r2 hpl ⊢;subst e0 e1;obtain⟨p0,p1,rfl⟩:∃p0 p1,ps=[p0,p1]:=by
   match ps,hpl with
   | [p0,p1],_=>exact⟨p0,p1,rfl⟩
  obtain⟨sa,sc,e1,hcp⟩:=rr;have e2:t2=.slice sa 2 sc:=e1;subst e2;obtain⟨gp,op,rfl,hgp,kp0⟩:=hcp 0 sI;obtain⟨gp',op',e3,-,kp1⟩:=hcp 1 sI;simp only[Option.some.injEq,Addr.mk.injEq,and_true]at e3;obtain⟨rfl,rfl⟩:=e3;simp only[List.getElem_cons_zero,List.getElem_cons_succ,Nat.add_zero]at kp0 kp1;have HP0:Hid (∀W,Below w.1.size w W->W.cell? ⟨gp,op,none⟩=some (.int .i64 p0)):=fun W b=>(b.cell (p:=⟨gp,op,none⟩) hgp).trans kp0;have HP1:Hid (∀W,Below w.1.size w W->W.cell? ⟨gp,op+1,none⟩=some (.int .i64 p1)):=fun W b=>(b.cell (p:=⟨gp,op+1,none⟩) hgp).trans kp1;have HI:Hid (∀W,Below w.1.size w W->W.cell? ⟨g2,o2+j*3,none⟩=some (.int .i64 kd)/\W.cell? ⟨g2,o2+j*3+1,none⟩=some (.int .i64 ln)/\W.cell? ⟨g2,o2+j*3+2,none⟩=some (.slice (some ⟨gp,op,none⟩) 2 sc)):=fun W bb=>⟨(bb.cell (p:=⟨g2,o2+j*3,none⟩) hg2).trans r0,(bb.cell (p:=⟨g2,o2+j*3+1,none⟩) hg2).trans r1,(bb.cell (p:=⟨g2,o2+j*3+2,none⟩) hg2).trans r2⟩
  have hwj:IntKind.i64.wrap (j:Int)=(j:Int):=wrap_small _ oM oM;have j0:(0:Int)<=(j:Int):=by omega
  have j1:(j:Int)<8:=by omega
  obtain⟨y0,y1,y2⟩:=HI.o _ (HB0.o #[.slice a1 xs.length c1,.slice a2 ys.length c2,.slice (some ⟨g2,o2,none⟩) 8 c3,.slice a4 16 c4] #[.slice a1 xs.length c1,.slice a2 ys.length c2,.slice (some ⟨g2,o2,none⟩) 8 c3,.slice a4 16 c4]);obtain⟨⟨u0,u1,u2⟩,RU,FU,GU⟩:=ziq HH.o.k p0;obtain⟨⟨v0,v1,v2⟩,RV,FV,GV⟩:=ziq HH.o.k p1;obtain⟨ub,ua,un,uc,ut,hu0,hu1,hu2⟩:∃ub ua un uc ut,u0=.bool ub/\u1=.slice ua un uc/\u2=.string ut:=by
   obtain⟨q0,⟨sa',sc',q1,-⟩,q2⟩:=RU;exact⟨_,_,_,_,_,q0,q1,q2⟩
  obtain⟨vb,va,vn,vc,vt,hv0,hv1,hv2⟩:∃ub ua un uc ut,v0=.bool ub/\v1=.slice ua un uc/\v2=.string ut:=by
   obtain⟨q0,⟨sa',sc',q1,-⟩,q2⟩:=RV;exact⟨_,_,_,_,_,q0,q1,q2⟩
  subst hu0 hu1 hu2 hv0 hv1 hv2;rw[h16]at FU GU FV GV;have HF0:=hide FU;have HF1:=hide FV;have HG0:=hide GU;have HG1:=hide GV;have HRU:=hide (And.intro RU RV);have CB:=hide (fun(p:Int) W=>hasB_any p (.slice a1 xs.length c1) (.slice a2 ys.length c2) (.slice (some ⟨g2,o2,none⟩) 8 c3) a4 c4 W);clear hB hX hb h1 h2 hcp h r0 r1 r2 kp0 kp1 hpl hR qh RU RV FU FV GU GV h8 h16;by_cases hkd:kd=kind
  rotate_left
  ·have hkb:(kd != kind)=true:=by simp[hkd]
   rw[if_neg hkd];go_enter Tryz.func55,Tryz.ntmps55
   exact cQ100
  subst hkd;rw[if_pos rfl];have mk:∀W:World,(Instr.makeSlice 28 (.int .i64 2) (.int .i64 2)).run Tryz.prog W=.ok (.slice (some ⟨W.1.size,0,none⟩) 2 2) (W.alloc (.cells #[.bool false,.slice none 0 0,.string ⟨#[]⟩,.bool false,.slice none 0 0,.string ⟨#[]⟩] 95)):=fun W=>by
   have:=zjm 2 dC W;rw[show madeCells #[.bool false,.slice none 0 0,.string ⟨#[]⟩] (2*3)=zbt (.bool ub,.slice ua un uc,.string ut) (.bool vb,.slice va vn vc,.string vt) 0 from Array.toList_inj.1 (by rw[zf1];rfl)]at this;exact this
  go_enter Tryz.func55,Tryz.ntmps55
  go_wp2_with fail
  refine(CH.out _).mono ?_;rintro e w1 ⟨rfl,rfl⟩;have HBOX:Hid (BoR w (((w.alloc (.cells #[.slice a1 xs.length c1,.slice a2 ys.length c2,.slice (some ⟨g2,o2,none⟩) 8 c3,.slice a4 16 c4] 30)).alloc (.cells #[.slice a1 xs.length c1,.slice a2 ys.length c2,.slice (some ⟨g2,o2,none⟩) 8 c3,.slice a4 16 c4] 30)).alloc (.cells #[.bool false,.slice none 0 0,.string ⟨#[]⟩,.bool false,.slice none 0 0,.string ⟨#[]⟩] 95)) #[.slice a1 xs.length c1,.slice a2 ys.length c2,.slice (some ⟨g2,o2,none⟩) 8 c3,.slice a4 16 c4] (zbt (.bool ub,.slice ua un uc,.string ut) (.bool vb,.slice va vn vc,.string vt) 0)):=by
   refine⟨(HB0.o _ _).alloc (HB0.o #[.slice a1 xs.length c1,.slice a2 ys.length c2,.slice (some ⟨g2,o2,none⟩) 8 c3,.slice a4 16 c4] #[.slice a1 xs.length c1,.slice a2 ys.length c2,.slice (some ⟨g2,o2,none⟩) 8 c3,.slice a4 16 c4]).size _,((AtC.new w 30 _).alloc _).alloc _,?_⟩;have:=AtC.new ((w.alloc (.cells #[.slice a1 xs.length c1,.slice a2 ys.length c2,.slice (some ⟨g2,o2,none⟩) 8 c3,.slice a4 16 c4] 30)).alloc (.cells #[.slice a1 xs.length c1,.slice a2 ys.length c2,.slice (some ⟨g2,o2,none⟩) 8 c3,.slice a4 16 c4] 30)) 95 #[.bool false,.slice none 0 0,.string ⟨#[]⟩,.bool false,.slice none 0 0,.string ⟨#[]⟩];rw[World.size_alloc,World.size_alloc]at this;exact this
  go_wp2_with fail
  clear y0 y1 y2 CH HNIL HB0;go_loopw [38] (fun iv wr=>∃q:Nat,q<=2/\iv=.int .i64 q/\Hid (BoR w wr #[.slice a1 xs.length c1,.slice a2 ys.length c2,.slice (some ⟨g2,o2,none⟩) 8 c3,.slice a4 16 c4] (zbt (.bool ub,.slice ua un uc,.string ut) (.bool vb,.slice va vn vc,.string vt) q))) (fun iv _=>2-(intOf iv).toNat)
  case atStart=>exact⟨0,by omega,rfl,HBOX.o⟩
  case round =>
   obtain⟨q,hq,rfl,HS⟩:=hrel;clear HBOX mk;have hq3:q=0\/q=1\/q=2:=by omega
   rcases hq3 with rfl|rfl|rfl
   ·skip
    have y1:wr.cell? ⟨gp,op,none⟩=some (.int .i64 p0):=HP0.o _ HS.o.b;obtain⟨z0,z1,z2,z3⟩:=AtC.four HS.o.d
    cases hb:inB p0 1 16 with
    | false =>
     have HZ:=hide (HF0.o hb);have CB2:=hide (fun W=>CB.out p0 W);rw[hb]at CB2;clear hb;go_wp2_with fail
     refine(CB2.out _).mono ?_;rintro e w5 ⟨rfl,rfl⟩;have HS2:=hide (HS.o.below ((Below.refl _ wr).alloc nR (.cells #[.slice a1 xs.length c1,.slice a2 ys.length c2,.slice (some ⟨g2,o2,none⟩) 8 c3,.slice a4 16 c4] 30)));clear z0 z1 z2 z3 y1;go_wp2;go_roundw
     case rel =>
      refine⟨1,by omega,rfl,hide ?_⟩;have:=HS2.o;rw[show zbt (.bool ub,.slice ua un uc,.string ut) (.bool vb,.slice va vn vc,.string vt) 1=zbt (.bool ub,.slice ua un uc,.string ut) (.bool vb,.slice va vn vc,.string vt) 0 from by have:=HZ.o;simp only[Prod.mk.injEq]at this;obtain⟨q0,q1,q2⟩:=this;simp only[zbt,q0,q1,q2]];exact this
     case measure=>simp[intOf]
    | true =>
     obtain⟨jb,gb,ob,cb,hpj,hjb,eb,hgb,b0,b1,b2⟩:=HG0.o hb;simp only[Value.slice.injEq,true_and]at eb;obtain⟨rfl,-⟩:=eb;have CB2:=hide (fun W=>CB.out p0 W);rw[hb]at CB2;clear hb;subst hpj;have jb16:jb<16:=by omega
     have hwj2:IntKind.i64.wrap (jb:Int)=(jb:Int):=wrap_small _ oM oM;have jb0:(0:Int)<=(jb:Int):=by omega
     have jb1:(jb:Int)<16:=by omega
     go_wp2_with fail
     refine(CB2.out _).mono ?_;rintro e w5 ⟨rfl,rfl⟩;obtain⟨w5,hw5⟩:∃w5,wr.alloc (.cells #[.slice a1 xs.length c1,.slice a2 ys.length c2,.slice (some ⟨g2,o2,none⟩) 8 c3,.slice (some ⟨gb,ob,none⟩) 16 c4] 30)=w5:=⟨_,rfl⟩
     have HS2:Hid (BoR w w5 #[.slice a1 xs.length c1,.slice a2 ys.length c2,.slice (some ⟨g2,o2,none⟩) 8 c3,.slice (some ⟨gb,ob,none⟩) 16 c4] (zbt (.bool ub,.slice ua un uc,.string ut) (.bool vb,.slice va vn vc,.string vt) 0)):=by rw[←hw5];exact HS.o.below ((Below.refl _ wr).alloc nR _)
     have d0:=(HS2.o.b.cell (p:=⟨gb,ob+jb*3,none⟩) hgb).trans b0;have d1:=(HS2.o.b.cell (p:=⟨gb,ob+jb*3+1,none⟩) hgb).trans b1;have d2:=(HS2.o.b.cell (p:=⟨gb,ob+jb*3+2,none⟩) hgb).trans b2;have z3:=HS2.o.d.c3;rw[hw5];clear hw5 b0 b1 b2 y1 z0 z1 z2 HS CB2;have k0:=HS2.o.l.c0;have k1:=HS2.o.l.c1;have k2:=HS2.o.l.c2;have f0:=HS2.o.l.frozen 0;have f1:=HS2.o.l.frozen 1;have f2:=HS2.o.l.frozen 2;have l5:w.1.size+1+1<w5.1.size:=HS2.o.l.lt;have hgb2:¬gb=w.1.size+1+1:=by omega
     have HS3:=hide (HS2.o.set3 0 (.bool ub) (.slice ua un uc) (.string ut));rw[cellsJ_1 (.bool ub,.slice ua un uc,.string ut) (.bool vb,.slice va vn vc,.string vt)]at HS3;clear HS2;go_wp2;go_roundw
     case rel=>exact⟨1,by omega,rfl,HS3.o⟩
     case measure=>simp[intOf]
   ·skip
    have y1:wr.cell? ⟨gp,op+1,none⟩=some (.int .i64 p1):=HP1.o _ HS.o.b;obtain⟨z0,z1,z2,z3⟩:=AtC.four HS.o.d
    cases hb:inB p1 1 16 with
    | false =>
     have HZ:=hide (HF1.o hb);have CB2:=hide (fun W=>CB.out p1 W);rw[hb]at CB2;clear hb;go_wp2_with fail
     refine(CB2.out _).mono ?_;rintro e w5 ⟨rfl,rfl⟩;have HS2:=hide (HS.o.below ((Below.refl _ wr).alloc nR (.cells #[.slice a1 xs.length c1,.slice a2 ys.length c2,.slice (some ⟨g2,o2,none⟩) 8 c3,.slice a4 16 c4] 30)));clear z0 z1 z2 z3 y1;go_wp2;go_roundw
     case rel =>
      refine⟨2,by omega,rfl,hide ?_⟩;have:=HS2.o;rw[show zbt (.bool ub,.slice ua un uc,.string ut) (.bool vb,.slice va vn vc,.string vt) 2=zbt (.bool ub,.slice ua un uc,.string ut) (.bool vb,.slice va vn vc,.string vt) 1 from by have:=HZ.o;simp only[Prod.mk.injEq]at this;obtain⟨q0,q1,q2⟩:=this;simp only[zbt,q0,q1,q2]];exact this
     case measure=>simp[intOf]
    | true =>
     obtain⟨jb,gb,ob,cb,hpj,hjb,eb,hgb,b0,b1,b2⟩:=HG1.o hb;simp only[Value.slice.injEq,true_and]at eb;obtain⟨rfl,-⟩:=eb;have CB2:=hide (fun W=>CB.out p1 W);rw[hb]at CB2;clear hb;subst hpj;have jb16:jb<16:=by omega
     have hwj2:IntKind.i64.wrap (jb:Int)=(jb:Int):=wrap_small _ oM oM;have jb0:(0:Int)<=(jb:Int):=by omega
     have jb1:(jb:Int)<16:=by omega
     go_wp2_with fail
     refine(CB2.out _).mono ?_;rintro e w5 ⟨rfl,rfl⟩;obtain⟨w5,hw5⟩:∃w5,wr.alloc (.cells #[.slice a1 xs.length c1,.slice a2 ys.length c2,.slice (some ⟨g2,o2,none⟩) 8 c3,.slice (some ⟨gb,ob,none⟩) 16 c4] 30)=w5:=⟨_,rfl⟩
     have HS2:Hid (BoR w w5 #[.slice a1 xs.length c1,.slice a2 ys.length c2,.slice (some ⟨g2,o2,none⟩) 8 c3,.slice (some ⟨gb,ob,none⟩) 16 c4] (zbt (.bool ub,.slice ua un uc,.string ut) (.bool vb,.slice va vn vc,.string vt) 1)):=by rw[←hw5];exact HS.o.below ((Below.refl _ wr).alloc nR _)
     have d0:=(HS2.o.b.cell (p:=⟨gb,ob+jb*3,none⟩) hgb).trans b0;have d1:=(HS2.o.b.cell (p:=⟨gb,ob+jb*3+1,none⟩) hgb).trans b1;have d2:=(HS2.o.b.cell (p:=⟨gb,ob+jb*3+2,none⟩) hgb).trans b2;have z3:=HS2.o.d.c3;rw[hw5];clear hw5 b0 b1 b2 y1 z0 z1 z2 HS CB2;have k0:=HS2.o.l.c3;have k1:=HS2.o.l.c4;have k2:=HS2.o.l.c5;have f0:=HS2.o.l.frozen 3;have f1:=HS2.o.l.frozen 4;have f2:=HS2.o.l.frozen 5;have l5:w.1.size+1+1<w5.1.size:=HS2.o.l.lt;have hgb2:¬gb=w.1.size+1+1:=by omega
     have HS3:=hide (HS2.o.set3 3 (.bool vb) (.slice va vn vc) (.string vt));rw[cellsJ_2 (.bool ub,.slice ua un uc,.string ut) (.bool vb,.slice va vn vc,.string vt)]at HS3;clear HS2;go_wp2;go_roundw
     case rel=>exact⟨2,by omega,rfl,HS3.o⟩
     case measure=>simp[intOf]
   ·go_wp2;go_ret;exact⟨_,rfl,r3_two HS.o.l (KB.bel HRU.o.1 HS.o.b nR) (KB.bel HRU.o.2 HS.o.b nR),HS.o.b⟩
theorem zfz(W:World){ops:Array Oper}{o:Oper}{a:Act}{K:Act->World->Prop}{Q:Exit->Act->World->Prop}{E:Prop}(hgd:o.guard=none)(s x:Operand)
  (ho:o.op=.call { callee:=.builtin .append,args:=#[s,x],argTypes:=#[87,87] }) (base:Nat) (v:Value) (l:List Sl) (hs:a.eval s=v) (hown:SOwns W base 90 v l) (hbase:base<=W.1.size)
  (g:Nat) (nm:ByteArray) (io:Int) (hx:a.eval x=.slice (some ⟨g,0,none⟩) 1 1) (hc:AtC W g 90 #[.string nm,.int .i64 io]) (hl:l.length<=100000000000)
  (h:∀v' w',SOwns w' base 90 v' (l++[(nm,io)])->W.grownBy w' v.ownBlock->(∀k,v'.ownBlock=some k->v.ownBlock=some k\/W.1.size<=k)->K (a.put o.dst v') w') :
  if Region.wanted o (yielded ops a.tmps)=true then Oper.wp Tryz.prog o a W K Q else E:=by
 obtain⟨i0,hi,hz0,hz1,hz2⟩:=info_parts Tryz.i90;refine step_append_lies _ hgd s x 87 ho base 90 i0 _ 2 24 Tryz.u87 hi hz0 hz1 hz2 rfl dC v l.length (sc l) hs hown ⟨g,0,none⟩ 1 1 [.string nm,.int .i64 io] hx rfl ?_ ?_ dC ?_ ?_ hbase W.1.size rfl ?_
 ·intro j u hj;have:=(hc.cell j).trans (show(#[.string nm,.int .i64 io]:Array Value)[j]?=some u by simpa using hj);by_cases e:j=0
  ·subst e;simpa[Addr.add]using this
  ·simpa[Addr.add,e]using this
 ·intro u hu;simp only[List.mem_cons,List.not_mem_nil,or_false]at hu;rcases hu with rfl|rfl<;>rfl
 ·unfold maxLen;omega
 ·omega
 ·intro g' cap w' hown' hgrow hat _;refine h _ w' ?_ hgrow fun k hk=>?_
  ·show w'.ownsRow base 90 2 _ (l++[(nm,io)]).length (sc (l++[(nm,io)]));rw[List.length_append,zhk];exact hown'
  ·exact cQ43
theorem nmdS_blk{is:List Ino}{bs:List Blk}(h:RD is bs)(x:Int):nmdS (blkAt bs x).2.1=nmd (blkAt bs x):=by
 unfold nmd
 split
 ·rfl
 ·rename_i e;have e:(blkAt bs x).1=false:=by simpa using e
  rcases zcn bs x with q|q
  ·rw[q];rfl
  ·rw[h.text _ q e];rfl
def nmdB(l:List Blk):List Sl:=l.flatMap fun b=>nmdS b.2.1
theorem zla{is:List Ino}{bs:List Blk}(h:RD is bs)(i:Int):nmdB (zay is bs i 2)=named is bs i:=by
 unfold named zay nmdB
 split
 ·unfold nmdP;rw[List.flatMap_map];congr 1
  funext x
  exact nmdS_blk h x
 ·rfl
theorem zc5{is:List Ino}{bs:List Blk}(h:RD is bs)(i k:Int):(zay is bs i k).length<=2/\∀b∈zay is bs i k,b.2.1.length<=4/\b.2.2.size<=16:=by
 unfold zay
 split
 ·refine⟨?_,fun b hb=>?_⟩
  ·rw[List.length_map];rcases zcb (is:=is) i with⟨-,e⟩| ⟨q,hq,-,e⟩
   ·rw[e];simp
   ·rw[e,h.two q hq];exact Nat.le_refl _
  ·obtain⟨x,-,rfl⟩:=List.mem_map.1 hb;refine⟨h.blk4 x,?_⟩;rcases zcn bs x with e|e
   ·rw[e];exact Nat.zero_le _
   ·exact h.tx _ e
 ·exact⟨by simp,fun b hb=>by cases hb⟩
theorem znr{l:List Blk}{q:Nat}(h:q<l.length):nmdB (l.take (q+1))=nmdB (l.take q)++nmdS l[q].2.1:=by
 rw[List.take_succ_eq_append_getElem h];unfold nmdB;rw[List.flatMap_append,List.flatMap_cons,List.flatMap_nil,List.append_nil]
theorem zlb(i:Int)(dx dy iv bv:Value)(xs ys:List Bool)(is:List Ino)(bs:List Blk)(w:World)(h:DR w dx dy iv bv xs ys is bs)(hR:RD is bs):
  Calls Tryz.prog 53 #[.agg #[dx,dy,iv,bv],.int .i64 i] w fun e w'=>∃v,e=.returned v/\SOwns w' w.1.size 90 v (named is bs i)/\Below w.1.size w w':=by
 have CB:=hide (zc4 i 2 dx dy iv bv xs ys is bs (w.alloc (.cells #[dx,dy,iv,bv] 30)) (h.alloc _) hR dC);obtain⟨HL1,HL2⟩:=zc5 hR i 2;have HBL:=hide HL2;rw[←zla hR i];obtain⟨a1,c1,a2,c2,a3,c3,a4,c4,rfl,rfl,rfl,rfl⟩:=h.form;obtain⟨BL,hBL⟩:∃l,zay is bs i 2=l:=⟨_,rfl⟩
 rw[hBL]at CB HBL HL1 ⊢;obtain⟨RES,hRES⟩:∃l,nmdB BL=l:=⟨_,rfl⟩
 rw[hRES];have HRES:=hide hRES;clear h hR HL2 hBL hRES;go_enter Tryz.func53,Tryz.ntmps53
 go_wp2_with fail
 refine CB.out.mono ?_;rintro e w1 ⟨lv,rfl,R1,B1⟩;have HB1:Hid (Below w.1.size w w1):=((Below.refl _ w).alloc nR _).trans (B1.mono sI);obtain⟨la,lc,rfl,-,hcl⟩:=R1;have HCL:=hide hcl;clear B1 hcl CB;go_wp2_with fail
 go_loopw [5,14] (fun sv kv wr=>∃(s':Value)(q:Nat),s'=sv/\q<=BL.length/\kv=.int .i64 q/\Hid (SOwns wr w1.1.size 90 s' (nmdB (BL.take q))/\Below w1.1.size w1 wr/\(nmdB (BL.take q)).length<=4*q)) (fun _ kv _=>BL.length-(intOf kv).toNat)
 case atStart=>exact⟨_,0,rfl,Nat.zero_le _,rfl,SOwns.nil _ _ _,Below.refl _ _,by simp[nmdB]⟩
 case round =>
  obtain⟨sv,q,hsv,hq,rfl,HR⟩:=hrel;subst hsv;have q0:(0:Int)<=(q:Int):=by omega
  by_cases hlt:q<BL.length
  rotate_left
  ·have q1:¬((q:Int)<(BL.length:Int)):=by omega
   go_wp2;go_ret;refine⟨_,rfl,?_,HB1.o.trans (HR.o.2.1.mono HB1.o.size)⟩;have:=HR.o.1;rw[List.take_of_length_le oM,HRES.o]at this;exact this.base_le HB1.o.size
  have q1:(q:Int)<(BL.length:Int):=by omega
  have HT:=hide (znr hlt);have HB4:=hide (HBL.o _ (List.getElem_mem hlt)).1;obtain⟨gb,ob,⟨t0,t1,t2⟩,rfl,hgb,b0,b1,b2,r0,r1,r2⟩:=HCL.o q hlt;simp only at b0 b1 b2 r0 r1 r2;subst r0 r2;obtain⟨bd,hbd⟩:∃X,BL[q].1=X:=⟨_,rfl⟩
  obtain⟨bss,hbss⟩:∃X,BL[q].2.1=X:=⟨_,rfl⟩
  obtain⟨btx,hbtx⟩:∃X,BL[q].2.2=X:=⟨_,rfl⟩
  rw[hbd]at b0;rw[hbss]at r1 HT HB4;rw[hbtx]at b2;obtain⟨sa,sc',rfl,-,hcs⟩:=r1;have HCS:=hide hcs
  replace b0:=(HR.o.2.1.cell (p:=⟨gb,ob+q*3,none⟩) hgb).trans b0
  replace b1:=(HR.o.2.1.cell (p:=⟨gb,ob+q*3+1,none⟩) hgb).trans b1
  replace b2:=(HR.o.2.1.cell (p:=⟨gb,ob+q*3+2,none⟩) hgb).trans b2
  have hgw:¬gb=wr.1.size:=by have:=HR.o.2.1.size;omega
  have HAL:Hid (Below wr.1.size wr (wr.alloc (.cells #[.bool bd,.slice sa bss.length sc',.string btx] 95))):=(Below.refl _ wr).alloc nR _;have HR2:Hid (SOwns (wr.alloc (.cells #[.bool bd,.slice sa bss.length sc',.string btx] 95)) w1.1.size 90 sv (nmdB (BL.take q)++nmdS (bss.take 0))/\Below w1.1.size w1 (wr.alloc (.cells #[.bool bd,.slice sa bss.length sc',.string btx] 95))/\(nmdB (BL.take q)++nmdS (bss.take 0)).length<=4*q+0):=by
   have e:nmdS (bss.take 0)=[]:=by simp[nmdS]
   rw[e,List.append_nil];exact⟨HR.o.1.alloc _,HR.o.2.1.alloc HR.o.2.1.size _,HR.o.2.2⟩
  clear hbd hbss hbtx hcs;obtain⟨W2,hW2⟩:∃W2,wr.alloc (.cells #[.bool bd,.slice sa bss.length sc',.string btx] 95)=W2:=⟨_,rfl⟩
  have x1:W2.cell? ⟨wr.1.size,1,none⟩=some (.slice sa bss.length sc'):=by rw[←hW2];exact(AtC.new wr 95 _).cell 1
  rw[hW2]at HR2;go_wp2_with fail
  clear b0 b1 b2 HR hW2 x1 HAL;go_loopw [5,21] (fun sv kv wr=>∃(s':Value)(t:Nat),s'=sv/\t<=bss.length/\kv=.int .i64 t/\Hid (SOwns wr w1.1.size 90 s' (nmdB (BL.take q)++nmdS (bss.take t))/\Below w1.1.size w1 wr/\(nmdB (BL.take q)++nmdS (bss.take t)).length<=4*q+t)) (fun _ kv _=>bss.length-(intOf kv).toNat)
  case atStart=>exact⟨_,0,rfl,Nat.zero_le _,rfl,HR2.o⟩
  case round =>
   obtain⟨sv',t,hsv,ht,rfl,HS⟩:=hrel;subst hsv;clear HR2;have t0:(0:Int)<=(t:Int):=by omega
   have hq2:q<2:=by omega
   by_cases htl:t<bss.length
   rotate_left
   ·have t1:¬((t:Int)<(bss.length:Int)):=by omega
    go_wp2;go_roundw
    case rel =>
     refine⟨_,q+1,rfl,by omega,by go_num,?_,HS.o.2.1,?_⟩
     ·have:=HS.o.1;rw[List.take_of_length_le (show bss.length<=t by omega),←HT.o]at this;exact this
     ·have:=HS.o.2.2;rw[List.take_of_length_le (show bss.length<=t by omega),←HT.o]at this;have:=HB4.o;omega
    case measure=>simp[intOf];omega
   have t1:(t:Int)<(bss.length:Int):=by omega
   have HTS:=hide (zib htl);obtain⟨gs,os,rfl,hgs,ks0,ks1⟩:=HCS.o t htl;obtain⟨⟨sn,si⟩,hsn⟩:∃X,bss[t]=X:=⟨_,rfl⟩
   rw[hsn]at ks0 ks1 HTS;simp only at ks0 ks1
   replace ks0:=(HS.o.2.1.cell (p:=⟨gs,os+t*2,none⟩) hgs).trans ks0
   replace ks1:=(HS.o.2.1.cell (p:=⟨gs,os+t*2+1,none⟩) hgs).trans ks1
   have hgsw:¬gs=wr.1.size:=by have:=HS.o.2.1.size;omega
   clear hsn;have hb4:=HB4.o;by_cases hse:sn=⟨#[]⟩
   ·subst hse;have HS2:Hid (SOwns (wr.alloc (.cells #[.string ⟨#[]⟩,.int .i64 si] 90)) w1.1.size 90 sv' (nmdB (BL.take q)++nmdS (bss.take (t+1)))/\Below w1.1.size w1 (wr.alloc (.cells #[.string ⟨#[]⟩,.int .i64 si] 90))/\(nmdB (BL.take q)++nmdS (bss.take (t+1))).length<=4*q+(t+1)):=by
     have e:=HTS.o;rw[if_pos rfl,List.append_nil]at e;rw[e];exact⟨HS.o.1.alloc _,HS.o.2.1.alloc HS.o.2.1.size _,by have:=HS.o.2.2;omega⟩
    go_wp2;go_roundw
    case rel=>exact⟨_,t+1,rfl,by omega,by go_num,HS2.o⟩
    case measure=>simp[intOf];omega
   have hse2:(sn.toList==([]:List UInt8))=false:=zd0 hse;have hse3:(sn.toList != ([]:List UInt8))=true:=by simp[bne,hse2]
   have HAL2:Hid (Below w1.1.size w1 ((wr.alloc (.cells #[.string sn,.int .i64 si] 90)).alloc (.cells #[.string sn,.int .i64 si] 90))/\SOwns ((wr.alloc (.cells #[.string sn,.int .i64 si] 90)).alloc (.cells #[.string sn,.int .i64 si] 90)) w1.1.size 90 sv' (nmdB (BL.take q)++nmdS (bss.take t))/\AtC ((wr.alloc (.cells #[.string sn,.int .i64 si] 90)).alloc (.cells #[.string sn,.int .i64 si] 90)) (wr.1.size+1) 90 #[.string sn,.int .i64 si]):=by
    have a:=AtC.new (wr.alloc (.cells #[.string sn,.int .i64 si] 90)) 90 #[.string sn,.int .i64 si];rw[World.size_alloc]at a;have sz:=HS.o.2.1.size;exact⟨(HS.o.2.1.alloc sz _).alloc sO _,(HS.o.1.alloc _).alloc _,a⟩
   have HSZ:Hid (w1.1.size<=((wr.alloc (.cells #[.string sn,.int .i64 si] 90)).alloc (.cells #[.string sn,.int .i64 si] 90)).1.size):=HAL2.o.1.size;have HTL:Hid ((nmdB (BL.take q)++nmdS (bss.take t)).length<=100000000000):=by have:=HS.o.2.2;show _<=_;omega
   go_wp2_with (at_builtin;refine wpList_step fun K' hK'=>?_;refine zfz _ rfl (.tmp 28) (.tmp 30) rfl w1.1.size sv' _ rfl HAL2.o.2.1 HSZ.o (wr.1.size+1) sn si rfl HAL2.o.2.2 HTL.o ?_;intro v12 w12 T12 G12 V12;refine hK' _ _ ?_;have HR12:=hide (And.intro T12 (And.intro G12 V12));clear T12 G12 V12 hK')
   have HS2:Hid (SOwns w12 w1.1.size 90 v12 (nmdB (BL.take q)++nmdS (bss.take (t+1)))/\Below w1.1.size w1 w12/\(nmdB (BL.take q)++nmdS (bss.take (t+1))).length<=4*q+(t+1)):=by
    have e:=HTS.o;rw[if_neg hse]at e;rw[e,←List.append_assoc];refine⟨HR12.o.1,HAL2.o.1.grown HR12.o.2.1 HSZ.o (fun k hk=>(HAL2.o.2.1.lt k hk).1),?_⟩;have:=HS.o.2.2;rw[List.length_append];simp;simp at this;omega
   go_roundw
   case rel=>exact⟨_,t+1,rfl,by omega,by go_num,HS2.o⟩
   case measure=>simp[intOf];omega
namespace Kit
end Kit
theorem zjj(s:ByteArray)(w:World)(h0:1<=s.size)(h6:s.size<=6):
  Calls Tryz.prog 98 #[.string s] w fun e w'=>e=.returned (.bool (zan s))/\Below w.1.size w w':=by
 obtain⟨r,hr⟩:∃r,zan s=r:=⟨_,rfl⟩
 have HR:=hide hr;rw[hr];clear hr;have he:=za1 (s:=s) oM;have h7:decide (6<(s.size:Int))=false:=by simp;omega
 have hbs:=fun W=>run_bytes_of_string (P:=Tryz.prog) W 9 22 5 s Tryz.underlying9 Tryz.underlying22 Tryz.underlying5;go_enter Tryz.func98,Tryz.ntmps98
 go_wp2;go_loopw [4,15] (fun _ i wr=>∃j:Nat,j<=s.size/\i=.int .i64 j/\Hid (upTo s j)/\Below w.1.size w wr/\Lies wr w.1.size s) (fun _ i _=>s.size-(intOf i).toNat)
 case atStart=>exact⟨0,Nat.zero_le _,rfl,zht s,((Below.refl _ w).alloc nR _).drew,(lies_new w s _ _ _).of_heap rfl⟩
 case round =>
  obtain⟨j,hj,rfl,HU,hb,hlies⟩:=hrel;by_cases hlt:j<s.size
  ·obtain⟨c,hc⟩:∃c:Nat,(s[j]).toNat=c:=⟨_,rfl⟩
   have hc1:c<256:=by rw[←hc];exact(s[j]).toNat_lt
   have HC:=hide hc;have hcell:=hlies.cell j hlt;rw[hc]at hcell;clear hc;have HL:=hide hlies;have HB:=hide hb;clear hlies hb;have j0:(0:Int)<=(j:Int):=by omega
   have j1:(j:Int)<(s.size:Int):=by omega
   go_wp2
   all_goals first| (go_ret;refine⟨zaw ?_,HB.o⟩;rw[←HR.o];exact zga hlt HC.o oM)| skip
   all_goals go_roundw
   all_goals first| (simp[intOf];omega)| exact⟨j+1,by omega,by go_num,zhu HU.o hlt HC.o oM,HB.o,HL.o⟩
  ·have HB:=hide hb;clear hlies hb;go_wp2;go_ret;refine⟨zaw ?_,HB.o⟩;rw[←HR.o];exact zgb ⟨h0,h6⟩ (zjr HU.o oM)
theorem zir(s:ByteArray)(w:World)(h:s.size<1\/6<s.size):
  Calls Tryz.prog 98 #[.string s] w fun e w'=>e=.returned (.bool (zan s))/\Below w.1.size w w':=by
 rw[←zf9 h];by_cases h0:s.size<1
 ·have he:=zck (s:=s) oM;go_enter Tryz.func98,Tryz.ntmps98
  go_wp2;go_ret;exact⟨rfl,Below.refl _ _⟩
 ·have he:=za1 (s:=s) oM;have h6:6<s.size:=by omega
  go_enter Tryz.func98,Tryz.ntmps98
  go_wp2;go_ret;exact⟨rfl,Below.refl _ _⟩
theorem zes(s:ByteArray)(w:World):
  Calls Tryz.prog 98 #[.string s] w fun e w'=>e=.returned (.bool (zan s))/\Below w.1.size w w':=by
 by_cases h:1<=s.size/\s.size<=6
 ·exact zjj s w h.1 h.2
 ·exact zir s w oM
namespace fnExactNameOk
end fnExactNameOk
theorem zj7(w:World)(T:TypeId)(v:Value):(w.alloc (.cells #[v] T)).cell? ⟨w.1.size,0,none⟩=some v:=cell_of_row _ _ 0 #[v] T _ (zbj w _)
theorem zlc{p:ByteArray}(h:zbf p):((p.extract 0 1).toList==([47]:List UInt8))=true:=by
 obtain⟨h0,hc⟩:=h;have hz:(p.extract 0 1).size=1:=by rw[ByteArray.size_extract];omega
 have e:(p.extract 0 1)[0]=p[0]:=by rw[ByteArray.getElem_extract]
 rw[zly (p.extract 0 1) oM (by rw[e];exact hc)];exact decide_eq_true hz
theorem zld{p:ByteArray}(h:¬zbf p)(h0:0<p.size):((p.extract 0 1).toList==([47]:List UInt8))=false:=by
 have hz:(p.extract 0 1).size=1:=by rw[ByteArray.size_extract];omega
 have e:(p.extract 0 1)[0]=p[0]:=by rw[ByteArray.getElem_extract]
 apply beq_eq_false_iff_ne.mpr;intro q;apply h;refine⟨h0,?_⟩;rw[ByteArray.toList_eq]at q;have e2:(p.extract 0 1).data.toList[0]?=some 47:=by rw[q];rfl
 rw[Array.getElem?_toList]at e2;have e3:(p.extract 0 1)[0]=47:=Option.some.inj ((Array.getElem?_eq_getElem (by exact(by omega:0<(p.extract 0 1).size))).symm.trans e2);rw[←e,e3];rfl
theorem zhe(p:ByteArray)(w:World)(h:zbf p):
  Calls Tryz.prog 150 #[.string p,.string ⟨#[47]⟩] w fun e w'=>e=.returned (.bool true)/\w'=w:=by
 have hc:=zlc h;obtain⟨h0,-⟩:=h;have h1:(1:Int)<=(p.size:Int):=by omega
 exact cQ94
theorem zis(p:ByteArray)(w:World)(h:¬zbf p):
  Calls Tryz.prog 150 #[.string p,.string ⟨#[47]⟩] w fun e w'=>e=.returned (.bool false)/\w'=w:=by
 by_cases h0:0<p.size
 ·have hc:=zld h h0;have h1:(1:Int)<=(p.size:Int):=by omega
  exact cQ94
 ·have h1:¬(1:Int)<=(p.size:Int):=by omega
  exact cQ94
theorem cut_yes(p:ByteArray)(w:World)(h:zbf p):
  Calls Tryz.prog 124 #[.string p,.string ⟨#[47]⟩] w fun e w'=>e=.returned (.tuple #[.string (p.extract 1 p.size),.bool true])/\w'=w:=by
 have HH:=hide h;obtain⟨h0,-⟩:=h;have h1:(1:Int)<=(p.size:Int):=by omega
 go_enter Tryz.func124,Tryz.ntmps124
 go_wp2_with (go_at_call 150;refine(zhe p _ HH.o).mono ?_;rintro e w2 ⟨rfl,rfl⟩)
 go_ret2
 exact⟨rfl,rfl⟩
theorem cut_no(p:ByteArray)(w:World)(h:¬zbf p):
  Calls Tryz.prog 124 #[.string p,.string ⟨#[47]⟩] w fun e w'=>e=.returned (.tuple #[.string p,.bool false])/\w'=w:=by
 have HH:=hide h;clear h;go_enter Tryz.func124,Tryz.ntmps124
 go_wp2_with (go_at_call 150;refine(zis p _ HH.o).mono ?_;rintro e w2 ⟨rfl,rfl⟩)
 go_ret2
 exact⟨rfl,rfl⟩
theorem zhf(p:ByteArray)(w:World)(h:zbf p):
  Calls Tryz.prog 87 #[.string p,.string ⟨#[47]⟩] w fun e w'=>e=.returned (.tuple #[.string (p.extract 1 p.size),.bool true])/\w'=w:=by
 have HH:=hide h;clear h;go_enter Tryz.func87,Tryz.ntmps87
 go_wp2_with (go_at_call 124;refine(cut_yes p _ HH.o).mono ?_;rintro e w2 ⟨rfl,rfl⟩)
 go_ret2
 exact⟨rfl,rfl⟩
theorem zit(p:ByteArray)(w:World)(h:¬zbf p):
  Calls Tryz.prog 87 #[.string p,.string ⟨#[47]⟩] w fun e w'=>e=.returned (.tuple #[.string p,.bool false])/\w'=w:=by
 have HH:=hide h;clear h;go_enter Tryz.func87,Tryz.ntmps87
 go_wp2_with (go_at_call 124;refine(cut_no p _ HH.o).mono ?_;rintro e w2 ⟨rfl,rfl⟩)
 go_ret2
 exact⟨rfl,rfl⟩
theorem zd2(v:Value)(l:List ByteArray)(base:Nat)(s:ByteArray)(w:World)(ho:ROwns w base 9 v (stc l))(h4:l.length=4):
  Calls Tryz.prog 88 #[v,.string s] w fun e w'=>e=.returned (.tuple #[.slice none 0 0,.bool false])/\w'=w:=by
 obtain⟨a,c,rfl,-⟩:=ho.form;rw[zaf,h4];clear ho;go_enter Tryz.func88,Tryz.ntmps88
 go_wp2
 go_ret2
 exact⟨rfl,rfl⟩
theorem zet(v:Value)(l:List ByteArray)(base:Nat)(s:ByteArray)(w:World)(ho:ROwns w base 9 v (stc l))(h4:l.length<4)(hn:zan s=false):
  Calls Tryz.prog 88 #[v,.string s] w fun e w'=>e=.returned (.tuple #[.slice none 0 0,.bool false])/\Below w.1.size w w':=by
 obtain⟨a,c,rfl,-⟩:=ho.form;obtain⟨n,hl⟩:∃n,l.length=n:=⟨_,rfl⟩
 rw[zaf,hl];rw[hl]at h4;clear ho hl;have h4i:((n:Int)==4)=false:=beq_eq_false_iff_ne.mpr oM;have HN:=hide hn;clear hn;go_enter Tryz.func88,Tryz.ntmps88
 go_wp2_with (go_at_call 98;refine(zes s _).mono ?_;rw[HN.o];rintro e w2 ⟨rfl,B2⟩)
 go_ret2
 exact⟨rfl,B2⟩
theorem zfu(v:Value)(l:List ByteArray)(base:Nat)(s:ByteArray)(w:World)(hbase:base<=w.1.size)(ho:ROwns w base 9 v (stc l))(h4:l.length<4)(hn:zan s=true):
  Calls Tryz.prog 88 #[v,.string s] w fun e w'=>∃v',e=.returned (.tuple #[v',.bool true])/\ROwns w' base 9 v' (stc (l++[s]))/\w.grownBy w' v.ownBlock:=by
 have hsz:=zap hn;obtain⟨a,c,hv,-⟩:=ho.form;obtain⟨n,hl⟩:∃n,l.length=n:=⟨_,rfl⟩
 rw[zaf,hl]at hv;rw[hl]at h4;have HL:Hid ((stc l).length<=100000000000):=by show _<=_;rw[zaf];omega
 have HO:=hide ho;have HBS:=hide hbase;clear ho hl hbase;have h4i:((n:Int)==4)=false:=beq_eq_false_iff_ne.mpr oM;have HN:=hide hn;clear hn;subst hv;go_enter Tryz.func88,Tryz.ntmps88
 go_wp2_with (first
  | (go_at_call 98;refine(zes s _).mono ?_;rw[HN.o];rintro e w2 ⟨rfl,B2⟩;have HB2:=hide B2;clear B2)
  | (go_at_call 54;refine(zdr s _ oM).mono ?_;rintro e w3 ⟨rfl,B3⟩;have HB3:Hid (Below w.1.size w w3):=HB2.o.trans (B3.mono HB2.o.size);have HB4:Hid (Below w.1.size w (w3.alloc (.cells #[.string s] 9))):=HB3.o.alloc HB3.o.size _;have HT:Hid (ROwns (w3.alloc (.cells #[.string s] 9)) base 9 (.slice a n c) (stc l)):=HO.o.below HB4.o nR;have HK2:Hid ((w3.alloc (.cells #[.string s] 9)).cell? ⟨w3.1.size,0,none⟩=some (.string s)):=zj7 w3 9 (.string s);have HSZ:Hid (base<=(w3.alloc (.cells #[.string s] 9)).1.size):=Nat.le_trans HBS.o HB4.o.size;clear B3)
  | (at_builtin;refine wpList_step fun K' hK'=>?_;refine zak _ rfl (.tmp 14) (.tmp 17) 44 rfl base 9 Tryz.u44 _ 16 Tryz.i9 rfl dC (.slice a n c) _ rfl HT.o HSZ.o w3.1.size (.string s) rfl HK2.o rfl HL.o ?_;intro v12 w12 T12 G12 V12;refine hK' _ _ ?_;have HR12:=hide (And.intro T12 (zae (zal HB4.o _) G12));clear T12 G12 V12 hK'))
 go_ret2
 exact⟨_,rfl,by rw[za3];exact HR12.o.1,HR12.o.2⟩
theorem zle(i:Int)(dx dy iv bv:Value)(xs ys:List Bool)(is:List Ino)(bs:List Blk)(w:World)(h:DR w dx dy iv bv xs ys is bs)(hR:RD is bs):
  Calls Tryz.prog 22 #[.agg #[dx,dy,iv,bv],.int .i64 i] w fun e w'=>∃v,e=.returned v/\ROwns w' w.1.size 9 v (stc ((named is bs i).map (·.1)))/\Below w.1.size w w':=by
 have CN:=hide (zlb i dx dy iv bv xs ys is bs (w.alloc (.cells #[dx,dy,iv,bv] 30)) (h.alloc _) hR);have HNM:=hide (fun s (hs:s∈named is bs i)=>zap (hR.name hs));have h8:=hR.named8 i;obtain⟨NL,hNL⟩:∃l,named is bs i=l:=⟨_,rfl⟩
 rw[hNL]at CN HNM h8 ⊢;obtain⟨a1,c1,a2,c2,a3,c3,a4,c4,rfl,rfl,rfl,rfl⟩:=h.form;clear h hR hNL;go_enter Tryz.func22,Tryz.ntmps22
 go_wp2_with fail
 refine CN.out.mono ?_;rintro e w1 ⟨lv,rfl,R1,B1⟩;have HB1:Hid (Below w.1.size w w1):=((Below.refl _ w).alloc nR _).trans (B1.mono sI);obtain⟨la,lc,rfl,-,hcl⟩:=R1.rsl;have HCL:=hide hcl;clear B1 hcl CN R1;go_wp2_with fail
 go_loopw [5,12] (fun sv kv wr=>∃(s':Value)(q:Nat),s'=sv/\q<=NL.length/\kv=.int .i64 q/\Hid (ROwns wr w1.1.size 9 s' (stc ((NL.take q).map (·.1)))/\Below w1.1.size w1 wr)) (fun _ kv _=>NL.length-(intOf kv).toNat)
 case atStart=>exact⟨_,0,rfl,Nat.zero_le _,rfl,ROwns.nil _ _ _,Below.refl _ _⟩
 case round =>
  obtain⟨sv,q,hsv,hq,rfl,HR⟩:=hrel;subst hsv;have q0:(0:Int)<=(q:Int):=by omega
  by_cases hlt:q<NL.length
  rotate_left
  ·have q1:¬((q:Int)<(NL.length:Int)):=by omega
   go_wp2;go_ret;refine⟨_,rfl,?_,HB1.o.trans (HR.o.2.mono HB1.o.size)⟩;have:=HR.o.1;rw[List.take_of_length_le oM]at this;exact this.base_le HB1.o.size
  have q1:(q:Int)<(NL.length:Int):=by omega
  obtain⟨g,o,rfl,hg,k0,k1⟩:=HCL.o q hlt;have HTK:=hide (List.take_succ_eq_append_getElem hlt);have HN6:=hide (HNM.o NL[q] (List.getElem_mem hlt)).2;obtain⟨⟨sn,si⟩,hsn⟩:∃X,NL[q]=X:=⟨_,rfl⟩
  rw[hsn]at k0 k1 HTK HN6;simp only at k0 k1 HN6
  replace k0:=(HR.o.2.cell (p:=⟨g,o+q*2,none⟩) hg).trans k0
  replace k1:=(HR.o.2.cell (p:=⟨g,o+q*2+1,none⟩) hg).trans k1
  have hgw:¬g=wr.1.size:=by have:=HR.o.2.size;omega
  clear hsn;have HCLN:=hide (fun W=>zdr sn W (Nat.le_trans HN6.o dC));go_wp2_with fail
  refine(HCLN.o _).mono ?_;rintro e w3 ⟨rfl,B3⟩;have HAL:Hid (Below w1.1.size w1 (w3.alloc (.cells #[.string sn] 9))/\ROwns (w3.alloc (.cells #[.string sn] 9)) w1.1.size 9 sv (stc ((NL.take q).map (·.1)))/\(w3.alloc (.cells #[.string sn] 9)).cell? ⟨w3.1.size,0,none⟩=some (.string sn)):=by
   have b0:=HR.o.2.alloc HR.o.2.size (.cells #[.string sn,.int .i64 si] 90);have b1:=b0.trans (B3.mono b0.size);exact⟨b1.alloc b1.size _,((HR.o.1.alloc _).below B3 nR).alloc _,zj7 _ _ _⟩
  have HSZ:Hid (w1.1.size<=(w3.alloc (.cells #[.string sn] 9)).1.size):=HAL.o.1.size;have HTL:Hid ((stc ((NL.take q).map (·.1))).length<=100000000000):=by show _<=_;rw[zaf];simp;omega
  clear B3;go_wp2_with (at_builtin;refine wpList_step fun K' hK'=>?_;refine zak _ rfl (.tmp 16) (.tmp 20) 44 rfl w1.1.size 9 Tryz.u44 _ 16 Tryz.i9 rfl dC sv _ rfl HAL.o.2.1 HSZ.o w3.1.size (.string sn) rfl HAL.o.2.2 rfl HTL.o ?_;intro v12 w12 T12 G12 V12;refine hK' _ _ ?_;have HR12:=hide (And.intro T12 (And.intro G12 V12));clear T12 G12 V12 hK')
  have HS2:Hid (ROwns w12 w1.1.size 9 v12 (stc ((NL.take (q+1)).map (·.1)))/\Below w1.1.size w1 w12):=by
   rw[HTK.o,List.map_append,za3];exact⟨HR12.o.1,HAL.o.1.grown HR12.o.2.1 HSZ.o (fun k hk=>(HAL.o.2.1.lt k hk).1)⟩
  go_roundw
  case rel=>exact⟨_,q+1,rfl,by omega,by go_num,HS2.o⟩
  case measure=>simp[intOf];omega
namespace Kit
end Kit
theorem ziu(v:Value)(xs:List Sl)(name:ByteArray)(w:World)(hv:RSl w v xs)(hl:xs.length<=1048576)(hn:name.size≠0):
  Calls Tryz.prog 183 #[v,.string name] w fun e w'=>e=.returned (.int .i64 (zbs xs name))/\Below w.1.size w w':=by
 obtain⟨a,c,rfl,-,hc⟩:=hv;have HC:=hide hc;clear hc;have HR:=hide (zek xs hn);obtain⟨R,hR⟩:∃R,zbs xs name=R:=⟨_,rfl⟩
 rw[hR]at HR ⊢;clear hR;have he:=za1 (s:=name) oM;go_enter Tryz.func183,Tryz.ntmps183
 go_wp2;go_loopw [5,6,11] (fun _ _ i wr=>∃j:Nat,j<=xs.length/\i=.int .i64 j/\Hid (R=plF name j (xs.drop j))/\Below w.1.size w wr) (fun _ _ i _=>xs.length-(intOf i).toNat)
 case atStart=>exact⟨0,Nat.zero_le _,rfl,HR,Below.refl _ _⟩
 case round =>
  obtain⟨j,hj,rfl,HP,hb⟩:=hrel;by_cases hlt:j<xs.length
  ·obtain⟨g,off,rfl,hg,k1,k2⟩:=HC.o j hlt;have q1:=(hb.cell (p:=⟨g,off+j*2,none⟩) hg).trans k1;have q2:=(hb.cell (p:=⟨g,off+j*2+1,none⟩) hg).trans k2;have hsz:=hb.size;have j0:(0:Int)<=(j:Int):=by omega
   have j1:(j:Int)<(xs.length:Int):=by omega
   obtain⟨t,ht⟩:∃t,xs[j].1=t:=⟨_,rfl⟩
   obtain⟨z,hz⟩:∃z,xs[j].2=z:=⟨_,rfl⟩
   rw[ht]at q1;rw[hz]at q2;have HT:=hide ht;have HB:=hide hb;clear k1 k2 ht hz hb;by_cases hq:t=name
   ·have b1:=zey hq;have HH:=hide (pl_hit hlt HP.o (HT.o.trans hq));clear hq;go_wp2;go_ret;exact⟨zl2 HH.o.symm,HB.o.alloc hsz _⟩
   ·have b1:=zbh hq;have HH:=hide (zl1 hlt HP.o (by rw[HT.o];exact hq));go_wp2;go_roundw
    case rel=>exact⟨j+1,by omega,by go_num,HH,HB.o.alloc hsz _⟩
    case measure=>simp[intOf];omega
  ·have HH:=hide (pl_end oM HP.o);have HB:=hide hb;clear hb;go_wp2;go_ret;exact⟨zl2 HH.o.symm,HB.o⟩
theorem ziv(v:Value)(xs:List Sl)(name:ByteArray)(w:World)(hv:RSl w v xs)(hn:name.size=0):
  Calls Tryz.prog 183 #[v,.string name] w fun e w'=>e=.returned (.int .i64 (zbs xs name))/\Below w.1.size w w':=by
 obtain⟨a,c,rfl,-⟩:=hv;rw[zej xs hn];have he:=zck (s:=name) hn;go_enter Tryz.func183,Tryz.ntmps183
 go_wp2;go_ret;exact⟨rfl,Below.refl _ _⟩
theorem zjk(v:Value)(xs:List Sl)(name:ByteArray)(w:World)(hv:RSl w v xs)(hl:xs.length<=1048576):
  Calls Tryz.prog 183 #[v,.string name] w fun e w'=>e=.returned (.int .i64 (zbs xs name))/\Below w.1.size w w':=by
 by_cases hn:name.size=0
 ·exact ziv v xs name w hv hn
 ·exact ziu v xs name w hv hl hn
theorem plF_is(nm:ByteArray):∀(xs:List Sl)(k:Nat),(plF nm k xs=-1/\∀s∈xs,¬s.1=nm)\/∃(j:Nat)(hj:j<xs.length),plF nm k xs=((k+j:Nat):Int)/\xs[j].1=nm
 | [],k=>.inl ⟨rfl,fun s hs=>by simp at hs⟩
 | s::r,k=>by
  rw[plF];by_cases h:s.1=nm
  ·rw[if_pos h];exact .inr ⟨0,by simp,rfl,h⟩
  ·rw[if_neg h];rcases plF_is nm r (k+1)with⟨e,q⟩| ⟨j,hj,e,q⟩
   ·exact .inl ⟨e,fun t ht=>(List.mem_cons.1 ht).elim (fun e=>e ▸ h) (q t)⟩
   ·exact .inr ⟨j+1,by simpa using hj,by rw[e];omega,q⟩
theorem place_is(xs:List Sl)(nm:ByteArray)(hz:nm.size≠0):(zbs xs nm=-1/\∀s∈xs,¬s.1=nm)\/∃(j:Nat)(hj:j<xs.length),zbs xs nm=(j:Int)/\xs[j].1=nm:=by
 have:=plF_is nm xs 0;unfold zbs;rw[if_neg hz];simpa using this
theorem zns(d:Value)(sv tx:Value)(ss:List Sl)(nm:ByteArray)(w:World)(h:RSl w sv ss)(hl:ss.length<=1048576):
  Calls Tryz.prog 151 #[.agg #[d,sv,tx],.string nm] w fun e w'=>e=.returned (.int .i64 (zbs ss nm))/\Below w.1.size w w':=by
 have CP:=hide (zjk sv ss nm (w.alloc (.cells #[d,sv,tx] 95)) (h.alloc _) hl);have HB:Hid (Below w.1.size w (w.alloc (.cells #[d,sv,tx] 95))):=(Below.refl _ w).alloc nR _;clear h;go_enter Tryz.func151,Tryz.ntmps151
 go_wp2_with fail
 refine CP.out.mono ?_;rintro e w1 ⟨rfl,B1⟩;have HE:=hide (HB.o.trans (B1.mono HB.o.size));clear B1;go_wp2;go_ret;exact⟨rfl,HE.o⟩
theorem ziw(i:Int)(dx dy bv:Value)(a3:Option Addr)(c3:Nat)(w:World)(hi:inB i 1 8=true):
  Calls Tryz.prog 89 #[.agg #[dx,dy,.slice a3 8 c3,bv],.int .i64 i] w fun e w'=>e=.returned (.int .i64 i)/\Below w.1.size w w':=by
 have CH:=hide (zj6 i dx dy bv a3 c3 (w.alloc (.cells #[dx,dy,.slice a3 8 c3,bv] 30)));rw[hi]at CH;have HB:Hid (Below w.1.size w ((w.alloc (.cells #[dx,dy,.slice a3 8 c3,bv] 30)).alloc (.cells #[dx,dy,.slice a3 8 c3,bv] 30))):=((Below.refl _ w).alloc nR _).alloc sI _;clear hi;go_enter Tryz.func89,Tryz.ntmps89
 go_wp2_with fail
 refine CH.out.mono ?_;rintro e w1 ⟨rfl,rfl⟩;go_wp2;go_ret;exact⟨rfl,HB.o⟩
def SpoR(bs:List Blk)(nm:ByteArray)(e:Ending):Prop:=∃(p s:Nat)(hp:p<bs.length)(hs:s<bs[p].2.1.length),e=.returned (.tuple #[.agg #[.int .i64 ((p:Int)+1),.int .i64 (s:Int)],.bool true])/\bs[p].2.1[s].1=nm
theorem SpoR.mk{bs:List Blk}{nm:ByteArray}{e:Ending}{P:Int}{s:Nat}(hs:s<(blkAt bs P).2.1.length)(he:e=.returned (.tuple #[.agg #[.int .i64 P,.int .i64 (s:Int)],.bool true]))(hn:(blkAt bs P).2.1[s].1=nm):SpoR bs nm e:=by
 cases hb:inB P 1 bs.length with
 | false=>rw[zg4 hb]at hs;exact absurd hs sI
 | true =>
  obtain⟨jb,hj,e1,e2⟩:=zbw hb;subst e1;have:∀(B:Blk),blkAt bs ((jb:Int)+1)=B->∀(hs:s<B.2.1.length),B.2.1[s].1=nm:=fun B hB=>by subst hB;exact fun _=>hn
  exact⟨jb,s,hj,e2 ▸ hs,he,this _ e2 _⟩
theorem spot_any(nm:ByteArray)(dx dy iv bv:Value)(xs ys:List Bool)(is:List Ino)(bs:List Blk)(w:World)(h:DR w dx dy iv bv xs ys is bs)(hR:RD is bs)(hz:nm.size≠0)(hn:∃s∈named is bs 1,s.1=nm):
  Calls Tryz.prog 125 #[.agg #[dx,dy,iv,bv],.int .i64 1,.string nm] w fun e w'=>SpoR bs nm e/\Below w.1.size w w':=by
 have CB:=hide (zc4 1 2 dx dy iv bv xs ys is bs ((w.alloc (.cells #[dx,dy,iv,bv] 30)).alloc (.cells #[.int .i64 0,.int .i64 0] 170)) ((h.alloc _).alloc _) hR dC);obtain⟨hl2,hb4⟩:=zc5 hR 1 2;have hk2:zbm is 1=2:=by
  obtain⟨s,hs,-⟩:=hn;unfold named at hs
  split at hs
  ·assumption
  ·simp at hs
 have hj:0<is.length:=by rw[hR.hi];decide
 have hpt:zbg is 1=is[0].2.2:=(zbi (is:=is) (j:=0) hj).2;have hBL:zay is bs 1 2=is[0].2.2.map (blkAt bs):=by unfold zay;rw[if_pos hk2,hpt]
 have hN:Hid (∃b∈zay is bs 1 2,∃s∈b.2.1,s.1=nm):=by
  obtain⟨s,hs,e⟩:=hn;unfold named at hs;rw[if_pos hk2]at hs;obtain⟨p,hp,hs⟩:=List.mem_flatMap.1 hs;unfold nmd at hs
  split at hs
  ·exact⟨blkAt bs p,by rw[hBL,←hpt];exact List.mem_map.2 ⟨p,hp,rfl⟩,s,(zdy hs).1,e⟩
  ·simp at hs
 have HB4:=hide hb4;obtain⟨a1,c1,a2,c2,a3,c3,a4,c4,rfl,rfl,rfl,rfl⟩:=h.form;have hc:=h.i;obtain⟨qa,qc,qe,-,qh⟩:=hc;simp only[Value.slice.injEq,true_and]at qe;obtain⟨rfl,rfl⟩:=qe;obtain⟨g2,o2,⟨t0,t1,t2⟩,rfl,hg2,r0,r1,r2,e0,e1,rr⟩:=qh 0 hj;have hpl:=hR.two _ (List.getElem_mem hj);obtain⟨ps,hps⟩:∃ps,is[0].2.2=ps:=⟨_,rfl⟩
 rw[hps]at rr hpl hBL;obtain⟨sa,sc',e4,hcp⟩:=rr;have e5:t2=.slice sa ps.length sc':=e4;subst e5;have h8:=hR.hi;simp only[Nat.zero_mul,Nat.add_zero]at r0 r1 r2;rw[h8]at CB;rw[h8];obtain⟨BL,hB⟩:∃l,zay is bs 1 2=l:=⟨_,rfl⟩
 rw[hB]at CB hl2 hN HB4 hBL;have HBL:=hide hBL;have HPS:Hid (∀(q:Nat)(hq:q<ps.length),∃gp op,sa=some ⟨gp,op,none⟩/\gp<w.1.size/\w.cell? ⟨gp,op+q,none⟩=some (.int .i64 ps[q])):=hcp;have hlen:BL.length=ps.length:=by rw[hBL,List.length_map]
 have HB0:Hid (∀A B,Below w.1.size w ((w.alloc (.cells A 30)).alloc (.cells B 170))):=fun A B=>((Below.refl _ w).alloc nR _).alloc sI _;have HD0:Hid (∀A B,AtC ((w.alloc (.cells A 30)).alloc (.cells B 170)) w.1.size 30 A):=fun A B=>(AtC.new w 30 A).alloc _;have HI:Hid (∀W,Below w.1.size w W->W.cell? ⟨g2,o2+2,none⟩=some (.slice sa ps.length sc')):=fun W bb=>(bb.cell (p:=⟨g2,o2+2,none⟩) hg2).trans r2;clear hn hk2 hpt hps hBL hB hcp r0 r1 r2 e0 e1 e4 qh h hR hb4 hj;have HPL:=hide hpl;clear hpl;go_enter Tryz.func125,Tryz.ntmps125
 go_wp2_with fail
 refine CB.out.mono ?_;rintro e w1 ⟨lv,rfl,R1,B1⟩;obtain⟨la,lc,rfl,-,hcl⟩:=R1;have HCL:=hide hcl;have HW1:Hid (Below w.1.size w w1/\AtC w1 w.1.size 30 #[.slice a1 xs.length c1,.slice a2 ys.length c2,.slice (some ⟨g2,o2,none⟩) 8 c3,.slice a4 bs.length c4]/\AtC w1 (w.1.size+1) 170 #[.int .i64 0,.int .i64 0]):=by
  have b:=HB0.o #[.slice a1 xs.length c1,.slice a2 ys.length c2,.slice (some ⟨g2,o2,none⟩) 8 c3,.slice a4 bs.length c4] #[.int .i64 0,.int .i64 0];have a:=AtC.new (w.alloc (.cells #[.slice a1 xs.length c1,.slice a2 ys.length c2,.slice (some ⟨g2,o2,none⟩) 8 c3,.slice a4 bs.length c4] 30)) 170 #[.int .i64 0,.int .i64 0];rw[World.size_alloc]at a;exact⟨b.trans (B1.mono b.size),(HD0.o _ _).over B1,a.over B1⟩
 clear hcl B1 CB;go_wp2_with fail
 go_loopw [15] (fun kv wr=>∃q:Nat,q<=BL.length/\kv=.int .i64 q/\Hid (Below w1.1.size w1 wr/\∀(t:Nat)(ht:t<BL.length),t<q->∀s∈BL[t].2.1,¬s.1=nm)) (fun kv _=>BL.length-(intOf kv).toNat)
 case atStart=>exact⟨0,Nat.zero_le _,rfl,Below.refl _ _,fun t _ h=>absurd h (Nat.not_lt_zero t)⟩
 case round =>
  obtain⟨q,hq,rfl,HR⟩:=hrel;have q0:(0:Int)<=(q:Int):=by omega
  by_cases hlt:q<BL.length
  rotate_left
  ·exfalso;obtain⟨b,hb,s,hs,e⟩:=hN.out;obtain⟨t,ht,rfl⟩:=List.getElem_of_mem hb;exact HR.o.2 t ht oM s hs e
  have q1:(q:Int)<(BL.length:Int):=by omega
  have q2:(q:Int)<(ps.length:Int):=by omega
  obtain⟨g,o,⟨t0,t1,t2⟩,rfl,hg,k0,k1,k2,f0,f1,f2⟩:=HCL.o q hlt;obtain⟨gp,op,rfl,hgp,kp⟩:=HPS.o q oM;have HP:=hide (show blkAt bs (ps[q]'oM)=BL[q]from by
   have:=HBL.o;subst this;simp)
  obtain⟨P,hP⟩:∃P,ps[q]'oM=P:=⟨_,rfl⟩
  rw[hP]at HP kp;have HB4':=hide (HB4.o _ (List.getElem_mem hlt)).1;obtain⟨X,hX⟩:∃X,BL[q]=X:=⟨_,rfl⟩
  rw[hX]at HP f1 HB4';have f1':RSl w1 t1 X.2.1:=f1;have HF:=hide (f1'.below HR.o.1 nR);obtain⟨ta,tc,rfl⟩:=HF.o.form;have e0:t0=.bool X.1:=by rw[←hX];exact f0
  have e2:t2=.string X.2.2:=by rw[←hX];exact f2
  subst e0 e2;simp only at k0 k1 k2
  replace k0:=(HR.o.1.cell (p:=⟨g,o+q*3,none⟩) hg).trans k0
  replace k1:=(HR.o.1.cell (p:=⟨g,o+q*3+1,none⟩) hg).trans k1
  replace k2:=(HR.o.1.cell (p:=⟨g,o+q*3+2,none⟩) hg).trans k2
  have HX:=hide hX;have CS:=hide (fun W (h:RSl W (.slice ta X.2.1.length tc) X.2.1)=>zns (.bool X.1) (.slice ta X.2.1.length tc) (.string X.2.2) X.2.1 nm W h (Nat.le_trans HB4'.o dC));have hgw:¬g=wr.1.size:=by have:=HR.o.1.size;omega
  clear f0 f1 f1' f2 hP hX;go_wp2_with fail
  refine(CS.out _ (HF.o.alloc _)).mono ?_;rintro e w3 ⟨rfl,B3⟩;have HW3:Hid (Below w1.1.size w1 w3/\Below w.1.size w w3):=by
   have b:=(HR.o.1.alloc HR.o.1.size (.cells #[.bool X.1,.slice ta X.2.1.length tc,.string X.2.2] 95))
   have b3:=b.trans (B3.mono b.size);exact⟨b3,HW1.o.1.trans (b3.mono HW1.o.1.size)⟩
  clear B3;rcases place_is X.2.1 nm hz with⟨ep,hno⟩| ⟨s,hs,ep,hyes⟩
  ·rw[ep];have HNO:=hide hno;clear hno ep;go_wp2;go_roundw
   case rel=>exact⟨q+1,by omega,by go_num,HW3.o.1,fun t ht htq s hs=>by
    by_cases e:t=q
    ·subst e;rw[HX.o]at hs;exact HNO.o s hs
    ·exact HR.o.2 t ht oM s hs⟩
   case measure=>simp[intOf];omega
  ·rw[ep];have HYES:=hide hyes;clear hyes ep;have s0:(0:Int)<=(s:Int):=by omega
   have d1:=(HW1.o.2.1.over HW3.o.1).c1;have d2:=(HW1.o.2.1.over HW3.o.1).c2;have d3:=HI.o _ HW3.o.2;have d4:w3.cell? ⟨gp,op+q,none⟩=some (.int .i64 P):=(HW3.o.2.cell (p:=⟨gp,op+q,none⟩) hgp).trans kp;have HR3:=hide (HW1.o.2.2.over HW3.o.1);have z0:=HR3.o.cell 0;have z1:=HR3.o.cell 1;have f0:=HR3.o.frozen 0;have f1:=HR3.o.frozen 1;have HST:Hid (Below w.1.size w ((w3.setCell ⟨w.1.size+1,0,none⟩ (.int .i64 P)).setCell ⟨w.1.size+1,1,none⟩ (.int .i64 s))):=(HW3.o.2.setCell (p:=⟨w.1.size+1,0,none⟩) oE _).setCell (p:=⟨w.1.size+1,1,none⟩) oE _;have HA:Hid (AtC ((w3.setCell ⟨w.1.size+1,0,none⟩ (.int .i64 P)).setCell ⟨w.1.size+1,1,none⟩ (.int .i64 s)) (w.1.size+1) 170 #[.int .i64 P,.int .i64 s]):=(HR3.o.set 0 _).set 1 _;go_wp2;have a0:=HA.o.cell 0;have a1':=HA.o.cell 1;refine bodyPost_ret (v:=.tuple #[.agg #[.int .i64 P,.int .i64 s],.bool true]) (by simp[results,go_sem,a0,a1']) rfl ?_;exact⟨SpoR.mk (P:=P) (s:=s) (by rw[HP.o];exact hs) rfl (by simp only[HP.o];exact HYES.o),HST.o⟩
def SqR(B:Nat)(w:World)(e:Ending)(l:List ByteArray)(ok:Bool):Prop:=∃lv:Value,e=.returned (.tuple #[lv,.bool ok])/\ROwns w B 9 lv (stc l)
theorem SqR.eq{B:Nat}{w:World}{l l':List ByteArray}{ok ok':Bool}(h:l'=l/\ok'=ok){lv:Value}(ho:ROwns w B 9 lv (stc l)):SqR B w (.returned (.tuple #[lv,.bool ok])) l' ok':=by
 obtain⟨rfl,rfl⟩:=h;exact⟨lv,rfl,ho⟩
theorem step_at(s:ByteArray)(pos:Nat)(h:pos<s.size):
  ((Utf8.decode s pos).1=47/\(Utf8.decode s pos).2=1/\(s[pos]).toNat=47)\/((Utf8.decode s pos).1≠47/\1<=(Utf8.decode s pos).2/\∀j,pos<=j->j<pos+(Utf8.decode s pos).2->∃hj:j<s.size,(s[j]).toNat≠47):=by
 by_cases ha:(s[pos]'h).toNat<128
 ·rw[decode_ascii s pos h ha];by_cases h47:(s[pos]'h).toNat=47
  ·exact .inl ⟨h47,rfl,h47⟩
  ·refine .inr ⟨h47,Nat.le_refl _,fun j h1 h2=>?_⟩;have:j=pos:=by simp at h2;omega
   subst this;exact⟨h,h47⟩
 ·have hh:=decode_high s pos h oM;refine .inr ⟨by omega,hh.2,fun j h1 h2=>?_⟩;have hg:∀k (hk:pos+k<s.size),(s.get! (pos+k)).toNat=(s[pos+k]).toNat:=fun k hk=>by
   simp[ByteArray.get!,getElem!_pos,hk];rfl
  have key:∀k,k<(Utf8.decode s pos).2->k=0\/(∃hk:pos+k<s.size,(s[pos+k]).toNat/64=2):=by
   intro k hk;unfold Utf8.decode at hk;simp only at hk;by_cases hk0:k=0
   ·exact .inl hk0
   ·right
    repeat' split at hk
    all_goals (try(simp only at hk;omega))
    all_goals
     rename_i q _;simp only[Bool.and_eq_true,decide_eq_true_eq,beq_iff_eq]at q;simp only at hk
    ·obtain⟨_,q1,q2⟩:=q;obtain rfl:k=1:=by omega
     exact⟨q1,by rw[←hg _ q1];exact q2⟩
    ·obtain⟨⟨_,q1,q2⟩,q3,q4⟩:=q;rcases(show k=1\/k=2 by omega)with rfl|rfl
     ·exact⟨q1,by rw[←hg _ q1];exact q2⟩
     ·exact⟨q3,by rw[←hg _ q3];exact q4⟩
    ·obtain⟨⟨⟨_,q1,q2⟩,q3,q4⟩,q5,q6⟩:=q;rcases(show k=1\/k=2\/k=3 by omega)with rfl|rfl|rfl
     ·exact⟨q1,by rw[←hg _ q1];exact q2⟩
     ·exact⟨q3,by rw[←hg _ q3];exact q4⟩
     ·exact⟨q5,by rw[←hg _ q5];exact q6⟩
  obtain⟨k,rfl⟩:∃k,j=pos+k:=⟨j-pos,by omega⟩
  rcases key k oM with rfl|⟨hk,e⟩
  ·exact⟨h,by simp only[Nat.add_zero];omega⟩
  ·exact⟨hk,by omega⟩
theorem zd3(p:ByteArray)(w:World)(hp:p.size<=1048576)(al:List ByteArray)(ok:Bool)(ha:Ans p al ok):
  Calls Tryz.prog 57 #[.string p] w fun e w'=>SqR w.1.size w' e al ok/\Below w.1.size w w':=by
 have HANS:=hide ha;clear ha;by_cases hbg:zbf p
 rotate_left
 ·have HN:=hide (HANS.o.none hbg);have HB:=hide hbg;clear hbg;go_enter Tryz.func57,Tryz.ntmps57
  go_wp2_with (go_at_call 87;refine(zit p _ HB.o).mono ?_;rintro e w2 ⟨rfl,rfl⟩)
  go_ret2
  exact⟨SqR.eq HN.o (ROwns.nil _ _ _),Below.refl _ _⟩
 have HBG:=hide hbg;obtain⟨h0,-⟩:=id hbg;clear hbg;obtain⟨r,hr⟩:∃r,p.extract 1 p.size=r:=⟨_,rfl⟩
 have hrz:r.size=p.size-1:=by rw[←hr,ByteArray.size_extract];omega
 have CP:Hid (∀W,Calls Tryz.prog 87 #[.string p,.string ⟨#[47]⟩] W fun e w'=>e=.returned (.tuple #[.string r,.bool true])/\w'=W):=fun W=>by rw[←hr];exact zhf p W HBG.o
 by_cases h1:p.size=1
 ·have HN:=hide (HANS.o.root HBG.o h1);have he:=zck (s:=r) oM;go_enter Tryz.func57,Tryz.ntmps57
  go_wp2_with (go_at_call 87;refine(CP.out _).mono ?_;rintro e w2 ⟨rfl,rfl⟩)
  go_ret2
  exact⟨SqR.eq HN.o (ROwns.nil _ _ _),Below.refl _ _⟩
 have h2:1<p.size:=by omega
 have HRT:Hid (rest p 1 1=rest r 0 0):=by show _=_;rw[zhy p oM,hr]
 have he:=za1 (s:=r) oM;have hr1:r.size<=1048576:=by omega
 clear hr hrz hp h1;go_enter Tryz.func57,Tryz.ntmps57
 go_wp2_with (go_at_call 87;refine(CP.out _).mono ?_;rintro e w2 ⟨rfl,hw2⟩;subst w2)
 clear he;go_loopw [6,7] (fun lv fr wr=>∃(pos b:Nat)(l:List ByteArray),b<=pos/\pos<=r.size/\fr=.int .i64 b/\wr.1[w.1.size]?=some (.stringIter r pos)/\Hid (ROwns wr (w.1.size+1) 9 lv (stc l)/\l.length<=4/\(∀s∈l,zan s=true)/\rest r 0 0=l++rest r b pos/\Below w.1.size w wr)) (fun _ _ wr=>r.size-wr.iterPos w.1.size)
 case atStart=>exact⟨0,0,[],Nat.le_refl _,Nat.zero_le _,rfl,World.iter_heap w r 0,ROwns.nil _ _ _,by simp,fun s hs=>by simp at hs,rfl,(Below.refl _ w).alloc nR _⟩
 case round =>
  obtain⟨pos,b,l,hbp,hps,rfl,hit,HR⟩:=hrel;have hsz:w.1.size<wr.1.size:=(Array.getElem?_eq_some_iff.1 hit).1;have b0:(0:Int)<=(b:Int):=by omega
  have bp:(b:Int)<=(pos:Int):=by omega
  by_cases hlt:pos<r.size
  ·have pr:(pos:Int)<=(r.size:Int):=by omega
   have hnx:∀ty,(Instr.next (.pointer (some ⟨w.1.size,0,none⟩)) true ty).run Tryz.prog wr=_:=fun ty=>Lib.run_next_any_at wr w.1.size r pos ty hit hlt;have hst:=step_at r pos hlt;have hd1:=decode_le r pos;obtain⟨d,hd⟩:∃d,(Utf8.decode r pos).1=d:=⟨_,rfl⟩
   obtain⟨k,hk⟩:∃k,(Utf8.decode r pos).2=k:=⟨_,rfl⟩
   rw[hd,hk]at hst hnx;rw[hd]at hd1;obtain⟨W,hW⟩:∃W,wr.iterAt w.1.size r (pos+k)=W:=⟨_,rfl⟩
   have hit2:W.1[w.1.size]?=some (.stringIter r (pos+k)):=by rw[←hW];exact Lib.iterAt_heap wr w.1.size r pos (pos+k) hit
   have HW:Hid (ROwns W (w.1.size+1) 9 u6 (stc l)/\Below w.1.size w W):=by
    rw[←hW];exact⟨HR.o.1.of_heap fun j hj=>Lib.iterAt_other wr w.1.size j r (pos+k) (by have:=(HR.o.1.lt j hj).1;omega),Lib.below_iterAt HR.o.2.2.2.2 nR r (pos+k)⟩
   have HIP:Hid (wr.iterPos w.1.size=pos):=by show _=_;simp only[World.iterPos,hit]
   rw[hW]at hnx;clear hd hk hW;have hsz2:w.1.size+1<=W.1.size:=(Array.getElem?_eq_some_iff.1 hit2).1;rcases hst with⟨rfl,rfl,h47⟩| ⟨h47,hk1,hsk⟩
   ·have HC:Hid (rest r b pos=r.extract b pos::rest r (pos+1) (pos+1)):=zgx r b pos hlt h47;obtain⟨x,hx⟩:∃x,r.extract b pos=x:=⟨_,rfl⟩
    rw[hx]at HC;by_cases h4:l.length=4
    ·have HBAD:Hid (al=[]/\ok=false):=HANS.o.bad HBG.o h2 (zcw (by rw[HRT.o,HR.o.2.2.2.1,HC.o];simp;omega));go_wp2_with (go_at_call 88;refine(zd2 u6 l _ x _ HW.o.1 h4).mono ?_;rintro e w2 ⟨rfl,rfl⟩)
     go_ret2
     exact⟨SqR.eq HBAD.o (ROwns.nil _ _ _),HW.o.2⟩
    ·have HL4:Hid (l.length<4):=by have:=HR.o.2.1;show _<_;omega
     cases hn:zan x with
     | false =>
      have HBAD:Hid (al=[]/\ok=false):=HANS.o.bad HBG.o h2 (zb8 (x:=x) (by rw[HRT.o,HR.o.2.2.2.1,HC.o]) hn);have HN:=hide hn;clear hn;go_wp2_with (go_at_call 88;refine(zet u6 l _ x _ HW.o.1 HL4.o HN.o).mono ?_;rintro e w2 ⟨rfl,B2⟩;have HB2:=hide (HW.o.2.trans (B2.mono HW.o.2.size));clear B2)
      go_ret2
      exact⟨SqR.eq HBAD.o (ROwns.nil _ _ _),HB2.o⟩
     | true =>
      have HN:=hide hn;clear hn;go_wp2_with (go_at_call 88;refine(zfu u6 l _ x _ hsz2 HW.o.1 HL4.o HN.o).mono ?_;rintro e w2 ⟨v2,rfl,O2,G2⟩;have HO2:=hide O2;have HG2:=hide G2;clear O2 G2)
      have hit3:w2.1[w.1.size]?=some (.stringIter r (pos+1)):=(HG2.o.block w.1.size oM (fun e=>by have:=(HW.o.1.lt w.1.size e.symm).1;omega)).trans hit2;have HREL:Hid (∃(pos' b':Nat)(l':List ByteArray),b'<=pos'/\pos'<=r.size/\Value.int .i64 ((pos:Int)+1)=.int .i64 b'/\w2.1[w.1.size]?=some (.stringIter r pos')/\Hid (ROwns w2 (w.1.size+1) 9 v2 (stc l')/\l'.length<=4/\(∀s∈l',zan s=true)/\rest r 0 0=l'++rest r b' pos'/\Below w.1.size w w2)):=by
       refine⟨pos+1,pos+1,l++[x],Nat.le_refl _,by omega,by go_num,hit3,HO2.o,by have:=HL4.o;simp;omega,fun s hs=>?_,?_,HW.o.2.trans ⟨HG2.o.os,HG2.o.tape,HG2.o.output,HG2.o.size,fun j hj=>HG2.o.block j oM (fun e=>by have:=(HW.o.1.lt j e.symm).1;omega)⟩⟩
       ·rcases List.mem_append.mp hs with e|e
        ·exact HR.o.2.2.1 s e
        ·simp only[List.mem_cons,List.not_mem_nil,or_false]at e;subst e;exact HN.o
       ·rw[HR.o.2.2.2.1,HC.o,List.append_assoc];rfl
      have HM:Hid (w2.iterPos w.1.size=pos+1):=by show _=_;simp only[World.iterPos,hit3]
      go_roundw
      case rel=>first| exact HREL.o|((repeat apply Exists.intro);exact⟨HREL.o,rfl⟩)
      case measure=>rw[HM.o,HIP.o];omega
   ·have hpk:pos+k<=r.size:=by
     obtain⟨q,-⟩:=hsk (pos+k-1) oM oM;omega
    have HS:Hid (rest r b pos=rest r b (pos+k)):=zcg r b k pos hsk;clear hsk;have hdi:((d:Int) != 47)=true:=by simp;omega
    have HM:Hid (W.iterPos w.1.size=pos+k):=by show _=_;simp only[World.iterPos,hit2]
    go_wp2;go_roundw
    case rel=>exact⟨pos+k,b,l,by omega,hpk,rfl,hit2,HW.o.1,HR.o.2.1,HR.o.2.2.1,by rw[←HS.o];exact HR.o.2.2.2.1,HW.o.2⟩
    case measure=>rw[HM.o,HIP.o];omega
  ·have hnx:∀ty,(Instr.next (.pointer (some ⟨w.1.size,0,none⟩)) true ty).run Tryz.prog wr=_:=fun ty=>Lib.run_next_end_at wr w.1.size r pos ty hit hlt;have br:(b:Int)<=(r.size:Int):=by omega
   have HC:Hid (rest r b pos=[r.extract b r.size]):=zex r b pos oM;obtain⟨x,hx⟩:∃x,r.extract b r.size=x:=⟨_,rfl⟩
   rw[hx]at HC;have HALL:Hid (rest p 1 1=l++[x]):=by show _=_;rw[HRT.o,HR.o.2.2.2.1,HC.o]
   have hsz2:w.1.size+1<=wr.1.size:=hsz;by_cases h4:l.length=4
   ·have HBAD:Hid (al=[]/\ok=false):=HANS.o.bad HBG.o h2 (zcw (by rw[HALL.o];simp;omega));go_wp2_with (go_at_call 88;refine(zd2 u6 l _ x _ HR.o.1 h4).mono ?_;rintro e w2 ⟨rfl,rfl⟩)
    go_ret2
    exact⟨SqR.eq HBAD.o (ROwns.nil _ _ _),HR.o.2.2.2.2⟩
   ·have HL4:Hid (l.length<4):=by have:=HR.o.2.1;show _<_;omega
    cases hn:zan x with
    | false =>
     have HBAD:Hid (al=[]/\ok=false):=HANS.o.bad HBG.o h2 (zb8 (x:=x) (b:=[]) HALL.o hn);have HN:=hide hn;clear hn;go_wp2_with (go_at_call 88;refine(zet u6 l _ x _ HR.o.1 HL4.o HN.o).mono ?_;rintro e w2 ⟨rfl,B2⟩;have HB2:=hide (HR.o.2.2.2.2.trans (B2.mono HR.o.2.2.2.2.size));clear B2)
     go_ret2
     exact⟨SqR.eq HBAD.o (ROwns.nil _ _ _),HB2.o⟩
    | true =>
     have HGD:Hid (al=l++[x]/\ok=true):=by
      have:=HANS.o.good HBG.o h2 ⟨fun s hs=>?_,by rw[HALL.o];have:=HL4.o;simp;omega⟩
      ·rw[HALL.o]at this;exact this
      ·rw[HALL.o]at hs;rcases List.mem_append.mp hs with e|e
       ·exact HR.o.2.2.1 s e
       ·simp only[List.mem_cons,List.not_mem_nil,or_false]at e;subst e;exact hn
     have HN:=hide hn;clear hn;go_wp2_with (go_at_call 88;refine(zfu u6 l _ x _ hsz2 HR.o.1 HL4.o HN.o).mono ?_;rintro e w2 ⟨v2,rfl,O2,G2⟩;have HO2:=hide O2;have HG2:=hide G2;clear O2 G2)
     go_ret2
     exact⟨SqR.eq HGD.o (HO2.o.base_le oM),HR.o.2.2.2.2.trans ⟨HG2.o.os,HG2.o.tape,HG2.o.output,HG2.o.size,fun j hj=>HG2.o.block j oM (fun e=>by have:=(HR.o.1.lt j e.symm).1;omega)⟩⟩
def Leads(bs:List Blk):Prop:=∀b∈bs,∀s∈b.2.1,s.1.size≠0->1<=s.2/\s.2<=8
theorem zix(nm:ByteArray)(dx dy iv bv:Value)(xs ys:List Bool)(is:List Ino)(bs:List Blk)(w:World)(h:DR w dx dy iv bv xs ys is bs)(hR:RD is bs)(hL:Leads bs)(hz:nm.size≠0)(hn:∃s∈named is bs 1,s.1=nm):
  Calls Tryz.prog 90 #[.agg #[dx,dy,iv,bv],.int .i64 1,.string nm] w fun e w'=>(∃r:Int,e=.returned (.int .i64 r)/\1<=r/\r<=8)/\Below w.1.size w w':=by
 have CS:=hide (spot_any nm dx dy iv bv xs ys is bs (w.alloc (.cells #[dx,dy,iv,bv] 30)) (h.alloc _) hR hz hn);obtain⟨a1,c1,a2,c2,a3,c3,a4,c4,rfl,rfl,rfl,rfl⟩:=h.form;have h8:=hR.hi;have h16:=hR.hb;have HL:=hide hL;have HK:=hide h.k;have HZ:=hide hz;have HH16:=hide h16;rw[h8,h16]at CS ⊢;clear h hR hL hz hn h8 h16;have HB0:Hid (∀A,Below w.1.size w (w.alloc (.cells A 30))):=fun A=>(Below.refl _ w).alloc nR _;go_enter Tryz.func90,Tryz.ntmps90
 go_wp2_with fail
 refine CS.out.mono ?_;rintro e w1 ⟨⟨p,s,hp,hs,rfl,hnm⟩,B1⟩;have HW:Hid (Below w.1.size w (w1.alloc (.cells #[.int .i64 ((p:Int)+1),.int .i64 s] 170))/\AtC (w1.alloc (.cells #[.int .i64 ((p:Int)+1),.int .i64 s] 170)) w.1.size 30 #[.slice a1 xs.length c1,.slice a2 ys.length c2,.slice a3 8 c3,.slice a4 16 c4]/\AtC (w1.alloc (.cells #[.int .i64 ((p:Int)+1),.int .i64 s] 170)) w1.1.size 170 #[.int .i64 ((p:Int)+1),.int .i64 s]):=by
  have b1:=(HB0.o #[.slice a1 xs.length c1,.slice a2 ys.length c2,.slice a3 8 c3,.slice a4 16 c4]).trans (B1.mono sI);exact⟨b1.alloc b1.size _,((AtC.new w 30 _).over B1).alloc _,AtC.new w1 170 _⟩
 obtain⟨W,hW⟩:∃W,w1.alloc (.cells #[.int .i64 ((p:Int)+1),.int .i64 s] 170)=W:=⟨_,rfl⟩
 rw[hW]at HW;obtain⟨qa,qc,e0,-,hc⟩:=HK.o;simp only[Value.slice.injEq,true_and]at e0;obtain⟨rfl,rfl⟩:=e0;obtain⟨g,o,⟨t0,t1,t2⟩,rfl,hg,k0,k1,k2,f0,f1,f2⟩:=hc p hp;have f1':RSl w t1 bs[p].2.1:=f1;have hld:=HL.o _ (List.getElem_mem hp) _ (List.getElem_mem hs) (by rw[hnm];exact HZ.o);obtain⟨ta,tc,rfl,-,hsl⟩:=f1';obtain⟨gs,os,rfl,hgs,m0,m1⟩:=hsl s hs;obtain⟨⟨sn,si⟩,hsn⟩:∃X,bs[p].2.1[s]=X:=⟨_,rfl⟩
 rw[hsn]at m1 hld;simp only at k1 m1 hld;obtain⟨n,hn⟩:∃n,bs[p].2.1.length=n:=⟨_,rfl⟩
 rw[hn]at k1 hs;have HLD:=hide hld;have HS:Hid (∀W',Below W.1.size W W'->(W'.cell? ⟨w.1.size,0,none⟩=some (.slice a1 xs.length c1)/\W'.cell? ⟨w.1.size,1,none⟩=some (.slice a2 ys.length c2)/\W'.cell? ⟨w.1.size,2,none⟩=some (.slice a3 8 c3)/\W'.cell? ⟨w.1.size,3,none⟩=some (.slice (some ⟨g,o,none⟩) 16 c4)/\W'.cell? ⟨w1.1.size,0,none⟩=some (.int .i64 ((p:Int)+1))/\W'.cell? ⟨w1.1.size,1,none⟩=some (.int .i64 s)/\W'.cell? ⟨g,o+p*3+1,none⟩=some (.slice (some ⟨gs,os,none⟩) n tc)/\W'.cell? ⟨gs,os+s*2+1,none⟩=some (.int .i64 si))):=fun W' b=>by
  have d:=HW.o.2.1.over b;have q:=HW.o.2.2.over b;have bb:=HW.o.1.trans (b.mono HW.o.1.size);exact⟨d.cell 0,d.cell 1,d.cell 2,d.cell 3,q.cell 0,q.cell 1,(bb.cell (p:=⟨g,o+p*3+1,none⟩) hg).trans k1,(bb.cell (p:=⟨gs,os+s*2+1,none⟩) hgs).trans m1⟩
 have CT:=hide (fun W=>ziw si (.slice a1 xs.length c1) (.slice a2 ys.length c2) (.slice (some ⟨g,o,none⟩) 16 c4) a3 c3 W (by show decide _=true;exact decide_eq_true hld));have hp16:p<16:=by have:=HH16.o;omega
 have p0:(0:Int)<=(p:Int):=by omega
 have p1:(p:Int)<16:=by omega
 have s0:(0:Int)<=(s:Int):=by omega
 have s1:(s:Int)<(n:Int):=by omega
 have hwp:IntKind.i64.wrap (p:Int)=(p:Int):=wrap_small _ oM oM;clear hn hsn hc hsl k0 k1 k2 f0 f1 f2 m0 m1 hld HK HL B1 hnm CS;go_upto_region 4 with fail
 obtain⟨y0,y1,y2,y3,y4,y5,y6,y7⟩:=HS.o _ bR
 go_region_held3 (fun w'=>w'.cell? ⟨w.1.size,0,none⟩=some (.slice a1 xs.length c1)/\w'.cell? ⟨w.1.size,1,none⟩=some (.slice a2 ys.length c2)/\w'.cell? ⟨w.1.size,2,none⟩=some (.slice a3 8 c3)/\w'.cell? ⟨w.1.size,3,none⟩=some (.slice (some ⟨g,o,none⟩) 16 c4)/\w'.cell? ⟨w1.1.size,0,none⟩=some (.int .i64 ((p:Int)+1))/\w'.cell? ⟨w1.1.size,1,none⟩=some (.int .i64 s)/\w'.cell? ⟨g,o+p*3+1,none⟩=some (.slice (some ⟨gs,os,none⟩) n tc)/\w'.cell? ⟨gs,os+s*2+1,none⟩=some (.int .i64 si)) (first| exact HS.o _ bR.drew|exact HS.o _ (zac B3)) ((go_at_call 89;refine(CT.out _).mono ?_;rintro e w3 ⟨rfl,B3⟩))
 have HE:=hide (HW.o.1.trans ((zac B3).mono HW.o.1.size));clear B3;go_wp2;go_ret;refine⟨⟨si,rfl,HLD.o⟩,?_⟩
 first| exact HE.o|exact HE.o.drew|trace_state
theorem ziy(dx dy bv:Value)(a3:Option Addr)(c3:Nat)(w:World):
  Calls Tryz.prog 89 #[.agg #[dx,dy,.slice a3 8 c3,bv],.int .i64 1] w fun e w'=>e=.returned (.int .i64 1)/\Below w.1.size w w':=ziw 1 dx dy bv a3 c3 w rfl
theorem znt(la:Option Addr)(lc:Nat)(dx dy iv bv:Value)(xs ys:List Bool)(is:List Ino)(bs:List Blk)(w:World)(h:DR w dx dy iv bv xs ys is bs)(hR:RD is bs):
  Calls Tryz.prog 58 #[.agg #[dx,dy,iv,bv],.slice la 0 lc] w fun e w'=>e=.returned (.int .i64 1)/\Below w.1.size w w':=by
 obtain⟨a1,c1,a2,c2,a3,c3,a4,c4,rfl,rfl,rfl,rfl⟩:=h.form;rw[hR.hi];have CT:=hide (fun W=>ziy (.slice a1 xs.length c1) (.slice a2 ys.length c2) (.slice a4 bs.length c4) a3 c3 W);have HB0:Hid (∀A,Below w.1.size w (w.alloc (.cells A 30))):=fun A=>(Below.refl _ w).alloc nR _;clear h hR;go_enter Tryz.func58,Tryz.ntmps58
 go_wp2_with fail
 refine(CT.out _).mono ?_;rintro e w1 ⟨rfl,B1⟩;have HB1:=hide ((HB0.o #[.slice a1 xs.length c1,.slice a2 ys.length c2,.slice a3 8 c3,.slice a4 bs.length c4]).trans (B1.mono sI));clear B1;go_wp2_with fail
 go_loopw [5,12] (fun iv kv wr=>iv=.int .i64 1/\kv=.int .i64 0/\w1=wr) (fun _ _ _=>0)
 case atStart=>exact⟨rfl,rfl,rfl⟩
 case round =>
  obtain⟨rfl,rfl,rfl⟩:=hrel;go_wp2;go_ret;exact⟨rfl,HB1.o⟩
theorem znu(nm:ByteArray)(lv:Value)(dx dy iv bv:Value)(xs ys:List Bool)(is:List Ino)(bs:List Blk)(w:World)(h:DR w dx dy iv bv xs ys is bs)(hR:RD is bs)(hL:Leads bs)(hz:nm.size≠0)(hn:∃s∈named is bs 1,s.1=nm)(hl:RSt w lv [nm]):
  Calls Tryz.prog 58 #[.agg #[dx,dy,iv,bv],lv] w fun e w'=>(∃r:Int,e=.returned (.int .i64 r)/\1<=r/\r<=8)/\Below w.1.size w w':=by
 have CN:=hide (fun W (b:Below w.1.size w W)=>zix nm dx dy iv bv xs ys is bs W (h.below b nR) hR hL hz hn);obtain⟨la,lc,rfl,hll⟩:=hl;obtain⟨gn,on,rfl,hgn,kn⟩:=hll 0 sI;simp only[List.getElem_cons_zero,Nat.add_zero]at kn;obtain⟨a1,c1,a2,c2,a3,c3,a4,c4,rfl,rfl,rfl,rfl⟩:=h.form;rw[hR.hi]at CN ⊢;have CT:=hide (fun W=>ziy (.slice a1 xs.length c1) (.slice a2 ys.length c2) (.slice a4 bs.length c4) a3 c3 W);have HB0:Hid (∀A,Below w.1.size w (w.alloc (.cells A 30))/\AtC (w.alloc (.cells A 30)) w.1.size 30 A):=fun A=>⟨(Below.refl _ w).alloc nR _,AtC.new w 30 A⟩
 have HKN:Hid (∀W,Below w.1.size w W->W.cell? ⟨gn,on,none⟩=some (.string nm)):=fun W b=>(b.cell (p:=⟨gn,on,none⟩) hgn).trans kn;clear h hR hL hz hn hll kn;go_enter Tryz.func58,Tryz.ntmps58
 go_wp2_with fail
 refine(CT.out _).mono ?_;rintro e w1 ⟨rfl,B1⟩;have HB1:Hid (Below w.1.size w w1/\AtC w1 w.1.size 30 #[.slice a1 xs.length c1,.slice a2 ys.length c2,.slice a3 8 c3,.slice a4 bs.length c4]):=by
  obtain⟨b0,d0⟩:=HB0.o #[.slice a1 xs.length c1,.slice a2 ys.length c2,.slice a3 8 c3,.slice a4 bs.length c4];exact⟨b0.trans (B1.mono b0.size),d0.over B1⟩
 clear B1;have kn:=HKN.o _ HB1.o.1;have d0:=HB1.o.2.cell 0;have d1:=HB1.o.2.cell 1;have d2:=HB1.o.2.cell 2;have d3:=HB1.o.2.cell 3;go_wp2_with fail
 go_loopw [5,12] (fun iv kv wr=>(iv=.int .i64 1/\kv=.int .i64 0/\w1=wr)\/(∃r:Int,iv=.int .i64 r/\kv=.int .i64 1/\Hid ((1<=r/\r<=8)/\Below w.1.size w wr))) (fun _ kv _=>1-(intOf kv).toNat)
 case atStart=>exact .inl ⟨rfl,rfl,rfl⟩
 case round =>
  rcases hrel with⟨rfl,rfl,rfl⟩| ⟨r,rfl,rfl,HR⟩
  ·go_wp2_with fail
   refine(CN.out _ HB1.o.1).mono ?_;rintro e w2 ⟨⟨r,rfl,hr⟩,B2⟩;have HE:=hide (And.intro hr (HB1.o.1.trans (B2.mono HB1.o.1.size)));clear B2 hr;go_wp2;go_roundw
   case rel=>exact .inr ⟨r,rfl,rfl,HE.o⟩
   case measure=>simp[intOf]
  ·clear kn d0 d1 d2 d3;go_wp2;go_ret;exact⟨⟨r,rfl,HR.o.1⟩,HR.o.2⟩
theorem zhg(nm p:ByteArray)(dx dy iv bv:Value)(xs ys:List Bool)(is:List Ino)(bs:List Blk)(w:World)(h:DR w dx dy iv bv xs ys is bs)(hR:RD is bs)(hL:Leads bs)(hz:nm.size≠0)(hn:∃s∈named is bs 1,s.1=nm)(hp:p.size<=1048576)(ha:Ans p [nm] true):
  Calls Tryz.prog 27 #[.agg #[dx,dy,iv,bv],.string p] w fun e w'=>(∃r:Int,e=.returned (.int .i64 r)/\1<=r/\r<=8)/\Below w.1.size w w':=by
 have CS:=hide (fun W=>zd3 p W hp [nm] true ha);have CW:=hide (fun W lv (b:Below w.1.size w W) (hl:RSt W lv [nm])=>znu nm lv dx dy iv bv xs ys is bs W (h.below b nR) hR hL hz hn hl);obtain⟨a1,c1,a2,c2,a3,c3,a4,c4,rfl,rfl,rfl,rfl⟩:=h.form;have HB0:Hid (∀A,Below w.1.size w (w.alloc (.cells A 30))/\AtC (w.alloc (.cells A 30)) w.1.size 30 A):=fun A=>⟨(Below.refl _ w).alloc nR _,AtC.new w 30 A⟩
 clear h hR hL hz hn hp ha;go_enter Tryz.func27,Tryz.ntmps27
 go_wp2_with fail
 refine(CS.out _).mono ?_;rintro e w1 ⟨⟨lv,rfl,O1⟩,B1⟩;have HB1:Hid (Below w.1.size w w1/\AtC w1 w.1.size 30 #[.slice a1 xs.length c1,.slice a2 ys.length c2,.slice a3 is.length c3,.slice a4 bs.length c4]/\RSt w1 lv [nm]):=by
  obtain⟨b0,d0⟩:=HB0.o #[.slice a1 xs.length c1,.slice a2 ys.length c2,.slice a3 is.length c3,.slice a4 bs.length c4];exact⟨b0.trans (B1.mono b0.size),d0.over B1,O1.rst⟩
 clear B1 O1;have d0:=HB1.o.2.1.cell 0;have d1:=HB1.o.2.1.cell 1;have d2:=HB1.o.2.1.cell 2;have d3:=HB1.o.2.1.cell 3;go_wp2_with fail
 refine(CW.out _ _ HB1.o.1 HB1.o.2.2).mono ?_;rintro e w2 ⟨⟨r,rfl,hr⟩,B2⟩;have HE:=hide (And.intro hr (HB1.o.1.trans (B2.mono HB1.o.1.size)));clear B2 hr;go_wp2;go_ret;exact⟨⟨r,rfl,HE.o.1⟩,HE.o.2⟩
theorem zhh(p:ByteArray)(dx dy iv bv:Value)(xs ys:List Bool)(is:List Ino)(bs:List Blk)(w:World)(h:DR w dx dy iv bv xs ys is bs)(hR:RD is bs)(hp:p.size<=1048576)(ha:Ans p [] true):
  Calls Tryz.prog 27 #[.agg #[dx,dy,iv,bv],.string p] w fun e w'=>e=.returned (.int .i64 1)/\Below w.1.size w w':=by
 have CS:=hide (fun W=>zd3 p W hp [] true ha);have CW:=hide (fun W la lc (b:Below w.1.size w W)=>znt la lc dx dy iv bv xs ys is bs W (h.below b nR) hR);obtain⟨a1,c1,a2,c2,a3,c3,a4,c4,rfl,rfl,rfl,rfl⟩:=h.form;have HB0:Hid (∀A,Below w.1.size w (w.alloc (.cells A 30))/\AtC (w.alloc (.cells A 30)) w.1.size 30 A):=fun A=>⟨(Below.refl _ w).alloc nR _,AtC.new w 30 A⟩
 clear h hR hp ha;go_enter Tryz.func27,Tryz.ntmps27
 go_wp2_with fail
 refine(CS.out _).mono ?_;rintro e w1 ⟨⟨lv,rfl,O1⟩,B1⟩;obtain⟨la,lc,rfl,-⟩:=O1.form;have HB1:Hid (Below w.1.size w w1/\AtC w1 w.1.size 30 #[.slice a1 xs.length c1,.slice a2 ys.length c2,.slice a3 is.length c3,.slice a4 bs.length c4]):=by
  obtain⟨b0,d0⟩:=HB0.o #[.slice a1 xs.length c1,.slice a2 ys.length c2,.slice a3 is.length c3,.slice a4 bs.length c4];exact⟨b0.trans (B1.mono b0.size),d0.over B1⟩
 clear B1 O1;have d0:=HB1.o.2.cell 0;have d1:=HB1.o.2.cell 1;have d2:=HB1.o.2.cell 2;have d3:=HB1.o.2.cell 3;go_wp2_with fail
 refine(CW.out _ _ _ HB1.o.1).mono ?_;rintro e w2 ⟨rfl,B2⟩;have HE:=hide (HB1.o.1.trans (B2.mono HB1.o.1.size));clear B2;go_wp2;go_ret;exact⟨rfl,HE.o⟩
theorem dkR_big{xs ys:List Bool}{is:List Ino}{bs:List Blk}(h:DkR xs ys is bs):Big 1048576 xs ys is bs :=
 ⟨by rw[h.x];decide,by rw[h.y];decide,by rw[h.i];decide,fun j hj=>by rw[(h.ii _ (List.getElem_mem hj)).n];decide,by rw[h.b];decide,fun j hj=>zgv (h.bb _ (List.getElem_mem hj)).toKOk0⟩
theorem znv(w:World)(a:Option Addr)(len cap:Nat)(hcode:zbe w a len)(hlen:len<=1048576):
  Calls Tryz.prog 21 #[.slice a len cap] w fun e w'=>∃u v iv bv xs ys is bs,e=.returned (.agg #[u,v,iv,bv])/\DR w' u v iv bv xs ys is bs/\DkR xs ys is bs/\Below w.1.size w w':=by
 obtain⟨W0,hW0⟩:∃W0,w.alloc (.cells #[.slice none 0 0,.slice none 0 0,.slice none 0 0,.slice none 0 0] 30)=W0:=⟨_,rfl⟩
 have HO:Hid (zbe W0 a len):=by rw[←hW0];exact zkb hcode ((Below.refl _ w).alloc nR _)
 have hsz:w.1.size<W0.1.size:=by rw[←hW0];simp
 have hR:∀w',Below W0.1.size W0 w'->AtC w' w.1.size 30 #[.slice none 0 0,.slice none 0 0,.slice none 0 0,.slice none 0 0]/\Below w.1.size w w':=fun w' hb=>by
  rw[←hW0]at hb;exact⟨(AtC.new w 30 _).over hb,((Below.refl _ w).alloc nR _).trans (hb.mono sI)⟩
 clear hcode;go_enter Tryz.func21,Tryz.ntmps21
 go_wp2_with fail
 clear hW0;refine(dNew_any W0 a len cap HO.o hlen).mono ?_;rintro e w1 ⟨rfl,C1,hlt1⟩;have HD1:Hid (Drew W0 w1 w1 W0.1.size a len cap):=Drew.refl C1;clear C1;go_wp2_with fail
 refine(zno W0 w1 W0.1.size a len cap HO.o hlen HD1.o.cur hlt1).mono ?_;rintro e w2 ⟨u,v,iv,bv,xs,ys,is,bs,rfl,O2,K2,D2⟩;have HK:=hide K2;have HR2:=hide O2.dr;have HD2:=hide D2;clear K2 O2 D2 HD1;go_wp2_with fail
 refine(zbq u v iv bv xs ys is bs w2 HR2.o (dkR_big HK.o)).mono ?_;rintro e w3 ⟨u',v',i',b',rfl,O3,B3⟩;have HB3:=hide (HD2.o.1.2.1.trans (B3.mono HD2.o.1.2.1.size));have HS2:=hide HD2.o.2.size;obtain⟨a1,c1,a2,c2,a3,c3,a4,c4,rfl,rfl,rfl,rfl⟩:=O3.dr.form;have HO3:=hide O3;have HR:=hide (hR w3 HB3.o);have r0:=HR.o.1.cell 0;have r1:=HR.o.1.cell 1;have r2:=HR.o.1.cell 2;have r3:=HR.o.1.cell 3;have f0:=HR.o.1.frozen 0;have f1:=HR.o.1.frozen 1;have f2:=HR.o.1.frozen 2;have f3:=HR.o.1.frozen 3;have HHR:=hide HR.o.2;have HSZ:Hid (w.1.size<w2.1.size):=by have:=HS2.o;show _<_;omega
 have HA:Hid (∀p q r s,AtC ((((w3.setCell ⟨w.1.size,0,none⟩ p).setCell ⟨w.1.size,1,none⟩ q).setCell ⟨w.1.size,2,none⟩ r).setCell ⟨w.1.size,3,none⟩ s) w.1.size 30 #[p,q,r,s]/\Below w.1.size w ((((w3.setCell ⟨w.1.size,0,none⟩ p).setCell ⟨w.1.size,1,none⟩ q).setCell ⟨w.1.size,2,none⟩ r).setCell ⟨w.1.size,3,none⟩ s)):=fun p q r s =>
  ⟨(((HR.o.1.set 0 p).set 1 q).set 2 r).set 3 s,(((HHR.o.setCell (p:=⟨w.1.size,0,none⟩) nR p).setCell (p:=⟨w.1.size,1,none⟩) nR q).setCell (p:=⟨w.1.size,2,none⟩) nR r).setCell (p:=⟨w.1.size,3,none⟩) nR s⟩
 have HO4:Hid (∀p q r s,DR ((((w3.setCell ⟨w.1.size,0,none⟩ p).setCell ⟨w.1.size,1,none⟩ q).setCell ⟨w.1.size,2,none⟩ r).setCell ⟨w.1.size,3,none⟩ s) (.slice a1 xs.length c1) (.slice a2 ys.length c2) (.slice a3 is.length c3) (.slice a4 bs.length c4) xs ys is bs):=fun p q r s =>
  (HO3.o.of_heap fun k hk _=>by
   have hn:k≠w.1.size:=by have:=HSZ.o;have:w2.1.size<=k:=hk;omega
   rw[heap_setCell_other _ ⟨w.1.size,3,none⟩ k _ hn,heap_setCell_other _ ⟨w.1.size,2,none⟩ k _ hn,heap_setCell_other _ ⟨w.1.size,1,none⟩ k _ hn,heap_setCell_other _ ⟨w.1.size,0,none⟩ k _ hn]).dr
 clear O3 B3 HB3 HD2 HR2 hR HO3 HHR;go_wp2_with fail
 obtain⟨HA1,HA2⟩:=HA.o (.slice a1 xs.length c1) (.slice a2 ys.length c2) (.slice a3 is.length c3) (.slice a4 bs.length c4);have s0:=HA1.cell 0;have s1:=HA1.cell 1;have s2:=HA1.cell 2;have s3:=HA1.cell 3;exact bodyPost_ret (v:=.agg #[.slice a1 xs.length c1,.slice a2 ys.length c2,.slice a3 is.length c3,.slice a4 bs.length c4]) (by simp[results,go_sem,s0,s1,s2,s3]) rfl ⟨_,_,_,_,xs,ys,is,bs,rfl,HO4.o _ _ _ _,HK.o,HA2⟩
theorem zci(nm:ByteArray):((⟨#[47]⟩:ByteArray)++nm).size=nm.size+1:=by
 rw[ByteArray.size_append];show 1+nm.size=nm.size+1;omega
theorem znw(nm:ByteArray):((⟨#[47]⟩:ByteArray)++nm).extract 1 ((⟨#[47]⟩:ByteArray)++nm).size=nm:=by
 rw[zci];apply ByteArray.ext;rw[ByteArray.data_extract,ByteArray.data_append];apply Array.ext';rw[Array.toList_extract,Array.toList_append];show List.extract ([47]++nm.data.toList) 1 (nm.size+1)=_;have e:nm.data.toList.length=nm.size:=rfl;unfold List.extract;rw[Nat.add_sub_cancel];show nm.data.toList.take nm.size=_;rw[←e,List.take_length]
theorem ziz(nm:ByteArray):zbf ((⟨#[47]⟩:ByteArray)++nm):=by
 refine⟨by rw[zci];omega,?_⟩;rw[ByteArray.getElem_append_left dC];rfl
theorem ans_one{nm:ByteArray}(h:zan nm=true):Ans ((⟨#[47]⟩:ByteArray)++nm) [nm] true:=by
 have hs:=zap h;have hr:rest ((⟨#[47]⟩:ByteArray)++nm) 1 1=[nm]:=by
  rw[zhy _ (by rw[zci];omega),znw];rw[zcg nm 0 nm.size 0 (fun j _ hj=>⟨by omega,fun e=>by
   have hc:=(of_decide_eq_true h).2 j oM;unfold chN at hc;rw[e]at hc;exact absurd hc dC⟩),zex nm 0 _ oM]
  rw[ByteArray.extract_zero_size]
 refine .inr (.inr (.inl ⟨ziz nm,by rw[zci];omega,?_,hr.symm,rfl⟩));rw[hr];exact⟨fun s hs=>by simp only[List.mem_cons,List.not_mem_nil,or_false]at hs;subst hs;exact h,by show 1<=4;decide⟩
theorem ans_root:Ans ⟨#[47]⟩ [] true:=.inr (.inl ⟨⟨by decide,rfl⟩,rfl,rfl,rfl⟩)
theorem znx(x:Int)(dx dy iv bv:Value)(xs ys:List Bool)(is:List Ino)(bs:List Blk)(w:World)(h:DR w dx dy iv bv xs ys is bs)(hi:is.length<=1048576)(hbl:bs.length<=1048576)(hp:∀q∈is,q.2.2.length=2):
  Calls Tryz.prog 24 #[.agg #[dx,dy,iv,bv],.int .i64 x] w fun e w'=>e=.returned (.tuple #[.string (zbn is bs x).1,.string (zbn is bs x).2])/\Below w.1.size w w':=by
 obtain⟨a3,c3,rfl,-,hc⟩:=h.i;have HH:=hide h;have HBL:=hide hbl
 cases hin:inB x 1 is.length with
 | false =>
  have HIN:=hide hin;have e0:zbn is bs x=(⟨#[]⟩,⟨#[]⟩):=by unfold zbn;rw[zch hin];rfl
  rw[e0];clear hin h hc hi hp hbl e0;have HB:Hid (∀A,Below w.1.size w (w.alloc (.cells A 30))):=fun A=>(Below.refl _ w).alloc nR _;go_enter Tryz.func24,Tryz.ntmps24
  go_wp2_with (go_at_call 50;refine(zai x 1 _ _).mono ?_;rintro e w7 ⟨rfl,rfl⟩;rw[HIN.o])
  go_ret2
  exact⟨rfl,HB.o _⟩
 | true =>
  have HIN:=hide hin;obtain⟨h1,h2⟩:=zas hin;obtain⟨j,rfl⟩:∃j:Nat,x=(j:Int)+1:=⟨(x-1).toNat,by omega⟩
  have hj:j<is.length:=by omega
  obtain⟨g2,o2,⟨t0,t1,t2⟩,rfl,hg2,r0,r1,r2,e0,e1,rr⟩:=hc j hj;have hpl:=hp _ (List.getElem_mem hj);have hT:zbn is bs ((j:Int)+1)=if is[j].1=1 then((blkAt bs (is[j].2.2.getD 0 0)).2.2,(blkAt bs (is[j].2.2.getD 1 0)).2.2)else(⟨#[]⟩,⟨#[]⟩):=by unfold zbn;rw[(zbi hj).1,(zbi hj).2]
  rw[hT];obtain⟨⟨kd,ln,ps⟩,hX⟩:∃X,is[j]=X:=⟨_,rfl⟩
  rw[hX]at e0 e1 rr hpl ⊢;simp only at e0 e1 rr r0 r1 r2 hpl ⊢;subst e0 e1;obtain⟨p0,p1,rfl⟩:∃p0 p1,ps=[p0,p1]:=by
   match ps,hpl with
   | [p0,p1],_=>exact⟨p0,p1,rfl⟩
  obtain⟨sa,sc,e1,hcp⟩:=rr;have e2:t2=.slice sa 2 sc:=e1;subst e2;obtain⟨gp,op,rfl,hgp,kp0⟩:=hcp 0 sI;obtain⟨gp',op',e3,-,kp1⟩:=hcp 1 sI;simp only[Option.some.injEq,Addr.mk.injEq,and_true]at e3;obtain⟨rfl,rfl⟩:=e3;simp only[List.getElem_cons_zero,List.getElem_cons_succ,Nat.add_zero]at kp0 kp1;have HW:Hid (∀W,Below (w.alloc (.cells #[dx,dy,.slice (some ⟨g2,o2,none⟩) is.length c3,bv] 30)).1.size (w.alloc (.cells #[dx,dy,.slice (some ⟨g2,o2,none⟩) is.length c3,bv] 30)) W->Below w.1.size w W/\AtC W w.1.size 30 #[dx,dy,.slice (some ⟨g2,o2,none⟩) is.length c3,bv]/\W.cell? ⟨g2,o2+j*3,none⟩=some (.int .i64 kd)/\W.cell? ⟨g2,o2+j*3+1,none⟩=some (.int .i64 ln)/\W.cell? ⟨g2,o2+j*3+2,none⟩=some (.slice (some ⟨gp,op,none⟩) 2 sc)/\W.cell? ⟨gp,op,none⟩=some (.int .i64 p0)/\W.cell? ⟨gp,op+1,none⟩=some (.int .i64 p1)):=fun W b=>by
   have bb:Below w.1.size w W:=((Below.refl _ w).alloc nR _).trans (b.mono sI);exact⟨bb,(AtC.new w 30 _).over b,(bb.cell (p:=⟨g2,o2+j*3,none⟩) hg2).trans r0,(bb.cell (p:=⟨g2,o2+j*3+1,none⟩) hg2).trans r1,(bb.cell (p:=⟨g2,o2+j*3+2,none⟩) hg2).trans r2,(bb.cell (p:=⟨gp,op,none⟩) hgp).trans kp0,(bb.cell (p:=⟨gp,op+1,none⟩) hgp).trans kp1⟩
  have hwj:IntKind.i64.wrap (j:Int)=(j:Int):=wrap_small _ oM oM;have j0:(0:Int)<=(j:Int):=by omega
  have j1:(j:Int)<(is.length:Int):=by omega
  obtain⟨-,-,y0,y1,y2,y3,y4⟩:=HW.o _ bR;have HB:Hid (Below w.1.size w (w.alloc (.cells #[dx,dy,.slice (some ⟨g2,o2,none⟩) is.length c3,bv] 30))):=(HW.o _ bR).1;clear hT hX hin h1 h2 hp hc hcp h r0 r1 r2 kp0 kp1 hpl hi hbl;by_cases hkd:kd=1
  rotate_left
  ·have hkb:(kd != 1)=true:=by simp[hkd]
   rw[if_neg hkd];go_enter Tryz.func24,Tryz.ntmps24
   go_wp2_with (go_at_call 50;refine(zai ((j:Int)+1) 1 _ _).mono ?_;rintro e w7 ⟨rfl,rfl⟩;rw[HIN.o])
   go_ret2
   exact⟨rfl,HB.o⟩
  subst hkd;rw[if_pos rfl];simp only[List.getD_cons_zero,List.getD_cons_succ];have CB:=hide (fun(P:Int)(W:World)(hd:Below w.1.size w W)=>zgw P dx dy (.slice (some ⟨g2,o2,none⟩) is.length c3) bv xs ys is bs w W HH.o hd HBL.o);obtain⟨⟨bd,bss,btx⟩,hBD⟩:∃X,blkAt bs p0=X:=⟨_,rfl⟩
  obtain⟨⟨cd,css,ctx⟩,hCD⟩:∃X,blkAt bs p1=X:=⟨_,rfl⟩
  obtain⟨F,hF⟩:∃F,inB p0 1 bs.length=F:=⟨_,rfl⟩
  obtain⟨G,hG⟩:∃F,inB p1 1 bs.length=F:=⟨_,rfl⟩
  have CB0:=hide (CB.out p0);have CB1:=hide (CB.out p1);rw[hBD,hF]at CB0;rw[hCD,hG]at CB1;rw[hBD,hCD];clear hBD hCD hF hG CB HB;obtain⟨w0,hw0⟩:∃w0,(w.alloc (.cells #[dx,dy,.slice (some ⟨g2,o2,none⟩) is.length c3,bv] 30))=w0:=⟨_,rfl⟩
  have hsz0:w.1.size+1<=w0.1.size:=by rw[←hw0];simp
  rw[hw0]at HW y0 y1 y2 y3 y4;have x2:w0.cell? ⟨w.1.size,2,none⟩=some (.slice (some ⟨g2,o2,none⟩) is.length c3):=(HW.o _ bR).2.1.cell 2;go_enter Tryz.func24,Tryz.ntmps24
  go_upto_region 3 with(go_at_call 50;refine(zai ((j:Int)+1) 1 _ _).mono ?_;rintro e w7 ⟨rfl,hw7⟩;subst w7;rw[HIN.o])
  clear hw0 y0 y1 y2 y3 y4 x2;go_cut [6,7]from 37 to 50 (fun bv ok wx=>∃(bw:Nat)(ba:Option Addr)(bc:Nat),bv=.pointer (some ⟨bw,0,none⟩)/\ok=.bool F/\AtC wx bw 95 #[.bool bd,.slice ba bss.length bc,.string btx]/\Below w0.1.size w0 wx/\w0.1.size<=bw)
  case first =>
   refine zbd kL [0,1,2,3,4,5,6,7,8,9,10,11,12,13,14] [15,16] [([0,1,2,3,4,5,6,7,8,9,10,11,12,14],[[13,15,16],[15,13,16]])] (fun i=>match i with|0=>.const [] (.agg #[dx,dy,.slice (some ⟨g2,o2,none⟩) is.length c3,bv])|1=>.const [] (.pointer (some ⟨w.1.size,2,none⟩))|2=>.const [1] (.slice (some ⟨g2,o2,none⟩) is.length c3)|3=>.const [] (.int .i64 ((j:Int)+1))|4=>.const [3] (.int .i64 (j:Int))|5=>.const [2,4] (.pointer (some ⟨g2,o2+j*3,none⟩))|6=>.const [5] (.pointer (some ⟨g2,o2+j*3+2,none⟩))|7=>.const [6] (.slice (some ⟨gp,op,none⟩) 2 sc)|8=>.const [7] (.pointer (some ⟨gp,op,none⟩))|9=>.const [8] (.int .i64 p0)|10=>MkT2 [0,9] (BlkR w bd btx bss F) BlkR.below|11=>MkMv 10|12=>MkFs 11|13=>MkSd 11|14=>MkW 95 #[.bool false,.slice none 0 0,.string ⟨#[]⟩]|_=>.triv) (fun x=>⟨List.toArray ((.agg #[dx,dy,.slice (some ⟨g2,o2,none⟩) is.length c3,bv])::(.int .i64 (↑j+1))::(.pointer (some ⟨w.1.size,0,none⟩))::undef::(.string { data:=#[] })::(.string { data:=#[] })::(x 14)::undef::undef::undef::(.int .i64 (↑j+1))::(.pointer (some ⟨w.1.size,2,none⟩))::(.slice (some ⟨g2,o2,none⟩) is.length c3)::(.int .i64 ↑is.length)::(.bool true)::(.bool false)::(.bool false)::(.pointer (some ⟨w.1.size,2,none⟩))::(.slice (some ⟨g2,o2,none⟩) is.length c3)::(.int .i64 (↑j+1))::(.int .i64 ↑j)::(.pointer (some ⟨g2,o2+j*3,none⟩))::(.pointer (some ⟨g2,o2+j*3,none⟩))::(.int .i64 1)::(.bool false)::(.bool false)::(.bool false)::(.pointer (some ⟨w.1.size,2,none⟩))::(.slice (some ⟨g2,o2,none⟩) is.length c3)::(.int .i64 (↑j+1))::(.int .i64 ↑j)::(.pointer (some ⟨g2,o2+j*3,none⟩))::(.pointer (some ⟨g2,o2+j*3+2,none⟩))::(.slice (some ⟨gp,op,none⟩) 2 sc)::(.int .i64 2)::(.bool false)::(.bool false)::(x 11)::(x 0)::(x 1)::(x 2)::(x 3)::(x 4)::(x 5)::(x 6)::(x 7)::(x 8)::(x 9)::(x 10)::(x 12)::(x 13)::undef::undef::undef::undef::undef::undef::undef::undef::undef::undef::undef::undef::undef::undef::undef::undef::undef::undef::[]),[]⟩) (fun i=>match i with|0=>undef|1=>undef|2=>undef|3=>undef|4=>undef|5=>undef|6=>undef|7=>undef|8=>undef|9=>undef|10=>undef|11=>undef|12=>undef|13=>undef|14=>undef|_=>undef) rfl (za9 kL kL) kL kL kL rfl ?_ ?_ ?_
   ·intro jo hj so x iw W hd hp K hK;simp only[List.mem_cons,List.not_mem_nil,or_false]at hj;rcases hj with rfl|rfl|rfl|rfl|rfl|rfl|rfl|rfl|rfl|rfl|rfl|rfl|rfl|rfl|rfl<;>refine wpOp_step (o:=_) rfl fun K' hK'=>?_<;>have HK:=hide (fun(v:Value) (W':World) h1 h2=>hK' _ _ (hK v W' h1 h2))<;>simp only[upd,Nat.reduceEqDiff,if_true,if_false]at HK
    ·have bw:=zac hp.bel;obtain⟨qb,qd,q0,q1,q2,q3,q4⟩:=HW.o W bw;have k0:=qd.c0;have k1:=qd.c1;have k2:=qd.c2;have k3:=qd.c3;clear bw qb qd q0 q1 q2 q3 q4;go_simp;exact HK.o _ _ bR rfl
    ·exact cQ10
    ·have e1:x 1=.pointer (some ⟨w.1.size,2,none⟩):=hp.post 1 (hd 1 mz0);have bw:=zac hp.bel;obtain⟨qb,qd,q0,q1,q2,q3,q4⟩:=HW.o W bw;have k1:=qd.c2;clear bw qb qd q0 q1 q2 q3 q4;simp only[e1]at HK ⊢;go_simp;exact HK.o _ _ bR rfl
    ·exact cQ10
    ·exact cQ109
    ·exact cQ71
    ·exact cQ95
    ·have e6:x 6=.pointer (some ⟨g2,o2+j*3+2,none⟩):=hp.post 6 (hd 6 mz0);have bw:=zac hp.bel;obtain⟨qb,qd,q0,q1,q2,q3,q4⟩:=HW.o W bw;clear bw qb qd q0 q1 q3 q4;simp only[e6]at HK ⊢;go_simp;exact HK.o _ _ bR rfl
    ·exact cQ98
    ·have e8:x 8=.pointer (some ⟨gp,op,none⟩):=hp.post 8 (hd 8 mz0);have bw:=zac hp.bel;obtain⟨qb,qd,q0,q1,q2,q3,q4⟩:=HW.o W bw;clear bw qb qd q0 q1 q2 q4;simp only[e8]at HK ⊢;go_simp;exact HK.o _ _ bR rfl
    ·have e0:x 0=.agg #[dx,dy,.slice (some ⟨g2,o2,none⟩) is.length c3,bv]:=hp.post 0 (hd 0 mz0);have e9:x 9=.int .i64 p0:=hp.post 9 (hd 9 mz1);have dr:=(HW.o W (zac hp.bel)).1;simp only[e0,e9]at HK ⊢;clear e0 e9;go_simp;refine(CB0.out W dr).mono ?_;rintro e w6 ⟨sv,rfl,R6,B6⟩;obtain⟨ba,bc,rfl,hR6⟩:=R6;go_simp;exact HK.o _ _ B6 ⟨_,_,rfl,ba,bc,rfl,rfl,ba,bc,rfl,hR6⟩
    ·have e10:∃a r,x 10=.tuple #[a,r]/\BlkR w bd btx bss F (iw 10).1 (iw 10).2 W a r:=hp.post 10 (hd 10 mz0);obtain⟨a,r,e10,-⟩:=e10;have ea:=hide e10;simp only[e10]at HK ⊢;clear e10;go_simp;exact HK.o _ _ bR ⟨ea.out,a,r,rfl⟩
    ·exact cQ60
    ·exact cQ61
    ·exact cQ40
   ·intro x iw W hp;obtain⟨a,r,e10,R10⟩:=hp.post 10 dC;obtain⟨e11,-⟩:=hp.post 11 dC;have e12:x 12=fstOf (x 11):=hp.post 12 dC;have e13:x 13=sndOf (x 11):=hp.post 13 dC;obtain⟨e14,z14,A14⟩:=hp.post 14 dC;have l14:=hp.lo 14 dC;have lc:=hp.lo 10 dC;have bel:=zac hp.bel;have ap:=hp.apart 10 dC 14 dC dC;rw[←e11,e10]at e12;rw[←e11,e10]at e13
    replace e13:x 13=r:=e13
    rw[e10]at e11
    replace e11:=e11.symm
    replace e12:x 12=a:=e12
    have y0:=A14.c0;have f0:=A14.frozen 0;have y1:=A14.c1;have f1:=A14.frozen 1;have y2:=A14.c2;have f2:=A14.frozen 2;obtain⟨ba,bc,rfl,rfl,hR⟩:=R10;have hb14:w0.1.size<=(iw 14).1:=l14.1;have HFI:Hid (AtC W (iw 14).1 95 #[.bool false,.slice none 0 0,.string ⟨#[]⟩]/\Below w0.1.size w0 W/\w0.1.size<=(iw 14).1):=⟨A14,bel,hb14⟩
    clear hp A14 hR bel ap lc l14 z14 hb14;simp only[e11,e12,e14,e13]at*;generalize (iw 14).1=bw at*;go_wp2_with fail
    exact cQ13
   ·intro qa hqa l hl x iw W hp;simp only[List.mem_cons,List.not_mem_nil,or_false]at hqa;subst hqa;simp only[List.mem_cons,List.not_mem_nil,or_false]at hl;obtain⟨a,r,e10,R10⟩:=hp.post 10 dC;obtain⟨e11,-⟩:=hp.post 11 dC;have e12:x 12=fstOf (x 11):=hp.post 12 dC;obtain⟨e14,z14,A14⟩:=hp.post 14 dC;have l14:=hp.lo 14 dC;have lc:=hp.lo 10 dC;have bel:=zac hp.bel;have ap:=hp.apart 10 dC 14 dC dC;rw[←e11,e10]at e12;rw[e10]at e11
    replace e11:=e11.symm
    replace e12:x 12=a:=e12
    have y0:=A14.c0;have f0:=A14.frozen 0;have y1:=A14.c1;have f1:=A14.frozen 1;have y2:=A14.c2;have f2:=A14.frozen 2;obtain⟨ba,bc,rfl,rfl,hR⟩:=R10;have hb14:w0.1.size<=(iw 14).1:=l14.1;have HFI:Hid (AtC W (iw 14).1 95 #[.bool false,.slice none 0 0,.string ⟨#[]⟩]/\Below w0.1.size w0 W/\w0.1.size<=(iw 14).1):=⟨A14,bel,hb14⟩
    clear hp A14 hR bel ap lc l14 z14 hb14;simp only[e11,e12,e14]at*;generalize (iw 14).1=bw at*;rcases hl with rfl|rfl
    ·go_wp2_with fail
     exact cQ13
    ·go_wp2_with fail
     exact cQ13
  case rest =>
   obtain⟨bw,ba,bc,rfl,rfl,Aw,Bw,lw⟩:=hcut;obtain⟨w1,hw1⟩:∃w1,w1=wc:=⟨_,rfl⟩
   subst hw1;have HW1:Hid (∀W,Below w1.1.size w1 W->Below w.1.size w W/\AtC W w.1.size 30 #[dx,dy,.slice (some ⟨g2,o2,none⟩) is.length c3,bv]/\W.cell? ⟨g2,o2+j*3,none⟩=some (.int .i64 1)/\W.cell? ⟨g2,o2+j*3+1,none⟩=some (.int .i64 ln)/\W.cell? ⟨g2,o2+j*3+2,none⟩=some (.slice (some ⟨gp,op,none⟩) 2 sc)/\W.cell? ⟨gp,op,none⟩=some (.int .i64 p0)/\W.cell? ⟨gp,op+1,none⟩=some (.int .i64 p1)):=fun W b=>HW.o W (Bw.trans (b.mono Bw.size));have HA:Hid (∀W,Below w1.1.size w1 W->W.cell? ⟨bw,2,none⟩=some (.string btx)):=fun W b=>(Aw.over b).cell 2;have HLT:=hide (And.intro Aw.lt (And.intro lw hsz0));clear Aw Bw HW CB0 lw;go_upto_region 4 with fail
   go_cut [8,9]from 51 to 64 (fun bv ok wx=>∃(bw:Nat)(ba:Option Addr)(bc:Nat),bv=.pointer (some ⟨bw,0,none⟩)/\ok=.bool G/\AtC wx bw 95 #[.bool cd,.slice ba css.length bc,.string ctx]/\Below w1.1.size w1 wx/\w1.1.size<=bw)
   case first =>
    refine zbd kL [0,1,2,3,4,5,6,7,8,9,10,11,12,13,14] [15,16] [([0,1,2,3,4,5,6,7,8,9,10,11,12,14],[[13,15,16],[15,13,16]])] (fun i=>match i with|0=>.const [] (.agg #[dx,dy,.slice (some ⟨g2,o2,none⟩) is.length c3,bv])|1=>.const [] (.pointer (some ⟨w.1.size,2,none⟩))|2=>.const [1] (.slice (some ⟨g2,o2,none⟩) is.length c3)|3=>.const [] (.int .i64 ((j:Int)+1))|4=>.const [3] (.int .i64 (j:Int))|5=>.const [2,4] (.pointer (some ⟨g2,o2+j*3,none⟩))|6=>.const [5] (.pointer (some ⟨g2,o2+j*3+2,none⟩))|7=>.const [6] (.slice (some ⟨gp,op,none⟩) 2 sc)|8=>.const [7] (.pointer (some ⟨gp,op+1,none⟩))|9=>.const [8] (.int .i64 p1)|10=>MkT2 [0,9] (BlkR w cd ctx css G) BlkR.below|11=>MkMv 10|12=>MkFs 11|13=>MkSd 11|14=>MkW 95 #[.bool false,.slice none 0 0,.string ⟨#[]⟩]|_=>.triv) (fun x=>⟨List.toArray ((.agg #[dx,dy,.slice (some ⟨g2,o2,none⟩) is.length c3,bv])::(.int .i64 (↑j+1))::(.pointer (some ⟨w.1.size,0,none⟩))::undef::(.string { data:=#[] })::(.string { data:=#[] })::(.pointer (some ⟨bw,0,none⟩))::(.bool F)::(x 14)::undef::(.int .i64 (↑j+1))::(.pointer (some ⟨w.1.size,2,none⟩))::(.slice (some ⟨g2,o2,none⟩) is.length c3)::(.int .i64 ↑is.length)::(.bool true)::(.bool false)::(.bool false)::(.pointer (some ⟨w.1.size,2,none⟩))::(.slice (some ⟨g2,o2,none⟩) is.length c3)::(.int .i64 (↑j+1))::(.int .i64 ↑j)::(.pointer (some ⟨g2,o2+j*3,none⟩))::(.pointer (some ⟨g2,o2+j*3,none⟩))::(.int .i64 1)::(.bool false)::(.bool false)::(.bool false)::(.pointer (some ⟨w.1.size,2,none⟩))::(.slice (some ⟨g2,o2,none⟩) is.length c3)::(.int .i64 (↑j+1))::(.int .i64 ↑j)::(.pointer (some ⟨g2,o2+j*3,none⟩))::(.pointer (some ⟨g2,o2+j*3+2,none⟩))::(.slice (some ⟨gp,op,none⟩) 2 sc)::(.int .i64 2)::(.bool false)::(.bool false)::u37::u38::u39::u40::u41::u42::u43::u44::u45::u46::u47::u48::u49::u50::(x 11)::(x 0)::(x 1)::(x 2)::(x 3)::(x 4)::(x 5)::(x 6)::(x 7)::(x 8)::(x 9)::(x 10)::(x 12)::(x 13)::undef::undef::undef::undef::[]),[]⟩) (fun i=>match i with|0=>undef|1=>undef|2=>undef|3=>undef|4=>undef|5=>undef|6=>undef|7=>undef|8=>undef|9=>undef|10=>undef|11=>undef|12=>undef|13=>undef|14=>undef|_=>undef) rfl (za9 kL kL) kL kL kL rfl ?_ ?_ ?_
    ·intro jo hj so x iw W hd hp K hK;simp only[List.mem_cons,List.not_mem_nil,or_false]at hj;rcases hj with rfl|rfl|rfl|rfl|rfl|rfl|rfl|rfl|rfl|rfl|rfl|rfl|rfl|rfl|rfl<;>refine wpOp_step (o:=_) rfl fun K' hK'=>?_<;>have HK:=hide (fun(v:Value) (W':World) h1 h2=>hK' _ _ (hK v W' h1 h2))<;>simp only[upd,Nat.reduceEqDiff,if_true,if_false]at HK
     ·have bw:=zac hp.bel;obtain⟨qb,qd,q0,q1,q2,q3,q4⟩:=HW1.o W bw;have k0:=qd.c0;have k1:=qd.c1;have k2:=qd.c2;have k3:=qd.c3;clear bw qb qd q0 q1 q2 q3 q4;go_simp;exact HK.o _ _ bR rfl
     ·exact cQ10
     ·have e1:x 1=.pointer (some ⟨w.1.size,2,none⟩):=hp.post 1 (hd 1 mz0);have bw:=zac hp.bel;obtain⟨qb,qd,q0,q1,q2,q3,q4⟩:=HW1.o W bw;have k1:=qd.c2;clear bw qb qd q0 q1 q2 q3 q4;simp only[e1]at HK ⊢;go_simp;exact HK.o _ _ bR rfl
     ·exact cQ10
     ·exact cQ109
     ·exact cQ71
     ·exact cQ95
     ·have e6:x 6=.pointer (some ⟨g2,o2+j*3+2,none⟩):=hp.post 6 (hd 6 mz0);have bw:=zac hp.bel;obtain⟨qb,qd,q0,q1,q2,q3,q4⟩:=HW1.o W bw;clear bw qb qd q0 q1 q3 q4;simp only[e6]at HK ⊢;go_simp;exact HK.o _ _ bR rfl
     ·exact cQ98
     ·have e8:x 8=.pointer (some ⟨gp,op+1,none⟩):=hp.post 8 (hd 8 mz0);have bw:=zac hp.bel;obtain⟨qb,qd,q0,q1,q2,q3,q4⟩:=HW1.o W bw;clear bw qb qd q0 q1 q2 q3;simp only[e8]at HK ⊢;go_simp;exact HK.o _ _ bR rfl
     ·have e0:x 0=.agg #[dx,dy,.slice (some ⟨g2,o2,none⟩) is.length c3,bv]:=hp.post 0 (hd 0 mz0);have e9:x 9=.int .i64 p1:=hp.post 9 (hd 9 mz1);have dr:=(HW1.o W (zac hp.bel)).1;simp only[e0,e9]at HK ⊢;clear e0 e9;go_simp;refine(CB1.out W dr).mono ?_;rintro e w6 ⟨sv,rfl,R6,B6⟩;obtain⟨ba,bc,rfl,hR6⟩:=R6;go_simp;exact HK.o _ _ B6 ⟨_,_,rfl,ba,bc,rfl,rfl,ba,bc,rfl,hR6⟩
     ·have e10:∃a r,x 10=.tuple #[a,r]/\BlkR w cd ctx css G (iw 10).1 (iw 10).2 W a r:=hp.post 10 (hd 10 mz0);obtain⟨a,r,e10,-⟩:=e10;have ea:=hide e10;simp only[e10]at HK ⊢;clear e10;go_simp;exact HK.o _ _ bR ⟨ea.out,a,r,rfl⟩
     ·exact cQ60
     ·exact cQ61
     ·exact cQ40
    ·intro x iw W hp;obtain⟨a,r,e10,R10⟩:=hp.post 10 dC;obtain⟨e11,-⟩:=hp.post 11 dC;have e12:x 12=fstOf (x 11):=hp.post 12 dC;have e13:x 13=sndOf (x 11):=hp.post 13 dC;obtain⟨e14,z14,A14⟩:=hp.post 14 dC;have l14:=hp.lo 14 dC;have lc:=hp.lo 10 dC;have bel:=zac hp.bel;have ap:=hp.apart 10 dC 14 dC dC;rw[←e11,e10]at e12;rw[←e11,e10]at e13
     replace e13:x 13=r:=e13
     rw[e10]at e11
     replace e11:=e11.symm
     replace e12:x 12=a:=e12
     have y0:=A14.c0;have f0:=A14.frozen 0;have y1:=A14.c1;have f1:=A14.frozen 1;have y2:=A14.c2;have f2:=A14.frozen 2;obtain⟨ba,bc,rfl,rfl,hR⟩:=R10;have hb14:w1.1.size<=(iw 14).1:=l14.1;have HFI:Hid (AtC W (iw 14).1 95 #[.bool false,.slice none 0 0,.string ⟨#[]⟩]/\Below w1.1.size w1 W/\w1.1.size<=(iw 14).1):=⟨A14,bel,hb14⟩
     clear hp A14 hR bel ap lc l14 z14 hb14;simp only[e11,e12,e14,e13]at*;generalize (iw 14).1=bw at*;go_wp2_with fail
     exact cQ13
    ·intro qa hqa l hl x iw W hp;simp only[List.mem_cons,List.not_mem_nil,or_false]at hqa;subst hqa;simp only[List.mem_cons,List.not_mem_nil,or_false]at hl;obtain⟨a,r,e10,R10⟩:=hp.post 10 dC;obtain⟨e11,-⟩:=hp.post 11 dC;have e12:x 12=fstOf (x 11):=hp.post 12 dC;obtain⟨e14,z14,A14⟩:=hp.post 14 dC;have l14:=hp.lo 14 dC;have lc:=hp.lo 10 dC;have bel:=zac hp.bel;have ap:=hp.apart 10 dC 14 dC dC;rw[←e11,e10]at e12;rw[e10]at e11
     replace e11:=e11.symm
     replace e12:x 12=a:=e12
     have y0:=A14.c0;have f0:=A14.frozen 0;have y1:=A14.c1;have f1:=A14.frozen 1;have y2:=A14.c2;have f2:=A14.frozen 2;obtain⟨ba,bc,rfl,rfl,hR⟩:=R10;have hb14:w1.1.size<=(iw 14).1:=l14.1;have HFI:Hid (AtC W (iw 14).1 95 #[.bool false,.slice none 0 0,.string ⟨#[]⟩]/\Below w1.1.size w1 W/\w1.1.size<=(iw 14).1):=⟨A14,bel,hb14⟩
     clear hp A14 hR bel ap lc l14 z14 hb14;simp only[e11,e12,e14]at*;generalize (iw 14).1=bw at*;rcases hl with rfl|rfl
     ·go_wp2_with fail
      exact cQ13
     ·go_wp2_with fail
      exact cQ13
   case rest =>
    obtain⟨bw2,ba2,bc2,rfl,rfl,Aw,Bw,lw⟩:=hcut;have z2:=Aw.c2;have z1:wc.cell? ⟨bw,2,none⟩=some (.string btx):=HA.o _ Bw;have HF:=hide (HW1.o _ Bw).1;clear Aw Bw HW1 HA CB1 lw;go_wp2;go_quiet(fail)
    go_wp2
    go_ret2
    exact⟨rfl,below_drewN HF.o _⟩
def txJ(x y:ByteArray):Nat->Array Value
 | 0=>#[.string ⟨#[]⟩,.string ⟨#[]⟩]
 | 1=>#[.string x,.string ⟨#[]⟩]
 | _=>#[.string x,.string y]
structure TxW(w w1 wr:World)(L:Array Value):Prop where
 b:Below w.1.size w wr
 k:∀g,g<w1.1.size->g≠w.1.size+1->wr.1[g]?=w1.1[g]?
 z:w1.1.size<=wr.1.size
 l:AtC wr (w.1.size+1) 92 L
theorem TxW.below{w w1 wr wr':World}{L:Array Value}(h:TxW w w1 wr L)(hb:Below wr.1.size wr wr'):TxW w w1 wr' L :=
 ⟨h.b.trans (hb.mono h.b.size),fun g hg hn=>(hb.block g (by have:=h.z;omega)).trans (h.k g hg hn),Nat.le_trans h.z hb.size,h.l.over hb⟩
theorem TxW.set{w w1 wr:World}{L:Array Value}(h:TxW w w1 wr L)(j:Nat)(x:Value):TxW w w1 (wr.setCell ⟨w.1.size+1,j,none⟩ x) (L.setIfInBounds j x) :=
 ⟨h.b.setCell (p:=⟨w.1.size+1,j,none⟩) oE x,fun g hg hn=>(heap_setCell_other wr ⟨w.1.size+1,j,none⟩ g x hn).trans (h.k g hg hn),by have:=h.z;simp;exact this,h.l.set j x⟩
theorem TxW.cell{w w1 wr:World}{L:Array Value}(h:TxW w w1 wr L){g o:Nat}(hg:g<w1.1.size)(hn:g≠w.1.size+1):wr.cell? ⟨g,o,none⟩=w1.cell? ⟨g,o,none⟩:=by
 unfold World.cell?;rw[h.k g hg hn]
theorem txJ_1(x y:ByteArray):(txJ x y 0).setIfInBounds 0 (.string x)=txJ x y 1:=by simp[txJ]
theorem txJ_2(x y:ByteArray):(txJ x y 1).setIfInBounds 1 (.string y)=txJ x y 2:=by simp[txJ]
theorem zf0{is:List Ino}{bs:List Blk}(h:RD is bs)(i:Int):(zay is bs i 1=[]/\zbn is bs i=(⟨#[]⟩,⟨#[]⟩))\/∃x y,zay is bs i 1=[x,y]/\zbn is bs i=(x.2.2,y.2.2):=by
 unfold zay zbn;by_cases e:zbm is i=1
 ·rw[if_pos e,if_pos e];refine .inr ?_;rcases zcb (is:=is) i with⟨q,-⟩| ⟨q,hq,-,e2⟩
  ·rw[q]at e;cases e
  ·have hl:=h.two q hq;rw[e2]
   match q.2.2,hl with
   | [a,b],_=>exact⟨_,_,rfl,rfl⟩
 ·rw[if_neg e,if_neg e];exact .inl ⟨rfl,rfl⟩
theorem zny(i:Int)(dx dy iv bv:Value)(xs ys:List Bool)(is:List Ino)(bs:List Blk)(w:World)(h:DR w dx dy iv bv xs ys is bs)(hR:RD is bs):
  Calls Tryz.prog 23 #[.agg #[dx,dy,iv,bv],.int .i64 i] w fun e w'=>e=.returned (.tuple #[.string (zbn is bs i).1,.string (zbn is bs i).2])/\Below w.1.size w w':=by
 have CB:=hide (zc4 i 1 dx dy iv bv xs ys is bs ((w.alloc (.cells #[dx,dy,iv,bv] 30)).alloc (.cells #[.string ⟨#[]⟩,.string ⟨#[]⟩] 92)) ((h.alloc _).alloc _) hR dC);have HL:=hide (zc5 hR i 1).2;obtain⟨a1,c1,a2,c2,a3,c3,a4,c4,rfl,rfl,rfl,rfl⟩:=h.form;have HT:=zf0 hR i;have HA:Hid (∀w1,Below ((w.alloc (.cells #[.slice a1 xs.length c1,.slice a2 ys.length c2,.slice a3 is.length c3,.slice a4 bs.length c4] 30)).alloc (.cells #[.string ⟨#[]⟩,.string ⟨#[]⟩] 92)).1.size ((w.alloc (.cells #[.slice a1 xs.length c1,.slice a2 ys.length c2,.slice a3 is.length c3,.slice a4 bs.length c4] 30)).alloc (.cells #[.string ⟨#[]⟩,.string ⟨#[]⟩] 92)) w1->TxW w w1 w1 #[.string ⟨#[]⟩,.string ⟨#[]⟩]):=fun w1 b=>by
  have a:=AtC.new (w.alloc (.cells #[.slice a1 xs.length c1,.slice a2 ys.length c2,.slice a3 is.length c3,.slice a4 bs.length c4] 30)) 92 #[.string ⟨#[]⟩,.string ⟨#[]⟩];rw[World.size_alloc]at a;refine⟨(((Below.refl _ w).alloc nR _).alloc sI _).trans (b.mono sO),fun _ _ _=>rfl,Nat.le_refl _,?_⟩;exact a.below b sI
 clear h hR;rcases HT with⟨e1,e2⟩| ⟨x,y,e1,e2⟩
 ·rw[e1]at CB;rw[e2];clear e1 e2 HL;go_enter Tryz.func23,Tryz.ntmps23
  go_wp2_with fail
  refine CB.out.mono ?_;rintro e w1 ⟨lv,rfl,R1,B1⟩;have HX:=hide (HA.o _ B1);obtain⟨la,lc,rfl,-⟩:=R1;clear B1 HA CB;have p0:=HX.o.l.c0;have p1:=HX.o.l.c1;go_wp2_with fail
  go_rounds 1
  go_quiet(fail)
  go_wp2
  go_ret2
  exact⟨rfl,below_drewN HX.o.b _⟩
 ·rw[e1]at CB HL;rw[e2];obtain⟨xd,xss,x0⟩:=x;obtain⟨yd,yss,x1⟩:=y;have HX0:Hid (x0.size<=16):=hide (HL.o (xd,xss,x0) sI).2;have HX1:Hid (x1.size<=16):=hide (HL.o (yd,yss,x1) sI).2;clear e1 e2 HL;go_enter Tryz.func23,Tryz.ntmps23
  go_wp2_with fail
  refine CB.out.mono ?_;rintro e w1 ⟨lv,rfl,R1,B1⟩;have HX:=hide (HA.o _ B1);obtain⟨la,lc,rfl,-,hcl⟩:=R1;obtain⟨gb,ob,⟨u0,u1,u2⟩,rfl,hgb,b00,b01,b02,r00,r01,r02⟩:=hcl 0 sI;obtain⟨gb',ob',⟨v0,v1,v2⟩,e3,-,b10,b11,b12,r10,r11,r12⟩:=hcl 1 sI;simp only[Option.some.injEq,Addr.mk.injEq,and_true]at e3;obtain⟨rfl,rfl⟩:=e3;obtain⟨s0,k0,q01,-⟩:=r01;obtain⟨s1,k1,q11,-⟩:=r11;simp only[Nat.zero_mul,Nat.add_zero,Nat.one_mul]at b00 b01 b02 b10 b11 b12 r00 r02 r10 r12 q01 q11;subst r00 r02 r10 r12 q01 q11;obtain⟨n0,hn0⟩:∃n,([(xd,xss,x0),(yd,yss,x1)]:List Blk)[0].2.1.length=n:=⟨_,rfl⟩
  obtain⟨n1,hn1⟩:∃n,([(xd,xss,x0),(yd,yss,x1)]:List Blk)[1].2.1.length=n:=⟨_,rfl⟩
  rw[hn0]at b01;rw[hn1]at b11;simp only[List.getElem_cons_zero,List.getElem_cons_succ]at b00 b02 b10 b12;have hne:gb≠w.1.size+1:=fun e=>by
   subst e;have:=HX.o.l.cell ob;rw[b00]at this
   match ob,this with
   | 0,h=>cases h
   | 1,h=>cases h
   | (_+2),h=>simp at h
  clear hn0 hn1 B1 hcl HA CB;go_wp2_with fail
  go_loopw [13] (fun iv wr=>∃q:Nat,q<=2/\iv=.int .i64 q/\Hid (TxW w w1 wr (txJ x0 x1 q))) (fun iv _=>2-(intOf iv).toNat)
  case atStart=>exact⟨0,by omega,rfl,HX.o⟩
  case round =>
   obtain⟨q,hq,rfl,HS⟩:=hrel;clear HX;have hq3:q=0\/q=1\/q=2:=by omega
   rcases hq3 with rfl|rfl|rfl
   ·skip
    have c0:=(HS.o.cell (o:=ob) hgb hne).trans b00;have c1':=(HS.o.cell (o:=ob+1) hgb hne).trans b01;have c2':=(HS.o.cell (o:=ob+2) hgb hne).trans b02;have hgw:¬gb=wr.1.size:=by have:=HS.o.z;omega
    have lw:w.1.size+1<wr.1.size:=HS.o.l.lt;go_wp2_with fail
    refine(zdr x0 _ (by have:=HX0.o;omega)).mono ?_;rintro e w5 ⟨rfl,B5⟩;have B6:=(((Below.refl _ wr).alloc nR (.cells #[.bool xd,.slice s0 n0 k0,.string x0] 95))).trans (B5.mono sI);have HS6:=HS.o.below B6;have p0:=HS6.l.c0;have f0:=HS6.l.frozen 0;have l5:=HS6.l.lt;have HS7:=hide (HS6.set 0 (.string x0));rw[txJ_1]at HS7;clear c0 c1' c2' B5 B6 HS6 HS;go_wp2;go_roundw
    case rel=>exact⟨1,by omega,rfl,HS7.o⟩
    case measure=>simp[intOf]
   ·skip
    have c0:=(HS.o.cell (o:=ob+3) hgb hne).trans b10;have c1':=(HS.o.cell (o:=ob+3+1) hgb hne).trans b11;have c2':=(HS.o.cell (o:=ob+3+2) hgb hne).trans b12;have hgw:¬gb=wr.1.size:=by have:=HS.o.z;omega
    have lw:w.1.size+1<wr.1.size:=HS.o.l.lt;go_wp2_with fail
    refine(zdr x1 _ (by have:=HX1.o;omega)).mono ?_;rintro e w5 ⟨rfl,B5⟩;have B6:=(((Below.refl _ wr).alloc nR (.cells #[.bool yd,.slice s1 n1 k1,.string x1] 95))).trans (B5.mono sI);have HS6:=HS.o.below B6;have p0:=HS6.l.c1;have f0:=HS6.l.frozen 1;have l5:=HS6.l.lt;have HS7:=hide (HS6.set 1 (.string x1));rw[txJ_2]at HS7;clear c0 c1' c2' B5 B6 HS6 HS;go_wp2;go_roundw
    case rel=>exact⟨2,by omega,rfl,HS7.o⟩
    case measure=>simp[intOf]
   ·have p0:=HS.o.l.c0;have p1:=HS.o.l.c1;go_wp2;go_quiet(fail)
    go_wp2
    go_ret2
    exact⟨rfl,below_drewN HS.o.b _⟩
namespace No
theorem eqS_same(va vb:Value)(l:List ByteArray)(w:World)(ha:RSt w va l)(hb:RSt w vb l)(hl:l.length<=1000000000):
  Calls Tryz.prog 25 #[va,vb] w fun e w'=>e=.returned (.bool true)/\Below w.1.size w w':=by
 obtain⟨a1,c1,rfl,ha⟩:=ha;obtain⟨a2,c2,rfl,hb⟩:=hb;have HA:=hide ha;have HB:=hide hb;clear ha hb;go_enter Tryz.func25,Tryz.ntmps25
 go_wp2;go_loopw [5] (fun i wr=>∃j:Nat,j<=l.length/\i=.int .i64 j/\∃q,wr=w.drewN q) (fun i _=>l.length-(intOf i).toNat)
 case atStart=>exact⟨0,Nat.zero_le _,rfl,0,rfl⟩
 case round =>
  obtain⟨j,hj,rfl,q,rfl⟩:=hrel;by_cases hlt:j<l.length
  ·obtain⟨g1,o1,rfl,_,k1⟩:=HA.o j hlt;obtain⟨g2,o2,rfl,_,k2⟩:=HB.o j hlt;obtain⟨t,ht⟩:∃t,l[j]=t:=⟨_,rfl⟩
   rw[ht]at k1 k2;clear ht;have j0:(0:Int)<=(j:Int):=by omega
   have j1:(j:Int)<(l.length:Int):=by omega
   go_wp2;go_quiet(fail)
   go_wp2;go_roundw
   case rel=>exact⟨j+1,by omega,by go_num,_,rfl⟩
   case measure=>simp[intOf];omega
  ·go_wp2;go_ret;exact⟨rfl,below_drewN bR _⟩
theorem big_no(a:Option Addr)(len cap:Nat)(w:World)(h:len<=1048576):Calls Tryz.prog 7 #[.slice a len cap] w fun e w'=>e=.returned (.bool false)/\w=w':=by
 have hb:decide ((1048576:Int)<(len:Int))=false:=by simp;omega
 go_enter Tryz.func7,Tryz.ntmps7
 go_wp2;go_ret;exact⟨rfl,rfl⟩
theorem big_yes(a:Option Addr)(len cap:Nat)(w:World)(h:¬len<=1048576):Calls Tryz.prog 7 #[.slice a len cap] w fun e w'=>e=.returned (.bool true)/\w=w':=by
 have hb:decide ((1048576:Int)<(len:Int))=true:=by simp;omega
 go_enter Tryz.func7,Tryz.ntmps7
 go_wp2;go_ret;exact⟨rfl,rfl⟩
theorem leads_of{xs ys:List Bool}{is:List Ino}{bs:List Blk}(h:DkR xs ys is bs):Leads bs:=fun b hb s hs hz=>by
 rcases((h.bb b hb).s s hs).2 with e|e
 ·exact absurd e.1 hz
 ·exact e
end No
namespace fnNamesOf
open No
theorem walk(a:Option Addr)(len cap:Nat)(w:World)(hcode:zbe w a len)(_hl:len<=maxLen):
  Calls Tryz.prog 5 #[.slice a len cap] w fun e w'=>e=.returned (.bool true)/\Below w.1.size w w':=by
 have HO:=hide hcode;clear hcode;by_cases hlen:len<=1048576
 rotate_left
 ·go_enter Tryz.func5,Tryz.ntmps5
  go_wp2_with fail
  refine(big_yes a len cap w hlen).mono ?_;rintro e w1 ⟨rfl,rfl⟩;go_wp2;go_ret;exact⟨rfl,Below.refl _ _⟩
 go_enter Tryz.func5,Tryz.ntmps5
 go_wp2_with fail
 refine(big_no a len cap w hlen).mono ?_;rintro e w1 ⟨rfl,rfl⟩;go_wp2_with fail
 refine(znv w a len cap HO.o hlen).mono ?_;rintro e w1 ⟨u,v,iv,bv,xs,ys,is,bs,rfl,R1,K1,B1⟩;obtain⟨a1,c1,a2,c2,a3,c3,a4,c4,rfl,rfl,rfl,rfl⟩:=R1.form;have HK:=hide K1;have HR:=hide (RD.of_dkR K1);have HL:=hide (leads_of K1);obtain⟨W1,hW1⟩:∃W1,w1.alloc (.cells #[.slice a1 xs.length c1,.slice a2 ys.length c2,.slice a3 is.length c3,.slice a4 bs.length c4] 30)=W1:=⟨_,rfl⟩
 have HW1:Hid (Below w.1.size w W1/\AtC W1 w1.1.size 30 #[.slice a1 xs.length c1,.slice a2 ys.length c2,.slice a3 is.length c3,.slice a4 bs.length c4]/\DR W1 (.slice a1 xs.length c1) (.slice a2 ys.length c2) (.slice a3 is.length c3) (.slice a4 bs.length c4) xs ys is bs):=by
  rw[←hW1];exact⟨B1.alloc B1.size _,AtC.new w1 30 _,R1.alloc _⟩
 obtain⟨bd,hbd⟩:∃b,w1.1.size=b:=⟨_,rfl⟩
 rw[hbd]at HW1;have HD:Hid (∀W,Below W1.1.size W1 W->DR W (.slice a1 xs.length c1) (.slice a2 ys.length c2) (.slice a3 is.length c3) (.slice a4 bs.length c4) xs ys is bs):=fun W b=>HW1.o.2.2.below b nR;have HA:Hid (∀W,Below W1.1.size W1 W->AtC W bd 30 #[.slice a1 xs.length c1,.slice a2 ys.length c2,.slice a3 is.length c3,.slice a4 bs.length c4]):=fun W b=>HW1.o.2.1.over b;have CN:=hide (fun(i:Int)(W:World)(b:Below W1.1.size W1 W)=>zle i (.slice a1 xs.length c1) (.slice a2 ys.length c2) (.slice a3 is.length c3) (.slice a4 bs.length c4) xs ys is bs W (HD.o W b) HR.o);have CX:=hide (fun(i:Int)(W:World)(b:Below W1.1.size W1 W)=>zj4 i (.slice a1 xs.length c1) (.slice a2 ys.length c2) (.slice a3 is.length c3) (.slice a4 bs.length c4) xs ys is bs W (HD.o W b) HR.o.hi (by rw[HR.o.hb];decide) (fun q hq=>by rw[HR.o.two q hq];decide) HR.o.four);have CT:=hide (fun(i:Int)(W:World)(b:Below W1.1.size W1 W)=>zny i (.slice a1 xs.length c1) (.slice a2 ys.length c2) (.slice a3 is.length c3) (.slice a4 bs.length c4) xs ys is bs W (HD.o W b) HR.o);have CS:=hide (fun(i:Int)(W:World)(b:Below W1.1.size W1 W)=>znx i (.slice a1 xs.length c1) (.slice a2 ys.length c2) (.slice a3 is.length c3) (.slice a4 bs.length c4) xs ys is bs W (HD.o W b) (by rw[HR.o.hi];decide) (by rw[HR.o.hb];decide) HR.o.two);have CP:=hide (fun(nm:ByteArray) (W:World) (b:Below W1.1.size W1 W) (hn:∃s∈named is bs 1,s.1=nm) (ho:zan nm=true)=>zhg nm ((⟨#[47]⟩:ByteArray)++nm) (.slice a1 xs.length c1) (.slice a2 ys.length c2) (.slice a3 is.length c3) (.slice a4 bs.length c4) xs ys is bs W (HD.o W b) HR.o HL.o (by have:=zap ho;omega) hn (by rw[zci];have:=zap ho;omega) (ans_one ho));have CR:=hide (fun(W:World)(b:Below W1.1.size W1 W)=>zhh ⟨#[47]⟩ (.slice a1 xs.length c1) (.slice a2 ys.length c2) (.slice a3 is.length c3) (.slice a4 bs.length c4) xs ys is bs W (HD.o W b) HR.o dC ans_root);have HN8:=hide (fun(i:Int)=>HR.o.named8 i);have HNO:=hide (fun(i:Int)(s:Sl)(hs:s∈named is bs i)=>HR.o.name hs);have HNK:=hide (fun(i:Int)(h:¬zbm is i=2)=>show named is bs i=[]from by unfold named;rw[if_neg h]);have HTK:=hide (fun(i:Int)(h:¬zbm is i=1)=>show zbn is bs i=(⟨#[]⟩,⟨#[]⟩)from by unfold zbn;rw[if_neg h]);have HKD:=hide (fun(i:Int)=>HR.o.kind i);have HI:Hid (is.length=8):=HR.o.hi;have HIN:Hid (∀(j:Nat),j<8->∃g2 o2,a3=some ⟨g2,o2,none⟩/\(j:Int)<(is.length:Int)/\∀W,Below W1.1.size W1 W->W.cell? ⟨g2,o2+j*3,none⟩=some (.int .i64 (zbm is ((j:Int)+1)))):=fun j hj=>by
  obtain⟨qa,qc,qe,-,qh⟩:=HW1.o.2.2.i;simp only[Value.slice.injEq,true_and]at qe;obtain⟨rfl,rfl⟩:=qe;have hj':j<is.length:=by have:=HI.o;omega
  obtain⟨g2,o2,t,rfl,hg2,r0,-,-,e0,-,-⟩:=qh j hj';refine⟨g2,o2,rfl,by omega,fun W b=>?_⟩;rw[(zbi hj').1];have e0':t.1=.int .i64 is[j].1:=e0;rw[←e0'];exact(b.cell (p:=⟨g2,o2+j*3,none⟩) hg2).trans r0
 clear R1 K1 B1;go_wp2_with fail
 clear hW1;go_loopw [4] (fun i wr=>∃j:Nat,j<=8/\i=.int .i64 ((j:Int)+1)/\Hid (Below W1.1.size W1 wr)) (fun i _=>9-(intOf i).toNat)
 case atStart=>exact⟨0,by omega,rfl,Below.refl _ _⟩
 case round =>
  obtain⟨j,hj,rfl,HB⟩:=hrel;by_cases hlt:j<8
  rotate_left
  ·obtain rfl:j=8:=by omega
   have CN0:=hide (CN.out 0);rw[HNK.o 0 (by rw[zch (by rw[HI.o];rfl)];decide)]at CN0;have y:=HA.o _ HB.o;have y0:=y.cell 0;have y1:=y.cell 1;have y2:=y.cell 2;have y3:=y.cell 3;clear y;go_wp2_with fail
   refine(CN0.out _ HB.o).mono ?_;rintro e w2 ⟨lv,rfl,O2,B2⟩;have HB2:=hide (HB.o.trans (B2.mono HB.o.size));obtain⟨la,lc,rfl⟩:=O2.rst.form;have y:=HA.o _ HB2.o
   replace y0:=y.cell 0
   replace y1:=y.cell 1
   replace y2:=y.cell 2
   replace y3:=y.cell 3
   clear y B2 O2 HB;go_wp2_with fail
   refine(CR.out _ HB2.o).mono ?_;rintro e w3 ⟨rfl,B3⟩;have HE:=hide (HW1.o.1.trans ((HB2.o.trans (B3.mono HB2.o.size)).mono HW1.o.1.size));clear B3 y0 y1 y2 y3;go_wp2;go_ret;exact⟨rfl,HE.o⟩
  have jle:((j:Int)+1)<=8:=by omega
  have y:=HA.o _ HB.o;have y0:=y.cell 0;have y1:=y.cell 1;have y2:=y.cell 2;have y3:=y.cell 3;clear y;obtain⟨l,hl⟩:∃l,(named is bs ((j:Int)+1)).map (·.1)=l:=⟨_,rfl⟩
  have HLL:=hide hl;obtain⟨tx,htx⟩:∃t,zbn is bs ((j:Int)+1)=t:=⟨_,rfl⟩
  have HTX:=hide htx;have CN1:=hide (CN.out ((j:Int)+1));have CX1:=hide (CX.out ((j:Int)+1));have CT1:=hide (CT.out ((j:Int)+1));have CS1:=hide (CS.out ((j:Int)+1));rw[hl]at CN1 CX1;rw[htx]at CT1 CS1;have l8:l.length<=8:=by rw[←hl,List.length_map];exact HN8.o _
  have HL8:=hide l8;clear hl htx l8;go_wp2_with fail
  refine(CN1.out _ HB.o).mono ?_;rintro e w2 ⟨lv,rfl,O2,B2⟩;have HB2:=hide (HB.o.trans (B2.mono HB.o.size));have HO2:=hide O2.rst;obtain⟨la,lc,rfl⟩:=O2.rst.form;have y:=HA.o _ HB2.o
  replace y0:=y.cell 0
  replace y1:=y.cell 1
  replace y2:=y.cell 2
  replace y3:=y.cell 3
  clear y B2 O2 HB;go_wp2_with fail
  refine(CT1.out _ HB2.o).mono ?_;rintro e w3 ⟨rfl,B3⟩;have HB3:=hide (HB2.o.trans (B3.mono HB2.o.size));have HO3:=hide (HO2.o.below B3 nR);have y:=HA.o _ HB3.o
  replace y0:=y.cell 0
  replace y1:=y.cell 1
  replace y2:=y.cell 2
  replace y3:=y.cell 3
  clear y B3 HO2 HB2;go_wp2_with fail
  refine(CS1.out _ HB3.o).mono ?_;rintro e w4 ⟨rfl,B4⟩;have HB4:=hide (HB3.o.trans (B4.mono HB3.o.size));have HO4:=hide (HO3.o.below B4 nR);have y:=HA.o _ HB4.o
  replace y0:=y.cell 0
  replace y1:=y.cell 1
  replace y2:=y.cell 2
  replace y3:=y.cell 3
  clear y B4 HO3 HB3;go_upto_region 10 with fail
  go_cut [80]from 34 to 80 (fun b wx=>b=.bool false/\Hid (Below W1.1.size W1 wx/\RSt wx (.slice la l.length lc) l))
  case first =>
   go_wp2_with fail
   refine(CX1.out _ HB4.o).mono ?_;rintro e w5 ⟨lx,rfl,O5,B5⟩;have HB5:=hide (HB4.o.trans (B5.mono HB4.o.size));have HO5:=hide (HO4.o.below B5 nR);have HX5:=hide O5.rst;clear B5 O5 HO4 HB4 y0 y1 y2 y3;go_wp2_with fail
   refine(eqS_same _ _ l _ HO5.o HX5.o (Nat.le_trans HL8.o dC)).mono ?_;rintro e w6 ⟨rfl,B6⟩;have HB6:=hide (HB5.o.trans (B6.mono HB5.o.size));have HE:=hide (And.intro HB6.o (HO5.o.below B6 nR));clear B6 HO5 HB5 HX5;have y2:=(HA.o _ HB6.o).cell 2;obtain⟨g2,o2,rfl,j1,hk⟩:=HIN.o j hlt;have kk:=hk _ HB6.o;clear hk HB6;have j0:(0:Int)<=(j:Int):=by omega
   have hwj:IntKind.i64.wrap (j:Int)=(j:Int):=wrap_small _ oM oM;have he:((⟨#[]⟩:ByteArray)++⟨#[]⟩).toList.isEmpty=true:=by
    rw[show((⟨#[]⟩:ByteArray)++⟨#[]⟩)=⟨#[]⟩from rfl,ByteArray.toList_eq];rfl
   rcases HKD.o ((j:Int)+1)with e|e|e
   ·obtain rfl:l=[]:=by rw[←HLL.o,HNK.o _ oM];rfl
    obtain rfl:tx=(⟨#[]⟩,⟨#[]⟩):=by rw[←HTX.o,HTK.o _ oM]
    rw[e]at kk;clear e;go_wp2;go_meet
    exact⟨rfl,HE.o⟩
   ·obtain rfl:l=[]:=by rw[←HLL.o,HNK.o _ oM];rfl
    rw[e]at kk;clear e;go_wp2;go_meet
    exact⟨rfl,HE.o⟩
   ·obtain rfl:tx=(⟨#[]⟩,⟨#[]⟩):=by rw[←HTX.o,HTK.o _ oM]
    rw[e]at kk;clear e;go_wp2;go_meet
    exact⟨rfl,HE.o⟩
  case rest =>
   obtain⟨rfl,HE⟩:=hcut;clear CN1 CX1 CT1 CS1 y0 y1 y2 y3 HO4 HB4 HTX;go_wp2_with fail
   go_loopw [10] (fun k wr=>∃q:Nat,q<=l.length/\k=.int .i64 q/\Hid (Below W1.1.size W1 wr/\RSt wr (.slice la l.length lc) l)) (fun k _=>l.length-(intOf k).toNat)
   case atStart=>exact⟨0,Nat.zero_le _,rfl,HE.o⟩
   case round =>
    obtain⟨q,hq,rfl,HQ⟩:=hrel;have q0:(0:Int)<=(q:Int):=by omega
    by_cases hql:q<l.length
    rotate_left
    ·have q1:decide ((q:Int)<(l.length:Int))=false:=by simp;omega
     go_wp2;exact⟨⟨j+1,by omega,by go_num,HQ.o.1⟩,by simp[intOf];omega⟩
    have q1:(q:Int)<(l.length:Int):=by omega
    by_cases hj1:j=0
    rotate_left
    ·have j1:(((j:Int)+1)==1)=false:=by simp;omega
     go_wp2;exact⟨⟨j+1,by omega,by go_num,HQ.o.1⟩,by simp[intOf];omega⟩
    have HJ0:=hide hj1;have j1:(((j:Int)+1)==1)=true:=by rw[hj1];rfl
    clear hj1;obtain⟨_,_,e0,hcl⟩:=HQ.o.2;simp only[Value.slice.injEq,true_and]at e0;obtain⟨rfl,rfl⟩:=e0;obtain⟨gl,ol,rfl,hgl,kl⟩:=hcl q hql;have HNM:Hid ((∃s∈named is bs 1,s.1=l[q])/\zan l[q]=true):=by
     have e1:(j:Int)+1=1:=by have:=HJ0.o;omega
     have hm:∀x∈l,(∃s∈named is bs 1,s.1=x)/\zan x=true:=fun x hx=>by
      rw[←HLL.o,e1]at hx;obtain⟨s,hs,rfl⟩:=List.mem_map.1 hx;exact⟨⟨s,hs,rfl⟩,HNO.o 1 s hs⟩
     exact hm _ (List.getElem_mem hql)
    obtain⟨nm,hnm⟩:∃t,l[q]=t:=⟨_,rfl⟩
    rw[hnm]at kl HNM;have CP1:=hide (fun W b=>CP.out nm W b HNM.o.1 HNM.o.2);have HS:Hid (∀W,Below wr.1.size wr W->Below W1.1.size W1 W/\W.cell? ⟨bd,0,none⟩=some (.slice a1 xs.length c1)/\W.cell? ⟨bd,1,none⟩=some (.slice a2 ys.length c2)/\W.cell? ⟨bd,2,none⟩=some (.slice a3 is.length c3)/\W.cell? ⟨bd,3,none⟩=some (.slice a4 bs.length c4)/\W.cell? ⟨gl,ol+q,none⟩=some (.string nm)):=fun W b=>by
     have bb:=HQ.o.1.trans (b.mono HQ.o.1.size);have y:=HA.o _ bb;exact⟨bb,y.cell 0,y.cell 1,y.cell 2,y.cell 3,(b.cell (p:=⟨gl,ol+q,none⟩) hgl).trans kl⟩
    obtain⟨-,y0,y1,y2,y3,y4⟩:=HS.o _ bR;have z0:=zap HNM.o.2;have z1:¬9223372036854775807<(⟨#[47]⟩:ByteArray).size+nm.size:=by show¬9223372036854775807<1+nm.size;omega
    have z2:¬9223372036854775807<1+nm.size:=by omega
    clear hnm hcl kl z0;go_upto_region 15 with fail
    go_region_held3 (fun w'=>w'.cell? ⟨bd,0,none⟩=some (.slice a1 xs.length c1)/\w'.cell? ⟨bd,1,none⟩=some (.slice a2 ys.length c2)/\w'.cell? ⟨bd,2,none⟩=some (.slice a3 is.length c3)/\w'.cell? ⟨bd,3,none⟩=some (.slice a4 bs.length c4)/\w'.cell? ⟨gl,ol+q,none⟩=some (.string nm)) (first| exact(HS.o _ bR.drew).2|exact(HS.o _ (zac B7)).2) ((go_at_call 27;refine(CP1.out _ (HS.o _ bR.drew).1).mono ?_;rintro e w7 ⟨⟨r,rfl,hr⟩,B7⟩;have hr0:(r==0)=false:=by simp;omega))
    have HQ7:Hid (Below W1.1.size W1 w7/\RSt w7 (.slice (some ⟨gl,ol,none⟩) l.length lc) l):=⟨(HS.o _ (zac B7)).1,HQ.o.2.below (zac B7) nR⟩
    clear B7 HS CP1 y0 y1 y2 y3 y4 HQ;have l8:=HL8.o;go_wp2;go_roundw
    case rel=>exact⟨q+1,by omega,by go_num,HQ7.o⟩
    case measure=>simp[intOf];omega
end fnNamesOf
end Go.Proofs.YtgnplpmgkegcnaaGreat
