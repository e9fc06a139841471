/- Texts of the proof, bundled. -/
import Derived.Lib.AppendStr
import Derived.Test.YtgnplpmgkegcnaaGreatRows
import Derived.Deep.QuietTactic
import Derived.BigQuiet
import Derived.Deep.RegionHeld3
import Derived.Deep.OwnRows
import Derived.Deep.Upon
import Derived.Laws.CopyOwn
import Derived.Deep.DeepCutAuto
import Derived.Deep.CutRange
import Derived.Deep.RegionWith
import Derived.Test.YtgnplpmgkegcnaaGreatV01
import Derived.Test.YtgnplpmgkegcnaaGreatV02
set_option maxRecDepth 100000
set_option maxHeartbeats 12800000
namespace Go.Proofs.YtgnplpmgkegcnaaGreat
namespace Kit
open Go.RowKit
theorem rfl_take{w:World}{g off n c c' k:Nat}{xs:List Bool}(h:RFl w (.slice (some ⟨g,off,none⟩) n c) xs)(hk:k<=n):RFl w (.slice (some ⟨g,off,none⟩) k c') (xs.take k):=by
 obtain⟨a,cap,e,h⟩:=h;simp only[Value.slice.injEq]at e;obtain⟨rfl,rfl,-⟩:=e;refine⟨some ⟨g,off,none⟩,c',by rw[List.length_take,Nat.min_eq_left hk],fun j hj=>?_⟩;have hj':j<xs.length:=by simp at hj;omega
 obtain⟨g',off',e1,e2,e3⟩:=h j hj';exact⟨g',off',e1,e2,by rw[e3];simp⟩
theorem rfl_drop{w:World}{g off n c c' k:Nat}{xs:List Bool}(h:RFl w (.slice (some ⟨g,off,none⟩) n c) xs)(hk:k<=n):RFl w (.slice (some ⟨g,off+k,none⟩) (n-k) c') (xs.drop k):=by
 obtain⟨a,cap,e,h⟩:=h;simp only[Value.slice.injEq]at e;obtain⟨rfl,rfl,-⟩:=e;refine⟨some ⟨g,off+k,none⟩,c',by rw[List.length_drop],fun j hj=>?_⟩;have hj':k+j<xs.length:=by simp at hj;omega
 obtain⟨g',off',e1,e2,e3⟩:=h (k+j) hj';simp only[Option.some.injEq,Addr.mk.injEq]at e1;obtain⟨rfl,rfl,-⟩:=e1;refine⟨g,off+k,rfl,e2,?_⟩;rw[Nat.add_assoc,e3];simp
end Kit
open Go.RowKit Kit
theorem zkl(p q r:UInt8)(W:World):(convert 22 9 (.slice (some ⟨W.1.size,0,none⟩) 3 3)).run Tryz.prog (W.alloc (.cells #[.int .u8 (p.toNat:Int),.int .u8 (q.toNat:Int),.int .u8 (r.toNat:Int)] 5)).drew=.ok (.string ⟨#[p,q,r]⟩) (W.alloc (.cells #[.int .u8 (p.toNat:Int),.int .u8 (q.toNat:Int),.int .u8 (r.toNat:Int)] 5)).drew:=by
 refine run_convert_bytes_back _ 22 9 5 ⟨W.1.size,0,none⟩ 3 [p,q,r] Tryz.underlying22 Tryz.underlying5 Tryz.underlying9 ?_;intro j hj
 match j,hj with
 | 0,_=>simp[Addr.add]
 | 1,_=>simp[Addr.add]
 | 2,_=>simp[Addr.add]
theorem zh2(a1 a2:Option Addr)(n m c1 c2:Nat)(w:World)(h:okB n m=false):
  Calls Tryz.prog 136 #[.agg #[.slice a1 n c1,.slice a2 m c2]] w fun e w'=>e=.returned (.tuple #[.string ⟨#[]⟩,.bool false])/\Below w.1.size w w':=by
 have C:=hide (zdf a1 a2 n m c1 c2);rw[h]at C;clear h;go_enter Tryz.func136,Tryz.ntmps136
 go_wp2_with fail
 refine(C.out _).mono ?_;rintro e w1 ⟨rfl,B1⟩;have HB:=hide (((Below.refl _ w).alloc nR _).trans (B1.mono sI));clear B1;go_wp2;refine bodyPost_ret (v:=.tuple #[.string ⟨#[]⟩,.bool false]) sR0 rfl ⟨rfl,HB.o⟩
set_option linter.unusedSimpArgs false in
theorem zgz(g1 g2 c1 c2:Nat)(xs ys:List Bool)(w:World)(hu:RFl w (.slice (some ⟨g1,0,none⟩) 16 c1) xs)(hv:RFl w (.slice (some ⟨g2,0,none⟩) 8 c2) ys)(h1:16<=c1)(h3:c1<=maxLen):
  Calls Tryz.prog 136 #[.agg #[.slice (some ⟨g1,0,none⟩) 16 c1,.slice (some ⟨g2,0,none⟩) 8 c2]] w fun e w'=>e=.returned (.tuple #[.string (textB xs ys),.bool true])/\Below w.1.size w w':=by
 have hlx:xs.length=16:=by obtain⟨a,c,e,-⟩:=hu;simp at e;omega
 have hly:ys.length=8:=by obtain⟨a,c,e,-⟩:=hv;simp at e;omega
 have HT:=hide (rfl_take (c':=c1) (k:=8) hu dC);have HD:Hid (RFl w (.slice (some ⟨g1,8,none⟩) 8 (c1-8)) (xs.drop 8)):=rfl_drop (c':=c1-8) (k:=8) hu dC;have HV:=hide hv;obtain⟨p,hp⟩:∃p,bB (xs.take 8)=p:=⟨_,rfl⟩
 obtain⟨q,hq⟩:∃q,bB (xs.drop 8)=q:=⟨_,rfl⟩
 obtain⟨r,hr⟩:∃r,bB ys=r:=⟨_,rfl⟩
 have R1:=hide (fun w hv=>zdh (.slice (some ⟨g1,0,none⟩) 8 c1) (xs.take 8) w hv sO);have R2:=hide (fun w hv=>zdh (.slice (some ⟨g1,8,none⟩) 8 (c1-8)) (xs.drop 8) w hv sO);have R3:=hide (fun w hv=>zdh (.slice (some ⟨g2,0,none⟩) 8 c2) ys w hv oM);have HX:Hid (textB xs ys=⟨#[p,q,r]⟩):=by show textB xs ys=_;rw[textB,hp,hq,hr]
 rw[hp]at R1;rw[hq]at R2;rw[hr]at R3;have C:=hide (zdf (some ⟨g1,0,none⟩) (some ⟨g2,0,none⟩) 16 8 c1 c2);rw[show okB 16 8=true from rfl]at C;rw[HX.o];clear hp hq hr hu hv hlx hly HX;have i1:(8:Int)<=(c1:Int):=by omega
 have i2:(16:Int)<=(c1:Int):=by omega
 have i3:c1<=9223372036854775807:=h3;have i4:¬c1=8:=by omega
 go_enter Tryz.func136,Tryz.ntmps136
 go_wp2_with fail
 refine(C.out _).mono ?_;rintro e w1 ⟨rfl,B1⟩;have X1:AtP 26 w1 w.1.size (.slice (some ⟨g1,0,none⟩) 16 c1) (.slice (some ⟨g2,0,none⟩) 8 c2):=(AtP.new 26 w _ _).below B1 sI;have b1:Below w.1.size w w1:=((Below.refl _ w).alloc nR _).trans (B1.mono sI);have U1:=HT.o.below b1 nR;have V1:=HD.o.below b1 nR;have W1:=HV.o.below b1 nR;have H1:=hide (And.intro X1 (And.intro U1 (And.intro V1 (And.intro W1 b1))));obtain⟨d0,d1⟩:=X1.cells;have m1:=X1.lt;have hcv:=zkl p q r w1;clear B1 X1 U1 V1 W1 b1 C HT HD HV;go_wp2_with fail
 refine wp_region_held_drew (S:=(fun w'=>w'.cell? ⟨w.1.size,0,none⟩=some (.slice (some ⟨g1,0,none⟩) 16 c1)/\w'.cell? ⟨w.1.size,1,none⟩=some (.slice (some ⟨g2,0,none⟩) 8 c2))) kL ⟨d0,d1⟩ (fun hHeld=>?_);refine tk 0 hHeld ?_;simp only[Act.put];refine tk 1 hHeld ?_;simp only[Act.put];refine tk 2 hHeld ?_;simp only[Act.put];refine tk 4 hHeld ?_;simp only[Act.put];refine tk 5 hHeld ?_;simp only[Act.put];refine tk 6 hHeld ?_;simp only[Act.put];refine tk 8 hHeld ?_;simp only[Act.put];refine tk 9 hHeld ?_;simp only[Act.put];refine wpAnyH_ready (rs:=[3]) kL sI ?_;refine AllReadyH.cons (o:={ dst:=some 10,op:=Op.call { callee:=Callee.value (Operand.func 166),args:=#[Operand.tmp 9],argTypes:=#[24] },type:=_,pos:=_,after:=_,guard:=none }) rfl (fun K hK=>?_) ?_
 ·go_simp;refine(R1.out _ H1.o.2.1.drew).mono ?_;rintro e w2 ⟨rfl,rfl⟩;go_wp2_with fail
  refine hK.out _ _ (⟨d0,d1⟩) (fun hHeld=>?_);clear hK K;try simp only[Act.put,List.setIfInBounds_toArray,List.set_cons_zero,List.set_cons_succ]
  refine wpAnyH_ready (rs:=[7]) kL sI ?_;refine AllReadyH.cons (o:={ dst:=some 14,op:=Op.call { callee:=Callee.value (Operand.func 166),args:=#[Operand.tmp 13],argTypes:=#[24] },type:=_,pos:=_,after:=_,guard:=none }) rfl (fun K hK=>?_) ?_
  ·go_simp;refine(R2.out _ H1.o.2.2.1.drew).mono ?_;rintro e w2 ⟨rfl,rfl⟩;go_wp2_with fail
   refine hK.out _ _ (⟨d0,d1⟩) (fun hHeld=>?_);clear hK K;try simp only[Act.put,List.setIfInBounds_toArray,List.set_cons_zero,List.set_cons_succ]
   refine wpAnyH_ready (rs:=[10]) kL sI ?_;refine AllReadyH.cons (o:={ dst:=some 17,op:=Op.call { callee:=Callee.value (Operand.func 166),args:=#[Operand.tmp 16],argTypes:=#[24] },type:=_,pos:=_,after:=_,guard:=none }) rfl (fun K hK=>?_) ?_
   ·go_simp;refine(R3.out _ H1.o.2.2.2.1.drew).mono ?_;rintro e w2 ⟨rfl,rfl⟩;go_wp2_with fail
    refine hK.out _ _ (⟨d0,d1⟩) (fun hHeld=>?_);clear hK K;try simp only[Act.put,List.setIfInBounds_toArray,List.set_cons_zero,List.set_cons_succ]
    refine wpAnyH_ready (rs:=[11]) kL sI ?_;refine AllReadyH.cons (o:={ dst:=some 18,op:=Op.buildSlice 22 3 #[(0,Operand.tmp 10),(1,Operand.tmp 14),(2,Operand.tmp 17)],type:=_,pos:=_,after:=_,guard:=none }) rfl (fun K hK=>?_) ?_
    ·go_simp;refine hK.out _ _ ((H1.o.1.alloc _).drew.cells) (fun hHeld=>?_);clear hK K;try simp only[Act.put,List.setIfInBounds_toArray,List.set_cons_zero,List.set_cons_succ]
     refine wpAnyH_ready (rs:=[12]) kL sI ?_;refine AllReadyH.cons (o:={ dst:=some 19,op:=Op.convert 22 9 (Operand.tmp 18),type:=_,pos:=_,after:=_,guard:=none }) rfl (fun K hK=>?_) ?_
     ·go_simp;refine hK.out _ _ ((H1.o.1.alloc _).drew.cells) (fun hHeld=>?_);clear hK K;try simp only[Act.put,List.setIfInBounds_toArray,List.set_cons_zero,List.set_cons_succ]
      refine wpAnyH_take (i:=13) (oi:={ dst:=some 2,op:=Op.assign (Operand.tmp 19),type:=_,pos:=_,after:=_,guard:=none }) (v:=?_) rfl kL kL kL (fun _ _ _ h=>h) (Or.inl ⟨by rfl,?_⟩) hHeld ?_
      rotate_left
      ·exact cQ99
      try simp only[Act.put,List.setIfInBounds_toArray,List.set_cons_zero,List.set_cons_succ]
      refine wpAnyH_take (i:=14) (oi:={ dst:=some 3,op:=Op.assign (Operand.const (Value.bool true)),type:=_,pos:=_,after:=_,guard:=none }) (v:=?_) rfl kL kL kL (fun _ _ _ h=>h) (Or.inl ⟨by rfl,?_⟩) hHeld ?_
      rotate_left
      ·exact cQ99
      try simp only[Act.put,List.setIfInBounds_toArray,List.set_cons_zero,List.set_cons_succ]
      refine wpAnyH_done kL ?_ _;have HZ:=hide (((H1.o.2.2.2.2.alloc H1.o.2.2.2.2.size (.cells #[.int .u8 (p.toNat:Int),.int .u8 (q.toNat:Int),.int .u8 (r.toNat:Int)] 5))).drew);clear H1 hcv hHeld;go_wp2;refine bodyPost_ret (v:=.tuple #[.string ⟨#[p,q,r]⟩,.bool true]) sR0 rfl ⟨rfl,HZ.o⟩
     ·exact AllReadyH.nil
    ·exact AllReadyH.nil
   ·exact AllReadyH.nil
  ·exact AllReadyH.nil
 ·exact AllReadyH.nil
def textA(xs ys:List Bool):ByteArray:=if okB xs.length ys.length then textB xs ys else⟨#[]⟩
theorem zg0(u v:Value)(xs ys:List Bool)(base:Nat)(w:World)(h:Two w base u v xs ys):
  Calls Tryz.prog 136 #[.agg #[u,v]] w fun e w'=>e=.returned (.tuple #[.string (textA xs ys),.bool (okB xs.length ys.length)])/\Below w.1.size w w':=by
 cases hok:okB xs.length ys.length with
 | false =>
  obtain⟨a1,c1,a2,c2,rfl,rfl⟩:=h.form;have e:textA xs ys=⟨#[]⟩:=by simp[textA,hok]
  rw[e];exact zh2 a1 a2 xs.length ys.length c1 c2 w hok
 | true =>
  obtain⟨h1,h2⟩:=okB_true hok;have e:textA xs ys=textB xs ys:=by simp[textA,hok]
  rw[e];obtain⟨g1,c1,e1,-,-,-,-,k1⟩:=h.a.at 0 (by rw[zad];omega);obtain⟨g2,c2,e2,-,-,-,-,k2⟩:=h.b.at 0 (by rw[zad];omega);rw[zad,h1]at e1 k1;rw[zad,h2]at e2 k2;have hm:c1<=maxLen:=by
   rcases h.a.2 with⟨h3,-⟩| ⟨g,cap,cur,h3,-,-,-,h4,-⟩
   ·rw[h3]at e1;cases e1
   ·rw[e1]at h3;simp only[Value.slice.injEq]at h3;rw[h3.2.2];exact h4
  have ha:=h.a.rfl;have hb:=h.b.rfl;rw[e1]at ha ⊢;rw[e2]at hb ⊢;exact zgz g1 g2 c1 c2 xs ys w ha hb k1 hm
namespace Kit
def enc(s:Sl):List UInt8:=loB s.2.toNat::(vb s.1.size++s.1.data.toList)
def encs:List Sl->List UInt8
 | []=>[]
 | s::r=>enc s++encs r
theorem zfj(a b:List Sl):encs (a++b)=encs a++encs b:=by
 induction a with
 | nil=>rfl
 | cons s r ih=>simp[encs,ih]
def pre(xs:List Sl)(j:Nat):List UInt8:=100::encs (xs.take j)
theorem pre_next(xs:List Sl)(j:Nat)(h:j<xs.length):pre xs (j+1)=(pre xs j++[loB xs[j].2.toNat])++(vb xs[j].1.size++xs[j].1.data.toList):=by
 unfold pre;rw[List.take_succ_eq_append_getElem h,zfj];simp[encs,enc]
theorem pre_all(xs:List Sl)(j:Nat)(h:xs.length<=j):pre xs j=100::encs xs:=by
 unfold pre;rw[List.take_of_length_le h]
def za7(d:Bool)(xs:List Sl)(t:ByteArray):ByteArray:=if zaq d xs t then(if d then accB (100::encs xs)else oneB 116++t)else⟨#[]⟩
theorem zjc{s:Sl}(h:zcx s=true):0<=s.2/\s.2<=8/\s.1.size<=6:=by
 have h':=of_decide_eq_true h;rcases h' with h1|h1
 ·omega
 ·have:=zap h1.1;omega
theorem okF_each(xs:List Sl):∀(ahead:List Sl),okF ahead xs=true->∀s∈xs,zcx s=true:=by
 induction xs with
 | nil=>intro _ _ s hs;simp at hs
 | cons x r ih =>
  intro ahead h s hs;simp only[okF,Bool.and_eq_true]at h;rcases List.mem_cons.1 hs with rfl|h1
  ·exact h.1.1
  ·exact ih _ h.2 s h1
theorem zcy{xs:List Sl}(h:za4 xs=true):xs.length=4/\∀(j:Nat)(hj:j<xs.length),0<=xs[j].2/\xs[j].2<=8/\xs[j].1.size<=6:=by
 simp only[za4,Bool.and_eq_true,decide_eq_true_eq]at h;exact⟨h.1,fun j hj=>zjc (okF_each xs [] h.2 _ (List.getElem_mem hj))⟩
theorem vb_size{n:Nat}(h:n<=127):(vb n).length=1:=by rw[vb,zdn _ _ h];rfl
theorem zkm{s:Sl}(h:s.1.size<=6):(enc s).length<=8:=by
 simp only[enc,List.length_cons,List.length_append,vb_size (show s.1.size<=127 by omega)];have:s.1.data.toList.length=s.1.size:=rfl;omega
theorem zfk(xs:List Sl):(∀s∈xs,s.1.size<=6)->(encs xs).length<=xs.length*8:=by
 induction xs with
 | nil=>intro _;simp[encs]
 | cons x r ih =>
  intro h;have h1:=ih (fun s hs=>h s (by simp[hs]));have h2:=zkm (h x sI);simp only[encs,List.length_append,List.length_cons];omega
theorem zkn{xs:List Sl}(h:za4 xs=true)(j:Nat):(pre xs j).length<=33:=by
 obtain⟨h4,hb⟩:=zcy h;have h1:=zfk (xs.take j) (fun s hs=>by
  obtain⟨i,hi,rfl⟩:=List.getElem_of_mem (List.mem_of_mem_take hs);exact(hb i hi).2.2)
 have h2:(xs.take j).length<=4:=by simp;omega
 simp only[pre,List.length_cons];omega
theorem zdi(a b:List UInt8):accB a++accB b=accB (a++b):=by
 unfold accB;rw[ByteArray.mk_append_mk]
theorem zh3(s:ByteArray):accB s.data.toList=s:=by
 unfold accB;rw[show s.data.toList.toArray=s.data from Array.toArray_toList]
end Kit
theorem joinS(p:List UInt8)(b:UInt8)(n:Nat)(t:ByteArray):accB p++oneB b++zbu n++t=accB ((p++[b])++(vb n++t.data.toList)):=by
 have e1:oneB b=accB [b]:=rfl;have e2:zbu n=accB (vb n):=rfl;have e3:=zh3 t;rw[e1,e2,zdi,zdi]
 conv=>lhs;rw[←e3]
 rw[zdi];simp
theorem conv_at(b:UInt8)(z:Int)(hz:z=(b.toNat:Int))(W:World)(g:Nat)(h:W.cell? ⟨g,0,none⟩=some (.int .u8 z)):(convert 22 9 (.slice (some ⟨g,0,none⟩) 1 1)).run Tryz.prog W=.ok (.string (oneB b)) W:=by
 refine run_convert_bytes_back W 22 9 5 ⟨g,0,none⟩ 1 [b] Tryz.underlying22 Tryz.underlying5 Tryz.underlying9 ?_;intro j hj
 match j,hj with
 | 0,_=>simpa[Addr.add,hz]using h
theorem zh4(d:Bool)(v:Value)(t:ByteArray)(xs:List Sl)(w:World)(hv:RSl w v xs)(hbig:∀(j:Nat)(h:j<xs.length),xs[j].1.size<=1048576)(hno:zaq d xs t=false):
  Calls Tryz.prog 138 #[.agg #[.bool d,v,.string t]] w fun e w'=>e=.returned (.tuple #[.string (za7 d xs t),.bool (zaq d xs t)])/\Below w.1.size w w':=by
 have HV:=hide hv;have C:=hide (fun W h=>zb3 d v t xs W h hbig);obtain⟨a,c,rfl,-⟩:=hv;have e1:za7 d xs t=⟨#[]⟩:=by simp[za7,hno]
 rw[e1,hno];rw[hno]at C;clear e1 hno hbig;go_enter Tryz.func138,Tryz.ntmps138
 go_wp2_with (go_at_call 135;refine(C.out _ (HV.o.alloc _)).mono ?_;rintro e w1 ⟨rfl,hb1⟩)
 go_ret2
 exact⟨rfl,((Below.refl _ w).alloc nR _).trans (hb1.mono sI)⟩
theorem zko(v:Value)(t:ByteArray)(xs:List Sl)(w:World)(hv:RSl w v xs)(hbig:∀(j:Nat)(h:j<xs.length),xs[j].1.size<=1048576)(hok:zaq false xs t=true):
  Calls Tryz.prog 138 #[.agg #[.bool false,v,.string t]] w fun e w'=>e=.returned (.tuple #[.string (za7 false xs t),.bool (zaq false xs t)])/\Below w.1.size w w':=by
 have HV:=hide hv;have C:=hide (fun W h=>zb3 false v t xs W h hbig);obtain⟨a,c,rfl,-⟩:=hv;have e1:za7 false xs t=oneB 116++t:=by simp[za7,hok]
 have ht:t.size<=16:=by rw[zb9]at hok;exact(of_decide_eq_true hok).2
 rw[e1,hok];rw[hok]at C;have m116:(⟨#[116]⟩:ByteArray)=oneB 116:=rfl;have hs1:=ze2 116;clear e1 hok hbig;go_enter Tryz.func138,Tryz.ntmps138
 go_wp2_with (go_at_call 135;refine(C.out _ (HV.o.alloc _)).mono ?_;rintro e w1 ⟨rfl,hb1⟩;obtain⟨q0,q1,q2,-⟩:=((AtC.new w 95 #[.bool false,.slice a xs.length c,.string t]).over hb1).three)
 go_ret2
 exact⟨rfl,((Below.refl _ w).alloc nR _).trans (hb1.mono sI)⟩
set_option linter.unusedSimpArgs false in
theorem zkp(v:Value)(t0:ByteArray)(xs:List Sl)(w:World)(hv:RSl w v xs)(hbig:∀(j:Nat)(h:j<xs.length),xs[j].1.size<=1048576)(hok:zaq true xs t0=true):
  Calls Tryz.prog 138 #[.agg #[.bool true,v,.string t0]] w fun e w'=>e=.returned (.tuple #[.string (za7 true xs t0),.bool (zaq true xs t0)])/\Below w.1.size w w':=by
 have HV:=hide hv;have C:=hide (fun W h=>zb3 true v t0 xs W h hbig);obtain⟨a,c,rfl,hcap,hc⟩:=hv;have HC:=hide hc;have e1:za7 true xs t0=accB (100::encs xs):=by simp[za7,hok]
 have hsl:za4 xs=true:=by
  by_cases h:t0.size=0
  ·rw[zb2 _ _ h]at hok;exact hok
  ·rw[zel _ _ h]at hok;cases hok
 obtain⟨hl4,hbd⟩:=zcy hsl;have HL:=hide hl4;have HBD:=hide hbd;have HPL:=hide (zkn hsl);rw[e1,hok];rw[hok]at C;rw[hl4]at HV C hcap ⊢;have m100:(⟨#[100]⟩:ByteArray)=accB [100]:=rfl;clear e1 hok hbig hc hsl hl4 hbd;go_enter Tryz.func138,Tryz.ntmps138
 go_wp2_with (go_at_call 135;refine(C.out _ (HV.o.alloc _)).mono ?_;rintro e w1 ⟨rfl,hb1⟩;obtain⟨q0,q1,q2,-⟩:=((AtC.new w 95 #[.bool true,.slice a 4 c,.string t0]).over hb1).three)
 have hA1:=(AtC.new w 95 #[.bool true,.slice a 4 c,.string t0]).over hb1;have hB1:Below w.1.size w w1:=((Below.refl _ w).alloc nR _).trans (hb1.mono sI);have HA1:=hide hA1;have HB1:=hide hB1;clear hA1 hB1 hb1 q0 q1 q2;go_loopw [4,5] (fun s i wr=>∃j:Nat,j<=4/\i=.int .i64 j/\s=.string (accB (pre xs j))/\Below w1.1.size w1 wr) (fun _ i _=>4-(intOf i).toNat)
 case atStart=>exact⟨0,Nat.zero_le _,rfl,rfl,Below.refl _ _⟩
 case round =>
  obtain⟨j,hj,rfl,rfl,hb⟩:=hrel;by_cases hlt:j<4
  ·have hlx:j<xs.length:=by rw[HL.o];exact hlt
   obtain⟨g,off,rfl,hg,m1,m2⟩:=HC.o j hlx;have hsz1:=HB1.o.size;have hbw:Below w.1.size w wr:=HB1.o.trans (hb.mono hsz1);have HS:Hid (∀w',Below wr.1.size wr w'->w'.cell? ⟨w.1.size,1,none⟩=some (.slice (some ⟨g,off,none⟩) 4 c)/\w'.cell? ⟨g,off+j*2,none⟩=some (.string xs[j].1)/\w'.cell? ⟨g,off+j*2+1,none⟩=some (.int .i64 xs[j].2)):=fun w' h =>
    ⟨(((HA1.o.over hb).over h).three).2.1,((hbw.trans (h.mono hbw.size)).cell (p:=⟨g,off+j*2,none⟩) hg).trans m1,((hbw.trans (h.mono hbw.size)).cell (p:=⟨g,off+j*2+1,none⟩) hg).trans m2⟩
   obtain⟨b1,b2,b3⟩:=HBD.o j hlx;have HN:=hide (pre_next xs j hlx);obtain⟨t,ht⟩:∃t,xs[j].1=t:=⟨_,rfl⟩
   obtain⟨z,hz⟩:∃z:Nat,xs[j].2=(z:Int):=⟨xs[j].2.toNat,by omega⟩
   rw[ht,hz]at HS HN;rw[ht]at b3;rw[hz]at b1 b2;have hp:=HPL.o j;have HB:=hide hb;clear m1 m2 ht hz hb hbw hlx;obtain⟨r1,r2,r3⟩:=HS.o _ bR;obtain⟨P0,hP0⟩:∃p,pre xs j=p:=⟨_,rfl⟩
   rw[hP0]at hp HN ⊢;have hpz:=ze3 P0;have hoz:=ze2 (loB z);have hhz:=zi7 t.size;have hcv:=conv_at (loB z) (z:Int) (zf7 z oM);have hwz:IntKind.u8.wrap (z:Int)=(z:Int):=by simp[IntKind.wrap,IntKind.signed,IntKind.bits];omega
   have n1:¬9223372036854775807<P0.length+1:=by omega
   have n2:¬9223372036854775807<P0.length+1+(zbu t.size).size:=by omega
   have n3:¬9223372036854775807<P0.length+1+(zbu t.size).size+t.size:=by omega
   have j0:(0:Int)<=(j:Int):=by omega
   have j1:(j:Int)<4:=by omega
   rw[Int.toNat_natCast]at HN;clear hP0;go_wp2_with fail
   refine wp_region_held_drew (S:=(fun w'=>w'.cell? ⟨w.1.size,1,none⟩=some (.slice (some ⟨g,off,none⟩) 4 c)/\w'.cell? ⟨g,off+j*2,none⟩=some (.string t)/\w'.cell? ⟨g,off+j*2+1,none⟩=some (.int .i64 (z:Int)))) kL (HS.o _ bR.drew) (fun hHeld=>?_);refine tk 0 hHeld ?_;simp only[Act.put];refine tk 1 hHeld ?_;simp only[Act.put];refine tk 2 hHeld ?_;simp only[Act.put];refine tk 3 hHeld ?_;simp only[Act.put];refine tk 4 hHeld ?_;simp only[Act.put];refine tk 5 hHeld ?_;simp only[Act.put];refine tk 6 hHeld ?_;simp only[Act.put];refine tk 7 hHeld ?_;simp only[Act.put];refine tk 11 hHeld ?_;simp only[Act.put];refine tk 12 hHeld ?_;simp only[Act.put];refine tk 13 hHeld ?_;simp only[Act.put];refine tk 14 hHeld ?_;simp only[Act.put];refine tk 15 hHeld ?_;simp only[Act.put];refine tk 16 hHeld ?_;simp only[Act.put];refine wpAnyH_take (i:=17) (oi:={ dst:=some 36,op:=Op.call { callee:=Callee.builtin Builtin.len,args:=#[Operand.tmp 35],argTypes:=#[9] },type:=_,pos:=_,after:=_,guard:=none }) (v:=?_) rfl kL kL kL (fun _ _ _ h=>h) (Or.inl ⟨by rfl,?_⟩) hHeld ?_
   rotate_left
   ·exact cQ99
   try simp only[Act.put,List.setIfInBounds_toArray,List.set_cons_zero,List.set_cons_succ]
   refine tk 20 hHeld ?_;simp only[Act.put];refine tk 21 hHeld ?_;simp only[Act.put];refine tk 22 hHeld ?_;simp only[Act.put];refine tk 23 hHeld ?_;simp only[Act.put];refine tk 24 hHeld ?_;simp only[Act.put];refine tk 25 hHeld ?_;simp only[Act.put];refine wpAnyH_ready (rs:=[8,18]) kL sI ?_;refine AllReadyH.cons (o:={ dst:=some 27,op:=Op.buildSlice 22 1 #[(0,Operand.tmp 26)],type:=_,pos:=_,after:=_,guard:=none }) rfl (fun K hK=>?_) ?_
   ·go_simp;refine hK.out _ _ (HS.o _ (bR.alloc nR _).drew) (fun hHeld=>?_);clear hK K;try simp only[Act.put,List.setIfInBounds_toArray,List.set_cons_zero,List.set_cons_succ]
    refine wpAnyH_ready (rs:=[9,18]) kL sI ?_;refine AllReadyH.cons (o:={ dst:=some 28,op:=Op.convert 22 9 (Operand.tmp 27),type:=_,pos:=_,after:=_,guard:=none }) rfl (fun K hK=>?_) ?_
    ·go_simp;refine hK.out _ _ (HS.o _ (bR.alloc nR _).drew) (fun hHeld=>?_);clear hK K;try simp only[Act.put,List.setIfInBounds_toArray,List.set_cons_zero,List.set_cons_succ]
     refine tk 10 hHeld ?_;simp only[Act.put];refine wpAnyH_ready (rs:=[18]) kL sI ?_;refine AllReadyH.cons (o:={ dst:=some 37,op:=Op.call { callee:=Callee.value (Operand.func 167),args:=#[Operand.tmp 36],argTypes:=#[3] },type:=_,pos:=_,after:=_,guard:=none }) rfl (fun K hK=>?_) ?_
     ·go_simp;refine(zcj _ _ oM oM).mono ?_;rintro e w6 ⟨rfl,B6⟩;go_wp2_with fail
      have B7:=((Below.refl _ wr).alloc nR (.cells #[.int .u8 (z:Int)] 5)).trans ((zac B6).mono sI);refine hK.out _ _ (HS.o _ B7) (fun hHeld=>?_);clear hK K;try simp only[Act.put,List.setIfInBounds_toArray,List.set_cons_zero,List.set_cons_succ]
      refine tk 19 hHeld ?_;simp only[Act.put];refine tk 26 hHeld ?_;simp only[Act.put];refine tk 27 hHeld ?_;simp only[Act.put];refine wpAnyH_done kL ?_ _;have HZ:=hide (HB.o.trans (B7.mono HB.o.size));clear hHeld;go_wp2;go_roundw
      case rel=>exact⟨j+1,by omega,by go_num,by(rw[HN.o,←joinS];try rfl),HZ.o⟩
      case measure=>simp[intOf];omega
     ·exact AllReadyH.nil
    refine AllReadyH.cons (o:={ dst:=some 37,op:=Op.call { callee:=Callee.value (Operand.func 167),args:=#[Operand.tmp 36],argTypes:=#[3] },type:=_,pos:=_,after:=_,guard:=none }) rfl (fun K hK=>?_) ?_
    ·go_simp;refine(zcj _ _ oM oM).mono ?_;rintro e w6 ⟨rfl,B6⟩;go_wp2_with fail
     have B7:=((Below.refl _ wr).alloc nR (.cells #[.int .u8 (z:Int)] 5)).trans ((zac B6).mono sI);have cx:=((AtC.new wr 5 #[.int .u8 (z:Int)]).over (zac B6)).c0;refine hK.out _ _ (HS.o _ B7) (fun hHeld=>?_);clear hK K;try simp only[Act.put,List.setIfInBounds_toArray,List.set_cons_zero,List.set_cons_succ]
     refine wpAnyH_ready (rs:=[9]) kL sI ?_;refine AllReadyH.cons (o:={ dst:=some 28,op:=Op.convert 22 9 (Operand.tmp 27),type:=_,pos:=_,after:=_,guard:=none }) rfl (fun K hK=>?_) ?_
     ·go_simp;refine hK.out _ _ (HS.o _ B7) (fun hHeld=>?_);clear hK K;try simp only[Act.put,List.setIfInBounds_toArray,List.set_cons_zero,List.set_cons_succ]
      refine tk 10 hHeld ?_;simp only[Act.put];refine tk 19 hHeld ?_;simp only[Act.put];refine tk 26 hHeld ?_;simp only[Act.put];refine tk 27 hHeld ?_;simp only[Act.put];refine wpAnyH_done kL ?_ _;have HZ:=hide (HB.o.trans (B7.mono HB.o.size));clear hHeld;go_wp2;go_roundw
      case rel=>exact⟨j+1,by omega,by go_num,by(rw[HN.o,←joinS];try rfl),HZ.o⟩
      case measure=>simp[intOf];omega
     ·exact AllReadyH.nil
    ·exact AllReadyH.nil
   refine AllReadyH.cons (o:={ dst:=some 37,op:=Op.call { callee:=Callee.value (Operand.func 167),args:=#[Operand.tmp 36],argTypes:=#[3] },type:=_,pos:=_,after:=_,guard:=none }) rfl (fun K hK=>?_) ?_
   ·go_simp;refine(zcj _ _ oM oM).mono ?_;rintro e w6 ⟨rfl,B6⟩;go_wp2_with fail
    refine hK.out _ _ (HS.o _ (zac B6)) (fun hHeld=>?_);clear hK K;try simp only[Act.put,List.setIfInBounds_toArray,List.set_cons_zero,List.set_cons_succ]
    refine wpAnyH_ready (rs:=[8]) kL sI ?_;refine AllReadyH.cons (o:={ dst:=some 27,op:=Op.buildSlice 22 1 #[(0,Operand.tmp 26)],type:=_,pos:=_,after:=_,guard:=none }) rfl (fun K hK=>?_) ?_
    ·go_simp;refine hK.out _ _ (HS.o _ ((zac B6).alloc (zac B6).size _)) (fun hHeld=>?_);clear hK K;try simp only[Act.put,List.setIfInBounds_toArray,List.set_cons_zero,List.set_cons_succ]
     refine wpAnyH_ready (rs:=[9]) kL sI ?_;refine AllReadyH.cons (o:={ dst:=some 28,op:=Op.convert 22 9 (Operand.tmp 27),type:=_,pos:=_,after:=_,guard:=none }) rfl (fun K hK=>?_) ?_
     ·go_simp;refine hK.out _ _ (HS.o _ ((zac B6).alloc (zac B6).size _)) (fun hHeld=>?_);clear hK K;try simp only[Act.put,List.setIfInBounds_toArray,List.set_cons_zero,List.set_cons_succ]
      refine tk 10 hHeld ?_;simp only[Act.put];refine tk 19 hHeld ?_;simp only[Act.put];refine tk 26 hHeld ?_;simp only[Act.put];refine tk 27 hHeld ?_;simp only[Act.put];refine wpAnyH_done kL ?_ _;have HZ:=hide (HB.o.trans (((zac B6).alloc (zac B6).size (.cells #[.int .u8 (z:Int)] 5)).mono HB.o.size));clear hHeld;go_wp2;go_roundw
      case rel=>exact⟨j+1,by omega,by go_num,by(rw[HN.o,←joinS];try rfl),HZ.o⟩
      case measure=>simp[intOf];omega
     ·exact AllReadyH.nil
    ·exact AllReadyH.nil
   ·exact AllReadyH.nil
  ·have HF:=hide (pre_all xs j (by rw[HL.o];omega));have HZ:=hide (HB1.o.trans (hb.mono HB1.o.size));clear hb;go_wp2
   go_ret2
   exact⟨by rw[HF.o];rfl,HZ.o⟩
theorem zcl(d:Bool)(v:Value)(t:ByteArray)(xs:List Sl)(w:World)(hv:RSl w v xs)(hbig:∀(j:Nat)(h:j<xs.length),xs[j].1.size<=1048576):
  Calls Tryz.prog 138 #[.agg #[.bool d,v,.string t]] w fun e w'=>e=.returned (.tuple #[.string (za7 d xs t),.bool (zaq d xs t)])/\Below w.1.size w w':=by
 cases hok:zaq d xs t with
 | false=>rw[←hok];exact zh4 d v t xs w hv hbig hok
 | true =>
  rw[←hok]
  cases d with
  | true=>exact zkp v t xs w hv hbig hok
  | false=>exact zko v t xs w hv hbig hok
namespace Kit
theorem Owns.one(w:World)(base:Nat)(e:TypeId)(b:UInt8)(hb:base<=w.1.size):Owns (w.alloc (.cells #[.int .u8 (b.toNat:Int)] e)) base e (.slice (some ⟨w.1.size,0,none⟩) 1 1) [b] :=
 World.ownsRow_lit w #[.int .u8 (b.toNat:Int)] 1 hb (by unfold maxLen;omega) rfl
theorem Owns.below{w w':World}{base B:Nat}{e:TypeId}{v:Value}{l:List UInt8}(h:Owns w base e v l)(hb:Below B w w')(hB:w.1.size<=B):Owns w' base e v l:=by
 refine⟨h.1,?_⟩;rcases h.2 with h1|⟨g,cap,cur,h1,h2,h3,h4⟩
 ·exact .inl h1
 ·have hlt:=(Array.getElem?_eq_some_iff.1 h3).1;exact .inr ⟨g,cap,cur,h1,h2,by rw[hb.block g oM,h3],h4⟩
theorem Owns.accB{w:World}{base:Nat}{e:TypeId}{v:Value}{l:List UInt8}(h:Owns w base e v l){P:Program}(src dst:TypeId)(hs:P.underlying src=some (.slice e))(he:P.underlying e=some (.int .u8))(hd:P.underlying dst=some .string):(convert src dst v).run P w=.ok (.string (Kit.accB l)) w :=
 zgl src dst e hs he hd h
end Kit
def inoB(x:Ino):ByteArray:=textL x.1 x.2.1 x.2.2
def blkB(b:Blk):ByteArray:=za7 b.1 b.2.1 b.2.2
def unitB(xs ys:List Bool)(is:List Ino)(bs:List Blk)(u:Nat):ByteArray :=
 if u=0 then textB xs ys else if u<=4 then inoB (is.getD (2*u-2) zI)++inoB (is.getD (2*u-1) zI)else blkB (bs.getD (u-5) zB)
theorem zh5{xs ys:List Bool}{is:List Ino}{bs:List Blk}(h:za2 xs ys is bs=true):okB xs.length ys.length=true/\is.length=8/\bs.length=16/\(∀(j:Nat)(h:j<is.length),inoOk is[j]=true)/\∀(j:Nat)(h:j<bs.length),blkOk bs[j]=true:=by
 unfold za2 at h;simp only[Bool.and_eq_true,decide_eq_true_eq]at h;refine⟨h.1.1,h.1.2.2,h.2.2,fun j hj=>?_,fun j hj=>?_⟩
 ·exact List.all_eq_true.1 h.1.2.1 _ (List.getElem_mem hj)
 ·exact List.all_eq_true.1 h.2.1 _ (List.getElem_mem hj)
theorem zdb(k l:Int)(xs:List Int):(textL k l xs).size<=4:=by
 unfold textL
 split
 ·rw[zj9];omega
 ·exact Nat.zero_le _
theorem zkq(u v iv bv:Value)(xs ys:List Bool)(is:List Ino)(bs:List Blk)(k:Nat)(w:World)(h:DR w u v iv bv xs ys is bs)(hl:is.length=8)(hk:1<=k)(hk4:k<=4):
  Calls Tryz.prog 109 #[.agg #[u,v,iv,bv],.int .i64 k] w fun e w'=>e=.returned (.string (inoB (is.getD (2*k-2) zI)++inoB (is.getD (2*k-1) zI)))/\Below w.1.size w w':=by
 obtain⟨a3,c3,ri,-,hii⟩:=h.i.ino;obtain⟨a1,c1,a2,c2,-,-,a4,c4,rfl,rfl,-,rfl⟩:=h.form;subst ri;clear h;obtain⟨n4,hn4⟩:∃n,bs.length=n:=⟨_,rfl⟩
 obtain⟨n1,hn1⟩:∃n,xs.length=n:=⟨_,rfl⟩
 obtain⟨n2,hn2⟩:∃n,ys.length=n:=⟨_,rfl⟩
 obtain⟨g1,o1,p1,rfl,hg1,m1,m2,m3,hr1⟩:=hii (2*k-2) oM;obtain⟨g2,o2,p2,e2,hg2,s1,s2,s3,hr2⟩:=hii (2*k-1) oM;simp only[Option.some.injEq,Addr.mk.injEq]at e2;obtain⟨rfl,rfl,-⟩:=e2;rw[show is.getD (2*k-2) zI=is[2*k-2]'oM by simp[List.getD,List.getElem?_eq_getElem (show 2*k-2<is.length by omega)],show is.getD (2*k-1) zI=is[2*k-1]'oM by simp[List.getD,List.getElem?_eq_getElem (show 2*k-1<is.length by omega)]];obtain⟨x,hx⟩:∃x,is[2*k-2]'oM=x:=⟨_,rfl⟩
 obtain⟨y,hy⟩:∃x,is[2*k-1]'oM=x:=⟨_,rfl⟩
 rw[hx]at m1 m2 hr1 ⊢;rw[hy]at s1 s2 hr2 ⊢;obtain⟨x1,x2,x3⟩:=x;obtain⟨y1,y2,y3⟩:=y;obtain⟨pa,pc,rfl⟩:=hr1.form;obtain⟨qa,qc,rfl⟩:=hr2.form;simp only at m1 m2 m3 s1 s2 s3 hr1 hr2;rw[hl,hn1,hn2,hn4];clear hii hx hy hl hn1 hn2 hn4;have H1:=hide hr1;have H2:=hide hr2;have i0:((k:Int)==0)=false:=by simp;omega
 have i4:decide ((k:Int)<=4)=true:=by simp;omega
 have C1:=hide (fun W h=>zdp x1 x2 x3 (.slice pa x3.length pc) W h);have C2:=hide (fun W h=>zdp y1 y2 y3 (.slice qa y3.length qc) W h);have z1:=zdb x1 x2 x3;have z2:=zdb y1 y2 y3;show Calls Tryz.prog 109 _ w fun e w'=>e=.returned (.string (textL x1 x2 x3++textL y1 y2 y3))/\Below w.1.size w w';generalize textL x1 x2 x3=T1 at*;generalize textL y1 y2 y3=T2 at*;clear hr1 hr2;go_enter Tryz.func109,Tryz.ntmps109
 go_wp2_with fail
 refine(C1.out _ (H1.o.alloc _)).mono ?_;rintro e w1 ⟨rfl,B1⟩;have BW:Below w.1.size w w1:=((Below.refl _ w).alloc nR _).trans (B1.mono sI);have K0:AtC w1 w.1.size 30 #[.slice a1 n1 c1,.slice a2 n2 c2,.slice (some ⟨g1,o1,none⟩) 8 c3,.slice a4 n4 c4]:=(AtC.new w 30 _).over B1;have p2:=K0.c2;have t1:=(BW.cell (p:=⟨g1,o1+(2*k-1)*3,none⟩) hg1).trans s1;have t2:=(BW.cell (p:=⟨g1,o1+(2*k-1)*3+1,none⟩) hg1).trans s2;have t3:=(BW.cell (p:=⟨g1,o1+(2*k-1)*3+2,none⟩) hg1).trans s3;have HBW:=hide BW;clear B1 BW K0 m1 m2 m3 s1 s2 s3;go_wp2_with fail
 refine(C2.out _ (H2.o.below HBW.o nR)).mono ?_;rintro e w2 ⟨rfl,B2⟩;have HB2:=hide (HBW.o.trans (B2.mono HBW.o.size));clear B2;go_wp2;go_ret;exact⟨rfl,HB2.o⟩
theorem zkr(u v iv bv:Value)(xs ys:List Bool)(is:List Ino)(bs:List Blk)(k:Nat)(w:World)(h:DR w u v iv bv xs ys is bs)(hl:bs.length=16)(hk:5<=k)(hk4:k<=20)(hB:∀(j:Nat)(h:j<bs.length),bigB 1048576 bs[j]):
  Calls Tryz.prog 109 #[.agg #[u,v,iv,bv],.int .i64 k] w fun e w'=>e=.returned (.string (blkB (bs.getD (k-5) zB)))/\Below w.1.size w w':=by
 obtain⟨a4,c4,ri,-,hii⟩:=h.k.blk;obtain⟨a1,c1,a2,c2,a3,c3,-,-,rfl,rfl,rfl,-⟩:=h.form;subst ri;clear h;obtain⟨n3,hn3⟩:∃n,is.length=n:=⟨_,rfl⟩
 obtain⟨n1,hn1⟩:∃n,xs.length=n:=⟨_,rfl⟩
 obtain⟨n2,hn2⟩:∃n,ys.length=n:=⟨_,rfl⟩
 obtain⟨g1,o1,p1,rfl,hg1,m1,m2,m3,hr1⟩:=hii (k-5) oM;rw[show bs.getD (k-5) zB=bs[k-5]'oM by simp[List.getD,List.getElem?_eq_getElem (show k-5<bs.length by omega)]];have hbg:=hB (k-5) oM;obtain⟨x,hx⟩:∃x,bs[k-5]'oM=x:=⟨_,rfl⟩
 rw[hx]at m1 m3 hr1 hbg ⊢;obtain⟨x1,x2,x3⟩:=x;obtain⟨pa,pc,rfl⟩:=hr1.form;simp only at m1 m2 m3 hr1;rw[hl,hn1,hn2,hn3];have H1:=hide hr1;have i0:((k:Int)==0)=false:=by simp;omega
 have i4:decide ((k:Int)<=4)=false:=by simp;omega
 have HG:=hide hbg.2.1;have C1:=hide (fun W h=>zcl x1 (.slice pa x2.length pc) x3 x2 W h HG.o);clear hr1 hii hx hl hn1 hn2 hn3 hbg HG hB;go_enter Tryz.func109,Tryz.ntmps109
 go_wp2_with fail
 refine(C1.out _ (H1.o.alloc _)).mono ?_;rintro e w1 ⟨rfl,B1⟩;have HBW:=hide (((Below.refl _ w).alloc nR (.cells #[.slice a1 n1 c1,.slice a2 n2 c2,.slice a3 n3 c3,.slice (some ⟨g1,o1,none⟩) 16 c4] 30)).trans (B1.mono sI));clear B1;go_wp2;go_ret;exact⟨rfl,HBW.o⟩
theorem zks(u v iv bv:Value)(xs ys:List Bool)(is:List Ino)(bs:List Blk)(base:Nat)(w:World)(h:DR w u v iv bv xs ys is bs)(hT:Two w base u v xs ys):
  Calls Tryz.prog 109 #[.agg #[u,v,iv,bv],.int .i64 0] w fun e w'=>e=.returned (.string (textA xs ys))/\Below w.1.size w w':=by
 have HT:=hide hT;obtain⟨a1,c1,a2,c2,a3,c3,a4,c4,rfl,rfl,rfl,rfl⟩:=h.form;clear h hT;go_enter Tryz.func109,Tryz.ntmps109
 go_wp2_with fail
 refine(zg0 _ _ xs ys base _ (HT.o.alloc _)).mono ?_;rintro e w1 ⟨rfl,B1⟩;have HBW:=hide (((Below.refl _ w).alloc nR (.cells #[.slice a1 xs.length c1,.slice a2 ys.length c2,.slice a3 is.length c3,.slice a4 bs.length c4] 30)).trans (B1.mono sI));clear B1;go_wp2;go_ret;exact⟨rfl,HBW.o⟩
namespace Kit
theorem R3.sub{α:Type}{K:Kd α}{w:World}{g o n c:Nat}{xs:List α}(h:R3 K w (.slice (some ⟨g,o,none⟩) n c) xs)(i m:Nat)(him:i+m<=xs.length):R3 K w (.slice (some ⟨g,o+i*3,none⟩) m m) ((xs.drop i).take m):=by
 obtain⟨a,cap,e,hc,h⟩:=h;have hlen:((xs.drop i).take m).length=m:=by simp;omega
 refine⟨some ⟨g,o+i*3,none⟩,m,by rw[hlen],by rw[hlen];exact Nat.le_refl _,fun j hj=>?_⟩;rw[hlen]at hj;obtain⟨g',off,t,e1,hg,c0,c1,c2,r⟩:=h (i+j) oM;simp only[Value.slice.injEq]at e;rw[←e.1]at e1;simp only[Option.some.injEq,Addr.mk.injEq]at e1;obtain⟨rfl,rfl,-⟩:=e1;rw[show o+(i+j)*3=o+i*3+j*3 by omega]at c0 c1 c2;exact⟨g,o+i*3,t,rfl,hg,c0,c1,c2,by simpa using r⟩
end Kit
def unitT(xs ys:List Bool)(is:List Ino)(bs:List Blk)(u:Int):ByteArray:=if za2 xs ys is bs&&(decide (0<=u)&&decide (u<21))then unitB xs ys is bs u.toNat else⟨#[]⟩
theorem unitB_z{xs ys:List Bool}{is:List Ino}{bs:List Blk}(h:okB xs.length ys.length=true):unitB xs ys is bs 0=textA xs ys:=by simp[unitB,textA,h]
theorem unitB_i{xs ys:List Bool}{is:List Ino}{bs:List Blk}{k:Nat}(h:1<=k)(h4:k<=4):unitB xs ys is bs k=inoB (is.getD (2*k-2) zI)++inoB (is.getD (2*k-1) zI):=by
 unfold unitB;rw[if_neg oM,if_pos h4]
theorem unitB_b{xs ys:List Bool}{is:List Ino}{bs:List Blk}{k:Nat}(h:5<=k):unitB xs ys is bs k=blkB (bs.getD (k-5) zB):=by
 unfold unitB;rw[if_neg oM,if_neg oM]
theorem zem(u v iv bv:Value)(xs ys:List Bool)(is:List Ino)(bs:List Blk)(k base:Nat)(w:World)(h:DR w u v iv bv xs ys is bs)(hT:Two w base u v xs ys)(hok:za2 xs ys is bs=true)(hk:k<=20)(hB:∀(j:Nat)(h:j<bs.length),bigB 1048576 bs[j]):
  Calls Tryz.prog 109 #[.agg #[u,v,iv,bv],.int .i64 k] w fun e w'=>e=.returned (.string (unitB xs ys is bs k))/\Below w.1.size w w':=by
 obtain⟨p1,p2,p3,-,-⟩:=zh5 hok;by_cases h0:k=0
 ·subst h0;rw[unitB_z p1];exact zks u v iv bv xs ys is bs base w h hT
 ·by_cases h4:k<=4
  ·rw[unitB_i oM h4];exact zkq u v iv bv xs ys is bs k w h p2 oM h4
  ·rw[unitB_b oM];exact zkr u v iv bv xs ys is bs k w h p3 oM hk hB
def zcz(xs ys:List Bool)(is:List Ino)(bs:List Blk)(u:Int):Bool:=za2 xs ys is bs&&(decide (0<=u)&&decide (u<21))
theorem zjy{xs ys:List Bool}{is:List Ino}{bs:List Blk}{u:Int}(h:zcz xs ys is bs u=false):unitT xs ys is bs u=⟨#[]⟩:=by
 unfold unitT;unfold zcz at h;rw[h];rfl
theorem zmg{xs ys:List Bool}{is:List Ino}{bs:List Blk}{u:Int}(h:zcz xs ys is bs u=true):unitT xs ys is bs u=unitB xs ys is bs u.toNat:=by
 unfold unitT;unfold zcz at h;rw[h];rfl
theorem in_is(u:Int):inB u 0 20=(decide (0<=u)&&decide (u<21)):=by
 unfold inB;rw[Bool.eq_iff_iff];simp;omega
theorem zkt(u v iv bv:Value)(xs ys:List Bool)(is:List Ino)(bs:List Blk)(n:Int)(base:Nat)(w:World)(h:DR w u v iv bv xs ys is bs)(hT:Two w base u v xs ys)(hB:∀(j:Nat)(h:j<bs.length),bigB 1048576 bs[j]):
  Calls Tryz.prog 210 #[.agg #[u,v,iv,bv],.int .i64 n] w fun e w'=>e=.returned (.tuple #[.string (unitT xs ys is bs n),.bool (zcz xs ys is bs n)])/\Below w.1.size w w':=by
 have H:=hide h;have HT:=hide hT;have HG:=hide hB;obtain⟨a1,c1,a2,c2,a3,c3,a4,c4,rfl,rfl,rfl,rfl⟩:=h.form;clear h hT hB;have C0:=hide (fun W h=>zdg (.slice a1 xs.length c1) (.slice a2 ys.length c2) (.slice a3 is.length c3) (.slice a4 bs.length c4) xs ys is bs W h (fun j hj=>(HG.o j hj).2.1))
 cases hok:za2 xs ys is bs with
 | false =>
  have hno:zcz xs ys is bs n=false:=by unfold zcz;rw[hok];rfl
  rw[zjy hno,hno];rw[hok]at C0;clear hok hno HG HT;go_enter Tryz.func210,Tryz.ntmps210
  go_wp2_with fail
  refine(C0.out _ (H.out.alloc _)).mono ?_;rintro e w1 ⟨rfl,B1⟩;have HBW:=hide (((Below.refl _ w).alloc nR (.cells #[.slice a1 xs.length c1,.slice a2 ys.length c2,.slice a3 is.length c3,.slice a4 bs.length c4] 30)).trans (B1.mono sI));clear B1;go_wp2;refine bodyPost_ret (v:=.tuple #[.string ⟨#[]⟩,.bool false]) sR0 rfl ⟨rfl,HBW.o⟩
 | true =>
  have HOK:=hide hok;rw[hok]at C0;have L:=hide (fun W=>zai n 0 20 W);rw[in_is]at L
  cases hin:(decide (0<=n)&&decide (n<21))with
  | false =>
   have hno:zcz xs ys is bs n=false:=by unfold zcz;rw[hin,Bool.and_false]
   rw[zjy hno,hno];rw[hin]at L;clear hok hno HG HT hin HOK;go_enter Tryz.func210,Tryz.ntmps210
   go_wp2_with fail
   refine(C0.out _ (H.out.alloc _)).mono ?_;rintro e w1 ⟨rfl,B1⟩;have HBW:=hide (((Below.refl _ w).alloc nR (.cells #[.slice a1 xs.length c1,.slice a2 ys.length c2,.slice a3 is.length c3,.slice a4 bs.length c4] 30)).trans (B1.mono sI));clear B1;go_wp2_with (go_at_call 50;refine(L.out _).mono ?_;rintro e w2 ⟨rfl,rfl⟩)
   refine bodyPost_ret (v:=.tuple #[.string ⟨#[]⟩,.bool false]) sR0 rfl ⟨rfl,HBW.o⟩
  | true =>
   have hyes:zcz xs ys is bs n=true:=by unfold zcz;rw[hok,hin];rfl
   rw[zmg hyes,hyes];rw[hin]at L;simp only[Bool.and_eq_true,decide_eq_true_eq]at hin;obtain⟨m,rfl⟩:∃m:Nat,n=m:=⟨n.toNat,by omega⟩
   have hm:m<=20:=by omega
   rw[Int.toNat_natCast];have C1:=hide (fun W h hT=>zem (.slice a1 xs.length c1) (.slice a2 ys.length c2) (.slice a3 is.length c3) (.slice a4 bs.length c4) xs ys is bs m base W h hT HOK.o hm HG.o);generalize unitB xs ys is bs m=T at*;clear hok hyes HG hin HOK;go_enter Tryz.func210,Tryz.ntmps210
   go_wp2_with fail
   refine(C0.out _ (H.out.alloc _)).mono ?_;rintro e w1 ⟨rfl,B1⟩;have X1:AtC w1 w.1.size 30 #[.slice a1 xs.length c1,.slice a2 ys.length c2,.slice a3 is.length c3,.slice a4 bs.length c4]:=(AtC.new w 30 _).over B1;have b1:Below w.1.size w w1:=((Below.refl _ w).alloc nR _).trans (B1.mono sI);obtain⟨r0,r1,r2,r3⟩:=AtC.four X1;have HBW:=hide b1;clear B1 X1 b1 C0;go_wp2_with (first| (go_at_call 50;refine(L.out _).mono ?_;rintro e w2 ⟨rfl,rfl⟩)| (go_at_call 109;refine(C1.out _ (H.out.below HBW.o nR) (HT.o.below HBW.o nR)).mono ?_;rintro e w3 ⟨rfl,B3⟩;have HB3:=hide (HBW.o.trans (B3.mono HBW.o.size));clear B3))
   refine bodyPost_ret (v:=.tuple #[.string T,.bool true]) sR0 rfl ⟨rfl,HB3.o⟩
namespace Kit
theorem zjd(l:List ByteArray)(j:Nat)(h:j<l.length):(stc l)[j]?=some (.string l[j]):=by simp[stc,h]
theorem stc_set(l:List ByteArray)(j:Nat)(t:ByteArray):(stc l).set j (.string t)=stc (l.set j t):=by simp[stc,List.map_set]
def RSt(w:World)(v:Value)(xs:List ByteArray):Prop:=∃a cap,v=.slice a xs.length cap/\∀(j:Nat)(h:j<xs.length),∃g off,a=some ⟨g,off,none⟩/\g<w.1.size/\w.cell? ⟨g,off+j,none⟩=some (.string xs[j])
theorem RSt.below{w w':World}{B:Nat}{v:Value}{xs:List ByteArray}(h:RSt w v xs)(hb:Below B w w')(hB:w.1.size<=B):RSt w' v xs:=by
 exact cQ38
theorem ROwns.rst{w:World}{base:Nat}{e:TypeId}{v:Value}{xs:List ByteArray}(h:ROwns w base e v (stc xs)):RSt w v xs:=by
 obtain⟨a,cap,rfl,_⟩:=h.form;refine⟨a,cap,by rw[zaf],fun j hj=>?_⟩;obtain⟨g,c,e1,k1,_,_,k4,_⟩:=h.at j (by rw[zaf];exact hj);simp only[Value.slice.injEq]at e1;refine⟨g,0,e1.1,k4,?_⟩;rw[Nat.zero_add,k1];simp[stc,hj]
theorem RSt.alloc{w:World}{v:Value}{xs:List ByteArray}(h:RSt w v xs)(o:Obj):RSt (w.alloc o) v xs:=h.below ((Below.refl _ w).alloc nR o) nR
theorem RSt.drew{w:World}{v:Value}{xs:List ByteArray}(h:RSt w v xs):RSt w.drew v xs:=h.below (Below.refl w.1.size w).drew nR
theorem RSt.form{w:World}{v:Value}{xs:List ByteArray}(h:RSt w v xs):∃a c,v=.slice a xs.length c:=by
 obtain⟨a,c,h,_⟩:=h;exact⟨a,c,h⟩
end Kit
namespace Kit
def AtO(T:TypeId)(w:World)(b:Nat)(v:Value):Prop:=w.1[b]?=some (.cells #[v] T (0,0))
theorem AtO.lt{T:TypeId}{w:World}{b:Nat}{v:Value}(h:AtO T w b v):b<w.1.size:=(Array.getElem?_eq_some_iff.1 h).1
theorem AtO.new(T:TypeId)(w:World)(v:Value):AtO T (w.alloc (.cells #[v] T)) w.1.size v:=zbj w _
theorem AtO.alloc{T:TypeId}{w:World}{b:Nat}{v:Value}(h:AtO T w b v)(o:Obj):AtO T (w.alloc o) b v:=(Below.heap_alloc _ _ _ h.lt).trans h
theorem AtO.below{T:TypeId}{w w':World}{b B:Nat}{v:Value}(h:AtO T w b v)(hb:Below B w w')(hB:b<B):AtO T w' b v:=(hb.block b hB).trans h
theorem AtO.grown{T:TypeId}{w w':World}{b:Nat}{v:Value}{row:Option Nat}(h:AtO T w b v)(hg:w.grownBy w' row)(hr:row≠some b):AtO T w' b v:=(hg.block b h.lt (fun e=>hr e.symm)).trans h
theorem AtO.cell{T:TypeId}{w:World}{b:Nat}{v:Value}(h:AtO T w b v):w.cell? ⟨b,0,none⟩=some v:=by
 have h':w.1[b]?=some (.cells #[v] T (0,0)):=h;simp[World.cell?,h']
theorem AtO.frozen{T:TypeId}{w:World}{b:Nat}{v:Value}(h:AtO T w b v):w.frozen? ⟨b,0,none⟩=false:=by
 have h':w.1[b]?=some (.cells #[v] T (0,0)):=h;simp[World.frozen?,h']
theorem AtO.set_other{T:TypeId}{w:World}{b:Nat}{v:Value}(h:AtO T w b v){B j:Nat}(hne:b≠B)(x:Value):AtO T (w.setCell ⟨B,j,none⟩ x) b v:=(heap_setCell_other w ⟨B,j,none⟩ b x hne).trans h
theorem AtO.set{T:TypeId}{w:World}{b:Nat}{v:Value}(h:AtO T w b v)(x:Value):AtO T (w.setCell ⟨b,0,none⟩ x) b x:=heap_setCell_same w b 0 _ T x h
theorem AtO.drew{T:TypeId}{w:World}{b:Nat}{v:Value}(h:AtO T w b v):AtO T w.drew b v:=h
def zbv(xs:List ByteArray):Bool:=xs.all fun t=>decide (t.size<=60)
def okD(xs:List ByteArray):Bool:=(xs.length==21)&&zbv xs
theorem short_of{xs:List ByteArray}{j:Nat}(h:∀k (hk:k<xs.length),k<j->xs[k].size<=60)(hj:xs.length<=j):zbv xs=true:=by
 unfold zbv;rw[List.all_eq_true];intro t ht;obtain⟨k,hk,rfl⟩:=List.getElem_of_mem ht;simpa using h k hk oM
theorem short_no{xs:List ByteArray}{j:Nat}(hj:j<xs.length)(h:60<xs[j].size):zbv xs=false:=by
 unfold zbv;rw[List.all_eq_false];exact⟨xs[j],List.getElem_mem hj,by simpa using h⟩
theorem okD_no{xs:List ByteArray}(h:zbv xs=false):okD xs=false:=by simp[okD,h]
theorem zmh{xs:List ByteArray}(h:zbv xs=true):okD xs=((xs.length:Int)==21):=by
 unfold okD;rw[h,Bool.and_true,Bool.eq_iff_iff];simp;omega
end Kit
theorem zdj(v:Value)(xs:List ByteArray)(w:World)(hv:RSt w v xs)(hl:xs.length<=1048576)(hs:∀(j:Nat)(h:j<xs.length),xs[j].size<=1048576):
  Calls Tryz.prog 19 #[.agg #[v]] w fun e w'=>e=.returned (.bool (okD xs))/\Below w.1.size w w':=by
 obtain⟨a,c,rfl,hc⟩:=hv;have HC:=hide hc;have HS:=hide hs;obtain⟨r,hr⟩:∃r,okD xs=r:=⟨_,rfl⟩
 rw[hr];have HR:=hide hr;clear hc hs hr;have hB:=(Below.refl w.1.size w).alloc nR (.cells #[.slice a xs.length c] 46);have c0:=(AtO.new 46 w (.slice a xs.length c)).cell;have l0:=(AtO.new 46 w (.slice a xs.length c)).lt;obtain⟨W,hW⟩:∃W,w.alloc (.cells #[.slice a xs.length c] 46)=W:=⟨_,rfl⟩
 rw[hW]at hB c0 l0;have HB:=hide hB;clear hB;go_enter Tryz.func19,Tryz.ntmps19
 go_wp2;go_loopw [3] (fun i wr=>∃j:Nat,j<=xs.length/\i=.int .i64 j/\Hid (∀(k:Nat)(h:k<xs.length),k<j->xs[k].size<=60)/\W=wr) (fun i _=>xs.length-(intOf i).toNat)
 case atStart=>exact⟨0,Nat.zero_le _,rfl,fun _ _ h=>absurd h (Nat.not_lt_zero _),rfl⟩
 case round =>
  obtain⟨j,hj,rfl,HK,rfl⟩:=hrel;clear hW;by_cases hlt:j<xs.length
  ·obtain⟨g,off,rfl,hg,m1⟩:=HC.o j hlt;have m2:=(HB.o.cell (p:=⟨g,off+j,none⟩) hg).trans m1;have hgt:=HS.o j hlt;obtain⟨t,ht⟩:∃t,xs[j]=t:=⟨_,rfl⟩
   rw[ht]at m2 hgt;have HT:=hide ht;have j0:(0:Int)<=(j:Int):=by omega
   have j1:(j:Int)<(xs.length:Int):=by omega
   clear ht m1;by_cases hs:60<t.size
   ·go_wp2;go_ret;exact⟨by rw[←HR.o,okD_no (short_no hlt (by rw[HT.o];exact hs))];rfl,HB.o⟩
   ·go_wp2;go_roundw
    case rel=>exact⟨j+1,by omega,by go_num,fun k hk h=>by
      by_cases hkj:k<j
      ·exact HK.o k hk hkj
      ·have:k=j:=by omega
       subst this;rw[HT.o];omega,by trivial⟩
    case measure=>simp[intOf];omega
  ·have HF:=hide (short_of HK.o oM);go_wp2;go_ret;exact⟨by rw[←HR.o,zmh HF.o];rfl,HB.o⟩
namespace Kit
theorem zev{P:Program}(w:World)(t ty:TypeId)(base:Nat)(e:TypeId)(ht:P.underlying t=some (.slice e))(z:Value)(bytes:Nat)
  (hi:(P.info? e).map (fun i=>(i.zero,i.size,i.bytes))=some (some z,1,bytes)) (hzc:z.cells.size=1) (hby:bytes<=64) (v:Value) (ys xs:List ByteArray) (hown:ROwns w base e v (stc ys))
  (hbase:base<=w.1.size) (x:Value) (hx:RSt w x xs) (hl:ys.length+xs.length<=1000000000000) :
  ∃v' w',(Builtin.append_ #[t,t] ty #[v,x]).run P w=.ok v' w'/\ROwns w' base e v' (stc (ys++xs))/\w.grownBy w' v.ownBlock/\(v'.ownBlock=v.ownBlock\/v'.ownBlock=some w.1.size):=by
 obtain⟨i0,hi,hz0,hz1,hz2⟩:=info_parts hi;obtain⟨a,c,rfl,hc⟩:=hx
 cases a with
 | none =>
  have hx0:xs=[]:=by
   cases xs with
   | nil=>rfl
   | cons y r=>obtain⟨_,_,h,_⟩:=hc 0 sI;cases h
  subst hx0;obtain⟨av,cv,rfl,-⟩:=hown.form;have hle:(stc ys).length<=cv:=by
   rcases hown.2 with⟨h1,h0⟩| ⟨g,cap,cur,h1,-,-,h4,-⟩
   ·rw[h0];exact Nat.zero_le _
   ·simp only[Value.slice.injEq]at h1;omega
  have hr:=run_append_nothing (P:=P) w t t ty e i0 ht hi av (stc ys).length cv hle (.slice none 0 c) (Src.ofNil w ht c);exact⟨_,w,hr,by rw[List.append_nil];exact hown,zal bR _,.inl rfl⟩
 | some ad =>
  have h63:(ys.length+xs.length)*bytes<=1000000000000*64:=Nat.mul_le_mul hl hby;have hown':w.ownsRow base e 1 v ys.length (stc ys):=by have:w.ownsRow base e 1 v (stc ys).length (stc ys):=hown;rwa[zaf]at this
  obtain⟨v',w',hr,h2,h3,_,h5⟩:=run_append_own_at (P:=P) w base t ty e i0 z 1 bytes ht hi hz0 hz1 hz2 hzc dC v ys.length (stc ys) hown' ad xs.length c (stc xs) (by rw[zaf,Nat.mul_one])
   (fun j u hj=>by
    have hjl:j<xs.length:=by have:=(List.getElem?_eq_some_iff.1 hj).1;rwa[zaf]at this
    rw[zjd xs j hjl]at hj
    cases hj
    obtain⟨g,off,e1,-,h4⟩:=hc j hjl
    cases e1
    have ha:(⟨g,off,none⟩:Addr).add j=⟨g,off+j,none⟩:=by cases j<;>simp[Addr.add]
    rw[ha,h4])
   (fun u hu=>by simp only[stc,List.mem_map]at hu;obtain⟨_,-,rfl⟩:=hu;rfl)
   (by unfold maxLen;omega) oM hbase
  refine⟨v',w',hr,?_,h3,h5⟩;unfold ROwns;rw[za3,List.length_append,zaf,zaf];exact h2
theorem zdk{P:Program}(w:World){ops:Array Oper}{rest:List Oper}{o:Oper}{a:Act}{Q:Exit->Act->World->Prop}(hgd:o.guard=none)(s x:Operand)(t:TypeId)
  (ho:o.op=.call { callee:=.builtin .append,args:=#[s,x],argTypes:=#[t,t] }) (base:Nat) (e:TypeId) (ht:P.underlying t=some (.slice e)) (z:Value) (bytes:Nat)
  (hi:(P.info? e).map (fun i=>(i.zero,i.size,i.bytes))=some (some z,1,bytes)) (hzc:z.cells.size=1) (hby:bytes<=64) (v u:Value) (ys xs:List ByteArray) (hs:a.eval s=v) (hu:a.eval x=u) (hown:ROwns w base e v (stc ys))
  (hbase:base<=w.1.size) (hx:RSt w u xs) (hl:ys.length+xs.length<=1000000000000)
  (h:∀v' w',ROwns w' base e v' (stc (ys++xs))->w.grownBy w' v.ownBlock->(v'.ownBlock=v.ownBlock\/v'.ownBlock=some w.1.size)->wpList P ops Q rest (a.put o.dst v') w'):wpList P ops Q (o::rest) a w:=by
 refine wpList_plain hgd fun K hK=>?_;obtain⟨v',w',hr,h2,h3,h4⟩:=zev (P:=P) w t o.type base e ht z bytes hi hzc hby v ys xs hown hbase u hx hl;unfold Oper.wp execOp;simp only[ho,resolve,invoke,builtin,Sem.run_bind,Sem.run_pure,Result.andThen_ok,List.map_toArray,List.map_cons,List.map_nil,hs,hu,hr];exact hK _ _ (h v' w' h2 h3 h4)
theorem ROwns.whole{w:World}{base g:Nat}{e:TypeId}{l:List Value}(h:ROwns w base e (.slice (some ⟨g,0,none⟩) l.length l.length) l):w.1[g]?=some (.cells l.toArray e (0,0)):=by
 rcases h.2 with⟨h1,h0⟩| ⟨g',cap,cur,h1,-,h3,-,-,h6,h7⟩
 ·cases h1
 ·simp only[Value.slice.injEq,Option.some.injEq,Addr.mk.injEq]at h1;obtain⟨⟨rfl,-,-⟩,-,rfl⟩:=h1;rw[h3];congr 2
  apply Array.ext';rw[Nat.mul_one,List.take_of_length_le (by rw[Array.length_toList];omega)]at h7;simpa using h7
def okW(xs:List ByteArray)(u:Int)(s:ByteArray):Bool:=okD xs&&(decide (0<=u)&&decide (u<21))&&decide (s.size<=60)
def wrD(xs:List ByteArray)(u:Int)(s:ByteArray):List ByteArray:=if okW xs u s then xs.set u.toNat s else xs
theorem zmi{xs:List ByteArray}{u:Int}{s:ByteArray}(h:okW xs u s=false):wrD xs u s=xs:=by simp[wrD,h]
theorem wrD_yes{xs:List ByteArray}{u:Int}{s:ByteArray}(h:okW xs u s=true):wrD xs u s=xs.set u.toNat s:=by simp[wrD,h]
end Kit
theorem in_any(u:Int)(w:World):Calls Tryz.prog 50 #[.int .i64 u,.int .i64 0,.int .i64 20] w fun e w'=>e=.returned (.bool (decide (0<=u)&&decide (u<21)))/\w=w':=by
 by_cases h:0<=u
 ·have b0:decide (0<=u)=true:=by simpa using h
  by_cases h2:u<21
  ·have b1:decide (u<21)=true:=by simpa using h2
   exact cQ127
  ·have b1:decide (u<21)=false:=by simpa using h2
   exact cQ127
 ·have b0:decide (0<=u)=false:=by simpa using h
  rw[b0,Bool.false_and];go_enter Tryz.func50,Tryz.ntmps50
  go_wp2;go_ret;exact⟨by go_num,rfl⟩
theorem zg1(v:Value)(xs:List ByteArray)(u:Int)(s:ByteArray)(w:World)(hv:RSt w v xs)(hl:xs.length<=1048576)(hs:∀(j:Nat)(h:j<xs.length),xs[j].size<=1048576)(hz:s.size<=1048576):
  Calls Tryz.prog 17 #[.agg #[v],.int .i64 u,.string s] w fun e w'=>∃v',e=.returned (.tuple #[.agg #[v'],.bool (okW xs u s)])/\ROwns w' w.1.size 9 v' (stc (wrD xs u s))/\Below w.1.size w w':=by
 obtain⟨a,c,rfl⟩:=hv.form;obtain⟨r,hr⟩:∃r,okD xs=r:=⟨_,rfl⟩
 have HR:=hide hr;have HL:=hide hl;have C1:=hide (fun(v:Value)(w:World)(hv:RSt w v xs)=>zdj v xs w hv hl hs);rw[hr]at C1
 -- the blocks ahead of the append
 have HV:=hide hv;clear hs hr hv;obtain⟨W,hW⟩:∃W,((w.alloc (.cells #[.slice a xs.length c] 46)).alloc (.cells #[.slice none 0 0] 46)).alloc (.cells #[] 9)=W:=⟨_,rfl⟩
 have z0:W.1.size=w.1.size+1+1+1:=by rw[←hW];simp
 have A1:AtO 46 W w.1.size (.slice a xs.length c):=by rw[←hW];exact((AtO.new 46 w _).alloc _).alloc _
 have A2:AtO 46 W (w.1.size+1) (.slice none 0 0):=by
  rw[←hW];have:=(AtO.new 46 (w.alloc (.cells #[.slice a xs.length c] 46)) (.slice none 0 0)).alloc (.cells #[] 9)
  rwa[World.size_alloc]at this
 have A3:ROwns W (w.1.size+1+1) 9 (.slice (some ⟨w.1.size+1+1,0,none⟩) 0 0) (stc []):=by
  rw[←hW];have:=ROwns.lit0 ((w.alloc (.cells #[.slice a xs.length c] 46)).alloc (.cells #[.slice none 0 0] 46)) (w.1.size+1+1) 9 sI
  rwa[World.size_alloc,World.size_alloc]at this
 have A4:Below w.1.size w W:=by rw[←hW];exact(((Below.refl _ w).alloc nR _).alloc sI _).alloc sO _
 have A5:RSt W (.slice a xs.length c) xs:=by rw[←hW];exact((HV.o.alloc _).alloc _).alloc _
 have c0:=A1.cell;have l0:=A1.lt;have HA:=hide (And.intro A1 (And.intro A2 (And.intro A3 (And.intro A4 A5))));have hz0:=hide z0;clear A1 A2 A3 A4 A5;go_enter Tryz.func17,Tryz.ntmps17
 go_wp2_with (at_builtin;refine zdk W rfl _ _ 44 rfl (w.1.size+1+1) 9 Tryz.u44 (.string ByteArray.empty) 16 Tryz.i9 rfl dC (.slice (some ⟨w.1.size+1+1,0,none⟩) 0 0) (.slice a xs.length c) [] xs (by rfl) (by rfl) HA.o.2.2.1 (by rw[hz0.out];omega) HA.o.2.2.2.2 (by have:=HL.o;simp;omega) ?_;intro v1 w1 R1 R2 R3;clear R3;rw[List.nil_append]at R1;obtain⟨a1,c1,rfl⟩:=R1.rst.form;have X1:=HA.o.1.grown R2 (fun e=>by simp[Value.ownBlock]at e;omega);have c1':=X1.cell;have l1:=X1.lt;have HR1:=hide (And.intro R1 (And.intro R2 X1));clear R1 R2 X1)
 clear c0 l0 hW;obtain⟨X1,X2,X3⟩:AtO 46 w1 w.1.size (.slice a xs.length c)/\AtO 46 w1 (w.1.size+1) (.slice none 0 0)/\Below w.1.size w w1:=by
  have G:=HR1.o.2.1;have b1:Below (w.1.size+1+1) W w1:=⟨G.os,G.tape,G.output,G.size,fun k hk=>G.block k (by rw[hz0.out];omega) (fun e=>by simp[Value.ownBlock]at e;omega)⟩
  exact⟨HR1.o.2.2,HA.o.2.1.below b1 oM,HA.o.2.2.2.1.trans (b1.mono oM)⟩
 have X4:=HV.o.below X3 nR;have hO:=HR1.o.1;have H1:=hide (And.intro X1 (And.intro X2 (And.intro X3 (And.intro X4 hO))));clear X1 X2 X3 X4 hO HR1 HA hz0 z0 c1' l1;refine(C1.out _ _ (H1.o.2.2.2.1.alloc _)).mono ?_;rintro e w2 ⟨rfl,B2⟩;have sz1:=H1.o.2.2.1.size;have Y2:=(H1.o.2.1.alloc (.cells #[.slice a1 xs.length c1] 46)).below B2 (by have:=H1.o.2.1.lt;simp;omega);have Y3:=(H1.o.2.2.1.alloc sz1 (.cells #[.slice a1 xs.length c1] 46)).trans (B2.mono sO);have Y4:=(H1.o.2.2.2.2.alloc (.cells #[.slice a1 xs.length c1] 46)).below B2 nR;have Y5:AtO 46 w2 w1.1.size (.slice a1 xs.length c1):=(AtO.new 46 w1 _).below B2 sI;have l12:w.1.size+1<w1.1.size:=H1.o.2.1.lt;have Y2h:=hide Y2;have Y5h:=hide Y5;have d2:=Y2.cell;have f2:=Y2.frozen;have k2:=Y2.lt;have d5:=Y5.cell;have k5:=Y5.lt;have H2:=hide (And.intro Y3 Y4);have HG:=hide H1.o.2.2.2.2.lt;clear Y2 Y3 Y4 Y5 H1 B2 C1 HV;obtain⟨q,hq⟩:∃q,(decide (0<=u)&&decide (u<21))=q:=⟨_,rfl⟩
 have C2:=hide (in_any u);rw[hq]at C2;have HQ:=hide hq;clear hq
 cases r with
 | false =>
  have e1:Hid (okW xs u s=false):=hide (by unfold okW;rw[HR.o];rfl);go_wp2;refine bodyPost_ret (v:=.tuple #[.agg #[.slice a1 xs.length c1],.bool false]) (by simp[results,go_sem,d2]) rfl ⟨_,by rw[e1.out],?_,?_⟩
  ·exact cQ86
  ·exact H2.o.1.setCell sI _
 | true =>
  cases q with
  | false =>
   have e1:Hid (okW xs u s=false):=hide (by unfold okW;rw[HR.o,HQ.o];rfl);go_wp2_with (go_at_call 50;refine(C2.out _).mono ?_;rintro e w3 ⟨rfl,rfl⟩)
   refine bodyPost_ret (v:=.tuple #[.agg #[.slice a1 xs.length c1],.bool false]) (by simp[results,go_sem,d2]) rfl ⟨_,by rw[e1.out],?_,?_⟩
   ·exact cQ86
   ·exact H2.o.1.setCell sI _
  | true =>
   by_cases h60:s.size<=60
   ·have e1:Hid (okW xs u s=true):=hide (by unfold okW;rw[HR.o,HQ.o];simpa using h60);obtain⟨k,hk,rfl⟩:∃k:Nat,k<21/\u=k:=by have:=HQ.o;simp at this;exact⟨u.toNat,by omega,by omega⟩
    have hx21:xs.length=21:=by have h:=HR.o;unfold okD at h;simp at h;exact h.1
    have hkx:k<xs.length:=by omega
    obtain⟨g,c2,e2,p1,p2,p3,p4,p5⟩:=H2.o.2.at k (by rw[zaf];exact hkx);rw[zjd xs k hkx]at p1;obtain⟨t,ht⟩:∃t,xs[k]=t:=⟨_,rfl⟩
    rw[ht]at p1;simp only[Value.slice.injEq]at e2;obtain⟨rfl,-,rfl⟩:=e2;have hg:=(HG.o g rfl).2;have O2:ROwns w2 (w.1.size+1+1) 9 (.slice (some ⟨g,0,none⟩) (stc xs).length c1) (stc xs):=by rw[zaf];exact H2.o.2
    have O3:=(O2.stored k (.string s)).1;rw[stc_set,zaf]at O3;have Y2:=Y2h.out.set_other (B:=g) (j:=k) oM (.string s);have Y5:=Y5h.out.set_other (B:=g) (j:=k) oM (.string s);have Y3:=H2.o.1.setCell (p:=⟨g,k,none⟩) oG (.string s);have j0:(0:Int)<=(k:Int):=by omega
    have j1:(k:Int)<(xs.length:Int):=by omega
    obtain⟨w3,hw3⟩:∃w3,w2.setCell ⟨g,k,none⟩ (.string s)=w3:=⟨_,rfl⟩
    rw[hw3]at O3 Y2 Y5 Y3;have d2':=Y2.cell;have f2':=Y2.frozen;have k2':=Y2.lt;have d5':=Y5.cell;have k5':=Y5.lt;have H3:=hide (And.intro Y3 O3);clear Y2 Y5 Y3 O3 O2 ht hx21 d2 f2 k2 H2;go_wp2_with (go_at_call 50;refine(C2.out _).mono ?_;rintro e w3 ⟨rfl,rfl⟩)
    refine bodyPost_ret (v:=.tuple #[.agg #[.slice (some ⟨g,0,none⟩) xs.length c1],.bool true]) (by simp[results,go_sem,d2']) rfl ⟨_,by rw[e1.out],?_,?_⟩
    ·rw[wrD_yes e1.out];exact(H3.o.2.setCell_other oM _).base_le oM
    ·exact H3.o.1.setCell sI _
   ·have e1:Hid (okW xs u s=false):=hide (by unfold okW;rw[HR.o,HQ.o];simpa using h60);go_wp2_with (go_at_call 50;refine(C2.out _).mono ?_;rintro e w3 ⟨rfl,rfl⟩)
    refine bodyPost_ret (v:=.tuple #[.agg #[.slice a1 xs.length c1],.bool false]) (by simp[results,go_sem,d2]) rfl ⟨_,by rw[e1.out],?_,?_⟩
    ·exact cQ86
    ·exact H2.o.1.setCell sI _
variable {Z : ZT}
theorem zmj(x:Blk):(blkB x).size<=60:=by
 obtain⟨d,xs,t⟩:=x;show(za7 d xs t).size<=60;unfold za7
 split
 ·rename_i h
  cases d with
  | true =>
   have hs:za4 xs=true:=by unfold zaq at h;rw[if_pos rfl]at h;exact(Bool.and_eq_true _ _ ▸ h).2
   obtain⟨h4,hb⟩:=zcy hs;rw[if_pos rfl,ze3,List.length_cons];have:=zfk xs fun s hx=>by
    obtain⟨i,hi,rfl⟩:=List.mem_iff_getElem.mp hx;exact(hb i hi).2.2
   omega
  | false =>
   have ht:xs.length=0/\t.size<=16:=by unfold zaq at h;rw[if_neg dC]at h;exact of_decide_eq_true h
   rw[if_neg dC,ByteArray.size_append,ze2];omega
 ·decide
theorem zgg(xs ys:List Bool)(is:List Ino)(bs:List Blk)(u:Int):(unitT xs ys is bs u).size<=60:=by
 unfold unitT
 split
 ·unfold unitB
  split
  ·show 3<=60;decide
  ·split
   ·rw[ByteArray.size_append];have h1:=zdb (is.getD (2*u.toNat-2) zI).1 (is.getD (2*u.toNat-2) zI).2.1 (is.getD (2*u.toNat-2) zI).2.2;have h2:=zdb (is.getD (2*u.toNat-1) zI).1 (is.getD (2*u.toNat-1) zI).2.1 (is.getD (2*u.toNat-1) zI).2.2;unfold inoB;omega
   ·exact zmj _
 ·decide
structure DvOk(ts:List ByteArray):Prop where
 n:ts.length=21
 s:∀(j:Nat)(h:j<ts.length),ts[j].size<=60
theorem fsOk_any(u v iv bv dv pv tv:Value)(m:MD)(ts:List ByteArray)(w:World)(h:MR w u v iv bv dv pv m)(hm:Sh Z m)(ht:RSt w tv ts)(hd:DvOk ts):
  Calls Tryz.prog 175 #[.agg #[u,v,iv,bv,dv,pv,.int .i64 m.nx,tv]] w fun e w'=>AnyB e/\Below w.1.size w w':=by
 obtain⟨a1,c1,a2,c2,a3,c3,a4,c4,a5,c5,a6,c6,rfl,rfl,rfl,rfl,rfl,rfl⟩:=h.form;obtain⟨e1,f1,rfl⟩:=ht.form;have HW:Hid (∀W,Below (w.alloc (.cells (M9 m a1 c1 a2 c2 a3 c3 a4 c4 a5 c5 a6 c6 e1 ts.length f1) 119)).1.size (w.alloc (.cells (M9 m a1 c1 a2 c2 a3 c3 a4 c4 a5 c5 a6 c6 e1 ts.length f1) 119)) W->Below w.1.size w W/\AtC W w.1.size 119 (M9 m a1 c1 a2 c2 a3 c3 a4 c4 a5 c5 a6 c6 e1 ts.length f1)):=fun W bb=>⟨((Below.refl _ w).alloc nR _).trans (bb.mono sI),(AtC.new w 119 _).over bb⟩
 have x0:=(AtC.new w 119 (M9 m a1 c1 a2 c2 a3 c3 a4 c4 a5 c5 a6 c6 e1 ts.length f1)).c0;have x1:=(AtC.new w 119 (M9 m a1 c1 a2 c2 a3 c3 a4 c4 a5 c5 a6 c6 e1 ts.length f1)).c1;have x2:=(AtC.new w 119 (M9 m a1 c1 a2 c2 a3 c3 a4 c4 a5 c5 a6 c6 e1 ts.length f1)).c2;have x3:=(AtC.new w 119 (M9 m a1 c1 a2 c2 a3 c3 a4 c4 a5 c5 a6 c6 e1 ts.length f1)).c3;have x4:=(AtC.new w 119 (M9 m a1 c1 a2 c2 a3 c3 a4 c4 a5 c5 a6 c6 e1 ts.length f1)).c4;have x5:=(AtC.new w 119 (M9 m a1 c1 a2 c2 a3 c3 a4 c4 a5 c5 a6 c6 e1 ts.length f1)).c5;have x6:=(AtC.new w 119 (M9 m a1 c1 a2 c2 a3 c3 a4 c4 a5 c5 a6 c6 e1 ts.length f1)).c6;have x7:=(AtC.new w 119 (M9 m a1 c1 a2 c2 a3 c3 a4 c4 a5 c5 a6 c6 e1 ts.length f1)).c7;have CM:Hid (∀W,Below w.1.size w W->Calls Tryz.prog 192 #[.agg (M7 m a1 c1 a2 c2 a3 c3 a4 c4 a5 c5 a6 c6)] W fun e w'=>AnyB e/\Below W.1.size W w'):=fun W bb=>zb4 _ _ _ _ _ _ m W (h.below bb nR) hm;have CD:Hid (∀W,Below w.1.size w W->Calls Tryz.prog 19 #[.agg #[.slice e1 ts.length f1]] W fun e w'=>AnyB e/\Below W.1.size W w'):=fun W bb=>(zdj _ ts W (ht.below bb nR) (by rw[hd.n];decide) (fun j hj=>Nat.le_trans (hd.s j hj) dC)).mono fun e w' ⟨h1,h2⟩=>⟨⟨_,h1⟩,h2⟩
 clear h hm ht hd;go_enter Tryz.func175,Tryz.ntmps175
 go_wp2_with (first| (go_at_call 192;refine(CM.out _ (HW.o _ bR).1).mono ?_;rintro e w2 ⟨⟨r,rfl⟩,B2⟩;have HB2:=hide (HW.o _ B2);have y7:w2.cell? ⟨w.1.size,7,none⟩=some (.slice e1 ts.length f1):=(HW.o _ B2).2.cell 7;clear B2;cases r)| (go_at_call 19;refine(CD.out _ HB2.o.1).mono ?_;rintro e w3 ⟨⟨r,rfl⟩,B3⟩;have HB3:=hide (HB2.o.1.trans (B3.mono HB2.o.1.size));clear B3))
 ·go_ret;exact⟨⟨_,rfl⟩,HB2.o.1⟩
 ·go_ret;exact⟨⟨_,rfl⟩,HB3.o⟩
namespace Kit
theorem zmk{w:World}{b:Nat}{T:TypeId}{x0 x1 x2 x3 x4 x5 x6 x7:Value}(h:AtC w b T #[x0,x1,x2,x3,x4,x5,x6,x7])(v0 v1 v2 v3 v4 v5 v6 v7:Value):
  AtC ((((((((w.setCell ⟨b,0,none⟩ v0).setCell ⟨b,1,none⟩ v1).setCell ⟨b,2,none⟩ v2).setCell ⟨b,3,none⟩ v3).setCell ⟨b,4,none⟩ v4).setCell ⟨b,5,none⟩ v5).setCell ⟨b,6,none⟩ v6).setCell ⟨b,7,none⟩ v7) b T #[v0,v1,v2,v3,v4,v5,v6,v7]:=by
 have h1:AtC (w.setCell ⟨b,0,none⟩ v0) b T #[v0,x1,x2,x3,x4,x5,x6,x7]:=h.set 0 v0;have h2:AtC ((w.setCell ⟨b,0,none⟩ v0).setCell ⟨b,1,none⟩ v1) b T #[v0,v1,x2,x3,x4,x5,x6,x7]:=h1.set 1 v1;have h3:AtC (((w.setCell ⟨b,0,none⟩ v0).setCell ⟨b,1,none⟩ v1).setCell ⟨b,2,none⟩ v2) b T #[v0,v1,v2,x3,x4,x5,x6,x7]:=h2.set 2 v2;have h4:AtC ((((w.setCell ⟨b,0,none⟩ v0).setCell ⟨b,1,none⟩ v1).setCell ⟨b,2,none⟩ v2).setCell ⟨b,3,none⟩ v3) b T #[v0,v1,v2,v3,x4,x5,x6,x7]:=h3.set 3 v3;have h5:AtC (((((w.setCell ⟨b,0,none⟩ v0).setCell ⟨b,1,none⟩ v1).setCell ⟨b,2,none⟩ v2).setCell ⟨b,3,none⟩ v3).setCell ⟨b,4,none⟩ v4) b T #[v0,v1,v2,v3,v4,x5,x6,x7]:=h4.set 4 v4;have h6:AtC ((((((w.setCell ⟨b,0,none⟩ v0).setCell ⟨b,1,none⟩ v1).setCell ⟨b,2,none⟩ v2).setCell ⟨b,3,none⟩ v3).setCell ⟨b,4,none⟩ v4).setCell ⟨b,5,none⟩ v5) b T #[v0,v1,v2,v3,v4,v5,x6,x7]:=h5.set 5 v5;have h7:AtC (((((((w.setCell ⟨b,0,none⟩ v0).setCell ⟨b,1,none⟩ v1).setCell ⟨b,2,none⟩ v2).setCell ⟨b,3,none⟩ v3).setCell ⟨b,4,none⟩ v4).setCell ⟨b,5,none⟩ v5).setCell ⟨b,6,none⟩ v6) b T #[v0,v1,v2,v3,v4,v5,v6,x7]:=h6.set 6 v6;exact h7.set 7 v7
theorem zag(w:World)(b:Nat)(v0 v1 v2 v3 v4 v5 v6 v7:Value)(k:Nat)(hk:k≠b):((((((((w.setCell ⟨b,0,none⟩ v0).setCell ⟨b,1,none⟩ v1).setCell ⟨b,2,none⟩ v2).setCell ⟨b,3,none⟩ v3).setCell ⟨b,4,none⟩ v4).setCell ⟨b,5,none⟩ v5).setCell ⟨b,6,none⟩ v6).setCell ⟨b,7,none⟩ v7).heap[k]?=w.1[k]?:=by
 rw[heap_setCell_other _ ⟨b,7,none⟩ k _ hk,heap_setCell_other _ ⟨b,6,none⟩ k _ hk,heap_setCell_other _ ⟨b,5,none⟩ k _ hk,heap_setCell_other _ ⟨b,4,none⟩ k _ hk,heap_setCell_other _ ⟨b,3,none⟩ k _ hk,heap_setCell_other _ ⟨b,2,none⟩ k _ hk,heap_setCell_other _ ⟨b,1,none⟩ k _ hk,heap_setCell_other _ ⟨b,0,none⟩ k _ hk]
theorem zau{w w':World}{B b:Nat}(h:Below B w w')(hb:B<=b)(v0 v1 v2 v3 v4 v5 v6 v7:Value):Below B w ((((((((w'.setCell ⟨b,0,none⟩ v0).setCell ⟨b,1,none⟩ v1).setCell ⟨b,2,none⟩ v2).setCell ⟨b,3,none⟩ v3).setCell ⟨b,4,none⟩ v4).setCell ⟨b,5,none⟩ v5).setCell ⟨b,6,none⟩ v6).setCell ⟨b,7,none⟩ v7) :=
 (((((((h.setCell hb _).setCell hb _).setCell hb _).setCell hb _).setCell hb _).setCell hb _).setCell hb _).setCell hb _
def MkMem(k:Nat)(m:MD):Mk:=.val [k] (fun lo _ w v=>∃a1 c1 a2 c2 a3 c3 a4 c4 a5 c5 a6 c6,v=.agg (M7 m a1 c1 a2 c2 a3 c3 a4 c4 a5 c5 a6 c6)/\N7 w (fun q=>lo<=q) m a1 c1 a2 c2 a3 c3 a4 c4 a5 c5 a6 c6)
 (fun _ _ _ _ _ h hb=>by obtain⟨a1,c1,a2,c2,a3,c3,a4,c4,a5,c5,a6,c6,h1,h2⟩:=h;exact⟨a1,c1,a2,c2,a3,c3,a4,c4,a5,c5,a6,c6,h1,h2.below hb nR⟩)
def MkTx(ds:List Nat)(ts:List ByteArray)(B:Nat):Mk:=.val ds (fun _ _ w v=>∃a c,v=.slice a ts.length c/\ROwns w B 9 (.slice a ts.length c) (stc ts))
 (fun _ _ _ _ _ h hb=>by obtain⟨a,c,h1,h2⟩:=h;exact⟨a,c,h1,h2.below hb nR⟩)
theorem RSt.rc{w:World}{v:Value}{xs:List ByteArray}(h:RSt w v xs):RC w v xs.length (stc xs):=by
 obtain⟨a,c,rfl,h⟩:=h;refine⟨a,c,rfl,fun j u hj=>?_⟩;have hl:j<xs.length:=by have:=(List.getElem?_eq_some_iff.1 hj).1;rwa[zaf]at this
 obtain⟨g,off,e1,-,e2⟩:=h j hl;refine⟨g,off,e1,e2.trans ?_⟩;rw[zjd xs j hl]at hj;exact hj
end Kit
theorem zfl(u v iv bv dv pv tv:Value)(m:MD)(ts:List ByteArray)(w:World)(h:MR w u v iv bv dv pv m)(hB:BigM 1048576 m)(ht:RSt w tv ts)(hl:ts.length<=1048576):
  Calls Tryz.prog 176 #[.agg #[u,v,iv,bv,dv,pv,.int .i64 m.nx,tv]] w fun e w'=>∃u' v' i' b' d' p' t',e=.returned (.agg #[u',v',i',b',d',p',.int .i64 m.nx,t'])/\MO w' (fun k=>w.1.size<=k) u' v' i' b' d' p' m/\ROwns w' w.1.size 9 t' (stc ts)/\Below w.1.size w w':=by
 obtain⟨a1,c1,a2,c2,a3,c3,a4,c4,a5,c5,a6,c6,rfl,rfl,rfl,rfl,rfl,rfl⟩:=h.form;obtain⟨ta,tc,rfl⟩:=ht.form;have H:=hide h;have HT:=hide ht;have HG:=hide hB;have HL:Hid (ts.length<=100000000000):=Nat.le_trans hl dC;clear h ht hB hl;go_enter Tryz.func176,Tryz.ntmps176
 go_wp2_with fail
 have HC:Hid (∀W,Below ((w.alloc (.cells (M9 m a1 c1 a2 c2 a3 c3 a4 c4 a5 c5 a6 c6 ta ts.length tc) 119)).alloc (.cells #[.slice none 0 0,.slice none 0 0,.slice none 0 0,.slice none 0 0,.slice none 0 0,.slice none 0 0,.int .i64 0,.slice none 0 0] 119)).drew.heap.size ((w.alloc (.cells (M9 m a1 c1 a2 c2 a3 c3 a4 c4 a5 c5 a6 c6 ta ts.length tc) 119)).alloc (.cells #[.slice none 0 0,.slice none 0 0,.slice none 0 0,.slice none 0 0,.slice none 0 0,.slice none 0 0,.int .i64 0,.slice none 0 0] 119)).drew W->AtC W w.1.size 119 (M9 m a1 c1 a2 c2 a3 c3 a4 c4 a5 c5 a6 c6 ta ts.length tc)/\AtC W (w.1.size+1) 119 #[.slice none 0 0,.slice none 0 0,.slice none 0 0,.slice none 0 0,.slice none 0 0,.slice none 0 0,.int .i64 0,.slice none 0 0]/\Below w.1.size w W/\w.1.size+1+1<=W.1.size):=fun W b=>by
  have b2:=zac b;have k1:=(AtC.new (w.alloc (.cells (M9 m a1 c1 a2 c2 a3 c3 a4 c4 a5 c5 a6 c6 ta ts.length tc) 119)) 119 #[.slice none 0 0,.slice none 0 0,.slice none 0 0,.slice none 0 0,.slice none 0 0,.slice none 0 0,.int .i64 0,.slice none 0 0]).over b2;have sz:=b2.size;simp at k1 sz;exact⟨((AtC.new w 119 _).alloc _).over b2,k1,(((Below.refl _ w).alloc nR _).alloc sI _).trans (b2.mono sO),sz⟩
 refine zbb kL [0,1,2,3,4,5,6,7] [8,9,10] (fun i=>match i with|0=>.const [] (.pointer (some ⟨w.1.size,0,none⟩))|1=>.const [0] (.agg (M7 m a1 c1 a2 c2 a3 c3 a4 c4 a5 c5 a6 c6))|2=>MkMem 1 m|3=>MkE 9|4=>.const [] (.pointer (some ⟨w.1.size,7,none⟩))|5=>.const [4] (.pointer (some ⟨w.1.size,7,none⟩))|6=>.const [5] (.slice ta ts.length tc)|7=>MkTx [3,6] ts (w.1.size+1+1)|_=>.triv) (fun x=>⟨#[.agg (M9 m a1 c1 a2 c2 a3 c3 a4 c4 a5 c5 a6 c6 ta ts.length tc),.pointer (some ⟨w.1.size,0,none⟩),.pointer (some ⟨w.1.size+1,0,none⟩),x 0,x 1,x 2,x 3,x 4,x 5,x 6,x 7,undef,undef],[]⟩) (fun i=>match i with|0=>undef|1=>undef|2=>undef|3=>undef|4=>undef|5=>undef|6=>undef|7=>undef|_=>undef) rfl kL kL kL rfl ?_ ?_
 ·intro jo hj so x iw W hd hp K hK;simp only[List.mem_cons,List.not_mem_nil,or_false]at hj;rcases hj with rfl|rfl|rfl|rfl|rfl|rfl|rfl|rfl<;>refine wpOp_step (o:=_) rfl fun K' hK'=>?_<;>have HK:=hide (fun(v:Value) (W':World) h1 h2=>hK' _ _ (hK v W' h1 h2))<;>simp only[upd,Nat.reduceEqDiff,if_true,if_false]at HK
  ·exact cQ10
  ·have e0:x 0=.pointer (some ⟨w.1.size,0,none⟩):=hp.post 0 (hd 0 mz0);have k0:=(HC.o W hp.bel).1;obtain⟨q0,q1,q2,q3,q4,q5,q6⟩:=AtC.sev k0;clear k0;simp only[e0]at HK ⊢;go_simp;exact HK.o _ _ bR rfl
  ·have e1:x 1=.agg (M7 m a1 c1 a2 c2 a3 c3 a4 c4 a5 c5 a6 c6):=hp.post 1 (hd 1 mz0);have bl:=(HC.o W hp.bel).2.2.1;simp only[e1]at HK ⊢;go_simp;refine(zax _ _ _ _ _ _ m W (H.out.below bl nR) HG.o).mono ?_;rintro e w6 ⟨u1,u2,u3,u4,u5,u6,rfl,O6,B6⟩;obtain⟨b1,d1,b2,d2,b3,d3,b4,d4,b5,d5,b6,d6,rfl,rfl,rfl,rfl,rfl,rfl⟩:=O6.mr.form;go_simp;exact HK.o _ _ B6 ⟨b1,d1,b2,d2,b3,d3,b4,d4,b5,d5,b6,d6,rfl,O6⟩
  ·clear hK hK' hp hd;go_simp;exact HK.o _ _ ((Below.refl _ W).alloc nR _) ⟨rfl,by simp,AtC.new W 9 _⟩
  ·exact cQ10
  ·have e4:x 4=.pointer (some ⟨w.1.size,7,none⟩):=hp.post 4 (hd 4 mz0);simp only[e4]at HK ⊢;go_simp;exact HK.o _ _ bR rfl
  ·have e5:x 5=.pointer (some ⟨w.1.size,7,none⟩):=hp.post 5 (hd 5 mz0);have q0:=(HC.o W hp.bel).1.c7;simp only[e5]at HK ⊢;go_simp;exact HK.o _ _ bR rfl
  ·have e3:x 3=.slice (some ⟨(iw 3).1,0,none⟩) 0 0/\(iw 3).2=(iw 3).1+1/\AtC W (iw 3).1 9 #[]:=hp.post 3 (hd 3 mz0);have e6:x 6=.slice ta ts.length tc:=hp.post 6 (hd 6 mz1);have bl:=HC.o W hp.bel;have l0:=(hp.lo 3 (hd 3 mz0)).1;simp[World.drew]at l0;obtain⟨f0,-,A0⟩:=e3;refine zba W rfl (.tmp 6) (.tmp 9) 44 rfl (w.1.size+1+1) 9 Tryz.u44 _ 1 16 Tryz.i9 rfl dC dC (some ⟨(iw 3).1,0,none⟩) (by exact f0) (A0.empty _ oM 1) bl.2.2.2 (.slice ta ts.length tc) (by exact e6) ts.length (stc ts) (HT.o.below bl.2.2.1 nR).rc (by rw[zaf,Nat.mul_one]) (fun u hu=>by simp only[stc,List.mem_map]at hu;obtain⟨_,-,rfl⟩:=hu;rfl) HL.o ?_;intro v' w' R1 R2 R3;have O1:ROwns w' (w.1.size+1+1) 9 v' (stc ts):=by unfold ROwns;rw[zaf];exact R1
   obtain⟨a8,c8,e8⟩:=O1.rst.form;subst e8;exact HK.o _ w' R2 ⟨a8,c8,rfl,O1⟩
 ·intro x iw W hp;obtain⟨b1,d1,b2,d2,b3,d3,b4,d4,b5,d5,b6,d6,e2,O2⟩:=hp.post 2 dC;obtain⟨b7,d7,e7,O7⟩:=hp.post 7 dC;have l2:=hp.lo 2 dC;simp[World.drew]at l2;obtain⟨kA,kR,bel,-⟩:=HC.o W hp.bel;have r0:=kR.c0;have v0:=kR.frozen 0;have r1:=kR.c1;have v1:=kR.frozen 1;have r2:=kR.c2;have v2:=kR.frozen 2;have r3:=kR.c3;have v3:=kR.frozen 3;have r4:=kR.c4;have v4:=kR.frozen 4;have r5:=kR.c5;have v5:=kR.frozen 5;have r6:=kR.c6;have v6:=kR.frozen 6;have r7:=kR.c7;have v7:=kR.frozen 7;have HO:=hide (And.intro O2 (And.intro O7 bel));have HL2:Hid (w.1.size+1+1<=(iw 2).1):=by show _<=_;omega
  clear hp O2 O7 bel kA kR l2 HC;simp only[e2,e7];clear e2 e7;go_wp2;rw[List.filterMap_nil];go_wp2;refine bodyPost_ret (v:=.agg (M9 m b1 d1 b2 d2 b3 d3 b4 d4 b5 d5 b6 d6 b7 ts.length d7)) sR8 rfl ⟨_,_,_,_,_,_,_,rfl,?_,?_,?_⟩
  ·exact(HO.o.1.of_heap fun k hk _=>zag _ _ _ _ _ _ _ _ _ _ k (by have:(iw 2).1<=k:=hk;have:=HL2.o;omega)).mono (fun k hk=>by have:(iw 2).1<=k:=hk;have:=HL2.o;omega)
  ·exact(HO.o.2.1.of_heap fun k hk=>zag _ _ _ _ _ _ _ _ _ _ k (by have:=(HO.o.2.1.lt k hk).1;omega)).base_le oM
  ·exact zau HO.o.2.2 oM _ _ _ _ _ _ _ _
namespace Kit
variable {Z : ZT}
theorem BT.bitX{w:World}{T:Nat->Prop}{b:Nat}(h:BT Z w T b)(j:Nat)(hj:j<16):∃g c r,w.cell? ⟨b,0,none⟩=some (.slice (some ⟨g,0,none⟩) 16 c)/\w.cell? ⟨g,j,none⟩=some (.bool r)/\w.frozen? ⟨g,j,none⟩=false/\T g/\g<w.1.size/\∀x,(x=true\/∀i,Z i ((j:Int)+1))->BT Z (w.setCell ⟨g,j,none⟩ (.bool x)) T b:=by
 obtain⟨S,u,v,iv,bv,dv,pv,m,hP,hS,hb,hm⟩:=h;obtain⟨S1,S2,S3,ts,h1,h2,h3,h4,h5,h6,h7⟩:=hP.own;obtain⟨T1,T2,T3,ti,tb,k1,k2,k3,k4,k5,k6,k7⟩:=h1;have hn:m.1.length=16:=hm.x;obtain⟨g,cap,e1,q1,q2,q3,q4,-⟩:=(k1.a).at j (by rw[zad,hn];exact hj);rw[zad,hn]at e1;have so:S g:=h7 g (.inl (k7 g (.inl (k2 g (.inl (by rw[e1];rfl))))));have hr:=ROwns.stored (l:=fc m.xs) (g:=g) (cap:=cap) (by rw[zad,hn,←e1];exact k1.a) j;refine⟨g,cap,m.xs[j]'oM,?_,q1.trans (by simp[fc,hn,hj]),q2,hS g so,q4,fun x hx=>?_⟩
 ·have:=hP.box.cell 0;rw[←e1];exact this
 ·have q:=(hr (.bool x)).1;have qg:=(hr (.bool x)).2;rw[zad,hn,←zdd,←e1]at q;exact⟨S,u,v,iv,bv,dv,pv,{ m with xs:=m.xs.set j x },⟨hP.box.grown qg (fun e=>hP.nb (by simp only[Option.some.injEq]at e;subst e;exact so)),hP.own.turnX q (by rw[e1];exact qg),hP.nb⟩,hS,hb,⟨by rw[List.length_set];exact hm.x,hm.y,hm.i,hm.ii,hm.b,hm.bb,hm.f,hm.l,hm.dd,hm.nx,hx.elim (fun e=>by rw[e];exact hm.k.mark j m.fs) (fun e=>by cases x;exact hm.k.clear j e;exact hm.k.mark j m.fs)⟩⟩
theorem BT.bitY{w:World}{T:Nat->Prop}{b:Nat}(h:BT Z w T b)(j:Nat)(hj:j<8):∃g c r,w.cell? ⟨b,1,none⟩=some (.slice (some ⟨g,0,none⟩) 8 c)/\w.cell? ⟨g,j,none⟩=some (.bool r)/\w.frozen? ⟨g,j,none⟩=false/\T g/\g<w.1.size/\∀x,BT Z (w.setCell ⟨g,j,none⟩ (.bool x)) T b:=by
 obtain⟨S,u,v,iv,bv,dv,pv,m,hP,hS,hb,hm⟩:=h;obtain⟨S1,S2,S3,ts,h1,h2,h3,h4,h5,h6,h7⟩:=hP.own;obtain⟨T1,T2,T3,ti,tb,k1,k2,k3,k4,k5,k6,k7⟩:=h1;have hn:m.2.length=8:=hm.y;obtain⟨g,cap,e1,q1,q2,q3,q4,-⟩:=(k1.b).at j (by rw[zad,hn];exact hj);rw[zad,hn]at e1;have so:S g:=h7 g (.inl (k7 g (.inl (k2 g (.inr (by rw[e1];rfl))))));have hr:=ROwns.stored (l:=fc m.ys) (g:=g) (cap:=cap) (by rw[zad,hn,←e1];exact k1.b) j;refine⟨g,cap,m.ys[j]'oM,?_,q1.trans (by simp[fc,hn,hj]),q2,hS g so,q4,fun x=>?_⟩
 ·have:=hP.box.cell 1;rw[←e1];exact this
 ·have q:=(hr (.bool x)).1;have qg:=(hr (.bool x)).2;rw[zad,hn,←zdd,←e1]at q;exact⟨S,u,v,iv,bv,dv,pv,{ m with ys:=m.ys.set j x },⟨hP.box.grown qg (fun e=>hP.nb (by simp only[Option.some.injEq]at e;subst e;exact so)),hP.own.turnY q (by rw[e1];exact qg),hP.nb⟩,hS,hb,⟨hm.x,by rw[List.length_set];exact hm.y,hm.i,hm.ii,hm.b,hm.bb,hm.f,hm.l,hm.dd,hm.nx,hm.k.of rfl rfl rfl⟩⟩
theorem BT.bitF{w:World}{T:Nat->Prop}{b:Nat}(h:BT Z w T b)(j:Nat)(hj:j<21):∃g c r,w.cell? ⟨b,4,none⟩=some (.slice (some ⟨g,0,none⟩) 21 c)/\w.cell? ⟨g,j,none⟩=some (.bool r)/\w.frozen? ⟨g,j,none⟩=false/\T g/\g<w.1.size/\∀x,BT Z (w.setCell ⟨g,j,none⟩ (.bool x)) T b:=by
 obtain⟨S,u,v,iv,bv,dv,pv,m,hP,hS,hb,hm⟩:=h;obtain⟨S1,S2,S3,ts,h1,h2,h3,h4,h5,h6,h7⟩:=hP.own;obtain⟨T1,T2,T3,ti,tb,k1,k2,k3,k4,k5,k6,k7⟩:=h1;have hn:m.5.length=21:=hm.f;obtain⟨g,cap,e1,q1,q2,q3,q4,-⟩:=(h2).at j (by rw[zad,hn];exact hj);rw[zad,hn]at e1;have so:S g:=h7 g (.inr (.inl (h3 g (by rw[e1];rfl))));have hr:=ROwns.stored (l:=fc m.fs) (g:=g) (cap:=cap) (by rw[zad,hn,←e1];exact h2) j;refine⟨g,cap,m.fs[j]'oM,?_,q1.trans (by simp[fc,hn,hj]),q2,hS g so,q4,fun x=>?_⟩
 ·have:=hP.box.cell 4;rw[←e1];exact this
 ·have q:=(hr (.bool x)).1;have qg:=(hr (.bool x)).2;rw[zad,hn,←zdd,←e1]at q;exact⟨S,u,v,iv,bv,dv,pv,{ m with fs:=m.fs.set j x },⟨hP.box.grown qg (fun e=>hP.nb (by simp only[Option.some.injEq]at e;subst e;exact so)),hP.own.turnF q (by rw[e1];exact qg),hP.nb⟩,hS,hb,⟨hm.x,hm.y,hm.i,hm.ii,hm.b,hm.bb,by rw[List.length_set];exact hm.f,hm.l,hm.dd,hm.nx,hm.k.of rfl rfl rfl⟩⟩
theorem zh6{w w2:World}{T:Nat->Prop}{b:Nat}{x0 x1 x2 x3 x4 x5 x6 u v iv bv dv pv:Value}{m:MD}(h:AtC w2 b 33 #[x0,x1,x2,x3,x4,x5,x6])(O:MO w2 (fun k=>w.1.size<=k) u v iv bv dv pv m)(hB:Chg T w w2)(hm:Sh Z m)(hb:T b)(hl:b<w.1.size)(hT:∀k,w.1.size<=k->T k):
  BT Z (((((((w2.setCell ⟨b,0,none⟩ u).setCell ⟨b,1,none⟩ v).setCell ⟨b,2,none⟩ iv).setCell ⟨b,3,none⟩ bv).setCell ⟨b,4,none⟩ dv).setCell ⟨b,5,none⟩ pv).setCell ⟨b,6,none⟩ (.int .i64 m.nx)) T b/\Chg T w (((((((w2.setCell ⟨b,0,none⟩ u).setCell ⟨b,1,none⟩ v).setCell ⟨b,2,none⟩ iv).setCell ⟨b,3,none⟩ bv).setCell ⟨b,4,none⟩ dv).setCell ⟨b,5,none⟩ pv).setCell ⟨b,6,none⟩ (.int .i64 m.nx)) :=
 ⟨⟨fun k=>w.1.size<=k,u,v,iv,bv,dv,pv,m,PM.store h O oM,hT,hb,hm⟩,((((((hB.setCell hb _).setCell hb _).setCell hb _).setCell hb _).setCell hb _).setCell hb _).setCell hb _⟩
end Kit
variable {Z : ZT}
theorem zdw(T:Nat->Prop)(b:Nat)(x:Int)(w:World)(h:BT Z w T b):
  Calls Tryz.prog 197 #[.pointer (some ⟨b,0,none⟩),.int .i64 x] w fun e w'=>e=.returned (.tuple #[])/\BT Z w' T b/\Chg T w w':=by
 obtain⟨S,u,v,iv,bv,dv,pv,m,hP,hS,hb,hm⟩:=h;refine(zb1 S b x _ _ _ _ _ _ m w hP).mono ?_;rintro e w' ⟨rfl,P2,C2⟩;exact⟨rfl,⟨S,u,v,iv,bv,dv,pv,_,P2,hS,hb,hm.mark x⟩,C2.mono hS⟩
theorem zml{Y:ZT}(id:Int)(u v iv bv dv pv:Value)(m:MD)(w:World)(h:MR w u v iv bv dv pv m)(hm:Sh Z m)(hk:Kz Y { m with ds:=zbo id m.ds }):
  Calls Tryz.prog 14 #[.agg #[u,v,iv,bv,dv,pv,.int .i64 m.nx],.int .i64 id] w fun e w'=>∃u' v' i' b' d' p' m',e=.returned (.agg #[u',v',i',b',d',p',.int .i64 m'.nx])/\MO w' (fun k=>w.1.size<=k) u' v' i' b' d' p' m'/\Sh Y m'/\Below w.1.size w w':=by
 refine(zdu id u v iv bv dv pv m w h hm.big).mono ?_;rintro e w' ⟨u1,u2,u3,u4,u5,u6,rfl,O,B⟩;exact⟨u1,u2,u3,u4,u5,u6,{ m with ds:=zbo id m.ds },rfl,O,(zd8 hm id).with_k hk,B⟩
theorem zea(id:Int)(u v iv bv dv pv:Value)(m:MD)(w:World)(h:MR w u v iv bv dv pv m)(hm:Sh Z m):
  Calls Tryz.prog 14 #[.agg #[u,v,iv,bv,dv,pv,.int .i64 m.nx],.int .i64 id] w fun e w'=>∃u' v' i' b' d' p' m',e=.returned (.agg #[u',v',i',b',d',p',.int .i64 m'.nx])/\MO w' (fun k=>w.1.size<=k) u' v' i' b' d' p' m'/\Sh Z m'/\Below w.1.size w w':=by
 refine(zdu id u v iv bv dv pv m w h hm.big).mono ?_;rintro e w' ⟨u1,u2,u3,u4,u5,u6,rfl,O,B⟩;exact⟨u1,u2,u3,u4,u5,u6,{ m with ds:=zbo id m.ds },rfl,O,zd8 hm id,B⟩
namespace Kit
def zc0(md:Region.Mode)(ops:Array Oper)(js:List Nat)(exits:List (List Nat)):Bool :=
 (subs js).all fun t=>t==js || exits.contains t || !zd6 md ops t || (!(Region.ready md ops (mask ops.size t)).isEmpty&&(Region.ready md ops (mask ops.size t)).all fun i=>js.contains i&&!t.contains i)
def altOk(md:Region.Mode)(ops:Array Oper)(t:List Nat)(lines:List (List Nat)):Bool :=
 (Region.ready md ops (mask ops.size t)).all (fun j=>lines.any fun l=>match l with| i::r=>i==j&&(ops[i]?).isSome&&zco md ops (i::t) r|[]=>false)&&!(Region.ready md ops (mask ops.size t)).isEmpty
section
variable {P : Program} {ops : Array Oper} {Q : Exit -> Act -> World -> Prop} {md : Region.Mode}
theorem zku(t:List Nat)(lines:List (List Nat))(fuel:Nat)(a:Act)(w:World)(h:altOk md ops t lines=true)(hl:∀l∈lines,l.length<=fuel)(hw:∀l∈lines,wpList P ops Q (l.filterMap fun i=>ops[i]?) a w):wpAny P md ops Q fuel (mask ops.size t) a w:=by
 simp only[altOk,Bool.and_eq_true,List.all_eq_true,List.any_eq_true]at h;obtain⟨h1,h2⟩:=h
 cases fuel with
 | zero =>
  exfalso
  cases hr:Region.ready md ops (mask ops.size t)with
  | nil=>rw[hr]at h2;simp at h2
  | cons j r =>
   obtain⟨l,hl1,hl2⟩:=h1 j (by rw[hr];simp)
   cases l with
   | nil=>simp at hl2
   | cons i r=>have:=hl _ hl1;simp at this
 | succ fuel =>
  refine wpAny_all rfl (by intro e;rw[e]at h2;simp at h2) fun j hj=>?_;obtain⟨l,hl1,hl2⟩:=h1 j hj
  cases l with
  | nil=>simp at hl2
  | cons i r =>
   simp only[Bool.and_eq_true,beq_iff_eq]at hl2;obtain⟨⟨rfl,h3⟩,h4⟩:=hl2;obtain⟨o,ho⟩:=Option.isSome_iff_exists.1 h3;rw[zew];have hw':wpList P ops Q (o::r.filterMap fun i=>ops[i]?) a w:=by simpa[ho]using hw _ hl1
   refine wpOp_mono (fun a w hq=>zcf r (i::t) fuel a w h4 (by have:=hl _ hl1;simpa using this) hq) ?_;unfold wpOp;rw[ho];exact hw'
theorem zdx(js:List Nat)(exits:List (List Nat))(fuel:Nat)(act:(Nat->Value)->Act)(Inv:List Nat->(Nat->Value)->World->Prop)(ok:zc0 md ops js exits=true)
  (prod:∀j∈js,∀s x W,j∈Region.ready md ops (mask ops.size s)->¬j∈s->Inv s x W->∀K:Act->World->Prop,(∀v W',Inv (j::s) (upd x j v) W'->K (act (upd x j v)) W')->wpOp P ops Q j K (act x) W)
  (rest:∀s x W f,fuel<=f->(∀i∈js,i∈s)->Inv s x W->wpAny P md ops Q f (mask ops.size js) (act x) W)
  (out:∀t∈exits,∀s x W f,fuel+(js.filter fun i=>!t.contains i).length<=f->(∀i,i∈s↔i∈t)->Inv s x W->wpAny P md ops Q f (mask ops.size t) (act x) W) :
  ∀(m f:Nat)(s:List Nat)(x:Nat->Value)(W:World),(js.filter fun i=>!s.contains i).length<=m->fuel<=f->(∀i∈s,i∈js)->(∀i∈s,∀o,ops[i]?=some o->∀e∈o.after,Region.binds md e=true->e.on∈s)->Inv s x W->wpAny P md ops Q (f+m) (mask ops.size s) (act x) W:=by
 intro m
 induction m with
 | zero =>
  intro f s x W hc hf hs hcl hv;have hall:∀i∈js,i∈s:=fun i hi=>by
   exact cQ69
  rw[zbx ops.size s js fun i=>⟨hs i,hall i⟩];exact rest s x W (f+0) oM hall hv
 | succ m ih =>
  intro f s x W hc hf hs hcl hv;by_cases hall:∀i∈js,i∈s
  ·rw[zbx ops.size s js fun i=>⟨hs i,hall i⟩];exact rest s x W _ oM hall hv
  ·have hst:∀i,i∈s↔i∈js.filter fun i=>s.contains i:=fun i=>⟨fun h=>List.mem_filter.2 ⟨hs i h,by simpa using h⟩,fun h=>by simpa using(List.mem_filter.1 h).2⟩
   have hmask:mask ops.size s=mask ops.size (js.filter fun i=>s.contains i):=zbx _ _ _ hst;by_cases hex:(js.filter fun i=>s.contains i)∈exits
   ·rw[hmask];refine out _ hex s x W _ ?_ hst hv;have e:(js.filter fun i=>!(js.filter fun i=>s.contains i).contains i)=js.filter fun i=>!s.contains i:=by
     apply List.filter_congr;intro i hi;by_cases e2:i∈s<;>simp[hi,e2]
    rw[e];omega
   have hk:=List.all_eq_true.1 ok _ (ze4 (fun i=>s.contains i) js);have hne:((js.filter fun i=>s.contains i)==js)=false:=by
    exact cQ91
   have hexf:exits.contains (js.filter fun i=>s.contains i)=false:=by
    apply Bool.eq_false_iff.2;intro e;exact hex (by simpa using e)
   have hclo:zd6 md ops (js.filter fun i=>s.contains i)=true:=by
    exact cQ48
   rw[hne,hexf,hclo,Bool.false_or,Bool.false_or,Bool.not_true,Bool.false_or,Bool.and_eq_true]at hk;obtain⟨h1,h2⟩:=hk;rw[←hmask]at h1 h2;refine wpAny_all rfl (by intro e;rw[e]at h1;simp at h1) fun j hj=>?_;have hj2:=List.all_eq_true.1 h2 j hj;simp only[Bool.and_eq_true,List.contains_iff_mem,Bool.not_eq_true']at hj2;have hjs:j∈js:=by simpa using hj2.1
   have hjn:¬j∈s:=fun h=>by
    exact cQ104
   rw[zew];refine prod j hjs s x W hj hjn hv _ fun v W' hv'=>ih f (j::s) _ W' ?_ hf (fun i hi=>(List.mem_cons.1 hi).elim (fun e=>e ▸ hjs) (hs i)) (fun i hi o ho e he hbi=>List.mem_cons_of_mem _ ((List.mem_cons.1 hi).elim (fun q=>by subst q;exact zb0 hj ho ⟨e,he,rfl,hbi⟩) (fun q=>hcl i q o ho e he hbi))) hv';have hlt:(js.filter fun i=>!(j::s).contains i).length<(js.filter fun i=>!s.contains i).length:=by
    exact cQ46
   omega
def altsOk(md:Region.Mode)(ops:Array Oper)(js line:List Nat)(alts:List (List Nat×List (List Nat))):Bool :=
 alts.all fun q=>altOk md ops q.1 q.2&&q.2.all fun l=>decide (l.length<=line.length+(js.filter fun i=>!q.1.contains i).length)
theorem zbd{id:Nat}{w:World}{a0:Act}(hm:P.follows .mixedOrders=true)(js line:List Nat)(alts:List (List Nat×List (List Nat)))(L:Nat->Mk)(act:(Nat->Value)->Act)(x0:Nat->Value)(ha:a0=act x0)
  (ok:zc0 .any ops js (alts.map (·.1))=true) (okl:zco .any ops js line=true) (oka:altsOk .any ops js line alts=true) (okd:zei ops js (fun i=>(L i).deps)=true) (hsz:line.length+js.length=ops.size)
  (prod:∀j∈js,∀s x iv W,(∀k∈(L j).deps,k∈s)->PX w.drew s (fun i lo hi w x=>(L i).P lo hi w (x i) x) x iv W->∀K:Act->World->Prop,(∀v W',Below W.1.size W W'->(L j).P W.1.size W'.1.size W' v (upd x j v)->K (act (upd x j v)) W')->wpOp P ops Q j K (act x) W)
  (rest:∀x iv W,PX w.drew js (fun i lo hi w x=>(L i).P lo hi w (x i) x) x iv W->wpList P ops Q (line.filterMap fun i=>ops[i]?) (act x) W)
  (out:∀q∈alts,∀l∈q.2,∀x iv W,PX w.drew q.1 (fun i lo hi w x=>(L i).P lo hi w (x i) x) x iv W->wpList P ops Q (l.filterMap fun i=>ops[i]?) (act x) W):(Code.region id ops true).wp P Q a0 w:=by
 have dep:∀j∈js,∀s,j∈Region.ready .any ops (mask ops.size s)->∀k∈(L j).deps,k∈s:=by
  intro j hj s hr k hk;have h:=List.all_eq_true.1 okd j hj
  exact cQ31
 subst ha;refine wp_region_any hm ?_;have h:=zdx (P:=P) (Q:=Q) (md:=.any) js (alts.map (·.1)) line.length act (fun s x W=>(∀i∈s,∀k∈(L i).deps,k∈s)/\∃iv,PX w.drew s (fun i lo hi w x=>(L i).P lo hi w (x i) x) x iv W) ok ?_ ?_ ?_ js.length line.length [] x0 w.drew (List.length_filter_le _ _) nR (fun i hi=>by cases hi) (fun i hi=>by cases hi) ⟨(fun i hi=>by cases hi),fun _=>(0,0),⟨Below.refl _ _,(fun i hi=>by cases hi),(fun i hi=>by cases hi),(fun i hi=>by cases hi)⟩⟩
 ·rw[hsz,zgq]at h;exact h
 ·intro j hj s x W hr hns hI K hK;obtain⟨hcl,iv2,hp⟩:=hI;have hd:=dep j hj s hr;refine prod j hj s x iv2 W hd hp K fun v W' hb hpo=>hK v W' ⟨fun i hi k hk=>?_,_,hp.add (fun i=>(L i).deps) (fun i lo hi w w' x h hb=>(L i).st lo hi w w' (x i) x h hb) (fun i lo hi w x x' e1 e2 h=>by rw[←e1];exact(L i).cg lo hi w (x i) x x' e2 h) hcl hns hb (by rw[za0];exact hpo)⟩;rcases List.mem_cons.1 hi with rfl|hi
  ·exact List.mem_cons_of_mem _ (hd k hk)
  ·exact List.mem_cons_of_mem _ (hcl i hi k hk)
 ·intro s x W f hf hs hI;obtain⟨-,iv2,hp⟩:=hI;exact zcf line js f (act x) W okl hf (rest x iv2 W (hp.of_mem hs))
 ·intro t ht s x W f hf hst hI;obtain⟨-,iv2,hp⟩:=hI;obtain⟨q,hq,rfl⟩:=List.mem_map.1 ht;have h1:=List.all_eq_true.1 oka q hq;simp only[Bool.and_eq_true,List.all_eq_true,decide_eq_true_eq]at h1;exact zku q.1 q.2 f (act x) W h1.1 (fun l hl=>Nat.le_trans (h1.2 l hl) hf) fun l hl=>out q hq l hl x iv2 W (hp.of_mem fun i hi=>(hst i).2 hi)
end
end Kit
namespace Kit
variable {Z : ZT}
def BX5(Z:ZT)(B:Nat)(w:World)(T:Nat->Prop)(b bx:Nat)(kd lx:Int)(pp:Value)(ps:List Int)(j:Nat):Prop:=∃(S:Nat->Prop)(u v iv bv dv pv:Value)(m:MD),PM w S b u v iv bv dv pv m/\Sh Z m/\(∀k,S k->T k/\k≠bx)/\AtC w bx 59 #[.int .i64 kd,.int .i64 lx,pp]/\ROwns w B 3 pp (ic ps)/\∃h:j<m.3.length,m.is[j].2.2=ps
theorem cnt00(p:Int)(h:1<=p):([0,0]:List Int).count p=0:=by
 simp[List.count_cons];omega
end Kit
variable {Z : ZT}
theorem zg2(T:Nat->Prop)(b:Nat)(x:Int)(w:World)(h:BT Z w T b)(hT:∀k,w.1.size<=k->T k)(hx1:1<=x)(hx8:x<=8):
  Calls Tryz.prog 214 #[.pointer (some ⟨b,0,none⟩),.int .i64 x] w fun e w'=>e=.returned (.tuple #[])/\BT Z w' T b/\Chg T w w':=by
 have HBX:=hide h;obtain⟨S0,du,dy,iv,bv,dv,pv,m,hP0,hSL0,hLb,hS⟩:=h;have hP:=hP0.bound;have hSL:∀k,(S0 k/\k<w.1.size)->T k:=fun k hk=>hSL0 k hk.1;have hSs:∀k,(S0 k/\k<w.1.size)->k<w.1.size:=fun k hk=>hk.2;obtain⟨S,hSd⟩:∃S:Nat->Prop,S=fun k=>S0 k/\k<w.1.size:=⟨_,rfl⟩
 rw[←hSd]at hP
 replace hSL:∀k,S k->T k:=fun k hk=>hSL k (by rw[hSd]at hk;exact hk)
 replace hSs:∀k,S k->k<w.1.size:=fun k hk=>hSs k (by rw[hSd]at hk;exact hk)
 clear hSd hP0 hSL0;obtain⟨j,rfl⟩:∃j:Nat,x=(j:Int)+1:=⟨(x-1).toNat,by omega⟩
 have hj:j<m.3.length:=by rw[hS.i];omega
 obtain⟨gi,ci,p,e1,i0,i1,i2,rp,hzi,hgi,gS⟩:=hP.inoAt j hj;subst e1;obtain⟨a1,c1,a2,c2,a3,c3,a4,c4,a5,c5,a6,c6,rfl,rfl,e3,rfl,rfl,rfl⟩:=hP.form;clear e3 a3 c3;have hix:=hS.ii _ (List.getElem_mem hj);obtain⟨⟨kd,ln,ps⟩,hX⟩:∃X,m.is[j]=X:=⟨_,rfl⟩
 rw[hX]at i0 i1 rp hix;simp only at i0 i1 rp;have HPX:Hid (m.is[j].2.2=ps):=by show _=_;rw[hX]
 have HPN:Hid (ps.length=2):=hix.n;have hpl:ps.length<=2:=Nat.le_of_eq hix.n;have hln0:0<=ln:=hix.l.1;have hln2:ln<=200:=hix.l.2;have HKZ:Hid (∀l,0<=l->l<=ln->l<=200/\(kd=1\/kd=2\/(kd=0/\l=0/\∀p∈ps,p=0))):=fun l h1 h2=>⟨by omega,hix.z.elim .inl fun z=>z.elim (fun z=>.inr (.inl z)) fun z=>.inr (.inr ⟨z.1,by have e1:ln=0:=z.2.1;omega,z.2.2⟩)⟩
 obtain⟨pa,pc,rfl,hpc⟩:=rp;have HRP:Hid (RInts w (.slice pa ps.length pc) ps):=⟨pa,pc,rfl,hpc⟩
 have HPS:Hid (∀p∈ps,(0:Int)<=p/\p<=16):=hix.p;have HP:=hide hP;have HS:=hide hS;have HSL:=hide hSL;have HSs:=hide hSs;have HLB:Hid (T b/\b<w.1.size):=⟨hLb,hP.box.lt⟩
 have HTT:=hide hT;clear hT;have HGS:=hide gS;obtain⟨x0,x1,x2,x3,x4,x5,x6⟩:=AtC.sev hP.box;have hil:j<8:=by rw[hS.i]at hj;exact hj
 have his:m.3.length=8:=hS.i;have HIS:=hide his;clear his;have HDL:Hid (m.6.length<=40):=hS.l;clear hP hS hSL hSs hLb gS hpc hix hX;by_cases hf:40<=m.6.length
 ·have hf1:(40:Int)<=(m.6.length:Int):=by omega
  go_enter Tryz.func214,Tryz.ntmps214
  go_wp2;exact bodyPost_ret (results_none rfl _ _ _) rfl ⟨rfl,HBX.o,Chg.refl _ _⟩
 have hf1:¬((40:Int)<=(m.6.length:Int)):=by omega
 cases hnx:inB m.nx 1 99999 with
 | false =>
  have HX:=hide hnx;clear hnx;go_enter Tryz.func214,Tryz.ntmps214
  go_wp2_with fail
  refine(zai m.nx 1 99999 _).mono ?_;rintro e w3 ⟨rfl,hw3⟩;rw[hw3,HX.o];clear hw3 w3;go_wp2;exact bodyPost_ret (results_none rfl _ _ _) rfl ⟨rfl,HBX.o,Chg.refl _ _⟩
 | true =>
  have HX:=hide hnx;have HNX:=hide (zas hnx);clear hnx;have j0:(0:Int)<=(j:Int):=by omega
  have j1:(j:Int)<(m.3.length:Int):=by omega
  have j8:(j:Int)<8:=by omega
  have hwj:IntKind.i64.wrap (j:Int)=(j:Int):=by
   have hjj:j=0\/j=1\/j=2\/j=3\/j=4\/j=5\/j=6\/j=7:=by omega
   rcases hjj with e|e|e|e|e|e|e|e<;>rw[e]<;>decide
  go_enter Tryz.func214,Tryz.ntmps214
  go_wp2_with fail
  refine(zai m.nx 1 99999 _).mono ?_;rintro e w3 ⟨rfl,hw3⟩;rw[hw3,HX.o];clear hw3 w3;go_wp2_with fail
  refine(ze5 kd ln _ ps w HRP.o oM).mono ?_;rintro e w1 ⟨uu,rfl,O1,B1⟩;obtain⟨s1,t1,rfl⟩:=O1.rints.form;have P1:P7 (w1.alloc (.cells #[.int .i64 kd,.int .i64 ln,.slice s1 ps.length t1] 59)) S b m a1 c1 a2 c2 (some ⟨gi,0,none⟩) ci a4 c4 a5 c5 a6 c6:=(HP.o.below B1).alloc _;have hb1:Below w.1.size w (w1.alloc (.cells #[.int .i64 kd,.int .i64 ln,.slice s1 ps.length t1] 59)):=B1.alloc B1.size _;have X1:AtC (w1.alloc (.cells #[.int .i64 kd,.int .i64 ln,.slice s1 ps.length t1] 59)) w1.1.size 59 #[.int .i64 kd,.int .i64 ln,.slice s1 ps.length t1]:=AtC.new w1 59 _;have O2:ROwns (w1.alloc (.cells #[.int .i64 kd,.int .i64 ln,.slice s1 ps.length t1] 59)) w.1.size 3 (.slice s1 ps.length t1) (ic ps):=O1.alloc _;have HO1:Hid (∀k,(Value.slice s1 ps.length t1).ownBlock=some k->w.1.size<=k/\k<w1.1.size):=fun k hk=>O1.lt k hk;have hs1:w.1.size<=w1.1.size:=B1.size;have H1:=hide (And.intro P1 (And.intro hb1 (And.intro X1 O2)));clear P1 hb1 X1 O2 O1 B1;obtain⟨U,hU⟩:∃U,uoI ((j:Int)+1)=U:=⟨_,rfl⟩
  have CU:Hid (∀W,Calls Tryz.prog 198 #[.int .i64 ((j:Int)+1)] W fun e w'=>e=.returned (.int .i64 U)/\w'=W):=fun W=>by rw[←hU];exact zbr _ W
  clear hU;go_wp2_with fail
  refine(CU.out _).mono ?_;rintro e w3 ⟨rfl,rfl⟩;go_wp2_with fail
  refine(zb1 S b U _ _ _ _ _ _ m _ H1.o.1).mono ?_;rintro e w2 ⟨rfl,P2,C2⟩;have hbx:¬S w1.1.size:=fun e=>by have:=HSs.o _ e;omega
  have X2:AtC w2 w1.1.size 59 #[.int .i64 kd,.int .i64 ln,.slice s1 ps.length t1]:=(C2.block _ H1.o.2.2.1.lt hbx).trans H1.o.2.2.1;have O2:ROwns w2 w.1.size 3 (.slice s1 ps.length t1) (ic ps):=H1.o.2.2.2.of_heap fun k hk=>C2.block k (by have:=(HO1.o k hk).2;simp;omega) (fun e=>by have:=HSs.o _ e;have:=(HO1.o k hk).1;omega);have B2:Chg T w w2:=(Chg.of_below H1.o.2.1).trans (C2.mono HSL.o);have z2:w1.1.size+1<=w2.1.size:=by have:=C2.size;simp at this;exact this
  generalize hbxn:w1.1.size=bx at*;obtain⟨M2,hM2⟩:∃M2,markU U m=M2:=⟨_,rfl⟩
  have HM2:Hid (Sh Z M2/\M2.is=m.is/\M2.ds=m.ds/\M2.nx=m.nx):=by
   rw[←hM2];exact⟨HS.o.mark U,by unfold markU;split<;>rfl,by unfold markU;split<;>rfl,markU_nx U m⟩
  rw[hM2]at P2;have H2:=hide (And.intro P2 (And.intro X2 (And.intro O2 B2)));have g0:=X2.c0;have g1:=X2.c1;have g2:=X2.c2;have v1:=X2.frozen 1;clear P2 C2 X2 O2 B2 hM2 CU H1 x0 x1 x2 x3 x4 x5 x6 i0 i1 i2 hzi;go_upto_if 42 with fail
  go_cut []from 12 to 46 (fun wx=>∃lx:Int,0<=lx/\lx<=ln/\PM wx S b (.slice a1 m.1.length c1) (.slice a2 m.2.length c2) (.slice (some ⟨gi,0,none⟩) m.3.length ci) (.slice a4 m.4.length c4) (.slice a5 m.5.length c5) (.slice a6 m.6.length c6) M2/\AtC wx bx 59 #[.int .i64 kd,.int .i64 lx,.slice s1 ps.length t1]/\ROwns wx w.1.size 3 (.slice s1 ps.length t1) (ic ps)/\Chg T w wx/\w2.1.size<=wx.1.size)
  case first =>
   by_cases hln:0<ln
   ·obtain⟨lx,hlx⟩:∃lx,ln-1=lx:=⟨_,rfl⟩
    have H3:Hid (PM (w2.setCell ⟨bx,1,none⟩ (.int .i64 lx)) S b (.slice a1 m.1.length c1) (.slice a2 m.2.length c2) (.slice (some ⟨gi,0,none⟩) m.3.length ci) (.slice a4 m.4.length c4) (.slice a5 m.5.length c5) (.slice a6 m.6.length c6) M2/\AtC (w2.setCell ⟨bx,1,none⟩ (.int .i64 lx)) bx 59 #[.int .i64 kd,.int .i64 lx,.slice s1 ps.length t1]/\ROwns (w2.setCell ⟨bx,1,none⟩ (.int .i64 lx)) w.1.size 3 (.slice s1 ps.length t1) (ic ps)/\Chg T w (w2.setCell ⟨bx,1,none⟩ (.int .i64 lx))/\w2.1.size<=(w2.setCell ⟨bx,1,none⟩ (.int .i64 lx)).1.size):=by
     obtain⟨k1,k2,k3,k4⟩:=H2.o;have hne:∀k,S k->k≠bx:=fun k hk e=>by have:=HSs.o k hk;omega
     have hlb:=HLB.o;exact⟨⟨k1.box.other oM _,k1.own.of_heap fun k hk _=>heap_setCell_other _ ⟨bx,1,none⟩ k _ (hne k hk),k1.nb⟩,k2.set 1 _,k3.of_heap fun k hk=>heap_setCell_other _ ⟨bx,1,none⟩ k _ (by have:=(HO1.o k hk).2;show k≠bx;omega),k4.setCell (HTT.o bx oM) _,by simp⟩
    have HLX:=hide hlx;go_wp2_with fail
    go_meet
    case rel=>exact⟨lx,by have:=HLX.o;omega,by have:=HLX.o;omega,H3.o⟩
   ·go_wp2_with fail
    go_meet
    case rel=>exact⟨ln,hln0,Int.le_refl _,H2.o.1,H2.o.2.1,H2.o.2.2.1,H2.o.2.2.2,Nat.le_refl _⟩
  case rest =>
   obtain⟨lx,hl0,hl2,hcut⟩:=hcut;have H3:=hide hcut;clear hcut H2 g0 g1 g2 v1 hln0 hln2;go_upto_region 5 with fail
   go_cut []from 47 to 55 (fun wx=>BX5 Z w.1.size wx T b bx kd lx (.slice s1 ps.length t1) ps j/\Chg T w wx/\w.1.size<=bx)
   case first =>
    have q2:=H3.o.1.box.c2;have q4:=H3.o.2.1.c0;have q5:=H3.o.2.1.c1;have q6:=H3.o.2.1.c2;obtain⟨r0,r1,r2,hfz⟩:∃r0 r1 r2,wc.cell? ⟨gi,j*3,none⟩=some r0/\wc.cell? ⟨gi,j*3+1,none⟩=some r1/\wc.cell? ⟨gi,j*3+2,none⟩=some r2/\(∀k,wc.frozen? ⟨gi,k,none⟩=false):=by
     obtain⟨g,c,p,e,k0,k1,k2,-,k4,-⟩:=H3.o.1.inoAt j (by have:=HM2.o.2.1;rw[this];exact hj);simp only[Value.slice.injEq,Option.some.injEq,Addr.mk.injEq]at e;obtain⟨⟨rfl,-⟩,-⟩:=e;exact⟨_,_,_,k0,k1,k2,k4⟩
    obtain⟨f0,f1,f2,hfz⟩:=hfz;have z0:=hfz (j*3);have z1:=hfz (j*3+1);have z2:=hfz (j*3+2);have hj3:j*3+2<24:=by omega
    clear hfz;obtain⟨P3,X3,O3,B3,z3⟩:=H3.o;have hpi:=P3.putI rfl j (by have:=HM2.o.2.1;rw[this];exact hj) (.int .i64 kd,.int .i64 lx,.slice s1 ps.length t1) (kd,lx,ps) ⟨rfl,rfl,O3.base_le (Nat.zero_le _)⟩ (fun k hk=>⟨fun e=>by have:=HSs.o k e;have:=(HO1.o k hk).1;omega,by have:=(HO1.o k hk).1;have:=HLB.o;omega⟩);have hbg:bx≠gi:=by omega
    have HQ2:Hid (∀h:j<M2.is.length,M2.is[j].2.2=ps):=by have e2:=HM2.o.2.1;intro h;simp only[e2];exact HPX.o
    have HQ3:Hid (∃h:j<(M2.is.set j (kd,lx,ps)).length,(M2.is.set j (kd,lx,ps))[j].2.2=ps):=by have e2:=HM2.o.2.1;exact⟨by rw[List.length_set,e2];exact hj,by rw[List.getElem_set_self]⟩
    have HF:Hid (BX5 Z w.1.size (set3 wc gi j (.int .i64 kd,.int .i64 lx,.slice s1 ps.length t1)).drew T b bx kd lx (.slice s1 ps.length t1) ps j/\Chg T w (set3 wc gi j (.int .i64 kd,.int .i64 lx,.slice s1 ps.length t1)).drew/\w.1.size<=bx):=by
     have hgL:=HSL.o gi HGS.o;refine⟨⟨_,_,_,_,_,_,_,_,hpi.1.drew,HM2.o.1.inode j ⟨⟨hl0,(HKZ.o _ hl0 hl2).1⟩,HPN.o,HPS.o,(HKZ.o _ hl0 hl2).2⟩ (fun _ p _=>by rw[HQ2.o];exact Nat.le_refl _),fun k hk=>?_,?_,?_,HQ3.o⟩,?_,hs1⟩
     ·rcases hk with hk|hk
      ·exact⟨HSL.o k hk,fun e=>by have:=HSs.o k hk;omega⟩
      ·have:=HO1.o k hk;exact⟨HTT.o k oM,by omega⟩
     ·exact(((X3.other oM _).other oM _).other oM _).over (zac bR)
     ·exact(O3.of_heap fun k hk=>zbc _ _ _ _ k (by have:=(HO1.o k hk).1;omega)).drew
     ·exact((((B3.setCell hgL _).setCell hgL _).setCell hgL _)).trans (Chg.of_below (zac bR))
    clear P3 X3 O3 B3 z3 hpi
    go_big_region
    go_wp2_with fail
    go_meet
    case rel=>exact HF.o
   case rest =>
    obtain⟨⟨S5,u,v,iv,bv,dv,pv,M5,P5,hS5,hk5,X5,R5,Q5⟩,B5,hbx5⟩:=hcut;clear HPX H3 HM2 HP HS HSL HSs HGS HO1 HRP HX HNX HIS HDL hf1 hf hil hj j1 hgi hs1 z2 hbx;obtain⟨a1,c1,a2,c2,a3,c3,a4,c4,a5,c5,a6,c6,rfl,rfl,rfl,rfl,rfl,rfl⟩:=P5.form;obtain⟨ts,hln,hro,hnt,hkeep⟩:=P5.bound.keepD;have g0:=X5.c0;have g1:=X5.c1;have g2:=X5.c2;have x5:=P5.box.c5;have HP5:=hide P5;have HS5:=hide hS5;have HK5:=hide hk5;have HX5:=hide X5;have HQ5:=hide Q5;clear Q5;have HR5:=hide R5;have HB5:=hide B5;have HRO:=hide hro;have HNT:=hide hnt;have HKP:=hide hkeep;have hl5:M5.ds.length<=40:=hS5.l;have HEND:Hid (BT Z wc T b/\Chg T w wc):=⟨⟨S5,_,_,_,_,_,_,M5,P5,fun k hk=>(hk5 k hk).1,HLB.o.1,hS5⟩,B5⟩
    clear P5 hS5 hk5 X5 R5 B5 hro hnt hkeep;by_cases hlp:0<lx
    ·go_wp2;exact bodyPost_ret (results_none rfl _ _ _) rfl ⟨rfl,HEND.o⟩
    by_cases hkz:kd=0
    ·subst hkz;go_wp2;exact bodyPost_ret (results_none rfl _ _ _) rfl ⟨rfl,HEND.o⟩
    go_wp2_with fail
    have HF:Hid (∃f:Dp->Bool,∀d,f d=((!(d.kd==1)&&!(d.kd==6))|| !(d.io==(j:Int)+1))):=⟨_,fun _=>rfl⟩
    obtain⟨f,hf⟩:=HF.o;have HFF:=hide hf;clear HF hf HEND;go_loopw [6,5] (fun i lv wr=>∃q:Nat,q<=M5.ds.length/\i=.int .i64 q/\Hid (NOwns wr 42 11 lv (rowsP f (ts.take q) (M5.ds.take q))/\(∀k,lv.ownBlock=some k->wc.1.size<=k)/\Below wc.1.size wc wr)) (fun i lv _=>M5.ds.length-(intOf i).toNat)
    case atStart =>
     refine⟨0,Nat.zero_le _,rfl,?_,?_,bR.alloc nR _⟩
     ·have:=NOwns.of_at (n:=11) (ts:=[]) (AtC.new wc 42 #[]) rfl (Even.nil _) (Nat.zero_le _);simpa[rowsP]using this
     ·intro k hk;simp[Value.ownBlock]at hk;omega
    case round =>
     obtain⟨q,hq,rfl,HR⟩:=hrel;obtain⟨hn,hlo,hbl⟩:=HR.o;have xb5:=(HP5.o.box.over hbl).c5;by_cases hlt:q<M5.ds.length
     ·obtain⟨g,cap,ei,hcell,-,hg,-⟩:=HNT.o.at q oM;rw[hln]at ei;simp only[Value.slice.injEq,true_and]at ei;obtain⟨rfl,rfl⟩:=ei;obtain⟨p,hrow,hpo⟩:=HRO.o q oM hlt;have hst:=zkf f ts M5.ds hln q oM hlt;rw[hrow]at hst;have nn:DCells wr g (q*11) M5.ds[q] p:=DCells.of fun i hi=>by rw[←hrow];exact(hbl.cell (p:=⟨g,q*11+i,none⟩) (by exact hg)).trans (hcell i hi)
      have hff:=HFF.o M5.ds[q];obtain⟨X,hX⟩:∃X,M5.ds[q]=X:=⟨_,rfl⟩
      rw[hX]at nn hpo hst hff;obtain⟨id2,kk,io,pt,bk,sl,nm,bt,ot,af,bl⟩:=X;obtain⟨pa,pc,rfl⟩:=hpo.rints.form;simp only[DCells]at nn;simp only at hff;obtain⟨n0,n1,n2,n3,n4,n5,n6,n7,n8,n9,n10⟩:=nn;have HRR:=hide (And.intro hn (And.intro hlo hbl));have HST:=hide hst;have HXF:=hide hff;have q0:(0:Int)<=(q:Int):=by omega
      have q1:(q:Int)<(M5.ds.length:Int):=by omega
      clear hn hlo hbl hcell hg hrow hpo hX hst HR hff;by_cases hk1:kk=1
      ·subst hk1;by_cases hio:io=(j:Int)+1
       ·subst hio;have hfx:f (⟨id2,1,(j:Int)+1,pt,bk,sl,nm,bt,ot,af,bl⟩:Dp)=false:=by rw[HXF.o];simp
        exact cQ35
       ·have hfx:f (⟨id2,1,io,pt,bk,sl,nm,bt,ot,af,bl⟩:Dp)=true:=by rw[HXF.o];simp[hio]
        have HT:Hid (NOwns (wr.alloc (.cells (K7 id2 1 io pt bk sl nm bt ot af pa bl.length pc) 42)) 42 11 u5 (rowsP f (ts.take q) (M5.ds.take q))):=HRR.o.1.of_heap fun k hk=>((Below.refl _ wr).alloc nR _).block k (HRR.o.1.lt k hk);have HTL:Hid ((rowsP f (ts.take q) (M5.ds.take q)).length<=100000000000):=by
         exact cQ81
        have HSTEP:Hid (∀v' w',NOwns w' 42 11 v' (rowsP f (ts.take q) (M5.ds.take q)++[(⟨id2,1,io,pt,bk,sl,nm,bt,ot,af,bl⟩:Dp).row (.slice pa bl.length pc)])->(wr.alloc (.cells (K7 id2 1 io pt bk sl nm bt ot af pa bl.length pc) 42)).grownBy w' u5.ownBlock->(∀k,v'.ownBlock=some k->u5.ownBlock=some k\/(wr.alloc (.cells (K7 id2 1 io pt bk sl nm bt ot af pa bl.length pc) 42)).1.size<=k)->NOwns w' 42 11 v' (rowsP f (ts.take (q+1)) (M5.ds.take (q+1)))/\(∀k,v'.ownBlock=some k->wc.1.size<=k)/\Below wc.1.size wc w'):=fun v' w' k1 k2 k3=>by
         exact cQ29
        clear HRR HST HXF hfx;go_wp2_with (at_builtin;refine wpList_step fun K' hK'=>?_;refine zat _ rfl (.tmp 100) (.tmp 108) 31 rfl 42 Tryz.u31 _ 11 104 Tryz.i42 rfl dC dC u5 _ rfl HT.o wr.1.size ((⟨id2,1,io,pt,bk,sl,nm,bt,ot,af,bl⟩:Dp).row (.slice pa bl.length pc)) rfl rfl (fun i u hu=>(AtC.new wr 42 (K7 id2 1 io pt bk sl nm bt ot af pa bl.length pc)).at_ i u hu) (by simp[Dp.row,Value.oneCell']) HTL.o ?_;intro v12 w12 T12 G12 V12;refine hK' _ _ ?_;have HR12:=hide (HSTEP.o v12 w12 T12 G12 V12);clear T12 G12 V12 hK')
        go_roundw
        case rel=>exact⟨q+1,by omega,by go_num,HR12.o⟩
        case measure=>simp[intOf];omega
      by_cases hk6:kk=6
      ·subst hk6;by_cases hio:io=(j:Int)+1
       ·subst hio;have hfx:f (⟨id2,6,(j:Int)+1,pt,bk,sl,nm,bt,ot,af,bl⟩:Dp)=false:=by rw[HXF.o];simp
        exact cQ35
       ·have hfx:f (⟨id2,6,io,pt,bk,sl,nm,bt,ot,af,bl⟩:Dp)=true:=by rw[HXF.o];simp[hio]
        have HT:Hid (NOwns (wr.alloc (.cells (K7 id2 6 io pt bk sl nm bt ot af pa bl.length pc) 42)) 42 11 u5 (rowsP f (ts.take q) (M5.ds.take q))):=HRR.o.1.of_heap fun k hk=>((Below.refl _ wr).alloc nR _).block k (HRR.o.1.lt k hk);have HTL:Hid ((rowsP f (ts.take q) (M5.ds.take q)).length<=100000000000):=by
         exact cQ81
        have HSTEP:Hid (∀v' w',NOwns w' 42 11 v' (rowsP f (ts.take q) (M5.ds.take q)++[(⟨id2,6,io,pt,bk,sl,nm,bt,ot,af,bl⟩:Dp).row (.slice pa bl.length pc)])->(wr.alloc (.cells (K7 id2 6 io pt bk sl nm bt ot af pa bl.length pc) 42)).grownBy w' u5.ownBlock->(∀k,v'.ownBlock=some k->u5.ownBlock=some k\/(wr.alloc (.cells (K7 id2 6 io pt bk sl nm bt ot af pa bl.length pc) 42)).1.size<=k)->NOwns w' 42 11 v' (rowsP f (ts.take (q+1)) (M5.ds.take (q+1)))/\(∀k,v'.ownBlock=some k->wc.1.size<=k)/\Below wc.1.size wc w'):=fun v' w' k1 k2 k3=>by
         exact cQ29
        clear HRR HST HXF hfx;go_wp2_with (at_builtin;refine wpList_step fun K' hK'=>?_;refine zat _ rfl (.tmp 100) (.tmp 108) 31 rfl 42 Tryz.u31 _ 11 104 Tryz.i42 rfl dC dC u5 _ rfl HT.o wr.1.size ((⟨id2,6,io,pt,bk,sl,nm,bt,ot,af,bl⟩:Dp).row (.slice pa bl.length pc)) rfl rfl (fun i u hu=>(AtC.new wr 42 (K7 id2 6 io pt bk sl nm bt ot af pa bl.length pc)).at_ i u hu) (by simp[Dp.row,Value.oneCell']) HTL.o ?_;intro v12 w12 T12 G12 V12;refine hK' _ _ ?_;have HR12:=hide (HSTEP.o v12 w12 T12 G12 V12);clear T12 G12 V12 hK')
        go_roundw
        case rel=>exact⟨q+1,by omega,by go_num,HR12.o⟩
        case measure=>simp[intOf];omega
      have hfx:f (⟨id2,kk,io,pt,bk,sl,nm,bt,ot,af,bl⟩:Dp)=true:=by rw[HXF.o];simp[hk1,hk6]
      have HT:Hid (NOwns (wr.alloc (.cells (K7 id2 kk io pt bk sl nm bt ot af pa bl.length pc) 42)) 42 11 u5 (rowsP f (ts.take q) (M5.ds.take q))):=HRR.o.1.of_heap fun k hk=>((Below.refl _ wr).alloc nR _).block k (HRR.o.1.lt k hk);have HTL:Hid ((rowsP f (ts.take q) (M5.ds.take q)).length<=100000000000):=by
       exact cQ81
      have HSTEP:Hid (∀v' w',NOwns w' 42 11 v' (rowsP f (ts.take q) (M5.ds.take q)++[(⟨id2,kk,io,pt,bk,sl,nm,bt,ot,af,bl⟩:Dp).row (.slice pa bl.length pc)])->(wr.alloc (.cells (K7 id2 kk io pt bk sl nm bt ot af pa bl.length pc) 42)).grownBy w' u5.ownBlock->(∀k,v'.ownBlock=some k->u5.ownBlock=some k\/(wr.alloc (.cells (K7 id2 kk io pt bk sl nm bt ot af pa bl.length pc) 42)).1.size<=k)->NOwns w' 42 11 v' (rowsP f (ts.take (q+1)) (M5.ds.take (q+1)))/\(∀k,v'.ownBlock=some k->wc.1.size<=k)/\Below wc.1.size wc w'):=fun v' w' k1 k2 k3=>by
       exact cQ29
      clear HRR HST HXF hfx;go_wp2_with (at_builtin;refine wpList_step fun K' hK'=>?_;refine zat _ rfl (.tmp 100) (.tmp 108) 31 rfl 42 Tryz.u31 _ 11 104 Tryz.i42 rfl dC dC u5 _ rfl HT.o wr.1.size ((⟨id2,kk,io,pt,bk,sl,nm,bt,ot,af,bl⟩:Dp).row (.slice pa bl.length pc)) rfl rfl (fun i u hu=>(AtC.new wr 42 (K7 id2 kk io pt bk sl nm bt ot af pa bl.length pc)).at_ i u hu) (by simp[Dp.row,Value.oneCell']) HTL.o ?_;intro v12 w12 T12 G12 V12;refine hK' _ _ ?_;have HR12:=hide (HSTEP.o v12 w12 T12 G12 V12);clear T12 G12 V12 hK')
      go_roundw
      case rel=>exact⟨q+1,by omega,by go_num,HR12.o⟩
      case measure=>simp[intOf];omega
     ·have hq2:q=M5.ds.length:=by omega
      subst hq2;rw[List.take_length,show ts.take M5.ds.length=ts by rw[←hln,List.take_length]]at hn;obtain⟨ga,gc,rfl,-⟩:=hn.form;have hzz:=HP5.o.box.frozen 5;have hzr:wr.frozen? ⟨b,5,none⟩=false:=(HP5.o.box.over hbl).frozen 5;clear hzz;have HNE:Hid (BX5 Z w.1.size (wr.setCell ⟨b,5,none⟩ (.slice ga (rowsP f ts M5.ds).length gc)) T b bx kd lx (.slice s1 ps.length t1) ps j/\Chg T w (wr.setCell ⟨b,5,none⟩ (.slice ga (rowsP f ts M5.ds).length gc))):=by
       have hlb:=HLB.o;have hb5:=HB5.o.size;have pk:=HKP.o wr (.slice ga (rowsP f ts M5.ds).length gc) f (fun k hk _=>hbl.block k hk.2) (hbl.block b HP5.o.box.lt) hn (fun k hk=>⟨fun e=>by have:=hlo k hk;omega,by have:=hlo k hk;omega⟩);refine⟨⟨_,_,_,_,_,_,_,_,pk,HS5.o.deps (Nat.le_trans (List.length_filter_le _ _) hl5) (fun d hd=>HS5.o.dd d (List.mem_filter.mp hd).1) (ze9 _ _),fun k hk=>?_,(HX5.o.over hbl).other oM _,(HR5.o.below hbl nR).of_heap fun k hk=>heap_setCell_other _ ⟨b,5,none⟩ k _ (by have:=(HR5.o.lt k hk).1;show k≠b;omega),HQ5.o⟩,(HB5.o.trans (Chg.of_below hbl)).setCell hlb.1 _⟩
       ·rcases hk with hk|hk
        ·exact HK5.o k hk.1
        ·have:=hlo k hk;have:=HX5.o.lt;exact⟨HTT.o k oM,by omega⟩
      have xb0:=(HX5.o.over hbl).c2;generalize hLN:(rowsP f ts M5.ds).length=LN at*;have HLN:=hide hLN;clear hn hlo hbl HR HP5 HS5 HK5 HX5 HR5 HB5 HRO HNT HKP HFF g0 g1 g2 x5 hLN;go_wp2_with fail
      have hsz6:(wr.setCell ⟨b,5,none⟩ (.slice ga LN gc)).1.size=wr.1.size:=by simp
      generalize wr.setCell ⟨b,5,none⟩ (.slice ga LN gc)=w6 at*;have HSZ6:=hide hsz6;clear hsz6;obtain⟨⟨S6,u,v,iv,bv,dv,pv,M6,P6,hS6,hk6,X6,R6,Q6⟩,B6⟩:=HNE.o
      replace P6:=P6.bound
      obtain⟨gi,ci,p9,e9,i0,i1,i2,-,hfz,hgi,gS⟩:=P6.inoAt j (by rw[hS6.i];omega);subst e9;have HP6:=hide P6;have HS6:=hide hS6;have HK6:=hide hk6;have HX6:=hide X6;have HQ6:=hide Q6;clear Q6;have HR6:=hide R6;have HB6:=hide B6;have HI6:Hid ((∃r0,w6.cell? ⟨gi,j*3,none⟩=some r0)/\(∃r1,w6.cell? ⟨gi,j*3+1,none⟩=some r1)/\(∃r2,w6.cell? ⟨gi,j*3+2,none⟩=some r2)/\(∀k,w6.frozen? ⟨gi,k,none⟩=false)/\gi<w6.1.size/\T gi):=⟨⟨_,i0⟩,⟨_,i1⟩,⟨_,i2⟩,hfz,hgi,(hk6 gi gS.1).1⟩
      have his6:M6.is.length=8:=hS6.i;have HIS6:=hide his6;have j1:(j:Int)<(M6.is.length:Int):=by omega
      clear P6 hS6 hk6 X6 R6 B6 HNE i0 i1 i2 hfz gS his6 xb5 xb0 hzr;go_loopw [9,8] (fun i lv wr2=>∃(q:Nat)(bl:List Int),q<=ps.length/\i=.int .i64 q/\Hid (ROwns wr2 w6.1.size 3 lv (ic bl)/\bl.length<=q/\BlQ ps q bl/\Below w6.1.size w6 wr2)) (fun i lv _=>ps.length-(intOf i).toNat)
      case atStart=>exact⟨0,[],Nat.zero_le _,rfl,by rw[←HSZ6.o];exact ROwns.lit0 w6 _ 3 nR,Nat.le_refl _,BlQ.nil ps,bR.alloc nR _⟩
      case round =>
       obtain⟨q,bl,hq,rfl,HR⟩:=hrel;obtain⟨hn,hbq,hbp,hbl⟩:=HR.o;have xb0:=(HX6.o.over hbl).c2;by_cases hlt:q<ps.length
       ·obtain⟨sa,sc,es,hsc⟩:=(HR6.o.below hbl nR).rints;simp only[Value.slice.injEq,true_and]at es;obtain⟨rfl,rfl⟩:=es;obtain⟨g,off,rfl,-,k1⟩:=hsc q hlt;have hpp:=HPS.o ps[q] (List.getElem_mem hlt);obtain⟨t,ht⟩:∃t,ps[q]=t:=⟨_,rfl⟩
        rw[ht]at k1 hpp;have HPP:=hide hpp;have HTQ:=hide ht;have HRR:=hide (And.intro hn (And.intro hbq (And.intro hbp hbl)));have q0:(0:Int)<=(q:Int):=by omega
        have q1:(q:Int)<(ps.length:Int):=by omega
        clear hsc ht hn hbq hbp hbl HR hpp;by_cases htp:0<t
        ·have HT:Hid (ROwns (wr.alloc (.cells #[.int .i64 t] 3)) w6.1.size 3 u8 (ic bl)):=HRR.o.1.alloc _;have HTL:Hid ((ic bl).length<=100000000000):=by have:=HRR.o.2.1;rw[zah];show _<=_;omega
         have HSZ:Hid (w6.1.size<=(wr.alloc (.cells #[.int .i64 t] 3)).1.size):=by have:=HRR.o.2.2.2.size;show _<=_;simp;omega
         have HSTEP:Hid (∀v' w',ROwns w' w6.1.size 3 v' (ic bl++[.int .i64 t])->(wr.alloc (.cells #[.int .i64 t] 3)).grownBy w' u8.ownBlock->(∀k,v'.ownBlock=some k->u8.ownBlock=some k\/(wr.alloc (.cells #[.int .i64 t] 3)).1.size<=k)->ROwns w' w6.1.size 3 v' (ic (bl++[t]))/\(bl++[t]).length<=q+1/\BlQ ps (q+1) (bl++[t])/\Below w6.1.size w6 w'):=fun v' w' k1 k2 k3=>by
          obtain⟨hn,hbq,hbp,hbl⟩:=HRR.o;have hsz:=hbl.size;have hpp:=HPP.o;refine⟨by rw[show ic (bl++[t])=ic bl++[.int .i64 t]by simp[ic]];exact k1,by simp;omega,hbp.more hlt HTQ.o oM hpp.2,?_⟩
          ·exact(hbl.alloc hsz _).grown k2 (by simp at hsz ⊢;omega) (fun k hk=>(hn.lt k hk).1)
         have k2:=(AtC.new wr 3 #[.int .i64 t]).c0;have HK2:=hide k2;clear HRR HPP k2;go_wp2_with (at_builtin;refine wpList_step fun K' hK'=>?_;refine zak _ rfl (.tmp 128) (.tmp 134) 40 rfl w6.1.size 3 Tryz.u40 _ 8 Tryz.i3 rfl dC u8 _ rfl HT.o HSZ.o wr.1.size (.int .i64 t) rfl HK2.o rfl HTL.o ?_;intro v12 w12 T12 G12 V12;refine hK' _ _ ?_;have HR12:=hide (HSTEP.o v12 w12 T12 G12 V12);clear T12 G12 V12 hK')
         go_roundw
         case rel=>exact⟨q+1,bl++[t],by omega,by go_num,HR12.o⟩
         case measure=>simp[intOf];omega
        ·go_wp2;go_roundw
         case rel=>exact⟨q+1,bl,by omega,by go_num,HRR.o.1,by have:=HRR.o.2.1;omega,HRR.o.2.2.1.skip hlt,HRR.o.2.2.2⟩
         case measure=>simp[intOf];omega
       ·have hb2:bl.length<=2:=by omega
        have HQ:=hide (And.intro hn (And.intro hb2 (And.intro hbp hbl)));clear hn hbq hbp hbl HR hb2;obtain⟨ba,bc,rfl,-⟩:=HQ.o.1.form;rw[zah]at*;go_upto_region 21 with fail
        go_cut []from 136 to 144 (fun wx=>∃(S8:Nat->Prop)(u v iv bv dv pv:Value)(M8:MD),PM wx S8 b u v iv bv dv pv M8/\Sh Z M8/\(∀k,S8 k->T k)/\RInts wx (.slice ba bl.length bc) bl/\Chg T w wx/\Kz.Room Z M8 bl)
        case first =>
         have HAL:Hid (∀W,Below wr.1.size wr W->PM W (fun k=>S6 k/\k<w6.1.size) b u v (.slice (some ⟨gi,0,none⟩) M6.is.length ci) bv dv pv M6/\(∃r0,W.cell? ⟨gi,j*3,none⟩=some r0)/\(∃r1,W.cell? ⟨gi,j*3+1,none⟩=some r1)/\(∃r2,W.cell? ⟨gi,j*3+2,none⟩=some r2)/\(∀k,W.frozen? ⟨gi,k,none⟩=false)/\ROwns W w6.1.size 3 (.slice ba bl.length bc) (ic bl)/\Chg T w W):=fun W bb=>by
          obtain⟨hn,-,-,hbl⟩:=HQ.o;have b2:=hbl.trans (bb.mono hbl.size);obtain⟨⟨r0,q0⟩,⟨r1,q1⟩,⟨r2,q2⟩,q3,q4,q5⟩:=HI6.o;have hb6:=HB6.o;have hlb:=HLB.o;have hsz:=hb6.size;exact⟨HP6.o.below b2,⟨r0,(b2.cell (p:=⟨gi,j*3,none⟩) q4).trans q0⟩,⟨r1,(b2.cell (p:=⟨gi,j*3+1,none⟩) q4).trans q1⟩,⟨r2,(b2.cell (p:=⟨gi,j*3+2,none⟩) q4).trans q2⟩,fun k=>(b2.frozen (p:=⟨gi,k,none⟩) q4).trans (q3 k),hn.below bb nR,hb6.trans (Chg.of_below b2)⟩
         obtain⟨A1,-,-,-,-,-,-⟩:=HAL.o wr bR;have y2:=A1.box.c2;clear A1;have HRM:Hid (Kz.Room Z { M6 with is:=M6.is.set j (0,zam 0,[0,0]) } bl):=by
          obtain⟨hj6,e6⟩:=HQ6.o;exact HS6.o.k.lose j hj6 _ bl (fun p p1=>cnt00 p p1) (fun p _=>by rw[e6];exact Nat.le_trans (HQ.o.2.2.1.2 p) (by exact(List.take_sublist q ps).count_le p))
         have HREL:Hid (∀w9 v9,Below wr.1.size wr w9->ROwns w9 wr.1.size 3 v9 (ic [0,0])->∃(S8:Nat->Prop)(u v iv bv dv pv:Value)(M8:MD),PM (set3 w9 gi j (.int .i64 0,.int .i64 (zam 0),v9)) S8 b u v iv bv dv pv M8/\Sh Z M8/\(∀k,S8 k->T k)/\RInts (set3 w9 gi j (.int .i64 0,.int .i64 (zam 0),v9)) (.slice ba bl.length bc) bl/\Chg T w (set3 w9 gi j (.int .i64 0,.int .i64 (zam 0),v9))/\Kz.Room Z M8 bl):=fun w9 v9 bb o9=>by
          obtain⟨A1,-,-,-,-,A6,A7⟩:=HAL.o w9 bb;have hsz:=HQ.o.2.2.2.size;have hb6:=HB6.o.size;have hlb:=HLB.o;have q5:=HI6.o.2.2.2.2;have hpi:=A1.putI rfl j (by rw[HIS6.o];omega) (.int .i64 0,.int .i64 (zam 0),v9) (0,zam 0,[0,0]) ⟨rfl,rfl,o9.base_le (Nat.zero_le _)⟩ (fun k hk=>⟨fun e=>by have:=(o9.lt k hk).1;omega,by have:=(o9.lt k hk).1;omega⟩);refine⟨_,_,_,_,_,_,_,_,hpi.1,HS6.o.inode j IOk.none (fun _ p p1=>by rw[cnt00 p p1];exact Nat.zero_le _),fun k hk=>?_,(A6.of_heap fun k hk=>zbc _ _ _ _ k (by have:=(A6.lt k hk).1;omega)).rints,((A7.setCell q5.2 _).setCell q5.2 _).setCell q5.2 _,HRM.o⟩;rcases hk with hk|hk
          ·exact(HK6.o k hk.1).1
          ·have:=(o9.lt k hk).1;exact HTT.o k oM
         go_region_with (go_at_call 119;refine(za6 0 _).mono ?_;rintro e w9 ⟨v9,rfl,O9,B9⟩;obtain⟨n1,n2,rfl,-⟩:=O9.form;rw[zah]at*;obtain⟨A1,⟨r0,k0⟩,⟨r1,k1⟩,⟨r2,k2⟩,k3,-,-⟩:=HAL.o w9 (zac B9);have y9:w9.cell? ⟨b,2,none⟩=some (.slice (some ⟨gi,0,none⟩) M6.is.length ci):=A1.box.cell 2;have z0:=k3 (j*3);have z1:=k3 (j*3+1);have z2:=k3 (j*3+2);have HB9:=hide B9;have HO9:=hide O9;clear A1 k3 B9 O9)
         all_goals (go_wp2_with fail;go_meet;exact HREL.o w9 _ (zac HB9.o) HO9.o)
        case rest =>
         obtain⟨S8,u,v,iv,bv,dv,pv,M8,P8,hS8,hk8,R8,B8,K8⟩:=hcut;have HK8R:=hide K8;clear K8;clear HP6 HS6 HK6 HX6 HR6 HI6 HIS6 xb0;obtain⟨a1,c1,a2,c2,a3,c3,a4,c4,a5,c5,a6,c6,rfl,rfl,rfl,rfl,rfl,rfl⟩:=P8.form;obtain⟨x0,x1,x2,x3,x4,x5,x6⟩:=AtC.sev P8.box;have HP8:=hide P8;have HS8:=hide hS8;have HK8:=hide hk8;have HR8:=hide R8;have HB8:=hide B8;have HDO:Hid (DOkN ⟨M8.nx,5,(j:Int)+1,0,0,0,⟨#[]⟩,false,false,0,bl⟩):=⟨⟨by show 1<=(j:Int)+1;omega,by show(j:Int)+1<=8;omega⟩,by simp,by simp,by simp,HQ.o.2.2.1.1,HQ.o.2.1,by show(0:Nat)<=6;omega⟩
         clear P8 hS8 hk8 R8 B8;go_wp2_with fail
         refine(zfc 0 5 ((j:Int)+1) 0 0 0 ⟨#[]⟩ false false 0 bl _ _ _ _ _ _ _ M8 wc HP8.o.mr HS8.o HR8.o HDO.o (fun _=>HK8R.o)).mono ?_;rintro e wn ⟨u1,u2,u3,u4,u5,u6,mn,r,rfl,On,hSn,hr0,hr9,Bn⟩;obtain⟨b1,d1,b2,d2,b3,d3,b4,d4,b5,d5,b6,d6,rfl,rfl,rfl,rfl,rfl,rfl⟩:=On.mr.form;have A2:AtC (wn.alloc (.cells (M7 mn b1 d1 b2 d2 b3 d3 b4 d4 b5 d5 b6 d6) 33)) b 33 (M7 M8 a1 c1 a2 c2 a3 c3 a4 c4 a5 c5 a6 c6):=(HP8.o.box.over Bn).over ((Below.refl _ wn).alloc nR _);have HFIN:Hid (BT Z ((((((((wn.alloc (.cells (M7 mn b1 d1 b2 d2 b3 d3 b4 d4 b5 d5 b6 d6) 33)).setCell ⟨b,0,none⟩ (.slice b1 mn.1.length d1)).setCell ⟨b,1,none⟩ (.slice b2 mn.2.length d2)).setCell ⟨b,2,none⟩ (.slice b3 mn.3.length d3)).setCell ⟨b,3,none⟩ (.slice b4 mn.4.length d4)).setCell ⟨b,4,none⟩ (.slice b5 mn.5.length d5)).setCell ⟨b,5,none⟩ (.slice b6 mn.6.length d6)).setCell ⟨b,6,none⟩ (.int .i64 mn.nx)) T b/\Chg T w ((((((((wn.alloc (.cells (M7 mn b1 d1 b2 d2 b3 d3 b4 d4 b5 d5 b6 d6) 33)).setCell ⟨b,0,none⟩ (.slice b1 mn.1.length d1)).setCell ⟨b,1,none⟩ (.slice b2 mn.2.length d2)).setCell ⟨b,2,none⟩ (.slice b3 mn.3.length d3)).setCell ⟨b,3,none⟩ (.slice b4 mn.4.length d4)).setCell ⟨b,4,none⟩ (.slice b5 mn.5.length d5)).setCell ⟨b,5,none⟩ (.slice b6 mn.6.length d6)).setCell ⟨b,6,none⟩ (.int .i64 mn.nx))):=by
          have hlb:=HLB.o;have hz8:=HB8.o.size;have hzb:=HP8.o.box.lt;refine⟨⟨fun k=>wc.1.size<=k,_,_,_,_,_,_,mn,PM.store A2 (On.below ((Below.refl _ wn).alloc nR _) nR) oM,fun k hk=>HTT.o k oM,hlb.1,hSn⟩,(((((((HB8.o.trans (Chg.of_below (Bn.alloc Bn.size _))).setCell hlb.1 _).setCell hlb.1 _).setCell hlb.1 _).setCell hlb.1 _).setCell hlb.1 _).setCell hlb.1 _).setCell hlb.1 _⟩
         have r0:=A2.c0;have v0:=A2.frozen 0;have r1:=A2.c1;have v1:=A2.frozen 1;have r2:=A2.c2;have v2:=A2.frozen 2;have r3:=A2.c3;have v3:=A2.frozen 3;have r4:=A2.c4;have v4:=A2.frozen 4;have r5:=A2.c5;have v5:=A2.frozen 5;have r6:=A2.c6;have v6:=A2.frozen 6;have s0:=(AtC.new wn 33 (M7 mn b1 d1 b2 d2 b3 d3 b4 d4 b5 d5 b6 d6)).c0;have s1:=(AtC.new wn 33 (M7 mn b1 d1 b2 d2 b3 d3 b4 d4 b5 d5 b6 d6)).c1;have s2:=(AtC.new wn 33 (M7 mn b1 d1 b2 d2 b3 d3 b4 d4 b5 d5 b6 d6)).c2;have s3:=(AtC.new wn 33 (M7 mn b1 d1 b2 d2 b3 d3 b4 d4 b5 d5 b6 d6)).c3;have s4:=(AtC.new wn 33 (M7 mn b1 d1 b2 d2 b3 d3 b4 d4 b5 d5 b6 d6)).c4;have s5:=(AtC.new wn 33 (M7 mn b1 d1 b2 d2 b3 d3 b4 d4 b5 d5 b6 d6)).c5;have s6:=(AtC.new wn 33 (M7 mn b1 d1 b2 d2 b3 d3 b4 d4 b5 d5 b6 d6)).c6;clear A2 On hSn Bn x0 x1 x2 x3 x4 x5 x6 hr0 hr9 HP8 HS8 HR8 HDO HQ;go_wp2
         go_end0
         exact⟨rfl,HFIN.o⟩
variable {Z : ZT}
theorem zmm(T:Nat->Prop)(b:Nat)(id kd io pt bk sl:Int)(nm:ByteArray)(bt ot:Bool)(af:Int)(bl:List Int)(pa:Option Addr)(pc:Nat)(w:World)(h:BT Z w T b)(hT:∀k,w.1.size<=k->T k)(hio1:1<=io)(hio8:io<=8)(hbl:∀p∈bl,(1:Int)<=p/\p<=16)(hbn:bl.length<=2)
  (hp:∀W,Chg T w W->RInts W (.slice pa bl.length pc) bl) (hzb:∀p∈bl,Z id p) :
  Calls Tryz.prog 212 #[.pointer (some ⟨b,0,none⟩),.agg (K7 id kd io pt bk sl nm bt ot af pa bl.length pc)] w fun e w'=>e=.returned (.tuple #[])/\BT Z w' T b/\Chg T w w':=by
 obtain⟨Y,hY⟩:∃Y:ZT,Y=fun i p=>Z i p\/p∈bl:=⟨_,rfl⟩
 have HKY:Hid (∀M:MD,Kz Z M->Kz Y { M with ds:=zbo id M.ds }):=fun M hM=>by rw[hY];exact hM.drop id bl hzb
 have HYZ:Hid (∀i p,Z i p->Y i p):=fun i p h=>by rw[hY];exact .inl h
 have HYB:Hid (∀p∈bl,∀i,Y i p):=fun p h i=>by rw[hY];exact .inr h
 clear hY hzb;have HPL:=hide hp;have HBL:=hide hbl;have HTT:Hid (∀k,(w.alloc (.cells (K7 id kd io pt bk sl nm bt ot af pa bl.length pc) 42)).1.size<=k->(fun k=>T k/\k≠w.1.size) k):=fun k hk=>by simp at hk;exact⟨hT k oM,by omega⟩
 have HBT:Hid (BT Z (w.alloc (.cells (K7 id kd io pt bk sl nm bt ot af pa bl.length pc) 42)) (fun k=>T k/\k≠w.1.size) b):=by
  obtain⟨S,u,v,iv,bv,dv,pv,m,hP,hS,hTb,hm⟩:=h;have:=hP.box.lt;exact⟨_,u,v,iv,bv,dv,pv,m,hP.bound.alloc _,fun k hk=>⟨hS k hk.1,by have:=hk.2;omega⟩,⟨hTb,by omega⟩,hm⟩
 have HKK:Hid (∀W,Chg (fun k=>T k/\k≠w.1.size) (w.alloc (.cells (K7 id kd io pt bk sl nm bt ot af pa bl.length pc) 42)) W->AtC W w.1.size 42 (K7 id kd io pt bk sl nm bt ot af pa bl.length pc)/\Chg T w W/\RInts W (.slice pa bl.length pc) bl/\w.1.size+1<=W.1.size):=fun W hc=>by
  have c2:Chg T w W:=(Chg.of_below ((Below.refl _ w).alloc nR _)).trans (hc.mono fun k hk=>hk.1);exact⟨(hc.block _ sI (fun e=>e.2 rfl)).trans (AtC.new w 42 (K7 id kd io pt bk sl nm bt ot af pa bl.length pc)),c2,HPL.o W c2,by have:=hc.size;simp at this;exact this⟩
 have y0:=(AtC.new w 42 (K7 id kd io pt bk sl nm bt ot af pa bl.length pc)).c0;have hbb:b<w.1.size:=h.lt.1;clear h hT hp hbl;obtain⟨j,rfl⟩:∃j:Nat,io=(j:Int)+1:=⟨(io-1).toNat,by omega⟩
 have hwj:IntKind.i64.wrap (j:Int)=(j:Int):=wrap_small _ oM oM;go_enter Tryz.func212,Tryz.ntmps212
 go_upto_region 1 with fail
 go_cut []from 7 to 14 (fun wx=>BT Y wx (fun k=>T k/\k≠w.1.size) b/\Chg (fun k=>T k/\k≠w.1.size) (w.alloc (.cells (K7 id kd ((j:Int)+1) pt bk sl nm bt ot af pa bl.length pc) 42)) wx)
 case first =>
  have HBQ:Hid (∃S u v iv bv dv pv m,PM (w.alloc (.cells (K7 id kd ((j:Int)+1) pt bk sl nm bt ot af pa bl.length pc) 42)) S b u v iv bv dv pv m/\Sh Z m):=by
   obtain⟨S,u,v,iv,bv,dv,pv,m,hP,hS,hTb,hm⟩:=HBT.o;exact⟨S,u,v,iv,bv,dv,pv,m,hP,hm⟩
  have HTQ:Hid ((fun k=>T k/\k≠w.1.size) b):=HBT.o.lt.2;obtain⟨S,u,v,iv,bv,dv,pv,m,hP,hm⟩:=HBQ.o;obtain⟨a1,c1,a2,c2,a3,c3,a4,c4,a5,c5,a6,c6,rfl,rfl,rfl,rfl,rfl,rfl⟩:=hP.form;have x0:=hP.box.c0;have x1:=hP.box.c1;have x2:=hP.box.c2;have x3:=hP.box.c3;have x4:=hP.box.c4;have x5:=hP.box.c5;have x6:=hP.box.c6;have HP:=hide hP;have HM:=hide hm;clear hP hm
  go_region_with (go_at_call 14;refine(zml id _ _ _ _ _ _ m _ HP.o.drew.mr HM.o (HKY.o m HM.o.k)).mono ?_;rintro e w2 ⟨u1,u2,u3,u4,u5,u6,mn,rfl,O2,hmn,B2⟩;obtain⟨n1,o1,n2,o2,n3,o3,n4,o4,n5,o5,n6,o6,rfl,rfl,rfl,rfl,rfl,rfl⟩:=O2.mr.form;have A2:=HP.o.drew.box.over B2;have r0:w2.cell? ⟨b,0,none⟩=some (.slice a1 m.1.length c1):=A2.cell 0;have v0:=A2.frozen 0;have r1:w2.cell? ⟨b,1,none⟩=some (.slice a2 m.2.length c2):=A2.cell 1;have v1:=A2.frozen 1;have r2:w2.cell? ⟨b,2,none⟩=some (.slice a3 m.3.length c3):=A2.cell 2;have v2:=A2.frozen 2;have r3:w2.cell? ⟨b,3,none⟩=some (.slice a4 m.4.length c4):=A2.cell 3;have v3:=A2.frozen 3;have r4:w2.cell? ⟨b,4,none⟩=some (.slice a5 m.5.length c5):=A2.cell 4;have v4:=A2.frozen 4;have r5:w2.cell? ⟨b,5,none⟩=some (.slice a6 m.6.length c6):=A2.cell 5;have v5:=A2.frozen 5;have r6:w2.cell? ⟨b,6,none⟩=some (.int .i64 m.nx):=A2.cell 6;have v6:=A2.frozen 6;have HF:=hide (zh6 (w:=(w.alloc (.cells (K7 id kd ((j:Int)+1) pt bk sl nm bt ot af pa bl.length pc) 42))) (T:=(fun k=>T k/\k≠w.1.size)) A2 O2 (Chg.of_below (zac B2)) hmn HTQ.o HP.o.box.lt HTT.o);clear A2 O2 hmn B2)
  all_goals (go_wp2_with fail;go_meet;exact HF.o)
 case rest =>
  have HBC:=hide hcut;clear hcut y0 HBT;generalize hw0:(w.alloc (.cells (K7 id kd ((j:Int)+1) pt bk sl nm bt ot af pa bl.length pc) 42))=w0 at*;have HW0:=hide hw0;clear hw0;go_wp2_with fail
  go_loopw [4] (fun i wr=>∃q:Nat,q<=bl.length/\i=.int .i64 q/\Hid (BT Y wr (fun k=>T k/\k≠w.1.size) b/\Chg (fun k=>T k/\k≠w.1.size) w0 wr)) (fun i _=>bl.length-(intOf i).toNat)
  case atStart=>exact⟨0,Nat.zero_le _,rfl,HBC.o⟩
  case round =>
   obtain⟨q,hq,rfl,HR⟩:=hrel;obtain⟨ka,-,kr,-⟩:=HKK.o wr HR.o.2;have y10:=ka.c10;have y2:=ka.c2;by_cases hlt:q<bl.length
   ·obtain⟨sa,sc,es,hsc⟩:=kr;simp only[Value.slice.injEq,true_and]at es;obtain⟨rfl,rfl⟩:=es;obtain⟨g,off,rfl,-,k1⟩:=hsc q hlt;have hpp:=HBL.o bl[q] (List.getElem_mem hlt);obtain⟨t,ht⟩:∃t,bl[q]=t:=⟨_,rfl⟩
    rw[ht]at k1 hpp;have HYT:Hid (∀i,Y i t):=by rw[←ht];exact HYB.o bl[q] (List.getElem_mem hlt)
    obtain⟨n,rfl⟩:∃n:Nat,t=(n:Int)+1:=⟨(t-1).toNat,by omega⟩
    have HYN:Hid (∀i,Y i ((n:Int)+1)):=HYT.o;have hn:n<16:=by omega
    have hwn:IntKind.i64.wrap (n:Int)=(n:Int):=wrap_small _ oM oM;obtain⟨gx,cx,rx,x0,x1,x2,x3,x4,x5⟩:=HR.o.1.bitX n hn;have HN:Hid (BT Y (wr.setCell ⟨gx,n,none⟩ (.bool false)).drew (fun k=>T k/\k≠w.1.size) b/\Chg (fun k=>T k/\k≠w.1.size) w0 (wr.setCell ⟨gx,n,none⟩ (.bool false)).drew):=⟨(x5 false (.inr (HYN.o))).below (zac bR),(HR.o.2.setCell x3 _).trans (Chg.of_below (zac bR))⟩
    have q0:(0:Int)<=(q:Int):=by omega
    have q1:(q:Int)<(bl.length:Int):=by omega
    have n0:(0:Int)<=(n:Int):=by omega
    have n1:(n:Int)<16:=by omega
    clear ka hsc hpp x3 x4 x5 ht;go_upto_region 5 with fail
    go_big_region
    go_wp2;go_roundw
    case rel=>exact⟨q+1,by omega,by go_num,HN.o⟩
    case measure=>simp[intOf];omega
   ·clear ka kr;obtain⟨gx,cx,rx,x0,x1,x2,x3,x4,x5⟩:=HR.o.1.bitY j oM;have HN:Hid (BT Y (wr.setCell ⟨gx,j,none⟩ (.bool false)).drew (fun k=>T k/\k≠w.1.size) b/\Chg (fun k=>T k/\k≠w.1.size) w0 (wr.setCell ⟨gx,j,none⟩ (.bool false)).drew):=⟨(x5 false).below (zac bR),(HR.o.2.setCell x3 _).trans (Chg.of_below (zac bR))⟩
    have n0:(0:Int)<=(j:Int):=by omega
    have n1:(j:Int)<8:=by omega
    clear x3 x4 x5 HR;go_upto_region 6 with fail
    go_big_region
    generalize (wr.setCell ⟨gx,j,none⟩ (.bool false)).drew=w4 at*;clear x0 x1 x2 y10 y2;go_wp2_with fail
    refine(zdw _ b 0 w4 HN.o.1).mono ?_;rintro e w5 ⟨rfl,b5,c5⟩;have HC5:=hide (HN.o.2.trans c5);clear HN c5;obtain⟨S5,u,v,iv,bv,dv,pv,m5,hP,hS,hTb,hm⟩:=b5
    replace hP:=hP.bound
    obtain⟨a1,c1,a2,c2,a3,c3,a4,c4,a5,c5,a6,c6,rfl,rfl,rfl,rfl,rfl,rfl⟩:=hP.form;have x5:=hP.box.c5;have HP:=hide hP;have HM:=hide hm;have HS5:=hide hS;have HTB:=hide hTb;have hdl:m5.6.length<=40:=hm.l;clear hP hm hS hTb;have HD5:Hid (∀W,Chg (fun k=>k=b\/w5.1.size<=k) w5 W->AtC W w.1.size 42 (K7 id kd ((j:Int)+1) pt bk sl nm bt ot af pa bl.length pc)/\RInts W (.slice pa bl.length pc) bl/\Chg T w W):=fun W c=>by
     have z5:=HKK.o w5 HC5.o;have cc:Chg T w W:=z5.2.1.trans (c.mono fun k hk=>hk.elim (fun e=>by rw[e];exact HTB.o.1) (fun e=>(HTT.o k (by have:=HC5.o.size;omega)).1));exact⟨(c.block _ (by have:=z5.2.2.2;omega) (fun e=>e.elim (fun e=>HTB.o.2 e.symm) (fun e=>by have:=z5.2.2.2;omega))).trans z5.1,HPL.o W cc,cc⟩
    go_wp2_with fail
    go_loopw [6] (fun i wr=>∃q:Nat,q<=m5.6.length/\i=.int .i64 q/\Hid ((Below w5.1.size w5 wr\/BT Y wr (fun k=>k=b\/w5.1.size<=k) b)/\Chg (fun k=>k=b\/w5.1.size<=k) w5 wr)) (fun i _=>m5.6.length-(intOf i).toNat)
    case atStart=>exact⟨0,Nat.zero_le _,rfl,.inl bR,Chg.refl _ _⟩
    case round =>
     obtain⟨q,hq,rfl,HR⟩:=hrel;obtain⟨ka,kr,-⟩:=HD5.o wr HR.o.2;have y10:=ka.c10;have HKR:=hide kr;clear ka kr;by_cases hlt:q<m5.6.length
     ·obtain⟨g,cg,p,e6,nn,-,-,gS,gl,-⟩:=HP.o.dep_at q hlt;simp only[Value.slice.injEq,true_and]at e6;obtain⟨rfl,rfl⟩:=e6;have hgb:wr.1[g]?=w5.1[g]?:=HR.o.2.block g gl (fun e=>e.elim (fun e=>HP.o.nb (e ▸ gS)) (fun e=>by omega));have hdk:=HM.o.dd _ (List.getElem_mem hlt);obtain⟨X,hX⟩:∃X,m5.ds[q]=X:=⟨_,rfl⟩
      rw[hX]at nn hdk;obtain⟨id2,kk,jo,pt2,bk2,sl2,nm2,bt2,ot2,af2,bl2⟩:=X;simp only[DCells]at nn;obtain⟨n0,n1,n2,n3,n4,n5,n6,n7,n8,n9,n10⟩:=nn;have c0:wr.cell? ⟨g,q*11,none⟩=some (.int .i64 id2):=(World.cell?_of_block (w:=w5) (a:=⟨g,q*11,none⟩) hgb).trans n0;have c1:wr.cell? ⟨g,q*11+1,none⟩=some (.int .i64 kk):=(World.cell?_of_block (w:=w5) (a:=⟨g,q*11+1,none⟩) hgb).trans n1;have c2:wr.cell? ⟨g,q*11+2,none⟩=some (.int .i64 jo):=(World.cell?_of_block (w:=w5) (a:=⟨g,q*11+2,none⟩) hgb).trans n2;have c4:wr.cell? ⟨g,q*11+4,none⟩=some (.int .i64 bk2):=(World.cell?_of_block (w:=w5) (a:=⟨g,q*11+4,none⟩) hgb).trans n4;have hio1:1<=jo:=hdk.io.1;have hio8:jo<=8:=hdk.io.2;have q0:(0:Int)<=(q:Int):=by omega
      have q1:(q:Int)<(m5.6.length:Int):=by omega
      have HBK:=hide (And.intro c1 (And.intro c4 (And.intro c0 c2)));have HGL:Hid (g<w5.1.size/\S5 g):=⟨gl,gS.1⟩
      clear n0 n1 n2 n3 n4 n5 n6 n7 n8 n9 n10 hdk hX hgb gl gS;go_upto_region 12 with fail
      go_cut [72]from 51 to 90 (fun c wx=>(∃r,c=.bool r)/\Below wr.1.size wr wx)
      case first =>
       by_cases h4:kk=4
       ·subst h4
        go_region_with (go_at_call 217;refine(ze6 _ bl bk2 _ HKR.o.drew oM).mono ?_;rintro e w7 ⟨rfl,rfl⟩)
        all_goals (go_wp2_with fail;go_meet;exact⟨⟨_,rfl⟩,zac bR⟩)
       ·have h4b:(kk==4)=false:=by simp[h4]
        go_big_region
        go_wp2_with fail
        go_meet
        exact⟨⟨_,rfl⟩,zac bR⟩
      case rest =>
       obtain⟨⟨r,rfl⟩,hbw⟩:=hcut;have HR7:Hid ((Below w5.1.size w5 wc\/BT Y wc (fun k=>k=b\/w5.1.size<=k) b)/\Chg (fun k=>k=b\/w5.1.size<=k) w5 wc/\wc.cell? ⟨g,q*11,none⟩=some (.int .i64 id2)/\wc.cell? ⟨g,q*11+2,none⟩=some (.int .i64 jo)):=by
        have hz:=HR.o.2.size;refine⟨HR.o.1.imp (fun e=>e.trans (hbw.mono hz)) (fun e=>e.below hbw),HR.o.2.trans (Chg.of_below hbw),(hbw.cell (p:=⟨g,q*11,none⟩) (by have:=HGL.o.1;show g<_;omega)).trans HBK.o.2.2.1,(hbw.cell (p:=⟨g,q*11+2,none⟩) (by have:=HGL.o.1;show g<_;omega)).trans HBK.o.2.2.2⟩
       clear hbw HR c0 c1 c2 c4 HBK y10 HKR
       cases r
       ·go_wp2;go_roundw
        case rel=>exact⟨q+1,by omega,by go_num,HR7.o.1,HR7.o.2.1⟩
        case measure=>simp[intOf];omega
       ·have HBQ:Hid (∃S u v iv bv dv pv m,PM wc S b u v iv bv dv pv m/\Sh Y m):=by
         rcases HR7.o.1 with e|⟨S,u,v,iv,bv,dv,pv,m,hP,hS,hTb,hm⟩
         ·exact⟨_,_,_,_,_,_,_,m5,HP.o.below e,HM.o⟩
         ·exact⟨S,u,v,iv,bv,dv,pv,m,hP,hm⟩
        have HT2:Hid (∀k,wc.1.size<=k->(fun k=>k=b\/w5.1.size<=k) k):=fun k hk=>.inr (by have:=HR7.o.2.1.size;omega);have HGB:Hid (g≠b):=fun e=>by have:=HGL.o.2;rw[e]at this;exact HP.o.nb ⟨this,by have:=HGL.o.1;omega⟩
        have d0:=HR7.o.2.2.1;go_upto_region 13 with fail
        go_cut []from 51 to 90 (fun wx=>BT Y wx (fun k=>k=b\/w5.1.size<=k) b/\Chg (fun k=>k=b\/w5.1.size<=k) w5 wx/\wx.cell? ⟨g,q*11+2,none⟩=some (.int .i64 jo))
        case first =>
         obtain⟨S,u,v,iv,bv,dv,pv,m,hP,hm⟩:=HBQ.o;obtain⟨a1,c1,a2,c2,a3,c3,a4,c4,a5,c5,a6,c6,rfl,rfl,rfl,rfl,rfl,rfl⟩:=hP.form;obtain⟨x0,x1,x2,x3,x4,x5,x6⟩:=AtC.sev hP.box;have HP:=hide hP;have HM:=hide hm;clear hP hm
         go_region_with (go_at_call 14;refine(zea id2 _ _ _ _ _ _ m _ HP.o.drew.mr HM.o).mono ?_;rintro e w2 ⟨u1,u2,u3,u4,u5,u6,mn,rfl,O2,hmn,B2⟩;obtain⟨n1,o1,n2,o2,n3,o3,n4,o4,n5,o5,n6,o6,rfl,rfl,rfl,rfl,rfl,rfl⟩:=O2.mr.form;have A2:=HP.o.drew.box.over B2;have r0:w2.cell? ⟨b,0,none⟩=some (.slice a1 m.1.length c1):=A2.cell 0;have v0:=A2.frozen 0;have r1:w2.cell? ⟨b,1,none⟩=some (.slice a2 m.2.length c2):=A2.cell 1;have v1:=A2.frozen 1;have r2:w2.cell? ⟨b,2,none⟩=some (.slice a3 m.3.length c3):=A2.cell 2;have v2:=A2.frozen 2;have r3:w2.cell? ⟨b,3,none⟩=some (.slice a4 m.4.length c4):=A2.cell 3;have v3:=A2.frozen 3;have r4:w2.cell? ⟨b,4,none⟩=some (.slice a5 m.5.length c5):=A2.cell 4;have v4:=A2.frozen 4;have r5:w2.cell? ⟨b,5,none⟩=some (.slice a6 m.6.length c6):=A2.cell 5;have v5:=A2.frozen 5;have r6:w2.cell? ⟨b,6,none⟩=some (.int .i64 m.nx):=A2.cell 6;have v6:=A2.frozen 6;have HF:=hide (zh6 (w:=wc) (T:=(fun k=>k=b\/w5.1.size<=k)) A2 O2 (Chg.of_below (zac B2)) hmn (.inl rfl) HP.o.box.lt HT2.o);have HGC:Hid ((((((((w2.setCell ⟨b,0,none⟩ (.slice n1 mn.1.length o1)).setCell ⟨b,1,none⟩ (.slice n2 mn.2.length o2)).setCell ⟨b,2,none⟩ (.slice n3 mn.3.length o3)).setCell ⟨b,3,none⟩ (.slice n4 mn.4.length o4)).setCell ⟨b,4,none⟩ (.slice n5 mn.5.length o5)).setCell ⟨b,5,none⟩ (.slice n6 mn.6.length o6)).setCell ⟨b,6,none⟩ (.int .i64 mn.nx)).cell? ⟨g,q*11+2,none⟩=some (.int .i64 jo)):=(by have:=HF.o.2.block g (by have:=HGL.o.1;have:=HR7.o.2.1.size;omega) (fun e=>e.elim HGB.o (fun e=>by have:=HGL.o.1;omega));exact(World.cell?_of_block (w:=wc) (a:=⟨g,q*11+2,none⟩) this).trans HR7.o.2.2.2);clear A2 O2 hmn B2)
         all_goals (go_wp2_with fail;go_meet;exact⟨HF.o.1,HR7.o.2.1.trans HF.o.2,HGC.o⟩)
        case rest =>
         obtain⟨hb9,hc9,hg9⟩:=hcut;have HB9:=hide hb9;have HC9:=hide hc9;clear hb9 hc9 HR7 HBQ HT2 d0;go_wp2_with fail
         refine(zg2 (fun k=>k=b\/w5.1.size<=k) b jo wc HB9.o (fun k hk=>.inr (by have:=HC9.o.size;omega)) hio1 hio8).mono ?_;rintro e wz ⟨rfl,bz,cz⟩;have HZ:Hid ((Below w5.1.size w5 wz\/BT Y wz (fun k=>k=b\/w5.1.size<=k) b)/\Chg (fun k=>k=b\/w5.1.size<=k) w5 wz):=⟨.inr bz,HC9.o.trans cz⟩
         clear bz cz HB9 HC9 hg9;go_wp2;go_roundw
         case rel=>exact⟨q+1,by omega,by go_num,HZ.o⟩
         case measure=>simp[intOf];omega
     ·have HN:Hid (BT Z wr T b/\Chg T w wr):=by
       refine⟨?_,(HD5.o wr HR.o.2).2.2⟩;rcases HR.o.1 with e|e
       ·exact⟨_,_,_,_,_,_,_,m5,HP.o.below e,fun k hk=>(HS5.o k hk.1).1,HTB.o.1,HM.o.weak HYZ.o⟩
       ·exact(e.weak HYZ.o).mono fun k hk=>hk.elim (fun e=>by rw[e];exact HTB.o.1) (fun e=>(HTT.o k (by have:=HC5.o.size;omega)).1)
      clear HR;go_wp2
      go_end0
      exact⟨rfl,HN.o⟩
namespace Kit
def rowsW(ds:List Dp)(ts:List Row):List Row:=List.zipWith (fun d t=>d.row (KDep.p t)) ds ts
theorem zc1(ds:List Dp)(ts:List Row):(rowsW ds ts).length=min ds.length ts.length:=by simp[rowsW]
theorem zjz(ds:List Dp)(ts:List Row)(i:Nat)(h:i<(rowsW ds ts).length)(h1:i<ds.length)(h2:i<ts.length):(rowsW ds ts)[i]=ds[i].row (KDep.p ts[i]):=by simp[rowsW]
theorem zfm(d:Dp):∀(ds:List Dp)(ts:List Row)(h:ds.length<ts.length),rowsW (ds++[d]) ts=rowsW ds ts++[d.row (KDep.p ts[ds.length])]
 | [],[],h=>by simp at h
 | [],t::ts,h=>by simp[rowsW]
 | a::ds,[],h=>by simp at h
 | a::ds,t::ts,h=>by
  have ih:=zfm d ds ts uI;show _::rowsW (ds++[d]) ts=_::(rowsW ds ts++_);rw[ih];rfl
theorem zkv(ds:List Dp)(ts:List Row)(d:Dp)(n:Nat)(hn:ds.length=n)(h:n<ts.length):rowsW (ds++[d]) ts=rowsW ds ts++[d.row (KDep.p ts[n])]:=by
 subst hn;exact zfm d ds ts h
theorem pRow(d:Dp)(p:Value):KDep.p (d.row p)=p:=rfl
theorem NOwns.rc{w:World}{e:TypeId}{n:Nat}{v:Value}{ts:List Row}(h:NOwns w e n v ts):RC w v ts.length ts.flatten:=by
 have hf:=zby h.1;rcases h.2.2 with⟨h1,h0⟩| ⟨g,cap,cur,rfl,h2,h3,h4,h5,h6,h7⟩
 ·have:ts=[]:=List.length_eq_zero_iff.mp h0;subst this;obtain⟨a,c,e1,-⟩:=h.form;exact⟨a,c,e1,fun j u hj=>by simp at hj⟩
 ·have h':w.ownsRow 0 e n (.slice (some ⟨g,0,none⟩) ts.length cap) ts.length ts.flatten:=h.2;refine⟨_,_,rfl,fun j u hj=>⟨g,0,rfl,?_⟩⟩;rw[Nat.zero_add];exact(h'.cellAt j (by have:=List.getElem?_eq_some_iff.mp hj;obtain⟨q,-⟩:=this;omega)).trans hj
theorem row_one{w:World}{t:Row}{x:Dp}(h:KDep.O w t x):∀u∈t,u.oneCell'=true:=by
 obtain⟨p,rfl,h⟩:=h;obtain⟨a,c,rfl,-⟩:=h.form;simp[Dp.row,Value.oneCell']
theorem GN.kinds{w w2:World}{S:Nat->Prop}{v lv:Value}{ts:List Row}{ds ds':List Dp}(h:GN KDep w S v ts ds)(hl:ds'.length=ds.length)(hk:∀(i:Nat)(h1:i<ds'.length)(h2:i<ds.length),ds'[i].bl=ds[i].bl)(hn:NOwns w2 42 11 lv (rowsW ds' ts))(hlo:∀k,lv.ownBlock=some k->¬S k)(hb:∀k,S k->k<w.1.size->w2.1[k]?=w.1[k]?):
  GN KDep w2 (fun k=>S k\/lv.ownBlock=some k) lv (rowsW ds' ts) ds':=by
 have hlen:=h.len;have hln:(rowsW ds' ts).length=ds'.length:=by rw[zc1];omega
 have hp:∀(j:Nat) (hj:j<(rowsW ds' ts).length),∃(h2:j<ts.length),KDep.p (rowsW ds' ts)[j]=KDep.p ts[j]:=fun j hj=>⟨by omega,by rw[zjz _ _ _ _ oM oM];rfl⟩
 refine⟨by rw[hln],hn,fun j hj hj'=>?_,fun i j hi hj hne k=>?_,fun j hj k e2 e3=>?_,fun k e=>.inr e,fun j hj k e=>?_⟩
 ·rw[zjz _ _ _ _ hj' oM];obtain⟨p,e,ho⟩:=h.inn j oM oM;rw[e,pRow];refine⟨p,rfl,?_⟩;rw[hk j hj' oM];refine ho.of_heap fun k hk=>hb k (h.si j oM k ?_) (ho.lt k hk).2;rw[e,pRow];exact hk
 ·obtain⟨q1,q2⟩:=hp i hi;obtain⟨r1,r2⟩:=hp j hj;rw[q2,r2];exact h.sep i j q1 r1 hne k
 ·obtain⟨q1,q2⟩:=hp j hj;rw[q2]at e2;exact hlo k e3 (h.si j q1 k e2)
 ·obtain⟨q1,q2⟩:=hp j hj;rw[q2]at e;exact .inl (h.si j q1 k e)
theorem PM.kindsF{w:World}{S:Nat->Prop}{b:Nat}{u v iv bv dv pv:Value}{m:MD}(h:PM w S b u v iv bv dv pv m):∃ts,ts.length=m.6.length/\(∀(j:Nat)(hj:j<ts.length)(hj':j<m.6.length),KDep.O w ts[j] m.ds[j])/\NOwns w 42 11 pv ts /\
  (∀(W:World)(bf:Value),Chg (fun k=>dv.ownBlock=some k) w W->NOwns W 42 11 bf ts->(∀k,bf.ownBlock=some k->¬S k)->RN KDep W bf m.ds) /\
  ∀(w2:World)(lv:Value)(fs':List Bool)(ds':List Dp),Chg (fun k=>dv.ownBlock=some k) w w2->ROwns w2 0 4 dv (fc fs')->ds'.length=m.6.length->(∀(i:Nat)(h1:i<ds'.length)(h2:i<m.6.length),ds'[i].bl=m.ds[i].bl)->NOwns w2 42 11 lv (rowsW ds' ts)->(∀k,lv.ownBlock=some k->¬S k/\k≠b) ->
   PM (w2.setCell ⟨b,5,none⟩ lv) (fun k=>S k\/lv.ownBlock=some k) b u v iv bv dv lv { m with fs:=fs',ds:=ds' }:=by
 obtain⟨S1,S2,S3,ts,k1,k2,k3,k4,k5,k6,k7⟩:=h.own;have nb:∀k,S k->k≠b:=fun k hk e=>h.nb (e ▸ hk);refine⟨ts,k4.len,fun j hj hj'=>k4.inn j hj hj',k4.row,fun W bf hc hn hlo=>?_,fun w2 lv fs' ds' hc hr hl hk h3 h4=>?_⟩
 ·have un:∀k,S3 k->k<w.1.size->W.1[k]?=w.1[k]?:=fun k hk hlt=>hc.block k hlt fun e=>k6 k (k3 k e) hk;have G:GN KDep W (fun k=>S3 k\/bf.ownBlock=some k) bf ts m.ds:=⟨k4.len,hn,fun j hj hj'=>KDep.heap (k4.inn j hj hj') fun k hk=>un k (k4.si j hj k hk) (KDep.lt (k4.inn j hj hj') k hk),k4.sep,fun j hj k e2 e3=>hlo k e3 (k7 k (.inr (.inr (k4.si j hj k e2)))),fun k e=>.inr e,fun j hj k e=>.inl (k4.si j hj k e)⟩
  exact G.rn
 have hbd:∀k,dv.ownBlock=some k->k≠b:=fun k hk=>nb k (k7 k (.inr (.inl (k3 k hk))));have hb2:AtC w2 b 33 #[u,v,iv,bv,dv,pv,.int .i64 m.nx]:=(hc.block b h.box.lt fun e=>hbd b e rfl).trans h.box;have G:=k4.kinds hl hk h3 (fun k hk e=>(h4 k hk).1 (k7 k (.inr (.inr e)))) (fun k hk hlt=>hc.block k hlt fun e=>k6 k (k3 k e) hk);have lvb:∀k,lv.ownBlock=some k->k≠b:=fun k hk=>(h4 k hk).2;have un:∀k,k≠b->(w2.setCell ⟨b,5,none⟩ lv).heap[k]?=w2.1[k]?:=fun k hk=>heap_setCell_other _ ⟨b,5,none⟩ k _ hk;refine⟨hb2.set 5 lv,⟨S1,S2,fun k=>S3 k\/lv.ownBlock=some k,_,k1.of_heap fun k hk hlt=>(un k (nb k (k7 k (.inl hk)))).trans (hc.block k hlt fun e=>(k5 k hk).1 (k3 k e)),hr.of_heap fun k hk=>un k (hbd k hk),k3,G.of_heap fun k hk _=>un k (hk.elim (fun e=>nb k (k7 k (.inr (.inr e)))) (lvb k)),fun k hk=>⟨(k5 k hk).1,fun e=>?_⟩,fun k hk e=>?_,fun k hk=>?_⟩,fun e=>?_⟩
 ·exact cQ130
 ·exact cQ124
 ·exact cQ77
 ·rcases e with e|e
  ·exact h.nb e
  ·exact(h4 b e).2 rfl
end Kit
theorem zmn(S:Nat->Prop)(b:Nat)(x:Int)(u v iv bv dv pv:Value)(m:MD)(w:World)(h:PM w S b u v iv bv dv pv m):
  Calls Tryz.prog 197 #[.pointer (some ⟨b,0,none⟩),.int .i64 x] w fun e w'=>e=.returned (.tuple #[])/\PM w' S b u v iv bv dv pv (markU x m)/\Chg (fun k=>dv.ownBlock=some k) w w':=by
 obtain⟨a1,c1,a2,c2,a3,c3,a4,c4,a5,c5,a6,c6,rfl,rfl,rfl,rfl,rfl,rfl⟩:=h.form;have x4:=h.box.c4;have H:=hide h;by_cases h0:0<=x
 ·have H0:=hide h0;by_cases h1:x<(m.5.length:Int)
  ·have H1:=hide h1;obtain⟨n,rfl⟩:∃n:Nat,x=(n:Int):=⟨x.toNat,by omega⟩
   have hn:n<m.5.length:=by omega
   obtain⟨g,cap,e1,k1,k2,k3,k4⟩:=h.ownF.at n (by rw[zad];exact hn);rw[zad]at e1;simp only[Value.slice.injEq,true_and]at e1;obtain⟨rfl,rfl⟩:=e1;have k1':w.cell? ⟨g,n,none⟩=some (.bool m.fs[n]):=k1.trans (by simp[fc,hn]);generalize m.fs[n]=t0 at k1';have HS:=hide (ROwns.stored (l:=fc m.fs) (g:=g) (cap:=c5) (by rw[zad];exact h.ownF) n (.bool true));have hd:decide ((n:Int)<(m.5.length:Int))=true:=decide_eq_true h1;clear k1 h;go_enter Tryz.func197,Tryz.ntmps197
   go_wp2
   go_end0
   have q:=HS.o.1;have q2:=HS.o.2;rw[zad,←zdd]at q;have e:markU (n:Int) m={ m with fs:=m.fs.set n true }:=by unfold markU;rw[if_pos ⟨H0.o,H1.o⟩];rfl
   rw[e];exact⟨rfl,H.out.turnF q q2,Chg.of_grown q2 fun k hk=>hk⟩
  ·exact cQ53
 ·exact cQ66
namespace Kit
variable {Z : ZT}
def RI(w wr:World)(S:Nat->Prop)(b:Nat)(u v iv bv dv pv:Value)(m:MD)(v9:Value)(ts:List Row)(n9:Nat):Prop :=
 ∃fs':List Bool,PM wr S b u v iv bv dv pv { m with fs:=fs' }/\fs'.length=m.5.length/\NOwns wr 42 11 v9 ts/\Chg (fun k=>dv.ownBlock=some k) w wr/\n9<=wr.1.size
namespace RI
variable {w wr w' : World} {S : Nat -> Prop} {b : Nat} {u v iv bv dv pv : Value} {m : MD} {v9 : Value} {ts : List Row} {n9 : Nat}
theorem below(h:RI w wr S b u v iv bv dv pv m v9 ts n9)(hb:Below wr.1.size wr w'):RI w w' S b u v iv bv dv pv m v9 ts n9:=by
 obtain⟨fs',h1,h2,h3,h4,h5⟩:=h;exact⟨fs',h1.below hb,h2,h3.of_heap fun k hk=>hb.block k (h3.lt k hk),h4.trans (Chg.of_below hb),Nat.le_trans h5 hb.size⟩
theorem set(h:RI w wr S b u v iv bv dv pv m v9 ts n9){g i:Nat}{x:Value}(h1:¬S g)(h2:g≠b)(h3:v9.ownBlock≠some g)(h4:w.1.size<=g):RI w (wr.setCell ⟨g,i,none⟩ x) S b u v iv bv dv pv m v9 ts n9:=by
 obtain⟨fs',k1,k2,k3,k4,k5⟩:=h;have un:∀k,k≠g->(wr.setCell ⟨g,i,none⟩ x).heap[k]?=wr.1[k]?:=fun k hk=>heap_setCell_other _ ⟨g,i,none⟩ k _ hk;refine⟨fs',⟨k1.box.other (Ne.symm h2) _,k1.own.of_heap fun k hk _=>un k (fun e=>h1 (e ▸ hk)),k1.nb⟩,k2,k3.of_heap fun k hk=>un k (fun e=>h3 (e ▸ hk)),⟨k4.os,k4.tape,k4.output,by have:=k4.size;simp;omega,fun k hk hn=>(un k oM).trans (k4.block k hk hn)⟩,by simp;exact k5⟩
end RI
end Kit
variable {Z : ZT}
theorem zh7(w wr:World)(S:Nat->Prop)(b:Nat)(x:Int)(u v iv bv dv pv:Value)(m:MD)(v9:Value)(ts:List Row)(n9:Nat)(h:RI w wr S b u v iv bv dv pv m v9 ts n9)(hd:∀k,dv.ownBlock=some k->v9.ownBlock≠some k):
  Calls Tryz.prog 197 #[.pointer (some ⟨b,0,none⟩),.int .i64 x] wr fun e w'=>e=.returned (.tuple #[])/\RI w w' S b u v iv bv dv pv m v9 ts n9/\Chg (fun k=>dv.ownBlock=some k) wr w':=by
 obtain⟨fs',h1,h2,h3,h4,h5⟩:=h;refine(zmn S b x _ _ _ _ _ _ _ wr h1).mono ?_;rintro e w' ⟨rfl,P2,C2⟩;refine⟨rfl,?_,C2⟩;have hn:NOwns w' 42 11 v9 ts:=h3.of_heap fun k hk=>C2.block k (h3.lt k hk) fun e=>hd k e hk;unfold markU at P2
 split at P2
 ·exact⟨_,P2,by rw[List.length_set];exact h2,hn,h4.trans C2,Nat.le_trans h5 C2.size⟩
 ·exact⟨fs',P2,h2,hn,h4.trans C2,Nat.le_trans h5 C2.size⟩
theorem zmo(T:Nat->Prop)(b:Nat)(w:World)(h:BT Z w T b)(hT:∀k,w.1.size<=k->T k):
  Calls Tryz.prog 215 #[.pointer (some ⟨b,0,none⟩)] w fun e w'=>e=.returned (.tuple #[])/\BT Z w' T b/\Chg T w w':=by
 obtain⟨S0,u,v,iv,bv,dv,pv,m,hP0,hS0,hTb,hm⟩:=h;have hP:=hP0.bound;obtain⟨S,hSd⟩:∃S:Nat->Prop,S=fun k=>S0 k/\k<w.1.size:=⟨_,rfl⟩
 rw[←hSd]at hP;have HSS:Hid (∀k,S k->T k/\k<w.1.size):=fun k hk=>by rw[hSd]at hk;exact⟨hS0 k hk.1,hk.2⟩
 clear hSd hP0 hS0;obtain⟨a1,c1,a2,c2,a3,c3,a4,c4,a5,c5,a6,c6,rfl,rfl,rfl,rfl,rfl,rfl⟩:=hP.form;obtain⟨ts,hln,hro,hnt,hrn,hkf⟩:=hP.kindsF;have x5:=hP.box.c5;have x5a:=(hP.alloc (.cells #[] 42)).box.c5;have HP:=hide hP;have HM:=hide hm;have HRO:=hide hro;have HNT:=hide hnt;have HRN:=hide hrn;have HKF:=hide hkf;have HBL:Hid (b<w.1.size/\T b):=⟨hP.box.lt,hTb⟩
 have HTT:=hide hT;have hdl:m.6.length<=40:=hm.l;have HDV:Hid (∀k,(Value.slice a5 m.5.length c5).ownBlock=some k->S k):=hP.soF;have HFL:Hid (ts.flatten.length=m.6.length*11):=by have:=zby hnt.1;rw[hln]at this;exact this
 have HON:Hid (∀u∈ts.flatten,u.oneCell'=true):=fun u hu=>by
  obtain⟨t,ht,hu⟩:=List.mem_flatten.mp hu;obtain⟨i,hi,rfl⟩:=List.mem_iff_getElem.mp ht;exact row_one (hro i hi oM) u hu
 have HRC:Hid (RC (w.alloc (.cells #[] 42)) (.slice a6 m.6.length c6) m.6.length ts.flatten):=by
  have:=(hnt.of_heap fun k hk=>((Below.refl _ w).alloc nR (.cells #[] 42)).block k (hnt.lt k hk)).rc;rw[hln]at this;exact this
 have HL4:Hid (m.6.length<=100000000000):=by show _<=_;omega
 clear hP hm hro hnt hrn hkf hT hTb;go_enter Tryz.func215,Tryz.ntmps215
 go_wp2_with (at_builtin;refine zaj _ rfl _ _ 31 rfl w.1.size 42 Tryz.u31 _ 11 104 Tryz.i42 rfl dC dC (.slice (some ⟨w.1.size,0,none⟩) 0 0) rfl (zjs w 42 11) sI _ rfl m.6.length ts.flatten HRC.o HFL.o HON.o HL4.o ?_;intro v9 w9 R1 R2 R3;have HR1:=hide R1;have HR2:=hide R2;clear R1 R2 R3)
 have hN9:NOwns w9 42 11 v9 ts:=⟨HNT.o.1,by have:=HR1.o;rw[←hln]at this;exact World.ownsRow.mono this (Nat.zero_le _)⟩
 have hb9:Below w.1.size w w9:=((Below.refl _ w).alloc nR (.cells #[] 42)).grown HR2.o sI (fun k hk=>by simp[Value.ownBlock]at hk;omega);have hv9:∀k,v9.ownBlock=some k->w.1.size<=k:=fun k hk=>(World.ownsRow.lt HR1.o k hk).1;obtain⟨ba,bc,rfl,-⟩:=hN9.form;have HLN:=hide hln;rw[hln];rw[hln]at hN9 hv9;clear hln;have HV9:=hide hv9;have HI0:Hid (RI w w9 S b (.slice a1 m.1.length c1) (.slice a2 m.2.length c2) (.slice a3 m.3.length c3) (.slice a4 m.4.length c4) (.slice a5 m.5.length c5) (.slice a6 m.6.length c6) m (.slice ba m.6.length bc) ts w9.1.size):=⟨m.fs,HP.o.below hb9,rfl,hN9,Chg.of_below hb9,Nat.le_refl _⟩
 have h9:=hb9.size;clear hN9 hb9 hv9 HR1 HR2 HRC HFL HON HL4 x5 x5a;go_loopw [4,3] (fun i lv wr=>∃(q:Nat)(ds':List Dp),q<=m.6.length/\i=.int .i64 q/\Hid (NOwns wr 42 11 lv (rowsW ds' ts)/\ds'.length=q/\(∀(i:Nat)(h1:i<ds'.length)(h2:i<m.6.length),ds'[i].bl=m.ds[i].bl/\AlkD ds'[i] m.ds[i])/\(∀d∈ds',DOk d)/\(∀k,lv.ownBlock=some k->w9.1.size<=k)/\RI w wr S b (.slice a1 m.1.length c1) (.slice a2 m.2.length c2) (.slice a3 m.3.length c3) (.slice a4 m.4.length c4) (.slice a5 m.5.length c5) (.slice a6 m.6.length c6) m (.slice ba m.6.length bc) ts w9.1.size)) (fun i lv _=>m.6.length-(intOf i).toNat)
 case atStart =>
  refine⟨0,[],Nat.zero_le _,rfl,?_,rfl,fun i h1=>by simp at h1,fun d hd=>by simp at hd,?_,HI0.o.below (bR.alloc nR _)⟩
  ·have:=NOwns.of_at (n:=11) (ts:=[]) (AtC.new w9 42 #[]) rfl (Even.nil _) (Nat.zero_le _);simpa[rowsW]using this
  ·intro k hk;simp[Value.ownBlock]at hk;omega
 case round =>
  obtain⟨q,ds',hq,rfl,HR⟩:=hrel;by_cases hlt:q<m.6.length
  ·obtain⟨fs',-,-,hN,-,-⟩:=HR.o.2.2.2.2.2;obtain⟨g,cap,ei,hcell,-,hg,-⟩:=hN.at q (by rw[HLN.o];exact hlt);rw[HLN.o]at ei;simp only[Value.slice.injEq,true_and]at ei;obtain⟨rfl,rfl⟩:=ei;obtain⟨p,hrow,hpo⟩:=HRO.o q (by rw[HLN.o];exact hlt) hlt;have hst:=zkv ds' ts;have nn:DCells wr g (q*11) m.ds[q] p:=DCells.of fun i hi=>by rw[←hrow];exact hcell i hi
   have hdk:=HM.o.dd _ (List.getElem_mem hlt);have hsn:∀d:Dp,rowsW (ds'++[d]) ts=rowsW ds' ts++[d.row p]:=fun d=>by
    rw[hst d q HR.o.2.1 (by rw[HLN.o];exact hlt),hrow,pRow]
   have hbl:∀d:Dp,d.bl=m.ds[q].bl->AlkD d m.ds[q]->∀(i:Nat) (h1:i<(ds'++[d]).length) (h2:i<m.6.length),(ds'++[d])[i].bl=m.ds[i].bl/\AlkD (ds'++[d])[i] m.ds[i]:=fun d hd ha i h1 h2=>by
    by_cases hi:i<ds'.length
    ·rw[List.getElem_append_left hi];exact HR.o.2.2.1 i hi h2
    ·have e:i=q:=by have:=HR.o.2.1;simp at h1;omega
     subst e;rw[List.getElem_append_right oM];simp only[List.getElem_singleton];exact⟨hd,ha⟩
   obtain⟨X,hX⟩:∃X,m.ds[q]=X:=⟨_,rfl⟩
   rw[hX]at nn hpo hdk hbl;obtain⟨id,kd,io,pt,bk,sl,nm,bt,ot,af,bl⟩:=X;obtain⟨pa,pc,rfl⟩:=hpo.rints.form;simp only[DCells]at nn;obtain⟨n0,n1,n2,n3,n4,n5,n6,n7,n8,n9,n10⟩:=nn;have HSN:=hide hsn;have HBLS:=hide hbl;have HDK:=hide hdk;have q0:(0:Int)<=(q:Int):=by omega
   have q1:(q:Int)<(m.6.length:Int):=by omega
   have HZ:Hid (w9.1.size<=wr.1.size):=by obtain⟨-,-,-,-,-,z⟩:=HR.o.2.2.2.2.2;exact z
   have HLV:Hid (∀k,u3.ownBlock=some k->k<wr.1.size):=HR.o.1.lt;have HV9o:Hid (g<wr.1.size):=hg;clear hN hcell hg hrow hpo hst hdk hsn hbl hX;go_upto_region 6 with fail
   generalize hbd:wr.1.size=bd at*;have HBD:=hide hbd;have HIA:Hid (RI w (wr.alloc (.cells (K7 id kd io pt bk sl nm bt ot af pa bl.length pc) 42)) S b (.slice a1 m.1.length c1) (.slice a2 m.2.length c2) (.slice a3 m.3.length c3) (.slice a4 m.4.length c4) (.slice a5 m.5.length c5) (.slice a6 m.6.length c6) m (.slice (some ⟨g,0,none⟩) m.6.length bc) ts w9.1.size/\AtC (wr.alloc (.cells (K7 id kd io pt bk sl nm bt ot af pa bl.length pc) 42)) bd 42 (K7 id kd io pt bk sl nm bt ot af pa bl.length pc)/\NOwns (wr.alloc (.cells (K7 id kd io pt bk sl nm bt ot af pa bl.length pc) 42)) 42 11 u3 (rowsW ds' ts)):=by
    have b1:Below wr.1.size wr (wr.alloc (.cells (K7 id kd io pt bk sl nm bt ot af pa bl.length pc) 42)):=(Below.refl _ wr).alloc nR _;refine⟨HR.o.2.2.2.2.2.below b1,?_,HR.o.1.of_heap fun k hk=>b1.block k (HR.o.1.lt k hk)⟩;rw[←HBD.o];exact AtC.new wr 42 _
   have HLW:=hide HR.o.2.2.2.2.1;have HDS:=hide (And.intro HR.o.2.1 (And.intro HR.o.2.2.2.1 HR.o.2.2.1));clear n0 n1 n2 n3 n4 n5 n6 n7 n8 n9 n10 HR hbd;generalize wr.alloc (.cells (K7 id kd io pt bk sl nm bt ot af pa bl.length pc) 42)=wA at*;have d1:=HIA.o.2.1.c1;have d7:=HIA.o.2.1.c7;have d8:=HIA.o.2.1.c8;have d2:=HIA.o.2.1.c2;have dz:=HIA.o.2.1.frozen 1;go_cut [33]from 13 to 67 (fun c wx=>(∃r,c=.bool r/\(r=true->kd=1))/\wx=wA)
   case first =>
    by_cases hk1:kd=1
    ·subst hk1
     cases bt<;>cases ot<;>(go_wp2_with fail;go_meet;exact⟨⟨_,rfl,by simp⟩,rfl⟩)
    ·have hk1b:(kd==1)=false:=by simp[hk1]
     exact cQ108
   case rest =>
    obtain⟨⟨r,rfl,hr1⟩,rfl⟩:=hcut;go_upto_if 33 with fail
    go_cut []from 13 to 67 (fun wx=>∃k2,RI w wx S b (.slice a1 m.1.length c1) (.slice a2 m.2.length c2) (.slice a3 m.3.length c3) (.slice a4 m.4.length c4) (.slice a5 m.5.length c5) (.slice a6 m.6.length c6) m (.slice (some ⟨g,0,none⟩) m.6.length bc) ts w9.1.size/\AtC wx bd 42 (K7 id k2 io pt bk sl nm bt ot af pa bl.length pc)/\NOwns wx 42 11 u3 (rowsW ds' ts)/\(k2=5↔kd=5))
    case first =>
     cases r
     ·go_wp2_with fail
      go_meet
      exact⟨kd,HIA.o.1,HIA.o.2.1,HIA.o.2.2,Iff.rfl⟩
     ·have HIB:Hid (RI w (wc.setCell ⟨bd,1,none⟩ (.int .i64 6)) S b (.slice a1 m.1.length c1) (.slice a2 m.2.length c2) (.slice a3 m.3.length c3) (.slice a4 m.4.length c4) (.slice a5 m.5.length c5) (.slice a6 m.6.length c6) m (.slice (some ⟨g,0,none⟩) m.6.length bc) ts w9.1.size/\AtC (wc.setCell ⟨bd,1,none⟩ (.int .i64 6)) bd 42 (K7 id 6 io pt bk sl nm bt ot af pa bl.length pc)/\NOwns (wc.setCell ⟨bd,1,none⟩ (.int .i64 6)) 42 11 u3 (rowsW ds' ts)):=by
       have hz:=HZ.o;have hbb:=HBL.o.1;exact⟨HIA.o.1.set (fun e=>by have:=(HSS.o _ e).2;omega) oM (fun e=>by simp only[Value.ownBlock,Option.some.injEq]at e;have:=HV9o.o;omega) oM,HIA.o.2.1.set 1 _,HIA.o.2.2.of_heap fun k hk=>heap_setCell_other _ ⟨bd,1,none⟩ k _ (by have:=HLV.o k hk;show k≠bd;omega)⟩
      have e2:=HIB.o.2.1.c2;obtain⟨U,hU⟩:∃U,uoI io=U:=⟨_,rfl⟩
      have CU:Hid (∀W,Calls Tryz.prog 198 #[.int .i64 io] W fun e w'=>e=.returned (.int .i64 U)/\w'=W):=fun W=>by rw[←hU];exact zbr _ W
      clear hU;go_wp2_with fail
      generalize wc.setCell ⟨bd,1,none⟩ (.int .i64 6)=wB at*;refine(CU.out _).mono ?_;rintro e w3 ⟨rfl,hw3⟩;rw[hw3];clear hw3 w3;go_wp2_with fail
      refine(zh7 w wB S b U _ _ _ _ _ _ m _ ts w9.1.size HIB.o.1 (fun k hk=>by have:=(HSS.o k (HDV.o k hk)).2;exact fun e=>by have:=HV9.o k e;omega)).mono ?_;rintro e w4 ⟨rfl,I4,C4⟩;have HIC:Hid (∃k2,RI w w4 S b (.slice a1 m.1.length c1) (.slice a2 m.2.length c2) (.slice a3 m.3.length c3) (.slice a4 m.4.length c4) (.slice a5 m.5.length c5) (.slice a6 m.6.length c6) m (.slice (some ⟨g,0,none⟩) m.6.length bc) ts w9.1.size/\AtC w4 bd 42 (K7 id k2 io pt bk sl nm bt ot af pa bl.length pc)/\NOwns w4 42 11 u3 (rowsW ds' ts)/\(k2=5↔kd=5)):=by
       have hz:=HZ.o;have hdv:∀k,(Value.slice a5 m.5.length c5).ownBlock=some k->k<w.1.size:=fun k hk=>(HSS.o k (HDV.o k hk)).2;exact⟨6,I4,(C4.block bd HIB.o.2.1.lt (fun e=>by have:=hdv _ e;omega)).trans HIB.o.2.1,HIB.o.2.2.of_heap fun k hk=>C4.block k (HIB.o.2.2.lt k hk) (fun e=>by have:=hdv _ e;have:=HLW.o k hk;omega),by have:=hr1 sI;omega⟩
      clear I4 C4;go_wp2_with fail
      go_meet
      exact HIC.o
    case rest =>
     obtain⟨k2,hIc,hAc,hNc,hk5⟩:=hcut;obtain⟨wD,rfl⟩:∃wD,wD=wc:=⟨wc,rfl⟩
     have HIA2:=hide (And.intro hIc (And.intro hAc hNc));clear hIc hAc hNc HIA d1 d7 d8 d2 dz;have d1:=HIA2.o.2.1.c1;have d7:=HIA2.o.2.1.c7;have d8:=HIA2.o.2.1.c8;have d4:=HIA2.o.2.1.c4;have dz:=HIA2.o.2.1.frozen 1;have HRN2:Hid (RN KDep wD (.slice (some ⟨g,0,none⟩) m.6.length bc) m.ds):=by
      obtain⟨fs2,-,-,hN,hC,-⟩:=HIA2.o.1;exact HRN.o wD _ hC hN (fun k hk e=>by have:=(HSS.o k e).2;have:=HV9.o k hk;omega)
     go_upto_region 9 with fail
     go_cut [57]from 13 to 67 (fun c wx=>(∃r,c=.bool r/\(r=true->k2=2))/\wx=wD)
     case first =>
      by_cases hk2:k2=2
      ·subst hk2
       cases bt<;>cases ot<;>(go_wp2_with (go_at_call 224;refine(zi5 _ m.ds bk _ HRN2.o oM).mono ?_;rintro e w7 ⟨⟨r7,rfl⟩,rfl⟩);go_meet;exact⟨⟨_,rfl,by simp⟩,rfl⟩)
      ·have hk2b:(k2==2)=false:=by simp[hk2]
       exact cQ108
     case rest =>
      obtain⟨⟨r,rfl,hr2⟩,rfl⟩:=hcut;clear HRN2;go_upto_if 57 with fail
      go_cut []from 13 to 67 (fun wx=>∃k3,RI w wx S b (.slice a1 m.1.length c1) (.slice a2 m.2.length c2) (.slice a3 m.3.length c3) (.slice a4 m.4.length c4) (.slice a5 m.5.length c5) (.slice a6 m.6.length c6) m (.slice (some ⟨g,0,none⟩) m.6.length bc) ts w9.1.size/\AtC wx bd 42 (K7 id k3 io pt bk sl nm bt ot af pa bl.length pc)/\NOwns wx 42 11 u3 (rowsW ds' ts)/\(k3=5↔kd=5))
      case first =>
       cases r
       ·go_wp2_with fail
        go_meet
        exact⟨k2,HIA2.o.1,HIA2.o.2.1,HIA2.o.2.2,hk5⟩
       ·have HIB:Hid (RI w (wc.setCell ⟨bd,1,none⟩ (.int .i64 3)) S b (.slice a1 m.1.length c1) (.slice a2 m.2.length c2) (.slice a3 m.3.length c3) (.slice a4 m.4.length c4) (.slice a5 m.5.length c5) (.slice a6 m.6.length c6) m (.slice (some ⟨g,0,none⟩) m.6.length bc) ts w9.1.size/\AtC (wc.setCell ⟨bd,1,none⟩ (.int .i64 3)) bd 42 (K7 id 3 io pt bk sl nm bt ot af pa bl.length pc)/\NOwns (wc.setCell ⟨bd,1,none⟩ (.int .i64 3)) 42 11 u3 (rowsW ds' ts)):=by
         have hz:=HZ.o;have hbb:=HBL.o.1;exact⟨HIA2.o.1.set (fun e=>by have:=(HSS.o _ e).2;omega) oM (fun e=>by simp only[Value.ownBlock,Option.some.injEq]at e;have:=HV9o.o;omega) oM,HIA2.o.2.1.set 1 _,HIA2.o.2.2.of_heap fun k hk=>heap_setCell_other _ ⟨bd,1,none⟩ k _ (by have:=HLV.o k hk;show k≠bd;omega)⟩
        have e4:=HIB.o.2.1.c4;obtain⟨U,hU⟩:∃U,uoB bk=U:=⟨_,rfl⟩
        have CU:Hid (∀W,Calls Tryz.prog 203 #[.int .i64 bk] W fun e w'=>e=.returned (.int .i64 U)/\w'=W):=fun W=>by rw[←hU];exact zbl _ W
        clear hU;go_wp2_with fail
        generalize wc.setCell ⟨bd,1,none⟩ (.int .i64 3)=wB at*;refine(CU.out _).mono ?_;rintro e w3 ⟨rfl,hw3⟩;rw[hw3];clear hw3 w3;go_wp2_with fail
        refine(zh7 w wB S b U _ _ _ _ _ _ m _ ts w9.1.size HIB.o.1 (fun k hk=>by have:=(HSS.o k (HDV.o k hk)).2;exact fun e=>by have:=HV9.o k e;omega)).mono ?_;rintro e w4 ⟨rfl,I4,C4⟩;have HIC:Hid (∃k2,RI w w4 S b (.slice a1 m.1.length c1) (.slice a2 m.2.length c2) (.slice a3 m.3.length c3) (.slice a4 m.4.length c4) (.slice a5 m.5.length c5) (.slice a6 m.6.length c6) m (.slice (some ⟨g,0,none⟩) m.6.length bc) ts w9.1.size/\AtC w4 bd 42 (K7 id k2 io pt bk sl nm bt ot af pa bl.length pc)/\NOwns w4 42 11 u3 (rowsW ds' ts)/\(k2=5↔kd=5)):=by
         have hz:=HZ.o;have hdv:∀k,(Value.slice a5 m.5.length c5).ownBlock=some k->k<w.1.size:=fun k hk=>(HSS.o k (HDV.o k hk)).2;exact⟨3,I4,(C4.block bd HIB.o.2.1.lt (fun e=>by have:=hdv _ e;omega)).trans HIB.o.2.1,HIB.o.2.2.of_heap fun k hk=>C4.block k (HIB.o.2.2.lt k hk) (fun e=>by have:=hdv _ e;have:=HLW.o k hk;omega),by have:=hr2 sI;omega⟩
        clear I4 C4;go_wp2_with fail
        go_meet
        exact HIC.o
      case rest =>
       obtain⟨k3,hIc,hAc,hNc,hk53⟩:=hcut;obtain⟨wE,rfl⟩:∃wE,wE=wc:=⟨wc,rfl⟩
       clear HIA2 d1 d7 d8 d4 dz;obtain⟨d0,d1,d2,d3,d4,d5,d6,d7,d8,d9,d10⟩:=AtC.elv hAc;have HT:Hid (NOwns (wE.alloc (.cells (K7 id k3 io pt bk sl nm bt ot af pa bl.length pc) 42)) 42 11 u3 (rowsW ds' ts)):=hNc.of_heap fun k hk=>((Below.refl _ wE).alloc nR _).block k (hNc.lt k hk);have HTL:Hid ((rowsW ds' ts).length<=100000000000):=by
        have:=HDS.o.1;show _<=_;rw[zc1];omega
       have HSTEP:Hid (∀v' w',NOwns w' 42 11 v' (rowsW ds' ts++[(⟨id,k3,io,pt,bk,sl,nm,bt,ot,af,bl⟩:Dp).row (.slice pa bl.length pc)])->(wE.alloc (.cells (K7 id k3 io pt bk sl nm bt ot af pa bl.length pc) 42)).grownBy w' u3.ownBlock->(∀k,v'.ownBlock=some k->u3.ownBlock=some k\/(wE.alloc (.cells (K7 id k3 io pt bk sl nm bt ot af pa bl.length pc) 42)).1.size<=k)->NOwns w' 42 11 v' (rowsW (ds'++[(⟨id,k3,io,pt,bk,sl,nm,bt,ot,af,bl⟩:Dp)]) ts)/\(ds'++[(⟨id,k3,io,pt,bk,sl,nm,bt,ot,af,bl⟩:Dp)]).length=q+1/\(∀(i:Nat) (h1:i<(ds'++[(⟨id,k3,io,pt,bk,sl,nm,bt,ot,af,bl⟩:Dp)]).length) (h2:i<m.6.length),(ds'++[(⟨id,k3,io,pt,bk,sl,nm,bt,ot,af,bl⟩:Dp)])[i].bl=m.ds[i].bl/\AlkD (ds'++[(⟨id,k3,io,pt,bk,sl,nm,bt,ot,af,bl⟩:Dp)])[i] m.ds[i])/\(∀d∈ds'++[(⟨id,k3,io,pt,bk,sl,nm,bt,ot,af,bl⟩:Dp)],DOk d)/\(∀k,v'.ownBlock=some k->w9.1.size<=k)/\RI w w' S b (.slice a1 m.1.length c1) (.slice a2 m.2.length c2) (.slice a3 m.3.length c3) (.slice a4 m.4.length c4) (.slice a5 m.5.length c5) (.slice a6 m.6.length c6) m (.slice (some ⟨g,0,none⟩) m.6.length bc) ts w9.1.size):=fun v' w' j1 j2 j3=>by
        have hz:w9.1.size<=wE.1.size:=by obtain⟨-,-,-,-,-,z⟩:=hIc;exact z
        refine⟨by rw[HSN.o];exact j1,by have:=HDS.o.1;simp;omega,HBLS.o _ rfl ⟨hk53,fun _=>⟨rfl,rfl⟩⟩,fun d hd=>?_,fun k hk=>?_,?_⟩
        ·rcases List.mem_append.mp hd with e|e
         ·exact HDS.o.2.1 d e
         ·simp only[List.mem_cons,List.not_mem_nil,or_false]at e;subst e;have:=HDK.o;exact⟨⟨this.io,this.pt,this.bk,this.sl,this.bl,this.bn,this.nm⟩,this.id⟩
        ·rcases j3 k hk with e|e
         ·exact HLW.o k e
         ·simp at e;omega
        ·obtain⟨fs2,z1,z2,z3,z4,z5⟩:=hIc.below ((Below.refl _ wE).alloc nR (.cells (K7 id k3 io pt bk sl nm bt ot af pa bl.length pc) 42));have hw9:=h9;have un:∀k,k<w9.1.size->w'.1[k]?=(wE.alloc (.cells (K7 id k3 io pt bk sl nm bt ot af pa bl.length pc) 42)).1[k]?:=fun k hk=>j2.block k sO fun e=>by have:=HLW.o k e.symm;omega
         have hbb:=HBL.o.1;refine⟨fs2,⟨(un b oM).trans z1.box,z1.own.of_heap fun k hk _=>un k (by have:=(HSS.o k hk).2;omega),z1.nb⟩,z2,z3.of_heap fun k hk=>un k (by have:=HI0.o;obtain⟨-,-,-,zz,-,-⟩:=this;exact zz.lt k hk),⟨j2.os.trans z4.os,j2.tape.trans z4.tape,j2.output.trans z4.output,Nat.le_trans z4.size j2.size,fun k hk hn=>(un k oM).trans (z4.block k hk hn)⟩,Nat.le_trans z5 j2.size⟩
       have HAA:=hide hAc;clear hIc hAc hNc HDS HDK HBLS HSN;go_wp2_with (at_builtin;refine wpList_step fun K' hK'=>?_;refine zat _ rfl (.tmp 64) (.tmp 66) 31 rfl 42 Tryz.u31 _ 11 104 Tryz.i42 rfl dC dC u3 _ rfl HT.o wE.1.size ((⟨id,k3,io,pt,bk,sl,nm,bt,ot,af,bl⟩:Dp).row (.slice pa bl.length pc)) rfl rfl (fun i u hu=>(AtC.new wE 42 (K7 id k3 io pt bk sl nm bt ot af pa bl.length pc)).at_ i u hu) (by simp[Dp.row,Value.oneCell']) HTL.o ?_;intro v12 w12 T12 G12 V12;refine hK' _ _ ?_;have HR12:=hide (HSTEP.o v12 w12 T12 G12 V12);clear T12 G12 V12 hK')
       go_roundw
       case rel=>exact⟨q+1,_,by omega,by go_num,HR12.o⟩
       case measure=>simp[intOf];omega
  ·obtain⟨hn,hd1,hdb,hdo,hlo,fs',P',hfl,hN',hC,hz⟩:=HR.o;have hq2:q=m.6.length:=by omega
   obtain⟨ga,gc,rfl,-⟩:=hn.form;have hbb:=HBL.o;have hrl:(rowsW ds' ts).length=q:=by rw[zc1,HLN.o];omega
   rw[hrl]at hn hlo;have HFIN:Hid (BT Z (wr.setCell ⟨b,5,none⟩ (.slice ga q gc)) T b/\Chg T w (wr.setCell ⟨b,5,none⟩ (.slice ga q gc))):=by
    have pk:=HKF.o wr (.slice ga q gc) fs' ds' hC P'.ownF oM (fun i h1 h2=>(hdb i h1 h2).1) hn (fun k hk=>⟨fun e=>by have:=(HSS.o k e).2;have:=hlo k hk;omega,by have:=hlo k hk;omega⟩);refine⟨⟨_,_,_,_,_,_,_,_,pk,fun k hk=>?_,hbb.2,⟨HM.o.x,HM.o.y,HM.o.i,HM.o.ii,HM.o.b,HM.o.bb,by rw[←HM.o.f];exact hfl,by show ds'.length<=40;omega,hdo,HM.o.nx,HM.o.k.of rfl (zgt ds' m.ds oM (fun i h1 h2=>(hdb i h1 h2).2)) rfl⟩⟩,(hC.mono fun k hk=>(HSS.o k (HDV.o k hk)).1).setCell hbb.2 _⟩;rcases hk with hk|hk
    ·exact(HSS.o k hk).1
    ·exact HTT.o k (by have:=hlo k hk;omega)
   have z5:=P'.box.c5;have zf:=P'.box.frozen 5;rw[hrl];clear hn hdb hdo hlo P' hN' hC HR hrl hd1 hfl hq2;go_wp2
   go_end0
   exact⟨rfl,HFIN.o⟩
variable {Z : ZT}
theorem flag_any(L b:Nat)(x:Int)(w:World)(h:BX Z w L b):
  Calls Tryz.prog 211 #[.pointer (some ⟨b,0,none⟩),.int .i64 x] w fun e w'=>e=.returned (.tuple #[])/\BX Z w' L b/\Below L w w':=by
 obtain⟨S,u,v,iv,bv,dv,pv,m,hP,hSL,hLb,hS⟩:=h;obtain⟨a6,c6,rfl,-⟩:=hP.mr.p;obtain⟨n,hn⟩:∃n,m.6.length=n:=⟨_,rfl⟩
 rw[hn]at hP;have hn40:n<=40:=by rw[←hn];exact hS.l
 have x5:=hP.box.c5;have HH:Hid (PM w S b u v iv bv dv (.slice a6 n c6) m/\Sh Z m/\m.6.length=n/\Below L w w):=⟨hP,hS,hn,Below.refl _ _⟩
 have HSL:=hide hSL;have HLB:=hide hLb;clear hP hS hn hSL hLb;go_enter Tryz.func211,Tryz.ntmps211
 go_wp2;go_loopw [4] (fun i wr=>∃j:Nat,j<=n/\i=.int .i64 j/\Hid (∃m':MD,PM wr S b u v iv bv dv (.slice a6 n c6) m'/\Sh Z m'/\m'.6.length=n/\Below L w wr)) (fun i _=>n-(intOf i).toNat)
 case atStart=>exact⟨0,Nat.zero_le _,rfl,m,HH.o⟩
 case round =>
  obtain⟨j,hj,rfl,HR⟩:=hrel;obtain⟨m',q1,q2,q3,q4⟩:=HR.o;have y5:=q1.box.c5;by_cases hlt:j<n
  ·have hj2:j<m'.6.length:=by omega
   have hdk:=q2.dd _ (List.getElem_mem hj2);obtain⟨g,c,p,e1,nn,rp,-,-,hglt,-⟩:=q1.dep_at j hj2;rw[q3]at e1;simp only[Value.slice.injEq,true_and]at e1;obtain⟨rfl,rfl⟩:=e1;obtain⟨X,hX⟩:∃X,m'.ds[j]=X:=⟨_,rfl⟩
   rw[hX]at nn rp hdk;obtain⟨id,kd,io,pt,bk,sl,nm,bt,ot,af,bl⟩:=X;simp only at rp;obtain⟨pa,pc,rfl⟩:=rp.form;simp only[DCells]at nn;obtain⟨n0,n1,n2,n3,n4,n5,n6,n7,n8,n9,n10⟩:=nn;have HT:Hid (∀(bt' ot':Bool)(W:World)(M:MD),PM W S b u v iv bv dv (.slice (some ⟨g,0,none⟩) n c6) M->Sh Z M->M.ds.length=n->(∃h:j<M.ds.length,M.ds[j]=(⟨id,kd,io,pt,bk,sl,nm,bt',ot',af,bl⟩:Dp))->Below L w W ->
     W.cell? ⟨b,5,none⟩=some (.slice (some ⟨g,0,none⟩) n c6)/\W.cell? ⟨g,j*11+7,none⟩=some (.bool bt')/\W.frozen? ⟨g,j*11+7,none⟩=false/\W.cell? ⟨g,j*11+8,none⟩=some (.bool ot')/\W.frozen? ⟨g,j*11+8,none⟩=false /\
     (∃M',PM (W.setCell ⟨g,j*11+7,none⟩ (.bool true)) S b u v iv bv dv (.slice (some ⟨g,0,none⟩) n c6) M'/\Sh Z M'/\M'.ds.length=n/\(∃h:j<M'.ds.length,M'.ds[j]=(⟨id,kd,io,pt,bk,sl,nm,true,ot',af,bl⟩:Dp))/\Below L w (W.setCell ⟨g,j*11+7,none⟩ (.bool true))) /\
     (∃M',PM (W.setCell ⟨g,j*11+8,none⟩ (.bool true)) S b u v iv bv dv (.slice (some ⟨g,0,none⟩) n c6) M'/\Sh Z M'/\M'.ds.length=n/\(∃h:j<M'.ds.length,M'.ds[j]=(⟨id,kd,io,pt,bk,sl,nm,bt',true,af,bl⟩:Dp))/\Below L w (W.setCell ⟨g,j*11+8,none⟩ (.bool true)))):=fun bt' ot' W M h1 h2 h3 h4 h5=>by
    obtain⟨hjM,hM⟩:=h4;obtain⟨g',c',p',e1,nn,rp,hz,gS,glt,hset⟩:=h1.dep_at j hjM;simp only[Value.slice.injEq,Option.some.injEq,Addr.mk.injEq,and_true]at e1;obtain⟨rfl,-,rfl⟩:=e1;have dk:=h2.dd _ (List.getElem_mem hjM);rw[hM]at nn hset dk;simp only[DCells]at nn;obtain⟨-,-,-,-,-,-,-,z7,z8,-⟩:=nn;have mk:∀d':Dp,DOk d'->AlkD d' M.ds[j]->Sh Z { M with ds:=M.ds.set j d' }/\({ M with ds:=M.ds.set j d' }:MD).ds.length=n/\∃h:j<({ M with ds:=M.ds.set j d' }:MD).ds.length,({ M with ds:=M.ds.set j d' }:MD).ds[j]=d':=fun d' hd ha=>⟨h2.deps (by rw[List.length_set];exact h2.l) (fun q hq=>(List.mem_or_eq_of_mem_set hq).elim (h2.dd q) (fun e=>e ▸ hd)) (zd7 _ j hjM _ ha),by show(M.ds.set j d').length=n;rw[List.length_set];exact h3,by show j<(M.ds.set j d').length;rw[List.length_set];exact hjM,by show(M.ds.set j d')[j]'_=d';simp⟩
    refine⟨h1.box.cell 5,z7,hz _,z8,hz _,⟨_,hset 7 (.bool true) (⟨id,kd,io,pt,bk,sl,nm,true,ot',af,bl⟩:Dp) dC rfl rfl,?_⟩,⟨_,hset 8 (.bool true) (⟨id,kd,io,pt,bk,sl,nm,bt',true,af,bl⟩:Dp) dC rfl rfl,?_⟩⟩
    ·obtain⟨a,b',c⟩:=mk (⟨id,kd,io,pt,bk,sl,nm,true,ot',af,bl⟩:Dp) ⟨⟨dk.io,dk.pt,dk.bk,dk.sl,dk.bl,dk.bn,dk.nm⟩,dk.id⟩ (by rw[hM];exact⟨Iff.rfl,fun _=>⟨rfl,rfl⟩⟩);exact⟨a,b',c,h5.setCell (HSL.o _ gS) _⟩
    ·obtain⟨a,b',c⟩:=mk (⟨id,kd,io,pt,bk,sl,nm,bt',true,af,bl⟩:Dp) ⟨⟨dk.io,dk.pt,dk.bk,dk.sl,dk.bl,dk.bn,dk.nm⟩,dk.id⟩ (by rw[hM];exact⟨Iff.rfl,fun _=>⟨rfl,rfl⟩⟩);exact⟨a,b',c,h5.setCell (HSL.o _ gS) _⟩
   have bw:Below L w (wr.alloc (.cells (K7 id kd io pt bk sl nm bt ot af pa bl.length pc) 42)):=q4.alloc (Nat.le_trans HLB.o (Nat.le_of_lt q1.box.lt)) _;have T0:=HT.o bt ot (wr.alloc (.cells (K7 id kd io pt bk sl nm bt ot af pa bl.length pc) 42)) m' (q1.alloc _) q2 q3 ⟨hj2,hX⟩ bw;have H0:Hid (∃M',PM (wr.alloc (.cells (K7 id kd io pt bk sl nm bt ot af pa bl.length pc) 42)) S b u v iv bv dv (.slice (some ⟨g,0,none⟩) n c6) M'/\Sh Z M'/\M'.ds.length=n/\Below L w (wr.alloc (.cells (K7 id kd io pt bk sl nm bt ot af pa bl.length pc) 42))):=⟨m',q1.alloc _,q2,q3,bw⟩
   have HE:Hid (∃W7,(wr.alloc (.cells (K7 id kd io pt bk sl nm bt ot af pa bl.length pc) 42)).setCell ⟨g,j*11+7,none⟩ (.bool true)=W7/\W7.cell? ⟨b,5,none⟩=some (.slice (some ⟨g,0,none⟩) n c6)/\W7.cell? ⟨g,j*11+8,none⟩=some (.bool ot)/\W7.frozen? ⟨g,j*11+8,none⟩=false/\AtC W7 wr.1.size 42 (K7 id kd io pt bk sl nm bt ot af pa bl.length pc)/\Hid ((∃M',PM W7 S b u v iv bv dv (.slice (some ⟨g,0,none⟩) n c6) M'/\Sh Z M'/\M'.ds.length=n/\Below L w W7)/\∃M',PM (W7.setCell ⟨g,j*11+8,none⟩ (.bool true)) S b u v iv bv dv (.slice (some ⟨g,0,none⟩) n c6) M'/\Sh Z M'/\M'.ds.length=n/\Below L w (W7.setCell ⟨g,j*11+8,none⟩ (.bool true)))):=by
    obtain⟨M1,r1,r2,r3,r4,r5⟩:=T0.2.2.2.2.2.1;obtain⟨s1,-,-,s4,s5,-,M2,t1,t2,t3,-,t5⟩:=HT.o true ot _ M1 r1 r2 r3 r4 r5;exact⟨_,rfl,s1,s4,s5,(AtC.new wr 42 _).other (Nat.ne_of_gt hglt) _,⟨M1,r1,r2,r3,r5⟩,M2,t1,t2,t3,t5⟩
   have HO:Hid (∃W8,(wr.alloc (.cells (K7 id kd io pt bk sl nm bt ot af pa bl.length pc) 42)).setCell ⟨g,j*11+8,none⟩ (.bool true)=W8/\Hid (∃M',PM W8 S b u v iv bv dv (.slice (some ⟨g,0,none⟩) n c6) M'/\Sh Z M'/\M'.ds.length=n/\Below L w W8)):=by
    obtain⟨M2,t1,t2,t3,-,t5⟩:=T0.2.2.2.2.2.2;exact⟨_,rfl,M2,t1,t2,t3,t5⟩
   obtain⟨z5,z7,f7,z8,f8,-,-⟩:=T0;clear HT q1 q2 q3 q4 HR bw hX rp hdk;have j0:(0:Int)<=(j:Int):=by omega
   have j1:(j:Int)<(n:Int):=by omega
   by_cases h1:kd=1
   ·subst h1;obtain⟨U,hU⟩:∃U,uoB bk=U:=⟨_,rfl⟩
    have CU:Hid (∀W,Calls Tryz.prog 203 #[.int .i64 bk] W fun e w'=>e=.returned (.int .i64 U)/\w'=W):=fun W=>by rw[←hU];exact zbl bk W
    clear hU;by_cases hx:x=0
    ·subst hx;obtain⟨W7,hW7,a5,a8,b8,A7,HW⟩:=HE.o;have d1:=A7.c1;have d2:=A7.c2;have d4:=A7.c4;clear A7;by_cases hU:U=0
     ·subst hU;go_wp2_with (go_at_call 203;refine(CU.out _).mono ?_;rintro e w9 ⟨rfl,rfl⟩)
      go_roundw
      case rel=>exact⟨j+1,by omega,by go_num,HW.o.2⟩
      case measure=>simp[intOf];omega
     ·go_wp2_with (go_at_call 203;refine(CU.out _).mono ?_;rintro e w9 ⟨rfl,rfl⟩)
      go_roundw
      case rel=>exact⟨j+1,by omega,by go_num,HW.o.1⟩
      case measure=>simp[intOf];omega
    ·by_cases hU:U=x
     ·subst hU;obtain⟨W8,hW8,HW⟩:=HO.o;go_wp2_with (go_at_call 203;refine(CU.out _).mono ?_;rintro e w9 ⟨rfl,rfl⟩)
      go_roundw
      case rel=>exact⟨j+1,by omega,by go_num,HW.o⟩
      case measure=>simp[intOf];omega
     ·go_wp2_with (go_at_call 203;refine(CU.out _).mono ?_;rintro e w9 ⟨rfl,rfl⟩)
      go_roundw
      case rel=>exact⟨j+1,by omega,by go_num,H0.o⟩
      case measure=>simp[intOf];omega
   ·by_cases h2:kd=2
    ·subst h2;obtain⟨U,hU⟩:∃U,uoI io=U:=⟨_,rfl⟩
     have CU:Hid (∀W,Calls Tryz.prog 198 #[.int .i64 io] W fun e w'=>e=.returned (.int .i64 U)/\w'=W):=fun W=>by rw[←hU];exact zbr io W
     clear hU;by_cases hx:x=0
     ·subst hx;obtain⟨W7,hW7,a5,a8,b8,A7,HW⟩:=HE.o;have d1:=A7.c1;have d2:=A7.c2;have d4:=A7.c4;clear A7;by_cases hU:U=0
      ·subst hU;go_wp2_with (go_at_call 198;refine(CU.out _).mono ?_;rintro e w9 ⟨rfl,rfl⟩)
       go_roundw
       case rel=>exact⟨j+1,by omega,by go_num,HW.o.2⟩
       case measure=>simp[intOf];omega
      ·go_wp2_with (go_at_call 198;refine(CU.out _).mono ?_;rintro e w9 ⟨rfl,rfl⟩)
       go_roundw
       case rel=>exact⟨j+1,by omega,by go_num,HW.o.1⟩
       case measure=>simp[intOf];omega
     ·by_cases hU:U=x
      ·subst hU;obtain⟨W8,hW8,HW⟩:=HO.o;go_wp2_with (go_at_call 198;refine(CU.out _).mono ?_;rintro e w9 ⟨rfl,rfl⟩)
       go_roundw
       case rel=>exact⟨j+1,by omega,by go_num,HW.o⟩
       case measure=>simp[intOf];omega
      ·go_wp2_with (go_at_call 198;refine(CU.out _).mono ?_;rintro e w9 ⟨rfl,rfl⟩)
       go_roundw
       case rel=>exact⟨j+1,by omega,by go_num,H0.o⟩
       case measure=>simp[intOf];omega
    ·have g1:decide (kd=1)=false:=decide_eq_false h1;have g2:decide (kd=2)=false:=decide_eq_false h2;by_cases hx:x=0
     ·subst hx;obtain⟨W7,hW7,a5,a8,b8,A7,HW⟩:=HE.o;have d1:=A7.c1;have d2:=A7.c2;have d4:=A7.c4;clear A7;go_wp2
      ·go_roundw
       case rel=>exact⟨j+1,by omega,by go_num,HW.o.1⟩
       case measure=>simp[intOf];omega
      ·go_roundw
       case rel=>exact⟨j+1,by omega,by go_num,H0.o⟩
       case measure=>simp[intOf];omega
     ·exact cQ42
  ·have HF:Hid (BX Z wr L b/\Below L w wr):=⟨⟨S,u,v,iv,bv,dv,_,m',q1,HSL.o,HLB.o,q2⟩,q4⟩
   exact cQ92
namespace Kit
variable {Z : ZT}
theorem Chg.belowT{w w':World}{L:Nat}(h:Chg (fun k=>L<=k) w w')(hL:L<=w.1.size):Below L w w':=h.below hL fun _ hk=>hk
end Kit
variable {Z : ZT}
theorem done_in(u v iv bv dv pv:Value)(m:MD)(x:Int)(w:World)(h:MR w u v iv bv dv pv m)(hm:Sh Z m)(hzz:∀d∈m.ds,d.kd=5->∀p∈d.bl,Z d.id p):
  Calls Tryz.prog 177 #[.agg #[u,v,iv,bv,dv,pv,.int .i64 m.nx],.int .i64 x] w fun e w'=>∃u' v' i' b' d' p' m',e=.returned (.agg #[u',v',i',b',d',p',.int .i64 m'.nx])/\MO w' (fun k=>w.1.size<=k) u' v' i' b' d' p' m'/\Sh Z m'/\Below w.1.size w w':=by
 obtain⟨a1,c1,a2,c2,a3,c3,a4,c4,a5,c5,a6,c6,rfl,rfl,rfl,rfl,rfl,rfl⟩:=h.form;have HH:=hide h;have HM:=hide hm;have HZZ:=hide hzz;clear hzz;have hdl:m.6.length<=40:=hm.l;have HW0:Hid (∀W,Below ((w.alloc (.cells (M7 m a1 c1 a2 c2 a3 c3 a4 c4 a5 c5 a6 c6) 33)).alloc (.cells noM 33)).1.size ((w.alloc (.cells (M7 m a1 c1 a2 c2 a3 c3 a4 c4 a5 c5 a6 c6) 33)).alloc (.cells noM 33)) W->Below w.1.size w W/\AtC W (w.1.size+1) 33 noM/\AtC W w.1.size 33 (M7 m a1 c1 a2 c2 a3 c3 a4 c4 a5 c5 a6 c6)/\w.1.size+1+1<=W.1.size):=fun W b2=>by
  have k1:=(AtC.new (w.alloc (.cells (M7 m a1 c1 a2 c2 a3 c3 a4 c4 a5 c5 a6 c6) 33)) 33 noM).over b2;have k2:=((AtC.new w 33 (M7 m a1 c1 a2 c2 a3 c3 a4 c4 a5 c5 a6 c6)).over ((Below.refl _ (w.alloc (.cells (M7 m a1 c1 a2 c2 a3 c3 a4 c4 a5 c5 a6 c6) 33))).alloc nR (.cells noM 33))).over b2;have sz:=b2.size;simp at k1 sz;exact⟨(((Below.refl _ w).alloc nR _).alloc sI _).trans (b2.mono sO),k1,k2,sz⟩
 have x0:((w.alloc (.cells (M7 m a1 c1 a2 c2 a3 c3 a4 c4 a5 c5 a6 c6) 33)).alloc (.cells noM 33)).cell? ⟨w.1.size,0,none⟩=some (.slice a1 m.1.length c1):=(HW0.o _ bR).2.2.1.cell 0;have x1:((w.alloc (.cells (M7 m a1 c1 a2 c2 a3 c3 a4 c4 a5 c5 a6 c6) 33)).alloc (.cells noM 33)).cell? ⟨w.1.size,1,none⟩=some (.slice a2 m.2.length c2):=(HW0.o _ bR).2.2.1.cell 1;have x2:((w.alloc (.cells (M7 m a1 c1 a2 c2 a3 c3 a4 c4 a5 c5 a6 c6) 33)).alloc (.cells noM 33)).cell? ⟨w.1.size,2,none⟩=some (.slice a3 m.3.length c3):=(HW0.o _ bR).2.2.1.cell 2;have x3:((w.alloc (.cells (M7 m a1 c1 a2 c2 a3 c3 a4 c4 a5 c5 a6 c6) 33)).alloc (.cells noM 33)).cell? ⟨w.1.size,3,none⟩=some (.slice a4 m.4.length c4):=(HW0.o _ bR).2.2.1.cell 3;have x4:((w.alloc (.cells (M7 m a1 c1 a2 c2 a3 c3 a4 c4 a5 c5 a6 c6) 33)).alloc (.cells noM 33)).cell? ⟨w.1.size,4,none⟩=some (.slice a5 m.5.length c5):=(HW0.o _ bR).2.2.1.cell 4;have x5:((w.alloc (.cells (M7 m a1 c1 a2 c2 a3 c3 a4 c4 a5 c5 a6 c6) 33)).alloc (.cells noM 33)).cell? ⟨w.1.size,5,none⟩=some (.slice a6 m.6.length c6):=(HW0.o _ bR).2.2.1.cell 5;have x6:((w.alloc (.cells (M7 m a1 c1 a2 c2 a3 c3 a4 c4 a5 c5 a6 c6) 33)).alloc (.cells noM 33)).cell? ⟨w.1.size,6,none⟩=some (.int .i64 m.nx):=(HW0.o _ bR).2.2.1.cell 6;clear h hm;go_enter Tryz.func177,Tryz.ntmps177
 go_wp2_with fail
 refine(zax _ _ _ _ _ _ m _ (HH.o.below (HW0.o _ bR).1 nR) HM.o.big).mono ?_;rintro e w1 ⟨u1,u2,u3,u4,u5,u6,rfl,O1,B1⟩;obtain⟨n1,o1,n2,o2,n3,o3,n4,o4,n5,o5,n6,o6,rfl,rfl,rfl,rfl,rfl,rfl⟩:=O1.mr.form;have k1:=HW0.o w1 B1;have hz1:=k1.2.2.2;have HP1:Hid (BX Z (w1.alloc (.cells (M7 m n1 o1 n2 o2 n3 o3 n4 o4 n5 o5 n6 o6) 33)) (w.1.size+2) w1.1.size):=⟨_,_,_,_,_,_,_,m,PM.new O1,fun k hk=>by have:=hk.1;simp at this;omega,by omega,HM.o⟩
 have HRS:Hid (∀W,Below (w.1.size+2) (w1.alloc (.cells (M7 m n1 o1 n2 o2 n3 o3 n4 o4 n5 o5 n6 o6) 33)) W->Below w.1.size w W/\AtC W (w.1.size+1) 33 noM/\AtC W w.1.size 33 (M7 m a1 c1 a2 c2 a3 c3 a4 c4 a5 c5 a6 c6)/\w1.1.size+1<=W.1.size):=fun W bb=>by
  have b3:Below w1.1.size w1 (w1.alloc (.cells (M7 m n1 o1 n2 o2 n3 o3 n4 o4 n5 o5 n6 o6) 33)):=(Below.refl _ w1).alloc nR _;have k2:=HW0.o _ (B1.trans (b3.mono B1.size));have sz:=bb.size;simp at sz;exact⟨k2.1.trans (bb.mono oM),(bb.block _ oM).trans k2.2.1,(bb.block _ oM).trans k2.2.2.1,sz⟩
 have HW1:=hide k1;clear O1 B1 k1 x0 x1 x2 x3 x4 x5 x6;go_upto_region 2 with fail
 generalize hb:w1.1.size=b at*;have HB:=hide hb;generalize hW2:w1.alloc (.cells (M7 m n1 o1 n2 o2 n3 o3 n4 o4 n5 o5 n6 o6) 33)=W2 at*;clear hW2 hb;have hb0:w.1.size+2<=b:=hz1;have A2:=(HRS.o W2 bR).2.2.1;obtain⟨y0,y1,y2,y3,y4,y5,y6⟩:=AtC.sev A2;have CM:Hid (∀W,Below w.1.size w W->Calls Tryz.prog 192 #[.agg (M7 m a1 c1 a2 c2 a3 c3 a4 c4 a5 c5 a6 c6)] W fun e w'=>AnyB e/\Below W.1.size W w'):=fun W bb=>zb4 _ _ _ _ _ _ m W (HH.o.below bb nR) HM.o;clear A2;go_cut [18]from 9 to 18 (fun c wx=>(∃r,c=.bool r/\(r=false->0<=x/\x<=20))/\Below W2.1.size W2 wx)
 case first =>
  go_wp2_with (first| (go_at_call 192;refine(CM.out _ (HRS.o _ bR).1).mono ?_;rintro e w2 ⟨⟨r,rfl⟩,B2⟩;have HB2:=hide B2;clear B2;cases r)| (go_at_call 50;refine(zai x 0 20 _).mono ?_;rintro e w3 ⟨rfl,rfl⟩;have HIB:Hid (inB x 0 20=true->0<=x/\x<=20):=zas;generalize inB x 0 20=ri at*;cases ri))
  all_goals (go_meet;first| exact⟨⟨_,rfl,fun _=>HIB.o rfl⟩,HB2.o⟩| exact⟨⟨_,rfl,fun _=>HIB.o⟩,HB2.o⟩| exact⟨⟨_,rfl,fun _=>HIB.o trivial⟩,HB2.o⟩| exact⟨⟨_,rfl,fun e=>absurd e dC⟩,HB2.o⟩)
 case rest =>
  obtain⟨⟨r,rfl,hxr⟩,hbw⟩:=hcut;obtain⟨w3,rfl⟩:∃w3,w3=wc:=⟨wc,rfl⟩
  have HBL:Hid (BX Z w3 (w.1.size+2) b/\Below (w.1.size+2) W2 w3):=⟨HP1.o.below hbw,hbw.mono (by have:=(HRS.o W2 bR).2.2.2;omega)⟩
  have HBB:Hid (b<w3.1.size):=by have:=(HRS.o W2 bR).2.2.2;have:=hbw.size;show _<_;omega
  clear hbw y0 y1 y2 y3 y4 y5 y6 HP1
  cases r
  case true =>
   obtain⟨S,pu,pv,pi,pb,pd,pp,mp,hP,hSL,hLb,hmp⟩:=HBL.o.1;obtain⟨p1,r1,p2,r2,p3,r3,p4,r4,p5,r5,p6,r6,rfl,rfl,rfl,rfl,rfl,rfl⟩:=hP.form;have RS:=(HRS.o w3 HBL.o.2).2.1;obtain⟨y0,y1,y2,y3,y4,y5,y6⟩:=AtC.sev hP.box;have s0:=RS.c0;have z0:=RS.frozen 0;have s1:=RS.c1;have z1:=RS.frozen 1;have s2:=RS.c2;have z2:=RS.frozen 2;have s3:=RS.c3;have z3:=RS.frozen 3;have s4:=RS.c4;have z4:=RS.frozen 4;have s5:=RS.c5;have z5:=RS.frozen 5;have s6:=RS.c6;have z6:=RS.frozen 6;have HFIN:Hid (∃m',Sh Z m'/\m'.nx=mp.nx/\MO (((((((w3.setCell ⟨w.1.size+1,0,none⟩ (.slice p1 mp.1.length r1)).setCell ⟨w.1.size+1,1,none⟩ (.slice p2 mp.2.length r2)).setCell ⟨w.1.size+1,2,none⟩ (.slice p3 mp.3.length r3)).setCell ⟨w.1.size+1,3,none⟩ (.slice p4 mp.4.length r4)).setCell ⟨w.1.size+1,4,none⟩ (.slice p5 mp.5.length r5)).setCell ⟨w.1.size+1,5,none⟩ (.slice p6 mp.6.length r6)).setCell ⟨w.1.size+1,6,none⟩ (.int .i64 mp.nx)) (fun k=>w.1.size<=k) (.slice p1 mp.1.length r1) (.slice p2 mp.2.length r2) (.slice p3 mp.3.length r3) (.slice p4 mp.4.length r4) (.slice p5 mp.5.length r5) (.slice p6 mp.6.length r6) m'/\Below w.1.size w (((((((w3.setCell ⟨w.1.size+1,0,none⟩ (.slice p1 mp.1.length r1)).setCell ⟨w.1.size+1,1,none⟩ (.slice p2 mp.2.length r2)).setCell ⟨w.1.size+1,2,none⟩ (.slice p3 mp.3.length r3)).setCell ⟨w.1.size+1,3,none⟩ (.slice p4 mp.4.length r4)).setCell ⟨w.1.size+1,4,none⟩ (.slice p5 mp.5.length r5)).setCell ⟨w.1.size+1,5,none⟩ (.slice p6 mp.6.length r6)).setCell ⟨w.1.size+1,6,none⟩ (.int .i64 mp.nx))):=by
    have oth:∀k,k≠w.1.size+1->(((((((w3.setCell ⟨w.1.size+1,0,none⟩ (.slice p1 mp.1.length r1)).setCell ⟨w.1.size+1,1,none⟩ (.slice p2 mp.2.length r2)).setCell ⟨w.1.size+1,2,none⟩ (.slice p3 mp.3.length r3)).setCell ⟨w.1.size+1,3,none⟩ (.slice p4 mp.4.length r4)).setCell ⟨w.1.size+1,4,none⟩ (.slice p5 mp.5.length r5)).setCell ⟨w.1.size+1,5,none⟩ (.slice p6 mp.6.length r6)).setCell ⟨w.1.size+1,6,none⟩ (.int .i64 mp.nx)).1[k]?=w3.1[k]?:=fun k hk=>zaa _ _ _ _ _ _ _ _ _ k hk;refine⟨mp,hmp,rfl,(hP.own.of_heap fun k hk _=>oth k (by have:=hSL k hk;omega)).mono (fun k hk=>by have:=hSL k hk;omega),?_⟩;exact zab ((HRS.o w3 HBL.o.2).1) oM _ _ _ _ _ _ _
   clear hP hSL hmp RS;go_wp2;obtain⟨mf,q1,q2,q3,q4⟩:=HFIN.o;refine bodyPost_ret (v:=.agg (M7 mp p1 r1 p2 r2 p3 r3 p4 r4 p5 r5 p6 r6)) (by simp[results,go_sem,s0,s1,s2,s3,s4,s5,s6]) rfl ⟨_,_,_,_,_,_,mf,by rw[q2],q3,q1,q4⟩
  case false =>
   obtain⟨hx0,hx20⟩:=hxr rfl;obtain⟨n,rfl⟩:∃n:Nat,x=(n:Int):=⟨x.toNat,by omega⟩
   have hn:n<21:=by omega
   obtain⟨g,c,r,x0,x1,x2,x3,x4,x5⟩:=HBL.o.1.bt.bitF n hn;have HB3:Hid (BX Z (w3.setCell ⟨g,n,none⟩ (.bool false)) (w.1.size+2) b/\Below (w.1.size+2) W2 (w3.setCell ⟨g,n,none⟩ (.bool false))):=⟨(x5 false).bx,HBL.o.2.setCell x3 _⟩
   have n0:(0:Int)<=(n:Int):=by omega
   have n1:(n:Int)<21:=by omega
   clear x3 x4 x5 hxr;go_wp2_with fail
   generalize w3.setCell ⟨g,n,none⟩ (.bool false)=w4 at*;refine(flag_any (w.1.size+2) b n w4 HB3.o.1).mono ?_;rintro e w5 ⟨rfl,b5,c5⟩;have HB5:Hid (BX Z w5 (w.1.size+2) b/\Below (w.1.size+2) W2 w5):=⟨b5,HB3.o.2.trans c5⟩
   clear b5 c5 x0 x1 x2 HB3 HBL HBB;have z5:=(HRS.o w5 HB5.o.2).2.2.1.c5;obtain⟨a,c,ei,-,hc⟩:=HH.o.p.dep;simp only[Value.slice.injEq,true_and]at ei;obtain⟨rfl,rfl⟩:=ei;have HC:=hide hc;clear hc;go_wp2_with fail
   go_loopw [7] (fun i' wr=>∃q:Nat,q<=m.6.length/\i'=.int .i64 q/\Hid (BX Z wr (w.1.size+2) b/\Below (w.1.size+2) W2 wr)) (fun i' _=>m.6.length-(intOf i').toNat)
   case atStart=>exact⟨0,Nat.zero_le _,rfl,HB5.o⟩
   case round =>
    obtain⟨q,hq,rfl,HR⟩:=hrel;by_cases hlt:q<m.6.length
    ·obtain⟨g6,o6,p,rfl,hg6,nn,hp⟩:=HC.o q hlt;have hdk:=HM.o.dd _ (List.getElem_mem hlt);obtain⟨X,hX⟩:∃X,m.ds[q]=X:=⟨_,rfl⟩
     rw[hX]at nn hp hdk;obtain⟨id,kd,io,pt,bk,sl,nm,bt,ot,af,bl⟩:=X;simp only at hp;have HRP:Hid (∀W,Below (w.1.size+2) W2 W->RInts W p bl):=fun W bb=>hp.below ((HRS.o W bb).1) nR;obtain⟨pa,pc,rfl,-⟩:=hp;simp only[DCells]at nn;obtain⟨m0,m1,m2,m3,m4,m5,m6,m7,m8,m9,m10⟩:=nn;have hbw:=(HRS.o wr HR.o.2).1;have k0:wr.cell? ⟨g6,o6+q*11,none⟩=some (.int .i64 id):=(hbw.cell (p:=⟨g6,o6+q*11,none⟩) hg6).trans m0;have k1:wr.cell? ⟨g6,o6+q*11+1,none⟩=some (.int .i64 kd):=(hbw.cell (p:=⟨g6,o6+q*11+1,none⟩) hg6).trans m1;have k2:wr.cell? ⟨g6,o6+q*11+2,none⟩=some (.int .i64 io):=(hbw.cell (p:=⟨g6,o6+q*11+2,none⟩) hg6).trans m2;have k3:wr.cell? ⟨g6,o6+q*11+3,none⟩=some (.int .i64 pt):=(hbw.cell (p:=⟨g6,o6+q*11+3,none⟩) hg6).trans m3;have k4:wr.cell? ⟨g6,o6+q*11+4,none⟩=some (.int .i64 bk):=(hbw.cell (p:=⟨g6,o6+q*11+4,none⟩) hg6).trans m4;have k5:wr.cell? ⟨g6,o6+q*11+5,none⟩=some (.int .i64 sl):=(hbw.cell (p:=⟨g6,o6+q*11+5,none⟩) hg6).trans m5;have k6:wr.cell? ⟨g6,o6+q*11+6,none⟩=some (.string nm):=(hbw.cell (p:=⟨g6,o6+q*11+6,none⟩) hg6).trans m6;have k7:wr.cell? ⟨g6,o6+q*11+7,none⟩=some (.bool bt):=(hbw.cell (p:=⟨g6,o6+q*11+7,none⟩) hg6).trans m7;have k8:wr.cell? ⟨g6,o6+q*11+8,none⟩=some (.bool ot):=(hbw.cell (p:=⟨g6,o6+q*11+8,none⟩) hg6).trans m8;have k9:wr.cell? ⟨g6,o6+q*11+9,none⟩=some (.int .i64 af):=(hbw.cell (p:=⟨g6,o6+q*11+9,none⟩) hg6).trans m9;have k10:wr.cell? ⟨g6,o6+q*11+10,none⟩=some (.slice pa bl.length pc):=(hbw.cell (p:=⟨g6,o6+q*11+10,none⟩) hg6).trans m10;have HDK:=hide hdk;have HZQ:Hid (kd=5->∀p∈bl,Z id p):=by have:=HZZ.o _ (List.getElem_mem hlt);rw[hX]at this;exact this
     have hio1:1<=io:=hdk.io.1;have hio8:io<=8:=hdk.io.2;have q0:(0:Int)<=(q:Int):=by omega
     have q1:(q:Int)<(m.6.length:Int):=by omega
     have HZB:Hid (b<wr.1.size/\w.1.size+2<=wr.1.size):=by obtain⟨q1,q2,q3,q4,q5,q6,q7,q8,hP,q9,hL,q10⟩:=HR.o.1;have:=hP.box.lt;exact⟨this,by omega⟩
     clear m0 m1 m2 m3 m4 m5 m6 m7 m8 m9 m10 hdk hX hbw;go_upto_region 11 with fail
     have HA:Hid (BX Z (wr.alloc (.cells (K7 id kd io pt bk sl nm bt ot af pa bl.length pc) 42)) (w.1.size+2) b/\Below (w.1.size+2) W2 (wr.alloc (.cells (K7 id kd io pt bk sl nm bt ot af pa bl.length pc) 42))/\AtC (wr.alloc (.cells (K7 id kd io pt bk sl nm bt ot af pa bl.length pc) 42)) wr.1.size 42 (K7 id kd io pt bk sl nm bt ot af pa bl.length pc)):=by
      have b1:Below wr.1.size wr (wr.alloc (.cells (K7 id kd io pt bk sl nm bt ot af pa bl.length pc) 42)):=(Below.refl _ wr).alloc nR _;exact⟨HR.o.1.below b1,HR.o.2.trans (b1.mono HZB.o.2),AtC.new wr 42 _⟩
     clear k0 k1 k2 k3 k4 k5 k6 k7 k8 k9 k10 HR;generalize hbd:wr.1.size=bd at*;clear hbd;generalize wr.alloc (.cells (K7 id kd io pt bk sl nm bt ot af pa bl.length pc) 42)=wA at*;obtain⟨d0,d1,d2,d3,d4,d5,d6,d7,d8,d9,d10⟩:=AtC.elv HA.o.2.2;have CU:Hid (∀(y:Int) W,Calls Tryz.prog 198 #[.int .i64 y] W fun e w'=>(∃z:Int,e=.returned (.int .i64 z))/\w'=W):=fun y W=>(zbr y W).mono fun e w' ⟨h1,h2⟩=>⟨⟨_,h1⟩,h2⟩
     have CV:Hid (∀(y:Int) W,Calls Tryz.prog 203 #[.int .i64 y] W fun e w'=>(∃z:Int,e=.returned (.int .i64 z))/\w'=W):=fun y W=>(zbl y W).mono fun e w' ⟨h1,h2⟩=>⟨⟨_,h1⟩,h2⟩
     have HTT:Hid (∀k,wA.1.size<=k->w.1.size+2<=k):=fun k hk=>by have:=HA.o.2.2.lt;have:=HZB.o.2;omega
     go_cut [38]from 28 to 102 (fun c wx=>(∃r,c=.bool r)/\wA=wx)
     case first =>
      by_cases hk:kd=6
      ·exact cQ58
      ·have hkb:(kd==6)=false:=by simp[hk]
       exact cQ57
     case rest =>
      obtain⟨⟨r,rfl⟩,rfl⟩:=hcut
      cases r
      case true =>
       obtain⟨S,pu,pv,pi,pb,pd,pp,mp,hP,hSL,hLb,hmp⟩:=HA.o.1;obtain⟨p1,r1,p2,r2,p3,r3,p4,r4,p5,r5,p6,r6,rfl,rfl,rfl,rfl,rfl,rfl⟩:=hP.form;obtain⟨y0,y1,y2,y3,y4,y5,y6⟩:=AtC.sev hP.box;have HP:=hide hP;have HMP:=hide hmp;clear hP hmp hSL;go_wp2_with fail
       refine(zea id _ _ _ _ _ _ mp wA HP.o.mr HMP.o).mono ?_;rintro e w2 ⟨u1,u2,u3,u4,u5,u6,mn,rfl,O2,hmn,B2⟩;obtain⟨n1,o1,n2,o2,n3,o3,n4,o4,n5,o5,n6,o6,rfl,rfl,rfl,rfl,rfl,rfl⟩:=O2.mr.form;have A2:=HP.o.box.over B2;have r0:=A2.c0;have v0:=A2.frozen 0;have r1:=A2.c1;have v1:=A2.frozen 1;have r2:=A2.c2;have v2:=A2.frozen 2;have r3:=A2.c3;have v3:=A2.frozen 3;have r4:=A2.c4;have v4:=A2.frozen 4;have r5:=A2.c5;have v5:=A2.frozen 5;have r6:=A2.c6;have v6:=A2.frozen 6;have hF:=zh6 (w:=wA) (T:=fun k=>w.1.size+2<=k) A2 O2 (Chg.of_below B2) hmn hLb HP.o.box.lt HTT.o;have HZ:Hid (BX Z (((((((w2.setCell ⟨b,0,none⟩ (.slice n1 mn.1.length o1)).setCell ⟨b,1,none⟩ (.slice n2 mn.2.length o2)).setCell ⟨b,2,none⟩ (.slice n3 mn.3.length o3)).setCell ⟨b,3,none⟩ (.slice n4 mn.4.length o4)).setCell ⟨b,4,none⟩ (.slice n5 mn.5.length o5)).setCell ⟨b,5,none⟩ (.slice n6 mn.6.length o6)).setCell ⟨b,6,none⟩ (.int .i64 mn.nx)) (w.1.size+2) b/\Below (w.1.size+2) W2 (((((((w2.setCell ⟨b,0,none⟩ (.slice n1 mn.1.length o1)).setCell ⟨b,1,none⟩ (.slice n2 mn.2.length o2)).setCell ⟨b,2,none⟩ (.slice n3 mn.3.length o3)).setCell ⟨b,3,none⟩ (.slice n4 mn.4.length o4)).setCell ⟨b,4,none⟩ (.slice n5 mn.5.length o5)).setCell ⟨b,5,none⟩ (.slice n6 mn.6.length o6)).setCell ⟨b,6,none⟩ (.int .i64 mn.nx))):=⟨hF.1.bx,HA.o.2.1.trans (hF.2.belowT (by have:=HA.o.2.2.lt;have:=HZB.o.2;omega))⟩
       have hq0:=HA.o.2.2.over B2;have hqb:bd≠b:=by have:=HZB.o.1;omega
       have HD:Hid ((((((((w2.setCell ⟨b,0,none⟩ (.slice n1 mn.1.length o1)).setCell ⟨b,1,none⟩ (.slice n2 mn.2.length o2)).setCell ⟨b,2,none⟩ (.slice n3 mn.3.length o3)).setCell ⟨b,3,none⟩ (.slice n4 mn.4.length o4)).setCell ⟨b,4,none⟩ (.slice n5 mn.5.length o5)).setCell ⟨b,5,none⟩ (.slice n6 mn.6.length o6)).setCell ⟨b,6,none⟩ (.int .i64 mn.nx)).cell? ⟨bd,2,none⟩=some (.int .i64 io)):=(((((((hq0.other hqb _).other hqb _).other hqb _).other hqb _).other hqb _).other hqb _).other hqb _).cell 2;clear A2 O2 hmn B2 hF hq0 hqb y0 y1 y2 y3 y4 y5 y6;clear HD HA;go_wp2;go_roundw
       case rel=>exact⟨q+1,by omega,by go_num,HZ.o⟩
       case measure=>simp[intOf];omega
      case false =>
       go_upto_region 13 with fail
       go_cut [53]from 28 to 102 (fun c wx=>(∃r,c=.bool r/\(r=true->kd=5))/\wA=wx)
       case first =>
        by_cases hk:kd=5
        ·subst hk;go_wp2_with (first| (go_at_call 198;refine(CU.out _ _).mono ?_;rintro e w7 ⟨⟨z,rfl⟩,rfl⟩)| (go_at_call 203;refine(CV.out _ _).mono ?_;rintro e w7 ⟨⟨z,rfl⟩,rfl⟩))
         (go_meet;exact⟨⟨_,rfl,by simp⟩,rfl⟩)
        ·have hkb:(kd==5)=false:=by simp[hk]
         exact cQ108
       case rest =>
        obtain⟨⟨r,rfl,hr5⟩,rfl⟩:=hcut
        cases r
        case true =>
         have HR5:Hid (∀p∈bl,Z id p):=HZQ.o (hr5 sI);clear hr5;go_wp2_with fail
         refine(zmm (fun k=>w.1.size+2<=k) b id kd io pt bk sl nm bt ot af bl pa pc wA HA.o.1.bt HTT.o hio1 hio8 HDK.o.bl HDK.o.bn (fun W hc=>HRP.o W (HA.o.2.1.trans (hc.belowT (by have:=HA.o.2.2.lt;have:=HZB.o.2;omega)))) HR5.o).mono ?_;rintro e w8 ⟨rfl,b8,c8⟩;have HZ:Hid (BX Z w8 (w.1.size+2) b/\Below (w.1.size+2) W2 w8):=⟨b8.bx,HA.o.2.1.trans (c8.belowT (by have:=HA.o.2.2.lt;have:=HZB.o.2;omega))⟩
         exact cQ105
        case false =>
         clear hr5;go_upto_region 15 with fail
         go_cut [66]from 28 to 102 (fun c wx=>(∃r,c=.bool r)/\wA=wx)
         case first =>
          by_cases hk:kd=3
          ·exact cQ58
          ·have hkb:(kd==3)=false:=by simp[hk]
           exact cQ57
         case rest =>
          obtain⟨⟨r,rfl⟩,rfl⟩:=hcut
          cases r
          case true =>
           go_wp2_with fail
           refine(zlu (w.1.size+2) b id 0 wA HA.o.1).mono ?_;rintro e w8 ⟨rfl,b8,c8⟩;have HZ:Hid (BX Z w8 (w.1.size+2) b/\Below (w.1.size+2) W2 w8):=⟨b8,HA.o.2.1.trans c8⟩
           exact cQ105
          case false =>
           go_upto_region 17 with fail
           go_cut [80]from 28 to 102 (fun c wx=>(∃r,c=.bool r)/\wA=wx)
           case first =>
            by_cases hk:kd=4
            ·subst hk;by_cases hz:af=0
             ·subst hz;go_wp2_with (first| (go_at_call 198;refine(CU.out _ _).mono ?_;rintro e w7 ⟨⟨z,rfl⟩,rfl⟩)| (go_at_call 203;refine(CV.out _ _).mono ?_;rintro e w7 ⟨⟨z,rfl⟩,rfl⟩))
              (go_meet;exact⟨⟨_,rfl⟩,rfl⟩)
             ·have hzb:(af==0)=false:=by simp[hz]
              go_wp2_with fail
              (go_meet;exact⟨⟨_,rfl⟩,rfl⟩)
            ·have hkb:(kd==4)=false:=by simp[hk]
             exact cQ57
           case rest =>
            obtain⟨⟨r,rfl⟩,rfl⟩:=hcut
            cases r
            case true =>
             obtain⟨S,pu,pv,pi,pb,pd,pp,mp,hP,hSL,hLb,hmp⟩:=HA.o.1;obtain⟨p1,r1,p2,r2,p3,r3,p4,r4,p5,r5,p6,r6,rfl,rfl,rfl,rfl,rfl,rfl⟩:=hP.form;obtain⟨y0,y1,y2,y3,y4,y5,y6⟩:=AtC.sev hP.box;have HP:=hide hP;have HMP:=hide hmp;clear hP hmp hSL;go_wp2_with fail
             refine(zea id _ _ _ _ _ _ mp wA HP.o.mr HMP.o).mono ?_;rintro e w2 ⟨u1,u2,u3,u4,u5,u6,mn,rfl,O2,hmn,B2⟩;obtain⟨n1,o1,n2,o2,n3,o3,n4,o4,n5,o5,n6,o6,rfl,rfl,rfl,rfl,rfl,rfl⟩:=O2.mr.form;have A2:=HP.o.box.over B2;have r0:=A2.c0;have v0:=A2.frozen 0;have r1:=A2.c1;have v1:=A2.frozen 1;have r2:=A2.c2;have v2:=A2.frozen 2;have r3:=A2.c3;have v3:=A2.frozen 3;have r4:=A2.c4;have v4:=A2.frozen 4;have r5:=A2.c5;have v5:=A2.frozen 5;have r6:=A2.c6;have v6:=A2.frozen 6;have hF:=zh6 (w:=wA) (T:=fun k=>w.1.size+2<=k) A2 O2 (Chg.of_below B2) hmn hLb HP.o.box.lt HTT.o;have HZ:Hid (BX Z (((((((w2.setCell ⟨b,0,none⟩ (.slice n1 mn.1.length o1)).setCell ⟨b,1,none⟩ (.slice n2 mn.2.length o2)).setCell ⟨b,2,none⟩ (.slice n3 mn.3.length o3)).setCell ⟨b,3,none⟩ (.slice n4 mn.4.length o4)).setCell ⟨b,4,none⟩ (.slice n5 mn.5.length o5)).setCell ⟨b,5,none⟩ (.slice n6 mn.6.length o6)).setCell ⟨b,6,none⟩ (.int .i64 mn.nx)) (w.1.size+2) b/\Below (w.1.size+2) W2 (((((((w2.setCell ⟨b,0,none⟩ (.slice n1 mn.1.length o1)).setCell ⟨b,1,none⟩ (.slice n2 mn.2.length o2)).setCell ⟨b,2,none⟩ (.slice n3 mn.3.length o3)).setCell ⟨b,3,none⟩ (.slice n4 mn.4.length o4)).setCell ⟨b,4,none⟩ (.slice n5 mn.5.length o5)).setCell ⟨b,5,none⟩ (.slice n6 mn.6.length o6)).setCell ⟨b,6,none⟩ (.int .i64 mn.nx))):=⟨hF.1.bx,HA.o.2.1.trans (hF.2.belowT (by have:=HA.o.2.2.lt;have:=HZB.o.2;omega))⟩
             have hq0:=HA.o.2.2.over B2;have hqb:bd≠b:=by have:=HZB.o.1;omega
             have HD:Hid ((((((((w2.setCell ⟨b,0,none⟩ (.slice n1 mn.1.length o1)).setCell ⟨b,1,none⟩ (.slice n2 mn.2.length o2)).setCell ⟨b,2,none⟩ (.slice n3 mn.3.length o3)).setCell ⟨b,3,none⟩ (.slice n4 mn.4.length o4)).setCell ⟨b,4,none⟩ (.slice n5 mn.5.length o5)).setCell ⟨b,5,none⟩ (.slice n6 mn.6.length o6)).setCell ⟨b,6,none⟩ (.int .i64 mn.nx)).cell? ⟨bd,2,none⟩=some (.int .i64 io)):=(((((((hq0.other hqb _).other hqb _).other hqb _).other hqb _).other hqb _).other hqb _).other hqb _).cell 2;clear A2 O2 hmn B2 hF hq0 hqb y0 y1 y2 y3 y4 y5 y6;have hd2:=HD.o;go_upto_region 19 with fail
             generalize (((((((w2.setCell ⟨b,0,none⟩ (.slice n1 mn.1.length o1)).setCell ⟨b,1,none⟩ (.slice n2 mn.2.length o2)).setCell ⟨b,2,none⟩ (.slice n3 mn.3.length o3)).setCell ⟨b,3,none⟩ (.slice n4 mn.4.length o4)).setCell ⟨b,4,none⟩ (.slice n5 mn.5.length o5)).setCell ⟨b,5,none⟩ (.slice n6 mn.6.length o6)).setCell ⟨b,6,none⟩ (.int .i64 mn.nx))=wF at*;clear r0 r1 r2 r3 r4 r5 r6 v0 v1 v2 v3 v4 v5 v6;go_wp2_with fail
             refine(zg2 (fun k=>w.1.size+2<=k) b io wF HZ.o.1.bt (fun k hk=>by have:=HZ.o.2.size;have:=(HRS.o wF HZ.o.2).2.2.2;omega) hio1 hio8).mono ?_;rintro e w8 ⟨rfl,b8,c8⟩
             replace HZ:Hid (BX Z w8 (w.1.size+2) b/\Below (w.1.size+2) W2 w8):=⟨b8.bx,HZ.o.2.trans (c8.belowT (by have:=(HRS.o wF HZ.o.2).2.2.2;omega))⟩
             clear b8 c8 hd2 HD HA;go_wp2;go_roundw
             case rel=>exact⟨q+1,by omega,by go_num,HZ.o⟩
             case measure=>simp[intOf];omega
            case false =>
             have HZ:Hid (BX Z wA (w.1.size+2) b/\Below (w.1.size+2) W2 wA):=⟨HA.o.1,HA.o.2.1⟩
             clear HA;go_wp2;go_roundw
             case rel=>exact⟨q+1,by omega,by go_num,HZ.o⟩
             case measure=>simp[intOf];omega
    ·have hwz:w.1.size+2<=wr.1.size:=by have:=(HRS.o wr HR.o.2).2.2.2;have:=(HRS.o W2 bR).2.2.2;omega
     have HWZ:=hide hwz;clear HC hwz;go_wp2_with fail
     refine(zmo (fun k=>w.1.size+2<=k) b wr HR.o.1.bt (fun k hk=>by have:=HWZ.o;omega)).mono ?_;rintro e w8 ⟨rfl,b8,c8⟩;have HBL:Hid (BX Z w8 (w.1.size+2) b/\Below (w.1.size+2) W2 w8):=⟨b8.bx,HR.o.2.trans (c8.belowT HWZ.o)⟩
     clear b8 c8 HR z5;obtain⟨S,pu,pv,pi,pb,pd,pp,mp,hP,hSL,hLb,hmp⟩:=HBL.o.1;obtain⟨p1,r1,p2,r2,p3,r3,p4,r4,p5,r5,p6,r6,rfl,rfl,rfl,rfl,rfl,rfl⟩:=hP.form;have RS:=(HRS.o w8 HBL.o.2).2.1;obtain⟨y0,y1,y2,y3,y4,y5,y6⟩:=AtC.sev hP.box;have s0:=RS.c0;have z0:=RS.frozen 0;have s1:=RS.c1;have z1:=RS.frozen 1;have s2:=RS.c2;have z2:=RS.frozen 2;have s3:=RS.c3;have z3:=RS.frozen 3;have s4:=RS.c4;have z4:=RS.frozen 4;have s5:=RS.c5;have z5:=RS.frozen 5;have s6:=RS.c6;have z6:=RS.frozen 6;have HFIN:Hid (∃m',Sh Z m'/\m'.nx=mp.nx/\MO (((((((w8.setCell ⟨w.1.size+1,0,none⟩ (.slice p1 mp.1.length r1)).setCell ⟨w.1.size+1,1,none⟩ (.slice p2 mp.2.length r2)).setCell ⟨w.1.size+1,2,none⟩ (.slice p3 mp.3.length r3)).setCell ⟨w.1.size+1,3,none⟩ (.slice p4 mp.4.length r4)).setCell ⟨w.1.size+1,4,none⟩ (.slice p5 mp.5.length r5)).setCell ⟨w.1.size+1,5,none⟩ (.slice p6 mp.6.length r6)).setCell ⟨w.1.size+1,6,none⟩ (.int .i64 mp.nx)) (fun k=>w.1.size<=k) (.slice p1 mp.1.length r1) (.slice p2 mp.2.length r2) (.slice p3 mp.3.length r3) (.slice p4 mp.4.length r4) (.slice p5 mp.5.length r5) (.slice p6 mp.6.length r6) m'/\Below w.1.size w (((((((w8.setCell ⟨w.1.size+1,0,none⟩ (.slice p1 mp.1.length r1)).setCell ⟨w.1.size+1,1,none⟩ (.slice p2 mp.2.length r2)).setCell ⟨w.1.size+1,2,none⟩ (.slice p3 mp.3.length r3)).setCell ⟨w.1.size+1,3,none⟩ (.slice p4 mp.4.length r4)).setCell ⟨w.1.size+1,4,none⟩ (.slice p5 mp.5.length r5)).setCell ⟨w.1.size+1,5,none⟩ (.slice p6 mp.6.length r6)).setCell ⟨w.1.size+1,6,none⟩ (.int .i64 mp.nx))):=by
      have oth:∀k,k≠w.1.size+1->(((((((w8.setCell ⟨w.1.size+1,0,none⟩ (.slice p1 mp.1.length r1)).setCell ⟨w.1.size+1,1,none⟩ (.slice p2 mp.2.length r2)).setCell ⟨w.1.size+1,2,none⟩ (.slice p3 mp.3.length r3)).setCell ⟨w.1.size+1,3,none⟩ (.slice p4 mp.4.length r4)).setCell ⟨w.1.size+1,4,none⟩ (.slice p5 mp.5.length r5)).setCell ⟨w.1.size+1,5,none⟩ (.slice p6 mp.6.length r6)).setCell ⟨w.1.size+1,6,none⟩ (.int .i64 mp.nx)).1[k]?=w8.1[k]?:=fun k hk=>zaa _ _ _ _ _ _ _ _ _ k hk;refine⟨mp,hmp,rfl,(hP.own.of_heap fun k hk _=>oth k (by have:=hSL k hk;omega)).mono (fun k hk=>by have:=hSL k hk;omega),?_⟩;exact zab ((HRS.o w8 HBL.o.2).1) oM _ _ _ _ _ _ _
     clear hP hSL hmp RS;go_wp2;obtain⟨mf,q1,q2,q3,q4⟩:=HFIN.o;refine bodyPost_ret (v:=.agg (M7 mp p1 r1 p2 r2 p3 r3 p4 r4 p5 r5 p6 r6)) (by simp[results,go_sem,s0,s1,s2,s3,s4,s5,s6]) rfl ⟨_,_,_,_,_,_,mf,by rw[q2],q3,q1,q4⟩
theorem done_any(u v iv bv dv pv:Value)(m:MD)(x:Int)(w:World)(h:MR w u v iv bv dv pv m)(hm:Sh Z m):
  Calls Tryz.prog 177 #[.agg #[u,v,iv,bv,dv,pv,.int .i64 m.nx],.int .i64 x] w fun e w'=>∃u' v' i' b' d' p' m',e=.returned (.agg #[u',v',i',b',d',p',.int .i64 m'.nx])/\MO w' (fun k=>w.1.size<=k) u' v' i' b' d' p' m'/\Sh Z0 m'/\Below w.1.size w w':=by
 refine(done_in (Z:=Kz.zof m.ds) u v iv bv dv pv m x w h (hm.with_k hm.k.zof_of) (fun d hd h5 p hp=>⟨d,hd,h5,rfl,hp⟩)).mono ?_;rintro e w' ⟨u1,u2,u3,u4,u5,u6,m',he,O,hS,B⟩;exact⟨u1,u2,u3,u4,u5,u6,m',he,O,hS.none,B⟩
namespace Kit
variable {Z : ZT}
def imgP(i:Int)(ds:List Dp)(ps:List Int):List Int:=ds.foldl (fun xs d=>if d.kd=1/\d.io=i then xs.set d.pt.toNat 0 else xs) ps
theorem zmp(i:Int)(ds:List Dp)(ps:List Int)(j:Nat)(h:j<ds.length):imgP i (ds.take (j+1)) ps=if ds[j].kd=1/\ds[j].io=i then(imgP i (ds.take j) ps).set ds[j].pt.toNat 0 else imgP i (ds.take j) ps:=by
 unfold imgP;rw[←List.take_append_getElem h,List.foldl_append];rfl
theorem zb5(i:Int):∀(ds:List Dp)(ps:List Int),(imgP i ds ps).length=ps.length
 | [],_=>rfl
 | d::ds,ps=>by
  have:imgP i (d::ds) ps=imgP i ds (if d.kd=1/\d.io=i then ps.set d.pt.toNat 0 else ps):=rfl;rw[this,zb5 i ds]
  split<;>simp
theorem ic_set(l:List Int)(k:Nat)(x:Int):ic (l.set k x)=(ic l).set k (.int .i64 x):=by simp[ic,List.map_set]
def imgI(m:MD)(i:Int):Ino:=if inB i 1 8=true then((m.is.getD (i-1).toNat (0,0,[])).1,(m.is.getD (i-1).toNat (0,0,[])).2.1,imgP i m.ds (m.is.getD (i-1).toNat (0,0,[])).2.2)else(0,zam 0,[0,0])
end Kit
variable {Z : ZT}
theorem zkw(u v iv bv dv pv:Value)(m:MD)(i:Int)(w:World)(h:MR w u v iv bv dv pv m)(hm:Sh Z m):
  Calls Tryz.prog 208 #[.agg #[u,v,iv,bv,dv,pv,.int .i64 m.nx],.int .i64 i] w fun e w'=>∃v9,e=.returned (.agg #[.int .i64 (imgI m i).1,.int .i64 (imgI m i).2.1,v9])/\ROwns w' w.1.size 3 v9 (ic (imgI m i).2.2)/\Below w.1.size w w':=by
 obtain⟨a1,c1,a2,c2,a3,c3,a4,c4,a5,c5,a6,c6,rfl,rfl,rfl,rfl,rfl,rfl⟩:=h.form;have HH:=hide h;have HM:=hide hm;have hdl:m.6.length<=40:=hm.l;have HIL:Hid (m.3.length=8):=hm.i;have HW0:Hid (∀W,Below ((w.alloc (.cells (M7 m a1 c1 a2 c2 a3 c3 a4 c4 a5 c5 a6 c6) 33)).alloc (.cells #[.int .i64 0,.int .i64 0,.slice none 0 0] 59)).1.size ((w.alloc (.cells (M7 m a1 c1 a2 c2 a3 c3 a4 c4 a5 c5 a6 c6) 33)).alloc (.cells #[.int .i64 0,.int .i64 0,.slice none 0 0] 59)) W->Below w.1.size w W/\AtC W (w.1.size+1) 59 #[.int .i64 0,.int .i64 0,.slice none 0 0]/\AtC W w.1.size 33 (M7 m a1 c1 a2 c2 a3 c3 a4 c4 a5 c5 a6 c6)/\w.1.size+1+1<=W.1.size):=fun W b2=>by
  have k1:=(AtC.new (w.alloc (.cells (M7 m a1 c1 a2 c2 a3 c3 a4 c4 a5 c5 a6 c6) 33)) 59 #[.int .i64 0,.int .i64 0,.slice none 0 0]).over b2;have k2:=((AtC.new w 33 (M7 m a1 c1 a2 c2 a3 c3 a4 c4 a5 c5 a6 c6)).over ((Below.refl _ (w.alloc (.cells (M7 m a1 c1 a2 c2 a3 c3 a4 c4 a5 c5 a6 c6) 33))).alloc nR (.cells #[.int .i64 0,.int .i64 0,.slice none 0 0] 59))).over b2;have sz:=b2.size;simp at k1 sz;exact⟨(((Below.refl _ w).alloc nR _).alloc sI _).trans (b2.mono sO),k1,k2,sz⟩
 have x2:((w.alloc (.cells (M7 m a1 c1 a2 c2 a3 c3 a4 c4 a5 c5 a6 c6) 33)).alloc (.cells #[.int .i64 0,.int .i64 0,.slice none 0 0] 59)).cell? ⟨w.1.size,2,none⟩=some (.slice a3 m.3.length c3):=(HW0.o _ bR).2.2.1.cell 2;have e8:(m.3.length:Int)=8:=by rw[hm.i];rfl
 have HE8:=hide e8;clear h hm e8
 cases hib:inB i 1 8 with
 | false =>
  have hI:imgI m i=(0,zam 0,[0,0]):=by unfold imgI;rw[hib];rfl
  rw[hI];have HIB:=hide hib;clear hib hI;go_enter Tryz.func208,Tryz.ntmps208
  go_wp2_with fail
  rw[HE8.o];refine(zai i 1 8 _).mono ?_;rintro e w3 ⟨rfl,rfl⟩;rw[HIB.o];go_wp2_with fail
  refine(za6 0 _).mono ?_;rintro e w1 ⟨v9,rfl,O1,B1⟩;obtain⟨n1,n2,rfl,-⟩:=O1.form;have k1:=HW0.o w1 B1;have s0:=k1.2.1.c0;have z0:=k1.2.1.frozen 0;have s1:=k1.2.1.c1;have z1:=k1.2.1.frozen 1;have s2:=k1.2.1.c2;have z2:=k1.2.1.frozen 2;have HF:Hid (ROwns (((w1.setCell ⟨w.1.size+1,0,none⟩ (.int .i64 0)).setCell ⟨w.1.size+1,1,none⟩ (.int .i64 (zam 0))).setCell ⟨w.1.size+1,2,none⟩ (.slice n1 [0,0].length n2)) w.1.size 3 (.slice n1 [0,0].length n2) (ic [0,0])/\Below w.1.size w (((w1.setCell ⟨w.1.size+1,0,none⟩ (.int .i64 0)).setCell ⟨w.1.size+1,1,none⟩ (.int .i64 (zam 0))).setCell ⟨w.1.size+1,2,none⟩ (.slice n1 [0,0].length n2))):=by
   have hz:=k1.2.2.2;refine⟨(O1.base_le sO).of_heap fun k hk=>?_,((k1.1.setCell sI _).setCell sI _).setCell sI _⟩;have:=(O1.lt k hk).1;simp at this;rw[heap_setCell_other _ ⟨w.1.size+1,2,none⟩ k _ oA,heap_setCell_other _ ⟨w.1.size+1,1,none⟩ k _ oA,heap_setCell_other _ ⟨w.1.size+1,0,none⟩ k _ oA]
  rw[zah]at*;clear O1 B1 k1 x2;go_wp2;refine bodyPost_ret (v:=.agg #[.int .i64 0,.int .i64 (zam 0),.slice n1 [0,0].length n2]) (by simp[results,go_sem,s0,s1,s2]) rfl ⟨_,rfl,HF.o⟩
 | true =>
  have HIB:=hide hib;obtain⟨h1,h2⟩:=zas hib;obtain⟨j,rfl⟩:∃j:Nat,i=(j:Int)+1:=⟨(i-1).toNat,by omega⟩
  have hj:j<m.3.length:=by rw[HIL.o];omega
  have hI:imgI m ((j:Int)+1)=(m.is[j].1,m.is[j].2.1,imgP ((j:Int)+1) m.ds m.is[j].2.2):=by
   unfold imgI;rw[hib,if_pos rfl,show((j:Int)+1-1).toNat=j by omega];simp[hj]
  rw[hI];clear hib hI;obtain⟨qa,qc,qe,-,qh⟩:=HH.o.d.i;simp only[Value.slice.injEq,true_and]at qe;obtain⟨rfl,rfl⟩:=qe;obtain⟨g2,o2,⟨t0,t1,t2⟩,rfl,hg2,r0,r1,r2,e0,e1,rr⟩:=qh j hj;have hio:=HM.o.ii _ (List.getElem_mem hj);obtain⟨⟨kd,ln,ps⟩,hX⟩:∃X,m.is[j]=X:=⟨_,rfl⟩
  rw[hX]at e0 e1 rr hio;rw[hX];simp only at e0 e1 rr r0 r1 r2;subst e0 e1;have HPN:Hid (ps.length=2):=hio.n;obtain⟨sa,sc,rfl⟩:=rr.form;have HRR:=hide rr;have bW:=(HW0.o _ bR).1;have y0:=(bW.cell (p:=⟨g2,o2+j*3,none⟩) hg2).trans r0;have y1:=(bW.cell (p:=⟨g2,o2+j*3+1,none⟩) hg2).trans r1;have y2:=(bW.cell (p:=⟨g2,o2+j*3+2,none⟩) hg2).trans r2;have j0:(0:Int)<=(j:Int):=by omega
  have j1:(j:Int)<(m.3.length:Int):=by omega
  have hpl:ps.length<=2:=Nat.le_of_eq hio.n;clear qh hX hio rr bW r0 r1 r2;go_enter Tryz.func208,Tryz.ntmps208
  go_wp2_with fail
  rw[HE8.o];refine(zai ((j:Int)+1) 1 8 _).mono ?_;rintro e w3 ⟨rfl,rfl⟩;rw[HIB.o];go_wp2_with fail
  refine(ze5 kd ln _ ps _ (HRR.o.below (HW0.o _ bR).1 nR) oM).mono ?_;rintro e w1 ⟨uu,rfl,O1,B1⟩;obtain⟨s1,t1,rfl⟩:=O1.rints.form;have k1:=HW0.o w1 B1;have HW1:=hide k1;have HO1:Hid (∀k,(Value.slice s1 ps.length t1).ownBlock=some k->w.1.size+2<=k/\k<w1.1.size):=fun k hk=>by have:=O1.lt k hk;simp at this;exact this
  have HP0:Hid (ROwns (w1.alloc (.cells #[.int .i64 kd,.int .i64 ln,.slice s1 ps.length t1] 59)) w.1.size 3 (.slice s1 ps.length t1) (ic ps)):=(O1.base_le sO).alloc _;have HA5:Hid (AtC (w1.alloc (.cells #[.int .i64 kd,.int .i64 ln,.slice s1 ps.length t1] 59)) w1.1.size 59 #[.int .i64 kd,.int .i64 ln,.slice s1 ps.length t1]):=AtC.new w1 59 _;have HS:Hid (∀W,Chg (fun k=>(Value.slice s1 ps.length t1).ownBlock=some k) (w1.alloc (.cells #[.int .i64 kd,.int .i64 ln,.slice s1 ps.length t1] 59)) W->Below w.1.size w W/\AtC W (w.1.size+1) 59 #[.int .i64 0,.int .i64 0,.slice none 0 0]/\AtC W w.1.size 33 (M7 m a1 c1 a2 c2 (some ⟨g2,o2,none⟩) c3 a4 c4 a5 c5 a6 c6)/\AtC W w1.1.size 59 #[.int .i64 kd,.int .i64 ln,.slice s1 ps.length t1]):=fun W hc=>by
   have z:=HW1.o.2.2.2;have b3:Below w1.1.size w1 (w1.alloc (.cells #[.int .i64 kd,.int .i64 ln,.slice s1 ps.length t1] 59)):=(Below.refl _ w1).alloc nR _;have lo:∀k,k<w.1.size+2->W.1[k]?=w1.1[k]?:=fun k hk=>(hc.block k sO (fun e=>by have:=(HO1.o k e).1;omega)).trans (b3.block k oM);refine⟨⟨?_,?_,?_,?_,fun k hk=>(lo k oM).trans (HW1.o.1.block k hk)⟩,(lo _ oM).trans HW1.o.2.1,(lo _ oM).trans HW1.o.2.2.1,(hc.block _ sI (fun e=>by have:=(HO1.o _ e).2;omega)).trans HA5.o⟩
   ·exact hc.os.trans HW1.o.1.os
   ·exact hc.tape.trans HW1.o.1.tape
   ·exact hc.output.trans HW1.o.1.output
   ·have:=hc.size;simp at this;omega
  clear O1 B1 k1 x2 y0 y1 y2;go_wp2_with fail
  generalize hb5:w1.1.size=b5 at*;clear hb5;generalize w1.alloc (.cells #[.int .i64 kd,.int .i64 ln,.slice s1 ps.length t1] 59)=W2 at*;obtain⟨a,c,ei,-,hc⟩:=HH.o.p.dep;simp only[Value.slice.injEq,true_and]at ei;obtain⟨rfl,rfl⟩:=ei;have HC:=hide hc;clear hc;go_loopw [6] (fun i' wr=>∃q:Nat,q<=m.6.length/\i'=.int .i64 q/\Hid (ROwns wr w.1.size 3 (.slice s1 ps.length t1) (ic (imgP ((j:Int)+1) (m.ds.take q) ps))/\Chg (fun k=>(Value.slice s1 ps.length t1).ownBlock=some k) W2 wr)) (fun i' _=>m.6.length-(intOf i').toNat)
  case atStart=>exact⟨0,Nat.zero_le _,rfl,HP0.o,Chg.refl _ _⟩
  case round =>
   obtain⟨q,hq,rfl,HR⟩:=hrel;obtain⟨hbw,hres,hmb,h5⟩:=HS.o wr HR.o.2;have x5:=hmb.c5;by_cases hlt:q<m.6.length
   ·obtain⟨g6,o6,p,rfl,hg6,nn,hp⟩:=HC.o q hlt;have hdk:=HM.o.dd _ (List.getElem_mem hlt);have hsn:=zmp ((j:Int)+1) m.ds ps q hlt;obtain⟨X,hX⟩:∃X,m.ds[q]=X:=⟨_,rfl⟩
    rw[hX]at nn hp hdk hsn;obtain⟨id,kk,io,pt,bk,sl,nm,bt,ot,af,bl⟩:=X;simp only at hp hsn;obtain⟨pa,pc,rfl,-⟩:=hp;simp only[DCells]at nn;obtain⟨m0,m1,m2,m3,m4,m5,m6,m7,m8,m9,m10⟩:=nn;have k0:wr.cell? ⟨g6,o6+q*11,none⟩=some (.int .i64 id):=(hbw.cell (p:=⟨g6,o6+q*11,none⟩) hg6).trans m0;have k1:wr.cell? ⟨g6,o6+q*11+1,none⟩=some (.int .i64 kk):=(hbw.cell (p:=⟨g6,o6+q*11+1,none⟩) hg6).trans m1;have k2:wr.cell? ⟨g6,o6+q*11+2,none⟩=some (.int .i64 io):=(hbw.cell (p:=⟨g6,o6+q*11+2,none⟩) hg6).trans m2;have k3:wr.cell? ⟨g6,o6+q*11+3,none⟩=some (.int .i64 pt):=(hbw.cell (p:=⟨g6,o6+q*11+3,none⟩) hg6).trans m3;have k4:wr.cell? ⟨g6,o6+q*11+4,none⟩=some (.int .i64 bk):=(hbw.cell (p:=⟨g6,o6+q*11+4,none⟩) hg6).trans m4;have k5:wr.cell? ⟨g6,o6+q*11+5,none⟩=some (.int .i64 sl):=(hbw.cell (p:=⟨g6,o6+q*11+5,none⟩) hg6).trans m5;have k6:wr.cell? ⟨g6,o6+q*11+6,none⟩=some (.string nm):=(hbw.cell (p:=⟨g6,o6+q*11+6,none⟩) hg6).trans m6;have k7:wr.cell? ⟨g6,o6+q*11+7,none⟩=some (.bool bt):=(hbw.cell (p:=⟨g6,o6+q*11+7,none⟩) hg6).trans m7;have k8:wr.cell? ⟨g6,o6+q*11+8,none⟩=some (.bool ot):=(hbw.cell (p:=⟨g6,o6+q*11+8,none⟩) hg6).trans m8;have k9:wr.cell? ⟨g6,o6+q*11+9,none⟩=some (.int .i64 af):=(hbw.cell (p:=⟨g6,o6+q*11+9,none⟩) hg6).trans m9;have k10:wr.cell? ⟨g6,o6+q*11+10,none⟩=some (.slice pa bl.length pc):=(hbw.cell (p:=⟨g6,o6+q*11+10,none⟩) hg6).trans m10;have hpt0:0<=pt:=hdk.pt.1;have hpt1:pt<=1:=hdk.pt.2;obtain⟨t,rfl⟩:∃t:Nat,pt=(t:Int):=⟨pt.toNat,by omega⟩
    have HSN:=hide hsn;have q0:(0:Int)<=(q:Int):=by omega
    have q1:(q:Int)<(m.6.length:Int):=by omega
    have b1:Below wr.1.size wr (wr.alloc (.cells (K7 id kk io (t:Int) bk sl nm bt ot af pa bl.length pc) 42)):=(Below.refl _ wr).alloc nR _;have HA:Hid (ROwns (wr.alloc (.cells (K7 id kk io (t:Int) bk sl nm bt ot af pa bl.length pc) 42)) w.1.size 3 (.slice s1 ps.length t1) (ic (imgP ((j:Int)+1) (m.ds.take q) ps))/\Chg (fun k=>(Value.slice s1 ps.length t1).ownBlock=some k) W2 (wr.alloc (.cells (K7 id kk io (t:Int) bk sl nm bt ot af pa bl.length pc) 42))/\AtC (wr.alloc (.cells (K7 id kk io (t:Int) bk sl nm bt ot af pa bl.length pc) 42)) wr.1.size 42 (K7 id kk io (t:Int) bk sl nm bt ot af pa bl.length pc)):=⟨HR.o.1.alloc _,HR.o.2.trans (Chg.of_below b1),AtC.new wr 42 _⟩
    clear m0 m1 m2 m3 m4 m5 m6 m7 m8 m9 m10 hdk hX hbw hres hmb h5 hsn b1;go_upto_region 8 with fail
    generalize hbd:wr.1.size=bd at*;clear hbd HR k0 k1 k2 k3 k4 k5 k6 k7 k8 k9 k10 x5;generalize wr.alloc (.cells (K7 id kk io (t:Int) bk sl nm bt ot af pa bl.length pc) 42)=wA at*;have h5:=(HS.o wA HA.o.2.1).2.2.2;have d1:=HA.o.2.2.c1;have d2:=HA.o.2.2.c2;have d3:=HA.o.2.2.c3;have f2:=h5.c2;clear h5;have t0:(0:Int)<=(t:Int):=by omega
    have ht2:t<ps.length:=by rw[HPN.o];omega
    have t2:(t:Int)<(ps.length:Int):=by omega
    go_cut [57]from 24 to 62 (fun c wx=>c=.bool (decide (kk=1/\io=(j:Int)+1))/\wA=wx)
    case first =>
     by_cases hk:kk=1
     ·subst hk;by_cases hi:io=(j:Int)+1
      ·subst hi;go_wp2_with fail
       go_meet
       exact⟨by simp,rfl⟩
      ·have hib:(io==(j:Int)+1)=false:=by simp[hi]
       go_wp2_with fail
       go_meet
       exact⟨by simp[hi],rfl⟩
     ·have hkb:(kk==1)=false:=by simp[hk]
      go_wp2_with fail
      go_meet
      exact⟨by simp[hk],rfl⟩
    case rest =>
     obtain⟨rfl,rfl⟩:=hcut;by_cases hd:kk=1/\io=(j:Int)+1
     ·rw[decide_eq_true hd];have HE:Hid (imgP ((j:Int)+1) (m.ds.take (q+1)) ps=(imgP ((j:Int)+1) (m.ds.take q) ps).set t 0):=by have:=HSN.o;rw[if_pos hd]at this;exact this
      obtain⟨g,cap,e9,kq9,f9,-,-,-⟩:=HA.o.1.at t (by rw[zah,zb5];exact ht2);rw[zah,zb5]at e9;simp only[Value.slice.injEq,true_and]at e9;obtain⟨rfl,rfl⟩:=e9;obtain⟨rv,k9⟩:∃rv,wA.cell? ⟨g,t,none⟩=some rv:=by
       rw[kq9];exact⟨_,List.getElem?_eq_getElem (by rw[zah,zb5];exact ht2)⟩
      have HN:Hid (ROwns (wA.setCell ⟨g,t,none⟩ (.int .i64 0)) w.1.size 3 (.slice (some ⟨g,0,none⟩) ps.length t1) (ic (imgP ((j:Int)+1) (m.ds.take (q+1)) ps))/\Chg (fun k=>(Value.slice (some ⟨g,0,none⟩) ps.length t1).ownBlock=some k) W2 (wA.setCell ⟨g,t,none⟩ (.int .i64 0))):=by
       have hl:(ic (imgP ((j:Int)+1) (m.ds.take q) ps)).length=ps.length:=by rw[zah,zb5]
       have z:=ROwns.stored (l:=ic (imgP ((j:Int)+1) (m.ds.take q) ps)) (g:=g) (cap:=t1) (by rw[hl];exact HA.o.1) t (.int .i64 0);rw[hl,←ic_set,←HE.o]at z;exact⟨z.1,HA.o.2.1.setCell rfl _⟩
      clear HSN HE HA hd kq9;go_wp2;go_roundw
      case rel=>exact⟨q+1,by omega,by go_num,HN.o⟩
      case measure=>simp[intOf];omega
     ·rw[decide_eq_false hd];have HN:Hid (ROwns wA w.1.size 3 (.slice s1 ps.length t1) (ic (imgP ((j:Int)+1) (m.ds.take (q+1)) ps))/\Chg (fun k=>(Value.slice s1 ps.length t1).ownBlock=some k) W2 wA):=by
       have:=HSN.o;rw[if_neg hd]at this;rw[this];exact⟨HA.o.1,HA.o.2.1⟩
      exact cQ103
   ·have hq2:q=m.6.length:=by omega
    have f0:=h5.c0;have f1:=h5.c1;have f2:=h5.c2;have s0:=hres.c0;have z0:=hres.frozen 0;have s1':=hres.c1;have z1:=hres.frozen 1;have s2:=hres.c2;have z2:=hres.frozen 2;have HF:Hid (ROwns (((wr.setCell ⟨w.1.size+1,0,none⟩ (.int .i64 kd)).setCell ⟨w.1.size+1,1,none⟩ (.int .i64 ln)).setCell ⟨w.1.size+1,2,none⟩ (.slice s1 ps.length t1)) w.1.size 3 (.slice s1 ps.length t1) (ic (imgP ((j:Int)+1) m.ds ps))/\Below w.1.size w (((wr.setCell ⟨w.1.size+1,0,none⟩ (.int .i64 kd)).setCell ⟨w.1.size+1,1,none⟩ (.int .i64 ln)).setCell ⟨w.1.size+1,2,none⟩ (.slice s1 ps.length t1))):=by
     exact cQ34
    clear hbw hres hmb h5 HR hq2;go_wp2;refine bodyPost_ret (v:=.agg #[.int .i64 kd,.int .i64 ln,.slice s1 ps.length t1]) (by simp[results,go_sem,s0,s1',s2]) rfl ⟨_,rfl,HF.o⟩
namespace Kit
variable {Z : ZT}
def stepS(p:Int)(xs:List Sl)(d:Dp):List Sl:=if d.bk=p/\d.sl.toNat<xs.length then(if d.kd=2 then xs.set d.sl.toNat (⟨#[]⟩,0)else if d.kd=4/\0<d.af then xs.set d.sl.toNat (d.nm,d.io)else xs)else xs
def imgS(p:Int)(ds:List Dp)(ss:List Sl):List Sl:=ds.foldl (stepS p) ss
theorem zmq(p:Int)(ds:List Dp)(ss:List Sl)(j:Nat)(h:j<ds.length):imgS p (ds.take (j+1)) ss=stepS p (imgS p (ds.take j) ss) ds[j]:=by
 unfold imgS;rw[←List.take_append_getElem h,List.foldl_append];rfl
theorem zh8(p:Int)(xs:List Sl)(d:Dp):(stepS p xs d).length=xs.length:=by
 unfold stepS
 split
 ·split
  ·simp
  ·split<;>simp
 ·rfl
theorem za8(p:Int):∀(ds:List Dp)(ss:List Sl),(imgS p ds ss).length=ss.length
 | [],_=>rfl
 | d::ds,ss=>by
  have:imgS p (d::ds) ss=imgS p ds (stepS p ss d):=rfl;rw[this,za8 p ds,zh8]
def imgB(m:MD)(p:Int):Blk:=if inB p 1 16=true then((m.bs.getD (p-1).toNat (false,[],⟨#[]⟩)).1,imgS p m.ds (m.bs.getD (p-1).toNat (false,[],⟨#[]⟩)).2.1,(m.bs.getD (p-1).toNat (false,[],⟨#[]⟩)).2.2)else(false,[],⟨#[]⟩)
end Kit
variable {Z : ZT}
theorem zkx(u v iv bv dv pv:Value)(m:MD)(i:Int)(w:World)(h:MR w u v iv bv dv pv m)(hm:Sh Z m):
  Calls Tryz.prog 209 #[.agg #[u,v,iv,bv,dv,pv,.int .i64 m.nx],.int .i64 i] w fun e w'=>∃v9,e=.returned (.agg #[.bool (imgB m i).1,v9,.string (imgB m i).2.2])/\SOwns w' w.1.size 90 v9 (imgB m i).2.1/\Below w.1.size w w':=by
 obtain⟨a1,c1,a2,c2,a3,c3,a4,c4,a5,c5,a6,c6,rfl,rfl,rfl,rfl,rfl,rfl⟩:=h.form;have HH:=hide h;have HM:=hide hm;have hdl:m.6.length<=40:=hm.l;have HIL:Hid (m.4.length=16):=hm.b;have HW0:Hid (∀W,Below ((w.alloc (.cells (M7 m a1 c1 a2 c2 a3 c3 a4 c4 a5 c5 a6 c6) 33)).alloc (.cells #[.bool false,.slice none 0 0,.string ⟨#[]⟩] 95)).1.size ((w.alloc (.cells (M7 m a1 c1 a2 c2 a3 c3 a4 c4 a5 c5 a6 c6) 33)).alloc (.cells #[.bool false,.slice none 0 0,.string ⟨#[]⟩] 95)) W->Below w.1.size w W/\AtC W (w.1.size+1) 95 #[.bool false,.slice none 0 0,.string ⟨#[]⟩]/\AtC W w.1.size 33 (M7 m a1 c1 a2 c2 a3 c3 a4 c4 a5 c5 a6 c6)/\w.1.size+1+1<=W.1.size):=fun W b2=>by
  have k1:=(AtC.new (w.alloc (.cells (M7 m a1 c1 a2 c2 a3 c3 a4 c4 a5 c5 a6 c6) 33)) 95 #[.bool false,.slice none 0 0,.string ⟨#[]⟩]).over b2;have k2:=((AtC.new w 33 (M7 m a1 c1 a2 c2 a3 c3 a4 c4 a5 c5 a6 c6)).over ((Below.refl _ (w.alloc (.cells (M7 m a1 c1 a2 c2 a3 c3 a4 c4 a5 c5 a6 c6) 33))).alloc nR (.cells #[.bool false,.slice none 0 0,.string ⟨#[]⟩] 95))).over b2;have sz:=b2.size;simp at k1 sz;exact⟨(((Below.refl _ w).alloc nR _).alloc sI _).trans (b2.mono sO),k1,k2,sz⟩
 have x2:((w.alloc (.cells (M7 m a1 c1 a2 c2 a3 c3 a4 c4 a5 c5 a6 c6) 33)).alloc (.cells #[.bool false,.slice none 0 0,.string ⟨#[]⟩] 95)).cell? ⟨w.1.size,3,none⟩=some (.slice a4 m.4.length c4):=(HW0.o _ bR).2.2.1.cell 3;have e8:(m.4.length:Int)=16:=by rw[hm.b];rfl
 have HE8:=hide e8;clear h hm e8
 cases hib:inB i 1 16 with
 | false =>
  have hI:imgB m i=(false,[],⟨#[]⟩):=by unfold imgB;rw[hib];rfl
  rw[hI];have HIB:=hide hib;clear hib hI;go_enter Tryz.func209,Tryz.ntmps209
  go_wp2_with fail
  rw[HE8.o];refine(zai i 1 16 _).mono ?_;rintro e w3 ⟨rfl,rfl⟩;rw[HIB.o];have k1:=HW0.o _ bR;have s0:=k1.2.1.c0;have z0:=k1.2.1.frozen 0;have s1:=k1.2.1.c1;have z1:=k1.2.1.frozen 1;have s2:=k1.2.1.c2;have z2:=k1.2.1.frozen 2;have HF:Hid (Below w.1.size w ((w.alloc (.cells (M7 m a1 c1 a2 c2 a3 c3 a4 c4 a5 c5 a6 c6) 33)).alloc (.cells #[.bool false,.slice none 0 0,.string ⟨#[]⟩] 95))):=k1.1;clear k1 x2;go_wp2;refine bodyPost_ret (v:=.agg #[.bool false,.slice none 0 0,.string ⟨#[]⟩]) (by simp[results,go_sem,s0,s1,s2]) rfl ⟨_,rfl,SOwns.nil _ _ _,HF.o⟩
 | true =>
  have HIB:=hide hib;obtain⟨h1,h2⟩:=zas hib;obtain⟨j,rfl⟩:∃j:Nat,i=(j:Int)+1:=⟨(i-1).toNat,by omega⟩
  have hj:j<m.4.length:=by rw[HIL.o];omega
  have hI:imgB m ((j:Int)+1)=(m.bs[j].1,imgS ((j:Int)+1) m.ds m.bs[j].2.1,m.bs[j].2.2):=by
   unfold imgB;rw[hib,if_pos rfl,show((j:Int)+1-1).toNat=j by omega];simp[hj]
  rw[hI];clear hib hI;obtain⟨qa,qc,qe,-,qh⟩:=HH.o.d.k;simp only[Value.slice.injEq,true_and]at qe;obtain⟨rfl,rfl⟩:=qe;obtain⟨g2,o2,⟨t0,t1,t2⟩,rfl,hg2,r0,r1,r2,e0,rr,e1⟩:=qh j hj;have hio:=HM.o.bb _ (List.getElem_mem hj);obtain⟨⟨kd,ps,ln⟩,hX⟩:∃X,m.bs[j]=X:=⟨_,rfl⟩
  rw[hX]at e0 e1 rr hio;rw[hX];simp only at e0 e1 rr r0 r1 r2;subst e0 e1;obtain⟨sa,sc,rfl,-⟩:=id rr;have HRR:=hide rr;have bW:=(HW0.o _ bR).1;have y0:=(bW.cell (p:=⟨g2,o2+j*3,none⟩) hg2).trans r0;have y1:=(bW.cell (p:=⟨g2,o2+j*3+1,none⟩) hg2).trans r1;have y2:=(bW.cell (p:=⟨g2,o2+j*3+2,none⟩) hg2).trans r2;have j0:(0:Int)<=(j:Int):=by omega
  have j1:(j:Int)<(m.4.length:Int):=by omega
  have hpl:ps.length<=4:=hio.m;clear qh hX hio rr bW r0 r1 r2;go_enter Tryz.func209,Tryz.ntmps209
  go_wp2_with fail
  rw[HE8.o];refine(zai ((j:Int)+1) 1 16 _).mono ?_;rintro e w3 ⟨rfl,rfl⟩;rw[HIB.o];go_wp2_with fail
  refine(zhr kd ln _ ps _ (HRR.o.below (HW0.o _ bR).1 nR) oM).mono ?_;rintro e w1 ⟨uu,rfl,O1,B1⟩;obtain⟨s1,t1,rfl,-⟩:=O1.form;have k1:=HW0.o w1 B1;have HW1:=hide k1;have HO1:Hid (∀k,(Value.slice s1 ps.length t1).ownBlock=some k->w.1.size+2<=k/\k<w1.1.size):=fun k hk=>by have:=O1.lt k hk;simp at this;exact this
  have HP0:Hid (SOwns (w1.alloc (.cells #[.bool kd,.slice s1 ps.length t1,.string ln] 95)) w.1.size 90 (.slice s1 ps.length t1) ps):=(O1.base_le sO).alloc _;have HA5:Hid (AtC (w1.alloc (.cells #[.bool kd,.slice s1 ps.length t1,.string ln] 95)) w1.1.size 95 #[.bool kd,.slice s1 ps.length t1,.string ln]):=AtC.new w1 95 _;have HS:Hid (∀W,Chg (fun k=>(Value.slice s1 ps.length t1).ownBlock=some k) (w1.alloc (.cells #[.bool kd,.slice s1 ps.length t1,.string ln] 95)) W->Below w.1.size w W/\AtC W (w.1.size+1) 95 #[.bool false,.slice none 0 0,.string ⟨#[]⟩]/\AtC W w.1.size 33 (M7 m a1 c1 a2 c2 a3 c3 (some ⟨g2,o2,none⟩) c4 a5 c5 a6 c6)/\AtC W w1.1.size 95 #[.bool kd,.slice s1 ps.length t1,.string ln]):=fun W hc=>by
   have z:=HW1.o.2.2.2;have b3:Below w1.1.size w1 (w1.alloc (.cells #[.bool kd,.slice s1 ps.length t1,.string ln] 95)):=(Below.refl _ w1).alloc nR _;have lo:∀k,k<w.1.size+2->W.1[k]?=w1.1[k]?:=fun k hk=>(hc.block k sO (fun e=>by have:=(HO1.o k e).1;omega)).trans (b3.block k oM);refine⟨⟨?_,?_,?_,?_,fun k hk=>(lo k oM).trans (HW1.o.1.block k hk)⟩,(lo _ oM).trans HW1.o.2.1,(lo _ oM).trans HW1.o.2.2.1,(hc.block _ sI (fun e=>by have:=(HO1.o _ e).2;omega)).trans HA5.o⟩
   ·exact hc.os.trans HW1.o.1.os
   ·exact hc.tape.trans HW1.o.1.tape
   ·exact hc.output.trans HW1.o.1.output
   ·have:=hc.size;simp at this;omega
  clear O1 B1 k1 x2 y0 y1 y2;go_wp2_with fail
  generalize hb5:w1.1.size=b5 at*;clear hb5;generalize w1.alloc (.cells #[.bool kd,.slice s1 ps.length t1,.string ln] 95)=W2 at*;obtain⟨a,c,ei,-,hc⟩:=HH.o.p.dep;simp only[Value.slice.injEq,true_and]at ei;obtain⟨rfl,rfl⟩:=ei;have HC:=hide hc;clear hc;go_loopw [6] (fun i' wr=>∃q:Nat,q<=m.6.length/\i'=.int .i64 q/\Hid (SOwns wr w.1.size 90 (.slice s1 ps.length t1) (imgS ((j:Int)+1) (m.ds.take q) ps)/\Chg (fun k=>(Value.slice s1 ps.length t1).ownBlock=some k) W2 wr)) (fun i' _=>m.6.length-(intOf i').toNat)
  case atStart=>exact⟨0,Nat.zero_le _,rfl,HP0.o,Chg.refl _ _⟩
  case round =>
   obtain⟨q,hq,rfl,HR⟩:=hrel;obtain⟨hbw,hres,hmb,h5⟩:=HS.o wr HR.o.2;have x5:=hmb.c5;by_cases hlt:q<m.6.length
   ·obtain⟨g6,o6,p,rfl,hg6,nn,hp⟩:=HC.o q hlt;have hdk:=HM.o.dd _ (List.getElem_mem hlt);have hsn:=zmq ((j:Int)+1) m.ds ps q hlt;obtain⟨X,hX⟩:∃X,m.ds[q]=X:=⟨_,rfl⟩
    rw[hX]at nn hp hdk hsn;obtain⟨id,kk,io,pt,bk,sl,nm,bt,ot,af,bl⟩:=X;simp only at hp;obtain⟨pa,pc,rfl,-⟩:=hp;simp only[DCells]at nn;obtain⟨m0,m1,m2,m3,m4,m5,m6,m7,m8,m9,m10⟩:=nn;have k0:wr.cell? ⟨g6,o6+q*11,none⟩=some (.int .i64 id):=(hbw.cell (p:=⟨g6,o6+q*11,none⟩) hg6).trans m0;have k1:wr.cell? ⟨g6,o6+q*11+1,none⟩=some (.int .i64 kk):=(hbw.cell (p:=⟨g6,o6+q*11+1,none⟩) hg6).trans m1;have k2:wr.cell? ⟨g6,o6+q*11+2,none⟩=some (.int .i64 io):=(hbw.cell (p:=⟨g6,o6+q*11+2,none⟩) hg6).trans m2;have k3:wr.cell? ⟨g6,o6+q*11+3,none⟩=some (.int .i64 pt):=(hbw.cell (p:=⟨g6,o6+q*11+3,none⟩) hg6).trans m3;have k4:wr.cell? ⟨g6,o6+q*11+4,none⟩=some (.int .i64 bk):=(hbw.cell (p:=⟨g6,o6+q*11+4,none⟩) hg6).trans m4;have k5:wr.cell? ⟨g6,o6+q*11+5,none⟩=some (.int .i64 sl):=(hbw.cell (p:=⟨g6,o6+q*11+5,none⟩) hg6).trans m5;have k6:wr.cell? ⟨g6,o6+q*11+6,none⟩=some (.string nm):=(hbw.cell (p:=⟨g6,o6+q*11+6,none⟩) hg6).trans m6;have k7:wr.cell? ⟨g6,o6+q*11+7,none⟩=some (.bool bt):=(hbw.cell (p:=⟨g6,o6+q*11+7,none⟩) hg6).trans m7;have k8:wr.cell? ⟨g6,o6+q*11+8,none⟩=some (.bool ot):=(hbw.cell (p:=⟨g6,o6+q*11+8,none⟩) hg6).trans m8;have k9:wr.cell? ⟨g6,o6+q*11+9,none⟩=some (.int .i64 af):=(hbw.cell (p:=⟨g6,o6+q*11+9,none⟩) hg6).trans m9;have k10:wr.cell? ⟨g6,o6+q*11+10,none⟩=some (.slice pa bl.length pc):=(hbw.cell (p:=⟨g6,o6+q*11+10,none⟩) hg6).trans m10;have hpt0:0<=sl:=hdk.sl.1;have hpt1:sl<=3:=hdk.sl.2;obtain⟨t,rfl⟩:∃t:Nat,sl=(t:Int):=⟨sl.toNat,by omega⟩
    have HSN:=hide hsn;have q0:(0:Int)<=(q:Int):=by omega
    have q1:(q:Int)<(m.6.length:Int):=by omega
    have b1:Below wr.1.size wr (wr.alloc (.cells (K7 id kk io pt bk (t:Int) nm bt ot af pa bl.length pc) 42)):=(Below.refl _ wr).alloc nR _;have HA:Hid (SOwns (wr.alloc (.cells (K7 id kk io pt bk (t:Int) nm bt ot af pa bl.length pc) 42)) w.1.size 90 (.slice s1 ps.length t1) (imgS ((j:Int)+1) (m.ds.take q) ps)/\Chg (fun k=>(Value.slice s1 ps.length t1).ownBlock=some k) W2 (wr.alloc (.cells (K7 id kk io pt bk (t:Int) nm bt ot af pa bl.length pc) 42))/\AtC (wr.alloc (.cells (K7 id kk io pt bk (t:Int) nm bt ot af pa bl.length pc) 42)) wr.1.size 42 (K7 id kk io pt bk (t:Int) nm bt ot af pa bl.length pc)):=⟨HR.o.1.alloc _,HR.o.2.trans (Chg.of_below b1),AtC.new wr 42 _⟩
    have HGB:Hid (∀k,(Value.slice s1 ps.length t1).ownBlock=some k->k<wr.1.size):=fun k hk=>(HR.o.1.lt k hk).2;clear m0 m1 m2 m3 m4 m5 m6 m7 m8 m9 m10 hdk hX hbw hres hmb h5 hsn b1;go_upto_region 8 with fail
    generalize hbd:wr.1.size=bd at*;clear hbd HR k0 k1 k2 k3 k4 k5 k6 k7 k8 k9 k10 x5;generalize wr.alloc (.cells (K7 id kk io pt bk (t:Int) nm bt ot af pa bl.length pc) 42)=wA at*;have h5:=(HS.o wA HA.o.2.1).2.2.2;have d1:=HA.o.2.2.c1;have d2:=HA.o.2.2.c2;have d4:=HA.o.2.2.c4;have d5:=HA.o.2.2.c5;have d6:=HA.o.2.2.c6;have d9:=HA.o.2.2.c9;have f2:=h5.c1;clear h5;have t0:(0:Int)<=(t:Int):=by omega
    have t0n:decide ((t:Int)<0)=false:=decide_eq_false oM;go_cut [52]from 24 to 79 (fun c wx=>c=.bool (decide (¬(bk=(j:Int)+1/\t<ps.length)))/\wA=wx)
    case first =>
     by_cases hk:bk=(j:Int)+1
     ·subst hk;by_cases ht:t<ps.length
      ·have ht1:¬((ps.length:Int)<=(t:Int)):=by omega
       go_wp2_with fail
       go_meet
       exact⟨by simp[ht],rfl⟩
      ·have ht1:(ps.length:Int)<=(t:Int):=by omega
       go_wp2_with fail
       go_meet
       exact⟨by simp[ht],rfl⟩
     ·have hkb:(bk != (j:Int)+1)=true:=by simp[hk]
      go_wp2_with fail
      go_meet
      exact⟨by simp[hk],rfl⟩
    case rest =>
     obtain⟨rfl,rfl⟩:=hcut;by_cases hd:bk=(j:Int)+1/\t<ps.length
     ·rw[decide_eq_false (fun e=>e hd)];obtain⟨rfl,ht⟩:=hd;have t2:(t:Int)<(ps.length:Int):=by omega
      obtain⟨g,cap,e9,kq9,kq10,hf9,-⟩:=HA.o.1.at t (by rw[za8];exact ht);rw[za8]at e9;simp only[Value.slice.injEq,true_and]at e9;obtain⟨rfl,rfl⟩:=e9;obtain⟨rv,k9⟩:∃rv,wA.cell? ⟨g,t*2,none⟩=some rv:=⟨_,kq9⟩
      obtain⟨rv2,k10⟩:∃rv,wA.cell? ⟨g,t*2+1,none⟩=some rv:=⟨_,kq10⟩
      have f9:=hf9 (t*2);have f10:=hf9 (t*2+1);clear kq9 kq10 hf9;have HN:Hid (∀(nm2:ByteArray)(io2:Int),SOwns ((wA.setCell ⟨g,t*2,none⟩ (.string nm2)).setCell ⟨g,t*2+1,none⟩ (.int .i64 io2)) w.1.size 90 (.slice (some ⟨g,0,none⟩) ps.length t1) ((imgS ((j:Int)+1) (m.ds.take q) ps).set t (nm2,io2))/\Chg (fun k=>(Value.slice (some ⟨g,0,none⟩) ps.length t1).ownBlock=some k) W2 ((wA.setCell ⟨g,t*2,none⟩ (.string nm2)).setCell ⟨g,t*2+1,none⟩ (.int .i64 io2))):=fun nm2 io2=>by
       have hl:(imgS ((j:Int)+1) (m.ds.take q) ps).length=ps.length:=za8 _ _ _;have z:=SOwns.set_both (l:=imgS ((j:Int)+1) (m.ds.take q) ps) (g:=g) (cap:=t1) (by rw[hl];exact HA.o.1) t (by rw[hl];exact ht) nm2 io2;rw[hl]at z;exact⟨z.1,(HA.o.2.1.setCell rfl _).setCell rfl _⟩
      have HQ:Hid (SOwns wA w.1.size 90 (.slice (some ⟨g,0,none⟩) ps.length t1) (imgS ((j:Int)+1) (m.ds.take q) ps)/\Chg (fun k=>(Value.slice (some ⟨g,0,none⟩) ps.length t1).ownBlock=some k) W2 wA):=⟨HA.o.1,HA.o.2.1⟩
      have HSN2:Hid (imgS ((j:Int)+1) (m.ds.take (q+1)) ps=if kk=2 then(imgS ((j:Int)+1) (m.ds.take q) ps).set t (⟨#[]⟩,0)else if kk=4/\0<af then(imgS ((j:Int)+1) (m.ds.take q) ps).set t (nm,io)else imgS ((j:Int)+1) (m.ds.take q) ps):=by
       have:=HSN.o;unfold stepS at this;rw[if_pos ⟨rfl,by rw[za8];exact ht⟩]at this;exact this
      have HABD:=hide HA.o.2.2;clear HSN HA;by_cases h2:kk=2
      ·subst h2;have HE:=HSN2.o;rw[if_pos rfl]at HE;have HNN:Hid (SOwns ((wA.setCell ⟨g,t*2,none⟩ (.string ⟨#[]⟩)).setCell ⟨g,t*2+1,none⟩ (.int .i64 0)) w.1.size 90 (.slice (some ⟨g,0,none⟩) ps.length t1) (imgS ((j:Int)+1) (m.ds.take (q+1)) ps)/\Chg (fun k=>(Value.slice (some ⟨g,0,none⟩) ps.length t1).ownBlock=some k) W2 ((wA.setCell ⟨g,t*2,none⟩ (.string ⟨#[]⟩)).setCell ⟨g,t*2+1,none⟩ (.int .i64 0))):=by rw[HE];exact HN.o _ _
       have dd1:((wA.setCell ⟨g,t*2,none⟩ (.string ⟨#[]⟩)).setCell ⟨g,t*2+1,none⟩ (.int .i64 0)).cell? ⟨bd,1,none⟩=some (.int .i64 2):=(((HABD.o.other (by have:=HGB.o g rfl;omega) _).other (by have:=HGB.o g rfl;omega) _)).cell 1;clear HSN2 HE HN HQ;go_wp2;go_roundw
       case rel=>exact⟨q+1,by omega,by go_num,HNN.o⟩
       case measure=>simp[intOf];omega
      ·have h2b:(kk==2)=false:=by simp[h2]
       by_cases h4:kk=4
       ·subst h4;by_cases ha:0<af
        ·have HE:=HSN2.o;rw[if_neg h2,if_pos ⟨rfl,ha⟩]at HE;have HNN:Hid (SOwns ((wA.setCell ⟨g,t*2,none⟩ (.string nm)).setCell ⟨g,t*2+1,none⟩ (.int .i64 io)) w.1.size 90 (.slice (some ⟨g,0,none⟩) ps.length t1) (imgS ((j:Int)+1) (m.ds.take (q+1)) ps)/\Chg (fun k=>(Value.slice (some ⟨g,0,none⟩) ps.length t1).ownBlock=some k) W2 ((wA.setCell ⟨g,t*2,none⟩ (.string nm)).setCell ⟨g,t*2+1,none⟩ (.int .i64 io))):=by rw[HE];exact HN.o _ _
         clear HSN2 HE HN HQ;go_wp2;go_roundw
         case rel=>exact⟨q+1,by omega,by go_num,HNN.o⟩
         case measure=>simp[intOf];omega
        ·have HE:=HSN2.o;rw[if_neg h2,if_neg (fun e=>ha e.2)]at HE;rw[←HE]at HQ;clear HSN2 HE HN;go_wp2;go_roundw
         case rel=>exact⟨q+1,by omega,by go_num,HQ.o⟩
         case measure=>simp[intOf];omega
       ·have h4b:(kk==4)=false:=by simp[h4]
        have HE:=HSN2.o;rw[if_neg h2,if_neg (fun e=>h4 e.1)]at HE;rw[←HE]at HQ;clear HSN2 HE HN;go_wp2;go_roundw
        case rel=>exact⟨q+1,by omega,by go_num,HQ.o⟩
        case measure=>simp[intOf];omega
     ·rw[decide_eq_true hd];have HN:Hid (SOwns wA w.1.size 90 (.slice s1 ps.length t1) (imgS ((j:Int)+1) (m.ds.take (q+1)) ps)/\Chg (fun k=>(Value.slice s1 ps.length t1).ownBlock=some k) W2 wA):=by
       have:=HSN.o;unfold stepS at this;rw[if_neg (fun e=>hd ⟨e.1,by have:=e.2;rw[za8]at this;exact this⟩)]at this;rw[this];exact⟨HA.o.1,HA.o.2.1⟩
      exact cQ103
   ·have hq2:q=m.6.length:=by omega
    have f0:=h5.c0;have f1:=h5.c2;have f2:=h5.c1;have s0:=hres.c0;have z0:=hres.frozen 0;have s1':=hres.c1;have z1:=hres.frozen 1;have s2:=hres.c2;have z2:=hres.frozen 2;have HF:Hid (SOwns (((wr.setCell ⟨w.1.size+1,0,none⟩ (.bool kd)).setCell ⟨w.1.size+1,1,none⟩ (.slice s1 ps.length t1)).setCell ⟨w.1.size+1,2,none⟩ (.string ln)) w.1.size 90 (.slice s1 ps.length t1) (imgS ((j:Int)+1) m.ds ps)/\Below w.1.size w (((wr.setCell ⟨w.1.size+1,0,none⟩ (.bool kd)).setCell ⟨w.1.size+1,1,none⟩ (.slice s1 ps.length t1)).setCell ⟨w.1.size+1,2,none⟩ (.string ln))):=by
     exact cQ34
    clear hbw hres hmb h5 HR hq2;go_wp2;refine bodyPost_ret (v:=.agg #[.bool kd,.slice s1 ps.length t1,.string ln]) (by simp[results,go_sem,s0,s1',s2]) rfl ⟨_,rfl,HF.o⟩
namespace Kit
variable {Z : ZT}
def DBx(w:World)(lo b:Nat)(u v iv bv:Value)(xs ys:List Bool):Prop:=∃(S:Nat->Prop)(is:List Ino)(bs:List Blk),AtC w b 30 #[u,v,iv,bv]/\DO w S u v iv bv xs ys is bs/\(∀k,S k->lo<k/\k≠b)/\is.length=8/\bs.length=16/\(∀(j:Nat)(h:j<bs.length),bigB 1048576 bs[j])
theorem DBx.below{w w':World}{lo b:Nat}{u v iv bv:Value}{xs ys:List Bool}(h:DBx w lo b u v iv bv xs ys)(hb:Below w.1.size w w'):DBx w' lo b u v iv bv xs ys:=by
 obtain⟨S,is,bs,h1,h2,h3⟩:=h;exact⟨S,is,bs,h1.over hb,h2.below hb nR,h3⟩
theorem bigB_set{l:List Blk}{n:Nat}(h:∀(j:Nat)(h:j<l.length),bigB n l[j]){j:Nat}{x:Blk}(hx:bigB n x)(i:Nat)(hi:i<(l.set j x).length):bigB n (l.set j x)[i]:=by
 rw[List.getElem_set]
 split
 ·exact hx
 ·exact h i (by simpa using hi)
theorem imgS_ok(p:Int)(ds:List Dp)(hd:∀d∈ds,DOk d)(ss:List Sl)(hs:∀s∈ss,SOk s):∀s∈imgS p ds ss,SOk s:=by
 induction ds generalizing ss with
 | nil=>exact hs
 | cons d ds ih =>
  have:imgS p (d::ds) ss=imgS p ds (stepS p ss d):=rfl;rw[this];refine ih (fun x hx=>hd x (List.mem_cons_of_mem _ hx)) _ fun s hx=>?_;have hdo:=hd d (List.mem_cons_self);unfold stepS at hx
  split at hx
  ·split at hx
   ·rcases List.mem_or_eq_of_mem_set hx with e|e
    ·exact hs s e
    ·subst e;exact⟨Nat.zero_le _,.inl ⟨rfl,rfl⟩⟩
   ·split at hx
    ·rcases List.mem_or_eq_of_mem_set hx with e|e
     ·exact hs s e
     ·subst e;exact⟨hdo.nm,.inr hdo.io⟩
    ·exact hs s hx
  ·exact hs s hx
theorem imgB_ok{m:MD}(h:Sh Z m)(p:Int):KOk0 (imgB m p):=by
 unfold imgB
 split
 ·rename_i hp;have hq:=zas hp;have hl:(p-1).toNat<m.4.length:=by rw[h.b];omega
  have e:m.bs.getD (p-1).toNat (false,[],⟨#[]⟩)=m.bs[(p-1).toNat]:=by rw[List.getD_eq_getElem?_getD,List.getElem?_eq_getElem hl];rfl
  have hk:=h.bb _ (List.getElem_mem hl);rw[e];exact⟨fun q=>by rw[za8];exact hk.n q,by rw[za8];exact hk.m,imgS_ok p m.ds h.dd _ hk.s,hk.t⟩
 ·exact⟨fun q=>absurd q dC,by decide,fun s hs=>absurd hs sI,by decide⟩
end Kit
variable {Z : ZT}
theorem zky(u v iv bv dv pv:Value)(m:MD)(x:Int)(w:World)(h:MR w u v iv bv dv pv m)(hm:Sh Z m):
  Calls Tryz.prog 174 #[.agg #[u,v,iv,bv,dv,pv,.int .i64 m.nx],.int .i64 x] w fun e w'=>(∃(s:ByteArray)(r:Bool),e=.returned (.tuple #[.string s,.bool r])/\s.size<=60/\(r=true->0<=x/\x<=20))/\Below w.1.size w w':=by
 obtain⟨a1,c1,a2,c2,a3,c3,a4,c4,a5,c5,a6,c6,rfl,rfl,rfl,rfl,rfl,rfl⟩:=h.form;have HH:=hide h;have HM:=hide hm;have hdl:m.6.length<=40:=hm.l;have HW:Hid (∀W,Below (w.alloc (.cells (M7 m a1 c1 a2 c2 a3 c3 a4 c4 a5 c5 a6 c6) 33)).1.size (w.alloc (.cells (M7 m a1 c1 a2 c2 a3 c3 a4 c4 a5 c5 a6 c6) 33)) W->Below w.1.size w W/\AtC W w.1.size 33 (M7 m a1 c1 a2 c2 a3 c3 a4 c4 a5 c5 a6 c6)/\w.1.size+1<=W.1.size):=fun W bb=>⟨((Below.refl _ w).alloc nR _).trans (bb.mono sI),(AtC.new w 33 _).over bb,by have:=bb.size;simp at this;exact this⟩
 have x0:=(AtC.new w 33 (M7 m a1 c1 a2 c2 a3 c3 a4 c4 a5 c5 a6 c6)).c0;have x1:=(AtC.new w 33 (M7 m a1 c1 a2 c2 a3 c3 a4 c4 a5 c5 a6 c6)).c1;have x2:=(AtC.new w 33 (M7 m a1 c1 a2 c2 a3 c3 a4 c4 a5 c5 a6 c6)).c2;have x3:=(AtC.new w 33 (M7 m a1 c1 a2 c2 a3 c3 a4 c4 a5 c5 a6 c6)).c3;have x4:=(AtC.new w 33 (M7 m a1 c1 a2 c2 a3 c3 a4 c4 a5 c5 a6 c6)).c4;have x5:=(AtC.new w 33 (M7 m a1 c1 a2 c2 a3 c3 a4 c4 a5 c5 a6 c6)).c5;have x6:=(AtC.new w 33 (M7 m a1 c1 a2 c2 a3 c3 a4 c4 a5 c5 a6 c6)).c6;have CM:Hid (∀W,Below w.1.size w W->Calls Tryz.prog 192 #[.agg (M7 m a1 c1 a2 c2 a3 c3 a4 c4 a5 c5 a6 c6)] W fun e w'=>AnyB e/\Below W.1.size W w'):=fun W bb=>zb4 _ _ _ _ _ _ m W (HH.o.below bb nR) HM.o;clear h hm;go_enter Tryz.func174,Tryz.ntmps174
 go_upto_region 1 with fail
 generalize hW0:(w.alloc (.cells (M7 m a1 c1 a2 c2 a3 c3 a4 c4 a5 c5 a6 c6) 33))=W0 at*;clear hW0;go_cut [16]from 9 to 16 (fun c wx=>(∃r,c=.bool r/\(r=false->0<=x/\x<=20))/\Below W0.1.size W0 wx)
 case first =>
  go_wp2_with (first| (go_at_call 192;refine(CM.out _ (HW.o _ bR).1).mono ?_;rintro e w2 ⟨⟨r,rfl⟩,B2⟩;have HB2:=hide B2;clear B2;cases r)| (go_at_call 50;refine(zai x 0 20 _).mono ?_;rintro e w3 ⟨rfl,rfl⟩;have HIB:Hid (inB x 0 20=true->0<=x/\x<=20):=zas;generalize inB x 0 20=ri at*;cases ri))
  all_goals (go_meet;first| exact⟨⟨_,rfl,fun _=>HIB.o rfl⟩,HB2.o⟩| exact⟨⟨_,rfl,fun _=>HIB.o⟩,HB2.o⟩| exact⟨⟨_,rfl,fun _=>HIB.o trivial⟩,HB2.o⟩| exact⟨⟨_,rfl,fun e=>absurd e dC⟩,HB2.o⟩)
 case rest =>
  obtain⟨⟨r,rfl,hxr⟩,hbw⟩:=hcut;obtain⟨w2,rfl⟩:∃w2,w2=wc:=⟨wc,rfl⟩
  have k2:=HW.o w2 hbw;have HK2:=hide k2;clear x0 x1 x2 x3 x4 x5 x6 hbw
  cases r
  case true =>
   clear k2;go_wp2
   go_ret2
   exact⟨⟨_,_,rfl,by decide,fun e=>absurd e dC⟩,HK2.o.1⟩
  case false =>
   have HX:Hid (0<=x/\x<=20):=hxr rfl;clear hxr;obtain⟨y0,y1,y2,y3⟩:=AtC.four k2.2.1;clear k2;go_wp2_with fail
   refine(zbq _ _ _ _ m.xs m.ys m.is m.bs w2 (HH.o.below HK2.o.1 nR).d HM.o.big.d).mono ?_;rintro e w3 ⟨u1,u2,u3,u4,rfl,O3,B3⟩;obtain⟨b1,d1,b2,d2,b3,d3,b4,d4,rfl,rfl,rfl,rfl⟩:=O3.dr.form;have hz2:=HK2.o.2.2;have HN:Hid (DBx (w3.alloc (.cells #[.slice b1 m.1.length d1,.slice b2 m.2.length d2,.slice b3 m.3.length d3,.slice b4 m.4.length d4] 30)) w.1.size w3.1.size (.slice b1 m.1.length d1) (.slice b2 m.2.length d2) (.slice b3 m.3.length d3) (.slice b4 m.4.length d4) m.xs m.ys):=⟨_,m.is,m.bs,AtC.new w3 30 _,O3.bound.alloc _,fun k hk=>⟨by have:=hk.1;omega,by have:=hk.2;omega⟩,HM.o.i,HM.o.b,fun j hj=>zgv (HM.o.bb _ (List.getElem_mem hj)).toKOk0⟩
   have HT:Hid (∀W,Chg (fun k=>w.1.size<k/\k≠w3.1.size) (w3.alloc (.cells #[.slice b1 m.1.length d1,.slice b2 m.2.length d2,.slice b3 m.3.length d3,.slice b4 m.4.length d4] 30)) W->Below w.1.size w W/\AtC W w.1.size 33 (M7 m a1 c1 a2 c2 a3 c3 a4 c4 a5 c5 a6 c6)/\w3.1.size+1<=W.1.size):=fun W hc=>by
    have b3:Below w2.1.size w2 (w3.alloc (.cells #[.slice b1 m.1.length d1,.slice b2 m.2.length d2,.slice b3 m.3.length d3,.slice b4 m.4.length d4] 30)):=B3.alloc B3.size _;have hz3:=B3.size;have lo:∀k,k<=w.1.size->W.1[k]?=w2.1[k]?:=fun k hk=>(hc.block k sO (fun e=>by omega)).trans (b3.block k oM);refine⟨⟨hc.os.trans (b3.os.trans HK2.o.1.os),hc.tape.trans (b3.tape.trans HK2.o.1.tape),hc.output.trans (b3.output.trans HK2.o.1.output),by have:=hc.size;simp at this;omega,fun k hk=>(lo k oM).trans (HK2.o.1.block k hk)⟩,(lo _ nR).trans HK2.o.2.1,by have:=hc.size;simp at this;exact this⟩
   have HB6:Hid (w.1.size<w3.1.size):=by have:=B3.size;show _<_;omega
   obtain⟨gi,hgi⟩:∃gi,b3=some ⟨gi,0,none⟩:=by
    obtain⟨S1,S2,S3,ti,tb,-,-,z,-⟩:=O3;obtain⟨g,cap,e,-⟩:=z.row.at 0 (by rw[z.len,HM.o.i];decide);simp only[Value.slice.injEq]at e;exact⟨g,e.1⟩
   obtain⟨gb,hgb⟩:∃gb,b4=some ⟨gb,0,none⟩:=by
    obtain⟨S1,S2,S3,ti,tb,-,-,-,z,-⟩:=O3;obtain⟨g,cap,e,-⟩:=z.row.at 0 (by rw[z.len,HM.o.b];decide);simp only[Value.slice.injEq]at e;exact⟨g,e.1⟩
   subst hgi hgb;clear O3 B3 y0 y1 y2 y3;go_wp2_with fail
   generalize hb6:w3.1.size=b6 at*;clear hb6;generalize w3.alloc (.cells #[.slice b1 m.1.length d1,.slice b2 m.2.length d2,.slice (some ⟨gi,0,none⟩) m.3.length d3,.slice (some ⟨gb,0,none⟩) m.4.length d4] 30)=W3 at*;go_loopw [7] (fun i' wr=>∃j:Nat,j<=8/\i'=.int .i64 ((j:Int)+1)/\Hid (DBx wr w.1.size b6 (.slice b1 m.1.length d1) (.slice b2 m.2.length d2) (.slice (some ⟨gi,0,none⟩) m.3.length d3) (.slice (some ⟨gb,0,none⟩) m.4.length d4) m.xs m.ys/\Chg (fun k=>w.1.size<k/\k≠b6) W3 wr)) (fun i' _=>8+1-(intOf i').toNat)
   case atStart=>exact⟨0,Nat.zero_le _,rfl,HN.o,Chg.refl _ _⟩
   case round =>
    obtain⟨j,hj,rfl,HR⟩:=hrel;by_cases hlt:j<8
    ·have j0:(0:Int)<=(j:Int):=by omega
     have j1:(j:Int)<8:=by omega
     have j2:(j:Int)+1<=8:=by omega
     have j4:(j:Int)<(m.3.length:Int):=by rw[HM.o.i];omega
     have hwj:IntKind.i64.wrap (j:Int)=(j:Int):=wrap_small _ oM oM;go_upto_region 7 with fail
     have HAL:Hid (∀W,Below wr.1.size wr W->W.cell? ⟨b6,2,none⟩=some (.slice (some ⟨gi,0,none⟩) m.3.length d3)/\AtC W w.1.size 33 (M7 m a1 c1 a2 c2 a3 c3 a4 c4 a5 c5 a6 c6)/\(∃r0,W.cell? ⟨gi,j*3,none⟩=some r0)/\(∃r1,W.cell? ⟨gi,j*3+1,none⟩=some r1)/\(∃r2,W.cell? ⟨gi,j*3+2,none⟩=some r2)/\(∀k,W.frozen? ⟨gi,k,none⟩=false)/\Below w.1.size w W):=fun W bb=>by
      obtain⟨S,is,bs,z1,z2,z3,z4,z5,z6⟩:=HR.o.1.below bb;have c2:=HR.o.2.trans (Chg.of_below bb);obtain⟨⟨q0,q1,q2,q3,q4,q5,-⟩,q6,-⟩:=z2.atI rfl j (by rw[z4];omega);exact⟨z1.cell 2,(HT.o W c2).2.1,⟨_,q3⟩,⟨_,q4⟩,⟨_,q5⟩,q6,(HT.o W c2).1⟩
     obtain⟨x1,xm,-,-,-,-,-⟩:=HAL.o wr bR;obtain⟨m0,m1,m2,m3,m4,m5,m6⟩:=AtC.sev xm;have HREL:Hid (∀w9 v9,Below wr.1.size wr w9->ROwns w9 wr.1.size 3 v9 (ic (imgI m ((j:Int)+1)).2.2)->DBx (set3 w9 gi j (.int .i64 (imgI m ((j:Int)+1)).1,.int .i64 (imgI m ((j:Int)+1)).2.1,v9)) w.1.size b6 (.slice b1 m.1.length d1) (.slice b2 m.2.length d2) (.slice (some ⟨gi,0,none⟩) m.3.length d3) (.slice (some ⟨gb,0,none⟩) m.4.length d4) m.xs m.ys/\Chg (fun k=>w.1.size<k/\k≠b6) W3 (set3 w9 gi j (.int .i64 (imgI m ((j:Int)+1)).1,.int .i64 (imgI m ((j:Int)+1)).2.1,v9))):=fun w9 v9 bb o9=>by
      obtain⟨S,is,bs,z1,z2,z3,z4,z5,z6⟩:=HR.o.1;have hz:=HR.o.2.size;have hzb:=z1.lt;have hb6:=HB6.o;obtain⟨-,-,-,-,sg⟩:=z2.atI rfl j (by rw[z4];omega);have sg:=z3 _ sg;have P:=z2.putI rfl j (by rw[z4];omega) (.int .i64 (imgI m ((j:Int)+1)).1,.int .i64 (imgI m ((j:Int)+1)).2.1,v9) (imgI m ((j:Int)+1)) bb ⟨rfl,rfl,o9.base_le (Nat.zero_le _)⟩ (fun k hk=>(o9.lt k hk).1);refine⟨⟨_,_,_,(((z1.over bb).other (Ne.symm sg.2) _).other (Ne.symm sg.2) _).other (Ne.symm sg.2) _,P,fun k hk=>?_,by rw[List.length_set];exact z4,z5,z6⟩,(((HR.o.2.trans (Chg.of_below bb)).setCell sg _).setCell sg _).setCell sg _⟩;rcases hk with hk|hk
      ·exact z3 k hk
      ·exact⟨by omega,by omega⟩
     clear xm
     go_region_with (go_at_call 208;refine(zkw _ _ _ _ _ _ m ((j:Int)+1) _ (HH.o.below (HAL.o _ (zac bR)).2.2.2.2.2.2 nR) HM.o).mono ?_;rintro e w9 ⟨v9,rfl,O9,B9⟩;obtain⟨n1,n2,rfl,-⟩:=O9.form;obtain⟨y1,-,⟨r0,k0⟩,⟨r1,k1⟩,⟨r2,k2⟩,k3,-⟩:=HAL.o w9 (zac B9);have z0:=k3 (j*3);have z1:=k3 (j*3+1);have z2:=k3 (j*3+2);have HB9:=hide B9;have HO9:=hide O9;clear k3 B9 O9)
     all_goals
      (have HZ:=hide (HREL.o w9 _ (zac HB9.o) HO9.o)
       clear HREL HAL HB9 HO9 HR;go_wp2;go_roundw
       case rel=>exact⟨j+1,by omega,by go_num,HZ.o⟩
       case measure=>simp[intOf];omega)
    ·have j3:¬((j:Int)+1<=8):=by omega
     have HR0:=hide HR.o;clear HR HN;go_wp2_with fail
     go_loopw [8] (fun i' wr=>∃j:Nat,j<=16/\i'=.int .i64 ((j:Int)+1)/\Hid (DBx wr w.1.size b6 (.slice b1 m.1.length d1) (.slice b2 m.2.length d2) (.slice (some ⟨gi,0,none⟩) m.3.length d3) (.slice (some ⟨gb,0,none⟩) m.4.length d4) m.xs m.ys/\Chg (fun k=>w.1.size<k/\k≠b6) W3 wr)) (fun i' _=>16+1-(intOf i').toNat)
     case atStart=>exact⟨0,Nat.zero_le _,rfl,HR0.o⟩
     case round =>
      obtain⟨j,hj,rfl,HR⟩:=hrel;by_cases hlt:j<16
      ·have j0:(0:Int)<=(j:Int):=by omega
       have j1:(j:Int)<16:=by omega
       have j2:(j:Int)+1<=16:=by omega
       have j4:(j:Int)<(m.4.length:Int):=by rw[HM.o.b];omega
       have hwj:IntKind.i64.wrap (j:Int)=(j:Int):=wrap_small _ oM oM;go_upto_region 11 with fail
       have HAL:Hid (∀W,Below wr.1.size wr W->W.cell? ⟨b6,3,none⟩=some (.slice (some ⟨gb,0,none⟩) m.4.length d4)/\AtC W w.1.size 33 (M7 m a1 c1 a2 c2 a3 c3 a4 c4 a5 c5 a6 c6)/\(∃r0,W.cell? ⟨gb,j*3,none⟩=some r0)/\(∃r1,W.cell? ⟨gb,j*3+1,none⟩=some r1)/\(∃r2,W.cell? ⟨gb,j*3+2,none⟩=some r2)/\(∀k,W.frozen? ⟨gb,k,none⟩=false)/\Below w.1.size w W):=fun W bb=>by
        obtain⟨S,is,bs,z1,z2,z3,z4,z5,z6⟩:=HR.o.1.below bb;have c2:=HR.o.2.trans (Chg.of_below bb);obtain⟨⟨q0,q1,q2,q3,q4,q5,-⟩,q6,-⟩:=z2.atB rfl j (by rw[z5];omega);exact⟨z1.cell 3,(HT.o W c2).2.1,⟨_,q3⟩,⟨_,q4⟩,⟨_,q5⟩,q6,(HT.o W c2).1⟩
       obtain⟨x1,xm,-,-,-,-,-⟩:=HAL.o wr bR;obtain⟨m0,m1,m2,m3,m4,m5,m6⟩:=AtC.sev xm;have HREL:Hid (∀w9 v9,Below wr.1.size wr w9->SOwns w9 wr.1.size 90 v9 (imgB m ((j:Int)+1)).2.1->DBx (set3 w9 gb j (.bool (imgB m ((j:Int)+1)).1,v9,.string (imgB m ((j:Int)+1)).2.2)) w.1.size b6 (.slice b1 m.1.length d1) (.slice b2 m.2.length d2) (.slice (some ⟨gi,0,none⟩) m.3.length d3) (.slice (some ⟨gb,0,none⟩) m.4.length d4) m.xs m.ys/\Chg (fun k=>w.1.size<k/\k≠b6) W3 (set3 w9 gb j (.bool (imgB m ((j:Int)+1)).1,v9,.string (imgB m ((j:Int)+1)).2.2))):=fun w9 v9 bb o9=>by
        obtain⟨S,is,bs,z1,z2,z3,z4,z5,z6⟩:=HR.o.1;have hz:=HR.o.2.size;have hzb:=z1.lt;have hb6:=HB6.o;obtain⟨-,-,-,-,sg⟩:=z2.atB rfl j (by rw[z5];omega);have sg:=z3 _ sg;have P:=z2.putB rfl j (by rw[z5];omega) (.bool (imgB m ((j:Int)+1)).1,v9,.string (imgB m ((j:Int)+1)).2.2) (imgB m ((j:Int)+1)) bb ⟨rfl,o9.base_le (Nat.zero_le _),rfl⟩ (fun k hk=>(o9.lt k hk).1);refine⟨⟨_,_,_,(((z1.over bb).other (Ne.symm sg.2) _).other (Ne.symm sg.2) _).other (Ne.symm sg.2) _,P,fun k hk=>?_,z4,by rw[List.length_set];exact z5,fun i hi=>bigB_set z6 (zgv (imgB_ok HM.o _)) i hi⟩,(((HR.o.2.trans (Chg.of_below bb)).setCell sg _).setCell sg _).setCell sg _⟩;rcases hk with hk|hk
        ·exact z3 k hk
        ·exact⟨by omega,by omega⟩
       clear xm
       go_region_with (go_at_call 209;refine(zkx _ _ _ _ _ _ m ((j:Int)+1) _ (HH.o.below (HAL.o _ (zac bR)).2.2.2.2.2.2 nR) HM.o).mono ?_;rintro e w9 ⟨v9,rfl,O9,B9⟩;obtain⟨n1,n2,rfl,-⟩:=O9.form;obtain⟨y1,-,⟨r0,k0⟩,⟨r1,k1⟩,⟨r2,k2⟩,k3,-⟩:=HAL.o w9 (zac B9);have z0:=k3 (j*3);have z1:=k3 (j*3+1);have z2:=k3 (j*3+2);have HB9:=hide B9;have HO9:=hide O9;clear k3 B9 O9)
       all_goals
        (have HZ:=hide (HREL.o w9 _ (zac HB9.o) HO9.o)
         clear HREL HAL HB9 HO9 HR;go_wp2;go_roundw
         case rel=>exact⟨j+1,by omega,by go_num,HZ.o⟩
         case measure=>simp[intOf];omega)
      ·have j3:¬((j:Int)+1<=16):=by omega
       obtain⟨S,is,bs,z1,z2,z3,z4,z5,z6⟩:=HR.o.1;have hBW:=(HT.o wr HR.o.2).1;obtain⟨e0,e1,e2,e3⟩:=AtC.four z1;have CUT:Hid (Calls Tryz.prog 210 #[.agg #[.slice b1 m.1.length d1,.slice b2 m.2.length d2,.slice (some ⟨gi,0,none⟩) m.3.length d3,.slice (some ⟨gb,0,none⟩) m.4.length d4],.int .i64 x] wr fun e w'=>(∃(s:ByteArray)(r:Bool),e=.returned (.tuple #[.string s,.bool r])/\s.size<=60)/\Below wr.1.size wr w'):=(zkt _ _ _ _ m.xs m.ys is bs x 0 wr z2.dr z2.two z6).mono fun e w' ⟨h1,h2⟩=>⟨⟨_,_,h1,zgg _ _ _ _ _⟩,h2⟩
       have HBW:=hide hBW;clear z1 z2 z3 z4 z5 z6 HR hBW;go_wp2_with (go_at_call 210;refine CUT.out.mono ?_;rintro e w8 ⟨⟨s8,r8,rfl,hs8⟩,B8⟩;have HB8:=hide B8;have HS8:=hide hs8;clear B8 hs8)
       go_ret2
       exact⟨⟨_,_,rfl,HS8.o,fun _=>HX.o⟩,HBW.o.trans (HB8.o.mono HBW.o.size)⟩
def FsW(w:World)(B:Nat)(a:Value):Prop:=∃(a1:Option Addr)(c1:Nat)(a2:Option Addr)(c2:Nat)(a3:Option Addr)(c3:Nat)(a4:Option Addr)(c4:Nat)(a5:Option Addr)(c5:Nat)(a6:Option Addr)(c6:Nat)(ta:Option Addr)(tc:Nat)(m:MD)(ts:List ByteArray),a=.agg (M9 m a1 c1 a2 c2 a3 c3 a4 c4 a5 c5 a6 c6 ta ts.length tc)/\N7 w (fun k=>B<=k) m a1 c1 a2 c2 a3 c3 a4 c4 a5 c5 a6 c6/\ROwns w B 9 (.slice ta ts.length tc) (stc ts)/\Sh Z0 m/\DvOk ts
theorem FsW.below{w w':World}{B:Nat}{a:Value}(h:FsW w B a)(hb:Below w.1.size w w'):FsW w' B a:=by
 obtain⟨a1,c1,a2,c2,a3,c3,a4,c4,a5,c5,a6,c6,ta,tc,m,ts,h1,h2,h3,h4⟩:=h;exact⟨a1,c1,a2,c2,a3,c3,a4,c4,a5,c5,a6,c6,ta,tc,m,ts,h1,h2.below hb nR,h3.below hb nR,h4⟩
theorem FsW.mono{w:World}{B B':Nat}{a:Value}(h:FsW w B a)(hb:B'<=B):FsW w B' a:=by
 obtain⟨a1,c1,a2,c2,a3,c3,a4,c4,a5,c5,a6,c6,ta,tc,m,ts,h1,h2,h3,h4⟩:=h;exact⟨a1,c1,a2,c2,a3,c3,a4,c4,a5,c5,a6,c6,ta,tc,m,ts,h1,h2.mono (fun k hk=>Nat.le_trans hb hk),h3.base_le hb,h4⟩
theorem wrD_ok{xs:List ByteArray}{u:Int}{s:ByteArray}(h:DvOk xs)(hs:s.size<=60):DvOk (wrD xs u s):=by
 unfold wrD
 split
 ·exact⟨by rw[List.length_set];exact h.n,fun j hj=>by
   rw[List.getElem_set]
   split
   ·omega
   ·exact h.s j (by rw[List.length_set]at hj;exact hj)⟩
 ·exact h
theorem wb_any(u v iv bv dv pv tv:Value)(m:MD)(ts:List ByteArray)(x:Int)(w:World)(h:MR w u v iv bv dv pv m)(ht:RSt w tv ts)(hm:Sh Z0 m)(hd:DvOk ts):
  Calls Tryz.prog 144 #[.agg #[u,v,iv,bv,dv,pv,.int .i64 m.nx,tv],.int .i64 x] w fun e w'=>∃a r,e=.returned (.tuple #[a,.bool r])/\FsW w' w.1.size a/\Below w.1.size w w':=by
 obtain⟨a1,c1,a2,c2,a3,c3,a4,c4,a5,c5,a6,c6,rfl,rfl,rfl,rfl,rfl,rfl⟩:=h.form;obtain⟨ta,tc,rfl⟩:=ht.form;obtain⟨W0,hW0⟩:∃W0,((w.alloc (.cells (M9 m a1 c1 a2 c2 a3 c3 a4 c4 a5 c5 a6 c6 ta ts.length tc) 119)).alloc (.cells #[.slice none 0 0,.slice none 0 0,.slice none 0 0,.slice none 0 0,.slice none 0 0,.slice none 0 0,.int .i64 0,.slice none 0 0] 119))=W0:=⟨_,rfl⟩
 have HC:Hid (∀W,Below W0.1.size W0 W->AtC W w.1.size 119 (M9 m a1 c1 a2 c2 a3 c3 a4 c4 a5 c5 a6 c6 ta ts.length tc)/\AtC W (w.1.size+1) 119 #[.slice none 0 0,.slice none 0 0,.slice none 0 0,.slice none 0 0,.slice none 0 0,.slice none 0 0,.int .i64 0,.slice none 0 0]/\Below w.1.size w W/\w.1.size+1+1<=W.1.size):=fun W b2=>by
  exact cQ30
 have HH:=hide h;have HT:=hide ht;have HM:=hide hm;have HD:=hide hd;have HDL:Hid (ts.length<=1048576):=by have:=hd.n;show _<=_;omega
 have HB0:Hid (Below W0.1.size W0 W0):=Below.refl _ _;obtain⟨x0,x1,x2,x3,x4,x5,x6,x7⟩:=AtC.eig ((HC.o W0 HB0.o).1);have HM0:Hid (R7 W0 m a1 c1 a2 c2 a3 c3 a4 c4 a5 c5 a6 c6):=HH.o.below (HC.o W0 HB0.o).2.2.1 nR;clear h ht hm hd;go_enter Tryz.func144,Tryz.ntmps144
 go_wp2_with fail
 refine(zky _ _ _ _ _ _ m x W0 HM0.o HM.o).mono ?_;rintro e w1 ⟨⟨s,q1,rfl,hs,-⟩,B1⟩;have HB1:Hid (Below W0.1.size W0 w1):=B1;have HS:=hide hs;clear B1 hs HM0 x0 x1 x2 x3 x4 x5 x6 x7 hW0;obtain⟨x0,x1,x2,x3,x4,x5,x6,x7⟩:=AtC.eig ((HC.o w1 HB1.o).1);have HM1:Hid (R7 w1 m a1 c1 a2 c2 a3 c3 a4 c4 a5 c5 a6 c6/\RSt w1 (.slice ta ts.length tc) ts):=⟨HH.o.below (HC.o w1 HB1.o).2.2.1 nR,HT.o.below (HC.o w1 HB1.o).2.2.1 nR⟩
 go_wp2_with fail
 refine(fsOk_any _ _ _ _ _ _ _ m ts w1 HM1.o.1 HM.o HM1.o.2 HD.o).mono ?_;rintro e w2 ⟨⟨q2,rfl⟩,B2⟩;have HB2:Hid (Below W0.1.size W0 w2):=HB1.o.trans (B2.mono HB1.o.size);clear B2 HM1 HB1 x0 x1 x2 x3 x4 x5 x6 x7;by_cases hq:q2=true/\q1=true
 rotate_left
 ·have hqq:((!q2)|| (!q1))=true:=by cases q2<;>cases q1<;>simp_all
  cases q2<;>cases q1<;>first| (exfalso;exact hq ⟨rfl,rfl⟩)| skip
  all_goals clear hq hqq
  all_goals
   obtain⟨x0,x1,x2,x3,x4,x5,x6,x7⟩:=AtC.eig ((HC.o w2 HB2.o).1);have HMC:Hid (R7 w2 m a1 c1 a2 c2 a3 c3 a4 c4 a5 c5 a6 c6/\RSt w2 (.slice ta ts.length tc) ts):=⟨HH.o.below (HC.o w2 HB2.o).2.2.1 nR,HT.o.below (HC.o w2 HB2.o).2.2.1 nR⟩
   have HZ9:Hid (w.1.size+1+1<=w2.1.size):=(HC.o w2 HB2.o).2.2.2;go_wp2_with fail
   refine(zfl _ _ _ _ _ _ _ m ts w2 HMC.o.1 HM.o.big HMC.o.2 HDL.o).mono ?_;rintro e w9 ⟨u1,u2,u3,u4,u5,u6,t1,rfl,M9,T9,B9⟩;have HB9:Hid (Below W0.1.size W0 w9):=(HB2.o).trans (B9.mono (HB2.o).size);obtain⟨b1,d1,b2,d2,b3,d3,b4,d4,b5,d5,b6,d6,rfl,rfl,rfl,rfl,rfl,rfl⟩:=M9.mr.form;obtain⟨b7,d7,rfl⟩:=T9.rst.form;obtain⟨r0,r1,r2,r3,r4,r5,r6,r7⟩:=AtC.eig ((HC.o w9 HB9.o).2.1);have v0:=(HC.o w9 HB9.o).2.1.frozen 0;have v1:=(HC.o w9 HB9.o).2.1.frozen 1;have v2:=(HC.o w9 HB9.o).2.1.frozen 2;have v3:=(HC.o w9 HB9.o).2.1.frozen 3;have v4:=(HC.o w9 HB9.o).2.1.frozen 4;have v5:=(HC.o w9 HB9.o).2.1.frozen 5;have v6:=(HC.o w9 HB9.o).2.1.frozen 6;have v7:=(HC.o w9 HB9.o).2.1.frozen 7;have HF9:=hide (And.intro M9 T9);clear M9 T9 B9 HMC;go_wp2;exact bodyPost_ret (v:=.tuple #[.agg (M9 m b1 d1 b2 d2 b3 d3 b4 d4 b5 d5 b6 d6 b7 ts.length d7),.bool false]) sR8 rfl ⟨_,_,rfl,⟨b1,d1,b2,d2,b3,d3,b4,d4,b5,d5,b6,d6,b7,d7,_,_,rfl,(HF9.o.1.of_heap fun k hk _=>zag _ _ _ _ _ _ _ _ _ _ k (by have:=HZ9.o;have:_<=k:=hk;omega)).mono (fun k hk=>by have:=HZ9.o;have:_<=k:=hk;omega),(HF9.o.2.of_heap fun k hk=>zag _ _ _ _ _ _ _ _ _ _ k (by have:=HZ9.o;have:=(HF9.o.2.lt k hk).1;omega)).base_le (by have:=HZ9.o;omega),HM.o,HD.o⟩,zau (HC.o w9 HB9.o).2.2.1 oM _ _ _ _ _ _ _ _⟩
 obtain⟨rfl,rfl⟩:=hq;obtain⟨x0,x1,x2,x3,x4,x5,x6,x7⟩:=AtC.eig ((HC.o w2 HB2.o).1);have HT2:Hid (RSt w2 (.slice ta ts.length tc) ts):=HT.o.below (HC.o w2 HB2.o).2.2.1 nR;go_wp2_with fail
 refine(zg1 _ ts x s w2 HT2.o HDL.o (fun j hj=>by have:=HD.o.s j hj;omega) (by have:=HS.o;omega)).mono ?_;rintro e w3 ⟨tw,rfl,T3,B3⟩;have HB3:Hid (Below W0.1.size W0 w3):=HB2.o.trans (B3.mono HB2.o.size);have HT3:=hide T3;have HZ3:Hid (w.1.size+1+1<=w2.1.size):=(HC.o w2 HB2.o).2.2.2;have HS23:Hid (w2.1.size<=w3.1.size):=B3.size;clear B3 T3 HT2 HB2 x0 x1 x2 x3 x4 x5 x6 x7;obtain⟨b7,d7,rfl⟩:=HT3.o.rst.form;obtain⟨q3,hq3⟩:∃q3,okW ts x s=q3:=⟨_,rfl⟩
 rw[hq3];clear hq3;obtain⟨nl,hnl⟩:∃nl,(wrD ts x s).length=nl:=⟨_,rfl⟩
 rw[hnl]at HT3 ⊢;obtain⟨W4,hW4⟩:∃W4,w3.alloc (.cells #[.slice b7 nl d7] 46)=W4:=⟨_,rfl⟩
 have HB4:Hid (Below W0.1.size W0 W4/\ROwns W4 w2.1.size 9 (.slice b7 nl d7) (stc (wrD ts x s))/\AtC W4 w3.1.size 46 #[.slice b7 nl d7]/\w3.1.size+1=W4.1.size):=by
  rw[←hW4];exact⟨HB3.o.alloc HB3.o.size _,HT3.o.alloc _,AtC.new w3 46 _,by simp⟩
 have HDW:Hid (DvOk (wrD ts x s)):=wrD_ok HD.o HS.o;have HNL:=hide hnl;clear hnl HT3
 cases q3 with
 | false =>
  obtain⟨x0,x1,x2,x3,x4,x5,x6,x7⟩:=AtC.eig ((HC.o W4 HB4.o.1).1);have HMC:Hid (R7 W4 m a1 c1 a2 c2 a3 c3 a4 c4 a5 c5 a6 c6/\RSt W4 (.slice ta ts.length tc) ts):=⟨HH.o.below (HC.o W4 HB4.o.1).2.2.1 nR,HT.o.below (HC.o W4 HB4.o.1).2.2.1 nR⟩
  have HZ9:Hid (w.1.size+1+1<=W4.1.size):=(HC.o W4 HB4.o.1).2.2.2;go_wp2_with fail
  refine(zfl _ _ _ _ _ _ _ m ts W4 HMC.o.1 HM.o.big HMC.o.2 HDL.o).mono ?_;rintro e w9 ⟨u1,u2,u3,u4,u5,u6,t1,rfl,M9,T9,B9⟩;have HB9:Hid (Below W0.1.size W0 w9):=(HB4.o.1).trans (B9.mono (HB4.o.1).size);obtain⟨b1,d1,b2,d2,b3,d3,b4,d4,b5,d5,b6,d6,rfl,rfl,rfl,rfl,rfl,rfl⟩:=M9.mr.form;obtain⟨b7,d7,rfl⟩:=T9.rst.form;obtain⟨r0,r1,r2,r3,r4,r5,r6,r7⟩:=AtC.eig ((HC.o w9 HB9.o).2.1);have v0:=(HC.o w9 HB9.o).2.1.frozen 0;have v1:=(HC.o w9 HB9.o).2.1.frozen 1;have v2:=(HC.o w9 HB9.o).2.1.frozen 2;have v3:=(HC.o w9 HB9.o).2.1.frozen 3;have v4:=(HC.o w9 HB9.o).2.1.frozen 4;have v5:=(HC.o w9 HB9.o).2.1.frozen 5;have v6:=(HC.o w9 HB9.o).2.1.frozen 6;have v7:=(HC.o w9 HB9.o).2.1.frozen 7;have HF9:=hide (And.intro M9 T9);clear M9 T9 B9 HMC;go_wp2;exact bodyPost_ret (v:=.tuple #[.agg (M9 m b1 d1 b2 d2 b3 d3 b4 d4 b5 d5 b6 d6 b7 ts.length d7),.bool false]) sR8 rfl ⟨_,_,rfl,⟨b1,d1,b2,d2,b3,d3,b4,d4,b5,d5,b6,d6,b7,d7,_,_,rfl,(HF9.o.1.of_heap fun k hk _=>zag _ _ _ _ _ _ _ _ _ _ k (by have:=HZ9.o;have:_<=k:=hk;omega)).mono (fun k hk=>by have:=HZ9.o;have:_<=k:=hk;omega),(HF9.o.2.of_heap fun k hk=>zag _ _ _ _ _ _ _ _ _ _ k (by have:=HZ9.o;have:=(HF9.o.2.lt k hk).1;omega)).base_le (by have:=HZ9.o;omega),HM.o,HD.o⟩,zau (HC.o w9 HB9.o).2.2.1 oM _ _ _ _ _ _ _ _⟩
 | true =>
  obtain⟨x0,x1,x2,x3,x4,x5,x6,x7⟩:=AtC.eig ((HC.o W4 HB4.o.1).1);have HM4:Hid (R7 W4.drew m a1 c1 a2 c2 a3 c3 a4 c4 a5 c5 a6 c6):=HH.o.below (HC.o W4.drew (HB4.o.1.trans (by exact(show Below W0.1.size W4 W4.drew from(zac bR).mono HB4.o.1.size)))).2.2.1 nR;have y8:=HB4.o.2.2.1.c0;go_upto_region 7 with fail
  have HZ9:Hid (w.1.size+1+1<=w2.1.size/\w2.1.size<=w3.1.size/\w3.1.size+1=W4.1.size):=⟨HZ3.o,HS23.o,HB4.o.2.2.2⟩
  have HF:Hid (∀w5,Below W4.drew.1.size W4.drew w5->Below W0.1.size W0 w5/\AtC w5 w3.1.size 46 #[.slice b7 nl d7]/\ROwns w5 w2.1.size 9 (.slice b7 nl d7) (stc (wrD ts x s))):=fun w5 b=>by
   have b5:=zac b;exact⟨HB4.o.1.trans (b5.mono HB4.o.1.size),HB4.o.2.2.1.over b5,HB4.o.2.1.below b5 nR⟩
  go_region_with (go_at_call 177;refine(done_any _ _ _ _ _ _ m x W4.drew HM4.o HM.o).mono ?_;rintro e w5 ⟨u1,u2,u3,u4,u5,u6,mn,rfl,O5,hS5,B5⟩;obtain⟨b1,d1,b2,d2,b3,d3,b4,d4,b5,d5,b6,d6,rfl,rfl,rfl,rfl,rfl,rfl⟩:=O5.mr.form;have HF5:=hide (HF.o w5 B5);have y9:w5.cell? ⟨w3.1.size,0,none⟩=some (.slice b7 nl d7):=HF5.o.2.1.cell 0;have r0:w5.cell? ⟨w.1.size+1,0,none⟩=some (.slice none 0 0):=(HC.o w5 HF5.o.1).2.1.cell 0;have r1:w5.cell? ⟨w.1.size+1,1,none⟩=some (.slice none 0 0):=(HC.o w5 HF5.o.1).2.1.cell 1;have r2:w5.cell? ⟨w.1.size+1,2,none⟩=some (.slice none 0 0):=(HC.o w5 HF5.o.1).2.1.cell 2;have r3:w5.cell? ⟨w.1.size+1,3,none⟩=some (.slice none 0 0):=(HC.o w5 HF5.o.1).2.1.cell 3;have r4:w5.cell? ⟨w.1.size+1,4,none⟩=some (.slice none 0 0):=(HC.o w5 HF5.o.1).2.1.cell 4;have r5:w5.cell? ⟨w.1.size+1,5,none⟩=some (.slice none 0 0):=(HC.o w5 HF5.o.1).2.1.cell 5;have r6:w5.cell? ⟨w.1.size+1,6,none⟩=some (.int .i64 0):=(HC.o w5 HF5.o.1).2.1.cell 6;have r7:w5.cell? ⟨w.1.size+1,7,none⟩=some (.slice none 0 0):=(HC.o w5 HF5.o.1).2.1.cell 7;have v0:=(HC.o w5 HF5.o.1).2.1.frozen 0;have v1:=(HC.o w5 HF5.o.1).2.1.frozen 1;have v2:=(HC.o w5 HF5.o.1).2.1.frozen 2;have v3:=(HC.o w5 HF5.o.1).2.1.frozen 3;have v4:=(HC.o w5 HF5.o.1).2.1.frozen 4;have v5:=(HC.o w5 HF5.o.1).2.1.frozen 5;have v6:=(HC.o w5 HF5.o.1).2.1.frozen 6;have v7:=(HC.o w5 HF5.o.1).2.1.frozen 7;have HO5:Hid (N7 w5 (fun k=>W4.1.size<=k) mn b1 d1 b2 d2 b3 d3 b4 d4 b5 d5 b6 d6/\Sh Z0 mn):=⟨O5,hS5⟩;clear O5 hS5 B5)
  all_goals go_wp2
  all_goals have HT5:Hid (ROwns w5 w2.1.size 9 (.slice b7 (wrD ts x s).length d7) (stc (wrD ts x s))):=by rw[HNL.o];exact HF5.o.2.2
  all_goals rw[←HNL.o]
  all_goals exact bodyPost_ret (v:=.tuple #[.agg #[.slice b1 mn.1.length d1,.slice b2 mn.2.length d2,.slice b3 mn.3.length d3,.slice b4 mn.4.length d4,.slice b5 mn.5.length d5,.slice b6 mn.6.length d6,.int .i64 mn.nx,.slice b7 (wrD ts x s).length d7],.bool true]) (by simp[results,go_sem,r0,r1,r2,r3,r4,r5,r6,r7,HNL.o]) rfl ⟨_,_,rfl,⟨b1,d1,b2,d2,b3,d3,b4,d4,b5,d5,b6,d6,b7,d7,_,_,rfl,(HO5.o.1.of_heap fun k hk _=>zag _ _ _ _ _ _ _ _ _ _ k (by have:=HZ9.o;have:_<=k:=hk;omega)).mono (fun k hk=>by have:=HZ9.o;have:_<=k:=hk;omega),(HT5.o.of_heap fun k hk=>zag _ _ _ _ _ _ _ _ _ _ k (by have:=HZ9.o;have:=(HT5.o.lt k hk).1;omega)).base_le (by have:=HZ9.o;omega),HO5.o.2,HDW.o⟩,zau (HC.o w5 HF5.o.1).2.2.1 oM _ _ _ _ _ _ _ _⟩
theorem zmr(u v iv bv dv pv tv:Value)(m:MD)(ts:List ByteArray)(w:World)(h:MR w u v iv bv dv pv m)(ht:RSt w tv ts)(hm:Sh Z0 m)(hd:DvOk ts):
  Calls Tryz.prog 145 #[.agg #[u,v,iv,bv,dv,pv,.int .i64 m.nx,tv]] w fun e w'=>∃a,e=.returned a/\FsW w' w.1.size a/\Below w.1.size w w':=by
 obtain⟨a1,c1,a2,c2,a3,c3,a4,c4,a5,c5,a6,c6,rfl,rfl,rfl,rfl,rfl,rfl⟩:=h.form;obtain⟨ta,tc,rfl⟩:=ht.form;obtain⟨W0,hW0⟩:∃W0,((w.alloc (.cells (M9 m a1 c1 a2 c2 a3 c3 a4 c4 a5 c5 a6 c6 ta ts.length tc) 119)).alloc (.cells #[.slice none 0 0,.slice none 0 0,.slice none 0 0,.slice none 0 0,.slice none 0 0,.slice none 0 0,.int .i64 0,.slice none 0 0] 119))=W0:=⟨_,rfl⟩
 have HC:Hid (∀W,Below W0.1.size W0 W->AtC W w.1.size 119 (M9 m a1 c1 a2 c2 a3 c3 a4 c4 a5 c5 a6 c6 ta ts.length tc)/\AtC W (w.1.size+1) 119 #[.slice none 0 0,.slice none 0 0,.slice none 0 0,.slice none 0 0,.slice none 0 0,.slice none 0 0,.int .i64 0,.slice none 0 0]/\Below w.1.size w W/\w.1.size+1+1<=W.1.size):=fun W b2=>by
  exact cQ30
 have HB0:Hid (Below W0.1.size W0 W0):=Below.refl _ _;have HM0:Hid (R7 W0 m a1 c1 a2 c2 a3 c3 a4 c4 a5 c5 a6 c6/\RSt W0 (.slice ta ts.length tc) ts/\Sh Z0 m/\DvOk ts/\ts.length<=1048576):=⟨h.below (HC.o W0 HB0.o).2.2.1 nR,ht.below (HC.o W0 HB0.o).2.2.1 nR,hm,hd,by have:=hd.n;omega⟩
 have HZ0:Hid (w.1.size+1+1<=W0.1.size):=(HC.o W0 HB0.o).2.2.2;obtain⟨x0,x1,x2,x3,x4,x5,x6,x7⟩:=AtC.eig ((HC.o W0 HB0.o).1);clear h ht hm hd;go_enter Tryz.func145,Tryz.ntmps145
 go_wp2_with fail
 refine(zfl _ _ _ _ _ _ _ m ts W0 HM0.o.1 HM0.o.2.2.1.big HM0.o.2.1 HM0.o.2.2.2.2).mono ?_;rintro e w1 ⟨u1,u2,u3,u4,u5,u6,t1,rfl,M1,T1,B1⟩;obtain⟨b1,d1,b2,d2,b3,d3,b4,d4,b5,d5,b6,d6,rfl,rfl,rfl,rfl,rfl,rfl⟩:=M1.mr.form;obtain⟨b7,d7,rfl⟩:=T1.rst.form;obtain⟨bo,hbo⟩:∃bo,w1.1.size=bo:=⟨_,rfl⟩
 have HR0:Hid (∀wr,w1.alloc (.cells (M9 m b1 d1 b2 d2 b3 d3 b4 d4 b5 d5 b6 d6 b7 ts.length d7) 119)=wr->∃(b1:Option Addr)(d1:Nat)(b2:Option Addr)(d2:Nat)(b3:Option Addr)(d3:Nat)(b4:Option Addr)(d4:Nat)(b5:Option Addr)(d5:Nat)(b6:Option Addr)(d6:Nat)(b7:Option Addr)(d7:Nat)(mo:MD)(tx:List ByteArray),AtC wr bo 119 (M9 mo b1 d1 b2 d2 b3 d3 b4 d4 b5 d5 b6 d6 b7 tx.length d7)/\N7 wr (fun k=>w.1.size+1+1<=k/\k≠bo) mo b1 d1 b2 d2 b3 d3 b4 d4 b5 d5 b6 d6/\ROwns wr (w.1.size+1+1) 9 (.slice b7 tx.length d7) (stc tx)/\(∀k,(Value.slice b7 tx.length d7).ownBlock=some k->k≠bo)/\Sh Z0 mo/\DvOk tx/\AtC wr (w.1.size+1) 119 #[.slice none 0 0,.slice none 0 0,.slice none 0 0,.slice none 0 0,.slice none 0 0,.slice none 0 0,.int .i64 0,.slice none 0 0]/\Below w.1.size w wr):=by
  rintro wr rfl;have z1:=B1.size;have z0:=HZ0.o;refine⟨b1,d1,b2,d2,b3,d3,b4,d4,b5,d5,b6,d6,b7,d7,m,ts,?_,(M1.bound.below ((Below.refl _ w1).alloc nR _) nR).mono (fun k hk=>?_),(T1.alloc _).base_le HZ0.o,fun k hk=>?_,HM0.o.2.2.1,HM0.o.2.2.2.1,(HC.o _ (B1.alloc z1 _)).2.1,(HC.o _ (B1.alloc z1 _)).2.2.1⟩
  ·rw[←hbo];exact AtC.new w1 119 _
  ·have:W0.1.size<=k/\k<w1.1.size:=hk;omega
  ·have:=(T1.lt k hk).2;omega
 have hbz:w.1.size+1+1<=bo:=by have:=B1.size;have:=HZ0.o;omega
 clear M1 T1 B1 HM0 HC HB0 x0 x1 x2 x3 x4 x5 x6 x7 hW0;go_wp2_with fail
 generalize hwa:w1.alloc (.cells (M9 m b1 d1 b2 d2 b3 d3 b4 d4 b5 d5 b6 d6 b7 ts.length d7) 119)=wa at*;have HRA:=hide (HR0.o wa rfl);clear HR0 hwa hbo;go_loopw [4] (fun i wr=>∃n:Nat,n<=400/\i=.int .i64 n/\Hid (∃(b1:Option Addr)(d1:Nat)(b2:Option Addr)(d2:Nat)(b3:Option Addr)(d3:Nat)(b4:Option Addr)(d4:Nat)(b5:Option Addr)(d5:Nat)(b6:Option Addr)(d6:Nat)(b7:Option Addr)(d7:Nat)(mo:MD)(tx:List ByteArray),AtC wr bo 119 (M9 mo b1 d1 b2 d2 b3 d3 b4 d4 b5 d5 b6 d6 b7 tx.length d7)/\N7 wr (fun k=>w.1.size+1+1<=k/\k≠bo) mo b1 d1 b2 d2 b3 d3 b4 d4 b5 d5 b6 d6/\ROwns wr (w.1.size+1+1) 9 (.slice b7 tx.length d7) (stc tx)/\(∀k,(Value.slice b7 tx.length d7).ownBlock=some k->k≠bo)/\Sh Z0 mo/\DvOk tx/\AtC wr (w.1.size+1) 119 #[.slice none 0 0,.slice none 0 0,.slice none 0 0,.slice none 0 0,.slice none 0 0,.slice none 0 0,.int .i64 0,.slice none 0 0]/\Below w.1.size w wr)) (fun i _=>400-(intOf i).toNat)
 case atStart=>exact⟨0,by omega,rfl,HRA.o⟩
 case round =>
  obtain⟨n,hn,rfl,HR⟩:=hrel;obtain⟨b1,d1,b2,d2,b3,d3,b4,d4,b5,d5,b6,d6,b7,d7,mo,tx,hrr⟩:=HR.o;have HQ:=hide hrr;clear hrr HR HRA;obtain⟨x0,x1,x2,x3,x4,x5,x6,x7⟩:=AtC.eig HQ.o.1;by_cases hlt:n<400
  rotate_left
  ·have n1:¬((n:Int)<400):=by omega
   obtain⟨r0,r1,r2,r3,r4,r5,r6,r7⟩:=AtC.eig HQ.o.2.2.2.2.2.2.1;have v0:=HQ.o.2.2.2.2.2.2.1.frozen 0;have v1:=HQ.o.2.2.2.2.2.2.1.frozen 1;have v2:=HQ.o.2.2.2.2.2.2.1.frozen 2;have v3:=HQ.o.2.2.2.2.2.2.1.frozen 3;have v4:=HQ.o.2.2.2.2.2.2.1.frozen 4;have v5:=HQ.o.2.2.2.2.2.2.1.frozen 5;have v6:=HQ.o.2.2.2.2.2.2.1.frozen 6;have v7:=HQ.o.2.2.2.2.2.2.1.frozen 7;go_wp2;exact bodyPost_ret (v:=.agg (M9 mo b1 d1 b2 d2 b3 d3 b4 d4 b5 d5 b6 d6 b7 tx.length d7)) sR8 rfl ⟨_,rfl,⟨b1,d1,b2,d2,b3,d3,b4,d4,b5,d5,b6,d6,b7,d7,mo,tx,rfl,(HQ.o.2.1.of_heap fun k hk _=>zag _ _ _ _ _ _ _ _ _ _ k (by have:w.1.size+1+1<=k/\k≠bo:=hk;omega)).mono (fun k hk=>by have:w.1.size+1+1<=k/\k≠bo:=hk;omega),(HQ.o.2.2.1.of_heap fun k hk=>zag _ _ _ _ _ _ _ _ _ _ k (by have:=(HQ.o.2.2.1.lt k hk).1;omega)).base_le oM,HQ.o.2.2.2.2.1,HQ.o.2.2.2.2.2.1⟩,zau HQ.o.2.2.2.2.2.2.2 oM _ _ _ _ _ _ _ _⟩
  have n1:(n:Int)<400:=by omega
  have hfl:mo.5.length=21:=HQ.o.2.2.2.2.1.f;have HFL:=hide hfl;clear hfl;have HFS:Hid (RFl wr (.slice b5 mo.5.length d5) mo.fs):=HQ.o.2.1.mr.f;go_wp2_with fail
  go_loopw [5] (fun uu wx=>∃q:Nat,q<=mo.5.length/\uu=.int .i64 q/\wr=wx) (fun uu _=>mo.5.length-(intOf uu).toNat)
  case atStart=>exact⟨0,Nat.zero_le _,rfl,rfl⟩
  case round =>
   obtain⟨q,hq,rfl,rfl⟩:=hrel;have q0:(0:Int)<=(q:Int):=by omega
   by_cases hql:q<mo.5.length
   ·obtain⟨fa,fcap,efs,hfc⟩:=HFS.o;simp only[Value.slice.injEq,true_and]at efs;obtain⟨rfl,rfl⟩:=efs;obtain⟨gf,of,rfl,-,kf⟩:=hfc q hql;obtain⟨fb,hfb⟩:∃fb,mo.fs[q]=fb:=⟨_,rfl⟩
    rw[hfb]at kf;have q1:(q:Int)<(mo.5.length:Int):=by omega
    clear hfc hfb
    cases fb with
    | false =>
     have q21:q<21:=by have:=HFL.o;omega
     go_wp2;go_roundw
     case rel=>exact⟨q+1,by omega,by go_num,trivial⟩
     case measure=>simp[intOf];omega
    | true =>
     have qne:((q:Int)==(mo.5.length:Int))=false:=beq_eq_false_iff_ne.mpr oM;have HMW:Hid (R7 wr mo b1 d1 b2 d2 b3 d3 b4 d4 (some ⟨gf,of,none⟩) d5 b6 d6/\RSt wr (.slice b7 tx.length d7) tx):=⟨HQ.o.2.1.mr,HQ.o.2.2.1.rst⟩
     go_wp2_with fail
     refine(wb_any _ _ _ _ _ _ _ mo tx q wr HMW.o.1 HMW.o.2 HQ.o.2.2.2.2.1 HQ.o.2.2.2.2.2.1).mono ?_;rintro e w4 ⟨a4,r4,rfl,F4,B4⟩;obtain⟨n1',o1,n2,o2,n3,o3,n4,o4,n5,o5,n6,o6,n7,o7,mx,tn,rfl,M4,T4,S4,D4⟩:=F4;obtain⟨W5,hW5⟩:∃W5,w4.alloc (.cells (M9 mx n1' o1 n2 o2 n3 o3 n4 o4 n5 o5 n6 o6 n7 tn.length o7) 119)=W5:=⟨_,rfl⟩
     have HW5:Hid (Below wr.1.size wr W5/\AtC W5 w4.1.size 119 (M9 mx n1' o1 n2 o2 n3 o3 n4 o4 n5 o5 n6 o6 n7 tn.length o7)/\N7 W5 (fun k=>wr.1.size<=k/\k<w4.1.size) mx n1' o1 n2 o2 n3 o3 n4 o4 n5 o5 n6 o6/\ROwns W5 wr.1.size 9 (.slice n7 tn.length o7) (stc tn)/\Sh Z0 mx/\DvOk tn/\wr.1.size<=w4.1.size):=by
      rw[←hW5];exact⟨B4.alloc B4.size _,AtC.new w4 119 _,M4.bound.below ((Below.refl _ w4).alloc nR _) nR,T4.alloc _,S4,D4,B4.size⟩
     have HQ5:Hid (AtC W5 bo 119 (M9 mo b1 d1 b2 d2 b3 d3 b4 d4 (some ⟨gf,of,none⟩) d5 b6 d6 b7 tx.length d7)/\N7 W5 (fun k=>w.1.size+1+1<=k/\k≠bo) mo b1 d1 b2 d2 b3 d3 b4 d4 (some ⟨gf,of,none⟩) d5 b6 d6/\ROwns W5 (w.1.size+1+1) 9 (.slice b7 tx.length d7) (stc tx)/\(∀k,(Value.slice b7 tx.length d7).ownBlock=some k->k≠bo)/\Sh Z0 mo/\DvOk tx/\AtC W5 (w.1.size+1) 119 #[.slice none 0 0,.slice none 0 0,.slice none 0 0,.slice none 0 0,.slice none 0 0,.slice none 0 0,.int .i64 0,.slice none 0 0]/\Below w.1.size w W5):=by
      obtain⟨k1,k2,k3,k4,k5,k6,k7,k8⟩:=HQ.o;have b5:=HW5.o.1;exact⟨k1.over b5,k2.below b5 nR,k3.below b5 nR,k4,k5,k6,k7.over b5,k8.trans (b5.mono k8.size)⟩
     have hbr:bo<wr.1.size:=HQ.o.1.lt;obtain⟨y0,y1,y2,y3,y4,y5,y6,y7⟩:=AtC.eig HQ5.o.1;obtain⟨z0,z1,z2,z3,z4,z5,z6,z7⟩:=AtC.eig HW5.o.2.1;clear M4 T4 S4 D4 B4 HMW kf x0 x1 x2 x3 x4 x5 x6 x7 HFS
     cases r4 with
     | false =>
      obtain⟨r0,r1,r2,r3,r4,r5,r6,r7⟩:=AtC.eig HQ5.o.2.2.2.2.2.2.1;have v0:=HQ5.o.2.2.2.2.2.2.1.frozen 0;have v1:=HQ5.o.2.2.2.2.2.2.1.frozen 1;have v2:=HQ5.o.2.2.2.2.2.2.1.frozen 2;have v3:=HQ5.o.2.2.2.2.2.2.1.frozen 3;have v4:=HQ5.o.2.2.2.2.2.2.1.frozen 4;have v5:=HQ5.o.2.2.2.2.2.2.1.frozen 5;have v6:=HQ5.o.2.2.2.2.2.2.1.frozen 6;have v7:=HQ5.o.2.2.2.2.2.2.1.frozen 7;go_wp2;exact bodyPost_ret (v:=.agg (M9 mo b1 d1 b2 d2 b3 d3 b4 d4 (some ⟨gf,of,none⟩) d5 b6 d6 b7 tx.length d7)) sR8 rfl ⟨_,rfl,⟨b1,d1,b2,d2,b3,d3,b4,d4,some ⟨gf,of,none⟩,d5,b6,d6,b7,d7,mo,tx,rfl,(HQ5.o.2.1.of_heap fun k hk _=>zag _ _ _ _ _ _ _ _ _ _ k (by have:w.1.size+1+1<=k/\k≠bo:=hk;omega)).mono (fun k hk=>by have:w.1.size+1+1<=k/\k≠bo:=hk;omega),(HQ5.o.2.2.1.of_heap fun k hk=>zag _ _ _ _ _ _ _ _ _ _ k (by have:=(HQ5.o.2.2.1.lt k hk).1;omega)).base_le oM,HQ5.o.2.2.2.2.1,HQ5.o.2.2.2.2.2.1⟩,zau HQ5.o.2.2.2.2.2.2.2 oM _ _ _ _ _ _ _ _⟩
     | true =>
      have f0:=HQ5.o.1.frozen 0;have f1:=HQ5.o.1.frozen 1;have f2:=HQ5.o.1.frozen 2;have f3:=HQ5.o.1.frozen 3;have f4:=HQ5.o.1.frozen 4;have f5:=HQ5.o.1.frozen 5;have f6:=HQ5.o.1.frozen 6;have f7:=HQ5.o.1.frozen 7;have HREL:Hid (∀wr',((((((((W5.setCell ⟨bo,0,none⟩ (.slice n1' mx.1.length o1)).setCell ⟨bo,1,none⟩ (.slice n2 mx.2.length o2)).setCell ⟨bo,2,none⟩ (.slice n3 mx.3.length o3)).setCell ⟨bo,3,none⟩ (.slice n4 mx.4.length o4)).setCell ⟨bo,4,none⟩ (.slice n5 mx.5.length o5)).setCell ⟨bo,5,none⟩ (.slice n6 mx.6.length o6)).setCell ⟨bo,6,none⟩ (.int .i64 mx.nx)).setCell ⟨bo,7,none⟩ (.slice n7 tn.length o7))=wr'->∃(b1:Option Addr)(d1:Nat)(b2:Option Addr)(d2:Nat)(b3:Option Addr)(d3:Nat)(b4:Option Addr)(d4:Nat)(b5:Option Addr)(d5:Nat)(b6:Option Addr)(d6:Nat)(b7:Option Addr)(d7:Nat)(mo:MD)(tx:List ByteArray),AtC wr' bo 119 (M9 mo b1 d1 b2 d2 b3 d3 b4 d4 b5 d5 b6 d6 b7 tx.length d7)/\N7 wr' (fun k=>w.1.size+1+1<=k/\k≠bo) mo b1 d1 b2 d2 b3 d3 b4 d4 b5 d5 b6 d6/\ROwns wr' (w.1.size+1+1) 9 (.slice b7 tx.length d7) (stc tx)/\(∀k,(Value.slice b7 tx.length d7).ownBlock=some k->k≠bo)/\Sh Z0 mo/\DvOk tx/\AtC wr' (w.1.size+1) 119 #[.slice none 0 0,.slice none 0 0,.slice none 0 0,.slice none 0 0,.slice none 0 0,.slice none 0 0,.int .i64 0,.slice none 0 0]/\Below w.1.size w wr'):=by
       rintro wr' rfl;obtain⟨k1,k2,k3,k4,k5,k6,k7⟩:=HW5.o;obtain⟨j1,-,-,-,-,-,j7,j8⟩:=HQ5.o;refine⟨_,_,_,_,_,_,_,_,_,_,_,_,_,_,mx,tn,zmk j1 _ _ _ _ _ _ _ _,(k3.of_heap fun k hk _=>zag _ _ _ _ _ _ _ _ _ _ k (by have:wr.1.size<=k/\k<w4.1.size:=hk;omega)).mono (fun k hk=>by have:wr.1.size<=k/\k<w4.1.size:=hk;omega),(k4.of_heap fun k hk=>zag _ _ _ _ _ _ _ _ _ _ k (by have:=(k4.lt k hk).1;omega)).base_le oM,fun k hk=>by have:=(k4.lt k hk).1;omega,k5,k6,?_,zau j8 oM _ _ _ _ _ _ _ _⟩;exact(zag _ _ _ _ _ _ _ _ _ _ _ oM).trans j7
      go_wp2;go_roundw
      case rel=>exact⟨n+1,by omega,by go_num,HREL.o _ rfl⟩
      case measure=>simp[intOf];omega
   ·have qeq:((q:Int)==(mo.5.length:Int))=true:=by simp;omega
    have q1:¬((q:Int)<(mo.5.length:Int)):=by omega
    obtain⟨r0,r1,r2,r3,r4,r5,r6,r7⟩:=AtC.eig HQ.o.2.2.2.2.2.2.1;have v0:=HQ.o.2.2.2.2.2.2.1.frozen 0;have v1:=HQ.o.2.2.2.2.2.2.1.frozen 1;have v2:=HQ.o.2.2.2.2.2.2.1.frozen 2;have v3:=HQ.o.2.2.2.2.2.2.1.frozen 3;have v4:=HQ.o.2.2.2.2.2.2.1.frozen 4;have v5:=HQ.o.2.2.2.2.2.2.1.frozen 5;have v6:=HQ.o.2.2.2.2.2.2.1.frozen 6;have v7:=HQ.o.2.2.2.2.2.2.1.frozen 7;go_wp2;exact bodyPost_ret (v:=.agg (M9 mo b1 d1 b2 d2 b3 d3 b4 d4 b5 d5 b6 d6 b7 tx.length d7)) sR8 rfl ⟨_,rfl,⟨b1,d1,b2,d2,b3,d3,b4,d4,b5,d5,b6,d6,b7,d7,mo,tx,rfl,(HQ.o.2.1.of_heap fun k hk _=>zag _ _ _ _ _ _ _ _ _ _ k (by have:w.1.size+1+1<=k/\k≠bo:=hk;omega)).mono (fun k hk=>by have:w.1.size+1+1<=k/\k≠bo:=hk;omega),(HQ.o.2.2.1.of_heap fun k hk=>zag _ _ _ _ _ _ _ _ _ _ k (by have:=(HQ.o.2.2.1.lt k hk).1;omega)).base_le oM,HQ.o.2.2.2.2.1,HQ.o.2.2.2.2.2.1⟩,zau HQ.o.2.2.2.2.2.2.2 oM _ _ _ _ _ _ _ _⟩
namespace Kit
section
variable {P : Program} {ops : Array Oper} {Q : Exit -> Act -> World -> Prop} {a : Act} {w : World}
theorem line2{i j:Nat}{o1 o2:Oper}(h1:ops[i]?=some o1)(h2:ops[j]?=some o2)(h:wpList P ops Q [o1,o2] a w):wpList P ops Q ([i,j].filterMap fun k=>ops[k]?) a w:=by
 simpa[h1,h2]using h
theorem line3{i j k:Nat}{o1 o2 o3:Oper}(h1:ops[i]?=some o1)(h2:ops[j]?=some o2)(h3:ops[k]?=some o3)(h:wpList P ops Q [o1,o2,o3] a w):wpList P ops Q ([i,j,k].filterMap fun k=>ops[k]?) a w:=by
 simpa[h1,h2,h3]using h
end
def fstOf:Value->Value
 | .tuple xs=>xs.getD 0 undef
 | u=>u
def MkBf(k l:Nat)(w0:World)(d:Bool)(t:ByteArray)(ss:List Sl)(f:Bool):Mk:=.val [k,l] (fun _ _ _ v=>∃a c,v=.tuple #[.agg #[.bool d,.slice a ss.length c,.string t],.bool f]/\RSl w0 (.slice a ss.length c) ss)
 (fun _ _ _ _ _ h _=>h)
def MkBv(k:Nat)(d:Bool)(t:ByteArray)(n:Nat)(f:Bool):Mk:=.val1 [k] k sI (fun _ _ _ u v=>u=v/\∃a c,v=.tuple #[.agg #[.bool d,.slice a n c,.string t],.bool f]) (fun _ _ _ _ _ _ h _=>h)
def MkBx(k:Nat):Mk:=.val1 [k] k sI (fun _ _ _ u v=>v=fstOf u) (fun _ _ _ _ _ _ h _=>h)
end Kit
theorem zms{xs ys:List Bool}{is:List Ino}{bs:List Blk}(hB:Big 1048576 xs ys is bs)(x:Int):(blkAt bs x).2.1.length<=1048576:=by
 unfold blkAt
 split
 ·by_cases h:(x-1).toNat<bs.length
  ·rw[List.getD_eq_getElem?_getD,List.getElem?_eq_getElem h];exact(hB.s _ h).1
  ·rw[List.getD_eq_getElem?_getD,List.getElem?_eq_none oM];exact Nat.zero_le _
 ·exact Nat.zero_le _
def zh9(bs:List Blk)(nm:ByteArray)(B s k:Int):Prop:=(B=0/\s=0/\k=0)\/(inB B 1 bs.length=true/\(blkAt bs B).1=true/\∃(j:Nat) (hj:j<(blkAt bs B).2.1.length),s=(j:Int)/\k=(blkAt bs B).2.1[j].2/\(blkAt bs B).2.1[j].1=nm/\nm.size≠0)
namespace Kit
def sndOf:Value->Value
 | .tuple xs=>xs.getD 1 undef
 | u=>u
def thdOf:Value->Value
 | .tuple xs=>xs.getD 2 undef
 | u=>u
def MkT2(ds:List Nat)(R:Nat->Nat->World->Value->Value->Prop)(hst:∀lo hi w w' a r,R lo hi w a r->Below w.1.size w w'->R lo hi w' a r):Mk:=.val ds (fun lo hi w v=>∃a r,v=.tuple #[a,r]/\R lo hi w a r)
 (fun lo hi w w' _ h hb=>by obtain⟨a,r,h1,h2⟩:=h;exact⟨a,r,h1,hst lo hi w w' a r h2 hb⟩)
def MkMv(k:Nat):Mk:=.val1 [k] k sI (fun _ _ _ u v=>u=v/\∃a r,v=.tuple #[a,r]) (fun _ _ _ _ _ _ h _=>h)
def MkMv3(k:Nat):Mk:=.val1 [k] k sI (fun _ _ _ u v=>u=v/\∃a r q,v=.tuple #[a,r,q]) (fun _ _ _ _ _ _ h _=>h)
def MkFs(k:Nat):Mk:=.val1 [k] k sI (fun _ _ _ u v=>v=fstOf u) (fun _ _ _ _ _ _ h _=>h)
def MkSd(k:Nat):Mk:=.val1 [k] k sI (fun _ _ _ u v=>v=sndOf u) (fun _ _ _ _ _ _ h _=>h)
def MkTd(k:Nat):Mk:=.val1 [k] k sI (fun _ _ _ u v=>v=thdOf u) (fun _ _ _ _ _ _ h _=>h)
end Kit
namespace Kit
def needs(md:Region.Mode)(ops:Array Oper)(t:List Nat)(x:Nat):Bool:=t.any fun i=>match ops[i]? with| some o=>o.after.any fun e=>Region.binds md e&&e.on==x|none=>false
def zgh(md:Region.Mode)(ops:Array Oper):List Nat->List (List Nat)
 | []=>[[]]
 | x::r=>(zgh md ops r).filter (fun t=>!needs md ops t x)++(zgh md ops r).map fun t=>x::t
theorem zg3:∀(js t:List Nat),t∈subs js->∀i∈t,i∈js
 | [],t,h,i,hi=>by simp[subs]at h;subst h;simp at hi
 | x::r,t,h,i,hi=>by
  rw[subs,List.mem_append]at h;rcases h with h|h
  ·exact List.mem_cons_of_mem _ (zg3 r t h i hi)
  ·obtain⟨t',h',rfl⟩:=List.mem_map.mp h;rcases List.mem_cons.mp hi with rfl|hi
   ·exact List.mem_cons_self
   ·exact List.mem_cons_of_mem _ (zg3 r t' h' i hi)
theorem zeb(md:Region.Mode)(ops:Array Oper):∀(js:List Nat),js.Nodup->∀t∈subs js,(∀i∈t,∀o,ops[i]?=some o->∀e∈o.after,Region.binds md e=true->e.on∈js->e.on∈t)->t∈zgh md ops js
 | [],_,t,ht,_=>by simpa[subs,zgh]using ht
 | x::r,hn,t,ht,hc=>by
  obtain⟨hx,hr⟩:=List.nodup_cons.mp hn;rw[subs,List.mem_append]at ht;rw[zgh,List.mem_append];rcases ht with ht|ht
  ·left
   refine List.mem_filter.mpr ⟨zeb md ops r hr t ht fun i hi o ho e he hb hj=>hc i hi o ho e he hb (List.mem_cons_of_mem _ hj),?_⟩;have hxt:x∉t:=fun e=>hx (zg3 r t ht x e);simp only[Bool.not_eq_true',needs,List.any_eq_false];intro i hi
   cases ho:ops[i]? with
   | none=>simp
   | some o =>
    intro hh;obtain⟨k,hk,hh⟩:=Array.any_eq_true.mp hh;simp only[Bool.and_eq_true,beq_iff_eq]at hh;obtain⟨hb,he⟩:=hh;exact hxt (he ▸ hc i hi o ho o.after[k] (Array.getElem_mem hk) hb (by rw[he];exact List.mem_cons_self))
  ·right
   obtain⟨t',h',rfl⟩:=List.mem_map.mp ht;refine List.mem_map.mpr ⟨t',zeb md ops r hr t' h' fun i hi o ho e he hb hj=>?_,rfl⟩;rcases List.mem_cons.mp (hc i (List.mem_cons_of_mem _ hi) o ho e he hb (List.mem_cons_of_mem _ hj))with q|q
   ·exact absurd (q ▸ hj) hx
   ·exact q
def zmt(md:Region.Mode)(ops:Array Oper)(js:List Nat)(exits:List (List Nat)):Bool :=
 (zgh md ops js).all fun t=>t==js || exits.contains t || !zd6 md ops t || (!(Region.ready md ops (mask ops.size t)).isEmpty&&(Region.ready md ops (mask ops.size t)).all fun i=>js.contains i&&!t.contains i)
theorem za9{md:Region.Mode}{ops:Array Oper}{js:List Nat}{exits:List (List Nat)}(hn:decide js.Nodup=true)(h:zmt md ops js exits=true):zc0 md ops js exits=true:=by
 unfold zc0;refine List.all_eq_true.mpr fun t ht=>?_;by_cases hc:zd6 md ops t=true
 ·refine List.all_eq_true.mp h t (zeb md ops js (of_decide_eq_true hn) t ht fun i hi o ho e he hb _=>?_);have:=List.all_eq_true.mp hc i hi;rw[ho]at this;obtain⟨k,hk,rfl⟩:=Array.mem_iff_getElem.mp he;have:=Array.all_eq_true.mp this k hk;rw[hb]at this;simpa using this
 ·simp[hc]
end Kit
namespace Xd
def MkS1(k:Nat)(t:ByteArray):Mk:=.val [k] (fun lo hi w v=>v=.slice (some ⟨lo,0,none⟩) 1 1/\hi=lo+1/\AtC w lo 9 #[.string t]) (fun _ _ _ _ _ h hb=>⟨h.1,h.2.1,h.2.2.over hb⟩)
theorem zkz{xs ys:List Bool}{is:List Ino}{bs:List Blk}(hok:za2 xs ys is bs=true){j:Nat}(hj:j<=20):(unitB xs ys is bs j).size<=60:=by
 have:=zgg xs ys is bs (j:Int);unfold unitT at this;rw[hok]at this;simp only[Bool.true_and]at this;rw[if_pos sO]at this;simpa using this
theorem zmu(S:Nat->Prop)(u v iv bv:Value)(xs ys:List Bool)(is:List Ino)(bs:List Blk)(w:World)(h:DO w S u v iv bv xs ys is bs)(hok:za2 xs ys is bs=true)(hB:∀(j:Nat)(h:j<bs.length),bigB 1048576 bs[j]):
  Calls Tryz.prog 75 #[.agg #[u,v,iv,bv]] w fun e w'=>∃tv ts,e=.returned (.tuple #[.agg #[tv],.bool true])/\ROwns w' w.1.size 9 tv (stc ts)/\DvOk ts/\Below w.1.size w w':=by
 have HH:=hide h;have HOK:=hide hok;have HG:=hide hB;obtain⟨a1,c1,a2,c2,a3,c3,a4,c4,rfl,rfl,rfl,rfl⟩:=h.dr.form;have HTW:Hid (∃base,Two w base (.slice a1 xs.length c1) (.slice a2 ys.length c2) xs ys):=by
  obtain⟨T1,T2,T3,ti,tb,k1,-⟩:=h;exact⟨_,k1⟩
 obtain⟨base,hTw⟩:=HTW.o;have HTw:=hide hTw;clear hTw HTW;obtain⟨W0,hW0⟩:∃W0,((w.alloc (.cells #[.slice a1 xs.length c1,.slice a2 ys.length c2,.slice a3 is.length c3,.slice a4 bs.length c4] 30)).alloc (.cells #[.slice none 0 0] 46))=W0:=⟨_,rfl⟩
 have HC:Hid (∀W,Below W0.1.size W0 W->AtC W w.1.size 30 #[.slice a1 xs.length c1,.slice a2 ys.length c2,.slice a3 is.length c3,.slice a4 bs.length c4]/\AtC W (w.1.size+1) 46 #[.slice none 0 0]/\Below w.1.size w W/\w.1.size+1+1<=W.1.size):=fun W b2=>by
  rw[←hW0]at b2;have k1:=(AtC.new (w.alloc (.cells #[.slice a1 xs.length c1,.slice a2 ys.length c2,.slice a3 is.length c3,.slice a4 bs.length c4] 30)) 46 #[.slice none 0 0]).over b2;have sz:=b2.size;simp at k1 sz;exact⟨((AtC.new w 30 _).alloc _).over b2,k1,(((Below.refl _ w).alloc nR _).alloc sI _).trans (b2.mono sO),sz⟩
 have HB0:Hid (Below W0.1.size W0 W0):=Below.refl _ _;obtain⟨x0,x1,x2,x3⟩:=AtC.four ((HC.o W0 HB0.o).1);have HD0:Hid (DR W0 (.slice a1 xs.length c1) (.slice a2 ys.length c2) (.slice a3 is.length c3) (.slice a4 bs.length c4) xs ys is bs):=HH.o.dr.below (HC.o W0 HB0.o).2.2.1 nR;have C0:Hid (Calls Tryz.prog 108 #[.agg #[.slice a1 xs.length c1,.slice a2 ys.length c2,.slice a3 is.length c3,.slice a4 bs.length c4]] W0 fun e w'=>e=.returned (.bool true)/\Below W0.1.size W0 w'):=by
  have:=zdg _ _ _ _ xs ys is bs W0 HD0.o (fun j hj=>(HG.o j hj).2.1);rw[HOK.o]at this;exact this
 clear h hok hB;go_enter Tryz.func75,Tryz.ntmps75
 go_wp2_with fail
 refine C0.out.mono ?_;rintro e w1 ⟨rfl,B1⟩;obtain⟨bo,hbo⟩:∃bo,w1.1.size=bo:=⟨_,rfl⟩
 have hbz:w.1.size+1+1<=bo:=by rw[←hbo];exact(HC.o w1 B1).2.2.2
 have HR0:Hid (∀wr,w1.alloc (.cells #[.slice none 0 0] 46)=wr->∃(l:List ByteArray)(lv:Value),AtC wr bo 46 #[lv]/\ROwns wr (w.1.size+1+1) 9 lv (stc l)/\(∀k,lv.ownBlock=some k->k≠bo)/\l.length=0/\(∀s∈l,s.size<=60)/\AtC wr w.1.size 30 #[.slice a1 xs.length c1,.slice a2 ys.length c2,.slice a3 is.length c3,.slice a4 bs.length c4]/\AtC wr (w.1.size+1) 46 #[.slice none 0 0]/\Below w.1.size w wr):=by
  rintro wr rfl;have b2:=B1.alloc B1.size (.cells #[.slice none 0 0] 46);obtain⟨k1,k2,k3,k4⟩:=HC.o _ b2;refine⟨[],.slice none 0 0,?_,ROwns.nil _ _ _,fun k hk=>by simp[Value.ownBlock]at hk,rfl,fun s hs=>by simp at hs,k1,k2,k3⟩;rw[←hbo];exact AtC.new w1 46 _
 clear B1 HC HB0 x0 x1 x2 x3 hW0 C0 HD0;go_wp2_with fail
 generalize hwa:w1.alloc (.cells #[.slice none 0 0] 46)=wa at*;have HRA:=hide (HR0.o wa rfl);clear HR0 hwa hbo;go_loopw [5] (fun i wr=>∃j:Nat,j<=21/\i=.int .i64 j/\Hid (∃(l:List ByteArray)(lv:Value),AtC wr bo 46 #[lv]/\ROwns wr (w.1.size+1+1) 9 lv (stc l)/\(∀k,lv.ownBlock=some k->k≠bo)/\l.length=j/\(∀s∈l,s.size<=60)/\AtC wr w.1.size 30 #[.slice a1 xs.length c1,.slice a2 ys.length c2,.slice a3 is.length c3,.slice a4 bs.length c4]/\AtC wr (w.1.size+1) 46 #[.slice none 0 0]/\Below w.1.size w wr)) (fun i _=>21-(intOf i).toNat)
 case atStart=>exact⟨0,by omega,rfl,HRA.o⟩
 case round =>
  obtain⟨j,hj,rfl,HR⟩:=hrel;obtain⟨l,lv,hrr⟩:=HR.o;have HQ:=hide hrr;clear hrr HR HRA;obtain⟨la,lc,rfl,-⟩:=HQ.o.2.1.form;obtain⟨ln,hln⟩:∃ln,(stc l).length=ln:=⟨_,rfl⟩
  rw[hln]at HQ;have HLN:=hide hln;clear hln;by_cases hlt:j<21
  rotate_left
  ·have j1:¬((j:Int)<21):=by omega
   have x0:=HQ.o.1.c0;have r0:=HQ.o.2.2.2.2.2.2.1.c0;have v0:=HQ.o.2.2.2.2.2.2.1.frozen 0;go_wp2;refine bodyPost_ret (v:=.tuple #[.agg #[.slice la ln lc],.bool true]) (by simp[results,go_sem,r0]) rfl ⟨_,rfl,l,?_,⟨by have:=HQ.o.2.2.2.1;omega,fun k hk=>by have:=HQ.o.2.2.2.2.1 _ (List.getElem_mem hk);omega⟩,?_⟩
   ·exact(HQ.o.2.1.of_heap fun k hk=>heap_setCell_other _ ⟨w.1.size+1,0,none⟩ k _ (by have:=(HQ.o.2.1.lt k hk).1;show k≠w.1.size+1;omega)).base_le oM
   ·exact HQ.o.2.2.2.2.2.2.2.setCell oE _
  have j1:(j:Int)<21:=by omega
  obtain⟨t,ht⟩:∃t,unitB xs ys is bs j=t:=⟨_,rfl⟩
  have HTS:Hid (t.size<=60):=by rw[←ht];exact zkz HOK.o oM
  have CU:Hid (∀W,Below wr.1.size wr W->Calls Tryz.prog 109 #[.agg #[.slice a1 xs.length c1,.slice a2 ys.length c2,.slice a3 is.length c3,.slice a4 bs.length c4],.int .i64 j] W fun e w'=>e=.returned (.string t)/\Below W.1.size W w'):=fun W b=>by
   rw[←ht];have bw:Below w.1.size w W:=HQ.o.2.2.2.2.2.2.2.trans (b.mono HQ.o.2.2.2.2.2.2.2.size);have o2:Two W base (.slice a1 xs.length c1) (.slice a2 ys.length c2) xs ys:=HTw.o.below bw nR;exact zem _ _ _ _ xs ys is bs j base W (HH.o.dr.below bw nR) o2 HOK.o oM HG.o
  clear ht;have HC2:Hid (∀W,Below wr.drew.1.size wr.drew W->AtC W bo 46 #[.slice la ln lc]/\AtC W w.1.size 30 #[.slice a1 xs.length c1,.slice a2 ys.length c2,.slice a3 is.length c3,.slice a4 bs.length c4]/\AtC W (w.1.size+1) 46 #[.slice none 0 0]/\ROwns W (w.1.size+1+1) 9 (.slice la ln lc) (stc l)/\Below w.1.size w W/\wr.1.size<=W.1.size):=fun W b=>by
   have b2:=zac b;obtain⟨k1,k2,-,-,-,k5,k6,k7⟩:=HQ.o;exact⟨k1.over b2,k5.over b2,k6.over b2,k2.below b2 nR,k7.trans (b2.mono k7.size),b2.size⟩
  go_upto_region 7 with fail
  refine zbb kL [0,1,2,3,4,5] [6,7,8] (fun i=>match i with|0=>.const [] (.pointer (some ⟨bo,0,none⟩))|1=>.const [0] (.slice la ln lc)|2=>.const [] (.agg #[.slice a1 xs.length c1,.slice a2 ys.length c2,.slice a3 is.length c3,.slice a4 bs.length c4])|3=>.const [] (.int .i64 (j:Int))|4=>.const [2,3] (.string t)|5=>MkS1 4 t|_=>.triv) (fun x=>⟨#[.agg #[.slice a1 xs.length c1,.slice a2 ys.length c2,.slice a3 is.length c3,.slice a4 bs.length c4],.pointer (some ⟨w.1.size,0,none⟩),.pointer (some ⟨w.1.size+1,0,none⟩),.bool false,.pointer (some ⟨bo,0,none⟩),.int .i64 ↑j,.agg #[.slice a1 xs.length c1,.slice a2 ys.length c2,.slice a3 is.length c3,.slice a4 bs.length c4],.bool true,.bool false,undef,.agg #[.slice none 0 0],.int .i64 ↑j,.bool true,u13,u14,x 0,x 1,x 2,x 3,x 4,x 5,u21,u22,undef],[]⟩) (fun i=>match i with|0=>u15|1=>u16|2=>u17|3=>u18|4=>u19|5=>u20|_=>undef) rfl kL kL kL rfl ?_ ?_
  ·intro jo hj so x iw W hd hp K hK;simp only[List.mem_cons,List.not_mem_nil,or_false]at hj;rcases hj with rfl|rfl|rfl|rfl|rfl|rfl<;>refine wpOp_step (o:=_) rfl fun K' hK'=>?_<;>have HK:=hide (fun(v:Value) (W':World) h1 h2=>hK' _ _ (hK v W' h1 h2))<;>simp only[upd,Nat.reduceEqDiff,if_true,if_false]at HK
   ·exact cQ10
   ·have e0:x 0=.pointer (some ⟨bo,0,none⟩):=hp.post 0 (hd 0 mz0);have q0:=(HC2.o W hp.bel).1.c0;simp only[e0]at HK ⊢;go_simp;exact HK.o _ _ bR rfl
   ·have k0:=(HC2.o W hp.bel).2.1;obtain⟨q0,q1,q2,q3⟩:=AtC.four k0;clear k0;go_simp;exact HK.o _ _ bR rfl
   ·exact cQ10
   ·have e2:x 2=.agg #[.slice a1 xs.length c1,.slice a2 ys.length c2,.slice a3 is.length c3,.slice a4 bs.length c4]:=hp.post 2 (hd 2 mz0);have e3:x 3=.int .i64 (j:Int):=hp.post 3 (hd 3 mz1);have bw:=zac hp.bel;simp only[e2,e3]at HK ⊢;clear e2 e3;go_simp;refine(CU.out W bw).mono ?_;rintro e w6 ⟨rfl,B6⟩;go_simp;exact HK.o _ _ B6 rfl
   ·have e4:x 4=.string t:=hp.post 4 (hd 4 mz0);simp only[e4]at HK ⊢;go_simp;exact HK.o _ _ ((Below.refl _ W).alloc nR _) ⟨rfl,by simp,AtC.new W 9 _⟩
  ·intro x iw W hp;have e1:x 1=.slice la ln lc:=hp.post 1 dC;obtain⟨e5,z5,A5⟩:=hp.post 5 dC;obtain⟨k1,k2,k3,k4,k5,k6⟩:=HC2.o W hp.bel;have l5:=hp.lo 5 dC;have HW:=hide (And.intro k1 (And.intro k2 (And.intro k3 (And.intro k4 (And.intro k5 k6)))));have HK2:Hid (W.cell? ⟨(iw 5).1,0,none⟩=some (.string t)):=A5.cell 0;have HSZ:Hid (w.1.size+1+1<=W.1.size):=by have:=k1.lt;show _<=_;omega
   have HTL:Hid ((stc l).length<=100000000000):=by have:=HQ.o.2.2.2.1;show _<=_;rw[zaf];omega
   have q0:=k1.c0;generalize (iw 5).1=g5 at*;clear hp A5 z5 l5 k1 k2 k3 k4 k5 k6 HC2 CU;simp only[e1,e5];clear e1 e5;simp only[List.filterMap_cons,List.filterMap_nil,List.getElem?_toArray,List.getElem?_cons_succ,List.getElem?_cons_zero];refine wpList_step fun K' hK'=>?_;refine zak _ rfl (.tmp 16) (.tmp 20) 44 rfl (w.1.size+1+1) 9 Tryz.u44 _ 16 Tryz.i9 rfl dC (.slice la ln lc) _ rfl HW.o.2.2.2.1 HSZ.o g5 (.string t) rfl HK2.o rfl HTL.o ?_;intro v12 w12 T12 G12 V12;refine hK' _ _ ?_;obtain⟨va,vc,hv,-⟩:=T12.form;obtain⟨n12,hn12⟩:∃n12,(stc l++[Value.string t]).length=n12:=⟨_,rfl⟩
   rw[hn12]at hv;clear hn12;subst hv;have HR12:=hide (And.intro T12 (And.intro G12 V12));have A12:AtC w12 bo 46 #[.slice la ln lc]:=HW.o.1.grown G12 (fun e=>HQ.o.2.2.1 bo e rfl);have y0:=A12.c0;have f0:=A12.frozen 0;have HA12:=hide A12;clear T12 G12 V12 hK' A12;have HREL:Hid (∀wz,w12.setCell ⟨bo,0,none⟩ (.slice va n12 vc)=wz->∃(l:List ByteArray)(lv:Value),AtC wz bo 46 #[lv]/\ROwns wz (w.1.size+1+1) 9 lv (stc l)/\(∀k,lv.ownBlock=some k->k≠bo)/\l.length=j+1/\(∀s∈l,s.size<=60)/\AtC wz w.1.size 30 #[.slice a1 xs.length c1,.slice a2 ys.length c2,.slice a3 is.length c3,.slice a4 bs.length c4]/\AtC wz (w.1.size+1) 46 #[.slice none 0 0]/\Below w.1.size w wz):=by
    rintro wz rfl;obtain⟨k1,k2,k3,k4,k5,k6⟩:=HW.o;obtain⟨T12,G12,V12⟩:=HR12.o;have own:∀k,(Value.slice va n12 vc).ownBlock=some k->k≠bo:=fun k hk=>(V12 k hk).elim (fun e=>HQ.o.2.2.1 k e) (fun e=>by have:=k1.lt;omega);have low:∀k,(Value.slice la ln lc).ownBlock=some k->w.1.size+1+1<=k:=fun k hk=>(k4.lt k hk).1;have lt2:w.1.size+1<W.1.size:=k3.lt;refine⟨l++[t],.slice va n12 vc,HA12.o.set 0 _,?_,own,by rw[List.length_append,HQ.o.2.2.2.1];rfl,fun s hs=>?_,?_,?_,?_⟩
    ·rw[za3];exact T12.of_heap fun k hk=>heap_setCell_other _ ⟨bo,0,none⟩ k _ (own k hk)
    ·rcases List.mem_append.mp hs with e|e
     ·exact HQ.o.2.2.2.2.1 s e
     ·simp only[List.mem_cons,List.not_mem_nil,or_false]at e;subst e;exact HTS.o
    ·exact(k2.grown G12 (fun e=>by have:=low _ e;omega)).other oM _
    ·exact(k3.grown G12 (fun e=>by have:=low _ e;omega)).other oM _
    ·exact(k5.trans ⟨G12.os,G12.tape,G12.output,G12.size,fun k hk=>G12.block k (by have:=k5.size;omega) (fun e=>by have:=low k e.symm;omega)⟩).setCell (by show w.1.size<=bo;omega) _
   try rw[List.filterMap_nil]
   go_wp2;go_roundw
   case rel=>exact⟨j+1,by omega,by go_num,HREL.o _ rfl⟩
   case measure=>simp[intOf];omega
end Xd
end Go.Proofs.YtgnplpmgkegcnaaGreat
