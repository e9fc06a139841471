/- Texts of the proof, bundled. -/
import Derived.Deep.Upon
import Derived.Laws.CopyOwn
import Derived.Deep.DeepCutAuto
import Derived.Deep.CutRange
import Derived.Deep.RegionWith
import Derived.BigQuiet
import Derived.Test.YtmbimpmebfoglaaGreatU02
import Derived.Test.YtmbimpmebfoglaaGreatU01
set_option maxRecDepth 100000
set_option maxHeartbeats 12800000
namespace Go.Proofs.YtmbimpmebfoglaaGreat
namespace Kit
open Go.RowKit
theorem zdn {P:Program}(w:World)(t ty:TypeId)(base:Nat)(e:TypeId)(ht:P.underlying t=some (.slice e))(z:Value)(bytes:Nat)
  (hi:(P.info? e).map (fun i=>(i.zero,i.size,i.bytes))=some (some z,1,bytes)) (hzc:z.cells.size=1) (hby:bytes<=64) (v:Value) (ys xs:List ByteArray) (hown:ROwns w base e v (stc ys))
  (hbase:base<=w.heap.size) (x:Value) (hx:RSt w x xs) (hl:ys.length+xs.length<=1000000000000) :
  ∃ v' w',(Builtin.append_ #[t,t] ty #[v,x]).run P w=.ok v' w'/\ROwns w' base e v' (stc (ys ++ xs))/\w.grownBy w' v.ownBlock/\(v'.ownBlock=v.ownBlock\/v'.ownBlock=some w.heap.size):=by
 obtain ⟨i0,hi,hz0,hz1,hz2⟩:=info_parts hi;obtain ⟨a,c,rfl,hc⟩:=hx
 cases a with
 | none =>
  have hx0:xs=[]:=by
   cases xs with
   | nil=>rfl
   | cons y r=>obtain ⟨_,_,h,_⟩:=hc 0 (by simp);cases h
  subst hx0;obtain ⟨av,cv,rfl,-⟩:=hown.form;have hle:(stc ys).length<=cv:=by
   rcases hown.2 with ⟨h1,h0⟩ | ⟨g,cap,cur,h1,-,-,h4,-⟩
   ·rw [h0];exact Nat.zero_le _
   ·simp only [Value.slice.injEq] at h1;omega
  have hr:=run_append_nothing (P:=P) w t t ty e i0 ht hi av (stc ys).length cv hle (.slice none 0 c) (Src.ofNil w ht c);exact ⟨_,w,hr,by rw [List.append_nil];exact hown,zam bR _,.inl rfl⟩
 | some ad =>
  have h63:(ys.length+xs.length) * bytes<=1000000000000 * 64:=Nat.mul_le_mul hl hby;have hown':w.ownsRow base e 1 v ys.length (stc ys):=by have:w.ownsRow base e 1 v (stc ys).length (stc ys):=hown;rwa [zai] at this
  obtain ⟨v',w',hr,h2,h3,_,h5⟩:=run_append_own_at (P:=P) w base t ty e i0 z 1 bytes ht hi hz0 hz1 hz2 hzc (by decide) v ys.length (stc ys) hown' ad xs.length c (stc xs) (by rw [zai,Nat.mul_one])
   (fun j u hj=>by
    have hjl:j < xs.length:=by have:=(List.getElem?_eq_some_iff.1 hj).1;rwa [zai] at this
    rw [zgp xs j hjl] at hj
    cases hj
    obtain ⟨g,off,e1,-,h4⟩:=hc j hjl
    cases e1
    have ha:(⟨g,off,none⟩:Addr).add j=⟨g,off+j,none⟩:=by cases j<;>simp [Addr.add]
    rw [ha,h4])
   (fun u hu=>by simp only [stc,List.mem_map] at hu;obtain ⟨_,-,rfl⟩:=hu;rfl)
   (by unfold maxLen;omega) (by omega) hbase
  refine ⟨v',w',hr,?_,h3,h5⟩;unfold ROwns;rw [za6,List.length_append,zai,zai];exact h2
theorem zcp {P:Program}(w:World){ops:Array Oper}{rest:List Oper}{o:Oper}{a:Act}{Q:Exit->Act->World->Prop}(hgd:o.guard=none)(s x:Operand)(t:TypeId)
  (ho:o.op=.call { callee:=.builtin .append,args:=#[s,x],argTypes:=#[t,t] }) (base:Nat) (e:TypeId) (ht:P.underlying t=some (.slice e)) (z:Value) (bytes:Nat)
  (hi:(P.info? e).map (fun i=>(i.zero,i.size,i.bytes))=some (some z,1,bytes)) (hzc:z.cells.size=1) (hby:bytes<=64) (v u:Value) (ys xs:List ByteArray) (hs:a.eval s=v) (hu:a.eval x=u) (hown:ROwns w base e v (stc ys))
  (hbase:base<=w.heap.size) (hx:RSt w u xs) (hl:ys.length+xs.length<=1000000000000)
  (h:∀ v' w',ROwns w' base e v' (stc (ys ++ xs))->w.grownBy w' v.ownBlock->(v'.ownBlock=v.ownBlock\/v'.ownBlock=some w.heap.size)->wpList P ops Q rest (a.put o.dst v') w'):wpList P ops Q (o :: rest) a w:=by
 refine wpList_plain hgd fun K hK=>?_;obtain ⟨v',w',hr,h2,h3,h4⟩:=zdn (P:=P) w t o.type base e ht z bytes hi hzc hby v ys xs hown hbase u hx hl;unfold Oper.wp execOp;simp only [ho,resolve,invoke,builtin,Sem.run_bind,Sem.run_pure,Result.andThen_ok,List.map_toArray,List.map_cons,List.map_nil,hs,hu,hr];exact hK _ _ (h v' w' h2 h3 h4)
def okW (xs:List ByteArray) (u:Int) (s:ByteArray):Bool:=okD xs && (decide (0<=u) && decide (u < 21)) && decide (s.size<=60)
def wrD (xs:List ByteArray) (u:Int) (s:ByteArray):List ByteArray:=if okW xs u s then xs.set u.toNat s else xs
theorem zja {xs:List ByteArray}{u:Int}{s:ByteArray}(h:okW xs u s=false):wrD xs u s=xs:=by simp [wrD,h]
theorem wrD_yes {xs:List ByteArray}{u:Int}{s:ByteArray}(h:okW xs u s=true):wrD xs u s=xs.set u.toNat s:=by simp [wrD,h]
end Kit
open Go.RowKit Kit
theorem in_any (u:Int)(w:World):Calls Tryz.prog 20 #[.int .i64 u,.int .i64 0,.int .i64 20] w fun e w'=>e=.returned (.bool (decide (0<=u) && decide (u < 21)))/\w=w':=by
 by_cases h:0<=u
 ·have b0:decide (0<=u)=true:=by simpa using h
  by_cases h2:u < 21
  ·have b1:decide (u < 21)=true:=by simpa using h2
   exact cQ133
  ·have b1:decide (u < 21)=false:=by simpa using h2
   exact cQ133
 ·have b0:decide (0<=u)=false:=by simpa using h
  rw [b0,Bool.false_and];go_enter Tryz.func20,Tryz.ntmps20
  go_wp2;go_ret;exact ⟨by go_num,rfl⟩
theorem ze5 (v:Value)(xs:List ByteArray)(u:Int)(s:ByteArray)(w:World)(hv:RSt w v xs)(hl:xs.length<=1048576)(hs:∀ (j:Nat) (h:j < xs.length),xs[j].size<=1048576)(hz:s.size<=1048576) :
  Calls Tryz.prog 71 #[.agg #[v],.int .i64 u,.string s] w fun e w'=>∃ v',e=.returned (.tuple #[.agg #[v'],.bool (okW xs u s)])/\ROwns w' w.heap.size 9 v' (stc (wrD xs u s))/\Below w.heap.size w w':=by
 obtain ⟨a,c,rfl⟩:=hv.form;obtain ⟨r,hr⟩:∃ r,okD xs=r:=⟨_,rfl⟩
 have HR:=hide hr;have HL:=hide hl;have C1:=hide (fun (v:Value) (w:World) (hv:RSt w v xs)=>zd8 v xs w hv hl hs);rw [hr] at C1
 -- the blocks ahead of the append
 have HV:=hide hv;clear hs hr hv;obtain ⟨W,hW⟩:∃ W,((w.alloc (.cells #[.slice a xs.length c] 69)).alloc (.cells #[.slice none 0 0] 69)).alloc (.cells #[] 9)=W:=⟨_,rfl⟩
 have z0:W.heap.size=w.heap.size+1+1+1:=by rw [← hW];simp
 have A1:AtO 69 W w.heap.size (.slice a xs.length c):=by rw [← hW];exact ((AtO.new 69 w _).alloc _).alloc _
 have A2:AtO 69 W (w.heap.size+1) (.slice none 0 0):=by
  rw [← hW];have:=(AtO.new 69 (w.alloc (.cells #[.slice a xs.length c] 69)) (.slice none 0 0)).alloc (.cells #[] 9)
  rwa [World.size_alloc] at this
 have A3:ROwns W (w.heap.size+1+1) 9 (.slice (some ⟨w.heap.size+1+1,0,none⟩) 0 0) (stc []):=by
  rw [← hW];have:=ROwns.lit0 ((w.alloc (.cells #[.slice a xs.length c] 69)).alloc (.cells #[.slice none 0 0] 69)) (w.heap.size+1+1) 9 (by simp)
  rwa [World.size_alloc,World.size_alloc] at this
 have A4:Below w.heap.size w W:=by rw [← hW];exact (((Below.refl _ w).alloc nR _).alloc (by simp) _).alloc (by simp;omega) _
 have A5:RSt W (.slice a xs.length c) xs:=by rw [← hW];exact ((HV.out.alloc _).alloc _).alloc _
 have c0:=A1.cell;have l0:=A1.lt;have HA:=hide (And.intro A1 (And.intro A2 (And.intro A3 (And.intro A4 A5))));have hz0:=hide z0;clear A1 A2 A3 A4 A5;go_enter Tryz.func71,Tryz.ntmps71
 go_wp2_with (at_builtin;refine zcp W rfl _ _ 67 rfl (w.heap.size+1+1) 9 Tryz.u67 (.string ByteArray.empty) 16 Tryz.i9 rfl (by decide) (.slice (some ⟨w.heap.size+1+1,0,none⟩) 0 0) (.slice a xs.length c) [] xs (by rfl) (by rfl) HA.out.2.2.1 (by rw [hz0.out];omega) HA.out.2.2.2.2 (by have:=HL.out;simp;omega) ?_;intro v1 w1 R1 R2 R3;clear R3;rw [List.nil_append] at R1;obtain ⟨a1,c1,rfl⟩:=R1.rst.form;have X1:=HA.out.1.grown R2 (fun e=>by simp [Value.ownBlock] at e;omega);have c1':=X1.cell;have l1:=X1.lt;have HR1:=hide (And.intro R1 (And.intro R2 X1));clear R1 R2 X1)
 clear c0 l0 hW;obtain ⟨X1,X2,X3⟩:AtO 69 w1 w.heap.size (.slice a xs.length c)/\AtO 69 w1 (w.heap.size+1) (.slice none 0 0)/\Below w.heap.size w w1:=by
  have G:=HR1.out.2.1;have b1:Below (w.heap.size+1+1) W w1:=⟨G.os,G.tape,G.output,G.size,fun k hk=>G.block k (by rw [hz0.out];omega) (fun e=>by simp [Value.ownBlock] at e;omega)⟩
  exact ⟨HR1.out.2.2,HA.out.2.1.below b1 (by omega),HA.out.2.2.2.1.trans (b1.mono (by omega))⟩
 have X4:=HV.out.below X3 nR;have hO:=HR1.out.1;have H1:=hide (And.intro X1 (And.intro X2 (And.intro X3 (And.intro X4 hO))));clear X1 X2 X3 X4 hO HR1 HA hz0 z0 c1' l1;refine (C1.out _ _ (H1.out.2.2.2.1.alloc _)).mono ?_;rintro e w2 ⟨rfl,B2⟩;have sz1:=H1.out.2.2.1.size;have Y2:=(H1.out.2.1.alloc (.cells #[.slice a1 xs.length c1] 69)).below B2 (by have:=H1.out.2.1.lt;simp;omega);have Y3:=(H1.out.2.2.1.alloc sz1 (.cells #[.slice a1 xs.length c1] 69)).trans (B2.mono (by simp;omega));have Y4:=(H1.out.2.2.2.2.alloc (.cells #[.slice a1 xs.length c1] 69)).below B2 nR;have Y5:AtO 69 w2 w1.heap.size (.slice a1 xs.length c1):=(AtO.new 69 w1 _).below B2 (by simp);have l12:w.heap.size+1 < w1.heap.size:=H1.out.2.1.lt;have Y2h:=hide Y2;have Y5h:=hide Y5;have d2:=Y2.cell;have f2:=Y2.frozen;have k2:=Y2.lt;have d5:=Y5.cell;have k5:=Y5.lt;have H2:=hide (And.intro Y3 Y4);have HG:=hide H1.out.2.2.2.2.lt;clear Y2 Y3 Y4 Y5 H1 B2 C1 HV;obtain ⟨q,hq⟩:∃ q,(decide (0<=u) && decide (u < 21))=q:=⟨_,rfl⟩
 have C2:=hide (in_any u);rw [hq] at C2;have HQ:=hide hq;clear hq
 cases r with
 | false =>
  have e1:Hid (okW xs u s=false):=hide (by unfold okW;rw [HR.out];rfl);go_wp2;refine bodyPost_ret (v:=.tuple #[.agg #[.slice a1 xs.length c1],.bool false]) (by simp [results,go_sem,d2]) rfl ⟨_,by rw [e1.out],?_,?_⟩
  ·exact cQ93
  ·exact H2.out.1.setCell (by simp) _
 | true =>
  cases q with
  | false =>
   have e1:Hid (okW xs u s=false):=hide (by unfold okW;rw [HR.out,HQ.out];rfl);go_wp2_with (go_at_call 20;refine (C2.out _).mono ?_;rintro e w3 ⟨rfl,rfl⟩)
   refine bodyPost_ret (v:=.tuple #[.agg #[.slice a1 xs.length c1],.bool false]) (by simp [results,go_sem,d2]) rfl ⟨_,by rw [e1.out],?_,?_⟩
   ·exact cQ93
   ·exact H2.out.1.setCell (by simp) _
  | true =>
   by_cases h60:s.size<=60
   ·have e1:Hid (okW xs u s=true):=hide (by unfold okW;rw [HR.out,HQ.out];simpa using h60);obtain ⟨k,hk,rfl⟩:∃ k:Nat,k < 21/\u=k:=by have:=HQ.out;simp at this;exact ⟨u.toNat,by omega,by omega⟩
    have hx21:xs.length=21:=by have h:=HR.out;unfold okD at h;simp at h;exact h.1
    have hkx:k < xs.length:=by omega
    obtain ⟨g,c2,e2,p1,p2,p3,p4,p5⟩:=H2.out.2.at k (by rw [zai];exact hkx);rw [zgp xs k hkx] at p1;obtain ⟨t,ht⟩:∃ t,xs[k]=t:=⟨_,rfl⟩
    rw [ht] at p1;simp only [Value.slice.injEq] at e2;obtain ⟨rfl,-,rfl⟩:=e2;have hg:=(HG.out g rfl).2;have O2:ROwns w2 (w.heap.size+1+1) 9 (.slice (some ⟨g,0,none⟩) (stc xs).length c1) (stc xs):=by rw [zai];exact H2.out.2
    have O3:=(O2.stored k (.string s)).1;rw [stc_set,zai] at O3;have Y2:=Y2h.out.set_other (B:=g) (j:=k) (by omega) (.string s);have Y5:=Y5h.out.set_other (B:=g) (j:=k) (by omega) (.string s);have Y3:=H2.out.1.setCell (p:=⟨g,k,none⟩) (by show w.heap.size<=g;omega) (.string s);have j0:(0:Int)<=(k:Int):=by omega
    have j1:(k:Int) < (xs.length:Int):=by omega
    obtain ⟨w3,hw3⟩:∃ w3,w2.setCell ⟨g,k,none⟩ (.string s)=w3:=⟨_,rfl⟩
    rw [hw3] at O3 Y2 Y5 Y3;have d2':=Y2.cell;have f2':=Y2.frozen;have k2':=Y2.lt;have d5':=Y5.cell;have k5':=Y5.lt;have H3:=hide (And.intro Y3 O3);clear Y2 Y5 Y3 O3 O2 ht hx21 d2 f2 k2 H2;go_wp2_with (go_at_call 20;refine (C2.out _).mono ?_;rintro e w3 ⟨rfl,rfl⟩)
    refine bodyPost_ret (v:=.tuple #[.agg #[.slice (some ⟨g,0,none⟩) xs.length c1],.bool true]) (by simp [results,go_sem,d2']) rfl ⟨_,by rw [e1.out],?_,?_⟩
    ·rw [wrD_yes e1.out];exact (H3.out.2.setCell_other (by omega) _).base_le (by omega)
    ·exact H3.out.1.setCell (by simp) _
   ·have e1:Hid (okW xs u s=false):=hide (by unfold okW;rw [HR.out,HQ.out];simpa using h60);go_wp2_with (go_at_call 20;refine (C2.out _).mono ?_;rintro e w3 ⟨rfl,rfl⟩)
    refine bodyPost_ret (v:=.tuple #[.agg #[.slice a1 xs.length c1],.bool false]) (by simp [results,go_sem,d2]) rfl ⟨_,by rw [e1.out],?_,?_⟩
    ·exact cQ93
    ·exact H2.out.1.setCell (by simp) _
variable {Z : ZT}
theorem zjb (x:Blk):(blkB x).size<=60:=by
 obtain ⟨d,xs,t⟩:=x;show (zbv d xs t).size<=60;unfold zbv
 split
 ·rename_i h
  cases d with
  | true =>
   have hs:zbb xs=true:=by unfold zav at h;rw [if_pos rfl] at h;exact (Bool.and_eq_true _ _ ▸ h).2
   obtain ⟨h4,hb⟩:=zb4 hs;rw [if_pos rfl,zff,List.length_cons];have:=zd5 xs fun s hx=>by
    obtain ⟨i,hi,rfl⟩:=List.mem_iff_getElem.mp hx;exact (hb i hi).2.2
   omega
  | false =>
   have ht:xs.length=0/\t.size<=16:=by unfold zav at h;rw [if_neg (by decide)] at h;exact of_decide_eq_true h
   rw [if_neg (by decide),ByteArray.size_append,zdq];omega
 ·decide
theorem zen (xs ys:List Bool)(is:List Ino)(bs:List Blk)(u:Int):(unitT xs ys is bs u).size<=60:=by
 unfold unitT
 split
 ·unfold unitB
  split
  ·show 3<=60;decide
  ·split
   ·rw [ByteArray.size_append];have h1:=zcf (is.getD (2 * u.toNat - 2) zI).1 (is.getD (2 * u.toNat - 2) zI).2.1 (is.getD (2 * u.toNat - 2) zI).2.2;have h2:=zcf (is.getD (2 * u.toNat - 1) zI).1 (is.getD (2 * u.toNat - 1) zI).2.1 (is.getD (2 * u.toNat - 1) zI).2.2;unfold inoB;omega
   ·exact zjb _
 ·decide
structure DvOk (ts:List ByteArray):Prop where
 n:ts.length=21
 s:∀ (j:Nat) (h:j < ts.length),ts[j].size<=1048576
theorem fsOk_any (u v iv bv dv pv tv:Value)(m:MD)(ts:List ByteArray)(w:World)(h:MR w u v iv bv dv pv m)(hm:Sh Z m)(ht:RSt w tv ts)(hd:DvOk ts) :
  Calls Tryz.prog 69 #[.agg #[u,v,iv,bv,dv,pv,.int .i64 m.nx,tv]] w fun e w'=>AnyB e/\Below w.heap.size w w':=by
 obtain ⟨a1,c1,a2,c2,a3,c3,a4,c4,a5,c5,a6,c6,rfl,rfl,rfl,rfl,rfl,rfl⟩:=h.form;obtain ⟨e1,f1,rfl⟩:=ht.form;have HW:Hid (∀ W,Below (w.alloc (.cells #[.slice a1 m.xs.length c1,.slice a2 m.ys.length c2,.slice a3 m.is.length c3,.slice a4 m.bs.length c4,.slice a5 m.fs.length c5,.slice a6 m.ds.length c6,.int .i64 m.nx,.slice e1 ts.length f1] 71)).heap.size (w.alloc (.cells #[.slice a1 m.xs.length c1,.slice a2 m.ys.length c2,.slice a3 m.is.length c3,.slice a4 m.bs.length c4,.slice a5 m.fs.length c5,.slice a6 m.ds.length c6,.int .i64 m.nx,.slice e1 ts.length f1] 71)) W->Below w.heap.size w W/\AtC W w.heap.size 71 #[.slice a1 m.xs.length c1,.slice a2 m.ys.length c2,.slice a3 m.is.length c3,.slice a4 m.bs.length c4,.slice a5 m.fs.length c5,.slice a6 m.ds.length c6,.int .i64 m.nx,.slice e1 ts.length f1]):=fun W bb=>⟨((Below.refl _ w).alloc nR _).trans (bb.mono (by simp)),(AtC.new w 71 _).over bb⟩
 have x0:=(AtC.new w 71 #[.slice a1 m.xs.length c1,.slice a2 m.ys.length c2,.slice a3 m.is.length c3,.slice a4 m.bs.length c4,.slice a5 m.fs.length c5,.slice a6 m.ds.length c6,.int .i64 m.nx,.slice e1 ts.length f1]).c0;have x1:=(AtC.new w 71 #[.slice a1 m.xs.length c1,.slice a2 m.ys.length c2,.slice a3 m.is.length c3,.slice a4 m.bs.length c4,.slice a5 m.fs.length c5,.slice a6 m.ds.length c6,.int .i64 m.nx,.slice e1 ts.length f1]).c1;have x2:=(AtC.new w 71 #[.slice a1 m.xs.length c1,.slice a2 m.ys.length c2,.slice a3 m.is.length c3,.slice a4 m.bs.length c4,.slice a5 m.fs.length c5,.slice a6 m.ds.length c6,.int .i64 m.nx,.slice e1 ts.length f1]).c2;have x3:=(AtC.new w 71 #[.slice a1 m.xs.length c1,.slice a2 m.ys.length c2,.slice a3 m.is.length c3,.slice a4 m.bs.length c4,.slice a5 m.fs.length c5,.slice a6 m.ds.length c6,.int .i64 m.nx,.slice e1 ts.length f1]).c3;have x4:=(AtC.new w 71 #[.slice a1 m.xs.length c1,.slice a2 m.ys.length c2,.slice a3 m.is.length c3,.slice a4 m.bs.length c4,.slice a5 m.fs.length c5,.slice a6 m.ds.length c6,.int .i64 m.nx,.slice e1 ts.length f1]).c4;have x5:=(AtC.new w 71 #[.slice a1 m.xs.length c1,.slice a2 m.ys.length c2,.slice a3 m.is.length c3,.slice a4 m.bs.length c4,.slice a5 m.fs.length c5,.slice a6 m.ds.length c6,.int .i64 m.nx,.slice e1 ts.length f1]).c5;have x6:=(AtC.new w 71 #[.slice a1 m.xs.length c1,.slice a2 m.ys.length c2,.slice a3 m.is.length c3,.slice a4 m.bs.length c4,.slice a5 m.fs.length c5,.slice a6 m.ds.length c6,.int .i64 m.nx,.slice e1 ts.length f1]).c6;have x7:=(AtC.new w 71 #[.slice a1 m.xs.length c1,.slice a2 m.ys.length c2,.slice a3 m.is.length c3,.slice a4 m.bs.length c4,.slice a5 m.fs.length c5,.slice a6 m.ds.length c6,.int .i64 m.nx,.slice e1 ts.length f1]).c7;have CM:Hid (∀ W,Below w.heap.size w W->Calls Tryz.prog 90 #[.agg #[.slice a1 m.xs.length c1,.slice a2 m.ys.length c2,.slice a3 m.is.length c3,.slice a4 m.bs.length c4,.slice a5 m.fs.length c5,.slice a6 m.ds.length c6,.int .i64 m.nx]] W fun e w'=>AnyB e/\Below W.heap.size W w'):=fun W bb=>zbo _ _ _ _ _ _ m W (h.below bb nR) hm;have CD:Hid (∀ W,Below w.heap.size w W->Calls Tryz.prog 73 #[.agg #[.slice e1 ts.length f1]] W fun e w'=>AnyB e/\Below W.heap.size W w'):=fun W bb=>(zd8 _ ts W (ht.below bb nR) (by rw [hd.n];decide) hd.s).mono fun e w' ⟨h1,h2⟩=>⟨⟨_,h1⟩,h2⟩
 clear h hm ht hd;go_enter Tryz.func69,Tryz.ntmps69
 go_wp2_with (first | (go_at_call 90;refine (CM.out _ (HW.out _ bR).1).mono ?_;rintro e w2 ⟨⟨r,rfl⟩,B2⟩;have HB2:=hide (HW.out _ B2);have y7:w2.cell? ⟨w.heap.size,7,none⟩=some (.slice e1 ts.length f1):=(HW.out _ B2).2.cell 7;clear B2;cases r) | (go_at_call 73;refine (CD.out _ HB2.out.1).mono ?_;rintro e w3 ⟨⟨r,rfl⟩,B3⟩;have HB3:=hide (HB2.out.1.trans (B3.mono HB2.out.1.size));clear B3))
 ·go_ret;exact ⟨⟨_,rfl⟩,HB2.out.1⟩
 ·go_ret;exact ⟨⟨_,rfl⟩,HB3.out⟩
namespace Kit
theorem zjc {w:World}{b:Nat}{T:TypeId}{x0 x1 x2 x3 x4 x5 x6 x7:Value}(h:AtC w b T #[x0,x1,x2,x3,x4,x5,x6,x7])(v0 v1 v2 v3 v4 v5 v6 v7:Value) :
  AtC ((((((((w.setCell ⟨b,0,none⟩ v0).setCell ⟨b,1,none⟩ v1).setCell ⟨b,2,none⟩ v2).setCell ⟨b,3,none⟩ v3).setCell ⟨b,4,none⟩ v4).setCell ⟨b,5,none⟩ v5).setCell ⟨b,6,none⟩ v6).setCell ⟨b,7,none⟩ v7) b T #[v0,v1,v2,v3,v4,v5,v6,v7]:=by
 have h1:AtC (w.setCell ⟨b,0,none⟩ v0) b T #[v0,x1,x2,x3,x4,x5,x6,x7]:=h.set 0 v0;have h2:AtC ((w.setCell ⟨b,0,none⟩ v0).setCell ⟨b,1,none⟩ v1) b T #[v0,v1,x2,x3,x4,x5,x6,x7]:=h1.set 1 v1;have h3:AtC (((w.setCell ⟨b,0,none⟩ v0).setCell ⟨b,1,none⟩ v1).setCell ⟨b,2,none⟩ v2) b T #[v0,v1,v2,x3,x4,x5,x6,x7]:=h2.set 2 v2;have h4:AtC ((((w.setCell ⟨b,0,none⟩ v0).setCell ⟨b,1,none⟩ v1).setCell ⟨b,2,none⟩ v2).setCell ⟨b,3,none⟩ v3) b T #[v0,v1,v2,v3,x4,x5,x6,x7]:=h3.set 3 v3;have h5:AtC (((((w.setCell ⟨b,0,none⟩ v0).setCell ⟨b,1,none⟩ v1).setCell ⟨b,2,none⟩ v2).setCell ⟨b,3,none⟩ v3).setCell ⟨b,4,none⟩ v4) b T #[v0,v1,v2,v3,v4,x5,x6,x7]:=h4.set 4 v4;have h6:AtC ((((((w.setCell ⟨b,0,none⟩ v0).setCell ⟨b,1,none⟩ v1).setCell ⟨b,2,none⟩ v2).setCell ⟨b,3,none⟩ v3).setCell ⟨b,4,none⟩ v4).setCell ⟨b,5,none⟩ v5) b T #[v0,v1,v2,v3,v4,v5,x6,x7]:=h5.set 5 v5;have h7:AtC (((((((w.setCell ⟨b,0,none⟩ v0).setCell ⟨b,1,none⟩ v1).setCell ⟨b,2,none⟩ v2).setCell ⟨b,3,none⟩ v3).setCell ⟨b,4,none⟩ v4).setCell ⟨b,5,none⟩ v5).setCell ⟨b,6,none⟩ v6) b T #[v0,v1,v2,v3,v4,v5,v6,x7]:=h6.set 6 v6;exact h7.set 7 v7
theorem zag (w:World)(b:Nat)(v0 v1 v2 v3 v4 v5 v6 v7:Value)(k:Nat)(hk:k≠b):((((((((w.setCell ⟨b,0,none⟩ v0).setCell ⟨b,1,none⟩ v1).setCell ⟨b,2,none⟩ v2).setCell ⟨b,3,none⟩ v3).setCell ⟨b,4,none⟩ v4).setCell ⟨b,5,none⟩ v5).setCell ⟨b,6,none⟩ v6).setCell ⟨b,7,none⟩ v7).heap[k]?=w.heap[k]?:=by
 rw [heap_setCell_other _ ⟨b,7,none⟩ k _ hk,heap_setCell_other _ ⟨b,6,none⟩ k _ hk,heap_setCell_other _ ⟨b,5,none⟩ k _ hk,heap_setCell_other _ ⟨b,4,none⟩ k _ hk,heap_setCell_other _ ⟨b,3,none⟩ k _ hk,heap_setCell_other _ ⟨b,2,none⟩ k _ hk,heap_setCell_other _ ⟨b,1,none⟩ k _ hk,heap_setCell_other _ ⟨b,0,none⟩ k _ hk]
theorem zaq {w w':World}{B b:Nat}(h:Below B w w')(hb:B<=b)(v0 v1 v2 v3 v4 v5 v6 v7:Value):Below B w ((((((((w'.setCell ⟨b,0,none⟩ v0).setCell ⟨b,1,none⟩ v1).setCell ⟨b,2,none⟩ v2).setCell ⟨b,3,none⟩ v3).setCell ⟨b,4,none⟩ v4).setCell ⟨b,5,none⟩ v5).setCell ⟨b,6,none⟩ v6).setCell ⟨b,7,none⟩ v7) :=
 (((((((h.setCell hb _).setCell hb _).setCell hb _).setCell hb _).setCell hb _).setCell hb _).setCell hb _).setCell hb _
def MkMem (k:Nat) (m:MD):Mk:=.val [k] (fun lo _ w v=>∃ a1 c1 a2 c2 a3 c3 a4 c4 a5 c5 a6 c6,v=.agg #[.slice a1 m.xs.length c1,.slice a2 m.ys.length c2,.slice a3 m.is.length c3,.slice a4 m.bs.length c4,.slice a5 m.fs.length c5,.slice a6 m.ds.length c6,.int .i64 m.nx]/\MO w (fun q=>lo<=q) (.slice a1 m.xs.length c1) (.slice a2 m.ys.length c2) (.slice a3 m.is.length c3) (.slice a4 m.bs.length c4) (.slice a5 m.fs.length c5) (.slice a6 m.ds.length c6) m)
 (fun _ _ _ _ _ h hb=>by obtain ⟨a1,c1,a2,c2,a3,c3,a4,c4,a5,c5,a6,c6,h1,h2⟩:=h;exact ⟨a1,c1,a2,c2,a3,c3,a4,c4,a5,c5,a6,c6,h1,h2.below hb nR⟩)
def MkTx (ds:List Nat) (ts:List ByteArray) (B:Nat):Mk:=.val ds (fun _ _ w v=>∃ a c,v=.slice a ts.length c/\ROwns w B 9 (.slice a ts.length c) (stc ts))
 (fun _ _ _ _ _ h hb=>by obtain ⟨a,c,h1,h2⟩:=h;exact ⟨a,c,h1,h2.below hb nR⟩)
theorem RSt.rc {w:World}{v:Value}{xs:List ByteArray}(h:RSt w v xs):RC w v xs.length (stc xs):=by
 obtain ⟨a,c,rfl,h⟩:=h;refine ⟨a,c,rfl,fun j u hj=>?_⟩;have hl:j < xs.length:=by have:=(List.getElem?_eq_some_iff.1 hj).1;rwa [zai] at this
 obtain ⟨g,off,e1,-,e2⟩:=h j hl;refine ⟨g,off,e1,e2.trans ?_⟩;rw [zgp xs j hl] at hj;exact hj
end Kit
theorem zd9 (u v iv bv dv pv tv:Value)(m:MD)(ts:List ByteArray)(w:World)(h:MR w u v iv bv dv pv m)(hB:BigM 1048576 m)(ht:RSt w tv ts)(hl:ts.length<=1048576) :
  Calls Tryz.prog 70 #[.agg #[u,v,iv,bv,dv,pv,.int .i64 m.nx,tv]] w fun e w'=>∃ u' v' i' b' d' p' t',e=.returned (.agg #[u',v',i',b',d',p',.int .i64 m.nx,t'])/\MO w' (fun k=>w.heap.size<=k) u' v' i' b' d' p' m/\ROwns w' w.heap.size 9 t' (stc ts)/\Below w.heap.size w w':=by
 obtain ⟨a1,c1,a2,c2,a3,c3,a4,c4,a5,c5,a6,c6,rfl,rfl,rfl,rfl,rfl,rfl⟩:=h.form;obtain ⟨ta,tc,rfl⟩:=ht.form;have H:=hide h;have HT:=hide ht;have HG:=hide hB;have HL:Hid (ts.length<=100000000000):=Nat.le_trans hl (by decide);clear h ht hB hl;go_enter Tryz.func70,Tryz.ntmps70
 go_wp2_with fail
 have HC:Hid (∀ W,Below ((w.alloc (.cells #[.slice a1 m.xs.length c1,.slice a2 m.ys.length c2,.slice a3 m.is.length c3,.slice a4 m.bs.length c4,.slice a5 m.fs.length c5,.slice a6 m.ds.length c6,.int .i64 m.nx,.slice ta ts.length tc] 71)).alloc (.cells #[.slice none 0 0,.slice none 0 0,.slice none 0 0,.slice none 0 0,.slice none 0 0,.slice none 0 0,.int .i64 0,.slice none 0 0] 71)).drew.heap.size ((w.alloc (.cells #[.slice a1 m.xs.length c1,.slice a2 m.ys.length c2,.slice a3 m.is.length c3,.slice a4 m.bs.length c4,.slice a5 m.fs.length c5,.slice a6 m.ds.length c6,.int .i64 m.nx,.slice ta ts.length tc] 71)).alloc (.cells #[.slice none 0 0,.slice none 0 0,.slice none 0 0,.slice none 0 0,.slice none 0 0,.slice none 0 0,.int .i64 0,.slice none 0 0] 71)).drew W->AtC W w.heap.size 71 #[.slice a1 m.xs.length c1,.slice a2 m.ys.length c2,.slice a3 m.is.length c3,.slice a4 m.bs.length c4,.slice a5 m.fs.length c5,.slice a6 m.ds.length c6,.int .i64 m.nx,.slice ta ts.length tc]/\AtC W (w.heap.size+1) 71 #[.slice none 0 0,.slice none 0 0,.slice none 0 0,.slice none 0 0,.slice none 0 0,.slice none 0 0,.int .i64 0,.slice none 0 0]/\Below w.heap.size w W/\w.heap.size+1+1<=W.heap.size):=fun W b=>by
  have b2:=zac b;have k1:=(AtC.new (w.alloc (.cells #[.slice a1 m.xs.length c1,.slice a2 m.ys.length c2,.slice a3 m.is.length c3,.slice a4 m.bs.length c4,.slice a5 m.fs.length c5,.slice a6 m.ds.length c6,.int .i64 m.nx,.slice ta ts.length tc] 71)) 71 #[.slice none 0 0,.slice none 0 0,.slice none 0 0,.slice none 0 0,.slice none 0 0,.slice none 0 0,.int .i64 0,.slice none 0 0]).over b2;have sz:=b2.size;simp at k1 sz;exact ⟨((AtC.new w 71 _).alloc _).over b2,k1,(((Below.refl _ w).alloc nR _).alloc (by simp) _).trans (b2.mono (by simp;omega)),sz⟩
 refine za4 (by kernel_rfl) [0,1,2,3,4,5,6,7] [8,9,10] (fun i=>match i with|0=>.const [] (.pointer (some ⟨w.heap.size,0,none⟩))|1=>.const [0] (.agg #[.slice a1 m.xs.length c1,.slice a2 m.ys.length c2,.slice a3 m.is.length c3,.slice a4 m.bs.length c4,.slice a5 m.fs.length c5,.slice a6 m.ds.length c6,.int .i64 m.nx])|2=>MkMem 1 m|3=>MkE 9|4=>.const [] (.pointer (some ⟨w.heap.size,7,none⟩))|5=>.const [4] (.pointer (some ⟨w.heap.size,7,none⟩))|6=>.const [5] (.slice ta ts.length tc)|7=>MkTx [3,6] ts (w.heap.size+1+1)|_=>.triv) (fun x=>⟨#[.agg #[.slice a1 m.xs.length c1,.slice a2 m.ys.length c2,.slice a3 m.is.length c3,.slice a4 m.bs.length c4,.slice a5 m.fs.length c5,.slice a6 m.ds.length c6,.int .i64 m.nx,.slice ta ts.length tc],.pointer (some ⟨w.heap.size,0,none⟩),.pointer (some ⟨w.heap.size+1,0,none⟩),x 0,x 1,x 2,x 3,x 4,x 5,x 6,x 7,undef,undef],[]⟩) (fun i=>match i with|0=>undef|1=>undef|2=>undef|3=>undef|4=>undef|5=>undef|6=>undef|7=>undef|_=>undef) rfl (by kernel_rfl) (by kernel_rfl) (by kernel_rfl) rfl ?_ ?_
 ·intro jo hj so x iw W hd hp K hK;simp only [List.mem_cons,List.not_mem_nil,or_false] at hj;rcases hj with rfl|rfl|rfl|rfl|rfl|rfl|rfl|rfl<;>refine wpOp_step (o:=_) rfl fun K' hK'=>?_<;>have HK:=hide (fun (v:Value) (W':World) h1 h2=>hK' _ _ (hK v W' h1 h2))<;>simp only [upd,Nat.reduceEqDiff,if_true,if_false] at HK
  ·exact cQ9
  ·have e0:x 0=.pointer (some ⟨w.heap.size,0,none⟩):=hp.post 0 (hd 0 mz0);have k0:=(HC.out W hp.bel).1;obtain ⟨q0,q1,q2,q3,q4,q5,q6⟩:=AtC.sev k0;clear k0;simp only [e0] at HK ⊢;go_simp;exact HK.out _ _ bR rfl
  ·have e1:x 1=.agg #[.slice a1 m.xs.length c1,.slice a2 m.ys.length c2,.slice a3 m.is.length c3,.slice a4 m.bs.length c4,.slice a5 m.fs.length c5,.slice a6 m.ds.length c6,.int .i64 m.nx]:=hp.post 1 (hd 1 mz0);have bl:=(HC.out W hp.bel).2.2.1;simp only [e1] at HK ⊢;go_simp;refine (zau _ _ _ _ _ _ m W (H.out.below bl nR) HG.out).mono ?_;rintro e w6 ⟨u1,u2,u3,u4,u5,u6,rfl,O6,B6⟩;obtain ⟨b1,d1,b2,d2,b3,d3,b4,d4,b5,d5,b6,d6,rfl,rfl,rfl,rfl,rfl,rfl⟩:=O6.mr.form;go_simp;exact HK.out _ _ B6 ⟨b1,d1,b2,d2,b3,d3,b4,d4,b5,d5,b6,d6,rfl,O6⟩
  ·clear hK hK' hp hd;go_simp;exact HK.out _ _ ((Below.refl _ W).alloc nR _) ⟨rfl,by simp,AtC.new W 9 _⟩
  ·exact cQ9
  ·have e4:x 4=.pointer (some ⟨w.heap.size,7,none⟩):=hp.post 4 (hd 4 mz0);simp only [e4] at HK ⊢;go_simp;exact HK.out _ _ bR rfl
  ·have e5:x 5=.pointer (some ⟨w.heap.size,7,none⟩):=hp.post 5 (hd 5 mz0);have q0:=(HC.out W hp.bel).1.c7;simp only [e5] at HK ⊢;go_simp;exact HK.out _ _ bR rfl
  ·have e3:x 3=.slice (some ⟨(iw 3).1,0,none⟩) 0 0/\(iw 3).2=(iw 3).1+1/\AtC W (iw 3).1 9 #[]:=hp.post 3 (hd 3 mz0);have e6:x 6=.slice ta ts.length tc:=hp.post 6 (hd 6 mz1);have bl:=HC.out W hp.bel;have l0:=(hp.lo 3 (hd 3 mz0)).1;simp [World.drew] at l0;obtain ⟨f0,-,A0⟩:=e3;refine za3 W rfl (.tmp 6) (.tmp 9) 67 rfl (w.heap.size+1+1) 9 Tryz.u67 _ 1 16 Tryz.i9 rfl (by decide) (by decide) (some ⟨(iw 3).1,0,none⟩) (by exact f0) (A0.empty _ (by omega) 1) bl.2.2.2 (.slice ta ts.length tc) (by exact e6) ts.length (stc ts) (HT.out.below bl.2.2.1 nR).rc (by rw [zai,Nat.mul_one]) (fun u hu=>by simp only [stc,List.mem_map] at hu;obtain ⟨_,-,rfl⟩:=hu;rfl) HL.out ?_;intro v' w' R1 R2 R3;have O1:ROwns w' (w.heap.size+1+1) 9 v' (stc ts):=by unfold ROwns;rw [zai];exact R1
   obtain ⟨a8,c8,e8⟩:=O1.rst.form;subst e8;exact HK.out _ w' R2 ⟨a8,c8,rfl,O1⟩
 ·intro x iw W hp;obtain ⟨b1,d1,b2,d2,b3,d3,b4,d4,b5,d5,b6,d6,e2,O2⟩:=hp.post 2 (by decide);obtain ⟨b7,d7,e7,O7⟩:=hp.post 7 (by decide);have l2:=hp.lo 2 (by decide);simp [World.drew] at l2;obtain ⟨kA,kR,bel,-⟩:=HC.out W hp.bel;have r0:=kR.c0;have v0:=kR.frozen 0;have r1:=kR.c1;have v1:=kR.frozen 1;have r2:=kR.c2;have v2:=kR.frozen 2;have r3:=kR.c3;have v3:=kR.frozen 3;have r4:=kR.c4;have v4:=kR.frozen 4;have r5:=kR.c5;have v5:=kR.frozen 5;have r6:=kR.c6;have v6:=kR.frozen 6;have r7:=kR.c7;have v7:=kR.frozen 7;have HO:=hide (And.intro O2 (And.intro O7 bel));have HL2:Hid (w.heap.size+1+1<=(iw 2).1):=by show _<=_;omega
  clear hp O2 O7 bel kA kR l2 HC;simp only [e2,e7];clear e2 e7;go_wp2;rw [List.filterMap_nil];go_wp2;refine bodyPost_ret (v:=.agg #[.slice b1 m.xs.length d1,.slice b2 m.ys.length d2,.slice b3 m.is.length d3,.slice b4 m.bs.length d4,.slice b5 m.fs.length d5,.slice b6 m.ds.length d6,.int .i64 m.nx,.slice b7 ts.length d7]) (by simp [results,go_sem,r0,r1,r2,r3,r4,r5,r6,r7]) rfl ⟨_,_,_,_,_,_,_,rfl,?_,?_,?_⟩
  ·exact (HO.out.1.of_heap fun k hk _=>zag _ _ _ _ _ _ _ _ _ _ k (by have:(iw 2).1<=k:=hk;have:=HL2.out;omega)).mono (fun k hk=>by have:(iw 2).1<=k:=hk;have:=HL2.out;omega)
  ·exact (HO.out.2.1.of_heap fun k hk=>zag _ _ _ _ _ _ _ _ _ _ k (by have:=(HO.out.2.1.lt k hk).1;omega)).base_le (by omega)
  ·exact zaq HO.out.2.2 (by omega) _ _ _ _ _ _ _ _
namespace Kit
variable {Z : ZT}
theorem BT.bitX {w:World}{T:Nat->Prop}{b:Nat}(h:BT Z w T b)(j:Nat)(hj:j < 16):∃ g c r,w.cell? ⟨b,0,none⟩=some (.slice (some ⟨g,0,none⟩) 16 c)/\w.cell? ⟨g,j,none⟩=some (.bool r)/\w.frozen? ⟨g,j,none⟩=false/\T g/\g < w.heap.size/\∀ x,(x=true\/∀ i,Z i ((j:Int)+1))->BT Z (w.setCell ⟨g,j,none⟩ (.bool x)) T b:=by
 obtain ⟨S,u,v,iv,bv,dv,pv,m,hP,hS,hb,hm⟩:=h;obtain ⟨S1,S2,S3,ts,h1,h2,h3,h4,h5,h6,h7⟩:=hP.own;obtain ⟨T1,T2,T3,ti,tb,k1,k2,k3,k4,k5,k6,k7⟩:=h1;have hn:m.xs.length=16:=hm.x;obtain ⟨g,cap,e1,q1,q2,q3,q4,-⟩:=(k1.a).at j (by rw [zae,hn];exact hj);rw [zae,hn] at e1;have so:S g:=h7 g (.inl (k7 g (.inl (k2 g (.inl (by rw [e1];rfl))))));have hr:=ROwns.stored (l:=fc m.xs) (g:=g) (cap:=cap) (by rw [zae,hn,← e1];exact k1.a) j;refine ⟨g,cap,m.xs[j]'(by omega),?_,q1.trans (by simp [fc,hn,hj]),q2,hS g so,q4,fun x hx=>?_⟩
 ·have:=hP.box.cell 0;rw [← e1];exact this
 ·have q:=(hr (.bool x)).1;have qg:=(hr (.bool x)).2;rw [zae,hn,← zdc,← e1] at q;exact ⟨S,u,v,iv,bv,dv,pv,{ m with xs:=m.xs.set j x },⟨hP.box.grown qg (fun e=>hP.nb (by simp only [Option.some.injEq] at e;subst e;exact so)),hP.own.turnX q (by rw [e1];exact qg),hP.nb⟩,hS,hb,⟨by rw [List.length_set];exact hm.x,hm.y,hm.i,hm.ii,hm.b,hm.bb,hm.f,hm.l,hm.dd,hm.nx,hx.elim (fun e=>by rw [e];exact hm.k.mark j m.fs) (fun e=>by cases x;exact hm.k.clear j e;exact hm.k.mark j m.fs)⟩⟩
theorem BT.bitY {w:World}{T:Nat->Prop}{b:Nat}(h:BT Z w T b)(j:Nat)(hj:j < 8):∃ g c r,w.cell? ⟨b,1,none⟩=some (.slice (some ⟨g,0,none⟩) 8 c)/\w.cell? ⟨g,j,none⟩=some (.bool r)/\w.frozen? ⟨g,j,none⟩=false/\T g/\g < w.heap.size/\∀ x,BT Z (w.setCell ⟨g,j,none⟩ (.bool x)) T b:=by
 obtain ⟨S,u,v,iv,bv,dv,pv,m,hP,hS,hb,hm⟩:=h;obtain ⟨S1,S2,S3,ts,h1,h2,h3,h4,h5,h6,h7⟩:=hP.own;obtain ⟨T1,T2,T3,ti,tb,k1,k2,k3,k4,k5,k6,k7⟩:=h1;have hn:m.ys.length=8:=hm.y;obtain ⟨g,cap,e1,q1,q2,q3,q4,-⟩:=(k1.b).at j (by rw [zae,hn];exact hj);rw [zae,hn] at e1;have so:S g:=h7 g (.inl (k7 g (.inl (k2 g (.inr (by rw [e1];rfl))))));have hr:=ROwns.stored (l:=fc m.ys) (g:=g) (cap:=cap) (by rw [zae,hn,← e1];exact k1.b) j;refine ⟨g,cap,m.ys[j]'(by omega),?_,q1.trans (by simp [fc,hn,hj]),q2,hS g so,q4,fun x=>?_⟩
 ·have:=hP.box.cell 1;rw [← e1];exact this
 ·have q:=(hr (.bool x)).1;have qg:=(hr (.bool x)).2;rw [zae,hn,← zdc,← e1] at q;exact ⟨S,u,v,iv,bv,dv,pv,{ m with ys:=m.ys.set j x },⟨hP.box.grown qg (fun e=>hP.nb (by simp only [Option.some.injEq] at e;subst e;exact so)),hP.own.turnY q (by rw [e1];exact qg),hP.nb⟩,hS,hb,⟨hm.x,by rw [List.length_set];exact hm.y,hm.i,hm.ii,hm.b,hm.bb,hm.f,hm.l,hm.dd,hm.nx,hm.k.of rfl rfl rfl⟩⟩
theorem BT.bitF {w:World}{T:Nat->Prop}{b:Nat}(h:BT Z w T b)(j:Nat)(hj:j < 21):∃ g c r,w.cell? ⟨b,4,none⟩=some (.slice (some ⟨g,0,none⟩) 21 c)/\w.cell? ⟨g,j,none⟩=some (.bool r)/\w.frozen? ⟨g,j,none⟩=false/\T g/\g < w.heap.size/\∀ x,BT Z (w.setCell ⟨g,j,none⟩ (.bool x)) T b:=by
 obtain ⟨S,u,v,iv,bv,dv,pv,m,hP,hS,hb,hm⟩:=h;obtain ⟨S1,S2,S3,ts,h1,h2,h3,h4,h5,h6,h7⟩:=hP.own;obtain ⟨T1,T2,T3,ti,tb,k1,k2,k3,k4,k5,k6,k7⟩:=h1;have hn:m.fs.length=21:=hm.f;obtain ⟨g,cap,e1,q1,q2,q3,q4,-⟩:=(h2).at j (by rw [zae,hn];exact hj);rw [zae,hn] at e1;have so:S g:=h7 g (.inr (.inl (h3 g (by rw [e1];rfl))));have hr:=ROwns.stored (l:=fc m.fs) (g:=g) (cap:=cap) (by rw [zae,hn,← e1];exact h2) j;refine ⟨g,cap,m.fs[j]'(by omega),?_,q1.trans (by simp [fc,hn,hj]),q2,hS g so,q4,fun x=>?_⟩
 ·have:=hP.box.cell 4;rw [← e1];exact this
 ·have q:=(hr (.bool x)).1;have qg:=(hr (.bool x)).2;rw [zae,hn,← zdc,← e1] at q;exact ⟨S,u,v,iv,bv,dv,pv,{ m with fs:=m.fs.set j x },⟨hP.box.grown qg (fun e=>hP.nb (by simp only [Option.some.injEq] at e;subst e;exact so)),hP.own.turnF q (by rw [e1];exact qg),hP.nb⟩,hS,hb,⟨hm.x,hm.y,hm.i,hm.ii,hm.b,hm.bb,by rw [List.length_set];exact hm.f,hm.l,hm.dd,hm.nx,hm.k.of rfl rfl rfl⟩⟩
theorem zfy {w w2:World}{T:Nat->Prop}{b:Nat}{x0 x1 x2 x3 x4 x5 x6 u v iv bv dv pv:Value}{m:MD}(h:AtC w2 b 33 #[x0,x1,x2,x3,x4,x5,x6])(O:MO w2 (fun k=>w.heap.size<=k) u v iv bv dv pv m)(hB:Chg T w w2)(hm:Sh Z m)(hb:T b)(hl:b < w.heap.size)(hT:∀ k,w.heap.size<=k->T k) :
  BT Z (((((((w2.setCell ⟨b,0,none⟩ u).setCell ⟨b,1,none⟩ v).setCell ⟨b,2,none⟩ iv).setCell ⟨b,3,none⟩ bv).setCell ⟨b,4,none⟩ dv).setCell ⟨b,5,none⟩ pv).setCell ⟨b,6,none⟩ (.int .i64 m.nx)) T b/\Chg T w (((((((w2.setCell ⟨b,0,none⟩ u).setCell ⟨b,1,none⟩ v).setCell ⟨b,2,none⟩ iv).setCell ⟨b,3,none⟩ bv).setCell ⟨b,4,none⟩ dv).setCell ⟨b,5,none⟩ pv).setCell ⟨b,6,none⟩ (.int .i64 m.nx)) :=
 ⟨⟨fun k=>w.heap.size<=k,u,v,iv,bv,dv,pv,m,PM.store h O (by omega),hT,hb,hm⟩,((((((hB.setCell hb _).setCell hb _).setCell hb _).setCell hb _).setCell hb _).setCell hb _).setCell hb _⟩
end Kit
variable {Z : ZT}
theorem zb7 (T:Nat->Prop)(b:Nat)(x:Int)(w:World)(h:BT Z w T b) :
  Calls Tryz.prog 95 #[.pointer (some ⟨b,0,none⟩),.int .i64 x] w fun e w'=>e=.returned (.tuple #[])/\BT Z w' T b/\Chg T w w':=by
 obtain ⟨S,u,v,iv,bv,dv,pv,m,hP,hS,hb,hm⟩:=h;refine (zbt S b x _ _ _ _ _ _ m w hP).mono ?_;rintro e w' ⟨rfl,P2,C2⟩;exact ⟨rfl,⟨S,u,v,iv,bv,dv,pv,_,P2,hS,hb,hm.mark x⟩,C2.mono hS⟩
theorem zjd {Y:ZT}(id:Int)(u v iv bv dv pv:Value)(m:MD)(w:World)(h:MR w u v iv bv dv pv m)(hm:Sh Z m)(hk:Kz Y { m with ds:=za8 id m.ds }) :
  Calls Tryz.prog 109 #[.agg #[u,v,iv,bv,dv,pv,.int .i64 m.nx],.int .i64 id] w fun e w'=>∃ u' v' i' b' d' p' m',e=.returned (.agg #[u',v',i',b',d',p',.int .i64 m'.nx])/\MO w' (fun k=>w.heap.size<=k) u' v' i' b' d' p' m'/\Sh Y m'/\Below w.heap.size w w':=by
 refine (zcv id u v iv bv dv pv m w h hm.big).mono ?_;rintro e w' ⟨u1,u2,u3,u4,u5,u6,rfl,O,B⟩;exact ⟨u1,u2,u3,u4,u5,u6,{ m with ds:=za8 id m.ds },rfl,O,(zc4 hm id).with_k hk,B⟩
theorem zc5 (id:Int)(u v iv bv dv pv:Value)(m:MD)(w:World)(h:MR w u v iv bv dv pv m)(hm:Sh Z m) :
  Calls Tryz.prog 109 #[.agg #[u,v,iv,bv,dv,pv,.int .i64 m.nx],.int .i64 id] w fun e w'=>∃ u' v' i' b' d' p' m',e=.returned (.agg #[u',v',i',b',d',p',.int .i64 m'.nx])/\MO w' (fun k=>w.heap.size<=k) u' v' i' b' d' p' m'/\Sh Z m'/\Below w.heap.size w w':=by
 refine (zcv id u v iv bv dv pv m w h hm.big).mono ?_;rintro e w' ⟨u1,u2,u3,u4,u5,u6,rfl,O,B⟩;exact ⟨u1,u2,u3,u4,u5,u6,{ m with ds:=za8 id m.ds },rfl,O,zc4 hm id,B⟩
theorem zbf (k:Int)(w:World) :
  Calls Tryz.prog 21 #[.int .i64 k] w fun e w'=>∃ v,e=.returned (.agg #[.int .i64 k,.int .i64 (zak k),v])/\ROwns w' w.heap.size 3 v (ic [0,0])/\Below w.heap.size w w':=by
 have mk:=make22;have own:∀ o1 o2,ROwns (((w.alloc o1).alloc (.cells #[.int .i64 0,.int .i64 0] 3)).alloc o2) w.heap.size 3 (.slice (some ⟨w.heap.size+1,0,none⟩) 2 2) (ic [0,0]):=fun o1 o2=>by
  have:=(ROwns.lit (w.alloc o1) w.heap.size 3 #[.int .i64 0,.int .i64 0] (by simp) (by simp [maxLen])).alloc o2;simpa [ic] using this
 have bel:∀ o1 o2 o3,Below w.heap.size w (((w.alloc o1).alloc o2).alloc o3):=fun o1 o2 o3=>(((Below.refl _ w).alloc nR _).alloc (by simp) _).alloc (by simp;omega) _;have HO:=hide own;have HB:=hide bel;clear own bel;by_cases h:k=0
 ·subst h;go_enter Tryz.func21,Tryz.ntmps21
  go_wp2;refine bodyPost_ret (v:=.agg #[.int .i64 0,.int .i64 0,.slice (some ⟨w.heap.size+1,0,none⟩) 2 2]) (by simp [results,go_sem]) rfl ⟨_,rfl,HO.out _ _,HB.out _ _ _⟩
 ·have h0:(k == 0)=false:=by simpa using h
  have e1:zak k=1:=by simp [zak,h]
  rw [e1];clear e1;go_enter Tryz.func21,Tryz.ntmps21
  go_wp2;refine bodyPost_ret (v:=.agg #[.int .i64 k,.int .i64 1,.slice (some ⟨w.heap.size+1,0,none⟩) 2 2]) (by simp [results,go_sem]) rfl ⟨_,rfl,HO.out _ _,HB.out _ _ _⟩
namespace Kit
def zb8 (md:Region.Mode) (ops:Array Oper) (js:List Nat) (exits:List (List Nat)):Bool :=
 (subs js).all fun t=>t == js || exits.contains t || !zc1 md ops t || (!(Region.ready md ops (mask ops.size t)).isEmpty && (Region.ready md ops (mask ops.size t)).all fun i=>js.contains i && !t.contains i)
def altOk (md:Region.Mode) (ops:Array Oper) (t:List Nat) (lines:List (List Nat)):Bool :=
 (Region.ready md ops (mask ops.size t)).all (fun j=>lines.any fun l=>match l with | i :: r=>i == j && (ops[i]?).isSome && zby md ops (i :: t) r | []=>false) && !(Region.ready md ops (mask ops.size t)).isEmpty
section
variable {P : Program} {ops : Array Oper} {Q : Exit -> Act -> World -> Prop} {md : Region.Mode}
theorem zh2 (t:List Nat)(lines:List (List Nat))(fuel:Nat)(a:Act)(w:World)(h:altOk md ops t lines=true)(hl:∀ l∈lines,l.length<=fuel)(hw:∀ l∈lines,wpList P ops Q (l.filterMap fun i=>ops[i]?) a w):wpAny P md ops Q fuel (mask ops.size t) a w:=by
 simp only [altOk,Bool.and_eq_true,List.all_eq_true,List.any_eq_true] at h;obtain ⟨h1,h2⟩:=h
 cases fuel with
 | zero =>
  exfalso
  cases hr:Region.ready md ops (mask ops.size t) with
  | nil=>rw [hr] at h2;simp at h2
  | cons j r =>
   obtain ⟨l,hl1,hl2⟩:=h1 j (by rw [hr];simp)
   cases l with
   | nil=>simp at hl2
   | cons i r=>have:=hl _ hl1;simp at this
 | succ fuel =>
  refine wpAny_all rfl (by intro e;rw [e] at h2;simp at h2) fun j hj=>?_;obtain ⟨l,hl1,hl2⟩:=h1 j hj
  cases l with
  | nil=>simp at hl2
  | cons i r =>
   simp only [Bool.and_eq_true,beq_iff_eq] at hl2;obtain ⟨⟨rfl,h3⟩,h4⟩:=hl2;obtain ⟨o,ho⟩:=Option.isSome_iff_exists.1 h3;rw [zdo];have hw':wpList P ops Q (o :: r.filterMap fun i=>ops[i]?) a w:=by simpa [ho] using hw _ hl1
   refine wpOp_mono (fun a w hq=>zbs r (i :: t) fuel a w h4 (by have:=hl _ hl1;simpa using this) hq) ?_;unfold wpOp;rw [ho];exact hw'
theorem zcx (js:List Nat)(exits:List (List Nat))(fuel:Nat)(act:(Nat->Value)->Act)(Inv:List Nat->(Nat->Value)->World->Prop)(ok:zb8 md ops js exits=true)
  (prod:∀ j∈js,∀ s x W,j∈Region.ready md ops (mask ops.size s)->¬ j∈s->Inv s x W->∀ K:Act->World->Prop,(∀ v W',Inv (j :: s) (upd x j v) W'->K (act (upd x j v)) W')->wpOp P ops Q j K (act x) W)
  (rest:∀ s x W f,fuel<=f->(∀ i∈js,i∈s)->Inv s x W->wpAny P md ops Q f (mask ops.size js) (act x) W)
  (out:∀ t∈exits,∀ s x W f,fuel+(js.filter fun i=>!t.contains i).length<=f->(∀ i,i∈s↔i∈t)->Inv s x W->wpAny P md ops Q f (mask ops.size t) (act x) W) :
  ∀ (m f:Nat) (s:List Nat) (x:Nat->Value) (W:World),(js.filter fun i=>!s.contains i).length<=m->fuel<=f->(∀ i∈s,i∈js)->(∀ i∈s,∀ o,ops[i]?=some o->∀ e∈o.after,Region.binds md e=true->e.on∈s)->Inv s x W->wpAny P md ops Q (f+m) (mask ops.size s) (act x) W:=by
 intro m
 induction m with
 | zero =>
  intro f s x W hc hf hs hcl hv;have hall:∀ i∈js,i∈s:=fun i hi=>by
   exact cQ75
  rw [zbi ops.size s js fun i=>⟨hs i,hall i⟩];exact rest s x W (f+0) (by omega) hall hv
 | succ m ih =>
  intro f s x W hc hf hs hcl hv;by_cases hall:∀ i∈js,i∈s
  ·rw [zbi ops.size s js fun i=>⟨hs i,hall i⟩];exact rest s x W _ (by omega) hall hv
  ·have hst:∀ i,i∈s↔i∈js.filter fun i=>s.contains i:=fun i=>⟨fun h=>List.mem_filter.2 ⟨hs i h,by simpa using h⟩,fun h=>by simpa using (List.mem_filter.1 h).2⟩
   have hmask:mask ops.size s=mask ops.size (js.filter fun i=>s.contains i):=zbi _ _ _ hst;by_cases hex:(js.filter fun i=>s.contains i)∈exits
   ·rw [hmask];refine out _ hex s x W _ ?_ hst hv;have e:(js.filter fun i=>!(js.filter fun i=>s.contains i).contains i)=js.filter fun i=>!s.contains i:=by
     apply List.filter_congr;intro i hi;by_cases e2:i∈s<;>simp [hi,e2]
    rw [e];omega
   have hk:=List.all_eq_true.1 ok _ (zds (fun i=>s.contains i) js);have hne:((js.filter fun i=>s.contains i) == js)=false:=by
    exact cQ101
   have hexf:exits.contains (js.filter fun i=>s.contains i)=false:=by
    apply Bool.eq_false_iff.2;intro e;exact hex (by simpa using e)
   have hclo:zc1 md ops (js.filter fun i=>s.contains i)=true:=by
    exact cQ51
   rw [hne,hexf,hclo,Bool.false_or,Bool.false_or,Bool.not_true,Bool.false_or,Bool.and_eq_true] at hk;obtain ⟨h1,h2⟩:=hk;rw [← hmask] at h1 h2;refine wpAny_all rfl (by intro e;rw [e] at h1;simp at h1) fun j hj=>?_;have hj2:=List.all_eq_true.1 h2 j hj;simp only [Bool.and_eq_true,List.contains_iff_mem,Bool.not_eq_true'] at hj2;have hjs:j∈js:=by simpa using hj2.1
   have hjn:¬ j∈s:=fun h=>by
    exact cQ109
   rw [zdo];refine prod j hjs s x W hj hjn hv _ fun v W' hv'=>ih f (j :: s) _ W' ?_ hf (fun i hi=>(List.mem_cons.1 hi).elim (fun e=>e ▸ hjs) (hs i)) (fun i hi o ho e he hbi=>List.mem_cons_of_mem _ ((List.mem_cons.1 hi).elim (fun q=>by subst q;exact zbl hj ho ⟨e,he,rfl,hbi⟩) (fun q=>hcl i q o ho e he hbi))) hv';have hlt:(js.filter fun i=>!(j :: s).contains i).length < (js.filter fun i=>!s.contains i).length:=by
    exact cQ49
   omega
def altsOk (md:Region.Mode) (ops:Array Oper) (js line:List Nat) (alts:List (List Nat×List (List Nat))):Bool :=
 alts.all fun q=>altOk md ops q.1 q.2 && q.2.all fun l=>decide (l.length<=line.length+(js.filter fun i=>!q.1.contains i).length)
theorem zar {id:Nat}{w:World}{a0:Act}(hm:P.follows .mixedOrders=true)(js line:List Nat)(alts:List (List Nat×List (List Nat)))(L:Nat->Mk)(act:(Nat->Value)->Act)(x0:Nat->Value)(ha:a0=act x0)
  (ok:zb8 .any ops js (alts.map (·.1))=true) (okl:zby .any ops js line=true) (oka:altsOk .any ops js line alts=true) (okd:zdb ops js (fun i=>(L i).deps)=true) (hsz:line.length+js.length=ops.size)
  (prod:∀ j∈js,∀ s x iv W,(∀ k∈(L j).deps,k∈s)->PX w.drew s (fun i lo hi w x=>(L i).P lo hi w (x i) x) x iv W->∀ K:Act->World->Prop,(∀ v W',Below W.heap.size W W'->(L j).P W.heap.size W'.heap.size W' v (upd x j v)->K (act (upd x j v)) W')->wpOp P ops Q j K (act x) W)
  (rest:∀ x iv W,PX w.drew js (fun i lo hi w x=>(L i).P lo hi w (x i) x) x iv W->wpList P ops Q (line.filterMap fun i=>ops[i]?) (act x) W)
  (out:∀ q∈alts,∀ l∈q.2,∀ x iv W,PX w.drew q.1 (fun i lo hi w x=>(L i).P lo hi w (x i) x) x iv W->wpList P ops Q (l.filterMap fun i=>ops[i]?) (act x) W):(Code.region id ops true).wp P Q a0 w:=by
 have dep:∀ j∈js,∀ s,j∈Region.ready .any ops (mask ops.size s)->∀ k∈(L j).deps,k∈s:=by
  intro j hj s hr k hk;have h:=List.all_eq_true.1 okd j hj
  exact cQ36
 subst ha;refine wp_region_any hm ?_;have h:=zcx (P:=P) (Q:=Q) (md:=.any) js (alts.map (·.1)) line.length act (fun s x W=>(∀ i∈s,∀ k∈(L i).deps,k∈s)/\∃ iv,PX w.drew s (fun i lo hi w x=>(L i).P lo hi w (x i) x) x iv W) ok ?_ ?_ ?_ js.length line.length [] x0 w.drew (List.length_filter_le _ _) nR (fun i hi=>by cases hi) (fun i hi=>by cases hi) ⟨(fun i hi=>by cases hi),fun _=>(0,0),⟨Below.refl _ _,(fun i hi=>by cases hi),(fun i hi=>by cases hi),(fun i hi=>by cases hi)⟩⟩
 ·rw [hsz,zes] at h;exact h
 ·intro j hj s x W hr hns hI K hK;obtain ⟨hcl,iv2,hp⟩:=hI;have hd:=dep j hj s hr;refine prod j hj s x iv2 W hd hp K fun v W' hb hpo=>hK v W' ⟨fun i hi k hk=>?_,_,hp.add (fun i=>(L i).deps) (fun i lo hi w w' x h hb=>(L i).st lo hi w w' (x i) x h hb) (fun i lo hi w x x' e1 e2 h=>by rw [← e1];exact (L i).cg lo hi w (x i) x x' e2 h) hcl hns hb (by rw [zay];exact hpo)⟩;rcases List.mem_cons.1 hi with rfl | hi
  ·exact List.mem_cons_of_mem _ (hd k hk)
  ·exact List.mem_cons_of_mem _ (hcl i hi k hk)
 ·intro s x W f hf hs hI;obtain ⟨-,iv2,hp⟩:=hI;exact zbs line js f (act x) W okl hf (rest x iv2 W (hp.of_mem hs))
 ·intro t ht s x W f hf hst hI;obtain ⟨-,iv2,hp⟩:=hI;obtain ⟨q,hq,rfl⟩:=List.mem_map.1 ht;have h1:=List.all_eq_true.1 oka q hq;simp only [Bool.and_eq_true,List.all_eq_true,decide_eq_true_eq] at h1;exact zh2 q.1 q.2 f (act x) W h1.1 (fun l hl=>Nat.le_trans (h1.2 l hl) hf) fun l hl=>out q hq l hl x iv2 W (hp.of_mem fun i hi=>(hst i).2 hi)
end
end Kit
namespace Kit
variable {Z : ZT}
def BX5 (Z:ZT) (B:Nat) (w:World) (T:Nat->Prop) (b bx:Nat) (kd lx:Int) (pp:Value) (ps:List Int) (j:Nat):Prop:=∃ (S:Nat->Prop) (u v iv bv dv pv:Value) (m:MD),PM w S b u v iv bv dv pv m/\Sh Z m/\(∀ k,S k->T k/\k≠bx)/\AtC w bx 37 #[.int .i64 kd,.int .i64 lx,pp]/\ROwns w B 3 pp (ic ps)/\∃ h:j < m.is.length,m.is[j].2.2=ps
theorem cnt00 (p:Int)(h:1<=p):([0,0]:List Int).count p=0:=by
 simp [List.count_cons];omega
end Kit
variable {Z : ZT}
theorem ze6 (T:Nat->Prop)(b:Nat)(x:Int)(w:World)(h:BT Z w T b)(hT:∀ k,w.heap.size<=k->T k)(hx1:1<=x)(hx8:x<=8) :
  Calls Tryz.prog 112 #[.pointer (some ⟨b,0,none⟩),.int .i64 x] w fun e w'=>e=.returned (.tuple #[])/\BT Z w' T b/\Chg T w w':=by
 have HBX:=hide h;obtain ⟨S0,du,dy,iv,bv,dv,pv,m,hP0,hSL0,hLb,hS⟩:=h;have hP:=hP0.bound;have hSL:∀ k,(S0 k/\k < w.heap.size)->T k:=fun k hk=>hSL0 k hk.1;have hSs:∀ k,(S0 k/\k < w.heap.size)->k < w.heap.size:=fun k hk=>hk.2;obtain ⟨S,hSd⟩:∃ S:Nat->Prop,S=fun k=>S0 k/\k < w.heap.size:=⟨_,rfl⟩
 rw [← hSd] at hP
 replace hSL:∀ k,S k->T k:=fun k hk=>hSL k (by rw [hSd] at hk;exact hk)
 replace hSs:∀ k,S k->k < w.heap.size:=fun k hk=>hSs k (by rw [hSd] at hk;exact hk)
 clear hSd hP0 hSL0;obtain ⟨j,rfl⟩:∃ j:Nat,x=(j:Int)+1:=⟨(x - 1).toNat,by omega⟩
 have hj:j < m.is.length:=by rw [hS.i];omega
 obtain ⟨gi,ci,p,e1,i0,i1,i2,rp,hzi,hgi,gS⟩:=hP.inoAt j hj;subst e1;obtain ⟨a1,c1,a2,c2,a3,c3,a4,c4,a5,c5,a6,c6,rfl,rfl,e3,rfl,rfl,rfl⟩:=hP.form;clear e3 a3 c3;have hix:=hS.ii _ (List.getElem_mem hj);obtain ⟨⟨kd,ln,ps⟩,hX⟩:∃ X,m.is[j]=X:=⟨_,rfl⟩
 rw [hX] at i0 i1 rp hix;simp only at i0 i1 rp;have HPX:Hid (m.is[j].2.2=ps):=by show _=_;rw [hX]
 have HPN:Hid (ps.length=2):=hix.n;have hpl:ps.length<=2:=Nat.le_of_eq hix.n;have hln0:0<=ln:=hix.l.1;have hln2:ln<=200:=hix.l.2;obtain ⟨pa,pc,rfl,hpc⟩:=rp;have HRP:Hid (RInts w (.slice pa ps.length pc) ps):=⟨pa,pc,rfl,hpc⟩
 have HPS:Hid (∀ p∈ps,(0:Int)<=p/\p<=16):=hix.p;have HP:=hide hP;have HS:=hide hS;have HSL:=hide hSL;have HSs:=hide hSs;have HLB:Hid (T b/\b < w.heap.size):=⟨hLb,hP.box.lt⟩
 have HTT:=hide hT;clear hT;have HGS:=hide gS;obtain ⟨x0,x1,x2,x3,x4,x5,x6⟩:=AtC.sev hP.box;have hil:j < 8:=by rw [hS.i] at hj;exact hj
 have his:m.is.length=8:=hS.i;have HIS:=hide his;clear his;have HDL:Hid (m.ds.length<=40):=hS.l;clear hP hS hSL hSs hLb gS hpc hix hX;by_cases hf:40<=m.ds.length
 ·have hf1:(40:Int)<=(m.ds.length:Int):=by omega
  go_enter Tryz.func112,Tryz.ntmps112
  go_wp2;exact bodyPost_ret (results_none rfl _ _ _) rfl ⟨rfl,HBX.out,Chg.refl _ _⟩
 have hf1:¬ ((40:Int)<=(m.ds.length:Int)):=by omega
 cases hnx:inB m.nx 1 99999 with
 | false =>
  have HX:=hide hnx;clear hnx;go_enter Tryz.func112,Tryz.ntmps112
  go_wp2_with fail
  refine (zaj m.nx 1 99999 _).mono ?_;rintro e w3 ⟨rfl,hw3⟩;rw [hw3,HX.out];clear hw3 w3;go_wp2;exact bodyPost_ret (results_none rfl _ _ _) rfl ⟨rfl,HBX.out,Chg.refl _ _⟩
 | true =>
  have HX:=hide hnx;have HNX:=hide (zao hnx);clear hnx;have j0:(0:Int)<=(j:Int):=by omega
  have j1:(j:Int) < (m.is.length:Int):=by omega
  have j8:(j:Int) < 8:=by omega
  have hwj:IntKind.i64.wrap (j:Int)=(j:Int):=by
   have hjj:j=0\/j=1\/j=2\/j=3\/j=4\/j=5\/j=6\/j=7:=by omega
   rcases hjj with e | e | e | e | e | e | e | e<;>rw [e]<;>decide
  go_enter Tryz.func112,Tryz.ntmps112
  go_wp2_with fail
  refine (zaj m.nx 1 99999 _).mono ?_;rintro e w3 ⟨rfl,hw3⟩;rw [hw3,HX.out];clear hw3 w3;go_wp2_with fail
  refine (zdu kd ln _ ps w HRP.out (by omega)).mono ?_;rintro e w1 ⟨uu,rfl,O1,B1⟩;obtain ⟨s1,t1,rfl⟩:=O1.rints.form;have P1:PM (w1.alloc (.cells #[.int .i64 kd,.int .i64 ln,.slice s1 ps.length t1] 37)) S b (.slice a1 m.xs.length c1) (.slice a2 m.ys.length c2) (.slice (some ⟨gi,0,none⟩) m.is.length ci) (.slice a4 m.bs.length c4) (.slice a5 m.fs.length c5) (.slice a6 m.ds.length c6) m:=(HP.out.below B1).alloc _;have hb1:Below w.heap.size w (w1.alloc (.cells #[.int .i64 kd,.int .i64 ln,.slice s1 ps.length t1] 37)):=B1.alloc B1.size _;have X1:AtC (w1.alloc (.cells #[.int .i64 kd,.int .i64 ln,.slice s1 ps.length t1] 37)) w1.heap.size 37 #[.int .i64 kd,.int .i64 ln,.slice s1 ps.length t1]:=AtC.new w1 37 _;have O2:ROwns (w1.alloc (.cells #[.int .i64 kd,.int .i64 ln,.slice s1 ps.length t1] 37)) w.heap.size 3 (.slice s1 ps.length t1) (ic ps):=O1.alloc _;have HO1:Hid (∀ k,(Value.slice s1 ps.length t1).ownBlock=some k->w.heap.size<=k/\k < w1.heap.size):=fun k hk=>O1.lt k hk;have hs1:w.heap.size<=w1.heap.size:=B1.size;have H1:=hide (And.intro P1 (And.intro hb1 (And.intro X1 O2)));clear P1 hb1 X1 O2 O1 B1;obtain ⟨U,hU⟩:∃ U,uoI ((j:Int)+1)=U:=⟨_,rfl⟩
  have CU:Hid (∀ W,Calls Tryz.prog 96 #[.int .i64 ((j:Int)+1)] W fun e w'=>e=.returned (.int .i64 U)/\w'=W):=fun W=>by rw [← hU];exact zbe _ W
  clear hU;go_wp2_with fail
  refine (CU.out _).mono ?_;rintro e w3 ⟨rfl,rfl⟩;go_wp2_with fail
  refine (zbt S b U _ _ _ _ _ _ m _ H1.out.1).mono ?_;rintro e w2 ⟨rfl,P2,C2⟩;have hbx:¬ S w1.heap.size:=fun e=>by have:=HSs.out _ e;omega
  have X2:AtC w2 w1.heap.size 37 #[.int .i64 kd,.int .i64 ln,.slice s1 ps.length t1]:=(C2.block _ H1.out.2.2.1.lt hbx).trans H1.out.2.2.1;have O2:ROwns w2 w.heap.size 3 (.slice s1 ps.length t1) (ic ps):=H1.out.2.2.2.of_heap fun k hk=>C2.block k (by have:=(HO1.out k hk).2;simp;omega) (fun e=>by have:=HSs.out _ e;have:=(HO1.out k hk).1;omega);have B2:Chg T w w2:=(Chg.of_below H1.out.2.1).trans (C2.mono HSL.out);have z2:w1.heap.size+1<=w2.heap.size:=by have:=C2.size;simp at this;exact this
  generalize hbxn:w1.heap.size=bx at *;obtain ⟨M2,hM2⟩:∃ M2,markU U m=M2:=⟨_,rfl⟩
  have HM2:Hid (Sh Z M2/\M2.is=m.is/\M2.ds=m.ds/\M2.nx=m.nx):=by
   rw [← hM2];exact ⟨HS.out.mark U,by unfold markU;split<;>rfl,by unfold markU;split<;>rfl,markU_nx U m⟩
  rw [hM2] at P2;have H2:=hide (And.intro P2 (And.intro X2 (And.intro O2 B2)));have g0:=X2.c0;have g1:=X2.c1;have g2:=X2.c2;have v1:=X2.frozen 1;clear P2 C2 X2 O2 B2 hM2 CU H1 x0 x1 x2 x3 x4 x5 x6 i0 i1 i2 hzi;go_upto_if 42 with fail
  go_cut [] from 12 to 46 (fun wx=>∃ lx:Int,0<=lx/\lx<=200/\PM wx S b (.slice a1 m.xs.length c1) (.slice a2 m.ys.length c2) (.slice (some ⟨gi,0,none⟩) m.is.length ci) (.slice a4 m.bs.length c4) (.slice a5 m.fs.length c5) (.slice a6 m.ds.length c6) M2/\AtC wx bx 37 #[.int .i64 kd,.int .i64 lx,.slice s1 ps.length t1]/\ROwns wx w.heap.size 3 (.slice s1 ps.length t1) (ic ps)/\Chg T w wx/\w2.heap.size<=wx.heap.size)
  case first =>
   by_cases hln:0 < ln
   ·obtain ⟨lx,hlx⟩:∃ lx,ln - 1=lx:=⟨_,rfl⟩
    have H3:Hid (PM (w2.setCell ⟨bx,1,none⟩ (.int .i64 lx)) S b (.slice a1 m.xs.length c1) (.slice a2 m.ys.length c2) (.slice (some ⟨gi,0,none⟩) m.is.length ci) (.slice a4 m.bs.length c4) (.slice a5 m.fs.length c5) (.slice a6 m.ds.length c6) M2/\AtC (w2.setCell ⟨bx,1,none⟩ (.int .i64 lx)) bx 37 #[.int .i64 kd,.int .i64 lx,.slice s1 ps.length t1]/\ROwns (w2.setCell ⟨bx,1,none⟩ (.int .i64 lx)) w.heap.size 3 (.slice s1 ps.length t1) (ic ps)/\Chg T w (w2.setCell ⟨bx,1,none⟩ (.int .i64 lx))/\w2.heap.size<=(w2.setCell ⟨bx,1,none⟩ (.int .i64 lx)).heap.size):=by
     obtain ⟨k1,k2,k3,k4⟩:=H2.out;have hne:∀ k,S k->k≠bx:=fun k hk e=>by have:=HSs.out k hk;omega
     have hlb:=HLB.out;exact ⟨⟨k1.box.other (by omega) _,k1.own.of_heap fun k hk _=>heap_setCell_other _ ⟨bx,1,none⟩ k _ (hne k hk),k1.nb⟩,k2.set 1 _,k3.of_heap fun k hk=>heap_setCell_other _ ⟨bx,1,none⟩ k _ (by have:=(HO1.out k hk).2;show k≠bx;omega),k4.setCell (HTT.out bx (by omega)) _,by simp⟩
    have HLX:=hide hlx;go_wp2_with fail
    go_meet
    case rel=>exact ⟨lx,by have:=HLX.out;omega,by have:=HLX.out;omega,H3.out⟩
   ·go_wp2_with fail
    go_meet
    case rel=>exact ⟨ln,hln0,hln2,H2.out.1,H2.out.2.1,H2.out.2.2.1,H2.out.2.2.2,Nat.le_refl _⟩
  case rest =>
   obtain ⟨lx,hl0,hl2,hcut⟩:=hcut;have H3:=hide hcut;clear hcut H2 g0 g1 g2 v1 hln0 hln2;go_upto_region 5 with fail
   go_cut [] from 47 to 55 (fun wx=>BX5 Z w.heap.size wx T b bx kd lx (.slice s1 ps.length t1) ps j/\Chg T w wx/\w.heap.size<=bx)
   case first =>
    have q2:=H3.out.1.box.c2;have q4:=H3.out.2.1.c0;have q5:=H3.out.2.1.c1;have q6:=H3.out.2.1.c2;obtain ⟨r0,r1,r2,hfz⟩:∃ r0 r1 r2,wc.cell? ⟨gi,j * 3,none⟩=some r0/\wc.cell? ⟨gi,j * 3+1,none⟩=some r1/\wc.cell? ⟨gi,j * 3+2,none⟩=some r2/\(∀ k,wc.frozen? ⟨gi,k,none⟩=false):=by
     obtain ⟨g,c,p,e,k0,k1,k2,-,k4,-⟩:=H3.out.1.inoAt j (by have:=HM2.out.2.1;rw [this];exact hj);simp only [Value.slice.injEq,Option.some.injEq,Addr.mk.injEq] at e;obtain ⟨⟨rfl,-⟩,-⟩:=e;exact ⟨_,_,_,k0,k1,k2,k4⟩
    obtain ⟨f0,f1,f2,hfz⟩:=hfz;have z0:=hfz (j * 3);have z1:=hfz (j * 3+1);have z2:=hfz (j * 3+2);have hj3:j * 3+2 < 24:=by omega
    clear hfz;obtain ⟨P3,X3,O3,B3,z3⟩:=H3.out;have hpi:=P3.putI rfl j (by have:=HM2.out.2.1;rw [this];exact hj) (.int .i64 kd,.int .i64 lx,.slice s1 ps.length t1) (kd,lx,ps) ⟨rfl,rfl,O3.base_le (Nat.zero_le _)⟩ (fun k hk=>⟨fun e=>by have:=HSs.out k e;have:=(HO1.out k hk).1;omega,by have:=(HO1.out k hk).1;have:=HLB.out;omega⟩);have hbg:bx≠gi:=by omega
    have HQ2:Hid (∀ h:j < M2.is.length,M2.is[j].2.2=ps):=by have e2:=HM2.out.2.1;intro h;simp only [e2];exact HPX.out
    have HQ3:Hid (∃ h:j < (M2.is.set j (kd,lx,ps)).length,(M2.is.set j (kd,lx,ps))[j].2.2=ps):=by have e2:=HM2.out.2.1;exact ⟨by rw [List.length_set,e2];exact hj,by rw [List.getElem_set_self]⟩
    have HF:Hid (BX5 Z w.heap.size (set3 wc gi j (.int .i64 kd,.int .i64 lx,.slice s1 ps.length t1)).drew T b bx kd lx (.slice s1 ps.length t1) ps j/\Chg T w (set3 wc gi j (.int .i64 kd,.int .i64 lx,.slice s1 ps.length t1)).drew/\w.heap.size<=bx):=by
     have hgL:=HSL.out gi HGS.out;refine ⟨⟨_,_,_,_,_,_,_,_,hpi.1.drew,HM2.out.1.inode j ⟨⟨hl0,hl2⟩,HPN.out,HPS.out⟩ (fun _ p _=>by rw [HQ2.out];exact Nat.le_refl _),fun k hk=>?_,?_,?_,HQ3.out⟩,?_,hs1⟩
     ·rcases hk with hk | hk
      ·exact ⟨HSL.out k hk,fun e=>by have:=HSs.out k hk;omega⟩
      ·have:=HO1.out k hk;exact ⟨HTT.out k (by omega),by omega⟩
     ·exact (((X3.other (by omega) _).other (by omega) _).other (by omega) _).over (zac bR)
     ·exact (O3.of_heap fun k hk=>zbj _ _ _ _ k (by have:=(HO1.out k hk).1;omega)).drew
     ·exact ((((B3.setCell hgL _).setCell hgL _).setCell hgL _)).trans (Chg.of_below (zac bR))
    clear P3 X3 O3 B3 z3 hpi
    go_big_region
    go_wp2_with fail
    go_meet
    case rel=>exact HF.out
   case rest =>
    obtain ⟨⟨S5,u,v,iv,bv,dv,pv,M5,P5,hS5,hk5,X5,R5,Q5⟩,B5,hbx5⟩:=hcut;clear HPX H3 HM2 HP HS HSL HSs HGS HO1 HRP HX HNX HIS HDL hf1 hf hil hj j1 hgi hs1 z2 hbx;obtain ⟨a1,c1,a2,c2,a3,c3,a4,c4,a5,c5,a6,c6,rfl,rfl,rfl,rfl,rfl,rfl⟩:=P5.form;obtain ⟨ts,hln,hro,hnt,hkeep⟩:=P5.bound.keepD;have g0:=X5.c0;have g1:=X5.c1;have g2:=X5.c2;have x5:=P5.box.c5;have HP5:=hide P5;have HS5:=hide hS5;have HK5:=hide hk5;have HX5:=hide X5;have HQ5:=hide Q5;clear Q5;have HR5:=hide R5;have HB5:=hide B5;have HRO:=hide hro;have HNT:=hide hnt;have HKP:=hide hkeep;have hl5:M5.ds.length<=40:=hS5.l;have HEND:Hid (BT Z wc T b/\Chg T w wc):=⟨⟨S5,_,_,_,_,_,_,M5,P5,fun k hk=>(hk5 k hk).1,HLB.out.1,hS5⟩,B5⟩
    clear P5 hS5 hk5 X5 R5 B5 hro hnt hkeep;by_cases hlp:0 < lx
    ·go_wp2;exact bodyPost_ret (results_none rfl _ _ _) rfl ⟨rfl,HEND.out⟩
    by_cases hkz:kd=0
    ·subst hkz;go_wp2;exact bodyPost_ret (results_none rfl _ _ _) rfl ⟨rfl,HEND.out⟩
    go_wp2_with fail
    have HF:Hid (∃ f:Dp->Bool,∀ d,f d=((!(d.kd == 1) && !(d.kd == 6)) || !(d.io == (j:Int)+1))):=⟨_,fun _=>rfl⟩
    obtain ⟨f,hf⟩:=HF.out;have HFF:=hide hf;clear HF hf HEND;go_loopw [6,5] (fun i lv wr=>∃ q:Nat,q<=M5.ds.length/\i=.int .i64 q/\Hid (NOwns wr 41 11 lv (rowsP f (ts.take q) (M5.ds.take q))/\(∀ k,lv.ownBlock=some k->wc.heap.size<=k)/\Below wc.heap.size wc wr)) (fun i lv _=>M5.ds.length - (intOf i).toNat)
    case atStart =>
     refine ⟨0,Nat.zero_le _,rfl,?_,?_,bR.alloc nR _⟩
     ·have:=NOwns.of_at (n:=11) (ts:=[]) (AtC.new wc 41 #[]) rfl (Even.nil _) (Nat.zero_le _);simpa [rowsP] using this
     ·intro k hk;simp [Value.ownBlock] at hk;omega
    case round =>
     obtain ⟨q,hq,rfl,HR⟩:=hrel;obtain ⟨hn,hlo,hbl⟩:=HR.out;have xb5:=(HP5.out.box.over hbl).c5;by_cases hlt:q < M5.ds.length
     ·obtain ⟨g,cap,ei,hcell,-,hg,-⟩:=HNT.out.at q (by omega);rw [hln] at ei;simp only [Value.slice.injEq,true_and] at ei;obtain ⟨rfl,rfl⟩:=ei;obtain ⟨p,hrow,hpo⟩:=HRO.out q (by omega) hlt;have hst:=zh0 f ts M5.ds hln q (by omega) hlt;rw [hrow] at hst;have nn:DCells wr g (q * 11) M5.ds[q] p:=DCells.of fun i hi=>by rw [← hrow];exact (hbl.cell (p:=⟨g,q * 11+i,none⟩) (by exact hg)).trans (hcell i hi)
      have hff:=HFF.out M5.ds[q];obtain ⟨X,hX⟩:∃ X,M5.ds[q]=X:=⟨_,rfl⟩
      rw [hX] at nn hpo hst hff;obtain ⟨id2,kk,io,pt,bk,sl,nm,bt,ot,af,bl⟩:=X;obtain ⟨pa,pc,rfl⟩:=hpo.rints.form;simp only [DCells] at nn;simp only at hff;obtain ⟨n0,n1,n2,n3,n4,n5,n6,n7,n8,n9,n10⟩:=nn;have HRR:=hide (And.intro hn (And.intro hlo hbl));have HST:=hide hst;have HXF:=hide hff;have q0:(0:Int)<=(q:Int):=by omega
      have q1:(q:Int) < (M5.ds.length:Int):=by omega
      clear hn hlo hbl hcell hg hrow hpo hX hst HR hff;by_cases hk1:kk=1
      ·subst hk1;by_cases hio:io=(j:Int)+1
       ·subst hio;have hfx:f (⟨id2,1,(j:Int)+1,pt,bk,sl,nm,bt,ot,af,bl⟩:Dp)=false:=by rw [HXF.out];simp
        exact cQ39
       ·have hfx:f (⟨id2,1,io,pt,bk,sl,nm,bt,ot,af,bl⟩:Dp)=true:=by rw [HXF.out];simp [hio]
        have HT:Hid (NOwns (wr.alloc (.cells #[.int .i64 id2,.int .i64 1,.int .i64 io,.int .i64 pt,.int .i64 bk,.int .i64 sl,.string nm,.bool bt,.bool ot,.int .i64 af,.slice pa bl.length pc] 41)) 41 11 u5 (rowsP f (ts.take q) (M5.ds.take q))):=HRR.out.1.of_heap fun k hk=>((Below.refl _ wr).alloc nR _).block k (HRR.out.1.lt k hk);have HTL:Hid ((rowsP f (ts.take q) (M5.ds.take q)).length<=100000000000):=by
         exact cQ88
        have HSTEP:Hid (∀ v' w',NOwns w' 41 11 v' (rowsP f (ts.take q) (M5.ds.take q) ++ [(⟨id2,1,io,pt,bk,sl,nm,bt,ot,af,bl⟩:Dp).row (.slice pa bl.length pc)])->(wr.alloc (.cells #[.int .i64 id2,.int .i64 1,.int .i64 io,.int .i64 pt,.int .i64 bk,.int .i64 sl,.string nm,.bool bt,.bool ot,.int .i64 af,.slice pa bl.length pc] 41)).grownBy w' u5.ownBlock->(∀ k,v'.ownBlock=some k->u5.ownBlock=some k\/(wr.alloc (.cells #[.int .i64 id2,.int .i64 1,.int .i64 io,.int .i64 pt,.int .i64 bk,.int .i64 sl,.string nm,.bool bt,.bool ot,.int .i64 af,.slice pa bl.length pc] 41)).heap.size<=k)->NOwns w' 41 11 v' (rowsP f (ts.take (q+1)) (M5.ds.take (q+1)))/\(∀ k,v'.ownBlock=some k->wc.heap.size<=k)/\Below wc.heap.size wc w'):=fun v' w' k1 k2 k3=>by
         exact cQ33
        clear HRR HST HXF hfx;go_wp2_with (at_builtin;refine wpList_step fun K' hK'=>?_;refine zap _ rfl (.tmp 100) (.tmp 108) 31 rfl 41 Tryz.u31 _ 11 104 Tryz.i41 rfl (by decide) (by decide) u5 _ rfl HT.out wr.heap.size ((⟨id2,1,io,pt,bk,sl,nm,bt,ot,af,bl⟩:Dp).row (.slice pa bl.length pc)) rfl rfl (fun i u hu=>(AtC.new wr 41 #[.int .i64 id2,.int .i64 1,.int .i64 io,.int .i64 pt,.int .i64 bk,.int .i64 sl,.string nm,.bool bt,.bool ot,.int .i64 af,.slice pa bl.length pc]).at_ i u hu) (by simp [Dp.row,Value.oneCell']) HTL.out ?_;intro v12 w12 T12 G12 V12;refine hK' _ _ ?_;have HR12:=hide (HSTEP.out v12 w12 T12 G12 V12);clear T12 G12 V12 hK')
        go_roundw
        case rel=>exact ⟨q+1,by omega,by go_num,HR12.out⟩
        case measure=>simp [intOf];omega
      by_cases hk6:kk=6
      ·subst hk6;by_cases hio:io=(j:Int)+1
       ·subst hio;have hfx:f (⟨id2,6,(j:Int)+1,pt,bk,sl,nm,bt,ot,af,bl⟩:Dp)=false:=by rw [HXF.out];simp
        exact cQ39
       ·have hfx:f (⟨id2,6,io,pt,bk,sl,nm,bt,ot,af,bl⟩:Dp)=true:=by rw [HXF.out];simp [hio]
        have HT:Hid (NOwns (wr.alloc (.cells #[.int .i64 id2,.int .i64 6,.int .i64 io,.int .i64 pt,.int .i64 bk,.int .i64 sl,.string nm,.bool bt,.bool ot,.int .i64 af,.slice pa bl.length pc] 41)) 41 11 u5 (rowsP f (ts.take q) (M5.ds.take q))):=HRR.out.1.of_heap fun k hk=>((Below.refl _ wr).alloc nR _).block k (HRR.out.1.lt k hk);have HTL:Hid ((rowsP f (ts.take q) (M5.ds.take q)).length<=100000000000):=by
         exact cQ88
        have HSTEP:Hid (∀ v' w',NOwns w' 41 11 v' (rowsP f (ts.take q) (M5.ds.take q) ++ [(⟨id2,6,io,pt,bk,sl,nm,bt,ot,af,bl⟩:Dp).row (.slice pa bl.length pc)])->(wr.alloc (.cells #[.int .i64 id2,.int .i64 6,.int .i64 io,.int .i64 pt,.int .i64 bk,.int .i64 sl,.string nm,.bool bt,.bool ot,.int .i64 af,.slice pa bl.length pc] 41)).grownBy w' u5.ownBlock->(∀ k,v'.ownBlock=some k->u5.ownBlock=some k\/(wr.alloc (.cells #[.int .i64 id2,.int .i64 6,.int .i64 io,.int .i64 pt,.int .i64 bk,.int .i64 sl,.string nm,.bool bt,.bool ot,.int .i64 af,.slice pa bl.length pc] 41)).heap.size<=k)->NOwns w' 41 11 v' (rowsP f (ts.take (q+1)) (M5.ds.take (q+1)))/\(∀ k,v'.ownBlock=some k->wc.heap.size<=k)/\Below wc.heap.size wc w'):=fun v' w' k1 k2 k3=>by
         exact cQ33
        clear HRR HST HXF hfx;go_wp2_with (at_builtin;refine wpList_step fun K' hK'=>?_;refine zap _ rfl (.tmp 100) (.tmp 108) 31 rfl 41 Tryz.u31 _ 11 104 Tryz.i41 rfl (by decide) (by decide) u5 _ rfl HT.out wr.heap.size ((⟨id2,6,io,pt,bk,sl,nm,bt,ot,af,bl⟩:Dp).row (.slice pa bl.length pc)) rfl rfl (fun i u hu=>(AtC.new wr 41 #[.int .i64 id2,.int .i64 6,.int .i64 io,.int .i64 pt,.int .i64 bk,.int .i64 sl,.string nm,.bool bt,.bool ot,.int .i64 af,.slice pa bl.length pc]).at_ i u hu) (by simp [Dp.row,Value.oneCell']) HTL.out ?_;intro v12 w12 T12 G12 V12;refine hK' _ _ ?_;have HR12:=hide (HSTEP.out v12 w12 T12 G12 V12);clear T12 G12 V12 hK')
        go_roundw
        case rel=>exact ⟨q+1,by omega,by go_num,HR12.out⟩
        case measure=>simp [intOf];omega
      have hfx:f (⟨id2,kk,io,pt,bk,sl,nm,bt,ot,af,bl⟩:Dp)=true:=by rw [HXF.out];simp [hk1,hk6]
      have HT:Hid (NOwns (wr.alloc (.cells #[.int .i64 id2,.int .i64 kk,.int .i64 io,.int .i64 pt,.int .i64 bk,.int .i64 sl,.string nm,.bool bt,.bool ot,.int .i64 af,.slice pa bl.length pc] 41)) 41 11 u5 (rowsP f (ts.take q) (M5.ds.take q))):=HRR.out.1.of_heap fun k hk=>((Below.refl _ wr).alloc nR _).block k (HRR.out.1.lt k hk);have HTL:Hid ((rowsP f (ts.take q) (M5.ds.take q)).length<=100000000000):=by
       exact cQ88
      have HSTEP:Hid (∀ v' w',NOwns w' 41 11 v' (rowsP f (ts.take q) (M5.ds.take q) ++ [(⟨id2,kk,io,pt,bk,sl,nm,bt,ot,af,bl⟩:Dp).row (.slice pa bl.length pc)])->(wr.alloc (.cells #[.int .i64 id2,.int .i64 kk,.int .i64 io,.int .i64 pt,.int .i64 bk,.int .i64 sl,.string nm,.bool bt,.bool ot,.int .i64 af,.slice pa bl.length pc] 41)).grownBy w' u5.ownBlock->(∀ k,v'.ownBlock=some k->u5.ownBlock=some k\/(wr.alloc (.cells #[.int .i64 id2,.int .i64 kk,.int .i64 io,.int .i64 pt,.int .i64 bk,.int .i64 sl,.string nm,.bool bt,.bool ot,.int .i64 af,.slice pa bl.length pc] 41)).heap.size<=k)->NOwns w' 41 11 v' (rowsP f (ts.take (q+1)) (M5.ds.take (q+1)))/\(∀ k,v'.ownBlock=some k->wc.heap.size<=k)/\Below wc.heap.size wc w'):=fun v' w' k1 k2 k3=>by
       exact cQ33
      clear HRR HST HXF hfx;go_wp2_with (at_builtin;refine wpList_step fun K' hK'=>?_;refine zap _ rfl (.tmp 100) (.tmp 108) 31 rfl 41 Tryz.u31 _ 11 104 Tryz.i41 rfl (by decide) (by decide) u5 _ rfl HT.out wr.heap.size ((⟨id2,kk,io,pt,bk,sl,nm,bt,ot,af,bl⟩:Dp).row (.slice pa bl.length pc)) rfl rfl (fun i u hu=>(AtC.new wr 41 #[.int .i64 id2,.int .i64 kk,.int .i64 io,.int .i64 pt,.int .i64 bk,.int .i64 sl,.string nm,.bool bt,.bool ot,.int .i64 af,.slice pa bl.length pc]).at_ i u hu) (by simp [Dp.row,Value.oneCell']) HTL.out ?_;intro v12 w12 T12 G12 V12;refine hK' _ _ ?_;have HR12:=hide (HSTEP.out v12 w12 T12 G12 V12);clear T12 G12 V12 hK')
      go_roundw
      case rel=>exact ⟨q+1,by omega,by go_num,HR12.out⟩
      case measure=>simp [intOf];omega
     ·have hq2:q=M5.ds.length:=by omega
      subst hq2;rw [List.take_length,show ts.take M5.ds.length=ts by rw [← hln,List.take_length]] at hn;obtain ⟨ga,gc,rfl,-⟩:=hn.form;have hzz:=HP5.out.box.frozen 5;have hzr:wr.frozen? ⟨b,5,none⟩=false:=(HP5.out.box.over hbl).frozen 5;clear hzz;have HNE:Hid (BX5 Z w.heap.size (wr.setCell ⟨b,5,none⟩ (.slice ga (rowsP f ts M5.ds).length gc)) T b bx kd lx (.slice s1 ps.length t1) ps j/\Chg T w (wr.setCell ⟨b,5,none⟩ (.slice ga (rowsP f ts M5.ds).length gc))):=by
       have hlb:=HLB.out;have hb5:=HB5.out.size;have pk:=HKP.out wr (.slice ga (rowsP f ts M5.ds).length gc) f (fun k hk _=>hbl.block k hk.2) (hbl.block b HP5.out.box.lt) hn (fun k hk=>⟨fun e=>by have:=hlo k hk;omega,by have:=hlo k hk;omega⟩);refine ⟨⟨_,_,_,_,_,_,_,_,pk,HS5.out.deps (Nat.le_trans (List.length_filter_le _ _) hl5) (fun d hd=>HS5.out.dd d (List.mem_filter.mp hd).1) (zdy _ _),fun k hk=>?_,(HX5.out.over hbl).other (by omega) _,(HR5.out.below hbl nR).of_heap fun k hk=>heap_setCell_other _ ⟨b,5,none⟩ k _ (by have:=(HR5.out.lt k hk).1;show k≠b;omega),HQ5.out⟩,(HB5.out.trans (Chg.of_below hbl)).setCell hlb.1 _⟩
       ·rcases hk with hk | hk
        ·exact HK5.out k hk.1
        ·have:=hlo k hk;have:=HX5.out.lt;exact ⟨HTT.out k (by omega),by omega⟩
      have xb0:=(HX5.out.over hbl).c2;generalize hLN:(rowsP f ts M5.ds).length=LN at *;have HLN:=hide hLN;clear hn hlo hbl HR HP5 HS5 HK5 HX5 HR5 HB5 HRO HNT HKP HFF g0 g1 g2 x5 hLN;go_wp2_with fail
      have hsz6:(wr.setCell ⟨b,5,none⟩ (.slice ga LN gc)).heap.size=wr.heap.size:=by simp
      generalize wr.setCell ⟨b,5,none⟩ (.slice ga LN gc)=w6 at *;have HSZ6:=hide hsz6;clear hsz6;obtain ⟨⟨S6,u,v,iv,bv,dv,pv,M6,P6,hS6,hk6,X6,R6,Q6⟩,B6⟩:=HNE.out
      replace P6:=P6.bound
      obtain ⟨gi,ci,p9,e9,i0,i1,i2,-,hfz,hgi,gS⟩:=P6.inoAt j (by rw [hS6.i];omega);subst e9;have HP6:=hide P6;have HS6:=hide hS6;have HK6:=hide hk6;have HX6:=hide X6;have HQ6:=hide Q6;clear Q6;have HR6:=hide R6;have HB6:=hide B6;have HI6:Hid ((∃ r0,w6.cell? ⟨gi,j * 3,none⟩=some r0)/\(∃ r1,w6.cell? ⟨gi,j * 3+1,none⟩=some r1)/\(∃ r2,w6.cell? ⟨gi,j * 3+2,none⟩=some r2)/\(∀ k,w6.frozen? ⟨gi,k,none⟩=false)/\gi < w6.heap.size/\T gi):=⟨⟨_,i0⟩,⟨_,i1⟩,⟨_,i2⟩,hfz,hgi,(hk6 gi gS.1).1⟩
      have his6:M6.is.length=8:=hS6.i;have HIS6:=hide his6;have j1:(j:Int) < (M6.is.length:Int):=by omega
      clear P6 hS6 hk6 X6 R6 B6 HNE i0 i1 i2 hfz gS his6 xb5 xb0 hzr;go_loopw [9,8] (fun i lv wr2=>∃ (q:Nat) (bl:List Int),q<=ps.length/\i=.int .i64 q/\Hid (ROwns wr2 w6.heap.size 3 lv (ic bl)/\bl.length<=q/\BlQ ps q bl/\Below w6.heap.size w6 wr2)) (fun i lv _=>ps.length - (intOf i).toNat)
      case atStart=>exact ⟨0,[],Nat.zero_le _,rfl,by rw [← HSZ6.out];exact ROwns.lit0 w6 _ 3 nR,Nat.le_refl _,BlQ.nil ps,bR.alloc nR _⟩
      case round =>
       obtain ⟨q,bl,hq,rfl,HR⟩:=hrel;obtain ⟨hn,hbq,hbp,hbl⟩:=HR.out;have xb0:=(HX6.out.over hbl).c2;by_cases hlt:q < ps.length
       ·obtain ⟨sa,sc,es,hsc⟩:=(HR6.out.below hbl nR).rints;simp only [Value.slice.injEq,true_and] at es;obtain ⟨rfl,rfl⟩:=es;obtain ⟨g,off,rfl,-,k1⟩:=hsc q hlt;have hpp:=HPS.out ps[q] (List.getElem_mem hlt);obtain ⟨t,ht⟩:∃ t,ps[q]=t:=⟨_,rfl⟩
        rw [ht] at k1 hpp;have HPP:=hide hpp;have HTQ:=hide ht;have HRR:=hide (And.intro hn (And.intro hbq (And.intro hbp hbl)));have q0:(0:Int)<=(q:Int):=by omega
        have q1:(q:Int) < (ps.length:Int):=by omega
        clear hsc ht hn hbq hbp hbl HR hpp;by_cases htp:0 < t
        ·have HT:Hid (ROwns (wr.alloc (.cells #[.int .i64 t] 3)) w6.heap.size 3 u8 (ic bl)):=HRR.out.1.alloc _;have HTL:Hid ((ic bl).length<=100000000000):=by have:=HRR.out.2.1;rw [zaf];show _<=_;omega
         have HSZ:Hid (w6.heap.size<=(wr.alloc (.cells #[.int .i64 t] 3)).heap.size):=by have:=HRR.out.2.2.2.size;show _<=_;simp;omega
         have HSTEP:Hid (∀ v' w',ROwns w' w6.heap.size 3 v' (ic bl ++ [.int .i64 t])->(wr.alloc (.cells #[.int .i64 t] 3)).grownBy w' u8.ownBlock->(∀ k,v'.ownBlock=some k->u8.ownBlock=some k\/(wr.alloc (.cells #[.int .i64 t] 3)).heap.size<=k)->ROwns w' w6.heap.size 3 v' (ic (bl ++ [t]))/\(bl ++ [t]).length<=q+1/\BlQ ps (q+1) (bl ++ [t])/\Below w6.heap.size w6 w'):=fun v' w' k1 k2 k3=>by
          obtain ⟨hn,hbq,hbp,hbl⟩:=HRR.out;have hsz:=hbl.size;have hpp:=HPP.out;refine ⟨by rw [show ic (bl ++ [t])=ic bl ++ [.int .i64 t] by simp [ic]];exact k1,by simp;omega,hbp.more hlt HTQ.out (by omega) hpp.2,?_⟩
          ·exact (hbl.alloc hsz _).grown k2 (by simp at hsz ⊢;omega) (fun k hk=>(hn.lt k hk).1)
         have k2:=(AtC.new wr 3 #[.int .i64 t]).c0;have HK2:=hide k2;clear HRR HPP k2;go_wp2_with (at_builtin;refine wpList_step fun K' hK'=>?_;refine zal _ rfl (.tmp 128) (.tmp 134) 35 rfl w6.heap.size 3 Tryz.u35 _ 8 Tryz.i3 rfl (by decide) u8 _ rfl HT.out HSZ.out wr.heap.size (.int .i64 t) rfl HK2.out rfl HTL.out ?_;intro v12 w12 T12 G12 V12;refine hK' _ _ ?_;have HR12:=hide (HSTEP.out v12 w12 T12 G12 V12);clear T12 G12 V12 hK')
         go_roundw
         case rel=>exact ⟨q+1,bl ++ [t],by omega,by go_num,HR12.out⟩
         case measure=>simp [intOf];omega
        ·go_wp2;go_roundw
         case rel=>exact ⟨q+1,bl,by omega,by go_num,HRR.out.1,by have:=HRR.out.2.1;omega,HRR.out.2.2.1.skip hlt,HRR.out.2.2.2⟩
         case measure=>simp [intOf];omega
       ·have hb2:bl.length<=2:=by omega
        have HQ:=hide (And.intro hn (And.intro hb2 (And.intro hbp hbl)));clear hn hbq hbp hbl HR hb2;obtain ⟨ba,bc,rfl,-⟩:=HQ.out.1.form;rw [zaf] at *;go_upto_region 21 with fail
        go_cut [] from 136 to 144 (fun wx=>∃ (S8:Nat->Prop) (u v iv bv dv pv:Value) (M8:MD),PM wx S8 b u v iv bv dv pv M8/\Sh Z M8/\(∀ k,S8 k->T k)/\RInts wx (.slice ba bl.length bc) bl/\Chg T w wx/\Kz.Room Z M8 bl)
        case first =>
         have HAL:Hid (∀ W,Below wr.heap.size wr W->PM W (fun k=>S6 k/\k < w6.heap.size) b u v (.slice (some ⟨gi,0,none⟩) M6.is.length ci) bv dv pv M6/\(∃ r0,W.cell? ⟨gi,j * 3,none⟩=some r0)/\(∃ r1,W.cell? ⟨gi,j * 3+1,none⟩=some r1)/\(∃ r2,W.cell? ⟨gi,j * 3+2,none⟩=some r2)/\(∀ k,W.frozen? ⟨gi,k,none⟩=false)/\ROwns W w6.heap.size 3 (.slice ba bl.length bc) (ic bl)/\Chg T w W):=fun W bb=>by
          obtain ⟨hn,-,-,hbl⟩:=HQ.out;have b2:=hbl.trans (bb.mono hbl.size);obtain ⟨⟨r0,q0⟩,⟨r1,q1⟩,⟨r2,q2⟩,q3,q4,q5⟩:=HI6.out;have hb6:=HB6.out;have hlb:=HLB.out;have hsz:=hb6.size;exact ⟨HP6.out.below b2,⟨r0,(b2.cell (p:=⟨gi,j * 3,none⟩) q4).trans q0⟩,⟨r1,(b2.cell (p:=⟨gi,j * 3+1,none⟩) q4).trans q1⟩,⟨r2,(b2.cell (p:=⟨gi,j * 3+2,none⟩) q4).trans q2⟩,fun k=>(b2.frozen (p:=⟨gi,k,none⟩) q4).trans (q3 k),hn.below bb nR,hb6.trans (Chg.of_below b2)⟩
         obtain ⟨A1,-,-,-,-,-,-⟩:=HAL.out wr bR;have y2:=A1.box.c2;clear A1;have HRM:Hid (Kz.Room Z { M6 with is:=M6.is.set j (0,zak 0,[0,0]) } bl):=by
          obtain ⟨hj6,e6⟩:=HQ6.out;exact HS6.out.k.lose j hj6 _ bl (fun p p1=>cnt00 p p1) (fun p _=>by rw [e6];exact Nat.le_trans (HQ.out.2.2.1.2 p) (by exact (List.take_sublist q ps).count_le p))
         have HREL:Hid (∀ w9 v9,Below wr.heap.size wr w9->ROwns w9 wr.heap.size 3 v9 (ic [0,0])->∃ (S8:Nat->Prop) (u v iv bv dv pv:Value) (M8:MD),PM (set3 w9 gi j (.int .i64 0,.int .i64 (zak 0),v9)) S8 b u v iv bv dv pv M8/\Sh Z M8/\(∀ k,S8 k->T k)/\RInts (set3 w9 gi j (.int .i64 0,.int .i64 (zak 0),v9)) (.slice ba bl.length bc) bl/\Chg T w (set3 w9 gi j (.int .i64 0,.int .i64 (zak 0),v9))/\Kz.Room Z M8 bl):=fun w9 v9 bb o9=>by
          obtain ⟨A1,-,-,-,-,A6,A7⟩:=HAL.out w9 bb;have hsz:=HQ.out.2.2.2.size;have hb6:=HB6.out.size;have hlb:=HLB.out;have q5:=HI6.out.2.2.2.2;have hpi:=A1.putI rfl j (by rw [HIS6.out];omega) (.int .i64 0,.int .i64 (zak 0),v9) (0,zak 0,[0,0]) ⟨rfl,rfl,o9.base_le (Nat.zero_le _)⟩ (fun k hk=>⟨fun e=>by have:=(o9.lt k hk).1;omega,by have:=(o9.lt k hk).1;omega⟩);refine ⟨_,_,_,_,_,_,_,_,hpi.1,HS6.out.inode j IOk.none (fun _ p p1=>by rw [cnt00 p p1];exact Nat.zero_le _),fun k hk=>?_,(A6.of_heap fun k hk=>zbj _ _ _ _ k (by have:=(A6.lt k hk).1;omega)).rints,((A7.setCell q5.2 _).setCell q5.2 _).setCell q5.2 _,HRM.out⟩;rcases hk with hk | hk
          ·exact (HK6.out k hk.1).1
          ·have:=(o9.lt k hk).1;exact HTT.out k (by omega)
         go_region_with (go_at_call 21;refine (zbf 0 _).mono ?_;rintro e w9 ⟨v9,rfl,O9,B9⟩;obtain ⟨n1,n2,rfl,-⟩:=O9.form;rw [zaf] at *;obtain ⟨A1,⟨r0,k0⟩,⟨r1,k1⟩,⟨r2,k2⟩,k3,-,-⟩:=HAL.out w9 (zac B9);have y9:w9.cell? ⟨b,2,none⟩=some (.slice (some ⟨gi,0,none⟩) M6.is.length ci):=A1.box.cell 2;have z0:=k3 (j * 3);have z1:=k3 (j * 3+1);have z2:=k3 (j * 3+2);have HB9:=hide B9;have HO9:=hide O9;clear A1 k3 B9 O9)
         all_goals (go_wp2_with fail;go_meet;exact HREL.out w9 _ (zac HB9.out) HO9.out)
        case rest =>
         obtain ⟨S8,u,v,iv,bv,dv,pv,M8,P8,hS8,hk8,R8,B8,K8⟩:=hcut;have HK8R:=hide K8;clear K8;clear HP6 HS6 HK6 HX6 HR6 HI6 HIS6 xb0;obtain ⟨a1,c1,a2,c2,a3,c3,a4,c4,a5,c5,a6,c6,rfl,rfl,rfl,rfl,rfl,rfl⟩:=P8.form;obtain ⟨x0,x1,x2,x3,x4,x5,x6⟩:=AtC.sev P8.box;have HP8:=hide P8;have HS8:=hide hS8;have HK8:=hide hk8;have HR8:=hide R8;have HB8:=hide B8;have HDO:Hid (DOkN ⟨M8.nx,5,(j:Int)+1,0,0,0,⟨#[]⟩,false,false,0,bl⟩):=⟨⟨by show 1<=(j:Int)+1;omega,by show (j:Int)+1<=8;omega⟩,by simp,by simp,by simp,HQ.out.2.2.1.1,HQ.out.2.1,by show (0:Nat)<=6;omega⟩
         clear P8 hS8 hk8 R8 B8;go_wp2_with fail
         refine (zd7 0 5 ((j:Int)+1) 0 0 0 ⟨#[]⟩ false false 0 bl _ _ _ _ _ _ _ M8 wc HP8.out.mr HS8.out HR8.out HDO.out (fun _=>HK8R.out)).mono ?_;rintro e wn ⟨u1,u2,u3,u4,u5,u6,mn,r,rfl,On,hSn,hr0,hr9,Bn⟩;obtain ⟨b1,d1,b2,d2,b3,d3,b4,d4,b5,d5,b6,d6,rfl,rfl,rfl,rfl,rfl,rfl⟩:=On.mr.form;have A2:AtC (wn.alloc (.cells #[.slice b1 mn.xs.length d1,.slice b2 mn.ys.length d2,.slice b3 mn.is.length d3,.slice b4 mn.bs.length d4,.slice b5 mn.fs.length d5,.slice b6 mn.ds.length d6,.int .i64 mn.nx] 33)) b 33 #[.slice a1 M8.xs.length c1,.slice a2 M8.ys.length c2,.slice a3 M8.is.length c3,.slice a4 M8.bs.length c4,.slice a5 M8.fs.length c5,.slice a6 M8.ds.length c6,.int .i64 M8.nx]:=(HP8.out.box.over Bn).over ((Below.refl _ wn).alloc nR _);have HFIN:Hid (BT Z ((((((((wn.alloc (.cells #[.slice b1 mn.xs.length d1,.slice b2 mn.ys.length d2,.slice b3 mn.is.length d3,.slice b4 mn.bs.length d4,.slice b5 mn.fs.length d5,.slice b6 mn.ds.length d6,.int .i64 mn.nx] 33)).setCell ⟨b,0,none⟩ (.slice b1 mn.xs.length d1)).setCell ⟨b,1,none⟩ (.slice b2 mn.ys.length d2)).setCell ⟨b,2,none⟩ (.slice b3 mn.is.length d3)).setCell ⟨b,3,none⟩ (.slice b4 mn.bs.length d4)).setCell ⟨b,4,none⟩ (.slice b5 mn.fs.length d5)).setCell ⟨b,5,none⟩ (.slice b6 mn.ds.length d6)).setCell ⟨b,6,none⟩ (.int .i64 mn.nx)) T b/\Chg T w ((((((((wn.alloc (.cells #[.slice b1 mn.xs.length d1,.slice b2 mn.ys.length d2,.slice b3 mn.is.length d3,.slice b4 mn.bs.length d4,.slice b5 mn.fs.length d5,.slice b6 mn.ds.length d6,.int .i64 mn.nx] 33)).setCell ⟨b,0,none⟩ (.slice b1 mn.xs.length d1)).setCell ⟨b,1,none⟩ (.slice b2 mn.ys.length d2)).setCell ⟨b,2,none⟩ (.slice b3 mn.is.length d3)).setCell ⟨b,3,none⟩ (.slice b4 mn.bs.length d4)).setCell ⟨b,4,none⟩ (.slice b5 mn.fs.length d5)).setCell ⟨b,5,none⟩ (.slice b6 mn.ds.length d6)).setCell ⟨b,6,none⟩ (.int .i64 mn.nx))):=by
          have hlb:=HLB.out;have hz8:=HB8.out.size;have hzb:=HP8.out.box.lt;refine ⟨⟨fun k=>wc.heap.size<=k,_,_,_,_,_,_,mn,PM.store A2 (On.below ((Below.refl _ wn).alloc nR _) nR) (by omega),fun k hk=>HTT.out k (by omega),hlb.1,hSn⟩,(((((((HB8.out.trans (Chg.of_below (Bn.alloc Bn.size _))).setCell hlb.1 _).setCell hlb.1 _).setCell hlb.1 _).setCell hlb.1 _).setCell hlb.1 _).setCell hlb.1 _).setCell hlb.1 _⟩
         have r0:=A2.c0;have v0:=A2.frozen 0;have r1:=A2.c1;have v1:=A2.frozen 1;have r2:=A2.c2;have v2:=A2.frozen 2;have r3:=A2.c3;have v3:=A2.frozen 3;have r4:=A2.c4;have v4:=A2.frozen 4;have r5:=A2.c5;have v5:=A2.frozen 5;have r6:=A2.c6;have v6:=A2.frozen 6;have s0:=(AtC.new wn 33 #[.slice b1 mn.xs.length d1,.slice b2 mn.ys.length d2,.slice b3 mn.is.length d3,.slice b4 mn.bs.length d4,.slice b5 mn.fs.length d5,.slice b6 mn.ds.length d6,.int .i64 mn.nx]).c0;have s1:=(AtC.new wn 33 #[.slice b1 mn.xs.length d1,.slice b2 mn.ys.length d2,.slice b3 mn.is.length d3,.slice b4 mn.bs.length d4,.slice b5 mn.fs.length d5,.slice b6 mn.ds.length d6,.int .i64 mn.nx]).c1;have s2:=(AtC.new wn 33 #[.slice b1 mn.xs.length d1,.slice b2 mn.ys.length d2,.slice b3 mn.is.length d3,.slice b4 mn.bs.length d4,.slice b5 mn.fs.length d5,.slice b6 mn.ds.length d6,.int .i64 mn.nx]).c2;have s3:=(AtC.new wn 33 #[.slice b1 mn.xs.length d1,.slice b2 mn.ys.length d2,.slice b3 mn.is.length d3,.slice b4 mn.bs.length d4,.slice b5 mn.fs.length d5,.slice b6 mn.ds.length d6,.int .i64 mn.nx]).c3;have s4:=(AtC.new wn 33 #[.slice b1 mn.xs.length d1,.slice b2 mn.ys.length d2,.slice b3 mn.is.length d3,.slice b4 mn.bs.length d4,.slice b5 mn.fs.length d5,.slice b6 mn.ds.length d6,.int .i64 mn.nx]).c4;have s5:=(AtC.new wn 33 #[.slice b1 mn.xs.length d1,.slice b2 mn.ys.length d2,.slice b3 mn.is.length d3,.slice b4 mn.bs.length d4,.slice b5 mn.fs.length d5,.slice b6 mn.ds.length d6,.int .i64 mn.nx]).c5;have s6:=(AtC.new wn 33 #[.slice b1 mn.xs.length d1,.slice b2 mn.ys.length d2,.slice b3 mn.is.length d3,.slice b4 mn.bs.length d4,.slice b5 mn.fs.length d5,.slice b6 mn.ds.length d6,.int .i64 mn.nx]).c6;clear A2 On hSn Bn x0 x1 x2 x3 x4 x5 x6 hr0 hr9 HP8 HS8 HR8 HDO HQ;go_wp2
         go_end0
         exact ⟨rfl,HFIN.out⟩
variable {Z : ZT}
theorem zje (T:Nat->Prop)(b:Nat)(id kd io pt bk sl:Int)(nm:ByteArray)(bt ot:Bool)(af:Int)(bl:List Int)(pa:Option Addr)(pc:Nat)(w:World)(h:BT Z w T b)(hT:∀ k,w.heap.size<=k->T k)(hio1:1<=io)(hio8:io<=8)(hbl:∀ p∈bl,(1:Int)<=p/\p<=16)(hbn:bl.length<=2)
  (hp:∀ W,Chg T w W->RInts W (.slice pa bl.length pc) bl) (hzb:∀ p∈bl,Z id p) :
  Calls Tryz.prog 110 #[.pointer (some ⟨b,0,none⟩),.agg #[.int .i64 id,.int .i64 kd,.int .i64 io,.int .i64 pt,.int .i64 bk,.int .i64 sl,.string nm,.bool bt,.bool ot,.int .i64 af,.slice pa bl.length pc]] w fun e w'=>e=.returned (.tuple #[])/\BT Z w' T b/\Chg T w w':=by
 obtain ⟨Y,hY⟩:∃ Y:ZT,Y=fun i p=>Z i p\/p∈bl:=⟨_,rfl⟩
 have HKY:Hid (∀ M:MD,Kz Z M->Kz Y { M with ds:=za8 id M.ds }):=fun M hM=>by rw [hY];exact hM.drop id bl hzb
 have HYZ:Hid (∀ i p,Z i p->Y i p):=fun i p h=>by rw [hY];exact .inl h
 have HYB:Hid (∀ p∈bl,∀ i,Y i p):=fun p h i=>by rw [hY];exact .inr h
 clear hY hzb;have HPL:=hide hp;have HBL:=hide hbl;have HTT:Hid (∀ k,(w.alloc (.cells #[.int .i64 id,.int .i64 kd,.int .i64 io,.int .i64 pt,.int .i64 bk,.int .i64 sl,.string nm,.bool bt,.bool ot,.int .i64 af,.slice pa bl.length pc] 41)).heap.size<=k->(fun k=>T k/\k≠w.heap.size) k):=fun k hk=>by simp at hk;exact ⟨hT k (by omega),by omega⟩
 have HBT:Hid (BT Z (w.alloc (.cells #[.int .i64 id,.int .i64 kd,.int .i64 io,.int .i64 pt,.int .i64 bk,.int .i64 sl,.string nm,.bool bt,.bool ot,.int .i64 af,.slice pa bl.length pc] 41)) (fun k=>T k/\k≠w.heap.size) b):=by
  obtain ⟨S,u,v,iv,bv,dv,pv,m,hP,hS,hTb,hm⟩:=h;have:=hP.box.lt;exact ⟨_,u,v,iv,bv,dv,pv,m,hP.bound.alloc _,fun k hk=>⟨hS k hk.1,by have:=hk.2;omega⟩,⟨hTb,by omega⟩,hm⟩
 have HKK:Hid (∀ W,Chg (fun k=>T k/\k≠w.heap.size) (w.alloc (.cells #[.int .i64 id,.int .i64 kd,.int .i64 io,.int .i64 pt,.int .i64 bk,.int .i64 sl,.string nm,.bool bt,.bool ot,.int .i64 af,.slice pa bl.length pc] 41)) W->AtC W w.heap.size 41 #[.int .i64 id,.int .i64 kd,.int .i64 io,.int .i64 pt,.int .i64 bk,.int .i64 sl,.string nm,.bool bt,.bool ot,.int .i64 af,.slice pa bl.length pc]/\Chg T w W/\RInts W (.slice pa bl.length pc) bl/\w.heap.size+1<=W.heap.size):=fun W hc=>by
  have c2:Chg T w W:=(Chg.of_below ((Below.refl _ w).alloc nR _)).trans (hc.mono fun k hk=>hk.1);exact ⟨(hc.block _ (by simp) (fun e=>e.2 rfl)).trans (AtC.new w 41 #[.int .i64 id,.int .i64 kd,.int .i64 io,.int .i64 pt,.int .i64 bk,.int .i64 sl,.string nm,.bool bt,.bool ot,.int .i64 af,.slice pa bl.length pc]),c2,HPL.out W c2,by have:=hc.size;simp at this;exact this⟩
 have y0:=(AtC.new w 41 #[.int .i64 id,.int .i64 kd,.int .i64 io,.int .i64 pt,.int .i64 bk,.int .i64 sl,.string nm,.bool bt,.bool ot,.int .i64 af,.slice pa bl.length pc]).c0;have hbb:b < w.heap.size:=h.lt.1;clear h hT hp hbl;obtain ⟨j,rfl⟩:∃ j:Nat,io=(j:Int)+1:=⟨(io - 1).toNat,by omega⟩
 have hwj:IntKind.i64.wrap (j:Int)=(j:Int):=wrap_small _ (by omega) (by omega);go_enter Tryz.func110,Tryz.ntmps110
 go_upto_region 1 with fail
 go_cut [] from 7 to 14 (fun wx=>BT Y wx (fun k=>T k/\k≠w.heap.size) b/\Chg (fun k=>T k/\k≠w.heap.size) (w.alloc (.cells #[.int .i64 id,.int .i64 kd,.int .i64 ((j:Int)+1),.int .i64 pt,.int .i64 bk,.int .i64 sl,.string nm,.bool bt,.bool ot,.int .i64 af,.slice pa bl.length pc] 41)) wx)
 case first =>
  have HBQ:Hid (∃ S u v iv bv dv pv m,PM (w.alloc (.cells #[.int .i64 id,.int .i64 kd,.int .i64 ((j:Int)+1),.int .i64 pt,.int .i64 bk,.int .i64 sl,.string nm,.bool bt,.bool ot,.int .i64 af,.slice pa bl.length pc] 41)) S b u v iv bv dv pv m/\Sh Z m):=by
   obtain ⟨S,u,v,iv,bv,dv,pv,m,hP,hS,hTb,hm⟩:=HBT.out;exact ⟨S,u,v,iv,bv,dv,pv,m,hP,hm⟩
  have HTQ:Hid ((fun k=>T k/\k≠w.heap.size) b):=HBT.out.lt.2;obtain ⟨S,u,v,iv,bv,dv,pv,m,hP,hm⟩:=HBQ.out;obtain ⟨a1,c1,a2,c2,a3,c3,a4,c4,a5,c5,a6,c6,rfl,rfl,rfl,rfl,rfl,rfl⟩:=hP.form;have x0:=hP.box.c0;have x1:=hP.box.c1;have x2:=hP.box.c2;have x3:=hP.box.c3;have x4:=hP.box.c4;have x5:=hP.box.c5;have x6:=hP.box.c6;have HP:=hide hP;have HM:=hide hm;clear hP hm
  go_region_with (go_at_call 109;refine (zjd id _ _ _ _ _ _ m _ HP.out.drew.mr HM.out (HKY.out m HM.out.k)).mono ?_;rintro e w2 ⟨u1,u2,u3,u4,u5,u6,mn,rfl,O2,hmn,B2⟩;obtain ⟨n1,o1,n2,o2,n3,o3,n4,o4,n5,o5,n6,o6,rfl,rfl,rfl,rfl,rfl,rfl⟩:=O2.mr.form;have A2:=HP.out.drew.box.over B2;have r0:w2.cell? ⟨b,0,none⟩=some (.slice a1 m.xs.length c1):=A2.cell 0;have v0:=A2.frozen 0;have r1:w2.cell? ⟨b,1,none⟩=some (.slice a2 m.ys.length c2):=A2.cell 1;have v1:=A2.frozen 1;have r2:w2.cell? ⟨b,2,none⟩=some (.slice a3 m.is.length c3):=A2.cell 2;have v2:=A2.frozen 2;have r3:w2.cell? ⟨b,3,none⟩=some (.slice a4 m.bs.length c4):=A2.cell 3;have v3:=A2.frozen 3;have r4:w2.cell? ⟨b,4,none⟩=some (.slice a5 m.fs.length c5):=A2.cell 4;have v4:=A2.frozen 4;have r5:w2.cell? ⟨b,5,none⟩=some (.slice a6 m.ds.length c6):=A2.cell 5;have v5:=A2.frozen 5;have r6:w2.cell? ⟨b,6,none⟩=some (.int .i64 m.nx):=A2.cell 6;have v6:=A2.frozen 6;have HF:=hide (zfy (w:=(w.alloc (.cells #[.int .i64 id,.int .i64 kd,.int .i64 ((j:Int)+1),.int .i64 pt,.int .i64 bk,.int .i64 sl,.string nm,.bool bt,.bool ot,.int .i64 af,.slice pa bl.length pc] 41))) (T:=(fun k=>T k/\k≠w.heap.size)) A2 O2 (Chg.of_below (zac B2)) hmn HTQ.out HP.out.box.lt HTT.out);clear A2 O2 hmn B2)
  all_goals (go_wp2_with fail;go_meet;exact HF.out)
 case rest =>
  have HBC:=hide hcut;clear hcut y0 HBT;generalize hw0:(w.alloc (.cells #[.int .i64 id,.int .i64 kd,.int .i64 ((j:Int)+1),.int .i64 pt,.int .i64 bk,.int .i64 sl,.string nm,.bool bt,.bool ot,.int .i64 af,.slice pa bl.length pc] 41))=w0 at *;have HW0:=hide hw0;clear hw0;go_wp2_with fail
  go_loopw [4] (fun i wr=>∃ q:Nat,q<=bl.length/\i=.int .i64 q/\Hid (BT Y wr (fun k=>T k/\k≠w.heap.size) b/\Chg (fun k=>T k/\k≠w.heap.size) w0 wr)) (fun i _=>bl.length - (intOf i).toNat)
  case atStart=>exact ⟨0,Nat.zero_le _,rfl,HBC.out⟩
  case round =>
   obtain ⟨q,hq,rfl,HR⟩:=hrel;obtain ⟨ka,-,kr,-⟩:=HKK.out wr HR.out.2;have y10:=ka.c10;have y2:=ka.c2;by_cases hlt:q < bl.length
   ·obtain ⟨sa,sc,es,hsc⟩:=kr;simp only [Value.slice.injEq,true_and] at es;obtain ⟨rfl,rfl⟩:=es;obtain ⟨g,off,rfl,-,k1⟩:=hsc q hlt;have hpp:=HBL.out bl[q] (List.getElem_mem hlt);obtain ⟨t,ht⟩:∃ t,bl[q]=t:=⟨_,rfl⟩
    rw [ht] at k1 hpp;have HYT:Hid (∀ i,Y i t):=by rw [← ht];exact HYB.out bl[q] (List.getElem_mem hlt)
    obtain ⟨n,rfl⟩:∃ n:Nat,t=(n:Int)+1:=⟨(t - 1).toNat,by omega⟩
    have HYN:Hid (∀ i,Y i ((n:Int)+1)):=HYT.out;have hn:n < 16:=by omega
    have hwn:IntKind.i64.wrap (n:Int)=(n:Int):=wrap_small _ (by omega) (by omega);obtain ⟨gx,cx,rx,x0,x1,x2,x3,x4,x5⟩:=HR.out.1.bitX n hn;have HN:Hid (BT Y (wr.setCell ⟨gx,n,none⟩ (.bool false)).drew (fun k=>T k/\k≠w.heap.size) b/\Chg (fun k=>T k/\k≠w.heap.size) w0 (wr.setCell ⟨gx,n,none⟩ (.bool false)).drew):=⟨(x5 false (.inr (HYN.out))).below (zac bR),(HR.out.2.setCell x3 _).trans (Chg.of_below (zac bR))⟩
    have q0:(0:Int)<=(q:Int):=by omega
    have q1:(q:Int) < (bl.length:Int):=by omega
    have n0:(0:Int)<=(n:Int):=by omega
    have n1:(n:Int) < 16:=by omega
    clear ka hsc hpp x3 x4 x5 ht;go_upto_region 5 with fail
    go_big_region
    go_wp2;go_roundw
    case rel=>exact ⟨q+1,by omega,by go_num,HN.out⟩
    case measure=>simp [intOf];omega
   ·clear ka kr;obtain ⟨gx,cx,rx,x0,x1,x2,x3,x4,x5⟩:=HR.out.1.bitY j (by omega);have HN:Hid (BT Y (wr.setCell ⟨gx,j,none⟩ (.bool false)).drew (fun k=>T k/\k≠w.heap.size) b/\Chg (fun k=>T k/\k≠w.heap.size) w0 (wr.setCell ⟨gx,j,none⟩ (.bool false)).drew):=⟨(x5 false).below (zac bR),(HR.out.2.setCell x3 _).trans (Chg.of_below (zac bR))⟩
    have n0:(0:Int)<=(j:Int):=by omega
    have n1:(j:Int) < 8:=by omega
    clear x3 x4 x5 HR;go_upto_region 6 with fail
    go_big_region
    generalize (wr.setCell ⟨gx,j,none⟩ (.bool false)).drew=w4 at *;clear x0 x1 x2 y10 y2;go_wp2_with fail
    refine (zb7 _ b 0 w4 HN.out.1).mono ?_;rintro e w5 ⟨rfl,b5,c5⟩;have HC5:=hide (HN.out.2.trans c5);clear HN c5;obtain ⟨S5,u,v,iv,bv,dv,pv,m5,hP,hS,hTb,hm⟩:=b5
    replace hP:=hP.bound
    obtain ⟨a1,c1,a2,c2,a3,c3,a4,c4,a5,c5,a6,c6,rfl,rfl,rfl,rfl,rfl,rfl⟩:=hP.form;have x5:=hP.box.c5;have HP:=hide hP;have HM:=hide hm;have HS5:=hide hS;have HTB:=hide hTb;have hdl:m5.ds.length<=40:=hm.l;clear hP hm hS hTb;have HD5:Hid (∀ W,Chg (fun k=>k=b\/w5.heap.size<=k) w5 W->AtC W w.heap.size 41 #[.int .i64 id,.int .i64 kd,.int .i64 ((j:Int)+1),.int .i64 pt,.int .i64 bk,.int .i64 sl,.string nm,.bool bt,.bool ot,.int .i64 af,.slice pa bl.length pc]/\RInts W (.slice pa bl.length pc) bl/\Chg T w W):=fun W c=>by
     have z5:=HKK.out w5 HC5.out;have cc:Chg T w W:=z5.2.1.trans (c.mono fun k hk=>hk.elim (fun e=>by rw [e];exact HTB.out.1) (fun e=>(HTT.out k (by have:=HC5.out.size;omega)).1));exact ⟨(c.block _ (by have:=z5.2.2.2;omega) (fun e=>e.elim (fun e=>HTB.out.2 e.symm) (fun e=>by have:=z5.2.2.2;omega))).trans z5.1,HPL.out W cc,cc⟩
    go_wp2_with fail
    go_loopw [6] (fun i wr=>∃ q:Nat,q<=m5.ds.length/\i=.int .i64 q/\Hid ((Below w5.heap.size w5 wr\/BT Y wr (fun k=>k=b\/w5.heap.size<=k) b)/\Chg (fun k=>k=b\/w5.heap.size<=k) w5 wr)) (fun i _=>m5.ds.length - (intOf i).toNat)
    case atStart=>exact ⟨0,Nat.zero_le _,rfl,.inl bR,Chg.refl _ _⟩
    case round =>
     obtain ⟨q,hq,rfl,HR⟩:=hrel;obtain ⟨ka,kr,-⟩:=HD5.out wr HR.out.2;have y10:=ka.c10;have HKR:=hide kr;clear ka kr;by_cases hlt:q < m5.ds.length
     ·obtain ⟨g,cg,p,e6,nn,-,-,gS,gl,-⟩:=HP.out.dep_at q hlt;simp only [Value.slice.injEq,true_and] at e6;obtain ⟨rfl,rfl⟩:=e6;have hgb:wr.heap[g]?=w5.heap[g]?:=HR.out.2.block g gl (fun e=>e.elim (fun e=>HP.out.nb (e ▸ gS)) (fun e=>by omega));have hdk:=HM.out.dd _ (List.getElem_mem hlt);obtain ⟨X,hX⟩:∃ X,m5.ds[q]=X:=⟨_,rfl⟩
      rw [hX] at nn hdk;obtain ⟨id2,kk,jo,pt2,bk2,sl2,nm2,bt2,ot2,af2,bl2⟩:=X;simp only [DCells] at nn;obtain ⟨n0,n1,n2,n3,n4,n5,n6,n7,n8,n9,n10⟩:=nn;have c0:wr.cell? ⟨g,q * 11,none⟩=some (.int .i64 id2):=(World.cell?_of_block (w:=w5) (a:=⟨g,q * 11,none⟩) hgb).trans n0;have c1:wr.cell? ⟨g,q * 11+1,none⟩=some (.int .i64 kk):=(World.cell?_of_block (w:=w5) (a:=⟨g,q * 11+1,none⟩) hgb).trans n1;have c2:wr.cell? ⟨g,q * 11+2,none⟩=some (.int .i64 jo):=(World.cell?_of_block (w:=w5) (a:=⟨g,q * 11+2,none⟩) hgb).trans n2;have c4:wr.cell? ⟨g,q * 11+4,none⟩=some (.int .i64 bk2):=(World.cell?_of_block (w:=w5) (a:=⟨g,q * 11+4,none⟩) hgb).trans n4;have hio1:1<=jo:=hdk.io.1;have hio8:jo<=8:=hdk.io.2;have q0:(0:Int)<=(q:Int):=by omega
      have q1:(q:Int) < (m5.ds.length:Int):=by omega
      have HBK:=hide (And.intro c1 (And.intro c4 (And.intro c0 c2)));have HGL:Hid (g < w5.heap.size/\S5 g):=⟨gl,gS.1⟩
      clear n0 n1 n2 n3 n4 n5 n6 n7 n8 n9 n10 hdk hX hgb gl gS;go_upto_region 12 with fail
      go_cut [72] from 51 to 90 (fun c wx=>(∃ r,c=.bool r)/\Below wr.heap.size wr wx)
      case first =>
       by_cases h4:kk=4
       ·subst h4
        go_region_with (go_at_call 116;refine (zdv _ bl bk2 _ HKR.out.drew (by omega)).mono ?_;rintro e w7 ⟨rfl,rfl⟩)
        all_goals (go_wp2_with fail;go_meet;exact ⟨⟨_,rfl⟩,zac bR⟩)
       ·have h4b:(kk == 4)=false:=by simp [h4]
        go_big_region
        go_wp2_with fail
        go_meet
        exact ⟨⟨_,rfl⟩,zac bR⟩
      case rest =>
       obtain ⟨⟨r,rfl⟩,hbw⟩:=hcut;have HR7:Hid ((Below w5.heap.size w5 wc\/BT Y wc (fun k=>k=b\/w5.heap.size<=k) b)/\Chg (fun k=>k=b\/w5.heap.size<=k) w5 wc/\wc.cell? ⟨g,q * 11,none⟩=some (.int .i64 id2)/\wc.cell? ⟨g,q * 11+2,none⟩=some (.int .i64 jo)):=by
        have hz:=HR.out.2.size;refine ⟨HR.out.1.imp (fun e=>e.trans (hbw.mono hz)) (fun e=>e.below hbw),HR.out.2.trans (Chg.of_below hbw),(hbw.cell (p:=⟨g,q * 11,none⟩) (by have:=HGL.out.1;show g < _;omega)).trans HBK.out.2.2.1,(hbw.cell (p:=⟨g,q * 11+2,none⟩) (by have:=HGL.out.1;show g < _;omega)).trans HBK.out.2.2.2⟩
       clear hbw HR c0 c1 c2 c4 HBK y10 HKR
       cases r
       ·go_wp2;go_roundw
        case rel=>exact ⟨q+1,by omega,by go_num,HR7.out.1,HR7.out.2.1⟩
        case measure=>simp [intOf];omega
       ·have HBQ:Hid (∃ S u v iv bv dv pv m,PM wc S b u v iv bv dv pv m/\Sh Y m):=by
         rcases HR7.out.1 with e | ⟨S,u,v,iv,bv,dv,pv,m,hP,hS,hTb,hm⟩
         ·exact ⟨_,_,_,_,_,_,_,m5,HP.out.below e,HM.out⟩
         ·exact ⟨S,u,v,iv,bv,dv,pv,m,hP,hm⟩
        have HT2:Hid (∀ k,wc.heap.size<=k->(fun k=>k=b\/w5.heap.size<=k) k):=fun k hk=>.inr (by have:=HR7.out.2.1.size;omega);have HGB:Hid (g≠b):=fun e=>by have:=HGL.out.2;rw [e] at this;exact HP.out.nb ⟨this,by have:=HGL.out.1;omega⟩
        have d0:=HR7.out.2.2.1;go_upto_region 13 with fail
        go_cut [] from 51 to 90 (fun wx=>BT Y wx (fun k=>k=b\/w5.heap.size<=k) b/\Chg (fun k=>k=b\/w5.heap.size<=k) w5 wx/\wx.cell? ⟨g,q * 11+2,none⟩=some (.int .i64 jo))
        case first =>
         obtain ⟨S,u,v,iv,bv,dv,pv,m,hP,hm⟩:=HBQ.out;obtain ⟨a1,c1,a2,c2,a3,c3,a4,c4,a5,c5,a6,c6,rfl,rfl,rfl,rfl,rfl,rfl⟩:=hP.form;obtain ⟨x0,x1,x2,x3,x4,x5,x6⟩:=AtC.sev hP.box;have HP:=hide hP;have HM:=hide hm;clear hP hm
         go_region_with (go_at_call 109;refine (zc5 id2 _ _ _ _ _ _ m _ HP.out.drew.mr HM.out).mono ?_;rintro e w2 ⟨u1,u2,u3,u4,u5,u6,mn,rfl,O2,hmn,B2⟩;obtain ⟨n1,o1,n2,o2,n3,o3,n4,o4,n5,o5,n6,o6,rfl,rfl,rfl,rfl,rfl,rfl⟩:=O2.mr.form;have A2:=HP.out.drew.box.over B2;have r0:w2.cell? ⟨b,0,none⟩=some (.slice a1 m.xs.length c1):=A2.cell 0;have v0:=A2.frozen 0;have r1:w2.cell? ⟨b,1,none⟩=some (.slice a2 m.ys.length c2):=A2.cell 1;have v1:=A2.frozen 1;have r2:w2.cell? ⟨b,2,none⟩=some (.slice a3 m.is.length c3):=A2.cell 2;have v2:=A2.frozen 2;have r3:w2.cell? ⟨b,3,none⟩=some (.slice a4 m.bs.length c4):=A2.cell 3;have v3:=A2.frozen 3;have r4:w2.cell? ⟨b,4,none⟩=some (.slice a5 m.fs.length c5):=A2.cell 4;have v4:=A2.frozen 4;have r5:w2.cell? ⟨b,5,none⟩=some (.slice a6 m.ds.length c6):=A2.cell 5;have v5:=A2.frozen 5;have r6:w2.cell? ⟨b,6,none⟩=some (.int .i64 m.nx):=A2.cell 6;have v6:=A2.frozen 6;have HF:=hide (zfy (w:=wc) (T:=(fun k=>k=b\/w5.heap.size<=k)) A2 O2 (Chg.of_below (zac B2)) hmn (.inl rfl) HP.out.box.lt HT2.out);have HGC:Hid ((((((((w2.setCell ⟨b,0,none⟩ (.slice n1 mn.xs.length o1)).setCell ⟨b,1,none⟩ (.slice n2 mn.ys.length o2)).setCell ⟨b,2,none⟩ (.slice n3 mn.is.length o3)).setCell ⟨b,3,none⟩ (.slice n4 mn.bs.length o4)).setCell ⟨b,4,none⟩ (.slice n5 mn.fs.length o5)).setCell ⟨b,5,none⟩ (.slice n6 mn.ds.length o6)).setCell ⟨b,6,none⟩ (.int .i64 mn.nx)).cell? ⟨g,q * 11+2,none⟩=some (.int .i64 jo)):=(by have:=HF.out.2.block g (by have:=HGL.out.1;have:=HR7.out.2.1.size;omega) (fun e=>e.elim HGB.out (fun e=>by have:=HGL.out.1;omega));exact (World.cell?_of_block (w:=wc) (a:=⟨g,q * 11+2,none⟩) this).trans HR7.out.2.2.2);clear A2 O2 hmn B2)
         all_goals (go_wp2_with fail;go_meet;exact ⟨HF.out.1,HR7.out.2.1.trans HF.out.2,HGC.out⟩)
        case rest =>
         obtain ⟨hb9,hc9,hg9⟩:=hcut;have HB9:=hide hb9;have HC9:=hide hc9;clear hb9 hc9 HR7 HBQ HT2 d0;go_wp2_with fail
         refine (ze6 (fun k=>k=b\/w5.heap.size<=k) b jo wc HB9.out (fun k hk=>.inr (by have:=HC9.out.size;omega)) hio1 hio8).mono ?_;rintro e wz ⟨rfl,bz,cz⟩;have HZ:Hid ((Below w5.heap.size w5 wz\/BT Y wz (fun k=>k=b\/w5.heap.size<=k) b)/\Chg (fun k=>k=b\/w5.heap.size<=k) w5 wz):=⟨.inr bz,HC9.out.trans cz⟩
         clear bz cz HB9 HC9 hg9;go_wp2;go_roundw
         case rel=>exact ⟨q+1,by omega,by go_num,HZ.out⟩
         case measure=>simp [intOf];omega
     ·have HN:Hid (BT Z wr T b/\Chg T w wr):=by
       refine ⟨?_,(HD5.out wr HR.out.2).2.2⟩;rcases HR.out.1 with e | e
       ·exact ⟨_,_,_,_,_,_,_,m5,HP.out.below e,fun k hk=>(HS5.out k hk.1).1,HTB.out.1,HM.out.weak HYZ.out⟩
       ·exact (e.weak HYZ.out).mono fun k hk=>hk.elim (fun e=>by rw [e];exact HTB.out.1) (fun e=>(HTT.out k (by have:=HC5.out.size;omega)).1)
      clear HR;go_wp2
      go_end0
      exact ⟨rfl,HN.out⟩
namespace Kit
def rowsW (ds:List Dp) (ts:List Row):List Row:=List.zipWith (fun d t=>d.row (KDep.p t)) ds ts
theorem zb9 (ds:List Dp)(ts:List Row):(rowsW ds ts).length=min ds.length ts.length:=by simp [rowsW]
theorem zg7 (ds:List Dp)(ts:List Row)(i:Nat)(h:i < (rowsW ds ts).length)(h1:i < ds.length)(h2:i < ts.length):(rowsW ds ts)[i]=ds[i].row (KDep.p ts[i]):=by simp [rowsW]
theorem zea (d:Dp):∀ (ds:List Dp) (ts:List Row) (h:ds.length < ts.length),rowsW (ds ++ [d]) ts=rowsW ds ts ++ [d.row (KDep.p ts[ds.length])]
 | [],[],h=>by simp at h
 | [],t :: ts,h=>by simp [rowsW]
 | a :: ds,[],h=>by simp at h
 | a :: ds,t :: ts,h=>by
  have ih:=zea d ds ts (by simpa using h);show _ :: rowsW (ds ++ [d]) ts=_ :: (rowsW ds ts ++ _);rw [ih];rfl
theorem zh3 (ds:List Dp)(ts:List Row)(d:Dp)(n:Nat)(hn:ds.length=n)(h:n < ts.length):rowsW (ds ++ [d]) ts=rowsW ds ts ++ [d.row (KDep.p ts[n])]:=by
 subst hn;exact zea d ds ts h
theorem pRow (d:Dp)(p:Value):KDep.p (d.row p)=p:=rfl
theorem NOwns.rc {w:World}{e:TypeId}{n:Nat}{v:Value}{ts:List Row}(h:NOwns w e n v ts):RC w v ts.length ts.flatten:=by
 have hf:=zbk h.1;rcases h.2.2 with ⟨h1,h0⟩ | ⟨g,cap,cur,rfl,h2,h3,h4,h5,h6,h7⟩
 ·have:ts=[]:=List.length_eq_zero_iff.mp h0;subst this;obtain ⟨a,c,e1,-⟩:=h.form;exact ⟨a,c,e1,fun j u hj=>by simp at hj⟩
 ·have h':w.ownsRow 0 e n (.slice (some ⟨g,0,none⟩) ts.length cap) ts.length ts.flatten:=h.2;refine ⟨_,_,rfl,fun j u hj=>⟨g,0,rfl,?_⟩⟩;rw [Nat.zero_add];exact (h'.cellAt j (by have:=List.getElem?_eq_some_iff.mp hj;obtain ⟨q,-⟩:=this;omega)).trans hj
theorem row_one {w:World}{t:Row}{x:Dp}(h:KDep.O w t x):∀ u∈t,u.oneCell'=true:=by
 obtain ⟨p,rfl,h⟩:=h;obtain ⟨a,c,rfl,-⟩:=h.form;simp [Dp.row,Value.oneCell']
theorem GN.kinds {w w2:World}{S:Nat->Prop}{v lv:Value}{ts:List Row}{ds ds':List Dp}(h:GN KDep w S v ts ds)(hl:ds'.length=ds.length)(hk:∀ (i:Nat) (h1:i < ds'.length) (h2:i < ds.length),ds'[i].bl=ds[i].bl)(hn:NOwns w2 41 11 lv (rowsW ds' ts))(hlo:∀ k,lv.ownBlock=some k->¬ S k)(hb:∀ k,S k->k < w.heap.size->w2.heap[k]?=w.heap[k]?) :
  GN KDep w2 (fun k=>S k\/lv.ownBlock=some k) lv (rowsW ds' ts) ds':=by
 have hlen:=h.len;have hln:(rowsW ds' ts).length=ds'.length:=by rw [zb9];omega
 have hp:∀ (j:Nat) (hj:j < (rowsW ds' ts).length),∃ (h2:j < ts.length),KDep.p (rowsW ds' ts)[j]=KDep.p ts[j]:=fun j hj=>⟨by omega,by rw [zg7 _ _ _ _ (by omega) (by omega)];rfl⟩
 refine ⟨by rw [hln],hn,fun j hj hj'=>?_,fun i j hi hj hne k=>?_,fun j hj k e2 e3=>?_,fun k e=>.inr e,fun j hj k e=>?_⟩
 ·rw [zg7 _ _ _ _ hj' (by omega)];obtain ⟨p,e,ho⟩:=h.inn j (by omega) (by omega);rw [e,pRow];refine ⟨p,rfl,?_⟩;rw [hk j hj' (by omega)];refine ho.of_heap fun k hk=>hb k (h.si j (by omega) k ?_) (ho.lt k hk).2;rw [e,pRow];exact hk
 ·obtain ⟨q1,q2⟩:=hp i hi;obtain ⟨r1,r2⟩:=hp j hj;rw [q2,r2];exact h.sep i j q1 r1 hne k
 ·obtain ⟨q1,q2⟩:=hp j hj;rw [q2] at e2;exact hlo k e3 (h.si j q1 k e2)
 ·obtain ⟨q1,q2⟩:=hp j hj;rw [q2] at e;exact .inl (h.si j q1 k e)
theorem PM.kindsF {w:World}{S:Nat->Prop}{b:Nat}{u v iv bv dv pv:Value}{m:MD}(h:PM w S b u v iv bv dv pv m):∃ ts,ts.length=m.ds.length/\(∀ (j:Nat) (hj:j < ts.length) (hj':j < m.ds.length),KDep.O w ts[j] m.ds[j])/\NOwns w 41 11 pv ts /\
  (∀ (W:World) (bf:Value),Chg (fun k=>dv.ownBlock=some k) w W->NOwns W 41 11 bf ts->(∀ k,bf.ownBlock=some k->¬ S k)->RN KDep W bf m.ds) /\
  ∀ (w2:World) (lv:Value) (fs':List Bool) (ds':List Dp),Chg (fun k=>dv.ownBlock=some k) w w2->ROwns w2 0 4 dv (fc fs')->ds'.length=m.ds.length->(∀ (i:Nat) (h1:i < ds'.length) (h2:i < m.ds.length),ds'[i].bl=m.ds[i].bl)->NOwns w2 41 11 lv (rowsW ds' ts)->(∀ k,lv.ownBlock=some k->¬ S k/\k≠b) ->
   PM (w2.setCell ⟨b,5,none⟩ lv) (fun k=>S k\/lv.ownBlock=some k) b u v iv bv dv lv { m with fs:=fs',ds:=ds' }:=by
 obtain ⟨S1,S2,S3,ts,k1,k2,k3,k4,k5,k6,k7⟩:=h.own;have nb:∀ k,S k->k≠b:=fun k hk e=>h.nb (e ▸ hk);refine ⟨ts,k4.len,fun j hj hj'=>k4.inn j hj hj',k4.row,fun W bf hc hn hlo=>?_,fun w2 lv fs' ds' hc hr hl hk h3 h4=>?_⟩
 ·have un:∀ k,S3 k->k < w.heap.size->W.heap[k]?=w.heap[k]?:=fun k hk hlt=>hc.block k hlt fun e=>k6 k (k3 k e) hk;have G:GN KDep W (fun k=>S3 k\/bf.ownBlock=some k) bf ts m.ds:=⟨k4.len,hn,fun j hj hj'=>KDep.heap (k4.inn j hj hj') fun k hk=>un k (k4.si j hj k hk) (KDep.lt (k4.inn j hj hj') k hk),k4.sep,fun j hj k e2 e3=>hlo k e3 (k7 k (.inr (.inr (k4.si j hj k e2)))),fun k e=>.inr e,fun j hj k e=>.inl (k4.si j hj k e)⟩
  exact G.rn
 have hbd:∀ k,dv.ownBlock=some k->k≠b:=fun k hk=>nb k (k7 k (.inr (.inl (k3 k hk))));have hb2:AtC w2 b 33 #[u,v,iv,bv,dv,pv,.int .i64 m.nx]:=(hc.block b h.box.lt fun e=>hbd b e rfl).trans h.box;have G:=k4.kinds hl hk h3 (fun k hk e=>(h4 k hk).1 (k7 k (.inr (.inr e)))) (fun k hk hlt=>hc.block k hlt fun e=>k6 k (k3 k e) hk);have lvb:∀ k,lv.ownBlock=some k->k≠b:=fun k hk=>(h4 k hk).2;have un:∀ k,k≠b->(w2.setCell ⟨b,5,none⟩ lv).heap[k]?=w2.heap[k]?:=fun k hk=>heap_setCell_other _ ⟨b,5,none⟩ k _ hk;refine ⟨hb2.set 5 lv,⟨S1,S2,fun k=>S3 k\/lv.ownBlock=some k,_,k1.of_heap fun k hk hlt=>(un k (nb k (k7 k (.inl hk)))).trans (hc.block k hlt fun e=>(k5 k hk).1 (k3 k e)),hr.of_heap fun k hk=>un k (hbd k hk),k3,G.of_heap fun k hk _=>un k (hk.elim (fun e=>nb k (k7 k (.inr (.inr e)))) (lvb k)),fun k hk=>⟨(k5 k hk).1,fun e=>?_⟩,fun k hk e=>?_,fun k hk=>?_⟩,fun e=>?_⟩
 ·exact cQ136
 ·exact cQ132
 ·exact cQ85
 ·rcases e with e | e
  ·exact h.nb e
  ·exact (h4 b e).2 rfl
end Kit
theorem zjf (S:Nat->Prop)(b:Nat)(x:Int)(u v iv bv dv pv:Value)(m:MD)(w:World)(h:PM w S b u v iv bv dv pv m) :
  Calls Tryz.prog 95 #[.pointer (some ⟨b,0,none⟩),.int .i64 x] w fun e w'=>e=.returned (.tuple #[])/\PM w' S b u v iv bv dv pv (markU x m)/\Chg (fun k=>dv.ownBlock=some k) w w':=by
 obtain ⟨a1,c1,a2,c2,a3,c3,a4,c4,a5,c5,a6,c6,rfl,rfl,rfl,rfl,rfl,rfl⟩:=h.form;have x4:=h.box.c4;have H:=hide h;by_cases h0:0<=x
 ·have H0:=hide h0;by_cases h1:x < (m.fs.length:Int)
  ·have H1:=hide h1;obtain ⟨n,rfl⟩:∃ n:Nat,x=(n:Int):=⟨x.toNat,by omega⟩
   have hn:n < m.fs.length:=by omega
   obtain ⟨g,cap,e1,k1,k2,k3,k4⟩:=h.ownF.at n (by rw [zae];exact hn);rw [zae] at e1;simp only [Value.slice.injEq,true_and] at e1;obtain ⟨rfl,rfl⟩:=e1;have k1':w.cell? ⟨g,n,none⟩=some (.bool m.fs[n]):=k1.trans (by simp [fc,hn]);generalize m.fs[n]=t0 at k1';have HS:=hide (ROwns.stored (l:=fc m.fs) (g:=g) (cap:=c5) (by rw [zae];exact h.ownF) n (.bool true));have hd:decide ((n:Int) < (m.fs.length:Int))=true:=decide_eq_true h1;clear k1 h;go_enter Tryz.func95,Tryz.ntmps95
   go_wp2
   go_end0
   have q:=HS.out.1;have q2:=HS.out.2;rw [zae,← zdc] at q;have e:markU (n:Int) m={ m with fs:=m.fs.set n true }:=by unfold markU;rw [if_pos ⟨H0.out,H1.out⟩];rfl
   rw [e];exact ⟨rfl,H.out.turnF q q2,Chg.of_grown q2 fun k hk=>hk⟩
  ·exact cQ58
 ·exact cQ71
namespace Kit
variable {Z : ZT}
def RI (w wr:World) (S:Nat->Prop) (b:Nat) (u v iv bv dv pv:Value) (m:MD) (v9:Value) (ts:List Row) (n9:Nat):Prop :=
 ∃ fs':List Bool,PM wr S b u v iv bv dv pv { m with fs:=fs' }/\fs'.length=m.fs.length/\NOwns wr 41 11 v9 ts/\Chg (fun k=>dv.ownBlock=some k) w wr/\n9<=wr.heap.size
namespace RI
variable {w wr w' : World} {S : Nat -> Prop} {b : Nat} {u v iv bv dv pv : Value} {m : MD} {v9 : Value} {ts : List Row} {n9 : Nat}
theorem below (h:RI w wr S b u v iv bv dv pv m v9 ts n9)(hb:Below wr.heap.size wr w'):RI w w' S b u v iv bv dv pv m v9 ts n9:=by
 obtain ⟨fs',h1,h2,h3,h4,h5⟩:=h;exact ⟨fs',h1.below hb,h2,h3.of_heap fun k hk=>hb.block k (h3.lt k hk),h4.trans (Chg.of_below hb),Nat.le_trans h5 hb.size⟩
theorem set (h:RI w wr S b u v iv bv dv pv m v9 ts n9){g i:Nat}{x:Value}(h1:¬ S g)(h2:g≠b)(h3:v9.ownBlock≠some g)(h4:w.heap.size<=g):RI w (wr.setCell ⟨g,i,none⟩ x) S b u v iv bv dv pv m v9 ts n9:=by
 obtain ⟨fs',k1,k2,k3,k4,k5⟩:=h;have un:∀ k,k≠g->(wr.setCell ⟨g,i,none⟩ x).heap[k]?=wr.heap[k]?:=fun k hk=>heap_setCell_other _ ⟨g,i,none⟩ k _ hk;refine ⟨fs',⟨k1.box.other (Ne.symm h2) _,k1.own.of_heap fun k hk _=>un k (fun e=>h1 (e ▸ hk)),k1.nb⟩,k2,k3.of_heap fun k hk=>un k (fun e=>h3 (e ▸ hk)),⟨k4.os,k4.tape,k4.output,by have:=k4.size;simp;omega,fun k hk hn=>(un k (by omega)).trans (k4.block k hk hn)⟩,by simp;exact k5⟩
end RI
end Kit
variable {Z : ZT}
theorem zfz (w wr:World)(S:Nat->Prop)(b:Nat)(x:Int)(u v iv bv dv pv:Value)(m:MD)(v9:Value)(ts:List Row)(n9:Nat)(h:RI w wr S b u v iv bv dv pv m v9 ts n9)(hd:∀ k,dv.ownBlock=some k->v9.ownBlock≠some k) :
  Calls Tryz.prog 95 #[.pointer (some ⟨b,0,none⟩),.int .i64 x] wr fun e w'=>e=.returned (.tuple #[])/\RI w w' S b u v iv bv dv pv m v9 ts n9/\Chg (fun k=>dv.ownBlock=some k) wr w':=by
 obtain ⟨fs',h1,h2,h3,h4,h5⟩:=h;refine (zjf S b x _ _ _ _ _ _ _ wr h1).mono ?_;rintro e w' ⟨rfl,P2,C2⟩;refine ⟨rfl,?_,C2⟩;have hn:NOwns w' 41 11 v9 ts:=h3.of_heap fun k hk=>C2.block k (h3.lt k hk) fun e=>hd k e hk;unfold markU at P2
 split at P2
 ·exact ⟨_,P2,by rw [List.length_set];exact h2,hn,h4.trans C2,Nat.le_trans h5 C2.size⟩
 ·exact ⟨fs',P2,h2,hn,h4.trans C2,Nat.le_trans h5 C2.size⟩
theorem zjg (T:Nat->Prop)(b:Nat)(w:World)(h:BT Z w T b)(hT:∀ k,w.heap.size<=k->T k) :
  Calls Tryz.prog 113 #[.pointer (some ⟨b,0,none⟩)] w fun e w'=>e=.returned (.tuple #[])/\BT Z w' T b/\Chg T w w':=by
 obtain ⟨S0,u,v,iv,bv,dv,pv,m,hP0,hS0,hTb,hm⟩:=h;have hP:=hP0.bound;obtain ⟨S,hSd⟩:∃ S:Nat->Prop,S=fun k=>S0 k/\k < w.heap.size:=⟨_,rfl⟩
 rw [← hSd] at hP;have HSS:Hid (∀ k,S k->T k/\k < w.heap.size):=fun k hk=>by rw [hSd] at hk;exact ⟨hS0 k hk.1,hk.2⟩
 clear hSd hP0 hS0;obtain ⟨a1,c1,a2,c2,a3,c3,a4,c4,a5,c5,a6,c6,rfl,rfl,rfl,rfl,rfl,rfl⟩:=hP.form;obtain ⟨ts,hln,hro,hnt,hrn,hkf⟩:=hP.kindsF;have x5:=hP.box.c5;have x5a:=(hP.alloc (.cells #[] 41)).box.c5;have HP:=hide hP;have HM:=hide hm;have HRO:=hide hro;have HNT:=hide hnt;have HRN:=hide hrn;have HKF:=hide hkf;have HBL:Hid (b < w.heap.size/\T b):=⟨hP.box.lt,hTb⟩
 have HTT:=hide hT;have hdl:m.ds.length<=40:=hm.l;have HDV:Hid (∀ k,(Value.slice a5 m.fs.length c5).ownBlock=some k->S k):=hP.soF;have HFL:Hid (ts.flatten.length=m.ds.length * 11):=by have:=zbk hnt.1;rw [hln] at this;exact this
 have HON:Hid (∀ u∈ts.flatten,u.oneCell'=true):=fun u hu=>by
  obtain ⟨t,ht,hu⟩:=List.mem_flatten.mp hu;obtain ⟨i,hi,rfl⟩:=List.mem_iff_getElem.mp ht;exact row_one (hro i hi (by omega)) u hu
 have HRC:Hid (RC (w.alloc (.cells #[] 41)) (.slice a6 m.ds.length c6) m.ds.length ts.flatten):=by
  have:=(hnt.of_heap fun k hk=>((Below.refl _ w).alloc nR (.cells #[] 41)).block k (hnt.lt k hk)).rc;rw [hln] at this;exact this
 have HL4:Hid (m.ds.length<=100000000000):=by show _<=_;omega
 clear hP hm hro hnt hrn hkf hT hTb;go_enter Tryz.func113,Tryz.ntmps113
 go_wp2_with (at_builtin;refine zah _ rfl _ _ 31 rfl w.heap.size 41 Tryz.u31 _ 11 104 Tryz.i41 rfl (by decide) (by decide) (.slice (some ⟨w.heap.size,0,none⟩) 0 0) rfl (zg4 w 41 11) (by simp) _ rfl m.ds.length ts.flatten HRC.out HFL.out HON.out HL4.out ?_;intro v9 w9 R1 R2 R3;have HR1:=hide R1;have HR2:=hide R2;clear R1 R2 R3)
 have hN9:NOwns w9 41 11 v9 ts:=⟨HNT.out.1,by have:=HR1.out;rw [← hln] at this;exact World.ownsRow.mono this (Nat.zero_le _)⟩
 have hb9:Below w.heap.size w w9:=((Below.refl _ w).alloc nR (.cells #[] 41)).grown HR2.out (by simp) (fun k hk=>by simp [Value.ownBlock] at hk;omega);have hv9:∀ k,v9.ownBlock=some k->w.heap.size<=k:=fun k hk=>(World.ownsRow.lt HR1.out k hk).1;obtain ⟨ba,bc,rfl,-⟩:=hN9.form;have HLN:=hide hln;rw [hln];rw [hln] at hN9 hv9;clear hln;have HV9:=hide hv9;have HI0:Hid (RI w w9 S b (.slice a1 m.xs.length c1) (.slice a2 m.ys.length c2) (.slice a3 m.is.length c3) (.slice a4 m.bs.length c4) (.slice a5 m.fs.length c5) (.slice a6 m.ds.length c6) m (.slice ba m.ds.length bc) ts w9.heap.size):=⟨m.fs,HP.out.below hb9,rfl,hN9,Chg.of_below hb9,Nat.le_refl _⟩
 have h9:=hb9.size;clear hN9 hb9 hv9 HR1 HR2 HRC HFL HON HL4 x5 x5a;go_loopw [4,3] (fun i lv wr=>∃ (q:Nat) (ds':List Dp),q<=m.ds.length/\i=.int .i64 q/\Hid (NOwns wr 41 11 lv (rowsW ds' ts)/\ds'.length=q/\(∀ (i:Nat) (h1:i < ds'.length) (h2:i < m.ds.length),ds'[i].bl=m.ds[i].bl/\AlkD ds'[i] m.ds[i])/\(∀ d∈ds',DOk d)/\(∀ k,lv.ownBlock=some k->w9.heap.size<=k)/\RI w wr S b (.slice a1 m.xs.length c1) (.slice a2 m.ys.length c2) (.slice a3 m.is.length c3) (.slice a4 m.bs.length c4) (.slice a5 m.fs.length c5) (.slice a6 m.ds.length c6) m (.slice ba m.ds.length bc) ts w9.heap.size)) (fun i lv _=>m.ds.length - (intOf i).toNat)
 case atStart =>
  refine ⟨0,[],Nat.zero_le _,rfl,?_,rfl,fun i h1=>by simp at h1,fun d hd=>by simp at hd,?_,HI0.out.below (bR.alloc nR _)⟩
  ·have:=NOwns.of_at (n:=11) (ts:=[]) (AtC.new w9 41 #[]) rfl (Even.nil _) (Nat.zero_le _);simpa [rowsW] using this
  ·intro k hk;simp [Value.ownBlock] at hk;omega
 case round =>
  obtain ⟨q,ds',hq,rfl,HR⟩:=hrel;by_cases hlt:q < m.ds.length
  ·obtain ⟨fs',-,-,hN,-,-⟩:=HR.out.2.2.2.2.2;obtain ⟨g,cap,ei,hcell,-,hg,-⟩:=hN.at q (by rw [HLN.out];exact hlt);rw [HLN.out] at ei;simp only [Value.slice.injEq,true_and] at ei;obtain ⟨rfl,rfl⟩:=ei;obtain ⟨p,hrow,hpo⟩:=HRO.out q (by rw [HLN.out];exact hlt) hlt;have hst:=zh3 ds' ts;have nn:DCells wr g (q * 11) m.ds[q] p:=DCells.of fun i hi=>by rw [← hrow];exact hcell i hi
   have hdk:=HM.out.dd _ (List.getElem_mem hlt);have hsn:∀ d:Dp,rowsW (ds' ++ [d]) ts=rowsW ds' ts ++ [d.row p]:=fun d=>by
    rw [hst d q HR.out.2.1 (by rw [HLN.out];exact hlt),hrow,pRow]
   have hbl:∀ d:Dp,d.bl=m.ds[q].bl->AlkD d m.ds[q]->∀ (i:Nat) (h1:i < (ds' ++ [d]).length) (h2:i < m.ds.length),(ds' ++ [d])[i].bl=m.ds[i].bl/\AlkD (ds' ++ [d])[i] m.ds[i]:=fun d hd ha i h1 h2=>by
    by_cases hi:i < ds'.length
    ·rw [List.getElem_append_left hi];exact HR.out.2.2.1 i hi h2
    ·have e:i=q:=by have:=HR.out.2.1;simp at h1;omega
     subst e;rw [List.getElem_append_right (by omega)];simp only [List.getElem_singleton];exact ⟨hd,ha⟩
   obtain ⟨X,hX⟩:∃ X,m.ds[q]=X:=⟨_,rfl⟩
   rw [hX] at nn hpo hdk hbl;obtain ⟨id,kd,io,pt,bk,sl,nm,bt,ot,af,bl⟩:=X;obtain ⟨pa,pc,rfl⟩:=hpo.rints.form;simp only [DCells] at nn;obtain ⟨n0,n1,n2,n3,n4,n5,n6,n7,n8,n9,n10⟩:=nn;have HSN:=hide hsn;have HBLS:=hide hbl;have HDK:=hide hdk;have q0:(0:Int)<=(q:Int):=by omega
   have q1:(q:Int) < (m.ds.length:Int):=by omega
   have HZ:Hid (w9.heap.size<=wr.heap.size):=by obtain ⟨-,-,-,-,-,z⟩:=HR.out.2.2.2.2.2;exact z
   have HLV:Hid (∀ k,u3.ownBlock=some k->k < wr.heap.size):=HR.out.1.lt;have HV9o:Hid (g < wr.heap.size):=hg;clear hN hcell hg hrow hpo hst hdk hsn hbl hX;go_upto_region 6 with fail
   generalize hbd:wr.heap.size=bd at *;have HBD:=hide hbd;have HIA:Hid (RI w (wr.alloc (.cells #[.int .i64 id,.int .i64 kd,.int .i64 io,.int .i64 pt,.int .i64 bk,.int .i64 sl,.string nm,.bool bt,.bool ot,.int .i64 af,.slice pa bl.length pc] 41)) S b (.slice a1 m.xs.length c1) (.slice a2 m.ys.length c2) (.slice a3 m.is.length c3) (.slice a4 m.bs.length c4) (.slice a5 m.fs.length c5) (.slice a6 m.ds.length c6) m (.slice (some ⟨g,0,none⟩) m.ds.length bc) ts w9.heap.size/\AtC (wr.alloc (.cells #[.int .i64 id,.int .i64 kd,.int .i64 io,.int .i64 pt,.int .i64 bk,.int .i64 sl,.string nm,.bool bt,.bool ot,.int .i64 af,.slice pa bl.length pc] 41)) bd 41 #[.int .i64 id,.int .i64 kd,.int .i64 io,.int .i64 pt,.int .i64 bk,.int .i64 sl,.string nm,.bool bt,.bool ot,.int .i64 af,.slice pa bl.length pc]/\NOwns (wr.alloc (.cells #[.int .i64 id,.int .i64 kd,.int .i64 io,.int .i64 pt,.int .i64 bk,.int .i64 sl,.string nm,.bool bt,.bool ot,.int .i64 af,.slice pa bl.length pc] 41)) 41 11 u3 (rowsW ds' ts)):=by
    have b1:Below wr.heap.size wr (wr.alloc (.cells #[.int .i64 id,.int .i64 kd,.int .i64 io,.int .i64 pt,.int .i64 bk,.int .i64 sl,.string nm,.bool bt,.bool ot,.int .i64 af,.slice pa bl.length pc] 41)):=(Below.refl _ wr).alloc nR _;refine ⟨HR.out.2.2.2.2.2.below b1,?_,HR.out.1.of_heap fun k hk=>b1.block k (HR.out.1.lt k hk)⟩;rw [← HBD.out];exact AtC.new wr 41 _
   have HLW:=hide HR.out.2.2.2.2.1;have HDS:=hide (And.intro HR.out.2.1 (And.intro HR.out.2.2.2.1 HR.out.2.2.1));clear n0 n1 n2 n3 n4 n5 n6 n7 n8 n9 n10 HR hbd;generalize wr.alloc (.cells #[.int .i64 id,.int .i64 kd,.int .i64 io,.int .i64 pt,.int .i64 bk,.int .i64 sl,.string nm,.bool bt,.bool ot,.int .i64 af,.slice pa bl.length pc] 41)=wA at *;have d1:=HIA.out.2.1.c1;have d7:=HIA.out.2.1.c7;have d8:=HIA.out.2.1.c8;have d2:=HIA.out.2.1.c2;have dz:=HIA.out.2.1.frozen 1;go_cut [33] from 13 to 67 (fun c wx=>(∃ r,c=.bool r/\(r=true->kd=1))/\wx=wA)
   case first =>
    by_cases hk1:kd=1
    ·subst hk1
     cases bt<;>cases ot<;>(go_wp2_with fail;go_meet;exact ⟨⟨_,rfl,by simp⟩,rfl⟩)
    ·have hk1b:(kd == 1)=false:=by simp [hk1]
     exact cQ112
   case rest =>
    obtain ⟨⟨r,rfl,hr1⟩,rfl⟩:=hcut;go_upto_if 33 with fail
    go_cut [] from 13 to 67 (fun wx=>∃ k2,RI w wx S b (.slice a1 m.xs.length c1) (.slice a2 m.ys.length c2) (.slice a3 m.is.length c3) (.slice a4 m.bs.length c4) (.slice a5 m.fs.length c5) (.slice a6 m.ds.length c6) m (.slice (some ⟨g,0,none⟩) m.ds.length bc) ts w9.heap.size/\AtC wx bd 41 #[.int .i64 id,.int .i64 k2,.int .i64 io,.int .i64 pt,.int .i64 bk,.int .i64 sl,.string nm,.bool bt,.bool ot,.int .i64 af,.slice pa bl.length pc]/\NOwns wx 41 11 u3 (rowsW ds' ts)/\(k2=5↔kd=5))
    case first =>
     cases r
     ·go_wp2_with fail
      go_meet
      exact ⟨kd,HIA.out.1,HIA.out.2.1,HIA.out.2.2,Iff.rfl⟩
     ·have HIB:Hid (RI w (wc.setCell ⟨bd,1,none⟩ (.int .i64 6)) S b (.slice a1 m.xs.length c1) (.slice a2 m.ys.length c2) (.slice a3 m.is.length c3) (.slice a4 m.bs.length c4) (.slice a5 m.fs.length c5) (.slice a6 m.ds.length c6) m (.slice (some ⟨g,0,none⟩) m.ds.length bc) ts w9.heap.size/\AtC (wc.setCell ⟨bd,1,none⟩ (.int .i64 6)) bd 41 #[.int .i64 id,.int .i64 6,.int .i64 io,.int .i64 pt,.int .i64 bk,.int .i64 sl,.string nm,.bool bt,.bool ot,.int .i64 af,.slice pa bl.length pc]/\NOwns (wc.setCell ⟨bd,1,none⟩ (.int .i64 6)) 41 11 u3 (rowsW ds' ts)):=by
       have hz:=HZ.out;have hbb:=HBL.out.1;exact ⟨HIA.out.1.set (fun e=>by have:=(HSS.out _ e).2;omega) (by omega) (fun e=>by simp only [Value.ownBlock,Option.some.injEq] at e;have:=HV9o.out;omega) (by omega),HIA.out.2.1.set 1 _,HIA.out.2.2.of_heap fun k hk=>heap_setCell_other _ ⟨bd,1,none⟩ k _ (by have:=HLV.out k hk;show k≠bd;omega)⟩
      have e2:=HIB.out.2.1.c2;obtain ⟨U,hU⟩:∃ U,uoI io=U:=⟨_,rfl⟩
      have CU:Hid (∀ W,Calls Tryz.prog 96 #[.int .i64 io] W fun e w'=>e=.returned (.int .i64 U)/\w'=W):=fun W=>by rw [← hU];exact zbe _ W
      clear hU;go_wp2_with fail
      generalize wc.setCell ⟨bd,1,none⟩ (.int .i64 6)=wB at *;refine (CU.out _).mono ?_;rintro e w3 ⟨rfl,hw3⟩;rw [hw3];clear hw3 w3;go_wp2_with fail
      refine (zfz w wB S b U _ _ _ _ _ _ m _ ts w9.heap.size HIB.out.1 (fun k hk=>by have:=(HSS.out k (HDV.out k hk)).2;exact fun e=>by have:=HV9.out k e;omega)).mono ?_;rintro e w4 ⟨rfl,I4,C4⟩;have HIC:Hid (∃ k2,RI w w4 S b (.slice a1 m.xs.length c1) (.slice a2 m.ys.length c2) (.slice a3 m.is.length c3) (.slice a4 m.bs.length c4) (.slice a5 m.fs.length c5) (.slice a6 m.ds.length c6) m (.slice (some ⟨g,0,none⟩) m.ds.length bc) ts w9.heap.size/\AtC w4 bd 41 #[.int .i64 id,.int .i64 k2,.int .i64 io,.int .i64 pt,.int .i64 bk,.int .i64 sl,.string nm,.bool bt,.bool ot,.int .i64 af,.slice pa bl.length pc]/\NOwns w4 41 11 u3 (rowsW ds' ts)/\(k2=5↔kd=5)):=by
       have hz:=HZ.out;have hdv:∀ k,(Value.slice a5 m.fs.length c5).ownBlock=some k->k < w.heap.size:=fun k hk=>(HSS.out k (HDV.out k hk)).2;exact ⟨6,I4,(C4.block bd HIB.out.2.1.lt (fun e=>by have:=hdv _ e;omega)).trans HIB.out.2.1,HIB.out.2.2.of_heap fun k hk=>C4.block k (HIB.out.2.2.lt k hk) (fun e=>by have:=hdv _ e;have:=HLW.out k hk;omega),by have:=hr1 (by simp);omega⟩
      clear I4 C4;go_wp2_with fail
      go_meet
      exact HIC.out
    case rest =>
     obtain ⟨k2,hIc,hAc,hNc,hk5⟩:=hcut;obtain ⟨wD,rfl⟩:∃ wD,wD=wc:=⟨wc,rfl⟩
     have HIA2:=hide (And.intro hIc (And.intro hAc hNc));clear hIc hAc hNc HIA d1 d7 d8 d2 dz;have d1:=HIA2.out.2.1.c1;have d7:=HIA2.out.2.1.c7;have d8:=HIA2.out.2.1.c8;have d4:=HIA2.out.2.1.c4;have dz:=HIA2.out.2.1.frozen 1;have HRN2:Hid (RN KDep wD (.slice (some ⟨g,0,none⟩) m.ds.length bc) m.ds):=by
      obtain ⟨fs2,-,-,hN,hC,-⟩:=HIA2.out.1;exact HRN.out wD _ hC hN (fun k hk e=>by have:=(HSS.out k e).2;have:=HV9.out k hk;omega)
     go_upto_region 9 with fail
     go_cut [57] from 13 to 67 (fun c wx=>(∃ r,c=.bool r/\(r=true->k2=2))/\wx=wD)
     case first =>
      by_cases hk2:k2=2
      ·subst hk2
       cases bt<;>cases ot<;>(go_wp2_with (go_at_call 130;refine (zgi _ m.ds bk _ HRN2.out (by omega)).mono ?_;rintro e w7 ⟨⟨r7,rfl⟩,rfl⟩);go_meet;exact ⟨⟨_,rfl,by simp⟩,rfl⟩)
      ·have hk2b:(k2 == 2)=false:=by simp [hk2]
       exact cQ112
     case rest =>
      obtain ⟨⟨r,rfl,hr2⟩,rfl⟩:=hcut;clear HRN2;go_upto_if 57 with fail
      go_cut [] from 13 to 67 (fun wx=>∃ k3,RI w wx S b (.slice a1 m.xs.length c1) (.slice a2 m.ys.length c2) (.slice a3 m.is.length c3) (.slice a4 m.bs.length c4) (.slice a5 m.fs.length c5) (.slice a6 m.ds.length c6) m (.slice (some ⟨g,0,none⟩) m.ds.length bc) ts w9.heap.size/\AtC wx bd 41 #[.int .i64 id,.int .i64 k3,.int .i64 io,.int .i64 pt,.int .i64 bk,.int .i64 sl,.string nm,.bool bt,.bool ot,.int .i64 af,.slice pa bl.length pc]/\NOwns wx 41 11 u3 (rowsW ds' ts)/\(k3=5↔kd=5))
      case first =>
       cases r
       ·go_wp2_with fail
        go_meet
        exact ⟨k2,HIA2.out.1,HIA2.out.2.1,HIA2.out.2.2,hk5⟩
       ·have HIB:Hid (RI w (wc.setCell ⟨bd,1,none⟩ (.int .i64 3)) S b (.slice a1 m.xs.length c1) (.slice a2 m.ys.length c2) (.slice a3 m.is.length c3) (.slice a4 m.bs.length c4) (.slice a5 m.fs.length c5) (.slice a6 m.ds.length c6) m (.slice (some ⟨g,0,none⟩) m.ds.length bc) ts w9.heap.size/\AtC (wc.setCell ⟨bd,1,none⟩ (.int .i64 3)) bd 41 #[.int .i64 id,.int .i64 3,.int .i64 io,.int .i64 pt,.int .i64 bk,.int .i64 sl,.string nm,.bool bt,.bool ot,.int .i64 af,.slice pa bl.length pc]/\NOwns (wc.setCell ⟨bd,1,none⟩ (.int .i64 3)) 41 11 u3 (rowsW ds' ts)):=by
         have hz:=HZ.out;have hbb:=HBL.out.1;exact ⟨HIA2.out.1.set (fun e=>by have:=(HSS.out _ e).2;omega) (by omega) (fun e=>by simp only [Value.ownBlock,Option.some.injEq] at e;have:=HV9o.out;omega) (by omega),HIA2.out.2.1.set 1 _,HIA2.out.2.2.of_heap fun k hk=>heap_setCell_other _ ⟨bd,1,none⟩ k _ (by have:=HLV.out k hk;show k≠bd;omega)⟩
        have e4:=HIB.out.2.1.c4;obtain ⟨U,hU⟩:∃ U,uoB bk=U:=⟨_,rfl⟩
        have CU:Hid (∀ W,Calls Tryz.prog 101 #[.int .i64 bk] W fun e w'=>e=.returned (.int .i64 U)/\w'=W):=fun W=>by rw [← hU];exact za7 _ W
        clear hU;go_wp2_with fail
        generalize wc.setCell ⟨bd,1,none⟩ (.int .i64 3)=wB at *;refine (CU.out _).mono ?_;rintro e w3 ⟨rfl,hw3⟩;rw [hw3];clear hw3 w3;go_wp2_with fail
        refine (zfz w wB S b U _ _ _ _ _ _ m _ ts w9.heap.size HIB.out.1 (fun k hk=>by have:=(HSS.out k (HDV.out k hk)).2;exact fun e=>by have:=HV9.out k e;omega)).mono ?_;rintro e w4 ⟨rfl,I4,C4⟩;have HIC:Hid (∃ k2,RI w w4 S b (.slice a1 m.xs.length c1) (.slice a2 m.ys.length c2) (.slice a3 m.is.length c3) (.slice a4 m.bs.length c4) (.slice a5 m.fs.length c5) (.slice a6 m.ds.length c6) m (.slice (some ⟨g,0,none⟩) m.ds.length bc) ts w9.heap.size/\AtC w4 bd 41 #[.int .i64 id,.int .i64 k2,.int .i64 io,.int .i64 pt,.int .i64 bk,.int .i64 sl,.string nm,.bool bt,.bool ot,.int .i64 af,.slice pa bl.length pc]/\NOwns w4 41 11 u3 (rowsW ds' ts)/\(k2=5↔kd=5)):=by
         have hz:=HZ.out;have hdv:∀ k,(Value.slice a5 m.fs.length c5).ownBlock=some k->k < w.heap.size:=fun k hk=>(HSS.out k (HDV.out k hk)).2;exact ⟨3,I4,(C4.block bd HIB.out.2.1.lt (fun e=>by have:=hdv _ e;omega)).trans HIB.out.2.1,HIB.out.2.2.of_heap fun k hk=>C4.block k (HIB.out.2.2.lt k hk) (fun e=>by have:=hdv _ e;have:=HLW.out k hk;omega),by have:=hr2 (by simp);omega⟩
        clear I4 C4;go_wp2_with fail
        go_meet
        exact HIC.out
      case rest =>
       obtain ⟨k3,hIc,hAc,hNc,hk53⟩:=hcut;obtain ⟨wE,rfl⟩:∃ wE,wE=wc:=⟨wc,rfl⟩
       clear HIA2 d1 d7 d8 d4 dz;obtain ⟨d0,d1,d2,d3,d4,d5,d6,d7,d8,d9,d10⟩:=AtC.elv hAc;have HT:Hid (NOwns (wE.alloc (.cells #[.int .i64 id,.int .i64 k3,.int .i64 io,.int .i64 pt,.int .i64 bk,.int .i64 sl,.string nm,.bool bt,.bool ot,.int .i64 af,.slice pa bl.length pc] 41)) 41 11 u3 (rowsW ds' ts)):=hNc.of_heap fun k hk=>((Below.refl _ wE).alloc nR _).block k (hNc.lt k hk);have HTL:Hid ((rowsW ds' ts).length<=100000000000):=by
        have:=HDS.out.1;show _<=_;rw [zb9];omega
       have HSTEP:Hid (∀ v' w',NOwns w' 41 11 v' (rowsW ds' ts ++ [(⟨id,k3,io,pt,bk,sl,nm,bt,ot,af,bl⟩:Dp).row (.slice pa bl.length pc)])->(wE.alloc (.cells #[.int .i64 id,.int .i64 k3,.int .i64 io,.int .i64 pt,.int .i64 bk,.int .i64 sl,.string nm,.bool bt,.bool ot,.int .i64 af,.slice pa bl.length pc] 41)).grownBy w' u3.ownBlock->(∀ k,v'.ownBlock=some k->u3.ownBlock=some k\/(wE.alloc (.cells #[.int .i64 id,.int .i64 k3,.int .i64 io,.int .i64 pt,.int .i64 bk,.int .i64 sl,.string nm,.bool bt,.bool ot,.int .i64 af,.slice pa bl.length pc] 41)).heap.size<=k)->NOwns w' 41 11 v' (rowsW (ds' ++ [(⟨id,k3,io,pt,bk,sl,nm,bt,ot,af,bl⟩:Dp)]) ts)/\(ds' ++ [(⟨id,k3,io,pt,bk,sl,nm,bt,ot,af,bl⟩:Dp)]).length=q+1/\(∀ (i:Nat) (h1:i < (ds' ++ [(⟨id,k3,io,pt,bk,sl,nm,bt,ot,af,bl⟩:Dp)]).length) (h2:i < m.ds.length),(ds' ++ [(⟨id,k3,io,pt,bk,sl,nm,bt,ot,af,bl⟩:Dp)])[i].bl=m.ds[i].bl/\AlkD (ds' ++ [(⟨id,k3,io,pt,bk,sl,nm,bt,ot,af,bl⟩:Dp)])[i] m.ds[i])/\(∀ d∈ds' ++ [(⟨id,k3,io,pt,bk,sl,nm,bt,ot,af,bl⟩:Dp)],DOk d)/\(∀ k,v'.ownBlock=some k->w9.heap.size<=k)/\RI w w' S b (.slice a1 m.xs.length c1) (.slice a2 m.ys.length c2) (.slice a3 m.is.length c3) (.slice a4 m.bs.length c4) (.slice a5 m.fs.length c5) (.slice a6 m.ds.length c6) m (.slice (some ⟨g,0,none⟩) m.ds.length bc) ts w9.heap.size):=fun v' w' j1 j2 j3=>by
        have hz:w9.heap.size<=wE.heap.size:=by obtain ⟨-,-,-,-,-,z⟩:=hIc;exact z
        refine ⟨by rw [HSN.out];exact j1,by have:=HDS.out.1;simp;omega,HBLS.out _ rfl ⟨hk53,fun _=>⟨rfl,rfl⟩⟩,fun d hd=>?_,fun k hk=>?_,?_⟩
        ·rcases List.mem_append.mp hd with e | e
         ·exact HDS.out.2.1 d e
         ·simp only [List.mem_cons,List.not_mem_nil,or_false] at e;subst e;have:=HDK.out;exact ⟨⟨this.io,this.pt,this.bk,this.sl,this.bl,this.bn,this.nm⟩,this.id⟩
        ·rcases j3 k hk with e | e
         ·exact HLW.out k e
         ·simp at e;omega
        ·obtain ⟨fs2,z1,z2,z3,z4,z5⟩:=hIc.below ((Below.refl _ wE).alloc nR (.cells #[.int .i64 id,.int .i64 k3,.int .i64 io,.int .i64 pt,.int .i64 bk,.int .i64 sl,.string nm,.bool bt,.bool ot,.int .i64 af,.slice pa bl.length pc] 41));have hw9:=h9;have un:∀ k,k < w9.heap.size->w'.heap[k]?=(wE.alloc (.cells #[.int .i64 id,.int .i64 k3,.int .i64 io,.int .i64 pt,.int .i64 bk,.int .i64 sl,.string nm,.bool bt,.bool ot,.int .i64 af,.slice pa bl.length pc] 41)).heap[k]?:=fun k hk=>j2.block k (by simp;omega) fun e=>by have:=HLW.out k e.symm;omega
         have hbb:=HBL.out.1;refine ⟨fs2,⟨(un b (by omega)).trans z1.box,z1.own.of_heap fun k hk _=>un k (by have:=(HSS.out k hk).2;omega),z1.nb⟩,z2,z3.of_heap fun k hk=>un k (by have:=HI0.out;obtain ⟨-,-,-,zz,-,-⟩:=this;exact zz.lt k hk),⟨j2.os.trans z4.os,j2.tape.trans z4.tape,j2.output.trans z4.output,Nat.le_trans z4.size j2.size,fun k hk hn=>(un k (by omega)).trans (z4.block k hk hn)⟩,Nat.le_trans z5 j2.size⟩
       have HAA:=hide hAc;clear hIc hAc hNc HDS HDK HBLS HSN;go_wp2_with (at_builtin;refine wpList_step fun K' hK'=>?_;refine zap _ rfl (.tmp 64) (.tmp 66) 31 rfl 41 Tryz.u31 _ 11 104 Tryz.i41 rfl (by decide) (by decide) u3 _ rfl HT.out wE.heap.size ((⟨id,k3,io,pt,bk,sl,nm,bt,ot,af,bl⟩:Dp).row (.slice pa bl.length pc)) rfl rfl (fun i u hu=>(AtC.new wE 41 #[.int .i64 id,.int .i64 k3,.int .i64 io,.int .i64 pt,.int .i64 bk,.int .i64 sl,.string nm,.bool bt,.bool ot,.int .i64 af,.slice pa bl.length pc]).at_ i u hu) (by simp [Dp.row,Value.oneCell']) HTL.out ?_;intro v12 w12 T12 G12 V12;refine hK' _ _ ?_;have HR12:=hide (HSTEP.out v12 w12 T12 G12 V12);clear T12 G12 V12 hK')
       go_roundw
       case rel=>exact ⟨q+1,_,by omega,by go_num,HR12.out⟩
       case measure=>simp [intOf];omega
  ·obtain ⟨hn,hd1,hdb,hdo,hlo,fs',P',hfl,hN',hC,hz⟩:=HR.out;have hq2:q=m.ds.length:=by omega
   obtain ⟨ga,gc,rfl,-⟩:=hn.form;have hbb:=HBL.out;have hrl:(rowsW ds' ts).length=q:=by rw [zb9,HLN.out];omega
   rw [hrl] at hn hlo;have HFIN:Hid (BT Z (wr.setCell ⟨b,5,none⟩ (.slice ga q gc)) T b/\Chg T w (wr.setCell ⟨b,5,none⟩ (.slice ga q gc))):=by
    have pk:=HKF.out wr (.slice ga q gc) fs' ds' hC P'.ownF (by omega) (fun i h1 h2=>(hdb i h1 h2).1) hn (fun k hk=>⟨fun e=>by have:=(HSS.out k e).2;have:=hlo k hk;omega,by have:=hlo k hk;omega⟩);refine ⟨⟨_,_,_,_,_,_,_,_,pk,fun k hk=>?_,hbb.2,⟨HM.out.x,HM.out.y,HM.out.i,HM.out.ii,HM.out.b,HM.out.bb,by rw [← HM.out.f];exact hfl,by show ds'.length<=40;omega,hdo,HM.out.nx,HM.out.k.of rfl (zev ds' m.ds (by omega) (fun i h1 h2=>(hdb i h1 h2).2)) rfl⟩⟩,(hC.mono fun k hk=>(HSS.out k (HDV.out k hk)).1).setCell hbb.2 _⟩;rcases hk with hk | hk
    ·exact (HSS.out k hk).1
    ·exact HTT.out k (by have:=hlo k hk;omega)
   have z5:=P'.box.c5;have zf:=P'.box.frozen 5;rw [hrl];clear hn hdb hdo hlo P' hN' hC HR hrl hd1 hfl hq2;go_wp2
   go_end0
   exact ⟨rfl,HFIN.out⟩
variable {Z : ZT}
theorem flag_any (L b:Nat)(x:Int)(w:World)(h:BX Z w L b) :
  Calls Tryz.prog 108 #[.pointer (some ⟨b,0,none⟩),.int .i64 x] w fun e w'=>e=.returned (.tuple #[])/\BX Z w' L b/\Below L w w':=by
 obtain ⟨S,u,v,iv,bv,dv,pv,m,hP,hSL,hLb,hS⟩:=h;obtain ⟨a6,c6,rfl,-⟩:=hP.mr.p;obtain ⟨n,hn⟩:∃ n,m.ds.length=n:=⟨_,rfl⟩
 rw [hn] at hP;have hn40:n<=40:=by rw [← hn];exact hS.l
 have x5:=hP.box.c5;have HH:Hid (PM w S b u v iv bv dv (.slice a6 n c6) m/\Sh Z m/\m.ds.length=n/\Below L w w):=⟨hP,hS,hn,Below.refl _ _⟩
 have HSL:=hide hSL;have HLB:=hide hLb;clear hP hS hn hSL hLb;go_enter Tryz.func108,Tryz.ntmps108
 go_wp2;go_loopw [4] (fun i wr=>∃ j:Nat,j<=n/\i=.int .i64 j/\Hid (∃ m':MD,PM wr S b u v iv bv dv (.slice a6 n c6) m'/\Sh Z m'/\m'.ds.length=n/\Below L w wr)) (fun i _=>n - (intOf i).toNat)
 case atStart=>exact ⟨0,Nat.zero_le _,rfl,m,HH.out⟩
 case round =>
  obtain ⟨j,hj,rfl,HR⟩:=hrel;obtain ⟨m',q1,q2,q3,q4⟩:=HR.out;have y5:=q1.box.c5;by_cases hlt:j < n
  ·have hj2:j < m'.ds.length:=by omega
   have hdk:=q2.dd _ (List.getElem_mem hj2);obtain ⟨g,c,p,e1,nn,rp,-,-,hglt,-⟩:=q1.dep_at j hj2;rw [q3] at e1;simp only [Value.slice.injEq,true_and] at e1;obtain ⟨rfl,rfl⟩:=e1;obtain ⟨X,hX⟩:∃ X,m'.ds[j]=X:=⟨_,rfl⟩
   rw [hX] at nn rp hdk;obtain ⟨id,kd,io,pt,bk,sl,nm,bt,ot,af,bl⟩:=X;simp only at rp;obtain ⟨pa,pc,rfl⟩:=rp.form;simp only [DCells] at nn;obtain ⟨n0,n1,n2,n3,n4,n5,n6,n7,n8,n9,n10⟩:=nn;have HT:Hid (∀ (bt' ot':Bool) (W:World) (M:MD),PM W S b u v iv bv dv (.slice (some ⟨g,0,none⟩) n c6) M->Sh Z M->M.ds.length=n->(∃ h:j < M.ds.length,M.ds[j]=(⟨id,kd,io,pt,bk,sl,nm,bt',ot',af,bl⟩:Dp))->Below L w W ->
     W.cell? ⟨b,5,none⟩=some (.slice (some ⟨g,0,none⟩) n c6)/\W.cell? ⟨g,j * 11+7,none⟩=some (.bool bt')/\W.frozen? ⟨g,j * 11+7,none⟩=false/\W.cell? ⟨g,j * 11+8,none⟩=some (.bool ot')/\W.frozen? ⟨g,j * 11+8,none⟩=false /\
     (∃ M',PM (W.setCell ⟨g,j * 11+7,none⟩ (.bool true)) S b u v iv bv dv (.slice (some ⟨g,0,none⟩) n c6) M'/\Sh Z M'/\M'.ds.length=n/\(∃ h:j < M'.ds.length,M'.ds[j]=(⟨id,kd,io,pt,bk,sl,nm,true,ot',af,bl⟩:Dp))/\Below L w (W.setCell ⟨g,j * 11+7,none⟩ (.bool true))) /\
     (∃ M',PM (W.setCell ⟨g,j * 11+8,none⟩ (.bool true)) S b u v iv bv dv (.slice (some ⟨g,0,none⟩) n c6) M'/\Sh Z M'/\M'.ds.length=n/\(∃ h:j < M'.ds.length,M'.ds[j]=(⟨id,kd,io,pt,bk,sl,nm,bt',true,af,bl⟩:Dp))/\Below L w (W.setCell ⟨g,j * 11+8,none⟩ (.bool true)))):=fun bt' ot' W M h1 h2 h3 h4 h5=>by
    obtain ⟨hjM,hM⟩:=h4;obtain ⟨g',c',p',e1,nn,rp,hz,gS,glt,hset⟩:=h1.dep_at j hjM;simp only [Value.slice.injEq,Option.some.injEq,Addr.mk.injEq,and_true] at e1;obtain ⟨rfl,-,rfl⟩:=e1;have dk:=h2.dd _ (List.getElem_mem hjM);rw [hM] at nn hset dk;simp only [DCells] at nn;obtain ⟨-,-,-,-,-,-,-,z7,z8,-⟩:=nn;have mk:∀ d':Dp,DOk d'->AlkD d' M.ds[j]->Sh Z { M with ds:=M.ds.set j d' }/\({ M with ds:=M.ds.set j d' }:MD).ds.length=n/\∃ h:j < ({ M with ds:=M.ds.set j d' }:MD).ds.length,({ M with ds:=M.ds.set j d' }:MD).ds[j]=d':=fun d' hd ha=>⟨h2.deps (by rw [List.length_set];exact h2.l) (fun q hq=>(List.mem_or_eq_of_mem_set hq).elim (h2.dd q) (fun e=>e ▸ hd)) (zc2 _ j hjM _ ha),by show (M.ds.set j d').length=n;rw [List.length_set];exact h3,by show j < (M.ds.set j d').length;rw [List.length_set];exact hjM,by show (M.ds.set j d')[j]'_=d';simp⟩
    refine ⟨h1.box.cell 5,z7,hz _,z8,hz _,⟨_,hset 7 (.bool true) (⟨id,kd,io,pt,bk,sl,nm,true,ot',af,bl⟩:Dp) (by decide) rfl rfl,?_⟩,⟨_,hset 8 (.bool true) (⟨id,kd,io,pt,bk,sl,nm,bt',true,af,bl⟩:Dp) (by decide) rfl rfl,?_⟩⟩
    ·obtain ⟨a,b',c⟩:=mk (⟨id,kd,io,pt,bk,sl,nm,true,ot',af,bl⟩:Dp) ⟨⟨dk.io,dk.pt,dk.bk,dk.sl,dk.bl,dk.bn,dk.nm⟩,dk.id⟩ (by rw [hM];exact ⟨Iff.rfl,fun _=>⟨rfl,rfl⟩⟩);exact ⟨a,b',c,h5.setCell (HSL.out _ gS) _⟩
    ·obtain ⟨a,b',c⟩:=mk (⟨id,kd,io,pt,bk,sl,nm,bt',true,af,bl⟩:Dp) ⟨⟨dk.io,dk.pt,dk.bk,dk.sl,dk.bl,dk.bn,dk.nm⟩,dk.id⟩ (by rw [hM];exact ⟨Iff.rfl,fun _=>⟨rfl,rfl⟩⟩);exact ⟨a,b',c,h5.setCell (HSL.out _ gS) _⟩
   have bw:Below L w (wr.alloc (.cells #[.int .i64 id,.int .i64 kd,.int .i64 io,.int .i64 pt,.int .i64 bk,.int .i64 sl,.string nm,.bool bt,.bool ot,.int .i64 af,.slice pa bl.length pc] 41)):=q4.alloc (Nat.le_trans HLB.out (Nat.le_of_lt q1.box.lt)) _;have T0:=HT.out bt ot (wr.alloc (.cells #[.int .i64 id,.int .i64 kd,.int .i64 io,.int .i64 pt,.int .i64 bk,.int .i64 sl,.string nm,.bool bt,.bool ot,.int .i64 af,.slice pa bl.length pc] 41)) m' (q1.alloc _) q2 q3 ⟨hj2,hX⟩ bw;have H0:Hid (∃ M',PM (wr.alloc (.cells #[.int .i64 id,.int .i64 kd,.int .i64 io,.int .i64 pt,.int .i64 bk,.int .i64 sl,.string nm,.bool bt,.bool ot,.int .i64 af,.slice pa bl.length pc] 41)) S b u v iv bv dv (.slice (some ⟨g,0,none⟩) n c6) M'/\Sh Z M'/\M'.ds.length=n/\Below L w (wr.alloc (.cells #[.int .i64 id,.int .i64 kd,.int .i64 io,.int .i64 pt,.int .i64 bk,.int .i64 sl,.string nm,.bool bt,.bool ot,.int .i64 af,.slice pa bl.length pc] 41))):=⟨m',q1.alloc _,q2,q3,bw⟩
   have HE:Hid (∃ W7,(wr.alloc (.cells #[.int .i64 id,.int .i64 kd,.int .i64 io,.int .i64 pt,.int .i64 bk,.int .i64 sl,.string nm,.bool bt,.bool ot,.int .i64 af,.slice pa bl.length pc] 41)).setCell ⟨g,j * 11+7,none⟩ (.bool true)=W7/\W7.cell? ⟨b,5,none⟩=some (.slice (some ⟨g,0,none⟩) n c6)/\W7.cell? ⟨g,j * 11+8,none⟩=some (.bool ot)/\W7.frozen? ⟨g,j * 11+8,none⟩=false/\AtC W7 wr.heap.size 41 #[.int .i64 id,.int .i64 kd,.int .i64 io,.int .i64 pt,.int .i64 bk,.int .i64 sl,.string nm,.bool bt,.bool ot,.int .i64 af,.slice pa bl.length pc]/\Hid ((∃ M',PM W7 S b u v iv bv dv (.slice (some ⟨g,0,none⟩) n c6) M'/\Sh Z M'/\M'.ds.length=n/\Below L w W7)/\∃ M',PM (W7.setCell ⟨g,j * 11+8,none⟩ (.bool true)) S b u v iv bv dv (.slice (some ⟨g,0,none⟩) n c6) M'/\Sh Z M'/\M'.ds.length=n/\Below L w (W7.setCell ⟨g,j * 11+8,none⟩ (.bool true)))):=by
    obtain ⟨M1,r1,r2,r3,r4,r5⟩:=T0.2.2.2.2.2.1;obtain ⟨s1,-,-,s4,s5,-,M2,t1,t2,t3,-,t5⟩:=HT.out true ot _ M1 r1 r2 r3 r4 r5;exact ⟨_,rfl,s1,s4,s5,(AtC.new wr 41 _).other (Nat.ne_of_gt hglt) _,⟨M1,r1,r2,r3,r5⟩,M2,t1,t2,t3,t5⟩
   have HO:Hid (∃ W8,(wr.alloc (.cells #[.int .i64 id,.int .i64 kd,.int .i64 io,.int .i64 pt,.int .i64 bk,.int .i64 sl,.string nm,.bool bt,.bool ot,.int .i64 af,.slice pa bl.length pc] 41)).setCell ⟨g,j * 11+8,none⟩ (.bool true)=W8/\Hid (∃ M',PM W8 S b u v iv bv dv (.slice (some ⟨g,0,none⟩) n c6) M'/\Sh Z M'/\M'.ds.length=n/\Below L w W8)):=by
    obtain ⟨M2,t1,t2,t3,-,t5⟩:=T0.2.2.2.2.2.2;exact ⟨_,rfl,M2,t1,t2,t3,t5⟩
   obtain ⟨z5,z7,f7,z8,f8,-,-⟩:=T0;clear HT q1 q2 q3 q4 HR bw hX rp hdk;have j0:(0:Int)<=(j:Int):=by omega
   have j1:(j:Int) < (n:Int):=by omega
   by_cases h1:kd=1
   ·subst h1;obtain ⟨U,hU⟩:∃ U,uoB bk=U:=⟨_,rfl⟩
    have CU:Hid (∀ W,Calls Tryz.prog 101 #[.int .i64 bk] W fun e w'=>e=.returned (.int .i64 U)/\w'=W):=fun W=>by rw [← hU];exact za7 bk W
    clear hU;by_cases hx:x=0
    ·subst hx;obtain ⟨W7,hW7,a5,a8,b8,A7,HW⟩:=HE.out;have d1:=A7.c1;have d2:=A7.c2;have d4:=A7.c4;clear A7;by_cases hU:U=0
     ·subst hU;go_wp2_with (go_at_call 101;refine (CU.out _).mono ?_;rintro e w9 ⟨rfl,rfl⟩)
      go_roundw
      case rel=>exact ⟨j+1,by omega,by go_num,HW.out.2⟩
      case measure=>simp [intOf];omega
     ·go_wp2_with (go_at_call 101;refine (CU.out _).mono ?_;rintro e w9 ⟨rfl,rfl⟩)
      go_roundw
      case rel=>exact ⟨j+1,by omega,by go_num,HW.out.1⟩
      case measure=>simp [intOf];omega
    ·by_cases hU:U=x
     ·subst hU;obtain ⟨W8,hW8,HW⟩:=HO.out;go_wp2_with (go_at_call 101;refine (CU.out _).mono ?_;rintro e w9 ⟨rfl,rfl⟩)
      go_roundw
      case rel=>exact ⟨j+1,by omega,by go_num,HW.out⟩
      case measure=>simp [intOf];omega
     ·go_wp2_with (go_at_call 101;refine (CU.out _).mono ?_;rintro e w9 ⟨rfl,rfl⟩)
      go_roundw
      case rel=>exact ⟨j+1,by omega,by go_num,H0.out⟩
      case measure=>simp [intOf];omega
   ·by_cases h2:kd=2
    ·subst h2;obtain ⟨U,hU⟩:∃ U,uoI io=U:=⟨_,rfl⟩
     have CU:Hid (∀ W,Calls Tryz.prog 96 #[.int .i64 io] W fun e w'=>e=.returned (.int .i64 U)/\w'=W):=fun W=>by rw [← hU];exact zbe io W
     clear hU;by_cases hx:x=0
     ·subst hx;obtain ⟨W7,hW7,a5,a8,b8,A7,HW⟩:=HE.out;have d1:=A7.c1;have d2:=A7.c2;have d4:=A7.c4;clear A7;by_cases hU:U=0
      ·subst hU;go_wp2_with (go_at_call 96;refine (CU.out _).mono ?_;rintro e w9 ⟨rfl,rfl⟩)
       go_roundw
       case rel=>exact ⟨j+1,by omega,by go_num,HW.out.2⟩
       case measure=>simp [intOf];omega
      ·go_wp2_with (go_at_call 96;refine (CU.out _).mono ?_;rintro e w9 ⟨rfl,rfl⟩)
       go_roundw
       case rel=>exact ⟨j+1,by omega,by go_num,HW.out.1⟩
       case measure=>simp [intOf];omega
     ·by_cases hU:U=x
      ·subst hU;obtain ⟨W8,hW8,HW⟩:=HO.out;go_wp2_with (go_at_call 96;refine (CU.out _).mono ?_;rintro e w9 ⟨rfl,rfl⟩)
       go_roundw
       case rel=>exact ⟨j+1,by omega,by go_num,HW.out⟩
       case measure=>simp [intOf];omega
      ·go_wp2_with (go_at_call 96;refine (CU.out _).mono ?_;rintro e w9 ⟨rfl,rfl⟩)
       go_roundw
       case rel=>exact ⟨j+1,by omega,by go_num,H0.out⟩
       case measure=>simp [intOf];omega
    ·have g1:decide (kd=1)=false:=decide_eq_false h1;have g2:decide (kd=2)=false:=decide_eq_false h2;by_cases hx:x=0
     ·subst hx;obtain ⟨W7,hW7,a5,a8,b8,A7,HW⟩:=HE.out;have d1:=A7.c1;have d2:=A7.c2;have d4:=A7.c4;clear A7;go_wp2
      ·go_roundw
       case rel=>exact ⟨j+1,by omega,by go_num,HW.out.1⟩
       case measure=>simp [intOf];omega
      ·go_roundw
       case rel=>exact ⟨j+1,by omega,by go_num,H0.out⟩
       case measure=>simp [intOf];omega
     ·exact cQ44
  ·have HF:Hid (BX Z wr L b/\Below L w wr):=⟨⟨S,u,v,iv,bv,dv,_,m',q1,HSL.out,HLB.out,q2⟩,q4⟩
   exact cQ102
namespace Kit
variable {Z : ZT}
theorem Chg.belowT {w w':World}{L:Nat}(h:Chg (fun k=>L<=k) w w')(hL:L<=w.heap.size):Below L w w':=h.below hL fun _ hk=>hk
end Kit
variable {Z : ZT}
theorem done_in (u v iv bv dv pv:Value)(m:MD)(x:Int)(w:World)(h:MR w u v iv bv dv pv m)(hm:Sh Z m)(hzz:∀ d∈m.ds,d.kd=5->∀ p∈d.bl,Z d.id p) :
  Calls Tryz.prog 72 #[.agg #[u,v,iv,bv,dv,pv,.int .i64 m.nx],.int .i64 x] w fun e w'=>∃ u' v' i' b' d' p' m',e=.returned (.agg #[u',v',i',b',d',p',.int .i64 m'.nx])/\MO w' (fun k=>w.heap.size<=k) u' v' i' b' d' p' m'/\Sh Z m'/\Below w.heap.size w w':=by
 obtain ⟨a1,c1,a2,c2,a3,c3,a4,c4,a5,c5,a6,c6,rfl,rfl,rfl,rfl,rfl,rfl⟩:=h.form;have HH:=hide h;have HM:=hide hm;have HZZ:=hide hzz;clear hzz;have hdl:m.ds.length<=40:=hm.l;have HW0:Hid (∀ W,Below ((w.alloc (.cells #[.slice a1 m.xs.length c1,.slice a2 m.ys.length c2,.slice a3 m.is.length c3,.slice a4 m.bs.length c4,.slice a5 m.fs.length c5,.slice a6 m.ds.length c6,.int .i64 m.nx] 33)).alloc (.cells noM 33)).heap.size ((w.alloc (.cells #[.slice a1 m.xs.length c1,.slice a2 m.ys.length c2,.slice a3 m.is.length c3,.slice a4 m.bs.length c4,.slice a5 m.fs.length c5,.slice a6 m.ds.length c6,.int .i64 m.nx] 33)).alloc (.cells noM 33)) W->Below w.heap.size w W/\AtC W (w.heap.size+1) 33 noM/\AtC W w.heap.size 33 #[.slice a1 m.xs.length c1,.slice a2 m.ys.length c2,.slice a3 m.is.length c3,.slice a4 m.bs.length c4,.slice a5 m.fs.length c5,.slice a6 m.ds.length c6,.int .i64 m.nx]/\w.heap.size+1+1<=W.heap.size):=fun W b2=>by
  have k1:=(AtC.new (w.alloc (.cells #[.slice a1 m.xs.length c1,.slice a2 m.ys.length c2,.slice a3 m.is.length c3,.slice a4 m.bs.length c4,.slice a5 m.fs.length c5,.slice a6 m.ds.length c6,.int .i64 m.nx] 33)) 33 noM).over b2;have k2:=((AtC.new w 33 #[.slice a1 m.xs.length c1,.slice a2 m.ys.length c2,.slice a3 m.is.length c3,.slice a4 m.bs.length c4,.slice a5 m.fs.length c5,.slice a6 m.ds.length c6,.int .i64 m.nx]).over ((Below.refl _ (w.alloc (.cells #[.slice a1 m.xs.length c1,.slice a2 m.ys.length c2,.slice a3 m.is.length c3,.slice a4 m.bs.length c4,.slice a5 m.fs.length c5,.slice a6 m.ds.length c6,.int .i64 m.nx] 33))).alloc nR (.cells noM 33))).over b2;have sz:=b2.size;simp at k1 sz;exact ⟨(((Below.refl _ w).alloc nR _).alloc (by simp) _).trans (b2.mono (by simp;omega)),k1,k2,sz⟩
 have x0:((w.alloc (.cells #[.slice a1 m.xs.length c1,.slice a2 m.ys.length c2,.slice a3 m.is.length c3,.slice a4 m.bs.length c4,.slice a5 m.fs.length c5,.slice a6 m.ds.length c6,.int .i64 m.nx] 33)).alloc (.cells noM 33)).cell? ⟨w.heap.size,0,none⟩=some (.slice a1 m.xs.length c1):=(HW0.out _ bR).2.2.1.cell 0;have x1:((w.alloc (.cells #[.slice a1 m.xs.length c1,.slice a2 m.ys.length c2,.slice a3 m.is.length c3,.slice a4 m.bs.length c4,.slice a5 m.fs.length c5,.slice a6 m.ds.length c6,.int .i64 m.nx] 33)).alloc (.cells noM 33)).cell? ⟨w.heap.size,1,none⟩=some (.slice a2 m.ys.length c2):=(HW0.out _ bR).2.2.1.cell 1;have x2:((w.alloc (.cells #[.slice a1 m.xs.length c1,.slice a2 m.ys.length c2,.slice a3 m.is.length c3,.slice a4 m.bs.length c4,.slice a5 m.fs.length c5,.slice a6 m.ds.length c6,.int .i64 m.nx] 33)).alloc (.cells noM 33)).cell? ⟨w.heap.size,2,none⟩=some (.slice a3 m.is.length c3):=(HW0.out _ bR).2.2.1.cell 2;have x3:((w.alloc (.cells #[.slice a1 m.xs.length c1,.slice a2 m.ys.length c2,.slice a3 m.is.length c3,.slice a4 m.bs.length c4,.slice a5 m.fs.length c5,.slice a6 m.ds.length c6,.int .i64 m.nx] 33)).alloc (.cells noM 33)).cell? ⟨w.heap.size,3,none⟩=some (.slice a4 m.bs.length c4):=(HW0.out _ bR).2.2.1.cell 3;have x4:((w.alloc (.cells #[.slice a1 m.xs.length c1,.slice a2 m.ys.length c2,.slice a3 m.is.length c3,.slice a4 m.bs.length c4,.slice a5 m.fs.length c5,.slice a6 m.ds.length c6,.int .i64 m.nx] 33)).alloc (.cells noM 33)).cell? ⟨w.heap.size,4,none⟩=some (.slice a5 m.fs.length c5):=(HW0.out _ bR).2.2.1.cell 4;have x5:((w.alloc (.cells #[.slice a1 m.xs.length c1,.slice a2 m.ys.length c2,.slice a3 m.is.length c3,.slice a4 m.bs.length c4,.slice a5 m.fs.length c5,.slice a6 m.ds.length c6,.int .i64 m.nx] 33)).alloc (.cells noM 33)).cell? ⟨w.heap.size,5,none⟩=some (.slice a6 m.ds.length c6):=(HW0.out _ bR).2.2.1.cell 5;have x6:((w.alloc (.cells #[.slice a1 m.xs.length c1,.slice a2 m.ys.length c2,.slice a3 m.is.length c3,.slice a4 m.bs.length c4,.slice a5 m.fs.length c5,.slice a6 m.ds.length c6,.int .i64 m.nx] 33)).alloc (.cells noM 33)).cell? ⟨w.heap.size,6,none⟩=some (.int .i64 m.nx):=(HW0.out _ bR).2.2.1.cell 6;clear h hm;go_enter Tryz.func72,Tryz.ntmps72
 go_wp2_with fail
 refine (zau _ _ _ _ _ _ m _ (HH.out.below (HW0.out _ bR).1 nR) HM.out.big).mono ?_;rintro e w1 ⟨u1,u2,u3,u4,u5,u6,rfl,O1,B1⟩;obtain ⟨n1,o1,n2,o2,n3,o3,n4,o4,n5,o5,n6,o6,rfl,rfl,rfl,rfl,rfl,rfl⟩:=O1.mr.form;have k1:=HW0.out w1 B1;have hz1:=k1.2.2.2;have HP1:Hid (BX Z (w1.alloc (.cells #[.slice n1 m.xs.length o1,.slice n2 m.ys.length o2,.slice n3 m.is.length o3,.slice n4 m.bs.length o4,.slice n5 m.fs.length o5,.slice n6 m.ds.length o6,.int .i64 m.nx] 33)) (w.heap.size+2) w1.heap.size):=⟨_,_,_,_,_,_,_,m,PM.new O1,fun k hk=>by have:=hk.1;simp at this;omega,by omega,HM.out⟩
 have HRS:Hid (∀ W,Below (w.heap.size+2) (w1.alloc (.cells #[.slice n1 m.xs.length o1,.slice n2 m.ys.length o2,.slice n3 m.is.length o3,.slice n4 m.bs.length o4,.slice n5 m.fs.length o5,.slice n6 m.ds.length o6,.int .i64 m.nx] 33)) W->Below w.heap.size w W/\AtC W (w.heap.size+1) 33 noM/\AtC W w.heap.size 33 #[.slice a1 m.xs.length c1,.slice a2 m.ys.length c2,.slice a3 m.is.length c3,.slice a4 m.bs.length c4,.slice a5 m.fs.length c5,.slice a6 m.ds.length c6,.int .i64 m.nx]/\w1.heap.size+1<=W.heap.size):=fun W bb=>by
  have b3:Below w1.heap.size w1 (w1.alloc (.cells #[.slice n1 m.xs.length o1,.slice n2 m.ys.length o2,.slice n3 m.is.length o3,.slice n4 m.bs.length o4,.slice n5 m.fs.length o5,.slice n6 m.ds.length o6,.int .i64 m.nx] 33)):=(Below.refl _ w1).alloc nR _;have k2:=HW0.out _ (B1.trans (b3.mono B1.size));have sz:=bb.size;simp at sz;exact ⟨k2.1.trans (bb.mono (by omega)),(bb.block _ (by omega)).trans k2.2.1,(bb.block _ (by omega)).trans k2.2.2.1,sz⟩
 have HW1:=hide k1;clear O1 B1 k1 x0 x1 x2 x3 x4 x5 x6;go_upto_region 2 with fail
 generalize hb:w1.heap.size=b at *;have HB:=hide hb;generalize hW2:w1.alloc (.cells #[.slice n1 m.xs.length o1,.slice n2 m.ys.length o2,.slice n3 m.is.length o3,.slice n4 m.bs.length o4,.slice n5 m.fs.length o5,.slice n6 m.ds.length o6,.int .i64 m.nx] 33)=W2 at *;clear hW2 hb;have hb0:w.heap.size+2<=b:=hz1;have A2:=(HRS.out W2 bR).2.2.1;obtain ⟨y0,y1,y2,y3,y4,y5,y6⟩:=AtC.sev A2;have CM:Hid (∀ W,Below w.heap.size w W->Calls Tryz.prog 90 #[.agg #[.slice a1 m.xs.length c1,.slice a2 m.ys.length c2,.slice a3 m.is.length c3,.slice a4 m.bs.length c4,.slice a5 m.fs.length c5,.slice a6 m.ds.length c6,.int .i64 m.nx]] W fun e w'=>AnyB e/\Below W.heap.size W w'):=fun W bb=>zbo _ _ _ _ _ _ m W (HH.out.below bb nR) HM.out;clear A2;go_cut [18] from 9 to 18 (fun c wx=>(∃ r,c=.bool r/\(r=false->0<=x/\x<=20))/\Below W2.heap.size W2 wx)
 case first =>
  go_wp2_with (first | (go_at_call 90;refine (CM.out _ (HRS.out _ bR).1).mono ?_;rintro e w2 ⟨⟨r,rfl⟩,B2⟩;have HB2:=hide B2;clear B2;cases r) | (go_at_call 20;refine (zaj x 0 20 _).mono ?_;rintro e w3 ⟨rfl,rfl⟩;have HIB:Hid (inB x 0 20=true->0<=x/\x<=20):=zao;generalize inB x 0 20=ri at *;cases ri))
  all_goals (go_meet;first | exact ⟨⟨_,rfl,fun _=>HIB.out rfl⟩,HB2.out⟩ | exact ⟨⟨_,rfl,fun _=>HIB.out⟩,HB2.out⟩ | exact ⟨⟨_,rfl,fun _=>HIB.out trivial⟩,HB2.out⟩ | exact ⟨⟨_,rfl,fun e=>absurd e (by decide)⟩,HB2.out⟩)
 case rest =>
  obtain ⟨⟨r,rfl,hxr⟩,hbw⟩:=hcut;obtain ⟨w3,rfl⟩:∃ w3,w3=wc:=⟨wc,rfl⟩
  have HBL:Hid (BX Z w3 (w.heap.size+2) b/\Below (w.heap.size+2) W2 w3):=⟨HP1.out.below hbw,hbw.mono (by have:=(HRS.out W2 bR).2.2.2;omega)⟩
  have HBB:Hid (b < w3.heap.size):=by have:=(HRS.out W2 bR).2.2.2;have:=hbw.size;show _ < _;omega
  clear hbw y0 y1 y2 y3 y4 y5 y6 HP1
  cases r
  case true =>
   obtain ⟨S,pu,pv,pi,pb,pd,pp,mp,hP,hSL,hLb,hmp⟩:=HBL.out.1;obtain ⟨p1,r1,p2,r2,p3,r3,p4,r4,p5,r5,p6,r6,rfl,rfl,rfl,rfl,rfl,rfl⟩:=hP.form;have RS:=(HRS.out w3 HBL.out.2).2.1;obtain ⟨y0,y1,y2,y3,y4,y5,y6⟩:=AtC.sev hP.box;have s0:=RS.c0;have z0:=RS.frozen 0;have s1:=RS.c1;have z1:=RS.frozen 1;have s2:=RS.c2;have z2:=RS.frozen 2;have s3:=RS.c3;have z3:=RS.frozen 3;have s4:=RS.c4;have z4:=RS.frozen 4;have s5:=RS.c5;have z5:=RS.frozen 5;have s6:=RS.c6;have z6:=RS.frozen 6;have HFIN:Hid (∃ m',Sh Z m'/\m'.nx=mp.nx/\MO (((((((w3.setCell ⟨w.heap.size+1,0,none⟩ (.slice p1 mp.xs.length r1)).setCell ⟨w.heap.size+1,1,none⟩ (.slice p2 mp.ys.length r2)).setCell ⟨w.heap.size+1,2,none⟩ (.slice p3 mp.is.length r3)).setCell ⟨w.heap.size+1,3,none⟩ (.slice p4 mp.bs.length r4)).setCell ⟨w.heap.size+1,4,none⟩ (.slice p5 mp.fs.length r5)).setCell ⟨w.heap.size+1,5,none⟩ (.slice p6 mp.ds.length r6)).setCell ⟨w.heap.size+1,6,none⟩ (.int .i64 mp.nx)) (fun k=>w.heap.size<=k) (.slice p1 mp.xs.length r1) (.slice p2 mp.ys.length r2) (.slice p3 mp.is.length r3) (.slice p4 mp.bs.length r4) (.slice p5 mp.fs.length r5) (.slice p6 mp.ds.length r6) m'/\Below w.heap.size w (((((((w3.setCell ⟨w.heap.size+1,0,none⟩ (.slice p1 mp.xs.length r1)).setCell ⟨w.heap.size+1,1,none⟩ (.slice p2 mp.ys.length r2)).setCell ⟨w.heap.size+1,2,none⟩ (.slice p3 mp.is.length r3)).setCell ⟨w.heap.size+1,3,none⟩ (.slice p4 mp.bs.length r4)).setCell ⟨w.heap.size+1,4,none⟩ (.slice p5 mp.fs.length r5)).setCell ⟨w.heap.size+1,5,none⟩ (.slice p6 mp.ds.length r6)).setCell ⟨w.heap.size+1,6,none⟩ (.int .i64 mp.nx))):=by
    have oth:∀ k,k≠w.heap.size+1->(((((((w3.setCell ⟨w.heap.size+1,0,none⟩ (.slice p1 mp.xs.length r1)).setCell ⟨w.heap.size+1,1,none⟩ (.slice p2 mp.ys.length r2)).setCell ⟨w.heap.size+1,2,none⟩ (.slice p3 mp.is.length r3)).setCell ⟨w.heap.size+1,3,none⟩ (.slice p4 mp.bs.length r4)).setCell ⟨w.heap.size+1,4,none⟩ (.slice p5 mp.fs.length r5)).setCell ⟨w.heap.size+1,5,none⟩ (.slice p6 mp.ds.length r6)).setCell ⟨w.heap.size+1,6,none⟩ (.int .i64 mp.nx)).heap[k]?=w3.heap[k]?:=fun k hk=>zaa _ _ _ _ _ _ _ _ _ k hk;refine ⟨mp,hmp,rfl,(hP.own.of_heap fun k hk _=>oth k (by have:=hSL k hk;omega)).mono (fun k hk=>by have:=hSL k hk;omega),?_⟩;exact zab ((HRS.out w3 HBL.out.2).1) (by omega) _ _ _ _ _ _ _
   clear hP hSL hmp RS;go_wp2;obtain ⟨mf,q1,q2,q3,q4⟩:=HFIN.out;refine bodyPost_ret (v:=.agg #[.slice p1 mp.xs.length r1,.slice p2 mp.ys.length r2,.slice p3 mp.is.length r3,.slice p4 mp.bs.length r4,.slice p5 mp.fs.length r5,.slice p6 mp.ds.length r6,.int .i64 mp.nx]) (by simp [results,go_sem,s0,s1,s2,s3,s4,s5,s6]) rfl ⟨_,_,_,_,_,_,mf,by rw [q2],q3,q1,q4⟩
  case false =>
   obtain ⟨hx0,hx20⟩:=hxr rfl;obtain ⟨n,rfl⟩:∃ n:Nat,x=(n:Int):=⟨x.toNat,by omega⟩
   have hn:n < 21:=by omega
   obtain ⟨g,c,r,x0,x1,x2,x3,x4,x5⟩:=HBL.out.1.bt.bitF n hn;have HB3:Hid (BX Z (w3.setCell ⟨g,n,none⟩ (.bool false)) (w.heap.size+2) b/\Below (w.heap.size+2) W2 (w3.setCell ⟨g,n,none⟩ (.bool false))):=⟨(x5 false).bx,HBL.out.2.setCell x3 _⟩
   have n0:(0:Int)<=(n:Int):=by omega
   have n1:(n:Int) < 21:=by omega
   clear x3 x4 x5 hxr;go_wp2_with fail
   generalize w3.setCell ⟨g,n,none⟩ (.bool false)=w4 at *;refine (flag_any (w.heap.size+2) b n w4 HB3.out.1).mono ?_;rintro e w5 ⟨rfl,b5,c5⟩;have HB5:Hid (BX Z w5 (w.heap.size+2) b/\Below (w.heap.size+2) W2 w5):=⟨b5,HB3.out.2.trans c5⟩
   clear b5 c5 x0 x1 x2 HB3 HBL HBB;have z5:=(HRS.out w5 HB5.out.2).2.2.1.c5;obtain ⟨a,c,ei,-,hc⟩:=HH.out.p.dep;simp only [Value.slice.injEq,true_and] at ei;obtain ⟨rfl,rfl⟩:=ei;have HC:=hide hc;clear hc;go_wp2_with fail
   go_loopw [7] (fun i' wr=>∃ q:Nat,q<=m.ds.length/\i'=.int .i64 q/\Hid (BX Z wr (w.heap.size+2) b/\Below (w.heap.size+2) W2 wr)) (fun i' _=>m.ds.length - (intOf i').toNat)
   case atStart=>exact ⟨0,Nat.zero_le _,rfl,HB5.out⟩
   case round =>
    obtain ⟨q,hq,rfl,HR⟩:=hrel;by_cases hlt:q < m.ds.length
    ·obtain ⟨g6,o6,p,rfl,hg6,nn,hp⟩:=HC.out q hlt;have hdk:=HM.out.dd _ (List.getElem_mem hlt);obtain ⟨X,hX⟩:∃ X,m.ds[q]=X:=⟨_,rfl⟩
     rw [hX] at nn hp hdk;obtain ⟨id,kd,io,pt,bk,sl,nm,bt,ot,af,bl⟩:=X;simp only at hp;have HRP:Hid (∀ W,Below (w.heap.size+2) W2 W->RInts W p bl):=fun W bb=>hp.below ((HRS.out W bb).1) nR;obtain ⟨pa,pc,rfl,-⟩:=hp;simp only [DCells] at nn;obtain ⟨m0,m1,m2,m3,m4,m5,m6,m7,m8,m9,m10⟩:=nn;have hbw:=(HRS.out wr HR.out.2).1;have k0:wr.cell? ⟨g6,o6+q * 11,none⟩=some (.int .i64 id):=(hbw.cell (p:=⟨g6,o6+q * 11,none⟩) hg6).trans m0;have k1:wr.cell? ⟨g6,o6+q * 11+1,none⟩=some (.int .i64 kd):=(hbw.cell (p:=⟨g6,o6+q * 11+1,none⟩) hg6).trans m1;have k2:wr.cell? ⟨g6,o6+q * 11+2,none⟩=some (.int .i64 io):=(hbw.cell (p:=⟨g6,o6+q * 11+2,none⟩) hg6).trans m2;have k3:wr.cell? ⟨g6,o6+q * 11+3,none⟩=some (.int .i64 pt):=(hbw.cell (p:=⟨g6,o6+q * 11+3,none⟩) hg6).trans m3;have k4:wr.cell? ⟨g6,o6+q * 11+4,none⟩=some (.int .i64 bk):=(hbw.cell (p:=⟨g6,o6+q * 11+4,none⟩) hg6).trans m4;have k5:wr.cell? ⟨g6,o6+q * 11+5,none⟩=some (.int .i64 sl):=(hbw.cell (p:=⟨g6,o6+q * 11+5,none⟩) hg6).trans m5;have k6:wr.cell? ⟨g6,o6+q * 11+6,none⟩=some (.string nm):=(hbw.cell (p:=⟨g6,o6+q * 11+6,none⟩) hg6).trans m6;have k7:wr.cell? ⟨g6,o6+q * 11+7,none⟩=some (.bool bt):=(hbw.cell (p:=⟨g6,o6+q * 11+7,none⟩) hg6).trans m7;have k8:wr.cell? ⟨g6,o6+q * 11+8,none⟩=some (.bool ot):=(hbw.cell (p:=⟨g6,o6+q * 11+8,none⟩) hg6).trans m8;have k9:wr.cell? ⟨g6,o6+q * 11+9,none⟩=some (.int .i64 af):=(hbw.cell (p:=⟨g6,o6+q * 11+9,none⟩) hg6).trans m9;have k10:wr.cell? ⟨g6,o6+q * 11+10,none⟩=some (.slice pa bl.length pc):=(hbw.cell (p:=⟨g6,o6+q * 11+10,none⟩) hg6).trans m10;have HDK:=hide hdk;have HZQ:Hid (kd=5->∀ p∈bl,Z id p):=by have:=HZZ.out _ (List.getElem_mem hlt);rw [hX] at this;exact this
     have hio1:1<=io:=hdk.io.1;have hio8:io<=8:=hdk.io.2;have q0:(0:Int)<=(q:Int):=by omega
     have q1:(q:Int) < (m.ds.length:Int):=by omega
     have HZB:Hid (b < wr.heap.size/\w.heap.size+2<=wr.heap.size):=by obtain ⟨q1,q2,q3,q4,q5,q6,q7,q8,hP,q9,hL,q10⟩:=HR.out.1;have:=hP.box.lt;exact ⟨this,by omega⟩
     clear m0 m1 m2 m3 m4 m5 m6 m7 m8 m9 m10 hdk hX hbw;go_upto_region 11 with fail
     have HA:Hid (BX Z (wr.alloc (.cells #[.int .i64 id,.int .i64 kd,.int .i64 io,.int .i64 pt,.int .i64 bk,.int .i64 sl,.string nm,.bool bt,.bool ot,.int .i64 af,.slice pa bl.length pc] 41)) (w.heap.size+2) b/\Below (w.heap.size+2) W2 (wr.alloc (.cells #[.int .i64 id,.int .i64 kd,.int .i64 io,.int .i64 pt,.int .i64 bk,.int .i64 sl,.string nm,.bool bt,.bool ot,.int .i64 af,.slice pa bl.length pc] 41))/\AtC (wr.alloc (.cells #[.int .i64 id,.int .i64 kd,.int .i64 io,.int .i64 pt,.int .i64 bk,.int .i64 sl,.string nm,.bool bt,.bool ot,.int .i64 af,.slice pa bl.length pc] 41)) wr.heap.size 41 #[.int .i64 id,.int .i64 kd,.int .i64 io,.int .i64 pt,.int .i64 bk,.int .i64 sl,.string nm,.bool bt,.bool ot,.int .i64 af,.slice pa bl.length pc]):=by
      have b1:Below wr.heap.size wr (wr.alloc (.cells #[.int .i64 id,.int .i64 kd,.int .i64 io,.int .i64 pt,.int .i64 bk,.int .i64 sl,.string nm,.bool bt,.bool ot,.int .i64 af,.slice pa bl.length pc] 41)):=(Below.refl _ wr).alloc nR _;exact ⟨HR.out.1.below b1,HR.out.2.trans (b1.mono HZB.out.2),AtC.new wr 41 _⟩
     clear k0 k1 k2 k3 k4 k5 k6 k7 k8 k9 k10 HR;generalize hbd:wr.heap.size=bd at *;clear hbd;generalize wr.alloc (.cells #[.int .i64 id,.int .i64 kd,.int .i64 io,.int .i64 pt,.int .i64 bk,.int .i64 sl,.string nm,.bool bt,.bool ot,.int .i64 af,.slice pa bl.length pc] 41)=wA at *;obtain ⟨d0,d1,d2,d3,d4,d5,d6,d7,d8,d9,d10⟩:=AtC.elv HA.out.2.2;have CU:Hid (∀ (y:Int) W,Calls Tryz.prog 96 #[.int .i64 y] W fun e w'=>(∃ z:Int,e=.returned (.int .i64 z))/\w'=W):=fun y W=>(zbe y W).mono fun e w' ⟨h1,h2⟩=>⟨⟨_,h1⟩,h2⟩
     have CV:Hid (∀ (y:Int) W,Calls Tryz.prog 101 #[.int .i64 y] W fun e w'=>(∃ z:Int,e=.returned (.int .i64 z))/\w'=W):=fun y W=>(za7 y W).mono fun e w' ⟨h1,h2⟩=>⟨⟨_,h1⟩,h2⟩
     have HTT:Hid (∀ k,wA.heap.size<=k->w.heap.size+2<=k):=fun k hk=>by have:=HA.out.2.2.lt;have:=HZB.out.2;omega
     go_cut [38] from 28 to 102 (fun c wx=>(∃ r,c=.bool r)/\wA=wx)
     case first =>
      by_cases hk:kd=6
      ·exact cQ64
      ·have hkb:(kd == 6)=false:=by simp [hk]
       exact cQ63
     case rest =>
      obtain ⟨⟨r,rfl⟩,rfl⟩:=hcut
      cases r
      case true =>
       obtain ⟨S,pu,pv,pi,pb,pd,pp,mp,hP,hSL,hLb,hmp⟩:=HA.out.1;obtain ⟨p1,r1,p2,r2,p3,r3,p4,r4,p5,r5,p6,r6,rfl,rfl,rfl,rfl,rfl,rfl⟩:=hP.form;obtain ⟨y0,y1,y2,y3,y4,y5,y6⟩:=AtC.sev hP.box;have HP:=hide hP;have HMP:=hide hmp;clear hP hmp hSL;go_wp2_with fail
       refine (zc5 id _ _ _ _ _ _ mp wA HP.out.mr HMP.out).mono ?_;rintro e w2 ⟨u1,u2,u3,u4,u5,u6,mn,rfl,O2,hmn,B2⟩;obtain ⟨n1,o1,n2,o2,n3,o3,n4,o4,n5,o5,n6,o6,rfl,rfl,rfl,rfl,rfl,rfl⟩:=O2.mr.form;have A2:=HP.out.box.over B2;have r0:=A2.c0;have v0:=A2.frozen 0;have r1:=A2.c1;have v1:=A2.frozen 1;have r2:=A2.c2;have v2:=A2.frozen 2;have r3:=A2.c3;have v3:=A2.frozen 3;have r4:=A2.c4;have v4:=A2.frozen 4;have r5:=A2.c5;have v5:=A2.frozen 5;have r6:=A2.c6;have v6:=A2.frozen 6;have hF:=zfy (w:=wA) (T:=fun k=>w.heap.size+2<=k) A2 O2 (Chg.of_below B2) hmn hLb HP.out.box.lt HTT.out;have HZ:Hid (BX Z (((((((w2.setCell ⟨b,0,none⟩ (.slice n1 mn.xs.length o1)).setCell ⟨b,1,none⟩ (.slice n2 mn.ys.length o2)).setCell ⟨b,2,none⟩ (.slice n3 mn.is.length o3)).setCell ⟨b,3,none⟩ (.slice n4 mn.bs.length o4)).setCell ⟨b,4,none⟩ (.slice n5 mn.fs.length o5)).setCell ⟨b,5,none⟩ (.slice n6 mn.ds.length o6)).setCell ⟨b,6,none⟩ (.int .i64 mn.nx)) (w.heap.size+2) b/\Below (w.heap.size+2) W2 (((((((w2.setCell ⟨b,0,none⟩ (.slice n1 mn.xs.length o1)).setCell ⟨b,1,none⟩ (.slice n2 mn.ys.length o2)).setCell ⟨b,2,none⟩ (.slice n3 mn.is.length o3)).setCell ⟨b,3,none⟩ (.slice n4 mn.bs.length o4)).setCell ⟨b,4,none⟩ (.slice n5 mn.fs.length o5)).setCell ⟨b,5,none⟩ (.slice n6 mn.ds.length o6)).setCell ⟨b,6,none⟩ (.int .i64 mn.nx))):=⟨hF.1.bx,HA.out.2.1.trans (hF.2.belowT (by have:=HA.out.2.2.lt;have:=HZB.out.2;omega))⟩
       have hq0:=HA.out.2.2.over B2;have hqb:bd≠b:=by have:=HZB.out.1;omega
       have HD:Hid ((((((((w2.setCell ⟨b,0,none⟩ (.slice n1 mn.xs.length o1)).setCell ⟨b,1,none⟩ (.slice n2 mn.ys.length o2)).setCell ⟨b,2,none⟩ (.slice n3 mn.is.length o3)).setCell ⟨b,3,none⟩ (.slice n4 mn.bs.length o4)).setCell ⟨b,4,none⟩ (.slice n5 mn.fs.length o5)).setCell ⟨b,5,none⟩ (.slice n6 mn.ds.length o6)).setCell ⟨b,6,none⟩ (.int .i64 mn.nx)).cell? ⟨bd,2,none⟩=some (.int .i64 io)):=(((((((hq0.other hqb _).other hqb _).other hqb _).other hqb _).other hqb _).other hqb _).other hqb _).cell 2;clear A2 O2 hmn B2 hF hq0 hqb y0 y1 y2 y3 y4 y5 y6;clear HD HA;go_wp2;go_roundw
       case rel=>exact ⟨q+1,by omega,by go_num,HZ.out⟩
       case measure=>simp [intOf];omega
      case false =>
       go_upto_region 13 with fail
       go_cut [53] from 28 to 102 (fun c wx=>(∃ r,c=.bool r/\(r=true->kd=5))/\wA=wx)
       case first =>
        by_cases hk:kd=5
        ·subst hk;go_wp2_with (first | (go_at_call 96;refine (CU.out _ _).mono ?_;rintro e w7 ⟨⟨z,rfl⟩,rfl⟩) | (go_at_call 101;refine (CV.out _ _).mono ?_;rintro e w7 ⟨⟨z,rfl⟩,rfl⟩))
         (go_meet;exact ⟨⟨_,rfl,by simp⟩,rfl⟩)
        ·have hkb:(kd == 5)=false:=by simp [hk]
         exact cQ112
       case rest =>
        obtain ⟨⟨r,rfl,hr5⟩,rfl⟩:=hcut
        cases r
        case true =>
         have HR5:Hid (∀ p∈bl,Z id p):=HZQ.out (hr5 (by simp));clear hr5;go_wp2_with fail
         refine (zje (fun k=>w.heap.size+2<=k) b id kd io pt bk sl nm bt ot af bl pa pc wA HA.out.1.bt HTT.out hio1 hio8 HDK.out.bl HDK.out.bn (fun W hc=>HRP.out W (HA.out.2.1.trans (hc.belowT (by have:=HA.out.2.2.lt;have:=HZB.out.2;omega)))) HR5.out).mono ?_;rintro e w8 ⟨rfl,b8,c8⟩;have HZ:Hid (BX Z w8 (w.heap.size+2) b/\Below (w.heap.size+2) W2 w8):=⟨b8.bx,HA.out.2.1.trans (c8.belowT (by have:=HA.out.2.2.lt;have:=HZB.out.2;omega))⟩
         exact cQ110
        case false =>
         clear hr5;go_upto_region 15 with fail
         go_cut [66] from 28 to 102 (fun c wx=>(∃ r,c=.bool r)/\wA=wx)
         case first =>
          by_cases hk:kd=3
          ·exact cQ64
          ·have hkb:(kd == 3)=false:=by simp [hk]
           exact cQ63
         case rest =>
          obtain ⟨⟨r,rfl⟩,rfl⟩:=hcut
          cases r
          case true =>
           go_wp2_with fail
           refine (zi8 (w.heap.size+2) b id 0 wA HA.out.1).mono ?_;rintro e w8 ⟨rfl,b8,c8⟩;have HZ:Hid (BX Z w8 (w.heap.size+2) b/\Below (w.heap.size+2) W2 w8):=⟨b8,HA.out.2.1.trans c8⟩
           exact cQ110
          case false =>
           go_upto_region 17 with fail
           go_cut [80] from 28 to 102 (fun c wx=>(∃ r,c=.bool r)/\wA=wx)
           case first =>
            by_cases hk:kd=4
            ·subst hk;by_cases hz:af=0
             ·subst hz;go_wp2_with (first | (go_at_call 96;refine (CU.out _ _).mono ?_;rintro e w7 ⟨⟨z,rfl⟩,rfl⟩) | (go_at_call 101;refine (CV.out _ _).mono ?_;rintro e w7 ⟨⟨z,rfl⟩,rfl⟩))
              (go_meet;exact ⟨⟨_,rfl⟩,rfl⟩)
             ·have hzb:(af == 0)=false:=by simp [hz]
              go_wp2_with fail
              (go_meet;exact ⟨⟨_,rfl⟩,rfl⟩)
            ·have hkb:(kd == 4)=false:=by simp [hk]
             exact cQ63
           case rest =>
            obtain ⟨⟨r,rfl⟩,rfl⟩:=hcut
            cases r
            case true =>
             obtain ⟨S,pu,pv,pi,pb,pd,pp,mp,hP,hSL,hLb,hmp⟩:=HA.out.1;obtain ⟨p1,r1,p2,r2,p3,r3,p4,r4,p5,r5,p6,r6,rfl,rfl,rfl,rfl,rfl,rfl⟩:=hP.form;obtain ⟨y0,y1,y2,y3,y4,y5,y6⟩:=AtC.sev hP.box;have HP:=hide hP;have HMP:=hide hmp;clear hP hmp hSL;go_wp2_with fail
             refine (zc5 id _ _ _ _ _ _ mp wA HP.out.mr HMP.out).mono ?_;rintro e w2 ⟨u1,u2,u3,u4,u5,u6,mn,rfl,O2,hmn,B2⟩;obtain ⟨n1,o1,n2,o2,n3,o3,n4,o4,n5,o5,n6,o6,rfl,rfl,rfl,rfl,rfl,rfl⟩:=O2.mr.form;have A2:=HP.out.box.over B2;have r0:=A2.c0;have v0:=A2.frozen 0;have r1:=A2.c1;have v1:=A2.frozen 1;have r2:=A2.c2;have v2:=A2.frozen 2;have r3:=A2.c3;have v3:=A2.frozen 3;have r4:=A2.c4;have v4:=A2.frozen 4;have r5:=A2.c5;have v5:=A2.frozen 5;have r6:=A2.c6;have v6:=A2.frozen 6;have hF:=zfy (w:=wA) (T:=fun k=>w.heap.size+2<=k) A2 O2 (Chg.of_below B2) hmn hLb HP.out.box.lt HTT.out;have HZ:Hid (BX Z (((((((w2.setCell ⟨b,0,none⟩ (.slice n1 mn.xs.length o1)).setCell ⟨b,1,none⟩ (.slice n2 mn.ys.length o2)).setCell ⟨b,2,none⟩ (.slice n3 mn.is.length o3)).setCell ⟨b,3,none⟩ (.slice n4 mn.bs.length o4)).setCell ⟨b,4,none⟩ (.slice n5 mn.fs.length o5)).setCell ⟨b,5,none⟩ (.slice n6 mn.ds.length o6)).setCell ⟨b,6,none⟩ (.int .i64 mn.nx)) (w.heap.size+2) b/\Below (w.heap.size+2) W2 (((((((w2.setCell ⟨b,0,none⟩ (.slice n1 mn.xs.length o1)).setCell ⟨b,1,none⟩ (.slice n2 mn.ys.length o2)).setCell ⟨b,2,none⟩ (.slice n3 mn.is.length o3)).setCell ⟨b,3,none⟩ (.slice n4 mn.bs.length o4)).setCell ⟨b,4,none⟩ (.slice n5 mn.fs.length o5)).setCell ⟨b,5,none⟩ (.slice n6 mn.ds.length o6)).setCell ⟨b,6,none⟩ (.int .i64 mn.nx))):=⟨hF.1.bx,HA.out.2.1.trans (hF.2.belowT (by have:=HA.out.2.2.lt;have:=HZB.out.2;omega))⟩
             have hq0:=HA.out.2.2.over B2;have hqb:bd≠b:=by have:=HZB.out.1;omega
             have HD:Hid ((((((((w2.setCell ⟨b,0,none⟩ (.slice n1 mn.xs.length o1)).setCell ⟨b,1,none⟩ (.slice n2 mn.ys.length o2)).setCell ⟨b,2,none⟩ (.slice n3 mn.is.length o3)).setCell ⟨b,3,none⟩ (.slice n4 mn.bs.length o4)).setCell ⟨b,4,none⟩ (.slice n5 mn.fs.length o5)).setCell ⟨b,5,none⟩ (.slice n6 mn.ds.length o6)).setCell ⟨b,6,none⟩ (.int .i64 mn.nx)).cell? ⟨bd,2,none⟩=some (.int .i64 io)):=(((((((hq0.other hqb _).other hqb _).other hqb _).other hqb _).other hqb _).other hqb _).other hqb _).cell 2;clear A2 O2 hmn B2 hF hq0 hqb y0 y1 y2 y3 y4 y5 y6;have hd2:=HD.out;go_upto_region 19 with fail
             generalize (((((((w2.setCell ⟨b,0,none⟩ (.slice n1 mn.xs.length o1)).setCell ⟨b,1,none⟩ (.slice n2 mn.ys.length o2)).setCell ⟨b,2,none⟩ (.slice n3 mn.is.length o3)).setCell ⟨b,3,none⟩ (.slice n4 mn.bs.length o4)).setCell ⟨b,4,none⟩ (.slice n5 mn.fs.length o5)).setCell ⟨b,5,none⟩ (.slice n6 mn.ds.length o6)).setCell ⟨b,6,none⟩ (.int .i64 mn.nx))=wF at *;clear r0 r1 r2 r3 r4 r5 r6 v0 v1 v2 v3 v4 v5 v6;go_wp2_with fail
             refine (ze6 (fun k=>w.heap.size+2<=k) b io wF HZ.out.1.bt (fun k hk=>by have:=HZ.out.2.size;have:=(HRS.out wF HZ.out.2).2.2.2;omega) hio1 hio8).mono ?_;rintro e w8 ⟨rfl,b8,c8⟩
             replace HZ:Hid (BX Z w8 (w.heap.size+2) b/\Below (w.heap.size+2) W2 w8):=⟨b8.bx,HZ.out.2.trans (c8.belowT (by have:=(HRS.out wF HZ.out.2).2.2.2;omega))⟩
             clear b8 c8 hd2 HD HA;go_wp2;go_roundw
             case rel=>exact ⟨q+1,by omega,by go_num,HZ.out⟩
             case measure=>simp [intOf];omega
            case false =>
             have HZ:Hid (BX Z wA (w.heap.size+2) b/\Below (w.heap.size+2) W2 wA):=⟨HA.out.1,HA.out.2.1⟩
             clear HA;go_wp2;go_roundw
             case rel=>exact ⟨q+1,by omega,by go_num,HZ.out⟩
             case measure=>simp [intOf];omega
    ·have hwz:w.heap.size+2<=wr.heap.size:=by have:=(HRS.out wr HR.out.2).2.2.2;have:=(HRS.out W2 bR).2.2.2;omega
     have HWZ:=hide hwz;clear HC hwz;go_wp2_with fail
     refine (zjg (fun k=>w.heap.size+2<=k) b wr HR.out.1.bt (fun k hk=>by have:=HWZ.out;omega)).mono ?_;rintro e w8 ⟨rfl,b8,c8⟩;have HBL:Hid (BX Z w8 (w.heap.size+2) b/\Below (w.heap.size+2) W2 w8):=⟨b8.bx,HR.out.2.trans (c8.belowT HWZ.out)⟩
     clear b8 c8 HR z5;obtain ⟨S,pu,pv,pi,pb,pd,pp,mp,hP,hSL,hLb,hmp⟩:=HBL.out.1;obtain ⟨p1,r1,p2,r2,p3,r3,p4,r4,p5,r5,p6,r6,rfl,rfl,rfl,rfl,rfl,rfl⟩:=hP.form;have RS:=(HRS.out w8 HBL.out.2).2.1;obtain ⟨y0,y1,y2,y3,y4,y5,y6⟩:=AtC.sev hP.box;have s0:=RS.c0;have z0:=RS.frozen 0;have s1:=RS.c1;have z1:=RS.frozen 1;have s2:=RS.c2;have z2:=RS.frozen 2;have s3:=RS.c3;have z3:=RS.frozen 3;have s4:=RS.c4;have z4:=RS.frozen 4;have s5:=RS.c5;have z5:=RS.frozen 5;have s6:=RS.c6;have z6:=RS.frozen 6;have HFIN:Hid (∃ m',Sh Z m'/\m'.nx=mp.nx/\MO (((((((w8.setCell ⟨w.heap.size+1,0,none⟩ (.slice p1 mp.xs.length r1)).setCell ⟨w.heap.size+1,1,none⟩ (.slice p2 mp.ys.length r2)).setCell ⟨w.heap.size+1,2,none⟩ (.slice p3 mp.is.length r3)).setCell ⟨w.heap.size+1,3,none⟩ (.slice p4 mp.bs.length r4)).setCell ⟨w.heap.size+1,4,none⟩ (.slice p5 mp.fs.length r5)).setCell ⟨w.heap.size+1,5,none⟩ (.slice p6 mp.ds.length r6)).setCell ⟨w.heap.size+1,6,none⟩ (.int .i64 mp.nx)) (fun k=>w.heap.size<=k) (.slice p1 mp.xs.length r1) (.slice p2 mp.ys.length r2) (.slice p3 mp.is.length r3) (.slice p4 mp.bs.length r4) (.slice p5 mp.fs.length r5) (.slice p6 mp.ds.length r6) m'/\Below w.heap.size w (((((((w8.setCell ⟨w.heap.size+1,0,none⟩ (.slice p1 mp.xs.length r1)).setCell ⟨w.heap.size+1,1,none⟩ (.slice p2 mp.ys.length r2)).setCell ⟨w.heap.size+1,2,none⟩ (.slice p3 mp.is.length r3)).setCell ⟨w.heap.size+1,3,none⟩ (.slice p4 mp.bs.length r4)).setCell ⟨w.heap.size+1,4,none⟩ (.slice p5 mp.fs.length r5)).setCell ⟨w.heap.size+1,5,none⟩ (.slice p6 mp.ds.length r6)).setCell ⟨w.heap.size+1,6,none⟩ (.int .i64 mp.nx))):=by
      have oth:∀ k,k≠w.heap.size+1->(((((((w8.setCell ⟨w.heap.size+1,0,none⟩ (.slice p1 mp.xs.length r1)).setCell ⟨w.heap.size+1,1,none⟩ (.slice p2 mp.ys.length r2)).setCell ⟨w.heap.size+1,2,none⟩ (.slice p3 mp.is.length r3)).setCell ⟨w.heap.size+1,3,none⟩ (.slice p4 mp.bs.length r4)).setCell ⟨w.heap.size+1,4,none⟩ (.slice p5 mp.fs.length r5)).setCell ⟨w.heap.size+1,5,none⟩ (.slice p6 mp.ds.length r6)).setCell ⟨w.heap.size+1,6,none⟩ (.int .i64 mp.nx)).heap[k]?=w8.heap[k]?:=fun k hk=>zaa _ _ _ _ _ _ _ _ _ k hk;refine ⟨mp,hmp,rfl,(hP.own.of_heap fun k hk _=>oth k (by have:=hSL k hk;omega)).mono (fun k hk=>by have:=hSL k hk;omega),?_⟩;exact zab ((HRS.out w8 HBL.out.2).1) (by omega) _ _ _ _ _ _ _
     clear hP hSL hmp RS;go_wp2;obtain ⟨mf,q1,q2,q3,q4⟩:=HFIN.out;refine bodyPost_ret (v:=.agg #[.slice p1 mp.xs.length r1,.slice p2 mp.ys.length r2,.slice p3 mp.is.length r3,.slice p4 mp.bs.length r4,.slice p5 mp.fs.length r5,.slice p6 mp.ds.length r6,.int .i64 mp.nx]) (by simp [results,go_sem,s0,s1,s2,s3,s4,s5,s6]) rfl ⟨_,_,_,_,_,_,mf,by rw [q2],q3,q1,q4⟩
theorem done_any (u v iv bv dv pv:Value)(m:MD)(x:Int)(w:World)(h:MR w u v iv bv dv pv m)(hm:Sh Z m) :
  Calls Tryz.prog 72 #[.agg #[u,v,iv,bv,dv,pv,.int .i64 m.nx],.int .i64 x] w fun e w'=>∃ u' v' i' b' d' p' m',e=.returned (.agg #[u',v',i',b',d',p',.int .i64 m'.nx])/\MO w' (fun k=>w.heap.size<=k) u' v' i' b' d' p' m'/\Sh Z0 m'/\Below w.heap.size w w':=by
 refine (done_in (Z:=Kz.zof m.ds) u v iv bv dv pv m x w h (hm.with_k hm.k.zof_of) (fun d hd h5 p hp=>⟨d,hd,h5,rfl,hp⟩)).mono ?_;rintro e w' ⟨u1,u2,u3,u4,u5,u6,m',he,O,hS,B⟩;exact ⟨u1,u2,u3,u4,u5,u6,m',he,O,hS.none,B⟩
namespace Kit
variable {Z : ZT}
def imgP (i:Int) (ds:List Dp) (ps:List Int):List Int:=ds.foldl (fun xs d=>if d.kd=1/\d.io=i then xs.set d.pt.toNat 0 else xs) ps
theorem zjh (i:Int)(ds:List Dp)(ps:List Int)(j:Nat)(h:j < ds.length):imgP i (ds.take (j+1)) ps=if ds[j].kd=1/\ds[j].io=i then (imgP i (ds.take j) ps).set ds[j].pt.toNat 0 else imgP i (ds.take j) ps:=by
 unfold imgP;rw [← List.take_append_getElem h,List.foldl_append];rfl
theorem zbc (i:Int):∀ (ds:List Dp) (ps:List Int),(imgP i ds ps).length=ps.length
 | [],_=>rfl
 | d :: ds,ps=>by
  have:imgP i (d :: ds) ps=imgP i ds (if d.kd=1/\d.io=i then ps.set d.pt.toNat 0 else ps):=rfl;rw [this,zbc i ds]
  split<;>simp
theorem ic_set (l:List Int)(k:Nat)(x:Int):ic (l.set k x)=(ic l).set k (.int .i64 x):=by simp [ic,List.map_set]
def imgI (m:MD) (i:Int):Ino:=if inB i 1 8=true then ((m.is.getD (i - 1).toNat (0,0,[])).1,(m.is.getD (i - 1).toNat (0,0,[])).2.1,imgP i m.ds (m.is.getD (i - 1).toNat (0,0,[])).2.2) else (0,zak 0,[0,0])
end Kit
variable {Z : ZT}
theorem zeo (u v iv bv dv pv:Value)(m:MD)(i:Int)(w:World)(h:MR w u v iv bv dv pv m)(hm:Sh Z m) :
  Calls Tryz.prog 8 #[.agg #[u,v,iv,bv,dv,pv,.int .i64 m.nx],.int .i64 i] w fun e w'=>∃ v9,e=.returned (.agg #[.int .i64 (imgI m i).1,.int .i64 (imgI m i).2.1,v9])/\ROwns w' w.heap.size 3 v9 (ic (imgI m i).2.2)/\Below w.heap.size w w':=by
 obtain ⟨a1,c1,a2,c2,a3,c3,a4,c4,a5,c5,a6,c6,rfl,rfl,rfl,rfl,rfl,rfl⟩:=h.form;have HH:=hide h;have HM:=hide hm;have hdl:m.ds.length<=40:=hm.l;have HIL:Hid (m.is.length=8):=hm.i;have HW0:Hid (∀ W,Below ((w.alloc (.cells #[.slice a1 m.xs.length c1,.slice a2 m.ys.length c2,.slice a3 m.is.length c3,.slice a4 m.bs.length c4,.slice a5 m.fs.length c5,.slice a6 m.ds.length c6,.int .i64 m.nx] 33)).alloc (.cells #[.int .i64 0,.int .i64 0,.slice none 0 0] 37)).heap.size ((w.alloc (.cells #[.slice a1 m.xs.length c1,.slice a2 m.ys.length c2,.slice a3 m.is.length c3,.slice a4 m.bs.length c4,.slice a5 m.fs.length c5,.slice a6 m.ds.length c6,.int .i64 m.nx] 33)).alloc (.cells #[.int .i64 0,.int .i64 0,.slice none 0 0] 37)) W->Below w.heap.size w W/\AtC W (w.heap.size+1) 37 #[.int .i64 0,.int .i64 0,.slice none 0 0]/\AtC W w.heap.size 33 #[.slice a1 m.xs.length c1,.slice a2 m.ys.length c2,.slice a3 m.is.length c3,.slice a4 m.bs.length c4,.slice a5 m.fs.length c5,.slice a6 m.ds.length c6,.int .i64 m.nx]/\w.heap.size+1+1<=W.heap.size):=fun W b2=>by
  have k1:=(AtC.new (w.alloc (.cells #[.slice a1 m.xs.length c1,.slice a2 m.ys.length c2,.slice a3 m.is.length c3,.slice a4 m.bs.length c4,.slice a5 m.fs.length c5,.slice a6 m.ds.length c6,.int .i64 m.nx] 33)) 37 #[.int .i64 0,.int .i64 0,.slice none 0 0]).over b2;have k2:=((AtC.new w 33 #[.slice a1 m.xs.length c1,.slice a2 m.ys.length c2,.slice a3 m.is.length c3,.slice a4 m.bs.length c4,.slice a5 m.fs.length c5,.slice a6 m.ds.length c6,.int .i64 m.nx]).over ((Below.refl _ (w.alloc (.cells #[.slice a1 m.xs.length c1,.slice a2 m.ys.length c2,.slice a3 m.is.length c3,.slice a4 m.bs.length c4,.slice a5 m.fs.length c5,.slice a6 m.ds.length c6,.int .i64 m.nx] 33))).alloc nR (.cells #[.int .i64 0,.int .i64 0,.slice none 0 0] 37))).over b2;have sz:=b2.size;simp at k1 sz;exact ⟨(((Below.refl _ w).alloc nR _).alloc (by simp) _).trans (b2.mono (by simp;omega)),k1,k2,sz⟩
 have x2:((w.alloc (.cells #[.slice a1 m.xs.length c1,.slice a2 m.ys.length c2,.slice a3 m.is.length c3,.slice a4 m.bs.length c4,.slice a5 m.fs.length c5,.slice a6 m.ds.length c6,.int .i64 m.nx] 33)).alloc (.cells #[.int .i64 0,.int .i64 0,.slice none 0 0] 37)).cell? ⟨w.heap.size,2,none⟩=some (.slice a3 m.is.length c3):=(HW0.out _ bR).2.2.1.cell 2;have e8:(m.is.length:Int)=8:=by rw [hm.i];rfl
 have HE8:=hide e8;clear h hm e8
 cases hib:inB i 1 8 with
 | false =>
  have hI:imgI m i=(0,zak 0,[0,0]):=by unfold imgI;rw [hib];rfl
  rw [hI];have HIB:=hide hib;clear hib hI;go_enter Tryz.func8,Tryz.ntmps8
  go_wp2_with fail
  rw [HE8.out];refine (zaj i 1 8 _).mono ?_;rintro e w3 ⟨rfl,rfl⟩;rw [HIB.out];go_wp2_with fail
  refine (zbf 0 _).mono ?_;rintro e w1 ⟨v9,rfl,O1,B1⟩;obtain ⟨n1,n2,rfl,-⟩:=O1.form;have k1:=HW0.out w1 B1;have s0:=k1.2.1.c0;have z0:=k1.2.1.frozen 0;have s1:=k1.2.1.c1;have z1:=k1.2.1.frozen 1;have s2:=k1.2.1.c2;have z2:=k1.2.1.frozen 2;have HF:Hid (ROwns (((w1.setCell ⟨w.heap.size+1,0,none⟩ (.int .i64 0)).setCell ⟨w.heap.size+1,1,none⟩ (.int .i64 (zak 0))).setCell ⟨w.heap.size+1,2,none⟩ (.slice n1 [0,0].length n2)) w.heap.size 3 (.slice n1 [0,0].length n2) (ic [0,0])/\Below w.heap.size w (((w1.setCell ⟨w.heap.size+1,0,none⟩ (.int .i64 0)).setCell ⟨w.heap.size+1,1,none⟩ (.int .i64 (zak 0))).setCell ⟨w.heap.size+1,2,none⟩ (.slice n1 [0,0].length n2))):=by
   have hz:=k1.2.2.2;refine ⟨(O1.base_le (by simp;omega)).of_heap fun k hk=>?_,((k1.1.setCell (by simp) _).setCell (by simp) _).setCell (by simp) _⟩;have:=(O1.lt k hk).1;simp at this;rw [heap_setCell_other _ ⟨w.heap.size+1,2,none⟩ k _ (by show k≠w.heap.size+1;omega),heap_setCell_other _ ⟨w.heap.size+1,1,none⟩ k _ (by show k≠w.heap.size+1;omega),heap_setCell_other _ ⟨w.heap.size+1,0,none⟩ k _ (by show k≠w.heap.size+1;omega)]
  rw [zaf] at *;clear O1 B1 k1 x2;go_wp2;refine bodyPost_ret (v:=.agg #[.int .i64 0,.int .i64 (zak 0),.slice n1 [0,0].length n2]) (by simp [results,go_sem,s0,s1,s2]) rfl ⟨_,rfl,HF.out⟩
 | true =>
  have HIB:=hide hib;obtain ⟨h1,h2⟩:=zao hib;obtain ⟨j,rfl⟩:∃ j:Nat,i=(j:Int)+1:=⟨(i - 1).toNat,by omega⟩
  have hj:j < m.is.length:=by rw [HIL.out];omega
  have hI:imgI m ((j:Int)+1)=(m.is[j].1,m.is[j].2.1,imgP ((j:Int)+1) m.ds m.is[j].2.2):=by
   exact cQ138
  rw [hI];clear hib hI;obtain ⟨qa,qc,qe,-,qh⟩:=HH.out.d.i;simp only [Value.slice.injEq,true_and] at qe;obtain ⟨rfl,rfl⟩:=qe;obtain ⟨g2,o2,⟨t0,t1,t2⟩,rfl,hg2,r0,r1,r2,e0,e1,rr⟩:=qh j hj;have hio:=HM.out.ii _ (List.getElem_mem hj);obtain ⟨⟨kd,ln,ps⟩,hX⟩:∃ X,m.is[j]=X:=⟨_,rfl⟩
  rw [hX] at e0 e1 rr hio;rw [hX];simp only at e0 e1 rr r0 r1 r2;subst e0 e1;have HPN:Hid (ps.length=2):=hio.n;obtain ⟨sa,sc,rfl⟩:=rr.form;have HRR:=hide rr;have bW:=(HW0.out _ bR).1;have y0:=(bW.cell (p:=⟨g2,o2+j * 3,none⟩) hg2).trans r0;have y1:=(bW.cell (p:=⟨g2,o2+j * 3+1,none⟩) hg2).trans r1;have y2:=(bW.cell (p:=⟨g2,o2+j * 3+2,none⟩) hg2).trans r2;have j0:(0:Int)<=(j:Int):=by omega
  have j1:(j:Int) < (m.is.length:Int):=by omega
  have hpl:ps.length<=2:=Nat.le_of_eq hio.n;clear qh hX hio rr bW r0 r1 r2;go_enter Tryz.func8,Tryz.ntmps8
  go_wp2_with fail
  rw [HE8.out];refine (zaj ((j:Int)+1) 1 8 _).mono ?_;rintro e w3 ⟨rfl,rfl⟩;rw [HIB.out];go_wp2_with fail
  refine (zdu kd ln _ ps _ (HRR.out.below (HW0.out _ bR).1 nR) (by omega)).mono ?_;rintro e w1 ⟨uu,rfl,O1,B1⟩;obtain ⟨s1,t1,rfl⟩:=O1.rints.form;have k1:=HW0.out w1 B1;have HW1:=hide k1;have HO1:Hid (∀ k,(Value.slice s1 ps.length t1).ownBlock=some k->w.heap.size+2<=k/\k < w1.heap.size):=fun k hk=>by have:=O1.lt k hk;simp at this;exact this
  have HP0:Hid (ROwns (w1.alloc (.cells #[.int .i64 kd,.int .i64 ln,.slice s1 ps.length t1] 37)) w.heap.size 3 (.slice s1 ps.length t1) (ic ps)):=(O1.base_le (by simp;omega)).alloc _;have HA5:Hid (AtC (w1.alloc (.cells #[.int .i64 kd,.int .i64 ln,.slice s1 ps.length t1] 37)) w1.heap.size 37 #[.int .i64 kd,.int .i64 ln,.slice s1 ps.length t1]):=AtC.new w1 37 _;have HS:Hid (∀ W,Chg (fun k=>(Value.slice s1 ps.length t1).ownBlock=some k) (w1.alloc (.cells #[.int .i64 kd,.int .i64 ln,.slice s1 ps.length t1] 37)) W->Below w.heap.size w W/\AtC W (w.heap.size+1) 37 #[.int .i64 0,.int .i64 0,.slice none 0 0]/\AtC W w.heap.size 33 #[.slice a1 m.xs.length c1,.slice a2 m.ys.length c2,.slice (some ⟨g2,o2,none⟩) m.is.length c3,.slice a4 m.bs.length c4,.slice a5 m.fs.length c5,.slice a6 m.ds.length c6,.int .i64 m.nx]/\AtC W w1.heap.size 37 #[.int .i64 kd,.int .i64 ln,.slice s1 ps.length t1]):=fun W hc=>by
   have z:=HW1.out.2.2.2;have b3:Below w1.heap.size w1 (w1.alloc (.cells #[.int .i64 kd,.int .i64 ln,.slice s1 ps.length t1] 37)):=(Below.refl _ w1).alloc nR _;have lo:∀ k,k < w.heap.size+2->W.heap[k]?=w1.heap[k]?:=fun k hk=>(hc.block k (by simp;omega) (fun e=>by have:=(HO1.out k e).1;omega)).trans (b3.block k (by omega));refine ⟨⟨?_,?_,?_,?_,fun k hk=>(lo k (by omega)).trans (HW1.out.1.block k hk)⟩,(lo _ (by omega)).trans HW1.out.2.1,(lo _ (by omega)).trans HW1.out.2.2.1,(hc.block _ (by simp) (fun e=>by have:=(HO1.out _ e).2;omega)).trans HA5.out⟩
   ·exact hc.os.trans HW1.out.1.os
   ·exact hc.tape.trans HW1.out.1.tape
   ·exact hc.output.trans HW1.out.1.output
   ·have:=hc.size;simp at this;omega
  clear O1 B1 k1 x2 y0 y1 y2;go_wp2_with fail
  generalize hb5:w1.heap.size=b5 at *;clear hb5;generalize w1.alloc (.cells #[.int .i64 kd,.int .i64 ln,.slice s1 ps.length t1] 37)=W2 at *;obtain ⟨a,c,ei,-,hc⟩:=HH.out.p.dep;simp only [Value.slice.injEq,true_and] at ei;obtain ⟨rfl,rfl⟩:=ei;have HC:=hide hc;clear hc;go_loopw [6] (fun i' wr=>∃ q:Nat,q<=m.ds.length/\i'=.int .i64 q/\Hid (ROwns wr w.heap.size 3 (.slice s1 ps.length t1) (ic (imgP ((j:Int)+1) (m.ds.take q) ps))/\Chg (fun k=>(Value.slice s1 ps.length t1).ownBlock=some k) W2 wr)) (fun i' _=>m.ds.length - (intOf i').toNat)
  case atStart=>exact ⟨0,Nat.zero_le _,rfl,HP0.out,Chg.refl _ _⟩
  case round =>
   obtain ⟨q,hq,rfl,HR⟩:=hrel;obtain ⟨hbw,hres,hmb,h5⟩:=HS.out wr HR.out.2;have x5:=hmb.c5;by_cases hlt:q < m.ds.length
   ·obtain ⟨g6,o6,p,rfl,hg6,nn,hp⟩:=HC.out q hlt;have hdk:=HM.out.dd _ (List.getElem_mem hlt);have hsn:=zjh ((j:Int)+1) m.ds ps q hlt;obtain ⟨X,hX⟩:∃ X,m.ds[q]=X:=⟨_,rfl⟩
    rw [hX] at nn hp hdk hsn;obtain ⟨id,kk,io,pt,bk,sl,nm,bt,ot,af,bl⟩:=X;simp only at hp hsn;obtain ⟨pa,pc,rfl,-⟩:=hp;simp only [DCells] at nn;obtain ⟨m0,m1,m2,m3,m4,m5,m6,m7,m8,m9,m10⟩:=nn;have k0:wr.cell? ⟨g6,o6+q * 11,none⟩=some (.int .i64 id):=(hbw.cell (p:=⟨g6,o6+q * 11,none⟩) hg6).trans m0;have k1:wr.cell? ⟨g6,o6+q * 11+1,none⟩=some (.int .i64 kk):=(hbw.cell (p:=⟨g6,o6+q * 11+1,none⟩) hg6).trans m1;have k2:wr.cell? ⟨g6,o6+q * 11+2,none⟩=some (.int .i64 io):=(hbw.cell (p:=⟨g6,o6+q * 11+2,none⟩) hg6).trans m2;have k3:wr.cell? ⟨g6,o6+q * 11+3,none⟩=some (.int .i64 pt):=(hbw.cell (p:=⟨g6,o6+q * 11+3,none⟩) hg6).trans m3;have k4:wr.cell? ⟨g6,o6+q * 11+4,none⟩=some (.int .i64 bk):=(hbw.cell (p:=⟨g6,o6+q * 11+4,none⟩) hg6).trans m4;have k5:wr.cell? ⟨g6,o6+q * 11+5,none⟩=some (.int .i64 sl):=(hbw.cell (p:=⟨g6,o6+q * 11+5,none⟩) hg6).trans m5;have k6:wr.cell? ⟨g6,o6+q * 11+6,none⟩=some (.string nm):=(hbw.cell (p:=⟨g6,o6+q * 11+6,none⟩) hg6).trans m6;have k7:wr.cell? ⟨g6,o6+q * 11+7,none⟩=some (.bool bt):=(hbw.cell (p:=⟨g6,o6+q * 11+7,none⟩) hg6).trans m7;have k8:wr.cell? ⟨g6,o6+q * 11+8,none⟩=some (.bool ot):=(hbw.cell (p:=⟨g6,o6+q * 11+8,none⟩) hg6).trans m8;have k9:wr.cell? ⟨g6,o6+q * 11+9,none⟩=some (.int .i64 af):=(hbw.cell (p:=⟨g6,o6+q * 11+9,none⟩) hg6).trans m9;have k10:wr.cell? ⟨g6,o6+q * 11+10,none⟩=some (.slice pa bl.length pc):=(hbw.cell (p:=⟨g6,o6+q * 11+10,none⟩) hg6).trans m10;have hpt0:0<=pt:=hdk.pt.1;have hpt1:pt<=1:=hdk.pt.2;obtain ⟨t,rfl⟩:∃ t:Nat,pt=(t:Int):=⟨pt.toNat,by omega⟩
    have HSN:=hide hsn;have q0:(0:Int)<=(q:Int):=by omega
    have q1:(q:Int) < (m.ds.length:Int):=by omega
    have b1:Below wr.heap.size wr (wr.alloc (.cells #[.int .i64 id,.int .i64 kk,.int .i64 io,.int .i64 (t:Int),.int .i64 bk,.int .i64 sl,.string nm,.bool bt,.bool ot,.int .i64 af,.slice pa bl.length pc] 41)):=(Below.refl _ wr).alloc nR _;have HA:Hid (ROwns (wr.alloc (.cells #[.int .i64 id,.int .i64 kk,.int .i64 io,.int .i64 (t:Int),.int .i64 bk,.int .i64 sl,.string nm,.bool bt,.bool ot,.int .i64 af,.slice pa bl.length pc] 41)) w.heap.size 3 (.slice s1 ps.length t1) (ic (imgP ((j:Int)+1) (m.ds.take q) ps))/\Chg (fun k=>(Value.slice s1 ps.length t1).ownBlock=some k) W2 (wr.alloc (.cells #[.int .i64 id,.int .i64 kk,.int .i64 io,.int .i64 (t:Int),.int .i64 bk,.int .i64 sl,.string nm,.bool bt,.bool ot,.int .i64 af,.slice pa bl.length pc] 41))/\AtC (wr.alloc (.cells #[.int .i64 id,.int .i64 kk,.int .i64 io,.int .i64 (t:Int),.int .i64 bk,.int .i64 sl,.string nm,.bool bt,.bool ot,.int .i64 af,.slice pa bl.length pc] 41)) wr.heap.size 41 #[.int .i64 id,.int .i64 kk,.int .i64 io,.int .i64 (t:Int),.int .i64 bk,.int .i64 sl,.string nm,.bool bt,.bool ot,.int .i64 af,.slice pa bl.length pc]):=⟨HR.out.1.alloc _,HR.out.2.trans (Chg.of_below b1),AtC.new wr 41 _⟩
    clear m0 m1 m2 m3 m4 m5 m6 m7 m8 m9 m10 hdk hX hbw hres hmb h5 hsn b1;go_upto_region 8 with fail
    generalize hbd:wr.heap.size=bd at *;clear hbd HR k0 k1 k2 k3 k4 k5 k6 k7 k8 k9 k10 x5;generalize wr.alloc (.cells #[.int .i64 id,.int .i64 kk,.int .i64 io,.int .i64 (t:Int),.int .i64 bk,.int .i64 sl,.string nm,.bool bt,.bool ot,.int .i64 af,.slice pa bl.length pc] 41)=wA at *;have h5:=(HS.out wA HA.out.2.1).2.2.2;have d1:=HA.out.2.2.c1;have d2:=HA.out.2.2.c2;have d3:=HA.out.2.2.c3;have f2:=h5.c2;clear h5;have t0:(0:Int)<=(t:Int):=by omega
    have ht2:t < ps.length:=by rw [HPN.out];omega
    have t2:(t:Int) < (ps.length:Int):=by omega
    go_cut [57] from 24 to 62 (fun c wx=>c=.bool (decide (kk=1/\io=(j:Int)+1))/\wA=wx)
    case first =>
     by_cases hk:kk=1
     ·subst hk;by_cases hi:io=(j:Int)+1
      ·subst hi;go_wp2_with fail
       go_meet
       exact ⟨by simp,rfl⟩
      ·have hib:(io == (j:Int)+1)=false:=by simp [hi]
       go_wp2_with fail
       go_meet
       exact ⟨by simp [hi],rfl⟩
     ·have hkb:(kk == 1)=false:=by simp [hk]
      go_wp2_with fail
      go_meet
      exact ⟨by simp [hk],rfl⟩
    case rest =>
     obtain ⟨rfl,rfl⟩:=hcut;by_cases hd:kk=1/\io=(j:Int)+1
     ·rw [decide_eq_true hd];have HE:Hid (imgP ((j:Int)+1) (m.ds.take (q+1)) ps=(imgP ((j:Int)+1) (m.ds.take q) ps).set t 0):=by have:=HSN.out;rw [if_pos hd] at this;exact this
      obtain ⟨g,cap,e9,kq9,f9,-,-,-⟩:=HA.out.1.at t (by rw [zaf,zbc];exact ht2);rw [zaf,zbc] at e9;simp only [Value.slice.injEq,true_and] at e9;obtain ⟨rfl,rfl⟩:=e9;obtain ⟨rv,k9⟩:∃ rv,wA.cell? ⟨g,t,none⟩=some rv:=by
       rw [kq9];exact ⟨_,List.getElem?_eq_getElem (by rw [zaf,zbc];exact ht2)⟩
      have HN:Hid (ROwns (wA.setCell ⟨g,t,none⟩ (.int .i64 0)) w.heap.size 3 (.slice (some ⟨g,0,none⟩) ps.length t1) (ic (imgP ((j:Int)+1) (m.ds.take (q+1)) ps))/\Chg (fun k=>(Value.slice (some ⟨g,0,none⟩) ps.length t1).ownBlock=some k) W2 (wA.setCell ⟨g,t,none⟩ (.int .i64 0))):=by
       have hl:(ic (imgP ((j:Int)+1) (m.ds.take q) ps)).length=ps.length:=by rw [zaf,zbc]
       have z:=ROwns.stored (l:=ic (imgP ((j:Int)+1) (m.ds.take q) ps)) (g:=g) (cap:=t1) (by rw [hl];exact HA.out.1) t (.int .i64 0);rw [hl,← ic_set,← HE.out] at z;exact ⟨z.1,HA.out.2.1.setCell rfl _⟩
      clear HSN HE HA hd kq9;go_wp2;go_roundw
      case rel=>exact ⟨q+1,by omega,by go_num,HN.out⟩
      case measure=>simp [intOf];omega
     ·rw [decide_eq_false hd];have HN:Hid (ROwns wA w.heap.size 3 (.slice s1 ps.length t1) (ic (imgP ((j:Int)+1) (m.ds.take (q+1)) ps))/\Chg (fun k=>(Value.slice s1 ps.length t1).ownBlock=some k) W2 wA):=by
       have:=HSN.out;rw [if_neg hd] at this;rw [this];exact ⟨HA.out.1,HA.out.2.1⟩
      exact cQ108
   ·have hq2:q=m.ds.length:=by omega
    have f0:=h5.c0;have f1:=h5.c1;have f2:=h5.c2;have s0:=hres.c0;have z0:=hres.frozen 0;have s1':=hres.c1;have z1:=hres.frozen 1;have s2:=hres.c2;have z2:=hres.frozen 2;have HF:Hid (ROwns (((wr.setCell ⟨w.heap.size+1,0,none⟩ (.int .i64 kd)).setCell ⟨w.heap.size+1,1,none⟩ (.int .i64 ln)).setCell ⟨w.heap.size+1,2,none⟩ (.slice s1 ps.length t1)) w.heap.size 3 (.slice s1 ps.length t1) (ic (imgP ((j:Int)+1) m.ds ps))/\Below w.heap.size w (((wr.setCell ⟨w.heap.size+1,0,none⟩ (.int .i64 kd)).setCell ⟨w.heap.size+1,1,none⟩ (.int .i64 ln)).setCell ⟨w.heap.size+1,2,none⟩ (.slice s1 ps.length t1))):=by
     exact cQ38
    clear hbw hres hmb h5 HR hq2;go_wp2;refine bodyPost_ret (v:=.agg #[.int .i64 kd,.int .i64 ln,.slice s1 ps.length t1]) (by simp [results,go_sem,s0,s1',s2]) rfl ⟨_,rfl,HF.out⟩
namespace Kit
variable {Z : ZT}
def stepS (p:Int) (xs:List Sl) (d:Dp):List Sl:=if d.bk=p/\d.sl.toNat < xs.length then (if d.kd=2 then xs.set d.sl.toNat (⟨#[]⟩,0) else if d.kd=4/\0 < d.af then xs.set d.sl.toNat (d.nm,d.io) else xs) else xs
def imgS (p:Int) (ds:List Dp) (ss:List Sl):List Sl:=ds.foldl (stepS p) ss
theorem zji (p:Int)(ds:List Dp)(ss:List Sl)(j:Nat)(h:j < ds.length):imgS p (ds.take (j+1)) ss=stepS p (imgS p (ds.take j) ss) ds[j]:=by
 unfold imgS;rw [← List.take_append_getElem h,List.foldl_append];rfl
theorem zf0 (p:Int)(xs:List Sl)(d:Dp):(stepS p xs d).length=xs.length:=by
 unfold stepS
 split
 ·split
  ·simp
  ·split<;>simp
 ·rfl
theorem zaz (p:Int):∀ (ds:List Dp) (ss:List Sl),(imgS p ds ss).length=ss.length
 | [],_=>rfl
 | d :: ds,ss=>by
  have:imgS p (d :: ds) ss=imgS p ds (stepS p ss d):=rfl;rw [this,zaz p ds,zf0]
def imgB (m:MD) (p:Int):Blk:=if inB p 1 16=true then ((m.bs.getD (p - 1).toNat (false,[],⟨#[]⟩)).1,imgS p m.ds (m.bs.getD (p - 1).toNat (false,[],⟨#[]⟩)).2.1,(m.bs.getD (p - 1).toNat (false,[],⟨#[]⟩)).2.2) else (false,[],⟨#[]⟩)
end Kit
variable {Z : ZT}
theorem zep (u v iv bv dv pv:Value)(m:MD)(i:Int)(w:World)(h:MR w u v iv bv dv pv m)(hm:Sh Z m) :
  Calls Tryz.prog 11 #[.agg #[u,v,iv,bv,dv,pv,.int .i64 m.nx],.int .i64 i] w fun e w'=>∃ v9,e=.returned (.agg #[.bool (imgB m i).1,v9,.string (imgB m i).2.2])/\SOwns w' w.heap.size 49 v9 (imgB m i).2.1/\Below w.heap.size w w':=by
 obtain ⟨a1,c1,a2,c2,a3,c3,a4,c4,a5,c5,a6,c6,rfl,rfl,rfl,rfl,rfl,rfl⟩:=h.form;have HH:=hide h;have HM:=hide hm;have hdl:m.ds.length<=40:=hm.l;have HIL:Hid (m.bs.length=16):=hm.b;have HW0:Hid (∀ W,Below ((w.alloc (.cells #[.slice a1 m.xs.length c1,.slice a2 m.ys.length c2,.slice a3 m.is.length c3,.slice a4 m.bs.length c4,.slice a5 m.fs.length c5,.slice a6 m.ds.length c6,.int .i64 m.nx] 33)).alloc (.cells #[.bool false,.slice none 0 0,.string ⟨#[]⟩] 44)).heap.size ((w.alloc (.cells #[.slice a1 m.xs.length c1,.slice a2 m.ys.length c2,.slice a3 m.is.length c3,.slice a4 m.bs.length c4,.slice a5 m.fs.length c5,.slice a6 m.ds.length c6,.int .i64 m.nx] 33)).alloc (.cells #[.bool false,.slice none 0 0,.string ⟨#[]⟩] 44)) W->Below w.heap.size w W/\AtC W (w.heap.size+1) 44 #[.bool false,.slice none 0 0,.string ⟨#[]⟩]/\AtC W w.heap.size 33 #[.slice a1 m.xs.length c1,.slice a2 m.ys.length c2,.slice a3 m.is.length c3,.slice a4 m.bs.length c4,.slice a5 m.fs.length c5,.slice a6 m.ds.length c6,.int .i64 m.nx]/\w.heap.size+1+1<=W.heap.size):=fun W b2=>by
  have k1:=(AtC.new (w.alloc (.cells #[.slice a1 m.xs.length c1,.slice a2 m.ys.length c2,.slice a3 m.is.length c3,.slice a4 m.bs.length c4,.slice a5 m.fs.length c5,.slice a6 m.ds.length c6,.int .i64 m.nx] 33)) 44 #[.bool false,.slice none 0 0,.string ⟨#[]⟩]).over b2;have k2:=((AtC.new w 33 #[.slice a1 m.xs.length c1,.slice a2 m.ys.length c2,.slice a3 m.is.length c3,.slice a4 m.bs.length c4,.slice a5 m.fs.length c5,.slice a6 m.ds.length c6,.int .i64 m.nx]).over ((Below.refl _ (w.alloc (.cells #[.slice a1 m.xs.length c1,.slice a2 m.ys.length c2,.slice a3 m.is.length c3,.slice a4 m.bs.length c4,.slice a5 m.fs.length c5,.slice a6 m.ds.length c6,.int .i64 m.nx] 33))).alloc nR (.cells #[.bool false,.slice none 0 0,.string ⟨#[]⟩] 44))).over b2;have sz:=b2.size;simp at k1 sz;exact ⟨(((Below.refl _ w).alloc nR _).alloc (by simp) _).trans (b2.mono (by simp;omega)),k1,k2,sz⟩
 have x2:((w.alloc (.cells #[.slice a1 m.xs.length c1,.slice a2 m.ys.length c2,.slice a3 m.is.length c3,.slice a4 m.bs.length c4,.slice a5 m.fs.length c5,.slice a6 m.ds.length c6,.int .i64 m.nx] 33)).alloc (.cells #[.bool false,.slice none 0 0,.string ⟨#[]⟩] 44)).cell? ⟨w.heap.size,3,none⟩=some (.slice a4 m.bs.length c4):=(HW0.out _ bR).2.2.1.cell 3;have e8:(m.bs.length:Int)=16:=by rw [hm.b];rfl
 have HE8:=hide e8;clear h hm e8
 cases hib:inB i 1 16 with
 | false =>
  have hI:imgB m i=(false,[],⟨#[]⟩):=by unfold imgB;rw [hib];rfl
  rw [hI];have HIB:=hide hib;clear hib hI;go_enter Tryz.func11,Tryz.ntmps11
  go_wp2_with fail
  rw [HE8.out];refine (zaj i 1 16 _).mono ?_;rintro e w3 ⟨rfl,rfl⟩;rw [HIB.out];have k1:=HW0.out _ bR;have s0:=k1.2.1.c0;have z0:=k1.2.1.frozen 0;have s1:=k1.2.1.c1;have z1:=k1.2.1.frozen 1;have s2:=k1.2.1.c2;have z2:=k1.2.1.frozen 2;have HF:Hid (Below w.heap.size w ((w.alloc (.cells #[.slice a1 m.xs.length c1,.slice a2 m.ys.length c2,.slice a3 m.is.length c3,.slice a4 m.bs.length c4,.slice a5 m.fs.length c5,.slice a6 m.ds.length c6,.int .i64 m.nx] 33)).alloc (.cells #[.bool false,.slice none 0 0,.string ⟨#[]⟩] 44))):=k1.1;clear k1 x2;go_wp2;refine bodyPost_ret (v:=.agg #[.bool false,.slice none 0 0,.string ⟨#[]⟩]) (by simp [results,go_sem,s0,s1,s2]) rfl ⟨_,rfl,SOwns.nil _ _ _,HF.out⟩
 | true =>
  have HIB:=hide hib;obtain ⟨h1,h2⟩:=zao hib;obtain ⟨j,rfl⟩:∃ j:Nat,i=(j:Int)+1:=⟨(i - 1).toNat,by omega⟩
  have hj:j < m.bs.length:=by rw [HIL.out];omega
  have hI:imgB m ((j:Int)+1)=(m.bs[j].1,imgS ((j:Int)+1) m.ds m.bs[j].2.1,m.bs[j].2.2):=by
   exact cQ139
  rw [hI];clear hib hI;obtain ⟨qa,qc,qe,-,qh⟩:=HH.out.d.k;simp only [Value.slice.injEq,true_and] at qe;obtain ⟨rfl,rfl⟩:=qe;obtain ⟨g2,o2,⟨t0,t1,t2⟩,rfl,hg2,r0,r1,r2,e0,rr,e1⟩:=qh j hj;have hio:=HM.out.bb _ (List.getElem_mem hj);obtain ⟨⟨kd,ps,ln⟩,hX⟩:∃ X,m.bs[j]=X:=⟨_,rfl⟩
  rw [hX] at e0 e1 rr hio;rw [hX];simp only at e0 e1 rr r0 r1 r2;subst e0 e1;obtain ⟨sa,sc,rfl,-⟩:=id rr;have HRR:=hide rr;have bW:=(HW0.out _ bR).1;have y0:=(bW.cell (p:=⟨g2,o2+j * 3,none⟩) hg2).trans r0;have y1:=(bW.cell (p:=⟨g2,o2+j * 3+1,none⟩) hg2).trans r1;have y2:=(bW.cell (p:=⟨g2,o2+j * 3+2,none⟩) hg2).trans r2;have j0:(0:Int)<=(j:Int):=by omega
  have j1:(j:Int) < (m.bs.length:Int):=by omega
  have hpl:ps.length<=4:=hio.m;clear qh hX hio rr bW r0 r1 r2;go_enter Tryz.func11,Tryz.ntmps11
  go_wp2_with fail
  rw [HE8.out];refine (zaj ((j:Int)+1) 1 16 _).mono ?_;rintro e w3 ⟨rfl,rfl⟩;rw [HIB.out];go_wp2_with fail
  refine (zfj kd ln _ ps _ (HRR.out.below (HW0.out _ bR).1 nR) (by omega)).mono ?_;rintro e w1 ⟨uu,rfl,O1,B1⟩;obtain ⟨s1,t1,rfl,-⟩:=O1.form;have k1:=HW0.out w1 B1;have HW1:=hide k1;have HO1:Hid (∀ k,(Value.slice s1 ps.length t1).ownBlock=some k->w.heap.size+2<=k/\k < w1.heap.size):=fun k hk=>by have:=O1.lt k hk;simp at this;exact this
  have HP0:Hid (SOwns (w1.alloc (.cells #[.bool kd,.slice s1 ps.length t1,.string ln] 44)) w.heap.size 49 (.slice s1 ps.length t1) ps):=(O1.base_le (by simp;omega)).alloc _;have HA5:Hid (AtC (w1.alloc (.cells #[.bool kd,.slice s1 ps.length t1,.string ln] 44)) w1.heap.size 44 #[.bool kd,.slice s1 ps.length t1,.string ln]):=AtC.new w1 44 _;have HS:Hid (∀ W,Chg (fun k=>(Value.slice s1 ps.length t1).ownBlock=some k) (w1.alloc (.cells #[.bool kd,.slice s1 ps.length t1,.string ln] 44)) W->Below w.heap.size w W/\AtC W (w.heap.size+1) 44 #[.bool false,.slice none 0 0,.string ⟨#[]⟩]/\AtC W w.heap.size 33 #[.slice a1 m.xs.length c1,.slice a2 m.ys.length c2,.slice a3 m.is.length c3,.slice (some ⟨g2,o2,none⟩) m.bs.length c4,.slice a5 m.fs.length c5,.slice a6 m.ds.length c6,.int .i64 m.nx]/\AtC W w1.heap.size 44 #[.bool kd,.slice s1 ps.length t1,.string ln]):=fun W hc=>by
   have z:=HW1.out.2.2.2;have b3:Below w1.heap.size w1 (w1.alloc (.cells #[.bool kd,.slice s1 ps.length t1,.string ln] 44)):=(Below.refl _ w1).alloc nR _;have lo:∀ k,k < w.heap.size+2->W.heap[k]?=w1.heap[k]?:=fun k hk=>(hc.block k (by simp;omega) (fun e=>by have:=(HO1.out k e).1;omega)).trans (b3.block k (by omega));refine ⟨⟨?_,?_,?_,?_,fun k hk=>(lo k (by omega)).trans (HW1.out.1.block k hk)⟩,(lo _ (by omega)).trans HW1.out.2.1,(lo _ (by omega)).trans HW1.out.2.2.1,(hc.block _ (by simp) (fun e=>by have:=(HO1.out _ e).2;omega)).trans HA5.out⟩
   ·exact hc.os.trans HW1.out.1.os
   ·exact hc.tape.trans HW1.out.1.tape
   ·exact hc.output.trans HW1.out.1.output
   ·have:=hc.size;simp at this;omega
  clear O1 B1 k1 x2 y0 y1 y2;go_wp2_with fail
  generalize hb5:w1.heap.size=b5 at *;clear hb5;generalize w1.alloc (.cells #[.bool kd,.slice s1 ps.length t1,.string ln] 44)=W2 at *;obtain ⟨a,c,ei,-,hc⟩:=HH.out.p.dep;simp only [Value.slice.injEq,true_and] at ei;obtain ⟨rfl,rfl⟩:=ei;have HC:=hide hc;clear hc;go_loopw [6] (fun i' wr=>∃ q:Nat,q<=m.ds.length/\i'=.int .i64 q/\Hid (SOwns wr w.heap.size 49 (.slice s1 ps.length t1) (imgS ((j:Int)+1) (m.ds.take q) ps)/\Chg (fun k=>(Value.slice s1 ps.length t1).ownBlock=some k) W2 wr)) (fun i' _=>m.ds.length - (intOf i').toNat)
  case atStart=>exact ⟨0,Nat.zero_le _,rfl,HP0.out,Chg.refl _ _⟩
  case round =>
   obtain ⟨q,hq,rfl,HR⟩:=hrel;obtain ⟨hbw,hres,hmb,h5⟩:=HS.out wr HR.out.2;have x5:=hmb.c5;by_cases hlt:q < m.ds.length
   ·obtain ⟨g6,o6,p,rfl,hg6,nn,hp⟩:=HC.out q hlt;have hdk:=HM.out.dd _ (List.getElem_mem hlt);have hsn:=zji ((j:Int)+1) m.ds ps q hlt;obtain ⟨X,hX⟩:∃ X,m.ds[q]=X:=⟨_,rfl⟩
    rw [hX] at nn hp hdk hsn;obtain ⟨id,kk,io,pt,bk,sl,nm,bt,ot,af,bl⟩:=X;simp only at hp;obtain ⟨pa,pc,rfl,-⟩:=hp;simp only [DCells] at nn;obtain ⟨m0,m1,m2,m3,m4,m5,m6,m7,m8,m9,m10⟩:=nn;have k0:wr.cell? ⟨g6,o6+q * 11,none⟩=some (.int .i64 id):=(hbw.cell (p:=⟨g6,o6+q * 11,none⟩) hg6).trans m0;have k1:wr.cell? ⟨g6,o6+q * 11+1,none⟩=some (.int .i64 kk):=(hbw.cell (p:=⟨g6,o6+q * 11+1,none⟩) hg6).trans m1;have k2:wr.cell? ⟨g6,o6+q * 11+2,none⟩=some (.int .i64 io):=(hbw.cell (p:=⟨g6,o6+q * 11+2,none⟩) hg6).trans m2;have k3:wr.cell? ⟨g6,o6+q * 11+3,none⟩=some (.int .i64 pt):=(hbw.cell (p:=⟨g6,o6+q * 11+3,none⟩) hg6).trans m3;have k4:wr.cell? ⟨g6,o6+q * 11+4,none⟩=some (.int .i64 bk):=(hbw.cell (p:=⟨g6,o6+q * 11+4,none⟩) hg6).trans m4;have k5:wr.cell? ⟨g6,o6+q * 11+5,none⟩=some (.int .i64 sl):=(hbw.cell (p:=⟨g6,o6+q * 11+5,none⟩) hg6).trans m5;have k6:wr.cell? ⟨g6,o6+q * 11+6,none⟩=some (.string nm):=(hbw.cell (p:=⟨g6,o6+q * 11+6,none⟩) hg6).trans m6;have k7:wr.cell? ⟨g6,o6+q * 11+7,none⟩=some (.bool bt):=(hbw.cell (p:=⟨g6,o6+q * 11+7,none⟩) hg6).trans m7;have k8:wr.cell? ⟨g6,o6+q * 11+8,none⟩=some (.bool ot):=(hbw.cell (p:=⟨g6,o6+q * 11+8,none⟩) hg6).trans m8;have k9:wr.cell? ⟨g6,o6+q * 11+9,none⟩=some (.int .i64 af):=(hbw.cell (p:=⟨g6,o6+q * 11+9,none⟩) hg6).trans m9;have k10:wr.cell? ⟨g6,o6+q * 11+10,none⟩=some (.slice pa bl.length pc):=(hbw.cell (p:=⟨g6,o6+q * 11+10,none⟩) hg6).trans m10;have hpt0:0<=sl:=hdk.sl.1;have hpt1:sl<=3:=hdk.sl.2;obtain ⟨t,rfl⟩:∃ t:Nat,sl=(t:Int):=⟨sl.toNat,by omega⟩
    have HSN:=hide hsn;have q0:(0:Int)<=(q:Int):=by omega
    have q1:(q:Int) < (m.ds.length:Int):=by omega
    have b1:Below wr.heap.size wr (wr.alloc (.cells #[.int .i64 id,.int .i64 kk,.int .i64 io,.int .i64 pt,.int .i64 bk,.int .i64 (t:Int),.string nm,.bool bt,.bool ot,.int .i64 af,.slice pa bl.length pc] 41)):=(Below.refl _ wr).alloc nR _;have HA:Hid (SOwns (wr.alloc (.cells #[.int .i64 id,.int .i64 kk,.int .i64 io,.int .i64 pt,.int .i64 bk,.int .i64 (t:Int),.string nm,.bool bt,.bool ot,.int .i64 af,.slice pa bl.length pc] 41)) w.heap.size 49 (.slice s1 ps.length t1) (imgS ((j:Int)+1) (m.ds.take q) ps)/\Chg (fun k=>(Value.slice s1 ps.length t1).ownBlock=some k) W2 (wr.alloc (.cells #[.int .i64 id,.int .i64 kk,.int .i64 io,.int .i64 pt,.int .i64 bk,.int .i64 (t:Int),.string nm,.bool bt,.bool ot,.int .i64 af,.slice pa bl.length pc] 41))/\AtC (wr.alloc (.cells #[.int .i64 id,.int .i64 kk,.int .i64 io,.int .i64 pt,.int .i64 bk,.int .i64 (t:Int),.string nm,.bool bt,.bool ot,.int .i64 af,.slice pa bl.length pc] 41)) wr.heap.size 41 #[.int .i64 id,.int .i64 kk,.int .i64 io,.int .i64 pt,.int .i64 bk,.int .i64 (t:Int),.string nm,.bool bt,.bool ot,.int .i64 af,.slice pa bl.length pc]):=⟨HR.out.1.alloc _,HR.out.2.trans (Chg.of_below b1),AtC.new wr 41 _⟩
    have HGB:Hid (∀ k,(Value.slice s1 ps.length t1).ownBlock=some k->k < wr.heap.size):=fun k hk=>(HR.out.1.lt k hk).2;clear m0 m1 m2 m3 m4 m5 m6 m7 m8 m9 m10 hdk hX hbw hres hmb h5 hsn b1;go_upto_region 8 with fail
    generalize hbd:wr.heap.size=bd at *;clear hbd HR k0 k1 k2 k3 k4 k5 k6 k7 k8 k9 k10 x5;generalize wr.alloc (.cells #[.int .i64 id,.int .i64 kk,.int .i64 io,.int .i64 pt,.int .i64 bk,.int .i64 (t:Int),.string nm,.bool bt,.bool ot,.int .i64 af,.slice pa bl.length pc] 41)=wA at *;have h5:=(HS.out wA HA.out.2.1).2.2.2;have d1:=HA.out.2.2.c1;have d2:=HA.out.2.2.c2;have d4:=HA.out.2.2.c4;have d5:=HA.out.2.2.c5;have d6:=HA.out.2.2.c6;have d9:=HA.out.2.2.c9;have f2:=h5.c1;clear h5;have t0:(0:Int)<=(t:Int):=by omega
    have t0n:decide ((t:Int) < 0)=false:=decide_eq_false (by omega);go_cut [52] from 24 to 79 (fun c wx=>c=.bool (decide (¬ (bk=(j:Int)+1/\t < ps.length)))/\wA=wx)
    case first =>
     by_cases hk:bk=(j:Int)+1
     ·subst hk;by_cases ht:t < ps.length
      ·have ht1:¬ ((ps.length:Int)<=(t:Int)):=by omega
       go_wp2_with fail
       go_meet
       exact ⟨by simp [ht],rfl⟩
      ·have ht1:(ps.length:Int)<=(t:Int):=by omega
       go_wp2_with fail
       go_meet
       exact ⟨by simp [ht],rfl⟩
     ·have hkb:(bk != (j:Int)+1)=true:=by simp [hk]
      go_wp2_with fail
      go_meet
      exact ⟨by simp [hk],rfl⟩
    case rest =>
     obtain ⟨rfl,rfl⟩:=hcut;by_cases hd:bk=(j:Int)+1/\t < ps.length
     ·rw [decide_eq_false (fun e=>e hd)];obtain ⟨rfl,ht⟩:=hd;have t2:(t:Int) < (ps.length:Int):=by omega
      obtain ⟨g,cap,e9,kq9,kq10,hf9,-⟩:=HA.out.1.at t (by rw [zaz];exact ht);rw [zaz] at e9;simp only [Value.slice.injEq,true_and] at e9;obtain ⟨rfl,rfl⟩:=e9;obtain ⟨rv,k9⟩:∃ rv,wA.cell? ⟨g,t * 2,none⟩=some rv:=⟨_,kq9⟩
      obtain ⟨rv2,k10⟩:∃ rv,wA.cell? ⟨g,t * 2+1,none⟩=some rv:=⟨_,kq10⟩
      have f9:=hf9 (t * 2);have f10:=hf9 (t * 2+1);clear kq9 kq10 hf9;have HN:Hid (∀ (nm2:ByteArray) (io2:Int),SOwns ((wA.setCell ⟨g,t * 2,none⟩ (.string nm2)).setCell ⟨g,t * 2+1,none⟩ (.int .i64 io2)) w.heap.size 49 (.slice (some ⟨g,0,none⟩) ps.length t1) ((imgS ((j:Int)+1) (m.ds.take q) ps).set t (nm2,io2))/\Chg (fun k=>(Value.slice (some ⟨g,0,none⟩) ps.length t1).ownBlock=some k) W2 ((wA.setCell ⟨g,t * 2,none⟩ (.string nm2)).setCell ⟨g,t * 2+1,none⟩ (.int .i64 io2))):=fun nm2 io2=>by
       have hl:(imgS ((j:Int)+1) (m.ds.take q) ps).length=ps.length:=zaz _ _ _;have z:=SOwns.set_both (l:=imgS ((j:Int)+1) (m.ds.take q) ps) (g:=g) (cap:=t1) (by rw [hl];exact HA.out.1) t (by rw [hl];exact ht) nm2 io2;rw [hl] at z;exact ⟨z.1,(HA.out.2.1.setCell rfl _).setCell rfl _⟩
      have HQ:Hid (SOwns wA w.heap.size 49 (.slice (some ⟨g,0,none⟩) ps.length t1) (imgS ((j:Int)+1) (m.ds.take q) ps)/\Chg (fun k=>(Value.slice (some ⟨g,0,none⟩) ps.length t1).ownBlock=some k) W2 wA):=⟨HA.out.1,HA.out.2.1⟩
      have HSN2:Hid (imgS ((j:Int)+1) (m.ds.take (q+1)) ps=if kk=2 then (imgS ((j:Int)+1) (m.ds.take q) ps).set t (⟨#[]⟩,0) else if kk=4/\0 < af then (imgS ((j:Int)+1) (m.ds.take q) ps).set t (nm,io) else imgS ((j:Int)+1) (m.ds.take q) ps):=by
       have:=HSN.out;unfold stepS at this;rw [if_pos ⟨rfl,by rw [zaz];exact ht⟩] at this;exact this
      have HABD:=hide HA.out.2.2;clear HSN HA;by_cases h2:kk=2
      ·subst h2;have HE:=HSN2.out;rw [if_pos rfl] at HE;have HNN:Hid (SOwns ((wA.setCell ⟨g,t * 2,none⟩ (.string ⟨#[]⟩)).setCell ⟨g,t * 2+1,none⟩ (.int .i64 0)) w.heap.size 49 (.slice (some ⟨g,0,none⟩) ps.length t1) (imgS ((j:Int)+1) (m.ds.take (q+1)) ps)/\Chg (fun k=>(Value.slice (some ⟨g,0,none⟩) ps.length t1).ownBlock=some k) W2 ((wA.setCell ⟨g,t * 2,none⟩ (.string ⟨#[]⟩)).setCell ⟨g,t * 2+1,none⟩ (.int .i64 0))):=by rw [HE];exact HN.out _ _
       have dd1:((wA.setCell ⟨g,t * 2,none⟩ (.string ⟨#[]⟩)).setCell ⟨g,t * 2+1,none⟩ (.int .i64 0)).cell? ⟨bd,1,none⟩=some (.int .i64 2):=(((HABD.out.other (by have:=HGB.out g rfl;omega) _).other (by have:=HGB.out g rfl;omega) _)).cell 1;clear HSN2 HE HN HQ;go_wp2;go_roundw
       case rel=>exact ⟨q+1,by omega,by go_num,HNN.out⟩
       case measure=>simp [intOf];omega
      ·have h2b:(kk == 2)=false:=by simp [h2]
       by_cases h4:kk=4
       ·subst h4;by_cases ha:0 < af
        ·have HE:=HSN2.out;rw [if_neg h2,if_pos ⟨rfl,ha⟩] at HE;have HNN:Hid (SOwns ((wA.setCell ⟨g,t * 2,none⟩ (.string nm)).setCell ⟨g,t * 2+1,none⟩ (.int .i64 io)) w.heap.size 49 (.slice (some ⟨g,0,none⟩) ps.length t1) (imgS ((j:Int)+1) (m.ds.take (q+1)) ps)/\Chg (fun k=>(Value.slice (some ⟨g,0,none⟩) ps.length t1).ownBlock=some k) W2 ((wA.setCell ⟨g,t * 2,none⟩ (.string nm)).setCell ⟨g,t * 2+1,none⟩ (.int .i64 io))):=by rw [HE];exact HN.out _ _
         clear HSN2 HE HN HQ;go_wp2;go_roundw
         case rel=>exact ⟨q+1,by omega,by go_num,HNN.out⟩
         case measure=>simp [intOf];omega
        ·have HE:=HSN2.out;rw [if_neg h2,if_neg (fun e=>ha e.2)] at HE;rw [← HE] at HQ;clear HSN2 HE HN;go_wp2;go_roundw
         case rel=>exact ⟨q+1,by omega,by go_num,HQ.out⟩
         case measure=>simp [intOf];omega
       ·have h4b:(kk == 4)=false:=by simp [h4]
        have HE:=HSN2.out;rw [if_neg h2,if_neg (fun e=>h4 e.1)] at HE;rw [← HE] at HQ;clear HSN2 HE HN;go_wp2;go_roundw
        case rel=>exact ⟨q+1,by omega,by go_num,HQ.out⟩
        case measure=>simp [intOf];omega
     ·rw [decide_eq_true hd];have HN:Hid (SOwns wA w.heap.size 49 (.slice s1 ps.length t1) (imgS ((j:Int)+1) (m.ds.take (q+1)) ps)/\Chg (fun k=>(Value.slice s1 ps.length t1).ownBlock=some k) W2 wA):=by
       have:=HSN.out;unfold stepS at this;rw [if_neg (fun e=>hd ⟨e.1,by have:=e.2;rw [zaz] at this;exact this⟩)] at this;rw [this];exact ⟨HA.out.1,HA.out.2.1⟩
      exact cQ108
   ·have hq2:q=m.ds.length:=by omega
    have f0:=h5.c0;have f1:=h5.c2;have f2:=h5.c1;have s0:=hres.c0;have z0:=hres.frozen 0;have s1':=hres.c1;have z1:=hres.frozen 1;have s2:=hres.c2;have z2:=hres.frozen 2;have HF:Hid (SOwns (((wr.setCell ⟨w.heap.size+1,0,none⟩ (.bool kd)).setCell ⟨w.heap.size+1,1,none⟩ (.slice s1 ps.length t1)).setCell ⟨w.heap.size+1,2,none⟩ (.string ln)) w.heap.size 49 (.slice s1 ps.length t1) (imgS ((j:Int)+1) m.ds ps)/\Below w.heap.size w (((wr.setCell ⟨w.heap.size+1,0,none⟩ (.bool kd)).setCell ⟨w.heap.size+1,1,none⟩ (.slice s1 ps.length t1)).setCell ⟨w.heap.size+1,2,none⟩ (.string ln))):=by
     exact cQ38
    clear hbw hres hmb h5 HR hq2;go_wp2;refine bodyPost_ret (v:=.agg #[.bool kd,.slice s1 ps.length t1,.string ln]) (by simp [results,go_sem,s0,s1',s2]) rfl ⟨_,rfl,HF.out⟩
namespace Kit
variable {Z : ZT}
def DBx (w:World) (lo b:Nat) (u v iv bv:Value) (xs ys:List Bool):Prop:=∃ (S:Nat->Prop) (is:List Ino) (bs:List Blk),AtC w b 30 #[u,v,iv,bv]/\DO w S u v iv bv xs ys is bs/\(∀ k,S k->lo < k/\k≠b)/\is.length=8/\bs.length=16/\(∀ (j:Nat) (h:j < bs.length),bigB 1048576 bs[j])
theorem DBx.below {w w':World}{lo b:Nat}{u v iv bv:Value}{xs ys:List Bool}(h:DBx w lo b u v iv bv xs ys)(hb:Below w.heap.size w w'):DBx w' lo b u v iv bv xs ys:=by
 obtain ⟨S,is,bs,h1,h2,h3⟩:=h;exact ⟨S,is,bs,h1.over hb,h2.below hb nR,h3⟩
theorem bigB_set {l:List Blk}{n:Nat}(h:∀ (j:Nat) (h:j < l.length),bigB n l[j]){j:Nat}{x:Blk}(hx:bigB n x)(i:Nat)(hi:i < (l.set j x).length):bigB n (l.set j x)[i]:=by
 rw [List.getElem_set]
 split
 ·exact hx
 ·exact h i (by simpa using hi)
theorem imgS_ok (p:Int)(ds:List Dp)(hd:∀ d∈ds,DOk d)(ss:List Sl)(hs:∀ s∈ss,SOk s):∀ s∈imgS p ds ss,SOk s:=by
 induction ds generalizing ss with
 | nil=>exact hs
 | cons d ds ih =>
  have:imgS p (d :: ds) ss=imgS p ds (stepS p ss d):=rfl;rw [this];refine ih (fun x hx=>hd x (List.mem_cons_of_mem _ hx)) _ fun s hx=>?_;have hdo:=hd d (List.mem_cons_self);unfold stepS at hx
  split at hx
  ·split at hx
   ·rcases List.mem_or_eq_of_mem_set hx with e | e
    ·exact hs s e
    ·subst e;exact ⟨Nat.zero_le _,.inl ⟨rfl,rfl⟩⟩
   ·split at hx
    ·rcases List.mem_or_eq_of_mem_set hx with e | e
     ·exact hs s e
     ·subst e;exact ⟨hdo.nm,.inr hdo.io⟩
    ·exact hs s hx
  ·exact hs s hx
theorem imgB_ok {m:MD}(h:Sh Z m)(p:Int):KOk (imgB m p):=by
 unfold imgB
 split
 ·rename_i hp;have hq:=zao hp;have hl:(p - 1).toNat < m.bs.length:=by rw [h.b];omega
  have e:m.bs.getD (p - 1).toNat (false,[],⟨#[]⟩)=m.bs[(p - 1).toNat]:=by rw [List.getD_eq_getElem?_getD,List.getElem?_eq_getElem hl];rfl
  have hk:=h.bb _ (List.getElem_mem hl);rw [e];exact ⟨fun q=>by rw [zaz];exact hk.n q,by rw [zaz];exact hk.m,imgS_ok p m.ds h.dd _ hk.s,hk.t⟩
 ·exact ⟨fun q=>absurd q (by decide),by decide,fun s hs=>absurd hs (by simp),by decide⟩
end Kit
variable {Z : ZT}
theorem zh4 (u v iv bv dv pv:Value)(m:MD)(x:Int)(w:World)(h:MR w u v iv bv dv pv m)(hm:Sh Z m) :
  Calls Tryz.prog 68 #[.agg #[u,v,iv,bv,dv,pv,.int .i64 m.nx],.int .i64 x] w fun e w'=>(∃ (s:ByteArray) (r:Bool),e=.returned (.tuple #[.string s,.bool r])/\s.size<=60/\(r=true->0<=x/\x<=20))/\Below w.heap.size w w':=by
 obtain ⟨a1,c1,a2,c2,a3,c3,a4,c4,a5,c5,a6,c6,rfl,rfl,rfl,rfl,rfl,rfl⟩:=h.form;have HH:=hide h;have HM:=hide hm;have hdl:m.ds.length<=40:=hm.l;have HW:Hid (∀ W,Below (w.alloc (.cells #[.slice a1 m.xs.length c1,.slice a2 m.ys.length c2,.slice a3 m.is.length c3,.slice a4 m.bs.length c4,.slice a5 m.fs.length c5,.slice a6 m.ds.length c6,.int .i64 m.nx] 33)).heap.size (w.alloc (.cells #[.slice a1 m.xs.length c1,.slice a2 m.ys.length c2,.slice a3 m.is.length c3,.slice a4 m.bs.length c4,.slice a5 m.fs.length c5,.slice a6 m.ds.length c6,.int .i64 m.nx] 33)) W->Below w.heap.size w W/\AtC W w.heap.size 33 #[.slice a1 m.xs.length c1,.slice a2 m.ys.length c2,.slice a3 m.is.length c3,.slice a4 m.bs.length c4,.slice a5 m.fs.length c5,.slice a6 m.ds.length c6,.int .i64 m.nx]/\w.heap.size+1<=W.heap.size):=fun W bb=>⟨((Below.refl _ w).alloc nR _).trans (bb.mono (by simp)),(AtC.new w 33 _).over bb,by have:=bb.size;simp at this;exact this⟩
 have x0:=(AtC.new w 33 #[.slice a1 m.xs.length c1,.slice a2 m.ys.length c2,.slice a3 m.is.length c3,.slice a4 m.bs.length c4,.slice a5 m.fs.length c5,.slice a6 m.ds.length c6,.int .i64 m.nx]).c0;have x1:=(AtC.new w 33 #[.slice a1 m.xs.length c1,.slice a2 m.ys.length c2,.slice a3 m.is.length c3,.slice a4 m.bs.length c4,.slice a5 m.fs.length c5,.slice a6 m.ds.length c6,.int .i64 m.nx]).c1;have x2:=(AtC.new w 33 #[.slice a1 m.xs.length c1,.slice a2 m.ys.length c2,.slice a3 m.is.length c3,.slice a4 m.bs.length c4,.slice a5 m.fs.length c5,.slice a6 m.ds.length c6,.int .i64 m.nx]).c2;have x3:=(AtC.new w 33 #[.slice a1 m.xs.length c1,.slice a2 m.ys.length c2,.slice a3 m.is.length c3,.slice a4 m.bs.length c4,.slice a5 m.fs.length c5,.slice a6 m.ds.length c6,.int .i64 m.nx]).c3;have x4:=(AtC.new w 33 #[.slice a1 m.xs.length c1,.slice a2 m.ys.length c2,.slice a3 m.is.length c3,.slice a4 m.bs.length c4,.slice a5 m.fs.length c5,.slice a6 m.ds.length c6,.int .i64 m.nx]).c4;have x5:=(AtC.new w 33 #[.slice a1 m.xs.length c1,.slice a2 m.ys.length c2,.slice a3 m.is.length c3,.slice a4 m.bs.length c4,.slice a5 m.fs.length c5,.slice a6 m.ds.length c6,.int .i64 m.nx]).c5;have x6:=(AtC.new w 33 #[.slice a1 m.xs.length c1,.slice a2 m.ys.length c2,.slice a3 m.is.length c3,.slice a4 m.bs.length c4,.slice a5 m.fs.length c5,.slice a6 m.ds.length c6,.int .i64 m.nx]).c6;have CM:Hid (∀ W,Below w.heap.size w W->Calls Tryz.prog 90 #[.agg #[.slice a1 m.xs.length c1,.slice a2 m.ys.length c2,.slice a3 m.is.length c3,.slice a4 m.bs.length c4,.slice a5 m.fs.length c5,.slice a6 m.ds.length c6,.int .i64 m.nx]] W fun e w'=>AnyB e/\Below W.heap.size W w'):=fun W bb=>zbo _ _ _ _ _ _ m W (HH.out.below bb nR) HM.out;clear h hm;go_enter Tryz.func68,Tryz.ntmps68
 go_upto_region 1 with fail
 generalize hW0:(w.alloc (.cells #[.slice a1 m.xs.length c1,.slice a2 m.ys.length c2,.slice a3 m.is.length c3,.slice a4 m.bs.length c4,.slice a5 m.fs.length c5,.slice a6 m.ds.length c6,.int .i64 m.nx] 33))=W0 at *;clear hW0;go_cut [16] from 9 to 16 (fun c wx=>(∃ r,c=.bool r/\(r=false->0<=x/\x<=20))/\Below W0.heap.size W0 wx)
 case first =>
  go_wp2_with (first | (go_at_call 90;refine (CM.out _ (HW.out _ bR).1).mono ?_;rintro e w2 ⟨⟨r,rfl⟩,B2⟩;have HB2:=hide B2;clear B2;cases r) | (go_at_call 20;refine (zaj x 0 20 _).mono ?_;rintro e w3 ⟨rfl,rfl⟩;have HIB:Hid (inB x 0 20=true->0<=x/\x<=20):=zao;generalize inB x 0 20=ri at *;cases ri))
  all_goals (go_meet;first | exact ⟨⟨_,rfl,fun _=>HIB.out rfl⟩,HB2.out⟩ | exact ⟨⟨_,rfl,fun _=>HIB.out⟩,HB2.out⟩ | exact ⟨⟨_,rfl,fun _=>HIB.out trivial⟩,HB2.out⟩ | exact ⟨⟨_,rfl,fun e=>absurd e (by decide)⟩,HB2.out⟩)
 case rest =>
  obtain ⟨⟨r,rfl,hxr⟩,hbw⟩:=hcut;obtain ⟨w2,rfl⟩:∃ w2,w2=wc:=⟨wc,rfl⟩
  have k2:=HW.out w2 hbw;have HK2:=hide k2;clear x0 x1 x2 x3 x4 x5 x6 hbw
  cases r
  case true =>
   clear k2;go_wp2
   go_ret2
   exact ⟨⟨_,_,rfl,by decide,fun e=>absurd e (by decide)⟩,HK2.out.1⟩
  case false =>
   have HX:Hid (0<=x/\x<=20):=hxr rfl;clear hxr;obtain ⟨y0,y1,y2,y3⟩:=AtC.four k2.2.1;clear k2;go_wp2_with fail
   refine (zb2 _ _ _ _ m.xs m.ys m.is m.bs w2 (HH.out.below HK2.out.1 nR).d HM.out.big.d).mono ?_;rintro e w3 ⟨u1,u2,u3,u4,rfl,O3,B3⟩;obtain ⟨b1,d1,b2,d2,b3,d3,b4,d4,rfl,rfl,rfl,rfl⟩:=O3.dr.form;have hz2:=HK2.out.2.2;have HN:Hid (DBx (w3.alloc (.cells #[.slice b1 m.xs.length d1,.slice b2 m.ys.length d2,.slice b3 m.is.length d3,.slice b4 m.bs.length d4] 30)) w.heap.size w3.heap.size (.slice b1 m.xs.length d1) (.slice b2 m.ys.length d2) (.slice b3 m.is.length d3) (.slice b4 m.bs.length d4) m.xs m.ys):=⟨_,m.is,m.bs,AtC.new w3 30 _,O3.bound.alloc _,fun k hk=>⟨by have:=hk.1;omega,by have:=hk.2;omega⟩,HM.out.i,HM.out.b,fun j hj=>zex (HM.out.bb _ (List.getElem_mem hj))⟩
   have HT:Hid (∀ W,Chg (fun k=>w.heap.size < k/\k≠w3.heap.size) (w3.alloc (.cells #[.slice b1 m.xs.length d1,.slice b2 m.ys.length d2,.slice b3 m.is.length d3,.slice b4 m.bs.length d4] 30)) W->Below w.heap.size w W/\AtC W w.heap.size 33 #[.slice a1 m.xs.length c1,.slice a2 m.ys.length c2,.slice a3 m.is.length c3,.slice a4 m.bs.length c4,.slice a5 m.fs.length c5,.slice a6 m.ds.length c6,.int .i64 m.nx]/\w3.heap.size+1<=W.heap.size):=fun W hc=>by
    have b3:Below w2.heap.size w2 (w3.alloc (.cells #[.slice b1 m.xs.length d1,.slice b2 m.ys.length d2,.slice b3 m.is.length d3,.slice b4 m.bs.length d4] 30)):=B3.alloc B3.size _;have hz3:=B3.size;have lo:∀ k,k<=w.heap.size->W.heap[k]?=w2.heap[k]?:=fun k hk=>(hc.block k (by simp;omega) (fun e=>by omega)).trans (b3.block k (by omega));refine ⟨⟨hc.os.trans (b3.os.trans HK2.out.1.os),hc.tape.trans (b3.tape.trans HK2.out.1.tape),hc.output.trans (b3.output.trans HK2.out.1.output),by have:=hc.size;simp at this;omega,fun k hk=>(lo k (by omega)).trans (HK2.out.1.block k hk)⟩,(lo _ nR).trans HK2.out.2.1,by have:=hc.size;simp at this;exact this⟩
   have HB6:Hid (w.heap.size < w3.heap.size):=by have:=B3.size;show _ < _;omega
   obtain ⟨gi,hgi⟩:∃ gi,b3=some ⟨gi,0,none⟩:=by
    obtain ⟨S1,S2,S3,ti,tb,-,-,z,-⟩:=O3;obtain ⟨g,cap,e,-⟩:=z.row.at 0 (by rw [z.len,HM.out.i];decide);simp only [Value.slice.injEq] at e;exact ⟨g,e.1⟩
   obtain ⟨gb,hgb⟩:∃ gb,b4=some ⟨gb,0,none⟩:=by
    obtain ⟨S1,S2,S3,ti,tb,-,-,-,z,-⟩:=O3;obtain ⟨g,cap,e,-⟩:=z.row.at 0 (by rw [z.len,HM.out.b];decide);simp only [Value.slice.injEq] at e;exact ⟨g,e.1⟩
   subst hgi hgb;clear O3 B3 y0 y1 y2 y3;go_wp2_with fail
   generalize hb6:w3.heap.size=b6 at *;clear hb6;generalize w3.alloc (.cells #[.slice b1 m.xs.length d1,.slice b2 m.ys.length d2,.slice (some ⟨gi,0,none⟩) m.is.length d3,.slice (some ⟨gb,0,none⟩) m.bs.length d4] 30)=W3 at *;go_loopw [7] (fun i' wr=>∃ j:Nat,j<=8/\i'=.int .i64 ((j:Int)+1)/\Hid (DBx wr w.heap.size b6 (.slice b1 m.xs.length d1) (.slice b2 m.ys.length d2) (.slice (some ⟨gi,0,none⟩) m.is.length d3) (.slice (some ⟨gb,0,none⟩) m.bs.length d4) m.xs m.ys/\Chg (fun k=>w.heap.size < k/\k≠b6) W3 wr)) (fun i' _=>8+1 - (intOf i').toNat)
   case atStart=>exact ⟨0,Nat.zero_le _,rfl,HN.out,Chg.refl _ _⟩
   case round =>
    obtain ⟨j,hj,rfl,HR⟩:=hrel;by_cases hlt:j < 8
    ·have j0:(0:Int)<=(j:Int):=by omega
     have j1:(j:Int) < 8:=by omega
     have j2:(j:Int)+1<=8:=by omega
     have j4:(j:Int) < (m.is.length:Int):=by rw [HM.out.i];omega
     have hwj:IntKind.i64.wrap (j:Int)=(j:Int):=wrap_small _ (by omega) (by omega);go_upto_region 7 with fail
     have HAL:Hid (∀ W,Below wr.heap.size wr W->W.cell? ⟨b6,2,none⟩=some (.slice (some ⟨gi,0,none⟩) m.is.length d3)/\AtC W w.heap.size 33 #[.slice a1 m.xs.length c1,.slice a2 m.ys.length c2,.slice a3 m.is.length c3,.slice a4 m.bs.length c4,.slice a5 m.fs.length c5,.slice a6 m.ds.length c6,.int .i64 m.nx]/\(∃ r0,W.cell? ⟨gi,j * 3,none⟩=some r0)/\(∃ r1,W.cell? ⟨gi,j * 3+1,none⟩=some r1)/\(∃ r2,W.cell? ⟨gi,j * 3+2,none⟩=some r2)/\(∀ k,W.frozen? ⟨gi,k,none⟩=false)/\Below w.heap.size w W):=fun W bb=>by
      obtain ⟨S,is,bs,z1,z2,z3,z4,z5,z6⟩:=HR.out.1.below bb;have c2:=HR.out.2.trans (Chg.of_below bb);obtain ⟨⟨q0,q1,q2,q3,q4,q5,-⟩,q6,-⟩:=z2.atI rfl j (by rw [z4];omega);exact ⟨z1.cell 2,(HT.out W c2).2.1,⟨_,q3⟩,⟨_,q4⟩,⟨_,q5⟩,q6,(HT.out W c2).1⟩
     obtain ⟨x1,xm,-,-,-,-,-⟩:=HAL.out wr bR;obtain ⟨m0,m1,m2,m3,m4,m5,m6⟩:=AtC.sev xm;have HREL:Hid (∀ w9 v9,Below wr.heap.size wr w9->ROwns w9 wr.heap.size 3 v9 (ic (imgI m ((j:Int)+1)).2.2)->DBx (set3 w9 gi j (.int .i64 (imgI m ((j:Int)+1)).1,.int .i64 (imgI m ((j:Int)+1)).2.1,v9)) w.heap.size b6 (.slice b1 m.xs.length d1) (.slice b2 m.ys.length d2) (.slice (some ⟨gi,0,none⟩) m.is.length d3) (.slice (some ⟨gb,0,none⟩) m.bs.length d4) m.xs m.ys/\Chg (fun k=>w.heap.size < k/\k≠b6) W3 (set3 w9 gi j (.int .i64 (imgI m ((j:Int)+1)).1,.int .i64 (imgI m ((j:Int)+1)).2.1,v9))):=fun w9 v9 bb o9=>by
      obtain ⟨S,is,bs,z1,z2,z3,z4,z5,z6⟩:=HR.out.1;have hz:=HR.out.2.size;have hzb:=z1.lt;have hb6:=HB6.out;obtain ⟨-,-,-,-,sg⟩:=z2.atI rfl j (by rw [z4];omega);have sg:=z3 _ sg;have P:=z2.putI rfl j (by rw [z4];omega) (.int .i64 (imgI m ((j:Int)+1)).1,.int .i64 (imgI m ((j:Int)+1)).2.1,v9) (imgI m ((j:Int)+1)) bb ⟨rfl,rfl,o9.base_le (Nat.zero_le _)⟩ (fun k hk=>(o9.lt k hk).1);refine ⟨⟨_,_,_,(((z1.over bb).other (Ne.symm sg.2) _).other (Ne.symm sg.2) _).other (Ne.symm sg.2) _,P,fun k hk=>?_,by rw [List.length_set];exact z4,z5,z6⟩,(((HR.out.2.trans (Chg.of_below bb)).setCell sg _).setCell sg _).setCell sg _⟩;rcases hk with hk | hk
      ·exact z3 k hk
      ·exact ⟨by omega,by omega⟩
     clear xm
     go_region_with (go_at_call 8;refine (zeo _ _ _ _ _ _ m ((j:Int)+1) _ (HH.out.below (HAL.out _ (zac bR)).2.2.2.2.2.2 nR) HM.out).mono ?_;rintro e w9 ⟨v9,rfl,O9,B9⟩;obtain ⟨n1,n2,rfl,-⟩:=O9.form;obtain ⟨y1,-,⟨r0,k0⟩,⟨r1,k1⟩,⟨r2,k2⟩,k3,-⟩:=HAL.out w9 (zac B9);have z0:=k3 (j * 3);have z1:=k3 (j * 3+1);have z2:=k3 (j * 3+2);have HB9:=hide B9;have HO9:=hide O9;clear k3 B9 O9)
     all_goals
      (have HZ:=hide (HREL.out w9 _ (zac HB9.out) HO9.out)
       clear HREL HAL HB9 HO9 HR;go_wp2;go_roundw
       case rel=>exact ⟨j+1,by omega,by go_num,HZ.out⟩
       case measure=>simp [intOf];omega)
    ·have j3:¬ ((j:Int)+1<=8):=by omega
     have HR0:=hide HR.out;clear HR HN;go_wp2_with fail
     go_loopw [8] (fun i' wr=>∃ j:Nat,j<=16/\i'=.int .i64 ((j:Int)+1)/\Hid (DBx wr w.heap.size b6 (.slice b1 m.xs.length d1) (.slice b2 m.ys.length d2) (.slice (some ⟨gi,0,none⟩) m.is.length d3) (.slice (some ⟨gb,0,none⟩) m.bs.length d4) m.xs m.ys/\Chg (fun k=>w.heap.size < k/\k≠b6) W3 wr)) (fun i' _=>16+1 - (intOf i').toNat)
     case atStart=>exact ⟨0,Nat.zero_le _,rfl,HR0.out⟩
     case round =>
      obtain ⟨j,hj,rfl,HR⟩:=hrel;by_cases hlt:j < 16
      ·have j0:(0:Int)<=(j:Int):=by omega
       have j1:(j:Int) < 16:=by omega
       have j2:(j:Int)+1<=16:=by omega
       have j4:(j:Int) < (m.bs.length:Int):=by rw [HM.out.b];omega
       have hwj:IntKind.i64.wrap (j:Int)=(j:Int):=wrap_small _ (by omega) (by omega);go_upto_region 11 with fail
       have HAL:Hid (∀ W,Below wr.heap.size wr W->W.cell? ⟨b6,3,none⟩=some (.slice (some ⟨gb,0,none⟩) m.bs.length d4)/\AtC W w.heap.size 33 #[.slice a1 m.xs.length c1,.slice a2 m.ys.length c2,.slice a3 m.is.length c3,.slice a4 m.bs.length c4,.slice a5 m.fs.length c5,.slice a6 m.ds.length c6,.int .i64 m.nx]/\(∃ r0,W.cell? ⟨gb,j * 3,none⟩=some r0)/\(∃ r1,W.cell? ⟨gb,j * 3+1,none⟩=some r1)/\(∃ r2,W.cell? ⟨gb,j * 3+2,none⟩=some r2)/\(∀ k,W.frozen? ⟨gb,k,none⟩=false)/\Below w.heap.size w W):=fun W bb=>by
        obtain ⟨S,is,bs,z1,z2,z3,z4,z5,z6⟩:=HR.out.1.below bb;have c2:=HR.out.2.trans (Chg.of_below bb);obtain ⟨⟨q0,q1,q2,q3,q4,q5,-⟩,q6,-⟩:=z2.atB rfl j (by rw [z5];omega);exact ⟨z1.cell 3,(HT.out W c2).2.1,⟨_,q3⟩,⟨_,q4⟩,⟨_,q5⟩,q6,(HT.out W c2).1⟩
       obtain ⟨x1,xm,-,-,-,-,-⟩:=HAL.out wr bR;obtain ⟨m0,m1,m2,m3,m4,m5,m6⟩:=AtC.sev xm;have HREL:Hid (∀ w9 v9,Below wr.heap.size wr w9->SOwns w9 wr.heap.size 49 v9 (imgB m ((j:Int)+1)).2.1->DBx (set3 w9 gb j (.bool (imgB m ((j:Int)+1)).1,v9,.string (imgB m ((j:Int)+1)).2.2)) w.heap.size b6 (.slice b1 m.xs.length d1) (.slice b2 m.ys.length d2) (.slice (some ⟨gi,0,none⟩) m.is.length d3) (.slice (some ⟨gb,0,none⟩) m.bs.length d4) m.xs m.ys/\Chg (fun k=>w.heap.size < k/\k≠b6) W3 (set3 w9 gb j (.bool (imgB m ((j:Int)+1)).1,v9,.string (imgB m ((j:Int)+1)).2.2))):=fun w9 v9 bb o9=>by
        obtain ⟨S,is,bs,z1,z2,z3,z4,z5,z6⟩:=HR.out.1;have hz:=HR.out.2.size;have hzb:=z1.lt;have hb6:=HB6.out;obtain ⟨-,-,-,-,sg⟩:=z2.atB rfl j (by rw [z5];omega);have sg:=z3 _ sg;have P:=z2.putB rfl j (by rw [z5];omega) (.bool (imgB m ((j:Int)+1)).1,v9,.string (imgB m ((j:Int)+1)).2.2) (imgB m ((j:Int)+1)) bb ⟨rfl,o9.base_le (Nat.zero_le _),rfl⟩ (fun k hk=>(o9.lt k hk).1);refine ⟨⟨_,_,_,(((z1.over bb).other (Ne.symm sg.2) _).other (Ne.symm sg.2) _).other (Ne.symm sg.2) _,P,fun k hk=>?_,z4,by rw [List.length_set];exact z5,fun i hi=>bigB_set z6 (zex (imgB_ok HM.out _)) i hi⟩,(((HR.out.2.trans (Chg.of_below bb)).setCell sg _).setCell sg _).setCell sg _⟩;rcases hk with hk | hk
        ·exact z3 k hk
        ·exact ⟨by omega,by omega⟩
       clear xm
       go_region_with (go_at_call 11;refine (zep _ _ _ _ _ _ m ((j:Int)+1) _ (HH.out.below (HAL.out _ (zac bR)).2.2.2.2.2.2 nR) HM.out).mono ?_;rintro e w9 ⟨v9,rfl,O9,B9⟩;obtain ⟨n1,n2,rfl,-⟩:=O9.form;obtain ⟨y1,-,⟨r0,k0⟩,⟨r1,k1⟩,⟨r2,k2⟩,k3,-⟩:=HAL.out w9 (zac B9);have z0:=k3 (j * 3);have z1:=k3 (j * 3+1);have z2:=k3 (j * 3+2);have HB9:=hide B9;have HO9:=hide O9;clear k3 B9 O9)
       all_goals
        (have HZ:=hide (HREL.out w9 _ (zac HB9.out) HO9.out)
         clear HREL HAL HB9 HO9 HR;go_wp2;go_roundw
         case rel=>exact ⟨j+1,by omega,by go_num,HZ.out⟩
         case measure=>simp [intOf];omega)
      ·have j3:¬ ((j:Int)+1<=16):=by omega
       obtain ⟨S,is,bs,z1,z2,z3,z4,z5,z6⟩:=HR.out.1;have hBW:=(HT.out wr HR.out.2).1;obtain ⟨e0,e1,e2,e3⟩:=AtC.four z1;have CUT:Hid (Calls Tryz.prog 107 #[.agg #[.slice b1 m.xs.length d1,.slice b2 m.ys.length d2,.slice (some ⟨gi,0,none⟩) m.is.length d3,.slice (some ⟨gb,0,none⟩) m.bs.length d4],.int .i64 x] wr fun e w'=>(∃ (s:ByteArray) (r:Bool),e=.returned (.tuple #[.string s,.bool r])/\s.size<=60)/\Below wr.heap.size wr w'):=(zhz _ _ _ _ m.xs m.ys is bs x 0 wr z2.dr z2.two z6).mono fun e w' ⟨h1,h2⟩=>⟨⟨_,_,h1,zen _ _ _ _ _⟩,h2⟩
       have HBW:=hide hBW;clear z1 z2 z3 z4 z5 z6 HR hBW;go_wp2_with (go_at_call 107;refine CUT.out.mono ?_;rintro e w8 ⟨⟨s8,r8,rfl,hs8⟩,B8⟩;have HB8:=hide B8;have HS8:=hide hs8;clear B8 hs8)
       go_ret2
       exact ⟨⟨_,_,rfl,HS8.out,fun _=>HX.out⟩,HBW.out.trans (HB8.out.mono HBW.out.size)⟩
def FsW (w:World) (B:Nat) (a:Value):Prop:=∃ (a1:Option Addr) (c1:Nat) (a2:Option Addr) (c2:Nat) (a3:Option Addr) (c3:Nat) (a4:Option Addr) (c4:Nat) (a5:Option Addr) (c5:Nat) (a6:Option Addr) (c6:Nat) (ta:Option Addr) (tc:Nat) (m:MD) (ts:List ByteArray),a=.agg #[.slice a1 m.xs.length c1,.slice a2 m.ys.length c2,.slice a3 m.is.length c3,.slice a4 m.bs.length c4,.slice a5 m.fs.length c5,.slice a6 m.ds.length c6,.int .i64 m.nx,.slice ta ts.length tc]/\MO w (fun k=>B<=k) (.slice a1 m.xs.length c1) (.slice a2 m.ys.length c2) (.slice a3 m.is.length c3) (.slice a4 m.bs.length c4) (.slice a5 m.fs.length c5) (.slice a6 m.ds.length c6) m/\ROwns w B 9 (.slice ta ts.length tc) (stc ts)/\Sh Z0 m/\DvOk ts
theorem FsW.below {w w':World}{B:Nat}{a:Value}(h:FsW w B a)(hb:Below w.heap.size w w'):FsW w' B a:=by
 obtain ⟨a1,c1,a2,c2,a3,c3,a4,c4,a5,c5,a6,c6,ta,tc,m,ts,h1,h2,h3,h4⟩:=h;exact ⟨a1,c1,a2,c2,a3,c3,a4,c4,a5,c5,a6,c6,ta,tc,m,ts,h1,h2.below hb nR,h3.below hb nR,h4⟩
theorem FsW.mono {w:World}{B B':Nat}{a:Value}(h:FsW w B a)(hb:B'<=B):FsW w B' a:=by
 obtain ⟨a1,c1,a2,c2,a3,c3,a4,c4,a5,c5,a6,c6,ta,tc,m,ts,h1,h2,h3,h4⟩:=h;exact ⟨a1,c1,a2,c2,a3,c3,a4,c4,a5,c5,a6,c6,ta,tc,m,ts,h1,h2.mono (fun k hk=>Nat.le_trans hb hk),h3.base_le hb,h4⟩
theorem wrD_ok {xs:List ByteArray}{u:Int}{s:ByteArray}(h:DvOk xs)(hs:s.size<=60):DvOk (wrD xs u s):=by
 unfold wrD
 split
 ·exact ⟨by rw [List.length_set];exact h.n,fun j hj=>by
   rw [List.getElem_set]
   split
   ·omega
   ·exact h.s j (by rw [List.length_set] at hj;exact hj)⟩
 ·exact h
theorem wb_any (u v iv bv dv pv tv:Value)(m:MD)(ts:List ByteArray)(x:Int)(w:World)(h:MR w u v iv bv dv pv m)(ht:RSt w tv ts)(hm:Sh Z0 m)(hd:DvOk ts) :
  Calls Tryz.prog 48 #[.agg #[u,v,iv,bv,dv,pv,.int .i64 m.nx,tv],.int .i64 x] w fun e w'=>∃ a r,e=.returned (.tuple #[a,.bool r])/\FsW w' w.heap.size a/\Below w.heap.size w w':=by
 obtain ⟨a1,c1,a2,c2,a3,c3,a4,c4,a5,c5,a6,c6,rfl,rfl,rfl,rfl,rfl,rfl⟩:=h.form;obtain ⟨ta,tc,rfl⟩:=ht.form;obtain ⟨W0,hW0⟩:∃ W0,((w.alloc (.cells #[.slice a1 m.xs.length c1,.slice a2 m.ys.length c2,.slice a3 m.is.length c3,.slice a4 m.bs.length c4,.slice a5 m.fs.length c5,.slice a6 m.ds.length c6,.int .i64 m.nx,.slice ta ts.length tc] 71)).alloc (.cells #[.slice none 0 0,.slice none 0 0,.slice none 0 0,.slice none 0 0,.slice none 0 0,.slice none 0 0,.int .i64 0,.slice none 0 0] 71))=W0:=⟨_,rfl⟩
 have HC:Hid (∀ W,Below W0.heap.size W0 W->AtC W w.heap.size 71 #[.slice a1 m.xs.length c1,.slice a2 m.ys.length c2,.slice a3 m.is.length c3,.slice a4 m.bs.length c4,.slice a5 m.fs.length c5,.slice a6 m.ds.length c6,.int .i64 m.nx,.slice ta ts.length tc]/\AtC W (w.heap.size+1) 71 #[.slice none 0 0,.slice none 0 0,.slice none 0 0,.slice none 0 0,.slice none 0 0,.slice none 0 0,.int .i64 0,.slice none 0 0]/\Below w.heap.size w W/\w.heap.size+1+1<=W.heap.size):=fun W b2=>by
  exact cQ34
 have HH:=hide h;have HT:=hide ht;have HM:=hide hm;have HD:=hide hd;have HDL:Hid (ts.length<=1048576):=by have:=hd.n;show _<=_;omega
 have HB0:Hid (Below W0.heap.size W0 W0):=Below.refl _ _;obtain ⟨x0,x1,x2,x3,x4,x5,x6,x7⟩:=AtC.eig ((HC.out W0 HB0.out).1);have HM0:Hid (MR W0 (.slice a1 m.xs.length c1) (.slice a2 m.ys.length c2) (.slice a3 m.is.length c3) (.slice a4 m.bs.length c4) (.slice a5 m.fs.length c5) (.slice a6 m.ds.length c6) m):=HH.out.below (HC.out W0 HB0.out).2.2.1 nR;clear h ht hm hd;go_enter Tryz.func48,Tryz.ntmps48
 go_wp2_with fail
 refine (zh4 _ _ _ _ _ _ m x W0 HM0.out HM.out).mono ?_;rintro e w1 ⟨⟨s,q1,rfl,hs,-⟩,B1⟩;have HB1:Hid (Below W0.heap.size W0 w1):=B1;have HS:=hide hs;clear B1 hs HM0 x0 x1 x2 x3 x4 x5 x6 x7 hW0;obtain ⟨x0,x1,x2,x3,x4,x5,x6,x7⟩:=AtC.eig ((HC.out w1 HB1.out).1);have HM1:Hid (MR w1 (.slice a1 m.xs.length c1) (.slice a2 m.ys.length c2) (.slice a3 m.is.length c3) (.slice a4 m.bs.length c4) (.slice a5 m.fs.length c5) (.slice a6 m.ds.length c6) m/\RSt w1 (.slice ta ts.length tc) ts):=⟨HH.out.below (HC.out w1 HB1.out).2.2.1 nR,HT.out.below (HC.out w1 HB1.out).2.2.1 nR⟩
 go_wp2_with fail
 refine (fsOk_any _ _ _ _ _ _ _ m ts w1 HM1.out.1 HM.out HM1.out.2 HD.out).mono ?_;rintro e w2 ⟨⟨q2,rfl⟩,B2⟩;have HB2:Hid (Below W0.heap.size W0 w2):=HB1.out.trans (B2.mono HB1.out.size);clear B2 HM1 HB1 x0 x1 x2 x3 x4 x5 x6 x7;by_cases hq:q2=true/\q1=true
 rotate_left
 ·have hqq:((!q2) || (!q1))=true:=by cases q2<;>cases q1<;>simp_all
  cases q2<;>cases q1<;>first | (exfalso;exact hq ⟨rfl,rfl⟩) | skip
  all_goals clear hq hqq
  all_goals
   obtain ⟨x0,x1,x2,x3,x4,x5,x6,x7⟩:=AtC.eig ((HC.out w2 HB2.out).1);have HMC:Hid (MR w2 (.slice a1 m.xs.length c1) (.slice a2 m.ys.length c2) (.slice a3 m.is.length c3) (.slice a4 m.bs.length c4) (.slice a5 m.fs.length c5) (.slice a6 m.ds.length c6) m/\RSt w2 (.slice ta ts.length tc) ts):=⟨HH.out.below (HC.out w2 HB2.out).2.2.1 nR,HT.out.below (HC.out w2 HB2.out).2.2.1 nR⟩
   have HZ9:Hid (w.heap.size+1+1<=w2.heap.size):=(HC.out w2 HB2.out).2.2.2;go_wp2_with fail
   refine (zd9 _ _ _ _ _ _ _ m ts w2 HMC.out.1 HM.out.big HMC.out.2 HDL.out).mono ?_;rintro e w9 ⟨u1,u2,u3,u4,u5,u6,t1,rfl,M9,T9,B9⟩;have HB9:Hid (Below W0.heap.size W0 w9):=(HB2.out).trans (B9.mono (HB2.out).size);obtain ⟨b1,d1,b2,d2,b3,d3,b4,d4,b5,d5,b6,d6,rfl,rfl,rfl,rfl,rfl,rfl⟩:=M9.mr.form;obtain ⟨b7,d7,rfl⟩:=T9.rst.form;obtain ⟨r0,r1,r2,r3,r4,r5,r6,r7⟩:=AtC.eig ((HC.out w9 HB9.out).2.1);have v0:=(HC.out w9 HB9.out).2.1.frozen 0;have v1:=(HC.out w9 HB9.out).2.1.frozen 1;have v2:=(HC.out w9 HB9.out).2.1.frozen 2;have v3:=(HC.out w9 HB9.out).2.1.frozen 3;have v4:=(HC.out w9 HB9.out).2.1.frozen 4;have v5:=(HC.out w9 HB9.out).2.1.frozen 5;have v6:=(HC.out w9 HB9.out).2.1.frozen 6;have v7:=(HC.out w9 HB9.out).2.1.frozen 7;have HF9:=hide (And.intro M9 T9);clear M9 T9 B9 HMC;go_wp2;exact bodyPost_ret (v:=.tuple #[.agg #[.slice b1 m.xs.length d1,.slice b2 m.ys.length d2,.slice b3 m.is.length d3,.slice b4 m.bs.length d4,.slice b5 m.fs.length d5,.slice b6 m.ds.length d6,.int .i64 m.nx,.slice b7 ts.length d7],.bool false]) (by simp [results,go_sem,r0,r1,r2,r3,r4,r5,r6,r7]) rfl ⟨_,_,rfl,⟨b1,d1,b2,d2,b3,d3,b4,d4,b5,d5,b6,d6,b7,d7,_,_,rfl,(HF9.out.1.of_heap fun k hk _=>zag _ _ _ _ _ _ _ _ _ _ k (by have:=HZ9.out;have:_<=k:=hk;omega)).mono (fun k hk=>by have:=HZ9.out;have:_<=k:=hk;omega),(HF9.out.2.of_heap fun k hk=>zag _ _ _ _ _ _ _ _ _ _ k (by have:=HZ9.out;have:=(HF9.out.2.lt k hk).1;omega)).base_le (by have:=HZ9.out;omega),HM.out,HD.out⟩,zaq (HC.out w9 HB9.out).2.2.1 (by omega) _ _ _ _ _ _ _ _⟩
 obtain ⟨rfl,rfl⟩:=hq;obtain ⟨x0,x1,x2,x3,x4,x5,x6,x7⟩:=AtC.eig ((HC.out w2 HB2.out).1);have HT2:Hid (RSt w2 (.slice ta ts.length tc) ts):=HT.out.below (HC.out w2 HB2.out).2.2.1 nR;go_wp2_with fail
 refine (ze5 _ ts x s w2 HT2.out HDL.out (fun j hj=>by have:=HD.out.s j hj;omega) (by have:=HS.out;omega)).mono ?_;rintro e w3 ⟨tw,rfl,T3,B3⟩;have HB3:Hid (Below W0.heap.size W0 w3):=HB2.out.trans (B3.mono HB2.out.size);have HT3:=hide T3;have HZ3:Hid (w.heap.size+1+1<=w2.heap.size):=(HC.out w2 HB2.out).2.2.2;have HS23:Hid (w2.heap.size<=w3.heap.size):=B3.size;clear B3 T3 HT2 HB2 x0 x1 x2 x3 x4 x5 x6 x7;obtain ⟨b7,d7,rfl⟩:=HT3.out.rst.form;obtain ⟨q3,hq3⟩:∃ q3,okW ts x s=q3:=⟨_,rfl⟩
 rw [hq3];clear hq3;obtain ⟨nl,hnl⟩:∃ nl,(wrD ts x s).length=nl:=⟨_,rfl⟩
 rw [hnl] at HT3 ⊢;obtain ⟨W4,hW4⟩:∃ W4,w3.alloc (.cells #[.slice b7 nl d7] 69)=W4:=⟨_,rfl⟩
 have HB4:Hid (Below W0.heap.size W0 W4/\ROwns W4 w2.heap.size 9 (.slice b7 nl d7) (stc (wrD ts x s))/\AtC W4 w3.heap.size 69 #[.slice b7 nl d7]/\w3.heap.size+1=W4.heap.size):=by
  rw [← hW4];exact ⟨HB3.out.alloc HB3.out.size _,HT3.out.alloc _,AtC.new w3 69 _,by simp⟩
 have HDW:Hid (DvOk (wrD ts x s)):=wrD_ok HD.out HS.out;have HNL:=hide hnl;clear hnl HT3
 cases q3 with
 | false =>
  obtain ⟨x0,x1,x2,x3,x4,x5,x6,x7⟩:=AtC.eig ((HC.out W4 HB4.out.1).1);have HMC:Hid (MR W4 (.slice a1 m.xs.length c1) (.slice a2 m.ys.length c2) (.slice a3 m.is.length c3) (.slice a4 m.bs.length c4) (.slice a5 m.fs.length c5) (.slice a6 m.ds.length c6) m/\RSt W4 (.slice ta ts.length tc) ts):=⟨HH.out.below (HC.out W4 HB4.out.1).2.2.1 nR,HT.out.below (HC.out W4 HB4.out.1).2.2.1 nR⟩
  have HZ9:Hid (w.heap.size+1+1<=W4.heap.size):=(HC.out W4 HB4.out.1).2.2.2;go_wp2_with fail
  refine (zd9 _ _ _ _ _ _ _ m ts W4 HMC.out.1 HM.out.big HMC.out.2 HDL.out).mono ?_;rintro e w9 ⟨u1,u2,u3,u4,u5,u6,t1,rfl,M9,T9,B9⟩;have HB9:Hid (Below W0.heap.size W0 w9):=(HB4.out.1).trans (B9.mono (HB4.out.1).size);obtain ⟨b1,d1,b2,d2,b3,d3,b4,d4,b5,d5,b6,d6,rfl,rfl,rfl,rfl,rfl,rfl⟩:=M9.mr.form;obtain ⟨b7,d7,rfl⟩:=T9.rst.form;obtain ⟨r0,r1,r2,r3,r4,r5,r6,r7⟩:=AtC.eig ((HC.out w9 HB9.out).2.1);have v0:=(HC.out w9 HB9.out).2.1.frozen 0;have v1:=(HC.out w9 HB9.out).2.1.frozen 1;have v2:=(HC.out w9 HB9.out).2.1.frozen 2;have v3:=(HC.out w9 HB9.out).2.1.frozen 3;have v4:=(HC.out w9 HB9.out).2.1.frozen 4;have v5:=(HC.out w9 HB9.out).2.1.frozen 5;have v6:=(HC.out w9 HB9.out).2.1.frozen 6;have v7:=(HC.out w9 HB9.out).2.1.frozen 7;have HF9:=hide (And.intro M9 T9);clear M9 T9 B9 HMC;go_wp2;exact bodyPost_ret (v:=.tuple #[.agg #[.slice b1 m.xs.length d1,.slice b2 m.ys.length d2,.slice b3 m.is.length d3,.slice b4 m.bs.length d4,.slice b5 m.fs.length d5,.slice b6 m.ds.length d6,.int .i64 m.nx,.slice b7 ts.length d7],.bool false]) (by simp [results,go_sem,r0,r1,r2,r3,r4,r5,r6,r7]) rfl ⟨_,_,rfl,⟨b1,d1,b2,d2,b3,d3,b4,d4,b5,d5,b6,d6,b7,d7,_,_,rfl,(HF9.out.1.of_heap fun k hk _=>zag _ _ _ _ _ _ _ _ _ _ k (by have:=HZ9.out;have:_<=k:=hk;omega)).mono (fun k hk=>by have:=HZ9.out;have:_<=k:=hk;omega),(HF9.out.2.of_heap fun k hk=>zag _ _ _ _ _ _ _ _ _ _ k (by have:=HZ9.out;have:=(HF9.out.2.lt k hk).1;omega)).base_le (by have:=HZ9.out;omega),HM.out,HD.out⟩,zaq (HC.out w9 HB9.out).2.2.1 (by omega) _ _ _ _ _ _ _ _⟩
 | true =>
  obtain ⟨x0,x1,x2,x3,x4,x5,x6,x7⟩:=AtC.eig ((HC.out W4 HB4.out.1).1);have HM4:Hid (MR W4.drew (.slice a1 m.xs.length c1) (.slice a2 m.ys.length c2) (.slice a3 m.is.length c3) (.slice a4 m.bs.length c4) (.slice a5 m.fs.length c5) (.slice a6 m.ds.length c6) m):=HH.out.below (HC.out W4.drew (HB4.out.1.trans (by exact (show Below W0.heap.size W4 W4.drew from (zac bR).mono HB4.out.1.size)))).2.2.1 nR;have y8:=HB4.out.2.2.1.c0;go_upto_region 7 with fail
  have HZ9:Hid (w.heap.size+1+1<=w2.heap.size/\w2.heap.size<=w3.heap.size/\w3.heap.size+1=W4.heap.size):=⟨HZ3.out,HS23.out,HB4.out.2.2.2⟩
  have HF:Hid (∀ w5,Below W4.drew.heap.size W4.drew w5->Below W0.heap.size W0 w5/\AtC w5 w3.heap.size 69 #[.slice b7 nl d7]/\ROwns w5 w2.heap.size 9 (.slice b7 nl d7) (stc (wrD ts x s))):=fun w5 b=>by
   have b5:=zac b;exact ⟨HB4.out.1.trans (b5.mono HB4.out.1.size),HB4.out.2.2.1.over b5,HB4.out.2.1.below b5 nR⟩
  go_region_with (go_at_call 72;refine (done_any _ _ _ _ _ _ m x W4.drew HM4.out HM.out).mono ?_;rintro e w5 ⟨u1,u2,u3,u4,u5,u6,mn,rfl,O5,hS5,B5⟩;obtain ⟨b1,d1,b2,d2,b3,d3,b4,d4,b5,d5,b6,d6,rfl,rfl,rfl,rfl,rfl,rfl⟩:=O5.mr.form;have HF5:=hide (HF.out w5 B5);have y9:w5.cell? ⟨w3.heap.size,0,none⟩=some (.slice b7 nl d7):=HF5.out.2.1.cell 0;have r0:w5.cell? ⟨w.heap.size+1,0,none⟩=some (.slice none 0 0):=(HC.out w5 HF5.out.1).2.1.cell 0;have r1:w5.cell? ⟨w.heap.size+1,1,none⟩=some (.slice none 0 0):=(HC.out w5 HF5.out.1).2.1.cell 1;have r2:w5.cell? ⟨w.heap.size+1,2,none⟩=some (.slice none 0 0):=(HC.out w5 HF5.out.1).2.1.cell 2;have r3:w5.cell? ⟨w.heap.size+1,3,none⟩=some (.slice none 0 0):=(HC.out w5 HF5.out.1).2.1.cell 3;have r4:w5.cell? ⟨w.heap.size+1,4,none⟩=some (.slice none 0 0):=(HC.out w5 HF5.out.1).2.1.cell 4;have r5:w5.cell? ⟨w.heap.size+1,5,none⟩=some (.slice none 0 0):=(HC.out w5 HF5.out.1).2.1.cell 5;have r6:w5.cell? ⟨w.heap.size+1,6,none⟩=some (.int .i64 0):=(HC.out w5 HF5.out.1).2.1.cell 6;have r7:w5.cell? ⟨w.heap.size+1,7,none⟩=some (.slice none 0 0):=(HC.out w5 HF5.out.1).2.1.cell 7;have v0:=(HC.out w5 HF5.out.1).2.1.frozen 0;have v1:=(HC.out w5 HF5.out.1).2.1.frozen 1;have v2:=(HC.out w5 HF5.out.1).2.1.frozen 2;have v3:=(HC.out w5 HF5.out.1).2.1.frozen 3;have v4:=(HC.out w5 HF5.out.1).2.1.frozen 4;have v5:=(HC.out w5 HF5.out.1).2.1.frozen 5;have v6:=(HC.out w5 HF5.out.1).2.1.frozen 6;have v7:=(HC.out w5 HF5.out.1).2.1.frozen 7;have HO5:Hid (MO w5 (fun k=>W4.heap.size<=k) (.slice b1 mn.xs.length d1) (.slice b2 mn.ys.length d2) (.slice b3 mn.is.length d3) (.slice b4 mn.bs.length d4) (.slice b5 mn.fs.length d5) (.slice b6 mn.ds.length d6) mn/\Sh Z0 mn):=⟨O5,hS5⟩;clear O5 hS5 B5)
  all_goals go_wp2
  all_goals have HT5:Hid (ROwns w5 w2.heap.size 9 (.slice b7 (wrD ts x s).length d7) (stc (wrD ts x s))):=by rw [HNL.out];exact HF5.out.2.2
  all_goals rw [← HNL.out]
  all_goals exact bodyPost_ret (v:=.tuple #[.agg #[.slice b1 mn.xs.length d1,.slice b2 mn.ys.length d2,.slice b3 mn.is.length d3,.slice b4 mn.bs.length d4,.slice b5 mn.fs.length d5,.slice b6 mn.ds.length d6,.int .i64 mn.nx,.slice b7 (wrD ts x s).length d7],.bool true]) (by simp [results,go_sem,r0,r1,r2,r3,r4,r5,r6,r7,HNL.out]) rfl ⟨_,_,rfl,⟨b1,d1,b2,d2,b3,d3,b4,d4,b5,d5,b6,d6,b7,d7,_,_,rfl,(HO5.out.1.of_heap fun k hk _=>zag _ _ _ _ _ _ _ _ _ _ k (by have:=HZ9.out;have:_<=k:=hk;omega)).mono (fun k hk=>by have:=HZ9.out;have:_<=k:=hk;omega),(HT5.out.of_heap fun k hk=>zag _ _ _ _ _ _ _ _ _ _ k (by have:=HZ9.out;have:=(HT5.out.lt k hk).1;omega)).base_le (by have:=HZ9.out;omega),HO5.out.2,HDW.out⟩,zaq (HC.out w5 HF5.out.1).2.2.1 (by omega) _ _ _ _ _ _ _ _⟩
theorem zjj (u v iv bv dv pv tv:Value)(m:MD)(ts:List ByteArray)(w:World)(h:MR w u v iv bv dv pv m)(ht:RSt w tv ts)(hm:Sh Z0 m)(hd:DvOk ts) :
  Calls Tryz.prog 49 #[.agg #[u,v,iv,bv,dv,pv,.int .i64 m.nx,tv]] w fun e w'=>∃ a,e=.returned a/\FsW w' w.heap.size a/\Below w.heap.size w w':=by
 obtain ⟨a1,c1,a2,c2,a3,c3,a4,c4,a5,c5,a6,c6,rfl,rfl,rfl,rfl,rfl,rfl⟩:=h.form;obtain ⟨ta,tc,rfl⟩:=ht.form;obtain ⟨W0,hW0⟩:∃ W0,((w.alloc (.cells #[.slice a1 m.xs.length c1,.slice a2 m.ys.length c2,.slice a3 m.is.length c3,.slice a4 m.bs.length c4,.slice a5 m.fs.length c5,.slice a6 m.ds.length c6,.int .i64 m.nx,.slice ta ts.length tc] 71)).alloc (.cells #[.slice none 0 0,.slice none 0 0,.slice none 0 0,.slice none 0 0,.slice none 0 0,.slice none 0 0,.int .i64 0,.slice none 0 0] 71))=W0:=⟨_,rfl⟩
 have HC:Hid (∀ W,Below W0.heap.size W0 W->AtC W w.heap.size 71 #[.slice a1 m.xs.length c1,.slice a2 m.ys.length c2,.slice a3 m.is.length c3,.slice a4 m.bs.length c4,.slice a5 m.fs.length c5,.slice a6 m.ds.length c6,.int .i64 m.nx,.slice ta ts.length tc]/\AtC W (w.heap.size+1) 71 #[.slice none 0 0,.slice none 0 0,.slice none 0 0,.slice none 0 0,.slice none 0 0,.slice none 0 0,.int .i64 0,.slice none 0 0]/\Below w.heap.size w W/\w.heap.size+1+1<=W.heap.size):=fun W b2=>by
  exact cQ34
 have HB0:Hid (Below W0.heap.size W0 W0):=Below.refl _ _;have HM0:Hid (MR W0 (.slice a1 m.xs.length c1) (.slice a2 m.ys.length c2) (.slice a3 m.is.length c3) (.slice a4 m.bs.length c4) (.slice a5 m.fs.length c5) (.slice a6 m.ds.length c6) m/\RSt W0 (.slice ta ts.length tc) ts/\Sh Z0 m/\DvOk ts/\ts.length<=1048576):=⟨h.below (HC.out W0 HB0.out).2.2.1 nR,ht.below (HC.out W0 HB0.out).2.2.1 nR,hm,hd,by have:=hd.n;omega⟩
 have HZ0:Hid (w.heap.size+1+1<=W0.heap.size):=(HC.out W0 HB0.out).2.2.2;obtain ⟨x0,x1,x2,x3,x4,x5,x6,x7⟩:=AtC.eig ((HC.out W0 HB0.out).1);clear h ht hm hd;go_enter Tryz.func49,Tryz.ntmps49
 go_wp2_with fail
 refine (zd9 _ _ _ _ _ _ _ m ts W0 HM0.out.1 HM0.out.2.2.1.big HM0.out.2.1 HM0.out.2.2.2.2).mono ?_;rintro e w1 ⟨u1,u2,u3,u4,u5,u6,t1,rfl,M1,T1,B1⟩;obtain ⟨b1,d1,b2,d2,b3,d3,b4,d4,b5,d5,b6,d6,rfl,rfl,rfl,rfl,rfl,rfl⟩:=M1.mr.form;obtain ⟨b7,d7,rfl⟩:=T1.rst.form;obtain ⟨bo,hbo⟩:∃ bo,w1.heap.size=bo:=⟨_,rfl⟩
 have HR0:Hid (∀ wr,w1.alloc (.cells #[.slice b1 m.xs.length d1,.slice b2 m.ys.length d2,.slice b3 m.is.length d3,.slice b4 m.bs.length d4,.slice b5 m.fs.length d5,.slice b6 m.ds.length d6,.int .i64 m.nx,.slice b7 ts.length d7] 71)=wr->∃ (b1:Option Addr) (d1:Nat) (b2:Option Addr) (d2:Nat) (b3:Option Addr) (d3:Nat) (b4:Option Addr) (d4:Nat) (b5:Option Addr) (d5:Nat) (b6:Option Addr) (d6:Nat) (b7:Option Addr) (d7:Nat) (mo:MD) (tx:List ByteArray),AtC wr bo 71 #[.slice b1 mo.xs.length d1,.slice b2 mo.ys.length d2,.slice b3 mo.is.length d3,.slice b4 mo.bs.length d4,.slice b5 mo.fs.length d5,.slice b6 mo.ds.length d6,.int .i64 mo.nx,.slice b7 tx.length d7]/\MO wr (fun k=>w.heap.size+1+1<=k/\k≠bo) (.slice b1 mo.xs.length d1) (.slice b2 mo.ys.length d2) (.slice b3 mo.is.length d3) (.slice b4 mo.bs.length d4) (.slice b5 mo.fs.length d5) (.slice b6 mo.ds.length d6) mo/\ROwns wr (w.heap.size+1+1) 9 (.slice b7 tx.length d7) (stc tx)/\(∀ k,(Value.slice b7 tx.length d7).ownBlock=some k->k≠bo)/\Sh Z0 mo/\DvOk tx/\AtC wr (w.heap.size+1) 71 #[.slice none 0 0,.slice none 0 0,.slice none 0 0,.slice none 0 0,.slice none 0 0,.slice none 0 0,.int .i64 0,.slice none 0 0]/\Below w.heap.size w wr):=by
  rintro wr rfl;have z1:=B1.size;have z0:=HZ0.out;refine ⟨b1,d1,b2,d2,b3,d3,b4,d4,b5,d5,b6,d6,b7,d7,m,ts,?_,(M1.bound.below ((Below.refl _ w1).alloc nR _) nR).mono (fun k hk=>?_),(T1.alloc _).base_le HZ0.out,fun k hk=>?_,HM0.out.2.2.1,HM0.out.2.2.2.1,(HC.out _ (B1.alloc z1 _)).2.1,(HC.out _ (B1.alloc z1 _)).2.2.1⟩
  ·rw [← hbo];exact AtC.new w1 71 _
  ·have:W0.heap.size<=k/\k < w1.heap.size:=hk;omega
  ·have:=(T1.lt k hk).2;omega
 have hbz:w.heap.size+1+1<=bo:=by have:=B1.size;have:=HZ0.out;omega
 clear M1 T1 B1 HM0 HC HB0 x0 x1 x2 x3 x4 x5 x6 x7 hW0;go_wp2_with fail
 generalize hwa:w1.alloc (.cells #[.slice b1 m.xs.length d1,.slice b2 m.ys.length d2,.slice b3 m.is.length d3,.slice b4 m.bs.length d4,.slice b5 m.fs.length d5,.slice b6 m.ds.length d6,.int .i64 m.nx,.slice b7 ts.length d7] 71)=wa at *;have HRA:=hide (HR0.out wa rfl);clear HR0 hwa hbo;go_loopw [4] (fun i wr=>∃ n:Nat,n<=400/\i=.int .i64 n/\Hid (∃ (b1:Option Addr) (d1:Nat) (b2:Option Addr) (d2:Nat) (b3:Option Addr) (d3:Nat) (b4:Option Addr) (d4:Nat) (b5:Option Addr) (d5:Nat) (b6:Option Addr) (d6:Nat) (b7:Option Addr) (d7:Nat) (mo:MD) (tx:List ByteArray),AtC wr bo 71 #[.slice b1 mo.xs.length d1,.slice b2 mo.ys.length d2,.slice b3 mo.is.length d3,.slice b4 mo.bs.length d4,.slice b5 mo.fs.length d5,.slice b6 mo.ds.length d6,.int .i64 mo.nx,.slice b7 tx.length d7]/\MO wr (fun k=>w.heap.size+1+1<=k/\k≠bo) (.slice b1 mo.xs.length d1) (.slice b2 mo.ys.length d2) (.slice b3 mo.is.length d3) (.slice b4 mo.bs.length d4) (.slice b5 mo.fs.length d5) (.slice b6 mo.ds.length d6) mo/\ROwns wr (w.heap.size+1+1) 9 (.slice b7 tx.length d7) (stc tx)/\(∀ k,(Value.slice b7 tx.length d7).ownBlock=some k->k≠bo)/\Sh Z0 mo/\DvOk tx/\AtC wr (w.heap.size+1) 71 #[.slice none 0 0,.slice none 0 0,.slice none 0 0,.slice none 0 0,.slice none 0 0,.slice none 0 0,.int .i64 0,.slice none 0 0]/\Below w.heap.size w wr)) (fun i _=>400 - (intOf i).toNat)
 case atStart=>exact ⟨0,by omega,rfl,HRA.out⟩
 case round =>
  obtain ⟨n,hn,rfl,HR⟩:=hrel;obtain ⟨b1,d1,b2,d2,b3,d3,b4,d4,b5,d5,b6,d6,b7,d7,mo,tx,hrr⟩:=HR.out;have HQ:=hide hrr;clear hrr HR HRA;obtain ⟨x0,x1,x2,x3,x4,x5,x6,x7⟩:=AtC.eig HQ.out.1;by_cases hlt:n < 400
  rotate_left
  ·have n1:¬ ((n:Int) < 400):=by omega
   obtain ⟨r0,r1,r2,r3,r4,r5,r6,r7⟩:=AtC.eig HQ.out.2.2.2.2.2.2.1;have v0:=HQ.out.2.2.2.2.2.2.1.frozen 0;have v1:=HQ.out.2.2.2.2.2.2.1.frozen 1;have v2:=HQ.out.2.2.2.2.2.2.1.frozen 2;have v3:=HQ.out.2.2.2.2.2.2.1.frozen 3;have v4:=HQ.out.2.2.2.2.2.2.1.frozen 4;have v5:=HQ.out.2.2.2.2.2.2.1.frozen 5;have v6:=HQ.out.2.2.2.2.2.2.1.frozen 6;have v7:=HQ.out.2.2.2.2.2.2.1.frozen 7;go_wp2;exact bodyPost_ret (v:=.agg #[.slice b1 mo.xs.length d1,.slice b2 mo.ys.length d2,.slice b3 mo.is.length d3,.slice b4 mo.bs.length d4,.slice b5 mo.fs.length d5,.slice b6 mo.ds.length d6,.int .i64 mo.nx,.slice b7 tx.length d7]) (by simp [results,go_sem,r0,r1,r2,r3,r4,r5,r6,r7]) rfl ⟨_,rfl,⟨b1,d1,b2,d2,b3,d3,b4,d4,b5,d5,b6,d6,b7,d7,mo,tx,rfl,(HQ.out.2.1.of_heap fun k hk _=>zag _ _ _ _ _ _ _ _ _ _ k (by have:w.heap.size+1+1<=k/\k≠bo:=hk;omega)).mono (fun k hk=>by have:w.heap.size+1+1<=k/\k≠bo:=hk;omega),(HQ.out.2.2.1.of_heap fun k hk=>zag _ _ _ _ _ _ _ _ _ _ k (by have:=(HQ.out.2.2.1.lt k hk).1;omega)).base_le (by omega),HQ.out.2.2.2.2.1,HQ.out.2.2.2.2.2.1⟩,zaq HQ.out.2.2.2.2.2.2.2 (by omega) _ _ _ _ _ _ _ _⟩
  have n1:(n:Int) < 400:=by omega
  have hfl:mo.fs.length=21:=HQ.out.2.2.2.2.1.f;have HFL:=hide hfl;clear hfl;have HFS:Hid (RFl wr (.slice b5 mo.fs.length d5) mo.fs):=HQ.out.2.1.mr.f;go_wp2_with fail
  go_loopw [5] (fun uu wx=>∃ q:Nat,q<=mo.fs.length/\uu=.int .i64 q/\wr=wx) (fun uu _=>mo.fs.length - (intOf uu).toNat)
  case atStart=>exact ⟨0,Nat.zero_le _,rfl,rfl⟩
  case round =>
   obtain ⟨q,hq,rfl,rfl⟩:=hrel;have q0:(0:Int)<=(q:Int):=by omega
   by_cases hql:q < mo.fs.length
   ·obtain ⟨fa,fcap,efs,hfc⟩:=HFS.out;simp only [Value.slice.injEq,true_and] at efs;obtain ⟨rfl,rfl⟩:=efs;obtain ⟨gf,of,rfl,-,kf⟩:=hfc q hql;obtain ⟨fb,hfb⟩:∃ fb,mo.fs[q]=fb:=⟨_,rfl⟩
    rw [hfb] at kf;have q1:(q:Int) < (mo.fs.length:Int):=by omega
    clear hfc hfb
    cases fb with
    | false =>
     have q21:q < 21:=by have:=HFL.out;omega
     go_wp2;go_roundw
     case rel=>exact ⟨q+1,by omega,by go_num,trivial⟩
     case measure=>simp [intOf];omega
    | true =>
     have qne:((q:Int) == (mo.fs.length:Int))=false:=beq_eq_false_iff_ne.mpr (by omega);have HMW:Hid (MR wr (.slice b1 mo.xs.length d1) (.slice b2 mo.ys.length d2) (.slice b3 mo.is.length d3) (.slice b4 mo.bs.length d4) (.slice (some ⟨gf,of,none⟩) mo.fs.length d5) (.slice b6 mo.ds.length d6) mo/\RSt wr (.slice b7 tx.length d7) tx):=⟨HQ.out.2.1.mr,HQ.out.2.2.1.rst⟩
     go_wp2_with fail
     refine (wb_any _ _ _ _ _ _ _ mo tx q wr HMW.out.1 HMW.out.2 HQ.out.2.2.2.2.1 HQ.out.2.2.2.2.2.1).mono ?_;rintro e w4 ⟨a4,r4,rfl,F4,B4⟩;obtain ⟨n1',o1,n2,o2,n3,o3,n4,o4,n5,o5,n6,o6,n7,o7,mx,tn,rfl,M4,T4,S4,D4⟩:=F4;obtain ⟨W5,hW5⟩:∃ W5,w4.alloc (.cells #[.slice n1' mx.xs.length o1,.slice n2 mx.ys.length o2,.slice n3 mx.is.length o3,.slice n4 mx.bs.length o4,.slice n5 mx.fs.length o5,.slice n6 mx.ds.length o6,.int .i64 mx.nx,.slice n7 tn.length o7] 71)=W5:=⟨_,rfl⟩
     have HW5:Hid (Below wr.heap.size wr W5/\AtC W5 w4.heap.size 71 #[.slice n1' mx.xs.length o1,.slice n2 mx.ys.length o2,.slice n3 mx.is.length o3,.slice n4 mx.bs.length o4,.slice n5 mx.fs.length o5,.slice n6 mx.ds.length o6,.int .i64 mx.nx,.slice n7 tn.length o7]/\MO W5 (fun k=>wr.heap.size<=k/\k < w4.heap.size) (.slice n1' mx.xs.length o1) (.slice n2 mx.ys.length o2) (.slice n3 mx.is.length o3) (.slice n4 mx.bs.length o4) (.slice n5 mx.fs.length o5) (.slice n6 mx.ds.length o6) mx/\ROwns W5 wr.heap.size 9 (.slice n7 tn.length o7) (stc tn)/\Sh Z0 mx/\DvOk tn/\wr.heap.size<=w4.heap.size):=by
      rw [← hW5];exact ⟨B4.alloc B4.size _,AtC.new w4 71 _,M4.bound.below ((Below.refl _ w4).alloc nR _) nR,T4.alloc _,S4,D4,B4.size⟩
     have HQ5:Hid (AtC W5 bo 71 #[.slice b1 mo.xs.length d1,.slice b2 mo.ys.length d2,.slice b3 mo.is.length d3,.slice b4 mo.bs.length d4,.slice (some ⟨gf,of,none⟩) mo.fs.length d5,.slice b6 mo.ds.length d6,.int .i64 mo.nx,.slice b7 tx.length d7]/\MO W5 (fun k=>w.heap.size+1+1<=k/\k≠bo) (.slice b1 mo.xs.length d1) (.slice b2 mo.ys.length d2) (.slice b3 mo.is.length d3) (.slice b4 mo.bs.length d4) (.slice (some ⟨gf,of,none⟩) mo.fs.length d5) (.slice b6 mo.ds.length d6) mo/\ROwns W5 (w.heap.size+1+1) 9 (.slice b7 tx.length d7) (stc tx)/\(∀ k,(Value.slice b7 tx.length d7).ownBlock=some k->k≠bo)/\Sh Z0 mo/\DvOk tx/\AtC W5 (w.heap.size+1) 71 #[.slice none 0 0,.slice none 0 0,.slice none 0 0,.slice none 0 0,.slice none 0 0,.slice none 0 0,.int .i64 0,.slice none 0 0]/\Below w.heap.size w W5):=by
      obtain ⟨k1,k2,k3,k4,k5,k6,k7,k8⟩:=HQ.out;have b5:=HW5.out.1;exact ⟨k1.over b5,k2.below b5 nR,k3.below b5 nR,k4,k5,k6,k7.over b5,k8.trans (b5.mono k8.size)⟩
     have hbr:bo < wr.heap.size:=HQ.out.1.lt;obtain ⟨y0,y1,y2,y3,y4,y5,y6,y7⟩:=AtC.eig HQ5.out.1;obtain ⟨z0,z1,z2,z3,z4,z5,z6,z7⟩:=AtC.eig HW5.out.2.1;clear M4 T4 S4 D4 B4 HMW kf x0 x1 x2 x3 x4 x5 x6 x7 HFS
     cases r4 with
     | false =>
      obtain ⟨r0,r1,r2,r3,r4,r5,r6,r7⟩:=AtC.eig HQ5.out.2.2.2.2.2.2.1;have v0:=HQ5.out.2.2.2.2.2.2.1.frozen 0;have v1:=HQ5.out.2.2.2.2.2.2.1.frozen 1;have v2:=HQ5.out.2.2.2.2.2.2.1.frozen 2;have v3:=HQ5.out.2.2.2.2.2.2.1.frozen 3;have v4:=HQ5.out.2.2.2.2.2.2.1.frozen 4;have v5:=HQ5.out.2.2.2.2.2.2.1.frozen 5;have v6:=HQ5.out.2.2.2.2.2.2.1.frozen 6;have v7:=HQ5.out.2.2.2.2.2.2.1.frozen 7;go_wp2;exact bodyPost_ret (v:=.agg #[.slice b1 mo.xs.length d1,.slice b2 mo.ys.length d2,.slice b3 mo.is.length d3,.slice b4 mo.bs.length d4,.slice (some ⟨gf,of,none⟩) mo.fs.length d5,.slice b6 mo.ds.length d6,.int .i64 mo.nx,.slice b7 tx.length d7]) (by simp [results,go_sem,r0,r1,r2,r3,r4,r5,r6,r7]) rfl ⟨_,rfl,⟨b1,d1,b2,d2,b3,d3,b4,d4,some ⟨gf,of,none⟩,d5,b6,d6,b7,d7,mo,tx,rfl,(HQ5.out.2.1.of_heap fun k hk _=>zag _ _ _ _ _ _ _ _ _ _ k (by have:w.heap.size+1+1<=k/\k≠bo:=hk;omega)).mono (fun k hk=>by have:w.heap.size+1+1<=k/\k≠bo:=hk;omega),(HQ5.out.2.2.1.of_heap fun k hk=>zag _ _ _ _ _ _ _ _ _ _ k (by have:=(HQ5.out.2.2.1.lt k hk).1;omega)).base_le (by omega),HQ5.out.2.2.2.2.1,HQ5.out.2.2.2.2.2.1⟩,zaq HQ5.out.2.2.2.2.2.2.2 (by omega) _ _ _ _ _ _ _ _⟩
     | true =>
      have f0:=HQ5.out.1.frozen 0;have f1:=HQ5.out.1.frozen 1;have f2:=HQ5.out.1.frozen 2;have f3:=HQ5.out.1.frozen 3;have f4:=HQ5.out.1.frozen 4;have f5:=HQ5.out.1.frozen 5;have f6:=HQ5.out.1.frozen 6;have f7:=HQ5.out.1.frozen 7;have HREL:Hid (∀ wr',((((((((W5.setCell ⟨bo,0,none⟩ (.slice n1' mx.xs.length o1)).setCell ⟨bo,1,none⟩ (.slice n2 mx.ys.length o2)).setCell ⟨bo,2,none⟩ (.slice n3 mx.is.length o3)).setCell ⟨bo,3,none⟩ (.slice n4 mx.bs.length o4)).setCell ⟨bo,4,none⟩ (.slice n5 mx.fs.length o5)).setCell ⟨bo,5,none⟩ (.slice n6 mx.ds.length o6)).setCell ⟨bo,6,none⟩ (.int .i64 mx.nx)).setCell ⟨bo,7,none⟩ (.slice n7 tn.length o7))=wr'->∃ (b1:Option Addr) (d1:Nat) (b2:Option Addr) (d2:Nat) (b3:Option Addr) (d3:Nat) (b4:Option Addr) (d4:Nat) (b5:Option Addr) (d5:Nat) (b6:Option Addr) (d6:Nat) (b7:Option Addr) (d7:Nat) (mo:MD) (tx:List ByteArray),AtC wr' bo 71 #[.slice b1 mo.xs.length d1,.slice b2 mo.ys.length d2,.slice b3 mo.is.length d3,.slice b4 mo.bs.length d4,.slice b5 mo.fs.length d5,.slice b6 mo.ds.length d6,.int .i64 mo.nx,.slice b7 tx.length d7]/\MO wr' (fun k=>w.heap.size+1+1<=k/\k≠bo) (.slice b1 mo.xs.length d1) (.slice b2 mo.ys.length d2) (.slice b3 mo.is.length d3) (.slice b4 mo.bs.length d4) (.slice b5 mo.fs.length d5) (.slice b6 mo.ds.length d6) mo/\ROwns wr' (w.heap.size+1+1) 9 (.slice b7 tx.length d7) (stc tx)/\(∀ k,(Value.slice b7 tx.length d7).ownBlock=some k->k≠bo)/\Sh Z0 mo/\DvOk tx/\AtC wr' (w.heap.size+1) 71 #[.slice none 0 0,.slice none 0 0,.slice none 0 0,.slice none 0 0,.slice none 0 0,.slice none 0 0,.int .i64 0,.slice none 0 0]/\Below w.heap.size w wr'):=by
       rintro wr' rfl;obtain ⟨k1,k2,k3,k4,k5,k6,k7⟩:=HW5.out;obtain ⟨j1,-,-,-,-,-,j7,j8⟩:=HQ5.out;refine ⟨_,_,_,_,_,_,_,_,_,_,_,_,_,_,mx,tn,zjc j1 _ _ _ _ _ _ _ _,(k3.of_heap fun k hk _=>zag _ _ _ _ _ _ _ _ _ _ k (by have:wr.heap.size<=k/\k < w4.heap.size:=hk;omega)).mono (fun k hk=>by have:wr.heap.size<=k/\k < w4.heap.size:=hk;omega),(k4.of_heap fun k hk=>zag _ _ _ _ _ _ _ _ _ _ k (by have:=(k4.lt k hk).1;omega)).base_le (by omega),fun k hk=>by have:=(k4.lt k hk).1;omega,k5,k6,?_,zaq j8 (by omega) _ _ _ _ _ _ _ _⟩;exact (zag _ _ _ _ _ _ _ _ _ _ _ (by omega)).trans j7
      go_wp2;go_roundw
      case rel=>exact ⟨n+1,by omega,by go_num,HREL.out _ rfl⟩
      case measure=>simp [intOf];omega
   ·have qeq:((q:Int) == (mo.fs.length:Int))=true:=by simp;omega
    have q1:¬ ((q:Int) < (mo.fs.length:Int)):=by omega
    obtain ⟨r0,r1,r2,r3,r4,r5,r6,r7⟩:=AtC.eig HQ.out.2.2.2.2.2.2.1;have v0:=HQ.out.2.2.2.2.2.2.1.frozen 0;have v1:=HQ.out.2.2.2.2.2.2.1.frozen 1;have v2:=HQ.out.2.2.2.2.2.2.1.frozen 2;have v3:=HQ.out.2.2.2.2.2.2.1.frozen 3;have v4:=HQ.out.2.2.2.2.2.2.1.frozen 4;have v5:=HQ.out.2.2.2.2.2.2.1.frozen 5;have v6:=HQ.out.2.2.2.2.2.2.1.frozen 6;have v7:=HQ.out.2.2.2.2.2.2.1.frozen 7;go_wp2;exact bodyPost_ret (v:=.agg #[.slice b1 mo.xs.length d1,.slice b2 mo.ys.length d2,.slice b3 mo.is.length d3,.slice b4 mo.bs.length d4,.slice b5 mo.fs.length d5,.slice b6 mo.ds.length d6,.int .i64 mo.nx,.slice b7 tx.length d7]) (by simp [results,go_sem,r0,r1,r2,r3,r4,r5,r6,r7]) rfl ⟨_,rfl,⟨b1,d1,b2,d2,b3,d3,b4,d4,b5,d5,b6,d6,b7,d7,mo,tx,rfl,(HQ.out.2.1.of_heap fun k hk _=>zag _ _ _ _ _ _ _ _ _ _ k (by have:w.heap.size+1+1<=k/\k≠bo:=hk;omega)).mono (fun k hk=>by have:w.heap.size+1+1<=k/\k≠bo:=hk;omega),(HQ.out.2.2.1.of_heap fun k hk=>zag _ _ _ _ _ _ _ _ _ _ k (by have:=(HQ.out.2.2.1.lt k hk).1;omega)).base_le (by omega),HQ.out.2.2.2.2.1,HQ.out.2.2.2.2.2.1⟩,zaq HQ.out.2.2.2.2.2.2.2 (by omega) _ _ _ _ _ _ _ _⟩
namespace Kit
section
variable {P : Program} {ops : Array Oper} {Q : Exit -> Act -> World -> Prop} {a : Act} {w : World}
theorem line2 {i j:Nat}{o1 o2:Oper}(h1:ops[i]?=some o1)(h2:ops[j]?=some o2)(h:wpList P ops Q [o1,o2] a w):wpList P ops Q ([i,j].filterMap fun k=>ops[k]?) a w:=by
 simpa [h1,h2] using h
theorem line3 {i j k:Nat}{o1 o2 o3:Oper}(h1:ops[i]?=some o1)(h2:ops[j]?=some o2)(h3:ops[k]?=some o3)(h:wpList P ops Q [o1,o2,o3] a w):wpList P ops Q ([i,j,k].filterMap fun k=>ops[k]?) a w:=by
 simpa [h1,h2,h3] using h
end
def fstOf:Value->Value
 | .tuple xs=>xs.getD 0 undef
 | u=>u
def MkBf (k l:Nat) (w0:World) (d:Bool) (t:ByteArray) (ss:List Sl) (f:Bool):Mk:=.val [k,l] (fun _ _ _ v=>∃ a c,v=.tuple #[.agg #[.bool d,.slice a ss.length c,.string t],.bool f]/\RSl w0 (.slice a ss.length c) ss)
 (fun _ _ _ _ _ h _=>h)
def MkBv (k:Nat) (d:Bool) (t:ByteArray) (n:Nat) (f:Bool):Mk:=.val1 [k] k (by simp) (fun _ _ _ u v=>u=v/\∃ a c,v=.tuple #[.agg #[.bool d,.slice a n c,.string t],.bool f]) (fun _ _ _ _ _ _ h _=>h)
def MkBx (k:Nat):Mk:=.val1 [k] k (by simp) (fun _ _ _ u v=>v=fstOf u) (fun _ _ _ _ _ _ h _=>h)
end Kit
theorem zf1 {xs ys:List Bool}{is:List Ino}{bs:List Blk}(hB:Big 1048576 xs ys is bs)(x:Int):(blkAt bs x).2.1.length<=1048576:=by
 unfold blkAt
 split
 ·by_cases h:(x - 1).toNat < bs.length
  ·rw [List.getD_eq_getElem?_getD,List.getElem?_eq_getElem h];exact (hB.s _ h).1
  ·rw [List.getD_eq_getElem?_getD,List.getElem?_eq_none (by omega)];exact Nat.zero_le _
 ·exact Nat.zero_le _
def zdh (bs:List Blk) (nm:ByteArray) (B s k:Int):Prop:=(B=0/\s=0/\k=0)\/(inB B 1 bs.length=true/\(blkAt bs B).1=true/\∃ (j:Nat) (hj:j < (blkAt bs B).2.1.length),s=(j:Int)/\k=(blkAt bs B).2.1[j].2/\(blkAt bs B).2.1[j].1=nm/\nm.size≠0)
theorem zg8 (x:Int)(nm:ByteArray)(dx dy iv bv:Value)(xs ys:List Bool)(is:List Ino)(bs:List Blk)(w:World)(h:DR w dx dy iv bv xs ys is bs)(hB:Big 1048576 xs ys is bs) :
  Calls Tryz.prog 102 #[.agg #[dx,dy,iv,bv],.int .i64 x,.string nm] w fun e w'=>∃ B s k:Int,e=.returned (.tuple #[.int .i64 B,.int .i64 s,.int .i64 k])/\zdh bs nm B s k/\Below w.heap.size w w':=by
 have H:=hide h;have HG:=hide hB;obtain ⟨a3,c3,rfl,-,hc⟩:=h.i;have HC:=hide hc;clear h hc hB
 cases hb:inB x 1 is.length with
 | false =>
  have HX:=hide hb;clear hb;have HB:Hid (∀ A,Below w.heap.size w (w.alloc (.cells A 30))):=fun A=>(Below.refl _ w).alloc nR _;go_enter Tryz.func102,Tryz.ntmps102
  go_wp2_with fail
  refine (zaj x 1 _ _).mono ?_;rintro e w1 ⟨rfl,rfl⟩;rw [HX.out];go_wp2
  go_ret3
  exact ⟨0,0,0,rfl,.inl ⟨rfl,rfl,rfl⟩,HB.out _⟩
 | true =>
  have HX:=hide hb;obtain ⟨h1,h2⟩:=zao hb;clear hb;obtain ⟨j,rfl⟩:∃ j:Nat,x=(j:Int)+1:=⟨(x - 1).toNat,by omega⟩
  have hj:j < is.length:=by omega
  obtain ⟨g,off,t,rfl,hg,k0,k1,k2,r1,r2,r3⟩:=HC.out j hj;obtain ⟨t0,t1,t2⟩:=t;simp only at r1 r2 r3 k0 k1 k2;subst r1 r2;have hps:=HG.out.p j hj;have hil:is.length<=1048576:=HG.out.i;generalize is[j].1=kd at *;generalize is[j].2.1=ln at *;generalize is[j].2.2=ps at *;have HR:=hide r3;obtain ⟨pa,pc,rfl,-⟩:=r3;have HB:Hid (Below w.heap.size w (w.alloc (.cells #[dx,dy,.slice (some ⟨g,off,none⟩) is.length c3,bv] 30))):=(Below.refl _ w).alloc nR _;have n0:(w.alloc (.cells #[dx,dy,.slice (some ⟨g,off,none⟩) is.length c3,bv] 30)).cell? ⟨g,off+j * 3,none⟩=some (.int .i64 kd):=(HB.out.cell (p:=⟨g,off+j * 3,none⟩) hg).trans k0;have n1:(w.alloc (.cells #[dx,dy,.slice (some ⟨g,off,none⟩) is.length c3,bv] 30)).cell? ⟨g,off+j * 3+1,none⟩=some (.int .i64 ln):=(HB.out.cell (p:=⟨g,off+j * 3+1,none⟩) hg).trans k1;have n2:(w.alloc (.cells #[dx,dy,.slice (some ⟨g,off,none⟩) is.length c3,bv] 30)).cell? ⟨g,off+j * 3+2,none⟩=some (.slice pa ps.length pc):=(HB.out.cell (p:=⟨g,off+j * 3+2,none⟩) hg).trans k2;have j0:(0:Int)<=(j:Int):=by omega
  have j1:(j:Int) < (is.length:Int):=by omega
  clear k0 k1 k2;go_enter Tryz.func102,Tryz.ntmps102
  go_wp2_with fail
  refine (zaj _ 1 _ _).mono ?_;rintro e w1 ⟨rfl,rfl⟩;rw [HX.out];by_cases hk:kd=2
  ·subst hk;have HW:Hid (∀ W,Below ((w.alloc (.cells #[dx,dy,.slice (some ⟨g,off,none⟩) is.length c3,bv] 30)).alloc (.cells #[.int .i64 2,.int .i64 ln,.slice pa ps.length pc] 37)).heap.size ((w.alloc (.cells #[dx,dy,.slice (some ⟨g,off,none⟩) is.length c3,bv] 30)).alloc (.cells #[.int .i64 2,.int .i64 ln,.slice pa ps.length pc] 37)) W->AtC W w.heap.size 30 #[dx,dy,.slice (some ⟨g,off,none⟩) is.length c3,bv]/\AtC W (w.heap.size+1) 37 #[.int .i64 2,.int .i64 ln,.slice pa ps.length pc]/\Below w.heap.size w W/\RInts W (.slice pa ps.length pc) ps/\DR W dx dy (.slice (some ⟨g,off,none⟩) is.length c3) bv xs ys is bs):=fun W b=>by
    exact cQ46
   go_wp2;go_loopw [10] (fun i wr=>∃ q:Nat,q<=ps.length/\i=.int .i64 q/\Hid (Below ((w.alloc (.cells #[dx,dy,.slice (some ⟨g,off,none⟩) is.length c3,bv] 30)).alloc (.cells #[.int .i64 2,.int .i64 ln,.slice pa ps.length pc] 37)).heap.size ((w.alloc (.cells #[dx,dy,.slice (some ⟨g,off,none⟩) is.length c3,bv] 30)).alloc (.cells #[.int .i64 2,.int .i64 ln,.slice pa ps.length pc] 37)) wr)) (fun i _=>ps.length - (intOf i).toNat)
   case atStart=>exact ⟨0,Nat.zero_le _,rfl,Below.refl _ _⟩
   case round =>
    obtain ⟨q,hq,rfl,HQ⟩:=hrel;obtain ⟨A0,A1,-,-,-⟩:=HW.out wr HQ.out;have y2:=A1.c2;clear A0 A1;by_cases hlt:q < ps.length
    ·obtain ⟨A0,A1,-,rI,dR⟩:=HW.out wr HQ.out;obtain ⟨pa',pc',e1,hcp⟩:=rI;simp only [Value.slice.injEq,true_and] at e1;obtain ⟨rfl,rfl⟩:=e1;obtain ⟨gp,op,rfl,hgp,kp⟩:=hcp q hlt;obtain ⟨Pn,hPn⟩:∃ Pn,ps[q]=Pn:=⟨_,rfl⟩
     rw [hPn] at kp;have HD:=hide dR;have hbl:bs.length<=1048576:=HG.out.b;have CB:=hide (fun (W:World) (hd:Below wr.heap.size wr W)=>zey Pn dx dy (.slice (some ⟨g,off,none⟩) is.length c3) bv xs ys is bs wr W HD.out hd hbl);have hbn:=zf1 HG.out Pn;obtain ⟨⟨bd,bss,btx⟩,hBD⟩:∃ X,blkAt bs Pn=X:=⟨_,rfl⟩
     obtain ⟨F,hF⟩:∃ F,inB Pn 1 bs.length=F:=⟨_,rfl⟩
     rw [hBD,hF] at CB;rw [hBD] at hbn;have HBD:=hide hBD;have HFF:=hide hF;have q0:(0:Int)<=(q:Int):=by omega
     have q1:(q:Int) < (ps.length:Int):=by omega
     have HC2:Hid (∀ W,Below wr.drew.heap.size wr.drew W->AtC W w.heap.size 30 #[dx,dy,.slice (some ⟨g,off,none⟩) is.length c3,bv]/\AtC W (w.heap.size+1) 37 #[.int .i64 2,.int .i64 ln,.slice (some ⟨gp,op,none⟩) ps.length pc]/\W.cell? ⟨gp,op+q,none⟩=some (.int .i64 Pn)/\DR W dx dy (.slice (some ⟨g,off,none⟩) is.length c3) bv xs ys is bs):=fun W b=>by
      exact cQ111
     have HKP:=hide kp;clear hPn kp dR hcp hBD hF A0 A1;go_wp2_with fail
     refine Exists.elim (p:=fun QQ:Exit->Act->World->Prop=>∀ ex ac W,QQ ex ac W↔(ex=.normal/\∃ (z6:Value) (bw:Nat) (sa:Option Addr) (sc:Nat),ac=⟨List.toArray ((Value.agg #[dx,dy,Value.slice (some { block:=g,off:=off }) is.length c3,bv]) :: (Value.int IntKind.i64 (↑j+1)) :: (Value.string nm) :: (Value.pointer (some { block:=w.heap.size,off:=0 })) :: (undef) :: (undef) :: (u6) :: (u7) :: (u8) :: (Value.pointer (some { block:=w.heap.size+1,off:=0 })) :: (Value.int IntKind.i64 ↑q) :: (.pointer (some ⟨bw,0,none⟩)) :: (.bool F) :: (u13) :: (Value.int IntKind.i64 (↑j+1)) :: (Value.pointer (some { block:=w.heap.size,off:=2 })) :: (Value.slice (some { block:=g,off:=off }) is.length c3) :: (Value.int IntKind.i64 ↑is.length) :: (Value.bool true) :: (Value.bool false) :: (Value.bool false) :: (Value.pointer (some { block:=w.heap.size,off:=2 })) :: (Value.slice (some { block:=g,off:=off }) is.length c3) :: (Value.int IntKind.i64 (↑j+1)) :: (Value.int IntKind.i64 ↑j) :: (Value.pointer (some { block:=g,off:=off+j * 3 })) :: (Value.pointer (some { block:=g,off:=off+j * 3 })) :: (Value.int IntKind.i64 2) :: (Value.bool false) :: (Value.bool false) :: (Value.pointer (some { block:=w.heap.size,off:=2 })) :: (Value.slice (some { block:=g,off:=off }) is.length c3) :: (Value.int IntKind.i64 (↑j+1)) :: (Value.int IntKind.i64 ↑j) :: (Value.pointer (some { block:=g,off:=off+j * 3 })) :: (Value.agg #[Value.int IntKind.i64 2,Value.int IntKind.i64 ln,Value.slice (some { block:=gp,off:=op }) ps.length pc]) :: (Value.int IntKind.i64 ↑q) :: (Value.pointer (some { block:=w.heap.size+1,off:=2 })) :: (Value.slice (some { block:=gp,off:=op }) ps.length pc) :: (Value.int IntKind.i64 ↑ps.length) :: (Value.bool true) :: (u41) :: (u42) :: (z6) :: (.agg #[dx,dy,.slice (some ⟨g,off,none⟩) is.length c3,bv]) :: (.pointer (some ⟨w.heap.size+1,2,none⟩)) :: (.slice (some ⟨gp,op,none⟩) ps.length pc) :: (.int .i64 q) :: (.pointer (some ⟨gp,op+q,none⟩)) :: (.int .i64 Pn) :: (z6) :: (.agg #[.bool bd,.slice sa bss.length sc,.string btx]) :: (.bool F) :: (u53) :: (u54) :: (u55) :: (u56) :: (u57) :: (u58) :: (u59) :: (u60) :: (u61) :: (u62) :: (u63) :: (u64) :: (u65) :: (u66) :: (u67) :: (u68) :: (u69) :: (u70) :: (u71) :: (u72) :: (u73) :: (u74) :: (u75) :: (u76) :: []),[]⟩/\AtC W bw 44 #[.bool bd,.slice sa bss.length sc,.string btx]/\RSl wr (.slice sa bss.length sc) bss/\Below wr.heap.size wr W)) ⟨_,fun _ _ _=>Iff.rfl⟩ fun QQ hQQ=>?_;have HQQ:=hide hQQ;clear hQQ;refine Code.wp_mono (Q:=QQ) ?_ ?_
     rotate_left
     ·exact cQ0
     intro ex ac W3 hq3;obtain ⟨rfl,z6,bw,sa,sc,rfl,A3,R3,B3⟩:=(HQQ.out _ _ _).1 hq3;clear hq3 HQQ;have HN:Hid (∀ W,Below W3.heap.size W3 W->AtC W bw 44 #[.bool bd,.slice sa bss.length sc,.string btx]/\RSl W (.slice sa bss.length sc) bss/\W.cell? ⟨w.heap.size+1,2,none⟩=some (.slice (some ⟨gp,op,none⟩) ps.length pc)/\W.cell? ⟨gp,op+q,none⟩=some (.int .i64 Pn)/\Below w.heap.size w W/\Below ((w.alloc (.cells #[dx,dy,.slice (some ⟨g,off,none⟩) is.length c3,bv] 30)).alloc (.cells #[.int .i64 2,.int .i64 ln,.slice (some ⟨gp,op,none⟩) ps.length pc] 37)).heap.size ((w.alloc (.cells #[dx,dy,.slice (some ⟨g,off,none⟩) is.length c3,bv] 30)).alloc (.cells #[.int .i64 2,.int .i64 ln,.slice (some ⟨gp,op,none⟩) ps.length pc] 37)) W):=fun W b=>by
      exact cQ65
     obtain ⟨d1,d2,-⟩:=HN.out _ bR;have g0:=d1.c0;have g1:=d1.c1;have g2:=d1.c2;have HD2:=hide d2;clear d1 d2 A3 R3 B3 y2 CB HC2;go_wp2_with fail
     refine (zg6 bd _ bss btx nm W3 HD2.out hbn).mono ?_;rintro e w4 ⟨k,rfl,SL,B4⟩;obtain ⟨d1,d2,d3,d4,d5,d6⟩:=HN.out w4 B4;have g0:=d1.c0;have g1:=d1.c1;have HE:=hide (And.intro d5 d6);clear d1 d5 d6 HN B4 HD2 HQ
     cases F with
     | false =>
      exact cQ37
     | true =>
      cases bd with
      | false =>
       exact cQ37
      | true =>
       rcases SL with rfl | ⟨jj,hjj,rfl,hnm,hsz⟩
       ·exact cQ37
       ·obtain ⟨sa',sc',e1,-,hcs⟩:=d2;simp only [Value.slice.injEq,true_and] at e1;obtain ⟨rfl,rfl⟩:=e1;obtain ⟨gs,os,rfl,-,-,ks⟩:=hcs jj hjj;have HFI:Hid (zdh bs nm Pn (jj:Int) bss[jj].2):=by
         exact cQ113
        generalize bss[jj].2=ino at *;have t0:(0:Int)<=(jj:Int):=by omega
        have t1:(jj:Int) < (bss.length:Int):=by omega
        clear hcs hnm hsz;go_wp2;go_quiet (fail)
        go_wp2
        go_ret3
        exact ⟨_,_,_,rfl,HFI.out,below_drewN HE.out.1 _⟩
    ·have HF:=hide (HW.out wr HQ.out).2.2.1;clear HQ;go_wp2
     go_ret3
     exact ⟨0,0,0,rfl,.inl ⟨rfl,rfl,rfl⟩,HF.out⟩
  ·have hk2:decide (kd=2)=false:=decide_eq_false hk;go_wp2
   go_ret3
   exact ⟨0,0,0,rfl,.inl ⟨rfl,rfl,rfl⟩,HB.out⟩
namespace Kit
def InoN (e:Ending):Prop:=∃ k:Int,e=.returned (.int .i64 k)/\0<=k/\k<=8
theorem InoN.mk {e:Ending}(h:∃ k:Int,e=.returned (.int .i64 k)/\0<=k/\k<=8):InoN e:=h
theorem zca {w:World}{B:Nat}{v:Value}{l:List ByteArray}(h:ROwns w B 9 v (stc l))(j:Nat)(hj:j < l.length):∃ g c,v=.slice (some ⟨g,0,none⟩) l.length c/\w.cell? ⟨g,j,none⟩=some (.string l[j])/\g < w.heap.size:=by
 obtain ⟨g,c,e,h1,-,-,h4,-⟩:=h.at j (by rw [zai];exact hj);rw [zai] at e;exact ⟨g,c,e,h1.trans (by simp [stc,hj]),h4⟩
end Kit
theorem zbx (dx dy iv bv:Value)(xs ys:List Bool)(is:List Ino)(bs:List Blk)(p:ByteArray)(w:World)(h:DR w dx dy iv bv xs ys is bs)(hB:Big 1048576 xs ys is bs)(hi:is.length=8)(hp:p.size<=1048576) :
  Calls Tryz.prog 91 #[.agg #[dx,dy,iv,bv],.string p] w fun e w'=>InoN e/\Below w.heap.size w w':=by
 obtain ⟨a1,c1,a2,c2,a3,c3,a4,c4,rfl,rfl,rfl,rfl⟩:=h.form;have HH:=hide h;have HB:=hide hB;have HI:=hide hi;have HPP:=hide hp;have HW:Hid (∀ W,Below (w.alloc (.cells #[.slice a1 xs.length c1,.slice a2 ys.length c2,.slice a3 is.length c3,.slice a4 bs.length c4] 30)).heap.size (w.alloc (.cells #[.slice a1 xs.length c1,.slice a2 ys.length c2,.slice a3 is.length c3,.slice a4 bs.length c4] 30)) W->Below w.heap.size w W/\AtC W w.heap.size 30 #[.slice a1 xs.length c1,.slice a2 ys.length c2,.slice a3 is.length c3,.slice a4 bs.length c4]):=fun W bb=>⟨((Below.refl _ w).alloc nR _).trans (bb.mono (by simp)),(AtC.new w 30 _).over bb⟩
 clear h hB hi hp;go_enter Tryz.func91,Tryz.ntmps91
 go_wp2_with fail
 refine (zcw p _ HPP.out).mono ?_;rintro e w1 ⟨⟨lv,l,r,rfl,O1,hl1,-⟩,B1⟩;obtain ⟨la,lc,rfl,-⟩:=O1.form;obtain ⟨ll,hll⟩:∃ ll,(stc l).length=ll:=⟨_,rfl⟩
 have HL2:Hid (l.length=ll):=by show l.length=ll;rw [← hll,zai]
 rw [hll] at O1;rw [hll];clear hll;generalize hW0:(w.alloc (.cells #[.slice a1 xs.length c1,.slice a2 ys.length c2,.slice a3 is.length c3,.slice a4 bs.length c4] 30))=W0 at *;clear hW0;have HO1:=hide O1;have HL1:=hide hl1;have HB1:=hide B1;clear O1 hl1 B1
 cases r with
 | false =>
  go_wp2;go_ret;exact ⟨InoN.mk ⟨0,rfl,by decide,by decide⟩,(HW.out _ HB1.out).1⟩
 | true =>
  have HL3:Hid (l.length<=4/\∀ s∈l,za2 s=true):=HL1.out rfl;have hl4:ll<=4:=by have:=HL2.out;have:=HL3.out.1;omega
  clear HL1;go_wp2_with fail
  go_loopw [8,7] (fun i' k' wr=>∃ (q:Nat) (k:Int),q<=ll/\i'=.int .i64 q/\k'=.int .i64 k/\1<=k/\k<=8/\Hid (Below w1.heap.size w1 wr)) (fun i' k' _=>ll - (intOf i').toNat)
  case atStart=>exact ⟨0,1,Nat.zero_le _,rfl,rfl,by decide,by decide,Below.refl _ _⟩
  case round =>
   obtain ⟨q,k,hq,rfl,rfl,hk1,hk8,HR⟩:=hrel;by_cases hlt:q < ll
   ·obtain ⟨g,c,e9,kq9,hg⟩:=zca (HO1.out.below HR.out nR) q (by rw [HL2.out];exact hlt);rw [HL2.out] at e9;simp only [Value.slice.injEq,true_and] at e9;obtain ⟨rfl,rfl⟩:=e9;obtain ⟨nm,k9⟩:∃ nm,wr.cell? ⟨g,q,none⟩=some (.string nm):=⟨_,kq9⟩
    have hbw:=HW.out wr (HB1.out.trans (HR.out.mono HB1.out.size));have HAL:Hid (∀ W,Below wr.heap.size wr W->AtC W w.heap.size 30 #[.slice a1 xs.length c1,.slice a2 ys.length c2,.slice a3 is.length c3,.slice a4 bs.length c4]/\Below w.heap.size w W/\Below w1.heap.size w1 W):=fun W bb=>⟨hbw.2.over bb,hbw.1.trans (bb.mono hbw.1.size),HR.out.trans (bb.mono HR.out.size)⟩
    have A0:=hbw.2;obtain ⟨x0,x1,x2,x3⟩:=AtC.four A0;have q0:(0:Int)<=(q:Int):=by omega
    have q1:(q:Int) < (ll:Int):=by omega
    clear A0 hbw hg kq9;go_upto_region 8 with fail
    go_cut [7] from 16 to 38 (fun c wx=>(∃ k:Int,c=.int .i64 k)/\Below wr.heap.size wr wx)
    case first =>
     go_region_with (go_at_call 102;refine (zg8 k nm _ _ _ _ xs ys is bs _ (HH.out.below (HAL.out _ (zac bR)).2.1 nR) HB.out).mono ?_;rintro e w2 ⟨Bk,s2,k2,rfl,-,B2⟩;have HB2:=hide B2;clear B2)
     all_goals (go_wp2_with fail;go_meet;exact ⟨⟨_,rfl⟩,zac HB2.out⟩)
    case rest =>
     obtain ⟨⟨k2,rfl⟩,hb2⟩:=hcut;obtain ⟨A2,b2,b3⟩:=HAL.out wc hb2;have y2:=A2.c2;have HZ:=hide (And.intro b2 b3);clear A2 b2 b3 hb2 HAL x0 x1 x2 x3 k9
     cases hin:inB k2 1 is.length with
     | false =>
      have HIN:=hide hin;clear hin;go_wp2_with fail
      refine (zaj k2 1 _ _).mono ?_;rintro e w7 ⟨rfl,rfl⟩;rw [HIN.out];go_wp2;go_ret;exact ⟨InoN.mk ⟨0,rfl,by decide,by decide⟩,HZ.out.1⟩
     | true =>
      have HIN:=hide hin;have hk:=zao hin;have HK:Hid (1<=k2/\k2<=8):=by rw [HI.out] at hk;exact hk
      clear hin hk;go_wp2_with fail
      refine (zaj k2 1 _ _).mono ?_;rintro e w7 ⟨rfl,rfl⟩;rw [HIN.out];go_wp2;have HREL:Hid (∃ (q':Nat) (k':Int),q'<=ll/\Value.int .i64 ((q:Int)+1)=.int .i64 q'/\Value.int .i64 k2=.int .i64 k'/\1<=k'/\k'<=8/\Hid (Below w1.heap.size w1 w7)):=⟨q+1,k2,by omega,by go_num,rfl,HK.out.1,HK.out.2,HZ.out.2⟩
      go_roundw
      case rel=>first | exact HREL.out | ((repeat apply Exists.intro);exact ⟨HREL.out,rfl⟩)
      case measure=>simp [intOf];omega
   ·have HF:Hid (Below w.heap.size w wr):=(HW.out wr (HB1.out.trans (HR.out.mono HB1.out.size))).1;go_wp2;go_ret;exact ⟨InoN.mk ⟨k,rfl,by omega,hk8⟩,HF.out⟩
namespace Kit
def SplR (e:Ending):Prop:=∃ (s t:ByteArray) (r:Bool),e=.returned (.tuple #[.string s,.string t,.bool r])/\s.size<=100/\t.size<=6/\(r=true->za2 t=true)
theorem SplR.mk {e:Ending}(h:∃ (s t:ByteArray) (r:Bool),e=.returned (.tuple #[.string s,.string t,.bool r])/\s.size<=100/\t.size<=6/\(r=true->za2 t=true)):SplR e:=h
end Kit
theorem zcg (p:ByteArray)(w:World)(hp:p.size<=1048576) :
  Calls Tryz.prog 89 #[.string p] w fun e w'=>SplR e/\Below w.heap.size w w':=by
 have HPP:=hide hp;clear hp;go_enter Tryz.func89,Tryz.ntmps89
 go_wp2_with fail
 refine (zcw p _ HPP.out).mono ?_;rintro e w1 ⟨⟨lv,l,r,rfl,O1,hl1,-⟩,B1⟩;obtain ⟨la,lc,rfl,-⟩:=O1.form;obtain ⟨ll,hll⟩:∃ ll,(stc l).length=ll:=⟨_,rfl⟩
 have HL2:Hid (l.length=ll):=by show l.length=ll;rw [← hll,zai]
 rw [hll] at O1;rw [hll];clear hll;have HO1:=hide O1;have HL1:=hide hl1;have HB1:=hide B1;clear O1 hl1 B1
 cases r with
 | false =>
  go_wp2
  exact cQ124
 | true =>
  have HL3:Hid (l.length<=4/\∀ s∈l,za2 s=true):=HL1.out rfl;have hl4:ll<=4:=by have:=HL2.out;have:=HL3.out.1;omega
  clear HL1;by_cases hz:ll=0
  ·subst hz;go_wp2
   exact cQ124
  have hzb:((ll:Int) == 0)=false:=beq_eq_false_iff_ne.mpr (by omega);go_wp2_with fail
  clear hzb;go_loopw [8,7] (fun i' s' wr=>∃ (q:Nat) (s:ByteArray),q < ll/\i'=.int .i64 q/\s'=.string s/\Hid (s.size<=7 * q)/\w1=wr) (fun i' s' _=>ll - (intOf i').toNat)
  case atStart=>exact ⟨0,⟨#[]⟩,by omega,rfl,rfl,Nat.le_refl _,rfl⟩
  case round =>
   obtain ⟨q,s,hq,rfl,rfl,HS,rfl⟩:=hrel;obtain ⟨g,c,e9,kq9,hg⟩:=zca HO1.out q (by rw [HL2.out];exact hq);have hnm:=HL3.out.2 _ (List.getElem_mem (show q < l.length by rw [HL2.out];exact hq));rw [HL2.out] at e9;simp only [Value.slice.injEq,true_and] at e9;obtain ⟨rfl,rfl⟩:=e9;by_cases hlt:q+1 < ll
   ·obtain ⟨nm,hnmv⟩:∃ nm,l[q]'(by rw [HL2.out];exact hq)=nm:=⟨_,rfl⟩
    rw [hnmv] at kq9 hnm;have q0:(0:Int)<=(q:Int):=by omega
    have q1:(q:Int) < (ll:Int):=by omega
    have q2:(q:Int)+1 < (ll:Int):=by omega
    have hnm6:=(zba hnm).2;have hs28:s.size<=28:=by have:=HS.out;omega
    clear hnm hnmv hg;go_wp2;go_roundw
    case rel=>exact ⟨q+1,_,by omega,by go_num,rfl,by have:=HS.out;show ByteArray.size _<=_;simp only [ByteArray.size_append];show s.size+1+nm.size<=_;omega,by first | rfl | trivial⟩
    case measure=>simp [intOf];omega
   ·have hq1:ll=q+1:=by omega
    subst hq1;obtain ⟨nm,hnmv⟩:∃ nm,l[q]'(by rw [HL2.out];exact hq)=nm:=⟨_,rfl⟩
    rw [hnmv] at kq9 hnm;have q0:(0:Int)<=(q:Int):=by omega
    have q1:(q:Int) < (q:Int)+1:=by omega
    have hwq:IntKind.i64.wrap (q:Int)=(q:Int):=wrap_small _ (by omega) (by omega);have HNM:=hide hnm;clear hnm hnmv hg;by_cases he:(s.toList == ([]:List UInt8))=true
    ·go_upto_region 11 with fail
     go_quiet (fail)
     go_wp2
     go_ret3
     exact ⟨SplR.mk ⟨_,_,_,rfl,by decide,(zba HNM.out).2,fun _=>HNM.out⟩,below_drewN HB1.out _⟩
    ·replace he:(s.toList == ([]:List UInt8))=false:=by simpa using he
     go_upto_region 11 with fail
     go_quiet (fail)
     go_wp2
     go_ret3
     exact ⟨SplR.mk ⟨_,_,_,rfl,by have:=HS.out;show s.size<=100;omega,(zba HNM.out).2,fun _=>HNM.out⟩,below_drewN HB1.out _⟩
def AnyB (e:Ending):Prop:=∃ r,e=.returned (.bool r)
theorem zcy (S:Nat->Prop)(b:Nat)(u v iv bv dv pv:Value)(m:MD)(w:World)(h:PM w S b u v iv bv dv pv m) :
  Calls Tryz.prog 94 #[.pointer (some ⟨b,0,none⟩)] w fun e w'=>AnyB e/\w'=w:=by
 obtain ⟨a1,c1,a2,c2,a3,c3,a4,c4,a5,c5,a6,c6,rfl,rfl,rfl,rfl,rfl,rfl⟩:=h.form;have x5:=h.box.c5;have x6:=h.box.c6;clear h;by_cases h1:(m.ds.length:Int)<=32
 ·by_cases h2:m.nx<=99000
  ·exact cQ94
  ·exact cQ94
 ·exact cQ94
def isNm (k:Int):Bool:=(k == 2 || k == 3) || k == 4
theorem zcb (id kd io pt bk sl:Int)(nm:ByteArray)(bt ot:Bool)(af:Int)(a:Option Addr)(n c:Nat)(w:World) :
  Calls Tryz.prog 27 #[.agg #[.int .i64 id,.int .i64 kd,.int .i64 io,.int .i64 pt,.int .i64 bk,.int .i64 sl,.string nm,.bool bt,.bool ot,.int .i64 af,.slice a n c]] w fun e w'=>e=.returned (.bool (isNm kd))/\Below w.heap.size w w':=by
 by_cases h2:kd=2
 ·subst h2;go_enter Tryz.func27,Tryz.ntmps27
  go_wp2;go_ret;exact ⟨rfl,by go_grown⟩
 ·by_cases h3:kd=3
  ·subst h3;go_enter Tryz.func27,Tryz.ntmps27
   go_wp2;go_ret;exact ⟨rfl,by go_grown⟩
  ·by_cases h4:kd=4
   ·subst h4;go_enter Tryz.func27,Tryz.ntmps27
    go_wp2;go_ret;exact ⟨rfl,by go_grown⟩
   ·have HN:Hid (isNm kd=false):=by show isNm kd=false;unfold isNm;simp [h2,h3,h4]
    go_enter Tryz.func27,Tryz.ntmps27
    go_wp2;go_ret;exact ⟨by rw [HN.out];simp [h2,h3,h4],by go_grown⟩
theorem zeb (x y:Int)(u v iv bv dv pv:Value)(m:MD)(w:World)(h:MR w u v iv bv dv pv m)(hl:m.ds.length<=1048576) :
  Calls Tryz.prog 12 #[.agg #[u,v,iv,bv,dv,pv,.int .i64 m.nx],.int .i64 x,.int .i64 y] w fun e w'=>(∃ k:Int,e=.returned (.int .i64 k))/\Below w.heap.size w w':=by
 have H:=hide h;obtain ⟨a1,c1,a2,c2,a3,c3,a4,c4,a5,c5,a6,c6,rfl,rfl,rfl,rfl,rfl,rfl⟩:=h.form;clear h;obtain ⟨W0,hW0⟩:∃ W0,w.alloc (.cells #[.slice a1 m.xs.length c1,.slice a2 m.ys.length c2,.slice a3 m.is.length c3,.slice a4 m.bs.length c4,.slice a5 m.fs.length c5,.slice a6 m.ds.length c6,.int .i64 m.nx] 33)=W0:=⟨_,rfl⟩
 have HC:Hid (∀ W,Below W0.heap.size W0 W->W.cell? ⟨w.heap.size,5,none⟩=some (.slice a6 m.ds.length c6)/\RN KDep W (.slice a6 m.ds.length c6) m.ds/\Below w.heap.size w W):=fun W b=>by
  rw [← hW0] at b;have bb:=((Below.refl _ w).alloc nR (.cells #[.slice a1 m.xs.length c1,.slice a2 m.ys.length c2,.slice a3 m.is.length c3,.slice a4 m.bs.length c4,.slice a5 m.fs.length c5,.slice a6 m.ds.length c6,.int .i64 m.nx] 33)).trans (b.mono (by simp));exact ⟨((AtC.new w 33 #[.slice a1 m.xs.length c1,.slice a2 m.ys.length c2,.slice a3 m.is.length c3,.slice a4 m.bs.length c4,.slice a5 m.fs.length c5,.slice a6 m.ds.length c6,.int .i64 m.nx]).over b).cell 5,H.out.p.below bb nR,bb⟩
 have x5:=(HC.out _ bR).1;go_enter Tryz.func12,Tryz.ntmps12
 go_wp2;clear hW0;go_loopw [7] (fun i wr=>∃ j:Nat,j<=m.ds.length/\i=.int .i64 j/\Hid (Below W0.heap.size W0 wr)) (fun i _=>m.ds.length - (intOf i).toNat)
 case atStart=>exact ⟨0,Nat.zero_le _,rfl,Below.refl _ _⟩
 case round =>
  obtain ⟨j,hj,rfl,HR⟩:=hrel;obtain ⟨y5,hr,hb⟩:=HC.out wr HR.out;by_cases hlt:j < m.ds.length
  ·obtain ⟨a,c,e1,-,hc⟩:=hr;simp only [Value.slice.injEq,true_and] at e1;obtain ⟨rfl,rfl⟩:=e1;obtain ⟨g,off,t,rfl,-,hc,p,rfl,hp⟩:=hc j hlt;obtain ⟨X,hX⟩:∃ X,m.ds[j]=X:=⟨_,rfl⟩
   rw [hX] at hc hp;obtain ⟨id,kd,io,pt,bk,sl,nm,bt,ot,af,bl⟩:=X;simp only at hp;obtain ⟨pa,pc,rfl⟩:=hp.form;have n0:wr.cell? ⟨g,off+j * 11,none⟩=some (.int .i64 id):=hc 0 (by decide);have n1:wr.cell? ⟨g,off+j * 11+1,none⟩=some (.int .i64 kd):=hc 1 (by decide);have n2:wr.cell? ⟨g,off+j * 11+2,none⟩=some (.int .i64 io):=hc 2 (by decide);have n3:wr.cell? ⟨g,off+j * 11+3,none⟩=some (.int .i64 pt):=hc 3 (by decide);have n4:wr.cell? ⟨g,off+j * 11+4,none⟩=some (.int .i64 bk):=hc 4 (by decide);have n5:wr.cell? ⟨g,off+j * 11+5,none⟩=some (.int .i64 sl):=hc 5 (by decide);have n6:wr.cell? ⟨g,off+j * 11+6,none⟩=some (.string nm):=hc 6 (by decide);have n7:wr.cell? ⟨g,off+j * 11+7,none⟩=some (.bool bt):=hc 7 (by decide);have n8:wr.cell? ⟨g,off+j * 11+8,none⟩=some (.bool ot):=hc 8 (by decide);have n9:wr.cell? ⟨g,off+j * 11+9,none⟩=some (.int .i64 af):=hc 9 (by decide);have n10:wr.cell? ⟨g,off+j * 11+10,none⟩=some (.slice pa bl.length pc):=hc 10 (by decide);have HD:Hid (∀ W,Below (wr.alloc (.cells #[.int .i64 id,.int .i64 kd,.int .i64 io,.int .i64 pt,.int .i64 bk,.int .i64 sl,.string nm,.bool bt,.bool ot,.int .i64 af,.slice pa bl.length pc] 41)).heap.size (wr.alloc (.cells #[.int .i64 id,.int .i64 kd,.int .i64 io,.int .i64 pt,.int .i64 bk,.int .i64 sl,.string nm,.bool bt,.bool ot,.int .i64 af,.slice pa bl.length pc] 41)) W->AtC W wr.heap.size 41 #[.int .i64 id,.int .i64 kd,.int .i64 io,.int .i64 pt,.int .i64 bk,.int .i64 sl,.string nm,.bool bt,.bool ot,.int .i64 af,.slice pa bl.length pc]/\Below W0.heap.size W0 W/\Below w.heap.size w W):=fun W b=>by
    have bb:=(HR.out.alloc HR.out.size (.cells #[.int .i64 id,.int .i64 kd,.int .i64 io,.int .i64 pt,.int .i64 bk,.int .i64 sl,.string nm,.bool bt,.bool ot,.int .i64 af,.slice pa bl.length pc] 41)).trans (b.mono (HR.out.alloc HR.out.size (.cells #[.int .i64 id,.int .i64 kd,.int .i64 io,.int .i64 pt,.int .i64 bk,.int .i64 sl,.string nm,.bool bt,.bool ot,.int .i64 af,.slice pa bl.length pc] 41)).size);exact ⟨(AtC.new wr 41 #[.int .i64 id,.int .i64 kd,.int .i64 io,.int .i64 pt,.int .i64 bk,.int .i64 sl,.string nm,.bool bt,.bool ot,.int .i64 af,.slice pa bl.length pc]).over b,bb,(HC.out W bb).2.2⟩
   clear hc hp hX hb HR;have j0:(0:Int)<=(j:Int):=by omega
   have j1:(j:Int) < (m.ds.length:Int):=by omega
   go_wp2_with fail
   refine (zcb id kd io pt bk sl nm bt ot af pa bl.length pc _).mono ?_;rintro e w5 ⟨rfl,B5⟩;obtain ⟨A5,b5,b6⟩:=HD.out w5 B5;have d0:=A5.c0;have d4:=A5.c4;have d5:=A5.c5;have HB:=hide (And.intro b5 b6);clear A5 b5 b6 B5 HD
   cases hn:isNm kd with
   | false =>
    clear hn;go_wp2;go_roundw
    case rel=>exact ⟨j+1,by omega,by go_num,HB.out.1⟩
    case measure=>simp [intOf];omega
   | true =>
    clear hn;by_cases h1:bk=x
    ·by_cases h2:sl=y
     ·subst h1 h2;go_wp2;go_ret;exact ⟨⟨_,rfl⟩,HB.out.2⟩
     ·subst h1;go_wp2;go_roundw
      case rel=>exact ⟨j+1,by omega,by go_num,HB.out.1⟩
      case measure=>simp [intOf];omega
    ·go_wp2;go_roundw
     case rel=>exact ⟨j+1,by omega,by go_num,HB.out.1⟩
     case measure=>simp [intOf];omega
  ·have HB:=hide hb;clear hr hb HR;go_wp2;go_ret;exact ⟨⟨_,rfl⟩,HB.out⟩
namespace Kit
theorem PM.slotAt {w:World}{S:Nat->Prop}{b:Nat}{u v iv bv dv pv:Value}{m:MD}(h:PM w S b u v iv bv dv pv m)(j:Nat)(hj:j < m.bs.length)(t:Nat)(ht:t < m.bs[j].2.1.length) :
  ∃ g c gs cs,bv=.slice (some ⟨g,0,none⟩) m.bs.length c/\w.cell? ⟨g,j * 3,none⟩=some (.bool m.bs[j].1)/\w.cell? ⟨g,j * 3+1,none⟩=some (.slice (some ⟨gs,0,none⟩) m.bs[j].2.1.length cs)/\w.cell? ⟨gs,t * 2,none⟩=some (.string m.bs[j].2.1[t].1)/\w.cell? ⟨gs,t * 2+1,none⟩=some (.int .i64 m.bs[j].2.1[t].2)/\(∀ k,w.frozen? ⟨gs,k,none⟩=false)/\S gs/\gs < w.heap.size /\
   ∀ (nm:ByteArray) (z:Int),PM ((w.setCell ⟨gs,t * 2,none⟩ (.string nm)).setCell ⟨gs,t * 2+1,none⟩ (.int .i64 z)) S b u v iv bv dv pv { m with bs:=m.bs.set j (m.bs[j].1,m.bs[j].2.1.set t (nm,z),m.bs[j].2.2) }:=by
 obtain ⟨S1,S2,S3,ts,k1,k2,k3,k4,k5,k6,k7⟩:=h.own;obtain ⟨T1,T2,T3,ti,tb,z1,z2,z3,z4,z5,z6,z7⟩:=k1;have hl:=z4.len;obtain ⟨g,c,e,r0,r1,r2,fz,gl,-⟩:=z4.row.at j (by omega);obtain ⟨i1,i2,i3⟩:=z4.inn j (by omega) hj;obtain ⟨gs,cs,e2,q1,q2,fz2,-,hlt,-⟩:=i2.at t ht;have sT:T3 gs:=z4.si j (by omega) gs (by show (tb[j].2.1).ownBlock=some gs;rw [e2];rfl);have sS1:S1 gs:=z7 gs (.inr (.inr sT));have sS:S gs:=k7 gs (.inl sS1);refine ⟨g,c,gs,cs,by rw [e,hl],by rw [r0,i1],by rw [r1,e2],q1,q2,fz2,sS,hlt,fun nm z=>?_⟩;have un:∀ k,k≠gs->((w.setCell ⟨gs,t * 2,none⟩ (.string nm)).setCell ⟨gs,t * 2+1,none⟩ (.int .i64 z)).heap[k]?=w.heap[k]?:=fun k hk=>(heap_setCell_other _ ⟨gs,t * 2+1,none⟩ k _ hk).trans (heap_setCell_other _ ⟨gs,t * 2,none⟩ k _ hk);have hsb:=SOwns.set_both (l:=m.bs[j].2.1) (g:=gs) (cap:=cs) (by rw [← e2];exact i2) t ht nm z;have hlen:(m.bs[j].2.1.set t (nm,z)).length=m.bs[j].2.1.length:=by simp
 have zz:=z4.turn (w':=(w.setCell ⟨gs,t * 2,none⟩ (.string nm)).setCell ⟨gs,t * 2+1,none⟩ (.int .i64 z)) (S':=T3) j (by omega) tb[j] (m.bs[j].1,m.bs[j].2.1.set t (nm,z),m.bs[j].2.2)
  (by rw [List.set_getElem_self];exact z4.row.of_heap fun k hk=>un k fun q=>z4.out j (by omega) gs (by show (tb[j].2.1).ownBlock=some gs;rw [e2];rfl) (q ▸ hk))
  ⟨i1,by rw [e2];exact hsb.1,i3⟩
  (fun k _ _ hn=>un k fun q=>hn (by show (tb[j].2.1).ownBlock=some k;rw [e2,q];rfl))
  (fun k hk=>.inl hk) (fun k hk=>hk) (fun k hk=>z4.si j (by omega) k hk)
 exact ⟨(un b fun q=>h.nb (q ▸ sS)).trans h.box,⟨S1,S2,S3,ts,⟨T1,T2,T3,ti,_,⟨z1.a.of_heap fun k hk=>un k fun q=>(z5 k (z2 k (.inl hk))).2 (q ▸ sT),z1.b.of_heap fun k hk=>un k fun q=>(z5 k (z2 k (.inr hk))).2 (q ▸ sT),z1.ne⟩,z2,z3.of_heap fun k hk _=>un k fun q=>z6 k hk (q ▸ sT),zz,z5,z6,z7⟩,k2.of_heap fun k hk=>un k fun q=>(k5 gs sS1).1 (q ▸ k3 k hk),k3,k4.of_heap fun k hk _=>un k fun q=>(k5 gs sS1).2 (q ▸ hk),k5,k6,k7⟩,h.nb⟩
theorem PM.ptrAt {w:World}{S:Nat->Prop}{b:Nat}{u v iv bv dv pv:Value}{m:MD}(h:PM w S b u v iv bv dv pv m)(j:Nat)(hj:j < m.is.length)(t:Nat)(ht:t < m.is[j].2.2.length) :
  ∃ g c gs cs,iv=.slice (some ⟨g,0,none⟩) m.is.length c/\w.cell? ⟨g,j * 3,none⟩=some (.int .i64 m.is[j].1)/\w.cell? ⟨g,j * 3+2,none⟩=some (.slice (some ⟨gs,0,none⟩) m.is[j].2.2.length cs)/\w.cell? ⟨gs,t,none⟩=some (.int .i64 m.is[j].2.2[t])/\w.frozen? ⟨gs,t,none⟩=false/\S gs/\gs < w.heap.size /\
   ∀ z:Int,PM (w.setCell ⟨gs,t,none⟩ (.int .i64 z)) S b u v iv bv dv pv { m with is:=m.is.set j (m.is[j].1,m.is[j].2.1,m.is[j].2.2.set t z) }:=by
 obtain ⟨S1,S2,S3,ts,k1,k2,k3,k4,k5,k6,k7⟩:=h.own;obtain ⟨T1,T2,T3,ti,tb,z1,z2,z3,z4,z5,z6,z7⟩:=k1;have hl:=z3.len;obtain ⟨g,c,e,r0,r1,r2,fz,gl,-⟩:=z3.row.at j (by omega);obtain ⟨i1,i2,i3⟩:=z3.inn j (by omega) hj;obtain ⟨gs,cs,e2,q1,fz2,-,hlt,-⟩:=i3.at t (by rw [zaf];exact ht);rw [zaf] at e2;have sT:T2 gs:=z3.si j (by omega) gs (by show (ti[j].2.2).ownBlock=some gs;rw [e2];rfl);have sS1:S1 gs:=z7 gs (.inr (.inl sT));have sS:S gs:=k7 gs (.inl sS1);refine ⟨g,c,gs,cs,by rw [e,hl],by rw [r0,i1],by rw [r2,e2],q1.trans (by simp [ic,ht]),fz2,sS,hlt,fun z=>?_⟩;have un:∀ k,k≠gs->(w.setCell ⟨gs,t,none⟩ (.int .i64 z)).heap[k]?=w.heap[k]?:=fun k hk=>heap_setCell_other _ ⟨gs,t,none⟩ k _ hk;have hsb:=ROwns.stored (l:=ic m.is[j].2.2) (g:=gs) (cap:=cs) (by rw [zaf,← e2];exact i3) t (.int .i64 z);have hic:(ic m.is[j].2.2).set t (.int .i64 z)=ic (m.is[j].2.2.set t z):=by simp [ic,List.map_set]
 rw [zaf,hic] at hsb;have zz:=z3.turn (w':=w.setCell ⟨gs,t,none⟩ (.int .i64 z)) (S':=T2) j (by omega) ti[j] (m.is[j].1,m.is[j].2.1,m.is[j].2.2.set t z)
  (by rw [List.set_getElem_self];exact z3.row.of_heap fun k hk=>un k fun q=>z3.out j (by omega) gs (by show (ti[j].2.2).ownBlock=some gs;rw [e2];rfl) (q ▸ hk))
  ⟨i1,i2,by rw [e2];exact hsb.1⟩
  (fun k _ _ hn=>un k fun q=>hn (by show (ti[j].2.2).ownBlock=some k;rw [e2,q];rfl))
  (fun k hk=>.inl hk) (fun k hk=>hk) (fun k hk=>z3.si j (by omega) k hk)
 exact ⟨(un b fun q=>h.nb (q ▸ sS)).trans h.box,⟨S1,S2,S3,ts,⟨T1,T2,T3,_,tb,⟨z1.a.of_heap fun k hk=>un k fun q=>(z5 k (z2 k (.inl hk))).1 (q ▸ sT),z1.b.of_heap fun k hk=>un k fun q=>(z5 k (z2 k (.inr hk))).1 (q ▸ sT),z1.ne⟩,z2,zz,z4.of_heap fun k hk _=>un k fun q=>z6 gs sT (q ▸ hk),z5,z6,z7⟩,k2.of_heap fun k hk=>un k fun q=>(k5 gs sS1).1 (q ▸ k3 k hk),k3,k4.of_heap fun k hk _=>un k fun q=>(k5 gs sS1).2 (q ▸ hk),k5,k6,k7⟩,h.nb⟩
end Kit
namespace Kit
theorem zf2:∀ (l:List Bool),ff l≠0->ff l - 1 < l.length/\l[ff l - 1]?=some false
 | [],h=>by simp [ff] at h
 | b :: r,h=>by
  cases b with
  | false=>simp [ff]
  | true =>
   have hr:ff r≠0:=fun e=>h (by simp [ff,e]);have:=zf2 r hr;have e:ff (true :: r)=ff r+1:=by simp [ff,hr]
   rw [e];refine ⟨by simp;omega,?_⟩;rw [show ff r+1 - 1=(ff r - 1)+1 by omega,List.getElem?_cons_succ];exact this.2
theorem zf3 {m:MD}(h:ff m.xs≠0):takeB m={ m with xs:=m.xs.set (ff m.xs - 1) true,fs:=m.fs.set 0 true }:=by unfold takeB;rw [if_neg h]
theorem zjk {m:MD}(h:Sh Z0 m)(hf:ff m.xs≠0)(j t:Nat)(hj:j < m.is.length)(ht:t < m.is[j].2.2.length)(h0:m.is[j].2.2[t]=0) :
  Sh Z0 { m with xs:=m.xs.set (ff m.xs - 1) true,fs:=m.fs.set 0 true,is:=m.is.set j (m.is[j].1,m.is[j].2.1,m.is[j].2.2.set t (ff m.xs:Int)) }:=by
 obtain ⟨p1,p2⟩:=zf2 m.xs hf;have hx:=h.ii _ (List.getElem_mem hj);have h16:=h.x;refine ⟨by rw [List.length_set];exact h.x,h.y,by rw [List.length_set];exact h.i,fun q hq=>(List.mem_or_eq_of_mem_set hq).elim (h.ii q) (fun e=>?_),h.b,h.bb,by rw [List.length_set];exact h.f,h.l,h.dd,h.nx,?_⟩
 ·subst e;refine ⟨hx.l,by rw [List.length_set];exact hx.n,fun p hp=>(List.mem_or_eq_of_mem_set hp).elim (hx.p p) (fun e=>?_)⟩;omega
 ·refine h.k.take j (ff m.xs - 1) _ _ p1 p2 (fun hj' q q1=>?_);show (m.is[j].2.2.set t (ff m.xs:Int)).count q<=_;rw [List.count_set ht,h0];have e:((ff m.xs - 1:Nat):Int)+1=(ff m.xs:Int):=by omega
  rw [e];by_cases hq:q=(ff m.xs:Int)
  ·subst hq;simp
  ·have:((ff m.xs:Int) == q)=false:=beq_eq_false_iff_ne.mpr (fun x=>hq x.symm);simp [this];omega
end Kit
end Go.Proofs.YtmbimpmebfoglaaGreat
