/- Texts of the proof, bundled. -/
import Derived.Laws.EntriesVeiled
import Derived.BigQuiet
import Derived.Deep.RegionWith
import Derived.Deep.AppendLies
import Derived.Deep.RegionHeld3
import Derived.Deep.DeepCutAuto
import Derived.Deep.CutRange
import Derived.BigRegion
import Derived.RegionTactic
import Derived.Test.YtmlfihmheolpeaaGreatU02
import Derived.Test.YtmlfihmheolpeaaGreatU01
set_option maxRecDepth 100000
set_option maxHeartbeats 12800000
namespace Go.Proofs.YtmlfihmheolpeaaGreat
open Go.RowKit Kit
theorem zgk (dx dy iv bv:Value)(xs ys:List Bool)(is:List Ino)(bs:List Blk)(w:World)(h:DR w dx dy iv bv xs ys is bs)(hR:RD is bs) :
  Calls Tryz.prog 135 #[.agg #[dx,dy,iv,bv]] w fun e w'=>∃ v,e=.returned v/\SOwns w' w.heap.size 100 v (zbh is bs)/\Below w.heap.size w w':=by
 obtain ⟨a1,c1,a2,c2,a3,c3,a4,c4,rfl,rfl,rfl,rfl⟩:=h.form;have HB0:Hid (Below w.heap.size w (w.alloc (.cells #[.slice a1 xs.length c1,.slice a2 ys.length c2,.slice a3 is.length c3,.slice a4 bs.length c4] 35))):=(Below.refl _ w).alloc nR _;have HA0:=hide (AtC.new w 35 #[.slice a1 xs.length c1,.slice a2 ys.length c2,.slice a3 is.length c3,.slice a4 bs.length c4]);have CR:=hide (za2 (.slice a1 xs.length c1) (.slice a2 ys.length c2) (.slice a3 is.length c3) (.slice a4 bs.length c4) xs ys is bs (w.alloc (.cells #[.slice a1 xs.length c1,.slice a2 ys.length c2,.slice a3 is.length c3,.slice a4 bs.length c4] 35)) (h.alloc _) hR);have CN:=hide (fun (x:Int) (W:World) (hb:Below w.heap.size w W)=>zee x (.slice a1 xs.length c1) (.slice a2 ys.length c2) (.slice a3 is.length c3) (.slice a4 bs.length c4) xs ys is bs W (h.below hb nR) hR);have HL8:Hid (∀ x,(named is bs x).length<=8):=hR.named8;have HLT:Hid (∀ q,(((reachL is bs).take q).flatMap (named is bs)).length<=64):=fun q=>by
  have h1:=zd1 hR ((reachL is bs).take q);have h2:=zah is bs;rw [List.length_take] at h1;omega
 have HR8:=hide (zah is bs);have HFT:=hide (fun q hq=>zd0 (reachL is bs) (named is bs) q hq);obtain ⟨RL,hRL⟩:∃ l,reachL is bs=l:=⟨_,rfl⟩
 have HRES:Hid (zbh is bs=RL.flatMap (named is bs)):=by show zbh is bs=_;unfold zbh;rw [hRL]
 rw [HRES.out];rw [hRL] at CR HLT HR8 HFT;clear h hR hRL HRES;go_enter Tryz.func135,Tryz.ntmps135
 go_wp2_with fail
 refine CR.out.mono ?_;rintro e w1 ⟨rv,rfl,R1,B1⟩;have HB1:=hide (HB0.out.trans (B1.mono HB0.out.size));have HA1:=hide (HA0.out.over B1);obtain ⟨ra,rc,rfl,hcr⟩:=R1.rints;have HCR:=hide hcr;have r8:RL.length<=8:=HR8.out;clear R1 B1 CR HB0 HA0 hcr;go_wp2_with fail
 go_loopw [3,9] (fun sv kv wr=>∃ (s':Value) (q:Nat),s'=sv/\q<=RL.length/\kv=.int .i64 q/\Hid (SOwns wr w1.heap.size 100 s' ((RL.take q).flatMap (named is bs))/\Below w1.heap.size w1 wr)) (fun _ kv _=>RL.length - (intOf kv).toNat)
 case atStart=>exact ⟨_,0,rfl,Nat.zero_le _,rfl,by simpa using SOwns.nil w1 w1.heap.size 100,Below.refl _ _⟩
 case round =>
  obtain ⟨sv,q,hsv,hq,rfl,HQ⟩:=hrel;subst hsv;have q0:(0:Int)<=(q:Int):=by omega
  by_cases hlt:q < RL.length
  rotate_left
  ·have q1:¬ ((q:Int) < (RL.length:Int)):=by omega
   go_wp2;go_ret;have:=HQ.out.1;rw [List.take_of_length_le (by omega)] at this;exact ⟨_,rfl,this.base_le HB1.out.size,HB1.out.trans (HQ.out.2.mono HB1.out.size)⟩
  have q1:(q:Int) < (RL.length:Int):=by omega
  obtain ⟨gr,orr,rfl,hgr,kr⟩:=HCR.out q hlt
  replace kr:=(HQ.out.2.cell (p:=⟨gr,orr+q,none⟩) hgr).trans kr
  have HF1:=hide (HFT.out q hlt);obtain ⟨di,hdi⟩:∃ x,RL[q]=x:=⟨_,rfl⟩
  rw [hdi] at kr HF1;have HB2:=hide (HB1.out.trans (HQ.out.2.mono HB1.out.size));have HA2:=hide (HA1.out.over HQ.out.2);obtain ⟨z0,z1,z2,z3⟩:=AtC.four HA2.out;have CN1:=hide (CN.out di wr HB2.out);clear hdi;go_wp2_with fail
  refine CN1.out.mono ?_;rintro e w2 ⟨nv,rfl,S2,B2⟩;obtain ⟨na,nc,rfl,-⟩:=S2.form;have HS2:Hid (SOwns w2 w1.heap.size 100 sv ((RL.take q).flatMap (named is bs))/\RSl w2 (.slice na (named is bs di).length nc) (named is bs di)/\w1.heap.size<=w2.heap.size/\Below w1.heap.size w1 w2):=⟨HQ.out.1.below B2 nR,S2.rsl,Nat.le_trans HQ.out.2.size B2.size,HQ.out.2.trans (B2.mono HQ.out.2.size)⟩
  have HLN:Hid (((RL.take q).flatMap (named is bs)).length<=100000000000/\(named is bs di).length<=100000000):=⟨by have:=HLT.out q;omega,by have:=HL8.out di;omega⟩
  clear S2 B2 CN1 z0 z1 z2 z3 kr;go_wp2_with (at_builtin;refine wpList_step fun K' hK'=>?_;refine zfn _ rfl (.tmp 13) (.tmp 16) rfl w1.heap.size sv _ rfl HS2.out.1 HS2.out.2.2.1 _ _ rfl HS2.out.2.1 HLN.out.1 HLN.out.2 ?_;intro v9 w9 T9 G9 V9;refine hK' _ _ ?_;rw [← HF1.out] at T9;have HR9:=hide (And.intro T9 (HS2.out.2.2.2.grown G9 HS2.out.2.2.1 (fun k hk=>(HS2.out.1.lt k hk).1)));clear T9 G9 V9 hK')
  go_roundw
  case rel=>exact ⟨v9,q+1,rfl,by omega,by go_num,HR9.out⟩
  case measure=>simp [intOf];omega
theorem zcq (x:Int)(dx dy iv bv:Value)(xs ys:List Bool)(is:List Ino)(bs:List Blk)(w:World)(h:DR w dx dy iv bv xs ys is bs)(hR:RD is bs) :
  Calls Tryz.prog 110 #[.agg #[dx,dy,iv,bv],.int .i64 x] w fun e w'=>e=.returned (.int .i64 (zan is bs x))/\Below w.heap.size w w':=by
 obtain ⟨a1,c1,a2,c2,a3,c3,a4,c4,rfl,rfl,rfl,rfl⟩:=h.form;have HB0:Hid (Below w.heap.size w (w.alloc (.cells #[.slice a1 xs.length c1,.slice a2 ys.length c2,.slice a3 is.length c3,.slice a4 bs.length c4] 35))):=(Below.refl _ w).alloc nR _;have CR:=hide (zgk (.slice a1 xs.length c1) (.slice a2 ys.length c2) (.slice a3 is.length c3) (.slice a4 bs.length c4) xs ys is bs (w.alloc (.cells #[.slice a1 xs.length c1,.slice a2 ys.length c2,.slice a3 is.length c3,.slice a4 bs.length c4] 35)) (h.alloc _) hR);have HS6:=hide (zdc hR);obtain ⟨SL,hSL⟩:∃ l,zbh is bs=l:=⟨_,rfl⟩
 have HRES:Hid (zan is bs x=SL.countP fun s=>decide (s.2=x)):=by show zan is bs x=_;unfold zan;rw [hSL]
 rw [HRES.out];rw [hSL] at CR HS6;clear h hR hSL HRES;go_enter Tryz.func110,Tryz.ntmps110
 go_wp2_with fail
 refine CR.out.mono ?_;rintro e w1 ⟨rv,rfl,R1,B1⟩;have HB1:=hide (HB0.out.trans (B1.mono HB0.out.size));obtain ⟨ra,rc,rfl,-,hcr⟩:=R1.rsl;have HCR:=hide hcr;have r8:SL.length<=64:=HS6.out;clear R1 B1 CR HB0 hcr;go_wp2_with fail
 go_loopw [5,11] (fun nv kv wr=>∃ (q:Nat),q<=SL.length/\nv=.int .i64 (((SL.take q).countP fun s=>decide (s.2=x):Nat):Int)/\kv=.int .i64 q/\Hid (Below w1.heap.size w1 wr)) (fun _ kv _=>SL.length - (intOf kv).toNat)
 case atStart=>exact ⟨0,Nat.zero_le _,by simp,rfl,Below.refl _ _⟩
 case round =>
  obtain ⟨q,hq,rfl,rfl,HQ⟩:=hrel;have q0:(0:Int)<=(q:Int):=by omega
  by_cases hlt:q < SL.length
  rotate_left
  ·have q1:¬ ((q:Int) < (SL.length:Int)):=by omega
   rw [List.take_of_length_le (by omega)];go_wp2;go_ret;exact ⟨rfl,HB1.out.trans (HQ.out.mono HB1.out.size)⟩
  have q1:(q:Int) < (SL.length:Int):=by omega
  obtain ⟨gs,os,rfl,hgs,ks0,ks1⟩:=HCR.out q hlt;have HCT:=hide (zcp SL (fun s=>decide (s.2=x)) q hlt);have hle:=zbt SL (fun s=>decide (s.2=x)) q;obtain ⟨⟨sn,si⟩,hsn⟩:∃ X,SL[q]=X:=⟨_,rfl⟩
  rw [hsn] at ks0 ks1 HCT;simp only at ks0 ks1
  replace ks0:=(HQ.out.cell (p:=⟨gs,os+q * 2,none⟩) hgs).trans ks0
  replace ks1:=(HQ.out.cell (p:=⟨gs,os+q * 2+1,none⟩) hgs).trans ks1
  have hgw:¬ gs=wr.heap.size:=by have:=HQ.out.size;omega
  have HQ2:Hid (Below w1.heap.size w1 (wr.alloc (.cells #[.string sn,.int .i64 si] 100))):=HQ.out.alloc HQ.out.size _;obtain ⟨cn,hcn⟩:∃ c,(SL.take q).countP (fun s=>decide (s.2=x))=c:=⟨_,rfl⟩
  rw [hcn] at HCT hle ⊢;clear hsn hcn;by_cases hx:si=x
  ·subst hx;have HE:Hid ((SL.take (q+1)).countP (fun s=>decide (s.2=si))=cn+1):=hide (by have:=HCT.out;simpa using this);go_wp2;go_roundw
   case rel=>exact ⟨q+1,by omega,by rw [HE.out];go_num,by go_num,HQ2.out⟩
   case measure=>simp [intOf];omega
  ·have HE:Hid ((SL.take (q+1)).countP (fun s=>decide (s.2=x))=cn):=hide (by have:=HCT.out;simpa [hx] using this);go_wp2;go_roundw
   case rel=>exact ⟨q+1,by omega,by rw [HE.out],by go_num,HQ2.out⟩
   case measure=>simp [intOf];omega
structure RX (xs ys:List Bool) (is:List Ino) (bs:List Blk):Prop where
 r:RD is bs
 sr:∀ q∈bs,∀ s∈q.2.1,s.1=⟨#[]⟩\/(1<=s.2/\s.2<=8)
 pr:∀ q∈is,∀ p∈q.2.2,0<=p/\p<=16
 bx:xs.length=16
 y8:ys.length=8
theorem RX.of_ok {xs ys:List Bool}{is:List Ino}{bs:List Blk}(h:zag xs ys is bs=true):RX xs ys is bs:=by
 have hr:=RD.of_ok h;unfold zag at h;simp only [Bool.and_eq_true,decide_eq_true_eq] at h;obtain ⟨⟨h0,h1,h2⟩,h3,h4⟩:=h;have hi:∀ q∈is,inoOk q=true:=List.all_eq_true.1 h1;have hb:∀ q∈bs,blkOk q=true:=List.all_eq_true.1 h3;have h00:xs.length=16/\ys.length=8:=by simpa [okB] using h0
 refine ⟨hr,fun q hq s hs=>?_,fun q hq p hp=>?_,h00.1,h00.2⟩
 ·have:=hb q hq;unfold blkOk za4 at this
  cases e:q.1 with
  | true =>
   rw [e] at this;have h5:q.2.2.size=0/\za1 q.2.1=true:=by simpa using this
   have h6:=h5.2;unfold za1 at h6;rw [Bool.and_eq_true] at h6;have:=zhf _ _ h6.2 s hs;rcases of_decide_eq_true this with h | h
   ·exact .inl (zff h.1)
   ·exact .inr h.2
  | false =>
   rw [hr.text q hq e] at hs
   cases hs
 ·have:=hi q hq;unfold inoOk at this;obtain ⟨k,l,ps⟩:=q
  match ps,this,hp with
  | [a,b],h,hp =>
   have h5:=of_decide_eq_true h;simp only [List.mem_cons,List.not_mem_nil,or_false] at hp;rcases hp with rfl | rfl<;>omega
  | [],h,_=>cases h
  | [_],h,_=>cases h
  | _ :: _ :: _ :: _,h,_=>cases h
theorem RX.slot {xs ys:List Bool}{is:List Ino}{bs:List Blk}(h:RX xs ys is bs){i:Int}{s:Sl}(hs:s∈named is bs i):1<=s.2/\s.2<=8:=by
 unfold named at hs
 split at hs
 ·obtain ⟨p,-,hp⟩:=List.mem_flatMap.1 hs;unfold nmd at hp
  split at hp
  ·obtain ⟨h1,h2⟩:=zg7 hp;rcases zbr bs p with e | e
   ·rw [e] at h1;simp at h1
   ·exact (h.sr _ e s h1).resolve_left h2
  ·simp at hp
 ·simp at hs
theorem RX.ptr {xs ys:List Bool}{is:List Ino}{bs:List Blk}(h:RX xs ys is bs){i p:Int}(hp:p∈zak is i):0<=p/\p<=16:=by
 rcases zbj (is:=is) i with ⟨-,e⟩ | ⟨q,hq,-,e⟩
 ·rw [e] at hp;cases hp
 ·rw [e] at hp;exact h.pr q hq p hp
theorem zes {is:List Ino}{bs:List Blk}{i:Int}(hi:i∈reachL is bs):1<=i/\i<=8:=zdw.1 ((zhi _).subset hi)
theorem DR.ino {w:World}{u v bv:Value}{a3:Option Addr}{n c3:Nat}{xs ys:List Bool}{is:List Ino}{bs:List Blk}(h:DR w u v (.slice a3 n c3) bv xs ys is bs)(j:Nat)(hj:j < is.length) :
  ∃ g2 o2 sa sc,a3=some ⟨g2,o2,none⟩/\g2 < w.heap.size/\w.cell? ⟨g2,o2+j * 3,none⟩=some (.int .i64 (zab is ((j:Int)+1)))/\w.cell? ⟨g2,o2+j * 3+1,none⟩=some (.int .i64 is[j].2.1)/\w.cell? ⟨g2,o2+j * 3+2,none⟩=some (.slice sa (zak is ((j:Int)+1)).length sc)/\RInts w (.slice sa (zak is ((j:Int)+1)).length sc) (zak is ((j:Int)+1)):=by
 obtain ⟨qa,qc,qe,-,qh⟩:=h.i;simp only [Value.slice.injEq] at qe;obtain ⟨rfl,rfl,rfl⟩:=qe;obtain ⟨g2,o2,⟨t0,t1,t2⟩,rfl,hg2,r0,r1,r2,e0,e1,rr⟩:=qh j hj;simp only at r0 r1 r2 e0 e1 rr;subst e0 e1;obtain ⟨sa,sc,rfl⟩:=rr.form;rw [(zai hj).1,(zai hj).2];exact ⟨g2,o2,sa,sc,rfl,hg2,r0,r1,r2,rr⟩
theorem DR.bit {w:World}{a:Option Addr}{n c:Nat}{zs:List Bool}(h:RFl w (.slice a n c) zs)(j:Nat)(hj:j < zs.length) :
  ∃ g o,a=some ⟨g,o,none⟩/\g < w.heap.size/\w.cell? ⟨g,o+j,none⟩=some (.bool zs[j]):=by
 obtain ⟨a',c',e,hc⟩:=h;simp only [Value.slice.injEq] at e;obtain ⟨rfl,rfl,rfl⟩:=e;exact hc j hj
theorem DR.blk {w:World}{u v iv:Value}{a4:Option Addr}{n c4:Nat}{xs ys:List Bool}{is:List Ino}{bs:List Blk}(h:DR w u v iv (.slice a4 n c4) xs ys is bs)(j:Nat)(hj:j < bs.length) :
  ∃ g o,a4=some ⟨g,o,none⟩/\g < w.heap.size/\w.cell? ⟨g,o+j * 3,none⟩=some (.bool (blkAt bs ((j:Int)+1)).1):=by
 obtain ⟨qa,qc,qe,-,qh⟩:=h.k;simp only [Value.slice.injEq] at qe;obtain ⟨rfl,rfl,rfl⟩:=qe;obtain ⟨g2,o2,⟨t0,t1,t2⟩,rfl,hg2,r0,r1,r2,e0,e1,rr⟩:=qh j hj;simp only at r0 e0;subst e0;have hb:inB ((j:Int)+1) 1 bs.length=true:=by simp [inB];omega
 refine ⟨g2,o2,rfl,hg2,?_⟩;obtain ⟨jb,hjb,e,e2⟩:=ze1 hb;obtain rfl:jb=j:=by omega
 rw [r0,e2]
def ptrI (is:List Ino) (i:Int):List Pr:=((zak is i).filter fun p=>inB p 1 16).map fun p=>(i,p)
def ptrL (is:List Ino) (l:List Int):List Pr:=l.flatMap (ptrI is)
theorem zb2 {is:List Ino}{bs:List Blk}(h:RD is bs)(i:Int):(zak is i).length<=2:=by
 rcases zbj (is:=is) i with ⟨-,e⟩ | ⟨q,hq,-,e⟩
 ·rw [e];simp
 ·rw [e,h.two q hq];exact Nat.le_refl _
theorem ptrI_len {is:List Ino}{bs:List Blk}(h:RD is bs)(i:Int):(ptrI is i).length<=2:=by
 unfold ptrI;rw [List.length_map];exact Nat.le_trans (List.length_filter_le _ _) (zb2 h i)
theorem zax {is:List Ino}{bs:List Blk}(h:RD is bs)(l:List Int):(ptrL is l).length<=l.length * 2:=za9 l fun i _=>ptrI_len h i
theorem zfo (is:List Ino)(l:List Int)(q:Nat)(h:q < l.length):ptrL is (l.take (q+1))=ptrL is (l.take q) ++ ptrI is l[q]:=zd0 l _ q h
def ptrT (i:Int) (ps:List Int):List Pr:=(ps.filter fun p=>inB p 1 16).map fun p=>(i,p)
theorem zck (i:Int)(ps:List Int)(t:Nat)(h:t < ps.length):ptrT i (ps.take (t+1))=ptrT i (ps.take t) ++ if inB ps[t] 1 16=true then [(i,ps[t])] else []:=by
 unfold ptrT;rw [List.take_succ_eq_append_getElem h,List.filter_append,List.map_append];congr 1
 by_cases e:inB ps[t] 1 16=true
 ·rw [if_pos e,List.filter_cons_of_pos (p:=fun p=>inB p 1 16) e];rfl
 ·rw [if_neg e,List.filter_cons_of_neg (p:=fun p=>inB p 1 16) e];rfl
theorem zcr (i:Int)(ps:List Int):(ptrT i ps).length<=ps.length:=by
 unfold ptrT;rw [List.length_map];exact List.length_filter_le _ _
theorem zeg (lv:Value)(l:List Int)(dx dy iv bv:Value)(xs ys:List Bool)(is:List Ino)(bs:List Blk)(w:World)(h:DR w dx dy iv bv xs ys is bs)(hR:RD is bs)(hv:RInts w lv l)(hl:l.length<=8)(hr:∀ i∈l,1<=i/\i<=8) :
  Calls Tryz.prog 138 #[.agg #[dx,dy,iv,bv],lv] w fun e w'=>∃ v,e=.returned v/\POwns w' w.heap.size 127 v (ptrL is l)/\Below w.heap.size w w':=by
 obtain ⟨a1,c1,a2,c2,a3,c3,a4,c4,rfl,rfl,rfl,rfl⟩:=h.form;obtain ⟨la,lc,rfl,hcl⟩:=hv;have CB:=hide (fun (p:Int) (W:World)=>zhg p (.slice a1 xs.length c1) (.slice a2 ys.length c2) (.slice a3 is.length c3) a4 c4 W);rw [← hR.hb] at CB;have HI8:=hide hR.hi;have HH:=hide h;have HCL:=hide hcl;have HRG:=hide hr;have HP2:Hid (∀ i,(zak is i).length<=2):=zb2 hR;have HPL:Hid (∀ q,(ptrL is (l.take q)).length<=16):=fun q=>by
  have:=zax hR (l.take q);rw [List.length_take] at this;omega
 have HQ0:Hid (POwns (w.alloc (.cells #[.slice a1 xs.length c1,.slice a2 ys.length c2,.slice a3 is.length c3,.slice a4 bs.length c4] 35)) (w.heap.size+1) 127 (.slice none 0 0) (ptrL is (l.take 0))/\Below w.heap.size w (w.alloc (.cells #[.slice a1 xs.length c1,.slice a2 ys.length c2,.slice a3 is.length c3,.slice a4 bs.length c4] 35))/\AtC (w.alloc (.cells #[.slice a1 xs.length c1,.slice a2 ys.length c2,.slice a3 is.length c3,.slice a4 bs.length c4] 35)) w.heap.size 35 #[.slice a1 xs.length c1,.slice a2 ys.length c2,.slice a3 is.length c3,.slice a4 bs.length c4]):=⟨by simpa [ptrL] using POwns.nil _ _ _,(Below.refl _ w).alloc nR _,AtC.new _ _ _⟩
 clear h hcl hr hR;go_enter Tryz.func138,Tryz.ntmps138
 go_wp2_with fail
 go_loopw [5,12] (fun sv kv wr=>∃ (s':Value) (q:Nat),s'=sv/\q<=l.length/\kv=.int .i64 q/\Hid (POwns wr (w.heap.size+1) 127 s' (ptrL is (l.take q))/\Below w.heap.size w wr/\AtC wr w.heap.size 35 #[.slice a1 xs.length c1,.slice a2 ys.length c2,.slice a3 is.length c3,.slice a4 bs.length c4])) (fun _ kv _=>l.length - (intOf kv).toNat)
 case atStart=>exact ⟨_,0,rfl,Nat.zero_le _,rfl,HQ0.out⟩
 case round =>
  obtain ⟨sv,q,hsv,hq,rfl,HQ⟩:=hrel;subst hsv;clear HQ0;have q0:(0:Int)<=(q:Int):=by omega
  by_cases hlt:q < l.length
  rotate_left
  ·have q1:¬ ((q:Int) < (l.length:Int)):=by omega
   go_wp2;go_ret;have:=HQ.out.1;rw [List.take_of_length_le (by omega)] at this;exact ⟨_,rfl,this.base_le (by omega),HQ.out.2.1⟩
  have q1:(q:Int) < (l.length:Int):=by omega
  obtain ⟨gr,orr,rfl,hgr,kr⟩:=HCL.out q hlt
  replace kr:=(HQ.out.2.1.cell (p:=⟨gr,orr+q,none⟩) hgr).trans kr
  have HTK:=hide (zfo is l q hlt);have hrq:=HRG.out _ (List.getElem_mem hlt);obtain ⟨di,hdi⟩:∃ x,l[q]=x:=⟨_,rfl⟩
  rw [hdi] at kr HTK hrq;obtain ⟨j,rfl⟩:∃ j:Nat,di=(j:Int)+1:=⟨(di - 1).toNat,by omega⟩
  have hj:j < is.length:=by have:=HI8.out;omega
  have j0:(0:Int)<=(j:Int):=by omega
  have j1:(j:Int) < (is.length:Int):=by omega
  have hwj:IntKind.i64.wrap (j:Int)=(j:Int):=wrap_small _ (by omega) (by omega);obtain ⟨g2,o2,sa,sc,rfl,hg2,-,-,y2,rr⟩:=DR.ino HH.out j hj
  replace y2:=(HQ.out.2.1.cell (p:=⟨g2,o2+j * 3+2,none⟩) hg2).trans y2
  have x2:wr.cell? ⟨w.heap.size,2,none⟩=some (.slice (some ⟨g2,o2,none⟩) is.length c3):=HQ.out.2.2.cell 2;have hp2:=HP2.out ((j:Int)+1);have hpl:=HPL.out q;unfold ptrI at HTK;obtain ⟨ps,hps⟩:∃ X,zak is ((j:Int)+1)=X:=⟨_,rfl⟩
  rw [hps] at y2 rr hp2 HTK;obtain ⟨pa,pc',pe,hcp⟩:=rr;simp only [Value.slice.injEq,true_and] at pe;obtain ⟨rfl,rfl⟩:=pe;have HCP:=hide hcp;have HQ1:Hid (POwns wr (w.heap.size+1) 127 sv (ptrL is (l.take q) ++ ptrT ((j:Int)+1) (ps.take 0))/\Below w.heap.size w wr/\AtC wr w.heap.size 35 #[.slice a1 xs.length c1,.slice a2 ys.length c2,.slice (some ⟨g2,o2,none⟩) is.length c3,.slice a4 bs.length c4]):=⟨by have:=HQ.out.1;simpa [ptrT] using this,HQ.out.2⟩
  clear hdi hps hcp HQ;go_wp2_with fail
  go_loopw [5,24] (fun sv kv wr=>∃ (s':Value) (t:Nat),s'=sv/\t<=ps.length/\kv=.int .i64 t/\Hid (POwns wr (w.heap.size+1) 127 s' (ptrL is (l.take q) ++ ptrT ((j:Int)+1) (ps.take t))/\Below w.heap.size w wr/\AtC wr w.heap.size 35 #[.slice a1 xs.length c1,.slice a2 ys.length c2,.slice (some ⟨g2,o2,none⟩) is.length c3,.slice a4 bs.length c4])) (fun _ kv _=>ps.length - (intOf kv).toNat)
  case atStart=>exact ⟨_,0,rfl,Nat.zero_le _,rfl,HQ1.out⟩
  case round =>
   obtain ⟨sv',t,hsv,ht,rfl,HT⟩:=hrel;subst hsv;clear HQ1 x2 y2 kr;have t0:(0:Int)<=(t:Int):=by omega
   by_cases htl:t < ps.length
   rotate_left
   ·have t1:¬ ((t:Int) < (ps.length:Int)):=by omega
    have HE:Hid (POwns wr (w.heap.size+1) 127 sv' (ptrL is (l.take (q+1)))):=by
     have:=HT.out.1;rw [List.take_of_length_le (show ps.length<=t by omega)] at this;show POwns _ _ _ _ _;rw [HTK.out];exact this
    go_wp2;go_roundw
    case rel=>exact ⟨sv',q+1,rfl,by omega,by go_num,HE.out,HT.out.2⟩
    case measure=>simp [intOf];omega
   have t1:(t:Int) < (ps.length:Int):=by omega
   obtain ⟨gp,op,rfl,hgp,kp⟩:=HCP.out t htl
   replace kp:=(HT.out.2.1.cell (p:=⟨gp,op+t,none⟩) hgp).trans kp
   have HTT:=hide (zck ((j:Int)+1) ps t htl);have htn:=zcr ((j:Int)+1) (ps.take t);rw [List.length_take] at htn;obtain ⟨Pn,hPn⟩:∃ x,ps[t]=x:=⟨_,rfl⟩
   rw [hPn] at kp HTT;have CB1:=hide (CB.out Pn wr);obtain ⟨z0,z1,z2,z3⟩:=AtC.four HT.out.2.2;have HAL:Hid (Below wr.heap.size wr (wr.alloc (.cells #[.slice a1 xs.length c1,.slice a2 ys.length c2,.slice (some ⟨g2,o2,none⟩) is.length c3,.slice a4 bs.length c4] 35))):=(Below.refl _ wr).alloc nR _;have HT1:Hid (POwns (wr.alloc (.cells #[.slice a1 xs.length c1,.slice a2 ys.length c2,.slice (some ⟨g2,o2,none⟩) is.length c3,.slice a4 bs.length c4] 35)) (w.heap.size+1) 127 sv' (ptrL is (l.take q) ++ ptrT ((j:Int)+1) (ps.take t))/\Below w.heap.size w (wr.alloc (.cells #[.slice a1 xs.length c1,.slice a2 ys.length c2,.slice (some ⟨g2,o2,none⟩) is.length c3,.slice a4 bs.length c4] 35))/\AtC (wr.alloc (.cells #[.slice a1 xs.length c1,.slice a2 ys.length c2,.slice (some ⟨g2,o2,none⟩) is.length c3,.slice a4 bs.length c4] 35)) w.heap.size 35 #[.slice a1 xs.length c1,.slice a2 ys.length c2,.slice (some ⟨g2,o2,none⟩) is.length c3,.slice a4 bs.length c4]):=⟨HT.out.1.alloc _,HT.out.2.1.alloc HT.out.2.1.size _,HT.out.2.2.alloc _⟩
   clear hPn HT;go_wp2_with fail
   refine CB1.out.mono ?_;rintro e w2 ⟨rfl,rfl⟩;obtain ⟨w2,hw2⟩:∃ W,(wr.alloc (.cells #[.slice a1 xs.length c1,.slice a2 ys.length c2,.slice (some ⟨g2,o2,none⟩) is.length c3,.slice a4 bs.length c4] 35))=W:=⟨_,rfl⟩
   rw [hw2] at HT1 ⊢;clear hw2 z0 z1 z2 z3 kp CB1 HAL
   cases hin:inB Pn 1 16 with
   | false =>
    have HE:Hid (ptrT ((j:Int)+1) (ps.take (t+1))=ptrT ((j:Int)+1) (ps.take t)):=hide (by have:=HTT.out;rw [hin] at this;simpa using this);clear hin;go_wp2;go_roundw
    case rel=>exact ⟨sv',t+1,rfl,by omega,by go_num,by rw [HE.out];exact HT1.out⟩
    case measure=>simp [intOf];omega
   | true =>
    have HE:Hid ((ptrL is (l.take q) ++ ptrT ((j:Int)+1) (ps.take t)) ++ [((j:Int)+1,Pn)]=ptrL is (l.take q) ++ ptrT ((j:Int)+1) (ps.take (t+1))):=by
     have:=HTT.out;rw [hin,if_pos rfl] at this;show _=_;rw [this,List.append_assoc]
    have HSZ:Hid (w.heap.size+1<=(w2.alloc (.cells #[.int .i64 ((j:Int)+1),.int .i64 Pn] 127)).heap.size):=by have:=HT1.out.2.1.size;show _<=_;simp;omega
    have HT2:Hid (POwns (w2.alloc (.cells #[.int .i64 ((j:Int)+1),.int .i64 Pn] 127)) (w.heap.size+1) 127 sv' (ptrL is (l.take q) ++ ptrT ((j:Int)+1) (ps.take t))/\Below w.heap.size w (w2.alloc (.cells #[.int .i64 ((j:Int)+1),.int .i64 Pn] 127))/\AtC (w2.alloc (.cells #[.int .i64 ((j:Int)+1),.int .i64 Pn] 127)) w.heap.size 35 #[.slice a1 xs.length c1,.slice a2 ys.length c2,.slice (some ⟨g2,o2,none⟩) is.length c3,.slice a4 bs.length c4]/\AtC (w2.alloc (.cells #[.int .i64 ((j:Int)+1),.int .i64 Pn] 127)) w2.heap.size 127 #[.int .i64 ((j:Int)+1),.int .i64 Pn]):=⟨HT1.out.1.alloc _,HT1.out.2.1.alloc HT1.out.2.1.size _,HT1.out.2.2.alloc _,AtC.new _ _ _⟩
    have HTL:Hid ((ptrL is (l.take q) ++ ptrT ((j:Int)+1) (ps.take t)).length<=100000000000):=by show _<=_;rw [List.length_append];omega
    clear hin;go_wp2_with (at_builtin;refine wpList_step fun K' hK'=>?_;refine zf5 _ rfl (.tmp 31) (.tmp 35) rfl (w.heap.size+1) sv' _ rfl HT2.out.1 HSZ.out w2.heap.size ((j:Int)+1) Pn rfl HT2.out.2.2.2 HTL.out ?_;intro v9 w9 T9 G9 V9;refine hK' _ _ ?_;rw [HE.out] at T9;have HR9:=hide (And.intro T9 (And.intro (HT2.out.2.1.grown G9 HT2.out.2.1.size (fun k hk=>by have:=(HT2.out.1.lt k hk).1;omega)) (HT2.out.2.2.1.grown G9 (fun e=>by have:=(HT2.out.1.lt _ e).1;omega))));clear T9 G9 V9 hK')
    go_roundw
    case rel=>exact ⟨v9,t+1,rfl,by omega,by go_num,HR9.out⟩
    case measure=>simp [intOf];omega
def kndQ (is:List Ino) (q:Nat):List Int:=((List.range q).filter fun i:Nat=>decide (¬ zab is ((i:Int)+1)=0)).map fun i:Nat=>(i:Int)+1
def kndL (is:List Ino):List Int:=kndQ is 8
theorem zd2 (is:List Ino)(q:Nat):kndQ is (q+1)=kndQ is q ++ if zab is ((q:Int)+1)=0 then [] else [(q:Int)+1]:=by
 unfold kndQ;rw [List.range_succ,List.filter_append,List.map_append];congr 1
 by_cases e:zab is ((q:Int)+1)=0
 ·rw [if_pos e,List.filter_cons_of_neg (by simp [e])];rfl
 ·rw [if_neg e,List.filter_cons_of_pos (by simp [e])];rfl
theorem zd3 (is:List Ino)(q:Nat):(kndQ is q).length<=q:=by
 unfold kndQ;rw [List.length_map];exact Nat.le_trans (List.length_filter_le _ _) (by simp)
theorem zcs {is:List Ino}{i:Int}:i∈kndL is↔(1<=i/\i<=8)/\¬ zab is i=0:=by
 unfold kndL kndQ;rw [List.mem_map];constructor
 ·rintro ⟨q,hq,rfl⟩;rw [List.mem_filter,List.mem_range] at hq;exact ⟨by omega,by simpa using hq.2⟩
 ·rintro ⟨h1,h2⟩;refine ⟨(i - 1).toNat,?_,by omega⟩;rw [List.mem_filter,List.mem_range];refine ⟨by omega,?_⟩;rw [show (((i - 1).toNat:Nat):Int)+1=i by omega];simpa using h2
theorem zhj (dx dy iv bv:Value)(xs ys:List Bool)(is:List Ino)(bs:List Blk)(w:World)(h:DR w dx dy iv bv xs ys is bs)(hR:RD is bs) :
  Calls Tryz.prog 58 #[.agg #[dx,dy,iv,bv]] w fun e w'=>∃ v,e=.returned v/\ROwns w' w.heap.size 3 v (ic (kndL is))/\Below w.heap.size w w':=by
 obtain ⟨a1,c1,a2,c2,a3,c3,a4,c4,rfl,rfl,rfl,rfl⟩:=h.form;have CK:=hide (fun (i:Int) (W:World) (hb:Below w.heap.size w W)=>zbm i (.slice a1 xs.length c1) (.slice a2 ys.length c2) (.slice a3 is.length c3) (.slice a4 bs.length c4) xs ys is bs W (h.below hb nR) hR);have HQ0:Hid (ROwns (w.alloc (.cells #[.slice a1 xs.length c1,.slice a2 ys.length c2,.slice a3 is.length c3,.slice a4 bs.length c4] 35)) (w.heap.size+1) 3 (.slice none 0 0) (ic (kndQ is 0))/\Below w.heap.size w (w.alloc (.cells #[.slice a1 xs.length c1,.slice a2 ys.length c2,.slice a3 is.length c3,.slice a4 bs.length c4] 35))/\AtC (w.alloc (.cells #[.slice a1 xs.length c1,.slice a2 ys.length c2,.slice a3 is.length c3,.slice a4 bs.length c4] 35)) w.heap.size 35 #[.slice a1 xs.length c1,.slice a2 ys.length c2,.slice a3 is.length c3,.slice a4 bs.length c4]):=⟨by simpa [kndQ,ic] using ROwns.nil _ _ _,(Below.refl _ w).alloc nR _,AtC.new _ _ _⟩
 clear h hR;go_enter Tryz.func58,Tryz.ntmps58
 go_wp2_with fail
 go_loopw [3,4] (fun sv kv wr=>∃ (s':Value) (q:Nat),s'=sv/\q<=8/\kv=.int .i64 ((q:Int)+1)/\Hid (ROwns wr (w.heap.size+1) 3 s' (ic (kndQ is q))/\Below w.heap.size w wr/\AtC wr w.heap.size 35 #[.slice a1 xs.length c1,.slice a2 ys.length c2,.slice a3 is.length c3,.slice a4 bs.length c4])) (fun _ kv _=>9 - (intOf kv).toNat)
 case atStart=>exact ⟨_,0,rfl,Nat.zero_le _,rfl,HQ0.out⟩
 case round =>
  obtain ⟨sv,q,hsv,hq,rfl,HQ⟩:=hrel;subst hsv;clear HQ0;by_cases hlt:q < 8
  rotate_left
  ·have q1:¬ ((q:Int)+1<=8):=by omega
   go_wp2;go_ret;obtain rfl:q=8:=by omega
   exact ⟨_,rfl,HQ.out.1.base_le (by omega),HQ.out.2.1⟩
  have q1:(q:Int)+1<=8:=by omega
  obtain ⟨z0,z1,z2,z3⟩:=AtC.four HQ.out.2.2;have CK1:=hide (CK.out ((q:Int)+1) wr HQ.out.2.1);have HKS:=hide (zd2 is q);have HKL:=hide (zd3 is q);obtain ⟨kd,hkd⟩:∃ k,zab is ((q:Int)+1)=k:=⟨_,rfl⟩
  rw [hkd] at CK1 HKS;clear hkd;go_wp2_with fail
  refine CK1.out.mono ?_;rintro e w2 ⟨rfl,B2⟩;have HQ2:Hid (ROwns w2 (w.heap.size+1) 3 sv (ic (kndQ is q))/\Below w.heap.size w w2/\AtC w2 w.heap.size 35 #[.slice a1 xs.length c1,.slice a2 ys.length c2,.slice a3 is.length c3,.slice a4 bs.length c4]):=⟨HQ.out.1.below B2 nR,HQ.out.2.1.trans (B2.mono HQ.out.2.1.size),HQ.out.2.2.over B2⟩
  clear B2 HQ CK1 z0 z1 z2 z3;by_cases hk:kd=0
  ·subst hk;have HE:Hid (kndQ is (q+1)=kndQ is q):=hide (by have:=HKS.out;simpa using this);go_wp2;go_roundw
   case rel=>exact ⟨sv,q+1,rfl,by omega,by go_num,by rw [HE.out];exact HQ2.out⟩
   case measure=>simp [intOf];omega
  ·have hkb:(kd != 0)=true:=by simp [hk]
   have HE:Hid (ic (kndQ is q) ++ [.int .i64 ((q:Int)+1)]=ic (kndQ is (q+1))):=by
    have:=HKS.out;rw [if_neg hk] at this;show _=ic _;rw [this];simp [ic]
   have HT2:Hid (ROwns (w2.alloc (.cells #[.int .i64 ((q:Int)+1)] 3)) (w.heap.size+1) 3 sv (ic (kndQ is q))/\Below w.heap.size w (w2.alloc (.cells #[.int .i64 ((q:Int)+1)] 3))/\AtC (w2.alloc (.cells #[.int .i64 ((q:Int)+1)] 3)) w.heap.size 35 #[.slice a1 xs.length c1,.slice a2 ys.length c2,.slice a3 is.length c3,.slice a4 bs.length c4]/\(w2.alloc (.cells #[.int .i64 ((q:Int)+1)] 3)).cell? ⟨w2.heap.size,0,none⟩=some (.int .i64 ((q:Int)+1))):=⟨HQ2.out.1.alloc _,HQ2.out.2.1.alloc HQ2.out.2.1.size _,HQ2.out.2.2.alloc _,(AtC.new w2 3 #[.int .i64 ((q:Int)+1)]).cell 0⟩
   have HSZ:Hid (w.heap.size+1<=(w2.alloc (.cells #[.int .i64 ((q:Int)+1)] 3)).heap.size):=by have:=HQ2.out.2.1.size;show _<=_;simp;omega
   have HTL:Hid ((ic (kndQ is q)).length<=100000000000):=by have:=HKL.out;show _<=_;rw [zaf];omega
   clear hk;go_wp2_with (at_builtin;refine wpList_step fun K' hK'=>?_;refine zal _ rfl (.tmp 13) (.tmp 15) 54 rfl (w.heap.size+1) 3 Tryz.u54 _ 8 Tryz.i3 rfl (by decide) sv _ rfl HT2.out.1 HSZ.out w2.heap.size (.int .i64 ((q:Int)+1)) rfl HT2.out.2.2.2 rfl HTL.out ?_;intro v9 w9 T9 G9 V9;refine hK' _ _ ?_;rw [HE.out] at T9;have HR9:=hide (And.intro T9 (And.intro (HT2.out.2.1.grown G9 HT2.out.2.1.size (fun k hk=>by have:=(HT2.out.1.lt k hk).1;omega)) (HT2.out.2.2.1.grown G9 (fun e=>by have:=(HT2.out.1.lt _ e).1;omega))));clear T9 G9 V9 hK')
   go_roundw
   case rel=>exact ⟨v9,q+1,rfl,by omega,by go_num,HR9.out⟩
   case measure=>simp [intOf];omega
theorem zfp (dx dy iv bv:Value)(xs ys:List Bool)(is:List Ino)(bs:List Blk)(w:World)(h:DR w dx dy iv bv xs ys is bs)(hR:RD is bs) :
  Calls Tryz.prog 109 #[.agg #[dx,dy,iv,bv]] w fun e w'=>∃ v,e=.returned v/\POwns w' w.heap.size 127 v (ptrL is (reachL is bs))/\Below w.heap.size w w':=by
 obtain ⟨a1,c1,a2,c2,a3,c3,a4,c4,rfl,rfl,rfl,rfl⟩:=h.form;have HB0:Hid (Below w.heap.size w (w.alloc (.cells #[.slice a1 xs.length c1,.slice a2 ys.length c2,.slice a3 is.length c3,.slice a4 bs.length c4] 35)).drew):=((Below.refl _ w).alloc nR _).drew;have CR:=hide (za2 (.slice a1 xs.length c1) (.slice a2 ys.length c2) (.slice a3 is.length c3) (.slice a4 bs.length c4) xs ys is bs (w.alloc (.cells #[.slice a1 xs.length c1,.slice a2 ys.length c2,.slice a3 is.length c3,.slice a4 bs.length c4] 35)).drew (h.below HB0.out nR) hR);have CP:Hid (∀ (lv:Value) (W:World),Below w.heap.size w W->ROwns W w.heap.size 3 lv (ic (reachL is bs))->Calls Tryz.prog 138 #[.agg #[.slice a1 xs.length c1,.slice a2 ys.length c2,.slice a3 is.length c3,.slice a4 bs.length c4],lv] W fun e w'=>∃ v,e=.returned v/\POwns w' W.heap.size 127 v (ptrL is (reachL is bs))/\Below W.heap.size W w'):=fun lv W hb ho=>zeg lv (reachL is bs) (.slice a1 xs.length c1) (.slice a2 ys.length c2) (.slice a3 is.length c3) (.slice a4 bs.length c4) xs ys is bs W (h.below hb nR) hR ho.rints (zah is bs) (fun i hi=>zes hi);clear h hR;go_enter Tryz.func109,Tryz.ntmps109
 go_upto_region 1 with fail
 obtain ⟨W0,hW0⟩:∃ W,(w.alloc (.cells #[.slice a1 xs.length c1,.slice a2 ys.length c2,.slice a3 is.length c3,.slice a4 bs.length c4] 35))=W:=⟨_,rfl⟩
 have HA0:Hid (AtC W0 w.heap.size 35 #[.slice a1 xs.length c1,.slice a2 ys.length c2,.slice a3 is.length c3,.slice a4 bs.length c4]):=by rw [← hW0];exact AtC.new _ _ _
 have HSZ:Hid (w.heap.size<=W0.drew.heap.size):=by rw [← hW0];show _<=_;simp
 rw [hW0] at CR HB0 ⊢;clear hW0;obtain ⟨z0,z1,z2,z3⟩:=AtC.four HA0.out.drew
 go_region_with (first | (go_at_call 108;refine CR.out.mono ?_;rintro e w1 ⟨rv,rfl,R1,B1⟩;have HB1:=hide (HB0.out.trans (B1.mono HB0.out.size));have CP1:=hide (CP.out rv w1 HB1.out (R1.base_le HSZ.out));obtain ⟨ra,rc,rfl,-⟩:=R1.form;have y0:w1.cell? ⟨w.heap.size,0,none⟩=some (.slice a1 xs.length c1):=(HA0.out.drew.over B1).cell 0;have y1:w1.cell? ⟨w.heap.size,1,none⟩=some (.slice a2 ys.length c2):=(HA0.out.drew.over B1).cell 1;have y2:w1.cell? ⟨w.heap.size,2,none⟩=some (.slice a3 is.length c3):=(HA0.out.drew.over B1).cell 2;have y3:w1.cell? ⟨w.heap.size,3,none⟩=some (.slice a4 bs.length c4):=(HA0.out.drew.over B1).cell 3;clear R1 B1) | (go_at_call 138;refine CP1.out.mono ?_;rintro e w2 ⟨pv,rfl,P2,B2⟩;obtain ⟨pa,pc',rfl,-⟩:=P2.form))
 all_goals (try go_wp2)
 all_goals go_ret
 all_goals exact ⟨_,rfl,P2.base_le HB1.out.size,HB1.out.trans (B2.mono HB1.out.size)⟩
def allP (is:List Ino):List Int:=(ptrL is (kndL is)).map (·.2)
def shrQ (l:List Int) (m:Nat):Nat:=(List.range m).countP fun k=>decide (l.getD k 0∈l.take k)
def zb8 (is:List Ino):Nat:=shrQ (allP is) (allP is).length
theorem zct (is:List Ino):(kndL is).length<=8:=zd3 is 8
theorem zk1 {is:List Ino}{bs:List Blk}(h:RD is bs):(allP is).length<=16:=by
 unfold allP;rw [List.length_map];have:=zax h (kndL is);have:=zct is;omega
theorem zl2 {is:List Ino}{bs:List Blk}(h:RD is bs):zb8 is<=16:=by
 have:=zk1 h;unfold zb8 shrQ;exact Nat.le_trans List.countP_le_length (by rw [List.length_range];exact this)
structure Had (l:List Int) (k:Nat) (h:List Bool):Prop where
 n:h.length=16
 f:∀ q:Nat,q < 16->h.getD q false=decide (((q:Int)+1)∈l.take k)
theorem Had.begin (l:List Int):Had l 0 (List.replicate 16 false):=⟨rfl,fun q _=>by
 rw [show l.take 0=[] from rfl,List.getD_eq_getElem?_getD,List.getElem?_replicate];simp only [List.not_mem_nil,decide_false]
 split<;>rfl⟩
theorem Had.next {l:List Int}{k q:Nat}{h:List Bool}(H:Had l k h)(hk:k < l.length)(he:l[k]=(q:Int)+1)(hq:q < 16):Had l (k+1) (h.set q true):=by
 refine ⟨by rw [List.length_set];exact H.n,fun r hr=>?_⟩;rw [zdb (by rw [H.n];exact hq),List.take_succ_eq_append_getElem hk,he];by_cases e:r=q
 ·subst e;rw [if_pos rfl];simp
 ·rw [if_neg e,H.f r hr];have:¬ ((r:Int)+1=(q:Int)+1):=by omega
  simp [this]
def HadW (l:List Int) (hb k:Nat) (W:World):Prop:=∃ h,AtC W hb 138 (hA h)/\Had l k h
def rootD (is:List Ino):List Ino:=if zab is 1=2 then is else is.set 0 (2,1,[0,0])
def zgl (bs:List Blk) (kd p:Int):Bool:=(blkAt bs p).1 != (kd == 2)
abbrev PSt:=List Ino×List Int
def stepP (bs:List Blk) (st:PSt) (j k:Nat):PSt :=
 if inB ((st.1.getD j (0,0,[])).2.2.getD k 0) 1 16=true then
  if (zgl bs (st.1.getD j (0,0,[])).1 ((st.1.getD j (0,0,[])).2.2.getD k 0) || st.2.contains ((st.1.getD j (0,0,[])).2.2.getD k 0))=true then (st.1.set j ((st.1.getD j (0,0,[])).1,(st.1.getD j (0,0,[])).2.1,(st.1.getD j (0,0,[])).2.2.set k 0),st.2) else (st.1,st.2 ++ [(st.1.getD j (0,0,[])).2.2.getD k 0])
 else st
def mpK (bs:List Blk) (st:PSt) (j:Nat):Nat->PSt
 | 0=>st
 | k+1=>stepP bs (mpK bs st j k) j k
def mpF (bs:List Blk) (st:PSt) (l:List Int):PSt:=l.foldl (fun st i=>mpK bs st (i - 1).toNat 2) st
def mendP (is:List Ino) (bs:List Blk):List Ino:=(mpF bs (rootD is,[]) (kndL (rootD is))).1
def r16:List Int:=(List.range 16).map fun i:Nat=>(i:Int)+1
theorem nodup16 {l:List Int}(hn:l.Nodup)(h:∀ p∈l,1<=p/\p<=16):l.length<=16:=by
 have hp:l.Perm (r16.filter fun j=>decide (j∈l)):=(List.perm_ext_iff_of_nodup hn ((show r16.Nodup by decide).sublist List.filter_sublist)).2 fun j=>by
  rw [List.mem_filter,decide_eq_true_eq];refine ⟨fun hj=>⟨?_,hj⟩,fun hj=>hj.2⟩;have:=h j hj;exact List.mem_map.2 ⟨(j - 1).toNat,List.mem_range.2 (by omega),by omega⟩
 rw [hp.length_eq];exact List.length_filter_le _ _
theorem zl3 {q:Ino}(h:inoOk q=true):∃ a b,q.2.2=[a,b]/\okR q.1 q.2.1 a b=true:=by
 unfold inoOk at h;obtain ⟨k,l,ps⟩:=q
 match ps,h with
 | [a,b],h=>exact ⟨a,b,rfl,h⟩
 | [],h=>cases h
 | [_],h=>cases h
 | _ :: _ :: _ :: _,h=>cases h
theorem zhk {k l a b:Int}(h:okR k l a b=true):inoOk (k,l,[a,b])=true:=h
theorem zns {q:Ino}(h:inoOk q=true)(k:Nat):inoOk (q.1,q.2.1,q.2.2.set k 0)=true:=by
 obtain ⟨a,b,e,ho⟩:=zl3 h;rw [e];have h2:=of_decide_eq_true ho
 match k with
 | 0=>exact zhk (decide_eq_true (by omega))
 | 1=>exact zhk (decide_eq_true (by omega))
 | k+2=>exact zhk ho
theorem zaj {xs ys:List Bool}{is:List Ino}{bs:List Blk}(h:zag xs ys is bs=true):okB xs.length ys.length=true/\(∀ q∈is,inoOk q=true)/\is.length=8/\(∀ q∈bs,blkOk q=true)/\bs.length=16:=by
 unfold zag at h;simp only [Bool.and_eq_true,decide_eq_true_eq] at h;exact ⟨h.1.1,List.all_eq_true.1 h.1.2.1,h.1.2.2,List.all_eq_true.1 h.2.1,h.2.2⟩
theorem zi0 {xs ys:List Bool}{is:List Ino}{bs:List Blk}(h0:okB xs.length ys.length=true)(h1:∀ q∈is,inoOk q=true)(h2:is.length=8)(h3:∀ q∈bs,blkOk q=true)(h4:bs.length=16):zag xs ys is bs=true:=by
 unfold zag;simp only [Bool.and_eq_true,decide_eq_true_eq];exact ⟨⟨h0,List.all_eq_true.2 h1,h2⟩,List.all_eq_true.2 h3,h4⟩
theorem zfq {xs ys:List Bool}{is:List Ino}{bs:List Blk}(h:zag xs ys is bs=true)(j:Nat)(q:Ino)(hq:inoOk q=true):zag xs ys (is.set j q) bs=true:=by
 obtain ⟨h0,h1,h2,h3,h4⟩:=zaj h;refine zi0 h0 (fun x hx=>?_) (by simpa using h2) h3 h4;rcases List.mem_or_eq_of_mem_set hx with e | e
 ·exact h1 x e
 ·exact e ▸ hq
theorem zk2 {xs ys:List Bool}{is:List Ino}{bs:List Blk}(h:zag xs ys is bs=true):zag xs ys (rootD is) bs=true:=by
 unfold rootD
 split
 ·exact h
 ·exact zfq h 0 _ rfl
theorem zap {α:Type}{l:List α}{d:α}{j:Nat}(h:j < l.length):l.getD j d=l[j]:=by simp [List.getD,h]
theorem zl4 {is:List Ino}{j:Nat}{q:Ino}(hj:j < is.length)(i:Int):zab (is.set j q) i=if i=(j:Int)+1 then q.1 else zab is i:=by
 unfold zab;rw [List.length_set]
 cases hb:inB i 1 is.length with
 | false =>
  have:=ze9 hb;simp only [Bool.false_eq_true,if_false];rw [if_neg (by omega)]
 | true =>
  obtain ⟨h1,h2⟩:=zao hb;simp only [if_true];by_cases e:i=(j:Int)+1
  ·rw [if_pos e];have:(i - 1).toNat=j:=by omega
   rw [this,zap (by simpa using hj)];simp
  ·rw [if_neg e];have hne:j≠(i - 1).toNat:=by omega
   rw [zap (by rw [List.length_set];omega),zap (by omega),List.getElem_set_ne hne]
structure PI (xs ys:List Bool) (bs:List Blk) (is0:List Ino) (st:PSt):Prop where
 ok:zag xs ys st.1 bs=true
 kd:∀ i,zab st.1 i=zab is0 i
 sn:∀ p∈st.2,1<=p/\p<=16
 nd:st.2.Nodup
theorem PI.len {xs ys:List Bool}{bs:List Blk}{is0:List Ino}{st:PSt}(h:PI xs ys bs is0 st):st.2.length<=16:=nodup16 h.nd h.sn
theorem PI.begin {xs ys:List Bool}{bs:List Blk}{is:List Ino}(h:zag xs ys is bs=true):PI xs ys bs (rootD is) (rootD is,[]):=⟨zk2 h,fun _=>rfl,fun _ h=>(by cases h),List.nodup_nil⟩
theorem PI.step {xs ys:List Bool}{bs:List Blk}{is0:List Ino}{st:PSt}(h:PI xs ys bs is0 st)(j k:Nat):PI xs ys bs is0 (stepP bs st j k):=by
 unfold stepP
 split
 ·rename_i hb;have hj:j < st.1.length:=by
   by_cases hj:j < st.1.length
   ·exact hj
   ·rw [show st.1.getD j (0,0,[])=(0,0,[]) by simp [List.getD,List.getElem?_eq_none (by omega:st.1.length<=j)]] at hb;exact absurd hb (by simp [inB])
  split
  ·obtain ⟨h0,h1,h2,h3,h4⟩:=zaj h.ok;refine ⟨zfq h.ok j _ (zns (h1 _ ?_) k),fun i=>?_,h.sn,h.nd⟩
   ·rw [zap hj];exact List.getElem_mem hj
   ·show zab (st.1.set j _) i=_;rw [zl4 hj,← h.kd i]
    split
    ·rename_i e;rw [e,(zai hj).1,zap hj]
    ·rfl
  ·rename_i hc;refine ⟨h.ok,h.kd,fun p hp=>?_,?_⟩
   ·rcases List.mem_append.1 hp with hp | hp
    ·exact h.sn p hp
    ·rw [List.mem_singleton.1 hp];exact zao hb
   ·refine List.nodup_append.2 ⟨h.nd,by simp,fun a ha b hb2 e=>?_⟩;simp only [Bool.not_eq_true,Bool.or_eq_false_iff] at hc;have h3:=hc.2;rw [← List.mem_singleton.1 hb2,← e] at h3;rw [List.contains_iff_mem.2 ha] at h3
    cases h3
 ·exact h
theorem PI.stepK {xs ys:List Bool}{bs:List Blk}{is0:List Ino}{st:PSt}(h:PI xs ys bs is0 st)(j:Nat):∀ k,PI xs ys bs is0 (mpK bs st j k)
 | 0=>h
 | k+1=>(PI.stepK h j k).step j k
theorem PI.steps {xs ys:List Bool}{bs:List Blk}{is0:List Ino}:∀ (l:List Int) {st:PSt},PI xs ys bs is0 st->PI xs ys bs is0 (mpF bs st l)
 | [],_,h=>h
 | i :: r,_,h=>PI.steps r (h.stepK (i - 1).toNat 2)
theorem zgm (bs:List Blk)(st:PSt)(a b:List Int):mpF bs st (a ++ b)=mpF bs (mpF bs st a) b:=List.foldl_append
theorem znt (bs:List Blk)(st:PSt)(i:Int):mpF bs st [i]=mpK bs st (i - 1).toNat 2:=rfl
theorem zk3 {xs ys:List Bool}{is:List Ino}{bs:List Blk}(h:zag xs ys is bs=true):zag xs ys (mendP is bs) bs=true:=((PI.begin h).steps _).ok
def mpI (is:List Ino) (bs:List Blk) (j:Nat):PSt:=mpF bs (rootD is,[]) (kndQ (rootD is) j)
theorem mpI_succ (is:List Ino)(bs:List Blk)(j:Nat):mpI is bs (j+1)=if zab (rootD is) ((j:Int)+1)=0 then mpI is bs j else mpK bs (mpI is bs j) j 2:=by
 unfold mpI;rw [zd2,zgm]
 split
 ·rfl
 ·rw [znt,show ((j:Int)+1 - 1).toNat=j by omega]
theorem mpI_all (is:List Ino)(bs:List Blk):(mpI is bs 8).1=mendP is bs:=rfl
abbrev Tt:=Int×Nat×Nat
def noS:Sl:=(⟨#[]⟩,0)
def slotN (bs:List Blk) (t:Tt):Sl:=(bs.getD t.2.1 zB).2.1.getD t.2.2 noS
def clrS (bs:List Blk) (t:Tt):List Blk:=bs.set t.2.1 ((bs.getD t.2.1 zB).1,(bs.getD t.2.1 zB).2.1.set t.2.2 noS,(bs.getD t.2.1 zB).2.2)
def badA (is:List Ino) (bs:List Blk) (t a:Tt):Bool:=(decide (a.1=t.1) && decide ((slotN bs a).1=(slotN bs t).1)) || (decide (zab is (slotN bs t).2=2) && decide ((slotN bs a).2=(slotN bs t).2))
def badT (is:List Ino) (dn:List Tt) (bs:List Blk) (t:Tt):Bool:=decide (zab is (slotN bs t).2=0) || decide ((slotN bs t).2=1) || dn.any (badA is bs t)
def stepN (is:List Ino) (dn:List Tt) (bs:List Blk) (t:Tt):List Blk:=if badT is dn bs t=true then clrS bs t else bs
def runN (is:List Ino):List Tt->List Tt->List Blk->List Blk
 | _,[],bs=>bs
 | dn,t :: r,bs=>runN is (dn ++ [t]) r (stepN is dn bs t)
theorem zfr (is:List Ino):∀ (a b dn:List Tt) (bs:List Blk),runN is dn (a ++ b) bs=runN is (dn ++ a) b (runN is dn a bs)
 | [],b,dn,bs=>by simp [runN]
 | t :: r,b,dn,bs=>by
  rw [List.cons_append,runN,runN,zfr is r b];simp
theorem zi1 (is:List Ino)(a:List Tt)(t:Tt)(bs:List Blk):runN is [] (a ++ [t]) bs=stepN is a (runN is [] a bs) t:=by
 rw [zfr];simp [runN]
def tlQ (i:Int) (p:Nat) (ss:List Sl) (q:Nat):List Tt:=((List.range q).filter fun s:Nat=>decide (¬ (ss.getD s noS).1=⟨#[]⟩)).map fun s:Nat=>(i,p,s)
theorem zk4 (i:Int)(p:Nat)(ss:List Sl)(q:Nat):tlQ i p ss (q+1)=tlQ i p ss q ++ if (ss.getD q noS).1=⟨#[]⟩ then [] else [(i,p,q)]:=by
 unfold tlQ;rw [List.range_succ,List.filter_append,List.map_append];congr 1
 by_cases e:(ss.getD q noS).1=⟨#[]⟩
 ·rw [if_pos e,List.filter_cons_of_neg (by rw [decide_eq_true_eq];exact fun h=>h e)];rfl
 ·rw [if_neg e,List.filter_cons_of_pos (by exact decide_eq_true e)];rfl
theorem zhl (i:Int)(p:Nat)(ss:List Sl)(q:Nat):(tlQ i p ss q).length<=q:=by
 unfold tlQ;rw [List.length_map];exact Nat.le_trans (List.length_filter_le _ _) (by simp)
theorem zhm {i:Int}{p:Nat}{ss:List Sl}{q:Nat}{t:Tt}(h:t∈tlQ i p ss q):t.1=i/\t.2.1=p/\t.2.2 < q/\¬ (ss.getD t.2.2 noS).1=⟨#[]⟩:=by
 obtain ⟨s,hs,rfl⟩:=List.mem_map.1 h;obtain ⟨h1,h2⟩:=List.mem_filter.1 hs;exact ⟨rfl,rfl,List.mem_range.1 h1,by simpa using h2⟩
abbrev TSt:=List Tt×List Int
def stepT (is:List Ino) (bs:List Blk) (st:TSt) (x:Pr):TSt:=if (decide (¬ zab is x.1=2) || st.2.contains x.2)=true then st else (st.1 ++ tlQ x.1 (x.2 - 1).toNat (blkAt bs x.2).2.1 (blkAt bs x.2).2.1.length,st.2 ++ [x.2])
def runT (is:List Ino) (bs:List Blk) (st:TSt) (l:List Pr):TSt:=l.foldl (stepT is bs) st
theorem zj8 (is:List Ino)(bs:List Blk)(st:TSt)(a b:List Pr):runT is bs st (a ++ b)=runT is bs (runT is bs st a) b:=List.foldl_append
def zce (is:List Ino) (bs:List Blk):List Tt:=(runT is bs ([],[]) (ptrL is (kndL is))).1
def mendN (is:List Ino) (bs:List Blk):List Blk:=runN is [] (zce is bs) bs
def stepU (is:List Ino) (bs:List Blk) (st:TSt) (x:Pr):TSt:=if (decide (¬ zab is x.1=2) || !(blkAt bs x.2).1 || st.2.contains x.2)=true then st else (st.1 ++ tlQ x.1 (x.2 - 1).toNat (blkAt bs x.2).2.1 (blkAt bs x.2).2.1.length,st.2 ++ [x.2])
def runU (is:List Ino) (bs:List Blk) (st:TSt) (l:List Pr):TSt:=l.foldl (stepU is bs) st
theorem zfs (is:List Ino)(bs:List Blk)(st:TSt)(a b:List Pr):runU is bs st (a ++ b)=runU is bs (runU is bs st a) b:=List.foldl_append
structure TU (bs:List Blk) (a b:TSt):Prop where
 t:a.1=b.1
 h:∀ p,(blkAt bs p).1=true->a.2.contains p=b.2.contains p
theorem TU.step {is:List Ino}{bs:List Blk}(ht:∀ p,(blkAt bs p).1=false->(blkAt bs p).2.1=[]){a b:TSt}(h:TU bs a b)(x:Pr):TU bs (stepT is bs a x) (stepU is bs b x):=by
 unfold stepT stepU;by_cases hk:zab is x.1=2
 ·cases hb:(blkAt bs x.2).1 with
  | true =>
   rw [h.h _ hb]
   cases hc:b.2.contains x.2 with
   | true=>simpa [hk] using h
   | false =>
    simp only [hk,not_true,decide_false,Bool.or_self,Bool.not_true,Bool.false_eq_true,if_false];refine ⟨by rw [h.t],fun p hp=>?_⟩;simp only [List.contains_append];rw [h.h p hp]
  | false =>
   have e:=ht _ hb;simp only [hk,not_true,decide_false,Bool.false_or,Bool.not_false,Bool.true_or,if_true]
   split
   ·exact h
   ·refine ⟨by rw [e];simpa [tlQ] using h.t,fun p hp=>?_⟩;simp only [List.contains_append];rw [h.h p hp];have:¬ x.2=p:=fun e'=>by rw [e',hp] at hb;cases hb
    have hpx:(p == x.2)=false:=by simpa using fun e'=>this e'.symm
    rw [show [x.2].contains p=false by rw [List.contains_cons,hpx];rfl,Bool.or_false]
 ·simpa [hk] using h
theorem TU.run {is:List Ino}{bs:List Blk}(ht:∀ p,(blkAt bs p).1=false->(blkAt bs p).2.1=[]):∀ (l:List Pr) {a b:TSt},TU bs a b->TU bs (runT is bs a l) (runU is bs b l)
 | [],_,_,h=>h
 | x :: r,_,_,h=>TU.run ht r (h.step ht x)
theorem titlesU {is:List Ino}{bs:List Blk}(h:RD is bs):zce is bs=(runU is bs ([],[]) (ptrL is (kndL is))).1:=by
 refine (TU.run (is:=is) (fun p hp=>?_) (ptrL is (kndL is)) ⟨rfl,fun _ _=>rfl⟩:TU bs (runT is bs ([],[]) _) (runU is bs ([],[]) _)).t;rcases zbr bs p with e | e
 ·rw [e]
 ·exact h.text _ e hp
theorem znu (name:ByteArray):∀ (l:List Sl) (j:Nat),plF name j l < 0↔∀ s∈l,¬ s.1=name
 | [],j=>by simp [plF]
 | s :: r,j=>by
  rw [plF];by_cases e:s.1=name
  ·rw [if_pos e];refine ⟨fun h=>absurd h (by omega),fun h=>absurd e (h s (by simp))⟩
  ·rw [if_neg e,znu name r];refine ⟨fun h x hx=>?_,fun h x hx=>h x (by simp [hx])⟩;rcases List.mem_cons.1 hx with rfl | hx
   ·exact e
   ·exact h x hx
theorem zeh (xs:List Sl)(name:ByteArray):zcv xs name < 0↔name.size=0\/∀ s∈xs,¬ s.1=name:=by
 by_cases e:name.size=0
 ·rw [zcy xs e];simp [e]
 ·rw [zcz xs e,List.drop_zero,znu];exact ⟨.inr,fun h=>h.resolve_left e⟩
theorem zk5:∀ (l p p':List Sl),okF p l=true->(∀ x∈p',x∈p\/x=noS)->okF p' l=true
 | [],_,_,_,_=>rfl
 | s :: r,p,p',h,hp=>by
  rw [okF,Bool.and_eq_true,Bool.and_eq_true] at h ⊢;obtain ⟨⟨h1,h2⟩,h3⟩:=h;refine ⟨⟨h1,decide_eq_true ((zeh _ _).2 ?_)⟩,zk5 r (p ++ [s]) (p' ++ [s]) h3 fun x hx=>?_⟩
  ·rcases (zeh _ _).1 (of_decide_eq_true h2) with e | e
   ·exact .inl e
   ·by_cases h0:s.1.size=0
    ·exact .inl h0
    ·refine .inr fun x hx=>?_;rcases hp x hx with e2 | e2
     ·exact e x e2
     ·rw [e2];intro e3;exact h0 (by rw [← e3];rfl)
  ·rcases List.mem_append.1 hx with hx | hx
   ·rcases hp x hx with e | e
    ·exact .inl (List.mem_append_left _ e)
    ·exact .inr e
   ·exact .inl (List.mem_append_right _ hx)
theorem znv:∀ (l p:List Sl) (k:Nat),okF p l=true->okF p (l.set k noS)=true
 | [],_,_,_=>rfl
 | s :: r,p,0,h=>by
  rw [okF,Bool.and_eq_true,Bool.and_eq_true] at h;rw [List.set_cons_zero,okF,Bool.and_eq_true,Bool.and_eq_true];refine ⟨⟨rfl,decide_eq_true ((zeh _ _).2 (.inl rfl))⟩,zk5 r (p ++ [s]) (p ++ [noS]) h.2 fun x hx=>?_⟩;rcases List.mem_append.1 hx with hx | hx
  ·exact .inl (List.mem_append_left _ hx)
  ·exact .inr (List.mem_singleton.1 hx)
 | s :: r,p,k+1,h=>by
  rw [okF,Bool.and_eq_true] at h;rw [List.set_cons_succ,okF,Bool.and_eq_true];exact ⟨h.1,znv r _ k h.2⟩
theorem znw {q:Blk}(h:blkOk q=true)(k:Nat):blkOk (q.1,q.2.1.set k noS,q.2.2)=true:=by
 unfold blkOk za4 at h ⊢
 cases e:q.1 with
 | true =>
  rw [e] at h;simp only [if_true,Bool.and_eq_true] at h ⊢;refine ⟨h.1,?_⟩;have h2:=h.2;unfold za1 at h2 ⊢;rw [Bool.and_eq_true] at h2 ⊢;exact ⟨by rw [List.length_set];exact h2.1,znv _ _ _ h2.2⟩
 | false =>
  rw [e] at h;simp only [Bool.false_eq_true,if_false] at h ⊢;rw [List.length_set];exact h
theorem zj9 {xs ys:List Bool}{is:List Ino}{bs:List Blk}(h:zag xs ys is bs=true)(j:Nat)(q:Blk)(hq:blkOk q=true):zag xs ys is (bs.set j q)=true:=by
 obtain ⟨h0,h1,h2,h3,h4⟩:=zaj h;refine zi0 h0 h1 h2 (fun x hx=>?_) (by simpa using h4);rcases List.mem_or_eq_of_mem_set hx with e | e
 ·exact h3 x e
 ·exact e ▸ hq
theorem clrS_ok {xs ys:List Bool}{is:List Ino}{bs:List Blk}(h:zag xs ys is bs=true)(t:Tt):zag xs ys is (clrS bs t)=true:=by
 unfold clrS;by_cases hj:t.2.1 < bs.length
 ·refine zj9 h _ _ (znw ?_ _);rw [zap hj];exact (zaj h).2.2.2.1 _ (List.getElem_mem hj)
 ·rw [List.set_eq_of_length_le (by omega)];exact h
theorem ze4 (bs:List Blk)(t:Tt)(p:Nat)(hp:t.2.1 < bs.length):(clrS bs t).getD p zB=if p=t.2.1 then ((bs.getD p zB).1,(bs.getD p zB).2.1.set t.2.2 noS,(bs.getD p zB).2.2) else bs.getD p zB:=by
 unfold clrS;by_cases e:p=t.2.1
 ·subst e;rw [if_pos rfl,zap (by simpa using hp),List.getElem_set_self]
 ·rw [if_neg e];simp only [List.getD_eq_getElem?_getD];rw [List.getElem?_set_ne (fun h=>e h.symm)]
theorem zc3 (bs:List Blk)(t a:Tt)(ht:t.2.1 < bs.length)(hs:t.2.2 < (bs.getD t.2.1 zB).2.1.length):slotN (clrS bs t) a=if a.2=t.2 then noS else slotN bs a:=by
 unfold slotN;rw [ze4 bs t a.2.1 ht];by_cases e:a.2.1=t.2.1
 ·rw [if_pos e];by_cases e2:a.2.2=t.2.2
  ·rw [if_pos (Prod.ext e e2)];show (List.set _ _ _).getD _ _=_;rw [e,e2,zap (by simpa using hs),List.getElem_set_self]
  ·rw [if_neg (fun h=>e2 (by rw [h]))];show (List.set _ _ _).getD _ _=_;simp only [List.getD_eq_getElem?_getD];rw [List.getElem?_set_ne (fun h=>e2 h.symm)]
 ·rw [if_neg e,if_neg (fun h=>e (by rw [h]))]
structure NI (xs ys:List Bool) (is:List Ino) (bs0 bs:List Blk):Prop where
 ok:zag xs ys is bs=true
 dr:∀ p,(bs.getD p zB).1=(bs0.getD p zB).1
 ln:∀ p,(bs.getD p zB).2.1.length=(bs0.getD p zB).2.1.length
theorem NI.begin {xs ys:List Bool}{is:List Ino}{bs:List Blk}(h:zag xs ys is bs=true):NI xs ys is bs bs:=⟨h,fun _=>rfl,fun _=>rfl⟩
theorem NI.clr {xs ys:List Bool}{is:List Ino}{bs0 bs:List Blk}(h:NI xs ys is bs0 bs)(t:Tt):NI xs ys is bs0 (clrS bs t):=by
 by_cases hj:t.2.1 < bs.length
 ·refine ⟨clrS_ok h.ok t,fun p=>?_,fun p=>?_⟩
  ·rw [ze4 bs t p hj,← h.dr p];split<;>rfl
  ·rw [ze4 bs t p hj,← h.ln p];split
   ·exact List.length_set
   ·rfl
 ·have:clrS bs t=bs:=by unfold clrS;exact List.set_eq_of_length_le (by omega)
  rw [this];exact h
theorem NI.step {xs ys:List Bool}{is:List Ino}{bs0 bs:List Blk}(h:NI xs ys is bs0 bs)(dn:List Tt)(t:Tt):NI xs ys is bs0 (stepN is dn bs t):=by
 unfold stepN
 split
 ·exact h.clr t
 ·exact h
theorem NI.run {xs ys:List Bool}{is:List Ino}{bs0:List Blk}:∀ (l dn:List Tt) {bs:List Blk},NI xs ys is bs0 bs->NI xs ys is bs0 (runN is dn l bs)
 | [],_,_,h=>h
 | t :: r,dn,_,h=>NI.run r (dn ++ [t]) (h.step dn t)
theorem mendN_ok {xs ys:List Bool}{is:List Ino}{bs:List Blk}(h:zag xs ys is bs=true):zag xs ys is (mendN is bs)=true:=((NI.begin h).run (zce is bs) []).ok
def InT (bs:List Blk) (t:Tt):Prop:=t.2.1 < bs.length/\t.2.2 < (bs.getD t.2.1 zB).2.1.length
theorem zb3 {bs:List Blk}{p:Nat}(h:p < bs.length):blkAt bs ((p:Int)+1)=bs.getD p zB:=by
 unfold blkAt;rw [show inB ((p:Int)+1) 1 bs.length=true by simp [inB];omega,if_pos rfl,show ((p:Int)+1 - 1).toNat=p by omega];rfl
structure TI (bs:List Blk) (st:TSt):Prop where
 h:∀ t∈st.1,InT bs t/\st.2.contains ((t.2.1:Int)+1)=true/\¬ (slotN bs t).1=⟨#[]⟩
 n:(st.1.map (·.2)).Nodup
theorem TI.begin (bs:List Blk):TI bs ([],[]):=⟨fun _ h=>(by cases h),List.nodup_nil⟩
theorem znx (i:Int)(p:Nat)(ss:List Sl)(q:Nat):((tlQ i p ss q).map (·.2)).Nodup:=by
 unfold tlQ;rw [List.map_map];refine List.Pairwise.map _ (R:=(·≠·)) (fun a b h e=>h ?_) (List.nodup_range.filter _);simpa using e
theorem TI.add {bs:List Blk}{st:TSt}(h:TI bs st)(i:Int)(p:Nat)(hp:p < bs.length)(hn:st.2.contains ((p:Int)+1)=false)(q:Nat)(hq:q<=(bs.getD p zB).2.1.length):TI bs (st.1 ++ tlQ i p (bs.getD p zB).2.1 q,st.2 ++ [(p:Int)+1]):=by
 refine ⟨fun t ht=>?_,?_⟩
 ·show InT bs t/\(st.2 ++ [(p:Int)+1]).contains _=true/\_;rw [List.contains_append];rcases List.mem_append.1 ht with ht | ht
  ·obtain ⟨h1,h2,h3⟩:=h.h t ht;exact ⟨h1,by rw [h2];rfl,h3⟩
  ·obtain ⟨-,e2,e3,e4⟩:=zhm ht;refine ⟨⟨by omega,by rw [e2];omega⟩,by rw [e2];simp,?_⟩;unfold slotN;rw [e2];exact e4
 ·rw [List.map_append];refine List.nodup_append.2 ⟨h.n,znx _ _ _ _,fun a ha b hb e=>?_⟩;obtain ⟨t,ht,rfl⟩:=List.mem_map.1 ha;obtain ⟨t',ht',rfl⟩:=List.mem_map.1 hb;obtain ⟨-,h2,-⟩:=h.h t ht;obtain ⟨-,e2,-⟩:=zhm ht';have:t.2.1=p:=by rw [e,e2]
  rw [this,hn] at h2
  cases h2
theorem TI.step {is:List Ino}{bs:List Blk}(hb:bs.length=16){st:TSt}(h:TI bs st)(x:Pr)(hx:1<=x.2/\x.2<=16):TI bs (stepT is bs st x):=by
 unfold stepT
 split
 ·exact h
 ·rename_i hc;rw [Bool.not_eq_true,Bool.or_eq_false_iff] at hc;obtain ⟨p,hp⟩:∃ p:Nat,x.2=(p:Int)+1:=⟨(x.2 - 1).toNat,by omega⟩
  have hc2:=hc.2;rw [hp] at hc2;rw [hp,show ((p:Int)+1 - 1).toNat=p by omega,zb3 (by omega)];exact h.add x.1 p (by omega) hc2 _ nR
theorem TI.run {is:List Ino}{bs:List Blk}(hb:bs.length=16):∀ (l:List Pr) {st:TSt},(∀ x∈l,1<=x.2/\x.2<=16)->TI bs st->TI bs (runT is bs st l)
 | [],_,_,h=>h
 | x :: r,_,hl,h=>TI.run hb r (fun y hy=>hl y (by simp [hy])) (h.step hb x (hl x (by simp)))
theorem zdn (is:List Ino):∀ (l dn:List Tt) (bs:List Blk) (a:Tt),(∀ t∈l,InT bs t/\¬ a.2=t.2)->slotN (runN is dn l bs) a=slotN bs a
 | [],_,_,_,_=>rfl
 | t :: r,dn,bs,a,h=>by
  obtain ⟨h1,h2⟩:=h t (by simp);have e1:slotN (stepN is dn bs t) a=slotN bs a:=by
   unfold stepN
   split
   ·rw [zc3 bs t a h1.1 h1.2,if_neg h2]
   ·rfl
  have hin:∀ x,InT bs x->InT (stepN is dn bs t) x:=fun x hx=>by
   unfold stepN
   split
   ·refine ⟨by unfold clrS;simpa using hx.1,?_⟩;rw [ze4 bs t x.2.1 h1.1]
    split
    ·show _ < (List.set _ _ _).length;rw [List.length_set];exact hx.2
    ·exact hx.2
   ·exact hx
  rw [runN,zdn is r _ _ a (fun x hx=>⟨hin x (h x (by simp [hx])).1,(h x (by simp [hx])).2⟩),e1]
theorem zny {xs ys:List Bool}(is:List Ino){bs:List Blk}(L:List Tt)(q:Nat)(hq:q < L.length)(hn:(L.map (·.2)).Nodup)(hi:∀ t∈L,InT bs t)(_:zag xs ys is bs=true):slotN (runN is [] (L.take q) bs) L[q]=slotN bs L[q]:=by
 refine zdn is _ _ _ _ fun t ht=>⟨hi t (List.mem_of_mem_take ht),fun e=>?_⟩
 obtain ⟨k,hk,rfl⟩:=List.getElem_of_mem ht;rw [List.length_take] at hk;rw [List.getElem_take] at e;have h1:=List.pairwise_iff_getElem.1 hn k q (by simp;omega) (by simpa using hq) (by omega);exact h1 (by simpa using e.symm)
def RTx (w:World) (v:Value) (l:List ByteArray):Prop:=∃ a c,v=.slice a l.length c/\∀ (j:Nat) (h:j < l.length),∃ g off,a=some ⟨g,off,none⟩/\g < w.heap.size/\w.cell? ⟨g,off+j,none⟩=some (.string l[j])
theorem RTx.below {w w':World}{v:Value}{l:List ByteArray}(h:RTx w v l)(hb:Below w.heap.size w w'):RTx w' v l:=by
 obtain ⟨a,c,e,h⟩:=h;refine ⟨a,c,e,fun j hj=>?_⟩;obtain ⟨g,off,e1,hg,k⟩:=h j hj;exact ⟨g,off,e1,Nat.lt_of_lt_of_le hg hb.size,(hb.cell (p:=⟨g,off+j,none⟩) hg).trans k⟩
def keepB (is:List Ino) (s:Sl) (names:List ByteArray) (dirs:List Int):Bool:=!(decide (s.2=1) || decide (zab is s.2=0) || dirs.contains s.2) && !names.any (fun n=>decide (n=s.1))
theorem keep_any (sn:ByteArray)(j:Nat)(nv dv:Value)(names:List ByteArray)(dirs:List Int)(u v iv bv:Value)(xs ys:List Bool)(is:List Ino)(bs:List Blk)(w:World)(h:DR w u v iv bv xs ys is bs)(hR:RD is bs)(hj:j < 8)(hn:RTx w nv names)(hd:RInts w dv dirs)(hnl:names.length<=1048576)(hdl:dirs.length<=1048576) :
  Calls Tryz.prog 74 #[.agg #[u,v,iv,bv],.agg #[.string sn,.int .i64 ((j:Int)+1)],nv,dv] w fun e w'=>e=.returned (.bool (keepB is (sn,(j:Int)+1) names dirs))/\Below w.heap.size w w':=by
 obtain ⟨a1,c1,a2,c2,a3,c3,a4,c4,rfl,rfl,rfl,rfl⟩:=h.form;have hji:j < is.length:=by rw [hR.hi];exact hj
 obtain ⟨g3,o3,sa,sc,rfl,hg3,k0,-⟩:=DR.ino h j hji;obtain ⟨W0,hW0⟩:∃ W,((w.alloc (.cells #[.slice a1 xs.length c1,.slice a2 ys.length c2,.slice (some ⟨g3,o3,none⟩) is.length c3,.slice a4 bs.length c4] 35)).alloc (.cells #[.string sn,.int .i64 ((j:Int)+1)] 100))=W:=⟨_,rfl⟩
 have H0:Hid (Below w.heap.size w W0/\AtC W0 w.heap.size 35 #[.slice a1 xs.length c1,.slice a2 ys.length c2,.slice (some ⟨g3,o3,none⟩) is.length c3,.slice a4 bs.length c4]/\AtC W0 (w.heap.size+1) 100 #[.string sn,.int .i64 ((j:Int)+1)]):=by
  rw [← hW0];have q:=AtC.new (w.alloc (.cells #[.slice a1 xs.length c1,.slice a2 ys.length c2,.slice (some ⟨g3,o3,none⟩) is.length c3,.slice a4 bs.length c4] 35)) 100 #[.string sn,.int .i64 ((j:Int)+1)];rw [World.size_alloc] at q;exact ⟨((Below.refl _ w).alloc nR _).alloc (by simp) _,(AtC.new w 35 _).alloc _,q⟩
 have x2:W0.cell? ⟨w.heap.size,2,none⟩=some (.slice (some ⟨g3,o3,none⟩) is.length c3):=H0.out.2.1.cell 2;have s0:W0.cell? ⟨w.heap.size+1,0,none⟩=some (.string sn):=H0.out.2.2.cell 0;have s1:W0.cell? ⟨w.heap.size+1,1,none⟩=some (.int .i64 ((j:Int)+1)):=H0.out.2.2.cell 1;have kk:=(H0.out.1.cell (p:=⟨g3,o3+j * 3,none⟩) hg3).trans k0;have HD:=hide (zbn dv dirs ((j:Int)+1) W0 (hd.below H0.out.1 nR) hdl);have HN:=hide (hn.below H0.out.1);obtain ⟨kd,hkd⟩:∃ k,zab is ((j:Int)+1)=k:=⟨_,rfl⟩
 rw [hkd] at kk;have HK:Hid (∀ r,(!(decide ((j:Int)+1=1) || decide (kd=0) || dirs.contains ((j:Int)+1)) && !names.any (fun n=>decide (n=sn)))=r->keepB is (sn,(j:Int)+1) names dirs=r):=fun r e=>by unfold keepB;rw [hkd];exact e
 have j0:(0:Int)<=(j:Int):=by omega
 have j1:(j:Int) < (is.length:Int):=by omega
 have hwj:IntKind.i64.wrap (j:Int)=(j:Int):=wrap_small _ (by omega) (by omega);clear h hR hn hd hkd k0 hji;by_cases hj0:(j:Int)+1=1
 ·have n0:((j:Int)+1 == 1)=true:=by simpa using hj0
  have HE:=hide (HK.out false (by simp [hj0]));clear hj0;rw [HE.out];go_enter Tryz.func74,Tryz.ntmps74
  go_wp2;go_ret;exact ⟨rfl,H0.out.1⟩
 have n0:((j:Int)+1 == 1)=false:=by simpa using hj0
 by_cases hk0:kd=0
 ·have n1:(kd == 0)=true:=by simp [hk0]
  have HE:=hide (HK.out false (by simp [hk0]));clear hj0 hk0;rw [HE.out];go_enter Tryz.func74,Tryz.ntmps74
  go_wp2;go_ret;exact ⟨rfl,H0.out.1⟩
 have n1:(kd == 0)=false:=by simp [hk0]
 cases hdc:dirs.contains ((j:Int)+1) with
 | true =>
  rw [hdc] at HD;have HE:=hide (HK.out false (by rw [hdc,Bool.or_true];rfl));clear hj0 hk0 hdc;rw [HE.out];go_enter Tryz.func74,Tryz.ntmps74
  go_wp2_with fail
  refine HD.out.mono ?_;rintro e w1 ⟨rfl,rfl⟩;go_wp2;go_ret;exact ⟨rfl,H0.out.1⟩
 | false =>
  rw [hdc] at HD;have HK2:Hid (keepB is (sn,(j:Int)+1) names dirs=!names.any (fun n=>decide (n=sn))):=HK.out _ (by simp only [hj0,hk0,decide_false,hdc,Bool.or_self,Bool.not_false,Bool.true_and]);clear hj0 hk0 hdc HK;obtain ⟨na,nc,rfl,hnc⟩:=HN.out;have HNC:=hide hnc;clear hnc;rw [HK2.out];go_enter Tryz.func74,Tryz.ntmps74
  go_wp2_with fail
  refine HD.out.mono ?_;rintro e w1 ⟨rfl,hw1⟩;subst hw1;have HN0:Hid ((names.take 0).any (fun n=>decide (n=sn))=false):=rfl;clear kk x2 s1;go_wp2_with fail
  go_loopw [9] (fun kv wr=>∃ q:Nat,q<=names.length/\kv=.int .i64 q/\Hid ((names.take q).any (fun n=>decide (n=sn))=false/\∃ m,wr=w1.drewN m)) (fun kv _=>names.length - (intOf kv).toNat)
  case atStart=>exact ⟨0,Nat.zero_le _,rfl,rfl,0,rfl⟩
  case round =>
   obtain ⟨q,hq,rfl,HR⟩:=hrel;obtain ⟨m,hm⟩:=HR.out.2;subst hm;have q0:(0:Int)<=(q:Int):=by omega
   by_cases hlt:q < names.length
   rotate_left
   ·have q1:¬ ((q:Int) < (names.length:Int)):=by omega
    have HE:Hid ((!names.any (fun n=>decide (n=sn)))=true):=by
     have h1:=HR.out.1;rw [List.take_of_length_le (by omega)] at h1;show (!names.any (fun n=>decide (n=sn)))=true;rw [h1];rfl
    go_wp2;go_ret;exact ⟨by rw [HE.out];rfl,below_drewN H0.out.1 _⟩
   have q1:(q:Int) < (names.length:Int):=by omega
   obtain ⟨g,off,rfl,hg,k⟩:=HNC.out q hlt;obtain ⟨nm,hnm⟩:∃ x,names[q]=x:=⟨_,rfl⟩
   rw [hnm] at k;have HTK:Hid ((names.take (q+1)).any (fun n=>decide (n=sn))=decide (nm=sn)):=by
    show _=_;rw [List.take_succ_eq_append_getElem hlt,List.any_append,HR.out.1,hnm];simp
   by_cases he:nm=sn
   ·have ne:(nm.toList == sn.toList)=true:=by simp [he]
    have HE:Hid ((!names.any (fun n=>decide (n=sn)))=false):=by
     have:names.any (fun n=>decide (n=sn))=true:=List.any_eq_true.2 ⟨names[q],List.getElem_mem hlt,decide_eq_true (by rw [hnm];exact he)⟩;show (!names.any (fun n=>decide (n=sn)))=false;rw [this];rfl
    clear he hnm;go_upto_region 6 with fail
    go_quiet (fail)
    go_wp2;go_ret;exact ⟨by rw [HE.out];rfl,by first | exact below_drewN H0.out.1 _ | exact below_drewN (below_drewN H0.out.1 _) _⟩
   ·have ne:(nm.toList == sn.toList)=false:=zay he;have HE:Hid ((names.take (q+1)).any (fun n=>decide (n=sn))=false):=by
     show _=_;rw [HTK.out];exact decide_eq_false he
    clear he hnm;go_upto_region 6 with fail
    go_quiet (fail)
    go_wp2;go_roundw
    case rel=>exact ⟨q+1,by omega,by go_num,HE.out,by first | exact ⟨_,rfl⟩ | exact ⟨_,World.drewN_drewN⟩⟩
    case measure=>simp [intOf];omega
def hasNm (bs:List Blk) (t:Tt):Bool:=decide (¬ (slotN bs t).1=⟨#[]⟩)
def NM (bs:List Blk) (i:Int) (T:List Tt):List ByteArray:=(T.filter fun t=>decide (t.1=i) && hasNm bs t).map fun t=>(slotN bs t).1
def DS (is:List Ino) (bs:List Blk) (T:List Tt):List Int:=(T.filter fun t=>hasNm bs t && decide (zab is (slotN bs t).2=2)).map fun t=>(slotN bs t).2
theorem znz {xs ys:List Bool}{is:List Ino}{bs:List Blk}(h:zag xs ys is bs=true){t:Tt}(ht:InT bs t)(he:(slotN bs t).1=⟨#[]⟩):(slotN bs t).2=0:=by
 have hb:=(zaj h).2.2.2.1 (bs.getD t.2.1 zB) (by rw [zap ht.1];exact List.getElem_mem _);have hm:slotN bs t∈(bs.getD t.2.1 zB).2.1:=by unfold slotN;rw [zap ht.2];exact List.getElem_mem _
 unfold blkOk za4 at hb
 cases hd:(bs.getD t.2.1 zB).1 with
 | false =>
  rw [hd] at hb;simp only [Bool.false_eq_true,if_false,decide_eq_true_eq] at hb;have:=ht.2;omega
 | true =>
  rw [hd] at hb;simp only [if_true,Bool.and_eq_true] at hb;have h2:=hb.2;unfold za1 at h2;rw [Bool.and_eq_true] at h2;rcases of_decide_eq_true (zhf _ _ h2.2 _ hm) with e | e
  ·exact e.2
  ·have h3:=e.1;rw [he] at h3;exact absurd h3 (by decide)
theorem keep_bad {xs ys:List Bool}{is:List Ino}{bs:List Blk}(h:zag xs ys is bs=true){T:List Tt}(hT:∀ t∈T,InT bs t){t:Tt}(hn:¬ (slotN bs t).1=⟨#[]⟩)(hi:1<=(slotN bs t).2):keepB is (slotN bs t) (NM bs t.1 T) (DS is bs T)=!badT is T bs t:=by
 unfold keepB badT;have e1:(NM bs t.1 T).any (fun n=>decide (n=(slotN bs t).1))=T.any (fun a=>decide (a.1=t.1) && decide ((slotN bs a).1=(slotN bs t).1)):=by
  rw [Bool.eq_iff_iff,List.any_eq_true,List.any_eq_true];constructor
  ·rintro ⟨n,hm,e⟩;obtain ⟨a,ha,rfl⟩:=List.mem_map.1 hm;obtain ⟨h1,h2⟩:=List.mem_filter.1 ha;rw [Bool.and_eq_true] at h2;exact ⟨a,h1,by rw [h2.1,e];rfl⟩
  ·rintro ⟨a,ha,e⟩;rw [Bool.and_eq_true,decide_eq_true_eq,decide_eq_true_eq] at e;refine ⟨(slotN bs a).1,List.mem_map.2 ⟨a,List.mem_filter.2 ⟨ha,?_⟩,rfl⟩,decide_eq_true e.2⟩;rw [Bool.and_eq_true];exact ⟨decide_eq_true e.1,decide_eq_true (by rw [e.2];exact hn)⟩
 have e2:(DS is bs T).contains (slotN bs t).2=T.any (fun a=>decide (zab is (slotN bs t).2=2) && decide ((slotN bs a).2=(slotN bs t).2)):=by
  rw [Bool.eq_iff_iff,List.contains_iff_mem,List.any_eq_true];constructor
  ·intro hm;obtain ⟨a,ha,e⟩:=List.mem_map.1 hm;obtain ⟨h1,h2⟩:=List.mem_filter.1 ha;rw [Bool.and_eq_true,decide_eq_true_eq] at h2;refine ⟨a,h1,?_⟩;rw [Bool.and_eq_true,decide_eq_true_eq,decide_eq_true_eq];exact ⟨by rw [← e];exact h2.2,e⟩
  ·rintro ⟨a,ha,e⟩;rw [Bool.and_eq_true,decide_eq_true_eq,decide_eq_true_eq] at e;refine List.mem_map.2 ⟨a,List.mem_filter.2 ⟨ha,?_⟩,e.2⟩;rw [Bool.and_eq_true,decide_eq_true_eq];refine ⟨decide_eq_true fun e3=>?_,by rw [e.2];exact e.1⟩;have:=znz h (hT a ha) e3;omega
 rw [e1,e2];have e3:T.any (badA is bs t)=(T.any (fun a=>decide (a.1=t.1) && decide ((slotN bs a).1=(slotN bs t).1)) || T.any (fun a=>decide (zab is (slotN bs t).2=2) && decide ((slotN bs a).2=(slotN bs t).2))):=by
  rw [Bool.eq_iff_iff,Bool.or_eq_true,List.any_eq_true,List.any_eq_true,List.any_eq_true];unfold badA;constructor
  ·rintro ⟨a,ha,e⟩;rw [Bool.or_eq_true] at e;exact e.elim (fun e=>.inl ⟨a,ha,e⟩) (fun e=>.inr ⟨a,ha,e⟩)
  ·rintro (⟨a,ha,e⟩ | ⟨a,ha,e⟩)
   ·exact ⟨a,ha,by rw [e];rfl⟩
   ·exact ⟨a,ha,by rw [e,Bool.or_true]⟩
 rw [e3];generalize decide ((slotN bs t).2=1)=A;generalize decide (zab is (slotN bs t).2=0)=B;generalize T.any (fun a=>decide (a.1=t.1) && decide ((slotN bs a).1=(slotN bs t).1))=C;generalize T.any (fun a=>decide (zab is (slotN bs t).2=2) && decide ((slotN bs a).2=(slotN bs t).2))=E
 cases A<;>cases B<;>cases C<;>cases E<;>rfl
theorem NM_keep (bs:List Blk)(T:List Tt){t:Tt}(hn:¬ (slotN bs t).1=⟨#[]⟩):NM bs t.1 (T ++ [t])=NM bs t.1 T ++ [(slotN bs t).1]:=by
 unfold NM;rw [List.filter_append,List.map_append,List.filter_cons_of_pos (by simp [hasNm,hn])];rfl
theorem DS_keep (is:List Ino)(bs:List Blk)(T:List Tt){t:Tt}(hn:¬ (slotN bs t).1=⟨#[]⟩):DS is bs (T ++ [t])=DS is bs T ++ if zab is (slotN bs t).2=2 then [(slotN bs t).2] else []:=by
 unfold DS;rw [List.filter_append,List.map_append];by_cases e:zab is (slotN bs t).2=2
 ·rw [if_pos e,List.filter_cons_of_pos (by simp [hasNm,hn,e])];rfl
 ·rw [if_neg e,List.filter_cons_of_neg (by simp [e])];rfl
theorem zby {α β:Type}{p q:α->Bool}{f g:α->β}:∀ (l:List α),(∀ x∈l,p x=q x/\f x=g x)->(l.filter p).map f=(l.filter q).map g
 | [],_=>rfl
 | x :: r,h=>by
  obtain ⟨h1,h2⟩:=h x (by simp);have ih:=zby r fun y hy=>h y (by simp [hy]);rw [List.filter_cons,List.filter_cons,h1]
  split
  ·rw [List.map_cons,List.map_cons,h2,ih]
  ·exact ih
theorem NM_clr (bs:List Blk)(i:Int)(T:List Tt){t:Tt}(ht:InT bs t)(hd:∀ a∈T,¬ a.2=t.2):NM (clrS bs t) i (T ++ [t])=NM bs i T:=by
 unfold NM;rw [List.filter_append,List.map_append,List.filter_cons_of_neg (by simp [hasNm,zc3 bs t t ht.1 ht.2,noS]),List.filter_nil,List.map_nil,List.append_nil];refine zby T fun a ha=>?_;have e:=zc3 bs t a ht.1 ht.2;rw [if_neg (hd a ha)] at e;unfold hasNm;rw [e];exact ⟨rfl,rfl⟩
theorem DS_clr (is:List Ino)(bs:List Blk)(T:List Tt){t:Tt}(ht:InT bs t)(hd:∀ a∈T,¬ a.2=t.2):DS is (clrS bs t) (T ++ [t])=DS is bs T:=by
 unfold DS;rw [List.filter_append,List.map_append,List.filter_cons_of_neg (by simp [hasNm,zc3 bs t t ht.1 ht.2,noS]),List.filter_nil,List.map_nil,List.append_nil];refine zby T fun a ha=>?_;have e:=zc3 bs t a ht.1 ht.2;rw [if_neg (hd a ha)] at e;unfold hasNm;rw [e];exact ⟨rfl,rfl⟩
theorem NM_none (bs:List Blk)(i:Int)(T:List Tt)(h:∀ t∈T,¬ t.1=i):NM bs i T=[]:=by
 unfold NM;rw [List.filter_eq_nil_iff.2 fun t ht=>by simp [h t ht]];rfl
theorem NM_len (bs:List Blk)(i:Int)(T:List Tt):(NM bs i T).length<=T.length:=by unfold NM;rw [List.length_map];exact List.length_filter_le _ _
theorem DS_len (is:List Ino)(bs:List Blk)(T:List Tt):(DS is bs T).length<=T.length:=by unfold DS;rw [List.length_map];exact List.length_filter_le _ _
theorem TI.stepU {is:List Ino}{bs:List Blk}(hb:bs.length=16){st:TSt}(h:TI bs st)(x:Pr)(hx:1<=x.2/\x.2<=16):TI bs (stepU is bs st x):=by
 unfold Go.Proofs.YtmlfihmheolpeaaGreat.stepU
 split
 ·exact h
 ·rename_i hc;rw [Bool.not_eq_true,Bool.or_eq_false_iff] at hc;obtain ⟨p,hp⟩:∃ p:Nat,x.2=(p:Int)+1:=⟨(x.2 - 1).toNat,by omega⟩
  have hc2:=hc.2;rw [hp] at hc2;rw [hp,show ((p:Int)+1 - 1).toNat=p by omega,zb3 (by omega)];exact h.add x.1 p (by omega) hc2 _ nR
theorem TI.runU {is:List Ino}{bs:List Blk}(hb:bs.length=16):∀ (l:List Pr) {st:TSt},(∀ x∈l,1<=x.2/\x.2<=16)->TI bs st->TI bs (runU is bs st l)
 | [],_,_,h=>h
 | x :: r,_,hl,h=>TI.runU hb r (fun y hy=>hl y (by simp [hy])) (h.stepU hb x (hl x (by simp)))
theorem zi2 (is:List Ino)(bs:List Blk):∀ (l:List Pr) (st:TSt),(∀ x∈l,¬ zab is x.1=2)->runU is bs st l=st
 | [],_,_=>rfl
 | x :: r,st,h=>by
  show runU is bs (stepU is bs st x) r=st;rw [show stepU is bs st x=st by unfold stepU;simp [h x (by simp)]];exact zi2 is bs r st fun y hy=>h y (by simp [hy])
theorem zi3 (is:List Ino)(bs:List Blk)(P:Int->Prop):∀ (l:List Pr) (st:TSt),(∀ x∈l,P x.1)->(∀ t∈st.1,P t.1)->∀ t∈(runU is bs st l).1,P t.1
 | [],_,_,h=>h
 | x :: r,st,hl,h=>by
  refine zi3 is bs P r (stepU is bs st x) (fun y hy=>hl y (by simp [hy])) ?_;unfold stepU
  split
  ·exact h
  ·intro t ht;rcases List.mem_append.1 ht with ht | ht
   ·exact h t ht
   ·rw [(zhm ht).1];exact hl x (by simp)
theorem zhn {is:List Ino}{bs:List Blk}(h:RD is bs):∀ (l:List Pr) (st:TSt),(runU is bs st l).1.length<=st.1.length+4 * l.length
 | [],st=>by simp [runU]
 | x :: r,st=>by
  have h1:=zhn h r (stepU is bs st x);have h2:(stepU is bs st x).1.length<=st.1.length+4:=by
   unfold stepU
   split
   ·omega
   ·show (st.1 ++ tlQ _ _ _ _).length<=_;rw [List.length_append];have:=zhl x.1 (x.2 - 1).toNat (blkAt bs x.2).2.1 (blkAt bs x.2).2.1.length;have:=h.blk4 x.2;omega
  show (runU is bs (stepU is bs st x) r).1.length<=_;rw [List.length_cons];omega
theorem zk6 (v:Value)(xs:List Bool)(w:World)(h:RFl w v xs)(hl:xs.length<=1048576) :
  Calls Tryz.prog 130 #[v] w fun e w'=>∃ u,e=.returned u/\ROwns w' w.heap.size 4 u (fc xs)/\Below w.heap.size w w':=by
 have HR:=hide h;have HL:Hid (xs.length<=100000000000):=Nat.le_trans hl (by decide);clear h hl;go_enter Tryz.func130,Tryz.ntmps130
 go_wp2_with (at_builtin;refine zar _ rfl _ _ 22 rfl w.heap.size 4 Tryz.underlying22 _ 1 1 Tryz.i4 rfl (by decide) (by decide) _ rfl (World.ownsRow_nil _ _ _ _) nR _ rfl xs.length (fc xs) HR.out.rc (by rw [za7,Nat.mul_one]) (zm1 xs) HL.out ?_;intro v' w1 R1 R2 R3)
 have HX:Hid (ROwns w1 w.heap.size 4 v' (fc xs)/\Below w.heap.size w w1):=⟨by unfold ROwns;rw [za7];exact R1,zbl bR nR R2 (fun k hk=>by cases hk)⟩
 clear R1 R2 R3;go_wp2;go_ret;exact ⟨_,rfl,HX.out.1,HX.out.2⟩
theorem newI_any (v:Value)(xs:List Int)(w:World)(h:RInts w v xs)(hl:xs.length<=1048576) :
  Calls Tryz.prog 131 #[v] w fun e w'=>∃ u,e=.returned u/\ROwns w' w.heap.size 3 u (ic xs)/\Below w.heap.size w w':=by
 have HR:=hide h;have HL:Hid (xs.length<=100000000000):=Nat.le_trans hl (by decide);clear h hl;go_enter Tryz.func131,Tryz.ntmps131
 go_wp2_with (at_builtin;refine zar _ rfl _ _ 54 rfl w.heap.size 3 Tryz.underlying54 _ 1 8 Tryz.i3 rfl (by decide) (by decide) _ rfl (World.ownsRow_nil _ _ _ _) nR _ rfl xs.length (ic xs) HR.out.rc (by rw [zaf,Nat.mul_one]) (ic_one xs) HL.out ?_;intro v' w1 R1 R2 R3)
 have HX:Hid (ROwns w1 w.heap.size 3 v' (ic xs)/\Below w.heap.size w w1):=⟨by unfold ROwns;rw [zaf];exact R1,zbl bR nR R2 (fun k hk=>by cases hk)⟩
 clear R1 R2 R3;go_wp2;go_ret;exact ⟨_,rfl,HX.out.1,HX.out.2⟩
theorem newS_any (v:Value)(xs:List Sl)(w:World)(h:RSl w v xs)(hl:xs.length<=1048576) :
  Calls Tryz.prog 156 #[v] w fun e w'=>∃ u,e=.returned u/\SOwns w' w.heap.size 100 u xs/\Below w.heap.size w w':=by
 have HR:=hide h;have HL:Hid (xs.length<=100000000000):=Nat.le_trans hl (by decide);clear h hl;go_enter Tryz.func156,Tryz.ntmps156
 go_wp2_with (at_builtin;refine zar _ rfl _ _ 72 rfl w.heap.size 100 Tryz.underlying72 _ 2 24 Tryz.i100 rfl (by decide) (by decide) _ rfl (World.ownsRow_nil _ _ _ _) nR _ rfl xs.length (sc xs) HR.out.rc (zb5 xs) (zm2 xs) HL.out ?_;intro v' w1 R1 R2 R3)
 have HX:Hid (SOwns w1 w.heap.size 100 v' xs/\Below w.heap.size w w1):=⟨R1,zbl bR nR R2 (fun k hk=>by cases hk)⟩
 clear R1 R2 R3;go_wp2;go_ret;exact ⟨_,rfl,HX.out.1,HX.out.2⟩
theorem zi4 (s:ByteArray)(w:World)(h:s.size<=281474976710656) :
  Calls Tryz.prog 134 #[.string s] w fun e w'=>e=.returned (.string s)/\Below w.heap.size w w':=by
 go_enter Tryz.func134,Tryz.ntmps134
 go_wp2_with (go_at_call 157;refine (Tryz.stringslite_Clone _ _ h).mono ?_;rintro e w1 ⟨rfl,hb⟩)
 go_ret;exact ⟨rfl,hb⟩
namespace Kit
theorem zn0 (w:World)(A B:Obj)(e:TypeId)(m:Nat):(((w.alloc A).alloc B).alloc (.cells #[] e)).ownsRow (w.heap.size+1+1) e m (.slice (some ⟨w.heap.size+1+1,0,none⟩) 0 0) 0 []:=by
 have:=World.ownsRow_lit (base:=w.heap.size+1+1) (e:=e) (size:=m) ((w.alloc A).alloc B) #[] 0 (by simp) (Nat.zero_le _) (by simp);simpa using this
theorem zi5 (w:World)(A B C:Obj):Below w.heap.size w (((w.alloc A).alloc B).alloc C):=(((Below.refl _ w).alloc nR _).alloc (by simp) _).alloc (by simp;omega) _
theorem AtC.two3 (w:World)(T1 T2:TypeId)(cs ds:Array Value)(C:Obj):AtC (((w.alloc (.cells cs T1)).alloc (.cells ds T2)).alloc C) w.heap.size T1 cs/\AtC (((w.alloc (.cells cs T1)).alloc (.cells ds T2)).alloc C) (w.heap.size+1) T2 ds:=by
 refine ⟨((AtC.new w T1 cs).alloc _).alloc _,?_⟩;have:=(AtC.new (w.alloc (.cells cs T1)) T2 ds).alloc C;simpa using this
theorem zk7 {w w1:World}{T e:TypeId}{m n:Nat}{cs Z:Array Value}{ds:List Value}{v':Value}(R1:w1.ownsRow (w.heap.size+1+1) e m v' n ds)
  (R2:(((w.alloc (.cells cs T)).alloc (.cells Z T)).alloc (.cells #[] e)).grownBy w1 (Value.slice (some ⟨w.heap.size+1+1,0,none⟩) 0 0).ownBlock) :
  ∃ a1 c1,v'=.slice a1 n c1/\Below w.heap.size w w1/\AtC w1 w.heap.size T cs/\AtC w1 (w.heap.size+1) T Z:=by
 obtain ⟨k0,k1⟩:=AtC.two3 w T T cs Z (.cells #[] e);obtain ⟨a1,c1,e1⟩:∃ a1 c1,v'=.slice a1 n c1:=by
  rcases R1.2 with ⟨h1,h0⟩ | ⟨g,cap,cur,h1,-⟩
  ·exact ⟨none,0,by rw [h1,h0]⟩
  ·exact ⟨_,_,h1⟩
 exact ⟨a1,c1,e1,zbl (zi5 w _ _ _) (by simp;omega) R2 (fun k hk=>by simp [Value.ownBlock] at hk;omega),k0.grown R2 (by simp [Value.ownBlock];omega),k1.grown R2 (by simp [Value.ownBlock])⟩
end Kit
theorem zn1 (k l:Int)(v:Value)(xs:List Int)(w:World)(hv:RInts w v xs)(hl:xs.length<=1048576) :
  Calls Tryz.prog 118 #[.agg #[.int .i64 k,.int .i64 l,v]] w fun e w'=>∃ u,e=.returned (.agg #[.int .i64 k,.int .i64 l,u])/\ROwns w' w.heap.size 3 u (ic xs)/\Below w.heap.size w w':=by
 have HV:=hide hv;obtain ⟨a,c,rfl,-⟩:=hv;have HL:Hid (xs.length<=100000000000):=Nat.le_trans hl (by decide);clear hl;go_enter Tryz.func118,Tryz.ntmps118
 go_wp2_with (at_builtin;refine zar _ rfl _ _ 54 rfl (w.heap.size+1+1) 3 Tryz.underlying54 _ 1 8 Tryz.i3 rfl (by decide) (by decide) (.slice (some ⟨w.heap.size+1+1,0,none⟩) 0 0) rfl (zn0 w _ _ 3 1) (by simp) _ rfl xs.length (ic xs) (((HV.out.alloc _).alloc _).alloc _).rc (by rw [zaf,Nat.mul_one]) (ic_one xs) HL.out ?_;intro v' w1 R1 R2 R3;obtain ⟨a1,c1,rfl,B1,K0,K1⟩:=zk7 R1 R2;have p0:w1.cell? ⟨w.heap.size,0,none⟩=some (.int .i64 k):=K0.cell 0;have p1:w1.cell? ⟨w.heap.size,1,none⟩=some (.int .i64 l):=K0.cell 1;have p2:w1.cell? ⟨w.heap.size,2,none⟩=some (.slice a xs.length c):=K0.cell 2;have y2:=K0.frozen 2;have q0:w1.cell? ⟨w.heap.size+1,0,none⟩=some (.int .i64 0):=K1.cell 0;have q1:w1.cell? ⟨w.heap.size+1,1,none⟩=some (.int .i64 0):=K1.cell 1;have q2:w1.cell? ⟨w.heap.size+1,2,none⟩=some (.slice none 0 0):=K1.cell 2;have z0:=K1.frozen 0;have z1:=K1.frozen 1;have z2:=K1.frozen 2;have HR:=hide R1;have HB:=hide B1;clear R1 R2 R3 K0 K1 B1)
 have HO:Hid (ROwns w1 (w.heap.size+1+1) 3 (.slice a1 xs.length c1) (ic xs)):=by show ROwns _ _ _ _ _;unfold ROwns;rw [zaf];exact HR.out
 refine bodyPost_ret (v:=.agg #[.int .i64 k,.int .i64 l,.slice a1 xs.length c1]) (by simp [results,go_sem,q0,q1,q2]) rfl ⟨_,rfl,?_,?_⟩
 ·exact ((((((HO.out.setCell_other (by omega) _).setCell_other (by omega) _).setCell_other (by omega) _).setCell_other (by omega) _)).base_le (by omega))
 ·exact ((((HB.out.setCell (by simp) _).setCell (by simp) _).setCell (by simp) _).setCell (by simp) _)
theorem zn2 (d:Bool)(t:ByteArray)(v:Value)(xs:List Sl)(w:World)(hv:RSl w v xs)(hl:xs.length<=1048576) :
  Calls Tryz.prog 119 #[.agg #[.bool d,v,.string t]] w fun e w'=>∃ u,e=.returned (.agg #[.bool d,u,.string t])/\SOwns w' w.heap.size 100 u xs/\Below w.heap.size w w':=by
 have HV:=hide hv;obtain ⟨a,c,rfl,-⟩:=hv;have HL:Hid (xs.length<=100000000000):=Nat.le_trans hl (by decide);clear hl;go_enter Tryz.func119,Tryz.ntmps119
 go_wp2_with (at_builtin;refine zar _ rfl _ _ 72 rfl (w.heap.size+1+1) 100 Tryz.underlying72 _ 2 24 Tryz.i100 rfl (by decide) (by decide) (.slice (some ⟨w.heap.size+1+1,0,none⟩) 0 0) rfl (zn0 w _ _ 100 2) (by simp) _ rfl xs.length (sc xs) (((HV.out.alloc _).alloc _).alloc _).rc (zb5 xs) (zm2 xs) HL.out ?_;intro v' w1 R1 R2 R3;obtain ⟨a1,c1,rfl,B1,K0,K1⟩:=zk7 R1 R2;have p0:w1.cell? ⟨w.heap.size,0,none⟩=some (.bool d):=K0.cell 0;have p1:w1.cell? ⟨w.heap.size,1,none⟩=some (.slice a xs.length c):=K0.cell 1;have p2:w1.cell? ⟨w.heap.size,2,none⟩=some (.string t):=K0.cell 2;have y2:=K0.frozen 1;have q0:w1.cell? ⟨w.heap.size+1,0,none⟩=some (.bool false):=K1.cell 0;have q1:w1.cell? ⟨w.heap.size+1,1,none⟩=some (.slice none 0 0):=K1.cell 1;have q2:w1.cell? ⟨w.heap.size+1,2,none⟩=some (.string ⟨#[]⟩):=K1.cell 2;have z0:=K1.frozen 0;have z1:=K1.frozen 1;have z2:=K1.frozen 2;have HR:=hide R1;have HB:=hide B1;clear R1 R2 R3 K0 K1 B1)
 have HO:Hid (SOwns w1 (w.heap.size+1+1) 100 (.slice a1 xs.length c1) xs):=HR.out;refine bodyPost_ret (v:=.agg #[.bool d,.slice a1 xs.length c1,.string t]) (by simp [results,go_sem,q0,q1,q2]) rfl ⟨_,rfl,?_,?_⟩
 ·exact ((((((HO.out.setCell_low (by omega) _).setCell_low (by omega) _).setCell_low (by omega) _).setCell_low (by omega) _)).base_le (by omega))
 ·exact ((((HB.out.setCell (by simp) _).setCell (by simp) _).setCell (by simp) _).setCell (by simp) _)
structure Nb (w w':World) (d:Bool) (t:ByteArray) (u:Value) (xs:List Sl):Prop where
 box:AtC w' w.heap.size 74 #[.bool d,u,.string t]
 res:AtC w' (w.heap.size+1) 74 #[.bool false,.slice none 0 0,.string ⟨#[]⟩]
 own:SOwns w' (w.heap.size+1+1) 100 u xs
 bel:Below w.heap.size w w'
theorem Nb.below {w w' w1:World}{d:Bool}{t:ByteArray}{u:Value}{xs:List Sl}(h:Nb w w' d t u xs)(hb:Below w'.heap.size w' w1):Nb w w1 d t u xs:=⟨h.box.over hb,h.res.over hb,h.own.below hb nR,h.bel.trans (hb.mono h.bel.size)⟩
theorem Nb.set {w w':World}{d:Bool}{t:ByteArray}{g c:Nat}{xs:List Sl}(h:Nb w w' d t (.slice (some ⟨g,0,none⟩) xs.length c) xs)(j:Nat)(hj:j < xs.length):Nb w (w'.setCell ⟨g,j * 2,none⟩ (.string xs[j].1)) d t (.slice (some ⟨g,0,none⟩) xs.length c) xs:=by
 have hg:=(h.own.lt g rfl).1;have h2:=(h.own.set_name j hj xs[j].1).1;have e:xs.set j (xs[j].1,xs[j].2)=xs:=by rw [show (xs[j].1,xs[j].2)=xs[j] from rfl,List.set_getElem_self]
 rw [e] at h2;exact ⟨h.box.other (by omega) _,h.res.other (by omega) _,h2,h.bel.setCell (by show w.heap.size<=g;omega) _⟩
theorem newK_any (d:Bool)(t:ByteArray)(v:Value)(xs:List Sl)(w:World)(hv:RSl w v xs)(hB:bigB 1048576 (d,xs,t)) :
  Calls Tryz.prog 132 #[.agg #[.bool d,v,.string t]] w fun e w'=>∃ u,e=.returned (.agg #[.bool d,u,.string t])/\SOwns w' w.heap.size 100 u xs/\Below w.heap.size w w':=by
 have HV:=hide hv;have HB:=hide hB;obtain ⟨a,c,rfl,-⟩:=hv;have hxl:xs.length<=1048576:=hB.1;clear hB;go_enter Tryz.func132,Tryz.ntmps132
 go_wp2_with fail
 refine (zi4 t _ (Nat.le_trans HB.out.2.2 (by decide))).mono ?_;rintro e w1 ⟨rfl,B1⟩;obtain ⟨k0,k1⟩:=AtC.two3 w 74 74 #[.bool d,.slice a xs.length c,.string t] #[.bool false,.slice none 0 0,.string ⟨#[]⟩] (.cells #[] 100);have K0:AtC w1 w.heap.size 74 #[.bool d,.slice a xs.length c,.string t]:=((AtC.new w 74 _).alloc _).over B1;have K1:AtC w1 (w.heap.size+1) 74 #[.bool false,.slice none 0 0,.string ⟨#[]⟩]:=by
  have:=(AtC.new (w.alloc (.cells #[.bool d,.slice a xs.length c,.string t] 74)) 74 #[.bool false,.slice none 0 0,.string ⟨#[]⟩]).over B1;simpa using this
 have BW:Below w.heap.size w w1:=(((Below.refl _ w).alloc nR _).alloc (by simp) _).trans (B1.mono (by simp;omega));have p1:w1.cell? ⟨w.heap.size,1,none⟩=some (.slice a xs.length c):=K0.cell 1;have p2:w1.cell? ⟨w.heap.size,2,none⟩=some (.string t):=K0.cell 2;have y2:=K0.frozen 2;have KS:=K0.set 2 (.string t);have HK:Hid (AtC (w1.setCell ⟨w.heap.size,2,none⟩ (.string t)) w.heap.size 74 #[.bool d,.slice a xs.length c,.string t]/\AtC (w1.setCell ⟨w.heap.size,2,none⟩ (.string t)) (w.heap.size+1) 74 #[.bool false,.slice none 0 0,.string ⟨#[]⟩]/\Below w.heap.size w (w1.setCell ⟨w.heap.size,2,none⟩ (.string t))):=⟨K0.set 2 (.string t),K1.other (by omega) _,BW.setCell (by simp) _⟩
 have hsz:w.heap.size+1+1<=w1.heap.size:=by have:=B1.size;simpa using this
 have x1:=HK.out.1;obtain ⟨W1,hW1⟩:∃ W1,w1.setCell ⟨w.heap.size,2,none⟩ (.string t)=W1:=⟨_,rfl⟩
 have hsz1:W1.heap.size=w1.heap.size:=by rw [← hW1];simp
 rw [hW1] at HK x1;have r1:W1.cell? ⟨w.heap.size,1,none⟩=some (.slice a xs.length c):=x1.cell 1;clear B1 K0 K1 BW KS k0 k1 x1;go_wp2_with fail
 refine (newS_any _ xs _ (HV.out.below HK.out.2.2 nR) HB.out.1).mono ?_;rintro e w2 ⟨u,rfl,O2,B2⟩;obtain ⟨a2,c2,rfl⟩:=O2.rsl.form;have ND:Nb w (w2.setCell ⟨w.heap.size,1,none⟩ (.slice a2 xs.length c2)) d t (.slice a2 xs.length c2) xs:=by
  have O3:SOwns w2 (w.heap.size+1+1) 100 (.slice a2 xs.length c2) xs:=O2.base_le (by omega);exact ⟨(HK.out.1.over B2).set 1 _,(HK.out.2.1.over B2).other (by omega) _,O3.setCell_low (by omega) _,(HK.out.2.2.trans (B2.mono HK.out.2.2.size)).setCell (by simp) _⟩
 have x2:=HK.out.1.over B2;have s1:w2.cell? ⟨w.heap.size,1,none⟩=some (.slice a xs.length c):=x2.cell 1;have f1:=x2.frozen 1;obtain ⟨W2,hW2⟩:∃ W2,w2.setCell ⟨w.heap.size,1,none⟩ (.slice a2 xs.length c2)=W2:=⟨_,rfl⟩
 rw [hW2] at ND;have HN:=hide ND;have t1:W2.cell? ⟨w.heap.size,1,none⟩=some (.slice a2 xs.length c2):=ND.box.cell 1;clear x2 O2 B2 ND HK r1 p1 p2 y2 hW1 hsz1 hsz;go_wp2;go_loopw [16] (fun i wr=>∃ j:Nat,j<=xs.length/\i=.int .i64 j/\Hid (Nb w wr d t (.slice a2 xs.length c2) xs)) (fun i _=>xs.length - (intOf i).toNat)
 case atStart=>exact ⟨0,Nat.zero_le _,rfl,HN.out⟩
 case round =>
  obtain ⟨j,hj,rfl,HR⟩:=hrel;by_cases hlt:j < xs.length
  ·obtain ⟨g,c3,e3,m1,m2,m3,m4,m5,-⟩:=HR.out.own.at j hlt;simp only [Value.slice.injEq] at e3;obtain ⟨rfl,-,rfl⟩:=e3;have HZ:Hid (∀ w6,Below (wr.alloc (.cells #[.string xs[j].1,.int .i64 xs[j].2] 100)).heap.size (wr.alloc (.cells #[.string xs[j].1,.int .i64 xs[j].2] 100)) w6->Nb w w6 d t (.slice (some ⟨g,0,none⟩) xs.length c2) xs/\Nb w (w6.setCell ⟨g,j * 2,none⟩ (.string xs[j].1)) d t (.slice (some ⟨g,0,none⟩) xs.length c2) xs/\AtC w6 wr.heap.size 100 #[.string xs[j].1,.int .i64 xs[j].2]/\AtC (w6.setCell ⟨g,j * 2,none⟩ (.string xs[j].1)) wr.heap.size 100 #[.string xs[j].1,.int .i64 xs[j].2]):=fun w6 b6 =>
    have n6:=(HR.out.below ((Below.refl _ wr).alloc nR _)).below b6;have a6:=(AtC.new wr 100 #[.string xs[j].1,.int .i64 xs[j].2]).over b6
    ⟨n6,n6.set j hlt,a6,a6.other (by omega) _⟩
   have HSZ:Hid (xs[j].1.size<=281474976710656):=Nat.le_trans (HB.out.2.1 j hlt) (by decide);obtain ⟨nm,hnm⟩:∃ nm,xs[j].1=nm:=⟨_,rfl⟩
   obtain ⟨z,hz⟩:∃ z,xs[j].2=z:=⟨_,rfl⟩
   rw [hnm] at m1 HZ HSZ;rw [hz] at m2 HZ;have HS:Hid (∀ w6,Below (wr.alloc (.cells #[.string nm,.int .i64 z] 100)).heap.size (wr.alloc (.cells #[.string nm,.int .i64 z] 100)) w6->(w6.cell? ⟨w.heap.size,1,none⟩=some (.slice (some ⟨g,0,none⟩) xs.length c2)/\w6.cell? ⟨wr.heap.size,0,none⟩=some (.string nm))/\((w6.setCell ⟨g,j * 2,none⟩ (.string nm)).cell? ⟨w.heap.size,1,none⟩=some (.slice (some ⟨g,0,none⟩) xs.length c2)/\(w6.setCell ⟨g,j * 2,none⟩ (.string nm)).cell? ⟨wr.heap.size,0,none⟩=some (.string nm))/\w6.cell? ⟨g,j * 2,none⟩=some (.string nm)/\w6.frozen? ⟨g,j * 2,none⟩=false):=fun w6 b6=>by
    obtain ⟨h1,h2,h3,h4⟩:=HZ.out w6 b6;obtain ⟨g',c',e',n1,n2,n3,-⟩:=h1.own.at j hlt;simp only [Value.slice.injEq,Option.some.injEq,Addr.mk.injEq] at e';obtain ⟨⟨rfl,-,-⟩,-,-⟩:=e';rw [hnm] at n1;exact ⟨⟨h1.box.cell 1,h3.cell 0⟩,⟨h2.box.cell 1,h4.cell 0⟩,n1,n3 _⟩
   have b1:wr.cell? ⟨w.heap.size,1,none⟩=some (.slice (some ⟨g,0,none⟩) xs.length c2):=HR.out.box.cell 1;have j0:(0:Int)<=(j:Int):=by omega
   have j1:(j:Int) < (xs.length:Int):=by omega
   have hbx:=HR.out.box.lt;clear hnm hz m3 HR HV HB t1;go_wp2_with fail
   go_region_held3 (fun w'=>w'.cell? ⟨w.heap.size,1,none⟩=some (.slice (some ⟨g,0,none⟩) xs.length c2)/\w'.cell? ⟨wr.heap.size,0,none⟩=some (.string nm)) (first | exact (HS.out _ bR.drew).1 | exact (HS.out _ (zaa B6)).1 | exact (HS.out _ (zaa B6)).2.1) ((go_at_call 134;refine (zi4 nm _ HSZ.out).mono ?_;rintro e w6 ⟨rfl,B6⟩;obtain ⟨-,-,n1,n2⟩:=HS.out _ (zaa B6)))
   have HN6:=hide (HZ.out _ (zaa B6)).2.1;clear B6 n1 n2;go_wp2;go_roundw
   case rel=>exact ⟨j+1,by omega,by go_num,HN6.out⟩
   case measure=>simp [intOf];omega
  ·have q0:wr.cell? ⟨w.heap.size,0,none⟩=some (.bool d):=HR.out.box.cell 0;have q1:wr.cell? ⟨w.heap.size,1,none⟩=some (.slice a2 xs.length c2):=HR.out.box.cell 1;have q2:wr.cell? ⟨w.heap.size,2,none⟩=some (.string t):=HR.out.box.cell 2;have r0:wr.cell? ⟨w.heap.size+1,0,none⟩=some (.bool false):=HR.out.res.cell 0;have r1:wr.cell? ⟨w.heap.size+1,1,none⟩=some (.slice none 0 0):=HR.out.res.cell 1;have r2:wr.cell? ⟨w.heap.size+1,2,none⟩=some (.string ⟨#[]⟩):=HR.out.res.cell 2;have z0:=HR.out.res.frozen 0;have z1:=HR.out.res.frozen 1;have z2:=HR.out.res.frozen 2;clear t1;go_wp2;refine bodyPost_ret (v:=.agg #[.bool d,.slice a2 xs.length c2,.string t]) (by simp [results,go_sem,r0,r1,r2]) rfl ⟨_,rfl,?_,?_⟩
   ·exact (((HR.out.own.setCell_low (by omega) _).setCell_low (by omega) _).setCell_low (by omega) _).base_le (by omega)
   ·exact ((HR.out.bel.setCell (by simp) _).setCell (by simp) _).setCell (by simp) _
namespace Kit
def MkE (T:TypeId):Mk:=.val [] (fun lo hi w v=>v=.slice (some ⟨lo,0,none⟩) 0 0/\hi=lo+1/\AtC w lo T #[]) (fun _ _ _ _ _ h hb=>⟨h.1,h.2.1,h.2.2.over hb⟩)
def MkC (k j:Nat) (xs:List Bool) (B:Nat):Mk:=.val1 [k,j] k (by simp) (fun lo hi w u v=>∃ a c,v=.slice a xs.length c/\ROwns w B 4 v (fc xs)/\∀ i,v.ownBlock=some i->(lo<=i/\i < hi)\/u.ownBlock=some i)
 (fun _ _ _ _ _ _ h hb=>by obtain ⟨a,c,h1,h2,h3⟩:=h;exact ⟨a,c,h1,h2.below hb nR,h3⟩)
end Kit
theorem zn3 (u v:Value)(xs ys:List Bool)(w:World)(hu:RFl w u xs)(hv:RFl w v ys)(hx:xs.length<=1048576)(hy:ys.length<=1048576) :
  Calls Tryz.prog 117 #[.agg #[u,v]] w fun e w'=>∃ u' v',e=.returned (.agg #[u',v'])/\Two w' w.heap.size u' v' xs ys/\Below w.heap.size w w':=by
 have HU:=hide hu;have HV:=hide hv;obtain ⟨a1,c1,rfl,-⟩:=hu;obtain ⟨a2,c2,rfl,-⟩:=hv;have HX:Hid (xs.length<=100000000000):=Nat.le_trans hx (by decide);have HY:Hid (ys.length<=100000000000):=Nat.le_trans hy (by decide);clear hx hy;go_enter Tryz.func117,Tryz.ntmps117
 go_wp2_with fail
 have HC:Hid (∀ W,Below ((w.alloc (.cells #[.slice a1 xs.length c1,.slice a2 ys.length c2] 31)).alloc (.cells #[.slice none 0 0,.slice none 0 0] 31)).drew.heap.size ((w.alloc (.cells #[.slice a1 xs.length c1,.slice a2 ys.length c2] 31)).alloc (.cells #[.slice none 0 0,.slice none 0 0] 31)).drew W->AtC W w.heap.size 31 #[.slice a1 xs.length c1,.slice a2 ys.length c2]/\AtC W (w.heap.size+1) 31 #[.slice none 0 0,.slice none 0 0]/\Below w.heap.size w W/\w.heap.size+1+1<=W.heap.size):=fun W b=>by
  have b2:=zaa b;have k1:=(AtC.new (w.alloc (.cells #[.slice a1 xs.length c1,.slice a2 ys.length c2] 31)) 31 #[.slice none 0 0,.slice none 0 0]).over b2;have sz:=b2.size;simp at k1 sz;exact ⟨((AtC.new w 31 _).alloc _).over b2,k1,(((Below.refl _ w).alloc nR _).alloc (by simp) _).trans (b2.mono (by simp;omega)),sz⟩
 refine zg9 (by kernel_rfl) [0,1,2,3,4,5,6,7] [8,9] [3,4,5,6,7,8,9,10] (fun i=>match i with|0=>MkE 4|1=>.const [] (.pointer (some ⟨w.heap.size,0,none⟩))|2=>.const [1] (.slice a1 xs.length c1)|3=>MkC 0 2 xs (w.heap.size+1+1)|4=>MkE 4|5=>.const [] (.pointer (some ⟨w.heap.size,1,none⟩))|6=>.const [5] (.slice a2 ys.length c2)|7=>MkC 4 6 ys (w.heap.size+1+1)|_=>.triv) (by kernel_rfl) (by kernel_rfl) (by kernel_rfl) (by kernel_rfl) rfl ?_ ?_
 ·intro j hj s x iv W hd hp K hK;simp only [List.mem_cons,List.not_mem_nil,or_false] at hj;rcases hj with rfl|rfl|rfl|rfl|rfl|rfl|rfl|rfl
  ·refine wpOp_step (o:=_) rfl fun K' hK'=>?_;have HK:=hide (fun v W' h1 h2=>hK' _ _ (hK v W' h1 h2));simp only [actOf];go_simp;have F:=HK.out (.slice (some ⟨W.heap.size,0,none⟩) 0 0) (W.alloc (.cells #[] 4)) ((Below.refl _ W).alloc nR _) ⟨rfl,by simp,AtC.new W 4 _⟩;simp [go_sem,actOf,upd] at F;exact F
  ·refine wpOp_step (o:=_) rfl fun K' hK'=>?_;have HK:=hide (fun v W' h1 h2=>hK' _ _ (hK v W' h1 h2));simp only [actOf];go_simp;have F:=HK.out (.pointer (some ⟨w.heap.size,0,none⟩)) W bR rfl;simp [go_sem,actOf,upd] at F;exact F
  ·refine wpOp_step (o:=_) rfl fun K' hK'=>?_;have HK:=hide (fun v W' h1 h2=>hK' _ _ (hK v W' h1 h2));have e1:x 1=.pointer (some ⟨w.heap.size,0,none⟩):=hp.post 1 (hd 1 mz0);have q0:W.cell? ⟨w.heap.size,0,none⟩=some (.slice a1 xs.length c1):=(HC.out W hp.bel).1.cell 0;simp only [actOf];go_simp;have F:=HK.out (.slice a1 xs.length c1) W bR rfl;simp [go_sem,actOf,upd,e1] at F;exact F
  ·refine wpOp_step (o:=_) rfl fun K' hK'=>?_;have HK:=hide (fun v W' h1 h2=>hK' _ _ (hK v W' h1 h2));have e0:x 0=.slice (some ⟨(iv 0).1,0,none⟩) 0 0/\(iv 0).2=(iv 0).1+1/\AtC W (iv 0).1 4 #[]:=hp.post 0 (hd 0 mz0);have e2:x 2=.slice a1 xs.length c1:=hp.post 2 (hd 2 mz1);have bl:=HC.out W hp.bel;have l0:=(hp.lo 0 (hd 0 mz0)).1;simp [World.drew] at l0;obtain ⟨f0,-,A0⟩:=e0;simp only [actOf,Act.put,List.setIfInBounds_toArray,List.set_cons_succ,List.set_cons_zero,Nat.reduceAdd,List.getElem_toArray,List.getElem_cons_succ,List.getElem_cons_zero];refine zch (a:=⟨_,[]⟩) W rfl (.tmp 3) (.tmp 5) 22 rfl (w.heap.size+1+1) 4 Tryz.underlying22 _ 1 1 Tryz.i4 rfl (by decide) (by decide) (some ⟨(iv 0).1,0,none⟩) (by exact f0) (A0.empty _ (by omega) 1) bl.2.2.2 (.slice a1 xs.length c1) (by exact e2) xs.length (fc xs) (HU.out.below bl.2.2.1 nR).rc (by rw [za7,Nat.mul_one]) (zm1 xs) HX.out ?_;intro v' w' R1 R2 R3;have O1:ROwns w' (w.heap.size+1+1) 4 v' (fc xs):=by unfold ROwns;rw [za7];exact R1
   obtain ⟨a3,c3,e3⟩:=O1.rfl.form;have F:=HK.out v' w' R2 ⟨a3,c3,e3,O1,fun i hi=>R3.elim (fun e=>.inr (by rw [za8 _ _ _ _ (by decide),f0];rw [hi] at e;exact e.symm)) (fun e=>.inl ⟨by rw [hi] at e;cases e;exact Nat.le_refl _,(O1.lt i hi).2⟩)⟩;simp [go_sem,actOf,upd] at F;simp only [Act.put,List.setIfInBounds_toArray,List.set_cons_succ,List.set_cons_zero];exact F
  ·refine wpOp_step (o:=_) rfl fun K' hK'=>?_;have HK:=hide (fun v W' h1 h2=>hK' _ _ (hK v W' h1 h2));simp only [actOf];go_simp;have F:=HK.out (.slice (some ⟨W.heap.size,0,none⟩) 0 0) (W.alloc (.cells #[] 4)) ((Below.refl _ W).alloc nR _) ⟨rfl,by simp,AtC.new W 4 _⟩;simp [go_sem,actOf,upd] at F;exact F
  ·refine wpOp_step (o:=_) rfl fun K' hK'=>?_;have HK:=hide (fun v W' h1 h2=>hK' _ _ (hK v W' h1 h2));simp only [actOf];go_simp;have F:=HK.out (.pointer (some ⟨w.heap.size,1,none⟩)) W bR rfl;simp [go_sem,actOf,upd] at F;exact F
  ·refine wpOp_step (o:=_) rfl fun K' hK'=>?_;have HK:=hide (fun v W' h1 h2=>hK' _ _ (hK v W' h1 h2));have e5:x 5=.pointer (some ⟨w.heap.size,1,none⟩):=hp.post 5 (hd 5 mz0);have q0:W.cell? ⟨w.heap.size,1,none⟩=some (.slice a2 ys.length c2):=(HC.out W hp.bel).1.cell 1;simp only [actOf];go_simp;have F:=HK.out (.slice a2 ys.length c2) W bR rfl;simp [go_sem,actOf,upd,e5] at F;exact F
  ·refine wpOp_step (o:=_) rfl fun K' hK'=>?_;have HK:=hide (fun v W' h1 h2=>hK' _ _ (hK v W' h1 h2));have e4:x 4=.slice (some ⟨(iv 4).1,0,none⟩) 0 0/\(iv 4).2=(iv 4).1+1/\AtC W (iv 4).1 4 #[]:=hp.post 4 (hd 4 mz0);have e6:x 6=.slice a2 ys.length c2:=hp.post 6 (hd 6 mz1);have bl:=HC.out W hp.bel;have l0:=(hp.lo 4 (hd 4 mz0)).1;simp [World.drew] at l0;obtain ⟨f0,-,A0⟩:=e4;simp only [actOf,Act.put,List.setIfInBounds_toArray,List.set_cons_succ,List.set_cons_zero,Nat.reduceAdd,List.getElem_toArray,List.getElem_cons_succ,List.getElem_cons_zero];refine zch (a:=⟨_,[]⟩) W rfl (.tmp 7) (.tmp 9) 22 rfl (w.heap.size+1+1) 4 Tryz.underlying22 _ 1 1 Tryz.i4 rfl (by decide) (by decide) (some ⟨(iv 4).1,0,none⟩) (by exact f0) (A0.empty _ (by omega) 1) bl.2.2.2 (.slice a2 ys.length c2) (by exact e6) ys.length (fc ys) (HV.out.below bl.2.2.1 nR).rc (by rw [za7,Nat.mul_one]) (zm1 ys) HY.out ?_;intro v' w' R1 R2 R3;have O1:ROwns w' (w.heap.size+1+1) 4 v' (fc ys):=by unfold ROwns;rw [za7];exact R1
   obtain ⟨a3,c3,e3⟩:=O1.rfl.form;have F:=HK.out v' w' R2 ⟨a3,c3,e3,O1,fun i hi=>R3.elim (fun e=>.inr (by rw [za8 _ _ _ _ (by decide),f0];rw [hi] at e;exact e.symm)) (fun e=>.inl ⟨by rw [hi] at e;cases e;exact Nat.le_refl _,(O1.lt i hi).2⟩)⟩;simp [go_sem,actOf,upd] at F;simp only [Act.put,List.setIfInBounds_toArray,List.set_cons_succ,List.set_cons_zero];exact F
 ·intro x iv W hp;obtain ⟨a3,c3,e3,O3,own3⟩:=hp.post 3 (by decide);obtain ⟨a7,c7,e7,O7,own7⟩:=hp.post 7 (by decide);obtain ⟨f0,z0,-⟩:=hp.post 0 (by decide);obtain ⟨f4,z4,-⟩:=hp.post 4 (by decide);have p04:=hp.apart 0 (by decide) 4 (by decide) (by decide);have p07:=hp.apart 0 (by decide) 7 (by decide) (by decide);have p34:=hp.apart 3 (by decide) 4 (by decide) (by decide);have p37:=hp.apart 3 (by decide) 7 (by decide) (by decide);have l3:=(hp.lo 3 (by decide)).2.1;have l7:=(hp.lo 7 (by decide)).2.1;have hne:∀ k,(x 3).ownBlock=some k->(x 7).ownBlock≠some k:=fun k h1 h2=>by
   have q3:=own3 k h1;have q7:=own7 k h2;rw [f0] at q3;rw [f4] at q7;simp only [Value.ownBlock,Option.some.injEq] at q3 q7;omega
  obtain ⟨k0,k1,bel,-⟩:=HC.out W hp.bel;rw [e3] at O3 hne;rw [e7] at O7 hne;have HT:Hid (Two W (w.heap.size+1+1) (.slice a3 xs.length c3) (.slice a7 ys.length c7) xs ys/\Below w.heap.size w W):=⟨⟨O3,O7,hne⟩,bel⟩
  have r0:W.cell? ⟨w.heap.size+1,0,none⟩=some (.slice none 0 0):=k1.cell 0;have r1:W.cell? ⟨w.heap.size+1,1,none⟩=some (.slice none 0 0):=k1.cell 1;have z5:=k1.frozen 0;have z6:=k1.frozen 1;clear hp own3 own7 O3 O7 hne k0 k1 bel f0 f4 z0 z4 p04 p07 p34 p37 l3 l7;simp only [actOf,e3,e7];go_wp2_with fail
  rw [List.filterMap_nil];go_wp2;refine bodyPost_ret (v:=.agg #[.slice a3 xs.length c3,.slice a7 ys.length c7]) (by simp [results,go_sem,r0,r1]) rfl ⟨_,_,rfl,?_,?_⟩
  ·exact ((HT.out.1.set_other (by omega) _).set_other (by omega) _).base_le (by omega)
  ·exact (HT.out.2.setCell (by simp) _).setCell (by simp) _
namespace Kit
theorem TOwns.of_at {w:World}{e:TypeId}{g:Nat}{cs:Array Value}{ts:List V3}(h:AtC w g e cs)(hc:cs.toList=f3 ts)(hm:ts.length<=maxLen):TOwns w e (.slice (some ⟨g,0,none⟩) ts.length ts.length) ts:=by
 have hs:cs.size=ts.length * 3:=by rw [← Array.length_toList,hc,zcw]
 refine ⟨by rw [zcw],.inr ⟨g,ts.length,cs,rfl,Nat.zero_le _,h,Nat.le_refl _,hm,hs,?_⟩⟩;rw [hc,List.take_of_length_le (by rw [zcw];exact Nat.le_refl _)]
theorem GO.of_at {α:Type}{K:Kd α}{w:World}{g n:Nat}{cs:Array Value}{z:V3}{x:α}(h:AtC w g K.T cs)(hc:cs.toList=f3 (List.replicate n z))(hm:n<=maxLen)(hO:K.O w z x)(hz:(K.p z).ownBlock=none) :
  GO K w (fun k=>k=g) (.slice (some ⟨g,0,none⟩) n n) (List.replicate n z) (List.replicate n x):=by
 refine ⟨by simp,?_,fun j hj hj'=>?_,fun i j hi hj _ k e=>?_,fun j hj k e=>?_,fun k e=>?_,fun j hj k e=>?_⟩
 ·have:=TOwns.of_at (ts:=List.replicate n z) h hc (by simpa using hm);simpa using this
 ·simp only [List.getElem_replicate];exact hO
 ·simp only [List.getElem_replicate] at e;rw [hz] at e;cases e
 ·simp only [List.getElem_replicate] at e;rw [hz] at e;cases e
 ·simpa [Value.ownBlock] using e.symm
 ·simp only [List.getElem_replicate] at e;rw [hz] at e;cases e
theorem DO.two {w:World}{S:Nat->Prop}{u v iv bv:Value}{xs ys:List Bool}{is:List Ino}{bs:List Blk}(h:DO w S u v iv bv xs ys is bs):Two w 0 u v xs ys:=by
 obtain ⟨S1,S2,S3,ti,tb,h1,-⟩:=h;exact h1
theorem DO.atI {w:World}{S:Nat->Prop}{u v iv bv:Value}{xs ys:List Bool}{is:List Ino}{bs:List Blk}(h:DO w S u v iv bv xs ys is bs){g n cap:Nat}(hv:iv=.slice (some ⟨g,0,none⟩) n cap)(j:Nat)(hj:j < is.length) :
  (∃ a b p,w.cell? ⟨g,j * 3,none⟩=some (.int .i64 a)/\w.cell? ⟨g,j * 3+1,none⟩=some (.int .i64 b)/\w.cell? ⟨g,j * 3+2,none⟩=some p/\a=is[j].1/\b=is[j].2.1/\RInts w p is[j].2.2)/\(∀ k,w.frozen? ⟨g,k,none⟩=false)/\g < w.heap.size/\n=is.length/\S g:=by
 obtain ⟨S1,S2,S3,ti,tb,h1,-,hi,-,-,-,hU⟩:=h;have hl:=hi.len;obtain ⟨g',c',e',k1,k2,k3,k4,k5,-⟩:=hi.row.at j (by omega);rw [hv] at e';simp only [Value.slice.injEq,Option.some.injEq,Addr.mk.injEq] at e';obtain ⟨⟨rfl,-⟩,hn,-⟩:=e';obtain ⟨i1,i2,i3⟩:=hi.inn j (by omega) hj;exact ⟨⟨_,_,_,by rw [k1,i1],by rw [k2,i2],k3,rfl,rfl,i3.rints⟩,k4,k5,by omega,hU _ (.inr (.inl (hi.so _ (by rw [hv];rfl))))⟩
theorem DO.putI {w w1:World}{S:Nat->Prop}{u v iv bv:Value}{xs ys:List Bool}{is:List Ino}{bs:List Blk}(h:DO w S u v iv bv xs ys is bs){g n cap:Nat}(hv:iv=.slice (some ⟨g,0,none⟩) n cap)(j:Nat)(hj:j < is.length)(t':V3)(x':Ino)
  (hb:Below w.heap.size w w1) (hO:KI.O w1 t' x') (hn:∀ k,t'.2.2.ownBlock=some k->w.heap.size<=k) :
  DO (((w1.setCell ⟨g,j * 3,none⟩ t'.1).setCell ⟨g,j * 3+1,none⟩ t'.2.1).setCell ⟨g,j * 3+2,none⟩ t'.2.2) (fun k=>S k\/w.heap.size<=k) u v iv bv xs ys (is.set j x') bs:=by
 obtain ⟨S1,S2,S3,ti,tb,h1,hs1,hi,hk,d1,d2,hU⟩:=h;have hg:g < w.heap.size:=hi.row.lt g (by rw [hv];rfl);have hg2:S2 g:=hi.so g (by rw [hv];rfl);have hoth:∀ k,k < w.heap.size->k≠g->(((w1.setCell ⟨g,j * 3,none⟩ t'.1).setCell ⟨g,j * 3+1,none⟩ t'.2.1).setCell ⟨g,j * 3+2,none⟩ t'.2.2).heap[k]?=w.heap[k]?:=fun k hk1 hk =>
  (((heap_setCell_other _ ⟨g,j * 3+2,none⟩ k _ (by simpa using hk)).trans (heap_setCell_other _ ⟨g,j * 3+1,none⟩ k _ (by simpa using hk))).trans (heap_setCell_other _ ⟨g,j * 3,none⟩ k _ (by simpa using hk))).trans (hb.block k hk1)
 have h12:∀ m,(u.ownBlock=some m\/v.ownBlock=some m)->m < w.heap.size:=fun m hm=>hm.elim (fun e=>(h1.a.lt m e).2) (fun e=>(h1.b.lt m e).2);have hi2:=hi.bound.put hv j (by rw [hi.len];exact hj) t' x' hb hO hn (S':=fun k=>(S2 k/\k < w.heap.size)\/w.heap.size<=k) (fun k hk=>.inl hk) (fun k hk=>.inr hk);refine ⟨fun k=>u.ownBlock=some k\/v.ownBlock=some k,_,fun k=>S3 k/\k < w.heap.size,_,tb,⟨h1.a.of_heap fun k hk=>hoth k (h12 k (.inl hk)) (fun e=>(d1 k (hs1 k (.inl hk))).1 (e ▸ hg2)),h1.b.of_heap fun k hk=>hoth k (h12 k (.inr hk)) (fun e=>(d1 k (hs1 k (.inr hk))).1 (e ▸ hg2)),h1.ne⟩,fun k hk=>hk,hi2,hk.bound.of_heap fun k hk hlt=>hoth k hlt (fun e=>d2 g hg2 (e ▸ hk.1)),fun k hk=>⟨fun e=>?_,fun e=>(d1 k (hs1 k hk)).2 e.1⟩,fun k hk e=>?_,fun k hk=>?_⟩
 ·rcases e with e | e
  ·exact (d1 k (hs1 k hk)).1 e.1
  ·have:=h12 k hk;omega
 ·rcases hk with hk | hk
  ·exact d2 k hk.1 e.1
  ·have:=e.2;omega
 ·rcases hk with hk | (hk | hk) | hk
  ·exact .inl (hU k (.inl (hs1 k hk)))
  ·exact .inl (hU k (.inr (.inl hk.1)))
  ·exact .inr hk
  ·exact .inl (hU k (.inr (.inr hk.1)))
end Kit
namespace Kit
theorem zbc {P:Program}(W:World){ops:Array Oper}{o:Oper}{a:Act}{K:Act->World->Prop}{Q:Exit->Act->World->Prop}{E:Prop}(hgd:o.guard=none)(s x:Operand)(t:TypeId)
  (ho:o.op=.call { callee:=.builtin .append,args:=#[s,x],argTypes:=#[t,t] }) (e:TypeId) (ht:P.underlying t=some (.slice e)) (z:Value) (bytes:Nat)
  (hi:(P.info? e).map (fun i=>(i.zero,i.size,i.bytes))=some (some z,3,bytes)) (hzc:z.cells.size=3) (hby:bytes<=64) (v:Value) (ts:List V3) (hs:a.eval s=v) (hown:TOwns W e v ts)
  (g:Nat) (y:V3) (hx:a.eval x=.slice (some ⟨g,0,none⟩) 1 1) (hc:W.cell? ⟨g,0,none⟩=some y.1/\W.cell? ⟨g,1,none⟩=some y.2.1/\W.cell? ⟨g,2,none⟩=some y.2.2) (h1:y.1.oneCell'=true/\y.2.1.oneCell'=true/\y.2.2.oneCell'=true) (hl:ts.length<=1000000000000)
  (h:∀ v' w',TOwns w' e v' (ts ++ [y])->W.grownBy w' v.ownBlock->(∀ k,v'.ownBlock=some k->v.ownBlock=some k\/W.heap.size<=k)->K (a.put o.dst v') w') :
  if Region.wanted o (yielded ops a.tmps)=true then Oper.wp P o a W K Q else E:=by
 obtain ⟨i0,hi,hz0,hz1,hz2⟩:=info_parts hi;have hown2:W.ownsRow 0 e 3 v ts.length (f3 ts):=hown;refine step_append_lies _ hgd s x t ho 0 e i0 z 3 bytes ht hi hz0 hz1 hz2 hzc (by decide) v ts.length (f3 ts) hs hown2 ⟨g,0,none⟩ 1 1 (f3 [y]) hx rfl ?_ ?_ (by decide) ?_ ?_ (Nat.zero_le _) W.heap.size rfl ?_
 ·intro j u hj
  match j,hj with
  | 0,hj=>simp [f3] at hj;subst hj;simpa [Addr.add] using hc.1
  | 1,hj=>simp [f3] at hj;subst hj;simpa [Addr.add] using hc.2.1
  | 2,hj=>simp [f3] at hj;subst hj;simpa [Addr.add] using hc.2.2
  | j+3,hj=>simp [f3] at hj
 ·intro u hu;simp only [f3,List.mem_cons,List.not_mem_nil,or_false] at hu;rcases hu with rfl | rfl | rfl
  ·exact h1.1
  ·exact h1.2.1
  ·exact h1.2.2
 ·unfold maxLen;omega
 ·have:(ts.length+1) * bytes<=1000000000001 * 64:=Nat.mul_le_mul (by omega) hby;omega
 ·intro g' cap w' hown' hgrow hat _;refine h _ w' ?_ hgrow fun k hk=>?_
  ·unfold TOwns;rw [List.length_append,zmr];exact hown'
  ·simp only [Value.ownBlock,Option.some.injEq] at hk;subst hk;rcases hat with hat | hat
   ·exact .inl hat
   ·exact .inr (by omega)
theorem GO.append {α:Type}{K:Kd α}{w w1 w2:World}{S:Nat->Prop}{v v':Value}{ts:List V3}{xs:List α}{t':V3}{x':α}(h:GO K w S v ts xs)(hb:Below w.heap.size w w1)(hO:K.O w1 t' x')(hn:∀ k,(K.p t').ownBlock=some k->w.heap.size<=k)
  (hr:TOwns w2 K.T v' (ts ++ [t'])) (hg:w1.grownBy w2 v.ownBlock) (hv:∀ k,v'.ownBlock=some k->v.ownBlock=some k\/w1.heap.size<=k):GO K w2 (fun k=>(S k/\k < w.heap.size)\/w.heap.size<=k) v' (ts ++ [t']) (xs ++ [x']):=by
 have hl:=h.len;have hsz:=hb.size;have hlt:∀ (i:Nat) (hi:i < ts.length) (k:Nat),(K.p ts[i]).ownBlock=some k->k < w.heap.size:=fun i hi k hk=>K.lt (h.inn i hi (by omega)) k hk;have hlt':∀ k,(K.p t').ownBlock=some k->k < w1.heap.size:=fun k hk=>K.lt hO k hk;have hvl:∀ k,v.ownBlock=some k->k < w.heap.size:=h.row.lt;have at_l:∀ (i:Nat) (hi:i < (ts ++ [t']).length),(∃ h':i < ts.length,(ts ++ [t'])[i]=ts[i])\/(i=ts.length/\(ts ++ [t'])[i]=t'):=fun i hi=>by
  by_cases e:i < ts.length
  ·exact .inl ⟨e,List.getElem_append_left e⟩
  ·have e2:i=ts.length:=by simp at hi;omega
   refine .inr ⟨e2,?_⟩;subst e2;simp
 refine ⟨by simp [hl],hr,fun i hi hi'=>?_,fun i j hi hj hne k e1 e2=>?_,fun i hi k e1 e2=>?_,fun k e=>?_,fun i hi k e=>?_⟩
 ·rcases at_l i hi with ⟨h',e⟩ | ⟨rfl,e⟩
  ·rw [e,List.getElem_append_left (by omega)];exact K.heap (h.inn i h' (by omega)) fun k hk=>(hg.block k (by have:=hlt i h' k hk;omega) (fun e=>h.out i h' k hk e.symm)).trans (hb.block k (hlt i h' k hk))
  ·have e2:(xs ++ [x'])[ts.length]=x':=by simp [hl]
   rw [e,e2];exact K.heap hO fun k hk=>hg.block k (hlt' k hk) (fun e=>by have:=hvl k e.symm;have:=hn k hk;omega)
 ·rcases at_l i hi with ⟨h1,q1⟩ | ⟨q0,q1⟩<;>rcases at_l j hj with ⟨h2,q2⟩ | ⟨q3,q2⟩<;>rw [q1] at e1<;>rw [q2] at e2
  ·exact h.sep i j h1 h2 hne k e1 e2
  ·have:=hlt i h1 k e1;have:=hn k e2;omega
  ·have:=hlt j h2 k e2;have:=hn k e1;omega
  ·omega
 ·rcases at_l i hi with ⟨h1,q1⟩ | ⟨q0,q1⟩<;>rw [q1] at e1
  ·rcases hv k e2 with q | q
   ·exact h.out i h1 k e1 q
   ·have:=hlt i h1 k e1;omega
  ·rcases hv k e2 with q | q
   ·have:=hvl k q;have:=hn k e1;omega
   ·have:=hlt' k e1;omega
 ·rcases hv k e with q | q
  ·exact .inl ⟨h.so k q,hvl k q⟩
  ·exact .inr (by omega)
 ·rcases at_l i hi with ⟨h1,q1⟩ | ⟨q0,q1⟩<;>rw [q1] at e
  ·exact .inl ⟨h.si i h1 k e,hlt i h1 k e⟩
  ·exact .inr (hn k e)
theorem DO.appI {w:World}{S:Nat->Prop}{u v iv bv:Value}{xs ys:List Bool}{is:List Ino}{bs:List Blk}(h:DO w S u v iv bv xs ys is bs) :
  ∃ ti,TOwns w 63 iv ti/\ti.length=is.length/\∀ (w1 w2:World) (iv':Value) (t':V3) (x':Ino),Below w.heap.size w w1->KI.O w1 t' x'->(∀ k,t'.2.2.ownBlock=some k->w.heap.size<=k) ->
   TOwns w2 63 iv' (ti ++ [t'])->w1.grownBy w2 iv.ownBlock->(∀ k,iv'.ownBlock=some k->iv.ownBlock=some k\/w1.heap.size<=k)->DO w2 (fun k=>S k\/w.heap.size<=k) u v iv' bv xs ys (is ++ [x']) bs:=by
 obtain ⟨S1,S2,S3,ti,tb,h1,hs1,hi,hk,d1,d2,hU⟩:=h;refine ⟨ti,hi.row,hi.len,fun w1 w2 iv' t' x' hb hO hn hr hg hv=>?_⟩;have hsz:=hb.size;have h12:∀ m,(u.ownBlock=some m\/v.ownBlock=some m)->m < w.heap.size:=fun m hm=>hm.elim (fun e=>(h1.a.lt m e).2) (fun e=>(h1.b.lt m e).2);have hoth:∀ k,k < w.heap.size->iv.ownBlock≠some k->w2.heap[k]?=w.heap[k]?:=fun k hk hne=>(hg.block k (by omega) (fun e=>hne e.symm)).trans (hb.block k hk);refine ⟨fun k=>u.ownBlock=some k\/v.ownBlock=some k,_,fun k=>S3 k/\k < w.heap.size,_,tb,⟨h1.a.of_heap fun k hk=>hoth k (h12 k (.inl hk)) (fun e=>(d1 k (hs1 k (.inl hk))).1 (hi.so k e)),h1.b.of_heap fun k hk=>hoth k (h12 k (.inr hk)) (fun e=>(d1 k (hs1 k (.inr hk))).1 (hi.so k e)),h1.ne⟩,fun k hk=>hk,hi.append hb hO hn hr hg hv,hk.bound.of_heap fun k hk hlt=>hoth k hlt (fun e=>d2 k (hi.so k e) hk.1),fun k hk=>⟨fun e=>?_,fun e=>(d1 k (hs1 k hk)).2 e.1⟩,fun k hk e=>?_,fun k hk=>?_⟩
 ·rcases e with e | e
  ·exact (d1 k (hs1 k hk)).1 e.1
  ·have:=h12 k hk;omega
 ·rcases hk with hk | hk
  ·exact d2 k hk.1 e.1
  ·have:=e.2;omega
 ·rcases hk with hk | (hk | hk) | hk
  ·exact .inl (hU k (.inl (hs1 k hk)))
  ·exact .inl (hU k (.inr (.inl hk.1)))
  ·exact .inr hk
  ·exact .inl (hU k (.inr (.inr hk.1)))
theorem DO.setB {w w1:World}{S S':Nat->Prop}{u v iv bv bv':Value}{xs ys:List Bool}{is:List Ino}{bs bs':List Blk}(h:DO w S u v iv bv xs ys is bs)(hb:Below w.heap.size w w1){tb':List V3}(hk':GO KB w1 S' bv' tb' bs')(hs':∀ k,S' k->w.heap.size<=k) :
  DO w1 (fun k=>S k\/w.heap.size<=k) u v iv bv' xs ys is bs':=by
 obtain ⟨S1,S2,S3,ti,tb,h1,hs1,hi,hk,d1,d2,hU⟩:=h;have h12:∀ m,(u.ownBlock=some m\/v.ownBlock=some m)->m < w.heap.size:=fun m hm=>hm.elim (fun e=>(h1.a.lt m e).2) (fun e=>(h1.b.lt m e).2);refine ⟨fun k=>u.ownBlock=some k\/v.ownBlock=some k,fun k=>S2 k/\k < w.heap.size,S',ti,tb',h1.below hb nR,fun k hk=>hk,hi.bound.below hb nR,hk',fun k hk=>⟨fun e=>(d1 k (hs1 k hk)).1 e.1,fun e=>?_⟩,fun k hk e=>?_,fun k hk=>?_⟩
 ·have:=h12 k hk;have:=hs' k e;omega
 ·have:=hk.2;have:=hs' k e;omega
 ·rcases hk with hk | hk | hk
  ·exact .inl (hU k (.inl (hs1 k hk)))
  ·exact .inl (hU k (.inr (.inl hk.1)))
  ·exact .inr (hs' k hk)
end Kit
namespace Kit
theorem DO.appB {w:World}{S:Nat->Prop}{u v iv bv:Value}{xs ys:List Bool}{is:List Ino}{bs:List Blk}(h:DO w S u v iv bv xs ys is bs) :
  ∃ tb,TOwns w 74 bv tb/\tb.length=bs.length/\∀ (w1 w2:World) (bv':Value) (t':V3) (x':Blk),Below w.heap.size w w1->KB.O w1 t' x'->(∀ k,t'.2.1.ownBlock=some k->w.heap.size<=k) ->
   TOwns w2 74 bv' (tb ++ [t'])->w1.grownBy w2 bv.ownBlock->(∀ k,bv'.ownBlock=some k->bv.ownBlock=some k\/w1.heap.size<=k)->DO w2 (fun k=>S k\/w.heap.size<=k) u v iv bv' xs ys is (bs ++ [x']):=by
 obtain ⟨S1,S2,S3,ti,tb,h1,hs1,hi,hk,d1,d2,hU⟩:=h;refine ⟨tb,hk.row,hk.len,fun w1 w2 bv' t' x' hb hO hn hr hg hv=>?_⟩;have hsz:=hb.size;have h12:∀ m,(u.ownBlock=some m\/v.ownBlock=some m)->m < w.heap.size:=fun m hm=>hm.elim (fun e=>(h1.a.lt m e).2) (fun e=>(h1.b.lt m e).2);have hoth:∀ k,k < w.heap.size->bv.ownBlock≠some k->w2.heap[k]?=w.heap[k]?:=fun k hk hne=>(hg.block k (by omega) (fun e=>hne e.symm)).trans (hb.block k hk);refine ⟨fun k=>u.ownBlock=some k\/v.ownBlock=some k,fun k=>S2 k/\k < w.heap.size,_,ti,_,⟨h1.a.of_heap fun m hm=>hoth m (h12 m (.inl hm)) (fun e=>(d1 m (hs1 m (.inl hm))).2 (hk.so m e)),h1.b.of_heap fun m hm=>hoth m (h12 m (.inr hm)) (fun e=>(d1 m (hs1 m (.inr hm))).2 (hk.so m e)),h1.ne⟩,fun k hk=>hk,hi.bound.of_heap fun m hm hlt=>hoth m hlt (fun e=>d2 m hm.1 (hk.so m e)),hk.append hb hO hn hr hg hv,fun m hm=>⟨fun e=>(d1 m (hs1 m hm)).1 e.1,fun e=>?_⟩,fun m hm e=>?_,fun m hm=>?_⟩
 ·rcases e with e | e
  ·exact (d1 m (hs1 m hm)).2 e.1
  ·have:=h12 m hm;omega
 ·rcases e with e | e
  ·exact d2 m hm.1 e.1
  ·have:=hm.2;omega
 ·rcases hm with hm | hm | (hm | hm)
  ·exact .inl (hU m (.inl (hs1 m hm)))
  ·exact .inl (hU m (.inr (.inl hm.1)))
  ·exact .inl (hU m (.inr (.inr hm.1)))
  ·exact .inr hm
theorem DO.soI {w:World}{S:Nat->Prop}{u v iv bv:Value}{xs ys:List Bool}{is:List Ino}{bs:List Blk}(h:DO w S u v iv bv xs ys is bs):∀ k,(iv.ownBlock=some k\/bv.ownBlock=some k)->S k:=by
 obtain ⟨S1,S2,S3,ti,tb,a1,a2,a3,a4,a5,a6,a7⟩:=h;exact fun k hk=>hk.elim (fun e=>a7 k (.inr (.inl (a3.so k e)))) (fun e=>a7 k (.inr (.inr (a4.so k e))))
theorem DO.bits {w:World}{B:Nat}{u v:Value}{xs ys:List Bool}(h:Two w B u v xs ys):DO w (fun k=>B<=k) u v (.slice none 0 0) (.slice none 0 0) xs ys [] []:=by
 refine ⟨fun k=>B<=k,fun _=>False,fun _=>False,[],[],h.base_le (Nat.zero_le _),fun k hk=>hk.elim (fun e=>(h.a.lt k e).1) (fun e=>(h.b.lt k e).1),?_,?_,fun k hk=>⟨id,id⟩,fun k hk=>hk.elim,fun k hk=>hk.elim id (fun e=>e.elim (fun e=>e.elim) (fun e=>e.elim))⟩
 ·exact ⟨rfl,TOwns.nil _ _,fun j hj=>by simp at hj,fun i j hi=>by simp at hi,fun j hj=>by simp at hj,(fun k e=>by cases e),fun j hj=>by simp at hj⟩
 ·exact ⟨rfl,TOwns.nil _ _,fun j hj=>by simp at hj,fun i j hi=>by simp at hi,fun j hj=>by simp at hj,(fun k e=>by cases e),fun j hj=>by simp at hj⟩
def noD:Array Value:=#[.slice none 0 0,.slice none 0 0,.slice none 0 0,.slice none 0 0]
structure Dz (w w':World) (A:Array Value) (b:Nat) (u v iv bv:Value) (xs ys:List Bool) (is:List Ino) (bs:List Blk):Prop where
 arg:AtC w' w.heap.size 35 A
 res:AtC w' (w.heap.size+1) 35 noD
 box:AtC w' b 35 #[u,v,iv,bv]
 dsk:DO w' (fun k=>w.heap.size+1 < k/\k≠b) u v iv bv xs ys is bs
 bel:Below w.heap.size w w'
 hb:w.heap.size+1 < b
namespace Dz
variable {w w' w1 : World} {A : Array Value} {b : Nat} {u v iv bv : Value} {xs ys : List Bool} {is : List Ino} {bs : List Blk}
theorem below (h:Dz w w' A b u v iv bv xs ys is bs)(hb:Below w'.heap.size w' w1):Dz w w1 A b u v iv bv xs ys is bs :=
 ⟨h.arg.over hb,h.res.over hb,h.box.over hb,h.dsk.below hb nR,h.bel.trans (hb.mono h.bel.size),h.hb⟩
theorem drew (h:Dz w w' A b u v iv bv xs ys is bs):Dz w w'.drew A b u v iv bv xs ys is bs:=h.below bR.drew
theorem alloc (h:Dz w w' A b u v iv bv xs ys is bs)(o:Obj):Dz w (w'.alloc o) A b u v iv bv xs ys is bs:=h.below (bR.alloc nR o)
theorem other (h:Dz w w' A b u v iv bv xs ys is bs){B j:Nat}(hB:w.heap.size+1 < B)(hb:B≠b)(hn:∀ k,k=B->¬ (w.heap.size+1 < k/\k≠b/\k < w1.heap.size))(x:Value)(hw:Below w1.heap.size w1 w')(h1:Dz w w1 A b u v iv bv xs ys is bs):Dz w (w'.setCell ⟨B,j,none⟩ x) A b u v iv bv xs ys is bs:=by
 have hlt:w1.heap.size<=B:=by
  rcases Nat.lt_or_ge B w1.heap.size with e | e
  ·exact absurd ⟨hB,hb,e⟩ (hn B rfl)
  ·exact e
 have hbb:=h1.box.lt;have hrr:=h1.res.lt;refine ⟨h.arg.other (by omega) _,h.res.other (by omega) _,h.box.other (by omega) _,?_,h.bel.setCell (by show w.heap.size<=B;omega) _,h.hb⟩;exact h1.dsk.of_heap fun k hk hkl=>(heap_setCell_other w' ⟨B,j,none⟩ k x (by show k≠B;omega)).trans (hw.block k hkl)
theorem appI (h:Dz w w' A b u v iv bv xs ys is bs):∃ ti,TOwns w' 63 iv ti/\ti.length=is.length/\∀ (w1 w2:World) (iv':Value) (t':V3) (x':Ino),Below w'.heap.size w' w1->KI.O w1 t' x'->(∀ k,t'.2.2.ownBlock=some k->w'.heap.size<=k) ->
  TOwns w2 63 iv' (ti ++ [t'])->w1.grownBy w2 iv.ownBlock->(∀ k,iv'.ownBlock=some k->iv.ownBlock=some k\/w1.heap.size<=k) ->
  AtC w2 b 35 #[u,v,iv,bv]/\Dz w (w2.setCell ⟨b,2,none⟩ iv') A b u v iv' bv xs ys (is ++ [x']) bs:=by
 obtain ⟨ti,h1,h2,h3⟩:=h.dsk.appI;refine ⟨ti,h1,h2,fun w1 w2 iv' t' x' hb hO hn hr hg hv=>?_⟩;have hso:=fun k (hk:iv.ownBlock=some k)=>h.dsk.soI k (.inl hk);have hbs:=h.box.lt;have hsz:=h.bel.size;have hsz1:=hb.size;have hr0:=h.res.lt;have ha0:=h.arg.lt;have e0:AtC w2 w.heap.size 35 A:=(hg.block _ (by omega) (fun e=>by have:=hso _ e.symm;omega)).trans (h.arg.over hb);have e1:AtC w2 (w.heap.size+1) 35 noD:=(hg.block _ (by omega) (fun e=>by have:=hso _ e.symm;omega)).trans (h.res.over hb);have e2:AtC w2 b 35 #[u,v,iv,bv]:=(hg.block _ (by omega) (fun e=>by have:=hso _ e.symm;omega)).trans (h.box.over hb);have d:=h3 w1 w2 iv' t' x' hb hO hn hr hg hv;have b2:Below w.heap.size w w2:=(h.bel.trans (hb.mono hsz)).grown hg (by omega) (fun k hk=>by have:=hso k hk;omega);have hbb:=h.hb;refine ⟨e2,⟨e0.other (by omega) _,e1.other (by omega) _,e2.set 2 iv',?_,b2.setCell (by show w.heap.size<=b;omega) _,h.hb⟩⟩;have d2:=d.mono (S':=fun k=>w.heap.size+1 < k/\k≠b) fun k hk=>hk.elim id (fun e=>⟨by omega,by omega⟩);exact d2.of_heap fun k hk _=>heap_setCell_other w2 ⟨b,2,none⟩ k iv' (by show k≠b;omega)
theorem appB (h:Dz w w' A b u v iv bv xs ys is bs):∃ tb,TOwns w' 74 bv tb/\tb.length=bs.length/\∀ (w1 w2:World) (bv':Value) (t':V3) (x':Blk),Below w'.heap.size w' w1->KB.O w1 t' x'->(∀ k,t'.2.1.ownBlock=some k->w'.heap.size<=k) ->
  TOwns w2 74 bv' (tb ++ [t'])->w1.grownBy w2 bv.ownBlock->(∀ k,bv'.ownBlock=some k->bv.ownBlock=some k\/w1.heap.size<=k) ->
  AtC w2 b 35 #[u,v,iv,bv]/\Dz w (w2.setCell ⟨b,3,none⟩ bv') A b u v iv bv' xs ys is (bs ++ [x']):=by
 obtain ⟨ti,h1,h2,h3⟩:=h.dsk.appB;refine ⟨ti,h1,h2,fun w1 w2 iv' t' x' hb hO hn hr hg hv=>?_⟩;have hso:=fun k (hk:bv.ownBlock=some k)=>h.dsk.soI k (.inr hk);have hbs:=h.box.lt;have hsz:=h.bel.size;have hsz1:=hb.size;have hr0:=h.res.lt;have ha0:=h.arg.lt;have e0:AtC w2 w.heap.size 35 A:=(hg.block _ (by omega) (fun e=>by have:=hso _ e.symm;omega)).trans (h.arg.over hb);have e1:AtC w2 (w.heap.size+1) 35 noD:=(hg.block _ (by omega) (fun e=>by have:=hso _ e.symm;omega)).trans (h.res.over hb);have e2:AtC w2 b 35 #[u,v,iv,bv]:=(hg.block _ (by omega) (fun e=>by have:=hso _ e.symm;omega)).trans (h.box.over hb);have d:=h3 w1 w2 iv' t' x' hb hO hn hr hg hv;have b2:Below w.heap.size w w2:=(h.bel.trans (hb.mono hsz)).grown hg (by omega) (fun k hk=>by have:=hso k hk;omega);have hbb:=h.hb;refine ⟨e2,⟨e0.other (by omega) _,e1.other (by omega) _,e2.set 3 iv',?_,b2.setCell (by show w.heap.size<=b;omega) _,h.hb⟩⟩;have d2:=d.mono (S':=fun k=>w.heap.size+1 < k/\k≠b) fun k hk=>hk.elim id (fun e=>⟨by omega,by omega⟩);exact d2.of_heap fun k hk _=>heap_setCell_other w2 ⟨b,3,none⟩ k iv' (by show k≠b;omega)
end Dz
theorem dz_start {w w1:World}{A:Array Value}{u v:Value}{xs ys:List Bool}(B1:Below ((w.alloc (.cells A 35)).alloc (.cells noD 35)).heap.size ((w.alloc (.cells A 35)).alloc (.cells noD 35)) w1)(T1:Two w1 ((w.alloc (.cells A 35)).alloc (.cells noD 35)).heap.size u v xs ys) :
  Dz w (w1.alloc (.cells #[u,v,.slice none 0 0,.slice none 0 0] 35)) A w1.heap.size u v (.slice none 0 0) (.slice none 0 0) xs ys [] []:=by
 have hsz:=B1.size;simp at hsz;have k1:=(AtC.new (w.alloc (.cells A 35)) 35 noD).over B1;simp at k1;refine ⟨(((AtC.new w 35 A).alloc _).over B1).alloc _,k1.alloc _,AtC.new w1 35 _,?_,((((Below.refl _ w).alloc nR _).alloc (by simp) _).trans (B1.mono (by simp;omega))).alloc (by omega) _,by omega⟩;have T2:Two w1 (w.heap.size+1+1) u v xs ys:=T1.base_le (by simp);obtain ⟨S1,S2,S3,ti,tb,h1,h2,h3,h4,h5,h6,h7⟩:=DO.bits T2;have hlt:∀ k,(u.ownBlock=some k\/v.ownBlock=some k)->w.heap.size+1 < k/\k≠w1.heap.size:=fun k hk=>hk.elim (fun e=>by have:=T2.a.lt k e;omega) (fun e=>by have:=T2.b.lt k e;omega);exact ⟨fun k=>u.ownBlock=some k\/v.ownBlock=some k,fun _=>False,fun _=>False,[],[],(T2.base_le (Nat.zero_le _)).alloc _,fun k hk=>hk,⟨rfl,TOwns.nil _ _,fun j hj=>by simp at hj,fun i j hi=>by simp at hi,fun j hj=>by simp at hj,(fun k e=>by cases e),fun j hj=>by simp at hj⟩,⟨rfl,TOwns.nil _ _,fun j hj=>by simp at hj,fun i j hi=>by simp at hi,fun j hj=>by simp at hj,(fun k e=>by cases e),fun j hj=>by simp at hj⟩,fun k hk=>⟨id,id⟩,fun k hk=>hk.elim,fun k hk=>hk.elim (hlt k) (fun e=>e.elim (fun e=>e.elim) (fun e=>e.elim))⟩
def MkI (k:Nat) (y s:Int) (z:List Int):Mk:=.val [k] (fun lo hi w v=>∃ u,v=.agg #[.int .i64 y,.int .i64 s,u]/\ROwns w lo 3 u (ic z)/\∀ i,u.ownBlock=some i->i < hi)
 (fun _ _ _ _ _ h hb=>by obtain ⟨u,h1,h2,h3⟩:=h;exact ⟨u,h1,h2.below hb nR,h3⟩)
def MkI1 (k:Nat) (y s:Int):Mk:=.val1 [k] k (by simp) (fun lo hi w u v=>v=.slice (some ⟨lo,0,none⟩) 1 1/\hi=lo+1/\∃ p,u=.agg #[.int .i64 y,.int .i64 s,p]/\AtC w lo 63 #[.int .i64 y,.int .i64 s,p])
 (fun _ _ _ _ _ _ h hb=>by obtain ⟨h1,h2,p,h3,h4⟩:=h;exact ⟨h1,h2,p,h3,h4.over hb⟩)
def MkK (k:Nat) (d:Bool) (t:ByteArray) (z:List Sl):Mk:=.val [k] (fun lo hi w v=>∃ u,v=.agg #[.bool d,u,.string t]/\SOwns w lo 100 u z/\∀ i,u.ownBlock=some i->i < hi)
 (fun _ _ _ _ _ h hb=>by obtain ⟨u,h1,h2,h3⟩:=h;exact ⟨u,h1,h2.below hb nR,h3⟩)
def MkK1 (k:Nat) (d:Bool) (t:ByteArray):Mk:=.val1 [k] k (by simp) (fun lo hi w u v=>v=.slice (some ⟨lo,0,none⟩) 1 1/\hi=lo+1/\∃ p,u=.agg #[.bool d,p,.string t]/\AtC w lo 74 #[.bool d,p,.string t])
 (fun _ _ _ _ _ _ h hb=>by obtain ⟨h1,h2,p,h3,h4⟩:=h;exact ⟨h1,h2,p,h3,h4.over hb⟩)
end Kit
namespace Kit
section
variable {α : Type} {sz : α -> Nat} {mk : Nat -> α -> α}
end
theorem GO.len_of {α:Type}{K:Kd α}{w:World}{S:Nat->Prop}{v:Value}{ts:List V3}{xs:List α}(h:GO K w S v ts xs){a:Option Addr}{n cap:Nat}(hv:v=.slice a n cap):n=ts.length:=by
 obtain ⟨a',c,e,_⟩:=h.row.form;rw [hv] at e;simp only [Value.slice.injEq] at e;exact e.2.1
end Kit
namespace Kit
def DL (w:World) (S:Nat->Prop) (u v iv bv:Value) (ti tb:List V3) (xs ys:List Bool) (is:List Ino) (bs:List Blk):Prop :=
 ∃ (S1 S2 S3:Nat->Prop),Two w 0 u v xs ys/\(∀ k,(u.ownBlock=some k\/v.ownBlock=some k)->S1 k)/\GO KI w S2 iv ti is/\GO KB w S3 bv tb bs/\(∀ k,S1 k->¬ S2 k/\¬ S3 k)/\(∀ k,S2 k->¬ S3 k)/\∀ k,S1 k\/S2 k\/S3 k->S k
theorem DO.dl {w:World}{S:Nat->Prop}{u v iv bv:Value}{xs ys:List Bool}{is:List Ino}{bs:List Blk}(h:DO w S u v iv bv xs ys is bs):∃ ti tb,DL w S u v iv bv ti tb xs ys is bs:=by
 obtain ⟨S1,S2,S3,ti,tb,h⟩:=h;exact ⟨ti,tb,S1,S2,S3,h⟩
namespace DL
variable {w w' : World} {S S' : Nat -> Prop} {u v iv bv : Value} {ti tb : List V3} {xs ys : List Bool} {is : List Ino} {bs : List Blk}
theorem do_ (h:DL w S u v iv bv ti tb xs ys is bs):DO w S u v iv bv xs ys is bs:=by
 obtain ⟨S1,S2,S3,h⟩:=h;exact ⟨S1,S2,S3,ti,tb,h⟩
theorem dr (h:DL w S u v iv bv ti tb xs ys is bs):DR w u v iv bv xs ys is bs:=h.do_.dr
theorem of_heap (h:DL w S u v iv bv ti tb xs ys is bs)(hh:∀ k,S k->k < w.heap.size->w'.heap[k]?=w.heap[k]?):DL w' S u v iv bv ti tb xs ys is bs:=by
 obtain ⟨S1,S2,S3,h1,h2,h3,h4,h5,h6,h7⟩:=h;refine ⟨S1,S2,S3,⟨h1.a.of_heap fun k hk=>hh k (h7 k (.inl (h2 k (.inl hk)))) (h1.a.lt k hk).2,h1.b.of_heap fun k hk=>hh k (h7 k (.inl (h2 k (.inr hk)))) (h1.b.lt k hk).2,h1.ne⟩,h2,h3.of_heap fun k hs hk=>hh k (h7 k (.inr (.inl hs))) hk,h4.of_heap fun k hs hk=>hh k (h7 k (.inr (.inr hs))) hk,h5,h6,h7⟩
theorem below {B:Nat}(h:DL w S u v iv bv ti tb xs ys is bs)(hb:Below B w w')(hB:w.heap.size<=B):DL w' S u v iv bv ti tb xs ys is bs:=h.of_heap fun k _ hk=>hb.block k (by omega)
theorem over (h:DL w S u v iv bv ti tb xs ys is bs)(hb:Below w.heap.size w w'):DL w' S u v iv bv ti tb xs ys is bs:=h.below hb nR
theorem other (h:DL w S u v iv bv ti tb xs ys is bs){g k:Nat}(hg:¬ S g)(x:Value):DL (w.setCell ⟨g,k,none⟩ x) S u v iv bv ti tb xs ys is bs :=
 h.of_heap fun i hi _=>heap_setCell_other w ⟨g,k,none⟩ i x (fun e=>hg (by simp at e;exact e ▸ hi))
theorem mono (h:DL w S u v iv bv ti tb xs ys is bs)(hs:∀ k,S k->S' k):DL w S' u v iv bv ti tb xs ys is bs:=by
 obtain ⟨S1,S2,S3,h1,h2,h3,h4,h5,h6,h7⟩:=h;exact ⟨S1,S2,S3,h1,h2,h3,h4,h5,h6,fun k hk=>hs k (h7 k hk)⟩
theorem turnI (h:DL w S u v iv bv ti tb xs ys is bs){ti':List V3}{is':List Ino}(g:Nat)(hg:∀ S2,GO KI w S2 iv ti is->S2 g/\GO KI w' S2 iv ti' is')(ho:∀ k,k≠g->w'.heap[k]?=w.heap[k]?):DL w' S u v iv bv ti' tb xs ys is' bs/\S g:=by
 obtain ⟨S1,S2,S3,h1,h2,h3,h4,h5,h6,h7⟩:=h;obtain ⟨q1,q2⟩:=hg S2 h3;have n1:∀ k,S1 k->k≠g:=fun k hk e=>(h5 k hk).1 (e ▸ q1);have n3:∀ k,S3 k->k≠g:=fun k hk e=>h6 g q1 (e ▸ hk);exact ⟨⟨S1,S2,S3,⟨h1.a.of_heap fun k hk=>ho k (n1 k (h2 k (.inl hk))),h1.b.of_heap fun k hk=>ho k (n1 k (h2 k (.inr hk))),h1.ne⟩,h2,q2,h4.of_heap fun k hs _=>ho k (n3 k hs),h5,h6,h7⟩,h7 g (.inr (.inl q1))⟩
theorem turnB (h:DL w S u v iv bv ti tb xs ys is bs){tb':List V3}{bs':List Blk}(g:Nat)(hg:∀ S3,GO KB w S3 bv tb bs->S3 g/\GO KB w' S3 bv tb' bs')(ho:∀ k,k≠g->w'.heap[k]?=w.heap[k]?):DL w' S u v iv bv ti tb' xs ys is bs'/\S g:=by
 obtain ⟨S1,S2,S3,h1,h2,h3,h4,h5,h6,h7⟩:=h;obtain ⟨q1,q2⟩:=hg S3 h4;have n1:∀ k,S1 k->k≠g:=fun k hk e=>(h5 k hk).2 (e ▸ q1);have n3:∀ k,S2 k->k≠g:=fun k hk e=>h6 k hk (e ▸ q1);exact ⟨⟨S1,S2,S3,⟨h1.a.of_heap fun k hk=>ho k (n1 k (h2 k (.inl hk))),h1.b.of_heap fun k hk=>ho k (n1 k (h2 k (.inr hk))),h1.ne⟩,h2,h3.of_heap fun k hs _=>ho k (n3 k hs),q2,h5,h6,h7⟩,h7 g (.inr (.inr q1))⟩
theorem inoAt (h:DL w S u v iv bv ti tb xs ys is bs):GO KI w S iv ti is:=by
 obtain ⟨S1,S2,S3,h1,h2,h3,h4,h5,h6,h7⟩:=h;exact h3.mono fun k hk=>h7 k (.inr (.inl hk))
theorem blkAt_ (h:DL w S u v iv bv ti tb xs ys is bs):GO KB w S bv tb bs:=by
 obtain ⟨S1,S2,S3,h1,h2,h3,h4,h5,h6,h7⟩:=h;exact h4.mono fun k hk=>h7 k (.inr (.inr hk))
theorem ino (h:DL w S u v iv bv ti tb xs ys is bs)(j:Nat)(hj:j < is.length) :
  ∃ g c,iv=.slice (some ⟨g,0,none⟩) is.length c/\g < w.heap.size/\S g/\(∀ k,w.frozen? ⟨g,k,none⟩=false)/\w.cell? ⟨g,j * 3,none⟩=some (.int .i64 is[j].1)/\w.cell? ⟨g,j * 3+1,none⟩=some (.int .i64 is[j].2.1)/\w.cell? ⟨g,j * 3+2,none⟩=some (ti.getD j zI3).2.2/\ROwns w 0 3 (ti.getD j zI3).2.2 (ic is[j].2.2)/\(∀ k,(ti.getD j zI3).2.2.ownBlock=some k->S k):=by
 have hi:=h.inoAt;have hl:=hi.len;have hj':j < ti.length:=by omega
 obtain ⟨g,c,e,k1,k2,k3,k4,k5,-⟩:=hi.row.at j hj';obtain ⟨i1,i2,i3⟩:=hi.inn j hj' hj;have ed:ti.getD j zI3=ti[j]:=by simp [List.getD,hj']
 rw [ed];exact ⟨g,c,by rw [e,hl],k5,hi.so g (by rw [e];rfl),k4,by rw [k1,i1],by rw [k2,i2],k3,i3,fun k hk=>hi.si j hj' k hk⟩
theorem blk (h:DL w S u v iv bv ti tb xs ys is bs)(j:Nat)(hj:j < bs.length) :
  ∃ g c,bv=.slice (some ⟨g,0,none⟩) bs.length c/\g < w.heap.size/\S g/\w.cell? ⟨g,j * 3,none⟩=some (.bool bs[j].1)/\w.cell? ⟨g,j * 3+1,none⟩=some (tb.getD j zB3).2.1/\w.cell? ⟨g,j * 3+2,none⟩=some (.string bs[j].2.2)/\SOwns w 0 100 (tb.getD j zB3).2.1 bs[j].2.1/\(∀ k,(tb.getD j zB3).2.1.ownBlock=some k->S k):=by
 have hi:=h.blkAt_;have hl:=hi.len;have hj':j < tb.length:=by omega
 obtain ⟨g,c,e,k1,k2,k3,k4,k5,-⟩:=hi.row.at j hj';obtain ⟨i1,i2,i3⟩:=hi.inn j hj' hj;have ed:tb.getD j zB3=tb[j]:=by simp [List.getD,hj']
 rw [ed];exact ⟨g,c,by rw [e,hl],k5,hi.so g (by rw [e];rfl),by rw [k1,i1],k2,by rw [k3,i3],i2,fun k hk=>hi.si j hj' k hk⟩
theorem setPtr (h:DL w S u v iv bv ti tb xs ys is bs)(j:Nat)(hj:j < is.length){g c:Nat}(hv:(ti.getD j zI3).2.2=.slice (some ⟨g,0,none⟩) is[j].2.2.length c)(k:Nat)(z:Int) :
  DL (w.setCell ⟨g,k,none⟩ (.int .i64 z)) S u v iv bv ti tb xs ys (is.set j (is[j].1,is[j].2.1,is[j].2.2.set k z)) bs/\Chg S w (w.setCell ⟨g,k,none⟩ (.int .i64 z)):=by
 have ho:∀ i,i≠g->(w.setCell ⟨g,k,none⟩ (.int .i64 z)).heap[i]?=w.heap[i]?:=fun i hi=>heap_setCell_other w ⟨g,k,none⟩ i _ (by simpa using hi);obtain ⟨q1,q2⟩:=h.turnI (w':=w.setCell ⟨g,k,none⟩ (.int .i64 z)) (ti':=ti) (is':=is.set j (is[j].1,is[j].2.1,is[j].2.2.set k z)) g (fun S2 hi=>by
  have hl:=hi.len;have hj':j < ti.length:=by omega
  have ed:ti.getD j zI3=ti[j]:=by simp [List.getD,hj']
  rw [ed] at hv;have hown:(KI.p ti[j]).ownBlock=some g:=by show ti[j].2.2.ownBlock=_;rw [hv];rfl
  obtain ⟨i1,i2,i3⟩:=hi.inn j hj' hj;have hset:ti.set j ti[j]=ti:=List.set_getElem_self hj';refine ⟨hi.si j hj' g hown,?_⟩;have:=hi.turn (w':=w.setCell ⟨g,k,none⟩ (.int .i64 z)) (S':=S2) j hj' ti[j] (is[j].1,is[j].2.1,is[j].2.2.set k z) (by rw [hset];exact hi.row.of_heap fun i hi'=>ho i (fun e=>hi.out j hj' g hown (e ▸ hi'))) ⟨i1,i2,?_⟩ (fun i hi' h1 h2=>ho i (fun e=>h2 (e ▸ hown))) (fun i hi'=>.inl hi') (fun _ h=>h) (fun i hi'=>hi.si j hj' i hi')
  ·rw [hset] at this;exact this
  ·have h5:ROwns w 0 3 (.slice (some ⟨g,0,none⟩) (ic is[j].2.2).length c) (ic is[j].2.2):=by rw [zaf,← hv];exact i3
   have h6:=(h5.stored k (.int .i64 z)).1;rw [zaf,← hv] at h6;have:ic (is[j].2.2.set k z)=(ic is[j].2.2).set k (.int .i64 z):=by simp [ic,List.map_set]
   show ROwns _ 0 3 ti[j].2.2 (ic (is[j].2.2.set k z));rw [this];exact h6) ho
 exact ⟨q1,(Chg.refl S w).setCell q2 _⟩
theorem setLinks (h:DL w S u v iv bv ti tb xs ys is bs)(j:Nat)(hj:j < is.length){g c n:Nat}(hv:iv=.slice (some ⟨g,0,none⟩) n c)(z:Int) :
  DO (w.setCell ⟨g,j * 3+1,none⟩ (.int .i64 z)) S u v iv bv xs ys (is.set j (is[j].1,z,is[j].2.2)) bs/\Chg S w (w.setCell ⟨g,j * 3+1,none⟩ (.int .i64 z)):=by
 have ho:∀ i,i≠g->(w.setCell ⟨g,j * 3+1,none⟩ (.int .i64 z)).heap[i]?=w.heap[i]?:=fun i hi=>heap_setCell_other w ⟨g,j * 3+1,none⟩ i _ (by simpa using hi);have hl:=h.inoAt.len;have hj':j < ti.length:=by omega
 obtain ⟨q1,q2⟩:=h.turnI (w':=w.setCell ⟨g,j * 3+1,none⟩ (.int .i64 z)) (ti':=ti.set j (ti[j].1,.int .i64 z,ti[j].2.2)) (is':=is.set j (is[j].1,z,is[j].2.2)) g (fun S2 hi=>by
  have hn:=hi.len_of hv;subst hn;have hvg:iv.ownBlock=some g:=by rw [hv];rfl
  obtain ⟨i1,i2,i3⟩:=hi.inn j hj' hj;refine ⟨hi.so g hvg,?_⟩;refine hi.turn (w':=w.setCell ⟨g,j * 3+1,none⟩ (.int .i64 z)) (S':=S2) j hj' _ _ ?_ ⟨i1,rfl,?_⟩ (fun i hi' h1 h2=>ho i (fun e=>h1 (e ▸ hvg))) (fun i hi'=>.inl hi') (fun _ h=>h) (fun i hi'=>hi.si j hj' i hi')
  ·have:=(hv ▸ hi.row:TOwns w KI.T (.slice (some ⟨g,0,none⟩) ti.length c) ti).set1 j hj' (.int .i64 z);rw [hv];exact this
  ·exact ROwns.of_heap i3 fun k hk=>ho k (fun e=>hi.out j hj' k hk (by rw [hvg,e]))) ho
 exact ⟨q1.do_,(Chg.refl S w).setCell q2 _⟩
theorem clrSlot (h:DL w S u v iv bv ti tb xs ys is bs)(j:Nat)(hj:j < bs.length){g c:Nat}(hv:(tb.getD j zB3).2.1=.slice (some ⟨g,0,none⟩) bs[j].2.1.length c)(s:Nat)(hs:s < bs[j].2.1.length)(t:ByteArray)(z:Int) :
  DL ((w.setCell ⟨g,s * 2,none⟩ (.string t)).setCell ⟨g,s * 2+1,none⟩ (.int .i64 z)) S u v iv bv ti tb xs ys is (bs.set j (bs[j].1,bs[j].2.1.set s (t,z),bs[j].2.2))/\Chg S w ((w.setCell ⟨g,s * 2,none⟩ (.string t)).setCell ⟨g,s * 2+1,none⟩ (.int .i64 z)):=by
 have ho:∀ i,i≠g->((w.setCell ⟨g,s * 2,none⟩ (.string t)).setCell ⟨g,s * 2+1,none⟩ (.int .i64 z)).heap[i]?=w.heap[i]?:=fun i hi=>(heap_setCell_other _ ⟨g,s * 2+1,none⟩ i _ (by simpa using hi)).trans (heap_setCell_other w ⟨g,s * 2,none⟩ i _ (by simpa using hi));obtain ⟨q1,q2⟩:=h.turnB (w':=(w.setCell ⟨g,s * 2,none⟩ (.string t)).setCell ⟨g,s * 2+1,none⟩ (.int .i64 z)) (tb':=tb) (bs':=bs.set j (bs[j].1,bs[j].2.1.set s (t,z),bs[j].2.2)) g (fun S2 hi=>by
  have hl:=hi.len;have hj':j < tb.length:=by omega
  have ed:tb.getD j zB3=tb[j]:=by simp [List.getD,hj']
  rw [ed] at hv;have hown:(KB.p tb[j]).ownBlock=some g:=by show tb[j].2.1.ownBlock=_;rw [hv];rfl
  obtain ⟨i1,i2,i3⟩:=hi.inn j hj' hj;have hset:tb.set j tb[j]=tb:=List.set_getElem_self hj';refine ⟨hi.si j hj' g hown,?_⟩;have:=hi.turn (w':=(w.setCell ⟨g,s * 2,none⟩ (.string t)).setCell ⟨g,s * 2+1,none⟩ (.int .i64 z)) (S':=S2) j hj' tb[j] (bs[j].1,bs[j].2.1.set s (t,z),bs[j].2.2) (by rw [hset];exact hi.row.of_heap fun i hi'=>ho i (fun e=>hi.out j hj' g hown (e ▸ hi'))) ⟨i1,?_,i3⟩ (fun i hi' h1 h2=>ho i (fun e=>h2 (e ▸ hown))) (fun i hi'=>.inl hi') (fun _ h=>h) (fun i hi'=>hi.si j hj' i hi')
  ·rw [hset] at this;exact this
  ·have h5:SOwns w 0 100 (.slice (some ⟨g,0,none⟩) bs[j].2.1.length c) bs[j].2.1:=by rw [← hv];exact i2
   have h6:=(h5.set_both s hs t z).1;rw [← hv] at h6;exact h6) ho
 exact ⟨q1,((Chg.refl S w).setCell q2 _).setCell q2 _⟩
end DL
end Kit
def hadL (is:List Ino) (bs:List Blk):List Int:=(ptrL is (reachL is bs)).map (·.2)
structure Ho (w w1 wr:World) (sv:Value) (cur:List Int):Prop where
 o:ROwns wr (w.heap.size+1) 3 sv (ic cur)
 c:Chg (fun k=>k=w.heap.size+1) w1 wr
 n:∀ k,sv.ownBlock=some k->k=w.heap.size+1\/w1.heap.size<=k
theorem Ho.below {w w1 wr wr':World}{sv:Value}{cur:List Int}(h:Ho w w1 wr sv cur)(hb:Below wr.heap.size wr wr'):Ho w w1 wr' sv cur:=⟨h.o.below hb nR,h.c.trans (Chg.of_below hb),h.n⟩
theorem Ho.app {w w1 W w9:World}{sv v9:Value}{cur new:List Int}(h:Ho w w1 W sv cur)(h9:ROwns w9 (w.heap.size+1) 3 v9 (ic new))(G9:W.grownBy w9 sv.ownBlock)(V9:∀ k,v9.ownBlock=some k->sv.ownBlock=some k\/W.heap.size<=k):Ho w w1 w9 v9 new :=
 ⟨h9,⟨G9.os.trans h.c.os,G9.tape.trans h.c.tape,G9.output.trans h.c.output,Nat.le_trans h.c.size G9.size,fun k hk hn=>(G9.block k (Nat.lt_of_lt_of_le hk h.c.size) (fun e=>by rcases h.n k e.symm with e | e;exact hn e;omega)).trans (h.c.block k hk hn)⟩,fun k hk=>(V9 k hk).elim (h.n k) (fun e=>.inr (Nat.le_trans h.c.size e))⟩
theorem zk8 {is:List Ino}{bs:List Blk}(h:RD is bs)(l:List Int):((ptrL is l).map (·.2)).length<=l.length * 2:=by rw [List.length_map];exact zax h l
theorem zn4 (dx dy iv bv:Value)(xs ys:List Bool)(is:List Ino)(bs:List Blk)(w:World)(h:DR w dx dy iv bv xs ys is bs)(hX:RX xs ys is bs) :
  Calls Tryz.prog 41 #[.agg #[dx,dy,iv,bv]] w fun e w'=>∃ v,e=.returned v/\ROwns w' w.heap.size 3 v (ic (hadL is bs))/\Below w.heap.size w w':=by
 obtain ⟨a1,c1,a2,c2,a3,c3,a4,c4,rfl,rfl,rfl,rfl⟩:=h.form;have HL:Hid (is.length=8):=hX.r.hi;have HH:=hide h;have HL0:Hid (ROwns ((w.alloc (.cells #[.slice a1 xs.length c1,.slice a2 ys.length c2,.slice a3 is.length c3,.slice a4 bs.length c4] 35)).alloc (.cells #[] 3)) (w.heap.size+1) 3 (.slice (some ⟨w.heap.size+1,0,none⟩) 0 0) (ic [])/\Below w.heap.size w ((w.alloc (.cells #[.slice a1 xs.length c1,.slice a2 ys.length c2,.slice a3 is.length c3,.slice a4 bs.length c4] 35)).alloc (.cells #[] 3))/\AtC ((w.alloc (.cells #[.slice a1 xs.length c1,.slice a2 ys.length c2,.slice a3 is.length c3,.slice a4 bs.length c4] 35)).alloc (.cells #[] 3)) w.heap.size 35 #[.slice a1 xs.length c1,.slice a2 ys.length c2,.slice a3 is.length c3,.slice a4 bs.length c4]/\((w.alloc (.cells #[.slice a1 xs.length c1,.slice a2 ys.length c2,.slice a3 is.length c3,.slice a4 bs.length c4] 35)).alloc (.cells #[] 3)).heap.size=w.heap.size+2):=by
  have l0:=ROwns.lit0 (w.alloc (.cells #[.slice a1 xs.length c1,.slice a2 ys.length c2,.slice a3 is.length c3,.slice a4 bs.length c4] 35)) (w.heap.size+1) 3 (by simp);have e0:(w.alloc (.cells #[.slice a1 xs.length c1,.slice a2 ys.length c2,.slice a3 is.length c3,.slice a4 bs.length c4] 35)).heap.size=w.heap.size+1:=by simp
  rw [e0] at l0;exact ⟨l0,((Below.refl _ w).alloc nR _).alloc (by simp) _,(AtC.new w 35 _).alloc _,by simp⟩
 have CR:=hide (zav (.slice a1 xs.length c1) (.slice a2 ys.length c2) (.slice a3 is.length c3) (.slice a4 bs.length c4) xs ys is bs ((w.alloc (.cells #[.slice a1 xs.length c1,.slice a2 ys.length c2,.slice a3 is.length c3,.slice a4 bs.length c4] 35)).alloc (.cells #[] 3)) (h.below HL0.out.2.1 nR) hX.r);have z0:((w.alloc (.cells #[.slice a1 xs.length c1,.slice a2 ys.length c2,.slice a3 is.length c3,.slice a4 bs.length c4] 35)).alloc (.cells #[] 3)).cell? ⟨w.heap.size,0,none⟩=some (.slice a1 xs.length c1):=HL0.out.2.2.1.cell 0;have z1:((w.alloc (.cells #[.slice a1 xs.length c1,.slice a2 ys.length c2,.slice a3 is.length c3,.slice a4 bs.length c4] 35)).alloc (.cells #[] 3)).cell? ⟨w.heap.size,1,none⟩=some (.slice a2 ys.length c2):=HL0.out.2.2.1.cell 1;have z2:((w.alloc (.cells #[.slice a1 xs.length c1,.slice a2 ys.length c2,.slice a3 is.length c3,.slice a4 bs.length c4] 35)).alloc (.cells #[] 3)).cell? ⟨w.heap.size,2,none⟩=some (.slice a3 is.length c3):=HL0.out.2.2.1.cell 2;have z3:((w.alloc (.cells #[.slice a1 xs.length c1,.slice a2 ys.length c2,.slice a3 is.length c3,.slice a4 bs.length c4] 35)).alloc (.cells #[] 3)).cell? ⟨w.heap.size,3,none⟩=some (.slice a4 bs.length c4):=HL0.out.2.2.1.cell 3;have HRG:Hid (∀ i∈reachL is bs,1<=i/\i<=8):=fun i hi=>zes hi;have HR8:=hide (zah is bs);have HCU:Hid (∀ l,((ptrL is l).map (·.2)).length<=l.length * 2):=zk8 hX.r;have HP2:Hid (∀ i,(zak is i).length<=2):=zb2 hX.r;have HPR:Hid (∀ i,∀ p∈zak is i,0<=p/\p<=16):=fun i p hp=>hX.ptr hp;have HFIN:Hid (hadL is bs=(ptrL is (reachL is bs)).map (·.2)):=rfl;rw [HFIN.out];obtain ⟨RL,hRL⟩:∃ l,reachL is bs=l:=⟨_,rfl⟩
 rw [hRL] at CR HRG HR8 ⊢;clear h hX hRL HFIN;go_enter Tryz.func41,Tryz.ntmps41
 go_wp2_with fail
 refine CR.out.mono ?_;rintro e w1 ⟨rv,rfl,R1,B1⟩;have HB1:Hid (Below w.heap.size w w1/\AtC w1 w.heap.size 35 #[.slice a1 xs.length c1,.slice a2 ys.length c2,.slice a3 is.length c3,.slice a4 bs.length c4]/\w.heap.size+2<=w1.heap.size):=⟨HL0.out.2.1.trans (B1.mono HL0.out.2.1.size),HL0.out.2.2.1.over B1,by have:=B1.size;have:=HL0.out.2.2.2;omega⟩
 have HO0:Hid (Ho w w1 w1 (.slice (some ⟨w.heap.size+1,0,none⟩) 0 0) ((ptrL is (RL.take 0)).map (·.2))):=⟨by simpa [ptrL] using HL0.out.1.below B1 nR,Chg.refl _ _,fun k hk=>by simp [Value.ownBlock] at hk;exact .inl hk.symm⟩
 obtain ⟨ra,rc,rfl,-⟩:=R1.form;rw [zaf] at R1 ⊢;have HCR:Hid (∀ wr sv cur,Ho w w1 wr sv cur->RInts wr (.slice ra RL.length rc) RL):=fun wr sv cur hh=>(R1.of_heap fun k hk=>hh.c.block k (R1.lt k hk).2 (fun e=>by have h1:=(R1.lt k hk).1;rw [HL0.out.2.2.2] at h1;omega)).rints;have HOB:Hid (∀ wr sv cur,Ho w w1 wr sv cur->Below w.heap.size w wr/\AtC wr w.heap.size 35 #[.slice a1 xs.length c1,.slice a2 ys.length c2,.slice a3 is.length c3,.slice a4 bs.length c4]):=fun wr sv cur hh=>⟨HB1.out.1.trans (hh.c.below HB1.out.1.size (fun k hk=>by rw [hk];omega)),(hh.c.block _ HB1.out.2.1.lt (fun e=>by omega)).trans HB1.out.2.1⟩
 have r8:RL.length<=8:=HR8.out;clear R1 B1 CR HL0 z0 z1 z2 z3;go_wp2_with fail
 go_loopw [3,5] (fun sv kv wr=>∃ (s':Value) (q:Nat),s'=sv/\q<=RL.length/\kv=.int .i64 q/\Hid (Ho w w1 wr s' ((ptrL is (RL.take q)).map (·.2)))) (fun _ kv _=>RL.length - (intOf kv).toNat)
 case atStart=>exact ⟨_,0,rfl,Nat.zero_le _,rfl,HO0.out⟩
 case round =>
  obtain ⟨sv,q,hsv,hq,rfl,HQ⟩:=hrel;subst hsv;clear HO0;obtain ⟨wo,hwo⟩:∃ W,W=wr:=⟨_,rfl⟩
  subst hwo;have q0:(0:Int)<=(q:Int):=by omega
  by_cases hlt:q < RL.length
  rotate_left
  ·have q1:¬ ((q:Int) < (RL.length:Int)):=by omega
   go_wp2;go_ret;have:=HQ.out.o;rw [List.take_of_length_le (by omega)] at this;exact ⟨_,rfl,this.base_le (by omega),(HOB.out _ _ _ HQ.out).1⟩
  have q1:(q:Int) < (RL.length:Int):=by omega
  obtain ⟨ca,cc,ec,hcr⟩:=HCR.out _ _ _ HQ.out;simp only [Value.slice.injEq,true_and] at ec;obtain ⟨rfl,rfl⟩:=ec;obtain ⟨gr,orr,rfl,hgr,kr⟩:=hcr q hlt;have hrg:=HRG.out _ (List.getElem_mem hlt);have HSN:=hide (zfo is RL q hlt);have hcu:=HCU.out (RL.take q);rw [List.length_take] at hcu;obtain ⟨di,hdi⟩:∃ x,RL[q]=x:=⟨_,rfl⟩
  rw [hdi] at HSN;rw [hdi] at kr hrg;obtain ⟨j,rfl⟩:∃ j:Nat,di=(j:Int)+1:=⟨(di - 1).toNat,by omega⟩
  have hj8:j < 8:=by omega
  have hj:j < is.length:=by have:=HL.out;omega
  have j0:(0:Int)<=(j:Int):=by omega
  have j1:(j:Int) < (is.length:Int):=by omega
  have hwj:IntKind.i64.wrap (j:Int)=(j:Int):=wrap_small _ (by omega) (by omega);obtain ⟨g2,o2,sa,sc,rfl,hg2,y0,y1,y2,rr⟩:=DR.ino HH.out j hj;have hp2:=HP2.out ((j:Int)+1);have HPN:=hide (HPR.out ((j:Int)+1));unfold ptrI at HSN;obtain ⟨ps,hps⟩:∃ X,zak is ((j:Int)+1)=X:=⟨_,rfl⟩
  rw [hps] at y2 rr hp2 HSN HPN;obtain ⟨pa,pc',pe,hcp⟩:=rr;simp only [Value.slice.injEq,true_and] at pe;obtain ⟨rfl,rfl⟩:=pe;have HCP:=hide hcp;obtain ⟨kd,hkd⟩:∃ k,zab is ((j:Int)+1)=k:=⟨_,rfl⟩
  obtain ⟨ln,hln⟩:∃ k,is[j].2.1=k:=⟨_,rfl⟩
  rw [hkd] at y0;rw [hln] at y1;have HOW:=hide (HOB.out _ _ _ HQ.out);have HW:Hid (∀ W,Below wo.heap.size wo W->AtC W w.heap.size 35 #[.slice a1 xs.length c1,.slice a2 ys.length c2,.slice (some ⟨g2,o2,none⟩) is.length c3,.slice a4 bs.length c4]/\W.cell? ⟨gr,orr+q,none⟩=some (.int .i64 ((j:Int)+1))/\(W.cell? ⟨g2,o2+j * 3,none⟩=some (.int .i64 kd)/\W.cell? ⟨g2,o2+j * 3+1,none⟩=some (.int .i64 ln)/\W.cell? ⟨g2,o2+j * 3+2,none⟩=some (.slice sa ps.length sc))):=fun W b=>by
   have b0:=HOW.out.1.trans (b.mono HOW.out.1.size);exact ⟨HOW.out.2.over b,(b.cell (p:=⟨gr,orr+q,none⟩) hgr).trans kr,⟨(b0.cell (p:=⟨g2,o2+j * 3,none⟩) hg2).trans y0,(b0.cell (p:=⟨g2,o2+j * 3+1,none⟩) hg2).trans y1,(b0.cell (p:=⟨g2,o2+j * 3+2,none⟩) hg2).trans y2⟩⟩
  obtain ⟨c0,hc0⟩:∃ c,(ptrL is (RL.take q)).map (·.2)=c:=⟨_,rfl⟩
  have HC1:Hid ((ptrL is (RL.take (q+1))).map (·.2)=c0 ++ (ptrT ((j:Int)+1) ps).map (·.2)):=hide (by rw [HSN.out,List.map_append,hc0];rfl);rw [hc0] at HQ hcu;clear hdi kr y0 y1 y2 hkd hln hps hcp hc0 hcr HSN;go_upto_region 6 with fail
  go_cut [6] from 11 to 46 (fun pv wx=>∃ xb:Nat,pv=.pointer (some ⟨xb,0,none⟩)/\AtC wx xb 63 #[.int .i64 kd,.int .i64 ln,.slice sa ps.length sc]/\Below wo.heap.size wo wx/\wo.heap.size<=xb)
  case first =>
   refine zad (by kernel_rfl) [0,1,2,3,4,5,6,7,8,9] [10] [] (fun i=>match i with|0=>.const [] (.pointer (some ⟨w.heap.size,2,none⟩))|1=>.const [0] (.slice (some ⟨g2,o2,none⟩) is.length c3)|2=>.const [] (.slice (some ⟨gr,orr,none⟩) RL.length rc)|3=>.const [] (.int .i64 (q:Int))|4=>.const [2,3] (.pointer (some ⟨gr,orr+q,none⟩))|5=>.const [4] (.int .i64 ((j:Int)+1))|6=>.const [5] (.int .i64 (j:Int))|7=>.const [1,6] (.pointer (some ⟨g2,o2+j * 3,none⟩))|8=>.const [7] (.agg #[.int .i64 kd,.int .i64 ln,.slice sa ps.length sc])|9=>MkW 63 #[.int .i64 0,.int .i64 0,.slice none 0 0]|_=>.triv) (fun x=>⟨#[.agg #[.slice a1 xs.length c1,.slice a2 ys.length c2,.slice (some ⟨g2,o2,none⟩) is.length c3,.slice a4 bs.length c4],.pointer (some ⟨w.heap.size,0,none⟩),.slice none 0 0,sv,.slice (some ⟨gr,orr,none⟩) RL.length rc,.int .i64 ↑q,x 9,u7,.slice (some ⟨w.heap.size+1,0,none⟩) 0 0,.agg #[.slice a1 xs.length c1,.slice a2 ys.length c2,.slice (some ⟨g2,o2,none⟩) is.length c3,.slice a4 bs.length c4],.slice (some ⟨gr,orr,none⟩) RL.length rc,.int .i64 ↑q,.slice (some ⟨gr,orr,none⟩) RL.length rc,.int .i64 ↑RL.length,.bool true,u15,u16,x 0,x 1,x 2,x 3,x 4,x 5,x 6,x 7,x 8,u26,u27,u28,u29,u30,u31,u32,u33,u34,u35,u36,u37,u38,u39,u40,u41,u42,u43,u44,u45,u46,undef],[]⟩) (fun i=>match i with|0=>u17|1=>u18|2=>u19|3=>u20|4=>u21|5=>u22|6=>u23|7=>u24|8=>u25|9=>u6|_=>undef) rfl (zae (by kernel_rfl) (by kernel_rfl)) (by kernel_rfl) (by kernel_rfl) (by kernel_rfl) rfl ?_ ?_ (by intro q hq;cases hq)
   ·intro jo hj so x iw W hd hp K hK;simp only [List.mem_cons,List.not_mem_nil,or_false] at hj;rcases hj with rfl|rfl|rfl|rfl|rfl|rfl|rfl|rfl|rfl|rfl<;>refine wpOp_step (o:=_) rfl fun K' hK'=>?_<;>have HK:=hide (fun (v:Value) (W':World) h1 h2=>hK' _ _ (hK v W' h1 h2))<;>simp only [upd,Nat.reduceEqDiff,if_true,if_false] at HK
    ·clear hK hK' hp hd;go_simp;exact HK.out _ _ bR rfl
    ·have e0:x 0=.pointer (some ⟨w.heap.size,2,none⟩):=hp.post 0 (hd 0 mz0);have bw:=HW.out W (zaa hp.bel);have k0:W.cell? ⟨w.heap.size,2,none⟩=some (.slice (some ⟨g2,o2,none⟩) is.length c3):=bw.1.cell 2;clear bw;simp only [e0] at HK ⊢;go_simp;exact HK.out _ _ bR rfl
    ·clear hK hK' hp hd;go_simp;exact HK.out _ _ bR rfl
    ·clear hK hK' hp hd;go_simp;exact HK.out _ _ bR rfl
    ·have e2:x 2=.slice (some ⟨gr,orr,none⟩) RL.length rc:=hp.post 2 (hd 2 mz0);have e3:x 3=.int .i64 (q:Int):=hp.post 3 (hd 3 mz1);simp only [e2,e3] at HK ⊢;go_simp;exact HK.out _ _ bR rfl
    ·have e4:x 4=.pointer (some ⟨gr,orr+q,none⟩):=hp.post 4 (hd 4 mz0);have bw:=HW.out W (zaa hp.bel);have k0:=bw.2.1;clear bw;simp only [e4] at HK ⊢;go_simp;exact HK.out _ _ bR rfl
    ·have e5:x 5=.int .i64 ((j:Int)+1):=hp.post 5 (hd 5 mz0);simp only [e5] at HK ⊢;go_simp;exact HK.out _ _ bR rfl
    ·have e1:x 1=.slice (some ⟨g2,o2,none⟩) is.length c3:=hp.post 1 (hd 1 mz0);have e6:x 6=.int .i64 (j:Int):=hp.post 6 (hd 6 mz1);simp only [e1,e6] at HK ⊢;go_simp;exact HK.out _ _ bR rfl
    ·have e7:x 7=.pointer (some ⟨g2,o2+j * 3,none⟩):=hp.post 7 (hd 7 mz0);have bw:=HW.out W (zaa hp.bel);obtain ⟨k0,k1,k2⟩:=bw.2.2;clear bw;simp only [e7] at HK ⊢;go_simp;exact HK.out _ _ bR rfl
    ·clear hK hK' hp hd;go_simp;exact HK.out _ _ ((Below.refl _ W).alloc nR _) ⟨rfl,by simp,AtC.new W 63 _⟩
   ·intro x iw W hp;have e8:x 8=.agg #[.int .i64 kd,.int .i64 ln,.slice sa ps.length sc]:=hp.post 8 (by decide);obtain ⟨e9,z9,A9⟩:=hp.post 9 (by decide);have l9:=hp.lo 9 (by decide);have bel:=zaa hp.bel;have hb9:wo.heap.size<=(iw 9).1:=l9.1;have y0:W.cell? ⟨(iw 9).1,0,none⟩=some (.int .i64 0):=A9.cell 0;have y1:W.cell? ⟨(iw 9).1,1,none⟩=some (.int .i64 0):=A9.cell 1;have y2:W.cell? ⟨(iw 9).1,2,none⟩=some (.slice none 0 0):=A9.cell 2;have f0:=A9.frozen 0;have f1:=A9.frozen 1;have f2:=A9.frozen 2;have HFI:Hid (AtC W (iw 9).1 63 #[.int .i64 0,.int .i64 0,.slice none 0 0]/\Below wo.heap.size wo W/\wo.heap.size<=(iw 9).1):=⟨A9,bel,hb9⟩
    clear hp A9 bel l9 z9 hb9;simp only [e8,e9] at *;generalize (iw 9).1=bw at *;go_wp2_with fail
    try rw [List.filterMap_nil]
    try go_wp2_with fail
    go_meet
    exact ⟨bw,rfl,((HFI.out.1.set 0 _).set 1 _).set 2 _,((HFI.out.2.1.setCell (p:=⟨bw,0,none⟩) HFI.out.2.2 _).setCell (p:=⟨bw,1,none⟩) HFI.out.2.2 _).setCell (p:=⟨bw,2,none⟩) HFI.out.2.2 _,HFI.out.2.2⟩
  case rest =>
   obtain ⟨xb,rfl,hAx,hB2,hxb⟩:=hcut;have HX2:Hid (Ho w w1 wc sv (c0 ++ (ptrT ((j:Int)+1) (ps.take 0)).map (·.2))/\AtC wc xb 63 #[.int .i64 kd,.int .i64 ln,.slice sa ps.length sc]/\(∀ k,sv.ownBlock=some k->k≠xb)):=⟨by have:=HQ.out.below hB2;simpa [ptrT] using this,hAx,fun k hk e=>by have:=(HQ.out.o.lt k hk).2;omega⟩
   clear hAx hB2 hxb HW HQ HOW;go_wp2_with fail
   go_loopw [3,7] (fun sv kv wr=>∃ (s':Value) (t:Nat),s'=sv/\t<=ps.length/\kv=.int .i64 t/\Hid (Ho w w1 wr s' (c0 ++ (ptrT ((j:Int)+1) (ps.take t)).map (·.2))/\AtC wr xb 63 #[.int .i64 kd,.int .i64 ln,.slice sa ps.length sc]/\(∀ k,s'.ownBlock=some k->k≠xb))) (fun _ kv _=>ps.length - (intOf kv).toNat)
   case atStart=>exact ⟨_,0,rfl,Nat.zero_le _,rfl,HX2.out⟩
   case round =>
    obtain ⟨sv',t,hsv,ht,rfl,HT⟩:=hrel;subst hsv;clear HX2;have t0:(0:Int)<=(t:Int):=by omega
    have x7:wr.cell? ⟨xb,2,none⟩=some (.slice sa ps.length sc):=HT.out.2.1.cell 2;by_cases htl:t < ps.length
    rotate_left
    ·have t1:¬ ((t:Int) < (ps.length:Int)):=by omega
     have HE:Hid (Ho w w1 wr sv' ((ptrL is (RL.take (q+1))).map (·.2))):=by
      have:=HT.out.1;rw [List.take_of_length_le (show ps.length<=t by omega)] at this;show Ho _ _ _ _ _;rw [HC1.out];exact this
     go_wp2;go_roundw
     case rel=>exact ⟨sv',q+1,rfl,by omega,by go_num,HE.out⟩
     case measure=>simp [intOf];omega
    have t1:(t:Int) < (ps.length:Int):=by omega
    obtain ⟨gp,op,rfl,hgp,kp⟩:=HCP.out t htl
    replace kp:=((HOB.out _ _ _ HT.out.1).1.cell (p:=⟨gp,op+t,none⟩) hgp).trans kp
    have HTT:=hide (zck ((j:Int)+1) ps t htl);have htn:=zcr ((j:Int)+1) (ps.take t);rw [List.length_take] at htn;have hpr:=HPN.out _ (List.getElem_mem htl);obtain ⟨Pn,hPn⟩:∃ x,ps[t]=x:=⟨_,rfl⟩
    rw [hPn] at kp HTT hpr;clear hPn;by_cases hp0:0 < Pn
    rotate_left
    ·have HF:Hid (ptrT ((j:Int)+1) (ps.take (t+1))=ptrT ((j:Int)+1) (ps.take t)):=hide (by
      have:=HTT.out;have e:inB Pn 1 16=false:=by simp [inB];omega
      rw [e] at this;simpa using this)
     have hg:decide (Pn > 0)=false:=decide_eq_false hp0;go_wp2;go_roundw
     case rel=>exact ⟨sv',t+1,rfl,by omega,by go_num,by rw [HF.out];exact HT.out⟩
     case measure=>simp [intOf];omega
    have HF:Hid (ic (c0 ++ (ptrT ((j:Int)+1) (ps.take t)).map (·.2)) ++ [.int .i64 Pn]=ic (c0 ++ (ptrT ((j:Int)+1) (ps.take (t+1))).map (·.2))):=hide (by
     have:=HTT.out;have e:inB Pn 1 16=true:=by simp [inB];omega
     rw [e,if_pos rfl] at this;rw [this];simp [ic])
    have HAL:Hid (Ho w w1 (wr.alloc (.cells #[.int .i64 Pn] 3)) sv' (c0 ++ (ptrT ((j:Int)+1) (ps.take t)).map (·.2))/\AtC (wr.alloc (.cells #[.int .i64 Pn] 3)) xb 63 #[.int .i64 kd,.int .i64 ln,.slice (some ⟨gp,op,none⟩) ps.length sc]/\(wr.alloc (.cells #[.int .i64 Pn] 3)).cell? ⟨wr.heap.size,0,none⟩=some (.int .i64 Pn)/\w.heap.size+1<=(wr.alloc (.cells #[.int .i64 Pn] 3)).heap.size):=⟨HT.out.1.below ((Below.refl _ wr).alloc nR _),HT.out.2.1.alloc _,(AtC.new wr 3 #[.int .i64 Pn]).cell 0,by have:=HT.out.1.c.size;have:=HB1.out.2.2;simp;omega⟩
    have HTL:Hid ((ic (c0 ++ (ptrT ((j:Int)+1) (ps.take t)).map (·.2))).length<=100000000000):=by show _<=_;rw [zaf,List.length_append,List.length_map];omega
    have HXB:=hide (And.intro HT.out.2.2 HT.out.2.1.lt);clear HT HTT;go_wp2_with (at_builtin;refine wpList_step fun K' hK'=>?_;refine zal _ rfl (.tmp 39) (.tmp 45) 54 rfl (w.heap.size+1) 3 Tryz.u54 _ 8 Tryz.i3 rfl (by decide) sv' _ rfl HAL.out.1.o HAL.out.2.2.2 wr.heap.size (.int .i64 Pn) rfl HAL.out.2.2.1 rfl HTL.out ?_;intro v9 w9 T9 G9 V9;refine hK' _ _ ?_;rw [HF.out] at T9;have HR9:=hide (And.intro (HAL.out.1.app T9 G9 V9) (And.intro (HAL.out.2.1.grown G9 (fun e=>HXB.out.1 _ e rfl)) (fun k (hk:v9.ownBlock=some k)=>(V9 k hk).elim (HXB.out.1 k) (fun e=>by have:=HXB.out.2;simp at e;omega))));clear T9 G9 V9 hK')
    go_roundw
    case rel=>exact ⟨v9,t+1,rfl,by omega,by go_num,HR9.out⟩
    case measure=>simp [intOf];omega
namespace Kit
def MkMs (T:TypeId) (Z:Array Value) (n:Nat):Mk:=.val [] (fun lo _ w v=>v=.slice (some ⟨lo,0,none⟩) n n/\AtC w lo T Z) (fun _ _ _ _ _ h hb=>⟨h.1,h.2.over hb⟩)
def MkB2:Mk:=⟨[0,1],fun _ _ _ v x=>v=.agg #[x 0,x 1],fun _ _ _ _ _ _ h _=>h,fun _ _ _ _ x x' e h=>by rw [← e 0 (by decide),← e 1 (by decide)];exact h⟩
structure HadN (m:Nat) (l:List Int) (k:Nat) (h:List Bool):Prop where
 n:h.length=m
 f:∀ q:Nat,q < m->h.getD q false=decide (((q:Int)+1)∈l.take k)
theorem HadN.begin (n:Nat)(l:List Int):HadN n l 0 (List.replicate n false):=⟨List.length_replicate,fun q _=>by
 rw [show l.take 0=[] from rfl,List.getD_eq_getElem?_getD,List.getElem?_replicate];simp only [List.not_mem_nil,decide_false]
 split<;>rfl⟩
theorem HadN.next {n:Nat}{l:List Int}{k q:Nat}{h:List Bool}(H:HadN n l k h)(hk:k < l.length)(he:l[k]=(q:Int)+1)(hq:q < n):HadN n l (k+1) (h.set q true):=by
 refine ⟨by rw [List.length_set];exact H.n,fun r hr=>?_⟩;rw [zdb (by rw [H.n];exact hq),List.take_succ_eq_append_getElem hk,he];by_cases e:r=q
 ·subst e;rw [if_pos rfl];simp
 ·rw [if_neg e,H.f r hr];have:¬ ((r:Int)+1=(q:Int)+1):=by omega
  simp [this]
structure RB (w wr:World) (D:Array Value) (pb gB gI:Nat) (hB hI:List Bool):Prop where
 b:Below w.heap.size w wr
 d:AtC wr w.heap.size 35 D
 r:AtC wr (w.heap.size+1) 31 #[.slice none 0 0,.slice none 0 0]
 p:AtC wr pb 31 #[.slice (some ⟨gB,0,none⟩) 16 16,.slice (some ⟨gI,0,none⟩) 8 8]
 B:AtC wr gB 4 (hA hB)
 I:AtC wr gI 4 (hA hI)
structure RP (w:World) (pb gB gI:Nat):Prop where
 p:w.heap.size+1 < pb
 B:w.heap.size+1 < gB
 I:w.heap.size+1 < gI
 pB:pb≠gB
 pI:pb≠gI
 BI:gB≠gI
theorem RB.below {w wr wr':World}{D:Array Value}{pb gB gI:Nat}{hB hI:List Bool}(h:RB w wr D pb gB gI hB hI)(hb:Below wr.heap.size wr wr'):RB w wr' D pb gB gI hB hI:=⟨h.b.trans (hb.mono h.b.size),h.d.over hb,h.r.over hb,h.p.over hb,h.B.over hb,h.I.over hb⟩
theorem RB.setI {w wr:World}{D:Array Value}{pb gB gI:Nat}{hB hI:List Bool}(h:RB w wr D pb gB gI hB hI)(P:RP w pb gB gI)(k:Nat):RB w (wr.setCell ⟨gI,k,none⟩ (.bool true)) D pb gB gI hB (hI.set k true):=by
 have h1:=P.I;exact ⟨h.b.setCell (p:=⟨gI,k,none⟩) (by show w.heap.size<=gI;omega) _,h.d.other (by omega) _,h.r.other (by omega) _,h.p.other P.pI _,h.B.other P.BI _,by rw [← zgj];exact h.I.set k _⟩
theorem RB.setB {w wr:World}{D:Array Value}{pb gB gI:Nat}{hB hI:List Bool}(h:RB w wr D pb gB gI hB hI)(P:RP w pb gB gI)(k:Nat):RB w (wr.setCell ⟨gB,k,none⟩ (.bool true)) D pb gB gI (hB.set k true) hI:=by
 have h1:=P.B;exact ⟨h.b.setCell (p:=⟨gB,k,none⟩) (by show w.heap.size<=gB;omega) _,h.d.other (by omega) _,h.r.other (by omega) _,h.p.other P.pB _,by rw [← zgj];exact h.B.set k _,h.I.other (fun e=>P.BI e.symm) _⟩
theorem hA_own {w:World}{g n base:Nat}{h:List Bool}(ha:AtC w g 4 (hA h))(hn:h.length=n)(hm:n<=maxLen)(hb:base<=g):ROwns w base 4 (.slice (some ⟨g,0,none⟩) n n) (fc h):=by
 subst hn;have hs:(hA h).size=h.length * 1:=by simp [hA]
 have hl:(fc h).length=h.length:=by simp [fc]
 show w.ownsRow base 4 1 (.slice (some ⟨g,0,none⟩) h.length h.length) (fc h).length (fc h);rw [hl];refine ⟨by rw [hl];omega,.inr ⟨g,h.length,hA h,rfl,hb,ha,Nat.le_refl _,hm,hs,?_⟩⟩;rw [List.take_of_length_le (by simp [hA])];simp [hA,fc]
theorem zho {w:World}{a b:Nat}{S T:TypeId}{xs ys:Array Value}(h:AtC w a S xs)(h':AtC w b T ys)(hn:xs.size≠ys.size):a≠b:=fun e=>by
 subst e;have:=h.symm.trans h';simp only [Option.some.injEq,Obj.cells.injEq] at this;exact hn (by rw [this.1])
end Kit
theorem zbz {α:Type}{l:List α}{k:Nat}(d:α)(h:k < l.length):l.getD k d=l[k]:=by simp [h]
theorem zcb {is:List Ino}{l:List Int}{s:Pr}(h:s∈ptrL is l):s.1∈l/\1<=s.2/\s.2<=16:=by
 obtain ⟨i,hi,hs⟩:=List.mem_flatMap.1 h;unfold ptrI at hs;obtain ⟨p,hp,rfl⟩:=List.mem_map.1 hs;have:=zao (List.mem_filter.1 hp).2;exact ⟨hi,this⟩
def fI (is:List Ino) (bs:List Blk):List Bool:=(List.range 8).map fun j:Nat=>(reachL is bs).contains ((j:Int)+1)
def fB (is:List Ino) (bs:List Blk):List Bool:=(List.range 16).map fun p:Nat=>(hadL is bs).contains ((p:Int)+1)
theorem zn5 {n:Nat}{l:List Int}{k:Nat}{h:List Bool}(H:HadN n l k h)(hk:l.length<=k):h=(List.range n).map fun q:Nat=>l.contains ((q:Int)+1):=by
 apply List.ext_getElem (by rw [H.n];simp);intro q h1 h2;have hq:q < n:=by rw [← H.n];exact h1
 have:=H.f q hq;rw [List.take_of_length_le hk,zbz false h1] at this;rw [this];simp
theorem zi6 (dx dy iv bv:Value)(xs ys:List Bool)(is:List Ino)(bs:List Blk)(w:World)(h:DR w dx dy iv bv xs ys is bs)(hX:RX xs ys is bs) :
  Calls Tryz.prog 57 #[.agg #[dx,dy,iv,bv]] w fun e w'=>∃ u v,e=.returned (.agg #[u,v])/\Two w' w.heap.size u v (fB is bs) (fI is bs)/\Below w.heap.size w w':=by
 obtain ⟨a1,c1,a2,c2,a3,c3,a4,c4,rfl,rfl,rfl,rfl⟩:=h.form;have CR:=hide (fun (W:World) (hb:Below w.heap.size w W)=>za2 (.slice a1 xs.length c1) (.slice a2 ys.length c2) (.slice a3 is.length c3) (.slice a4 bs.length c4) xs ys is bs W (h.below hb nR) hX.r);have CP:=hide (fun (W:World) (hb:Below w.heap.size w W)=>zfp (.slice a1 xs.length c1) (.slice a2 ys.length c2) (.slice a3 is.length c3) (.slice a4 bs.length c4) xs ys is bs W (h.below hb nR) hX.r);have HR8:=hide (zah is bs);have HP16:Hid ((ptrL is (reachL is bs)).length<=16):=by show _<=_;have h1:=zax hX.r (reachL is bs);have h2:=zah is bs;omega
 obtain ⟨W0,hW0⟩:∃ W,((w.alloc (.cells #[.slice a1 xs.length c1,.slice a2 ys.length c2,.slice a3 is.length c3,.slice a4 bs.length c4] 35)).alloc (.cells #[.slice none 0 0,.slice none 0 0] 31))=W:=⟨_,rfl⟩
 have HA:Hid (AtC W0 w.heap.size 35 #[.slice a1 xs.length c1,.slice a2 ys.length c2,.slice a3 is.length c3,.slice a4 bs.length c4]/\AtC W0 (w.heap.size+1) 31 #[.slice none 0 0,.slice none 0 0]/\Below w.heap.size w W0/\W0.heap.size=w.heap.size+2):=by
  rw [← hW0];have a:=AtC.new (w.alloc (.cells #[.slice a1 xs.length c1,.slice a2 ys.length c2,.slice a3 is.length c3,.slice a4 bs.length c4] 35)) 31 #[.slice none 0 0,.slice none 0 0];rw [World.size_alloc] at a;exact ⟨(AtC.new w 35 _).alloc _,a,((Below.refl _ w).alloc nR _).alloc (by simp) _,by simp⟩
 have hm8:∀ W:World,(Instr.makeSlice 22 (.int .i64 8) (.int .i64 8)).run Tryz.prog W=.ok (.slice (some ⟨W.heap.size,0,none⟩) 8 8) (W.alloc (.cells (hA (List.replicate 8 false)) 4)):=make8;have hm16:∀ W:World,(Instr.makeSlice 22 (.int .i64 16) (.int .i64 16)).run Tryz.prog W=.ok (.slice (some ⟨W.heap.size,0,none⟩) 16 16) (W.alloc (.cells (hA (List.replicate 16 false)) 4)):=make16;clear h hX;go_enter Tryz.func57,Tryz.ntmps57
 go_upto_region 1 with fail
 clear hW0;go_cut [3] from 8 to 37 (fun pv wx=>∃ pb gB gI:Nat,pv=.pointer (some ⟨pb,0,none⟩)/\RP w pb gB gI/\RB w wx #[.slice a1 xs.length c1,.slice a2 ys.length c2,.slice a3 is.length c3,.slice a4 bs.length c4] pb gB gI (List.replicate 16 false) (List.replicate 8 false))
 case first =>
  refine zad (by kernel_rfl) [0,1,2,3] [4] [] (fun i=>match i with|0=>MkMs 4 (hA (List.replicate 16 false)) 16|1=>MkMs 4 (hA (List.replicate 8 false)) 8|2=>MkB2|3=>MkW 31 #[.slice none 0 0,.slice none 0 0]|_=>.triv) (fun x=>⟨#[.agg #[.slice a1 xs.length c1,.slice a2 ys.length c2,.slice a3 is.length c3,.slice a4 bs.length c4],.pointer (some ⟨w.heap.size,0,none⟩),.pointer (some ⟨w.heap.size+1,0,none⟩),x 3,undef,undef,undef,undef,x 0,x 1,x 2,undef,undef,undef,undef,undef,undef,undef,undef,undef,undef,undef,undef,undef,undef,undef,undef,undef,undef,undef,undef,undef,undef,undef,undef,undef,undef,undef,undef],[]⟩) (fun i=>match i with|0=>undef|1=>undef|2=>undef|3=>undef|_=>undef) rfl (zae (by kernel_rfl) (by kernel_rfl)) (by kernel_rfl) (by kernel_rfl) (by kernel_rfl) rfl ?_ ?_ (by intro q hq;cases hq)
  ·intro jo hj so x iw W hd hp K hK;simp only [List.mem_cons,List.not_mem_nil,or_false] at hj;rcases hj with rfl|rfl|rfl|rfl<;>refine wpOp_step (o:=_) rfl fun K' hK'=>?_<;>have HK:=hide (fun (v:Value) (W':World) h1 h2=>hK' _ _ (hK v W' h1 h2))<;>simp only [upd,Nat.reduceEqDiff,if_true,if_false] at HK
   ·clear hK hK' hp hd;go_simp;exact HK.out _ _ ((Below.refl _ W).alloc nR _) ⟨rfl,AtC.new W 4 _⟩
   ·clear hK hK' hp hd;go_simp;exact HK.out _ _ ((Below.refl _ W).alloc nR _) ⟨rfl,AtC.new W 4 _⟩
   ·have e0:∃ g,x 0=.slice (some ⟨g,0,none⟩) 16 16:=⟨_,(hp.post 0 (hd 0 mz0)).1⟩
    have e1:∃ g,x 1=.slice (some ⟨g,0,none⟩) 8 8:=⟨_,(hp.post 1 (hd 1 mz1)).1⟩
    obtain ⟨ga,e0⟩:=e0;obtain ⟨gb,e1⟩:=e1;have HE:Hid (x 0=.slice (some ⟨ga,0,none⟩) 16 16/\x 1=.slice (some ⟨gb,0,none⟩) 8 8):=⟨e0,e1⟩
    simp only [e0,e1] at HK ⊢;clear e0 e1;go_simp;refine HK.out _ _ bR ?_;show _=Value.agg #[_,_];rw [show upd x 2 _ 0=x 0 from rfl,show upd x 2 _ 1=x 1 from rfl,HE.out.1,HE.out.2]
   ·clear hK hK' hp hd;go_simp;exact HK.out _ _ ((Below.refl _ W).alloc nR _) ⟨rfl,by simp,AtC.new W 31 _⟩
  ·intro x iw W hp;obtain ⟨e0,A0⟩:=hp.post 0 (by decide);obtain ⟨e1,A1⟩:=hp.post 1 (by decide);have e2:x 2=.agg #[x 0,x 1]:=hp.post 2 (by decide);obtain ⟨e3,z3,A3⟩:=hp.post 3 (by decide);have l0:=(hp.lo 0 (by decide)).1;have l1:=(hp.lo 1 (by decide)).1;have l3:=(hp.lo 3 (by decide)).1;have bel:=zaa hp.bel;rw [e0,e1] at e2;have hsz:w.heap.size+1 < W0.drew.heap.size:=by have:=HA.out.2.2.2;show w.heap.size+1 < W0.heap.size;omega
   have HFI:Hid (RP w (iw 3).1 (iw 0).1 (iw 1).1/\AtC W (iw 0).1 4 (hA (List.replicate 16 false))/\AtC W (iw 1).1 4 (hA (List.replicate 8 false))/\AtC W (iw 3).1 31 #[.slice none 0 0,.slice none 0 0]/\Below W0.heap.size W0 W):=⟨⟨by omega,by omega,by omega,zho A3 A0 (by decide),zho A3 A1 (by decide),zho A0 A1 (by decide)⟩,A0,A1,A3,bel⟩
   have y0:W.cell? ⟨(iw 3).1,0,none⟩=some (.slice none 0 0):=A3.cell 0;have y1:W.cell? ⟨(iw 3).1,1,none⟩=some (.slice none 0 0):=A3.cell 1;have f0:=A3.frozen 0;have f1:=A3.frozen 1;clear hp A0 A1 A3 z3 l0 l1 l3 bel hsz;simp only [e0,e1,e2,e3] at *;generalize (iw 3).1=pb at *;generalize (iw 0).1=gB at *;generalize (iw 1).1=gI at *;go_wp2_with fail
   try rw [List.filterMap_nil]
   try go_wp2_with fail
   go_meet
   obtain ⟨P,AB,AI,AP,bb⟩:=HFI.out;have hP1:=P.p;have b2:=HA.out.2.2.1.trans (bb.mono HA.out.2.2.1.size);exact ⟨pb,gB,gI,rfl,P,(b2.setCell (p:=⟨pb,0,none⟩) (by show w.heap.size<=pb;omega) _).setCell (p:=⟨pb,1,none⟩) (by show w.heap.size<=pb;omega) _,((HA.out.1.over bb).other (by omega) _).other (by omega) _,((HA.out.2.1.over bb).other (by omega) _).other (by omega) _,(AP.set 0 _).set 1 _,(AB.other (fun e=>P.pB e.symm) _).other (fun e=>P.pB e.symm) _,(AI.other (fun e=>P.pI e.symm) _).other (fun e=>P.pI e.symm) _⟩
 case rest =>
  obtain ⟨pb,gB,gI,rfl,hP,hRB⟩:=hcut;have HP:=hide hP;have HR0:=hide hRB;clear hP hRB hm8 hm16 HA;obtain ⟨z0,z1,z2,z3⟩:=AtC.four HR0.out.d;have CR1:=hide (CR.out wc HR0.out.b);go_wp2_with fail
  refine CR1.out.mono ?_;rintro e w1 ⟨rv,rfl,R1,B1⟩;obtain ⟨ra,rc,rfl,-⟩:=R1.form;rw [zaf] at R1 ⊢;have HR1:Hid (RB w w1 #[.slice a1 xs.length c1,.slice a2 ys.length c2,.slice a3 is.length c3,.slice a4 bs.length c4] pb gB gI (List.replicate 16 false) (List.replicate 8 false)):=HR0.out.below B1;have HRI:Hid (∀ wr,Chg (fun k=>k=gI) w1 wr->RInts wr (.slice ra (reachL is bs).length rc) (reachL is bs)):=fun wr c=>(R1.of_heap fun k hk=>c.block k (R1.lt k hk).2 (fun e=>by have h1:=(R1.lt k hk).1;have h2:=HR0.out.I.lt;omega)).rints;clear R1 B1 CR1 CR z0 z1 z2 z3 HR0;have HRG:Hid (∀ i∈reachL is bs,1<=i/\i<=8):=fun i hi=>zes hi;have HFI:Hid (∀ k h,HadN 8 (reachL is bs) k h->(reachL is bs).length<=k->h=fI is bs):=fun k h H hk=>zn5 H hk;obtain ⟨RL,hRL⟩:∃ l,reachL is bs=l:=⟨_,rfl⟩
  rw [hRL] at HRI HRG HFI HR8 ⊢;clear hRL;have r8:RL.length<=8:=HR8.out;go_wp2_with fail
  go_loopw [14] (fun kv wr=>∃ (q:Nat) (hI:List Bool),q<=RL.length/\kv=.int .i64 q/\Hid (RB w wr #[.slice a1 xs.length c1,.slice a2 ys.length c2,.slice a3 is.length c3,.slice a4 bs.length c4] pb gB gI (List.replicate 16 false) hI/\HadN 8 RL q hI/\Chg (fun k=>k=gI) w1 wr)) (fun kv _=>RL.length - (intOf kv).toNat)
  case atStart=>exact ⟨0,_,Nat.zero_le _,rfl,HR1.out,HadN.begin 8 RL,Chg.refl _ _⟩
  case round =>
   obtain ⟨q,hI,hq,rfl,HQ⟩:=hrel;clear HR1;have q0:(0:Int)<=(q:Int):=by omega
   by_cases hlt:q < RL.length
   rotate_left
   ·have q1:¬ ((q:Int) < (RL.length:Int)):=by omega
    have hIe:=HFI.out q hI HQ.out.2.1 (by omega);subst hIe;have HQ1:=hide HQ.out.1;clear HQ HFI HRI HRG;obtain ⟨z0,z1,z2,z3⟩:=AtC.four HQ1.out.d;have CP1:=hide (CP.out wr HQ1.out.b);obtain ⟨wl,hwl⟩:∃ W,W=wr:=⟨_,rfl⟩
    subst hwl;go_wp2_with fail
    refine CP1.out.mono ?_;rintro e w2 ⟨pv,rfl,P2,B2⟩;obtain ⟨pa,pc',rfl,-⟩:=P2.form;have HR2:Hid (RB w w2 #[.slice a1 xs.length c1,.slice a2 ys.length c2,.slice a3 is.length c3,.slice a4 bs.length c4] pb gB gI (List.replicate 16 false) (fI is bs)):=HQ1.out.below B2;have HPI:Hid (∀ wr,Chg (fun k=>k=gB) w2 wr->RPr wr (.slice pa (ptrL is (reachL is bs)).length pc') (ptrL is (reachL is bs))):=fun wr c=>(P2.of_heap fun k hk=>c.block k (P2.lt k hk).2 (fun e=>by have h1:=(P2.lt k hk).1;have h2:=HQ1.out.B.lt;omega)).rpr;clear P2 B2 CP1 CP z0 z1 z2 z3 HQ1;have HPG:Hid (∀ s∈ptrL is (reachL is bs),1<=s.2/\s.2<=16):=fun s hs=>(zcb hs).2;have HFB:Hid (∀ k h,HadN 16 ((ptrL is (reachL is bs)).map (·.2)) k h->((ptrL is (reachL is bs)).map (·.2)).length<=k->h=fB is bs):=fun k h H hk=>zn5 H hk;obtain ⟨PL,hPL⟩:∃ l,ptrL is (reachL is bs)=l:=⟨_,rfl⟩
    rw [hPL] at HPI HPG HFB HP16 ⊢;clear hPL;have p16:PL.length<=16:=HP16.out;go_wp2_with fail
    go_loopw [27] (fun kv wr=>∃ (t:Nat) (hB:List Bool),t<=PL.length/\kv=.int .i64 t/\Hid (RB w wr #[.slice a1 xs.length c1,.slice a2 ys.length c2,.slice a3 is.length c3,.slice a4 bs.length c4] pb gB gI hB (fI is bs)/\HadN 16 (PL.map (·.2)) t hB/\Chg (fun k=>k=gB) w2 wr)) (fun kv _=>PL.length - (intOf kv).toNat)
    case atStart=>exact ⟨0,_,Nat.zero_le _,rfl,HR2.out,HadN.begin 16 _,Chg.refl _ _⟩
    case round =>
     obtain ⟨t,hB,ht,rfl,HT⟩:=hrel;clear HR2;have t0:(0:Int)<=(t:Int):=by omega
     have p0:wr.cell? ⟨pb,0,none⟩=some (.slice (some ⟨gB,0,none⟩) 16 16):=HT.out.1.p.cell 0;have p1:wr.cell? ⟨pb,1,none⟩=some (.slice (some ⟨gI,0,none⟩) 8 8):=HT.out.1.p.cell 1;by_cases htl:t < PL.length
     rotate_left
     ·have t1:¬ ((t:Int) < (PL.length:Int)):=by omega
      have hBe:=HFB.out t hB HT.out.2.1 (by rw [List.length_map];omega);subst hBe;have r0:wr.cell? ⟨w.heap.size+1,0,none⟩=some (.slice none 0 0):=HT.out.1.r.cell 0;have r1:wr.cell? ⟨w.heap.size+1,1,none⟩=some (.slice none 0 0):=HT.out.1.r.cell 1;have f0:=HT.out.1.r.frozen 0;have f1:=HT.out.1.r.frozen 1;have hpn:¬ w.heap.size+1=pb:=by have:=HP.out.p;omega
      have HEND:Hid (Two ((wr.setCell ⟨w.heap.size+1,0,none⟩ (.slice (some ⟨gB,0,none⟩) 16 16)).setCell ⟨w.heap.size+1,1,none⟩ (.slice (some ⟨gI,0,none⟩) 8 8)) w.heap.size (.slice (some ⟨gB,0,none⟩) 16 16) (.slice (some ⟨gI,0,none⟩) 8 8) (fB is bs) (fI is bs)/\Below w.heap.size w ((wr.setCell ⟨w.heap.size+1,0,none⟩ (.slice (some ⟨gB,0,none⟩) 16 16)).setCell ⟨w.heap.size+1,1,none⟩ (.slice (some ⟨gI,0,none⟩) 8 8))):=by
       have hB1:=HP.out.B;have hI1:=HP.out.I;exact ⟨⟨hA_own ((HT.out.1.B.other (by omega) _).other (by omega) _) (by simp [fB]) (by decide) (by omega),hA_own ((HT.out.1.I.other (by omega) _).other (by omega) _) (by simp [fI]) (by decide) (by omega),fun k hk hk2=>by simp only [Value.ownBlock,Option.some.injEq] at hk hk2;exact HP.out.BI (by omega)⟩,(HT.out.1.b.setCell (p:=⟨w.heap.size+1,0,none⟩) (by show w.heap.size<=w.heap.size+1;omega) _).setCell (p:=⟨w.heap.size+1,1,none⟩) (by show w.heap.size<=w.heap.size+1;omega) _⟩
      go_wp2;refine bodyPost_ret (v:=.agg #[.slice (some ⟨gB,0,none⟩) 16 16,.slice (some ⟨gI,0,none⟩) 8 8]) (by simp [results,go_sem,r0,r1]) rfl ⟨_,_,rfl,HEND.out⟩
     have t1:(t:Int) < (PL.length:Int):=by omega
     obtain ⟨ca,cc,ec,-,hcs⟩:=HPI.out wr HT.out.2.2;simp only [Value.slice.injEq,true_and] at ec;obtain ⟨rfl,rfl⟩:=ec;obtain ⟨gs,os,rfl,hgs,ks0,ks1⟩:=hcs t htl;have hpg:=HPG.out _ (List.getElem_mem htl);have hmk:(PL.map (·.2))[t]'(by rw [List.length_map];exact htl)=(PL[t]).2:=List.getElem_map _;obtain ⟨⟨io,pn⟩,hs⟩:∃ X,PL[t]=X:=⟨_,rfl⟩
     rw [hs] at ks0 ks1 hpg hmk;simp only at ks0 ks1 hpg hmk;obtain ⟨p,rfl⟩:∃ p:Nat,pn=(p:Int)+1:=⟨(pn - 1).toNat,by omega⟩
     have pp0:(0:Int)<=(p:Int):=by omega
     have pp1:(p:Int) < 16:=by omega
     have hwp:IntKind.i64.wrap (p:Int)=(p:Int):=wrap_small _ (by omega) (by omega);have hp16:p < 16:=by omega
     have hgw:¬ gs=wr.heap.size:=by omega
     have hpw:¬ pb=wr.heap.size:=by have:=HT.out.1.p.lt;omega
     have hbw:¬ gB=wr.heap.size:=by have:=HT.out.1.B.lt;omega
     have HA2:Hid (RB w (wr.alloc (.cells #[.int .i64 io,.int .i64 ((p:Int)+1)] 127)) #[.slice a1 xs.length c1,.slice a2 ys.length c2,.slice a3 is.length c3,.slice a4 bs.length c4] pb gB gI hB (fI is bs)):=HT.out.1.below ((Below.refl _ wr).alloc nR _);have m0:(wr.alloc (.cells #[.int .i64 io,.int .i64 ((p:Int)+1)] 127)).cell? ⟨pb,0,none⟩=some (.slice (some ⟨gB,0,none⟩) 16 16):=HA2.out.p.cell 0;have kb:=(HA2.out.B.cell p).trans (zdz hB p (by rw [HT.out.2.1.n];exact hp16));have fb:=HA2.out.B.frozen p;obtain ⟨bb,hbb⟩:∃ b,hB.getD p false=b:=⟨_,rfl⟩
     rw [hbb] at kb;have HN:Hid (RB w ((wr.alloc (.cells #[.int .i64 io,.int .i64 ((p:Int)+1)] 127)).setCell ⟨gB,p,none⟩ (.bool true)) #[.slice a1 xs.length c1,.slice a2 ys.length c2,.slice a3 is.length c3,.slice a4 bs.length c4] pb gB gI (hB.set p true) (fI is bs)/\HadN 16 (PL.map (·.2)) (t+1) (hB.set p true)/\Chg (fun k=>k=gB) w2 ((wr.alloc (.cells #[.int .i64 io,.int .i64 ((p:Int)+1)] 127)).setCell ⟨gB,p,none⟩ (.bool true))):=⟨HA2.out.setB HP.out p,HT.out.2.1.next (by rw [List.length_map];exact htl) hmk hp16,(HT.out.2.2.trans (Chg.of_below ((Below.refl _ wr).alloc nR _))).setCell rfl _⟩
     clear hcs hs hmk hbb HT;go_wp2;go_roundw
     case rel=>exact ⟨t+1,hB.set p true,by omega,by go_num,HN.out⟩
     case measure=>simp [intOf];omega
   have q1:(q:Int) < (RL.length:Int):=by omega
   obtain ⟨ca,cc,ec,hcr⟩:=HRI.out wr HQ.out.2.2;simp only [Value.slice.injEq,true_and] at ec;obtain ⟨rfl,rfl⟩:=ec;obtain ⟨gr,orr,rfl,hgr,kr⟩:=hcr q hlt;have hrg:=HRG.out _ (List.getElem_mem hlt);obtain ⟨di,hdi⟩:∃ x,RL[q]=x:=⟨_,rfl⟩
   rw [hdi] at kr hrg;obtain ⟨j,rfl⟩:∃ j:Nat,di=(j:Int)+1:=⟨(di - 1).toNat,by omega⟩
   have j0:(0:Int)<=(j:Int):=by omega
   have j1:(j:Int) < 8:=by omega
   have hwj:IntKind.i64.wrap (j:Int)=(j:Int):=wrap_small _ (by omega) (by omega);have hj8:j < 8:=by omega
   have p1:wr.cell? ⟨pb,1,none⟩=some (.slice (some ⟨gI,0,none⟩) 8 8):=HQ.out.1.p.cell 1;have kb:=(HQ.out.1.I.cell j).trans (zdz hI j (by rw [HQ.out.2.1.n];exact hj8));have fb:=HQ.out.1.I.frozen j;obtain ⟨bb,hbb⟩:∃ b,hI.getD j false=b:=⟨_,rfl⟩
   rw [hbb] at kb;have HN:Hid (RB w (wr.setCell ⟨gI,j,none⟩ (.bool true)) #[.slice a1 xs.length c1,.slice a2 ys.length c2,.slice a3 is.length c3,.slice a4 bs.length c4] pb gB gI (List.replicate 16 false) (hI.set j true)/\HadN 8 RL (q+1) (hI.set j true)/\Chg (fun k=>k=gI) w1 (wr.setCell ⟨gI,j,none⟩ (.bool true))):=⟨HQ.out.1.setI HP.out j,HQ.out.2.1.next hlt hdi hj8,HQ.out.2.2.setCell rfl _⟩
   clear hcr hdi hbb HQ;go_wp2;go_roundw
   case rel=>exact ⟨q+1,hI.set j true,by omega,by go_num,HN.out⟩
   case measure=>simp [intOf];omega
theorem Kit.DL.bound {w:World}{S:Nat->Prop}{u v iv bv:Value}{ti tb:List V3}{xs ys:List Bool}{is:List Ino}{bs:List Blk}(h:DL w S u v iv bv ti tb xs ys is bs):DL w (fun k=>S k/\k < w.heap.size) u v iv bv ti tb xs ys is bs:=by
 obtain ⟨S1,S2,S3,h1,h2,h3,h4,h5,h6,h7⟩:=h;refine ⟨fun k=>S1 k/\k < w.heap.size,fun k=>S2 k/\k < w.heap.size,fun k=>S3 k/\k < w.heap.size,h1,fun k hk=>⟨h2 k hk,hk.elim (fun e=>(h1.a.lt k e).2) (fun e=>(h1.b.lt k e).2)⟩,h3.bound,h4.bound,fun k hk=>⟨fun e=>(h5 k hk.1).1 e.1,fun e=>(h5 k hk.1).2 e.1⟩,fun k hk e=>h6 k hk.1 e.1,fun k hk=>?_⟩;rcases hk with hk | hk | hk
 ·exact ⟨h7 k (.inl hk.1),hk.2⟩
 ·exact ⟨h7 k (.inr (.inl hk.1)),hk.2⟩
 ·exact ⟨h7 k (.inr (.inr hk.1)),hk.2⟩
theorem zk9 (bs:List Blk)(st:PSt)(j k:Nat)(hj:j < st.1.length)(hk:k < st.1[j].2.2.length):stepP bs st j k=if inB st.1[j].2.2[k] 1 16=true then (if (zgl bs st.1[j].1 st.1[j].2.2[k] || st.2.contains st.1[j].2.2[k])=true then (st.1.set j (st.1[j].1,st.1[j].2.1,st.1[j].2.2.set k 0),st.2) else (st.1,st.2 ++ [st.1[j].2.2[k]])) else st:=by
 unfold stepP;rw [zap hj,zap hk]
structure HadS (sn:List Int) (hl:List Bool):Prop where
 len:hl.length=16
 at_:∀ q:Nat,q < 16->hl.getD q false=sn.contains ((q:Int)+1)
theorem HadS.begin:HadS [] (List.replicate 16 false):=⟨List.length_replicate,fun q hq=>by rw [zbz _ (by simpa using hq),List.getElem_replicate];rfl⟩
theorem HadS.next {sn:List Int}{hl:List Bool}(h:HadS sn hl)(q:Nat)(hq:q < 16):HadS (sn ++ [(q:Int)+1]) (hl.set q true):=by
 refine ⟨by rw [List.length_set];exact h.len,fun p hp=>?_⟩;rw [zdb (by rw [h.len];exact hq),h.at_ p hp,List.contains_append];by_cases e:p=q
 ·subst e;rw [if_pos rfl];simp
 ·rw [if_neg e];have:¬ (p:Int)+1=(q:Int)+1:=by omega
  simp [this]
structure PS (w wr:World) (B b n0:Nat) (D:Array Value) (u v iv bv:Value) (ti tb:List V3) (xs ys:List Bool) (bs:List Blk) (lv:Value) (L:List Int) (st:PSt):Prop where
 d:DL wr (fun k=>(B<=k/\k≠b)/\k < n0) u v iv bv ti tb xs ys st.1 bs
 a:AtC wr b 121 D
 h:∃ hl,AtC wr n0 138 (hA hl)/\HadS st.2 hl
 l:ROwns wr (n0+1) 3 lv (ic L)
 c:Chg (fun k=>B<=k/\k≠b) w wr
 bn:b < n0
 Bn:B<=n0
namespace PS
variable {w wr wr' : World} {B b n0 : Nat} {D : Array Value} {u v iv bv : Value} {ti tb : List V3} {xs ys : List Bool} {bs : List Blk} {lv : Value} {L : List Int} {st : PSt}
theorem below (h:PS w wr B b n0 D u v iv bv ti tb xs ys bs lv L st)(hb:Below wr.heap.size wr wr'):PS w wr' B b n0 D u v iv bv ti tb xs ys bs lv L st:=by
 obtain ⟨hl,h1,h2⟩:=h.h;exact ⟨h.d.over hb,h.a.over hb,⟨hl,h1.over hb,h2⟩,h.l.below hb nR,h.c.trans (Chg.of_below hb),h.bn,h.Bn⟩
theorem ptr (h:PS w wr B b n0 D u v iv bv ti tb xs ys bs lv L st)(j:Nat)(hj:j < st.1.length){g c:Nat}(hv:(ti.getD j zI3).2.2=.slice (some ⟨g,0,none⟩) st.1[j].2.2.length c)(k:Nat) :
  PS w (wr.setCell ⟨g,k,none⟩ (.int .i64 0)) B b n0 D u v iv bv ti tb xs ys bs lv L (st.1.set j (st.1[j].1,st.1[j].2.1,st.1[j].2.2.set k 0),st.2):=by
 obtain ⟨hl,h1,h2⟩:=h.h;obtain ⟨g',c',-,-,-,-,-,-,-,ro,hS⟩:=h.d.ino j hj;have hg:=hS g (by rw [hv];rfl);obtain ⟨q1,q2⟩:=h.d.setPtr j hj hv k 0;exact ⟨q1,h.a.other (fun e=>hg.1.2 e.symm) _,⟨hl,h1.other (by omega) _,h2⟩,h.l.setCell_other (by omega) _,h.c.setCell hg.1 _,h.bn,h.Bn⟩
theorem cellP (h:PS w wr B b n0 D u v iv bv ti tb xs ys bs lv L st)(j:Nat)(hj:j < st.1.length){g c:Nat}(hv:(ti.getD j zI3).2.2=.slice (some ⟨g,0,none⟩) st.1[j].2.2.length c)(k:Nat)(hk:k < st.1[j].2.2.length) :
  wr.cell? ⟨g,k,none⟩=some (.int .i64 st.1[j].2.2[k])/\wr.frozen? ⟨g,k,none⟩=false/\g < wr.heap.size:=by
 obtain ⟨-,-,-,-,-,-,-,-,-,ro,-⟩:=h.d.ino j hj;rw [hv] at ro;obtain ⟨g',c',e',k1,f1,-,h1,-⟩:=ro.at k (by rw [zaf];exact hk);simp only [Value.slice.injEq,Option.some.injEq,Addr.mk.injEq] at e';obtain ⟨⟨rfl,-⟩,-,-⟩:=e';exact ⟨by rw [k1];simp [ic,hk],f1,h1⟩
theorem had (h:PS w wr B b n0 D u v iv bv ti tb xs ys bs lv L st)(q:Nat)(hq:q < 16) :
  PS w (wr.setCell ⟨n0,q,none⟩ (.bool true)) B b n0 D u v iv bv ti tb xs ys bs lv L (st.1,st.2 ++ [(q:Int)+1]):=by
 obtain ⟨hl,h1,h2⟩:=h.h;refine ⟨h.d.other (fun e=>by omega) _,h.a.other (by have:=h.bn;omega) _,⟨hl.set q true,?_,h2.next q hq⟩,h.l.setCell_other (by omega) _,h.c.setCell ⟨h.Bn,by have:=h.bn;omega⟩ _,h.bn,h.Bn⟩;rw [← zgj];exact h1.set q _
end PS
structure OS (w wr:World) (b n0:Nat) (A:Array Value) (u v iv bv:Value) (ti tb:List V3) (xs ys:List Bool) (is:List Ino) (bs:List Blk):Prop where
 d:DL wr (fun k=>(w.heap.size+2<=k/\k≠b)/\k < n0) u v iv bv ti tb xs ys is bs
 o:AtC wr b 35 #[u,v,iv,bv]
 r:AtC wr (w.heap.size+1) 35 noD
 a:AtC wr w.heap.size 35 A
 c:Below w.heap.size w wr
 bn:b < n0
 Bn:w.heap.size+2<=b
 nn:n0<=wr.heap.size
namespace OS
variable {w wr wr' : World} {b n0 : Nat} {A : Array Value} {u v iv bv : Value} {ti tb : List V3} {xs ys : List Bool} {is : List Ino} {bs : List Blk}
theorem below (h:OS w wr b n0 A u v iv bv ti tb xs ys is bs)(hb:Below wr.heap.size wr wr'):OS w wr' b n0 A u v iv bv ti tb xs ys is bs :=
 ⟨h.d.over hb,h.o.over hb,h.r.over hb,h.a.over hb,h.c.trans (hb.mono h.c.size),h.bn,h.Bn,Nat.le_trans h.nn hb.size⟩
theorem grown (h:OS w wr b n0 A u v iv bv ti tb xs ys is bs){row:Option Nat}(hg:wr.grownBy wr' row)(hr:∀ k,row=some k->n0<=k):OS w wr' b n0 A u v iv bv ti tb xs ys is bs:=by
 have hb:=h.bn;have hB:=h.Bn;have hn:=h.nn;exact ⟨h.d.of_heap fun k hk hl=>hg.block k hl (fun e=>by have:=hr k e.symm;omega),h.o.grown hg (fun e=>by have:=hr _ e;omega),h.r.grown hg (fun e=>by have:=hr _ e;omega),h.a.grown hg (fun e=>by have:=hr _ e;omega),h.c.grown hg h.c.size (fun k hk=>by have:=hr k hk;omega),h.bn,h.Bn,Nat.le_trans h.nn hg.size⟩
theorem ptr (h:OS w wr b n0 A u v iv bv ti tb xs ys is bs)(j:Nat)(hj:j < is.length){g c:Nat}(hv:(ti.getD j zI3).2.2=.slice (some ⟨g,0,none⟩) is[j].2.2.length c)(k:Nat) :
  OS w (wr.setCell ⟨g,k,none⟩ (.int .i64 0)) b n0 A u v iv bv ti tb xs ys (is.set j (is[j].1,is[j].2.1,is[j].2.2.set k 0)) bs/\g < n0/\w.heap.size+2<=g/\g≠b:=by
 obtain ⟨g',c',-,-,-,-,-,-,-,ro,hS⟩:=h.d.ino j hj;have hg:=hS g (by rw [hv];rfl);obtain ⟨q1,q2⟩:=h.d.setPtr j hj hv k 0;exact ⟨⟨q1,h.o.other (fun e=>hg.1.2 e.symm) _,h.r.other (by omega) _,h.a.other (by omega) _,h.c.setCell (p:=⟨g,k,none⟩) (by show _<=g;omega) _,h.bn,h.Bn,by have:=h.nn;simpa using this⟩,hg.2,hg.1.1,hg.1.2⟩
theorem clr (h:OS w wr b n0 A u v iv bv ti tb xs ys is bs)(j:Nat)(hj:j < bs.length){g c:Nat}(hv:(tb.getD j zB3).2.1=.slice (some ⟨g,0,none⟩) bs[j].2.1.length c)(s:Nat)(hs:s < bs[j].2.1.length) :
  OS w ((wr.setCell ⟨g,s * 2,none⟩ (.string ⟨#[]⟩)).setCell ⟨g,s * 2+1,none⟩ (.int .i64 0)) b n0 A u v iv bv ti tb xs ys is (bs.set j (bs[j].1,bs[j].2.1.set s (⟨#[]⟩,0),bs[j].2.2))/\g < n0/\w.heap.size+2<=g/\g≠b:=by
 obtain ⟨g',c',-,-,-,-,-,-,ro,hS⟩:=h.d.blk j hj;have hg:=hS g (by rw [hv];rfl);obtain ⟨q1,q2⟩:=h.d.clrSlot j hj hv s hs ⟨#[]⟩ 0;exact ⟨⟨q1,(h.o.other (fun e=>hg.1.2 e.symm) _).other (fun e=>hg.1.2 e.symm) _,(h.r.other (by omega) _).other (by omega) _,(h.a.other (by omega) _).other (by omega) _,(h.c.setCell (p:=⟨g,s * 2,none⟩) (by show _<=g;omega) _).setCell (p:=⟨g,s * 2+1,none⟩) (by show _<=g;omega) _,h.bn,h.Bn,by have:=h.nn;simpa using this⟩,hg.2,hg.1.1,hg.1.2⟩
theorem fin (h:OS w wr b n0 A u v iv bv ti tb xs ys is bs)(y0 y1 y2 y3:Value) :
  DO ((((wr.setCell ⟨w.heap.size+1,0,none⟩ y0).setCell ⟨w.heap.size+1,1,none⟩ y1).setCell ⟨w.heap.size+1,2,none⟩ y2).setCell ⟨w.heap.size+1,3,none⟩ y3) (fun k=>w.heap.size<=k) u v iv bv xs ys is bs/\Below w.heap.size w ((((wr.setCell ⟨w.heap.size+1,0,none⟩ y0).setCell ⟨w.heap.size+1,1,none⟩ y1).setCell ⟨w.heap.size+1,2,none⟩ y2).setCell ⟨w.heap.size+1,3,none⟩ y3) :=
 ⟨(((((h.d.other (fun e=>by omega) _).other (fun e=>by omega) _).other (fun e=>by omega) _).other (fun e=>by omega) _).do_).mono fun k hk=>by omega,(((h.c.setCell (by simp) _).setCell (by simp) _).setCell (by simp) _).setCell (by simp) _⟩
end OS
def tx (l:List ByteArray):List Value:=l.map Value.string
theorem zft (l:List ByteArray):(tx l).length=l.length:=List.length_map _
theorem tx_rtx {w:World}{base:Nat}{v:Value}{l:List ByteArray}(h:ROwns w base 9 v (tx l)):RTx w v l:=by
 obtain ⟨a,c,e,hn⟩:=h.form;rw [zft] at e;refine ⟨a,c,e,fun j hj=>?_⟩;obtain ⟨g,cap,e1,k1,-,-,h1,-⟩:=h.at j (by rw [zft];exact hj);rw [e] at e1;simp only [Value.slice.injEq] at e1;exact ⟨g,0,e1.1,h1,by rw [Nat.zero_add,k1];simp [tx,hj]⟩
abbrev Bx:=Nat×TypeId×Array Value
def own3 (a b c:Value) (i:Nat):Prop:=a.ownBlock=some i\/b.ownBlock=some i\/c.ownBlock=some i
structure NV (w wr:World) (b n0:Nat) (A:Array Value) (u v iv bv:Value) (ti tb:List V3) (xs ys:List Bool) (is:List Ino) (bs:List Blk) (dv kv nv:Value) (dirs blks:List Int) (names:List ByteArray) (BX:List Bx):Prop where
 os:OS w wr b n0 A u v iv bv ti tb xs ys is bs
 d:ROwns wr n0 3 dv (ic dirs)
 k:ROwns wr n0 3 kv (ic blks)
 n:ROwns wr n0 9 nv (tx names)
 dk:∀ i,dv.ownBlock=some i->kv.ownBlock≠some i
 dn:∀ i,dv.ownBlock=some i->nv.ownBlock≠some i
 kn:∀ i,kv.ownBlock=some i->nv.ownBlock≠some i
 bx:∀ e∈BX,AtC wr e.1 e.2.1 e.2.2/\n0<=e.1/\∀ i,own3 dv kv nv i->i≠e.1
namespace NV
variable {w wr wr' : World} {b n0 : Nat} {A : Array Value} {u v iv bv : Value} {ti tb : List V3} {xs ys : List Bool} {is : List Ino} {bs bs' : List Blk} {dv kv nv v9 : Value} {dirs blks : List Int} {names : List ByteArray} {BX BX' : List Bx}
theorem lt3 (h:NV w wr b n0 A u v iv bv ti tb xs ys is bs dv kv nv dirs blks names BX){i:Nat}(hi:own3 dv kv nv i):n0<=i/\i < wr.heap.size:=by
 rcases hi with e | e | e
 ·exact h.d.lt i e
 ·exact h.k.lt i e
 ·exact h.n.lt i e
theorem below (h:NV w wr b n0 A u v iv bv ti tb xs ys is bs dv kv nv dirs blks names BX)(hb:Below wr.heap.size wr wr'):NV w wr' b n0 A u v iv bv ti tb xs ys is bs dv kv nv dirs blks names BX :=
 ⟨h.os.below hb,h.d.below hb nR,h.k.below hb nR,h.n.below hb nR,h.dk,h.dn,h.kn,fun e he=>⟨(h.bx e he).1.over hb,(h.bx e he).2⟩⟩
theorem less (h:NV w wr b n0 A u v iv bv ti tb xs ys is bs dv kv nv dirs blks names BX)(hb:∀ e∈BX',e∈BX):NV w wr b n0 A u v iv bv ti tb xs ys is bs dv kv nv dirs blks names BX':=⟨h.os,h.d,h.k,h.n,h.dk,h.dn,h.kn,fun e he=>h.bx e (hb e he)⟩
theorem box (h:NV w wr b n0 A u v iv bv ti tb xs ys is bs dv kv nv dirs blks names BX)(hb:Below wr.heap.size wr wr'){g:Nat}{T:TypeId}{Y:Array Value}(ha:AtC wr' g T Y)(hg:wr.heap.size<=g):NV w wr' b n0 A u v iv bv ti tb xs ys is bs dv kv nv dirs blks names ((g,T,Y) :: BX):=by
 have h1:=h.below hb;refine ⟨h1.os,h1.d,h1.k,h1.n,h1.dk,h1.dn,h1.kn,fun e he=>?_⟩;rcases List.mem_cons.1 he with rfl | he
 ·refine ⟨ha,Nat.le_trans h.os.nn hg,fun i hi e=>?_⟩;have:=(h.lt3 hi).2;simp only at e;omega
 ·exact h1.bx e he
theorem names0 (h:NV w wr b n0 A u v iv bv ti tb xs ys is bs dv kv nv dirs blks names BX):NV w (wr.alloc (.cells #[] 9)) b n0 A u v iv bv ti tb xs ys is bs dv kv (.slice (some ⟨wr.heap.size,0,none⟩) 0 0) dirs blks [] BX:=by
 have h1:=h.below ((Below.refl _ wr).alloc nR (.cells #[] 9));have ho:∀ i,(Value.slice (some ⟨wr.heap.size,0,none⟩) 0 0).ownBlock=some i->i=wr.heap.size:=fun i e=>by simpa [Value.ownBlock] using e.symm
 refine ⟨h1.os,h1.d,h1.k,(ROwns.lit0 wr n0 9 h.os.nn),h1.dk,fun i e e2=>?_,fun i e e2=>?_,fun e he=>⟨(h1.bx e he).1,(h1.bx e he).2.1,fun i hi e3=>?_⟩⟩
 ·have:=(h.d.lt i e).2;have:=ho i e2;omega
 ·have:=(h.k.lt i e).2;have:=ho i e2;omega
 ·rcases hi with e | e | e
  ·exact (h.bx _ he).2.2 i (.inl e) e3
  ·exact (h.bx _ he).2.2 i (.inr (.inl e)) e3
  ·have h2:=ho i e;have:=(h.bx _ he).1.lt;omega
theorem clr (h:NV w wr b n0 A u v iv bv ti tb xs ys is bs dv kv nv dirs blks names BX)(t:Tt)(ht:InT bs t){g:Nat}{c:Nat}(hv:(tb.getD t.2.1 zB3).2.1=.slice (some ⟨g,0,none⟩) (bs.getD t.2.1 zB).2.1.length c):NV w ((wr.setCell ⟨g,t.2.2 * 2,none⟩ (.string ⟨#[]⟩)).setCell ⟨g,t.2.2 * 2+1,none⟩ (.int .i64 0)) b n0 A u v iv bv ti tb xs ys is (clrS bs t) dv kv nv dirs blks names BX:=by
 have e0:=zap (d:=zB) ht.1;have hs:=ht.2;rw [e0] at hv hs;obtain ⟨q1,q2,q3,q4⟩:=h.os.clr t.2.1 ht.1 hv t.2.2 hs;refine ⟨?_,(h.d.setCell_other q2 _).setCell_other q2 _,(h.k.setCell_other q2 _).setCell_other q2 _,(h.n.setCell_other q2 _).setCell_other q2 _,h.dk,h.dn,h.kn,fun e he=>⟨((h.bx e he).1.other (by have:=(h.bx e he).2.1;omega) _).other (by have:=(h.bx e he).2.1;omega) _,(h.bx e he).2⟩⟩;unfold clrS;rw [e0];exact q1
theorem appD (h:NV w wr b n0 A u v iv bv ti tb xs ys is bs dv kv nv dirs blks names BX){z:Int}(T9:ROwns wr' n0 3 v9 (ic (dirs ++ [z])))(G9:wr.grownBy wr' dv.ownBlock)(V9:∀ i,v9.ownBlock=some i->dv.ownBlock=some i\/wr.heap.size<=i):NV w wr' b n0 A u v iv bv ti tb xs ys is bs v9 kv nv (dirs ++ [z]) blks names BX:=by
 refine ⟨h.os.grown G9 fun i e=>(h.d.lt i e).1,T9,h.k.grown G9 fun i e e2=>h.dk i e2 e,h.n.grown G9 fun i e e2=>h.dn i e2 e,fun i e e2=>?_,fun i e e2=>?_,h.kn,fun x he=>⟨(h.bx x he).1.grown G9 fun e=>(h.bx x he).2.2 _ (.inl e) rfl,(h.bx x he).2.1,fun i hi e3=>?_⟩⟩
 ·rcases V9 i e with e' | e'
  ·exact h.dk i e' e2
  ·have:=(h.k.lt i e2).2;omega
 ·rcases V9 i e with e' | e'
  ·exact h.dn i e' e2
  ·have:=(h.n.lt i e2).2;omega
 ·rcases hi with e | e
  ·rcases V9 i e with e' | e'
   ·exact (h.bx x he).2.2 i (.inl e') e3
   ·have:=(h.bx x he).1.lt;omega
  ·exact (h.bx x he).2.2 i (.inr e) e3
theorem appK (h:NV w wr b n0 A u v iv bv ti tb xs ys is bs dv kv nv dirs blks names BX){z:Int}(T9:ROwns wr' n0 3 v9 (ic (blks ++ [z])))(G9:wr.grownBy wr' kv.ownBlock)(V9:∀ i,v9.ownBlock=some i->kv.ownBlock=some i\/wr.heap.size<=i):NV w wr' b n0 A u v iv bv ti tb xs ys is bs dv v9 nv dirs (blks ++ [z]) names BX:=by
 refine ⟨h.os.grown G9 fun i e=>(h.k.lt i e).1,h.d.grown G9 fun i e e2=>h.dk i e e2,T9,h.n.grown G9 fun i e e2=>h.kn i e2 e,fun i e e2=>?_,h.dn,fun i e e2=>?_,fun x he=>⟨(h.bx x he).1.grown G9 fun e=>(h.bx x he).2.2 _ (.inr (.inl e)) rfl,(h.bx x he).2.1,fun i hi e3=>?_⟩⟩
 ·rcases V9 i e2 with e' | e'
  ·exact h.dk i e e'
  ·have:=(h.d.lt i e).2;omega
 ·rcases V9 i e with e' | e'
  ·exact h.kn i e' e2
  ·have:=(h.n.lt i e2).2;omega
 ·rcases hi with e | e | e
  ·exact (h.bx x he).2.2 i (.inl e) e3
  ·rcases V9 i e with e' | e'
   ·exact (h.bx x he).2.2 i (.inr (.inl e')) e3
   ·have:=(h.bx x he).1.lt;omega
  ·exact (h.bx x he).2.2 i (.inr (.inr e)) e3
theorem appN (h:NV w wr b n0 A u v iv bv ti tb xs ys is bs dv kv nv dirs blks names BX){z:ByteArray}(T9:ROwns wr' n0 9 v9 (tx (names ++ [z])))(G9:wr.grownBy wr' nv.ownBlock)(V9:∀ i,v9.ownBlock=some i->nv.ownBlock=some i\/wr.heap.size<=i):NV w wr' b n0 A u v iv bv ti tb xs ys is bs dv kv v9 dirs blks (names ++ [z]) BX:=by
 refine ⟨h.os.grown G9 fun i e=>(h.n.lt i e).1,h.d.grown G9 fun i e e2=>h.dn i e e2,h.k.grown G9 fun i e e2=>h.kn i e e2,T9,h.dk,fun i e e2=>?_,fun i e e2=>?_,fun x he=>⟨(h.bx x he).1.grown G9 fun e=>(h.bx x he).2.2 _ (.inr (.inr e)) rfl,(h.bx x he).2.1,fun i hi e3=>?_⟩⟩
 ·rcases V9 i e2 with e' | e'
  ·exact h.dn i e e'
  ·have:=(h.d.lt i e).2;omega
 ·rcases V9 i e2 with e' | e'
  ·exact h.kn i e e'
  ·have:=(h.k.lt i e).2;omega
 ·rcases hi with e | e | e
  ·exact (h.bx x he).2.2 i (.inl e) e3
  ·exact (h.bx x he).2.2 i (.inr (.inl e)) e3
  ·rcases V9 i e with e' | e'
   ·exact (h.bx x he).2.2 i (.inr (.inr e')) e3
   ·have:=(h.bx x he).1.lt;omega
end NV
def slv (tb:List V3) (bs:List Blk) (x:Int):Value:=if inB x 1 bs.length=true then (tb.getD (x - 1).toNat zB3).2.1 else .slice none 0 0
theorem zla (x:Int)(u v iv bv:Value)(ti tb:List V3)(xs ys:List Bool)(is:List Ino)(bs:List Blk)(S:Nat->Prop)(w:World)(h:DL w S u v iv bv ti tb xs ys is bs)(hl:bs.length=16) :
  Calls Tryz.prog 73 #[.agg #[u,v,iv,bv],.int .i64 x] w fun e w'=>e=.returned (.tuple #[.agg #[.bool (blkAt bs x).1,slv tb bs x,.string (blkAt bs x).2.2],.bool (inB x 1 16)])/\Below w.heap.size w w':=by
 have HB:Hid (∀ A,Below w.heap.size w (((w.alloc (.cells A 35)).alloc (.cells #[.bool false,.slice none 0 0,.string ⟨#[]⟩] 74)))):=fun A=>((Below.refl _ w).alloc nR _).alloc (by simp) _
 cases hb:inB x 1 16 with
 | false =>
  have hb':inB x 1 bs.length=false:=by rw [hl];exact hb
  obtain ⟨g4,c4,hbv,-⟩:=h.blk 0 (by omega);subst hbv;have HX:=hide hb';have e0:blkAt bs x=(false,[],⟨#[]⟩):=by unfold blkAt;rw [hb'];rfl
  have e1:slv tb bs x=.slice none 0 0:=by unfold slv;rw [hb'];rfl
  rw [e0,e1];clear hb hb' e0 e1 hl h;go_enter Tryz.func73,Tryz.ntmps73
  go_wp2_with fail
  refine (zam x 1 _ _).mono ?_;rintro e w1 ⟨rfl,rfl⟩;rw [HX.out];go_wp2;refine bodyPost_ret (v:=.tuple #[.agg #[.bool false,.slice none 0 0,.string ⟨#[]⟩],.bool false]) (by simp [results,go_sem]) rfl ⟨rfl,?_⟩;exact HB.out _
 | true =>
  have hb':inB x 1 bs.length=true:=by rw [hl];exact hb
  have HX:=hide hb';obtain ⟨h1,h2⟩:=zao hb;obtain ⟨j,rfl⟩:∃ j:Nat,x=(j:Int)+1:=⟨(x - 1).toNat,by omega⟩
  have hj:j < bs.length:=by omega
  have e0:blkAt bs ((j:Int)+1)=bs[j]:=by
   unfold blkAt;rw [hb',if_pos rfl,show ((j:Int)+1 - 1).toNat=j by omega];simp [hj]
  have e1:slv tb bs ((j:Int)+1)=(tb.getD j zB3).2.1:=by
   unfold slv;rw [hb',if_pos rfl,show ((j:Int)+1 - 1).toNat=j by omega]
  rw [e0,e1];clear hb hb' e0 e1;obtain ⟨g,c4,hbv,hg,-,k0,k1,k2,ro,-⟩:=h.blk j hj;subst hbv;obtain ⟨pa,pc,esl,-⟩:=ro.form;rw [esl] at k1 ⊢;generalize bs[j].1=d at *;generalize bs[j].2.2=tx at *;generalize bs[j].2.1.length=sn at *;have HB2:Hid (∀ (A B:Array Value),Below w.heap.size w ((w.alloc (.cells A 35)).alloc (.cells B 74))):=fun A B=>((Below.refl _ w).alloc nR _).alloc (by simp) _;have n0:((w.alloc (.cells #[u,v,iv,.slice (some ⟨g,0,none⟩) bs.length c4] 35)).alloc (.cells #[.bool false,.slice none 0 0,.string ⟨#[]⟩] 74)).cell? ⟨g,j * 3,none⟩=some (.bool d):=((HB.out _).cell (p:=⟨g,j * 3,none⟩) hg).trans k0;have n1:((w.alloc (.cells #[u,v,iv,.slice (some ⟨g,0,none⟩) bs.length c4] 35)).alloc (.cells #[.bool false,.slice none 0 0,.string ⟨#[]⟩] 74)).cell? ⟨g,j * 3+1,none⟩=some (.slice pa sn pc):=((HB.out _).cell (p:=⟨g,j * 3+1,none⟩) hg).trans k1;have n2:((w.alloc (.cells #[u,v,iv,.slice (some ⟨g,0,none⟩) bs.length c4] 35)).alloc (.cells #[.bool false,.slice none 0 0,.string ⟨#[]⟩] 74)).cell? ⟨g,j * 3+2,none⟩=some (.string tx):=((HB.out _).cell (p:=⟨g,j * 3+2,none⟩) hg).trans k2;have j0:(0:Int)<=(j:Int):=by omega
  have j1:(j:Int) < (bs.length:Int):=by omega
  clear k0 k1 k2 h ro esl hl;go_enter Tryz.func73,Tryz.ntmps73
  go_wp2_with fail
  refine (zam _ 1 _ _).mono ?_;rintro e w1 ⟨rfl,rfl⟩;rw [HX.out];go_wp2;refine bodyPost_ret (v:=.tuple #[.agg #[.bool d,.slice pa sn pc,.string tx],.bool true]) (by simp [results,go_sem]) rfl ⟨rfl,?_⟩;exact HB2.out _ _
theorem zc4 (u v iv bv:Value)(xs ys:List Bool)(is:List Ino)(bs:List Blk)(w:World)(h:DR w u v iv bv xs ys is bs)(hB:Big 1048576 xs ys is bs) :
  Calls Tryz.prog 71 #[.agg #[u,v,iv,bv]] w fun e w'=>∃ u' v' i' b',e=.returned (.agg #[u',v',i',b'])/\DO w' (fun k=>w.heap.size<=k) u' v' i' b' xs ys is bs/\Below w.heap.size w w':=by
 have H:=hide h;have HG:=hide hB;have hil:is.length<=1048576:=hB.i;have hbl:bs.length<=1048576:=hB.b;obtain ⟨a1,c1,a2,c2,a3,c3,a4,c4,rfl,rfl,rfl,rfl⟩:=h.form;clear hB h;go_enter Tryz.func71,Tryz.ntmps71
 go_wp2_with fail
 refine (zn3 _ _ xs ys _ ((H.out.a.alloc _).alloc _) ((H.out.b.alloc _).alloc _) HG.out.x HG.out.y).mono ?_;rintro e w1 ⟨u1,v1,rfl,T1,B1⟩;obtain ⟨d1,f1,d2,f2,rfl,rfl⟩:=T1.form;have HD:=hide (dz_start (A:=#[.slice a1 xs.length c1,.slice a2 ys.length c2,.slice a3 is.length c3,.slice a4 bs.length c4]) B1 T1);clear T1 B1;go_wp2_with fail
 generalize w1.heap.size=b at *;generalize w1.alloc (.cells #[.slice d1 xs.length f1,.slice d2 ys.length f2,.slice none 0 0,.slice none 0 0] 35)=W1 at *;go_loopw [4] (fun i wr=>∃ j:Nat,j<=is.length/\i=.int .i64 j/\Hid (∃ iv,Dz w wr #[.slice a1 xs.length c1,.slice a2 ys.length c2,.slice a3 is.length c3,.slice a4 bs.length c4] b (.slice d1 xs.length f1) (.slice d2 ys.length f2) iv (.slice none 0 0) xs ys (is.take j) [])) (fun i _=>is.length - (intOf i).toNat)
 case atStart=>exact ⟨0,Nat.zero_le _,rfl,_,HD.out⟩
 case round =>
  obtain ⟨j,hj,rfl,HR⟩:=hrel;obtain ⟨iv,hds⟩:=HR.out;by_cases hlt:j < is.length
  ·obtain ⟨ti,k1,k2,k3⟩:=hds.drew.appI;obtain ⟨gi,ci,rfl,-⟩:=k1.form;obtain ⟨ai,cai,ei,-,hci⟩:=H.out.i.ino;obtain ⟨g,off,p,rfl,hg,m1,m2,m3,hp⟩:=hci j hlt;simp only [Value.slice.injEq] at ei;obtain ⟨rfl,-,rfl⟩:=ei;have hpl:=HG.out.p j hlt;have htk:is.take j ++ [is[j]]=is.take (j+1):=List.take_append_getElem hlt;obtain ⟨X,hX⟩:∃ X,is[j]=X:=⟨_,rfl⟩
   obtain ⟨y,s,z⟩:=X;rw [hX] at m1 m2 hp hpl htk;simp only at m1 m2 hp hpl;obtain ⟨pa,pc,rfl⟩:=hp.form;have hti:ti.length=j:=by rw [k2,List.length_take];omega
   have HX:=hide (And.intro k1 (And.intro k3 hti));have HDS:=hide hds;have HP:Hid (∀ W,Below w.heap.size w W->RInts W (.slice pa z.length pc) z):=fun W b=>hp.below b nR;have HPL:=hide hpl;have HTK:=hide htk;have HC:Hid (∀ W,Below wr.drew.heap.size wr.drew W->W.cell? ⟨b,2,none⟩=some (.slice gi ti.length ci)/\W.cell? ⟨w.heap.size,2,none⟩=some (.slice (some ⟨g,off,none⟩) is.length c3)/\W.cell? ⟨g,off+j * 3,none⟩=some (.int .i64 y)/\W.cell? ⟨g,off+j * 3+1,none⟩=some (.int .i64 s)/\W.cell? ⟨g,off+j * 3+2,none⟩=some (.slice pa z.length pc)/\Below w.heap.size w W):=fun W b=>by
    have hw:=HDS.out.drew.below b;exact ⟨hw.box.cell 2,hw.arg.cell 2,(hw.bel.cell (p:=⟨g,off+j * 3,none⟩) hg).trans m1,(hw.bel.cell (p:=⟨g,off+j * 3+1,none⟩) hg).trans m2,(hw.bel.cell (p:=⟨g,off+j * 3+2,none⟩) hg).trans m3,hw.bel⟩
   have b0:=HDS.out.arg.cell 2;simp at b0;have j0:(0:Int)<=(j:Int):=by omega
   have j1:(j:Int) < (is.length:Int):=by omega
   clear k1 k2 k3 hds HR hti m1 m2 m3 hp hpl htk hci hX hg;go_wp2_with fail
   refine zbb (by kernel_rfl) [0,1,2,3,4,5,6,7,8] [9,10,11] (fun i=>match i with|0=>.const [] (.pointer (some ⟨b,2,none⟩))|1=>.const [0] (.slice gi ti.length ci)|2=>.const [] (.pointer (some ⟨w.heap.size,2,none⟩))|3=>.const [2] (.slice (some ⟨g,off,none⟩) is.length c3)|4=>.const [] (.int .i64 (j:Int))|5=>.const [3,4] (.pointer (some ⟨g,off+j * 3,none⟩))|6=>.const [5] (.agg #[.int .i64 y,.int .i64 s,.slice pa z.length pc])|7=>MkI 6 y s z|8=>MkI1 7 y s|_=>.triv) (fun x=>⟨#[.agg #[.slice a1 xs.length c1,.slice a2 ys.length c2,.slice (some ⟨g,off,none⟩) is.length c3,.slice a4 bs.length c4],.pointer (some ⟨w.heap.size,0,none⟩),.pointer (some ⟨w.heap.size+1,0,none⟩),.pointer (some ⟨b,0,none⟩),.int .i64 ↑j,undef,.pointer (some ⟨w.heap.size,0,none⟩),.agg #[.slice a1 xs.length c1,.slice a2 ys.length c2],.agg #[.slice d1 xs.length f1,.slice d2 ys.length f2],.agg #[.slice d1 xs.length f1,.slice d2 ys.length f2,.slice none 0 0,.slice none 0 0],.int .i64 ↑j,.pointer (some ⟨w.heap.size,2,none⟩),.slice (some ⟨g,off,none⟩) is.length c3,.int .i64 ↑is.length,.bool true,u15,u16,x 0,x 1,x 2,x 3,x 4,x 5,x 6,x 7,x 8,u26,u27,undef,undef,undef,undef,undef,undef,undef,undef,undef,undef,undef,undef,undef,undef,undef,undef,undef,undef,undef],[]⟩) (fun i=>match i with|0=>u17|1=>u18|2=>u19|3=>u20|4=>u21|5=>u22|6=>u23|7=>u24|8=>u25|_=>undef) rfl (by kernel_rfl) (by kernel_rfl) (by kernel_rfl) rfl ?_ ?_
   ·intro jo hj so x iw W hd hp K hK;simp only [List.mem_cons,List.not_mem_nil,or_false] at hj;rcases hj with rfl|rfl|rfl|rfl|rfl|rfl|rfl|rfl|rfl<;>refine wpOp_step (o:=_) rfl fun K' hK'=>?_<;>have HK:=hide (fun (v:Value) (W':World) h1 h2=>hK' _ _ (hK v W' h1 h2))<;>simp only [upd,Nat.reduceEqDiff,if_true,if_false] at HK
    ·clear hK hK' hp hd;go_simp;exact HK.out _ _ bR rfl
    ·have e0:x 0=.pointer (some ⟨b,2,none⟩):=hp.post 0 (hd 0 mz0);have q0:=(HC.out W hp.bel).1;simp only [e0] at HK ⊢;go_simp;exact HK.out _ _ bR rfl
    ·clear hK hK' hp hd;go_simp;exact HK.out _ _ bR rfl
    ·have e2:x 2=.pointer (some ⟨w.heap.size,2,none⟩):=hp.post 2 (hd 2 mz0);have q0:=(HC.out W hp.bel).2.1;simp only [e2] at HK ⊢;go_simp;exact HK.out _ _ bR rfl
    ·clear hK hK' hp hd;go_simp;exact HK.out _ _ bR rfl
    ·have e3:x 3=.slice (some ⟨g,off,none⟩) is.length c3:=hp.post 3 (hd 3 mz0);have e4:x 4=.int .i64 (j:Int):=hp.post 4 (hd 4 mz1);simp only [e3,e4] at HK ⊢;go_simp;exact HK.out _ _ bR rfl
    ·have e5:x 5=.pointer (some ⟨g,off+j * 3,none⟩):=hp.post 5 (hd 5 mz0);obtain ⟨-,-,q0,q1,q2,-⟩:=HC.out W hp.bel;simp only [e5] at HK ⊢;go_simp;exact HK.out _ _ bR rfl
    ·have e6:x 6=.agg #[.int .i64 y,.int .i64 s,.slice pa z.length pc]:=hp.post 6 (hd 6 mz0);have bl:=(HC.out W hp.bel).2.2.2.2.2;simp only [e6] at HK ⊢;go_simp;refine (zn1 y s _ z W (HP.out W bl) HPL.out).mono ?_;rintro e w6 ⟨p6,rfl,O6,B6⟩;go_simp;exact HK.out _ _ B6 ⟨p6,rfl,O6,fun i hi=>(O6.lt i hi).2⟩
    ·have e7:∃ u,x 7=.agg #[.int .i64 y,.int .i64 s,u]/\ROwns W (iw 7).1 3 u (ic z)/\∀ i,u.ownBlock=some i->i < (iw 7).2:=hp.post 7 (hd 7 mz0);obtain ⟨p7,e7,O7,-⟩:=e7;obtain ⟨pb,pd,rfl⟩:=O7.rints.form;clear O7;have HE:=hide e7;simp only [e7] at HK ⊢;clear e7;go_simp;exact HK.out _ _ ((Below.refl _ W).alloc nR _) ⟨rfl,by simp,.slice pb z.length pd,by rw [za8 _ _ _ _ (by decide)];exact HE.out,AtC.new W 63 _⟩
   ·intro x iw W hp;have e1:x 1=.slice gi ti.length ci:=hp.post 1 (by decide);obtain ⟨p7,e7,O7,-⟩:=hp.post 7 (by decide);obtain ⟨e8,-,p8,f8,A8⟩:=hp.post 8 (by decide);rw [e7] at f8;simp only [Value.agg.injEq,Array.mk.injEq,List.cons.injEq,and_true,true_and] at f8;subst f8;have l7:=(hp.lo 7 (by decide)).1;have hbel:=hp.bel;have O9:ROwns W wr.drew.heap.size 3 p7 (ic z):=O7.base_le l7;obtain ⟨pb,pd,rfl⟩:=O9.rints.form;have hT:TOwns W 63 (.slice gi ti.length ci) ti:=HX.out.1.of_heap fun k hk=>hbel.block k (HX.out.1.lt k hk);have HN:Hid (∀ v' w',TOwns w' 63 v' (ti ++ [(.int .i64 y,.int .i64 s,.slice pb z.length pd)])->W.grownBy w' (Value.slice gi ti.length ci).ownBlock->(∀ k,v'.ownBlock=some k->(Value.slice gi ti.length ci).ownBlock=some k\/W.heap.size<=k)->(AtC w' b 35 #[.slice d1 xs.length f1,.slice d2 ys.length f2,.slice gi ti.length ci,.slice none 0 0])/\Dz w (w'.setCell ⟨b,2,none⟩ v') #[.slice a1 xs.length c1,.slice a2 ys.length c2,.slice (some ⟨g,off,none⟩) is.length c3,.slice a4 bs.length c4] b (.slice d1 xs.length f1) (.slice d2 ys.length f2) v' (.slice none 0 0) xs ys (is.take j ++ [(y,s,z)]) []):=fun v' w' h1 h2 h3=>HX.out.2.1 W w' v' _ (y,s,z) hbel ⟨rfl,rfl,O9.base_le (Nat.zero_le _)⟩ (fun k hk=>(O9.lt k hk).1) h1 h2 h3;have HTL:Hid (ti.length<=1000000000000):=by have:=HX.out.2.2;show ti.length<=_;omega
    have HA8:=hide A8;have HT:=hide hT;generalize (iw 8).1=g8 at *;clear hT O9 O7 hp l7 hbel A8 HX HDS b0;simp only [e1,e7,e8];refine wpList_step fun K' hK'=>?_;refine zbc _ rfl (.tmp 18) (.tmp 25) 32 rfl 63 Tryz.u32 _ 40 Tryz.i63 rfl (by decide) (.slice gi ti.length ci) ti rfl HT.out g8 (.int .i64 y,.int .i64 s,.slice pb z.length pd) rfl ⟨HA8.out.cell 0,HA8.out.cell 1,HA8.out.cell 2⟩ ⟨rfl,rfl,rfl⟩ HTL.out ?_;intro v9 w9 T9 G9 V9;refine hK' _ _ ?_;obtain ⟨e9,D9⟩:=HN.out v9 w9 T9 G9 V9;obtain ⟨g9,c9,rfl,-⟩:=T9.form;have e10:(ti ++ [((.int .i64 y,.int .i64 s,.slice pb z.length pd):V3)]).length=ti.length+1:=by simp
    rw [e10] at D9 ⊢;clear e10;have z2:=e9.frozen 2;have z3:w9.cell? ⟨b,2,none⟩=some (.slice gi ti.length ci):=e9.cell 2;have H9:=hide D9;clear e9 D9 T9 G9 V9 HN HA8 HT HTL hK' K' e1 e7 e8;go_wp2_with fail
    rw [List.filterMap_nil];go_wp2;go_roundw
    case rel=>exact ⟨j+1,by omega,by go_num,_,by rw [← HTK.out];exact H9.out⟩
    case measure=>simp [intOf];omega
  ·have hj2:j=is.length:=by omega
   subst hj2;rw [List.take_length] at hds;obtain ⟨a5,c5,a6,c6,a7,c7,a8,c8,-,-,rfl,-⟩:=hds.dsk.dr.form;have HD2:=hide hds;have b0:wr.cell? ⟨w.heap.size,2,none⟩=some (.slice a3 is.length c3):=hds.arg.cell 2;clear hds HR;go_wp2_with fail
   go_loopw [5] (fun i wr=>∃ j:Nat,j<=bs.length/\i=.int .i64 j/\Hid (∃ bv,Dz w wr #[.slice a1 xs.length c1,.slice a2 ys.length c2,.slice a3 is.length c3,.slice a4 bs.length c4] b (.slice d1 xs.length f1) (.slice d2 ys.length f2) (.slice a7 is.length c7) bv xs ys is (bs.take j))) (fun i _=>bs.length - (intOf i).toNat)
   case atStart=>exact ⟨0,Nat.zero_le _,rfl,_,HD2.out⟩
   case round =>
    obtain ⟨j,hj,rfl,HR⟩:=hrel;obtain ⟨bv,hds⟩:=HR.out;by_cases hlt:j < bs.length
    ·obtain ⟨ti,k1,k2,k3⟩:=hds.drew.appB;obtain ⟨gi,ci,rfl,-⟩:=k1.form;obtain ⟨ai,cai,ei,-,hci⟩:=H.out.k.blk;obtain ⟨g,off,p,rfl,hg,m1,m2,m3,hp⟩:=hci j hlt;simp only [Value.slice.injEq] at ei;obtain ⟨rfl,-,rfl⟩:=ei;have hpl:=HG.out.s j hlt;have htk:bs.take j ++ [bs[j]]=bs.take (j+1):=List.take_append_getElem hlt;obtain ⟨X,hX⟩:∃ X,bs[j]=X:=⟨_,rfl⟩
     obtain ⟨y,z,s⟩:=X;rw [hX] at m1 m3 hp hpl htk;simp only at m1 m3 hp;obtain ⟨pa,pc,rfl⟩:=hp.form;have hti:ti.length=j:=by rw [k2,List.length_take];omega
     have HX:=hide (And.intro k1 (And.intro k3 hti));have HDS:=hide hds;have HP:Hid (∀ W,Below w.heap.size w W->RSl W (.slice pa z.length pc) z):=fun W b=>hp.below b nR;have HPL:=hide hpl;have HTK:=hide htk;have HC:Hid (∀ W,Below wr.drew.heap.size wr.drew W->W.cell? ⟨b,3,none⟩=some (.slice gi ti.length ci)/\W.cell? ⟨w.heap.size,3,none⟩=some (.slice (some ⟨g,off,none⟩) bs.length c4)/\W.cell? ⟨g,off+j * 3,none⟩=some (.bool y)/\W.cell? ⟨g,off+j * 3+1,none⟩=some (.slice pa z.length pc)/\W.cell? ⟨g,off+j * 3+2,none⟩=some (.string s)/\Below w.heap.size w W):=fun W b=>by
      have hw:=HDS.out.drew.below b;exact ⟨hw.box.cell 3,hw.arg.cell 3,(hw.bel.cell (p:=⟨g,off+j * 3,none⟩) hg).trans m1,(hw.bel.cell (p:=⟨g,off+j * 3+1,none⟩) hg).trans m2,(hw.bel.cell (p:=⟨g,off+j * 3+2,none⟩) hg).trans m3,hw.bel⟩
     have b0:=HDS.out.arg.cell 3;simp at b0;have j0:(0:Int)<=(j:Int):=by omega
     have j1:(j:Int) < (bs.length:Int):=by omega
     clear k1 k2 k3 hds HR hti m1 m2 m3 hp hpl htk hci hX hg;go_wp2_with fail
     refine zbb (by kernel_rfl) [0,1,2,3,4,5,6,7,8] [9,10,11] (fun i=>match i with|0=>.const [] (.pointer (some ⟨b,3,none⟩))|1=>.const [0] (.slice gi ti.length ci)|2=>.const [] (.pointer (some ⟨w.heap.size,3,none⟩))|3=>.const [2] (.slice (some ⟨g,off,none⟩) bs.length c4)|4=>.const [] (.int .i64 (j:Int))|5=>.const [3,4] (.pointer (some ⟨g,off+j * 3,none⟩))|6=>.const [5] (.agg #[.bool y,.slice pa z.length pc,.string s])|7=>MkK 6 y s z|8=>MkK1 7 y s|_=>.triv) (fun x=>⟨#[.agg #[.slice a1 xs.length c1,.slice a2 ys.length c2,.slice a3 is.length c3,.slice (some ⟨g,off,none⟩) bs.length c4],.pointer (some ⟨w.heap.size,0,none⟩),.pointer (some ⟨w.heap.size+1,0,none⟩),.pointer (some ⟨b,0,none⟩),.int .i64 ↑is.length,.int .i64 ↑j,.pointer (some ⟨w.heap.size,0,none⟩),.agg #[.slice a1 xs.length c1,.slice a2 ys.length c2],.agg #[.slice d1 xs.length f1,.slice d2 ys.length f2],.agg #[.slice d1 xs.length f1,.slice d2 ys.length f2,.slice none 0 0,.slice none 0 0],.int .i64 ↑is.length,.pointer (some ⟨w.heap.size,2,none⟩),.slice a3 is.length c3,.int .i64 ↑is.length,.bool false,u15,u16,u17,u18,u19,u20,u21,u22,u23,u24,u25,u26,u27,.int .i64 ↑j,.pointer (some ⟨w.heap.size,3,none⟩),.slice (some ⟨g,off,none⟩) bs.length c4,.int .i64 ↑bs.length,.bool true,u33,u34,x 0,x 1,x 2,x 3,x 4,x 5,x 6,x 7,x 8,u44,u45,undef],[]⟩) (fun i=>match i with|0=>u35|1=>u36|2=>u37|3=>u38|4=>u39|5=>u40|6=>u41|7=>u42|8=>u43|_=>undef) rfl (by kernel_rfl) (by kernel_rfl) (by kernel_rfl) rfl ?_ ?_
     ·intro jo hj so x iw W hd hp K hK;simp only [List.mem_cons,List.not_mem_nil,or_false] at hj;rcases hj with rfl|rfl|rfl|rfl|rfl|rfl|rfl|rfl|rfl<;>refine wpOp_step (o:=_) rfl fun K' hK'=>?_<;>have HK:=hide (fun (v:Value) (W':World) h1 h2=>hK' _ _ (hK v W' h1 h2))<;>simp only [upd,Nat.reduceEqDiff,if_true,if_false] at HK
      ·clear hK hK' hp hd;go_simp;exact HK.out _ _ bR rfl
      ·have e0:x 0=.pointer (some ⟨b,3,none⟩):=hp.post 0 (hd 0 mz0);have q0:=(HC.out W hp.bel).1;simp only [e0] at HK ⊢;go_simp;exact HK.out _ _ bR rfl
      ·clear hK hK' hp hd;go_simp;exact HK.out _ _ bR rfl
      ·have e2:x 2=.pointer (some ⟨w.heap.size,3,none⟩):=hp.post 2 (hd 2 mz0);have q0:=(HC.out W hp.bel).2.1;simp only [e2] at HK ⊢;go_simp;exact HK.out _ _ bR rfl
      ·clear hK hK' hp hd;go_simp;exact HK.out _ _ bR rfl
      ·have e3:x 3=.slice (some ⟨g,off,none⟩) bs.length c4:=hp.post 3 (hd 3 mz0);have e4:x 4=.int .i64 (j:Int):=hp.post 4 (hd 4 mz1);simp only [e3,e4] at HK ⊢;go_simp;exact HK.out _ _ bR rfl
      ·have e5:x 5=.pointer (some ⟨g,off+j * 3,none⟩):=hp.post 5 (hd 5 mz0);obtain ⟨-,-,q0,q1,q2,-⟩:=HC.out W hp.bel;simp only [e5] at HK ⊢;go_simp;exact HK.out _ _ bR rfl
      ·have e6:x 6=.agg #[.bool y,.slice pa z.length pc,.string s]:=hp.post 6 (hd 6 mz0);have bl:=(HC.out W hp.bel).2.2.2.2.2;simp only [e6] at HK ⊢;go_simp;refine (zn2 y s _ z W (HP.out W bl) HPL.out.1).mono ?_;rintro e w6 ⟨p6,rfl,O6,B6⟩;go_simp;exact HK.out _ _ B6 ⟨p6,rfl,O6,fun i hi=>(O6.lt i hi).2⟩
      ·have e7:∃ u,x 7=.agg #[.bool y,u,.string s]/\SOwns W (iw 7).1 100 u z/\∀ i,u.ownBlock=some i->i < (iw 7).2:=hp.post 7 (hd 7 mz0);obtain ⟨p7,e7,O7,-⟩:=e7;obtain ⟨pb,pd,rfl⟩:=O7.rsl.form;clear O7;have HE:=hide e7;simp only [e7] at HK ⊢;clear e7;go_simp;exact HK.out _ _ ((Below.refl _ W).alloc nR _) ⟨rfl,by simp,.slice pb z.length pd,by rw [za8 _ _ _ _ (by decide)];exact HE.out,AtC.new W 74 _⟩
     ·intro x iw W hp;have e1:x 1=.slice gi ti.length ci:=hp.post 1 (by decide);obtain ⟨p7,e7,O7,-⟩:=hp.post 7 (by decide);obtain ⟨e8,-,p8,f8,A8⟩:=hp.post 8 (by decide);rw [e7] at f8;simp only [Value.agg.injEq,Array.mk.injEq,List.cons.injEq,and_true,true_and] at f8;subst f8;have l7:=(hp.lo 7 (by decide)).1;have hbel:=hp.bel;have O9:SOwns W wr.drew.heap.size 100 p7 z:=O7.base_le l7;obtain ⟨pb,pd,rfl⟩:=O9.rsl.form;have hT:TOwns W 74 (.slice gi ti.length ci) ti:=HX.out.1.of_heap fun k hk=>hbel.block k (HX.out.1.lt k hk);have HN:Hid (∀ v' w',TOwns w' 74 v' (ti ++ [(.bool y,.slice pb z.length pd,.string s)])->W.grownBy w' (Value.slice gi ti.length ci).ownBlock->(∀ k,v'.ownBlock=some k->(Value.slice gi ti.length ci).ownBlock=some k\/W.heap.size<=k)->(AtC w' b 35 #[.slice d1 xs.length f1,.slice d2 ys.length f2,.slice a7 is.length c7,.slice gi ti.length ci])/\Dz w (w'.setCell ⟨b,3,none⟩ v') #[.slice a1 xs.length c1,.slice a2 ys.length c2,.slice a3 is.length c3,.slice (some ⟨g,off,none⟩) bs.length c4] b (.slice d1 xs.length f1) (.slice d2 ys.length f2) (.slice a7 is.length c7) v' xs ys is (bs.take j ++ [(y,z,s)])):=fun v' w' h1 h2 h3=>HX.out.2.1 W w' v' _ (y,z,s) hbel ⟨rfl,O9.base_le (Nat.zero_le _),rfl⟩ (fun k hk=>(O9.lt k hk).1) h1 h2 h3;have HTL:Hid (ti.length<=1000000000000):=by have:=HX.out.2.2;show ti.length<=_;omega
      have HA8:=hide A8;have HT:=hide hT;generalize (iw 8).1=g8 at *;clear hT O9 O7 hp l7 hbel A8 HX HDS b0;simp only [e1,e7,e8];refine wpList_step fun K' hK'=>?_;refine zbc _ rfl (.tmp 36) (.tmp 43) 33 rfl 74 Tryz.u33 _ 48 Tryz.i74 rfl (by decide) (.slice gi ti.length ci) ti rfl HT.out g8 (.bool y,.slice pb z.length pd,.string s) rfl ⟨HA8.out.cell 0,HA8.out.cell 1,HA8.out.cell 2⟩ ⟨rfl,rfl,rfl⟩ HTL.out ?_;intro v9 w9 T9 G9 V9;refine hK' _ _ ?_;obtain ⟨e9,D9⟩:=HN.out v9 w9 T9 G9 V9;obtain ⟨g9,c9,rfl,-⟩:=T9.form;have e10:(ti ++ [((.bool y,.slice pb z.length pd,.string s):V3)]).length=ti.length+1:=by simp
      rw [e10] at D9 ⊢;clear e10;have z2:=e9.frozen 3;have z3:w9.cell? ⟨b,3,none⟩=some (.slice gi ti.length ci):=e9.cell 3;have H9:=hide D9;clear e9 D9 T9 G9 V9 HN HA8 HT HTL hK' K' e1 e7 e8;go_wp2_with fail
      rw [List.filterMap_nil];go_wp2;go_roundw
      case rel=>exact ⟨j+1,by omega,by go_num,_,by rw [← HTK.out];exact H9.out⟩
      case measure=>simp [intOf];omega
    ·have hj3:j=bs.length:=by omega
     subst hj3;rw [List.take_length] at hds;obtain ⟨-,-,-,-,-,-,p8,q8,-,-,-,rfl⟩:=hds.dsk.dr.form;have H7:=hide hds;have b0:wr.cell? ⟨w.heap.size,3,none⟩=some (.slice a4 bs.length c4):=hds.arg.cell 3;obtain ⟨y0,y1,y2,y3⟩:=AtC.four hds.box;obtain ⟨r0,r1,r2,r3⟩:=AtC.four hds.res;have v0:=hds.res.frozen 0;have v1:=hds.res.frozen 1;have v2:=hds.res.frozen 2;have v3:=hds.res.frozen 3;clear hds HR;go_wp2;refine bodyPost_ret (v:=.agg #[.slice d1 xs.length f1,.slice d2 ys.length f2,.slice a7 is.length c7,.slice p8 bs.length q8]) (by simp [results,go_sem,r0,r1,r2,r3]) rfl ⟨_,_,_,_,rfl,?_,?_⟩
     ·exact (H7.out.dsk.of_heap fun k hk _=>((((heap_setCell_other _ ⟨w.heap.size+1,3,none⟩ k _ (by show k≠w.heap.size+1;omega)).trans (heap_setCell_other _ ⟨w.heap.size+1,2,none⟩ k _ (by show k≠w.heap.size+1;omega))).trans (heap_setCell_other _ ⟨w.heap.size+1,1,none⟩ k _ (by show k≠w.heap.size+1;omega))).trans (heap_setCell_other _ ⟨w.heap.size+1,0,none⟩ k _ (by show k≠w.heap.size+1;omega)))).mono fun k hk=>by omega
     ·exact (((H7.out.bel.setCell (by simp) _).setCell (by simp) _).setCell (by simp) _).setCell (by simp) _
def BkE (A:Value) (F:Bool) (_ _:Nat) (_:World) (a r:Value):Prop:=a=A/\r=.bool F
theorem BkE.below {A:Value}{F:Bool}(lo hi:Nat)(w w':World)(a r:Value)(h:BkE A F lo hi w a r)(_:Below w.heap.size w w'):BkE A F lo hi w' a r:=h
def zas (xs ys:List Bool) (is:List Ino) (bs:List Blk):List Ino:=if zag xs ys is bs=true then mendP is bs else is
theorem zl5 (u v iv bv:Value)(xs ys:List Bool)(is:List Ino)(bs:List Blk)(w:World)(h:DR w u v iv bv xs ys is bs)(hG:Big 1048576 xs ys is bs) :
  Calls Tryz.prog 33 #[.agg #[u,v,iv,bv]] w fun e w'=>∃ u' v' i' b',e=.returned (.agg #[u',v',i',b'])/\DO w' (fun k=>w.heap.size<=k) u' v' i' b' xs ys (zas xs ys is bs) bs/\Below w.heap.size w w':=by
 obtain ⟨a1,c1,a2,c2,a3,c3,a4,c4,rfl,rfl,rfl,rfl⟩:=h.form;have HH:=hide h;have HG:=hide hG;obtain ⟨W0,hW0⟩:∃ W,((w.alloc (.cells #[.slice a1 xs.length c1,.slice a2 ys.length c2,.slice a3 is.length c3,.slice a4 bs.length c4] 35)).alloc (.cells #[.slice none 0 0,.slice none 0 0,.slice none 0 0,.slice none 0 0] 35))=W:=⟨_,rfl⟩
 have H0:Hid (Below w.heap.size w W0/\AtC W0 w.heap.size 35 #[.slice a1 xs.length c1,.slice a2 ys.length c2,.slice a3 is.length c3,.slice a4 bs.length c4]/\AtC W0 (w.heap.size+1) 35 noD/\W0.heap.size=w.heap.size+2):=by
  rw [← hW0];have q:=AtC.new (w.alloc (.cells #[.slice a1 xs.length c1,.slice a2 ys.length c2,.slice a3 is.length c3,.slice a4 bs.length c4] 35)) 35 #[.slice none 0 0,.slice none 0 0,.slice none 0 0,.slice none 0 0];rw [World.size_alloc] at q;exact ⟨((Below.refl _ w).alloc nR _).alloc (by simp) _,(AtC.new w 35 _).alloc _,q,by simp⟩
 obtain ⟨x0,x1,x2,x3⟩:=AtC.four H0.out.2.1;clear h hG;go_enter Tryz.func33,Tryz.ntmps33
 go_wp2_with fail
 refine (zc4 (.slice a1 xs.length c1) (.slice a2 ys.length c2) (.slice a3 is.length c3) (.slice a4 bs.length c4) xs ys is bs W0 (HH.out.below H0.out.1 nR) HG.out).mono ?_;rintro e w1 ⟨u1,u2,u3,u4,rfl,O1,B1⟩;obtain ⟨p1,q1,p2,q2,p3,q3,p4,q4,rfl,rfl,rfl,rfl⟩:=O1.dr.form;obtain ⟨b,hb⟩:∃ n,w1.heap.size=n:=⟨_,rfl⟩
 obtain ⟨W2,hW2⟩:∃ W,w1.alloc (.cells #[.slice p1 xs.length q1,.slice p2 ys.length q2,.slice (p3) is.length q3,.slice p4 bs.length q4] 35)=W:=⟨_,rfl⟩
 have H2:Hid (Below w.heap.size w W2/\AtC W2 w.heap.size 35 #[.slice a1 xs.length c1,.slice a2 ys.length c2,.slice a3 is.length c3,.slice a4 bs.length c4]/\AtC W2 (w.heap.size+1) 35 noD/\AtC W2 b 35 #[.slice p1 xs.length q1,.slice p2 ys.length q2,.slice (p3) is.length q3,.slice p4 bs.length q4]/\DO W2 (fun k=>w.heap.size+2<=k/\k≠b) (.slice p1 xs.length q1) (.slice p2 ys.length q2) (.slice (p3) is.length q3) (.slice p4 bs.length q4) xs ys is bs/\w.heap.size+2<=b/\W2.heap.size=b+1):=by
  have b1:=H0.out.1.trans (B1.mono H0.out.1.size);have s1:=B1.size;rw [H0.out.2.2.2,hb] at s1;rw [← hW2];refine ⟨b1.alloc b1.size _,(H0.out.2.1.over B1).alloc _,(H0.out.2.2.1.over B1).alloc _,by rw [← hb];exact AtC.new w1 35 _,?_,s1,by rw [World.size_alloc,hb]⟩;obtain ⟨ti,tb,L1⟩:=O1.dl;have L2:=L1.bound.do_.mono (S':=fun k=>w.heap.size+2<=k/\k≠b) fun k hk=>⟨by rw [← H0.out.2.2.2];exact hk.1,by have:=hk.2;omega⟩
  exact L2.alloc _
 obtain ⟨y0,y1,y2,y3⟩:=AtC.four H2.out.2.1;clear O1 B1 hW0 x0 x1 x2 x3 H0;go_wp2_with fail
 refine (zb7 (.slice a1 xs.length c1) (.slice a2 ys.length c2) (.slice a3 is.length c3) (.slice a4 bs.length c4) xs ys is bs W2 (HH.out.below H2.out.1 nR) (fun j hj k hk=>(HG.out.s j hj).2.1 k hk)).mono ?_;rintro e w3 ⟨rfl,B3⟩;have H3:Hid (Below w.heap.size w w3/\AtC w3 w.heap.size 35 #[.slice a1 xs.length c1,.slice a2 ys.length c2,.slice a3 is.length c3,.slice a4 bs.length c4]/\AtC w3 (w.heap.size+1) 35 noD/\AtC w3 b 35 #[.slice p1 xs.length q1,.slice p2 ys.length q2,.slice (p3) is.length q3,.slice p4 bs.length q4]/\DO w3 (fun k=>w.heap.size+2<=k/\k≠b) (.slice p1 xs.length q1) (.slice p2 ys.length q2) (.slice (p3) is.length q3) (.slice p4 bs.length q4) xs ys is bs/\w.heap.size+2<=b):=⟨H2.out.1.trans (B3.mono H2.out.1.size),H2.out.2.1.over B3,H2.out.2.2.1.over B3,H2.out.2.2.2.1.over B3,H2.out.2.2.2.2.1.below B3 nR,H2.out.2.2.2.2.2.1⟩
 clear B3 H2 hW2 hb y0 y1 y2 y3
 cases hok:zag xs ys is bs with
 | false =>
  have HM:Hid (zas xs ys is bs=is):=by unfold zas;rw [hok];rfl
  obtain ⟨r0,r1,r2,r3⟩:=AtC.four H3.out.2.2.1;have v0:=H3.out.2.2.1.frozen 0;have v1:=H3.out.2.2.1.frozen 1;have v2:=H3.out.2.2.1.frozen 2;have v3:=H3.out.2.2.1.frozen 3;obtain ⟨o0,o1,o2,o3⟩:=AtC.four H3.out.2.2.2.1;have hne:¬ b=w.heap.size+1:=by have:=H3.out.2.2.2.2.2;omega
  have hne2:¬ w.heap.size+1=b:=by have:=H3.out.2.2.2.2.2;omega
  obtain ⟨ti,tb,L3⟩:=H3.out.2.2.2.2.1.dl;have HF:=hide (OS.fin (A:=#[.slice a1 xs.length c1,.slice a2 ys.length c2,.slice a3 is.length c3,.slice a4 bs.length c4]) (n0:=w3.heap.size) ⟨L3.bound,H3.out.2.2.2.1,H3.out.2.2.1,H3.out.2.1,H3.out.1,H3.out.2.2.2.1.lt,H3.out.2.2.2.2.2,Nat.le_refl _⟩ (.slice p1 xs.length q1) (.slice p2 ys.length q2) (.slice p3 is.length q3) (.slice p4 bs.length q4));clear hok L3;go_wp2;refine bodyPost_ret (v:=.agg #[.slice p1 xs.length q1,.slice p2 ys.length q2,.slice (p3) is.length q3,.slice p4 bs.length q4]) (by simp [results,go_sem,r0,r1,r2,r3]) rfl ⟨_,_,_,_,rfl,?_,?_⟩
  ·rw [HM.out];exact HF.out.1
  ·exact HF.out.2
 | true =>
  have HM:Hid (zas xs ys is bs=mendP is bs):=by unfold zas;rw [hok];rfl
  have HO:=hide hok;have hX:=RX.of_ok hok;have HI8:=hide hX.r.hi;have HB16:=hide hX.r.hb;obtain ⟨g2,o2,sa2,sc2,e2,hg2,k2,-⟩:=DR.ino HH.out 0 (by rw [HI8.out];decide);subst e2;obtain ⟨kd,hkd⟩:∃ k,zab is 1=k:=⟨_,rfl⟩
  have HKD:=hide hkd;have k2':w3.cell? ⟨g2,o2,none⟩=some (.int .i64 kd):=by
   have:=(H3.out.1.cell (p:=⟨g2,o2+0 * 3,none⟩) hg2).trans k2;rw [← hkd];simpa using this
  obtain ⟨g3,e3,-⟩:∃ g3,p3=some ⟨g3,0,none⟩/\True:=by
   obtain ⟨ti,tb,hL⟩:=H3.out.2.2.2.2.1.dl;obtain ⟨g,c,e,h1,h2,h3,-⟩:=hL.ino 0 (by rw [HI8.out];decide);simp only [Value.slice.injEq] at e;exact ⟨g,e.1,trivial⟩
  subst e3;have z2:w3.cell? ⟨w.heap.size,2,none⟩=some (.slice (some ⟨g2,o2,none⟩) is.length c3):=H3.out.2.1.cell 2;have hl0:(0:Int) < (is.length:Int):=by have:=HI8.out;omega
  clear hok hX k2 hkd;go_upto_if 21 with fail
  go_cut [3] from 10 to 26 (fun pv wx=>pv=.pointer (some ⟨b,0,none⟩)/\DO wx (fun k=>w.heap.size+2<=k/\k≠b) (.slice p1 xs.length q1) (.slice p2 ys.length q2) (.slice (some ⟨g3,0,none⟩) is.length q3) (.slice p4 bs.length q4) xs ys (rootD is) bs/\Chg (fun k=>w.heap.size+2<=k/\k≠b) w3 wx)
  case first =>
   by_cases hk:kd=2
   ·have n1:(kd != 2)=false:=by simp [hk]
    have e0:Hid (rootD is=is):=by unfold rootD;exact if_pos (by rw [HKD.out];exact hk)
    clear hk;go_wp2_with fail
    go_meet
    exact ⟨rfl,by rw [e0.out];exact H3.out.2.2.2.2.1,Chg.refl _ _⟩
   ·have n1:(kd != 2)=true:=by simp [hk]
    have e0:Hid (rootD is=is.set 0 (2,1,[0,0])):=by unfold rootD;exact if_neg (by rw [HKD.out];exact hk)
    clear hk;have HW:Hid (∀ W,Below w3.heap.size w3 W->W.cell? ⟨b,2,none⟩=some (.slice (some ⟨g3,0,none⟩) is.length q3)/\(∃ v0,W.cell? ⟨g3,0,none⟩=some v0)/\(∃ v0,W.cell? ⟨g3,1,none⟩=some v0)/\(∃ v0,W.cell? ⟨g3,2,none⟩=some v0)/\W.frozen? ⟨g3,0,none⟩=false/\W.frozen? ⟨g3,1,none⟩=false/\W.frozen? ⟨g3,2,none⟩=false/\g3 < W.heap.size/\b < W.heap.size):=fun W hb=>by
     obtain ⟨⟨q1,q2,q3,q4,q5,q6,-⟩,q7,q8,-⟩:=(H3.out.2.2.2.2.1.below hb nR).atI rfl 0 (show 0 < is.length by rw [HI8.out];decide);exact ⟨(H3.out.2.2.2.1.over hb).cell 2,⟨_,q4⟩,⟨_,q5⟩,⟨_,q6⟩,q7 0,q7 1,q7 2,q8,(H3.out.2.2.2.1.over hb).lt⟩
    have HPUT:Hid (∀ (W:World) (nv:Value),ROwns W w3.heap.size 3 nv (ic [0,0])->Below w3.heap.size w3 W->DO (((W.setCell ⟨g3,0,none⟩ (.int .i64 2)).setCell ⟨g3,1,none⟩ (.int .i64 (zau 2))).setCell ⟨g3,2,none⟩ nv) (fun k=>w.heap.size+2<=k/\k≠b) (.slice p1 xs.length q1) (.slice p2 ys.length q2) (.slice (some ⟨g3,0,none⟩) is.length q3) (.slice p4 bs.length q4) xs ys (rootD is) bs/\Chg (fun k=>w.heap.size+2<=k/\k≠b) w3 (((W.setCell ⟨g3,0,none⟩ (.int .i64 2)).setCell ⟨g3,1,none⟩ (.int .i64 (zau 2))).setCell ⟨g3,2,none⟩ nv)):=fun W nv ho hb=>by
     have hbl:=H3.out.2.2.2.1.lt;have hBw:=H3.out.2.2.2.2.2;have hgs:=(H3.out.2.2.2.2.1.atI rfl 0 (show 0 < is.length by rw [HI8.out];decide)).2.2.2.2;rw [e0.out];refine ⟨(H3.out.2.2.2.2.1.putI rfl 0 (show 0 < is.length by rw [HI8.out];decide) (.int .i64 2,.int .i64 (zau 2),nv) (2,1,[0,0]) hb ⟨rfl,rfl,ho.base_le (Nat.zero_le _)⟩ (fun k hk=>by have:=(ho.lt k hk).1;omega)).mono fun k hk=>hk.elim id (fun e=>⟨by omega,by omega⟩),(((Chg.of_below hb).setCell hgs _).setCell hgs _).setCell hgs _⟩
    obtain ⟨n0,⟨p0',k0⟩,⟨p1',k1⟩,⟨p2',k2⟩,f0,f1,f2,g0,g1⟩:=HW.out w3 bR;go_upto_region 5 with fail
    go_region_with (go_at_call 72;refine (zek 2 _).mono ?_;rintro e w5 ⟨nv,rfl,O5,B5⟩;obtain ⟨na,nc,rfl⟩:=O5.form2;have HO5:=hide (And.intro O5 B5);obtain ⟨n0',⟨p0'',k0'⟩,⟨p1'',k1'⟩,⟨p2'',k2''⟩,f0',f1',f2',g0',g1'⟩:=HW.out w5 (zaa B5);clear O5 B5)
    all_goals (go_wp2_with fail;go_meet;exact ⟨rfl,HPUT.out w5 _ HO5.out.1 (zaa HO5.out.2)⟩)
  case rest =>
   obtain ⟨rfl,D4,C4⟩:=hcut;obtain ⟨ti,tb,L4⟩:=D4.dl;obtain ⟨n0,hn0⟩:∃ n,wc.heap.size=n:=⟨_,rfl⟩
   have H4:Hid (OS w wc b n0 #[.slice a1 xs.length c1,.slice a2 ys.length c2,.slice (some ⟨g2,o2,none⟩) is.length c3,.slice a4 bs.length c4] (.slice p1 xs.length q1) (.slice p2 ys.length q2) (.slice (some ⟨g3,0,none⟩) is.length q3) (.slice p4 bs.length q4) ti tb xs ys (rootD is) bs):=by
    have hBw:=H3.out.2.2.2.2.2;have l3:=H3.out.2.2.2.1.lt;have s4:=C4.size;have s3:=H3.out.1.size;refine ⟨by rw [← hn0];exact L4.bound,(C4.block b l3 (fun e=>e.2 rfl)).trans H3.out.2.2.2.1,(C4.block _ (by omega) (fun e=>by omega)).trans H3.out.2.2.1,(C4.block _ (by omega) (fun e=>by omega)).trans H3.out.2.1,H3.out.1.trans (C4.below s3 (fun k hk=>by omega)),by omega,hBw,by omega⟩
   obtain ⟨W5,hW5⟩:∃ W,wc.alloc (.cells #[] 3)=W:=⟨_,rfl⟩
   have H5:Hid (OS w W5 b n0 #[.slice a1 xs.length c1,.slice a2 ys.length c2,.slice (some ⟨g2,o2,none⟩) is.length c3,.slice a4 bs.length c4] (.slice p1 xs.length q1) (.slice p2 ys.length q2) (.slice (some ⟨g3,0,none⟩) is.length q3) (.slice p4 bs.length q4) ti tb xs ys (mpI is bs 0).1 bs/\ROwns W5 n0 3 (.slice (some ⟨n0,0,none⟩) 0 0) (ic (mpI is bs 0).2)):=by
    rw [← hW5,← hn0];rw [← hn0] at H4;exact ⟨H4.out.below ((Below.refl _ wc).alloc nR _),ROwns.lit0 wc wc.heap.size 3 nR⟩
   clear L4 D4 C4 H3 H4;go_wp2_with fail
   go_loopw [4,5] (fun sv kv wr=>∃ (s':Value) (j:Nat),s'=sv/\j<=is.length/\kv=.int .i64 j/\Hid (OS w wr b n0 #[.slice a1 xs.length c1,.slice a2 ys.length c2,.slice (some ⟨g2,o2,none⟩) is.length c3,.slice a4 bs.length c4] (.slice p1 xs.length q1) (.slice p2 ys.length q2) (.slice (some ⟨g3,0,none⟩) is.length q3) (.slice p4 bs.length q4) ti tb xs ys (mpI is bs j).1 bs/\ROwns wr n0 3 s' (ic (mpI is bs j).2))) (fun _ kv _=>is.length - (intOf kv).toNat)
   case atStart=>exact ⟨_,0,rfl,Nat.zero_le _,rfl,H5.out⟩
   case round =>
    obtain ⟨sv,j,hsv,hj,rfl,HR⟩:=hrel;subst hsv;clear H5 hn0 hW5;have jj0:(0:Int)<=(j:Int):=by omega
    have o2':wr.cell? ⟨b,2,none⟩=some (.slice (some ⟨g3,0,none⟩) is.length q3):=HR.out.1.o.cell 2;by_cases hlt:j < is.length
    rotate_left
    ·have jj1:¬ ((j:Int) < (is.length:Int)):=by omega
     obtain ⟨r0,r1,r2,r3⟩:=AtC.four HR.out.1.r;have v0:=HR.out.1.r.frozen 0;have v1:=HR.out.1.r.frozen 1;have v2:=HR.out.1.r.frozen 2;have v3:=HR.out.1.r.frozen 3;have o0:wr.cell? ⟨b,0,none⟩=some (.slice p1 xs.length q1):=HR.out.1.o.cell 0;have o1:wr.cell? ⟨b,1,none⟩=some (.slice p2 ys.length q2):=HR.out.1.o.cell 1;have o3:wr.cell? ⟨b,3,none⟩=some (.slice p4 bs.length q4):=HR.out.1.o.cell 3;have hne:¬ b=w.heap.size+1:=by have:=HR.out.1.Bn;omega
     have hne2:¬ w.heap.size+1=b:=by have:=HR.out.1.Bn;omega
     have HF:=hide (HR.out.1.fin (.slice p1 xs.length q1) (.slice p2 ys.length q2) (.slice (some ⟨g3,0,none⟩) is.length q3) (.slice p4 bs.length q4));have HE:Hid ((mpI is bs j).1=mendP is bs):=by show _=_;rw [show j=8 by have:=HI8.out;omega];exact mpI_all is bs
     go_wp2;refine bodyPost_ret (v:=.agg #[.slice p1 xs.length q1,.slice p2 ys.length q2,.slice (some ⟨g3,0,none⟩) is.length q3,.slice p4 bs.length q4]) (by simp [results,go_sem,r0,r1,r2,r3]) rfl ⟨_,_,_,_,rfl,?_,?_⟩
     ·rw [HM.out,← HE.out];exact HF.out.1
     ·exact HF.out.2
    have jj1:(j:Int) < (is.length:Int):=by omega
    have HPI:=hide ((PI.begin HO.out).steps (kndQ (rootD is) j));rw [show mpF bs (rootD is,[]) (kndQ (rootD is) j)=mpI is bs j from rfl] at HPI;have HSC:=hide (mpI_succ is bs j);obtain ⟨st,hst⟩:∃ x,mpI is bs j=x:=⟨_,rfl⟩
    rw [hst] at HR HPI HSC;have HJ8:Hid (j < 8):=by have:=HI8.out;show j < 8;omega
    have hj8:j < 8:=HJ8.out;have hjs:j < st.1.length:=by have:=(zaj HPI.out.ok).2.2.1;have:=HJ8.out;omega
    obtain ⟨g',c',ei,-,-,-,y0,y1,y2,ro,-⟩:=HR.out.1.d.ino j hjs;simp only [Value.slice.injEq,Option.some.injEq,Addr.mk.injEq] at ei;obtain ⟨⟨rfl,-⟩,-,-⟩:=ei;have h2:st.1[j].2.2.length=2:=(RX.of_ok HPI.out.ok).r.two _ (List.getElem_mem hjs);obtain ⟨gp,cp,ep,-,-,-,hgp,-⟩:=ro.at 0 (by rw [zaf,h2];decide);rw [zaf,h2] at ep;rw [ep] at y2;have HEP:=hide ep;have HKQ:Hid (zab (rootD is) ((j:Int)+1)=st.1[j].1):=by show _=_;rw [← HPI.out.kd,(zai hjs).1]
    obtain ⟨kj,hkj⟩:∃ x,st.1[j].1=x:=⟨_,rfl⟩
    obtain ⟨lj,hlj⟩:∃ x,st.1[j].2.1=x:=⟨_,rfl⟩
    rw [hkj] at y0 HKQ;rw [hlj] at y1;rw [HKQ.out] at HSC;have HKJ:Hid (∀ t,(hx:j < (mpK bs st j t).1.length)->(mpK bs st j t).1[j].1=kj):=fun t hx=>by
     have e1:=(HPI.out.stepK j t).kd ((j:Int)+1);rw [(zai hx).1] at e1;rw [e1,HKQ.out]
    obtain ⟨xb,hxb⟩:∃ n,wr.heap.size=n:=⟨_,rfl⟩
    obtain ⟨W6,hW6⟩:∃ W,wr.alloc (.cells #[.int .i64 kj,.int .i64 lj,.slice (some ⟨gp,0,none⟩) 2 cp] 63)=W:=⟨_,rfl⟩
    have H6:Hid (OS w W6 b n0 #[.slice a1 xs.length c1,.slice a2 ys.length c2,.slice (some ⟨g2,o2,none⟩) is.length c3,.slice a4 bs.length c4] (.slice p1 xs.length q1) (.slice p2 ys.length q2) (.slice (some ⟨g3,0,none⟩) is.length q3) (.slice p4 bs.length q4) ti tb xs ys (mpK bs st j 0).1 bs/\ROwns W6 n0 3 sv (ic (mpK bs st j 0).2)/\AtC W6 xb 63 #[.int .i64 kj,.int .i64 lj,.slice (some ⟨gp,0,none⟩) 2 cp]/\(∀ k,sv.ownBlock=some k->k≠xb)/\n0<=xb/\(kj=0->0=0)):=by
     have bl:=(Below.refl _ wr).alloc nR (.cells #[.int .i64 kj,.int .i64 lj,.slice (some ⟨gp,0,none⟩) 2 cp] 63);rw [← hW6,← hxb];exact ⟨HR.out.1.below bl,HR.out.2.below bl nR,AtC.new wr 63 _,fun k hk e=>by have:=(HR.out.2.lt k hk).2;omega,HR.out.1.nn,fun _=>rfl⟩
    clear hst ro h2 ep HR hkj hlj;go_wp2_with fail
    go_loopw [4,7] (fun sv kv wr=>∃ (s':Value) (t:Nat),s'=sv/\t<=2/\kv=.int .i64 t/\Hid (OS w wr b n0 #[.slice a1 xs.length c1,.slice a2 ys.length c2,.slice (some ⟨g2,o2,none⟩) is.length c3,.slice a4 bs.length c4] (.slice p1 xs.length q1) (.slice p2 ys.length q2) (.slice (some ⟨g3,0,none⟩) is.length q3) (.slice p4 bs.length q4) ti tb xs ys (mpK bs st j t).1 bs/\ROwns wr n0 3 s' (ic (mpK bs st j t).2)/\AtC wr xb 63 #[.int .i64 kj,.int .i64 lj,.slice (some ⟨gp,0,none⟩) 2 cp]/\(∀ k,s'.ownBlock=some k->k≠xb)/\n0<=xb/\(kj=0->t=0))) (fun _ kv _=>2 - (intOf kv).toNat)
    case atStart=>exact ⟨_,0,rfl,Nat.zero_le _,rfl,H6.out.1,H6.out.2.1,H6.out.2.2.1,H6.out.2.2.2.1,H6.out.2.2.2.2.1,fun _=>rfl⟩
    case round =>
     obtain ⟨sv',t,hsv,ht,rfl,HT⟩:=hrel;subst hsv;clear H6 hxb hW6 o2' y0 y1 y2;have t0:(0:Int)<=(t:Int):=by omega
     have g0:wr.cell? ⟨xb,0,none⟩=some (.int .i64 kj):=HT.out.2.2.1.cell 0;have g1:wr.cell? ⟨xb,2,none⟩=some (.slice (some ⟨gp,0,none⟩) 2 cp):=HT.out.2.2.1.cell 2;by_cases htl:t < 2
     rotate_left
     ·have t1:¬ ((t:Int) < (2:Int)):=by omega
      have HE:Hid (mpI is bs (j+1)=mpK bs st j t):=by
       show _=_;rw [HSC.out,if_neg (fun e=>by have:=HT.out.2.2.2.2.2 e;omega),show t=2 by omega]
      go_wp2;go_roundw
      case rel=>exact ⟨sv',j+1,rfl,by omega,by go_num,by rw [HE.out];exact ⟨HT.out.1,HT.out.2.1⟩⟩
      case measure=>simp [intOf];omega
     have t1:(t:Int) < (2:Int):=by omega
     by_cases hk0:kj=0
     ·have n1:(kj != 0)=false:=by simp [hk0]
      have HE:Hid (mpI is bs (j+1)=mpK bs st j t):=by
       show _=_;rw [HSC.out,if_pos hk0,HT.out.2.2.2.2.2 hk0];rfl
      clear hk0;go_wp2;go_roundw
      case rel=>exact ⟨sv',j+1,rfl,by omega,by go_num,by rw [HE.out];exact ⟨HT.out.1,HT.out.2.1⟩⟩
      case measure=>simp [intOf];omega
     have n1:(kj != 0)=true:=by simp [hk0]
     have HK0:=hide hk0;clear hk0;have HPI2:=hide (HPI.out.stepK j t);have HSN:Hid (mpK bs st j (t+1)=stepP bs (mpK bs st j t) j t):=rfl;have HKJ2:=hide (HKJ.out t);obtain ⟨st2,hst2⟩:∃ x,mpK bs st j t=x:=⟨_,rfl⟩
     rw [hst2] at HT HPI2 HSN HKJ2;have hj2:j < st2.1.length:=by have:=(zaj HPI2.out.ok).2.2.1;have:=HJ8.out;omega
     have h22:st2.1[j].2.2.length=2:=(RX.of_ok HPI2.out.ok).r.two _ (List.getElem_mem hj2);have ht2:t < st2.1[j].2.2.length:=by omega
     have HSE:=hide (zk9 bs st2 j t hj2 ht2);rw [HKJ2.out hj2] at HSE;have hep:(ti.getD j zI3).2.2=.slice (some ⟨gp,0,none⟩) st2.1[j].2.2.length cp:=by rw [h22];exact HEP.out
     have HPTR:=hide (fun W (hb:Below wr.heap.size wr W)=>(HT.out.1.below hb).ptr j hj2 hep t);rw [HKJ2.out hj2] at HPTR;have HCP:Hid (∀ W,Below wr.heap.size wr W->W.cell? ⟨gp,t,none⟩=some (.int .i64 st2.1[j].2.2[t])/\W.frozen? ⟨gp,t,none⟩=false/\gp < W.heap.size/\W.cell? ⟨g3,j * 3+2,none⟩=some (.slice (some ⟨gp,0,none⟩) 2 cp)/\W.cell? ⟨xb,0,none⟩=some (.int .i64 kj)/\W.cell? ⟨xb,2,none⟩=some (.slice (some ⟨gp,0,none⟩) 2 cp)/\AtC W b 35 #[.slice p1 xs.length q1,.slice p2 ys.length q2,.slice (some ⟨g3,0,none⟩) is.length q3,.slice p4 bs.length q4]/\OS w W b n0 #[.slice a1 xs.length c1,.slice a2 ys.length c2,.slice (some ⟨g2,o2,none⟩) is.length c3,.slice a4 bs.length c4] (.slice p1 xs.length q1) (.slice p2 ys.length q2) (.slice (some ⟨g3,0,none⟩) is.length q3) (.slice p4 bs.length q4) ti tb xs ys st2.1 bs/\ROwns W n0 3 sv' (ic st2.2)/\AtC W xb 63 #[.int .i64 kj,.int .i64 lj,.slice (some ⟨gp,0,none⟩) 2 cp]):=fun W hb=>by
      have o1:=HT.out.1.below hb;obtain ⟨g',c',ei,-,-,-,-,-,y2,ro,-⟩:=o1.d.ino j hj2;simp only [Value.slice.injEq,Option.some.injEq,Addr.mk.injEq] at ei;obtain ⟨⟨rfl,-⟩,-,-⟩:=ei;rw [HEP.out] at y2;rw [hep] at ro;obtain ⟨g',c',e',k1,f1,-,l1,-⟩:=ro.at t (by rw [zaf];exact ht2);simp only [Value.slice.injEq,Option.some.injEq,Addr.mk.injEq] at e';obtain ⟨⟨rfl,-⟩,-,-⟩:=e';have ax:=HT.out.2.2.1.over hb;exact ⟨by rw [k1];simp [ic,ht2],f1,l1,y2,ax.cell 0,ax.cell 2,o1.o,o1,HT.out.2.1.below hb nR,ax⟩
     obtain ⟨pn,hpn⟩:∃ x,st2.1[j].2.2[t]=x:=⟨_,rfl⟩
     rw [hpn] at HSE HCP;have CB:=hide (fun (W:World) (hb:Below wr.heap.size wr W)=>zla pn (.slice p1 xs.length q1) (.slice p2 ys.length q2) (.slice (some ⟨g3,0,none⟩) is.length q3) (.slice p4 bs.length q4) ti tb xs ys st2.1 bs _ W (HT.out.1.below hb).d HB16.out);obtain ⟨sl,hsl⟩:∃ x,slv tb bs pn=x:=⟨_,rfl⟩
     obtain ⟨⟨bd,bss,btx⟩,hBD⟩:∃ X,blkAt bs pn=X:=⟨_,rfl⟩
     have HWP:Hid (∀ F,inB pn 1 16=F->zgl bs kj pn=(bd != (kj == 2))):=fun F _=>by unfold zgl;rw [hBD]
     obtain ⟨F,hF⟩:∃ F,inB pn 1 16=F:=⟨_,rfl⟩
     have HWQ:=hide (HWP.out F hF);rw [hsl,hBD,hF] at CB;rw [hF,HWQ.out] at HSE;obtain ⟨wo,hwo⟩:∃ wo,wo=wr:=⟨_,rfl⟩
     subst hwo;have HFR:Hid (∀ k,sv'.ownBlock=some k->k≠xb/\n0<=k):=fun k hk=>⟨HT.out.2.2.2.1 k hk,(HT.out.2.1.lt k hk).1⟩
     have HXN:Hid (n0<=xb):=HT.out.2.2.2.2.1;have HSL:Hid (∃ sa sn sc,sl=.slice sa sn sc):=by
      rw [← hsl];unfold slv
      split
      ·rename_i hin;obtain ⟨h1,h2⟩:=zao hin;obtain ⟨-,-,-,-,-,-,-,-,so,-⟩:=HT.out.1.d.blk (pn - 1).toNat (by omega);obtain ⟨sa,sc,e,-⟩:=so.form;exact ⟨sa,_,sc,e⟩
      ·exact ⟨_,_,_,rfl⟩
     obtain ⟨sa,sn,sc,rfl⟩:=HSL.out;clear hst2 hpn hBD hF hsl HWP HT h22 HPI HKJ HKQ HEP hep ht2;go_upto_region 14 with fail
     clear g0 g1;go_cut [8,9] from 39 to 93 (fun bv ok wx=>∃ bw:Nat,bv=.pointer (some ⟨bw,0,none⟩)/\ok=.bool F/\AtC wx bw 74 #[.bool bd,.slice sa sn sc,.string btx]/\Below wo.heap.size wo wx/\wo.heap.size<=bw)
     case first =>
      refine zad (by kernel_rfl) [0,1,2,3,4,5,6,7,8,9,10] [11,12] [([0,1,2,3,4,5,6,7,8,10],[[9,11,12],[11,9,12]])] (fun i=>match i with|0=>.const [] (.agg #[.slice p1 xs.length q1,.slice p2 ys.length q2,.slice (some ⟨g3,0,none⟩) is.length q3,.slice p4 bs.length q4])|1=>.const [] (.pointer (some ⟨xb,2,none⟩))|2=>.const [1] (.slice (some ⟨gp,0,none⟩) 2 cp)|3=>.const [] (.int .i64 (t:Int))|4=>.const [2,3] (.pointer (some ⟨gp,t,none⟩))|5=>.const [4] (.int .i64 pn)|6=>MkT2 [0,5] (BkE (.agg #[.bool bd,.slice sa sn sc,.string btx]) F) BkE.below|7=>MkMv 6|8=>MkFs 7|9=>MkSd 7|10=>MkW 74 #[.bool false,.slice none 0 0,.string ⟨#[]⟩]|_=>.triv) (fun x=>⟨List.toArray ((.agg #[.slice a1 xs.length c1,.slice a2 ys.length c2,.slice (some ⟨g2,o2,none⟩) is.length c3,.slice a4 bs.length c4])::(.pointer (some ⟨w.heap.size,0,none⟩))::(.pointer (some ⟨w.heap.size+1,0,none⟩))::(.pointer (some ⟨b,0,none⟩))::(sv')::(.int .i64 ↑j)::(.pointer (some ⟨xb,0,none⟩))::(.int .i64 ↑t)::(x 10)::(u9)::(u10)::(u11)::(u12)::(u13)::(u14)::(u15)::(u16)::(u17)::(u18)::(u19)::(u20)::(u21)::(u22)::(u23)::(u24)::(u25)::(.slice (some ⟨n0,0,none⟩) 0 0)::(.int .i64 ↑j)::(.pointer (some ⟨b,2,none⟩))::(.slice (some ⟨g3,0,none⟩) is.length q3)::(.int .i64 ↑is.length)::(.bool true)::(u32)::(u33)::(.pointer (some ⟨b,2,none⟩))::(.slice (some ⟨g3,0,none⟩) is.length q3)::(.int .i64 ↑j)::(.pointer (some ⟨g3,j * 3,none⟩))::(.agg #[.int .i64 kj,.int .i64 lj,.slice (some ⟨gp,0,none⟩) 2 cp])::(.int .i64 ↑t)::(.pointer (some ⟨xb,2,none⟩))::(.slice (some ⟨gp,0,none⟩) 2 cp)::(.int .i64 2)::(.bool true)::(.bool true)::(.pointer (some ⟨xb,0,none⟩))::(.int .i64 kj)::(.bool true)::(.bool true)::(u49)::(u50)::(x 7)::(x 0)::(x 1)::(x 2)::(x 3)::(x 4)::(x 5)::(x 6)::(x 8)::(x 9)::(u61)::(u62)::(u63)::(u64)::(u65)::(u66)::(u67)::(u68)::(u69)::(u70)::(u71)::(u72)::(u73)::(u74)::(u75)::(u76)::(u77)::(u78)::(u79)::(u80)::(u81)::(u82)::(u83)::(u84)::(u85)::(u86)::(u87)::(u88)::(u89)::(u90)::(u91)::(u92)::(u93)::(undef)::[]),[]⟩) (fun i=>match i with|0=>u52|1=>u53|2=>u54|3=>u55|4=>u56|5=>u57|6=>u58|7=>u51|8=>u59|9=>u60|10=>u8|_=>undef) rfl (zae (by kernel_rfl) (by kernel_rfl)) (by kernel_rfl) (by kernel_rfl) (by kernel_rfl) rfl ?_ ?_ ?_
      ·intro jo hj so x iw W hd hp K hK;simp only [List.mem_cons,List.not_mem_nil,or_false] at hj;rcases hj with rfl|rfl|rfl|rfl|rfl|rfl|rfl|rfl|rfl|rfl|rfl<;>refine wpOp_step (o:=_) rfl fun K' hK'=>?_<;>have HK:=hide (fun (v:Value) (W':World) h1 h2=>hK' _ _ (hK v W' h1 h2))<;>simp only [upd,Nat.reduceEqDiff,if_true,if_false] at HK
       ·have bw:=zaa hp.bel;have k0:=(HCP.out W bw).2.2.2.2.2.2.1;obtain ⟨q09,q19,q29,q39⟩:=AtC.four k0;clear k0 bw;go_simp;exact HK.out _ _ bR rfl
       ·clear hK hK' hp hd;go_simp;exact HK.out _ _ bR rfl
       ·have e1:x 1=.pointer (some ⟨xb,2,none⟩):=hp.post 1 (hd 1 mz0);have bw:=zaa hp.bel;have q5:=(HCP.out W bw).2.2.2.2.2.1;clear bw;simp only [e1] at HK ⊢;go_simp;exact HK.out _ _ bR rfl
       ·clear hK hK' hp hd;go_simp;exact HK.out _ _ bR rfl
       ·have e2:x 2=.slice (some ⟨gp,0,none⟩) 2 cp:=hp.post 2 (hd 2 mz0);have e3:x 3=.int .i64 (t:Int):=hp.post 3 (hd 3 mz1);simp only [e2,e3] at HK ⊢;go_simp;exact HK.out _ _ bR rfl
       ·have e4:x 4=.pointer (some ⟨gp,t,none⟩):=hp.post 4 (hd 4 mz0);have bw:=zaa hp.bel;have q5:=(HCP.out W bw).1;clear bw;simp only [e4] at HK ⊢;go_simp;exact HK.out _ _ bR rfl
       ·have e0:x 0=.agg #[.slice p1 xs.length q1,.slice p2 ys.length q2,.slice (some ⟨g3,0,none⟩) is.length q3,.slice p4 bs.length q4]:=hp.post 0 (hd 0 mz0);have e5:x 5=.int .i64 pn:=hp.post 5 (hd 5 mz1);have dr:=zaa hp.bel;simp only [e0,e5] at HK ⊢;clear e0 e5;go_simp;refine (CB.out W dr).mono ?_;rintro e w6 ⟨rfl,B6⟩;go_simp;exact HK.out _ _ B6 ⟨_,_,rfl,rfl,rfl⟩
       ·have e6:∃ a r,x 6=.tuple #[a,r]/\BkE (.agg #[.bool bd,.slice sa sn sc,.string btx]) F (iw 6).1 (iw 6).2 W a r:=hp.post 6 (hd 6 mz0);obtain ⟨a,r,e6,-⟩:=e6;have ea:=hide e6;simp only [e6] at HK ⊢;clear e6;go_simp;exact HK.out _ _ bR ⟨ea.out,a,r,rfl⟩
       ·have e7:x 6=x 7/\∃ a r,x 7=.tuple #[a,r]:=hp.post 7 (hd 7 mz0);obtain ⟨-,a,r,e7⟩:=e7;have ea:Hid (a=fstOf (x 7)):=by rw [e7];rfl
        simp only [e7] at HK ⊢;clear e7;go_simp;exact HK.out _ _ bR ea.out
       ·have e7:x 6=x 7/\∃ a r,x 7=.tuple #[a,r]:=hp.post 7 (hd 7 mz0);obtain ⟨-,a,r,e7⟩:=e7;have ea:Hid (r=sndOf (x 7)):=by rw [e7];rfl
        simp only [e7] at HK ⊢;clear e7;go_simp;exact HK.out _ _ bR ea.out
       ·clear hK hK' hp hd;go_simp;exact HK.out _ _ ((Below.refl _ W).alloc nR _) ⟨rfl,by simp,AtC.new W 74 _⟩
      ·intro x iw W hp;obtain ⟨a,r,e6,R6⟩:=hp.post 6 (by decide);obtain ⟨e7,-⟩:=hp.post 7 (by decide);have e8:x 8=fstOf (x 7):=hp.post 8 (by decide);have e9:x 9=sndOf (x 7):=hp.post 9 (by decide);obtain ⟨e10,z10,A10⟩:=hp.post 10 (by decide);have l10:=hp.lo 10 (by decide);have lc:=hp.lo 6 (by decide);have bel:=zaa hp.bel;have ap:=hp.apart 6 (by decide) 10 (by decide) (by decide);rw [← e7,e6] at e8;rw [← e7,e6] at e9
       replace e9:x 9=r:=e9
       rw [e6] at e7
       replace e7:=e7.symm
       replace e8:x 8=a:=e8
       have y0:W.cell? ⟨(iw 10).1,0,none⟩=some (.bool false):=A10.cell 0;have f0:=A10.frozen 0;have y1:W.cell? ⟨(iw 10).1,1,none⟩=some (.slice none 0 0):=A10.cell 1;have f1:=A10.frozen 1;have y2:W.cell? ⟨(iw 10).1,2,none⟩=some (.string ⟨#[]⟩):=A10.cell 2;have f2:=A10.frozen 2;obtain ⟨rfl,rfl⟩:=R6;have hb10:wo.heap.size<=(iw 10).1:=l10.1;have HFI:Hid (AtC W (iw 10).1 74 #[.bool false,.slice none 0 0,.string ⟨#[]⟩]/\Below wo.heap.size wo W/\wo.heap.size<=(iw 10).1):=⟨A10,bel,hb10⟩
       clear hp A10 bel ap lc l10 z10 hb10;simp only [e7,e8,e10,e9] at *;generalize (iw 10).1=bw at *;go_wp2_with fail
       try rw [List.filterMap_nil]
       try go_wp2_with fail
       go_meet
       exact ⟨bw,rfl,rfl,((HFI.out.1.set 0 _).set 1 _).set 2 _,((HFI.out.2.1.setCell (p:=⟨bw,0,none⟩) HFI.out.2.2 _).setCell (p:=⟨bw,1,none⟩) HFI.out.2.2 _).setCell (p:=⟨bw,2,none⟩) HFI.out.2.2 _,HFI.out.2.2⟩
      ·intro qa hqa l hl x iw W hp;simp only [List.mem_cons,List.not_mem_nil,or_false] at hqa;subst hqa;simp only [List.mem_cons,List.not_mem_nil,or_false] at hl;obtain ⟨a,r,e6,R6⟩:=hp.post 6 (by decide);obtain ⟨e7,-⟩:=hp.post 7 (by decide);have e8:x 8=fstOf (x 7):=hp.post 8 (by decide);obtain ⟨e10,z10,A10⟩:=hp.post 10 (by decide);have l10:=hp.lo 10 (by decide);have lc:=hp.lo 6 (by decide);have bel:=zaa hp.bel;have ap:=hp.apart 6 (by decide) 10 (by decide) (by decide);rw [← e7,e6] at e8;rw [e6] at e7
       replace e7:=e7.symm
       replace e8:x 8=a:=e8
       have y0:W.cell? ⟨(iw 10).1,0,none⟩=some (.bool false):=A10.cell 0;have f0:=A10.frozen 0;have y1:W.cell? ⟨(iw 10).1,1,none⟩=some (.slice none 0 0):=A10.cell 1;have f1:=A10.frozen 1;have y2:W.cell? ⟨(iw 10).1,2,none⟩=some (.string ⟨#[]⟩):=A10.cell 2;have f2:=A10.frozen 2;obtain ⟨rfl,rfl⟩:=R6;have hb10:wo.heap.size<=(iw 10).1:=l10.1;have HFI:Hid (AtC W (iw 10).1 74 #[.bool false,.slice none 0 0,.string ⟨#[]⟩]/\Below wo.heap.size wo W/\wo.heap.size<=(iw 10).1):=⟨A10,bel,hb10⟩
       clear hp A10 bel ap lc l10 z10 hb10;simp only [e7,e8,e10] at *;generalize (iw 10).1=bw at *;rcases hl with rfl | rfl
       ·go_wp2_with fail
        try rw [List.filterMap_nil]
        try go_wp2_with fail
        go_meet
        exact ⟨bw,rfl,rfl,((HFI.out.1.set 0 _).set 1 _).set 2 _,((HFI.out.2.1.setCell (p:=⟨bw,0,none⟩) HFI.out.2.2 _).setCell (p:=⟨bw,1,none⟩) HFI.out.2.2 _).setCell (p:=⟨bw,2,none⟩) HFI.out.2.2 _,HFI.out.2.2⟩
       ·go_wp2_with fail
        try rw [List.filterMap_nil]
        try go_wp2_with fail
        go_meet
        exact ⟨bw,rfl,rfl,((HFI.out.1.set 0 _).set 1 _).set 2 _,((HFI.out.2.1.setCell (p:=⟨bw,0,none⟩) HFI.out.2.2 _).setCell (p:=⟨bw,1,none⟩) HFI.out.2.2 _).setCell (p:=⟨bw,2,none⟩) HFI.out.2.2 _,HFI.out.2.2⟩
     case rest =>
      obtain ⟨bw,rfl,rfl,Aw,Bw,lw⟩:=hcut;obtain ⟨k1,f1,l1,k2,k3,k4,ab,o4,s4,ax⟩:=HCP.out wc Bw;have HREL:=hide (And.intro o4 (And.intro s4 ax));have HK0':Hid (kj=0->t+1=0):=fun e=>absurd e HK0.out;have hgn:gp < n0:=(HPTR.out wc Bw).2.1;have HP1:=hide (HPTR.out wc Bw).1;have b0:wc.cell? ⟨bw,0,none⟩=some (.bool bd):=Aw.cell 0;have ob2:wc.cell? ⟨b,2,none⟩=some (.slice (some ⟨g3,0,none⟩) is.length q3):=ab.cell 2;have HSTO:Hid (OS w (wc.setCell ⟨gp,t,none⟩ (.int .i64 0)) b n0 #[.slice a1 xs.length c1,.slice a2 ys.length c2,.slice (some ⟨g2,o2,none⟩) is.length c3,.slice a4 bs.length c4] (.slice p1 xs.length q1) (.slice p2 ys.length q2) (.slice (some ⟨g3,0,none⟩) is.length q3) (.slice p4 bs.length q4) ti tb xs ys (st2.1.set j (kj,st2.1[j].2.1,st2.1[j].2.2.set t 0)) bs/\ROwns (wc.setCell ⟨gp,t,none⟩ (.int .i64 0)) n0 3 sv' (ic st2.2)/\AtC (wc.setCell ⟨gp,t,none⟩ (.int .i64 0)) xb 63 #[.int .i64 kj,.int .i64 lj,.slice (some ⟨gp,0,none⟩) 2 cp]):=⟨HP1.out,s4.setCell_other hgn _,ax.other (by have:=HXN.out;omega) _⟩
      have hsl16:=HPI2.out.len;clear Aw Bw lw ab o4 s4 ax HCP HPTR CB HP1
      cases F with
      | false =>
       have HE:Hid (mpK bs st j (t+1)=st2):=by show _=_;rw [HSN.out,HSE.out];rfl
       go_wp2;go_roundw
       case rel=>exact ⟨sv',t+1,rfl,by omega,by go_num,by rw [HE.out];exact ⟨HREL.out.1,HREL.out.2.1,HREL.out.2.2,fun k hk=>(HFR.out k hk).1,HXN.out,HK0'.out⟩⟩
       case measure=>simp [intOf];omega
      | true =>
       rw [if_pos rfl] at HSE;obtain ⟨kb,hkb⟩:∃ x,(kj == 2)=x:=⟨_,rfl⟩
       rw [hkb] at HSE
       cases bd with
       | true =>
        cases kb with
        | true =>
         have HSF:Hid (stepP bs st2 j t=if st2.2.contains pn=true then (st2.1.set j (kj,st2.1[j].2.1,st2.1[j].2.2.set t 0),st2.2) else (st2.1,st2.2 ++ [pn])):=HSE.out;clear HSE;have HSE:=HSF;have CH:=hide (zbn sv' st2.2 pn wc HREL.out.2.1.rints (by omega));go_wp2_with fail
         refine CH.out.mono ?_;rintro e w7 ⟨rfl,rfl⟩
         cases hc:st2.2.contains pn with
         | true =>
          rw [hc,if_pos rfl] at HSE;go_wp2;go_roundw
          case rel=>exact ⟨sv',t+1,rfl,by omega,by go_num,by rw [HSN.out,HSE.out];exact ⟨HSTO.out.1,HSTO.out.2.1,HSTO.out.2.2,fun k hk=>(HFR.out k hk).1,HXN.out,HK0'.out⟩⟩
          case measure=>simp [intOf];omega
         | false =>
          rw [hc,if_neg (by decide)] at HSE;have HAL:Hid (Below w7.heap.size w7 (w7.alloc (.cells #[.int .i64 pn] 3))/\ROwns (w7.alloc (.cells #[.int .i64 pn] 3)) n0 3 sv' (ic st2.2)/\n0<=(w7.alloc (.cells #[.int .i64 pn] 3)).heap.size/\(w7.alloc (.cells #[.int .i64 pn] 3)).cell? ⟨w7.heap.size,0,none⟩=some (.int .i64 pn)):=⟨(Below.refl _ w7).alloc nR _,HREL.out.2.1.alloc _,by have:=HREL.out.1.nn;simp;omega,(AtC.new w7 3 _).cell 0⟩
          have HTL:Hid ((ic st2.2).length<=100000000000):=by show _<=_;rw [zaf];omega
          have HXL:Hid (xb < w7.heap.size):=HREL.out.2.2.lt;clear hc f1 k2 k3 b0 ob2;go_wp2_with (at_builtin;refine wpList_step fun K' hK'=>?_;refine zal _ rfl (.tmp 86) (.tmp 92) 54 rfl n0 3 Tryz.u54 _ 8 Tryz.i3 rfl (by decide) sv' _ rfl HAL.out.2.1 HAL.out.2.2.1 w7.heap.size (.int .i64 pn) rfl HAL.out.2.2.2 rfl HTL.out ?_;intro v9 w9 T9 G9 V9;refine hK' _ _ ?_;have HR9:Hid (OS w w9 b n0 #[.slice a1 xs.length c1,.slice a2 ys.length c2,.slice (some ⟨g2,o2,none⟩) is.length c3,.slice a4 bs.length c4] (.slice p1 xs.length q1) (.slice p2 ys.length q2) (.slice (some ⟨g3,0,none⟩) is.length q3) (.slice p4 bs.length q4) ti tb xs ys st2.1 bs/\ROwns w9 n0 3 v9 (ic (st2.2 ++ [pn]))/\AtC w9 xb 63 #[.int .i64 kj,.int .i64 lj,.slice (some ⟨gp,0,none⟩) 2 cp]/\(∀ k,v9.ownBlock=some k->k≠xb)/\n0<=xb/\(kj=0->t+1=0)):=⟨(HREL.out.1.below HAL.out.1).grown G9 (fun k hk=>(HFR.out k hk).2),by rw [show ic (st2.2 ++ [pn])=ic st2.2 ++ [.int .i64 pn] by simp [ic]];exact T9,(HREL.out.2.2.over HAL.out.1).grown G9 (fun e=>(HFR.out _ e).1 rfl),fun k hk=>(V9 k hk).elim (fun e=>(HFR.out k e).1) (fun e=>by have:=HXL.out;simp at e;omega),HXN.out,HK0'.out⟩;clear T9 G9 V9 hK')
          go_roundw
          case rel=>exact ⟨v9,t+1,rfl,by omega,by go_num,by rw [HSN.out,HSE.out];exact HR9.out⟩
          case measure=>simp [intOf];omega
        | false =>
         rw [if_pos (by rfl)] at HSE;go_wp2;go_roundw
         case rel=>exact ⟨sv',t+1,rfl,by omega,by go_num,by rw [HSN.out,HSE.out];exact ⟨HSTO.out.1,HSTO.out.2.1,HSTO.out.2.2,fun k hk=>(HFR.out k hk).1,HXN.out,HK0'.out⟩⟩
         case measure=>simp [intOf];omega
       | false =>
        cases kb with
        | true =>
         rw [if_pos (by rfl)] at HSE;go_wp2;go_roundw
         case rel=>exact ⟨sv',t+1,rfl,by omega,by go_num,by rw [HSN.out,HSE.out];exact ⟨HSTO.out.1,HSTO.out.2.1,HSTO.out.2.2,fun k hk=>(HFR.out k hk).1,HXN.out,HK0'.out⟩⟩
         case measure=>simp [intOf];omega
        | false =>
         have HSF:Hid (stepP bs st2 j t=if st2.2.contains pn=true then (st2.1.set j (kj,st2.1[j].2.1,st2.1[j].2.2.set t 0),st2.2) else (st2.1,st2.2 ++ [pn])):=HSE.out;clear HSE;have HSE:=HSF;have CH:=hide (zbn sv' st2.2 pn wc HREL.out.2.1.rints (by omega));go_wp2_with fail
         refine CH.out.mono ?_;rintro e w7 ⟨rfl,rfl⟩
         cases hc:st2.2.contains pn with
         | true =>
          rw [hc,if_pos rfl] at HSE;go_wp2;go_roundw
          case rel=>exact ⟨sv',t+1,rfl,by omega,by go_num,by rw [HSN.out,HSE.out];exact ⟨HSTO.out.1,HSTO.out.2.1,HSTO.out.2.2,fun k hk=>(HFR.out k hk).1,HXN.out,HK0'.out⟩⟩
          case measure=>simp [intOf];omega
         | false =>
          rw [hc,if_neg (by decide)] at HSE;have HAL:Hid (Below w7.heap.size w7 (w7.alloc (.cells #[.int .i64 pn] 3))/\ROwns (w7.alloc (.cells #[.int .i64 pn] 3)) n0 3 sv' (ic st2.2)/\n0<=(w7.alloc (.cells #[.int .i64 pn] 3)).heap.size/\(w7.alloc (.cells #[.int .i64 pn] 3)).cell? ⟨w7.heap.size,0,none⟩=some (.int .i64 pn)):=⟨(Below.refl _ w7).alloc nR _,HREL.out.2.1.alloc _,by have:=HREL.out.1.nn;simp;omega,(AtC.new w7 3 _).cell 0⟩
          have HTL:Hid ((ic st2.2).length<=100000000000):=by show _<=_;rw [zaf];omega
          have HXL:Hid (xb < w7.heap.size):=HREL.out.2.2.lt;clear hc f1 k2 k3 b0 ob2;go_wp2_with (at_builtin;refine wpList_step fun K' hK'=>?_;refine zal _ rfl (.tmp 86) (.tmp 92) 54 rfl n0 3 Tryz.u54 _ 8 Tryz.i3 rfl (by decide) sv' _ rfl HAL.out.2.1 HAL.out.2.2.1 w7.heap.size (.int .i64 pn) rfl HAL.out.2.2.2 rfl HTL.out ?_;intro v9 w9 T9 G9 V9;refine hK' _ _ ?_;have HR9:Hid (OS w w9 b n0 #[.slice a1 xs.length c1,.slice a2 ys.length c2,.slice (some ⟨g2,o2,none⟩) is.length c3,.slice a4 bs.length c4] (.slice p1 xs.length q1) (.slice p2 ys.length q2) (.slice (some ⟨g3,0,none⟩) is.length q3) (.slice p4 bs.length q4) ti tb xs ys st2.1 bs/\ROwns w9 n0 3 v9 (ic (st2.2 ++ [pn]))/\AtC w9 xb 63 #[.int .i64 kj,.int .i64 lj,.slice (some ⟨gp,0,none⟩) 2 cp]/\(∀ k,v9.ownBlock=some k->k≠xb)/\n0<=xb/\(kj=0->t+1=0)):=⟨(HREL.out.1.below HAL.out.1).grown G9 (fun k hk=>(HFR.out k hk).2),by rw [show ic (st2.2 ++ [pn])=ic st2.2 ++ [.int .i64 pn] by simp [ic]];exact T9,(HREL.out.2.2.over HAL.out.1).grown G9 (fun e=>(HFR.out _ e).1 rfl),fun k hk=>(V9 k hk).elim (fun e=>(HFR.out k e).1) (fun e=>by have:=HXL.out;simp at e;omega),HXN.out,HK0'.out⟩;clear T9 G9 V9 hK')
          go_roundw
          case rel=>exact ⟨v9,t+1,rfl,by omega,by go_num,by rw [HSN.out,HSE.out];exact HR9.out⟩
          case measure=>simp [intOf];omega
namespace Kit
abbrev Pa:=Int×Addr
def qc:List Pa->List Value
 | []=>[]
 | s :: r=>.int .i64 s.1 :: .pointer (some s.2) :: qc r
theorem zn6 (xs:List Pa):(qc xs).length=xs.length * 2:=by
 induction xs with
 | nil=>rfl
 | cons s r ih=>simp [qc,ih];omega
theorem zn7 (a b:List Pa):qc (a ++ b)=qc a ++ qc b:=by
 induction a with
 | nil=>rfl
 | cons s r ih=>simp [qc,ih]
theorem qc_name (xs:List Pa)(j:Nat)(h:j < xs.length):(qc xs)[j * 2]?=some (.int .i64 xs[j].1):=by
 induction xs generalizing j with
 | nil=>simp at h
 | cons s r ih =>
  cases j with
  | zero=>rfl
  | succ j =>
   rw [show (j+1) * 2=j * 2+1+1 by omega];simp only [qc,List.getElem?_cons_succ,List.getElem_cons_succ];exact ih j (by simpa using h)
theorem qc_ino (xs:List Pa)(j:Nat)(h:j < xs.length):(qc xs)[j * 2+1]?=some (.pointer (some xs[j].2)):=by
 induction xs generalizing j with
 | nil=>simp at h
 | cons s r ih =>
  cases j with
  | zero=>rfl
  | succ j =>
   rw [show (j+1) * 2+1=j * 2+1+1+1 by omega];simp only [qc,List.getElem?_cons_succ,List.getElem_cons_succ];exact ih j (by simpa using h)
def QOwns (w:World) (base:Nat) (e:TypeId) (v:Value) (xs:List Pa):Prop:=w.ownsRow base e 2 v xs.length (qc xs)
theorem QOwns.alloc {w:World}{base:Nat}{e:TypeId}{v:Value}{l:List Pa}(h:QOwns w base e v l)(o:Obj):QOwns (w.alloc o) base e v l:=World.ownsRow.alloc h o
theorem QOwns.drew {w:World}{base:Nat}{e:TypeId}{v:Value}{l:List Pa}(h:QOwns w base e v l):QOwns w.drew base e v l:=World.ownsRow.drew h
theorem QOwns.nil (w:World)(base:Nat)(e:TypeId):QOwns w base e (.slice none 0 0) []:=World.ownsRow_nil _ _ _ _
theorem QOwns.lit (w:World)(base:Nat)(e:TypeId)(cs:Array Value)(xs:List Pa)(hc:cs.toList=qc xs)(hb:base<=w.heap.size)(hm:xs.length<=maxLen):QOwns (w.alloc (.cells cs e)) base e (.slice (some ⟨w.heap.size,0,none⟩) xs.length xs.length) xs:=by
 have h1:cs.size=xs.length * 2:=by rw [← Array.length_toList,hc,zn6]
 have:=World.ownsRow_lit (base:=base) (e:=e) (size:=2) w cs xs.length hb hm h1;unfold QOwns
 rwa [hc] at this
theorem QOwns.lt {w:World}{base:Nat}{e:TypeId}{v:Value}{l:List Pa}(h:QOwns w base e v l):∀ k,v.ownBlock=some k->base<=k/\k < w.heap.size:=World.ownsRow.lt h
theorem QOwns.base_le {w:World}{base base':Nat}{e:TypeId}{v:Value}{l:List Pa}(h:QOwns w base e v l)(hb:base'<=base):QOwns w base' e v l:=by
 refine ⟨h.1,?_⟩;rcases h.2 with h1 | ⟨g,cap,cur,h1,h2,h3⟩
 ·exact .inl h1
 ·exact .inr ⟨g,cap,cur,h1,by omega,h3⟩
theorem QOwns.form {w:World}{base:Nat}{e:TypeId}{v:Value}{l:List Pa}(h:QOwns w base e v l):∃ a cap,v=.slice a l.length cap/\(a=none->l=[]):=by
 rcases h.2 with ⟨rfl,h0⟩ | ⟨g,cap,cur,rfl,_⟩
 ·exact ⟨none,0,by rw [h0],fun _=>List.length_eq_zero_iff.1 h0⟩
 ·exact ⟨_,_,rfl,fun h=>by cases h⟩
theorem QOwns.of_heap {w w':World}{base:Nat}{e:TypeId}{v:Value}{l:List Pa}(h:QOwns w base e v l)(hh:∀ k,v.ownBlock=some k->w'.heap[k]?=w.heap[k]?):QOwns w' base e v l:=by
 refine ⟨h.1,?_⟩;rcases h.2 with h1 | ⟨g,cap,cur,h1,h2,h3,h4⟩
 ·exact .inl h1
 ·exact .inr ⟨g,cap,cur,h1,h2,by rw [hh g (by rw [h1];rfl),h3],h4⟩
theorem QOwns.below {w w':World}{base B:Nat}{e:TypeId}{v:Value}{l:List Pa}(h:QOwns w base e v l)(hb:Below B w w')(hB:w.heap.size<=B):QOwns w' base e v l :=
 h.of_heap fun k hk=>hb.block k (by have:=(h.lt k hk).2;omega)
theorem QOwns.grown {w w':World}{base:Nat}{e:TypeId}{v:Value}{l:List Pa}{row:Option Nat}(h:QOwns w base e v l)(hg:w.grownBy w' row)(hn:∀ k,v.ownBlock=some k->row≠some k):QOwns w' base e v l :=
 h.of_heap fun k hk=>hg.block k (h.lt k hk).2 (fun e=>hn k hk e.symm)
theorem QOwns.setCell_other {w:World}{base:Nat}{e:TypeId}{v:Value}{l:List Pa}(h:QOwns w base e v l){b j:Nat}(hp:v.ownBlock≠some b)(x:Value):QOwns (w.setCell ⟨b,j,none⟩ x) base e v l :=
 h.of_heap fun k hk=>heap_setCell_other w ⟨b,j,none⟩ k x (fun e=>by simp at e;subst e;exact hp hk)
theorem QOwns.setCell_low {w:World}{base:Nat}{e:TypeId}{v:Value}{l:List Pa}(h:QOwns w base e v l){b j:Nat}(hp:b < base)(x:Value):QOwns (w.setCell ⟨b,j,none⟩ x) base e v l :=
 h.setCell_other (fun e=>by have:=(h.lt b e).1;omega) x
theorem QOwns.at {w:World}{base:Nat}{e:TypeId}{v:Value}{l:List Pa}(h:QOwns w base e v l)(k:Nat)(hk:k < l.length) :
  ∃ g cap,v=.slice (some ⟨g,0,none⟩) l.length cap/\w.cell? ⟨g,k * 2,none⟩=some (.int .i64 l[k].1)/\w.cell? ⟨g,k * 2+1,none⟩=some (.pointer (some l[k].2))/\(∀ j,w.frozen? ⟨g,j,none⟩=false)/\base<=g/\g < w.heap.size/\l.length<=cap:=by
 have hlt:=h.lt;rcases h.2 with ⟨h1,h0⟩ | ⟨g,cap,cur,rfl,h2,h3,h4,h5,h6,h7⟩
 ·omega
 ·have h':w.ownsRow base e 2 (.slice (some ⟨g,0,none⟩) l.length cap) l.length (qc l):=h;exact ⟨g,cap,rfl,(h'.cellAt _ (by omega)).trans (qc_name l k hk),(h'.cellAt _ (by omega)).trans (qc_ino l k hk),h'.frozenAt,h2,(hlt g rfl).2,h4⟩
def RPa (w:World) (v:Value) (xs:List Pa):Prop:=∃ a cap,v=.slice a xs.length cap/\xs.length<=cap/\∀ (j:Nat) (h:j < xs.length),∃ g off,a=some ⟨g,off,none⟩/\g < w.heap.size/\w.cell? ⟨g,off+j * 2,none⟩=some (.int .i64 xs[j].1)/\w.cell? ⟨g,off+j * 2+1,none⟩=some (.pointer (some xs[j].2))
theorem RPa.below {w w':World}{B:Nat}{v:Value}{xs:List Pa}(h:RPa w v xs)(hb:Below B w w')(hB:w.heap.size<=B):RPa w' v xs:=by
 obtain ⟨a,cap,rfl,hcap,h⟩:=h;refine ⟨a,cap,rfl,hcap,fun j hj=>?_⟩;obtain ⟨g,off,e,hg,hc,hd⟩:=h j hj;exact ⟨g,off,e,Nat.lt_of_lt_of_le hg hb.size,(hb.cell (p:=⟨g,off+j * 2,none⟩) (Nat.lt_of_lt_of_le hg hB)).trans hc,(hb.cell (p:=⟨g,off+j * 2+1,none⟩) (Nat.lt_of_lt_of_le hg hB)).trans hd⟩
theorem RPa.alloc {w:World}{v:Value}{xs:List Pa}(h:RPa w v xs)(o:Obj):RPa (w.alloc o) v xs:=h.below ((Below.refl _ w).alloc nR o) nR
theorem RPa.drew {w:World}{v:Value}{xs:List Pa}(h:RPa w v xs):RPa w.drew v xs:=h
theorem RPa.form {w:World}{v:Value}{xs:List Pa}(h:RPa w v xs):∃ a c,v=.slice a xs.length c:=by
 obtain ⟨a,c,h,_⟩:=h;exact ⟨a,c,h⟩
end Kit
theorem Tryz.u140:Tryz.prog.underlying 140=some (.slice 144):=by kernel_rfl
theorem Tryz.i144:(Tryz.prog.info? 144).map (fun i=>(i.zero,i.size,i.bytes))=some (some (.agg #[.int .i64 0,.pointer none]),2,16):=by kernel_rfl
theorem zf6 (W:World){ops:Array Oper}{o:Oper}{a:Act}{K:Act->World->Prop}{Q:Exit->Act->World->Prop}{E:Prop}(hgd:o.guard=none)(s x:Operand)
  (ho:o.op=.call { callee:=.builtin .append,args:=#[s,x],argTypes:=#[140,140] }) (base:Nat) (v:Value) (l:List Pa) (hs:a.eval s=v) (hown:QOwns W base 144 v l) (hbase:base<=W.heap.size)
  (g:Nat) (nm:Int) (io:Addr) (hx:a.eval x=.slice (some ⟨g,0,none⟩) 1 1) (hc:AtC W g 144 #[.int .i64 nm,.pointer (some io)]) (hl:l.length<=100000000000)
  (h:∀ v' w',QOwns w' base 144 v' (l ++ [(nm,io)])->W.grownBy w' v.ownBlock->(∀ k,v'.ownBlock=some k->v.ownBlock=some k\/W.heap.size<=k)->K (a.put o.dst v') w') :
  if Region.wanted o (yielded ops a.tmps)=true then Oper.wp Tryz.prog o a W K Q else E:=by
 obtain ⟨i0,hi,hz0,hz1,hz2⟩:=info_parts Tryz.i144;refine step_append_lies _ hgd s x 140 ho base 144 i0 _ 2 16 Tryz.u140 hi hz0 hz1 hz2 rfl (by decide) v l.length (qc l) hs hown ⟨g,0,none⟩ 1 1 [.int .i64 nm,.pointer (some io)] hx rfl ?_ ?_ (by decide) ?_ ?_ hbase W.heap.size rfl ?_
 ·intro j u hj;have:=(hc.cell j).trans (show (#[.int .i64 nm,.pointer (some io)]:Array Value)[j]?=some u by simpa using hj);by_cases e:j=0
  ·subst e;simpa [Addr.add] using this
  ·simpa [Addr.add,e] using this
 ·intro u hu;simp only [List.mem_cons,List.not_mem_nil,or_false] at hu;rcases hu with rfl | rfl<;>rfl
 ·unfold maxLen;omega
 ·omega
 ·intro g' cap w' hown' hgrow hat _;refine h _ w' ?_ hgrow fun k hk=>?_
  ·show w'.ownsRow base 144 2 _ (l ++ [(nm,io)]).length (qc (l ++ [(nm,io)]));rw [List.length_append,zn7];exact hown'
  ·simp only [Value.ownBlock,Option.some.injEq] at hk;subst hk;rcases hat with hat | hat
   ·exact .inl hat
   ·exact .inr (by omega)
def adr (tb:List V3) (t:Tt):Addr:=⟨((tb.getD t.2.1 zB3).2.1.ownBlock).getD 0,t.2.2 * 2,none⟩
def paL (tb:List V3) (l:List Tt):List Pa:=l.map fun t=>(t.1,adr tb t)
theorem zei (tb:List V3)(l:List Tt):(paL tb l).length=l.length:=List.length_map _
theorem paL_at (tb:List V3)(l:List Tt)(j:Nat)(h:j < l.length)(h':j < (paL tb l).length):(paL tb l)[j]=(l[j].1,adr tb l[j]):=by simp [paL]
theorem zl6 (tb:List V3)(a b:List Tt):paL tb (a ++ b)=paL tb a ++ paL tb b:=List.map_append
theorem zbk {w:World}{S:Nat->Prop}{u v iv bv:Value}{ti tb:List V3}{xs ys:List Bool}{is:List Ino}{bs:List Blk}(h:DL w S u v iv bv ti tb xs ys is bs)(t:Tt)(ht:InT bs t) :
  ∃ g c,(tb.getD t.2.1 zB3).2.1=.slice (some ⟨g,0,none⟩) (bs.getD t.2.1 zB).2.1.length c/\adr tb t=⟨g,t.2.2 * 2,none⟩/\w.cell? ⟨g,t.2.2 * 2,none⟩=some (.string (slotN bs t).1)/\w.cell? ⟨g,t.2.2 * 2+1,none⟩=some (.int .i64 (slotN bs t).2)/\(∀ k,w.frozen? ⟨g,k,none⟩=false)/\g < w.heap.size/\S g:=by
 obtain ⟨h1,h2⟩:=ht;have e0:=zap (d:=zB) h1;rw [e0] at h2 ⊢;obtain ⟨-,-,-,-,-,-,-,-,so,hS⟩:=h.blk t.2.1 h1;obtain ⟨g,c,e,k1,k2,f,-,hl,-⟩:=so.at t.2.2 h2;refine ⟨g,c,e,?_,?_,?_,f,hl,hS g (by rw [e];rfl)⟩
 ·unfold adr;rw [e];rfl
 ·unfold slotN;rw [e0,zap h2];exact k1
 ·unfold slotN;rw [e0,zap h2];exact k2
end Go.Proofs.YtmlfihmheolpeaaGreat
