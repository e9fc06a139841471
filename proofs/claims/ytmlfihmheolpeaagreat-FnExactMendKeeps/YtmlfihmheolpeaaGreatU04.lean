/- Texts of the proof, bundled. -/
import Derived.Deep.DeepCutAuto
import Derived.Deep.CutRange
import Derived.BigRegion
import Derived.RegionTactic
import Derived.Deep.RegionWith
import Derived.BigQuiet
import Derived.Deep.QuietTactic
import Derived.WalkMore
import Derived.ScopeJumps
import Derived.Test.YtmlfihmheolpeaaGreatU03
import Derived.Test.YtmlfihmheolpeaaGreatU02
import Derived.Test.YtmlfihmheolpeaaGreatU01
set_option maxRecDepth 100000
set_option maxHeartbeats 12800000
namespace Go.Proofs.YtmlfihmheolpeaaGreat
open Go.RowKit Kit
def zba (xs ys:List Bool) (is:List Ino) (bs:List Blk):List Blk:=if zag xs ys is bs=true then mendN is bs else bs
theorem Tryz.u96:Tryz.prog.underlying 96=some (.slice 9):=by kernel_rfl
theorem Tryz.i9:(Tryz.prog.info? 9).map (fun i=>(i.zero,i.size,i.bytes))=some (some (.string ⟨#[]⟩),1,16):=by kernel_rfl
theorem NV.noN {w wr:World}{b n0:Nat}{A:Array Value}{u v iv bv:Value}{ti tb:List V3}{xs ys:List Bool}{is:List Ino}{bs:List Blk}{dv kv nv:Value}{dirs blks:List Int}{names:List ByteArray}{BX:List Bx}(h:NV w wr b n0 A u v iv bv ti tb xs ys is bs dv kv nv dirs blks names BX):NV w wr b n0 A u v iv bv ti tb xs ys is bs dv kv (.slice none 0 0) dirs blks [] [] :=
 ⟨h.os,h.d,h.k,ROwns.nil _ _ _,h.dk,fun i _ e=>by simp [Value.ownBlock] at e,fun i _ e=>by simp [Value.ownBlock] at e,fun e he=>by cases he⟩
def stI (is:List Ino) (bs:List Blk) (j:Nat):TSt:=runU is bs ([],[]) (ptrL is (kndQ is j))
def stK (is:List Ino) (bs:List Blk) (j k:Nat):TSt:=runU is bs (stI is bs j) (ptrT ((j:Int)+1) ((zak is ((j:Int)+1)).take k))
def curT (is:List Ino) (bs:List Blk) (T:List Tt):List Blk:=runN is [] T bs
theorem stI_succ (is:List Ino)(bs:List Blk)(j:Nat):stI is bs (j+1)=if zab is ((j:Int)+1)=2 then stK is bs j (zak is ((j:Int)+1)).length else stI is bs j:=by
 unfold stI stK;rw [zd2];by_cases h0:zab is ((j:Int)+1)=0
 ·rw [if_pos h0,List.append_nil,if_neg (by omega)]
 ·rw [if_neg h0];unfold ptrL;rw [List.flatMap_append,zfs,List.flatMap_cons,List.flatMap_nil,List.append_nil,List.take_length]
  split
  ·rfl
  ·rename_i h2;refine zi2 is bs _ _ fun x hx=>?_;unfold ptrI at hx;obtain ⟨p,-,rfl⟩:=List.mem_map.1 hx;exact h2
theorem zlb (is:List Ino)(bs:List Blk)(j:Nat):stK is bs j 0=stI is bs j:=by simp [stK,ptrT,runU]
theorem stK_succ (is:List Ino)(bs:List Blk)(j k:Nat)(hk:k < (zak is ((j:Int)+1)).length):stK is bs j (k+1)=if inB (zak is ((j:Int)+1))[k] 1 16=true then stepU is bs (stK is bs j k) ((j:Int)+1,(zak is ((j:Int)+1))[k]) else stK is bs j k:=by
 unfold stK;rw [zck _ _ _ hk,zfs]
 split
 ·rfl
 ·rfl
theorem stI_all {is:List Ino}{bs:List Blk}(h:RD is bs):curT is bs (stI is bs 8).1=mendN is bs:=by
 unfold curT mendN;rw [titlesU h];rfl
theorem stK_ti {is:List Ino}{bs:List Blk}(h:RD is bs)(j k:Nat):TI bs (stK is bs j k):=by
 have hr:∀ (i:Int) (ps:List Int),∀ x∈ptrT i ps,1<=x.2/\x.2<=16:=fun i ps x hx=>by
  unfold ptrT at hx;obtain ⟨p,hp,rfl⟩:=List.mem_map.1 hx;exact zao (List.mem_filter.1 hp).2
 exact TI.runU h.hb _ (hr _ _) (TI.runU h.hb _ (fun x hx=>(zcb hx).2) (TI.begin bs))
theorem stK_dir {is:List Ino}{bs:List Blk}(j:Nat):∀ t∈(stI is bs j).1,¬ t.1=(j:Int)+1:=by
 refine zi3 is bs (fun i=>¬ i=(j:Int)+1) _ _ (fun x hx=>?_) (fun t ht=>by cases ht);have h1:=(zcb hx).1;unfold kndQ at h1;obtain ⟨q,hq,e⟩:=List.mem_map.1 h1;have:=List.mem_range.1 (List.mem_filter.1 hq).1;omega
theorem zhp (is:List Ino)(bs:List Blk):∀ (l:List Pr) (st:TSt),(runU is bs st l).2.length<=st.2.length+l.length
 | [],st=>by simp [runU]
 | x :: r,st=>by
  have h1:=zhp is bs r (stepU is bs st x);have h2:(stepU is bs st x).2.length<=st.2.length+1:=by
   unfold stepU
   split
   ·omega
   ·simp
  show (runU is bs (stepU is bs st x) r).2.length<=_;rw [List.length_cons];omega
theorem stK_had {is:List Ino}{bs:List Blk}(h:RD is bs)(j k:Nat)(hj:j<=8)(hk:k<=2):(stK is bs j k).2.length<=1000:=by
 have h1:=zhp is bs (ptrT ((j:Int)+1) ((zak is ((j:Int)+1)).take k)) (stI is bs j);have h2:=zhp is bs (ptrL is (kndQ is j)) ([],[]);have h3:=zax h (kndQ is j);have h4:=zd3 is j;have h5:=zcr ((j:Int)+1) ((zak is ((j:Int)+1)).take k);rw [List.length_take] at h5;unfold stK;unfold stI at h1 ⊢;simp only [List.length_nil] at h2;omega
theorem stK_len {is:List Ino}{bs:List Blk}(h:RD is bs)(j k:Nat)(hj:j<=8)(hk:k<=2):(stK is bs j k).1.length<=80:=by
 have h1:=zhn h (ptrT ((j:Int)+1) ((zak is ((j:Int)+1)).take k)) (stI is bs j);have h2:=zhn h (ptrL is (kndQ is j)) ([],[]);have h3:=zax h (kndQ is j);have h4:=zd3 is j;have h5:=zcr ((j:Int)+1) ((zak is ((j:Int)+1)).take k);rw [List.length_take] at h5;unfold stK;unfold stI at h1 ⊢;simp only [List.length_nil] at h2;omega
theorem zl7 (u v iv bv:Value)(xs ys:List Bool)(is:List Ino)(bs:List Blk)(w:World)(h:DR w u v iv bv xs ys is bs)(hG:Big 1048576 xs ys is bs) :
  Calls Tryz.prog 32 #[.agg #[u,v,iv,bv]] w fun e w'=>∃ u' v' i' b',e=.returned (.agg #[u',v',i',b'])/\DO w' (fun k=>w.heap.size<=k) u' v' i' b' xs ys is (zba xs ys is bs)/\Below w.heap.size w w':=by
 obtain ⟨a1,c1,a2,c2,a3,c3,a4,c4,rfl,rfl,rfl,rfl⟩:=h.form;have HH:=hide h;have HG:=hide hG;obtain ⟨W0,hW0⟩:∃ W,((w.alloc (.cells #[.slice a1 xs.length c1,.slice a2 ys.length c2,.slice a3 is.length c3,.slice a4 bs.length c4] 35)).alloc (.cells #[.slice none 0 0,.slice none 0 0,.slice none 0 0,.slice none 0 0] 35))=W:=⟨_,rfl⟩
 have H0:Hid (Below w.heap.size w W0/\AtC W0 w.heap.size 35 #[.slice a1 xs.length c1,.slice a2 ys.length c2,.slice a3 is.length c3,.slice a4 bs.length c4]/\AtC W0 (w.heap.size+1) 35 noD/\W0.heap.size=w.heap.size+2):=by
  rw [← hW0];have q:=AtC.new (w.alloc (.cells #[.slice a1 xs.length c1,.slice a2 ys.length c2,.slice a3 is.length c3,.slice a4 bs.length c4] 35)) 35 #[.slice none 0 0,.slice none 0 0,.slice none 0 0,.slice none 0 0];rw [World.size_alloc] at q;exact ⟨((Below.refl _ w).alloc nR _).alloc (by simp) _,(AtC.new w 35 _).alloc _,q,by simp⟩
 obtain ⟨x0,x1,x2,x3⟩:=AtC.four H0.out.2.1;clear h hG;go_enter Tryz.func32,Tryz.ntmps32
 go_wp2_with fail
 refine (zc4 (.slice a1 xs.length c1) (.slice a2 ys.length c2) (.slice a3 is.length c3) (.slice a4 bs.length c4) xs ys is bs W0 (HH.out.below H0.out.1 nR) HG.out).mono ?_;rintro e w1 ⟨u1,u2,u3,u4,rfl,O1,B1⟩;obtain ⟨p1,q1,p2,q2,p3,q3,p4,q4,rfl,rfl,rfl,rfl⟩:=O1.dr.form;obtain ⟨b,hb⟩:∃ n,w1.heap.size=n:=⟨_,rfl⟩
 obtain ⟨W2,hW2⟩:∃ W,w1.alloc (.cells #[.slice p1 xs.length q1,.slice p2 ys.length q2,.slice (p3) is.length q3,.slice p4 bs.length q4] 35)=W:=⟨_,rfl⟩
 have H2:Hid (Below w.heap.size w W2/\AtC W2 w.heap.size 35 #[.slice a1 xs.length c1,.slice a2 ys.length c2,.slice a3 is.length c3,.slice a4 bs.length c4]/\AtC W2 (w.heap.size+1) 35 noD/\AtC W2 b 35 #[.slice p1 xs.length q1,.slice p2 ys.length q2,.slice (p3) is.length q3,.slice p4 bs.length q4]/\DO W2 (fun k=>w.heap.size+2<=k/\k≠b) (.slice p1 xs.length q1) (.slice p2 ys.length q2) (.slice (p3) is.length q3) (.slice p4 bs.length q4) xs ys is bs/\w.heap.size+2<=b/\W2.heap.size=b+1):=by
  have b1:=H0.out.1.trans (B1.mono H0.out.1.size);have s1:=B1.size;rw [H0.out.2.2.2,hb] at s1;rw [← hW2];refine ⟨b1.alloc b1.size _,(H0.out.2.1.over B1).alloc _,(H0.out.2.2.1.over B1).alloc _,by rw [← hb];exact AtC.new w1 35 _,?_,s1,by rw [World.size_alloc,hb]⟩;obtain ⟨ti,tb,L1⟩:=O1.dl;have L2:=L1.bound.do_.mono (S':=fun k=>w.heap.size+2<=k/\k≠b) fun k hk=>⟨by rw [← H0.out.2.2.2];exact hk.1,by have:=hk.2;omega⟩
  exact L2.alloc _
 obtain ⟨y0,y1,y2,y3⟩:=AtC.four H2.out.2.1;clear O1 B1 hW0 x0 x1 x2 x3 H0;go_wp2_with fail
 refine (zb7 (.slice a1 xs.length c1) (.slice a2 ys.length c2) (.slice a3 is.length c3) (.slice a4 bs.length c4) xs ys is bs W2 (HH.out.below H2.out.1 nR) (fun j hj k hk=>(HG.out.s j hj).2.1 k hk)).mono ?_;rintro e w3 ⟨rfl,B3⟩;have H3:Hid (Below w.heap.size w w3/\AtC w3 w.heap.size 35 #[.slice a1 xs.length c1,.slice a2 ys.length c2,.slice a3 is.length c3,.slice a4 bs.length c4]/\AtC w3 (w.heap.size+1) 35 noD/\AtC w3 b 35 #[.slice p1 xs.length q1,.slice p2 ys.length q2,.slice (p3) is.length q3,.slice p4 bs.length q4]/\DO w3 (fun k=>w.heap.size+2<=k/\k≠b) (.slice p1 xs.length q1) (.slice p2 ys.length q2) (.slice (p3) is.length q3) (.slice p4 bs.length q4) xs ys is bs/\w.heap.size+2<=b):=⟨H2.out.1.trans (B3.mono H2.out.1.size),H2.out.2.1.over B3,H2.out.2.2.1.over B3,H2.out.2.2.2.1.over B3,H2.out.2.2.2.2.1.below B3 nR,H2.out.2.2.2.2.2.1⟩
 clear B3 H2 hW2 hb y0 y1 y2 y3
 cases hok:zag xs ys is bs with
 | false =>
  have HM:Hid (zba xs ys is bs=bs):=by unfold zba;rw [hok];rfl
  obtain ⟨r0,r1,r2,r3⟩:=AtC.four H3.out.2.2.1;have v0:=H3.out.2.2.1.frozen 0;have v1:=H3.out.2.2.1.frozen 1;have v2:=H3.out.2.2.1.frozen 2;have v3:=H3.out.2.2.1.frozen 3;obtain ⟨o0,o1,o2,o3⟩:=AtC.four H3.out.2.2.2.1;have hne:¬ b=w.heap.size+1:=by have:=H3.out.2.2.2.2.2;omega
  have hne2:¬ w.heap.size+1=b:=by have:=H3.out.2.2.2.2.2;omega
  obtain ⟨ti,tb,L3⟩:=H3.out.2.2.2.2.1.dl;have HF:=hide (OS.fin (A:=#[.slice a1 xs.length c1,.slice a2 ys.length c2,.slice a3 is.length c3,.slice a4 bs.length c4]) (n0:=w3.heap.size) ⟨L3.bound,H3.out.2.2.2.1,H3.out.2.2.1,H3.out.2.1,H3.out.1,H3.out.2.2.2.1.lt,H3.out.2.2.2.2.2,Nat.le_refl _⟩ (.slice p1 xs.length q1) (.slice p2 ys.length q2) (.slice p3 is.length q3) (.slice p4 bs.length q4));clear hok L3;go_wp2;refine bodyPost_ret (v:=.agg #[.slice p1 xs.length q1,.slice p2 ys.length q2,.slice (p3) is.length q3,.slice p4 bs.length q4]) (by simp [results,go_sem,r0,r1,r2,r3]) rfl ⟨_,_,_,_,rfl,?_,?_⟩
  ·rw [HM.out];exact HF.out.1
  ·exact HF.out.2
 | true =>
  have HM:Hid (zba xs ys is bs=mendN is bs):=by unfold zba;rw [hok];rfl
  have HO:=hide hok;have hX:=RX.of_ok hok;have HX:=hide hX;have HI8:=hide hX.r.hi;have HB16:=hide hX.r.hb;obtain ⟨ti,tb,L3⟩:=H3.out.2.2.2.2.1.dl;obtain ⟨g3,g4,e3,e4⟩:∃ g3 g4,p3=some ⟨g3,0,none⟩/\p4=some ⟨g4,0,none⟩:=by
   obtain ⟨g,c,e,-⟩:=L3.ino 0 (by rw [HI8.out];decide);obtain ⟨g',c',e',-⟩:=L3.blk 0 (by rw [HB16.out];decide);simp only [Value.slice.injEq] at e e';exact ⟨g,g',e.1,e'.1⟩
  subst e3 e4;obtain ⟨n0,hn0⟩:∃ n,w3.heap.size=n:=⟨_,rfl⟩
  obtain ⟨W4,hW4⟩:∃ W,w3.alloc (.cells #[] 3)=W:=⟨_,rfl⟩
  obtain ⟨W5,hW5⟩:∃ W,W4.alloc (.cells #[] 3)=W:=⟨_,rfl⟩
  have hs4:W4.heap.size=n0+1:=by rw [← hW4,World.size_alloc,hn0]
  have H5:Hid (NV w W5 b n0 #[.slice a1 xs.length c1,.slice a2 ys.length c2,.slice a3 is.length c3,.slice a4 bs.length c4] (.slice p1 xs.length q1) (.slice p2 ys.length q2) (.slice (some ⟨g3,0,none⟩) is.length q3) (.slice (some ⟨g4,0,none⟩) bs.length q4) ti tb xs ys is (curT is bs (stI is bs 0).1) (.slice (some ⟨n0,0,none⟩) 0 0) (.slice (some ⟨n0+1,0,none⟩) 0 0) (.slice none 0 0) (DS is (curT is bs (stI is bs 0).1) (stI is bs 0).1) (stI is bs 0).2 [] []):=by
   have o3:OS w w3 b n0 #[.slice a1 xs.length c1,.slice a2 ys.length c2,.slice a3 is.length c3,.slice a4 bs.length c4] (.slice p1 xs.length q1) (.slice p2 ys.length q2) (.slice (some ⟨g3,0,none⟩) is.length q3) (.slice (some ⟨g4,0,none⟩) bs.length q4) ti tb xs ys is bs:=⟨by rw [← hn0];exact L3.bound,H3.out.2.2.2.1,H3.out.2.2.1,H3.out.2.1,H3.out.1,by rw [← hn0];exact H3.out.2.2.2.1.lt,H3.out.2.2.2.2.2,by omega⟩
   have b4:Below w3.heap.size w3 W4:=by rw [← hW4];exact (Below.refl _ w3).alloc nR _
   have b5:Below W4.heap.size W4 W5:=by rw [← hW5];exact (Below.refl _ W4).alloc nR _
   have r4:ROwns W4 n0 3 (.slice (some ⟨n0,0,none⟩) 0 0) (ic []):=by rw [← hW4,← hn0];exact ROwns.lit0 w3 w3.heap.size 3 nR
   have r5:ROwns W5 n0 3 (.slice (some ⟨n0+1,0,none⟩) 0 0) (ic []):=by rw [← hW5,← hs4];exact ROwns.lit0 W4 n0 3 (by omega)
   exact ⟨(o3.below b4).below b5,r4.below b5 nR,r5,ROwns.nil _ _ _,fun i e e2=>by simp [Value.ownBlock] at e e2;omega,fun i _ e=>by simp [Value.ownBlock] at e,fun i _ e=>by simp [Value.ownBlock] at e,fun e he=>by cases he⟩
  clear hok hX L3 H3;go_wp2_with fail
  go_loopw [4,5,6] (fun dv kv iv wr=>∃ (d' k':Value) (j:Nat),d'=dv/\k'=kv/\j<=is.length/\iv=.int .i64 j/\Hid (NV w wr b n0 #[.slice a1 xs.length c1,.slice a2 ys.length c2,.slice a3 is.length c3,.slice a4 bs.length c4] (.slice p1 xs.length q1) (.slice p2 ys.length q2) (.slice (some ⟨g3,0,none⟩) is.length q3) (.slice (some ⟨g4,0,none⟩) bs.length q4) ti tb xs ys is (curT is bs (stI is bs j).1) d' k' (.slice none 0 0) (DS is (curT is bs (stI is bs j).1) (stI is bs j).1) (stI is bs j).2 [] [])) (fun _ _ iv _=>is.length - (intOf iv).toNat)
  case atStart=>exact ⟨_,_,0,rfl,rfl,Nat.zero_le _,rfl,H5.out⟩
  case round =>
   obtain ⟨dv,kv,j,hdv,hkv,hj,rfl,HR⟩:=hrel;subst hdv hkv;clear H5 hn0 hW4 hW5 hs4;have jj0:(0:Int)<=(j:Int):=by omega
   have o2':wr.cell? ⟨b,2,none⟩=some (.slice (some ⟨g3,0,none⟩) is.length q3):=HR.out.os.o.cell 2;by_cases hlt:j < is.length
   rotate_left
   ·have jj1:¬ ((j:Int) < (is.length:Int)):=by omega
    obtain ⟨r0,r1,r2,r3⟩:=AtC.four HR.out.os.r;have v0:=HR.out.os.r.frozen 0;have v1:=HR.out.os.r.frozen 1;have v2:=HR.out.os.r.frozen 2;have v3:=HR.out.os.r.frozen 3;have o0:wr.cell? ⟨b,0,none⟩=some (.slice p1 xs.length q1):=HR.out.os.o.cell 0;have o1:wr.cell? ⟨b,1,none⟩=some (.slice p2 ys.length q2):=HR.out.os.o.cell 1;have o3:wr.cell? ⟨b,3,none⟩=some (.slice (some ⟨g4,0,none⟩) bs.length q4):=HR.out.os.o.cell 3;have hne:¬ b=w.heap.size+1:=by have:=HR.out.os.Bn;omega
    have hne2:¬ w.heap.size+1=b:=by have:=HR.out.os.Bn;omega
    have HF:=hide (HR.out.os.fin (.slice p1 xs.length q1) (.slice p2 ys.length q2) (.slice (some ⟨g3,0,none⟩) is.length q3) (.slice (some ⟨g4,0,none⟩) bs.length q4));have HE:Hid (curT is bs (stI is bs j).1=mendN is bs):=by show _=_;rw [show j=8 by have:=HI8.out;omega];exact stI_all HX.out.r
    go_wp2;refine bodyPost_ret (v:=.agg #[.slice p1 xs.length q1,.slice p2 ys.length q2,.slice (some ⟨g3,0,none⟩) is.length q3,.slice (some ⟨g4,0,none⟩) bs.length q4]) (by simp [results,go_sem,r0,r1,r2,r3]) rfl ⟨_,_,_,_,rfl,?_,?_⟩
    ·rw [HM.out,← HE.out];exact HF.out.1
    ·exact HF.out.2
   have jj1:(j:Int) < (is.length:Int):=by omega
   have HJ8:Hid (j < 8):=by have:=HI8.out;show j < 8;omega
   have hj8:j < 8:=HJ8.out;obtain ⟨g',c',ei,-,-,-,y0,y1,y2,ro,-⟩:=HR.out.os.d.ino j hlt;simp only [Value.slice.injEq,Option.some.injEq,Addr.mk.injEq] at ei;obtain ⟨⟨rfl,-⟩,-,-⟩:=ei;have h2:is[j].2.2.length=2:=HX.out.r.two _ (List.getElem_mem hlt);obtain ⟨gp,cp,ep,-,-,-,hgp,-⟩:=ro.at 0 (by rw [zaf,h2];decide);rw [zaf,h2] at ep;rw [ep] at y2;have HEP:=hide ep;have HKQ:Hid (zab is ((j:Int)+1)=is[j].1/\zak is ((j:Int)+1)=is[j].2.2):=zai hlt;have HSC:=hide (stI_succ is bs j);have HP2:=hide h2;have HSS:Hid (∀ k,(hk:k < 2)->stK is bs j (k+1)=if inB (is[j].2.2[k]'(by rw [HP2.out];exact hk)) 1 16=true then stepU is bs (stK is bs j k) ((j:Int)+1,is[j].2.2[k]'(by rw [HP2.out];exact hk)) else stK is bs j k):=fun k hk=>by
    have:=stK_succ is bs j k (by rw [HKQ.out.2,h2];exact hk);simp only [HKQ.out.2] at this;exact this
   rw [HKQ.out.2,h2] at HSC;obtain ⟨kj,hkj⟩:∃ x,is[j].1=x:=⟨_,rfl⟩
   obtain ⟨lj,hlj⟩:∃ x,is[j].2.1=x:=⟨_,rfl⟩
   rw [hkj] at y0 HKQ;rw [hlj] at y1;rw [HKQ.out.1] at HSC;obtain ⟨xb,hxb⟩:∃ n,wr.heap.size=n:=⟨_,rfl⟩
   obtain ⟨W6,hW6⟩:∃ W,wr.alloc (.cells #[.int .i64 kj,.int .i64 lj,.slice (some ⟨gp,0,none⟩) 2 cp] 63)=W:=⟨_,rfl⟩
   obtain ⟨W7,hW7⟩:∃ W,W6.alloc (.cells #[] 9)=W:=⟨_,rfl⟩
   have hs6:W6.heap.size=xb+1:=by rw [← hW6,World.size_alloc,hxb]
   have H7:Hid (NV w W7 b n0 #[.slice a1 xs.length c1,.slice a2 ys.length c2,.slice a3 is.length c3,.slice a4 bs.length c4] (.slice p1 xs.length q1) (.slice p2 ys.length q2) (.slice (some ⟨g3,0,none⟩) is.length q3) (.slice (some ⟨g4,0,none⟩) bs.length q4) ti tb xs ys is (curT is bs (stK is bs j 0).1) dv kv (.slice (some ⟨xb+1,0,none⟩) 0 0) (DS is (curT is bs (stK is bs j 0).1) (stK is bs j 0).1) (stK is bs j 0).2 (NM (curT is bs (stK is bs j 0).1) ((j:Int)+1) (stK is bs j 0).1) [(xb,63,#[.int .i64 kj,.int .i64 lj,.slice (some ⟨gp,0,none⟩) 2 cp])]):=by
    have n6:NV w W6 b n0 #[.slice a1 xs.length c1,.slice a2 ys.length c2,.slice a3 is.length c3,.slice a4 bs.length c4] (.slice p1 xs.length q1) (.slice p2 ys.length q2) (.slice (some ⟨g3,0,none⟩) is.length q3) (.slice (some ⟨g4,0,none⟩) bs.length q4) ti tb xs ys is (curT is bs (stI is bs j).1) dv kv (.slice none 0 0) (DS is (curT is bs (stI is bs j).1) (stI is bs j).1) (stI is bs j).2 [] [(xb,63,#[.int .i64 kj,.int .i64 lj,.slice (some ⟨gp,0,none⟩) 2 cp])]:=by
     rw [← hW6,← hxb];exact HR.out.box ((Below.refl _ wr).alloc nR _) (AtC.new wr 63 _) nR
    rw [zlb,NM_none _ _ _ (stK_dir j),← hW7,← hs6];exact n6.names0
   clear ro h2 ep HR hkj hlj;go_wp2_with fail
   go_loopw [4,5,8,9] (fun dv kv nv kk wr=>∃ (d' k' n':Value) (t:Nat),d'=dv/\k'=kv/\n'=nv/\t<=2/\kk=.int .i64 t/\Hid (NV w wr b n0 #[.slice a1 xs.length c1,.slice a2 ys.length c2,.slice a3 is.length c3,.slice a4 bs.length c4] (.slice p1 xs.length q1) (.slice p2 ys.length q2) (.slice (some ⟨g3,0,none⟩) is.length q3) (.slice (some ⟨g4,0,none⟩) bs.length q4) ti tb xs ys is (curT is bs (stK is bs j t).1) d' k' n' (DS is (curT is bs (stK is bs j t).1) (stK is bs j t).1) (stK is bs j t).2 (NM (curT is bs (stK is bs j t).1) ((j:Int)+1) (stK is bs j t).1) [(xb,63,#[.int .i64 kj,.int .i64 lj,.slice (some ⟨gp,0,none⟩) 2 cp])]/\(¬ kj=2->t=0))) (fun _ _ _ kk _=>2 - (intOf kk).toNat)
   case atStart=>exact ⟨_,_,_,0,rfl,rfl,rfl,Nat.zero_le _,rfl,H7.out,fun _=>rfl⟩
   case round =>
    obtain ⟨dv',kv',nv',t,hdv,hkv,hnv,ht,rfl,HT⟩:=hrel;subst hdv hkv hnv;clear H7 hxb hW6 hW7 hs6 o2' y0 y1 y2;have t0:(0:Int)<=(t:Int):=by omega
    have g0:wr.cell? ⟨xb,0,none⟩=some (.int .i64 kj):=(HT.out.1.bx _ (List.mem_singleton.2 rfl)).1.cell 0;have g1:wr.cell? ⟨xb,2,none⟩=some (.slice (some ⟨gp,0,none⟩) 2 cp):=(HT.out.1.bx _ (List.mem_singleton.2 rfl)).1.cell 2;by_cases htl:t < 2
    rotate_left
    ·have t1:¬ ((t:Int) < (2:Int)):=by omega
     have HE:Hid (stI is bs (j+1)=stK is bs j t):=by
      show _=_;rw [HSC.out,if_pos (Decidable.byContradiction fun e=>by have:=HT.out.2 e;omega),show t=2 by omega]
     go_wp2;go_roundw
     case rel=>exact ⟨dv',kv',j+1,rfl,rfl,by omega,by go_num,by rw [HE.out];exact HT.out.1.noN⟩
     case measure=>simp [intOf];omega
    have t1:(t:Int) < (2:Int):=by omega
    by_cases hk2:kj=2
    rotate_left
    ·have n1:(kj == 2)=false:=by simp [hk2]
     have HE:Hid (stI is bs (j+1)=stK is bs j t):=by
      show _=_;rw [HSC.out,if_neg hk2,HT.out.2 hk2,zlb]
     clear hk2;go_wp2;go_roundw
     case rel=>exact ⟨dv',kv',j+1,rfl,rfl,by omega,by go_num,by rw [HE.out];exact HT.out.1.noN⟩
     case measure=>simp [intOf];omega
    subst hk2;have HS1:=hide (HSS.out t htl);have HTI:=hide (stK_ti (is:=is) (bs:=bs) HX.out.r j t);have HLN:=hide (stK_len HX.out.r j t (by omega) (by omega));have HKL:=hide (stK_had (is:=is) (bs:=bs) HX.out.r j t (by omega) (by omega));obtain ⟨st,hst⟩:∃ x,stK is bs j t=x:=⟨_,rfl⟩
    rw [hst] at HT HS1 HTI HLN HKL;have HNI:Hid (NI xs ys is bs (curT is bs st.1)):=(NI.begin HO.out).run st.1 [];obtain ⟨cur,hcur⟩:∃ x,curT is bs st.1=x:=⟨_,rfl⟩
    have HCUR:=hide hcur;rw [hcur] at HT HNI;have HC16:Hid (cur.length=16):=(zaj HNI.out.ok).2.2.2.2;have ht2:t < is[j].2.2.length:=by rw [HP2.out];exact htl
    have HCP:Hid (∀ W,Below wr.heap.size wr W->W.cell? ⟨gp,t,none⟩=some (.int .i64 is[j].2.2[t])/\gp < W.heap.size/\W.cell? ⟨xb,2,none⟩=some (.slice (some ⟨gp,0,none⟩) 2 cp)/\NV w W b n0 #[.slice a1 xs.length c1,.slice a2 ys.length c2,.slice a3 is.length c3,.slice a4 bs.length c4] (.slice p1 xs.length q1) (.slice p2 ys.length q2) (.slice (some ⟨g3,0,none⟩) is.length q3) (.slice (some ⟨g4,0,none⟩) bs.length q4) ti tb xs ys is cur dv' kv' nv' (DS is cur st.1) st.2 (NM cur ((j:Int)+1) st.1) [(xb,63,#[.int .i64 2,.int .i64 lj,.slice (some ⟨gp,0,none⟩) 2 cp])]):=fun W hb=>by
     have o1:=HT.out.1.below hb;obtain ⟨-,-,-,-,-,-,-,-,-,ro,-⟩:=o1.os.d.ino j hlt;rw [HEP.out] at ro;obtain ⟨g',c',e',k1,f1,-,l1,-⟩:=ro.at t (by rw [zaf];exact ht2);simp only [Value.slice.injEq,Option.some.injEq,Addr.mk.injEq] at e';obtain ⟨⟨rfl,-⟩,-,-⟩:=e';exact ⟨by rw [k1];simp [ic,ht2],l1,(o1.bx _ (List.mem_singleton.2 rfl)).1.cell 2,o1⟩
    obtain ⟨pn,hpn⟩:∃ x,is[j].2.2[t]=x:=⟨_,rfl⟩
    rw [hpn] at HS1 HCP;have CB:=hide (fun (W:World) (hb:Below wr.heap.size wr W)=>zla pn (.slice p1 xs.length q1) (.slice p2 ys.length q2) (.slice (some ⟨g3,0,none⟩) is.length q3) (.slice (some ⟨g4,0,none⟩) bs.length q4) ti tb xs ys is cur _ W (HT.out.1.below hb).os.d HC16.out);have HSL:Hid (∃ sa sn sc,slv tb cur pn=.slice sa sn sc/\((inB pn 1 16=true)->sn=(cur.getD (pn - 1).toNat zB).2.1.length/\(tb.getD (pn - 1).toNat zB3).2.1=.slice sa sn sc)):=by
     unfold slv;rw [HC16.out]
     split
     ·rename_i hin;have hin':inB pn 1 16=true:=hin;obtain ⟨h1,h2⟩:=zao hin';obtain ⟨-,-,-,-,-,-,-,-,so,-⟩:=HT.out.1.os.d.blk (pn - 1).toNat (by have:=HC16.out;omega);obtain ⟨sa,sc,e,-⟩:=so.form;exact ⟨sa,_,sc,e,fun _=>⟨by rw [zap (by have:=HC16.out;omega)],e⟩⟩
     ·rename_i hin;exact ⟨_,_,_,rfl,fun e=>absurd e hin⟩
    obtain ⟨sa,sn,sc,hsl,hsl2⟩:=HSL.out;have HS2:=hide hsl2;have HBA:Hid (∀ m:Nat,pn=(m:Int)+1->m < 16->(blkAt cur pn).1=(blkAt bs pn).1):=fun m e hm=>by
     rw [e,zb3 (by have:=HC16.out;omega),zb3 (by have:=HB16.out;omega)];exact HNI.out.dr m
    obtain ⟨⟨bd,bss,btx⟩,hBD⟩:∃ X,blkAt cur pn=X:=⟨_,rfl⟩
    rw [hBD] at HBA;obtain ⟨F,hF⟩:∃ F,inB pn 1 16=F:=⟨_,rfl⟩
    rw [hsl,hBD,hF] at CB;obtain ⟨wo,hwo⟩:∃ wo,wo=wr:=⟨_,rfl⟩
    subst hwo;have HFF:=hide hF;rw [hF] at HS1;have HPN:=hide hpn;clear hst hcur hpn hBD hF hsl hsl2 HSL;go_upto_region 14 with fail
    clear g0 g1;go_cut [10,11] from 34 to 148 (fun bv ok wx=>∃ bw:Nat,bv=.pointer (some ⟨bw,0,none⟩)/\ok=.bool F/\AtC wx bw 74 #[.bool bd,.slice sa sn sc,.string btx]/\Below wo.heap.size wo wx/\wo.heap.size<=bw)
    case first =>
     refine zad (by kernel_rfl) [0,1,2,3,4,5,6,7,8,9,10] [11,12] [([0,1,2,3,4,5,6,7,8,10],[[9,11,12],[11,9,12]])] (fun i=>match i with|0=>.const [] (.agg #[.slice p1 xs.length q1,.slice p2 ys.length q2,.slice (some ⟨g3,0,none⟩) is.length q3,.slice (some ⟨g4,0,none⟩) bs.length q4])|1=>.const [] (.pointer (some ⟨xb,2,none⟩))|2=>.const [1] (.slice (some ⟨gp,0,none⟩) 2 cp)|3=>.const [] (.int .i64 (t:Int))|4=>.const [2,3] (.pointer (some ⟨gp,t,none⟩))|5=>.const [4] (.int .i64 pn)|6=>MkT2 [0,5] (BkE (.agg #[.bool bd,.slice sa sn sc,.string btx]) F) BkE.below|7=>MkMv 6|8=>MkFs 7|9=>MkSd 7|10=>MkW 74 #[.bool false,.slice none 0 0,.string ⟨#[]⟩]|_=>.triv) (fun x=>⟨List.toArray ((.agg #[.slice a1 xs.length c1,.slice a2 ys.length c2,.slice a3 is.length c3,.slice a4 bs.length c4])::(.pointer (some ⟨w.heap.size,0,none⟩))::(.pointer (some ⟨w.heap.size+1,0,none⟩))::(.pointer (some ⟨b,0,none⟩))::(dv')::(kv')::(.int .i64 ↑j)::(.pointer (some ⟨xb,0,none⟩))::(nv')::(.int .i64 ↑t)::(x 10)::(u11)::(u12)::(.agg #[.slice a1 xs.length c1,.slice a2 ys.length c2,.slice a3 is.length c3,.slice a4 bs.length c4])::(.agg #[.slice p1 xs.length q1,.slice p2 ys.length q2,.slice (some ⟨g3,0,none⟩) is.length q3,.slice (some ⟨g4,0,none⟩) bs.length q4])::(.agg #[.slice a1 xs.length c1,.slice a2 ys.length c2,.slice a3 is.length c3,.slice a4 bs.length c4])::(.bool true)::(.bool false)::(undef)::(.slice (some ⟨n0,0,none⟩) 0 0)::(.slice (some ⟨n0+1,0,none⟩) 0 0)::(.int .i64 ↑j)::(.pointer (some ⟨b,2,none⟩))::(.slice (some ⟨g3,0,none⟩) is.length q3)::(.int .i64 ↑is.length)::(.bool true)::(u26)::(u27)::(.pointer (some ⟨b,2,none⟩))::(.slice (some ⟨g3,0,none⟩) is.length q3)::(.int .i64 ↑j)::(.pointer (some ⟨g3,j * 3,none⟩))::(.agg #[.int .i64 2,.int .i64 lj,.slice (some ⟨gp,0,none⟩) 2 cp])::(.slice (some ⟨xb+1,0,none⟩) 0 0)::(.int .i64 ↑t)::(.pointer (some ⟨xb,2,none⟩))::(.slice (some ⟨gp,0,none⟩) 2 cp)::(.int .i64 2)::(.bool true)::(.bool true)::(.pointer (some ⟨xb,0,none⟩))::(.int .i64 2)::(.bool true)::(.bool true)::(u44)::(u45)::(x 7)::(x 0)::(x 1)::(x 2)::(x 3)::(x 4)::(x 5)::(x 6)::(x 8)::(x 9)::(u56)::(u57)::(u58)::(u59)::(u60)::(u61)::(u62)::(u63)::(u64)::(u65)::(u66)::(u67)::(u68)::(u69)::(u70)::(u71)::(u72)::(u73)::(u74)::(u75)::(u76)::(u77)::(u78)::(u79)::(u80)::(u81)::(u82)::(u83)::(u84)::(u85)::(u86)::(u87)::(u88)::(u89)::(u90)::(u91)::(u92)::(u93)::(u94)::(u95)::(u96)::(u97)::(u98)::(u99)::(u100)::(u101)::(u102)::(u103)::(u104)::(u105)::(u106)::(u107)::(u108)::(u109)::(u110)::(u111)::(u112)::(u113)::(u114)::(u115)::(u116)::(u117)::(u118)::(u119)::(u120)::(u121)::(u122)::(u123)::(u124)::(u125)::(u126)::(u127)::(u128)::(u129)::(u130)::(u131)::(u132)::(u133)::(u134)::(u135)::(u136)::(u137)::(u138)::(u139)::(u140)::(u141)::(u142)::(u143)::(u144)::(u145)::(u146)::(u147)::(u148)::(undef)::[]),[]⟩) (fun i=>match i with|0=>u47|1=>u48|2=>u49|3=>u50|4=>u51|5=>u52|6=>u53|7=>u46|8=>u54|9=>u55|10=>u10|_=>undef) rfl (zae (by kernel_rfl) (by kernel_rfl)) (by kernel_rfl) (by kernel_rfl) (by kernel_rfl) rfl ?_ ?_ ?_
     ·intro jo hj so x iw W hd hp K hK;simp only [List.mem_cons,List.not_mem_nil,or_false] at hj;rcases hj with rfl|rfl|rfl|rfl|rfl|rfl|rfl|rfl|rfl|rfl|rfl<;>refine wpOp_step (o:=_) rfl fun K' hK'=>?_<;>have HK:=hide (fun (v:Value) (W':World) h1 h2=>hK' _ _ (hK v W' h1 h2))<;>simp only [upd,Nat.reduceEqDiff,if_true,if_false] at HK
      ·have bw:=zaa hp.bel;have k0:=(HCP.out W bw).2.2.2.os.o;obtain ⟨q09,q19,q29,q39⟩:=AtC.four k0;clear k0 bw;go_simp;exact HK.out _ _ bR rfl
      ·clear hK hK' hp hd;go_simp;exact HK.out _ _ bR rfl
      ·have e1:x 1=.pointer (some ⟨xb,2,none⟩):=hp.post 1 (hd 1 mz0);have bw:=zaa hp.bel;have q5:=(HCP.out W bw).2.2.1;clear bw;simp only [e1] at HK ⊢;go_simp;exact HK.out _ _ bR rfl
      ·clear hK hK' hp hd;go_simp;exact HK.out _ _ bR rfl
      ·have e2:x 2=.slice (some ⟨gp,0,none⟩) 2 cp:=hp.post 2 (hd 2 mz0);have e3:x 3=.int .i64 (t:Int):=hp.post 3 (hd 3 mz1);simp only [e2,e3] at HK ⊢;go_simp;exact HK.out _ _ bR rfl
      ·have e4:x 4=.pointer (some ⟨gp,t,none⟩):=hp.post 4 (hd 4 mz0);have bw:=zaa hp.bel;have q5:=(HCP.out W bw).1;clear bw;simp only [e4] at HK ⊢;go_simp;exact HK.out _ _ bR rfl
      ·have e0:x 0=.agg #[.slice p1 xs.length q1,.slice p2 ys.length q2,.slice (some ⟨g3,0,none⟩) is.length q3,.slice (some ⟨g4,0,none⟩) bs.length q4]:=hp.post 0 (hd 0 mz0);have e5:x 5=.int .i64 pn:=hp.post 5 (hd 5 mz1);have dr:=zaa hp.bel;simp only [e0,e5] at HK ⊢;clear e0 e5;go_simp;refine (CB.out W dr).mono ?_;rintro e w6 ⟨rfl,B6⟩;go_simp;exact HK.out _ _ B6 ⟨_,_,rfl,rfl,rfl⟩
      ·have e6:∃ a r,x 6=.tuple #[a,r]/\BkE (.agg #[.bool bd,.slice sa sn sc,.string btx]) F (iw 6).1 (iw 6).2 W a r:=hp.post 6 (hd 6 mz0);obtain ⟨a,r,e6,-⟩:=e6;have ea:=hide e6;simp only [e6] at HK ⊢;clear e6;go_simp;exact HK.out _ _ bR ⟨ea.out,a,r,rfl⟩
      ·have e7:x 6=x 7/\∃ a r,x 7=.tuple #[a,r]:=hp.post 7 (hd 7 mz0);obtain ⟨-,a,r,e7⟩:=e7;have ea:Hid (a=fstOf (x 7)):=by rw [e7];rfl
       simp only [e7] at HK ⊢;clear e7;go_simp;exact HK.out _ _ bR ea.out
      ·have e7:x 6=x 7/\∃ a r,x 7=.tuple #[a,r]:=hp.post 7 (hd 7 mz0);obtain ⟨-,a,r,e7⟩:=e7;have ea:Hid (r=sndOf (x 7)):=by rw [e7];rfl
       simp only [e7] at HK ⊢;clear e7;go_simp;exact HK.out _ _ bR ea.out
      ·clear hK hK' hp hd;go_simp;exact HK.out _ _ ((Below.refl _ W).alloc nR _) ⟨rfl,by simp,AtC.new W 74 _⟩
     ·intro x iw W hp;obtain ⟨a,r,e6,R6⟩:=hp.post 6 (by decide);obtain ⟨e7,-⟩:=hp.post 7 (by decide);have e8:x 8=fstOf (x 7):=hp.post 8 (by decide);have e9:x 9=sndOf (x 7):=hp.post 9 (by decide);obtain ⟨e10,z10,A10⟩:=hp.post 10 (by decide);have l10:=hp.lo 10 (by decide);have lc:=hp.lo 6 (by decide);have bel:=zaa hp.bel;have ap:=hp.apart 6 (by decide) 10 (by decide) (by decide);rw [← e7,e6] at e8;rw [← e7,e6] at e9
      replace e9:x 9=r:=e9
      rw [e6] at e7
      replace e7:=e7.symm
      replace e8:x 8=a:=e8
      have y0:W.cell? ⟨(iw 10).1,0,none⟩=some (.bool false):=A10.cell 0;have f0:=A10.frozen 0;have y1:W.cell? ⟨(iw 10).1,1,none⟩=some (.slice none 0 0):=A10.cell 1;have f1:=A10.frozen 1;have y2:W.cell? ⟨(iw 10).1,2,none⟩=some (.string ⟨#[]⟩):=A10.cell 2;have f2:=A10.frozen 2;obtain ⟨rfl,rfl⟩:=R6;have hb10:wo.heap.size<=(iw 10).1:=l10.1;have HFI:Hid (AtC W (iw 10).1 74 #[.bool false,.slice none 0 0,.string ⟨#[]⟩]/\Below wo.heap.size wo W/\wo.heap.size<=(iw 10).1):=⟨A10,bel,hb10⟩
      clear hp A10 bel ap lc l10 z10 hb10;simp only [e7,e8,e10,e9] at *;generalize (iw 10).1=bw at *;go_wp2_with fail
      try rw [List.filterMap_nil]
      try go_wp2_with fail
      go_meet
      exact ⟨bw,rfl,rfl,((HFI.out.1.set 0 _).set 1 _).set 2 _,((HFI.out.2.1.setCell (p:=⟨bw,0,none⟩) HFI.out.2.2 _).setCell (p:=⟨bw,1,none⟩) HFI.out.2.2 _).setCell (p:=⟨bw,2,none⟩) HFI.out.2.2 _,HFI.out.2.2⟩
     ·intro qa hqa l hl x iw W hp;simp only [List.mem_cons,List.not_mem_nil,or_false] at hqa;subst hqa;simp only [List.mem_cons,List.not_mem_nil,or_false] at hl;obtain ⟨a,r,e6,R6⟩:=hp.post 6 (by decide);obtain ⟨e7,-⟩:=hp.post 7 (by decide);have e8:x 8=fstOf (x 7):=hp.post 8 (by decide);obtain ⟨e10,z10,A10⟩:=hp.post 10 (by decide);have l10:=hp.lo 10 (by decide);have lc:=hp.lo 6 (by decide);have bel:=zaa hp.bel;have ap:=hp.apart 6 (by decide) 10 (by decide) (by decide);rw [← e7,e6] at e8;rw [e6] at e7
      replace e7:=e7.symm
      replace e8:x 8=a:=e8
      have y0:W.cell? ⟨(iw 10).1,0,none⟩=some (.bool false):=A10.cell 0;have f0:=A10.frozen 0;have y1:W.cell? ⟨(iw 10).1,1,none⟩=some (.slice none 0 0):=A10.cell 1;have f1:=A10.frozen 1;have y2:W.cell? ⟨(iw 10).1,2,none⟩=some (.string ⟨#[]⟩):=A10.cell 2;have f2:=A10.frozen 2;obtain ⟨rfl,rfl⟩:=R6;have hb10:wo.heap.size<=(iw 10).1:=l10.1;have HFI:Hid (AtC W (iw 10).1 74 #[.bool false,.slice none 0 0,.string ⟨#[]⟩]/\Below wo.heap.size wo W/\wo.heap.size<=(iw 10).1):=⟨A10,bel,hb10⟩
      clear hp A10 bel ap lc l10 z10 hb10;simp only [e7,e8,e10] at *;generalize (iw 10).1=bw at *;rcases hl with rfl | rfl
      ·go_wp2_with fail
       try rw [List.filterMap_nil]
       try go_wp2_with fail
       go_meet
       exact ⟨bw,rfl,rfl,((HFI.out.1.set 0 _).set 1 _).set 2 _,((HFI.out.2.1.setCell (p:=⟨bw,0,none⟩) HFI.out.2.2 _).setCell (p:=⟨bw,1,none⟩) HFI.out.2.2 _).setCell (p:=⟨bw,2,none⟩) HFI.out.2.2 _,HFI.out.2.2⟩
      ·go_wp2_with fail
       try rw [List.filterMap_nil]
       try go_wp2_with fail
       go_meet
       exact ⟨bw,rfl,rfl,((HFI.out.1.set 0 _).set 1 _).set 2 _,((HFI.out.2.1.setCell (p:=⟨bw,0,none⟩) HFI.out.2.2 _).setCell (p:=⟨bw,1,none⟩) HFI.out.2.2 _).setCell (p:=⟨bw,2,none⟩) HFI.out.2.2 _,HFI.out.2.2⟩
    case rest =>
     obtain ⟨bw,rfl,rfl,Aw,Bw,lw⟩:=hcut;obtain ⟨kp1,lp1,kx2,nv9⟩:=HCP.out wc Bw;have HN9:=hide ((HCP.out wo bR).2.2.2.box Bw Aw lw);have b0:wc.cell? ⟨bw,0,none⟩=some (.bool bd):=Aw.cell 0;have HTN:Hid (¬ (2:Int)=2->t+1=0):=fun e=>absurd rfl e;clear Aw Bw lw nv9 HCP CB HT
     cases F with
     | false =>
      have HE:Hid (stK is bs j (t+1)=st):=by show _=_;rw [HS1.out];rfl
      go_wp2;go_roundw
      case rel=>exact ⟨dv',kv',nv',t+1,rfl,rfl,rfl,by omega,by go_num,by rw [HE.out,HCUR.out];exact ⟨HN9.out.less (fun e he=>List.mem_cons_of_mem _ he),(fun e=>by simp at e)⟩⟩
      case measure=>simp [intOf];omega
     | true =>
      rw [if_pos rfl] at HS1;have hin':=zao HFF.out;obtain ⟨m,rfl⟩:∃ m:Nat,pn=(m:Int)+1:=⟨(pn - 1).toNat,by omega⟩
      have hm16:m < 16:=by omega
      have HDB:=hide (HBA.out m rfl hm16);have HS3:=hide (HS2.out HFF.out);rw [show ((m:Int)+1 - 1).toNat=m by omega] at HS3;have HST:Hid (stepU is bs st ((j:Int)+1,(m:Int)+1)=if (!bd || st.2.contains ((m:Int)+1))=true then st else (st.1 ++ tlQ ((j:Int)+1) m (bs.getD m zB).2.1 (bs.getD m zB).2.1.length,st.2 ++ [(m:Int)+1])):=by
       show stepU is bs st ((j:Int)+1,(m:Int)+1)=_;unfold stepU;rw [HKQ.out.1,← HDB.out,show ((m:Int)+1 - 1).toNat=m by omega,zb3 (by rw [HB16.out];exact hm16)];simp
      rw [HST.out] at HS1;clear hin' HBA HS2 HST
      cases bd with
      | false =>
       have HE:Hid (stK is bs j (t+1)=st):=by show _=_;rw [HS1.out];rfl
       go_wp2;go_roundw
       case rel=>exact ⟨dv',kv',nv',t+1,rfl,rfl,rfl,by omega,by go_num,by rw [HE.out,HCUR.out];exact ⟨HN9.out.less (fun e he=>List.mem_cons_of_mem _ he),(fun e=>by simp at e)⟩⟩
       case measure=>simp [intOf];omega
      | true =>
      have CH:=hide (zbn kv' st.2 ((m:Int)+1) wc HN9.out.k.rints (by have:=HKL.out;omega));go_wp2_with fail
      refine CH.out.mono ?_;rintro e w7 ⟨rfl,hw7⟩;subst hw7
      cases hc:st.2.contains ((m:Int)+1) with
      | true =>
       have HE:Hid (stK is bs j (t+1)=st):=by show _=_;rw [HS1.out,hc];rfl
       go_wp2;go_roundw
       case rel=>exact ⟨dv',kv',nv',t+1,rfl,rfl,rfl,by omega,by go_num,by rw [HE.out,HCUR.out];exact ⟨HN9.out.less (fun e he=>List.mem_cons_of_mem _ he),(fun e=>by simp at e)⟩⟩
       case measure=>simp [intOf];omega
      | false =>
      rw [hc,show (!true || false)=false from rfl,if_neg (by decide)] at HS1;have HNC:=hide hc;have HAL:Hid (Below w7.heap.size w7 (w7.alloc (.cells #[.int .i64 ((m:Int)+1)] 3))/\ROwns (w7.alloc (.cells #[.int .i64 ((m:Int)+1)] 3)) n0 3 kv' (ic st.2)/\n0<=(w7.alloc (.cells #[.int .i64 ((m:Int)+1)] 3)).heap.size/\(w7.alloc (.cells #[.int .i64 ((m:Int)+1)] 3)).cell? ⟨w7.heap.size,0,none⟩=some (.int .i64 ((m:Int)+1))):=⟨(Below.refl _ w7).alloc nR _,HN9.out.k.alloc _,by have:=HN9.out.os.nn;simp;omega,(AtC.new w7 3 _).cell 0⟩
      have HTL:Hid ((ic st.2).length<=100000000000):=by have:=HKL.out;show _<=_;rw [zaf];omega
      obtain ⟨ss,hss⟩:∃ x,(bs.getD m zB).2.1=x:=⟨_,rfl⟩
      have HSS':=hide hss;rw [hss] at HS1;have HSN:Hid (sn=ss.length/\(tb.getD m zB3).2.1=.slice sa sn sc):=⟨by rw [HS3.out.1,HNI.out.ln,hss],HS3.out.2⟩
      have hsn:=HSN.out.1;subst hsn;have hss4:ss.length<=4:=by rw [← hss,zap (by rw [HB16.out];exact hm16)];exact HX.out.r.four _ (List.getElem_mem _)
      clear hc hss b0;go_wp2_with (at_builtin;refine wpList_step fun K' hK'=>?_;refine zal _ rfl (.tmp 72) (.tmp 78) 54 rfl n0 3 Tryz.u54 _ 8 Tryz.i3 rfl (by decide) kv' _ rfl HAL.out.2.1 HAL.out.2.2.1 w7.heap.size (.int .i64 ((m:Int)+1)) rfl HAL.out.2.2.2 rfl HTL.out ?_;intro v9 w9 T9 G9 V9;refine hK' _ _ ?_;have HA9:=hide ((HN9.out.below HAL.out.1).appK (z:=(m:Int)+1) (by rw [show ic (st.2 ++ [(m:Int)+1])=ic st.2 ++ [.int .i64 ((m:Int)+1)] by simp [ic]];exact T9) G9 V9);clear T9 G9 V9 hK')
      have HTS:Hid (∀ s,s<=ss.length->TI bs (st.1 ++ tlQ ((j:Int)+1) m ss s,st.2 ++ [(m:Int)+1])):=fun s hs=>by
       have:=HTI.out.add ((j:Int)+1) m (by rw [HB16.out];exact hm16) HNC.out s (by rw [HSS'.out];exact hs);rw [HSS'.out] at this;exact this
      have HS0:Hid (NV w w9 b n0 #[.slice a1 xs.length c1,.slice a2 ys.length c2,.slice a3 is.length c3,.slice a4 bs.length c4] (.slice p1 xs.length q1) (.slice p2 ys.length q2) (.slice (some ⟨g3,0,none⟩) is.length q3) (.slice (some ⟨g4,0,none⟩) bs.length q4) ti tb xs ys is (curT is bs (st.1 ++ tlQ ((j:Int)+1) m ss 0)) dv' v9 nv' (DS is (curT is bs (st.1 ++ tlQ ((j:Int)+1) m ss 0)) (st.1 ++ tlQ ((j:Int)+1) m ss 0)) (st.2 ++ [(m:Int)+1]) (NM (curT is bs (st.1 ++ tlQ ((j:Int)+1) m ss 0)) ((j:Int)+1) (st.1 ++ tlQ ((j:Int)+1) m ss 0)) [(bw,74,#[.bool true,.slice sa ss.length sc,.string btx]),(xb,63,#[.int .i64 2,.int .i64 lj,.slice (some ⟨gp,0,none⟩) 2 cp])]):=by
       rw [show tlQ ((j:Int)+1) m ss 0=[] from rfl,List.append_nil,HCUR.out];exact HA9.out
      clear HA9 HAL HN9 kp1 kx2 lp1;go_wp2_with fail
      go_loopw [4,8,12] (fun dv nv sv wr=>∃ (d' n':Value) (s:Nat),d'=dv/\n'=nv/\s<=ss.length/\sv=.int .i64 s/\Hid (NV w wr b n0 #[.slice a1 xs.length c1,.slice a2 ys.length c2,.slice a3 is.length c3,.slice a4 bs.length c4] (.slice p1 xs.length q1) (.slice p2 ys.length q2) (.slice (some ⟨g3,0,none⟩) is.length q3) (.slice (some ⟨g4,0,none⟩) bs.length q4) ti tb xs ys is (curT is bs (st.1 ++ tlQ ((j:Int)+1) m ss s)) d' v9 n' (DS is (curT is bs (st.1 ++ tlQ ((j:Int)+1) m ss s)) (st.1 ++ tlQ ((j:Int)+1) m ss s)) (st.2 ++ [(m:Int)+1]) (NM (curT is bs (st.1 ++ tlQ ((j:Int)+1) m ss s)) ((j:Int)+1) (st.1 ++ tlQ ((j:Int)+1) m ss s)) [(bw,74,#[.bool true,.slice sa ss.length sc,.string btx]),(xb,63,#[.int .i64 2,.int .i64 lj,.slice (some ⟨gp,0,none⟩) 2 cp])])) (fun _ _ sv _=>ss.length - (intOf sv).toNat)
      case atStart=>exact ⟨_,_,0,rfl,rfl,Nat.zero_le _,rfl,HS0.out⟩
      case round =>
       obtain ⟨dw,nw,s,hdw,hnw,hs,rfl,HU⟩:=hrel;subst hdw hnw;clear HS0;have s0:(0:Int)<=(s:Int):=by omega
       have bw1:wr.cell? ⟨bw,1,none⟩=some (.slice sa ss.length sc):=(HU.out.bx _ (List.mem_cons_self)).1.cell 1;by_cases hsl:s < ss.length
       rotate_left
       ·have s1:¬ ((s:Int) < (ss.length:Int)):=by omega
        have HE:Hid (stK is bs j (t+1)=(st.1 ++ tlQ ((j:Int)+1) m ss s,st.2 ++ [(m:Int)+1])):=by show _=_;rw [HS1.out,show s=ss.length by omega]
        go_wp2;go_roundw
        case rel=>exact ⟨dw,v9,nw,t+1,rfl,rfl,rfl,by omega,by go_num,by rw [HE.out];exact ⟨HU.out.less (fun e he=>List.mem_cons_of_mem _ he),(fun e=>by simp at e)⟩⟩
        case measure=>simp [intOf];omega
       have s1:(s:Int) < (ss.length:Int):=by omega
       have HSQ:=hide (zk4 ((j:Int)+1) m ss s);have HTI2:=hide (HTS.out s hs);have HLT:Hid ((st.1 ++ tlQ ((j:Int)+1) m ss s).length<=100):=by have h1:=zhl ((j:Int)+1) m ss s;have:=HLN.out;show _<=_;rw [List.length_append];omega
       have HDJ:Hid (∀ a∈st.1 ++ tlQ ((j:Int)+1) m ss s,¬ a.2=(m,s)):=fun a ha e=>by
        rcases List.mem_append.1 ha with h1 | h1
        ·have h2:=(HTI.out.h a h1).2.1;rw [e,HNC.out] at h2
         cases h2
        ·have h2:=(zhm h1).2.2.1;rw [e] at h2;simp only at h2;omega
       have HTT:Hid (∀ x∈st.1 ++ tlQ ((j:Int)+1) m ss s,InT bs x):=fun x hx=>(HTI2.out.h x hx).1;have HIB:Hid (InT bs ((j:Int)+1,m,s)):=⟨by rw [HB16.out];exact hm16,by show s < _;rw [HSS'.out];exact hsl⟩
       obtain ⟨Ts,hTs⟩:∃ x,st.1 ++ tlQ ((j:Int)+1) m ss s=x:=⟨_,rfl⟩
       have HTs:=hide hTs;rw [hTs] at HU HTI2 HLT HDJ HTT;have HNI2:Hid (NI xs ys is bs (curT is bs Ts)):=(NI.begin HO.out).run Ts [];have HSO:Hid (slotN (curT is bs Ts) ((j:Int)+1,m,s)=slotN bs ((j:Int)+1,m,s)):=zdn is Ts [] bs _ (fun x hx=>⟨HTT.out x hx,fun e=>HDJ.out x hx e.symm⟩);have HRN:=hide (zi1 is Ts ((j:Int)+1,m,s) bs);obtain ⟨cs,hcs⟩:∃ x,curT is bs Ts=x:=⟨_,rfl⟩
       have HCS:=hide hcs;rw [hcs] at HU HNI2 HSO;have HRN2:Hid (curT is bs (Ts ++ [((j:Int)+1,m,s)])=stepN is Ts cs ((j:Int)+1,m,s)):=by rw [← hcs];exact HRN.out
       have HIC:Hid (∀ x,InT bs x->InT cs x):=fun x hx=>⟨by have e1:=(zaj HNI2.out.ok).2.2.2.2;have e2:=HB16.out;have:=hx.1;omega,by rw [HNI2.out.ln];exact hx.2⟩
       obtain ⟨gs,cc,es,ea,ks0,ks1,-,hgs,-⟩:=zbk HU.out.os.d ((j:Int)+1,m,s) (HIC.out _ HIB.out);simp only at es ks0 ks1;have HES:=hide es;rw [HSN.out.2] at es;simp only [Value.slice.injEq] at es;obtain ⟨rfl,-,-⟩:=es;obtain ⟨⟨nm,si⟩,hslot⟩:∃ x,slotN cs ((j:Int)+1,m,s)=x:=⟨_,rfl⟩
       have HSLT:=hide hslot;rw [hslot] at ks0 ks1;simp only at ks0 ks1;have hnm:(ss.getD s noS).1=nm:=by
        have h1:=HSO.out;rw [hslot] at h1;have h2:slotN bs ((j:Int)+1,m,s)=ss.getD s noS:=by unfold slotN;rw [HSS'.out]
        rw [← h2,← h1]
       rw [hnm] at HSQ;clear hTs hcs hslot hnm ea;by_cases hse:nm=⟨#[]⟩
       ·subst hse;have HE:Hid (st.1 ++ tlQ ((j:Int)+1) m ss (s+1)=Ts):=by show _=_;rw [HSQ.out,if_pos rfl,List.append_nil,HTs.out]
        go_wp2;go_roundw
        case rel=>exact ⟨dw,nw,s+1,rfl,rfl,by omega,by go_num,by rw [HE.out,HCS.out];exact HU.out⟩
        case measure=>simp [intOf];omega
       have hse2:(nm.toList == ([]:List UInt8))=false:=zc2 hse;have HE:Hid (st.1 ++ tlQ ((j:Int)+1) m ss (s+1)=Ts ++ [((j:Int)+1,m,s)]):=by show _=_;rw [HSQ.out,if_neg hse,← List.append_assoc,HTs.out]
       have hir:1<=si/\si<=8:=by
        have hr:=(RX.of_ok HNI2.out.ok).sr (cs.getD m zB) (by rw [zap (HIC.out _ HIB.out).1];exact List.getElem_mem _) (slotN cs ((j:Int)+1,m,s)) (by unfold slotN;rw [zap (HIC.out _ HIB.out).2];exact List.getElem_mem _);rw [HSLT.out] at hr;exact hr.resolve_left hse
       obtain ⟨i8,rfl⟩:∃ i8:Nat,si=(i8:Int)+1:=⟨(si - 1).toNat,by omega⟩
       have hi8:i8 < 8:=by omega
       have HNE:Hid (¬ (slotN cs ((j:Int)+1,m,s)).1=⟨#[]⟩):=by rw [HSLT.out];exact hse
       have HKB:Hid (keepB is (nm,(i8:Int)+1) (NM cs ((j:Int)+1) Ts) (DS is cs Ts)=!badT is Ts cs ((j:Int)+1,m,s)):=by
        have:=keep_bad HNI2.out.ok (T:=Ts) (fun x hx=>HIC.out x (HTT.out x hx)) (t:=((j:Int)+1,m,s)) HNE.out (by rw [HSLT.out];show 1<=(i8:Int)+1;omega);rw [HSLT.out] at this;exact this
       have HCELL:Hid (∀ (W:World) (d' n':Value) (di':List Int) (na':List ByteArray),NV w W b n0 #[.slice a1 xs.length c1,.slice a2 ys.length c2,.slice a3 is.length c3,.slice a4 bs.length c4] (.slice p1 xs.length q1) (.slice p2 ys.length q2) (.slice (some ⟨g3,0,none⟩) is.length q3) (.slice (some ⟨g4,0,none⟩) bs.length q4) ti tb xs ys is cs d' v9 n' di' (st.2 ++ [(m:Int)+1]) na' [(bw,74,#[.bool true,.slice (some ⟨gs,0,none⟩) ss.length sc,.string btx]),(xb,63,#[.int .i64 2,.int .i64 lj,.slice (some ⟨gp,0,none⟩) 2 cp])]->W.cell? ⟨gs,s * 2,none⟩=some (.string nm)/\W.cell? ⟨gs,s * 2+1,none⟩=some (.int .i64 ((i8:Int)+1))/\(∀ k,W.frozen? ⟨gs,k,none⟩=false)/\gs < W.heap.size/\W.cell? ⟨bw,1,none⟩=some (.slice (some ⟨gs,0,none⟩) ss.length sc)/\W.cell? ⟨xb,2,none⟩=some (.slice (some ⟨gp,0,none⟩) 2 cp)/\W.cell? ⟨gp,t,none⟩=some (.int .i64 ((m:Int)+1))/\W.cell? ⟨g4,m * 3+1,none⟩=some (.slice (some ⟨gs,0,none⟩) ss.length sc)/\W.cell? ⟨g3,i8 * 3,none⟩=some (.int .i64 (zab is ((i8:Int)+1)))):=fun W d' n' di' na' h1=>by
        obtain ⟨g',c',es',-,k0',k1',f',l',-⟩:=zbk h1.os.d ((j:Int)+1,m,s) (HIC.out _ HIB.out);have hes:=HES.out;simp only at es';rw [hes] at es';simp only [Value.slice.injEq,Option.some.injEq,Addr.mk.injEq] at es';obtain ⟨⟨rfl,-⟩,-,-⟩:=es';rw [HSLT.out] at k0' k1';obtain ⟨-,-,-,-,-,-,-,-,-,ro,-⟩:=h1.os.d.ino j hlt;rw [HEP.out] at ro;obtain ⟨g',c',e',kp,-,-,-,-⟩:=ro.at t (by rw [zaf];exact ht2);simp only [Value.slice.injEq,Option.some.injEq,Addr.mk.injEq] at e';obtain ⟨⟨rfl,-⟩,-,-⟩:=e';obtain ⟨g',c',eb,-,-,-,kb1,-,-,-⟩:=h1.os.d.blk m (HIC.out _ HIB.out).1;simp only [Value.slice.injEq,Option.some.injEq,Addr.mk.injEq] at eb;obtain ⟨⟨rfl,-⟩,-,-⟩:=eb;rw [HSN.out.2] at kb1;have hii:i8 < is.length:=by rw [HI8.out];exact hi8
        obtain ⟨g',c',ei,-,-,-,ki,-⟩:=h1.os.d.ino i8 hii;simp only [Value.slice.injEq,Option.some.injEq,Addr.mk.injEq] at ei;obtain ⟨⟨rfl,-⟩,-,-⟩:=ei;refine ⟨k0',k1',f',l',(h1.bx _ (List.mem_cons_self)).1.cell 1,(h1.bx _ (List.mem_cons_of_mem _ (List.mem_cons_self))).1.cell 2,?_,kb1,by rw [(zai hii).1];exact ki⟩;rw [kp];simp only [ic,List.getElem?_map,List.getElem?_eq_getElem ht2,HPN.out];rfl
       have HW21:=hide (fun (W:World) (hb:Below wr.heap.size wr W)=>And.intro (HU.out.below hb) (HCELL.out W dw nw _ _ (HU.out.below hb)));have CKE:=hide (fun (W:World) (hb:Below wr.heap.size wr W)=>keep_any nm i8 nw dw (NM cs ((j:Int)+1) Ts) (DS is cs Ts) (.slice p1 xs.length q1) (.slice p2 ys.length q2) (.slice (some ⟨g3,0,none⟩) is.length q3) (.slice (some ⟨g4,0,none⟩) bs.length q4) xs ys is cs W (HU.out.below hb).os.d.dr (RX.of_ok HNI2.out.ok).r hi8 (tx_rtx (HU.out.below hb).n) (HU.out.below hb).d.rints (by have h1:=NM_len cs ((j:Int)+1) Ts;have:=HLT.out;omega) (by have h1:=DS_len is cs Ts;have:=HLT.out;omega));rw [HKB.out] at CKE;have HNMC:=hide (NM_clr cs ((j:Int)+1) Ts (t:=((j:Int)+1,m,s)) (HIC.out _ HIB.out) HDJ.out);have HDSC:=hide (DS_clr is cs Ts (t:=((j:Int)+1,m,s)) (HIC.out _ HIB.out) HDJ.out);have HNMK:=hide (NM_keep cs Ts (t:=((j:Int)+1,m,s)) HNE.out);have HDSK:=hide (DS_keep is cs Ts (t:=((j:Int)+1,m,s)) HNE.out);rw [HSLT.out] at HNMK HDSK;simp only at HNMK HDSK;have HCLR:=hide (fun (W:World) (hb:Below wr.heap.size wr W)=>(HU.out.below hb).clr ((j:Int)+1,m,s) (HIC.out _ HIB.out) HES.out);have m0:(0:Int)<=(m:Int):=by omega
       have m1:(m:Int) < (bs.length:Int):=by have:=HB16.out;omega
       have hwm:IntKind.i64.wrap (m:Int)=(m:Int):=wrap_small _ (by omega) (by omega);have i0:(0:Int)<=(i8:Int):=by omega
       have i1:(i8:Int) < (is.length:Int):=by have:=HI8.out;omega
       have hwi:IntKind.i64.wrap (i8:Int)=(i8:Int):=wrap_small _ (by omega) (by omega);clear hse hir
       cases hbad:badT is Ts cs ((j:Int)+1,m,s) with
       | true =>
        rw [hbad] at CKE;have HCT:Hid (curT is bs (Ts ++ [((j:Int)+1,m,s)])=clrS cs ((j:Int)+1,m,s)):=by show _=_;rw [HRN2.out];unfold stepN;rw [hbad];rfl
        clear hbad;go_upto_region 21 with fail
        clear ks0 ks1 bw1;refine zad (by kernel_rfl) [0,1,2,3,4,5,6,7,8,9] [] [] (fun i=>match i with|0=>.const [] (.agg #[.slice p1 xs.length q1,.slice p2 ys.length q2,.slice (some ⟨g3,0,none⟩) is.length q3,.slice (some ⟨g4,0,none⟩) bs.length q4])|1=>.const [] (.pointer (some ⟨bw,1,none⟩))|2=>.const [1] (.slice (some ⟨gs,0,none⟩) ss.length sc)|3=>.const [] (.int .i64 (s:Int))|4=>.const [2,3] (.pointer (some ⟨gs,s * 2,none⟩))|5=>.const [4] (.agg #[.string nm,.int .i64 ((i8:Int)+1)])|6=>.const [] (nw)|7=>.const [] (dw)|8=>.const [0,5,6,7] (.bool false)|9=>.const [8] (.bool true)|_=>.triv) (fun x=>⟨List.toArray ((.agg #[.slice a1 xs.length c1,.slice a2 ys.length c2,.slice a3 is.length c3,.slice a4 bs.length c4])::(.pointer (some ⟨w.heap.size,0,none⟩))::(.pointer (some ⟨w.heap.size+1,0,none⟩))::(.pointer (some ⟨b,0,none⟩))::(dw)::(v9)::(.int .i64 ↑j)::(.pointer (some ⟨xb,0,none⟩))::(nw)::(.int .i64 ↑t)::(.pointer (some ⟨bw,0,none⟩))::(.bool true)::(.int .i64 ↑s)::(.agg #[.slice a1 xs.length c1,.slice a2 ys.length c2,.slice a3 is.length c3,.slice a4 bs.length c4])::(.agg #[.slice p1 xs.length q1,.slice p2 ys.length q2,.slice (some ⟨g3,0,none⟩) is.length q3,.slice (some ⟨g4,0,none⟩) bs.length q4])::(.agg #[.slice a1 xs.length c1,.slice a2 ys.length c2,.slice a3 is.length c3,.slice a4 bs.length c4])::(.bool true)::(.bool false)::(undef)::(.slice (some ⟨n0,0,none⟩) 0 0)::(.slice (some ⟨n0+1,0,none⟩) 0 0)::(.int .i64 ↑j)::(.pointer (some ⟨b,2,none⟩))::(.slice (some ⟨g3,0,none⟩) is.length q3)::(.int .i64 ↑is.length)::(.bool true)::(u26)::(u27)::(.pointer (some ⟨b,2,none⟩))::(.slice (some ⟨g3,0,none⟩) is.length q3)::(.int .i64 ↑j)::(.pointer (some ⟨g3,j * 3,none⟩))::(.agg #[.int .i64 2,.int .i64 lj,.slice (some ⟨gp,0,none⟩) 2 cp])::(.slice (some ⟨xb+1,0,none⟩) 0 0)::(u34)::(u35)::(u36)::(u37)::(u38)::(u39)::(u40)::(u41)::(u42)::(u43)::(u44)::(u45)::(u46)::(u47)::(u48)::(u49)::(u50)::(u51)::(u52)::(u53)::(u54)::(u55)::(.bool true)::(.bool false)::(.bool false)::(.pointer (some ⟨bw,0,none⟩))::(.bool true)::(.bool false)::(.bool false)::(.bool false)::(kv')::(.pointer (some ⟨xb,2,none⟩))::(.slice (some ⟨gp,0,none⟩) 2 cp)::(.int .i64 ↑t)::(.pointer (some ⟨gp,t,none⟩))::(.int .i64 (↑m+1))::(.bool false)::(.bool false)::(kv')::(.pointer (some ⟨xb,2,none⟩))::(.slice (some ⟨gp,0,none⟩) 2 cp)::(.int .i64 ↑t)::(.pointer (some ⟨gp,t,none⟩))::(.int .i64 (↑m+1))::(.slice (some ⟨w7.heap.size,0,none⟩) 1 1)::(v9)::(.int .i64 ↑s)::(.pointer (some ⟨bw,1,none⟩))::(.slice (some ⟨gs,0,none⟩) ss.length sc)::(.int .i64 ↑ss.length)::(.bool true)::(u85)::(u86)::(.pointer (some ⟨bw,1,none⟩))::(.slice (some ⟨gs,0,none⟩) ss.length sc)::(.int .i64 ↑s)::(.pointer (some ⟨gs,s * 2,none⟩))::(.pointer (some ⟨gs,s * 2,none⟩))::(.string nm)::(.bool false)::(x 0)::(x 1)::(x 2)::(x 3)::(x 4)::(x 5)::(x 6)::(x 7)::(x 8)::(x 9)::(u104)::(u105)::(u106)::(u107)::(u108)::(u109)::(u110)::(u111)::(u112)::(u113)::(u114)::(u115)::(u116)::(u117)::(u118)::(u119)::(u120)::(u121)::(u122)::(u123)::(u124)::(u125)::(u126)::(u127)::(u128)::(u129)::(u130)::(u131)::(u132)::(u133)::(u134)::(u135)::(u136)::(u137)::(u138)::(u139)::(u140)::(u141)::(u142)::(u143)::(u144)::(u145)::(u146)::(u147)::(u148)::(undef)::[]),[]⟩) (fun i=>match i with|0=>u94|1=>u95|2=>u96|3=>u97|4=>u98|5=>u99|6=>u100|7=>u101|8=>u102|9=>u103|_=>undef) rfl (zae (by kernel_rfl) (by kernel_rfl)) (by kernel_rfl) (by kernel_rfl) (by kernel_rfl) rfl ?_ ?_ (by intro q hq;cases hq)
        ·intro jo hj so x iw W hd hp K hK;simp only [List.mem_cons,List.not_mem_nil,or_false] at hj;rcases hj with rfl|rfl|rfl|rfl|rfl|rfl|rfl|rfl|rfl|rfl<;>refine wpOp_step (o:=_) rfl fun K' hK'=>?_<;>have HK:=hide (fun (v:Value) (W':World) h1 h2=>hK' _ _ (hK v W' h1 h2))<;>simp only [upd,Nat.reduceEqDiff,if_true,if_false] at HK
         ·have bw:=zaa hp.bel;have k0:=(HW21.out W bw).1.os.o;obtain ⟨q09,q19,q29,q39⟩:=AtC.four k0;clear k0 bw;go_simp;exact HK.out _ _ bR rfl
         ·clear hK hK' hp hd;go_simp;exact HK.out _ _ bR rfl
         ·have e1:x 1=.pointer (some ⟨bw,1,none⟩):=hp.post 1 (hd 1 mz0);have bw:=zaa hp.bel;have q5:=(HW21.out W bw).2.2.2.2.2.1;clear bw;simp only [e1] at HK ⊢;go_simp;exact HK.out _ _ bR rfl
         ·clear hK hK' hp hd;go_simp;exact HK.out _ _ bR rfl
         ·have e2:x 2=.slice (some ⟨gs,0,none⟩) ss.length sc:=hp.post 2 (hd 2 mz0);have e3:x 3=.int .i64 (s:Int):=hp.post 3 (hd 3 mz1);simp only [e2,e3] at HK ⊢;go_simp;exact HK.out _ _ bR rfl
         ·have e4:x 4=.pointer (some ⟨gs,s * 2,none⟩):=hp.post 4 (hd 4 mz0);have bw:=zaa hp.bel;have q5:=(HW21.out W bw).2.1;have q6:=(HW21.out W bw).2.2.1;clear bw;simp only [e4] at HK ⊢;go_simp;exact HK.out _ _ bR rfl
         ·clear hK hK' hp hd;go_simp;exact HK.out _ _ bR rfl
         ·clear hK hK' hp hd;go_simp;exact HK.out _ _ bR rfl
         ·have e0:x 0=.agg #[.slice p1 xs.length q1,.slice p2 ys.length q2,.slice (some ⟨g3,0,none⟩) is.length q3,.slice (some ⟨g4,0,none⟩) bs.length q4]:=hp.post 0 (hd 0 mz0);have e5:x 5=.agg #[.string nm,.int .i64 ((i8:Int)+1)]:=hp.post 5 (hd 5 mz1);have e6:x 6=nw:=hp.post 6 (hd 6 mz2);have e7:x 7=dw:=hp.post 7 (hd 7 mz3);have dr:=zaa hp.bel;simp only [e0,e5,e6,e7] at HK ⊢;clear e0 e5 e6 e7;go_simp;refine (CKE.out W dr).mono ?_;rintro e w6 ⟨rfl,B6⟩;go_simp;exact HK.out _ _ B6 rfl
         ·have e8:x 8=.bool false:=hp.post 8 (hd 8 mz0);simp only [e8] at HK ⊢;go_simp;exact HK.out _ _ bR rfl
        ·intro x iw W hp;have e9:x 9=.bool true:=hp.post 9 (by decide);have bel:Below wr.heap.size wr W:=zaa hp.bel;simp only [e9];clear hp e9;generalize x 0=yy0 at *;generalize x 1=yy1 at *;generalize x 2=yy2 at *;generalize x 3=yy3 at *;generalize x 4=yy4 at *;generalize x 5=yy5 at *;generalize x 6=yy6 at *;generalize x 7=yy7 at *;generalize x 8=yy8 at *;try rw [List.filterMap_nil]
         have HW22:=hide (fun (X:World) (hb:Below W.heap.size W X)=>HW21.out X (bel.trans (hb.mono bel.size)));have HCL2:=hide (fun (X:World) (hb:Below W.heap.size W X)=>HCLR.out X (bel.trans (hb.mono bel.size)));obtain ⟨W2,hW2⟩:∃ X,X=W:=⟨_,rfl⟩
         subst hW2;clear bel HW21 HCLR CKE;go_upto_region 22 with fail
         refine zad (by kernel_rfl) [0,1,2,3,4,5,6,7,8,9,10,11,12,13] [14] [] (fun i=>match i with|0=>.const [] (.pointer (some ⟨b,3,none⟩))|1=>.const [0] (.slice (some ⟨g4,0,none⟩) bs.length q4)|2=>.const [] (.pointer (some ⟨xb,2,none⟩))|3=>.const [2] (.slice (some ⟨gp,0,none⟩) 2 cp)|4=>.const [] (.int .i64 (t:Int))|5=>.const [3,4] (.pointer (some ⟨gp,t,none⟩))|6=>.const [5] (.int .i64 ((m:Int)+1))|7=>.const [6] (.int .i64 (m:Int))|8=>.const [1,7] (.pointer (some ⟨g4,m * 3,none⟩))|9=>.const [8] (.pointer (some ⟨g4,m * 3+1,none⟩))|10=>.const [9] (.slice (some ⟨gs,0,none⟩) ss.length sc)|11=>.const [] (.int .i64 (s:Int))|12=>.const [] (.agg #[.string ⟨#[]⟩,.int .i64 0])|13=>.const [10,11] (.pointer (some ⟨gs,s * 2,none⟩))|_=>.triv) (fun x=>⟨List.toArray ((.agg #[.slice a1 xs.length c1,.slice a2 ys.length c2,.slice a3 is.length c3,.slice a4 bs.length c4])::(.pointer (some ⟨w.heap.size,0,none⟩))::(.pointer (some ⟨w.heap.size+1,0,none⟩))::(.pointer (some ⟨b,0,none⟩))::(dw)::(v9)::(.int .i64 ↑j)::(.pointer (some ⟨xb,0,none⟩))::(nw)::(.int .i64 ↑t)::(.pointer (some ⟨bw,0,none⟩))::(.bool true)::(.int .i64 ↑s)::(.agg #[.slice a1 xs.length c1,.slice a2 ys.length c2,.slice a3 is.length c3,.slice a4 bs.length c4])::(.agg #[.slice p1 xs.length q1,.slice p2 ys.length q2,.slice (some ⟨g3,0,none⟩) is.length q3,.slice (some ⟨g4,0,none⟩) bs.length q4])::(.agg #[.slice a1 xs.length c1,.slice a2 ys.length c2,.slice a3 is.length c3,.slice a4 bs.length c4])::(.bool true)::(.bool false)::(undef)::(.slice (some ⟨n0,0,none⟩) 0 0)::(.slice (some ⟨n0+1,0,none⟩) 0 0)::(.int .i64 ↑j)::(.pointer (some ⟨b,2,none⟩))::(.slice (some ⟨g3,0,none⟩) is.length q3)::(.int .i64 ↑is.length)::(.bool true)::(u26)::(u27)::(.pointer (some ⟨b,2,none⟩))::(.slice (some ⟨g3,0,none⟩) is.length q3)::(.int .i64 ↑j)::(.pointer (some ⟨g3,j * 3,none⟩))::(.agg #[.int .i64 2,.int .i64 lj,.slice (some ⟨gp,0,none⟩) 2 cp])::(.slice (some ⟨xb+1,0,none⟩) 0 0)::(u34)::(u35)::(u36)::(u37)::(u38)::(u39)::(u40)::(u41)::(u42)::(u43)::(u44)::(u45)::(u46)::(u47)::(u48)::(u49)::(u50)::(u51)::(u52)::(u53)::(u54)::(u55)::(.bool true)::(.bool false)::(.bool false)::(.pointer (some ⟨bw,0,none⟩))::(.bool true)::(.bool false)::(.bool false)::(.bool false)::(kv')::(.pointer (some ⟨xb,2,none⟩))::(.slice (some ⟨gp,0,none⟩) 2 cp)::(.int .i64 ↑t)::(.pointer (some ⟨gp,t,none⟩))::(.int .i64 (↑m+1))::(.bool false)::(.bool false)::(kv')::(.pointer (some ⟨xb,2,none⟩))::(.slice (some ⟨gp,0,none⟩) 2 cp)::(.int .i64 ↑t)::(.pointer (some ⟨gp,t,none⟩))::(.int .i64 (↑m+1))::(.slice (some ⟨w7.heap.size,0,none⟩) 1 1)::(v9)::(.int .i64 ↑s)::(.pointer (some ⟨bw,1,none⟩))::(.slice (some ⟨gs,0,none⟩) ss.length sc)::(.int .i64 ↑ss.length)::(.bool true)::(u85)::(u86)::(.pointer (some ⟨bw,1,none⟩))::(.slice (some ⟨gs,0,none⟩) ss.length sc)::(.int .i64 ↑s)::(.pointer (some ⟨gs,s * 2,none⟩))::(.pointer (some ⟨gs,s * 2,none⟩))::(.string nm)::(.bool false)::(yy0)::(yy1)::(yy2)::(yy3)::(yy4)::(yy5)::(yy6)::(yy7)::(yy8)::(.bool true)::(x 0)::(x 1)::(x 2)::(x 3)::(x 4)::(x 5)::(x 6)::(x 7)::(x 8)::(x 9)::(x 10)::(x 11)::(x 12)::(x 13)::(u118)::(u119)::(u120)::(u121)::(u122)::(u123)::(u124)::(u125)::(u126)::(u127)::(u128)::(u129)::(u130)::(u131)::(u132)::(u133)::(u134)::(u135)::(u136)::(u137)::(u138)::(u139)::(u140)::(u141)::(u142)::(u143)::(u144)::(u145)::(u146)::(u147)::(u148)::(undef)::[]),[]⟩) (fun i=>match i with|0=>u104|1=>u105|2=>u106|3=>u107|4=>u108|5=>u109|6=>u110|7=>u111|8=>u112|9=>u113|10=>u114|11=>u115|12=>u116|13=>u117|_=>undef) rfl (zae (by kernel_rfl) (by kernel_rfl)) (by kernel_rfl) (by kernel_rfl) (by kernel_rfl) rfl ?_ ?_ (by intro q hq;cases hq)
         ·intro jo hj so x iw W hd hp K hK;simp only [List.mem_cons,List.not_mem_nil,or_false] at hj;rcases hj with rfl|rfl|rfl|rfl|rfl|rfl|rfl|rfl|rfl|rfl|rfl|rfl|rfl|rfl<;>refine wpOp_step (o:=_) rfl fun K' hK'=>?_<;>have HK:=hide (fun (v:Value) (W':World) h1 h2=>hK' _ _ (hK v W' h1 h2))<;>simp only [upd,Nat.reduceEqDiff,if_true,if_false] at HK
          ·clear hK hK' hp hd;go_simp;exact HK.out _ _ bR rfl
          ·have e0:x 0=.pointer (some ⟨b,3,none⟩):=hp.post 0 (hd 0 mz0);have bw:=zaa hp.bel;have q5:W.cell? ⟨b,3,none⟩=some (.slice (some ⟨g4,0,none⟩) bs.length q4):=(HW22.out W bw).1.os.o.cell 3;clear bw;simp only [e0] at HK ⊢;go_simp;exact HK.out _ _ bR rfl
          ·clear hK hK' hp hd;go_simp;exact HK.out _ _ bR rfl
          ·have e2:x 2=.pointer (some ⟨xb,2,none⟩):=hp.post 2 (hd 2 mz0);have bw:=zaa hp.bel;have q5:=(HW22.out W bw).2.2.2.2.2.2.1;clear bw;simp only [e2] at HK ⊢;go_simp;exact HK.out _ _ bR rfl
          ·clear hK hK' hp hd;go_simp;exact HK.out _ _ bR rfl
          ·have e3:x 3=.slice (some ⟨gp,0,none⟩) 2 cp:=hp.post 3 (hd 3 mz0);have e4:x 4=.int .i64 (t:Int):=hp.post 4 (hd 4 mz1);simp only [e3,e4] at HK ⊢;go_simp;exact HK.out _ _ bR rfl
          ·have e5:x 5=.pointer (some ⟨gp,t,none⟩):=hp.post 5 (hd 5 mz0);have bw:=zaa hp.bel;have q5:=(HW22.out W bw).2.2.2.2.2.2.2.1;clear bw;simp only [e5] at HK ⊢;go_simp;exact HK.out _ _ bR rfl
          ·have e6:x 6=.int .i64 ((m:Int)+1):=hp.post 6 (hd 6 mz0);simp only [e6] at HK ⊢;go_simp;exact HK.out _ _ bR rfl
          ·have e1:x 1=.slice (some ⟨g4,0,none⟩) bs.length q4:=hp.post 1 (hd 1 mz0);have e7:x 7=.int .i64 (m:Int):=hp.post 7 (hd 7 mz1);simp only [e1,e7] at HK ⊢;go_simp;exact HK.out _ _ bR rfl
          ·have e8:x 8=.pointer (some ⟨g4,m * 3,none⟩):=hp.post 8 (hd 8 mz0);simp only [e8] at HK ⊢;go_simp;exact HK.out _ _ bR rfl
          ·have e9:x 9=.pointer (some ⟨g4,m * 3+1,none⟩):=hp.post 9 (hd 9 mz0);have bw:=zaa hp.bel;have q5:=(HW22.out W bw).2.2.2.2.2.2.2.2.1;clear bw;simp only [e9] at HK ⊢;go_simp;exact HK.out _ _ bR rfl
          ·clear hK hK' hp hd;go_simp;exact HK.out _ _ bR rfl
          ·clear hK hK' hp hd;go_simp;exact HK.out _ _ bR rfl
          ·have e10:x 10=.slice (some ⟨gs,0,none⟩) ss.length sc:=hp.post 10 (hd 10 mz0);have e11:x 11=.int .i64 (s:Int):=hp.post 11 (hd 11 mz1);simp only [e10,e11] at HK ⊢;go_simp;exact HK.out _ _ bR rfl
         ·intro x iw W hp;have e12:x 12=.agg #[.string ⟨#[]⟩,.int .i64 0]:=hp.post 12 (by decide);have e13:x 13=.pointer (some ⟨gs,s * 2,none⟩):=hp.post 13 (by decide);obtain ⟨-,k0,k1,ff,l0,-⟩:=HW22.out W (zaa hp.bel);have f0:=ff (s * 2);have f1:=ff (s * 2+1);have HZ:=hide (HCL2.out W (zaa hp.bel));simp only [e12,e13];clear hp e12 e13 ff;have HREL:Hid (NV w ((W.setCell ⟨gs,s * 2,none⟩ (.string ⟨#[]⟩)).setCell ⟨gs,s * 2+1,none⟩ (.int .i64 0)) b n0 #[.slice a1 xs.length c1,.slice a2 ys.length c2,.slice a3 is.length c3,.slice a4 bs.length c4] (.slice p1 xs.length q1) (.slice p2 ys.length q2) (.slice (some ⟨g3,0,none⟩) is.length q3) (.slice (some ⟨g4,0,none⟩) bs.length q4) ti tb xs ys is (curT is bs (st.1 ++ tlQ ((j:Int)+1) m ss (s+1))) dw v9 nw (DS is (curT is bs (st.1 ++ tlQ ((j:Int)+1) m ss (s+1))) (st.1 ++ tlQ ((j:Int)+1) m ss (s+1))) (st.2 ++ [(m:Int)+1]) (NM (curT is bs (st.1 ++ tlQ ((j:Int)+1) m ss (s+1))) ((j:Int)+1) (st.1 ++ tlQ ((j:Int)+1) m ss (s+1))) [(bw,74,#[.bool true,.slice (some ⟨gs,0,none⟩) ss.length sc,.string btx]),(xb,63,#[.int .i64 2,.int .i64 lj,.slice (some ⟨gp,0,none⟩) 2 cp])]):=by
           rw [HE.out,HCT.out,HNMC.out,HDSC.out];exact HZ.out
          have HREL2:Hid (∃ (d' n':Value) (s2:Nat),d'=dw/\n'=nw/\s2<=ss.length/\(Value.int .i64 ((s:Int)+1))=.int .i64 s2/\Hid (NV w ((W.setCell ⟨gs,s * 2,none⟩ (.string ⟨#[]⟩)).setCell ⟨gs,s * 2+1,none⟩ (.int .i64 0)) b n0 #[.slice a1 xs.length c1,.slice a2 ys.length c2,.slice a3 is.length c3,.slice a4 bs.length c4] (.slice p1 xs.length q1) (.slice p2 ys.length q2) (.slice (some ⟨g3,0,none⟩) is.length q3) (.slice (some ⟨g4,0,none⟩) bs.length q4) ti tb xs ys is (curT is bs (st.1 ++ tlQ ((j:Int)+1) m ss s2)) d' v9 n' (DS is (curT is bs (st.1 ++ tlQ ((j:Int)+1) m ss s2)) (st.1 ++ tlQ ((j:Int)+1) m ss s2)) (st.2 ++ [(m:Int)+1]) (NM (curT is bs (st.1 ++ tlQ ((j:Int)+1) m ss s2)) ((j:Int)+1) (st.1 ++ tlQ ((j:Int)+1) m ss s2)) [(bw,74,#[.bool true,.slice (some ⟨gs,0,none⟩) ss.length sc,.string btx]),(xb,63,#[.int .i64 2,.int .i64 lj,.slice (some ⟨gp,0,none⟩) 2 cp])])):=⟨dw,nw,s+1,rfl,rfl,by omega,by simp,HREL.out⟩
          go_wp2_with fail
          try rw [List.filterMap_nil]
          try go_wp2_with fail
          go_roundw
          case rel=>first | exact ⟨dw,nw,s+1,rfl,rfl,by omega,by go_num,HREL.out⟩ | ((repeat apply Exists.intro);exact ⟨HREL2.out,rfl⟩)
          case measure=>simp [intOf];omega
       | false =>
        rw [hbad] at CKE;have HCT:Hid (curT is bs (Ts ++ [((j:Int)+1,m,s)])=cs):=by show _=_;rw [HRN2.out];unfold stepN;rw [hbad];rfl
        clear hbad;go_upto_region 21 with fail
        clear ks0 ks1 bw1;refine zad (by kernel_rfl) [0,1,2,3,4,5,6,7,8,9] [] [] (fun i=>match i with|0=>.const [] (.agg #[.slice p1 xs.length q1,.slice p2 ys.length q2,.slice (some ⟨g3,0,none⟩) is.length q3,.slice (some ⟨g4,0,none⟩) bs.length q4])|1=>.const [] (.pointer (some ⟨bw,1,none⟩))|2=>.const [1] (.slice (some ⟨gs,0,none⟩) ss.length sc)|3=>.const [] (.int .i64 (s:Int))|4=>.const [2,3] (.pointer (some ⟨gs,s * 2,none⟩))|5=>.const [4] (.agg #[.string nm,.int .i64 ((i8:Int)+1)])|6=>.const [] (nw)|7=>.const [] (dw)|8=>.const [0,5,6,7] (.bool true)|9=>.const [8] (.bool false)|_=>.triv) (fun x=>⟨List.toArray ((.agg #[.slice a1 xs.length c1,.slice a2 ys.length c2,.slice a3 is.length c3,.slice a4 bs.length c4])::(.pointer (some ⟨w.heap.size,0,none⟩))::(.pointer (some ⟨w.heap.size+1,0,none⟩))::(.pointer (some ⟨b,0,none⟩))::(dw)::(v9)::(.int .i64 ↑j)::(.pointer (some ⟨xb,0,none⟩))::(nw)::(.int .i64 ↑t)::(.pointer (some ⟨bw,0,none⟩))::(.bool true)::(.int .i64 ↑s)::(.agg #[.slice a1 xs.length c1,.slice a2 ys.length c2,.slice a3 is.length c3,.slice a4 bs.length c4])::(.agg #[.slice p1 xs.length q1,.slice p2 ys.length q2,.slice (some ⟨g3,0,none⟩) is.length q3,.slice (some ⟨g4,0,none⟩) bs.length q4])::(.agg #[.slice a1 xs.length c1,.slice a2 ys.length c2,.slice a3 is.length c3,.slice a4 bs.length c4])::(.bool true)::(.bool false)::(undef)::(.slice (some ⟨n0,0,none⟩) 0 0)::(.slice (some ⟨n0+1,0,none⟩) 0 0)::(.int .i64 ↑j)::(.pointer (some ⟨b,2,none⟩))::(.slice (some ⟨g3,0,none⟩) is.length q3)::(.int .i64 ↑is.length)::(.bool true)::(u26)::(u27)::(.pointer (some ⟨b,2,none⟩))::(.slice (some ⟨g3,0,none⟩) is.length q3)::(.int .i64 ↑j)::(.pointer (some ⟨g3,j * 3,none⟩))::(.agg #[.int .i64 2,.int .i64 lj,.slice (some ⟨gp,0,none⟩) 2 cp])::(.slice (some ⟨xb+1,0,none⟩) 0 0)::(u34)::(u35)::(u36)::(u37)::(u38)::(u39)::(u40)::(u41)::(u42)::(u43)::(u44)::(u45)::(u46)::(u47)::(u48)::(u49)::(u50)::(u51)::(u52)::(u53)::(u54)::(u55)::(.bool true)::(.bool false)::(.bool false)::(.pointer (some ⟨bw,0,none⟩))::(.bool true)::(.bool false)::(.bool false)::(.bool false)::(kv')::(.pointer (some ⟨xb,2,none⟩))::(.slice (some ⟨gp,0,none⟩) 2 cp)::(.int .i64 ↑t)::(.pointer (some ⟨gp,t,none⟩))::(.int .i64 (↑m+1))::(.bool false)::(.bool false)::(kv')::(.pointer (some ⟨xb,2,none⟩))::(.slice (some ⟨gp,0,none⟩) 2 cp)::(.int .i64 ↑t)::(.pointer (some ⟨gp,t,none⟩))::(.int .i64 (↑m+1))::(.slice (some ⟨w7.heap.size,0,none⟩) 1 1)::(v9)::(.int .i64 ↑s)::(.pointer (some ⟨bw,1,none⟩))::(.slice (some ⟨gs,0,none⟩) ss.length sc)::(.int .i64 ↑ss.length)::(.bool true)::(u85)::(u86)::(.pointer (some ⟨bw,1,none⟩))::(.slice (some ⟨gs,0,none⟩) ss.length sc)::(.int .i64 ↑s)::(.pointer (some ⟨gs,s * 2,none⟩))::(.pointer (some ⟨gs,s * 2,none⟩))::(.string nm)::(.bool false)::(x 0)::(x 1)::(x 2)::(x 3)::(x 4)::(x 5)::(x 6)::(x 7)::(x 8)::(x 9)::(u104)::(u105)::(u106)::(u107)::(u108)::(u109)::(u110)::(u111)::(u112)::(u113)::(u114)::(u115)::(u116)::(u117)::(u118)::(u119)::(u120)::(u121)::(u122)::(u123)::(u124)::(u125)::(u126)::(u127)::(u128)::(u129)::(u130)::(u131)::(u132)::(u133)::(u134)::(u135)::(u136)::(u137)::(u138)::(u139)::(u140)::(u141)::(u142)::(u143)::(u144)::(u145)::(u146)::(u147)::(u148)::(undef)::[]),[]⟩) (fun i=>match i with|0=>u94|1=>u95|2=>u96|3=>u97|4=>u98|5=>u99|6=>u100|7=>u101|8=>u102|9=>u103|_=>undef) rfl (zae (by kernel_rfl) (by kernel_rfl)) (by kernel_rfl) (by kernel_rfl) (by kernel_rfl) rfl ?_ ?_ (by intro q hq;cases hq)
        ·intro jo hj so x iw W hd hp K hK;simp only [List.mem_cons,List.not_mem_nil,or_false] at hj;rcases hj with rfl|rfl|rfl|rfl|rfl|rfl|rfl|rfl|rfl|rfl<;>refine wpOp_step (o:=_) rfl fun K' hK'=>?_<;>have HK:=hide (fun (v:Value) (W':World) h1 h2=>hK' _ _ (hK v W' h1 h2))<;>simp only [upd,Nat.reduceEqDiff,if_true,if_false] at HK
         ·have bw:=zaa hp.bel;have k0:=(HW21.out W bw).1.os.o;obtain ⟨q09,q19,q29,q39⟩:=AtC.four k0;clear k0 bw;go_simp;exact HK.out _ _ bR rfl
         ·clear hK hK' hp hd;go_simp;exact HK.out _ _ bR rfl
         ·have e1:x 1=.pointer (some ⟨bw,1,none⟩):=hp.post 1 (hd 1 mz0);have bw:=zaa hp.bel;have q5:=(HW21.out W bw).2.2.2.2.2.1;clear bw;simp only [e1] at HK ⊢;go_simp;exact HK.out _ _ bR rfl
         ·clear hK hK' hp hd;go_simp;exact HK.out _ _ bR rfl
         ·have e2:x 2=.slice (some ⟨gs,0,none⟩) ss.length sc:=hp.post 2 (hd 2 mz0);have e3:x 3=.int .i64 (s:Int):=hp.post 3 (hd 3 mz1);simp only [e2,e3] at HK ⊢;go_simp;exact HK.out _ _ bR rfl
         ·have e4:x 4=.pointer (some ⟨gs,s * 2,none⟩):=hp.post 4 (hd 4 mz0);have bw:=zaa hp.bel;have q5:=(HW21.out W bw).2.1;have q6:=(HW21.out W bw).2.2.1;clear bw;simp only [e4] at HK ⊢;go_simp;exact HK.out _ _ bR rfl
         ·clear hK hK' hp hd;go_simp;exact HK.out _ _ bR rfl
         ·clear hK hK' hp hd;go_simp;exact HK.out _ _ bR rfl
         ·have e0:x 0=.agg #[.slice p1 xs.length q1,.slice p2 ys.length q2,.slice (some ⟨g3,0,none⟩) is.length q3,.slice (some ⟨g4,0,none⟩) bs.length q4]:=hp.post 0 (hd 0 mz0);have e5:x 5=.agg #[.string nm,.int .i64 ((i8:Int)+1)]:=hp.post 5 (hd 5 mz1);have e6:x 6=nw:=hp.post 6 (hd 6 mz2);have e7:x 7=dw:=hp.post 7 (hd 7 mz3);have dr:=zaa hp.bel;simp only [e0,e5,e6,e7] at HK ⊢;clear e0 e5 e6 e7;go_simp;refine (CKE.out W dr).mono ?_;rintro e w6 ⟨rfl,B6⟩;go_simp;exact HK.out _ _ B6 rfl
         ·have e8:x 8=.bool true:=hp.post 8 (hd 8 mz0);simp only [e8] at HK ⊢;go_simp;exact HK.out _ _ bR rfl
        ·intro x iw W hp;have e9:x 9=.bool false:=hp.post 9 (by decide);have bel:Below wr.heap.size wr W:=zaa hp.bel;simp only [e9];clear hp e9;generalize x 0=yy0 at *;generalize x 1=yy1 at *;generalize x 2=yy2 at *;generalize x 3=yy3 at *;generalize x 4=yy4 at *;generalize x 5=yy5 at *;generalize x 6=yy6 at *;generalize x 7=yy7 at *;generalize x 8=yy8 at *;try rw [List.filterMap_nil]
         obtain ⟨nvW,k0,k1,ff,l0,kb1,-,-,-,kki⟩:=HW21.out W bel;have HNW:=hide nvW;have HAL:Hid (Below W.heap.size W (W.alloc (.cells #[.string nm] 9))/\ROwns (W.alloc (.cells #[.string nm] 9)) n0 9 nw (tx (NM cs ((j:Int)+1) Ts))/\n0<=(W.alloc (.cells #[.string nm] 9)).heap.size/\(W.alloc (.cells #[.string nm] 9)).cell? ⟨W.heap.size,0,none⟩=some (.string nm)):=⟨(Below.refl _ W).alloc nR _,HNW.out.n.alloc _,by have:=HNW.out.os.nn;simp;omega,(AtC.new W 9 _).cell 0⟩
         have HTL:Hid ((tx (NM cs ((j:Int)+1) Ts)).length<=100000000000):=by have h1:=NM_len cs ((j:Int)+1) Ts;have:=HLT.out;show _<=_;rw [zft];omega
         have HTD:Hid ((ic (DS is cs Ts)).length<=100000000000):=by have h1:=DS_len is cs Ts;have:=HLT.out;show _<=_;rw [zaf];omega
         clear nvW ff kki bel HW21 CKE HCLR;go_wp2_with (at_builtin;refine wpList_step fun K' hK'=>?_;refine zal _ rfl (.tmp 118) (.tmp 125) 96 rfl n0 9 Tryz.u96 _ 16 Tryz.i9 rfl (by decide) nw _ rfl HAL.out.2.1 HAL.out.2.2.1 W.heap.size (.string nm) rfl HAL.out.2.2.2 rfl HTL.out ?_;intro v8 w8 T8 G8 V8;refine hK' _ _ ?_;have HA8:=hide ((HNW.out.below HAL.out.1).appN (z:=nm) (by rw [show tx (NM cs ((j:Int)+1) Ts ++ [nm])=tx (NM cs ((j:Int)+1) Ts) ++ [.string nm] by simp [tx]];exact T8) G8 V8);clear T8 G8 V8 hK')
         obtain ⟨ce0,ce1,-,cel,ceb,-,-,-,cek⟩:=HCELL.out w8 dw v8 _ _ HA8.out;have co:w8.cell? ⟨b,2,none⟩=some (.slice (some ⟨g3,0,none⟩) is.length q3):=HA8.out.os.o.cell 2;obtain ⟨kd,hkd⟩:∃ k,zab is ((i8:Int)+1)=k:=⟨_,rfl⟩
         rw [hkd] at cek HDSK;clear k0 k1 kb1 hkd HAL HNW HTL;go_upto_region 24 with fail
         go_quiet (fail)
         have HA9:=hide (HA8.out.below (below_drewN (Below.refl _ w8) nq));have c0q:(w8.drewN nq).cell? ⟨bw,1,none⟩=_:=ceb;have c1q:(w8.drewN nq).cell? ⟨gs,s * 2+1,none⟩=_:=ce1;generalize w8.drewN nq=wq at *;by_cases hk2:kd=2
         ·have n2:(kd == 2)=true:=by simp [hk2]
          rw [if_pos hk2] at HDSK;have HAL:Hid (Below wq.heap.size wq (wq.alloc (.cells #[.int .i64 ((i8:Int)+1)] 3))/\ROwns (wq.alloc (.cells #[.int .i64 ((i8:Int)+1)] 3)) n0 3 dw (ic (DS is cs Ts))/\n0<=(wq.alloc (.cells #[.int .i64 ((i8:Int)+1)] 3)).heap.size/\(wq.alloc (.cells #[.int .i64 ((i8:Int)+1)] 3)).cell? ⟨wq.heap.size,0,none⟩=some (.int .i64 ((i8:Int)+1))):=⟨(Below.refl _ wq).alloc nR _,HA9.out.d.alloc _,by have:=HA9.out.os.nn;simp;omega,(AtC.new wq 3 _).cell 0⟩
          clear hk2 HA8;go_wp2_with (at_builtin;refine wpList_step fun K' hK'=>?_;refine zal _ rfl (.tmp 140) (.tmp 147) 54 rfl n0 3 Tryz.u54 _ 8 Tryz.i3 rfl (by decide) dw _ rfl HAL.out.2.1 HAL.out.2.2.1 wq.heap.size (.int .i64 ((i8:Int)+1)) rfl HAL.out.2.2.2 rfl HTD.out ?_;intro v7 w6 T7 G7 V7;refine hK' _ _ ?_;have HA7:=hide ((HA9.out.below HAL.out.1).appD (z:=(i8:Int)+1) (by rw [show ic (DS is cs Ts ++ [(i8:Int)+1])=ic (DS is cs Ts) ++ [.int .i64 ((i8:Int)+1)] by simp [ic]];exact T7) G7 V7);clear T7 G7 V7 hK')
          have HREL:Hid (NV w (w6) b n0 #[.slice a1 xs.length c1,.slice a2 ys.length c2,.slice a3 is.length c3,.slice a4 bs.length c4] (.slice p1 xs.length q1) (.slice p2 ys.length q2) (.slice (some ⟨g3,0,none⟩) is.length q3) (.slice (some ⟨g4,0,none⟩) bs.length q4) ti tb xs ys is (curT is bs (st.1 ++ tlQ ((j:Int)+1) m ss (s+1))) v7 v9 v8 (DS is (curT is bs (st.1 ++ tlQ ((j:Int)+1) m ss (s+1))) (st.1 ++ tlQ ((j:Int)+1) m ss (s+1))) (st.2 ++ [(m:Int)+1]) (NM (curT is bs (st.1 ++ tlQ ((j:Int)+1) m ss (s+1))) ((j:Int)+1) (st.1 ++ tlQ ((j:Int)+1) m ss (s+1))) [(bw,74,#[.bool true,.slice (some ⟨gs,0,none⟩) ss.length sc,.string btx]),(xb,63,#[.int .i64 2,.int .i64 lj,.slice (some ⟨gp,0,none⟩) 2 cp])]):=by
           rw [HE.out,HCT.out,HNMK.out,HDSK.out];exact HA7.out
          have HREL2:Hid (∃ (d' n':Value) (s2:Nat),d'=v7/\n'=v8/\s2<=ss.length/\(Value.int .i64 ((s:Int)+1))=.int .i64 s2/\Hid (NV w (w6) b n0 #[.slice a1 xs.length c1,.slice a2 ys.length c2,.slice a3 is.length c3,.slice a4 bs.length c4] (.slice p1 xs.length q1) (.slice p2 ys.length q2) (.slice (some ⟨g3,0,none⟩) is.length q3) (.slice (some ⟨g4,0,none⟩) bs.length q4) ti tb xs ys is (curT is bs (st.1 ++ tlQ ((j:Int)+1) m ss s2)) d' v9 n' (DS is (curT is bs (st.1 ++ tlQ ((j:Int)+1) m ss s2)) (st.1 ++ tlQ ((j:Int)+1) m ss s2)) (st.2 ++ [(m:Int)+1]) (NM (curT is bs (st.1 ++ tlQ ((j:Int)+1) m ss s2)) ((j:Int)+1) (st.1 ++ tlQ ((j:Int)+1) m ss s2)) [(bw,74,#[.bool true,.slice (some ⟨gs,0,none⟩) ss.length sc,.string btx]),(xb,63,#[.int .i64 2,.int .i64 lj,.slice (some ⟨gp,0,none⟩) 2 cp])])):=⟨v7,v8,s+1,rfl,rfl,by omega,by simp,HREL.out⟩
          go_roundw
          case rel=>first | exact ⟨v7,v8,s+1,rfl,rfl,by omega,by go_num,HREL.out⟩ | ((repeat apply Exists.intro);exact ⟨HREL2.out,rfl⟩)
          case measure=>simp [intOf];omega
         ·have n2:(kd == 2)=false:=by simp [hk2]
          rw [if_neg hk2,List.append_nil] at HDSK;clear hk2 HA8;have HREL:Hid (NV w (wq) b n0 #[.slice a1 xs.length c1,.slice a2 ys.length c2,.slice a3 is.length c3,.slice a4 bs.length c4] (.slice p1 xs.length q1) (.slice p2 ys.length q2) (.slice (some ⟨g3,0,none⟩) is.length q3) (.slice (some ⟨g4,0,none⟩) bs.length q4) ti tb xs ys is (curT is bs (st.1 ++ tlQ ((j:Int)+1) m ss (s+1))) dw v9 v8 (DS is (curT is bs (st.1 ++ tlQ ((j:Int)+1) m ss (s+1))) (st.1 ++ tlQ ((j:Int)+1) m ss (s+1))) (st.2 ++ [(m:Int)+1]) (NM (curT is bs (st.1 ++ tlQ ((j:Int)+1) m ss (s+1))) ((j:Int)+1) (st.1 ++ tlQ ((j:Int)+1) m ss (s+1))) [(bw,74,#[.bool true,.slice (some ⟨gs,0,none⟩) ss.length sc,.string btx]),(xb,63,#[.int .i64 2,.int .i64 lj,.slice (some ⟨gp,0,none⟩) 2 cp])]):=by
           rw [HE.out,HCT.out,HNMK.out,HDSK.out];exact HA9.out
          have HREL2:Hid (∃ (d' n':Value) (s2:Nat),d'=dw/\n'=v8/\s2<=ss.length/\(Value.int .i64 ((s:Int)+1))=.int .i64 s2/\Hid (NV w (wq) b n0 #[.slice a1 xs.length c1,.slice a2 ys.length c2,.slice a3 is.length c3,.slice a4 bs.length c4] (.slice p1 xs.length q1) (.slice p2 ys.length q2) (.slice (some ⟨g3,0,none⟩) is.length q3) (.slice (some ⟨g4,0,none⟩) bs.length q4) ti tb xs ys is (curT is bs (st.1 ++ tlQ ((j:Int)+1) m ss s2)) d' v9 n' (DS is (curT is bs (st.1 ++ tlQ ((j:Int)+1) m ss s2)) (st.1 ++ tlQ ((j:Int)+1) m ss s2)) (st.2 ++ [(m:Int)+1]) (NM (curT is bs (st.1 ++ tlQ ((j:Int)+1) m ss s2)) ((j:Int)+1) (st.1 ++ tlQ ((j:Int)+1) m ss s2)) [(bw,74,#[.bool true,.slice (some ⟨gs,0,none⟩) ss.length sc,.string btx]),(xb,63,#[.int .i64 2,.int .i64 lj,.slice (some ⟨gp,0,none⟩) 2 cp])])):=⟨dw,v8,s+1,rfl,rfl,by omega,by simp,HREL.out⟩
          go_wp2;go_roundw
          case rel=>first | exact ⟨dw,v8,s+1,rfl,rfl,by omega,by go_num,HREL.out⟩ | ((repeat apply Exists.intro);exact ⟨HREL2.out,rfl⟩)
          case measure=>simp [intOf];omega
def lnkV (is:List Ino) (bs:List Blk) (j:Nat):Int:=if j=0 then 1 else (zan is bs ((j:Int)+1):Int)
def restI (is:List Ino) (bs:List Blk) (j:Nat):Ino:=if (reachL is bs).contains ((j:Int)+1)=true then ((is.getD j (0,0,[])).1,lnkV is bs j,(is.getD j (0,0,[])).2.2) else (0,0,[0,0])
def restL (is:List Ino) (bs:List Blk):List Ino:=(List.range 8).map (restI is bs)
def restQ (is:List Ino) (bs:List Blk) (q:Nat):List Ino:=(restL is bs).take q ++ is.drop q
theorem zb9 (is:List Ino)(bs:List Blk):(restL is bs).length=8:=by simp [restL]
theorem zcl {is:List Ino}(bs:List Blk)(h:is.length=8){q:Nat}(hq:q<=8):(restQ is bs q).length=8:=by
 unfold restQ;rw [List.length_append,List.length_take,List.length_drop,zb9,h];omega
theorem zgn (is:List Ino)(bs:List Blk):restQ is bs 0=is:=by simp [restQ]
theorem zi7 {is:List Ino}(bs:List Blk)(h:is.length=8):restQ is bs 8=restL is bs:=by
 unfold restQ;rw [List.drop_of_length_le (by omega),List.append_nil,List.take_of_length_le (by rw [zb9];exact Nat.le_refl _)]
theorem zd4 {is:List Ino}(bs:List Blk)(_:is.length=8){q j:Nat}(hq:q<=8)(hj:j < q)(hx:j < (restQ is bs q).length):(restQ is bs q)[j]=restI is bs j:=by
 have e:(restQ is bs q)[j]?=some (restI is bs j):=by
  unfold restQ;rw [List.getElem?_append_left (by rw [List.length_take,zb9];omega),List.getElem?_take_of_lt hj];unfold restL;rw [List.getElem?_map,List.getElem?_range (by omega)];rfl
 rw [List.getElem?_eq_getElem hx] at e;exact Option.some.inj e
theorem zdd {is:List Ino}(bs:List Blk)(_:is.length=8){q j:Nat}(hq:q<=8)(hj:q<=j)(hx:j < (restQ is bs q).length)(hi:j < is.length):(restQ is bs q)[j]=is[j]:=by
 have e:(restQ is bs q)[j]?=some is[j]:=by
  unfold restQ;rw [List.getElem?_append_right (by rw [List.length_take,zb9];omega),List.getElem?_drop,List.length_take,zb9,show q+(j - min q 8)=j by omega,List.getElem?_eq_getElem hi]
 rw [List.getElem?_eq_getElem hx] at e;exact Option.some.inj e
theorem zi8 {is:List Ino}(bs:List Blk)(h:is.length=8){q:Nat}(hq:q < 8):(restQ is bs q).set q (restI is bs q)=restQ is bs (q+1):=by
 have l1:=zcl bs h (q:=q) (by omega);have l2:=zcl bs h (q:=q+1) (by omega);refine List.ext_getElem (by rw [List.length_set];omega) fun j h1 h2=>?_;rw [List.length_set] at h1;by_cases e:j=q
 ·subst e;rw [List.getElem_set_self,zd4 bs h (by omega) (by omega)]
 ·rw [List.getElem_set_ne (fun h=>e h.symm)];by_cases hlt:j < q
  ·rw [zd4 bs h (by omega) hlt,zd4 bs h (by omega) (by omega)]
  ·rw [zdd bs h (by omega) (by omega) _ (by omega),zdd bs h (by omega) (by omega) _ (by omega)]
structure SR (is cs:List Ino) (bs:List Blk):Prop where
 k:∀ i,Rch (edge is bs) i->zab cs i=zab is i/\zak cs i=zak is i
 z:∀ i,¬ zab cs i=0->zab cs i=zab is i
theorem zbs {is:List Ino}{bs:List Blk}(h:RD is bs){i:Int}:i∈reachL is bs↔Rch (edge is bs) i:=zdx (fun i k=>zdy is bs i k) (zef h)
theorem SR.named {is cs:List Ino}{bs:List Blk}(h:SR is cs bs){i:Int}(hi:Rch (edge is bs) i):named cs bs i=named is bs i:=by
 unfold Go.Proofs.YtmlfihmheolpeaaGreat.named;rw [(h.k i hi).1,(h.k i hi).2]
theorem SR.reach {is cs:List Ino}{bs:List Blk}(h:SR is cs bs)(j:Int):Rch (edge cs bs) j↔Rch (edge is bs) j:=by
 constructor
 ·intro hj;refine hj _ (Rch.root _) fun i k hi e=>?_;obtain ⟨s,hs,rfl,hk⟩:=e;rw [h.named hi] at hs;exact hi.step ⟨s,hs,rfl,by rw [← h.z _ hk];exact hk⟩
 ·intro hj;have:Rch (edge cs bs) j/\Rch (edge is bs) j:=hj (fun x=>Rch (edge cs bs) x/\Rch (edge is bs) x) ⟨Rch.root _,Rch.root _⟩ fun i k hi e=>by
   have hk:=hi.2.step e;obtain ⟨s,hs,rfl,hz⟩:=e;exact ⟨hi.1.step ⟨s,by rw [h.named hi.2];exact hs,rfl,by rw [(h.k _ hk).1];exact hz⟩,hk⟩
  exact this.1
theorem SR.reachL {is cs:List Ino}{bs:List Blk}(h:SR is cs bs)(h1:RD is bs)(h2:RD cs bs):reachL cs bs=reachL is bs:=by
 unfold Go.Proofs.YtmlfihmheolpeaaGreat.reachL rchL;refine List.filter_congr fun j hj=>?_;have e1:=zbs h1 (i:=j);have e2:=zbs h2 (i:=j);unfold Go.Proofs.YtmlfihmheolpeaaGreat.reachL rchL at e1 e2;rw [List.mem_filter] at e1 e2;have e3:=h.reach j;rw [Bool.eq_iff_iff];constructor
 ·intro hp;exact (e1.2 (e3.1 (e2.1 ⟨hj,hp⟩))).2
 ·intro hp;exact (e2.2 (e3.2 (e1.1 ⟨hj,hp⟩))).2
theorem zcf {α β:Type}{f g:α->List β}:∀ (l:List α),(∀ x∈l,f x=g x)->l.flatMap f=l.flatMap g
 | [],_=>rfl
 | x :: r,h=>by rw [List.flatMap_cons,List.flatMap_cons,h x (by simp),zcf r fun y hy=>h y (by simp [hy])]
theorem SR.links {is cs:List Ino}{bs:List Blk}(h:SR is cs bs)(h1:RD is bs)(h2:RD cs bs)(i:Int):zan cs bs i=zan is bs i:=by
 unfold zan zbh;rw [h.reachL h1 h2,zcf _ fun x hx=>h.named ((zbs h1).1 hx)]
theorem SR.had {is cs:List Ino}{bs:List Blk}(h:SR is cs bs)(h1:RD is bs)(h2:RD cs bs):hadL cs bs=hadL is bs:=by
 unfold hadL ptrL;rw [h.reachL h1 h2,zcf (f:=ptrI cs) (g:=ptrI is) _ fun x hx=>by unfold ptrI;rw [(h.k x ((zbs h1).1 hx)).2]]
theorem SR.fB {is cs:List Ino}{bs:List Blk}(h:SR is cs bs)(h1:RD is bs)(h2:RD cs bs):fB cs bs=fB is bs:=by
 unfold Go.Proofs.YtmlfihmheolpeaaGreat.fB;rw [h.had h1 h2]
theorem SR.fI {is cs:List Ino}{bs:List Blk}(h:SR is cs bs)(h1:RD is bs)(h2:RD cs bs):fI cs bs=fI is bs:=by
 unfold Go.Proofs.YtmlfihmheolpeaaGreat.fI;rw [h.reachL h1 h2]
theorem zlc {is:List Ino}{bs:List Blk}(h:RD is bs){q:Nat}(hq:q<=8):SR is (restQ is bs q) bs:=by
 have hl:=zcl bs h.hi hq;have key:∀ j:Nat,(hj:j < 8)->(zab (restQ is bs q) ((j:Int)+1)=zab is ((j:Int)+1)/\zak (restQ is bs q) ((j:Int)+1)=zak is ((j:Int)+1))\/(zab (restQ is bs q) ((j:Int)+1)=0/\¬ Rch (edge is bs) ((j:Int)+1)):=fun j hj=>by
  rw [(zai (is:=restQ is bs q) (by omega)).1,(zai (is:=restQ is bs q) (by omega)).2,(zai (is:=is) (by rw [h.hi];exact hj)).1,(zai (is:=is) (by rw [h.hi];exact hj)).2];by_cases hlt:j < q
  ·rw [zd4 bs h.hi hq hlt];unfold restI;by_cases hr:(reachL is bs).contains ((j:Int)+1)=true
   ·rw [if_pos hr,zap (by rw [h.hi];exact hj)];exact .inl ⟨rfl,rfl⟩
   ·rw [if_neg hr];exact .inr ⟨rfl,fun e=>hr (List.contains_iff_mem.2 ((zbs h).2 e))⟩
  ·rw [zdd bs h.hi hq (by omega) _ (by rw [h.hi];exact hj)];exact .inl ⟨rfl,rfl⟩
 have out:∀ i:Int,¬ (1<=i/\i<=8)->zab (restQ is bs q) i=zab is i/\zak (restQ is bs q) i=zak is i:=fun i hi=>by
  have e1:inB i 1 (restQ is bs q).length=false:=by rw [hl];exact decide_eq_false hi
  have e2:inB i 1 is.length=false:=by rw [h.hi];exact decide_eq_false hi
  unfold zab zak;rw [e1,e2];exact ⟨rfl,rfl⟩
 refine ⟨fun i hi=>?_,fun i hi=>?_⟩
 ·by_cases hr:1<=i/\i<=8
  ·obtain ⟨j,rfl⟩:∃ j:Nat,i=(j:Int)+1:=⟨(i - 1).toNat,by omega⟩
   rcases key j (by omega) with e | e
   ·exact e
   ·exact absurd hi e.2
  ·exact out i hr
 ·by_cases hr:1<=i/\i<=8
  ·obtain ⟨j,rfl⟩:∃ j:Nat,i=(j:Int)+1:=⟨(i - 1).toNat,by omega⟩
   rcases key j (by omega) with e | e
   ·exact e.1
   ·exact absurd e.1 hi
  ·exact (out i hr).1
theorem zgo {xs ys:List Bool}{is:List Ino}{bs:List Blk}(h:RX xs ys is bs){j:Nat}(hj:j < 8):((restI is bs j).1=0\/(restI is bs j).1=1\/(restI is bs j).1=2)/\(restI is bs j).2.2.length=2/\∀ p∈(restI is bs j).2.2,0<=p/\p<=16:=by
 have hm:is.getD j (0,0,[])∈is:=by rw [zap (by rw [h.r.hi];exact hj)];exact List.getElem_mem _
 unfold restI
 split
 ·have h1:=h.r.kd _ hm;have h2:=h.r.two _ hm;have h3:=h.pr _ hm;exact ⟨h1,h2,h3⟩
 ·refine ⟨.inl rfl,rfl,fun p hp=>?_⟩;simp only [List.mem_cons,List.not_mem_nil,or_false,or_self] at hp;omega
theorem zld {xs ys:List Bool}{is:List Ino}{bs:List Blk}(h:RX xs ys is bs){q:Nat}(hq:q<=8):RX xs ys (restQ is bs q) bs:=by
 have hl:=zcl bs h.r.hi hq;have key:∀ x∈restQ is bs q,(x.1=0\/x.1=1\/x.1=2)/\x.2.2.length=2/\∀ p∈x.2.2,0<=p/\p<=16:=fun x hx=>by
  obtain ⟨j,hj,rfl⟩:=List.getElem_of_mem hx;by_cases hlt:j < q
  ·rw [zd4 bs h.r.hi hq hlt];exact zgo h (by omega)
  ·rw [zdd bs h.r.hi hq (by omega) hj (by rw [h.r.hi];omega)];have hm:=List.getElem_mem (l:=is) (n:=j) (by rw [h.r.hi];omega);exact ⟨h.r.kd _ hm,h.r.two _ hm,h.pr _ hm⟩
 exact ⟨⟨hl,h.r.hb,fun x hx=>(key x hx).1,fun x hx=>(key x hx).2.1,h.r.four,h.r.text,h.r.nm,h.r.tx⟩,h.sr,fun x hx=>(key x hx).2.2,h.bx,h.y8⟩
namespace Kit
theorem DO.setY {w:World}{S:Nat->Prop}{u v iv bv:Value}{xs ys:List Bool}{is:List Ino}{bs:List Blk}(h:DO w S u v iv bv xs ys is bs){g n c:Nat}(hv:v=.slice (some ⟨g,0,none⟩) n c)(k:Nat)(z:Bool):DO (w.setCell ⟨g,k,none⟩ (.bool z)) S u v iv bv xs (ys.set k z) is bs/\S g:=by
 obtain ⟨S1,S2,S3,ti,tb,h1,h2,h3,h4,h5,h6,h7⟩:=h;have ho:∀ i,i≠g->(w.setCell ⟨g,k,none⟩ (.bool z)).heap[i]?=w.heap[i]?:=fun i hi=>heap_setCell_other w ⟨g,k,none⟩ i _ (by simpa using hi);have hvg:v.ownBlock=some g:=by rw [hv];rfl
 have hg:S1 g:=h2 g (.inr hvg);obtain ⟨a,cc,e,-⟩:=h1.b.form;have hn:n=(fc ys).length:=by rw [hv] at e;simp only [Value.slice.injEq] at e;exact e.2.1
 subst hn;have hb:ROwns (w.setCell ⟨g,k,none⟩ (.bool z)) 0 4 v (fc (ys.set k z)):=by
  have e2:fc (ys.set k z)=(fc ys).set k (.bool z):=by simp [fc,List.map_set]
  rw [e2,hv];exact ((hv ▸ h1.b:ROwns w 0 4 (.slice (some ⟨g,0,none⟩) (fc ys).length c) (fc ys)).stored k (.bool z)).1
 exact ⟨⟨S1,S2,S3,ti,tb,⟨h1.a.of_heap fun i hi=>ho i (fun e=>h1.ne i hi (by rw [e];exact hvg)),hb,h1.ne⟩,h2,h3.of_heap fun i hi _=>ho i (fun e=>(h5 g hg).1 (e ▸ hi)),h4.of_heap fun i hi _=>ho i (fun e=>(h5 g hg).2 (e ▸ hi)),h5,h6,h7⟩,h7 g (.inl hg)⟩
theorem DO.setX {w:World}{S:Nat->Prop}{u v iv bv:Value}{xs ys:List Bool}{is:List Ino}{bs:List Blk}(h:DO w S u v iv bv xs ys is bs){g n c:Nat}(hv:u=.slice (some ⟨g,0,none⟩) n c)(k:Nat)(z:Bool):DO (w.setCell ⟨g,k,none⟩ (.bool z)) S u v iv bv (xs.set k z) ys is bs/\S g:=by
 obtain ⟨S1,S2,S3,ti,tb,h1,h2,h3,h4,h5,h6,h7⟩:=h;have ho:∀ i,i≠g->(w.setCell ⟨g,k,none⟩ (.bool z)).heap[i]?=w.heap[i]?:=fun i hi=>heap_setCell_other w ⟨g,k,none⟩ i _ (by simpa using hi);have hvg:u.ownBlock=some g:=by rw [hv];rfl
 have hg:S1 g:=h2 g (.inl hvg);obtain ⟨a,cc,e,-⟩:=h1.a.form;have hn:n=(fc xs).length:=by rw [hv] at e;simp only [Value.slice.injEq] at e;exact e.2.1
 subst hn;have hb:ROwns (w.setCell ⟨g,k,none⟩ (.bool z)) 0 4 u (fc (xs.set k z)):=by
  have e2:fc (xs.set k z)=(fc xs).set k (.bool z):=by simp [fc,List.map_set]
  rw [e2,hv];exact ((hv ▸ h1.a:ROwns w 0 4 (.slice (some ⟨g,0,none⟩) (fc xs).length c) (fc xs)).stored k (.bool z)).1
 exact ⟨⟨S1,S2,S3,ti,tb,⟨hb,h1.b.of_heap fun i hi=>ho i (fun e=>h1.ne g hvg (by rw [← e];exact hi)),h1.ne⟩,h2,h3.of_heap fun i hi _=>ho i (fun e=>(h5 g hg).1 (e ▸ hi)),h4.of_heap fun i hi _=>ho i (fun e=>(h5 g hg).2 (e ▸ hi)),h5,h6,h7⟩,h7 g (.inl hg)⟩
end Kit
def bQ (f ys:List Bool) (q:Nat):List Bool:=f.take q ++ ys.drop q
theorem zhq (f ys:List Bool):bQ f ys 0=ys:=by simp [bQ]
theorem bQ_len {f ys:List Bool}(h:f.length=ys.length)(q:Nat):(bQ f ys q).length=ys.length:=by
 unfold bQ;rw [List.length_append,List.length_take,List.length_drop];omega
theorem bQ_all {f ys:List Bool}(h:f.length=ys.length){q:Nat}(hq:f.length<=q):bQ f ys q=f:=by
 unfold bQ;rw [List.take_of_length_le hq,List.drop_of_length_le (by omega),List.append_nil]
theorem bQ_set {f ys:List Bool}(h:f.length=ys.length){q:Nat}(hq:q < f.length):(bQ f ys q).set q f[q]=bQ f ys (q+1):=by
 refine List.ext_getElem? fun j=>?_;unfold bQ;rw [List.getElem?_set];by_cases e:q=j
 ·subst e;rw [if_pos rfl,if_pos (by rw [List.length_append,List.length_take,List.length_drop];omega),List.getElem?_append_left (by rw [List.length_take];omega),List.getElem?_take_of_lt (by omega),List.getElem?_eq_getElem hq]
 ·rw [if_neg e];by_cases hlt:j < q
  ·rw [List.getElem?_append_left (by rw [List.length_take];omega),List.getElem?_append_left (by rw [List.length_take];omega),List.getElem?_take_of_lt hlt,List.getElem?_take_of_lt (by omega)]
  ·rw [List.getElem?_append_right (by rw [List.length_take];omega),List.getElem?_append_right (by rw [List.length_take];omega),List.getElem?_drop,List.getElem?_drop,List.length_take,List.length_take];congr 1
   omega
structure RS (w wr:World) (b gr:Nat) (A:Array Value) (u v iv bv:Value) (xs ys:List Bool) (is:List Ino) (bs:List Blk) (rv:Value) (RL:List Int):Prop where
 d:DO wr (fun k=>(w.heap.size+2<=k/\k≠b)/\k≠gr) u v iv bv xs ys is bs
 o:AtC wr b 35 #[u,v,iv,bv]
 r:AtC wr (w.heap.size+1) 35 noD
 a:AtC wr w.heap.size 35 A
 c:Below w.heap.size w wr
 l:ROwns wr 0 3 rv (ic RL)
 lg:∀ k,rv.ownBlock=some k->k=gr
 hb:w.heap.size+2<=b
 gr_:w.heap.size+2<=gr/\gr≠b
 gn:gr < wr.heap.size
namespace RS
variable {w wr wr' : World} {b gr : Nat} {A : Array Value} {u v iv bv : Value} {xs ys xs' ys' : List Bool} {is is' : List Ino} {bs : List Blk} {rv : Value} {RL : List Int}
theorem below (h:RS w wr b gr A u v iv bv xs ys is bs rv RL)(hb:Below wr.heap.size wr wr'):RS w wr' b gr A u v iv bv xs ys is bs rv RL :=
 ⟨h.d.below hb nR,h.o.over hb,h.r.over hb,h.a.over hb,h.c.trans (hb.mono h.c.size),h.l.below hb nR,h.lg,h.hb,h.gr_,Nat.lt_of_lt_of_le h.gn hb.size⟩
theorem turn (h:RS w wr b gr A u v iv bv xs ys is bs rv RL)(g:Nat)(hg:(w.heap.size+2<=g/\g≠b)/\g≠gr)(ho:∀ k,k≠g->wr'.heap[k]?=wr.heap[k]?)(hs:wr.heap.size<=wr'.heap.size)(hc:Below w.heap.size w wr')(hd:DO wr' (fun k=>(w.heap.size+2<=k/\k≠b)/\k≠gr) u v iv bv xs' ys' is' bs):RS w wr' b gr A u v iv bv xs' ys' is' bs rv RL :=
 ⟨hd,(ho b (fun e=>hg.1.2 e.symm)).trans h.o,(ho _ (by omega)).trans h.r,(ho _ (by omega)).trans h.a,hc,h.l.of_heap fun k hk=>ho k (fun e=>hg.2 (by rw [← e];exact h.lg k hk)),h.lg,h.hb,h.gr_,Nat.lt_of_lt_of_le h.gn hs⟩
theorem setY (h:RS w wr b gr A u v iv bv xs ys is bs rv RL){g n c:Nat}(hv:v=.slice (some ⟨g,0,none⟩) n c)(k:Nat)(z:Bool):RS w (wr.setCell ⟨g,k,none⟩ (.bool z)) b gr A u v iv bv xs (ys.set k z) is bs rv RL:=by
 obtain ⟨h1,h2⟩:=h.d.setY hv k z;exact h.turn g h2 (fun i hi=>heap_setCell_other wr ⟨g,k,none⟩ i _ (by simpa using hi)) (by simp) (h.c.setCell (p:=⟨g,k,none⟩) (by show _<=g;omega) _) h1
theorem setX (h:RS w wr b gr A u v iv bv xs ys is bs rv RL){g n c:Nat}(hv:u=.slice (some ⟨g,0,none⟩) n c)(k:Nat)(z:Bool):RS w (wr.setCell ⟨g,k,none⟩ (.bool z)) b gr A u v iv bv (xs.set k z) ys is bs rv RL:=by
 obtain ⟨h1,h2⟩:=h.d.setX hv k z;exact h.turn g h2 (fun i hi=>heap_setCell_other wr ⟨g,k,none⟩ i _ (by simpa using hi)) (by simp) (h.c.setCell (p:=⟨g,k,none⟩) (by show _<=g;omega) _) h1
theorem lnk (h:RS w wr b gr A u v iv bv xs ys is bs rv RL){g n c:Nat}(hv:iv=.slice (some ⟨g,0,none⟩) n c)(j:Nat)(hj:j < is.length)(z:Int):RS w (wr.setCell ⟨g,j * 3+1,none⟩ (.int .i64 z)) b gr A u v iv bv xs ys (is.set j (is[j].1,z,is[j].2.2)) bs rv RL:=by
 obtain ⟨ti,tb,hL⟩:=h.d.dl;obtain ⟨-,-,-,-,hS⟩:=h.d.atI hv j hj;exact h.turn g hS (fun i hi=>heap_setCell_other wr ⟨g,j * 3+1,none⟩ i _ (by simpa using hi)) (by simp) (h.c.setCell (p:=⟨g,j * 3+1,none⟩) (by show _<=g;omega) _) (hL.setLinks j hj hv z).1
theorem put (h:RS w wr b gr A u v iv bv xs ys is bs rv RL){g n c:Nat}(hv:iv=.slice (some ⟨g,0,none⟩) n c)(j:Nat)(hj:j < is.length){w1:World}{nv:Value}(hb:Below wr.heap.size wr w1)(ho:ROwns w1 wr.heap.size 3 nv (ic [0,0])):RS w (((w1.setCell ⟨g,j * 3,none⟩ (.int .i64 0)).setCell ⟨g,j * 3+1,none⟩ (.int .i64 0)).setCell ⟨g,j * 3+2,none⟩ nv) b gr A u v iv bv xs ys (is.set j (0,0,[0,0])) bs rv RL:=by
 obtain ⟨-,-,-,-,hS⟩:=h.d.atI hv j hj;have h1:=h.below hb;have hbw:=h.o.lt;have hgw:∀ k,rv.ownBlock=some k->k < wr.heap.size:=fun k hk=>(h.l.lt k hk).2;have hcs:=h.c.size;have hr:=h.r.lt;refine h1.turn g hS (fun i hi=>((heap_setCell_other _ ⟨g,j * 3+2,none⟩ i _ (by simpa using hi)).trans (heap_setCell_other _ ⟨g,j * 3+1,none⟩ i _ (by simpa using hi))).trans (heap_setCell_other _ ⟨g,j * 3,none⟩ i _ (by simpa using hi))) (by simp) (((h1.c.setCell (p:=⟨g,j * 3,none⟩) (by show _<=g;omega) _).setCell (p:=⟨g,j * 3+1,none⟩) (by show _<=g;omega) _).setCell (p:=⟨g,j * 3+2,none⟩) (by show _<=g;omega) _) ?_;have hg:=h.gn;exact (h.d.putI hv j hj (.int .i64 0,.int .i64 0,nv) (0,0,[0,0]) hb ⟨rfl,rfl,ho.base_le (Nat.zero_le _)⟩ (fun k hk=>(ho.lt k hk).1)).mono fun k hk=>hk.elim id (fun e=>⟨⟨by omega,by omega⟩,by omega⟩)
end RS
theorem zcu (x:Int)(dx dy iv bv:Value)(xs ys:List Bool)(is:List Ino)(bs:List Blk)(w:World)(h:DR w dx dy iv bv xs ys is bs)(hX:RX xs ys is bs) :
  Calls Tryz.prog 40 #[.agg #[dx,dy,iv,bv],.int .i64 x] w fun e w'=>e=.returned (.int .i64 (zan is bs x))/\Below w.heap.size w w':=by
 have hR:=hX.r;obtain ⟨a1,c1,a2,c2,a3,c3,a4,c4,rfl,rfl,rfl,rfl⟩:=h.form;have HB0:Hid (Below w.heap.size w (w.alloc (.cells #[.slice a1 xs.length c1,.slice a2 ys.length c2,.slice a3 is.length c3,.slice a4 bs.length c4] 35))):=(Below.refl _ w).alloc nR _;have HA0:=hide (AtC.new w 35 #[.slice a1 xs.length c1,.slice a2 ys.length c2,.slice a3 is.length c3,.slice a4 bs.length c4]);have CR:=hide (zav (.slice a1 xs.length c1) (.slice a2 ys.length c2) (.slice a3 is.length c3) (.slice a4 bs.length c4) xs ys is bs (w.alloc (.cells #[.slice a1 xs.length c1,.slice a2 ys.length c2,.slice a3 is.length c3,.slice a4 bs.length c4] 35)) (h.alloc _) hR);have CN:=hide (fun (x:Int) (W:World) (hb:Below w.heap.size w W)=>zfm x (.slice a1 xs.length c1) (.slice a2 ys.length c2) (.slice a3 is.length c3) (.slice a4 bs.length c4) xs ys is bs W (h.below hb nR) hR);have HL8:Hid (∀ x,(named is bs x).length<=8):=hR.named8;have HLT:Hid (∀ q,((((reachL is bs).take q).flatMap (named is bs)).countP (fun s=>decide (s.2=x)))<=64):=fun q=>by
  have h1:=zd1 hR ((reachL is bs).take q);have h2:=zah is bs;rw [List.length_take] at h1;exact Nat.le_trans List.countP_le_length (by omega)
 have HR8:=hide (zah is bs);have HFT:=hide (fun q hq=>zd0 (reachL is bs) (named is bs) q hq);obtain ⟨RL,hRL⟩:∃ l,reachL is bs=l:=⟨_,rfl⟩
 have HRES:Hid (zbh is bs=RL.flatMap (named is bs)):=by show zbh is bs=_;unfold zbh;rw [hRL]
 have HFIN:Hid ((zan is bs x)=(RL.flatMap (named is bs)).countP (fun s=>decide (s.2=x))):=by
  show _=_;rw [← HRES.out];rfl
 rw [HFIN.out];rw [hRL] at CR HLT HR8 HFT;clear h hR hX hRL HRES HFIN;go_enter Tryz.func40,Tryz.ntmps40
 go_wp2_with fail
 refine CR.out.mono ?_;rintro e w1 ⟨rv,rfl,R1,B1⟩;have HB1:=hide (HB0.out.trans (B1.mono HB0.out.size));have HA1:=hide (HA0.out.over B1);obtain ⟨ra,rc,rfl,hcr⟩:=R1.rints;have HCR:=hide hcr;have r8:RL.length<=8:=HR8.out;clear R1 B1 CR HB0 HA0 hcr;go_wp2_with fail
 go_loopw [5,7] (fun nv kv wr=>∃ (q:Nat),q<=RL.length/\nv=.int .i64 ((((RL.take q).flatMap (named is bs)).countP (fun s=>decide (s.2=x)):Nat):Int)/\kv=.int .i64 q/\Hid (Below w1.heap.size w1 wr)) (fun _ kv _=>RL.length - (intOf kv).toNat)
 case atStart=>exact ⟨0,Nat.zero_le _,by simp,rfl,Below.refl _ _⟩
 case round =>
  obtain ⟨q,hq,rfl,rfl,HQ⟩:=hrel;obtain ⟨wo,hwo⟩:∃ wo,wo=wr:=⟨_,rfl⟩
  subst hwo;have q0:(0:Int)<=(q:Int):=by omega
  by_cases hlt:q < RL.length
  rotate_left
  ·have q1:¬ ((q:Int) < (RL.length:Int)):=by omega
   rw [List.take_of_length_le (by omega)];go_wp2;go_ret;exact ⟨rfl,HB1.out.trans (HQ.out.mono HB1.out.size)⟩
  have q1:(q:Int) < (RL.length:Int):=by omega
  obtain ⟨gr,orr,rfl,hgr,kr⟩:=HCR.out q hlt;have HF1:=hide (HFT.out q hlt);have hn64:=HLT.out (q+1);obtain ⟨di,hdi⟩:∃ x,RL[q]=x:=⟨_,rfl⟩
  rw [hdi] at kr HF1;rw [HF1.out,List.countP_append] at hn64;obtain ⟨c0,hc0⟩:∃ c,((RL.take q).flatMap (named is bs)).countP (fun s=>decide (s.2=x))=c:=⟨_,rfl⟩
  have HC1:Hid (((RL.take (q+1)).flatMap (named is bs)).countP (fun s=>decide (s.2=x))=c0+(named is bs di).countP (fun s=>decide (s.2=x))):=by
   show _=_;rw [HF1.out,List.countP_append,hc0]
  rw [hc0] at hn64 ⊢;have HW:Hid (∀ W,Below wo.heap.size wo W->Below w.heap.size w W/\AtC W w.heap.size 35 #[.slice a1 xs.length c1,.slice a2 ys.length c2,.slice a3 is.length c3,.slice a4 bs.length c4]/\W.cell? ⟨gr,orr+q,none⟩=some (.int .i64 di)/\Below w1.heap.size w1 W):=fun W b=>by
   have b1:=HQ.out.trans (b.mono HQ.out.size);exact ⟨HB1.out.trans (b1.mono HB1.out.size),HA1.out.over b1,(b1.cell (p:=⟨gr,orr+q,none⟩) hgr).trans kr,b1⟩
  clear hdi kr hc0 HF1;go_upto_region 6 with fail
  go_cut [8] from 12 to 38 (fun sv wx=>∃ a c,sv=.slice a (named is bs di).length c/\RSl wx (.slice a (named is bs di).length c) (named is bs di)/\Below wo.heap.size wo wx)
  case first =>
   obtain ⟨-,A0,kr,-⟩:=HW.out wo.drew (Below.refl _ wo).drew;obtain ⟨z0,z1,z2,z3⟩:=AtC.four A0;have CN1:=hide (CN.out di wo.drew (HW.out wo.drew (Below.refl _ wo).drew).1);clear A0
   go_region_with (go_at_call 87;refine CN1.out.mono ?_;rintro e w2 ⟨nv,rfl,S2,B2⟩;obtain ⟨na,nc,rfl,-⟩:=S2.form)
   all_goals (try go_wp2_with fail)
   all_goals (go_meet;exact ⟨_,_,rfl,S2.rsl,zaa B2⟩)
  case rest =>
   obtain ⟨na,nc,rfl,hS2,hB2⟩:=hcut;obtain ⟨-,-,-,hB3⟩:=HW.out _ hB2;have HS2:=hide hS2;have HB3:=hide hB3;have HN8:=HL8.out di;clear hS2 hB2 hB3 HW HQ;obtain ⟨NS,hNS⟩:∃ X,named is bs di=X:=⟨_,rfl⟩
   rw [hNS] at HC1 HS2 HN8 hn64 ⊢;clear hNS;obtain ⟨wx,hwx⟩:∃ wx,wx=wc:=⟨_,rfl⟩
   subst hwx;go_wp2_with fail
   go_loopw [5,9] (fun nv kv wr=>∃ (t:Nat),t<=NS.length/\nv=.int .i64 (((c0+(NS.take t).countP (fun s=>decide (s.2=x)):Nat)):Int)/\kv=.int .i64 t/\Hid (Below wx.heap.size wx wr)) (fun _ kv _=>NS.length - (intOf kv).toNat)
   case atStart=>exact ⟨0,Nat.zero_le _,by simp,rfl,Below.refl _ _⟩
   case round =>
    obtain ⟨t,ht,rfl,rfl,HT⟩:=hrel;have t0:(0:Int)<=(t:Int):=by omega
    by_cases htl:t < NS.length
    rotate_left
    ·have t1:¬ ((t:Int) < (NS.length:Int)):=by omega
     have HE:Hid (((RL.take (q+1)).flatMap (named is bs)).countP (fun s=>decide (s.2=x))=c0+(NS.take t).countP (fun s=>decide (s.2=x))):=by
      show _=_;rw [HC1.out,List.take_of_length_le (by omega)]
     go_wp2;go_roundw
     case rel=>exact ⟨q+1,by omega,by rw [HE.out],by go_num,HB3.out.trans (HT.out.mono HB3.out.size)⟩
     case measure=>simp [intOf];omega
    have t1:(t:Int) < (NS.length:Int):=by omega
    obtain ⟨ca,cc,ec,-,hcs⟩:=HS2.out;simp only [Value.slice.injEq,true_and] at ec;obtain ⟨rfl,rfl⟩:=ec;obtain ⟨gs,os,rfl,hgs,ks0,ks1⟩:=hcs t htl;have HCT:=hide (zcp NS (fun s=>decide (s.2=x)) t htl);have hle:=zbt NS (fun s=>decide (s.2=x)) t;obtain ⟨⟨sn,si⟩,hsn⟩:∃ X,NS[t]=X:=⟨_,rfl⟩
    rw [hsn] at ks0 ks1 HCT;simp only at ks0 ks1 HCT
    replace ks1:=(HT.out.cell (p:=⟨gs,os+t * 2+1,none⟩) hgs).trans ks1
    obtain ⟨c1',hc1⟩:∃ c,(NS.take t).countP (fun s=>decide (s.2=x))=c:=⟨_,rfl⟩
    rw [hc1] at HCT hle ⊢;have hcle:c0+c1'<=1000:=by omega
    clear hsn hc1 hcs ks0;by_cases hx:si=x
    ·subst hx;have HE:Hid ((NS.take (t+1)).countP (fun s=>decide (s.2=si))=c1' + 1):=hide (by have:=HCT.out;simpa using this);go_wp2;go_roundw
     case rel=>exact ⟨t+1,by omega,by rw [HE.out];go_num,by go_num,HT.out⟩
     case measure=>simp [intOf];omega
    ·have HE:Hid ((NS.take (t+1)).countP (fun s=>decide (s.2=x))=c1'):=hide (by have:=HCT.out;simpa [hx] using this);go_wp2;go_roundw
     case rel=>exact ⟨t+1,by omega,by rw [HE.out],by go_num,HT.out⟩
     case measure=>simp [intOf];omega
def zbx (xs ys:List Bool) (is:List Ino) (bs:List Blk):List Bool×List Bool×List Ino:=if zag xs ys is bs=true then (fB is bs,fI is bs,restL is bs) else (xs,ys,is)
def MkNw (ds:List Nat):Mk:=.val ds (fun lo _ w v=>∃ na nc,v=.agg #[.int .i64 0,.int .i64 0,.slice na 2 nc]/\ROwns w lo 3 (.slice na 2 nc) (ic [0,0])) (fun _ _ _ _ _ h hb=>by obtain ⟨a,c,e,h1⟩:=h;exact ⟨a,c,e,h1.below hb nR⟩)
theorem zl8 (u v iv bv:Value)(xs ys:List Bool)(is:List Ino)(bs:List Blk)(w:World)(h:DR w u v iv bv xs ys is bs)(hG:Big 1048576 xs ys is bs) :
  Calls Tryz.prog 31 #[.agg #[u,v,iv,bv]] w fun e w'=>∃ u' v' i' b',e=.returned (.agg #[u',v',i',b'])/\DO w' (fun k=>w.heap.size<=k) u' v' i' b' (zbx xs ys is bs).1 (zbx xs ys is bs).2.1 (zbx xs ys is bs).2.2 bs/\Below w.heap.size w w':=by
 obtain ⟨a1,c1,a2,c2,a3,c3,a4,c4,rfl,rfl,rfl,rfl⟩:=h.form;have HH:=hide h;have HG:=hide hG;obtain ⟨W0,hW0⟩:∃ W,((w.alloc (.cells #[.slice a1 xs.length c1,.slice a2 ys.length c2,.slice a3 is.length c3,.slice a4 bs.length c4] 35)).alloc (.cells #[.slice none 0 0,.slice none 0 0,.slice none 0 0,.slice none 0 0] 35))=W:=⟨_,rfl⟩
 have H0:Hid (Below w.heap.size w W0/\AtC W0 w.heap.size 35 #[.slice a1 xs.length c1,.slice a2 ys.length c2,.slice a3 is.length c3,.slice a4 bs.length c4]/\AtC W0 (w.heap.size+1) 35 noD/\W0.heap.size=w.heap.size+2):=by
  rw [← hW0];have q:=AtC.new (w.alloc (.cells #[.slice a1 xs.length c1,.slice a2 ys.length c2,.slice a3 is.length c3,.slice a4 bs.length c4] 35)) 35 #[.slice none 0 0,.slice none 0 0,.slice none 0 0,.slice none 0 0];rw [World.size_alloc] at q;exact ⟨((Below.refl _ w).alloc nR _).alloc (by simp) _,(AtC.new w 35 _).alloc _,q,by simp⟩
 obtain ⟨x0,x1,x2,x3⟩:=AtC.four H0.out.2.1;clear h hG;go_enter Tryz.func31,Tryz.ntmps31
 go_wp2_with fail
 refine (zc4 (.slice a1 xs.length c1) (.slice a2 ys.length c2) (.slice a3 is.length c3) (.slice a4 bs.length c4) xs ys is bs W0 (HH.out.below H0.out.1 nR) HG.out).mono ?_;rintro e w1 ⟨u1,u2,u3,u4,rfl,O1,B1⟩;obtain ⟨p1,q1,p2,q2,p3,q3,p4,q4,rfl,rfl,rfl,rfl⟩:=O1.dr.form;obtain ⟨b,hb⟩:∃ n,w1.heap.size=n:=⟨_,rfl⟩
 obtain ⟨W2,hW2⟩:∃ W,w1.alloc (.cells #[.slice p1 xs.length q1,.slice p2 ys.length q2,.slice (p3) is.length q3,.slice p4 bs.length q4] 35)=W:=⟨_,rfl⟩
 have H2:Hid (Below w.heap.size w W2/\AtC W2 w.heap.size 35 #[.slice a1 xs.length c1,.slice a2 ys.length c2,.slice a3 is.length c3,.slice a4 bs.length c4]/\AtC W2 (w.heap.size+1) 35 noD/\AtC W2 b 35 #[.slice p1 xs.length q1,.slice p2 ys.length q2,.slice (p3) is.length q3,.slice p4 bs.length q4]/\DO W2 (fun k=>w.heap.size+2<=k/\k≠b) (.slice p1 xs.length q1) (.slice p2 ys.length q2) (.slice (p3) is.length q3) (.slice p4 bs.length q4) xs ys is bs/\w.heap.size+2<=b/\W2.heap.size=b+1):=by
  have b1:=H0.out.1.trans (B1.mono H0.out.1.size);have s1:=B1.size;rw [H0.out.2.2.2,hb] at s1;rw [← hW2];refine ⟨b1.alloc b1.size _,(H0.out.2.1.over B1).alloc _,(H0.out.2.2.1.over B1).alloc _,by rw [← hb];exact AtC.new w1 35 _,?_,s1,by rw [World.size_alloc,hb]⟩;obtain ⟨ti,tb,L1⟩:=O1.dl;have L2:=L1.bound.do_.mono (S':=fun k=>w.heap.size+2<=k/\k≠b) fun k hk=>⟨by rw [← H0.out.2.2.2];exact hk.1,by have:=hk.2;omega⟩
  exact L2.alloc _
 obtain ⟨y0,y1,y2,y3⟩:=AtC.four H2.out.2.1;clear O1 B1 hW0 x0 x1 x2 x3 H0;go_wp2_with fail
 refine (zb7 (.slice a1 xs.length c1) (.slice a2 ys.length c2) (.slice a3 is.length c3) (.slice a4 bs.length c4) xs ys is bs W2 (HH.out.below H2.out.1 nR) (fun j hj k hk=>(HG.out.s j hj).2.1 k hk)).mono ?_;rintro e w3 ⟨rfl,B3⟩;have H3:Hid (Below w.heap.size w w3/\AtC w3 w.heap.size 35 #[.slice a1 xs.length c1,.slice a2 ys.length c2,.slice a3 is.length c3,.slice a4 bs.length c4]/\AtC w3 (w.heap.size+1) 35 noD/\AtC w3 b 35 #[.slice p1 xs.length q1,.slice p2 ys.length q2,.slice (p3) is.length q3,.slice p4 bs.length q4]/\DO w3 (fun k=>w.heap.size+2<=k/\k≠b) (.slice p1 xs.length q1) (.slice p2 ys.length q2) (.slice (p3) is.length q3) (.slice p4 bs.length q4) xs ys is bs/\w.heap.size+2<=b):=⟨H2.out.1.trans (B3.mono H2.out.1.size),H2.out.2.1.over B3,H2.out.2.2.1.over B3,H2.out.2.2.2.1.over B3,H2.out.2.2.2.2.1.below B3 nR,H2.out.2.2.2.2.2.1⟩
 clear B3 H2 hW2 hb y0 y1 y2 y3
 cases hok:zag xs ys is bs with
 | false =>
  have HM:Hid (zbx xs ys is bs=(xs,ys,is)):=by unfold zbx;rw [hok];rfl
  obtain ⟨r0,r1,r2,r3⟩:=AtC.four H3.out.2.2.1;have v0:=H3.out.2.2.1.frozen 0;have v1:=H3.out.2.2.1.frozen 1;have v2:=H3.out.2.2.1.frozen 2;have v3:=H3.out.2.2.1.frozen 3;obtain ⟨o0,o1,o2,o3⟩:=AtC.four H3.out.2.2.2.1;have hne:¬ b=w.heap.size+1:=by have:=H3.out.2.2.2.2.2;omega
  have hne2:¬ w.heap.size+1=b:=by have:=H3.out.2.2.2.2.2;omega
  obtain ⟨ti,tb,L3⟩:=H3.out.2.2.2.2.1.dl;have HF:=hide (OS.fin (A:=#[.slice a1 xs.length c1,.slice a2 ys.length c2,.slice a3 is.length c3,.slice a4 bs.length c4]) (n0:=w3.heap.size) ⟨L3.bound,H3.out.2.2.2.1,H3.out.2.2.1,H3.out.2.1,H3.out.1,H3.out.2.2.2.1.lt,H3.out.2.2.2.2.2,Nat.le_refl _⟩ (.slice p1 xs.length q1) (.slice p2 ys.length q2) (.slice p3 is.length q3) (.slice p4 bs.length q4));clear hok L3;go_wp2;refine bodyPost_ret (v:=.agg #[.slice p1 xs.length q1,.slice p2 ys.length q2,.slice (p3) is.length q3,.slice p4 bs.length q4]) (by simp [results,go_sem,r0,r1,r2,r3]) rfl ⟨_,_,_,_,rfl,?_,?_⟩
  ·rw [HM.out];exact HF.out.1
  ·exact HF.out.2
 | true =>
  have HM:Hid (zbx xs ys is bs=(fB is bs,fI is bs,restL is bs)):=by unfold zbx;rw [hok];rfl
  have hX:=RX.of_ok hok;have HX:=hide hX;have HI8:=hide hX.r.hi;have HXY:=hide (And.intro hX.bx hX.y8);obtain ⟨z0,z1,z2,z3⟩:=AtC.four H3.out.2.1;obtain ⟨g1,g2,g3,e1,e2,e3⟩:∃ g1 g2 g3,p1=some ⟨g1,0,none⟩/\p2=some ⟨g2,0,none⟩/\p3=some ⟨g3,0,none⟩:=by
   obtain ⟨ti,tb,hL⟩:=H3.out.2.2.2.2.1.dl;obtain ⟨g,c,e,-⟩:=hL.ino 0 (by rw [HI8.out];decide);have ht:=H3.out.2.2.2.2.1.two;obtain ⟨gx,cx,ex,-⟩:=ht.a.at 0 (by rw [show (fc xs).length=xs.length by simp [fc],HXY.out.1];decide);obtain ⟨gy,cy,ey,-⟩:=ht.b.at 0 (by rw [show (fc ys).length=ys.length by simp [fc],HXY.out.2];decide);simp only [Value.slice.injEq] at e ex ey;exact ⟨gx,gy,g,ex.1,ey.1,e.1⟩
  subst e1 e2 e3;have CR:=hide (zav (.slice a1 xs.length c1) (.slice a2 ys.length c2) (.slice a3 is.length c3) (.slice a4 bs.length c4) xs ys is bs w3 (HH.out.below H3.out.1 nR) hX.r);have HNE:Hid ((1:Int)∈reachL is bs):=(zbs hX.r).2 (Rch.root _);have HL8:=hide (zah is bs);clear hok hX;go_wp2_with fail
  refine CR.out.mono ?_;rintro e w4 ⟨rv,rfl,R4,B4⟩;obtain ⟨gr,rc,er,-,-,hgr0,hgr1,-⟩:=R4.at 0 (by rw [zaf];exact List.length_pos_of_mem HNE.out);rw [zaf] at er;subst er;have H4:Hid (RS w w4 b gr #[.slice a1 xs.length c1,.slice a2 ys.length c2,.slice a3 is.length c3,.slice a4 bs.length c4] (.slice (some ⟨g1,0,none⟩) xs.length q1) (.slice (some ⟨g2,0,none⟩) ys.length q2) (.slice (some ⟨g3,0,none⟩) is.length q3) (.slice p4 bs.length q4) (bQ (fB is bs) xs 0) (bQ (fI is bs) ys 0) (restQ is bs 0) bs (.slice (some ⟨gr,0,none⟩) (reachL is bs).length rc) (reachL is bs)):=by
   rw [zhq,zhq,zgn];obtain ⟨ti,tb,hL⟩:=H3.out.2.2.2.2.1.dl;have hbl:=H3.out.2.2.2.1.lt;have hbb:=H3.out.2.2.2.2.2;exact ⟨(hL.bound.do_.below B4 nR).mono fun k hk=>⟨hk.1,by omega⟩,H3.out.2.2.2.1.over B4,H3.out.2.2.1.over B4,H3.out.2.1.over B4,H3.out.1.trans (B4.mono H3.out.1.size),R4.base_le (Nat.zero_le _),fun k hk=>by simpa [Value.ownBlock] using hk.symm,hbb,⟨by omega,by omega⟩,hgr1⟩
  obtain ⟨RL,hRL⟩:∃ L,reachL is bs=L:=⟨_,rfl⟩
  have HRL:=hide hRL;rw [hRL] at H4 HL8 ⊢;have hl8:=HL8.out;clear R4 B4 CR H3 z0 z1 z2 z3 HNE hRL;go_wp2_with fail
  go_loopw [5] (fun kv wr=>∃ q:Nat,q<=8/\kv=.int .i64 ((q:Int)+1)/\Hid (RS w wr b gr #[.slice a1 xs.length c1,.slice a2 ys.length c2,.slice a3 is.length c3,.slice a4 bs.length c4] (.slice (some ⟨g1,0,none⟩) xs.length q1) (.slice (some ⟨g2,0,none⟩) ys.length q2) (.slice (some ⟨g3,0,none⟩) is.length q3) (.slice p4 bs.length q4) xs (bQ (fI is bs) ys q) (restQ is bs q) bs (.slice (some ⟨gr,0,none⟩) RL.length rc) RL)) (fun kv _=>9 - (intOf kv).toNat)
  case atStart=>exact ⟨0,Nat.zero_le _,rfl,by have:=H4.out;rw [zhq] at this;exact this⟩
  case round =>
   obtain ⟨q,hq,rfl,HR⟩:=hrel;clear H4;have o2:wr.cell? ⟨b,2,none⟩=some (.slice (some ⟨g3,0,none⟩) is.length q3):=HR.out.o.cell 2;by_cases hlt:q < 8
   rotate_left
   ·have jj1:¬ ((q:Int)+1<=(is.length:Int)):=by have:=HI8.out;omega
    obtain ⟨y0,y1,y2,y3⟩:=AtC.four HR.out.a;have CH:=hide (zn4 (.slice a1 xs.length c1) (.slice a2 ys.length c2) (.slice a3 is.length c3) (.slice a4 bs.length c4) xs ys is bs wr (HH.out.below HR.out.c nR) HX.out);have HQ8:Hid (bQ (fI is bs) ys q=fI is bs/\restQ is bs q=restL is bs):=⟨bQ_all (by rw [HXY.out.2];simp [fI]) (by simp [fI];omega),by rw [show q=8 by omega];exact zi7 bs HI8.out⟩
    have HHL:Hid ((hadL is bs).length<=16):=by
     show _<=_;unfold hadL;have:=zk8 HX.out.r (reachL is bs);have:=zah is bs;omega
    have HFX:Hid ((fB is bs).length=xs.length):=by show _=_;rw [HXY.out.1];simp [fB]
    have HFB:Hid (∀ p,(hp:p < 16)->(hp2:p < (fB is bs).length)->(fB is bs)[p]=(hadL is bs).contains ((p:Int)+1)):=fun p hp hp2=>by simp [fB]
    go_wp2_with fail
    refine CH.out.mono ?_;rintro e w5 ⟨hv,rfl,R5,B5⟩;obtain ⟨ha,hc,hhv,-⟩:=R5.form;rw [zaf] at hhv;subst hhv;obtain ⟨gh,H5⟩:∃ gh,Hid (RS w w5 b gh #[.slice a1 xs.length c1,.slice a2 ys.length c2,.slice a3 is.length c3,.slice a4 bs.length c4] (.slice (some ⟨g1,0,none⟩) xs.length q1) (.slice (some ⟨g2,0,none⟩) ys.length q2) (.slice (some ⟨g3,0,none⟩) is.length q3) (.slice p4 bs.length q4) (bQ (fB is bs) xs 0) (fI is bs) (restL is bs) bs (.slice ha (hadL is bs).length hc) (hadL is bs)):=by
     have h1:=HR.out.below B5;have h0:=HR.out;rw [HQ8.out.1,HQ8.out.2] at h1 h0;rw [zhq];have hbl:=h0.o.lt;have hbb:=h0.hb
     cases hha:ha with
     | none=>exact ⟨gr,h1.d,h1.o,h1.r,h1.a,h1.c,R5.base_le (Nat.zero_le _) |> fun x=>by rw [← hha];exact x,fun k hk=>by simp [Value.ownBlock] at hk,h1.hb,h1.gr_,h1.gn⟩
     | some ad =>
      obtain ⟨ti,tb,hL⟩:=h0.d.dl;have hlt5:=R5.lt ad.block (by rw [hha];rfl);refine ⟨ad.block,(hL.bound.do_.below B5 nR).mono fun k hk=>⟨hk.1.1,by omega⟩,h1.o,h1.r,h1.a,h1.c,by rw [← hha];exact R5.base_le (Nat.zero_le _),fun k hk=>by simpa [Value.ownBlock] using hk.symm,h1.hb,⟨by omega,by omega⟩,hlt5.2⟩
    obtain ⟨HDL,hHDL⟩:∃ L,hadL is bs=L:=⟨_,rfl⟩
    rw [hHDL] at H5 HFB HHL ⊢;clear R5 B5 CH y0 y1 y2 y3 HR hHDL o2;go_wp2_with fail
    go_loopw [7] (fun kv wr=>∃ p:Nat,p<=16/\kv=.int .i64 ((p:Int)+1)/\Hid (RS w wr b gh #[.slice a1 xs.length c1,.slice a2 ys.length c2,.slice a3 is.length c3,.slice a4 bs.length c4] (.slice (some ⟨g1,0,none⟩) xs.length q1) (.slice (some ⟨g2,0,none⟩) ys.length q2) (.slice (some ⟨g3,0,none⟩) is.length q3) (.slice p4 bs.length q4) (bQ (fB is bs) xs p) (fI is bs) (restL is bs) bs (.slice ha HDL.length hc) HDL)) (fun kv _=>17 - (intOf kv).toNat)
    case atStart=>exact ⟨0,Nat.zero_le _,rfl,H5.out⟩
    case round =>
     obtain ⟨p,hp,rfl,HP⟩:=hrel;clear H5;have o0:wr.cell? ⟨b,0,none⟩=some (.slice (some ⟨g1,0,none⟩) xs.length q1):=HP.out.o.cell 0;by_cases hpl:p < 16
     rotate_left
     ·have jj2:¬ ((p:Int)+1<=(xs.length:Int)):=by have:=HXY.out.1;omega
      have o1:wr.cell? ⟨b,1,none⟩=some (.slice (some ⟨g2,0,none⟩) ys.length q2):=HP.out.o.cell 1;have o2:wr.cell? ⟨b,2,none⟩=some (.slice (some ⟨g3,0,none⟩) is.length q3):=HP.out.o.cell 2;have o3:wr.cell? ⟨b,3,none⟩=some (.slice p4 bs.length q4):=HP.out.o.cell 3;obtain ⟨r0,r1,r2,r3⟩:=AtC.four HP.out.r;have v0:=HP.out.r.frozen 0;have v1:=HP.out.r.frozen 1;have v2:=HP.out.r.frozen 2;have v3:=HP.out.r.frozen 3;have hne:¬ b=w.heap.size+1:=by have:=HP.out.hb;omega
      have hne2:¬ w.heap.size+1=b:=by have:=HP.out.hb;omega
      obtain ⟨ti,tb,L9⟩:=HP.out.d.dl;have HF:=hide (OS.fin (n0:=wr.heap.size) ⟨L9.bound.mono (fun k hk=>⟨hk.1.1,hk.2⟩),HP.out.o,HP.out.r,HP.out.a,HP.out.c,HP.out.o.lt,HP.out.hb,Nat.le_refl _⟩ (.slice (some ⟨g1,0,none⟩) xs.length q1) (.slice (some ⟨g2,0,none⟩) ys.length q2) (.slice (some ⟨g3,0,none⟩) is.length q3) (.slice p4 bs.length q4));have HB16:Hid (bQ (fB is bs) xs p=fB is bs):=bQ_all HFX.out (by simp [fB];omega);clear L9;go_wp2;refine bodyPost_ret (v:=.agg #[.slice (some ⟨g1,0,none⟩) xs.length q1,.slice (some ⟨g2,0,none⟩) ys.length q2,.slice (some ⟨g3,0,none⟩) is.length q3,.slice p4 bs.length q4]) (by simp [results,go_sem,r0,r1,r2,r3]) rfl ⟨_,_,_,_,rfl,?_,?_⟩
      ·rw [HM.out];have:=HF.out.1;rw [HB16.out] at this;exact this
      ·exact HF.out.2
     have jj2:(p:Int)+1<=(xs.length:Int):=by have:=HXY.out.1;omega
     have p0:(0:Int)<=(p:Int):=by omega
     have p1':(p:Int) < (xs.length:Int):=by omega
     have hwp:IntKind.i64.wrap (p:Int)=(p:Int):=wrap_small _ (by omega) (by omega);have HWX:Hid (∀ W,Below wr.heap.size wr W->RS w W b gh #[.slice a1 xs.length c1,.slice a2 ys.length c2,.slice a3 is.length c3,.slice a4 bs.length c4] (.slice (some ⟨g1,0,none⟩) xs.length q1) (.slice (some ⟨g2,0,none⟩) ys.length q2) (.slice (some ⟨g3,0,none⟩) is.length q3) (.slice p4 bs.length q4) (bQ (fB is bs) xs p) (fI is bs) (restL is bs) bs (.slice ha HDL.length hc) HDL/\(∃ v0,W.cell? ⟨g1,p,none⟩=some v0)/\W.frozen? ⟨g1,p,none⟩=false/\g1 < W.heap.size):=fun W hb=>by
      have h1:=HP.out.below hb;have hl:=bQ_len HFX.out p;obtain ⟨gx,cx,ex,k1,f1,-,l1,-⟩:=h1.d.two.a.at p (by rw [show (fc (bQ (fB is bs) xs p)).length=(bQ (fB is bs) xs p).length by simp [fc],hl,HXY.out.1];exact hpl);simp only [Value.slice.injEq,Option.some.injEq,Addr.mk.injEq] at ex;obtain ⟨⟨rfl,-⟩,-,-⟩:=ex;exact ⟨h1,⟨_,by rw [k1,List.getElem?_eq_getElem (by rw [show (fc (bQ (fB is bs) xs p)).length=(bQ (fB is bs) xs p).length by simp [fc],hl,HXY.out.1];exact hpl)]⟩,f1,l1⟩
     have CC:=hide (fun (W:World) (hb:Below wr.heap.size wr W)=>zbn (.slice ha HDL.length hc) HDL ((p:Int)+1) W (HWX.out W hb).1.l.rints (by have:=HHL.out;omega));obtain ⟨cp,hcp⟩:∃ x,HDL.contains ((p:Int)+1)=x:=⟨_,rfl⟩
     rw [hcp] at CC;have HSET:Hid ((bQ (fB is bs) xs p).set p cp=bQ (fB is bs) xs (p+1)):=by
      show _=_;rw [← hcp,← HFB.out p hpl (by simp [fB];exact hpl)];exact bQ_set HFX.out _
     clear hcp;go_upto_region 18 with fail
     clear o0;refine zad (by kernel_rfl) [0,1,2,3,4,5,6,7,8] [9] [] (fun i=>match i with|0=>.const [] (.pointer (some ⟨b,0,none⟩))|1=>.const [0] (.pointer (some ⟨b,0,none⟩))|2=>.const [1] (.slice (some ⟨g1,0,none⟩) xs.length q1)|3=>.const [] (.int .i64 ((p:Int)+1))|4=>.const [3] (.int .i64 (p:Int))|5=>.const [] (.slice ha HDL.length hc)|6=>.const [] (.int .i64 ((p:Int)+1))|7=>.const [5,6] (.bool cp)|8=>.const [2,4] (.pointer (some ⟨g1,p,none⟩))|_=>.triv) (fun x=>⟨List.toArray ((.agg #[.slice a1 xs.length c1,.slice a2 ys.length c2,.slice a3 is.length c3,.slice a4 bs.length c4])::(.pointer (some ⟨w.heap.size,0,none⟩))::(.pointer (some ⟨w.heap.size+1,0,none⟩))::(.pointer (some ⟨b,0,none⟩))::(.slice (some ⟨gr,0,none⟩) RL.length rc)::(.int .i64 (↑q+1))::(.slice ha HDL.length hc)::(.int .i64 (↑p+1))::(.agg #[.slice a1 xs.length c1,.slice a2 ys.length c2,.slice a3 is.length c3,.slice a4 bs.length c4])::(.agg #[.slice (some ⟨g1,0,none⟩) xs.length q1,.slice (some ⟨g2,0,none⟩) ys.length q2,.slice (some ⟨g3,0,none⟩) is.length q3,.slice p4 bs.length q4])::(.agg #[.slice a1 xs.length c1,.slice a2 ys.length c2,.slice a3 is.length c3,.slice a4 bs.length c4])::(.bool true)::(.bool false)::(undef)::(.agg #[.slice a1 xs.length c1,.slice a2 ys.length c2,.slice a3 is.length c3,.slice a4 bs.length c4])::(.slice (some ⟨gr,0,none⟩) RL.length rc)::(.int .i64 (↑q+1))::(.pointer (some ⟨b,2,none⟩))::(.slice (some ⟨g3,0,none⟩) is.length q3)::(.int .i64 ↑is.length)::(.bool false)::(u21)::(u22)::(u23)::(u24)::(u25)::(u26)::(u27)::(u28)::(u29)::(u30)::(u31)::(u32)::(u33)::(u34)::(u35)::(u36)::(u37)::(u38)::(u39)::(u40)::(u41)::(u42)::(u43)::(u44)::(u45)::(u46)::(u47)::(u48)::(u49)::(u50)::(u51)::(u52)::(u53)::(u54)::(u55)::(u56)::(.agg #[.slice a1 xs.length c1,.slice a2 ys.length c2,.slice a3 is.length c3,.slice a4 bs.length c4])::(.slice ha HDL.length hc)::(.int .i64 (↑p+1))::(.pointer (some ⟨b,0,none⟩))::(.pointer (some ⟨b,0,none⟩))::(.slice (some ⟨g1,0,none⟩) xs.length q1)::(.int .i64 ↑xs.length)::(.bool true)::(u65)::(u66)::(x 0)::(x 1)::(x 2)::(x 3)::(x 4)::(x 5)::(x 6)::(x 7)::(x 8)::(undef)::[]),[]⟩) (fun i=>match i with|0=>u67|1=>u68|2=>u69|3=>u70|4=>u71|5=>u72|6=>u73|7=>u74|8=>u75|_=>undef) rfl (zae (by kernel_rfl) (by kernel_rfl)) (by kernel_rfl) (by kernel_rfl) (by kernel_rfl) rfl ?_ ?_ (by intro q hq;cases hq)
     ·intro jo hj so x iw W hd hp K hK;simp only [List.mem_cons,List.not_mem_nil,or_false] at hj;rcases hj with rfl|rfl|rfl|rfl|rfl|rfl|rfl|rfl|rfl<;>refine wpOp_step (o:=_) rfl fun K' hK'=>?_<;>have HK:=hide (fun (v:Value) (W':World) h1 h2=>hK' _ _ (hK v W' h1 h2))<;>simp only [upd,Nat.reduceEqDiff,if_true,if_false] at HK
      ·clear hK hK' hp hd;go_simp;exact HK.out _ _ bR rfl
      ·have e0:x 0=.pointer (some ⟨b,0,none⟩):=hp.post 0 (hd 0 mz0);simp only [e0] at HK ⊢;go_simp;exact HK.out _ _ bR rfl
      ·have e1:x 1=.pointer (some ⟨b,0,none⟩):=hp.post 1 (hd 1 mz0);have bw:=zaa hp.bel;have k0:W.cell? ⟨b,0,none⟩=some (.slice (some ⟨g1,0,none⟩) xs.length q1):=(HWX.out W bw).1.o.cell 0;clear bw;simp only [e1] at HK ⊢;go_simp;exact HK.out _ _ bR rfl
      ·clear hK hK' hp hd;go_simp;exact HK.out _ _ bR rfl
      ·have e3:x 3=.int .i64 ((p:Int)+1):=hp.post 3 (hd 3 mz0);simp only [e3] at HK ⊢;go_simp;exact HK.out _ _ bR rfl
      ·clear hK hK' hp hd;go_simp;exact HK.out _ _ bR rfl
      ·clear hK hK' hp hd;go_simp;exact HK.out _ _ bR rfl
      ·have e5:x 5=.slice ha HDL.length hc:=hp.post 5 (hd 5 mz0);have e6:x 6=.int .i64 ((p:Int)+1):=hp.post 6 (hd 6 mz1);have dr:=(HWX.out W (zaa hp.bel)).1;have CX:=hide (CC.out W (zaa hp.bel));simp only [e5,e6] at HK ⊢;clear e5 e6;go_simp;refine CX.out.mono ?_;rintro e w6 ⟨rfl,hw6⟩;rw [hw6];go_simp;exact HK.out _ _ bR rfl
      ·have e2:x 2=.slice (some ⟨g1,0,none⟩) xs.length q1:=hp.post 2 (hd 2 mz0);have e4:x 4=.int .i64 (p:Int):=hp.post 4 (hd 4 mz1);have bw:=zaa hp.bel;have l0:=(HWX.out W bw).2.2.2;clear bw;simp only [e2,e4] at HK ⊢;go_simp;exact HK.out _ _ bR rfl
     ·intro x iw W hp;have e0:x 0=.pointer (some ⟨b,0,none⟩):=hp.post 0 (by decide);have e1:x 1=.pointer (some ⟨b,0,none⟩):=hp.post 1 (by decide);have e2:x 2=.slice (some ⟨g1,0,none⟩) xs.length q1:=hp.post 2 (by decide);have e3:x 3=.int .i64 ((p:Int)+1):=hp.post 3 (by decide);have e4:x 4=.int .i64 (p:Int):=hp.post 4 (by decide);have e5:x 5=.slice ha HDL.length hc:=hp.post 5 (by decide);have e6:x 6=.int .i64 ((p:Int)+1):=hp.post 6 (by decide);have e7:x 7=.bool cp:=hp.post 7 (by decide);have e8:x 8=.pointer (some ⟨g1,p,none⟩):=hp.post 8 (by decide);obtain ⟨S8,⟨y8,ky⟩,fy,ly⟩:=HWX.out W (zaa hp.bel);have HE:=hide (S8.setX rfl p cp);rw [HSET.out] at HE;simp only [e0,e1,e2,e3,e4,e5,e6,e7,e8];clear hp S8 e0 e1 e2 e3 e4 e5 e6 e7 e8;go_wp2_with fail
      try rw [List.filterMap_nil]
      try go_wp2_with fail
      go_roundw
      case rel=>exact ⟨p+1,by omega,by go_num,HE.out⟩
      case measure=>simp [intOf];omega
   have jj1:(q:Int)+1<=(is.length:Int):=by have:=HI8.out;omega
   have jq0:(0:Int)<=(q:Int):=by omega
   have jq1:(q:Int) < (is.length:Int):=by omega
   have jq2:(q:Int) < (ys.length:Int):=by have:=HXY.out.2;omega
   have hwq:IntKind.i64.wrap (q:Int)=(q:Int):=wrap_small _ (by omega) (by omega);have HFY:Hid ((fI is bs).length=ys.length):=by show _=_;rw [HXY.out.2];simp [fI]
   have HWY:Hid (∀ W,Below wr.heap.size wr W->RS w W b gr #[.slice a1 xs.length c1,.slice a2 ys.length c2,.slice a3 is.length c3,.slice a4 bs.length c4] (.slice (some ⟨g1,0,none⟩) xs.length q1) (.slice (some ⟨g2,0,none⟩) ys.length q2) (.slice (some ⟨g3,0,none⟩) is.length q3) (.slice p4 bs.length q4) xs (bQ (fI is bs) ys q) (restQ is bs q) bs (.slice (some ⟨gr,0,none⟩) RL.length rc) RL/\(∃ v0,W.cell? ⟨g2,q,none⟩=some v0)/\W.frozen? ⟨g2,q,none⟩=false/\g2 < W.heap.size):=fun W hb=>by
    have h1:=HR.out.below hb;have hl:=bQ_len HFY.out q;obtain ⟨gx,cx,ex,k1,f1,-,l1,-⟩:=h1.d.two.b.at q (by rw [show (fc (bQ (fI is bs) ys q)).length=(bQ (fI is bs) ys q).length by simp [fc],hl,HXY.out.2];exact hlt);simp only [Value.slice.injEq,Option.some.injEq,Addr.mk.injEq] at ex;obtain ⟨⟨rfl,-⟩,-,-⟩:=ex;exact ⟨h1,⟨_,by rw [k1,List.getElem?_eq_getElem (by rw [show (fc (bQ (fI is bs) ys q)).length=(bQ (fI is bs) ys q).length by simp [fc],hl,HXY.out.2];exact hlt)]⟩,f1,l1⟩
   have CC:=hide (fun (W:World) (hv:RInts W (.slice (some ⟨gr,0,none⟩) RL.length rc) RL)=>zbn (.slice (some ⟨gr,0,none⟩) RL.length rc) RL ((q:Int)+1) W hv (by omega));obtain ⟨cq,hcq⟩:∃ x,RL.contains ((q:Int)+1)=x:=⟨_,rfl⟩
   rw [hcq] at CC;have HSET:Hid ((bQ (fI is bs) ys q).set q cq=bQ (fI is bs) ys (q+1)):=by
    show _=_;rw [← hcq,← HRL.out,show (reachL is bs).contains ((q:Int)+1)=(fI is bs)[q]'(by simp [fI];exact hlt) by simp [fI]];exact bQ_set HFY.out _
   have HQL:Hid (q < (restQ is bs q).length):=by show _ < _;rw [zcl bs HI8.out hq];exact hlt
   have HQS:=hide (zi8 bs HI8.out hlt);have HQI:Hid ((restQ is bs q)[q]'HQL.out=is[q]'(by rw [HI8.out];exact hlt)):=zdd bs HI8.out hq nR _ _;have HRI:Hid (restI is bs q=if cq=true then ((is[q]'(by rw [HI8.out];exact hlt)).1,lnkV is bs q,(is[q]'(by rw [HI8.out];exact hlt)).2.2) else (0,0,[0,0])):=by
    show restI is bs q=_;unfold restI;rw [zap (by rw [HI8.out];exact hlt),HRL.out,hcq]
   clear hcq;go_upto_region 8 with fail
   clear o2;go_cut [4] from 16 to 56 (fun lv wx=>lv=.slice (some ⟨gr,0,none⟩) RL.length rc/\RS w wx b gr #[.slice a1 xs.length c1,.slice a2 ys.length c2,.slice a3 is.length c3,.slice a4 bs.length c4] (.slice (some ⟨g1,0,none⟩) xs.length q1) (.slice (some ⟨g2,0,none⟩) ys.length q2) (.slice (some ⟨g3,0,none⟩) is.length q3) (.slice p4 bs.length q4) xs (bQ (fI is bs) ys (q+1)) (restQ is bs q) bs (.slice (some ⟨gr,0,none⟩) RL.length rc) RL)
   case first =>
    refine zad (by kernel_rfl) [0,1,2,3,4,5,6,7,8] [9] [] (fun i=>match i with|0=>.const [] (.pointer (some ⟨b,0,none⟩))|1=>.const [0] (.pointer (some ⟨b,1,none⟩))|2=>.const [1] (.slice (some ⟨g2,0,none⟩) ys.length q2)|3=>.const [] (.int .i64 ((q:Int)+1))|4=>.const [3] (.int .i64 (q:Int))|5=>.const [] (.slice (some ⟨gr,0,none⟩) RL.length rc)|6=>.const [] (.int .i64 ((q:Int)+1))|7=>.const [5,6] (.bool cq)|8=>.const [2,4] (.pointer (some ⟨g2,q,none⟩))|_=>.triv) (fun x=>⟨List.toArray ((.agg #[.slice a1 xs.length c1,.slice a2 ys.length c2,.slice a3 is.length c3,.slice a4 bs.length c4])::(.pointer (some ⟨w.heap.size,0,none⟩))::(.pointer (some ⟨w.heap.size+1,0,none⟩))::(.pointer (some ⟨b,0,none⟩))::(.slice (some ⟨gr,0,none⟩) RL.length rc)::(.int .i64 (↑q+1))::(undef)::(undef)::(.agg #[.slice a1 xs.length c1,.slice a2 ys.length c2,.slice a3 is.length c3,.slice a4 bs.length c4])::(.agg #[.slice (some ⟨g1,0,none⟩) xs.length q1,.slice (some ⟨g2,0,none⟩) ys.length q2,.slice (some ⟨g3,0,none⟩) is.length q3,.slice p4 bs.length q4])::(.agg #[.slice a1 xs.length c1,.slice a2 ys.length c2,.slice a3 is.length c3,.slice a4 bs.length c4])::(.bool true)::(.bool false)::(undef)::(.agg #[.slice a1 xs.length c1,.slice a2 ys.length c2,.slice a3 is.length c3,.slice a4 bs.length c4])::(.slice (some ⟨gr,0,none⟩) RL.length rc)::(.int .i64 (↑q+1))::(.pointer (some ⟨b,2,none⟩))::(.slice (some ⟨g3,0,none⟩) is.length q3)::(.int .i64 ↑is.length)::(.bool true)::(u21)::(u22)::(x 0)::(x 1)::(x 2)::(x 3)::(x 4)::(x 5)::(x 6)::(x 7)::(x 8)::(u32)::(u33)::(u34)::(u35)::(u36)::(u37)::(u38)::(u39)::(u40)::(u41)::(u42)::(u43)::(u44)::(u45)::(u46)::(u47)::(u48)::(u49)::(u50)::(u51)::(u52)::(u53)::(u54)::(u55)::(u56)::(undef)::(undef)::(undef)::(undef)::(undef)::(undef)::(undef)::(undef)::(undef)::(undef)::(undef)::(undef)::(undef)::(undef)::(undef)::(undef)::(undef)::(undef)::(undef)::(undef)::[]),[]⟩) (fun i=>match i with|0=>u23|1=>u24|2=>u25|3=>u26|4=>u27|5=>u28|6=>u29|7=>u30|8=>u31|_=>undef) rfl (zae (by kernel_rfl) (by kernel_rfl)) (by kernel_rfl) (by kernel_rfl) (by kernel_rfl) rfl ?_ ?_ (by intro q hq;cases hq)
    ·intro jo hj so x iw W hd hp K hK;simp only [List.mem_cons,List.not_mem_nil,or_false] at hj;rcases hj with rfl|rfl|rfl|rfl|rfl|rfl|rfl|rfl|rfl<;>refine wpOp_step (o:=_) rfl fun K' hK'=>?_<;>have HK:=hide (fun (v:Value) (W':World) h1 h2=>hK' _ _ (hK v W' h1 h2))<;>simp only [upd,Nat.reduceEqDiff,if_true,if_false] at HK
     ·clear hK hK' hp hd;go_simp;exact HK.out _ _ bR rfl
     ·have e0:x 0=.pointer (some ⟨b,0,none⟩):=hp.post 0 (hd 0 mz0);simp only [e0] at HK ⊢;go_simp;exact HK.out _ _ bR rfl
     ·have e1:x 1=.pointer (some ⟨b,1,none⟩):=hp.post 1 (hd 1 mz0);have bw:=zaa hp.bel;have k0:W.cell? ⟨b,1,none⟩=some (.slice (some ⟨g2,0,none⟩) ys.length q2):=(HWY.out W bw).1.o.cell 1;clear bw;simp only [e1] at HK ⊢;go_simp;exact HK.out _ _ bR rfl
     ·clear hK hK' hp hd;go_simp;exact HK.out _ _ bR rfl
     ·have e3:x 3=.int .i64 ((q:Int)+1):=hp.post 3 (hd 3 mz0);simp only [e3] at HK ⊢;go_simp;exact HK.out _ _ bR rfl
     ·clear hK hK' hp hd;go_simp;exact HK.out _ _ bR rfl
     ·clear hK hK' hp hd;go_simp;exact HK.out _ _ bR rfl
     ·have e5:x 5=.slice (some ⟨gr,0,none⟩) RL.length rc:=hp.post 5 (hd 5 mz0);have e6:x 6=.int .i64 ((q:Int)+1):=hp.post 6 (hd 6 mz1);have dr:=(HWY.out W (zaa hp.bel)).1;have CX:=hide (CC.out W dr.l.rints);simp only [e5,e6] at HK ⊢;clear e5 e6;go_simp;refine CX.out.mono ?_;rintro e w6 ⟨rfl,hw6⟩;rw [hw6];go_simp;exact HK.out _ _ bR rfl
     ·have e2:x 2=.slice (some ⟨g2,0,none⟩) ys.length q2:=hp.post 2 (hd 2 mz0);have e4:x 4=.int .i64 (q:Int):=hp.post 4 (hd 4 mz1);have bw:=zaa hp.bel;have l0:=(HWY.out W bw).2.2.2;clear bw;simp only [e2,e4] at HK ⊢;go_simp;exact HK.out _ _ bR rfl
    ·intro x iw W hp;have e0:x 0=.pointer (some ⟨b,0,none⟩):=hp.post 0 (by decide);have e1:x 1=.pointer (some ⟨b,1,none⟩):=hp.post 1 (by decide);have e2:x 2=.slice (some ⟨g2,0,none⟩) ys.length q2:=hp.post 2 (by decide);have e3:x 3=.int .i64 ((q:Int)+1):=hp.post 3 (by decide);have e4:x 4=.int .i64 (q:Int):=hp.post 4 (by decide);have e5:x 5=.slice (some ⟨gr,0,none⟩) RL.length rc:=hp.post 5 (by decide);have e6:x 6=.int .i64 ((q:Int)+1):=hp.post 6 (by decide);have e7:x 7=.bool cq:=hp.post 7 (by decide);have e8:x 8=.pointer (some ⟨g2,q,none⟩):=hp.post 8 (by decide);obtain ⟨S8,⟨y8,ky⟩,fy,ly⟩:=HWY.out W (zaa hp.bel);have HE:=hide (S8.setY rfl q cq);rw [HSET.out] at HE;simp only [e0,e1,e2,e3,e4,e5,e6,e7,e8];clear hp S8 e0 e1 e2 e3 e4 e5 e6 e7 e8;go_wp2_with fail
     try rw [List.filterMap_nil]
     try go_wp2_with fail
     go_meet
     exact ⟨rfl,HE.out⟩
   case rest =>
    obtain ⟨rfl,S9⟩:=hcut;have HS9:=hide S9;have CC2:=hide (CC.out wc S9.l.rints);clear S9 HR HWY CC;go_wp2_with fail
    refine CC2.out.mono ?_;rintro e w9 ⟨rfl,hw9⟩;subst hw9
    cases cq with
    | false =>
     rw [if_neg (by decide)] at HRI;have HW10:Hid (∀ W,Below w9.heap.size w9 W->AtC W b 35 #[.slice (some ⟨g1,0,none⟩) xs.length q1,.slice (some ⟨g2,0,none⟩) ys.length q2,.slice (some ⟨g3,0,none⟩) is.length q3,.slice p4 bs.length q4]/\(∃ v0,W.cell? ⟨g3,q * 3,none⟩=some v0)/\(∃ v0,W.cell? ⟨g3,q * 3+1,none⟩=some v0)/\(∃ v0,W.cell? ⟨g3,q * 3+2,none⟩=some v0)/\(∀ k,W.frozen? ⟨g3,k,none⟩=false)/\g3 < W.heap.size):=fun W hb=>by
      have h1:=HS9.out.below hb;obtain ⟨⟨i1,i2,i3,k1,k2,k3,-⟩,f1,l1,-⟩:=h1.d.atI rfl q HQL.out;exact ⟨h1.o,⟨_,k1⟩,⟨_,k2⟩,⟨_,k3⟩,f1,l1⟩
     have HPT:=hide (fun (W:World) (na:Option Addr) (nc:Nat) (hb:Below w9.heap.size w9 W) (ho:ROwns W w9.heap.size 3 (.slice na 2 nc) (ic [0,0]))=>HS9.out.put rfl q HQL.out hb ho);go_upto_region 10 with fail
     refine zad (by kernel_rfl) [0,1,2,3,4,5] [6] [] (fun i=>match i with|0=>.const [] (.pointer (some ⟨b,2,none⟩))|1=>.const [0] (.slice (some ⟨g3,0,none⟩) is.length q3)|2=>.const [] (.int .i64 ((q:Int)+1))|3=>.const [2] (.int .i64 (q:Int))|4=>MkNw []|5=>.const [1,3] (.pointer (some ⟨g3,q * 3,none⟩))|_=>.triv) (fun x=>⟨List.toArray ((.agg #[.slice a1 xs.length c1,.slice a2 ys.length c2,.slice a3 is.length c3,.slice a4 bs.length c4])::(.pointer (some ⟨w.heap.size,0,none⟩))::(.pointer (some ⟨w.heap.size+1,0,none⟩))::(.pointer (some ⟨b,0,none⟩))::(.slice (some ⟨gr,0,none⟩) RL.length rc)::(.int .i64 (↑q+1))::(undef)::(undef)::(.agg #[.slice a1 xs.length c1,.slice a2 ys.length c2,.slice a3 is.length c3,.slice a4 bs.length c4])::(.agg #[.slice (some ⟨g1,0,none⟩) xs.length q1,.slice (some ⟨g2,0,none⟩) ys.length q2,.slice (some ⟨g3,0,none⟩) is.length q3,.slice p4 bs.length q4])::(.agg #[.slice a1 xs.length c1,.slice a2 ys.length c2,.slice a3 is.length c3,.slice a4 bs.length c4])::(.bool true)::(.bool false)::(undef)::(.agg #[.slice a1 xs.length c1,.slice a2 ys.length c2,.slice a3 is.length c3,.slice a4 bs.length c4])::(.slice (some ⟨gr,0,none⟩) RL.length rc)::(u16)::(u17)::(u18)::(u19)::(u20)::(u21)::(u22)::(u23)::(u24)::(u25)::(u26)::(u27)::(u28)::(u29)::(u30)::(u31)::(.slice (some ⟨gr,0,none⟩) RL.length rc)::(.int .i64 (↑q+1))::(.bool false)::(.bool true)::(x 0)::(x 1)::(x 2)::(x 3)::(x 4)::(x 5)::(u42)::(u43)::(u44)::(u45)::(u46)::(u47)::(u48)::(u49)::(u50)::(u51)::(u52)::(u53)::(u54)::(u55)::(u56)::(undef)::(undef)::(undef)::(undef)::(undef)::(undef)::(undef)::(undef)::(undef)::(undef)::(undef)::(undef)::(undef)::(undef)::(undef)::(undef)::(undef)::(undef)::(undef)::(undef)::[]),[]⟩) (fun i=>match i with|0=>u36|1=>u37|2=>u38|3=>u39|4=>u40|5=>u41|_=>undef) rfl (zae (by kernel_rfl) (by kernel_rfl)) (by kernel_rfl) (by kernel_rfl) (by kernel_rfl) rfl ?_ ?_ (by intro q hq;cases hq)
     ·intro jo hj so x iw W hd hp K hK;simp only [List.mem_cons,List.not_mem_nil,or_false] at hj;rcases hj with rfl|rfl|rfl|rfl|rfl|rfl<;>refine wpOp_step (o:=_) rfl fun K' hK'=>?_<;>have HK:=hide (fun (v:Value) (W':World) h1 h2=>hK' _ _ (hK v W' h1 h2))<;>simp only [upd,Nat.reduceEqDiff,if_true,if_false] at HK
      ·clear hK hK' hp hd;go_simp;exact HK.out _ _ bR rfl
      ·have e0:x 0=.pointer (some ⟨b,2,none⟩):=hp.post 0 (hd 0 mz0);have bw:=zaa hp.bel;have k0:W.cell? ⟨b,2,none⟩=some (.slice (some ⟨g3,0,none⟩) is.length q3):=(HW10.out W bw).1.cell 2;clear bw;simp only [e0] at HK ⊢;go_simp;exact HK.out _ _ bR rfl
      ·clear hK hK' hp hd;go_simp;exact HK.out _ _ bR rfl
      ·have e2:x 2=.int .i64 ((q:Int)+1):=hp.post 2 (hd 2 mz0);simp only [e2] at HK ⊢;go_simp;exact HK.out _ _ bR rfl
      ·clear hK hK' hp hd;go_simp;refine (zek 0 W).mono ?_;rintro e w6 ⟨nv,rfl,O6,B6⟩;obtain ⟨na,nc,rfl⟩:=O6.form2;go_simp;exact HK.out _ _ B6 ⟨na,nc,rfl,O6⟩
      ·have e1:x 1=.slice (some ⟨g3,0,none⟩) is.length q3:=hp.post 1 (hd 1 mz0);have e3:x 3=.int .i64 (q:Int):=hp.post 3 (hd 3 mz1);have bw:=zaa hp.bel;have l0:=(HW10.out W bw).2.2.2.2.2;clear bw;simp only [e1,e3] at HK ⊢;go_simp;exact HK.out _ _ bR rfl
     ·intro x iw W hp;have e5:x 5=.pointer (some ⟨g3,q * 3,none⟩):=hp.post 5 (by decide);obtain ⟨na,nc,e4,O4⟩:=hp.post 4 (by decide);have l4:=hp.lo 4 (by decide);have bel:=zaa hp.bel;obtain ⟨A9,⟨v0,k0⟩,⟨v1,k1⟩,⟨v2,k2⟩,ff,l0⟩:=HW10.out W bel;have f0:=ff (q * 3);have f1:=ff (q * 3+1);have f2:=ff (q * 3+2);have HE:=hide (HPT.out W na nc bel (O4.base_le l4.1));rw [← HRI.out,HQS.out] at HE;have HREL:Hid (∃ q':Nat,q'<=8/\(Value.int .i64 ((q:Int)+1+1))=.int .i64 ((q':Int)+1)/\Hid (RS w (((W.setCell ⟨g3,q * 3,none⟩ (.int .i64 0)).setCell ⟨g3,q * 3+1,none⟩ (.int .i64 0)).setCell ⟨g3,q * 3+2,none⟩ (.slice na 2 nc)) b gr #[.slice a1 xs.length c1,.slice a2 ys.length c2,.slice a3 is.length c3,.slice a4 bs.length c4] (.slice (some ⟨g1,0,none⟩) xs.length q1) (.slice (some ⟨g2,0,none⟩) ys.length q2) (.slice (some ⟨g3,0,none⟩) is.length q3) (.slice p4 bs.length q4) xs (bQ (fI is bs) ys q') (restQ is bs q') bs (.slice (some ⟨gr,0,none⟩) RL.length rc) RL)):=⟨q+1,by omega,by simp,HE.out⟩
      simp only [e4,e5];clear hp e4 e5 O4 l4 bel A9 ff;go_wp2_with fail
      try rw [List.filterMap_nil]
      try go_wp2_with fail
      go_roundw
      case rel=>first | exact ⟨q+1,by omega,by go_num,HE.out⟩ | ((repeat apply Exists.intro);exact ⟨HREL.out,rfl⟩)
      case measure=>simp [intOf];omega
    | true =>
     rw [if_pos rfl] at HRI;by_cases hq0:((q:Int)+1 == 1)=true
     ·have hqz:q=0:=by simp at hq0;omega
      have HE:Hid (RS w (w9.setCell ⟨g3,q * 3+1,none⟩ (.int .i64 1)) b gr #[.slice a1 xs.length c1,.slice a2 ys.length c2,.slice a3 is.length c3,.slice a4 bs.length c4] (.slice (some ⟨g1,0,none⟩) xs.length q1) (.slice (some ⟨g2,0,none⟩) ys.length q2) (.slice (some ⟨g3,0,none⟩) is.length q3) (.slice p4 bs.length q4) xs (bQ (fI is bs) ys (q+1)) (restQ is bs (q+1)) bs (.slice (some ⟨gr,0,none⟩) RL.length rc) RL):=by
       have:=HS9.out.lnk rfl q HQL.out 1;rw [HQI.out] at this;rw [← HQS.out,HRI.out,show lnkV is bs q=1 by unfold lnkV;exact if_pos hqz];exact this
      obtain ⟨⟨i1,i2,i3,k1,k2,k3,-⟩,f1,l1,-⟩:=HS9.out.d.atI rfl q HQL.out;have o2:w9.cell? ⟨b,2,none⟩=some (.slice (some ⟨g3,0,none⟩) is.length q3):=HS9.out.o.cell 2;subst hqz;have k2':w9.cell? ⟨g3,1,none⟩=some (.int .i64 i2):=by simpa using k2
      have f2':=f1 1;have jl:(0:Int) < (is.length:Int):=by have:=HI8.out;omega
      have HREL:Hid (∃ q:Nat,q<=8/\(Value.int .i64 2)=.int .i64 ((q:Int)+1)/\Hid (RS w (w9.setCell ⟨g3,1,none⟩ (.int .i64 1)) b gr #[.slice a1 xs.length c1,.slice a2 ys.length c2,.slice a3 is.length c3,.slice a4 bs.length c4] (.slice (some ⟨g1,0,none⟩) xs.length q1) (.slice (some ⟨g2,0,none⟩) ys.length q2) (.slice (some ⟨g3,0,none⟩) is.length q3) (.slice p4 bs.length q4) xs (bQ (fI is bs) ys q) (restQ is bs q) bs (.slice (some ⟨gr,0,none⟩) RL.length rc) RL)):=⟨1,by omega,rfl,HE.out⟩
      clear k1 k2 k3 f1;go_wp2;go_roundw
      case rel=>first | exact HREL.out | ((repeat apply Exists.intro);exact ⟨HREL.out,rfl⟩)
      case measure=>simp [intOf]
     have n0:((q:Int)+1 == 1)=false:=by simpa using hq0
     have hqn:¬ q=0:=by intro e;subst e;simp at hq0
     have HLV:Hid (lnkV is bs q=(zan is bs ((q:Int)+1):Int)):=by show lnkV is bs q=_;unfold lnkV;exact if_neg hqn
     have CL:=hide (fun (W:World) (hb:Below w9.heap.size w9 W)=>zcu ((q:Int)+1) (.slice a1 xs.length c1) (.slice a2 ys.length c2) (.slice a3 is.length c3) (.slice a4 bs.length c4) xs ys is bs W (HH.out.below (HS9.out.below hb).c nR) HX.out);obtain ⟨nl,hnl⟩:∃ n,zan is bs ((q:Int)+1)=n:=⟨_,rfl⟩
     rw [hnl] at CL HLV;have HW13:Hid (∀ W,Below w9.heap.size w9 W->AtC W b 35 #[.slice (some ⟨g1,0,none⟩) xs.length q1,.slice (some ⟨g2,0,none⟩) ys.length q2,.slice (some ⟨g3,0,none⟩) is.length q3,.slice p4 bs.length q4]/\AtC W w.heap.size 35 #[.slice a1 xs.length c1,.slice a2 ys.length c2,.slice a3 is.length c3,.slice a4 bs.length c4]/\(∃ v0,W.cell? ⟨g3,q * 3+1,none⟩=some v0)/\W.frozen? ⟨g3,q * 3+1,none⟩=false/\g3 < W.heap.size/\RS w (W.setCell ⟨g3,q * 3+1,none⟩ (.int .i64 nl)) b gr #[.slice a1 xs.length c1,.slice a2 ys.length c2,.slice a3 is.length c3,.slice a4 bs.length c4] (.slice (some ⟨g1,0,none⟩) xs.length q1) (.slice (some ⟨g2,0,none⟩) ys.length q2) (.slice (some ⟨g3,0,none⟩) is.length q3) (.slice p4 bs.length q4) xs (bQ (fI is bs) ys (q+1)) (restQ is bs (q+1)) bs (.slice (some ⟨gr,0,none⟩) RL.length rc) RL):=fun W hb=>by
      have h1:=HS9.out.below hb;obtain ⟨⟨i1,i2,i3,k1,k2,k3,-⟩,f1,l1,-⟩:=h1.d.atI rfl q HQL.out;have h2:=h1.lnk rfl q HQL.out nl;rw [HQI.out] at h2;refine ⟨h1.o,h1.a,⟨_,k2⟩,f1 _,l1,?_⟩;rw [← HQS.out,HRI.out,HLV.out];exact h2
     clear hq0 hqn hnl;go_upto_region 13 with fail
     refine zad (by kernel_rfl) [0,1,2,3,4,5,6,7,8] [9] [] (fun i=>match i with|0=>.const [] (.pointer (some ⟨b,2,none⟩))|1=>.const [0] (.slice (some ⟨g3,0,none⟩) is.length q3)|2=>.const [] (.int .i64 ((q:Int)+1))|3=>.const [2] (.int .i64 (q:Int))|4=>.const [] (.agg #[.slice a1 xs.length c1,.slice a2 ys.length c2,.slice a3 is.length c3,.slice a4 bs.length c4])|5=>.const [] (.int .i64 ((q:Int)+1))|6=>.const [4,5] (.int .i64 (nl:Int))|7=>.const [1,3] (.pointer (some ⟨g3,q * 3,none⟩))|8=>.const [7] (.pointer (some ⟨g3,q * 3+1,none⟩))|_=>.triv) (fun x=>⟨List.toArray ((.agg #[.slice a1 xs.length c1,.slice a2 ys.length c2,.slice a3 is.length c3,.slice a4 bs.length c4])::(.pointer (some ⟨w.heap.size,0,none⟩))::(.pointer (some ⟨w.heap.size+1,0,none⟩))::(.pointer (some ⟨b,0,none⟩))::(.slice (some ⟨gr,0,none⟩) RL.length rc)::(.int .i64 (↑q+1))::(undef)::(undef)::(.agg #[.slice a1 xs.length c1,.slice a2 ys.length c2,.slice a3 is.length c3,.slice a4 bs.length c4])::(.agg #[.slice (some ⟨g1,0,none⟩) xs.length q1,.slice (some ⟨g2,0,none⟩) ys.length q2,.slice (some ⟨g3,0,none⟩) is.length q3,.slice p4 bs.length q4])::(.agg #[.slice a1 xs.length c1,.slice a2 ys.length c2,.slice a3 is.length c3,.slice a4 bs.length c4])::(.bool true)::(.bool false)::(undef)::(.agg #[.slice a1 xs.length c1,.slice a2 ys.length c2,.slice a3 is.length c3,.slice a4 bs.length c4])::(.slice (some ⟨gr,0,none⟩) RL.length rc)::(u16)::(u17)::(u18)::(u19)::(u20)::(u21)::(u22)::(u23)::(u24)::(u25)::(u26)::(u27)::(u28)::(u29)::(u30)::(u31)::(.slice (some ⟨gr,0,none⟩) RL.length rc)::(.int .i64 (↑q+1))::(.bool true)::(.bool false)::(u36)::(u37)::(u38)::(u39)::(u40)::(u41)::(.int .i64 (↑q+1))::(.bool false)::(u44)::(u45)::(u46)::(u47)::(x 0)::(x 1)::(x 2)::(x 3)::(x 4)::(x 5)::(x 6)::(x 7)::(x 8)::(undef)::(undef)::(undef)::(undef)::(undef)::(undef)::(undef)::(undef)::(undef)::(undef)::(undef)::(undef)::(undef)::(undef)::(undef)::(undef)::(undef)::(undef)::(undef)::(undef)::[]),[]⟩) (fun i=>match i with|0=>u48|1=>u49|2=>u50|3=>u51|4=>u52|5=>u53|6=>u54|7=>u55|8=>u56|_=>undef) rfl (zae (by kernel_rfl) (by kernel_rfl)) (by kernel_rfl) (by kernel_rfl) (by kernel_rfl) rfl ?_ ?_ (by intro q hq;cases hq)
     ·intro jo hj so x iw W hd hp K hK;simp only [List.mem_cons,List.not_mem_nil,or_false] at hj;rcases hj with rfl|rfl|rfl|rfl|rfl|rfl|rfl|rfl|rfl<;>refine wpOp_step (o:=_) rfl fun K' hK'=>?_<;>have HK:=hide (fun (v:Value) (W':World) h1 h2=>hK' _ _ (hK v W' h1 h2))<;>simp only [upd,Nat.reduceEqDiff,if_true,if_false] at HK
      ·clear hK hK' hp hd;go_simp;exact HK.out _ _ bR rfl
      ·have e0:x 0=.pointer (some ⟨b,2,none⟩):=hp.post 0 (hd 0 mz0);have bw:=zaa hp.bel;have k0:W.cell? ⟨b,2,none⟩=some (.slice (some ⟨g3,0,none⟩) is.length q3):=(HW13.out W bw).1.cell 2;clear bw;simp only [e0] at HK ⊢;go_simp;exact HK.out _ _ bR rfl
      ·clear hK hK' hp hd;go_simp;exact HK.out _ _ bR rfl
      ·have e2:x 2=.int .i64 ((q:Int)+1):=hp.post 2 (hd 2 mz0);simp only [e2] at HK ⊢;go_simp;exact HK.out _ _ bR rfl
      ·have bw:=zaa hp.bel;have qa:=(HW13.out W bw).2.1;obtain ⟨k0,k1,k2,k3⟩:=AtC.four qa;clear bw qa;go_simp;exact HK.out _ _ bR rfl
      ·clear hK hK' hp hd;go_simp;exact HK.out _ _ bR rfl
      ·have e4:x 4=.agg #[.slice a1 xs.length c1,.slice a2 ys.length c2,.slice a3 is.length c3,.slice a4 bs.length c4]:=hp.post 4 (hd 4 mz0);have e5:x 5=.int .i64 ((q:Int)+1):=hp.post 5 (hd 5 mz1);have dr:=zaa hp.bel;simp only [e4,e5] at HK ⊢;clear e4 e5;go_simp;refine (CL.out W dr).mono ?_;rintro e w6 ⟨rfl,B6⟩;go_simp;exact HK.out _ _ B6 rfl
      ·have e1:x 1=.slice (some ⟨g3,0,none⟩) is.length q3:=hp.post 1 (hd 1 mz0);have e3:x 3=.int .i64 (q:Int):=hp.post 3 (hd 3 mz1);have bw:=zaa hp.bel;have l0:=(HW13.out W bw).2.2.2.2.1;clear bw;simp only [e1,e3] at HK ⊢;go_simp;exact HK.out _ _ bR rfl
      ·have e7:x 7=.pointer (some ⟨g3,q * 3,none⟩):=hp.post 7 (hd 7 mz0);simp only [e7] at HK ⊢;go_simp;exact HK.out _ _ bR rfl
     ·intro x iw W hp;have e6:x 6=.int .i64 (nl:Int):=hp.post 6 (by decide);have e8:x 8=.pointer (some ⟨g3,q * 3+1,none⟩):=hp.post 8 (by decide);obtain ⟨-,-,⟨v1,k1⟩,f1,l0,S9⟩:=HW13.out W (zaa hp.bel);have HE:=hide S9;have HREL:Hid (∃ q':Nat,q'<=8/\(Value.int .i64 ((q:Int)+1+1))=.int .i64 ((q':Int)+1)/\Hid (RS w (W.setCell ⟨g3,q * 3+1,none⟩ (.int .i64 nl)) b gr #[.slice a1 xs.length c1,.slice a2 ys.length c2,.slice a3 is.length c3,.slice a4 bs.length c4] (.slice (some ⟨g1,0,none⟩) xs.length q1) (.slice (some ⟨g2,0,none⟩) ys.length q2) (.slice (some ⟨g3,0,none⟩) is.length q3) (.slice p4 bs.length q4) xs (bQ (fI is bs) ys q') (restQ is bs q') bs (.slice (some ⟨gr,0,none⟩) RL.length rc) RL)):=⟨q+1,by omega,by simp,HE.out⟩
      simp only [e6,e8];clear hp e6 e8 S9;go_wp2_with fail
      try rw [List.filterMap_nil]
      try go_wp2_with fail
      go_roundw
      case rel=>first | exact ⟨q+1,by omega,by go_num,HE.out⟩ | ((repeat apply Exists.intro);exact ⟨HREL.out,rfl⟩)
      case measure=>simp [intOf];omega
theorem zn8 (io:Int)(q:Nat)(a1 a2 a3 a4:Option Addr)(c1 c2 c3 c4:Nat)(xs ys:List Bool)(is:List Ino)(bs:List Blk)(w:World)(h:DR w (.slice a1 xs.length c1) (.slice a2 ys.length c2) (.slice a3 is.length c3) (.slice a4 bs.length c4) xs ys is bs)(hX:RX xs ys is bs)(hq:q < 16) :
  Calls Tryz.prog 128 #[.agg #[.slice a1 xs.length c1,.slice a2 ys.length c2,.slice a3 is.length c3,.slice a4 bs.length c4],.agg #[.int .i64 io,.int .i64 ((q:Int)+1)]] w fun e w'=>e=.returned (.bool ((blkAt bs ((q:Int)+1)).1 != (zab is io == 2)))/\Below w.heap.size w w':=by
 have hj:q < bs.length:=by rw [hX.r.hb];exact hq
 obtain ⟨g4,o4,rfl,hg4,y0⟩:=DR.blk h q hj;have q0:(0:Int)<=(q:Int):=by omega
 have q1:(q:Int) < (bs.length:Int):=by omega
 have hwq:IntKind.i64.wrap (q:Int)=(q:Int):=wrap_small _ (by omega) (by omega);obtain ⟨W0,hW0⟩:∃ W,((w.alloc (.cells #[.slice a1 xs.length c1,.slice a2 ys.length c2,.slice a3 is.length c3,.slice (some ⟨g4,o4,none⟩) bs.length c4] 35)).alloc (.cells #[.int .i64 io,.int .i64 ((q:Int)+1)] 127))=W:=⟨_,rfl⟩
 have HA:Hid (AtC W0 w.heap.size 35 #[.slice a1 xs.length c1,.slice a2 ys.length c2,.slice a3 is.length c3,.slice (some ⟨g4,o4,none⟩) bs.length c4]/\AtC W0 (w.heap.size+1) 127 #[.int .i64 io,.int .i64 ((q:Int)+1)]/\Below w.heap.size w W0):=by
  rw [← hW0];have a:=AtC.new (w.alloc (.cells #[.slice a1 xs.length c1,.slice a2 ys.length c2,.slice a3 is.length c3,.slice (some ⟨g4,o4,none⟩) bs.length c4] 35)) 127 #[.int .i64 io,.int .i64 ((q:Int)+1)];rw [World.size_alloc] at a;exact ⟨(AtC.new w 35 _).alloc _,a,((Below.refl _ w).alloc nR _).alloc (by simp) _⟩
 have CK:=hide (fun (W:World) (hb:Below w.heap.size w W)=>zbm io (.slice a1 xs.length c1) (.slice a2 ys.length c2) (.slice a3 is.length c3) (.slice (some ⟨g4,o4,none⟩) bs.length c4) xs ys is bs W (h.below hb nR) hX.r);obtain ⟨fl,hfl⟩:∃ b,(blkAt bs ((q:Int)+1)).1=b:=⟨_,rfl⟩
 rw [hfl] at y0 ⊢;obtain ⟨kd,hkd⟩:∃ k,zab is io=k:=⟨_,rfl⟩
 rw [hkd] at CK ⊢;have HW:Hid (∀ W,Below W0.drew.heap.size W0.drew W->AtC W w.heap.size 35 #[.slice a1 xs.length c1,.slice a2 ys.length c2,.slice a3 is.length c3,.slice (some ⟨g4,o4,none⟩) bs.length c4]/\AtC W (w.heap.size+1) 127 #[.int .i64 io,.int .i64 ((q:Int)+1)]/\W.cell? ⟨g4,o4+q * 3,none⟩=some (.bool fl)/\Below w.heap.size w W):=fun W b=>by
  have b2:=HA.out.2.2.drew.trans (b.mono HA.out.2.2.drew.size);exact ⟨HA.out.1.drew.over b,HA.out.2.1.drew.over b,(b2.cell (p:=⟨g4,o4+q * 3,none⟩) hg4).trans y0,b2⟩
 clear h hX hfl hkd y0 hq;go_enter Tryz.func128,Tryz.ntmps128
 go_upto_region 1 with fail
 clear hW0;refine zbb (by kernel_rfl) [0,1,2,3,4,5,6,7,8,9,10,11,12] [13,14] (fun i=>match i with|0=>.const [] (.pointer (some ⟨w.heap.size,3,none⟩))|1=>.const [0] (.slice (some ⟨g4,o4,none⟩) bs.length c4)|2=>.const [] (.pointer (some ⟨w.heap.size+1,1,none⟩))|3=>.const [2] (.int .i64 ((q:Int)+1))|4=>.const [3] (.int .i64 (q:Int))|5=>.const [1,4] (.pointer (some ⟨g4,o4+q * 3,none⟩))|6=>.const [5] (.pointer (some ⟨g4,o4+q * 3,none⟩))|7=>.const [6] (.bool fl)|8=>.const [] (.agg #[.slice a1 xs.length c1,.slice a2 ys.length c2,.slice a3 is.length c3,.slice (some ⟨g4,o4,none⟩) bs.length c4])|9=>.const [] (.pointer (some ⟨w.heap.size+1,0,none⟩))|10=>.const [9] (.int .i64 io)|11=>.const [8,10] (.int .i64 kd)|12=>.const [11] (.bool (kd == 2))|_=>.triv) (fun x=>⟨#[.agg #[.slice a1 xs.length c1,.slice a2 ys.length c2,.slice a3 is.length c3,.slice (some ⟨g4,o4,none⟩) bs.length c4],.agg #[.int .i64 io,.int .i64 (↑q+1)],.pointer (some ⟨w.heap.size,0,none⟩),.pointer (some ⟨w.heap.size+1,0,none⟩),.bool false,x 0,x 1,x 2,x 3,x 4,x 5,x 6,x 7,x 8,x 9,x 10,x 11,x 12,undef],[]⟩) (fun i=>match i with|0=>undef|1=>undef|2=>undef|3=>undef|4=>undef|5=>undef|6=>undef|7=>undef|8=>undef|9=>undef|10=>undef|11=>undef|12=>undef|_=>undef) rfl (by kernel_rfl) (by kernel_rfl) (by kernel_rfl) rfl ?_ ?_
 ·intro jo hj so x iw W hd hp K hK;simp only [List.mem_cons,List.not_mem_nil,or_false] at hj;rcases hj with rfl|rfl|rfl|rfl|rfl|rfl|rfl|rfl|rfl|rfl|rfl|rfl|rfl<;>refine wpOp_step (o:=_) rfl fun K' hK'=>?_<;>have HK:=hide (fun (v:Value) (W':World) h1 h2=>hK' _ _ (hK v W' h1 h2))<;>simp only [upd,Nat.reduceEqDiff,if_true,if_false] at HK
  ·clear hK hK' hp hd;go_simp;exact HK.out _ _ bR rfl
  ·have e0:x 0=.pointer (some ⟨w.heap.size,3,none⟩):=hp.post 0 (hd 0 mz0);have bw:=HW.out W hp.bel;have k0:W.cell? ⟨w.heap.size,3,none⟩=some (.slice (some ⟨g4,o4,none⟩) bs.length c4):=bw.1.cell 3;clear bw;simp only [e0] at HK ⊢;go_simp;exact HK.out _ _ bR rfl
  ·clear hK hK' hp hd;go_simp;exact HK.out _ _ bR rfl
  ·have e2:x 2=.pointer (some ⟨w.heap.size+1,1,none⟩):=hp.post 2 (hd 2 mz0);have bw:=HW.out W hp.bel;have k0:W.cell? ⟨w.heap.size+1,1,none⟩=some (.int .i64 ((q:Int)+1)):=bw.2.1.cell 1;clear bw;simp only [e2] at HK ⊢;go_simp;exact HK.out _ _ bR rfl
  ·have e3:x 3=.int .i64 ((q:Int)+1):=hp.post 3 (hd 3 mz0);simp only [e3] at HK ⊢;go_simp;exact HK.out _ _ bR rfl
  ·have e1:x 1=.slice (some ⟨g4,o4,none⟩) bs.length c4:=hp.post 1 (hd 1 mz0);have e4:x 4=.int .i64 (q:Int):=hp.post 4 (hd 4 mz1);simp only [e1,e4] at HK ⊢;go_simp;exact HK.out _ _ bR rfl
  ·have e5:x 5=.pointer (some ⟨g4,o4+q * 3,none⟩):=hp.post 5 (hd 5 mz0);simp only [e5] at HK ⊢;go_simp;exact HK.out _ _ bR rfl
  ·have e6:x 6=.pointer (some ⟨g4,o4+q * 3,none⟩):=hp.post 6 (hd 6 mz0);have bw:=HW.out W hp.bel;have k0:=bw.2.2.1;clear bw;simp only [e6] at HK ⊢;go_simp;exact HK.out _ _ bR rfl
  ·have bw:=HW.out W hp.bel;obtain ⟨k0,k1,k2,k3⟩:=AtC.four bw.1;clear bw;go_simp;exact HK.out _ _ bR rfl
  ·clear hK hK' hp hd;go_simp;exact HK.out _ _ bR rfl
  ·have e9:x 9=.pointer (some ⟨w.heap.size+1,0,none⟩):=hp.post 9 (hd 9 mz0);have bw:=HW.out W hp.bel;have k0:W.cell? ⟨w.heap.size+1,0,none⟩=some (.int .i64 io):=bw.2.1.cell 0;clear bw;simp only [e9] at HK ⊢;go_simp;exact HK.out _ _ bR rfl
  ·have e8:x 8=.agg #[.slice a1 xs.length c1,.slice a2 ys.length c2,.slice a3 is.length c3,.slice (some ⟨g4,o4,none⟩) bs.length c4]:=hp.post 8 (hd 8 mz0);have e10:x 10=.int .i64 io:=hp.post 10 (hd 10 mz1);have dr:=(HW.out W hp.bel).2.2.2;simp only [e8,e10] at HK ⊢;clear e8 e10;go_simp;refine (CK.out W dr).mono ?_;rintro e w6 ⟨rfl,B6⟩;go_simp;exact HK.out _ _ B6 rfl
  ·have e11:x 11=.int .i64 kd:=hp.post 11 (hd 11 mz0);simp only [e11] at HK ⊢;go_simp;exact HK.out _ _ bR rfl
 ·intro x iw W hp;have e7:x 7=.bool fl:=hp.post 7 (by decide);have e12:x 12=.bool (kd == 2):=hp.post 12 (by decide);have HB:=hide (HW.out W hp.bel).2.2.2;simp only [e7,e12];clear hp e7 e12;go_wp2_with fail
  try rw [List.filterMap_nil]
  try go_wp2
  go_ret;exact ⟨rfl,HB.out⟩
theorem zn9 (b B:Nat)(a1 a2 a3 a4:Option Addr)(c1 c2 c3 c4:Nat)(xs ys:List Bool)(is:List Ino)(bs:List Blk)(w:World)(hA:AtC w b 121 #[.slice a1 xs.length c1,.slice a2 ys.length c2,.slice a3 is.length c3,.slice a4 bs.length c4])(h:DO w (fun k=>B<=k/\k≠b) (.slice a1 xs.length c1) (.slice a2 ys.length c2) (.slice a3 is.length c3) (.slice a4 bs.length c4) xs ys is bs)(hO:zag xs ys is bs=true)(hB:B<=w.heap.size) :
  Calls Tryz.prog 93 #[.pointer (some ⟨b,0,none⟩)] w fun e w'=>e=.returned (.tuple #[])/\DO w' (fun k=>B<=k/\k≠b) (.slice a1 xs.length c1) (.slice a2 ys.length c2) (.slice a3 is.length c3) (.slice a4 bs.length c4) xs ys (mendP is bs) bs/\Chg (fun k=>B<=k/\k≠b) w w':=by
 have hX:=RX.of_ok hO;have HO:=hide hO;have HI8:=hide hX.r.hi;have CH:=hide (fun W=>zdv 1 (.slice a1 xs.length c1) (.slice a2 ys.length c2) (.slice a4 bs.length c4) a3 c3 W);rw [← hX.r.hi,show inB 1 1 8=true from rfl] at CH;have CK:=hide (fun (W:World) (hb:Below w.heap.size w W)=>zbm 1 (.slice a1 xs.length c1) (.slice a2 ys.length c2) (.slice a3 is.length c3) (.slice a4 bs.length c4) xs ys is bs W (h.dr.below hb nR) hX.r);have CB:=hide (fun (p:Int) (W:World)=>zhg p (.slice a1 xs.length c1) (.slice a2 ys.length c2) (.slice a3 is.length c3) a4 c4 W);rw [← hX.r.hb] at CB;obtain ⟨kd,hkd⟩:∃ k,zab is 1=k:=⟨_,rfl⟩
 rw [hkd] at CK;have HKD:=hide hkd;have HD:=hide h;have HA:=hide hA;have HBW:=hide hB;obtain ⟨g3,e3,f3',f4⟩:∃ g3,a3=some ⟨g3,0,none⟩/\(∀ k,w.frozen? ⟨g3,k,none⟩=false)/\g3 < w.heap.size:=by
  obtain ⟨ti,tb,hL⟩:=h.dl;obtain ⟨g,c,e,h1,h2,h3,-⟩:=hL.ino 0 (by rw [hX.r.hi];decide);simp only [Value.slice.injEq] at e;exact ⟨g,e.1,h3,h1⟩
 subst e3;obtain ⟨x0,x1,x2,x3⟩:=AtC.four hA;have HG3:=hide (And.intro f3' f4);clear hX h hA hO hB hkd f3' f4;go_enter Tryz.func93,Tryz.ntmps93
 go_wp2_with fail
 refine (CH.out w).mono ?_;rintro e w1 ⟨rfl,hw1⟩;have HB1:Hid (Below w.heap.size w w1):=by rw [hw1];exact (Below.refl _ w).alloc nR _
 obtain ⟨y0,y1,y2,y3⟩:=AtC.four (HA.out.over HB1.out);clear hw1 x0 x1 x2 x3;go_wp2_with fail
 refine (CK.out w1 HB1.out).mono ?_;rintro e w2 ⟨rfl,B2⟩;have HB2:=hide (HB1.out.trans (B2.mono HB1.out.size));clear B2 y0 y1 y2 y3 HB1;go_upto_if 20 with fail
 go_cut [0] from 8 to 27 (fun pv wx=>pv=.pointer (some ⟨b,0,none⟩)/\DO wx (fun k=>B<=k/\k≠b) (.slice a1 xs.length c1) (.slice a2 ys.length c2) (.slice (some ⟨g3,0,none⟩) is.length c3) (.slice a4 bs.length c4) xs ys (rootD is) bs/\Chg (fun k=>B<=k/\k≠b) w wx)
 case first =>
  by_cases hk:kd=2
  ·have n1:(kd != 2)=false:=by simp [hk]
   have e0:Hid (rootD is=is):=by unfold rootD;exact if_pos (by rw [HKD.out];exact hk)
   clear hk;go_wp2_with fail
   go_meet
   exact ⟨rfl,by rw [e0.out];exact HD.out.below HB2.out nR,Chg.of_below HB2.out⟩
  ·have n1:(kd != 2)=true:=by simp [hk]
   have e0:Hid (rootD is=is.set 0 (2,1,[0,0])):=by unfold rootD;exact if_neg (by rw [HKD.out];exact hk)
   clear hk;have HW:Hid (∀ W,Below w2.heap.size w2 W->Below w.heap.size w W/\W.cell? ⟨b,2,none⟩=some (.slice (some ⟨g3,0,none⟩) is.length c3)/\(∃ v0,W.cell? ⟨g3,0,none⟩=some v0)/\(∃ v0,W.cell? ⟨g3,1,none⟩=some v0)/\(∃ v0,W.cell? ⟨g3,2,none⟩=some v0)/\W.frozen? ⟨g3,0,none⟩=false/\W.frozen? ⟨g3,1,none⟩=false/\W.frozen? ⟨g3,2,none⟩=false/\g3 < W.heap.size/\b < W.heap.size):=fun W hb=>by
    have bb:=HB2.out.trans (hb.mono HB2.out.size);obtain ⟨⟨q1,q2,q3,q4,q5,q6,-⟩,q7,q8,-⟩:=(HD.out.below bb nR).atI rfl 0 (show 0 < is.length by rw [HI8.out];decide);exact ⟨bb,(HA.out.over bb).cell 2,⟨_,q4⟩,⟨_,q5⟩,⟨_,q6⟩,q7 0,q7 1,q7 2,q8,(HA.out.over bb).lt⟩
   obtain ⟨b0,n0,⟨p0,k0⟩,⟨p1,k1⟩,⟨p2,k2⟩,f0,f1,f2,g0,g1⟩:=HW.out w2 bR;clear b0;have hl0:(0:Int) < (is.length:Int):=by have:=HI8.out;omega
   have HPUT:Hid (∀ (W:World) (nv:Value),ROwns W w2.heap.size 3 nv (ic [0,0])->Below w2.heap.size w2 W->DO (((W.setCell ⟨g3,0,none⟩ (.int .i64 2)).setCell ⟨g3,1,none⟩ (.int .i64 (zau 2))).setCell ⟨g3,2,none⟩ nv) (fun k=>B<=k/\k≠b) (.slice a1 xs.length c1) (.slice a2 ys.length c2) (.slice (some ⟨g3,0,none⟩) is.length c3) (.slice a4 bs.length c4) xs ys (rootD is) bs/\Chg (fun k=>B<=k/\k≠b) w (((W.setCell ⟨g3,0,none⟩ (.int .i64 2)).setCell ⟨g3,1,none⟩ (.int .i64 (zau 2))).setCell ⟨g3,2,none⟩ nv)):=fun W nv ho hb=>by
    have bb:=HB2.out.trans (hb.mono HB2.out.size);have hs:=HB2.out.size;have hbl:=HA.out.lt;have hBw:=HBW.out;have hgs:=(HD.out.atI rfl 0 (show 0 < is.length by rw [HI8.out];decide)).2.2.2.2;rw [e0.out];refine ⟨(HD.out.putI rfl 0 (show 0 < is.length by rw [HI8.out];decide) (.int .i64 2,.int .i64 (zau 2),nv) (2,1,[0,0]) bb ⟨rfl,rfl,ho.base_le (Nat.zero_le _)⟩ (fun k hk=>by have:=(ho.lt k hk).1;omega)).mono fun k hk=>hk.elim id (fun e=>⟨by omega,by omega⟩),(((Chg.of_below bb).setCell hgs _).setCell hgs _).setCell hgs _⟩
   go_upto_region 1 with fail
   go_region_with (go_at_call 126;refine (zel 2 _).mono ?_;rintro e w5 ⟨nv,rfl,O5,B5⟩;obtain ⟨na,nc,rfl⟩:=O5.form2;have HO5:=hide (And.intro O5 B5);obtain ⟨b0',n0',⟨p0',k0'⟩,⟨p1',k1'⟩,⟨p2',k2'⟩,f0',f1',f2',g0',g1'⟩:=HW.out w5 (zaa B5);clear b0' O5 B5)
   all_goals (go_wp2_with fail;go_meet;exact ⟨rfl,HPUT.out w5 _ HO5.out.1 (zaa HO5.out.2)⟩)
 case rest =>
  obtain ⟨rfl,D3,C3⟩:=hcut;have HR:=hide (zk2 HO.out);obtain ⟨ti,tb,L3⟩:=D3.dl
  replace L3:=L3.bound
  have hbwc:b < wc.heap.size:=Nat.lt_of_lt_of_le HA.out.lt C3.size;have A3:AtC wc b 121 #[.slice a1 xs.length c1,.slice a2 ys.length c2,.slice (some ⟨g3,0,none⟩) is.length c3,.slice a4 bs.length c4]:=(C3.block b HA.out.lt (fun e=>e.2 rfl)).trans HA.out;obtain ⟨n0,hn0⟩:∃ n,wc.heap.size=n:=⟨_,rfl⟩
  have hBn:B<=n0:=by have:=HBW.out;have:=C3.size;omega
  obtain ⟨W4,hW4⟩:∃ W,wc.alloc (.cells #[.bool false,.bool false,.bool false,.bool false,.bool false,.bool false,.bool false,.bool false,.bool false,.bool false,.bool false,.bool false,.bool false,.bool false,.bool false,.bool false] 138)=W:=⟨_,rfl⟩
  have H4:Hid (Below wc.heap.size wc W4/\AtC W4 n0 138 (hA (List.replicate 16 false))/\W4.heap.size=n0+1):=by
   rw [← hW4];exact ⟨(Below.refl _ wc).alloc nR _,by rw [← hn0];exact AtC.new wc 138 _,by rw [World.size_alloc,hn0]⟩
  obtain ⟨z0,z1,z2,z3⟩:=AtC.four (A3.over H4.out.1);have HLC:Hid (DL wc (fun k=>(B<=k/\k≠b)/\k < n0) (.slice a1 xs.length c1) (.slice a2 ys.length c2) (.slice (some ⟨g3,0,none⟩) is.length c3) (.slice a4 bs.length c4) ti tb xs ys (rootD is) bs/\AtC wc b 121 #[.slice a1 xs.length c1,.slice a2 ys.length c2,.slice (some ⟨g3,0,none⟩) is.length c3,.slice a4 bs.length c4]/\Chg (fun k=>B<=k/\k≠b) w wc/\b < n0):=⟨by rw [← hn0];exact L3,A3,C3,by omega⟩
  clear L3 A3 C3 D3 hbwc HD HB2 CK CH HKD;go_wp2_with fail
  refine (zhj (.slice a1 xs.length c1) (.slice a2 ys.length c2) (.slice (some ⟨g3,0,none⟩) is.length c3) (.slice a4 bs.length c4) xs ys (rootD is) bs W4 (HLC.out.1.over H4.out.1).dr (RX.of_ok HR.out).r).mono ?_;rintro e w5 ⟨lv,rfl,O5,B5⟩;obtain ⟨L,hL⟩:∃ L,kndL (rootD is)=L:=⟨_,rfl⟩
  have HLM:Hid (∀ i∈L,1<=i/\i<=8):=by rw [← hL];exact fun i hi=>(zcs.1 hi).1
  have HFIN:Hid ((mpF bs (rootD is,[]) L).1=mendP is bs):=by rw [← hL];rfl
  have HL8:Hid (L.length<=8):=by rw [← hL];exact zct _
  rw [hL] at O5;obtain ⟨la,lc,rfl⟩:=O5.rints.form;have HP0:Hid (PS w w5 B b n0 #[.slice a1 xs.length c1,.slice a2 ys.length c2,.slice (some ⟨g3,0,none⟩) is.length c3,.slice a4 bs.length c4] (.slice a1 xs.length c1) (.slice a2 ys.length c2) (.slice (some ⟨g3,0,none⟩) is.length c3) (.slice a4 bs.length c4) ti tb xs ys bs (.slice la L.length lc) L (mpF bs (rootD is,[]) (L.take 0))):=by
   have h5:=H4.out.1.trans (B5.mono H4.out.1.size);exact ⟨HLC.out.1.over h5,HLC.out.2.1.over h5,⟨_,H4.out.2.1.over B5,HadS.begin⟩,O5.base_le (by rw [H4.out.2.2];exact Nat.le_refl _),HLC.out.2.2.1.trans (Chg.of_below h5),HLC.out.2.2.2,hBn⟩
  clear O5 B5 z0 z1 z2 z3 hL hW4 hn0;have hl8:=HL8.out;go_wp2_with fail
  go_loopw [34] (fun kv wr=>∃ q:Nat,q<=L.length/\kv=.int .i64 q/\Hid (PS w wr B b n0 #[.slice a1 xs.length c1,.slice a2 ys.length c2,.slice (some ⟨g3,0,none⟩) is.length c3,.slice a4 bs.length c4] (.slice a1 xs.length c1) (.slice a2 ys.length c2) (.slice (some ⟨g3,0,none⟩) is.length c3) (.slice a4 bs.length c4) ti tb xs ys bs (.slice la L.length lc) L (mpF bs (rootD is,[]) (L.take q)))) (fun kv _=>L.length - (intOf kv).toNat)
  case atStart=>exact ⟨0,Nat.zero_le _,rfl,HP0.out⟩
  case round =>
   obtain ⟨q,hq,rfl,HP⟩:=hrel;clear HP0 HLC H4;have q0:(0:Int)<=(q:Int):=by omega
   by_cases hlt:q < L.length
   rotate_left
   ·have q1:¬ ((q:Int) < (L.length:Int)):=by omega
    go_wp2
    go_end0
    have h1:=HP.out;rw [List.take_of_length_le (by omega)] at h1;refine ⟨rfl,?_,h1.c⟩;rw [← HFIN.out];exact h1.d.do_.mono fun k hk=>hk.1
   have q1:(q:Int) < (L.length:Int):=by omega
   obtain ⟨gl,cl,el,kl,-,-,hgl,-⟩:=HP.out.l.at q (by rw [zaf];exact hlt);simp only [Value.slice.injEq] at el;obtain ⟨rfl,-,-⟩:=el;have hrq:=HLM.out _ (List.getElem_mem hlt);have kl':wr.cell? ⟨gl,q,none⟩=some (.int .i64 L[q]):=by rw [kl];simp [ic,hlt]
   clear kl;have HTK:Hid (∀ di,L[q]=di->mpF bs (rootD is,[]) (L.take (q+1))=mpK bs (mpF bs (rootD is,[]) (L.take q)) (di - 1).toNat 2):=fun di e=>by
    rw [List.take_succ_eq_append_getElem hlt,zgm,znt,e]
   obtain ⟨di,hdi⟩:∃ x,L[q]=x:=⟨_,rfl⟩
   rw [hdi] at kl' hrq;have HT2:=hide (HTK.out di hdi);obtain ⟨j,rfl⟩:∃ j:Nat,di=(j:Int)+1:=⟨(di - 1).toNat,by omega⟩
   rw [show ((j:Int)+1 - 1).toNat=j by omega] at HT2;have HPI:=hide ((PI.begin HO.out).steps (L.take q));obtain ⟨st,hst⟩:∃ x,mpF bs (rootD is,[]) (L.take q)=x:=⟨_,rfl⟩
   rw [hst] at HP HPI HT2;have HJ8:Hid (j < 8):=by show j < 8;omega
   have hj:j < is.length:=by have:=HI8.out;omega
   have j0:(0:Int)<=(j:Int):=by omega
   have j1:(j:Int) < (is.length:Int):=by omega
   have hwj:IntKind.i64.wrap (j:Int)=(j:Int):=wrap_small _ (by omega) (by omega);have hjs:j < st.1.length:=by have:=(zaj HPI.out.ok).2.2.1;omega
   obtain ⟨g',c',ei,-,-,-,y0,y1,y2,ro,hSo⟩:=HP.out.d.ino j hjs;simp only [Value.slice.injEq,Option.some.injEq,Addr.mk.injEq] at ei;obtain ⟨⟨rfl,-⟩,-,-⟩:=ei;have h2:st.1[j].2.2.length=2:=(RX.of_ok HPI.out.ok).r.two _ (List.getElem_mem hjs);obtain ⟨gp,cp,ep,-,-,-,hgp,-⟩:=ro.at 0 (by rw [zaf,h2];decide);rw [zaf,h2] at ep;rw [ep] at y2;have HEP:=hide ep;have x2:wr.cell? ⟨b,2,none⟩=some (.slice (some ⟨g3,0,none⟩) is.length c3):=HP.out.a.cell 2;have HQ0:Hid (PS w wr B b n0 #[.slice a1 xs.length c1,.slice a2 ys.length c2,.slice (some ⟨g3,0,none⟩) is.length c3,.slice a4 bs.length c4] (.slice a1 xs.length c1) (.slice a2 ys.length c2) (.slice (some ⟨g3,0,none⟩) is.length c3) (.slice a4 bs.length c4) ti tb xs ys bs (.slice (some ⟨gl,0,none⟩) L.length lc) L (mpK bs st j 0)):=HP.out;clear hst hdi HTK y0 y1 ro h2 ep HP hSo;go_wp2_with fail
   go_loopw [50] (fun kv wr=>∃ t:Nat,t<=2/\kv=.int .i64 t/\Hid (PS w wr B b n0 #[.slice a1 xs.length c1,.slice a2 ys.length c2,.slice (some ⟨g3,0,none⟩) is.length c3,.slice a4 bs.length c4] (.slice a1 xs.length c1) (.slice a2 ys.length c2) (.slice (some ⟨g3,0,none⟩) is.length c3) (.slice a4 bs.length c4) ti tb xs ys bs (.slice (some ⟨gl,0,none⟩) L.length lc) L (mpK bs st j t))) (fun kv _=>2 - (intOf kv).toNat)
   case atStart=>exact ⟨0,Nat.zero_le _,rfl,HQ0.out⟩
   case round =>
    obtain ⟨t,ht,rfl,HT⟩:=hrel;clear HQ0 x2 y2 kl';have t0:(0:Int)<=(t:Int):=by omega
    by_cases htl:t < 2
    rotate_left
    ·have t1:¬ ((t:Int) < (2:Int)):=by omega
     have HE:Hid (mpF bs (rootD is,[]) (L.take (q+1))=mpK bs st j t):=by show _=_;rw [HT2.out,show t=2 by omega]
     go_wp2;go_roundw
     case rel=>exact ⟨q+1,by omega,by go_num,by rw [HE.out];exact HT.out⟩
     case measure=>simp [intOf];omega
    have t1:(t:Int) < (2:Int):=by omega
    have HPI2:=hide (HPI.out.stepK j t);have HSN:Hid (mpK bs st j (t+1)=stepP bs (mpK bs st j t) j t):=rfl;obtain ⟨st2,hst2⟩:∃ x,mpK bs st j t=x:=⟨_,rfl⟩
    rw [hst2] at HT HPI2 HSN;have hj2:j < st2.1.length:=by have:=(zaj HPI2.out.ok).2.2.1;have:=HJ8.out;omega
    have h22:st2.1[j].2.2.length=2:=(RX.of_ok HPI2.out.ok).r.two _ (List.getElem_mem hj2);have ht2:t < st2.1[j].2.2.length:=by omega
    have HSE:=hide (zk9 bs st2 j t hj2 ht2);obtain ⟨-,-,-,-,-,-,-,-,-,ro,hSo⟩:=HT.out.d.ino j hj2;have hep:=HEP.out;rw [hep] at ro;obtain ⟨gp',cp',ep',kp,fp,-,hgp',-⟩:=ro.at t (by rw [zaf];exact ht2);simp only [Value.slice.injEq,Option.some.injEq,Addr.mk.injEq] at ep';obtain ⟨⟨rfl,-⟩,-,-⟩:=ep';have kp2:wr.cell? ⟨gp,t,none⟩=some (.int .i64 st2.1[j].2.2[t]):=by rw [kp];simp [ic,ht2]
    have HPTR:=hide (fun W (hb:Below wr.heap.size wr W)=>(HT.out.below hb).ptr j hj2 (show (ti.getD j zI3).2.2=.slice (some ⟨gp,0,none⟩) st2.1[j].2.2.length cp by rw [h22];exact hep) t);have HCP:=hide (fun W (hb:Below wr.heap.size wr W)=>(HT.out.below hb).cellP j hj2 (show (ti.getD j zI3).2.2=.slice (some ⟨gp,0,none⟩) st2.1[j].2.2.length cp by rw [h22];exact hep) t ht2);have HKI:Hid (zab st2.1 ((j:Int)+1)=st2.1[j].1):=(zai hj2).1;obtain ⟨pn,hpn⟩:∃ x,st2.1[j].2.2[t]=x:=⟨_,rfl⟩
    rw [hpn] at kp2 HSE;have hgS:n0≠gp:=fun e=>by have:=(hSo gp (by rw [hep];rfl)).2;omega
    obtain ⟨z0,z1,z2,z3⟩:=AtC.four HT.out.a;clear kp ro hpn h22 hSo;go_wp2_with fail
    refine (CB.out pn wr).mono ?_;rintro e w6 ⟨rfl,hw6⟩;have HB6:Hid (Below wr.heap.size wr w6):=by rw [hw6];exact (Below.refl _ wr).alloc nR _
    clear hw6 z0 z1 z2 z3 kp2
    cases hin:inB pn 1 16 with
    | false =>
     have HE:Hid (mpK bs st j (t+1)=st2):=by show _=_;rw [HSN.out,HSE.out,hin];rfl
     have HT6:=hide (HT.out.below HB6.out);clear hin;go_wp2;go_roundw
     case rel=>exact ⟨t+1,by omega,by go_num,by rw [HE.out];exact HT6.out⟩
     case measure=>simp [intOf];omega
    | true =>
     have hin':=zao hin;obtain ⟨m,rfl⟩:∃ m:Nat,pn=(m:Int)+1:=⟨(pn - 1).toNat,by omega⟩
     have m0:(0:Int)<=(m:Int):=by omega
     have m1:(m:Int) < (16:Int):=by omega
     have hm16:m < 16:=by omega
     have hwm:IntKind.i64.wrap (m:Int)=(m:Int):=wrap_small _ (by omega) (by omega);rw [hin,if_pos rfl] at HSE;have HT6:=hide (HT.out.below HB6.out);obtain ⟨hl,hAl,hHl⟩:=HT6.out.h;have k0:w6.cell? ⟨n0,m,none⟩=some (.bool (st2.2.contains ((m:Int)+1))):=by rw [← hHl.at_ m hm16,hAl.cell m];exact zdz hl m (by rw [hHl.len];exact hm16)
     have f0:w6.frozen? ⟨n0,m,none⟩=false:=hAl.frozen m;have hn6:n0 < w6.heap.size:=hAl.lt;have hlen2:st2.1.length=is.length:=by have h8:=(zaj HPI2.out.ok).2.2.1;have:=HI8.out;omega
     have CW:=zn8 ((j:Int)+1) m a1 a2 (some ⟨g3,0,none⟩) a4 c1 c2 c3 c4 xs ys st2.1 bs w6 (by rw [hlen2];exact HT6.out.d.dr) (RX.of_ok HPI2.out.ok) hm16;rw [hlen2,HKI.out] at CW;have HPT6:=hide (fun W (hb:Below w6.heap.size w6 W)=>HPTR.out W (HB6.out.trans (hb.mono HB6.out.size)));have HCW:Hid (Calls Tryz.prog 128 #[.agg #[.slice a1 xs.length c1,.slice a2 ys.length c2,.slice (some ⟨g3,0,none⟩) is.length c3,.slice a4 bs.length c4],.agg #[.int .i64 ((j:Int)+1),.int .i64 ((m:Int)+1)]] w6 fun e w'=>e=.returned (.bool (zgl bs st2.1[j].1 ((m:Int)+1)))/\Below w6.heap.size w6 w'):=CW;obtain ⟨k6,f6,l6⟩:=HCP.out w6 HB6.out;have HC7:=hide (fun W (hb:Below w6.heap.size w6 W)=>HCP.out W (HB6.out.trans (hb.mono HB6.out.size)));obtain ⟨x0,x1,x2,x3⟩:=AtC.four HT6.out.a;clear hin hin' hlen2 CW hAl hHl HPTR HCP
     cases hc:st2.2.contains ((m:Int)+1) with
     | true =>
      rw [hc] at k0 HSE;rw [Bool.or_true,if_pos rfl] at HSE;have HE:=hide (HPT6.out w6 bR);clear hc;go_wp2;go_roundw
      case rel=>exact ⟨t+1,by omega,by go_num,by rw [HSN.out,HSE.out];exact HE.out⟩
      case measure=>simp [intOf];omega
     | false =>
      rw [hc] at k0 HSE;rw [Bool.or_false] at HSE;clear hc;go_wp2_with fail
      refine HCW.out.mono ?_;rintro e w7 ⟨rfl,B7⟩;have HE:=hide (HPT6.out w7 B7);have HH7:=hide ((HT6.out.below B7).had m hm16);obtain ⟨k7,f7,l7⟩:=HC7.out w7 B7;obtain ⟨hl7,hA7,-⟩:=(HT6.out.below B7).h;have fn7:w7.frozen? ⟨n0,m,none⟩=false:=hA7.frozen m;have kn7:∃ v0,w7.cell? ⟨n0,m,none⟩=some v0:=⟨_,(B7.cell (p:=⟨n0,m,none⟩) hn6).trans k0⟩
      obtain ⟨v7,kn7⟩:=kn7;have ln7:n0 < w7.heap.size:=hA7.lt;obtain ⟨wb,hwb⟩:∃ x,zgl bs st2.1[j].1 ((m:Int)+1)=x:=⟨_,rfl⟩
      rw [hwb] at HSE ⊢;clear B7 k0 f0 k6 f6 x0 x1 x2 x3 hwb hA7 HCW HC7 HPT6 HT6
      cases wb with
      | true =>
       rw [if_pos rfl] at HSE;go_wp2;go_roundw
       case rel=>exact ⟨t+1,by omega,by go_num,by rw [HSN.out,HSE.out];exact HE.out⟩
       case measure=>simp [intOf];omega
      | false =>
       rw [if_neg (by decide)] at HSE;go_wp2;go_roundw
       case rel=>exact ⟨t+1,by omega,by go_num,by rw [HSN.out,HSE.out];exact HH7.out⟩
       case measure=>simp [intOf];omega
namespace Kit
def MkIn (ds:List Nat) (l:List Int):Mk:=.val ds (fun _ _ w v=>∃ a c,v=.slice a l.length c/\RInts w (.slice a l.length c) l) (fun _ _ _ _ _ h hb=>by obtain ⟨a,c,e,h1⟩:=h;exact ⟨a,c,e,h1.below hb nR⟩)
def MkPp (ds:List Nat) (B:Nat) (l:List Pr):Mk:=.val ds (fun _ _ w v=>∃ a c,v=.slice a l.length c/\POwns w B 127 (.slice a l.length c) l) (fun _ _ _ _ _ h hb=>by obtain ⟨a,c,e,h1⟩:=h;exact ⟨a,c,e,h1.below hb nR⟩)
def MkS1 (ds:List Nat) (T:TypeId) (Z:Array Value):Mk:=.val ds (fun lo _ w v=>v=.slice (some ⟨lo,0,none⟩) 1 1/\AtC w lo T Z) (fun _ _ _ _ _ h hb=>⟨h.1,h.2.over hb⟩)
end Kit
theorem zhr {is:List Ino}{bs:List Blk}(h:RD is bs):∀ (l:List Pr) (st:TSt),(runT is bs st l).1.length<=st.1.length+4 * l.length
 | [],st=>by simp [runT]
 | x :: r,st=>by
  have h1:=zhr h r (stepT is bs st x);have h2:(stepT is bs st x).1.length<=st.1.length+4:=by
   unfold stepT
   split
   ·omega
   ·show (st.1 ++ tlQ _ _ _ _).length<=_;rw [List.length_append];have:=zhl x.1 (x.2 - 1).toNat (blkAt bs x.2).2.1 (blkAt bs x.2).2.1.length;have:=h.blk4 x.2;omega
  show (runT is bs (stepT is bs st x) r).1.length<=_;rw [List.length_cons];omega
structure TS (w wr:World) (n1:Nat) (tb:List V3) (pv:Value) (P:List Pr) (lv:Value) (st:TSt):Prop where
 b:Below w.heap.size w wr
 h:∃ hl,AtC wr w.heap.size 138 (hA hl)/\HadS st.2 hl
 p:POwns wr (w.heap.size+1) 127 pv P
 q:QOwns wr n1 144 lv (paL tb st.1)
 pn:∀ k,pv.ownBlock=some k->k < n1
 n:w.heap.size+1<=n1
 nn:n1<=wr.heap.size
namespace TS
variable {w wr wr' : World} {n1 : Nat} {tb : List V3} {pv : Value} {P : List Pr} {lv lv' : Value} {st : TSt}
theorem below (h:TS w wr n1 tb pv P lv st)(hb:Below wr.heap.size wr wr'):TS w wr' n1 tb pv P lv st:=by
 obtain ⟨hl,h1,h2⟩:=h.h;exact ⟨h.b.trans (hb.mono h.b.size),⟨hl,h1.over hb,h2⟩,h.p.below hb nR,h.q.below hb nR,h.pn,h.n,Nat.le_trans h.nn hb.size⟩
theorem had (h:TS w wr n1 tb pv P lv st)(q:Nat)(hq:q < 16):TS w (wr.setCell ⟨w.heap.size,q,none⟩ (.bool true)) n1 tb pv P lv (st.1,st.2 ++ [(q:Int)+1]):=by
 obtain ⟨hl,h1,h2⟩:=h.h;have hn:=h.n;refine ⟨h.b.setCell (p:=⟨w.heap.size,q,none⟩) nR _,⟨hl.set q true,?_,h2.next q hq⟩,h.p.setCell_low (by omega) _,h.q.setCell_low (by omega) _,h.pn,h.n,by simpa using h.nn⟩;rw [← zgj];exact h1.set q _
theorem app (h:TS w wr n1 tb pv P lv st){t:Tt}(ho:QOwns wr' n1 144 lv' (paL tb st.1 ++ [(t.1,adr tb t)]))(hg:wr.grownBy wr' lv.ownBlock):TS w wr' n1 tb pv P lv' (st.1 ++ [t],st.2):=by
 obtain ⟨hl,h1,h2⟩:=h.h;have hn:=h.n;have hr:∀ k,lv.ownBlock=some k->n1<=k:=fun k hk=>(h.q.lt k hk).1;refine ⟨h.b.grown hg h.b.size (fun k hk=>by have:=hr k hk;omega),⟨hl,h1.grown hg (fun e=>by have:=hr _ e;omega),h2⟩,h.p.grown hg (fun k hk e=>by have:=h.pn k hk;have:=hr k e;omega),?_,h.pn,h.n,Nat.le_trans h.nn hg.size⟩;rw [zl6];exact ho
end TS
theorem zl9 (b:Nat)(S:Nat->Prop)(a1 a2 a3 a4:Option Addr)(c1 c2 c3 c4:Nat)(ti tb:List V3)(xs ys:List Bool)(is:List Ino)(bs:List Blk)(w:World)(hBx:AtC w b 121 #[.slice a1 xs.length c1,.slice a2 ys.length c2,.slice a3 is.length c3,.slice (a4) bs.length c4])(h:DL w S (.slice a1 xs.length c1) (.slice a2 ys.length c2) (.slice a3 is.length c3) (.slice (a4) bs.length c4) ti tb xs ys is bs)(hO:zag xs ys is bs=true) :
  Calls Tryz.prog 129 #[.pointer (some ⟨b,0,none⟩)] w fun e w'=>∃ v,e=.returned v/\QOwns w' w.heap.size 144 v (paL tb (zce is bs))/\Below w.heap.size w w':=by
 have hX:=RX.of_ok hO;have HX:=hide hX;have HB16:=hide hX.r.hb;have HD:=hide h;have HA:=hide hBx;obtain ⟨g4,e4⟩:∃ g4,a4=some ⟨g4,0,none⟩:=by
  obtain ⟨g,c,e,-⟩:=h.blk 0 (by rw [hX.r.hb];decide);simp only [Value.slice.injEq] at e;exact ⟨g,e.1⟩
 subst e4;obtain ⟨W1,hW1⟩:∃ W,w.alloc (.cells #[.bool false,.bool false,.bool false,.bool false,.bool false,.bool false,.bool false,.bool false,.bool false,.bool false,.bool false,.bool false,.bool false,.bool false,.bool false,.bool false] 138)=W:=⟨_,rfl⟩
 have H1:Hid (Below w.heap.size w W1/\AtC W1 w.heap.size 138 (hA (List.replicate 16 false))/\W1.heap.size=w.heap.size+1):=by
  rw [← hW1];exact ⟨(Below.refl _ w).alloc nR _,AtC.new w 138 _,by simp⟩
 have HW:Hid (∀ W,Below W1.heap.size W1 W->Below w.heap.size w W/\AtC W b 121 #[.slice a1 xs.length c1,.slice a2 ys.length c2,.slice a3 is.length c3,.slice (some ⟨g4,0,none⟩) bs.length c4]/\AtC W w.heap.size 138 (hA (List.replicate 16 false))/\w.heap.size+1<=W.heap.size/\DR W (.slice a1 xs.length c1) (.slice a2 ys.length c2) (.slice a3 is.length c3) (.slice (some ⟨g4,0,none⟩) bs.length c4) xs ys is bs):=fun W hb=>by
  have bb:=H1.out.1.trans (hb.mono H1.out.1.size);exact ⟨bb,HA.out.over bb,H1.out.2.1.over hb,by have:=hb.size;have:=H1.out.2.2;omega,(HD.out.over bb).dr⟩
 have CK:=hide (fun (W:World) (hb:Below W1.heap.size W1 W)=>zhj (.slice a1 xs.length c1) (.slice a2 ys.length c2) (.slice a3 is.length c3) (.slice (some ⟨g4,0,none⟩) bs.length c4) xs ys is bs W (HW.out W hb).2.2.2.2 hX.r);have CP:=hide (fun (lv:Value) (W:World) (hb:Below W1.heap.size W1 W) (hv:RInts W lv (kndL is))=>zeg lv (kndL is) (.slice a1 xs.length c1) (.slice a2 ys.length c2) (.slice a3 is.length c3) (.slice (some ⟨g4,0,none⟩) bs.length c4) xs ys is bs W (HW.out W hb).2.2.2.2 hX.r hv (zct is) (fun i hi=>(zcs.1 hi).1));have HPM:Hid (∀ x∈ptrL is (kndL is),(1<=x.1/\x.1<=8)/\1<=x.2/\x.2<=16):=fun x hx=>by
  have h1:=zcb hx;exact ⟨(zcs.1 h1.1).1,h1.2⟩
 have HFIN:Hid (zce is bs=(runT is bs ([],[]) (ptrL is (kndL is))).1):=rfl;have HPL:Hid ((ptrL is (kndL is)).length<=16):=by have h1:=zax hX.r (kndL is);have h2:=zct is;show _<=_;omega
 obtain ⟨L,hL⟩:∃ L,kndL is=L:=⟨_,rfl⟩
 rw [hL] at CK CP HPM HFIN HPL;obtain ⟨P,hP⟩:∃ P,ptrL is L=P:=⟨_,rfl⟩
 rw [hP] at CP HPM HFIN HPL;have hpl:=HPL.out;clear hX h hBx hO hL hP;go_enter Tryz.func129,Tryz.ntmps129
 go_upto_region 3 with fail
 clear hW1;go_cut [18,19,20] from 9 to 20 (fun pv lv kv wx=>∃ pa pc,pv=.slice pa P.length pc/\lv=.int .i64 (P.length:Int)/\kv=.int .i64 0/\POwns wx (w.heap.size+1) 127 (.slice pa P.length pc) P/\Below W1.heap.size W1 wx)
 case first =>
  refine zad (by kernel_rfl) [0,1,2,3,4,5,6,7,8,9,10,11] [] [] (fun i=>match i with|0=>.const [] (.pointer (some ⟨b,0,none⟩))|1=>.const [0] (.pointer (some ⟨b,0,none⟩))|2=>.const [1] (.pointer (some ⟨b,0,none⟩))|3=>.const [2] (.agg #[.slice a1 xs.length c1,.slice a2 ys.length c2,.slice a3 is.length c3,.slice (some ⟨g4,0,none⟩) bs.length c4])|4=>.const [] (.pointer (some ⟨b,0,none⟩))|5=>.const [4] (.pointer (some ⟨b,0,none⟩))|6=>.const [5] (.pointer (some ⟨b,0,none⟩))|7=>.const [6] (.agg #[.slice a1 xs.length c1,.slice a2 ys.length c2,.slice a3 is.length c3,.slice (some ⟨g4,0,none⟩) bs.length c4])|8=>MkIn [7] L|9=>MkPp [3,8] (w.heap.size+1) P|10=>.const [9] (.int .i64 (P.length:Int))|11=>.const [] (.int .i64 0)|_=>.triv) (fun x=>⟨List.toArray ((.pointer (some ⟨b,0,none⟩))::(undef)::(.slice none 0 0)::(.slice none 0 0)::(.pointer (some ⟨w.heap.size,0,none⟩))::(undef)::(undef)::(undef)::(undef)::(x 0)::(x 1)::(x 2)::(x 3)::(x 4)::(x 5)::(x 6)::(x 7)::(x 8)::(x 9)::(x 10)::(x 11)::(undef)::(undef)::(undef)::(undef)::(undef)::(undef)::(undef)::(undef)::(undef)::(undef)::(undef)::(undef)::(undef)::(undef)::(undef)::(undef)::(undef)::(undef)::(undef)::(undef)::(undef)::(undef)::(undef)::(undef)::(undef)::(undef)::(undef)::(undef)::(undef)::(undef)::(undef)::(undef)::(undef)::(undef)::(undef)::(undef)::(undef)::(undef)::(undef)::(undef)::(undef)::(undef)::(undef)::(undef)::(undef)::(undef)::(undef)::(undef)::(undef)::(undef)::(undef)::(undef)::(undef)::(undef)::(undef)::(undef)::[]),[]⟩) (fun i=>match i with|0=>undef|1=>undef|2=>undef|3=>undef|4=>undef|5=>undef|6=>undef|7=>undef|8=>undef|9=>undef|10=>undef|11=>undef|_=>undef) rfl (zae (by kernel_rfl) (by kernel_rfl)) (by kernel_rfl) (by kernel_rfl) (by kernel_rfl) rfl ?_ ?_ (by intro q hq;cases hq)
  ·intro jo hj so x iw W hd hp K hK;simp only [List.mem_cons,List.not_mem_nil,or_false] at hj;rcases hj with rfl|rfl|rfl|rfl|rfl|rfl|rfl|rfl|rfl|rfl|rfl|rfl<;>refine wpOp_step (o:=_) rfl fun K' hK'=>?_<;>have HK:=hide (fun (v:Value) (W':World) h1 h2=>hK' _ _ (hK v W' h1 h2))<;>simp only [upd,Nat.reduceEqDiff,if_true,if_false] at HK
   ·clear hK hK' hp hd;go_simp;exact HK.out _ _ bR rfl
   ·have e0:x 0=.pointer (some ⟨b,0,none⟩):=hp.post 0 (hd 0 mz0);have bw:=zaa hp.bel;have l0:=(HW.out W bw).2.1.lt;clear bw;simp only [e0] at HK ⊢;go_simp;exact HK.out _ _ bR rfl
   ·have e1:x 1=.pointer (some ⟨b,0,none⟩):=hp.post 1 (hd 1 mz0);simp only [e1] at HK ⊢;go_simp;exact HK.out _ _ bR rfl
   ·have e2:x 2=.pointer (some ⟨b,0,none⟩):=hp.post 2 (hd 2 mz0);have bw:=zaa hp.bel;have qa:=(HW.out W bw).2.1;obtain ⟨k0,k1,k2,k3⟩:=AtC.four qa;clear bw qa;simp only [e2] at HK ⊢;go_simp;exact HK.out _ _ bR rfl
   ·clear hK hK' hp hd;go_simp;exact HK.out _ _ bR rfl
   ·have e4:x 4=.pointer (some ⟨b,0,none⟩):=hp.post 4 (hd 4 mz0);have bw:=zaa hp.bel;have l0:=(HW.out W bw).2.1.lt;clear bw;simp only [e4] at HK ⊢;go_simp;exact HK.out _ _ bR rfl
   ·have e5:x 5=.pointer (some ⟨b,0,none⟩):=hp.post 5 (hd 5 mz0);simp only [e5] at HK ⊢;go_simp;exact HK.out _ _ bR rfl
   ·have e6:x 6=.pointer (some ⟨b,0,none⟩):=hp.post 6 (hd 6 mz0);have bw:=zaa hp.bel;have qa:=(HW.out W bw).2.1;obtain ⟨k0,k1,k2,k3⟩:=AtC.four qa;clear bw qa;simp only [e6] at HK ⊢;go_simp;exact HK.out _ _ bR rfl
   ·have e7:x 7=.agg #[.slice a1 xs.length c1,.slice a2 ys.length c2,.slice a3 is.length c3,.slice (some ⟨g4,0,none⟩) bs.length c4]:=hp.post 7 (hd 7 mz0);have dr:=zaa hp.bel;simp only [e7] at HK ⊢;clear e7;go_simp;refine (CK.out W dr).mono ?_;rintro e w6 ⟨v,rfl,R1,B6⟩;obtain ⟨ua,uc,rfl,-⟩:=R1.form;rw [zaf] at R1 ⊢;go_simp;exact HK.out _ _ B6 ⟨ua,uc,rfl,R1.rints⟩
   ·have e3:x 3=.agg #[.slice a1 xs.length c1,.slice a2 ys.length c2,.slice a3 is.length c3,.slice (some ⟨g4,0,none⟩) bs.length c4]:=hp.post 3 (hd 3 mz0);have e8:∃ a c,x 8=.slice a L.length c/\RInts W (.slice a L.length c) L:=hp.post 8 (hd 8 mz1);have dr:=zaa hp.bel;obtain ⟨ua,uc,e8,R8⟩:=e8;simp only [e3,e8] at HK ⊢;clear e3 e8;go_simp;refine (CP.out _ W dr R8).mono ?_;rintro e w6 ⟨v,rfl,R1,B6⟩;obtain ⟨va,vc,rfl,-⟩:=R1.form;go_simp;exact HK.out _ _ B6 ⟨va,vc,rfl,R1.base_le (HW.out W dr).2.2.2.1⟩
   ·have e9:∃ a c,x 9=.slice a P.length c/\POwns W (w.heap.size+1) 127 (.slice a P.length c) P:=hp.post 9 (hd 9 mz0);obtain ⟨ua,uc,e9,-⟩:=e9;simp only [e9] at HK ⊢;clear e9;go_simp;exact HK.out _ _ bR rfl
   ·clear hK hK' hp hd;go_simp;exact HK.out _ _ bR rfl
  ·intro x iw W hp;have e10:x 10=.int .i64 (P.length:Int):=hp.post 10 (by decide);have e11:x 11=.int .i64 0:=hp.post 11 (by decide);obtain ⟨pa,pc,e9,R9⟩:=hp.post 9 (by decide);have HB:=hide (zaa hp.bel);have HR9:=hide R9;simp only [e9,e10,e11];clear hp e9 e10 e11 R9;try rw [List.filterMap_nil]
   try go_wp2_with fail
   go_meet
   exact ⟨pa,pc,rfl,rfl,rfl,HR9.out,HB.out⟩
 case rest =>
  obtain ⟨pa,pc,rfl,rfl,rfl,P3,B3⟩:=hcut;obtain ⟨n1,hn1⟩:∃ n,wc.heap.size=n:=⟨_,rfl⟩
  have H3:Hid (TS w wc n1 tb (.slice pa P.length pc) P (.slice none 0 0) (runT is bs ([],[]) (P.take 0))):=by
   obtain ⟨q1,q2,q3,q4,q5⟩:=HW.out wc B3;exact ⟨q1,⟨_,q3,HadS.begin⟩,P3,World.ownsRow_nil _ _ _ _,fun k hk=>by rw [← hn1];exact (P3.lt k hk).2,by omega,by omega⟩
  clear P3 B3 hn1 CK CP HW H1;go_wp2_with fail
  go_loopw [3,20] (fun lv kv wr=>∃ (l':Value) (q:Nat),l'=lv/\q<=P.length/\kv=.int .i64 q/\Hid (TS w wr n1 tb (.slice pa P.length pc) P l' (runT is bs ([],[]) (P.take q)))) (fun _ kv _=>P.length - (intOf kv).toNat)
  case atStart=>exact ⟨_,0,rfl,Nat.zero_le _,rfl,H3.out⟩
  case round =>
   obtain ⟨lv,q,hlv,hq,rfl,HT⟩:=hrel;subst hlv;clear H3;have q0:(0:Int)<=(q:Int):=by omega
   by_cases hlt:q < P.length
   rotate_left
   ·have q1:¬ ((q:Int) < (P.length:Int)):=by omega
    go_wp2;go_ret;have h1:=HT.out;rw [List.take_of_length_le (by omega)] at h1;refine ⟨_,rfl,?_,h1.b⟩;rw [HFIN.out];exact h1.q.base_le (by have:=h1.n;omega)
   have q1:(q:Int) < (P.length:Int):=by omega
   obtain ⟨gl,cl,el,kl0,kl1,-,-,hgl,-⟩:=HT.out.p.at q hlt;simp only [Value.slice.injEq] at el;obtain ⟨rfl,-,-⟩:=el;have hrq:=HPM.out _ (List.getElem_mem hlt);have HTK:Hid (runT is bs ([],[]) (P.take (q+1))=stepT is bs (runT is bs ([],[]) (P.take q)) P[q]):=by
    show _=_;rw [List.take_succ_eq_append_getElem hlt,zj8];rfl
   have HLN:=hide (zhr HX.out.r (P.take q) ([],[]));have HTI:=hide (TI.run (is:=is) HB16.out (P.take q) (fun x hx=>(HPM.out x (List.mem_of_mem_take hx)).2) (TI.begin bs));obtain ⟨st,hst⟩:∃ x,runT is bs ([],[]) (P.take q)=x:=⟨_,rfl⟩
   rw [hst] at HT HTK HTI HLN;obtain ⟨⟨di,pn⟩,hdp⟩:∃ x,P[q]=x:=⟨_,rfl⟩
   rw [hdp] at kl0 kl1 hrq HTK;simp only at kl0 kl1 hrq;obtain ⟨m,rfl⟩:∃ m:Nat,pn=(m:Int)+1:=⟨(pn - 1).toNat,by omega⟩
   have hm16:m < 16:=by omega
   have hmb:m < bs.length:=by have:=HB16.out;omega
   have m0:(0:Int)<=(m:Int):=by omega
   have m1:(m:Int) < (16:Int):=by omega
   have m2:(m:Int) < (bs.length:Int):=by omega
   have hwm:IntKind.i64.wrap (m:Int)=(m:Int):=wrap_small _ (by omega) (by omega);obtain ⟨pb,hpb⟩:∃ n,wr.heap.size=n:=⟨_,rfl⟩
   obtain ⟨W4,hW4⟩:∃ W,wr.alloc (.cells #[.int .i64 di,.int .i64 ((m:Int)+1)] 127)=W:=⟨_,rfl⟩
   obtain ⟨hb,hhb⟩:∃ b,st.2.contains ((m:Int)+1)=b:=⟨_,rfl⟩
   have H4:Hid (TS w W4 n1 tb (.slice (some ⟨gl,0,none⟩) P.length pc) P lv st/\AtC W4 pb 127 #[.int .i64 di,.int .i64 ((m:Int)+1)]/\(∀ k,lv.ownBlock=some k->k≠pb)/\n1<=pb):=by
    rw [← hW4,← hpb];exact ⟨HT.out.below ((Below.refl _ wr).alloc nR _),AtC.new wr 127 _,fun k hk e=>by have:=(HT.out.q.lt k hk).2;omega,HT.out.nn⟩
   have HW4:Hid (∀ W,Below W4.heap.size W4 W->TS w W n1 tb (.slice (some ⟨gl,0,none⟩) P.length pc) P lv st/\AtC W pb 127 #[.int .i64 di,.int .i64 ((m:Int)+1)]/\AtC W b 121 #[.slice a1 xs.length c1,.slice a2 ys.length c2,.slice a3 is.length c3,.slice (some ⟨g4,0,none⟩) bs.length c4]/\DR W (.slice a1 xs.length c1) (.slice a2 ys.length c2) (.slice a3 is.length c3) (.slice (some ⟨g4,0,none⟩) bs.length c4) xs ys is bs/\W.cell? ⟨w.heap.size,m,none⟩=some (.bool hb)):=fun W b'=>by
    have q1:=H4.out.1.below b';obtain ⟨hl,hAl,hHl⟩:=q1.h;exact ⟨q1,H4.out.2.1.over b',HA.out.over q1.b,(HD.out.over q1.b).dr,by rw [← hhb,← hHl.at_ m hm16,hAl.cell m];exact zdz hl m (by rw [hHl.len];exact hm16)⟩
   have CI:=hide (fun (W:World) (b':Below W4.heap.size W4 W)=>zbm di (.slice a1 xs.length c1) (.slice a2 ys.length c2) (.slice a3 is.length c3) (.slice (some ⟨g4,0,none⟩) bs.length c4) xs ys is bs W (HW4.out W b').2.2.2.1 HX.out.r);obtain ⟨kd,hkd⟩:∃ k,zab is di=k:=⟨_,rfl⟩
   rw [hkd] at CI;have HST:Hid (stepT is bs st (di,(m:Int)+1)=if (decide (¬ kd=2) || hb)=true then st else (st.1 ++ tlQ di m (bs.getD m zB).2.1 (bs.getD m zB).2.1.length,st.2 ++ [(m:Int)+1])):=by
    show stepT is bs st (di,(m:Int)+1)=_;unfold stepT;rw [hkd,hhb,show ((m:Int)+1 - 1).toNat=m by omega,zb3 hmb]
   by_cases hk2:kd=2
   rotate_left
   ·have n1':(kd != 2)=true:=by simp [hk2]
    have HE:Hid (runT is bs ([],[]) (P.take (q+1))=st):=by show _=_;rw [HTK.out,HST.out];simp [hk2]
    clear hst hdp hhb hkd hk2 HST;go_upto_region 6 with fail
    clear hpb hW4;refine zad (by kernel_rfl) [0,1,2,3,4,5,6,7,8,9,10,11,12,13,14] [] [] (fun i=>match i with|0=>.const [] (.pointer (some ⟨b,0,none⟩))|1=>.const [0] (.pointer (some ⟨b,0,none⟩))|2=>.const [1] (.pointer (some ⟨b,0,none⟩))|3=>.const [2] (.agg #[.slice a1 xs.length c1,.slice a2 ys.length c2,.slice a3 is.length c3,.slice (some ⟨g4,0,none⟩) bs.length c4])|4=>.const [] (.pointer (some ⟨pb,0,none⟩))|5=>.const [4] (.int .i64 di)|6=>.const [3,5] (.int .i64 kd)|7=>.const [6] (.bool true)|8=>.const [7] (.bool true)|9=>.val [8] (fun _ _ _ _=>True) (fun _ _ _ _ _ _ _=>trivial)|10=>.val [8] (fun _ _ _ _=>True) (fun _ _ _ _ _ _ _=>trivial)|11=>.val [8] (fun _ _ _ _=>True) (fun _ _ _ _ _ _ _=>trivial)|12=>.val [8] (fun _ _ _ _=>True) (fun _ _ _ _ _ _ _=>trivial)|13=>.val [8] (fun _ _ _ _=>True) (fun _ _ _ _ _ _ _=>trivial)|14=>.const [8] (.bool true)|_=>.triv) (fun x=>⟨List.toArray ((.pointer (some ⟨b,0,none⟩))::(undef)::(.slice none 0 0)::(lv)::(.pointer (some ⟨w.heap.size,0,none⟩))::(undef)::(.pointer (some ⟨pb,0,none⟩))::(u7)::(u8)::(u9)::(u10)::(u11)::(u12)::(u13)::(u14)::(u15)::(u16)::(u17)::(.slice (some ⟨gl,0,none⟩) P.length pc)::(.int .i64 ↑P.length)::(.int .i64 ↑q)::(.bool true)::(.pointer (some ⟨gl,q * 2,none⟩))::(.agg #[.int .i64 di,.int .i64 (↑m+1)])::(x 0)::(x 1)::(x 2)::(x 3)::(x 4)::(x 5)::(x 6)::(x 7)::(x 8)::(x 9)::(x 10)::(x 11)::(x 12)::(x 13)::(x 14)::(u39)::(u40)::(u41)::(u42)::(u43)::(u44)::(u45)::(u46)::(u47)::(u48)::(u49)::(u50)::(u51)::(u52)::(u53)::(u54)::(u55)::(u56)::(u57)::(u58)::(u59)::(u60)::(u61)::(u62)::(u63)::(u64)::(u65)::(u66)::(u67)::(u68)::(u69)::(u70)::(u71)::(u72)::(u73)::(u74)::(u75)::(undef)::[]),[]⟩) (fun i=>match i with|0=>u24|1=>u25|2=>u26|3=>u27|4=>u28|5=>u29|6=>u30|7=>u31|8=>u32|9=>u33|10=>u34|11=>u35|12=>u36|13=>u37|14=>u38|_=>undef) rfl (zae (by kernel_rfl) (by kernel_rfl)) (by kernel_rfl) (by kernel_rfl) (by kernel_rfl) rfl ?_ ?_ (by intro q hq;cases hq)
    ·intro jo hj so x iw W hd hp K hK;simp only [List.mem_cons,List.not_mem_nil,or_false] at hj;rcases hj with rfl|rfl|rfl|rfl|rfl|rfl|rfl|rfl|rfl|rfl|rfl|rfl|rfl|rfl|rfl<;>refine wpOp_step (o:=_) rfl fun K' hK'=>?_<;>have HK:=hide (fun (v:Value) (W':World) h1 h2=>hK' _ _ (hK v W' h1 h2))<;>simp only [upd,Nat.reduceEqDiff,if_true,if_false] at HK
     ·clear hK hK' hp hd;go_simp;exact HK.out _ _ bR rfl
     ·have e0:x 0=.pointer (some ⟨b,0,none⟩):=hp.post 0 (hd 0 mz0);have bw:=zaa hp.bel;have l0:=(HW4.out W bw).2.2.1.lt;clear bw;simp only [e0] at HK ⊢;go_simp;exact HK.out _ _ bR rfl
     ·have e1:x 1=.pointer (some ⟨b,0,none⟩):=hp.post 1 (hd 1 mz0);simp only [e1] at HK ⊢;go_simp;exact HK.out _ _ bR rfl
     ·have e2:x 2=.pointer (some ⟨b,0,none⟩):=hp.post 2 (hd 2 mz0);have bw:=zaa hp.bel;have qa:=(HW4.out W bw).2.2.1;obtain ⟨k0,k1,k2,k3⟩:=AtC.four qa;clear bw qa;simp only [e2] at HK ⊢;go_simp;exact HK.out _ _ bR rfl
     ·clear hK hK' hp hd;go_simp;exact HK.out _ _ bR rfl
     ·have e4:x 4=.pointer (some ⟨pb,0,none⟩):=hp.post 4 (hd 4 mz0);have bw:=zaa hp.bel;have k0:W.cell? ⟨pb,0,none⟩=some (.int .i64 di):=(HW4.out W bw).2.1.cell 0;clear bw;simp only [e4] at HK ⊢;go_simp;exact HK.out _ _ bR rfl
     ·have e3:x 3=.agg #[.slice a1 xs.length c1,.slice a2 ys.length c2,.slice a3 is.length c3,.slice (some ⟨g4,0,none⟩) bs.length c4]:=hp.post 3 (hd 3 mz0);have e5:x 5=.int .i64 di:=hp.post 5 (hd 5 mz1);have dr:=zaa hp.bel;simp only [e3,e5] at HK ⊢;clear e3 e5;go_simp;refine (CI.out W dr).mono ?_;rintro e w6 ⟨rfl,B6⟩;go_simp;exact HK.out _ _ B6 rfl
     ·have e6:x 6=.int .i64 kd:=hp.post 6 (hd 6 mz0);simp only [e6] at HK ⊢;go_simp;exact HK.out _ _ bR rfl
     ·have e7:x 7=.bool true:=hp.post 7 (hd 7 mz0);simp only [e7] at HK ⊢;go_simp;exact HK.out _ _ bR rfl
     ·have e8:x 8=.bool true:=hp.post 8 (hd 8 mz0);simp only [e8] at HK ⊢;go_simp;exact HK.out _ _ bR trivial
     ·have e8:x 8=.bool true:=hp.post 8 (hd 8 mz0);simp only [e8] at HK ⊢;go_simp;exact HK.out _ _ bR trivial
     ·have e8:x 8=.bool true:=hp.post 8 (hd 8 mz0);simp only [e8] at HK ⊢;go_simp;exact HK.out _ _ bR trivial
     ·have e8:x 8=.bool true:=hp.post 8 (hd 8 mz0);simp only [e8] at HK ⊢;go_simp;exact HK.out _ _ bR trivial
     ·have e8:x 8=.bool true:=hp.post 8 (hd 8 mz0);simp only [e8] at HK ⊢;go_simp;exact HK.out _ _ bR trivial
     ·have e8:x 8=.bool true:=hp.post 8 (hd 8 mz0);simp only [e8] at HK ⊢;go_simp;exact HK.out _ _ bR rfl
    ·intro x iw W hp;have e14:x 14=.bool true:=hp.post 14 (by decide);have HQ:=hide (HW4.out W (zaa hp.bel)).1;simp only [e14];clear hp e14;try rw [List.filterMap_nil]
     go_wp2;go_roundw
     case rel=>exact ⟨lv,q+1,rfl,by omega,by go_num,by rw [HE.out];exact HQ.out⟩
     case measure=>simp [intOf];omega
   subst hk2;clear hst hdp hkd;go_upto_region 6 with fail
   clear hpb hW4;refine zad (by kernel_rfl) [0,1,2,3,4,5,6,7,8,9,10,11,12,13,14] [] [] (fun i=>match i with|0=>.const [] (.pointer (some ⟨b,0,none⟩))|1=>.const [0] (.pointer (some ⟨b,0,none⟩))|2=>.const [1] (.pointer (some ⟨b,0,none⟩))|3=>.const [2] (.agg #[.slice a1 xs.length c1,.slice a2 ys.length c2,.slice a3 is.length c3,.slice (some ⟨g4,0,none⟩) bs.length c4])|4=>.const [] (.pointer (some ⟨pb,0,none⟩))|5=>.const [4] (.int .i64 di)|6=>.const [3,5] (.int .i64 2)|7=>.const [6] (.bool false)|8=>.const [7] (.bool false)|9=>.const [8] (.pointer (some ⟨pb,1,none⟩))|10=>.const [9,8] (.int .i64 ((m:Int)+1))|11=>.const [10,8] (.int .i64 (m:Int))|12=>.const [11,8] (.pointer (some ⟨w.heap.size,m,none⟩))|13=>.const [12,8] (.bool hb)|14=>.const [8,13] (.bool hb)|_=>.triv) (fun x=>⟨List.toArray ((.pointer (some ⟨b,0,none⟩))::(undef)::(.slice none 0 0)::(lv)::(.pointer (some ⟨w.heap.size,0,none⟩))::(undef)::(.pointer (some ⟨pb,0,none⟩))::(u7)::(u8)::(u9)::(u10)::(u11)::(u12)::(u13)::(u14)::(u15)::(u16)::(u17)::(.slice (some ⟨gl,0,none⟩) P.length pc)::(.int .i64 ↑P.length)::(.int .i64 ↑q)::(.bool true)::(.pointer (some ⟨gl,q * 2,none⟩))::(.agg #[.int .i64 di,.int .i64 (↑m+1)])::(x 0)::(x 1)::(x 2)::(x 3)::(x 4)::(x 5)::(x 6)::(x 7)::(x 8)::(x 9)::(x 10)::(x 11)::(x 12)::(x 13)::(x 14)::(u39)::(u40)::(u41)::(u42)::(u43)::(u44)::(u45)::(u46)::(u47)::(u48)::(u49)::(u50)::(u51)::(u52)::(u53)::(u54)::(u55)::(u56)::(u57)::(u58)::(u59)::(u60)::(u61)::(u62)::(u63)::(u64)::(u65)::(u66)::(u67)::(u68)::(u69)::(u70)::(u71)::(u72)::(u73)::(u74)::(u75)::(undef)::[]),[]⟩) (fun i=>match i with|0=>u24|1=>u25|2=>u26|3=>u27|4=>u28|5=>u29|6=>u30|7=>u31|8=>u32|9=>u33|10=>u34|11=>u35|12=>u36|13=>u37|14=>u38|_=>undef) rfl (zae (by kernel_rfl) (by kernel_rfl)) (by kernel_rfl) (by kernel_rfl) (by kernel_rfl) rfl ?_ ?_ (by intro q hq;cases hq)
   ·intro jo hj so x iw W hd hp K hK;simp only [List.mem_cons,List.not_mem_nil,or_false] at hj;rcases hj with rfl|rfl|rfl|rfl|rfl|rfl|rfl|rfl|rfl|rfl|rfl|rfl|rfl|rfl|rfl<;>refine wpOp_step (o:=_) rfl fun K' hK'=>?_<;>have HK:=hide (fun (v:Value) (W':World) h1 h2=>hK' _ _ (hK v W' h1 h2))<;>simp only [upd,Nat.reduceEqDiff,if_true,if_false] at HK
    ·clear hK hK' hp hd;go_simp;exact HK.out _ _ bR rfl
    ·have e0:x 0=.pointer (some ⟨b,0,none⟩):=hp.post 0 (hd 0 mz0);have bw:=zaa hp.bel;have l0:=(HW4.out W bw).2.2.1.lt;clear bw;simp only [e0] at HK ⊢;go_simp;exact HK.out _ _ bR rfl
    ·have e1:x 1=.pointer (some ⟨b,0,none⟩):=hp.post 1 (hd 1 mz0);simp only [e1] at HK ⊢;go_simp;exact HK.out _ _ bR rfl
    ·have e2:x 2=.pointer (some ⟨b,0,none⟩):=hp.post 2 (hd 2 mz0);have bw:=zaa hp.bel;have qa:=(HW4.out W bw).2.2.1;obtain ⟨k0,k1,k2,k3⟩:=AtC.four qa;clear bw qa;simp only [e2] at HK ⊢;go_simp;exact HK.out _ _ bR rfl
    ·clear hK hK' hp hd;go_simp;exact HK.out _ _ bR rfl
    ·have e4:x 4=.pointer (some ⟨pb,0,none⟩):=hp.post 4 (hd 4 mz0);have bw:=zaa hp.bel;have k0:W.cell? ⟨pb,0,none⟩=some (.int .i64 di):=(HW4.out W bw).2.1.cell 0;clear bw;simp only [e4] at HK ⊢;go_simp;exact HK.out _ _ bR rfl
    ·have e3:x 3=.agg #[.slice a1 xs.length c1,.slice a2 ys.length c2,.slice a3 is.length c3,.slice (some ⟨g4,0,none⟩) bs.length c4]:=hp.post 3 (hd 3 mz0);have e5:x 5=.int .i64 di:=hp.post 5 (hd 5 mz1);have dr:=zaa hp.bel;simp only [e3,e5] at HK ⊢;clear e3 e5;go_simp;refine (CI.out W dr).mono ?_;rintro e w6 ⟨rfl,B6⟩;go_simp;exact HK.out _ _ B6 rfl
    ·have e6:x 6=.int .i64 2:=hp.post 6 (hd 6 mz0);simp only [e6] at HK ⊢;go_simp;exact HK.out _ _ bR rfl
    ·have e7:x 7=.bool false:=hp.post 7 (hd 7 mz0);simp only [e7] at HK ⊢;go_simp;exact HK.out _ _ bR rfl
    ·have e8:x 8=.bool false:=hp.post 8 (hd 8 mz0);simp only [e8] at HK ⊢;go_simp;exact HK.out _ _ bR rfl
    ·have e9:x 9=.pointer (some ⟨pb,1,none⟩):=hp.post 9 (hd 9 mz0);have e8:x 8=.bool false:=hp.post 8 (hd 8 mz1);have bw:=zaa hp.bel;have k0:W.cell? ⟨pb,1,none⟩=some (.int .i64 ((m:Int)+1)):=(HW4.out W bw).2.1.cell 1;clear bw;simp only [e9,e8] at HK ⊢;go_simp;exact HK.out _ _ bR rfl
    ·have e10:x 10=.int .i64 ((m:Int)+1):=hp.post 10 (hd 10 mz0);have e8:x 8=.bool false:=hp.post 8 (hd 8 mz1);simp only [e10,e8] at HK ⊢;go_simp;exact HK.out _ _ bR rfl
    ·have e11:x 11=.int .i64 (m:Int):=hp.post 11 (hd 11 mz0);have e8:x 8=.bool false:=hp.post 8 (hd 8 mz1);have bw:=zaa hp.bel;obtain ⟨hl9,hA9,-⟩:=(HW4.out W bw).1.h;have l9:=hA9.lt;clear bw hA9;simp only [e11,e8] at HK ⊢;go_simp;exact HK.out _ _ bR rfl
    ·have e12:x 12=.pointer (some ⟨w.heap.size,m,none⟩):=hp.post 12 (hd 12 mz0);have e8:x 8=.bool false:=hp.post 8 (hd 8 mz1);have bw:=zaa hp.bel;have k0:=(HW4.out W bw).2.2.2.2;clear bw;simp only [e12,e8] at HK ⊢;go_simp;exact HK.out _ _ bR rfl
    ·have e8:x 8=.bool false:=hp.post 8 (hd 8 mz0);have e13:x 13=.bool hb:=hp.post 13 (hd 13 mz1);simp only [e8,e13] at HK ⊢;go_simp;exact HK.out _ _ bR rfl
   ·intro x iw W hp;have e14:x 14=.bool hb:=hp.post 14 (by decide);have HQ:=hide (HW4.out W (zaa hp.bel));have HPN:=hide (And.intro H4.out.2.2.1 H4.out.2.2.2);simp only [e14];clear hp e14 CI HW4 H4;generalize x 0=yy0 at *;generalize x 1=yy1 at *;generalize x 2=yy2 at *;generalize x 3=yy3 at *;generalize x 4=yy4 at *;generalize x 5=yy5 at *;generalize x 6=yy6 at *;generalize x 7=yy7 at *;generalize x 8=yy8 at *;generalize x 9=yy9 at *;generalize x 10=yy10 at *;generalize x 11=yy11 at *;generalize x 12=yy12 at *;generalize x 13=yy13 at *;try rw [List.filterMap_nil]
    cases hb with
    | true =>
     have HE:Hid (runT is bs ([],[]) (P.take (q+1))=st):=by show _=_;rw [HTK.out,HST.out];rfl
     clear hhb;go_wp2;go_roundw
     case rel=>exact ⟨lv,q+1,rfl,by omega,by go_num,by rw [HE.out];exact HQ.out.1⟩
     case measure=>simp [intOf];omega
    | false =>
     have HNC:=hide hhb;obtain ⟨hl8,hA8,-⟩:=HQ.out.1.h;have f8:W.frozen? ⟨w.heap.size,m,none⟩=false:=hA8.frozen m;have l8:w.heap.size < W.heap.size:=hA8.lt;have k8:W.cell? ⟨w.heap.size,m,none⟩=some (.bool false):=HQ.out.2.2.2.2;have kp1:W.cell? ⟨pb,1,none⟩=some (.int .i64 ((m:Int)+1)):=HQ.out.2.1.cell 1;obtain ⟨W7,hW7⟩:∃ X,W.setCell ⟨w.heap.size,m,none⟩ (.bool true)=X:=⟨_,rfl⟩
     have H7:Hid (TS w W7 n1 tb (.slice (some ⟨gl,0,none⟩) P.length pc) P lv (st.1,st.2 ++ [(m:Int)+1])/\AtC W7 pb 127 #[.int .i64 di,.int .i64 ((m:Int)+1)]/\AtC W7 b 121 #[.slice a1 xs.length c1,.slice a2 ys.length c2,.slice a3 is.length c3,.slice (some ⟨g4,0,none⟩) bs.length c4]/\DL W7 S (.slice a1 xs.length c1) (.slice a2 ys.length c2) (.slice a3 is.length c3) (.slice (some ⟨g4,0,none⟩) bs.length c4) ti tb xs ys is bs):=by
      rw [← hW7];have q7:=HQ.out.1.had m hm16;have hn:=HQ.out.1.n;have hpb:=HPN.out.2;have hbw:=HA.out.lt;exact ⟨q7,HQ.out.2.1.other (by omega) _,HQ.out.2.2.1.other (by omega) _,HD.out.over q7.b⟩
     obtain ⟨g',c',eb,hgb,-,-,kb1,-,so,-⟩:=H7.out.2.2.2.blk m hmb;simp only [Value.slice.injEq,Option.some.injEq,Addr.mk.injEq] at eb;obtain ⟨⟨rfl,-⟩,-,-⟩:=eb;obtain ⟨sa,sc',esl,-⟩:=so.form;have HSL:Hid ((tb.getD m zB3).2.1=.slice sa (bs.getD m zB).2.1.length sc'):=by rw [zap hmb];exact esl
     rw [HSL.out] at kb1;have hss4:(bs.getD m zB).2.1.length<=4:=by rw [zap hmb];exact HX.out.r.four _ (List.getElem_mem hmb)
     have HST2:Hid (runT is bs ([],[]) (P.take (q+1))=(st.1 ++ tlQ di m (bs.getD m zB).2.1 (bs.getD m zB).2.1.length,st.2 ++ [(m:Int)+1])):=by show _=_;rw [HTK.out,HST.out];rfl
     obtain ⟨ss,hss⟩:∃ X,(bs.getD m zB).2.1=X:=⟨_,rfl⟩
     have HSS:=hide hss;rw [hss] at kb1 hss4 HST2 HSL;have u1:W7.cell? ⟨pb,1,none⟩=some (.int .i64 ((m:Int)+1)):=H7.out.2.1.cell 1;have u2:W7.cell? ⟨b,2+1,none⟩=some (.slice (some ⟨g4,0,none⟩) bs.length c4):=H7.out.2.2.1.cell 3;have u3:W7.cell? ⟨b,3,none⟩=some (.slice (some ⟨g4,0,none⟩) bs.length c4):=H7.out.2.2.1.cell 3;have u4:b < W7.heap.size:=H7.out.2.2.1.lt;have HN0:Hid (TS w W7 n1 tb (.slice (some ⟨gl,0,none⟩) P.length pc) P lv (st.1 ++ tlQ di m ss 0,st.2 ++ [(m:Int)+1])/\AtC W7 pb 127 #[.int .i64 di,.int .i64 ((m:Int)+1)]/\(∀ k,lv.ownBlock=some k->k≠pb)):=⟨by have:=H7.out.1;simpa [tlQ] using this,H7.out.2.1,HPN.out.1⟩
     clear hhb hss so esl hA8 HST HTK hgb;go_upto_region 8 with fail
     clear hW7 k8 f8 kp1;go_quiet (fail)
     go_wp2_with fail
     go_loopw [3,56] (fun lv kv wr=>∃ (l':Value) (t:Nat),l'=lv/\t<=ss.length/\kv=.int .i64 t/\Hid (TS w wr n1 tb (.slice (some ⟨gl,0,none⟩) P.length pc) P l' (st.1 ++ tlQ di m ss t,st.2 ++ [(m:Int)+1])/\AtC wr pb 127 #[.int .i64 di,.int .i64 ((m:Int)+1)]/\(∀ k,l'.ownBlock=some k->k≠pb))) (fun _ kv _=>ss.length - (intOf kv).toNat)
     case atStart=>first | exact ⟨_,0,rfl,Nat.zero_le _,rfl,HN0.out⟩ | exact ⟨_,0,rfl,Nat.zero_le _,rfl,HN0.out.1.below (below_drewN bR _),HN0.out.2.1.over (below_drewN bR _),HN0.out.2.2⟩
     case round =>
      obtain ⟨lv',t,hlv,ht,rfl,HR⟩:=hrel;subst hlv;clear HN0 H7;have t0:(0:Int)<=(t:Int):=by omega
      by_cases htl:t < ss.length
      rotate_left
      ·have t1:¬ ((t:Int) < (ss.length:Int)):=by omega
       have HE:Hid (runT is bs ([],[]) (P.take (q+1))=(st.1 ++ tlQ di m ss t,st.2 ++ [(m:Int)+1])):=by show _=_;rw [HST2.out,show t=ss.length by omega]
       go_wp2;go_roundw
       case rel=>exact ⟨lv',q+1,rfl,by omega,by go_num,by rw [HE.out];exact HR.out.1⟩
       case measure=>simp [intOf];omega
      have t1:(t:Int) < (ss.length:Int):=by omega
      obtain ⟨gs,cs,es,ea,ks0,ks1,-,hgs,-⟩:=zbk (HD.out.over HR.out.1.b) (di,m,t) ⟨hmb,by show t < _;rw [HSS.out];exact htl⟩;simp only at es ks0 ks1 ea;rw [HSL.out] at es;simp only [Value.slice.injEq] at es;obtain ⟨rfl,-,-⟩:=es;have HEA:=hide ea;have HSQ:=hide (zk4 di m ss t);obtain ⟨sn,hsn⟩:∃ x,(slotN bs (di,m,t)).1=x:=⟨_,rfl⟩
      have hsn2:(ss.getD t noS).1=sn:=by rw [← hsn];unfold slotN;rw [HSS.out]
      rw [hsn] at ks0;rw [hsn2] at HSQ;have HWT:Hid (∀ W,Below wr.heap.size wr W->TS w W n1 tb (.slice (some ⟨gl,0,none⟩) P.length pc) P lv' (st.1 ++ tlQ di m ss t,st.2 ++ [(m:Int)+1])/\AtC W pb 127 #[.int .i64 di,.int .i64 ((m:Int)+1)]):=fun W b'=>⟨HR.out.1.below b',HR.out.2.1.over b'⟩
      have HTL:Hid ((paL tb (st.1 ++ tlQ di m ss t)).length<=100000000000):=by
       show _<=_;rw [zei,List.length_append];have h1:=zhl di m ss t;have h2:=HLN.out;rw [List.length_take] at h2;simp only [List.length_nil] at h2;omega
      clear ea hsn hsn2 ks1;by_cases hse:sn=⟨#[]⟩
      ·subst hse;have HE:Hid (tlQ di m ss (t+1)=tlQ di m ss t):=by show _=_;rw [HSQ.out,if_pos rfl,List.append_nil]
       go_wp2;go_roundw
       case rel=>exact ⟨lv',t+1,rfl,by omega,by go_num,by rw [HE.out];exact HR.out⟩
       case measure=>simp [intOf];omega
      have hse2:(sn.toList == ([]:List UInt8))=false:=zc2 hse;have hse3:(sn.toList != ([]:List UInt8))=true:=by simp [bne,hse2]
      have HE:Hid (tlQ di m ss (t+1)=tlQ di m ss t ++ [(di,m,t)]):=by show _=_;rw [HSQ.out,if_neg hse]
      go_upto_region 13 with fail
      refine zad (by kernel_rfl) [0,1,2,3,4,5,6,7] [8,9] [] (fun i=>match i with|0=>.const [] (lv')|1=>.const [] (.pointer (some ⟨pb,0,none⟩))|2=>.const [1] (.int .i64 di)|3=>.const [] (.slice (some ⟨gs,0,none⟩) ss.length sc')|4=>.const [] (.int .i64 (t:Int))|5=>.const [3,4] (.pointer (some ⟨gs,t * 2,none⟩))|6=>.const [2,5] (.agg #[.int .i64 di,.pointer (some ⟨gs,t * 2,none⟩)])|7=>MkS1 [6] 144 #[.int .i64 di,.pointer (some ⟨gs,t * 2,none⟩)]|_=>.triv) (fun x=>⟨List.toArray ((.pointer (some ⟨b,0,none⟩))::(undef)::(.slice none 0 0)::(lv')::(.pointer (some ⟨w.heap.size,0,none⟩))::(undef)::(.pointer (some ⟨pb,0,none⟩))::(.slice (some ⟨gs,0,none⟩) ss.length sc')::(.int .i64 ↑t)::(u9)::(u10)::(u11)::(u12)::(u13)::(u14)::(u15)::(u16)::(u17)::(.slice (some ⟨gl,0,none⟩) P.length pc)::(.int .i64 ↑P.length)::(.int .i64 ↑q)::(.bool true)::(.pointer (some ⟨gl,q * 2,none⟩))::(.agg #[.int .i64 di,.int .i64 (↑m+1)])::(yy0)::(yy1)::(yy2)::(yy3)::(yy4)::(yy5)::(yy6)::(yy7)::(yy8)::(yy9)::(yy10)::(yy11)::(yy12)::(yy13)::(.bool false)::(.pointer (some ⟨pb,1,none⟩))::(.int .i64 (↑m+1))::(.int .i64 ↑m)::(.pointer (some ⟨w.heap.size,m,none⟩))::(.pointer (some ⟨b,0,none⟩))::(.pointer (some ⟨b,0,none⟩))::(.pointer (some ⟨b,0,none⟩))::(.pointer (some ⟨b,3,none⟩))::(.slice (some ⟨g4,0,none⟩) bs.length c4)::(.pointer (some ⟨pb,1,none⟩))::(.int .i64 (↑m+1))::(.int .i64 ↑m)::(.pointer (some ⟨g4,m * 3,none⟩))::(.pointer (some ⟨g4,m * 3+1,none⟩))::(.slice (some ⟨gs,0,none⟩) ss.length sc')::(.slice (some ⟨gs,0,none⟩) ss.length sc')::(.int .i64 ↑ss.length)::(.int .i64 ↑t)::(.bool true)::(.int .i64 ↑t)::(.slice (some ⟨gs,0,none⟩) ss.length sc')::(.int .i64 ↑t)::(.pointer (some ⟨gs,t * 2,none⟩))::(.pointer (some ⟨gs,t * 2,none⟩))::(.string sn)::(.bool true)::(x 0)::(x 1)::(x 2)::(x 3)::(x 4)::(x 5)::(x 6)::(x 7)::(u73)::(u74)::(u75)::(undef)::[]),[]⟩) (fun i=>match i with|0=>u65|1=>u66|2=>u67|3=>u68|4=>u69|5=>u70|6=>u71|7=>u72|_=>undef) rfl (zae (by kernel_rfl) (by kernel_rfl)) (by kernel_rfl) (by kernel_rfl) (by kernel_rfl) rfl ?_ ?_ (by intro q hq;cases hq)
      ·intro jo hj so x iw W hd hp K hK;simp only [List.mem_cons,List.not_mem_nil,or_false] at hj;rcases hj with rfl|rfl|rfl|rfl|rfl|rfl|rfl|rfl<;>refine wpOp_step (o:=_) rfl fun K' hK'=>?_<;>have HK:=hide (fun (v:Value) (W':World) h1 h2=>hK' _ _ (hK v W' h1 h2))<;>simp only [upd,Nat.reduceEqDiff,if_true,if_false] at HK
       ·clear hK hK' hp hd;go_simp;exact HK.out _ _ bR rfl
       ·clear hK hK' hp hd;go_simp;exact HK.out _ _ bR rfl
       ·have e1:x 1=.pointer (some ⟨pb,0,none⟩):=hp.post 1 (hd 1 mz0);have bw:=zaa hp.bel;have k0:W.cell? ⟨pb,0,none⟩=some (.int .i64 di):=(HWT.out W bw).2.cell 0;clear bw;simp only [e1] at HK ⊢;go_simp;exact HK.out _ _ bR rfl
       ·clear hK hK' hp hd;go_simp;exact HK.out _ _ bR rfl
       ·clear hK hK' hp hd;go_simp;exact HK.out _ _ bR rfl
       ·have e3:x 3=.slice (some ⟨gs,0,none⟩) ss.length sc':=hp.post 3 (hd 3 mz0);have e4:x 4=.int .i64 (t:Int):=hp.post 4 (hd 4 mz1);simp only [e3,e4] at HK ⊢;go_simp;exact HK.out _ _ bR rfl
       ·have e2:x 2=.int .i64 di:=hp.post 2 (hd 2 mz0);have e5:x 5=.pointer (some ⟨gs,t * 2,none⟩):=hp.post 5 (hd 5 mz1);simp only [e2,e5] at HK ⊢;go_simp;exact HK.out _ _ bR rfl
       ·have e6:x 6=.agg #[.int .i64 di,.pointer (some ⟨gs,t * 2,none⟩)]:=hp.post 6 (hd 6 mz0);simp only [e6] at HK ⊢;clear e6;go_simp;exact HK.out _ _ ((Below.refl _ W).alloc nR _) ⟨rfl,AtC.new W 144 _⟩
      ·intro x iw W hp;have e0:x 0=lv':=hp.post 0 (by decide);have e1:x 1=.pointer (some ⟨pb,0,none⟩):=hp.post 1 (by decide);have e2:x 2=.int .i64 di:=hp.post 2 (by decide);have e3:x 3=.slice (some ⟨gs,0,none⟩) ss.length sc':=hp.post 3 (by decide);have e4:x 4=.int .i64 (t:Int):=hp.post 4 (by decide);have e5:x 5=.pointer (some ⟨gs,t * 2,none⟩):=hp.post 5 (by decide);have e6:x 6=.agg #[.int .i64 di,.pointer (some ⟨gs,t * 2,none⟩)]:=hp.post 6 (by decide);obtain ⟨e7,A7⟩:=hp.post 7 (by decide);have HWX:=hide (HWT.out W (zaa hp.bel));have HA7:Hid (AtC W (iw 7).1 144 #[.int .i64 di,.pointer (some ⟨gs,t * 2,none⟩)]):=A7;have HSZ:Hid (n1<=W.heap.size):=HWX.out.1.nn;have HPL9:Hid (pb < W.heap.size):=HWX.out.2.lt;clear hp A7;simp only [e0,e1,e2,e3,e4,e5,e6,e7];clear e0 e1 e2 e3 e4 e5 e6 e7;generalize (iw 7).1=g7 at *;simp only [List.filterMap_cons,List.filterMap_nil,List.getElem?_toArray,List.getElem?_cons_succ,List.getElem?_cons_zero];refine wpList_step fun K' hK'=>?_;refine zf6 _ rfl (.tmp 65) (.tmp 72) rfl n1 lv' _ rfl HWX.out.1.q HSZ.out g7 di ⟨gs,t * 2,none⟩ rfl HA7.out HTL.out ?_;intro v9 w9 T9 G9 V9;refine hK' _ _ ?_;have HR9:Hid (TS w w9 n1 tb (.slice (some ⟨gl,0,none⟩) P.length pc) P v9 (st.1 ++ tlQ di m ss (t+1),st.2 ++ [(m:Int)+1])/\AtC w9 pb 127 #[.int .i64 di,.int .i64 ((m:Int)+1)]/\(∀ k,v9.ownBlock=some k->k≠pb)):=by
        refine ⟨?_,HWX.out.2.grown G9 (fun e=>HR.out.2.2 _ e rfl),fun k hk=>(V9 k hk).elim (HR.out.2.2 k) (fun e=>by have:=HPL9.out;omega)⟩;have e9:=HWX.out.1.app (t:=(di,m,t)) (by rw [HEA.out];exact T9) G9;rw [HE.out,← List.append_assoc];exact e9
       clear T9 G9 V9 hK';go_wp2_with fail
       try rw [List.filterMap_nil]
       try go_wp2_with fail
       go_roundw
       case rel=>exact ⟨v9,t+1,rfl,by omega,by go_num,HR9.out⟩
       case measure=>simp [intOf];omega
theorem zoa (is:List Ino)(l:List Tt)(q:Nat)(h:q < l.length)(bs:List Blk):runN is [] (l.take (q+1)) bs=stepN is (l.take q) (runN is [] (l.take q) bs) l[q]:=by
 rw [List.take_succ_eq_append_getElem h,zi1]
structure NS (w wr:World) (B b n0:Nat) (D:Array Value) (u v iv bv:Value) (ti tb:List V3) (xs ys:List Bool) (is:List Ino) (bs:List Blk) (lv:Value) (L:List Tt):Prop where
 d:DL wr (fun k=>(B<=k/\k≠b)/\k < n0) u v iv bv ti tb xs ys is bs
 a:AtC wr b 121 D
 l:QOwns wr n0 144 lv (paL tb L)
 c:Chg (fun k=>B<=k/\k≠b) w wr
 nn:n0<=wr.heap.size
 bn:b < n0
namespace NS
variable {w wr wr' : World} {B b n0 : Nat} {D : Array Value} {u v iv bv : Value} {ti tb : List V3} {xs ys : List Bool} {is : List Ino} {bs : List Blk} {lv : Value} {L : List Tt}
theorem below (h:NS w wr B b n0 D u v iv bv ti tb xs ys is bs lv L)(hb:Below wr.heap.size wr wr'):NS w wr' B b n0 D u v iv bv ti tb xs ys is bs lv L :=
 ⟨h.d.over hb,h.a.over hb,h.l.below hb nR,h.c.trans (Chg.of_below hb),Nat.le_trans h.nn hb.size,h.bn⟩
theorem clr (h:NS w wr B b n0 D u v iv bv ti tb xs ys is bs lv L)(t:Tt)(ht:InT bs t){g:Nat}(hg:adr tb t=⟨g,t.2.2 * 2,none⟩):NS w ((wr.setCell ⟨g,t.2.2 * 2,none⟩ (.string ⟨#[]⟩)).setCell ⟨g,t.2.2 * 2+1,none⟩ (.int .i64 0)) B b n0 D u v iv bv ti tb xs ys is (clrS bs t) lv L:=by
 obtain ⟨g',c,e,ea,-,-,-,-,hS⟩:=zbk h.d t ht;rw [ea] at hg;simp only [Addr.mk.injEq,and_true] at hg;subst hg;have e0:=zap (d:=zB) ht.1;have hs:=ht.2;rw [e0] at e hs;obtain ⟨q1,q2⟩:=h.d.clrSlot t.2.1 ht.1 e t.2.2 hs ⟨#[]⟩ 0;refine ⟨?_,(h.a.other (fun e=>hS.1.2 e.symm) _).other (fun e=>hS.1.2 e.symm) _,(h.l.setCell_low (by omega) _).setCell_low (by omega) _,(h.c.setCell hS.1 _).setCell hS.1 _,by simpa using h.nn,h.bn⟩;unfold clrS;rw [e0];exact q1
end NS
theorem zob (b B:Nat)(a1 a2 a3 a4:Option Addr)(c1 c2 c3 c4:Nat)(xs ys:List Bool)(is:List Ino)(bs:List Blk)(w:World)(hBx:AtC w b 121 #[.slice a1 xs.length c1,.slice a2 ys.length c2,.slice a3 is.length c3,.slice a4 bs.length c4])(h:DO w (fun k=>B<=k/\k≠b) (.slice a1 xs.length c1) (.slice a2 ys.length c2) (.slice a3 is.length c3) (.slice a4 bs.length c4) xs ys is bs)(hO:zag xs ys is bs=true) :
  Calls Tryz.prog 94 #[.pointer (some ⟨b,0,none⟩)] w fun e w'=>e=.returned (.tuple #[])/\DO w' (fun k=>B<=k/\k≠b) (.slice a1 xs.length c1) (.slice a2 ys.length c2) (.slice a3 is.length c3) (.slice a4 bs.length c4) xs ys is (mendN is bs)/\Chg (fun k=>B<=k/\k≠b) w w':=by
 obtain ⟨ti,tb,hL⟩:=h.dl
 replace hL:=hL.bound
 have HO:=hide hO;have HTI:=hide (TI.run (is:=is) (RX.of_ok hO).r.hb (ptrL is (kndL is)) (fun x hx=>(zcb hx).2) (TI.begin bs));have HLN:=hide (zhr (RX.of_ok hO).r (ptrL is (kndL is)) ([],[]));have HLP:Hid ((ptrL is (kndL is)).length<=16):=by have h1:=zax (RX.of_ok hO).r (kndL is);have h2:=zct is;show _<=_;omega
 have HSR:Hid (∀ cur,NI xs ys is bs cur->∀ t,InT cur t->¬ (slotN cur t).1=⟨#[]⟩->1<=(slotN cur t).2/\(slotN cur t).2<=8):=fun cur hn t ht hne=>by
  have hr:=(RX.of_ok hn.ok).sr (cur.getD t.2.1 zB) (by rw [zap ht.1];exact List.getElem_mem ht.1) (slotN cur t) (by unfold slotN;rw [zap ht.2];exact List.getElem_mem ht.2);exact hr.resolve_left hne
 have CT:=hide (zl9 b _ a1 a2 a3 a4 c1 c2 c3 c4 ti tb xs ys is bs w hBx hL hO);obtain ⟨n0,hn0⟩:∃ n,w.heap.size=n:=⟨_,rfl⟩
 have HL:=hide (And.intro hL (And.intro hBx hBx.lt));rw [hn0] at HL;have HFIN:Hid (mendN is bs=runN is [] (zce is bs) bs):=rfl;have HTM:Hid (∀ t∈zce is bs,InT bs t/\¬ (slotN bs t).1=⟨#[]⟩):=fun t ht=>⟨(HTI.out.h t ht).1,(HTI.out.h t ht).2.2⟩
 have HTN:Hid ((zce is bs).map (·.2)).Nodup:=HTI.out.n;have HT64:Hid ((zce is bs).length<=64):=by have h1:=HLN.out;have h2:=HLP.out;show (runT is bs ([],[]) (ptrL is (kndL is))).1.length<=_;simp only [List.length_nil] at h1;omega
 obtain ⟨L,hLL⟩:∃ L,zce is bs=L:=⟨_,rfl⟩
 rw [hLL] at CT HFIN HTM HTN HT64;have hl64:=HT64.out;clear hL h hBx hO HTI HLN HLP hLL;go_enter Tryz.func94,Tryz.ntmps94
 go_wp2_with fail
 refine CT.out.mono ?_;rintro e w1 ⟨lv,rfl,Q1,B1⟩;obtain ⟨la,lc,hlv,-⟩:=Q1.form;rw [zei] at hlv;subst hlv;have H1:Hid (NS w w1 B b n0 #[.slice a1 xs.length c1,.slice a2 ys.length c2,.slice a3 is.length c3,.slice a4 bs.length c4] (.slice a1 xs.length c1) (.slice a2 ys.length c2) (.slice a3 is.length c3) (.slice a4 bs.length c4) ti tb xs ys is (runN is [] (L.take 0) bs) (.slice la L.length lc) L):=by
  rw [← hn0];rw [← hn0] at HL;exact ⟨HL.out.1.over B1,HL.out.2.1.over B1,Q1,Chg.of_below B1,B1.size,HL.out.2.2⟩
 clear Q1 B1 HL hn0 CT;go_wp2_with fail
 go_loopw [12] (fun kv wr=>∃ q:Nat,q<=L.length/\kv=.int .i64 q/\Hid (NS w wr B b n0 #[.slice a1 xs.length c1,.slice a2 ys.length c2,.slice a3 is.length c3,.slice a4 bs.length c4] (.slice a1 xs.length c1) (.slice a2 ys.length c2) (.slice a3 is.length c3) (.slice a4 bs.length c4) ti tb xs ys is (runN is [] (L.take q) bs) (.slice la L.length lc) L)) (fun kv _=>L.length - (intOf kv).toNat)
 case atStart=>exact ⟨0,Nat.zero_le _,rfl,H1.out⟩
 case round =>
  obtain ⟨q,hq,rfl,HR⟩:=hrel;clear H1;have q0:(0:Int)<=(q:Int):=by omega
  by_cases hlt:q < L.length
  rotate_left
  ·have q1:¬ ((q:Int) < (L.length:Int)):=by omega
   go_wp2
   go_end0
   have h1:=HR.out;rw [List.take_of_length_le (by omega)] at h1;refine ⟨rfl,?_,h1.c⟩;rw [HFIN.out];exact h1.d.do_.mono fun k hk=>hk.1
  have q1:(q:Int) < (L.length:Int):=by omega
  have HNI:=hide ((NI.begin HO.out).run (L.take q) []);have HTK:=hide (zoa is L q hlt bs);obtain ⟨cur,hcur⟩:∃ x,runN is [] (L.take q) bs=x:=⟨_,rfl⟩
  have HSO:Hid (slotN cur L[q]=slotN bs L[q]):=by rw [← hcur];exact zny is L q hlt HTN.out (fun t ht=>(HTM.out t ht).1) HO.out
  rw [hcur] at HR HNI HTK;have HIT:Hid (∀ t∈L,InT cur t):=fun t ht=>by
   have h1:=(HTM.out t ht).1;exact ⟨by have e1:=(zaj HNI.out.ok).2.2.2.2;have e2:=(zaj HO.out).2.2.2.2;have:=h1.1;omega,by rw [HNI.out.ln];exact h1.2⟩
  have hmq:=List.getElem_mem hlt;have hne:=(HTM.out _ hmq).2;rw [← HSO.out] at hne;have hir:=HSR.out cur HNI.out _ (HIT.out _ hmq) hne;obtain ⟨gl,cl,el,kl0,kl1,-,-,hgl,-⟩:=HR.out.l.at q (by rw [zei];exact hlt);simp only [Value.slice.injEq] at el;obtain ⟨rfl,-,-⟩:=el;rw [paL_at tb L q hlt] at kl0 kl1;simp only at kl0 kl1;obtain ⟨gs,cs,-,ea,ks0,ks1,-,hgs,hSg⟩:=zbk HR.out.d L[q] (HIT.out _ hmq);rw [ea] at kl1;have HEA:=hide ea;obtain ⟨⟨di,m,t⟩,htt⟩:∃ x,L[q]=x:=⟨_,rfl⟩
  rw [htt] at kl0 kl1 ks0 ks1 HTK HEA hir;simp only at kl0 kl1 ks0 ks1 HEA;obtain ⟨⟨sn,si⟩,hsl⟩:∃ x,slotN cur (di,m,t)=x:=⟨_,rfl⟩
  rw [hsl] at ks0 ks1 hir;simp only at ks0 ks1 hir;have HSL:=hide hsl;obtain ⟨tw,htw⟩:∃ n,wr.heap.size=n:=⟨_,rfl⟩
  obtain ⟨W3,hW3⟩:∃ W,wr.alloc (.cells #[.int .i64 di,.pointer (some ⟨gs,t * 2,none⟩)] 144)=W:=⟨_,rfl⟩
  have H3:Hid (NS w W3 B b n0 #[.slice a1 xs.length c1,.slice a2 ys.length c2,.slice a3 is.length c3,.slice a4 bs.length c4] (.slice a1 xs.length c1) (.slice a2 ys.length c2) (.slice a3 is.length c3) (.slice a4 bs.length c4) ti tb xs ys is cur (.slice (some ⟨gl,0,none⟩) L.length lc) L/\AtC W3 tw 144 #[.int .i64 di,.pointer (some ⟨gs,t * 2,none⟩)]/\n0<=tw):=by
   rw [← hW3,← htw];exact ⟨HR.out.below ((Below.refl _ wr).alloc nR _),AtC.new wr 144 _,HR.out.nn⟩
  have HW3:Hid (∀ W,Below W3.heap.size W3 W->NS w W B b n0 #[.slice a1 xs.length c1,.slice a2 ys.length c2,.slice a3 is.length c3,.slice a4 bs.length c4] (.slice a1 xs.length c1) (.slice a2 ys.length c2) (.slice a3 is.length c3) (.slice a4 bs.length c4) ti tb xs ys is cur (.slice (some ⟨gl,0,none⟩) L.length lc) L/\AtC W tw 144 #[.int .i64 di,.pointer (some ⟨gs,t * 2,none⟩)]/\W.cell? ⟨gs,t * 2,none⟩=some (.string sn)/\W.cell? ⟨gs,t * 2+1,none⟩=some (.int .i64 si)/\(∀ k,W.frozen? ⟨gs,k,none⟩=false)/\gs < W.heap.size):=fun W hb=>by
   have n3:=H3.out.1.below hb;obtain ⟨g',c',-,ea',k0',k1',f',l',-⟩:=zbk n3.d (di,m,t) (by have:=HIT.out _ hmq;rw [htt] at this;exact this);rw [HEA.out] at ea';simp only [Addr.mk.injEq,and_true] at ea';subst ea';rw [HSL.out] at k0' k1';exact ⟨n3,H3.out.2.1.over hb,k0',k1',f',l'⟩
  have CI:=hide (fun (W:World) (hb:Below W3.heap.size W3 W)=>zbm si (.slice a1 xs.length c1) (.slice a2 ys.length c2) (.slice a3 is.length c3) (.slice a4 bs.length c4) xs ys is cur W (HW3.out W hb).1.d.dr (RX.of_ok HNI.out.ok).r);obtain ⟨kd,hkd⟩:∃ k,zab is si=k:=⟨_,rfl⟩
  rw [hkd] at CI;have HBD:Hid (badT is (L.take q) cur (di,m,t)=(decide (kd=0) || decide (si=1) || (L.take q).any (badA is cur (di,m,t)))):=by
   show badT is (L.take q) cur (di,m,t)=_;unfold badT;rw [HSL.out,hkd]
  have HCL:Hid (∀ W,Below W3.heap.size W3 W->NS w ((W.setCell ⟨gs,t * 2,none⟩ (.string ⟨#[]⟩)).setCell ⟨gs,t * 2+1,none⟩ (.int .i64 0)) B b n0 #[.slice a1 xs.length c1,.slice a2 ys.length c2,.slice a3 is.length c3,.slice a4 bs.length c4] (.slice a1 xs.length c1) (.slice a2 ys.length c2) (.slice a3 is.length c3) (.slice a4 bs.length c4) ti tb xs ys is (clrS cur (di,m,t)) (.slice (some ⟨gl,0,none⟩) L.length lc) L):=fun W hb=>(HW3.out W hb).1.clr (di,m,t) (by have:=HIT.out _ hmq;rw [htt] at this;exact this) HEA.out;clear hcur htt hne ea hsl ks0 ks1 hmq HSO;go_upto_region 4 with fail
  clear htw hW3 kl0 kl1;obtain ⟨J,hJ⟩:∃ J:Act->World->Prop,J=(fun a' w'=>∃ (v5 v7 v17 v18 v19 v20 v21 v22 v23 v24 v25 v26 v27 v28 v29 v30 v31 v32 v33 v34 v35 v36 v37 v38 v39 v40 v41 v42 v43 v44 v45 v46 v47 v48 v49 v50 v51 v52 v53 v54 v55 v56 v57 v58 v59 v60 v61 v62 v63 v64 v65 v66 v67 v68 v69 v70 v71 v72 v73 v74 v75 v76 v77 v78 v79 v80 v81 v82 v83 v84 v85:Value),a'=⟨List.toArray ((Value.pointer (some { block:=b,off:=0 })) :: (undef) :: (Value.slice (some { block:=gl,off:=0 }) L.length lc) :: (Value.int IntKind.i64 ↑q) :: (Value.pointer (some { block:=tw,off:=0 })) :: (v5) :: (undef) :: (v7) :: (Value.pointer (some { block:=b,off:=0 })) :: (Value.slice (some { block:=gl,off:=0 }) L.length lc) :: (Value.slice (some { block:=gl,off:=0 }) L.length lc) :: (Value.int IntKind.i64 ↑L.length) :: (Value.int IntKind.i64 ↑q) :: (Value.bool true) :: (Value.int IntKind.i64 ↑q) :: (Value.pointer (some { block:=gl,off:=q * 2 })) :: (Value.agg #[Value.int IntKind.i64 di,Value.pointer (some { block:=gs,off:=t * 2 })]) :: (v17) :: (v18) :: (v19) :: (v20) :: (v21) :: (v22) :: (v23) :: (v24) :: (v25) :: (v26) :: (v27) :: (v28) :: (v29) :: (v30) :: (v31) :: (v32) :: (v33) :: (v34) :: (v35) :: (v36) :: (v37) :: (v38) :: (v39) :: (v40) :: (v41) :: (v42) :: (v43) :: (v44) :: (v45) :: (v46) :: (v47) :: (v48) :: (v49) :: (v50) :: (v51) :: (v52) :: (v53) :: (v54) :: (v55) :: (v56) :: (v57) :: (v58) :: (v59) :: (v60) :: (v61) :: (v62) :: (v63) :: (v64) :: (v65) :: (v66) :: (v67) :: (v68) :: (v69) :: (v70) :: (v71) :: (v72) :: (v73) :: (v74) :: (v75) :: (v76) :: (v77) :: (v78) :: (v79) :: (v80) :: (v81) :: (v82) :: (v83) :: (v84) :: (v85) :: []),[]⟩/\Below W3.heap.size W3 w'/\badT is (L.take q) cur (di,m,t)=true):=⟨_,rfl⟩
  have HJ:Hid (∀ (v5 v7 v17 v18 v19 v20 v21 v22 v23 v24 v25 v26 v27 v28 v29 v30 v31 v32 v33 v34 v35 v36 v37 v38 v39 v40 v41 v42 v43 v44 v45 v46 v47 v48 v49 v50 v51 v52 v53 v54 v55 v56 v57 v58 v59 v60 v61 v62 v63 v64 v65 v66 v67 v68 v69 v70 v71 v72 v73 v74 v75 v76 v77 v78 v79 v80 v81 v82 v83 v84 v85:Value) (w':World),Below W3.heap.size W3 w'->badT is (L.take q) cur (di,m,t)=true->J ⟨List.toArray ((Value.pointer (some { block:=b,off:=0 })) :: (undef) :: (Value.slice (some { block:=gl,off:=0 }) L.length lc) :: (Value.int IntKind.i64 ↑q) :: (Value.pointer (some { block:=tw,off:=0 })) :: (v5) :: (undef) :: (v7) :: (Value.pointer (some { block:=b,off:=0 })) :: (Value.slice (some { block:=gl,off:=0 }) L.length lc) :: (Value.slice (some { block:=gl,off:=0 }) L.length lc) :: (Value.int IntKind.i64 ↑L.length) :: (Value.int IntKind.i64 ↑q) :: (Value.bool true) :: (Value.int IntKind.i64 ↑q) :: (Value.pointer (some { block:=gl,off:=q * 2 })) :: (Value.agg #[Value.int IntKind.i64 di,Value.pointer (some { block:=gs,off:=t * 2 })]) :: (v17) :: (v18) :: (v19) :: (v20) :: (v21) :: (v22) :: (v23) :: (v24) :: (v25) :: (v26) :: (v27) :: (v28) :: (v29) :: (v30) :: (v31) :: (v32) :: (v33) :: (v34) :: (v35) :: (v36) :: (v37) :: (v38) :: (v39) :: (v40) :: (v41) :: (v42) :: (v43) :: (v44) :: (v45) :: (v46) :: (v47) :: (v48) :: (v49) :: (v50) :: (v51) :: (v52) :: (v53) :: (v54) :: (v55) :: (v56) :: (v57) :: (v58) :: (v59) :: (v60) :: (v61) :: (v62) :: (v63) :: (v64) :: (v65) :: (v66) :: (v67) :: (v68) :: (v69) :: (v70) :: (v71) :: (v72) :: (v73) :: (v74) :: (v75) :: (v76) :: (v77) :: (v78) :: (v79) :: (v80) :: (v81) :: (v82) :: (v83) :: (v84) :: (v85) :: []),[]⟩ w'):=by rw [hJ];exact fun v5 v7 v17 v18 v19 v20 v21 v22 v23 v24 v25 v26 v27 v28 v29 v30 v31 v32 v33 v34 v35 v36 v37 v38 v39 v40 v41 v42 v43 v44 v45 v46 v47 v48 v49 v50 v51 v52 v53 v54 v55 v56 v57 v58 v59 v60 v61 v62 v63 v64 v65 v66 v67 v68 v69 v70 v71 v72 v73 v74 v75 v76 v77 v78 v79 v80 v81 v82 v83 v84 v85 w' hb hd=>⟨v5,v7,v17,v18,v19,v20,v21,v22,v23,v24,v25,v26,v27,v28,v29,v30,v31,v32,v33,v34,v35,v36,v37,v38,v39,v40,v41,v42,v43,v44,v45,v46,v47,v48,v49,v50,v51,v52,v53,v54,v55,v56,v57,v58,v59,v60,v61,v62,v63,v64,v65,v66,v67,v68,v69,v70,v71,v72,v73,v74,v75,v76,v77,v78,v79,v80,v81,v82,v83,v84,v85,rfl,hb,hd⟩
  have HJE:Hid (∀ a' w',J a' w'->∃ (v5 v7 v17 v18 v19 v20 v21 v22 v23 v24 v25 v26 v27 v28 v29 v30 v31 v32 v33 v34 v35 v36 v37 v38 v39 v40 v41 v42 v43 v44 v45 v46 v47 v48 v49 v50 v51 v52 v53 v54 v55 v56 v57 v58 v59 v60 v61 v62 v63 v64 v65 v66 v67 v68 v69 v70 v71 v72 v73 v74 v75 v76 v77 v78 v79 v80 v81 v82 v83 v84 v85:Value),a'=⟨List.toArray ((Value.pointer (some { block:=b,off:=0 })) :: (undef) :: (Value.slice (some { block:=gl,off:=0 }) L.length lc) :: (Value.int IntKind.i64 ↑q) :: (Value.pointer (some { block:=tw,off:=0 })) :: (v5) :: (undef) :: (v7) :: (Value.pointer (some { block:=b,off:=0 })) :: (Value.slice (some { block:=gl,off:=0 }) L.length lc) :: (Value.slice (some { block:=gl,off:=0 }) L.length lc) :: (Value.int IntKind.i64 ↑L.length) :: (Value.int IntKind.i64 ↑q) :: (Value.bool true) :: (Value.int IntKind.i64 ↑q) :: (Value.pointer (some { block:=gl,off:=q * 2 })) :: (Value.agg #[Value.int IntKind.i64 di,Value.pointer (some { block:=gs,off:=t * 2 })]) :: (v17) :: (v18) :: (v19) :: (v20) :: (v21) :: (v22) :: (v23) :: (v24) :: (v25) :: (v26) :: (v27) :: (v28) :: (v29) :: (v30) :: (v31) :: (v32) :: (v33) :: (v34) :: (v35) :: (v36) :: (v37) :: (v38) :: (v39) :: (v40) :: (v41) :: (v42) :: (v43) :: (v44) :: (v45) :: (v46) :: (v47) :: (v48) :: (v49) :: (v50) :: (v51) :: (v52) :: (v53) :: (v54) :: (v55) :: (v56) :: (v57) :: (v58) :: (v59) :: (v60) :: (v61) :: (v62) :: (v63) :: (v64) :: (v65) :: (v66) :: (v67) :: (v68) :: (v69) :: (v70) :: (v71) :: (v72) :: (v73) :: (v74) :: (v75) :: (v76) :: (v77) :: (v78) :: (v79) :: (v80) :: (v81) :: (v82) :: (v83) :: (v84) :: (v85) :: []),[]⟩/\Below W3.heap.size W3 w'/\badT is (L.take q) cur (di,m,t)=true):=by rw [hJ];exact fun _ _ h=>h
  clear hJ;refine wp_scope_jumps 0 J (fun _ _=>0) rfl ?_ ?_
  rotate_left
  ·intro a' w' hJ9;obtain ⟨v5,v7,v17,v18,v19,v20,v21,v22,v23,v24,v25,v26,v27,v28,v29,v30,v31,v32,v33,v34,v35,v36,v37,v38,v39,v40,v41,v42,v43,v44,v45,v46,v47,v48,v49,v50,v51,v52,v53,v54,v55,v56,v57,v58,v59,v60,v61,v62,v63,v64,v65,v66,v67,v68,v69,v70,v71,v72,v73,v74,v75,v76,v77,v78,v79,v80,v81,v82,v83,v84,v85,rfl,B9,hbad⟩:=HJE.out a' w' hJ9;clear hJ9 HJ HJE;obtain ⟨n9,t9,k90,k91,f9,l9⟩:=HW3.out w' B9;have y1:w'.cell? ⟨tw,1,none⟩=some (.pointer (some ⟨gs,t * 2,none⟩)):=t9.cell 1;have f90:=f9 (t * 2);have f91:=f9 (t * 2+1);have HC9:=hide (HCL.out w' B9);have HE:Hid (runN is [] (L.take (q+1)) bs=clrS cur (di,m,t)):=by
    show _=_;rw [HTK.out];unfold stepN;rw [hbad];rfl
   clear n9 t9 f9 B9 hbad HCL HW3 CI;go_wp2;simp only [Exit.jump];go_wp2;go_roundw
   case rel=>exact ⟨q+1,by omega,by go_num,by rw [HE.out];exact HC9.out⟩
   case measure=>simp [intOf];omega
  refine wp_seq_k fun K0 hK0=>?_;refine zad (by kernel_rfl) [0,1,2,3,4,5,6,7,8,9,10] [] [] (fun i=>match i with|0=>.const [] (.pointer (some ⟨b,0,none⟩))|1=>.const [0] (.pointer (some ⟨b,0,none⟩))|2=>.const [1] (.pointer (some ⟨b,0,none⟩))|3=>.const [2] (.agg #[.slice a1 xs.length c1,.slice a2 ys.length c2,.slice a3 is.length c3,.slice a4 bs.length c4])|4=>.const [] (.pointer (some ⟨tw,1,none⟩))|5=>.const [4] (.pointer (some ⟨gs,t * 2,none⟩))|6=>.const [5] (.pointer (some ⟨gs,t * 2,none⟩))|7=>.const [6] (.pointer (some ⟨gs,t * 2+1,none⟩))|8=>.const [7] (.int .i64 si)|9=>.const [3,8] (.int .i64 kd)|10=>.const [9] (.int .i64 kd)|_=>.triv) (fun x=>⟨List.toArray ((.pointer (some ⟨b,0,none⟩))::(undef)::(.slice (some ⟨gl,0,none⟩) L.length lc)::(.int .i64 ↑q)::(.pointer (some ⟨tw,0,none⟩))::(x 10)::(undef)::(u7)::(.pointer (some ⟨b,0,none⟩))::(.slice (some ⟨gl,0,none⟩) L.length lc)::(.slice (some ⟨gl,0,none⟩) L.length lc)::(.int .i64 ↑L.length)::(.int .i64 ↑q)::(.bool true)::(.int .i64 ↑q)::(.pointer (some ⟨gl,q * 2,none⟩))::(.agg #[.int .i64 di,.pointer (some ⟨gs,t * 2,none⟩)])::(x 0)::(x 1)::(x 2)::(x 3)::(x 4)::(x 5)::(x 6)::(x 7)::(x 8)::(x 9)::(u27)::(u28)::(u29)::(u30)::(u31)::(u32)::(u33)::(u34)::(u35)::(u36)::(u37)::(u38)::(u39)::(u40)::(u41)::(u42)::(u43)::(u44)::(u45)::(u46)::(u47)::(u48)::(u49)::(u50)::(u51)::(u52)::(u53)::(u54)::(u55)::(u56)::(u57)::(u58)::(u59)::(u60)::(u61)::(u62)::(u63)::(u64)::(u65)::(u66)::(u67)::(u68)::(u69)::(u70)::(u71)::(u72)::(u73)::(u74)::(u75)::(u76)::(u77)::(u78)::(u79)::(u80)::(u81)::(u82)::(u83)::(u84)::(u85)::[]),[]⟩) (fun i=>match i with|0=>u17|1=>u18|2=>u19|3=>u20|4=>u21|5=>u22|6=>u23|7=>u24|8=>u25|9=>u26|10=>u5|_=>undef) rfl (zae (by kernel_rfl) (by kernel_rfl)) (by kernel_rfl) (by kernel_rfl) (by kernel_rfl) rfl ?_ ?_ (by intro q hq;cases hq)
  ·intro jo hj so x iw W hd hp K hK;simp only [List.mem_cons,List.not_mem_nil,or_false] at hj;rcases hj with rfl|rfl|rfl|rfl|rfl|rfl|rfl|rfl|rfl|rfl|rfl<;>refine wpOp_step (o:=_) rfl fun K' hK'=>?_<;>have HK:=hide (fun (v:Value) (W':World) h1 h2=>hK' _ _ (hK v W' h1 h2))<;>simp only [upd,Nat.reduceEqDiff,if_true,if_false] at HK
   ·clear hK hK' hp hd;go_simp;exact HK.out _ _ bR rfl
   ·have e0:x 0=.pointer (some ⟨b,0,none⟩):=hp.post 0 (hd 0 mz0);have bw:=zaa hp.bel;have l0:=(HW3.out W bw).1.a.lt;clear bw;simp only [e0] at HK ⊢;go_simp;exact HK.out _ _ bR rfl
   ·have e1:x 1=.pointer (some ⟨b,0,none⟩):=hp.post 1 (hd 1 mz0);simp only [e1] at HK ⊢;go_simp;exact HK.out _ _ bR rfl
   ·have e2:x 2=.pointer (some ⟨b,0,none⟩):=hp.post 2 (hd 2 mz0);have bw:=zaa hp.bel;have qa:=(HW3.out W bw).1.a;obtain ⟨k0,k1,k2,k3⟩:=AtC.four qa;clear bw qa;simp only [e2] at HK ⊢;go_simp;exact HK.out _ _ bR rfl
   ·clear hK hK' hp hd;go_simp;exact HK.out _ _ bR rfl
   ·have e4:x 4=.pointer (some ⟨tw,1,none⟩):=hp.post 4 (hd 4 mz0);have bw:=zaa hp.bel;have k0:W.cell? ⟨tw,1,none⟩=some (.pointer (some ⟨gs,t * 2,none⟩)):=(HW3.out W bw).2.1.cell 1;clear bw;simp only [e4] at HK ⊢;go_simp;exact HK.out _ _ bR rfl
   ·have e5:x 5=.pointer (some ⟨gs,t * 2,none⟩):=hp.post 5 (hd 5 mz0);have bw:=zaa hp.bel;have l0:=(HW3.out W bw).2.2.2.2.2;clear bw;simp only [e5] at HK ⊢;go_simp;exact HK.out _ _ bR rfl
   ·have e6:x 6=.pointer (some ⟨gs,t * 2,none⟩):=hp.post 6 (hd 6 mz0);simp only [e6] at HK ⊢;go_simp;exact HK.out _ _ bR rfl
   ·have e7:x 7=.pointer (some ⟨gs,t * 2+1,none⟩):=hp.post 7 (hd 7 mz0);have bw:=zaa hp.bel;have k0:=(HW3.out W bw).2.2.2.1;clear bw;simp only [e7] at HK ⊢;go_simp;exact HK.out _ _ bR rfl
   ·have e3:x 3=.agg #[.slice a1 xs.length c1,.slice a2 ys.length c2,.slice a3 is.length c3,.slice a4 bs.length c4]:=hp.post 3 (hd 3 mz0);have e8:x 8=.int .i64 si:=hp.post 8 (hd 8 mz1);have dr:=zaa hp.bel;simp only [e3,e8] at HK ⊢;clear e3 e8;go_simp;refine (CI.out W dr).mono ?_;rintro e w6 ⟨rfl,B6⟩;go_simp;exact HK.out _ _ B6 rfl
   ·have e9:x 9=.int .i64 kd:=hp.post 9 (hd 9 mz0);simp only [e9] at HK ⊢;go_simp;exact HK.out _ _ bR rfl
  ·intro x iw W hp;have e10:x 10=.int .i64 kd:=hp.post 10 (by decide);have B4:Below W3.heap.size W3 W:=zaa hp.bel;simp only [e10];clear hp e10;generalize x 0=yy0 at *;generalize x 1=yy1 at *;generalize x 2=yy2 at *;generalize x 3=yy3 at *;generalize x 4=yy4 at *;generalize x 5=yy5 at *;generalize x 6=yy6 at *;generalize x 7=yy7 at *;generalize x 8=yy8 at *;generalize x 9=yy9 at *;try rw [List.filterMap_nil]
   refine hK0 _ _ ?_;clear hK0;obtain ⟨n4,t4,k40,k41,f4,l4⟩:=HW3.out W B4;have y0:W.cell? ⟨tw,0,none⟩=some (.int .i64 di):=t4.cell 0;have y1:W.cell? ⟨tw,1,none⟩=some (.pointer (some ⟨gs,t * 2,none⟩)):=t4.cell 1;have f40:=f4 (t * 2);have f41:=f4 (t * 2+1);have HC4:=hide (HCL.out W B4);have HB4:=hide B4;clear n4 t4 f4 B4;by_cases hk0:kd=0
   ·subst hk0;have HE:Hid (runN is [] (L.take (q+1)) bs=clrS cur (di,m,t)):=by
     show _=_;rw [HTK.out];unfold stepN;rw [HBD.out];rfl
    clear hkd;go_wp2
    (go_step3;exact ⟨rfl,HJ.out _ _ _ _ _ _ _ _ _ _ _ _ _ _ _ _ _ _ _ _ _ _ _ _ _ _ _ _ _ _ _ _ _ _ _ _ _ _ _ _ _ _ _ _ _ _ _ _ _ _ _ _ _ _ _ _ _ _ _ _ _ _ _ _ _ _ _ _ _ _ _ _ HB4.out (by rw [HBD.out];rfl)⟩)
   have nk0:(kd == 0)=false:=by simp [hk0]
   by_cases hs1:si=1
   ·subst hs1;have HE:Hid (runN is [] (L.take (q+1)) bs=clrS cur (di,m,t)):=by
     show _=_;rw [HTK.out];unfold stepN;rw [HBD.out];simp
    clear hkd hk0;go_wp2
    (go_step3;exact ⟨rfl,HJ.out _ _ _ _ _ _ _ _ _ _ _ _ _ _ _ _ _ _ _ _ _ _ _ _ _ _ _ _ _ _ _ _ _ _ _ _ _ _ _ _ _ _ _ _ _ _ _ _ _ _ _ _ _ _ _ _ _ _ _ _ _ _ _ _ _ _ _ _ _ _ _ _ HB4.out (by rw [HBD.out];simp)⟩)
   have ns1:(si == 1)=false:=by simp [hs1]
   have HBE:Hid (badT is (L.take q) cur (di,m,t)=(L.take q).any (badA is cur (di,m,t))):=by
    show _=_;rw [HBD.out];simp [hk0,hs1]
   have HKD:=hide hkd;have hqc:L.length<=lc:=by
    obtain ⟨g9,c9,e,-,-,-,-,-,hc⟩:=HR.out.l.at q (by rw [zei];exact hlt);rw [zei] at hc;simp only [Value.slice.injEq] at e;omega
   clear hk0 hs1 hkd;have s0:(0:Int)<=(q:Int):=by omega
   have s1:(q:Int)<=(lc:Int):=by omega
   go_wp2_with fail
   go_loopw [41] (fun kv wr=>∃ a:Nat,a<=q/\kv=.int .i64 a/\Hid (Below W3.heap.size W3 wr/\(L.take a).any (badA is cur (di,m,t))=false)) (fun kv _=>q - (intOf kv).toNat)
   case atStart=>exact ⟨0,Nat.zero_le _,rfl,HB4.out,rfl⟩
   case round =>
    obtain ⟨a,ha,rfl,HA⟩:=hrel;clear y0 y1 k40 k41 f40 f41 HC4 HB4;have a0:(0:Int)<=(a:Int):=by omega
    by_cases hal:a < q
    rotate_left
    ·have a1':¬ ((a:Int) < (q:Int)):=by omega
     have HE:Hid (runN is [] (L.take (q+1)) bs=cur):=by
      show _=_;rw [HTK.out];unfold stepN;rw [HBE.out];have h1:=HA.out.2;rw [show a=q by omega] at h1;rw [h1];rfl
     have HQ:=hide (HW3.out wr HA.out.1).1;go_wp2;try simp only [Exit.jump]
     try go_wp2
     go_roundw
     case rel=>exact ⟨q+1,by omega,by go_num,by rw [HE.out];exact HQ.out⟩
     case measure=>simp [intOf];omega
    have a1':(a:Int) < (q:Int):=by omega
    have haL:a < L.length:=by omega
    have NR:=(HW3.out wr HA.out.1).1;obtain ⟨g',c',el,ka0,ka1,-,-,-,-⟩:=NR.l.at a (by rw [zei];exact haL);simp only [Value.slice.injEq,Option.some.injEq,Addr.mk.injEq] at el;obtain ⟨⟨rfl,-⟩,-,-⟩:=el;rw [paL_at tb L a haL] at ka0 ka1;simp only at ka0 ka1;have hma:=List.getElem_mem haL;obtain ⟨ga,ca,-,ea,-,-,-,-,-⟩:=zbk NR.d L[a] (HIT.out _ hma);rw [ea] at ka1;have HEA2:=hide ea;have HTA:Hid ((L.take (a+1)).any (badA is cur (di,m,t))=badA is cur (di,m,t) L[a]):=by
     show _=_;rw [List.take_succ_eq_append_getElem haL,List.any_append,HA.out.2];simp
    have HUP:Hid (badA is cur (di,m,t) L[a]=true->(L.take q).any (badA is cur (di,m,t))=true):=fun e=>List.any_eq_true.2 ⟨L[a],List.mem_take_iff_getElem.2 ⟨a,by omega,rfl⟩,e⟩;have hia:=HIT.out _ hma;obtain ⟨⟨da,ma,ta⟩,hta⟩:∃ x,L[a]=x:=⟨_,rfl⟩
    rw [hta] at ka0 ka1 HEA2 HTA HUP hia;simp only at ka0 ka1 HEA2;obtain ⟨⟨an,ai⟩,hsa⟩:∃ x,slotN cur (da,ma,ta)=x:=⟨_,rfl⟩
    have HBA:Hid (badA is cur (di,m,t) (da,ma,ta)=((decide (da=di) && decide (an=sn)) || (decide (kd=2) && decide (ai=si)))):=by
     show badA is cur (di,m,t) (da,ma,ta)=_;unfold badA;rw [hsa,HSL.out,HKD.out]
    obtain ⟨ab,hab⟩:∃ n,wr.heap.size=n:=⟨_,rfl⟩
    obtain ⟨W5,hW5⟩:∃ W,wr.alloc (.cells #[.int .i64 da,.pointer (some ⟨ga,ta * 2,none⟩)] 144)=W:=⟨_,rfl⟩
    have H5:Hid (Below W3.heap.size W3 W5/\AtC W5 ab 144 #[.int .i64 da,.pointer (some ⟨ga,ta * 2,none⟩)]):=by
     rw [← hW5,← hab];exact ⟨HA.out.1.alloc HA.out.1.size _,AtC.new wr 144 _⟩
    obtain ⟨n5,t5,k50,k51,f5,l5⟩:=HW3.out W5 H5.out.1;obtain ⟨g',c',-,ea',kb0,kb1,-,lga,-⟩:=zbk n5.d (da,ma,ta) hia;rw [HEA2.out] at ea';simp only [Addr.mk.injEq,and_true] at ea';subst ea';rw [hsa] at kb0 kb1;simp only at kb0 kb1;have y0:W5.cell? ⟨tw,0,none⟩=some (.int .i64 di):=t5.cell 0;have y1:W5.cell? ⟨tw,1,none⟩=some (.pointer (some ⟨gs,t * 2,none⟩)):=t5.cell 1;have y2:W5.cell? ⟨ab,0,none⟩=some (.int .i64 da):=H5.out.2.cell 0;have y3:W5.cell? ⟨ab,1,none⟩=some (.pointer (some ⟨ga,ta * 2,none⟩)):=H5.out.2.cell 1;have f50:=f5 (t * 2);have f51:=f5 (t * 2+1);have ltw:tw < W5.heap.size:=t5.lt;have lab:ab < W5.heap.size:=H5.out.2.lt;have HC5:Hid (∀ n,NS w (((W5.drewN n).setCell ⟨gs,t * 2,none⟩ (.string ⟨#[]⟩)).setCell ⟨gs,t * 2+1,none⟩ (.int .i64 0)) B b n0 #[.slice a1 xs.length c1,.slice a2 ys.length c2,.slice a3 is.length c3,.slice a4 bs.length c4] (.slice a1 xs.length c1) (.slice a2 ys.length c2) (.slice a3 is.length c3) (.slice a4 bs.length c4) ti tb xs ys is (clrS cur (di,m,t)) (.slice (some ⟨gl,0,none⟩) L.length lc) L):=fun n=>HCL.out _ (below_drewN H5.out.1 n);have HYES:Hid (badA is cur (di,m,t) (da,ma,ta)=true->badT is (L.take q) cur (di,m,t)=true):=fun e=>by
     rw [HBE.out,HUP.out e]
    clear n5 t5 f5 NR ea hma hia hta hsa HUP;by_cases hd:da=di
    ·have nd:(da == di)=true:=by simp [hd]
     by_cases hn:an=sn
     ·have nn:(an.toList == sn.toList)=true:=by simp [hn]
      have HE:=hide (HYES.out (by rw [HBA.out];simp [hd,hn]));clear HYES HBA HTA hd hn;go_upto_region 9 with fail
      clear hab hW5;go_quiet (fail)
      go_wp2
      (go_step3;exact ⟨rfl,HJ.out _ _ _ _ _ _ _ _ _ _ _ _ _ _ _ _ _ _ _ _ _ _ _ _ _ _ _ _ _ _ _ _ _ _ _ _ _ _ _ _ _ _ _ _ _ _ _ _ _ _ _ _ _ _ _ _ _ _ _ _ _ _ _ _ _ _ _ _ _ _ _ _ (below_drewN H5.out.1 _) HE.out⟩)
     ·have nn:(an.toList == sn.toList)=false:=zay hn;by_cases hk2:kd=2
      ·have nk2:(kd == 2)=true:=by simp [hk2]
       by_cases hi:ai=si
       ·have ni:(ai == si)=true:=by simp [hi]
        have HE:=hide (HYES.out (by rw [HBA.out];simp [hk2,hi]));clear HYES HBA HTA hd hn hk2 hi;go_upto_region 9 with fail
        clear hab hW5;go_quiet (fail)
        go_wp2
        (go_step3;exact ⟨rfl,HJ.out _ _ _ _ _ _ _ _ _ _ _ _ _ _ _ _ _ _ _ _ _ _ _ _ _ _ _ _ _ _ _ _ _ _ _ _ _ _ _ _ _ _ _ _ _ _ _ _ _ _ _ _ _ _ _ _ _ _ _ _ _ _ _ _ _ _ _ _ _ _ _ _ (below_drewN H5.out.1 _) HE.out⟩)
       ·have ni:(ai == si)=false:=by simp [hi]
        have HE:Hid ((L.take (a+1)).any (badA is cur (di,m,t))=false):=by show _=_;rw [HTA.out,HBA.out];simp [hi,hn]
        clear HYES HBA HTA hd hn hk2 hi;go_upto_region 9 with fail
        clear hab hW5;go_quiet (fail)
        go_wp2;go_roundw
        case rel=>exact ⟨a+1,by omega,by go_num,below_drewN H5.out.1 _,HE.out⟩
        case measure=>simp [intOf];omega
      ·have nk2:(kd == 2)=false:=by simp [hk2]
       have HE:Hid ((L.take (a+1)).any (badA is cur (di,m,t))=false):=by show _=_;rw [HTA.out,HBA.out];simp [hk2,hn]
       clear HYES HBA HTA hd hn hk2;go_upto_region 9 with fail
       clear hab hW5;go_quiet (fail)
       go_wp2;go_roundw
       case rel=>exact ⟨a+1,by omega,by go_num,below_drewN H5.out.1 _,HE.out⟩
       case measure=>simp [intOf];omega
    ·have nd:(da == di)=false:=by simp [hd]
     by_cases hk2:kd=2
     ·have nk2:(kd == 2)=true:=by simp [hk2]
      by_cases hi:ai=si
      ·have ni:(ai == si)=true:=by simp [hi]
       have HE:=hide (HYES.out (by rw [HBA.out];simp [hk2,hi]));clear HYES HBA HTA hd hk2 hi;go_upto_region 9 with fail
       clear hab hW5;go_quiet (fail)
       go_wp2
       (go_step3;exact ⟨rfl,HJ.out _ _ _ _ _ _ _ _ _ _ _ _ _ _ _ _ _ _ _ _ _ _ _ _ _ _ _ _ _ _ _ _ _ _ _ _ _ _ _ _ _ _ _ _ _ _ _ _ _ _ _ _ _ _ _ _ _ _ _ _ _ _ _ _ _ _ _ _ _ _ _ _ (below_drewN H5.out.1 _) HE.out⟩)
      ·have ni:(ai == si)=false:=by simp [hi]
       have HE:Hid ((L.take (a+1)).any (badA is cur (di,m,t))=false):=by show _=_;rw [HTA.out,HBA.out];simp [hi,hd]
       clear HYES HBA HTA hd hk2 hi;go_upto_region 9 with fail
       clear hab hW5;go_quiet (fail)
       go_wp2;go_roundw
       case rel=>exact ⟨a+1,by omega,by go_num,below_drewN H5.out.1 _,HE.out⟩
       case measure=>simp [intOf];omega
     ·have nk2:(kd == 2)=false:=by simp [hk2]
      have HE:Hid ((L.take (a+1)).any (badA is cur (di,m,t))=false):=by show _=_;rw [HTA.out,HBA.out];simp [hk2,hd]
      clear HYES HBA HTA hd hk2;go_upto_region 9 with fail
      clear hab hW5;go_quiet (fail)
      go_wp2;go_roundw
      case rel=>exact ⟨a+1,by omega,by go_num,below_drewN H5.out.1 _,HE.out⟩
      case measure=>simp [intOf];omega
namespace Kit
theorem DO.newBits {w w':World}{S S':Nat->Prop}{u v u' v' iv bv:Value}{xs ys xs' ys':List Bool}{is:List Ino}{bs:List Blk}(h:DO w S u v iv bv xs ys is bs)(hb:Below w.heap.size w w')(ht:Two w' w.heap.size u' v' xs' ys')(hs:∀ k,S k->S' k)(hn:∀ k,w.heap.size<=k->S' k):DO w' S' u' v' iv bv xs' ys' is bs:=by
 obtain ⟨ti,tb,hL⟩:=h.dl;obtain ⟨S1,S2,S3,h1,h2,h3,h4,h5,h6,h7⟩:=hL;refine ⟨fun k=>w.heap.size<=k,fun k=>S2 k/\k < w.heap.size,fun k=>S3 k/\k < w.heap.size,ti,tb,⟨ht.a.base_le (Nat.zero_le _),ht.b.base_le (Nat.zero_le _),ht.ne⟩,fun k hk=>hk.elim (fun e=>(ht.a.lt k e).1) (fun e=>(ht.b.lt k e).1),h3.bound.below hb nR,h4.bound.below hb nR,fun k hk=>⟨fun e=>by have:=e.2;omega,fun e=>by have:=e.2;omega⟩,fun k hk e=>h6 k hk.1 e.1,fun k hk=>?_⟩;rcases hk with hk | hk | hk
 ·exact hn k hk
 ·exact hs k (h7 k (.inr (.inl hk.1)))
 ·exact hs k (h7 k (.inr (.inr hk.1)))
end Kit
theorem zoc (b B:Nat)(a1 a2 a3 a4:Option Addr)(c1 c2 c3 c4:Nat)(xs ys:List Bool)(is:List Ino)(bs:List Blk)(w:World)(hBx:AtC w b 121 #[.slice a1 xs.length c1,.slice a2 ys.length c2,.slice (a3) is.length c3,.slice a4 bs.length c4])(h:DO w (fun k=>B<=k/\k≠b) (.slice a1 xs.length c1) (.slice a2 ys.length c2) (.slice (a3) is.length c3) (.slice a4 bs.length c4) xs ys is bs)(hO:zag xs ys is bs=true)(hB:B<=w.heap.size)(hBb:B<=b) :
  Calls Tryz.prog 95 #[.pointer (some ⟨b,0,none⟩)] w fun e w'=>e=.returned (.tuple #[])/\∃ u' v',AtC w' b 121 #[u',v',.slice a3 is.length c3,.slice a4 bs.length c4]/\DO w' (fun k=>B<=k/\k≠b) u' v' (.slice a3 is.length c3) (.slice a4 bs.length c4) (fB is bs) (fI is bs) (restL is bs) bs/\Chg (fun k=>B<=k) w w':=by
 have hX:=RX.of_ok hO;have HX:=hide hX;have HI8:=hide hX.r.hi;have HBW:=hide (And.intro hB hBb);obtain ⟨g3,e3⟩:∃ g3,a3=some ⟨g3,0,none⟩:=by
  obtain ⟨ti,tb,hL⟩:=h.dl;obtain ⟨g,c,e,h1,h2,h3,-⟩:=hL.ino 0 (by rw [hX.r.hi];decide);simp only [Value.slice.injEq] at e;exact ⟨g,e.1⟩
 subst e3;have CR:=hide (za2 (.slice a1 xs.length c1) (.slice a2 ys.length c2) (.slice (some ⟨g3,0,none⟩) is.length c3) (.slice a4 bs.length c4) xs ys is bs w h.dr hX.r);have HA:=hide hBx;obtain ⟨ti0,tb0,hL0⟩:=h.dl;have HL0:=hide hL0.bound.do_;have CH:=hide (fun (i:Int) (W:World)=>zdv i (.slice a1 xs.length c1) (.slice a2 ys.length c2) (.slice a4 bs.length c4) (some ⟨g3,0,none⟩) c3 W);rw [← hX.r.hi] at CH;have HL8:=hide (zah is bs);have HNE:Hid ((1:Int)∈reachL is bs):=(zbs hX.r).2 (Rch.root _);obtain ⟨x0,x1,x2,x3⟩:=AtC.four hBx;clear hX h hBx hO hB hBb hL0;go_enter Tryz.func95,Tryz.ntmps95
 go_wp2_with fail
 refine CR.out.mono ?_;rintro e w1 ⟨rv,rfl,R1,B1⟩;obtain ⟨gr,rc,er,-,-,hgr0,hgr1,-⟩:=R1.at 0 (by rw [zaf];exact List.length_pos_of_mem HNE.out);rw [zaf] at er;subst er;have H1:Hid (DO w1 (fun k=>(B<=k/\k≠b)/\k≠gr) (.slice a1 xs.length c1) (.slice a2 ys.length c2) (.slice (some ⟨g3,0,none⟩) is.length c3) (.slice a4 bs.length c4) xs ys (restQ is bs 0) bs/\AtC w1 b 121 #[.slice a1 xs.length c1,.slice a2 ys.length c2,.slice (some ⟨g3,0,none⟩) is.length c3,.slice a4 bs.length c4]/\ROwns w1 0 3 (.slice (some ⟨gr,0,none⟩) (reachL is bs).length rc) (ic (reachL is bs))/\Chg (fun k=>B<=k/\k≠b) w w1):=by
  rw [zgn];exact ⟨(HL0.out.below B1 nR).mono fun k hk=>⟨hk.1,by omega⟩,HA.out.over B1,R1.base_le (Nat.zero_le _),Chg.of_below B1⟩
 have hbr:b≠gr:=by have:=HA.out.lt;omega
 have HGR:Hid (b < w.heap.size/\w.heap.size<=gr):=⟨HA.out.lt,hgr0⟩
 clear R1 B1 CR HL0 x0 x1 x2 x3 HNE;go_wp2_with fail
 go_loopw [3] (fun kv wr=>∃ q:Nat,q<=8/\kv=.int .i64 ((q:Int)+1)/\Hid (DO wr (fun k=>(B<=k/\k≠b)/\k≠gr) (.slice a1 xs.length c1) (.slice a2 ys.length c2) (.slice (some ⟨g3,0,none⟩) is.length c3) (.slice a4 bs.length c4) xs ys (restQ is bs q) bs/\AtC wr b 121 #[.slice a1 xs.length c1,.slice a2 ys.length c2,.slice (some ⟨g3,0,none⟩) is.length c3,.slice a4 bs.length c4]/\ROwns wr 0 3 (.slice (some ⟨gr,0,none⟩) (reachL is bs).length rc) (ic (reachL is bs))/\Chg (fun k=>B<=k/\k≠b) w wr)) (fun kv _=>9 - (intOf kv).toNat)
 case atStart=>exact ⟨0,Nat.zero_le _,rfl,H1.out⟩
 case round =>
  obtain ⟨q,hq,rfl,HR⟩:=hrel;clear H1;obtain ⟨y0,y1,y2,y3⟩:=AtC.four HR.out.2.1;go_wp2_with fail
  refine (CH.out ((q:Int)+1) wr).mono ?_;rintro e w2 ⟨rfl,hw2⟩;have HB2:Hid (Below wr.heap.size wr w2):=by rw [hw2];exact (Below.refl _ wr).alloc nR _
  have H2:Hid (DO w2 (fun k=>(B<=k/\k≠b)/\k≠gr) (.slice a1 xs.length c1) (.slice a2 ys.length c2) (.slice (some ⟨g3,0,none⟩) is.length c3) (.slice a4 bs.length c4) xs ys (restQ is bs q) bs/\AtC w2 b 121 #[.slice a1 xs.length c1,.slice a2 ys.length c2,.slice (some ⟨g3,0,none⟩) is.length c3,.slice a4 bs.length c4]/\ROwns w2 0 3 (.slice (some ⟨gr,0,none⟩) (reachL is bs).length rc) (ic (reachL is bs))/\Chg (fun k=>B<=k/\k≠b) w w2):=⟨HR.out.1.below HB2.out nR,HR.out.2.1.over HB2.out,HR.out.2.2.1.below HB2.out nR,HR.out.2.2.2.trans (Chg.of_below HB2.out)⟩
  obtain ⟨z0,z1,z2,z3⟩:=AtC.four H2.out.2.1;clear hw2 y0 y1 y2 y3 HR HB2;by_cases hlt:q < 8
  rotate_left
  ·have hin:inB ((q:Int)+1) 1 8=false:=decide_eq_false (by omega);rw [hin];have hRX:=zld HX.out (show q<=8 from hq);have hSR:=zlc (q:=q) HX.out.r hq;have CB:=hide (zi6 (.slice a1 xs.length c1) (.slice a2 ys.length c2) (.slice (some ⟨g3,0,none⟩) is.length c3) (.slice a4 bs.length c4) xs ys (restQ is bs q) bs w2 H2.out.1.dr hRX);rw [hSR.fB HX.out.r hRX.r,hSR.fI HX.out.r hRX.r] at CB;have HQ8:Hid (restQ is bs q=restL is bs):=by show _=_;rw [show q=8 by omega];exact zi7 bs HI8.out
   clear hin hRX hSR;go_wp2_with fail
   refine CB.out.mono ?_;rintro e w5 ⟨u5,v5,rfl,T5,B5⟩;obtain ⟨ua,uc,rfl,-⟩:=T5.a.form;obtain ⟨va,vc,rfl,-⟩:=T5.b.form;rw [show (fc (fB is bs)).length=16 by simp [fc,fB]] at *;rw [show (fc (fI is bs)).length=8 by simp [fc,fI]] at *;have A5:=H2.out.2.1.over B5;have m0:w5.cell? ⟨b,0,none⟩=some (.slice a1 xs.length c1):=A5.cell 0;have m1:w5.cell? ⟨b,1,none⟩=some (.slice a2 ys.length c2):=A5.cell 1;have fz0:=A5.frozen 0;have fz1:=A5.frozen 1;have HE:Hid (AtC ((w5.setCell ⟨b,0,none⟩ (.slice ua 16 uc)).setCell ⟨b,1,none⟩ (.slice va 8 vc)) b 121 #[.slice ua 16 uc,.slice va 8 vc,.slice (some ⟨g3,0,none⟩) is.length c3,.slice a4 bs.length c4]/\DO ((w5.setCell ⟨b,0,none⟩ (.slice ua 16 uc)).setCell ⟨b,1,none⟩ (.slice va 8 vc)) (fun k=>B<=k/\k≠b) (.slice ua 16 uc) (.slice va 8 vc) (.slice (some ⟨g3,0,none⟩) is.length c3) (.slice a4 bs.length c4) (fB is bs) (fI is bs) (restL is bs) bs/\Chg (fun k=>B<=k) w ((w5.setCell ⟨b,0,none⟩ (.slice ua 16 uc)).setCell ⟨b,1,none⟩ (.slice va 8 vc))):=by
    have hsz:=H2.out.2.2.2.size;have hg1:=HGR.out.1;have hb1:=HBW.out.1;have hbb:=HBW.out.2;have hd:=(HQ8.out ▸ H2.out.1).newBits (S':=(fun k=>B<=k/\k≠b)) B5 T5 (fun k hk=>hk.1) (fun k hk=>⟨by omega,by omega⟩);refine ⟨(A5.set 0 _).set 1 _,?_,((((H2.out.2.2.2.trans (Chg.of_below B5)).mono (S':=fun k=>B<=k) fun k hk=>hk.1).setCell hbb _).setCell hbb _)⟩;exact hd.of_heap fun k hk _=>(heap_setCell_other _ ⟨b,1,none⟩ k _ hk.2).trans (heap_setCell_other _ ⟨b,0,none⟩ k _ hk.2)
   clear A5 T5 B5 CB H2;go_wp2
   go_end0
   exact ⟨rfl,_,_,HE.out⟩
  have hin:inB ((q:Int)+1) 1 8=true:=decide_eq_true (by omega);rw [hin];have q0:(0:Int)<=(q:Int):=by omega
  have q1:(q:Int) < (is.length:Int):=by have:=HI8.out;omega
  have hwq:IntKind.i64.wrap (q:Int)=(q:Int):=wrap_small _ (by omega) (by omega);have HQL:Hid (q < (restQ is bs q).length):=by show _ < _;rw [zcl bs HI8.out hq];exact hlt
  have HSET:=hide (zi8 bs HI8.out hlt);have HQI:Hid ((restQ is bs q)[q]'HQL.out=is[q]'(by rw [HI8.out];exact hlt)):=zdd bs HI8.out hq nR _ _;have HRI:Hid (restI is bs q=if (reachL is bs).contains ((q:Int)+1)=true then ((is[q]'(by rw [HI8.out];exact hlt)).1,lnkV is bs q,(is[q]'(by rw [HI8.out];exact hlt)).2.2) else (0,0,[0,0])):=by
   show restI is bs q=_;unfold restI;rw [zap (by rw [HI8.out];exact hlt)]
  have CC:=hide (fun W (hv:ROwns W 0 3 (.slice (some ⟨gr,0,none⟩) (reachL is bs).length rc) (ic (reachL is bs)))=>ze3 (.slice (some ⟨gr,0,none⟩) (reachL is bs).length rc) (reachL is bs) ((q:Int)+1) W hv.rints (by have:=HL8.out;omega));have HW:Hid (∀ W,Below w2.heap.size w2 W->DO W (fun k=>(B<=k/\k≠b)/\k≠gr) (.slice a1 xs.length c1) (.slice a2 ys.length c2) (.slice (some ⟨g3,0,none⟩) is.length c3) (.slice a4 bs.length c4) xs ys (restQ is bs q) bs/\AtC W b 121 #[.slice a1 xs.length c1,.slice a2 ys.length c2,.slice (some ⟨g3,0,none⟩) is.length c3,.slice a4 bs.length c4]/\ROwns W 0 3 (.slice (some ⟨gr,0,none⟩) (reachL is bs).length rc) (ic (reachL is bs))/\Chg (fun k=>B<=k/\k≠b) w W/\(∃ v0,W.cell? ⟨g3,q * 3,none⟩=some v0)/\(∃ v0,W.cell? ⟨g3,q * 3+1,none⟩=some v0)/\(∃ v0,W.cell? ⟨g3,q * 3+2,none⟩=some v0)/\(∀ k,W.frozen? ⟨g3,k,none⟩=false)/\g3 < W.heap.size/\((B<=g3/\g3≠b)/\g3≠gr)):=fun W hb=>by
   have d1:=H2.out.1.below hb nR;obtain ⟨⟨j1,j2,j3,k1,k2,k3,-⟩,j7,j8,-,j9⟩:=d1.atI rfl q HQL.out;exact ⟨d1,H2.out.2.1.over hb,H2.out.2.2.1.below hb nR,H2.out.2.2.2.trans (Chg.of_below hb),⟨_,k1⟩,⟨_,k2⟩,⟨_,k3⟩,j7,j8,j9⟩
  obtain ⟨-,-,R2,-,⟨v0,k0⟩,⟨v1,k1⟩,⟨v2,k2⟩,f3',l3,hS3⟩:=HW.out w2 bR;have f30:=f3' (q * 3);have f31:=f3' (q * 3+1);have f32:=f3' (q * 3+2);have hbw:b < w2.heap.size:=H2.out.2.1.lt;have HR2:=hide R2;clear hin f3' R2;go_wp2_with fail
  refine (CC.out w2 HR2.out).mono ?_;rintro e w3 ⟨rfl,hw3⟩;subst hw3
  cases hc:(reachL is bs).contains ((q:Int)+1) with
  | false =>
   rw [hc,if_neg (by decide)] at HRI;have CN:=hide (fun W=>zel 0 W);go_wp2_with fail
   refine (CN.out _).mono ?_;rintro e w5 ⟨nv,rfl,O5,B5⟩;obtain ⟨na,nc,rfl⟩:=O5.form2;obtain ⟨D5,A5,R5,C5,⟨t0,j0⟩,⟨t1,j1⟩,⟨t2,j2⟩,fz,l5,hS5⟩:=HW.out w5 B5;have fz0:=fz (q * 3);have fz1:=fz (q * 3+1);have fz2:=fz (q * 3+2);have HE:Hid (DO (((w5.setCell ⟨g3,q * 3,none⟩ (.int .i64 0)).setCell ⟨g3,q * 3+1,none⟩ (.int .i64 (zau 0))).setCell ⟨g3,q * 3+2,none⟩ (.slice na 2 nc)) (fun k=>(B<=k/\k≠b)/\k≠gr) (.slice a1 xs.length c1) (.slice a2 ys.length c2) (.slice (some ⟨g3,0,none⟩) is.length c3) (.slice a4 bs.length c4) xs ys (restQ is bs (q+1)) bs/\AtC (((w5.setCell ⟨g3,q * 3,none⟩ (.int .i64 0)).setCell ⟨g3,q * 3+1,none⟩ (.int .i64 (zau 0))).setCell ⟨g3,q * 3+2,none⟩ (.slice na 2 nc)) b 121 #[.slice a1 xs.length c1,.slice a2 ys.length c2,.slice (some ⟨g3,0,none⟩) is.length c3,.slice a4 bs.length c4]/\ROwns (((w5.setCell ⟨g3,q * 3,none⟩ (.int .i64 0)).setCell ⟨g3,q * 3+1,none⟩ (.int .i64 (zau 0))).setCell ⟨g3,q * 3+2,none⟩ (.slice na 2 nc)) 0 3 (.slice (some ⟨gr,0,none⟩) (reachL is bs).length rc) (ic (reachL is bs))/\Chg (fun k=>B<=k/\k≠b) w (((w5.setCell ⟨g3,q * 3,none⟩ (.int .i64 0)).setCell ⟨g3,q * 3+1,none⟩ (.int .i64 (zau 0))).setCell ⟨g3,q * 3+2,none⟩ (.slice na 2 nc))):=by
    have hsz:=H2.out.2.2.2.size;have hg1:=HGR.out;have hb1:=HBW.out.1;have hgr2:=(HR2.out.lt gr rfl).2;rw [← HSET.out,HRI.out];refine ⟨(H2.out.1.putI rfl q HQL.out (.int .i64 0,.int .i64 (zau 0),.slice na 2 nc) (0,0,[0,0]) B5 ⟨rfl,rfl,O5.base_le (Nat.zero_le _)⟩ (fun k hk=>(O5.lt k hk).1)).mono fun k hk=>hk.elim id (fun e=>⟨⟨by omega,by omega⟩,by omega⟩),((A5.other (fun e=>hS5.1.2 e.symm) _).other (fun e=>hS5.1.2 e.symm) _).other (fun e=>hS5.1.2 e.symm) _,?_,((C5.setCell hS5.1 _).setCell hS5.1 _).setCell hS5.1 _⟩;exact R5.of_heap fun k hk=>by
     have e:k=gr:=by simpa [Value.ownBlock] using hk.symm
     subst e;exact ((heap_setCell_other _ ⟨g3,q * 3+2,none⟩ k _ (fun e=>hS5.2 e.symm)).trans (heap_setCell_other _ ⟨g3,q * 3+1,none⟩ k _ (fun e=>hS5.2 e.symm))).trans (heap_setCell_other _ ⟨g3,q * 3,none⟩ k _ (fun e=>hS5.2 e.symm))
   clear D5 A5 R5 C5 O5 B5 fz hc k0 k1 k2 f30 f31 f32;go_wp2;go_roundw
   case rel=>exact ⟨q+1,by omega,by go_num,HE.out⟩
   case measure=>simp [intOf];omega
  | true =>
   rw [hc,if_pos rfl] at HRI;have HLNK:Hid (∀ W z,Below w3.heap.size w3 W->lnkV is bs q=z->DO (W.setCell ⟨g3,q * 3+1,none⟩ (.int .i64 z)) (fun k=>(B<=k/\k≠b)/\k≠gr) (.slice a1 xs.length c1) (.slice a2 ys.length c2) (.slice (some ⟨g3,0,none⟩) is.length c3) (.slice a4 bs.length c4) xs ys (restQ is bs (q+1)) bs/\AtC (W.setCell ⟨g3,q * 3+1,none⟩ (.int .i64 z)) b 121 #[.slice a1 xs.length c1,.slice a2 ys.length c2,.slice (some ⟨g3,0,none⟩) is.length c3,.slice a4 bs.length c4]/\ROwns (W.setCell ⟨g3,q * 3+1,none⟩ (.int .i64 z)) 0 3 (.slice (some ⟨gr,0,none⟩) (reachL is bs).length rc) (ic (reachL is bs))/\Chg (fun k=>B<=k/\k≠b) w (W.setCell ⟨g3,q * 3+1,none⟩ (.int .i64 z))):=fun W z hb hz=>by
    obtain ⟨D5,A5,R5,C5,-,-,-,-,-,hS5⟩:=HW.out W hb;obtain ⟨ti,tb,hL⟩:=D5.dl;rw [← HSET.out,HRI.out,hz,← HQI.out];refine ⟨(hL.setLinks q HQL.out rfl z).1,A5.other (fun e=>hS5.1.2 e.symm) _,?_,C5.setCell hS5.1 _⟩;exact R5.of_heap fun k hk=>by
     have e:k=gr:=by simpa [Value.ownBlock] using hk.symm
     subst e;exact heap_setCell_other _ ⟨g3,q * 3+1,none⟩ k _ (fun e=>hS5.2 e.symm)
   clear hc;by_cases hq0:q=0
   ·subst hq0;have HE:=hide (HLNK.out w3 1 bR rfl);go_wp2;go_roundw
    case rel=>exact ⟨0+1,by omega,by go_num,HE.out⟩
    case measure=>simp [intOf]
   ·have n0:((q:Int)+1 == 1)=false:=by simp;omega
    have hRX:=zld HX.out (show q<=8 from hq);have CL:=hide (zcq ((q:Int)+1) (.slice a1 xs.length c1) (.slice a2 ys.length c2) (.slice (some ⟨g3,0,none⟩) is.length c3) (.slice a4 bs.length c4) xs ys (restQ is bs q) bs w3 H2.out.1.dr hRX.r);rw [(zlc (q:=q) HX.out.r hq).links HX.out.r hRX.r] at CL;have HLV:Hid (lnkV is bs q=(zan is bs ((q:Int)+1):Int)):=by show lnkV is bs q=_;unfold lnkV;exact if_neg hq0
    obtain ⟨nl,hnl⟩:∃ n,zan is bs ((q:Int)+1)=n:=⟨_,rfl⟩
    rw [hnl] at CL HLV;clear hRX hq0 hnl;go_wp2_with fail
    refine CL.out.mono ?_;rintro e w5 ⟨rfl,B5⟩;obtain ⟨D5,A5,R5,C5,-,⟨t1,j1⟩,-,fz,l5,hS5⟩:=HW.out w5 B5;have fz1:=fz (q * 3+1);have HE:=hide (HLNK.out w5 nl B5 HLV.out);clear D5 A5 R5 C5 B5 fz k0 k1 k2 f30 f31 f32;go_wp2;go_roundw
    case rel=>exact ⟨q+1,by omega,by go_num,HE.out⟩
    case measure=>simp [intOf];omega
namespace Kit
def MkF (k:Nat) (xs:List Bool):Mk:=.val [k] (fun lo hi w v=>∃ a c,v=.slice a xs.length c/\ROwns w lo 4 v (fc xs)/\∀ i,v.ownBlock=some i->i < hi)
 (fun _ _ _ _ _ h hb=>by obtain ⟨a,c,h1,h2,h3⟩:=h;exact ⟨a,c,h1,h2.below hb nR,h3⟩)
def Mk2 (k l n m:Nat):Mk:=⟨[k,l],fun _ _ _ v x=>∃ a c a' c',x k=.slice a n c/\x l=.slice a' m c'/\v=.agg #[.slice a n c,.slice a' m c'],fun _ _ _ _ _ _ h _=>h,fun _ _ _ _ x x' e h=>by
 obtain ⟨a,c,a',c',h1,h2,h3⟩:=h;exact ⟨a,c,a',c',by rw [← e k (by simp),h1],by rw [← e l (by simp),h2],h3⟩⟩
def Mk4 (k n m:Nat):Mk:=⟨[k],fun _ _ _ v x=>∃ a c a' c',x k=.agg #[.slice a n c,.slice a' m c']/\v=.agg #[.slice a n c,.slice a' m c',.slice none 0 0,.slice none 0 0],fun _ _ _ _ _ _ h _=>h,fun _ _ _ _ x x' e h=>by
 obtain ⟨a,c,a',c',h1,h3⟩:=h;exact ⟨a,c,a',c',by rw [← e k (by simp),h1],h3⟩⟩
def MkV (T:TypeId) (Z:Array Value):Mk:=.val [] (fun lo hi w v=>v=.pointer (some ⟨lo,0,none⟩)/\hi=lo+1/\AtC w lo T Z) (fun _ _ _ _ _ h hb=>⟨h.1,h.2.1,h.2.2.over hb⟩)
theorem zod {w W:World}{A:Array Value}{b:Nat}{u v:Value}{xs ys:List Bool}(hA:AtC W w.heap.size 35 A)(hR:AtC W (w.heap.size+1) 35 noD)(hb:AtC W b 35 noD)(T:Two W (w.heap.size+1+1) u v xs ys)(hne:∀ k,(u.ownBlock=some k\/v.ownBlock=some k)->k≠b)
  (bel:Below w.heap.size w W) (hbb:w.heap.size+1 < b):Dz w ((((W.setCell ⟨b,0,none⟩ u).setCell ⟨b,1,none⟩ v).setCell ⟨b,2,none⟩ (.slice none 0 0)).setCell ⟨b,3,none⟩ (.slice none 0 0)) A b u v (.slice none 0 0) (.slice none 0 0) xs ys [] []:=by
 have hoth:∀ k,k≠b->((((W.setCell ⟨b,0,none⟩ u).setCell ⟨b,1,none⟩ v).setCell ⟨b,2,none⟩ (.slice none 0 0)).setCell ⟨b,3,none⟩ (.slice none 0 0)).heap[k]?=W.heap[k]?:=fun k hk =>
  (((heap_setCell_other _ ⟨b,3,none⟩ k _ hk).trans (heap_setCell_other _ ⟨b,2,none⟩ k _ hk)).trans (heap_setCell_other _ ⟨b,1,none⟩ k _ hk)).trans (heap_setCell_other _ ⟨b,0,none⟩ k _ hk)
 refine ⟨(hoth _ (by omega)).trans hA,(hoth _ (by omega)).trans hR,(((hb.set 0 u).set 1 v).set 2 (.slice none 0 0)).set 3 (.slice none 0 0),?_,(((bel.setCell (by show w.heap.size<=b;omega) _).setCell (by show w.heap.size<=b;omega) _).setCell (by show w.heap.size<=b;omega) _).setCell (by show w.heap.size<=b;omega) _,hbb⟩;have hlt:∀ k,(u.ownBlock=some k\/v.ownBlock=some k)->w.heap.size+1 < k/\k≠b:=fun k hk=>⟨hk.elim (fun e=>by have:=T.a.lt k e;omega) (fun e=>by have:=T.b.lt k e;omega),hne k hk⟩
 refine ⟨fun k=>u.ownBlock=some k\/v.ownBlock=some k,fun _=>False,fun _=>False,[],[],⟨(T.a.of_heap fun k hk=>hoth k (hne k (.inl hk))).base_le (Nat.zero_le _),(T.b.of_heap fun k hk=>hoth k (hne k (.inr hk))).base_le (Nat.zero_le _),T.ne⟩,fun k hk=>hk,⟨rfl,TOwns.nil _ _,fun j hj=>by simp at hj,fun i j hi=>by simp at hi,fun j hj=>by simp at hj,(fun k e=>by cases e),fun j hj=>by simp at hj⟩,⟨rfl,TOwns.nil _ _,fun j hj=>by simp at hj,fun i j hi=>by simp at hi,fun j hj=>by simp at hj,(fun k e=>by cases e),fun j hj=>by simp at hj⟩,fun k hk=>⟨id,id⟩,fun k hk=>hk.elim,fun k hk=>hk.elim (hlt k) (fun e=>e.elim (fun e=>e.elim) (fun e=>e.elim))⟩
end Kit
theorem zka (u v iv bv:Value)(xs ys:List Bool)(is:List Ino)(bs:List Blk)(w:World)(h:DR w u v iv bv xs ys is bs)(hB:Big 1048576 xs ys is bs) :
  Calls Tryz.prog 96 #[.agg #[u,v,iv,bv]] w fun e w'=>∃ u' v' i' b',e=.returned (.agg #[u',v',i',b'])/\DO w' (fun k=>w.heap.size<=k) u' v' i' b' xs ys is bs/\Below w.heap.size w w':=by
 have H:=hide h;have HG:=hide hB;have hil:is.length<=1048576:=hB.i;have hbl:bs.length<=1048576:=hB.b;obtain ⟨a1,c1,a2,c2,a3,c3,a4,c4,rfl,rfl,rfl,rfl⟩:=h.form;clear hB h;go_enter Tryz.func96,Tryz.ntmps96
 go_wp2_with fail
 have HC:Hid (∀ W,Below ((w.alloc (.cells #[.slice a1 xs.length c1,.slice a2 ys.length c2,.slice a3 is.length c3,.slice a4 bs.length c4] 35)).alloc (.cells noD 35)).drew.heap.size ((w.alloc (.cells #[.slice a1 xs.length c1,.slice a2 ys.length c2,.slice a3 is.length c3,.slice a4 bs.length c4] 35)).alloc (.cells noD 35)).drew W->AtC W w.heap.size 35 #[.slice a1 xs.length c1,.slice a2 ys.length c2,.slice a3 is.length c3,.slice a4 bs.length c4]/\AtC W (w.heap.size+1) 35 noD/\Below w.heap.size w W/\w.heap.size+1+1<=W.heap.size):=fun W b=>by
  have b2:=zaa b;have k1:=(AtC.new (w.alloc (.cells #[.slice a1 xs.length c1,.slice a2 ys.length c2,.slice a3 is.length c3,.slice a4 bs.length c4] 35)) 35 noD).over b2;have sz:=b2.size;simp at k1 sz;exact ⟨((AtC.new w 35 _).alloc _).over b2,k1,(((Below.refl _ w).alloc nR _).alloc (by simp) _).trans (b2.mono (by simp;omega)),sz⟩
 refine zbb (by kernel_rfl) [0,1,2,3,4,5,6,7,8,9,10] [11] (fun i=>match i with|0=>.const [] (.pointer (some ⟨w.heap.size,0,none⟩))|1=>.const [0] (.pointer (some ⟨w.heap.size,0,none⟩))|2=>.const [1] (.slice a1 xs.length c1)|3=>MkF 2 xs|4=>.const [] (.pointer (some ⟨w.heap.size,0,none⟩))|5=>.const [4] (.pointer (some ⟨w.heap.size,1,none⟩))|6=>.const [5] (.slice a2 ys.length c2)|7=>MkF 6 ys|8=>Mk2 3 7 xs.length ys.length|9=>Mk4 8 xs.length ys.length|10=>MkV 35 noD|_=>.triv) (fun x=>⟨#[.agg #[.slice a1 xs.length c1,.slice a2 ys.length c2,.slice a3 is.length c3,.slice a4 bs.length c4],.pointer (some ⟨w.heap.size,0,none⟩),.pointer (some ⟨w.heap.size+1,0,none⟩),x 10,undef,undef,undef,undef,x 0,x 1,x 2,x 3,x 4,x 5,x 6,x 7,x 8,x 9,undef,undef,undef,undef,undef,undef,undef,undef,undef,undef,undef,undef,undef,undef,undef,undef,undef,undef,undef,undef,undef,undef,undef,undef,undef,undef,undef,undef,undef,undef,undef,undef,undef,undef],[]⟩) (fun i=>match i with|0=>undef|1=>undef|2=>undef|3=>undef|4=>undef|5=>undef|6=>undef|7=>undef|8=>undef|9=>undef|10=>undef|_=>undef) rfl (by kernel_rfl) (by kernel_rfl) (by kernel_rfl) rfl ?_ ?_
 ·intro jo hj so x iw W hd hp K hK;simp only [List.mem_cons,List.not_mem_nil,or_false] at hj;rcases hj with rfl|rfl|rfl|rfl|rfl|rfl|rfl|rfl|rfl|rfl|rfl<;>refine wpOp_step (o:=_) rfl fun K' hK'=>?_<;>have HK:=hide (fun (v:Value) (W':World) h1 h2=>hK' _ _ (hK v W' h1 h2))<;>simp only [upd,Nat.reduceEqDiff,if_true,if_false] at HK
  ·clear hK hK' hp hd;go_simp;exact HK.out _ _ bR rfl
  ·have e0:x 0=.pointer (some ⟨w.heap.size,0,none⟩):=hp.post 0 (hd 0 mz0);simp only [e0] at HK ⊢;go_simp;exact HK.out _ _ bR rfl
  ·have e1:x 1=.pointer (some ⟨w.heap.size,0,none⟩):=hp.post 1 (hd 1 mz0);have q0:W.cell? ⟨w.heap.size,0,none⟩=some (.slice a1 xs.length c1):=(HC.out W hp.bel).1.cell 0;simp only [e1] at HK ⊢;go_simp;exact HK.out _ _ bR rfl
  ·have e2:x 2=.slice a1 xs.length c1:=hp.post 2 (hd 2 mz0);have bl:=(HC.out W hp.bel).2.2.1;simp only [e2] at HK ⊢;go_simp;refine (zk6 _ xs W (H.out.a.below bl nR) HG.out.x).mono ?_;rintro e w6 ⟨p6,rfl,O6,B6⟩;obtain ⟨a6,c6,rfl⟩:=O6.rfl.form;go_simp;exact HK.out _ _ B6 ⟨a6,c6,rfl,O6,fun i hi=>(O6.lt i hi).2⟩
  ·clear hK hK' hp hd;go_simp;exact HK.out _ _ bR rfl
  ·have e4:x 4=.pointer (some ⟨w.heap.size,0,none⟩):=hp.post 4 (hd 4 mz0);simp only [e4] at HK ⊢;go_simp;exact HK.out _ _ bR rfl
  ·have e5:x 5=.pointer (some ⟨w.heap.size,1,none⟩):=hp.post 5 (hd 5 mz0);have q0:W.cell? ⟨w.heap.size,1,none⟩=some (.slice a2 ys.length c2):=(HC.out W hp.bel).1.cell 1;simp only [e5] at HK ⊢;go_simp;exact HK.out _ _ bR rfl
  ·have e6:x 6=.slice a2 ys.length c2:=hp.post 6 (hd 6 mz0);have bl:=(HC.out W hp.bel).2.2.1;simp only [e6] at HK ⊢;go_simp;refine (zk6 _ ys W (H.out.b.below bl nR) HG.out.y).mono ?_;rintro e w6 ⟨p6,rfl,O6,B6⟩;obtain ⟨a6,c6,rfl⟩:=O6.rfl.form;go_simp;exact HK.out _ _ B6 ⟨a6,c6,rfl,O6,fun i hi=>(O6.lt i hi).2⟩
  ·have e3:∃ a c,x 3=.slice a xs.length c/\ROwns W (iw 3).1 4 (x 3) (fc xs)/\∀ i,(x 3).ownBlock=some i->i < (iw 3).2:=hp.post 3 (hd 3 mz0);have e7:∃ a c,x 7=.slice a ys.length c/\ROwns W (iw 7).1 4 (x 7) (fc ys)/\∀ i,(x 7).ownBlock=some i->i < (iw 7).2:=hp.post 7 (hd 7 mz1);obtain ⟨a5,c5,e3,-⟩:=e3;obtain ⟨a6,c6,e7,-⟩:=e7;have HE:=hide (And.intro e3 e7);simp only [e3,e7] at HK ⊢;clear e3 e7;go_simp;exact HK.out _ _ bR ⟨a5,c5,a6,c6,by rw [za8 _ _ _ _ (by decide)];exact HE.out.1,by rw [za8 _ _ _ _ (by decide)];exact HE.out.2,rfl⟩
  ·have e8:∃ a c a' c',x 3=.slice a xs.length c/\x 7=.slice a' ys.length c'/\x 8=.agg #[.slice a xs.length c,.slice a' ys.length c']:=hp.post 8 (hd 8 mz0);obtain ⟨a5,c5,a6,c6,-,-,e8⟩:=e8;have HE:=hide e8;simp only [e8] at HK ⊢;clear e8;go_simp;exact HK.out _ _ bR ⟨a5,c5,a6,c6,by rw [za8 _ _ _ _ (by decide)];exact HE.out,rfl⟩
  ·clear hK hK' hp hd;go_simp;exact HK.out _ _ ((Below.refl _ W).alloc nR _) ⟨rfl,by simp,AtC.new W 35 _⟩
 ·intro x iw W hp;obtain ⟨a5,c5,e3,O3,own3⟩:=hp.post 3 (by decide);obtain ⟨a6,c6,e7,O7,own7⟩:=hp.post 7 (by decide);obtain ⟨a5',c5',a6',c6',f3,f7,e8⟩:=hp.post 8 (by decide);obtain ⟨a5'',c5'',a6'',c6'',g8,e9⟩:=hp.post 9 (by decide);obtain ⟨e10,z10,A10⟩:=hp.post 10 (by decide);rw [e3] at f3;rw [e7] at f7;rw [e8] at g8;simp only [Value.slice.injEq,true_and] at f3 f7;obtain ⟨rfl,rfl⟩:=f3;obtain ⟨rfl,rfl⟩:=f7;simp only [Value.agg.injEq,Array.mk.injEq,List.cons.injEq,Value.slice.injEq,true_and,and_true] at g8;obtain ⟨⟨rfl,rfl⟩,rfl,rfl⟩:=g8;have p37:=hp.apart 3 (by decide) 7 (by decide) (by decide);have p310:=hp.apart 3 (by decide) 10 (by decide) (by decide);have p710:=hp.apart 7 (by decide) 10 (by decide) (by decide);have l3:=hp.lo 3 (by decide);have l7:=hp.lo 7 (by decide);have l10:=hp.lo 10 (by decide);simp [World.drew] at l3 l7 l10;obtain ⟨kA,kR,bel,-⟩:=HC.out W hp.bel;have hT:Two W (w.heap.size+1+1) (.slice a5 xs.length c5) (.slice a6 ys.length c6) xs ys:=by
   rw [e3] at O3 own3;rw [e7] at O7 own7;exact ⟨O3.base_le l3.1,O7.base_le l7.1,fun k h1 h2=>by have:=own3 k h1;have:=own7 k h2;have:=(O3.lt k h1).1;have:=(O7.lt k h2).1;omega⟩
  have hne:∀ k,((Value.slice a5 xs.length c5).ownBlock=some k\/(Value.slice a6 ys.length c6).ownBlock=some k)->k≠(iw 10).1:=fun k hk=>by
   rw [e3] at O3 own3;rw [e7] at O7 own7;rcases hk with hk | hk
   ·have:=own3 k hk;have:=(O3.lt k hk).1;omega
   ·have:=own7 k hk;have:=(O7.lt k hk).1;omega
  have D0:=zod kA kR A10 hT hne bel (by omega);obtain ⟨y0,y1,y2,y3⟩:=AtC.four A10;have z0:=A10.frozen 0;have z1:=A10.frozen 1;have z2:=A10.frozen 2;have z3:=A10.frozen 3;generalize (iw 10).1=b at *;have HD:=hide D0;clear hp own3 own7 O3 O7 hne kA kR bel z10 p37 p310 p710 l3 l7 l10 D0 hT A10 HC;simp only [e3,e7,e8,e9,e10];clear e3 e7 e8 e9 e10;go_wp2_with fail
  rw [List.filterMap_nil];obtain ⟨W1,hW1⟩:∃ W1,(((W.setCell ⟨b,0,none⟩ (.slice a5 xs.length c5)).setCell ⟨b,1,none⟩ (.slice a6 ys.length c6)).setCell ⟨b,2,none⟩ (.slice none 0 0)).setCell ⟨b,3,none⟩ (.slice none 0 0)=W1:=⟨_,rfl⟩
  rw [hW1] at HD ⊢;have q2:W1.cell? ⟨w.heap.size,2,none⟩=some (.slice a3 is.length c3):=HD.out.arg.cell 2;clear y0 y1 y2 y3 z0 z1 z2 z3 hW1;go_wp2;go_loopw [21] (fun i wr=>∃ j:Nat,j<=is.length/\i=.int .i64 j/\Hid (∃ iv,Dz w wr #[.slice a1 xs.length c1,.slice a2 ys.length c2,.slice a3 is.length c3,.slice a4 bs.length c4] b (.slice a5 xs.length c5) (.slice a6 ys.length c6) iv (.slice none 0 0) xs ys (is.take j) [])) (fun i _=>is.length - (intOf i).toNat)
  case atStart=>exact ⟨0,Nat.zero_le _,rfl,_,HD.out⟩
  case round =>
   obtain ⟨j,hj,rfl,HR⟩:=hrel;obtain ⟨iv,hds⟩:=HR.out;by_cases hlt:j < is.length
   ·obtain ⟨ti,k1,k2,k3⟩:=hds.appI;obtain ⟨gi,ci,rfl,-⟩:=k1.form;obtain ⟨ai,cai,ei,-,hci⟩:=H.out.i.ino;obtain ⟨g,off,p,rfl,hg,m1,m2,m3,hp⟩:=hci j hlt;simp only [Value.slice.injEq] at ei;obtain ⟨rfl,-,rfl⟩:=ei;have hpl:=HG.out.p j hlt;have htk:is.take j ++ [is[j]]=is.take (j+1):=List.take_append_getElem hlt;obtain ⟨X,hX⟩:∃ X,is[j]=X:=⟨_,rfl⟩
    obtain ⟨y,s,z⟩:=X;rw [hX] at m1 m2 hp hpl htk;simp only at m1 m2 hp hpl;obtain ⟨pa,pc,rfl⟩:=hp.form;have hti:ti.length=j:=by rw [k2,List.length_take];omega
    have n1:=(hds.bel.cell (p:=⟨g,off+j * 3,none⟩) hg).trans m1;have n2:=(hds.bel.cell (p:=⟨g,off+j * 3+1,none⟩) hg).trans m2;have n3:=(hds.bel.cell (p:=⟨g,off+j * 3+2,none⟩) hg).trans m3;have HP:Hid (RInts (wr.alloc (.cells #[.int .i64 y,.int .i64 s,.slice pa z.length pc] 63)) (.slice pa z.length pc) z):=(hp.below hds.bel nR).alloc _;have HX:=hide (And.intro k1 (And.intro k3 hti));have HDS:=hide hds;have HPL:=hide hpl;have HTK:=hide htk;have j0:(0:Int)<=(j:Int):=by omega
    have j1:(j:Int) < (is.length:Int):=by omega
    clear k1 k2 k3 hds HR hti m1 m2 m3 hp hpl htk hci hX hg q2;go_wp2_with fail
    refine (newI_any _ z _ HP.out HPL.out).mono ?_;rintro e w6 ⟨u6,rfl,O6,B6⟩;obtain ⟨pb,pd,rfl⟩:=O6.rints.form;have K6:AtC w6 wr.heap.size 63 #[.int .i64 y,.int .i64 s,.slice pa z.length pc]:=(AtC.new wr 63 _).over B6;have hs6:wr.heap.size+1<=w6.heap.size:=by have:=B6.size;simpa using this
    have bW:Below wr.heap.size wr ((w6.setCell ⟨wr.heap.size,2,none⟩ (.slice pb z.length pd)).alloc (.cells #[.int .i64 y,.int .i64 s,.slice pb z.length pd] 63)):=((((Below.refl _ wr).alloc nR _).trans (B6.mono (by simp))).setCell nR _).alloc (by simp;omega) _;have O7:ROwns ((w6.setCell ⟨wr.heap.size,2,none⟩ (.slice pb z.length pd)).alloc (.cells #[.int .i64 y,.int .i64 s,.slice pb z.length pd] 63)) (wr.heap.size+1) 3 (.slice pb z.length pd) (ic z):=((O6.base_le (by simp)).setCell_other (by omega) _).alloc _;have K7:=AtC.new (w6.setCell ⟨wr.heap.size,2,none⟩ (.slice pb z.length pd)) 63 #[.int .i64 y,.int .i64 s,.slice pb z.length pd];have K8:AtC ((w6.setCell ⟨wr.heap.size,2,none⟩ (.slice pb z.length pd)).alloc (.cells #[.int .i64 y,.int .i64 s,.slice pb z.length pd] 63)) wr.heap.size 63 #[.int .i64 y,.int .i64 s,.slice pb z.length pd]:=(K6.set 2 (.slice pb z.length pd)).alloc _;have kc2:w6.cell? ⟨wr.heap.size,2,none⟩=some (.slice pa z.length pc):=K6.cell 2;have kc3:(w6.setCell ⟨wr.heap.size,2,none⟩ (.slice pb z.length pd)).cell? ⟨wr.heap.size,0,none⟩=some (.int .i64 y):=(K6.set 2 (.slice pb z.length pd)).cell 0;have kc4:(w6.setCell ⟨wr.heap.size,2,none⟩ (.slice pb z.length pd)).cell? ⟨wr.heap.size,1,none⟩=some (.int .i64 s):=(K6.set 2 (.slice pb z.length pd)).cell 1;have kc5:(w6.setCell ⟨wr.heap.size,2,none⟩ (.slice pb z.length pd)).cell? ⟨wr.heap.size,2,none⟩=some (.slice pb z.length pd):=(K6.set 2 (.slice pb z.length pd)).cell 2;have f2:=K6.frozen 2;have dB:=HDS.out.below (w1:=w6) (((Below.refl _ wr).alloc nR _).trans (B6.mono (by simp)));have hbb:=HDS.out.box.lt;have cb:(w6.setCell ⟨wr.heap.size,2,none⟩ (.slice pb z.length pd)).cell? ⟨b,2,none⟩=some (.slice gi ti.length ci):=(dB.box.other (by omega) _).cell 2;have hT:TOwns ((w6.setCell ⟨wr.heap.size,2,none⟩ (.slice pb z.length pd)).alloc (.cells #[.int .i64 y,.int .i64 s,.slice pb z.length pd] 63)) 63 (.slice gi ti.length ci) ti:=HX.out.1.of_heap fun k hk=>bW.block k (HX.out.1.lt k hk);obtain ⟨W6,hW6⟩:∃ W6,w6.setCell ⟨wr.heap.size,2,none⟩ (.slice pb z.length pd)=W6:=⟨_,rfl⟩
    rw [hW6] at bW O7 K7 K8 hT kc3 kc4 kc5 cb;have HN:Hid (∀ v' w',TOwns w' 63 v' (ti ++ [(.int .i64 y,.int .i64 s,.slice pb z.length pd)])->(W6.alloc (.cells #[.int .i64 y,.int .i64 s,.slice pb z.length pd] 63)).grownBy w' (Value.slice gi ti.length ci).ownBlock->(∀ k,v'.ownBlock=some k->(Value.slice gi ti.length ci).ownBlock=some k\/(W6.alloc (.cells #[.int .i64 y,.int .i64 s,.slice pb z.length pd] 63)).heap.size<=k)->(AtC w' b 35 #[.slice a5 xs.length c5,.slice a6 ys.length c6,.slice gi ti.length ci,.slice none 0 0])/\Dz w (w'.setCell ⟨b,2,none⟩ v') #[.slice a1 xs.length c1,.slice a2 ys.length c2,.slice (some ⟨g,off,none⟩) is.length c3,.slice a4 bs.length c4] b (.slice a5 xs.length c5) (.slice a6 ys.length c6) v' (.slice none 0 0) xs ys (is.take j ++ [(y,s,z)]) []):=fun v' w' h1 h2 h3=>HX.out.2.1 _ w' v' _ (y,s,z) bW ⟨rfl,rfl,O7.base_le (Nat.zero_le _)⟩ (fun k hk=>by have:=(O7.lt k hk).1;omega) h1 h2 h3;have HTL:Hid (ti.length<=1000000000000):=by have:=HX.out.2.2;show ti.length<=_;omega
    have HK7:=hide K7;have HT:=hide hT;clear hT O7 O6 bW K6 K7 K8 B6 dB HX HDS HP n1 n2 n3;go_wp2_with (at_builtin;refine wpList_step fun K' hK'=>?_;refine zbc _ rfl (.tmp 30) (.tmp 32) 32 rfl 63 Tryz.u32 _ 40 Tryz.i63 rfl (by decide) (.slice gi ti.length ci) ti rfl HT.out W6.heap.size (.int .i64 y,.int .i64 s,.slice pb z.length pd) rfl ⟨HK7.out.cell 0,HK7.out.cell 1,HK7.out.cell 2⟩ ⟨rfl,rfl,rfl⟩ HTL.out ?_;intro v9 w9 T9 G9 V9;refine hK' _ _ ?_;obtain ⟨e9,D9⟩:=HN.out v9 w9 T9 G9 V9;obtain ⟨g9,c9,rfl,-⟩:=T9.form;rw [show (ti ++ [((.int .i64 y,.int .i64 s,.slice pb z.length pd):V3)]).length=ti.length+1 from List.length_append] at D9 ⊢;have z2:=e9.frozen 2;have z3:w9.cell? ⟨b,2,none⟩=some (.slice gi ti.length ci):=e9.cell 2;have H9:=hide D9;clear e9 D9 T9 G9 V9 HN HK7 HT HTL hK')
    go_roundw
    case rel=>exact ⟨j+1,by omega,by go_num,_,by rw [← HTK.out];exact H9.out⟩
    case measure=>simp [intOf];omega
   ·have hj2:j=is.length:=by omega
    subst hj2;rw [List.take_length] at hds;obtain ⟨-,-,-,-,a7,c7,-,-,-,-,rfl,-⟩:=hds.dsk.dr.form;have HD2:=hide hds;have b0:wr.cell? ⟨w.heap.size,3,none⟩=some (.slice a4 bs.length c4):=hds.arg.cell 3;clear hds HR q2;go_wp2_with fail
    go_loopw [39] (fun i wr=>∃ j:Nat,j<=bs.length/\i=.int .i64 j/\Hid (∃ bv,Dz w wr #[.slice a1 xs.length c1,.slice a2 ys.length c2,.slice a3 is.length c3,.slice a4 bs.length c4] b (.slice a5 xs.length c5) (.slice a6 ys.length c6) (.slice a7 is.length c7) bv xs ys is (bs.take j))) (fun i _=>bs.length - (intOf i).toNat)
    case atStart=>exact ⟨0,Nat.zero_le _,rfl,_,HD2.out⟩
    case round =>
     obtain ⟨j,hj,rfl,HR⟩:=hrel;obtain ⟨bv,hds⟩:=HR.out;by_cases hlt:j < bs.length
     ·obtain ⟨ai,cai,ei,-,hci⟩:=H.out.k.blk;obtain ⟨g,off,p,rfl,hg,m1,m2,m3,hp⟩:=hci j hlt;simp only [Value.slice.injEq] at ei;obtain ⟨rfl,-,rfl⟩:=ei;have hpl:=HG.out.s j hlt;have htk:bs.take j ++ [bs[j]]=bs.take (j+1):=List.take_append_getElem hlt;obtain ⟨X,hX⟩:∃ X,bs[j]=X:=⟨_,rfl⟩
      obtain ⟨y,z,s⟩:=X;rw [hX] at m1 m3 hp hpl htk;simp only at m1 m3 hp;obtain ⟨pa,pc,rfl⟩:=hp.form;obtain ⟨ti,k1,k2,k3⟩:=(hds.alloc (.cells #[.bool y,.slice pa z.length pc,.string s] 74)).drew.appB;obtain ⟨gi,ci,rfl,-⟩:=k1.form;have hti:ti.length=j:=by rw [k2,List.length_take];omega
      have n1:=(hds.bel.cell (p:=⟨g,off+j * 3,none⟩) hg).trans m1;have n2:=(hds.bel.cell (p:=⟨g,off+j * 3+1,none⟩) hg).trans m2;have n3:=(hds.bel.cell (p:=⟨g,off+j * 3+2,none⟩) hg).trans m3;have HX:=hide (And.intro k1 (And.intro k3 hti));have HDS:=hide hds;have HP:Hid (∀ W,Below w.heap.size w W->RSl W (.slice pa z.length pc) z):=fun W b=>hp.below b nR;have HPL:=hide hpl;have HTK:=hide htk;have HC:Hid (∀ W,Below (wr.alloc (.cells #[.bool y,.slice pa z.length pc,.string s] 74)).drew.heap.size (wr.alloc (.cells #[.bool y,.slice pa z.length pc,.string s] 74)).drew W->W.cell? ⟨b,3,none⟩=some (.slice gi ti.length ci)/\AtC W wr.heap.size 74 #[.bool y,.slice pa z.length pc,.string s]/\Below w.heap.size w W):=fun W b=>by
       have hw:=(HDS.out.alloc _).drew.below b;exact ⟨hw.box.cell 3,(AtC.new wr 74 _).drew.over b,hw.bel⟩
      have j0:(0:Int)<=(j:Int):=by omega
      have j1:(j:Int) < (bs.length:Int):=by omega
      clear k1 k2 k3 hds HR hti m1 m2 m3 hp hpl htk hci hX hg b0;go_wp2_with fail
      refine zbb (by kernel_rfl) [0,1,2,3,4] [5,6,7] (fun i=>match i with|0=>.const [] (.pointer (some ⟨b,3,none⟩))|1=>.const [0] (.slice gi ti.length ci)|2=>.const [] (.agg #[.bool y,.slice pa z.length pc,.string s])|3=>MkK 2 y s z|4=>MkK1 3 y s|_=>.triv) (fun xb=>⟨#[.agg #[.slice a1 xs.length c1,.slice a2 ys.length c2,.slice a3 is.length c3,.slice (some ⟨g,off,none⟩) bs.length c4],.pointer (some ⟨w.heap.size,0,none⟩),.pointer (some ⟨w.heap.size+1,0,none⟩),.pointer (some ⟨b,0,none⟩),undef,u5,undef,.pointer (some ⟨wr.heap.size,0,none⟩),x 0,x 1,x 2,.slice a5 xs.length c5,x 4,x 5,x 6,.slice a6 ys.length c6,.agg #[.slice a5 xs.length c5,.slice a6 ys.length c6],.agg #[.slice a5 xs.length c5,.slice a6 ys.length c6,.slice none 0 0,.slice none 0 0],.pointer (some ⟨w.heap.size,2,none⟩),.slice a3 is.length c3,.int .i64 ↑is.length,.int .i64 ↑is.length,.bool false,u23,u24,u25,u26,u27,u28,u29,u30,u31,u32,u33,u34,u35,.pointer (some ⟨w.heap.size,3,none⟩),.slice (some ⟨g,off,none⟩) bs.length c4,.int .i64 ↑bs.length,.int .i64 ↑j,.bool true,.pointer (some ⟨g,off+j * 3,none⟩),.agg #[.bool y,.slice pa z.length pc,.string s],xb 0,xb 1,xb 2,xb 3,xb 4,u48,u49,u50,undef],[]⟩) (fun i=>match i with|0=>u43|1=>u44|2=>u45|3=>u46|4=>u47|_=>undef) rfl (by kernel_rfl) (by kernel_rfl) (by kernel_rfl) rfl ?_ ?_
      ·intro jo hj so xb iw W hd hp K hK;simp only [List.mem_cons,List.not_mem_nil,or_false] at hj;rcases hj with rfl|rfl|rfl|rfl|rfl<;>refine wpOp_step (o:=_) rfl fun K' hK'=>?_<;>have HK:=hide (fun (v:Value) (W':World) h1 h2=>hK' _ _ (hK v W' h1 h2))<;>simp only [upd,Nat.reduceEqDiff,if_true,if_false] at HK
       ·clear hK hK' hp hd;go_simp;exact HK.out _ _ bR rfl
       ·have e0:xb 0=.pointer (some ⟨b,3,none⟩):=hp.post 0 (hd 0 mz0);have q0:=(HC.out W hp.bel).1;simp only [e0] at HK ⊢;go_simp;exact HK.out _ _ bR rfl
       ·have k0:=(HC.out W hp.bel).2.1;have q0:W.cell? ⟨wr.heap.size,0,none⟩=some (.bool y):=k0.cell 0;have q1:W.cell? ⟨wr.heap.size,1,none⟩=some (.slice pa z.length pc):=k0.cell 1;have q2:W.cell? ⟨wr.heap.size,2,none⟩=some (.string s):=k0.cell 2;clear k0;go_simp;exact HK.out _ _ bR rfl
       ·have e2:xb 2=.agg #[.bool y,.slice pa z.length pc,.string s]:=hp.post 2 (hd 2 mz0);have bl:=(HC.out W hp.bel).2.2;simp only [e2] at HK ⊢;go_simp;refine (newK_any y s _ z W (HP.out W bl) HPL.out).mono ?_;rintro e w6 ⟨p6,rfl,O6,B6⟩;go_simp;exact HK.out _ _ B6 ⟨p6,rfl,O6,fun i hi=>(O6.lt i hi).2⟩
       ·have e3:∃ u,xb 3=.agg #[.bool y,u,.string s]/\SOwns W (iw 3).1 100 u z/\∀ i,u.ownBlock=some i->i < (iw 3).2:=hp.post 3 (hd 3 mz0);obtain ⟨p7,e7,O7,-⟩:=e3;obtain ⟨pb,pd,rfl⟩:=O7.rsl.form;clear O7;have HE:=hide e7;simp only [e7] at HK ⊢;clear e7;go_simp;exact HK.out _ _ ((Below.refl _ W).alloc nR _) ⟨rfl,by simp,.slice pb z.length pd,by rw [za8 _ _ _ _ (by decide)];exact HE.out,AtC.new W 74 _⟩
      ·intro xb iw W hp;have e1:xb 1=.slice gi ti.length ci:=hp.post 1 (by decide);obtain ⟨p7,e7,O7,-⟩:=hp.post 3 (by decide);obtain ⟨e8,-,p8,f8,A8⟩:=hp.post 4 (by decide);rw [e7] at f8;simp only [Value.agg.injEq,Array.mk.injEq,List.cons.injEq,and_true,true_and] at f8;subst f8;have l7:=(hp.lo 3 (by decide)).1;have hbel:=hp.bel;have O9:SOwns W (wr.alloc (.cells #[.bool y,.slice pa z.length pc,.string s] 74)).drew.heap.size 100 p7 z:=O7.base_le l7;obtain ⟨pb,pd,rfl⟩:=O9.rsl.form;have hT:TOwns W 74 (.slice gi ti.length ci) ti:=HX.out.1.of_heap fun k hk=>hbel.block k (HX.out.1.lt k hk);have HN:Hid (∀ v' w',TOwns w' 74 v' (ti ++ [(.bool y,.slice pb z.length pd,.string s)])->W.grownBy w' (Value.slice gi ti.length ci).ownBlock->(∀ k,v'.ownBlock=some k->(Value.slice gi ti.length ci).ownBlock=some k\/W.heap.size<=k)->(AtC w' b 35 #[.slice a5 xs.length c5,.slice a6 ys.length c6,.slice a7 is.length c7,.slice gi ti.length ci])/\Dz w (w'.setCell ⟨b,3,none⟩ v') #[.slice a1 xs.length c1,.slice a2 ys.length c2,.slice a3 is.length c3,.slice (some ⟨g,off,none⟩) bs.length c4] b (.slice a5 xs.length c5) (.slice a6 ys.length c6) (.slice a7 is.length c7) v' xs ys is (bs.take j ++ [(y,z,s)])):=fun v' w' h1 h2 h3=>HX.out.2.1 W w' v' _ (y,z,s) hbel ⟨rfl,O9.base_le (Nat.zero_le _),rfl⟩ (fun k hk=>(O9.lt k hk).1) h1 h2 h3;have HTL:Hid (ti.length<=1000000000000):=by have:=HX.out.2.2;show ti.length<=_;omega
       have HA8:=hide A8;have HT:=hide hT;generalize (iw 4).1=g8 at *;clear hT O9 O7 hp l7 hbel A8 HX HDS;simp only [e1,e7,e8];refine wpList_step fun K' hK'=>?_;refine zbc _ rfl (.tmp 44) (.tmp 47) 33 rfl 74 Tryz.u33 _ 48 Tryz.i74 rfl (by decide) (.slice gi ti.length ci) ti rfl HT.out g8 (.bool y,.slice pb z.length pd,.string s) rfl ⟨HA8.out.cell 0,HA8.out.cell 1,HA8.out.cell 2⟩ ⟨rfl,rfl,rfl⟩ HTL.out ?_;intro v9 w9 T9 G9 V9;refine hK' _ _ ?_;obtain ⟨e9,D9⟩:=HN.out v9 w9 T9 G9 V9;obtain ⟨g9,c9,rfl,-⟩:=T9.form;have e10:(ti ++ [((.bool y,.slice pb z.length pd,.string s):V3)]).length=ti.length+1:=by simp
       rw [e10] at D9 ⊢;clear e10;have z2:=e9.frozen 3;have z3:w9.cell? ⟨b,3,none⟩=some (.slice gi ti.length ci):=e9.cell 3;have H9:=hide D9;clear e9 D9 T9 G9 V9 HN HA8 HT HTL hK' K' e1 e7 e8;go_wp2_with fail
       rw [List.filterMap_nil];go_wp2;go_roundw
       case rel=>exact ⟨j+1,by omega,by go_num,_,by rw [← HTK.out];exact H9.out⟩
       case measure=>simp [intOf];omega
     ·have hj3:j=bs.length:=by omega
      subst hj3;rw [List.take_length] at hds;obtain ⟨-,-,-,-,-,-,p8,q8,-,-,-,rfl⟩:=hds.dsk.dr.form;have H7:=hide hds;have b0:wr.cell? ⟨w.heap.size,3,none⟩=some (.slice a4 bs.length c4):=hds.arg.cell 3;obtain ⟨y0,y1,y2,y3⟩:=AtC.four hds.box;obtain ⟨r0,r1,r2,r3⟩:=AtC.four hds.res;have v0:=hds.res.frozen 0;have v1:=hds.res.frozen 1;have v2:=hds.res.frozen 2;have v3:=hds.res.frozen 3;clear hds HR;go_wp2;refine bodyPost_ret (v:=.agg #[.slice a5 xs.length c5,.slice a6 ys.length c6,.slice a7 is.length c7,.slice p8 bs.length q8]) (by simp [results,go_sem,r0,r1,r2,r3]) rfl ⟨_,_,_,_,rfl,?_,?_⟩
      ·exact (H7.out.dsk.of_heap fun k hk _=>((((heap_setCell_other _ ⟨w.heap.size+1,3,none⟩ k _ (by show k≠w.heap.size+1;omega)).trans (heap_setCell_other _ ⟨w.heap.size+1,2,none⟩ k _ (by show k≠w.heap.size+1;omega))).trans (heap_setCell_other _ ⟨w.heap.size+1,1,none⟩ k _ (by show k≠w.heap.size+1;omega))).trans (heap_setCell_other _ ⟨w.heap.size+1,0,none⟩ k _ (by show k≠w.heap.size+1;omega)))).mono fun k hk=>by omega
      ·exact (((H7.out.bel.setCell (by simp) _).setCell (by simp) _).setCell (by simp) _).setCell (by simp) _
end Go.Proofs.YtmlfihmheolpeaaGreat
