/- Texts of the proof, bundled. -/
import Derived.Deep.RegionWith
import Derived.Deep.RegionHeld3
import Derived.BigQuiet
import Derived.Deep.DeepCutAuto
import Derived.Deep.CutRange
import Derived.BigRegion
import Derived.Handy
import Derived.RegionTactic
import Derived.Test.YtgnplpmgkegcnaaGreatV03
import Derived.Test.YtgnplpmgkegcnaaGreatV02
import Derived.Test.YtgnplpmgkegcnaaGreatV01
set_option maxRecDepth 100000
set_option maxHeartbeats 12800000
namespace Go.Proofs.YtgnplpmgkegcnaaGreat
namespace Xd
open Go.RowKit Kit
theorem newOk:za2 newX newY newIs newBs=true:=by decide +kernel
theorem newBig:∀(j:Nat)(h:j<newBs.length),bigB 1048576 newBs[j]:=fun j h=>by
 have e:newBs[j]=zB:=List.eq_of_mem_replicate (List.getElem_mem h);rw[e];exact⟨by decide,fun k hk=>by simp[zB]at hk,by decide⟩
theorem newDBig:Big 1048576 newX newY newIs newBs:=⟨by decide,by decide,by decide,fun j hj=>by
 have:∀q∈newIs,q.2.2.length<=1048576:=by decide
 exact this _ (List.getElem_mem hj),by decide,newBig⟩
theorem zmv:Sh Z0 (newM newX newY newIs newBs):=by
 refine⟨rfl,rfl,rfl,?_,rfl,?_,rfl,by decide,fun d hd=>by simp[newM]at hd,by simp[newM],⟨?_,fun _ _ e=>e.elim⟩⟩
 ·have:∀q∈newIs,(0<=q.2.1/\q.2.1<=200)/\q.2.2.length=2/\(∀p∈q.2.2,(0:Int)<=p/\p<=16)/\(q.1=1\/q.1=2\/(q.1=0/\q.2.1=0/\∀p∈q.2.2,p=0)):=by decide
  exact fun q hq=>⟨(this q hq).1,(this q hq).2.1,(this q hq).2.2.1,(this q hq).2.2.2⟩
 ·intro q hq;have e:q=zB:=by simp[newM,newBs]at hq;exact hq
  subst e;exact⟨⟨fun e=>by simp[zB]at e,by decide,fun s hs=>by simp[zB]at hs,by decide⟩,fun _=>rfl,fun e=>by simp[zB]at e,fun s hs=>by simp[zB]at hs,Unl.nil⟩
 ·intro p p1 p2;have e:pc p newIs=0:=by
   simp[pc,newIs,noI,List.count_cons];omega
  show pc p newIs+0<=_;omega
theorem fsNew_any(w:World):
  Calls Tryz.prog 114 #[] w fun e w'=>∃a,e=.returned a/\FsW w' w.1.size a/\Below w.1.size w w':=by
 obtain⟨W0,hW0⟩:∃W0,w.alloc (.cells #[.slice none 0 0,.slice none 0 0,.slice none 0 0,.slice none 0 0,.slice none 0 0,.slice none 0 0,.int .i64 0,.slice none 0 0] 119)=W0:=⟨_,rfl⟩
 have HC:Hid (∀W,Below W0.1.size W0 W->AtC W w.1.size 119 #[.slice none 0 0,.slice none 0 0,.slice none 0 0,.slice none 0 0,.slice none 0 0,.slice none 0 0,.int .i64 0,.slice none 0 0]/\Below w.1.size w W/\w.1.size+1<=W.1.size):=fun W b2=>by
  rw[←hW0]at b2;have sz:=b2.size;simp at sz;exact⟨(AtC.new w 119 _).over b2,((Below.refl _ w).alloc nR _).trans (b2.mono sI),sz⟩
 go_enter Tryz.func114,Tryz.ntmps114
 go_wp2_with fail
 refine(specNew_disk W0).mono ?_;rintro e w1 ⟨u1,u2,u3,u4,rfl,O1,B1⟩;go_wp2_with fail
 refine(zmu _ _ _ _ _ newX newY newIs newBs w1 O1 newOk newBig).mono ?_;rintro e w2 ⟨tv,ts,rfl,T2,D2,B2⟩;have HB2:Hid (Below W0.1.size W0 w2):=B1.trans (B2.mono B1.size);obtain⟨ta,tc,rfl⟩:=T2.rst.form;have HD2:=hide D2;obtain⟨W4,hW4⟩:∃W4,w2.alloc (.cells #[.slice ta ts.length tc] 46)=W4:=⟨_,rfl⟩
 have HB4:Hid (Below W0.1.size W0 W4/\ROwns W4 w1.1.size 9 (.slice ta ts.length tc) (stc ts)/\AtC W4 w2.1.size 46 #[.slice ta ts.length tc]/\W0.1.size<=w1.1.size):=by
  rw[←hW4];exact⟨HB2.o.alloc HB2.o.size _,T2.alloc _,AtC.new w2 46 _,B1.size⟩
 clear O1 B1 T2 D2 B2 HB2;have HF:Hid (∀W,Below W4.drew.1.size W4.drew W->Below W0.1.size W0 W/\ROwns W w1.1.size 9 (.slice ta ts.length tc) (stc ts)/\AtC W w2.1.size 46 #[.slice ta ts.length tc]/\W4.1.size<=W.1.size):=fun W b=>by
  have b5:=zac b;exact⟨HB4.o.1.trans (b5.mono HB4.o.1.size),HB4.o.2.1.below b5 nR,HB4.o.2.2.1.over b5,b5.size⟩
 have y4:=HB4.o.2.2.1.c0;go_upto_region 2 with fail
 go_region_with (first
  | (go_at_call 110;refine(specNew_disk _).mono ?_;rintro e w5 ⟨p1,p2,p3,p4,rfl,O5,B5⟩;obtain⟨g1,h1,g2,h2,g3,h3,g4,h4,rfl,rfl,rfl,rfl⟩:=O5.dr.form;have HB5:Hid (Below W4.drew.1.size W4.drew w5):=B5;have HO5:=hide O5;have y5:w5.cell? ⟨w2.1.size,0,none⟩=some (.slice ta ts.length tc):=(HF.o w5 B5).2.2.1.cell 0;clear O5 B5)
  | (go_at_call 141;refine(zkj _ _ _ _ newX newY newIs newBs _ HO5.o.dr newDBig).mono ?_;rintro e w6 ⟨q1,q2,q3,q4,q5,q6,rfl,O6,B6⟩;obtain⟨b1,d1,b2,d2,b3,d3,b4,d4,b5,d5,b6,d6,rfl,rfl,rfl,rfl,rfl,rfl⟩:=O6.mr.form;have HB6:Hid (Below W4.drew.1.size W4.drew w6):=HB5.o.trans (B6.mono HB5.o.size);have HF6:=hide (HF.o w6 HB6.o);have y6:w6.cell? ⟨w2.1.size,0,none⟩=some (.slice ta ts.length tc):=HF6.o.2.2.1.cell 0;have r0:w6.cell? ⟨w.1.size,0,none⟩=some (.slice none 0 0):=(HC.o w6 HF6.o.1).1.cell 0;have r1:w6.cell? ⟨w.1.size,1,none⟩=some (.slice none 0 0):=(HC.o w6 HF6.o.1).1.cell 1;have r2:w6.cell? ⟨w.1.size,2,none⟩=some (.slice none 0 0):=(HC.o w6 HF6.o.1).1.cell 2;have r3:w6.cell? ⟨w.1.size,3,none⟩=some (.slice none 0 0):=(HC.o w6 HF6.o.1).1.cell 3;have r4:w6.cell? ⟨w.1.size,4,none⟩=some (.slice none 0 0):=(HC.o w6 HF6.o.1).1.cell 4;have r5:w6.cell? ⟨w.1.size,5,none⟩=some (.slice none 0 0):=(HC.o w6 HF6.o.1).1.cell 5;have r6:w6.cell? ⟨w.1.size,6,none⟩=some (.int .i64 0):=(HC.o w6 HF6.o.1).1.cell 6;have r7:w6.cell? ⟨w.1.size,7,none⟩=some (.slice none 0 0):=(HC.o w6 HF6.o.1).1.cell 7;have v0:=(HC.o w6 HF6.o.1).1.frozen 0;have v1:=(HC.o w6 HF6.o.1).1.frozen 1;have v2:=(HC.o w6 HF6.o.1).1.frozen 2;have v3:=(HC.o w6 HF6.o.1).1.frozen 3;have v4:=(HC.o w6 HF6.o.1).1.frozen 4;have v5:=(HC.o w6 HF6.o.1).1.frozen 5;have v6:=(HC.o w6 HF6.o.1).1.frozen 6;have v7:=(HC.o w6 HF6.o.1).1.frozen 7;have HO6:Hid (MO w6 (fun k=>W4.1.size<=k) (.slice b1 (newM newX newY newIs newBs).xs.length d1) (.slice b2 (newM newX newY newIs newBs).ys.length d2) (.slice b3 (newM newX newY newIs newBs).is.length d3) (.slice b4 (newM newX newY newIs newBs).bs.length d4) (.slice b5 (newM newX newY newIs newBs).fs.length d5) (.slice b6 (newM newX newY newIs newBs).ds.length d6) (newM newX newY newIs newBs)):=O6.mono (fun k hk=>Nat.le_trans HB5.o.size hk);clear O6 B6))
 all_goals go_wp2
 all_goals exact bodyPost_ret (v:=.agg #[.slice b1 (newM newX newY newIs newBs).xs.length d1,.slice b2 (newM newX newY newIs newBs).ys.length d2,.slice b3 (newM newX newY newIs newBs).is.length d3,.slice b4 (newM newX newY newIs newBs).bs.length d4,.slice b5 (newM newX newY newIs newBs).fs.length d5,.slice b6 (newM newX newY newIs newBs).ds.length d6,.int .i64 1,.slice ta ts.length tc]) sR8 rfl ⟨_,rfl,⟨b1,d1,b2,d2,b3,d3,b4,d4,b5,d5,b6,d6,ta,tc,newM newX newY newIs newBs,ts,rfl,(HO6.o.of_heap fun k hk _=>zag _ _ _ _ _ _ _ _ _ _ k (by have:=(HC.o w6 HF6.o.1).2.2;have:W4.1.size<=k:=hk;have:=HB4.o.1.size;have:=(HC.o W0 bR).2.2;omega)).mono (fun k hk=>by have:W4.1.size<=k:=hk;have:=HB4.o.1.size;have:=(HC.o W0 bR).2.2;omega),(HF6.o.2.1.of_heap fun k hk=>zag _ _ _ _ _ _ _ _ _ _ k (by have:=(HF6.o.2.1.lt k hk).1;have:=HB4.o.2.2.2;have:=(HC.o W0 bR).2.2;omega)).base_le (by have:=HB4.o.2.2.2;have:=(HC.o W0 bR).2.2;omega),zmv,HD2.o⟩,zau (HC.o w6 HF6.o.1).2.1 nR _ _ _ _ _ _ _ _⟩
end Xd
open Go.RowKit Kit Xd
namespace Kit
theorem wd_start{w0 w w1:World}{c len cap:Nat}{a:Option Addr}{u v iv bv:Value}{xs ys:List Bool}{is:List Ino}{bs:List Blk}(hcur:Cur 103 w0 w c a len cap)(hcw:c<w.1.size)(B1:Below (w.alloc (.cells Xd.zD 30)).1.size (w.alloc (.cells Xd.zD 30)) w1)(O1:DO w1 (fun k=>(w.alloc (.cells Xd.zD 30)).1.size<=k) u v iv bv xs ys is bs)(ok:DkR xs ys is bs):
  Wd w0 w (w1.alloc (.cells #[u,v,iv,bv] 30)) c a len cap w1.1.size u v iv bv xs ys is bs:=by
 have hs:=B1.size;rw[World.size_alloc]at hs O1;refine⟨((AtC.new w 30 _).over B1).alloc _,AtC.new w1 30 _,(O1.bound.mono fun k hk=>⟨by have:=hk.1;omega,by have:=hk.2;omega⟩).alloc _,(((Drew.refl hcur).alloc hcw _).below hcw B1).alloc hcw _,by omega,hcw,ok⟩
theorem newDk:DkR newX newY newIs newBs:=⟨rfl,rfl,rfl,zmv.ii,rfl,zmv.bb⟩
end Kit
def nm4:Nat->ByteArray
 | 0=>⟨#[112]⟩
 | 1=>⟨#[113]⟩
 | 2=>⟨#[114]⟩
 | _=>⟨#[115]⟩
theorem nm4_ok:∀i,i<4->zan (nm4 i)=true/\(nm4 i).size≠0:=by decide
theorem nm4_ne:∀i,i<4->∀j,j<4->i≠j->nm4 i≠nm4 j:=by decide
def Fill(j:Nat)(ss:List Sl):Prop:=ss.length=4/\∀(k:Nat)(h:k<ss.length),(k<j->ss[k].1=nm4 k/\1<=ss[k].2/\ss[k].2<=8)/\(j<=k->ss[k]=(⟨#[]⟩,0))
theorem fill_new:Fill 0 noSl:=⟨rfl,fun k h=>⟨fun e=>absurd e oM,fun _=>by
 match k,h with
 | 0,_=>rfl
 | 1,_=>rfl
 | 2,_=>rfl
 | 3,_=>rfl⟩⟩
theorem Fill.next{j:Nat}{ss:List Sl}(h:Fill j ss){z:Int}(hz:1<=z/\z<=8):Fill (j+1) (ss.set j (nm4 j,z)):=by
 refine⟨by simp[h.1],fun k hk=>?_⟩;rw[List.length_set]at hk;by_cases e:j=k
 ·subst e;rw[List.getElem_set_self];exact⟨fun _=>⟨rfl,hz⟩,fun e=>absurd e oM⟩
 ·rw[List.getElem_set_ne e];exact⟨fun q=>(h.2 k hk).1 oM,fun q=>(h.2 k hk).2 oM⟩
theorem Fill.kok{j:Nat}{ss:List Sl}(h:Fill j ss):KOk ((true,ss,⟨#[]⟩):Blk):=by
 have hl:=h.1;have at_:∀s∈ss,s=(⟨#[]⟩,0)\/∃k,k<4/\s.1=nm4 k/\1<=s.2/\s.2<=8:=fun s hs=>by
  obtain⟨k,hk,rfl⟩:=List.getElem_of_mem hs;by_cases e:k<j
  ·exact .inr ⟨k,by omega,(h.2 k hk).1 e⟩
  ·exact .inl ((h.2 k hk).2 oM)
 refine⟨⟨fun _=>hl,by show ss.length<=4;omega,fun s hs=>?_,by show(0:Nat)<=16;decide⟩,fun e=>(by cases e),fun _=>rfl,fun s hs=>?_,fun a b ha hb hab e=>?_⟩
 ·rcases at_ s hs with rfl|⟨k,hk,e,z⟩
  ·exact⟨by decide,.inl ⟨rfl,rfl⟩⟩
  ·exact⟨by rw[e];exact(zap (nm4_ok k hk).1).2,.inr z⟩
 ·rcases at_ s hs with rfl|⟨k,hk,e,z⟩
  ·exact .inl ⟨rfl,rfl⟩
  ·exact .inr (by rw[e];exact(nm4_ok k hk).1)
 ·have ha':a<ss.length:=ha;have hb':b<ss.length:=hb;by_cases ea:a<j
  ·have k1:=((h.2 a ha).1 ea).1;by_cases eb:b<j
   ·have k2:=((h.2 b hb).1 eb).1;rw[k1,k2]at e;exact absurd e (nm4_ne a oM b oM hab)
   ·have k2:=(h.2 b hb).2 oM;rw[e,k2];rfl
  ·have k1:=(h.2 a ha).2 oM;rw[k1];rfl
theorem Kit.DO.apart1{w:World}{S:Nat->Prop}{u v iv bv:Value}{xs ys:List Bool}{is:List Ino}{bs:List Blk}(h:DO w S u v iv bv xs ys is bs){g n cap g3 n3 c3:Nat}(hv:iv=.slice (some ⟨g,0,none⟩) n cap)(hw:bv=.slice (some ⟨g3,0,none⟩) n3 c3){j gp n1 cp:Nat}(hj:j<is.length)
  (k1:w.cell? ⟨g,j*3+2,none⟩=some (.slice (some ⟨gp,0,none⟩) n1 cp)):g≠g3/\gp≠g3/\S g/\S gp/\S g3/\∀{x gs n2 cs:Nat},x<bs.length->w.cell? ⟨g3,x*3+1,none⟩=some (.slice (some ⟨gs,0,none⟩) n2 cs)->g≠gs/\gp≠gs/\g3≠gs:=by
 obtain⟨T1,T2,T3,ti,tb,z1,z2,z3,z4,z5,z6,z7⟩:=h;have hj':j<ti.length:=by rw[z3.len];exact hj
 obtain⟨g',c',e',-,-,q3,-⟩:=z3.row.at j hj';rw[hv]at e';simp only[Value.slice.injEq,Option.some.injEq,Addr.mk.injEq]at e';obtain⟨⟨rfl,-⟩,-,-⟩:=e';have e1:=q3.symm.trans k1;simp only[Option.some.injEq]at e1;have tg:T2 g:=z3.so g vR;have tp:T2 gp:=z3.si j hj' gp (by show(ti[j].2.2).ownBlock=some gp;rw[e1];rfl);have t3:T3 g3:=z4.so g3 (by rw[hw];rfl);refine⟨fun e=>z6 g tg (e ▸ t3),fun e=>z6 gp tp (e ▸ t3),z7 g (.inr (.inl tg)),z7 gp (.inr (.inl tp)),z7 g3 (.inr (.inr t3)),fun{x gs n2 cs} hx k2=>?_⟩;have hx':x<tb.length:=by rw[z4.len];exact hx
 obtain⟨g',c',e',-,q2,-⟩:=z4.row.at x hx';rw[hw]at e';simp only[Value.slice.injEq,Option.some.injEq,Addr.mk.injEq]at e';obtain⟨⟨rfl,-⟩,-,-⟩:=e';have e2:=q2.symm.trans k2;simp only[Option.some.injEq]at e2;have ts:T3 gs:=z4.si x hx' gs (by show(tb[x].2.1).ownBlock=some gs;rw[e2];rfl);exact⟨fun e=>z6 g tg (e ▸ ts),fun e=>z6 gp tp (e ▸ ts),fun e=>z4.out x hx' gs (by show(tb[x].2.1).ownBlock=some gs;rw[e2];rfl) (by rw[hw,e];rfl)⟩
def Lead(b g2 c2 g3 c3 gp cp:Nat)(P:Int)(w:World):Prop :=
 w.cell? ⟨b,3,none⟩=some (.slice (some ⟨g3,0,none⟩) 16 c3)/\w.cell? ⟨b,2,none⟩=some (.slice (some ⟨g2,0,none⟩) 8 c2)/\w.cell? ⟨g2,2,none⟩=some (.slice (some ⟨gp,0,none⟩) 2 cp)/\w.cell? ⟨gp,0,none⟩=some (.int .i64 P)
theorem zdl{P:Program}{md:Region.Mode}{ops:Array Oper}{Q:Exit->Act->World->Prop}{S S':World->Prop}(hS:∀w,S' w->S w):∀(fuel:Nat)(listed:Array Bool)(a:Act)(w:World),wpAnyH P md ops Q S' fuel listed a w->wpAnyH P md ops Q S fuel listed a w
 | 0,_,_,_,h=>h
 | _+1,_,_,_,h=>⟨h.1,fun i hi=>wpOp_mono (fun a' w' h'=>⟨hS w' h'.1,zdl hS _ _ a' w' h'.2⟩) (h.2 i hi)⟩
theorem zmw(w:World){g h:Nat}(j k i:Nat)(x y:Value)(hg:h≠g):((w.setCell ⟨g,j,none⟩ x).setCell ⟨g,k,none⟩ y).cell? ⟨h,i,none⟩=w.cell? ⟨h,i,none⟩:=by
 simp only[World.cell?,heap_setCell_other _ ⟨g,k,none⟩ h _ hg,heap_setCell_other _ ⟨g,j,none⟩ h _ hg]
theorem zmx(w:World)(g j k:Nat)(x y:Value){arr:Array Value}{T:TypeId}{i:Nat}{z:Value}(h:arr[i]?=some z):(((w.setCell ⟨g,j,none⟩ x).setCell ⟨g,k,none⟩ y).alloc (.cells arr T)).cell? ⟨w.1.size,i,none⟩=some z:=by
 have:=((AtC.new ((w.setCell ⟨g,j,none⟩ x).setCell ⟨g,k,none⟩ y) T arr).cell i).trans h
 rwa[show((w.setCell ⟨g,j,none⟩ x).setCell ⟨g,k,none⟩ y).heap.size=w.1.size by simp]at this
theorem zc2{w:World}{a:Addr}{x:Value}(h:w.cell? a=some x)(o:Obj):(w.alloc o).cell? a=some x:=by
 have hlt:a.block<w.1.size:=by
  rcases Nat.lt_or_ge a.block w.1.size with q|q
  ·exact q
  ·simp[World.cell?,Array.getElem?_eq_none q]at h
 have e:(w.alloc o).heap[a.block]?=w.1[a.block]?:=Below.heap_alloc _ _ _ hlt;simpa only[World.cell?,e]using h
theorem Lead.alloc{b g2 c2 g3 c3 gp cp:Nat}{P:Int}{w:World}(h:Lead b g2 c2 g3 c3 gp cp P w)(o:Obj):Lead b g2 c2 g3 c3 gp cp P (w.alloc o):=⟨zc2 h.1 o,zc2 h.2.1 o,zc2 h.2.2.1 o,zc2 h.2.2.2 o⟩
section
variable {w0 w w' : World} {c len cap b g2 c2 g3 c3 : Nat} {a : Option Addr} {u v : Value} {xs ys : List Bool} {is : List Ino} {bs : List Blk}
theorem Kit.Wd.root(h:Wd w0 w w' c a len cap b u v (.slice (some ⟨g2,0,none⟩) 8 c2) (.slice (some ⟨g3,0,none⟩) 16 c3) xs ys is bs){w4:World}(D:Drew w0 w' w4 c a len cap)(x y:Nat)(hx:x<16)(hy:y<17):
  Wd w0 w ((((w4.setCell ⟨g2,0,none⟩ (.int .i64 2)).setCell ⟨g2,1,none⟩ (.int .i64 1)).setCell ⟨g2,2,none⟩ (.slice (some ⟨w4.1.size,0,none⟩) 2 2)).alloc (.cells #[.int .i64 (1+(x:Int)),.int .i64 (y:Int)] 3)) c a len cap b u v (.slice (some ⟨g2,0,none⟩) 8 c2) (.slice (some ⟨g3,0,none⟩) 16 c3) xs ys (is.set 0 (2,1,[1+(x:Int),(y:Int)])) bs:=by
 have hc:c<w'.1.size:=by have:=h.hc;have:=h.dr.2.size;omega
 have k:=h.putI rfl 0 dC (D.alloc hc (.cells #[.int .i64 (1+(x:Int)),.int .i64 (y:Int)] 3)) 2 1 (1+(x:Int)) y (.slice (some ⟨w4.1.size,0,none⟩) 2 2) (ROwns.lit w4 w'.1.size 3 #[.int .i64 (1+(x:Int)),.int .i64 (y:Int)] D.2.size (by simp[maxLen])) (zc6 (.inr oM)).symm;obtain⟨-,-,-,-,-,-,-,-,-,hg⟩:=(h.drews D).inos rfl 0 dC;unfold set3 at k;rw[World.setCell_alloc_past _ _ _ _ hg,World.setCell_alloc_past _ _ _ _ (by simpa using hg),World.setCell_alloc_past _ _ _ _ (by simpa using hg)]at k;exact k
theorem Kit.Wd.dir(h:Wd w0 w w' c a len cap b u v (.slice (some ⟨g2,0,none⟩) 8 c2) (.slice (some ⟨g3,0,none⟩) 16 c3) xs ys is bs)(h0:0<is.length){x:Nat}{P q:Int}(hx:x<16)(e:is[0].2.2=[P,q]):
  ∃gp cp,∀w2:World,Drew w0 w' w2 c a len cap->Lead b g2 c2 g3 c3 gp cp P w2/\∀(w3:World)(sv:Value),Below w2.1.size w2 w3->SOwns w3 w2.1.size 90 sv noSl ->
   Lead b g2 c2 g3 c3 gp cp P (set3 w3 g3 x (.bool true,sv,.string ⟨#[]⟩))/\Wd w0 w (set3 w3 g3 x (.bool true,sv,.string ⟨#[]⟩)) c a len cap b u v (.slice (some ⟨g2,0,none⟩) 8 c2) (.slice (some ⟨g3,0,none⟩) 16 c3) xs ys is (bs.set x (true,noSl,⟨#[]⟩)):=by
 obtain⟨gp,cp,hk⟩:=h.dsk.ptAt rfl 0 h0 e;refine⟨gp,cp,fun w2 D=>?_⟩;have k:=hk w2 (h.keepD D);have hd:=h.drews D;have L:∀{w3:World}{is':List Ino}{bs':List Blk},Wd w0 w w3 c a len cap b u v (.slice (some ⟨g2,0,none⟩) 8 c2) (.slice (some ⟨g3,0,none⟩) 16 c3) xs ys is' bs'->w3.cell? ⟨g2,2,none⟩=some (.slice (some ⟨gp,0,none⟩) 2 cp)->w3.cell? ⟨gp,0,none⟩=some (.int .i64 P)->Lead b g2 c2 g3 c3 gp cp P w3:=fun h3 q1 q2=>⟨h3.cells.2.2.2.1,h3.cells.2.2.1,q1,q2⟩
 refine⟨L hd k.1 k.2,fun w3 sv B O=>?_⟩;have hc:c<w2.1.size:=by have:=hd.hc;have:=hd.dr.2.size;omega
 have d3:Drew w0 w2 w3 c a len cap:=(Drew.refl hd.dr.cur).below hc B;have k3:=hk w3 (h.keepD (D.trans d3));have wd:=hd.putB rfl x hx d3 true sv ⟨#[]⟩ noSl O zja;obtain⟨n1,n2,-⟩:=DO.apart1 (hd.drews d3).dsk rfl rfl (j:=0) h0 k3.1;have oth:∀g i,g≠g3->(set3 w3 g3 x (.bool true,sv,.string ⟨#[]⟩)).cell? ⟨g,i,none⟩=w3.cell? ⟨g,i,none⟩:=fun g i hg=>by
  simp only[World.cell?,zbc _ _ _ _ _ hg]
 exact⟨L wd ((oth g2 2 n1).trans k3.1) ((oth gp 0 n2).trans k3.2),wd⟩
theorem Kit.Wd.deep{x:Nat}{ss:List Sl}(h:Wd w0 w w' c a len cap b u v (.slice (some ⟨g2,0,none⟩) 8 c2) (.slice (some ⟨g3,0,none⟩) 16 c3) xs ys is (bs.set x (true,ss,⟨#[]⟩)))(h0:0<is.length){P q:Int}(hx:x<16)(e:is[0].2.2=[P,q]){j:Nat}(hj:j<4)(hf:Fill j ss):
  ∃gp cp gs cs,∀w2:World,Drew w0 w' w2 c a len cap->(Lead b g2 c2 g3 c3 gp cp P w2/\w2.cell? ⟨g3,x*3+1,none⟩=some (.slice (some ⟨gs,0,none⟩) 4 cs)) /\
   (gs<w2.1.size/\w2.frozen? ⟨gs,j*2,none⟩=false/\w2.frozen? ⟨gs,j*2+1,none⟩=false/\∃(n:ByteArray)(z:Int),w2.cell? ⟨gs,j*2,none⟩=some (.string n)/\w2.cell? ⟨gs,j*2+1,none⟩=some (.int .i64 z)) /\
   ∀z:Int,1<=z/\z<=8->(Lead b g2 c2 g3 c3 gp cp P ((w2.setCell ⟨gs,j*2,none⟩ (.string (nm4 j))).setCell ⟨gs,j*2+1,none⟩ (.int .i64 z))/\((w2.setCell ⟨gs,j*2,none⟩ (.string (nm4 j))).setCell ⟨gs,j*2+1,none⟩ (.int .i64 z)).cell? ⟨g3,x*3+1,none⟩=some (.slice (some ⟨gs,0,none⟩) 4 cs)) /\
    ∃ss',Fill (j+1) ss'/\Wd w0 w ((w2.setCell ⟨gs,j*2,none⟩ (.string (nm4 j))).setCell ⟨gs,j*2+1,none⟩ (.int .i64 z)) c a len cap b u v (.slice (some ⟨g2,0,none⟩) 8 c2) (.slice (some ⟨g3,0,none⟩) 16 c3) xs ys is (bs.set x (true,ss',⟨#[]⟩)):=by
 have hb:=h.ok.b;have hx':x<(bs.set x (true,ss,⟨#[]⟩)).length:=by rw[hb];exact hx
 have hx2:x<bs.length:=by rw[List.length_set]at hx';exact hx'
 have at_:(bs.set x (true,ss,⟨#[]⟩))[x]=(true,ss,⟨#[]⟩):=List.getElem_set_self _;obtain⟨gp,cp,hk⟩:=h.dsk.ptAt rfl 0 h0 e;obtain⟨gs,cs,sg,hs⟩:=h.dsk.slAt rfl x hx' (by rw[at_];exact hf.1);refine⟨gp,cp,gs,cs,fun w2 D=>?_⟩;have k:=hk w2 (h.keepD D);have s:=hs w2 (h.keepD D);have hd:=h.drews D;have L:∀{w3:World}{is':List Ino}{bs':List Blk},Wd w0 w w3 c a len cap b u v (.slice (some ⟨g2,0,none⟩) 8 c2) (.slice (some ⟨g3,0,none⟩) 16 c3) xs ys is' bs'->w3.cell? ⟨g2,2,none⟩=some (.slice (some ⟨gp,0,none⟩) 2 cp)->w3.cell? ⟨gp,0,none⟩=some (.int .i64 P)->Lead b g2 c2 g3 c3 gp cp P w3:=fun h3 q1 q2=>⟨h3.cells.2.2.2.1,h3.cells.2.2.1,q1,q2⟩
 refine⟨⟨L hd k.1 k.2,s.1⟩,⟨s.2.1,s.2.2.1 _,s.2.2.1 _,(s.2.2.2 j hj).1⟩,fun z hz=>?_⟩;obtain⟨n1,n2,-,-,-,n3⟩:=DO.apart1 hd.dsk rfl rfl (j:=0) h0 k.1;obtain⟨m1,m2,m3⟩:=n3 hx' s.1;have dd:=(s.2.2.2 j hj).2 (nm4 j) z;rw[at_,List.set_set]at dd;have fl:Fill (j+1) (ss.set j (nm4 j,z)):=hf.next hz;have ok:DkR xs ys is (bs.set x (true,ss.set j (nm4 j,z),⟨#[]⟩)):=by
  have:=h.ok.blk x (z:=(true,ss.set j (nm4 j,z),⟨#[]⟩)) fl.kok
  rwa[List.set_set]at this
 have wd:=hd.slot sg dd ok;have oth:∀g i,g≠gs->((w2.setCell ⟨gs,j*2,none⟩ (.string (nm4 j))).setCell ⟨gs,j*2+1,none⟩ (.int .i64 z)).cell? ⟨g,i,none⟩=w2.cell? ⟨g,i,none⟩:=fun g i hg=>by
  simp only[World.cell?,heap_setCell_other _ ⟨gs,j*2+1,none⟩ g _ hg,heap_setCell_other _ ⟨gs,j*2,none⟩ g _ hg]
 exact⟨⟨L wd ((oth g2 2 m1).trans k.1) ((oth gp 0 m2).trans k.2),(oth g3 _ m3).trans s.1⟩,_,fl,wd⟩
end
theorem ROwns.slice2{w:World}{base:Nat}{v:Value}{p q:Int}(h:ROwns w base 3 v (ic [p,q])):∃g cap,v=.slice (some ⟨g,0,none⟩) 2 cap/\base<=g/\g<w.1.size:=by
 obtain⟨g,cap,h1,_,_,h2,h3,_⟩:=h.at 0 (by simp[ic]);exact⟨g,cap,h1,h2,h3⟩
theorem end_of{w0 w w':World}{c len cap bx g cap2:Nat}{a:Option Addr}{k l p q:Int}(h:St w0 w w' c a len cap bx g cap2 k l p q)(x y z:Value):
  ROwns (((w'.setCell ⟨w.1.size,0,none⟩ x).setCell ⟨w.1.size,1,none⟩ y).setCell ⟨w.1.size,2,none⟩ z) w.1.size 3 (.slice (some ⟨g,0,none⟩) 2 cap2) (ic [p,q]) /\
  Drew w0 w (((w'.setCell ⟨w.1.size,0,none⟩ x).setCell ⟨w.1.size,1,none⟩ y).setCell ⟨w.1.size,2,none⟩ z) c a len cap :=
 ⟨((((h.own.setCell_other oM _).setCell_other oM _).setCell_other oM _).base_le oM),((h.dr.setCell h.hc nR _).setCell h.hc nR _).setCell h.hc nR _⟩
theorem zmy(w0 w:World)(c:Nat)(a:Option Addr)(len cap:Nat)(hcode:zbe w0 a len)(hlen:len<=1048576)(hcur:Cur 103 w0 w c a len cap)(hcw:c<w.1.size):
  Calls Tryz.prog 111 #[.pointer (some ⟨c,0,none⟩)] w fun e w'=>∃(k l p q:Int)(v:Value),okR k l p q=true/\e=.returned (.agg #[.int .i64 k,.int .i64 l,v])/\ROwns w' w.1.size 3 v (ic [p,q])/\Drew w0 w w' c a len cap:=by
 have HC:=hide hcur;have HO:=hide hcode;clear hcur hcode;go_enter Tryz.func111,Tryz.ntmps111
 go_wp2_with fail
 refine(zfe w0 _ c (w.1.size+1) a len cap [0,1,2] HO.o hlen (za5 (za5 HC.o hcw _) sO _) ?_ oM dC dC).mono ?_
 ·have:=zbj (w.alloc (Obj.cells #[.int .i64 0,.int .i64 0,.slice none 0 0] 59)) (Obj.cells #[.int .i64 0,.int .i64 1,.int .i64 2] 3);rw[World.size_alloc]at this;exact this
 rintro e w1 ⟨k,hk,rfl,D1⟩;have d1:Drew w0 w w1 c a len cap:=(((Drew.refl HC.o).alloc hcw _).alloc hcw _).trans D1;have r1:AtT 59 w1 w.1.size 0 0 (.slice none 0 0):=((AtT.new 59 w 0 0 (.slice none 0 0)).alloc _).grown D1.2 (by intro e;cases e;omega);have H1:=hide (And.intro d1 r1);have s1:w.1.size<w1.1.size:=r1.lt;have HKM:Hid (k=0\/k=1\/k=2):=(by have h:=hk;simp only[List.mem_cons,List.not_mem_nil,or_false]at h;exact h)
 clear D1 d1 r1 hk;go_wp2_with fail
 refine(za6 k w1).mono ?_;rintro e w2 ⟨v,rfl,O2,B2⟩;obtain⟨g,cap2,rfl,hg1,hg2⟩:=ROwns.slice2 O2;obtain⟨l,hl⟩:∃l,zam k=l:=⟨_,rfl⟩
 have HLK:=hide hl;rw[hl];have R2:=H1.o.2.below B2 H1.o.2.lt;have D2:=H1.o.1.below hcw B2;have O3:ROwns w2 (w.1.size+1) 3 (.slice (some ⟨g,0,none⟩) 2 cap2) (ic [0,0]):=O2.base_le oM;have hlt2:w.1.size<w2.1.size:=R2.lt;have st:St w0 w (w2.alloc (Obj.cells #[.int .i64 k,.int .i64 l,.slice (some ⟨g,0,none⟩) 2 cap2] 59)) c a len cap w2.1.size g cap2 k l 0 0 :=
  ⟨R2.alloc _,AtT.new 59 w2 k l _,O3.alloc _,D2.alloc hcw _,hlt2,by omega,hcw⟩
 have HS:=hide st;have H2:=hide (And.intro R2 (And.intro D2 O3));clear st O2 B2 H1 hl R2 D2 O3;by_cases hz:k=0
 ·subst hz;have hnz:((0:Int) != 0)=false:=by decide
  obtain⟨q0,q1,q2,z0,z1,z2,m0⟩:=zdo (w1:=w2) (b:=w.1.size) H2.o.1;clear HS;go_wp2;refine bodyPost_ret (v:=.agg #[.int .i64 0,.int .i64 l,.slice (some ⟨g,0,none⟩) 2 cap2]) (by simp[results,go_sem,q0,q1,q2,m0]) rfl ⟨0,l,0,0,_,(zc6 (.inl ⟨rfl,by rw[←HLK.o];rfl,rfl,rfl⟩)).symm,rfl,?_,?_⟩
  ·exact(((((H2.o.2.2.setCell_other oM _).setCell_other oM _).setCell_other oM _).base_le oM)).alloc _
  ·exact((((H2.o.2.1.setCell hcw nR _).setCell hcw nR _).setCell hcw nR _)).alloc hcw _
 have hnz:(k != 0)=true:=by simpa using hz
 clear H2;go_wp2_with fail
 refine(zao w0 _ c a len cap 4 HO.o hlen HS.o.dr.cur dC dC).mono ?_;rintro e w3 ⟨z3,hz3,rfl,D3⟩;have HZ3:=hide hz3;clear hz3;have st3:=HS.o.drews D3;obtain⟨p0,p1,p2,f0,f1,f2,m3⟩:=st3.cells;have H4:=hide (st3.setLinks z3);clear D3 st3 HS;go_wp2;obtain⟨w4,hw4⟩:∃w4,w3.setCell ⟨w2.1.size,1,none⟩ (.int .i64 (z3:Int))=w4:=⟨_,rfl⟩
 rw[hw4]at H4 ⊢;clear hw4 p0 p1 p2 f0 f1 f2 m3
 go_region_held3 (fun w'=>w'.cell? ⟨w2.1.size,2,none⟩=some (.slice (some ⟨g,0,none⟩) 2 cap2)) (first| exact H4.o.drew.cells.2.2.1|exact(H4.o.drew.drews D5).cells.2.2.1|exact((H4.o.drew.drews D5).setP z5).cells.2.2.1) (first| (go_at_call 36;refine(zao w0 _ c a len cap 17 HO.o hlen H4.o.drew.dr.cur dC dC).mono ?_;rintro e w5 ⟨z5,hz5,rfl,D5⟩;have HZ5:=hide hz5;clear hz5;obtain⟨t0,t1,t2,t3⟩:=(H4.o.drew.drews D5).ptrs))
 have H6:=hide ((H4.o.drew.drews D5).setP z5);clear D5 t0 t1 t2 t3 H4;generalize w5.setCell ⟨g,0,none⟩ (.int .i64 (z5:Int))=w6 at*;go_wp2
 go_region_held3 (fun w'=>w'.cell? ⟨w2.1.size,2,none⟩=some (.slice (some ⟨g,0,none⟩) 2 cap2)) (first| exact H6.o.drew.cells.2.2.1|exact(H6.o.drew.drews D7).cells.2.2.1|exact((H6.o.drew.drews D7).alloc _).cells.2.2.1|exact(((H6.o.drew.drews D7).alloc _).drews D8).cells.2.2.1|exact((((H6.o.drew.drews D7).alloc _).drews D8).setQ z8).cells.2.2.1) (first| (go_at_call 36;refine(zao w0 _ c a len cap 17 HO.o hlen H6.o.drew.dr.cur dC dC).mono ?_;rintro e w7 ⟨z7,hz7,rfl,D7⟩;have HZ7:=hide hz7;clear hz7)| (go_at_call 66;refine(zfe w0 _ c w7.1.size a len cap [0,0,(z7:Int)] HO.o hlen ((H6.o.drew.drews D7).alloc _).dr.cur (zbj w7 _) (by have h1:=(H6.o.drew.drews D7).dr.2.size;omega) sI sI).mono ?_;rintro e w8 ⟨z8,hz8,rfl,D8⟩;have HZ8:Hid (0<=z8/\z8<=16):=(by have h7:=HZ7.o;simp at hz8;show _/\_;omega);clear hz8;obtain⟨t0,t1,t2,t3⟩:=(((H6.o.drew.drews D7).alloc _).drews D8).ptrs))
 have st9:=(((H6.o.drew.drews D7).alloc _).drews D8).setQ z8;clear D7 D8 t0 t1 t2 t3 H6;generalize w8.setCell ⟨g,1,none⟩ (.int .i64 z8)=w9 at*;obtain⟨q0,q1,q2,z0,z1,z2,m0⟩:=zdo (w1:=w9) (b:=w.1.size) st9.res;obtain⟨p0,p1,p2,f0,f1,f2,m9⟩:=st9.cells;have H9:=hide (end_of st9 (.int .i64 k) (.int .i64 (z3:Int)) (.slice (some ⟨g,0,none⟩) 2 cap2));clear st9;go_wp2;refine bodyPost_ret (v:=.agg #[.int .i64 k,.int .i64 (z3:Int),.slice (some ⟨g,0,none⟩) 2 cap2]) sQ3 rfl ⟨k,z3,_,_,_,(zc6 (.inr (by have h1:=HKM.o;have h3:=HZ3.o;have h5:=HZ5.o;have h8:=HZ8.o;omega))).symm,rfl,H9.o.1,H9.o.2⟩
namespace Kit
end Kit
theorem wild_any(w0 w:World)(c:Nat)(a:Option Addr)(len cap:Nat)(hcode:zbe w0 a len)(hlen:len<=1048576)(hcur:Cur 103 w0 w c a len cap)(hcw:c<w.1.size):
  Calls Tryz.prog 81 #[.pointer (some ⟨c,0,none⟩)] w fun e w'=>∃u v iv bv xs ys is bs,e=.returned (.agg #[u,v,iv,bv])/\DO w' (fun k=>w.1.size<=k) u v iv bv xs ys is bs/\DkR xs ys is bs/\Drew w0 w w' c a len cap:=by
 have HC:=hide hcur;have HO:=hide hcode;clear hcur hcode;go_enter Tryz.func81,Tryz.ntmps81
 go_wp2_with fail
 refine(Xd.specNew_disk _).mono ?_;rintro e w1 ⟨u,v,iv,bv,rfl,O1,B1⟩;obtain⟨g1,c1,g2,c2,g3,c3,e1,e2,e3⟩:=O1.forms dC dC dC;rw[show newX.length=16 from rfl]at e1;rw[show newIs.length=8 from rfl]at e2;rw[show newBs.length=16 from rfl]at e3;obtain⟨-,-,a8,c8,-,e8⟩:=O1.two.form;rw[show newY.length=8 from rfl]at e8;subst e8;subst e1;subst e2;subst e3;obtain⟨b,hb⟩:∃b,w1.1.size=b:=⟨_,rfl⟩
 have HS0:=hide (wd_start HC.o hcw B1 O1 newDk);clear O1 B1 HC;rw[hb]at HS0;obtain⟨W1,hW1⟩:∃W1,w1.alloc (.cells #[.slice (some ⟨g1,0,none⟩) 16 c1,.slice a8 8 c8,.slice (some ⟨g2,0,none⟩) 8 c2,.slice (some ⟨g3,0,none⟩) 16 c3] 30)=W1:=⟨_,rfl⟩
 go_wp2;rw[hW1]at HS0;clear hW1 hb;go_loopw [4] (fun i wr=>∃(j:Nat)(is:List Ino),j<=8/\i=.int .i64 j/\Wd w0 w wr c a len cap b (.slice (some ⟨g1,0,none⟩) 16 c1) (.slice a8 8 c8) (.slice (some ⟨g2,0,none⟩) 8 c2) (.slice (some ⟨g3,0,none⟩) 16 c3) newX newY is newBs) (fun i _=>8-(intOf i).toNat)
 case atStart=>exact⟨0,newIs,Nat.zero_le _,rfl,HS0.o⟩
 case round =>
  obtain⟨j,is,hj,rfl,hst⟩:=hrel;have HT:=hide hst;clear hst HS0;by_cases hlt:j<8
  ·have j0:(0:Int)<=(j:Int):=by omega
   have j1:(j:Int)<8:=by omega
   go_wp2_with fail
   refine(zbk w0 wr c a len cap 2 HO.o hlen HT.o.dr.cur dC dC).mono ?_;rintro e w2 ⟨x,rfl,D2⟩;have H2:=hide (HT.o.drews D2);clear D2 HT
   cases hx:(x==0)with
   | false =>
    clear hx;go_wp2;go_roundw
    case rel=>exact⟨j+1,is,by omega,by go_num,H2.o⟩
    case measure=>simp[intOf];omega
   | true =>
    clear hx;go_wp2
    go_region_held3 (fun w'=>w'.cell? ⟨b,2,none⟩=some (.slice (some ⟨g2,0,none⟩) 8 c2)) (first| exact H2.o.drew.cells.2.2.1|exact(H2.o.drew.drews D3).cells.2.2.1|exact(H2.o.drew.putI rfl j hlt D3 k l p q _ O3 HZ3.o).cells.2.2.1) (first| (go_at_call 111;refine(zmy w0 _ c a len cap HO.o hlen H2.o.drew.dr.cur (by have h1:=H2.o.drew.dr.2.size;omega)).mono ?_;rintro e w3 ⟨k,l,p,q,pv,hz,rfl,O3,D3⟩;have HZ3:=hide hz;clear hz;obtain⟨gp,cp,rfl,-,-⟩:=ROwns.slice2 O3;obtain⟨y0,y1,y2,t0,t1,t2,t3,t4,t5,t6⟩:=(H2.o.drew.drews D3).inos rfl j hlt))
    have H4:=hide (H2.o.drew.putI rfl j hlt D3 k l p q _ O3 HZ3.o);clear D3 O3 t0 t1 t2 t3 t4 t5 t6 H2;go_wp2;go_roundw
    case rel=>exact⟨j+1,_,by omega,by go_num,H4.o⟩
    case measure=>simp[intOf];omega
  ·go_wp2;go_loopw [5] (fun i wr2=>∃(j:Nat)(bs:List Blk),j<=16/\i=.int .i64 j/\Wd w0 w wr2 c a len cap b (.slice (some ⟨g1,0,none⟩) 16 c1) (.slice a8 8 c8) (.slice (some ⟨g2,0,none⟩) 8 c2) (.slice (some ⟨g3,0,none⟩) 16 c3) newX newY is bs) (fun i _=>16-(intOf i).toNat)
   case atStart=>exact⟨0,newBs,Nat.zero_le _,rfl,HT.o⟩
   case round =>
    clear hj hlt;obtain⟨j,bs,hj,rfl,hst⟩:=hrel;have HT2:=hide hst;clear hst HT;by_cases hlt:j<16
    ·have j0:(0:Int)<=(j:Int):=by omega
     have j1:(j:Int)<16:=by omega
     go_wp2_with fail
     refine(zbk w0 wr c a len cap 2 HO.o hlen HT2.o.dr.cur dC dC).mono ?_;rintro e w2 ⟨x,rfl,D2⟩;have H2:=hide (HT2.o.drews D2);clear D2 HT2
     cases hx:(x==0)with
     | false =>
      clear hx;go_wp2;go_roundw
      case rel=>exact⟨j+1,bs,by omega,by go_num,H2.o⟩
      case measure=>simp[intOf];omega
     | true =>
      clear hx;go_wp2
      go_region_held3 (fun w'=>w'.cell? ⟨b,3,none⟩=some (.slice (some ⟨g3,0,none⟩) 16 c3)) (first| exact H2.o.drew.cells.2.2.2.1|exact(H2.o.drew.drews D3).cells.2.2.2.1|exact(H2.o.drew.putB rfl j hlt D3 d _ t ss O3 HZ3.o).cells.2.2.2.1) (first| (go_at_call 112;refine(zki w0 _ c a len cap HO.o hlen H2.o.drew.dr.cur (by have h1:=H2.o.drew.dr.2.size;omega)).mono ?_;rintro e w3 ⟨d,sv,t,ss,rfl,O3,hz,D3⟩;have HZ3:=hide hz;clear hz;obtain⟨sa,sc2,rfl,-⟩:=O3.form;obtain⟨y0,y1,y2,t0,t1,t2,t3,t4,t5,t6⟩:=(H2.o.drew.drews D3).blks rfl j hlt))
      have H4:=hide (H2.o.drew.putB rfl j hlt D3 d _ t ss O3 HZ3.o);clear D3 O3 t0 t1 t2 t3 t4 t5 t6 H2;go_wp2;go_roundw
      case rel=>exact⟨j+1,_,by omega,by go_num,H4.o⟩
      case measure=>simp[intOf];omega
    ·go_wp2;go_loopw [6] (fun i wr3=>∃(j:Nat)(xs:List Bool),j<=16/\i=.int .i64 j/\Wd w0 w wr3 c a len cap b (.slice (some ⟨g1,0,none⟩) 16 c1) (.slice a8 8 c8) (.slice (some ⟨g2,0,none⟩) 8 c2) (.slice (some ⟨g3,0,none⟩) 16 c3) xs newY is bs) (fun i _=>16-(intOf i).toNat)
     case atStart=>exact⟨0,newX,Nat.zero_le _,rfl,HT2.o⟩
     case round =>
      clear hj hlt;obtain⟨j,xs,hj,rfl,hst⟩:=hrel;have HT3:=hide hst;clear hst HT2;by_cases hlt:j<16
      ·have j0:(0:Int)<=(j:Int):=by omega
       have j1:(j:Int)<16:=by omega
       go_wp2
       go_region_held3 (fun w'=>w'.cell? ⟨b,0,none⟩=some (.slice (some ⟨g1,0,none⟩) 16 c1)) (first| exact HT3.o.drew.cells.1|exact(HT3.o.drew.drews D3).cells.1|exact((HT3.o.drew.drews D3).putX rfl j (x==0)).cells.1) (first| (go_at_call 35;refine(zbk w0 _ c a len cap 2 HO.o hlen HT3.o.drew.dr.cur dC dC).mono ?_;rintro e w3 ⟨x,rfl,D3⟩;obtain⟨y0,t0,t1,t2⟩:=(HT3.o.drew.drews D3).bit rfl j hlt))
       have H4:=hide ((HT3.o.drew.drews D3).putX rfl j (x==0));clear D3 t0 t1 t2 HT3;go_wp2;go_roundw
       case rel=>exact⟨j+1,_,by omega,by go_num,H4.o⟩
       case measure=>simp[intOf];omega
      ·go_wp2_with fail
       refine(zbk w0 wr c a len cap 6 HO.o hlen HT3.o.dr.cur dC dC).mono ?_;rintro e w2 ⟨x,rfl,D2⟩;have H2:=hide (HT3.o.drews D2);clear D2 HT3
       cases hx:(x==0)with
       | true =>
        clear hx;obtain⟨q0,q1,q2,q3,-⟩:=H2.o.cells;have r0:=H2.o.res.cell 0;have r1:=H2.o.res.cell 1;have r2:=H2.o.res.cell 2;have r3:=H2.o.res.cell 3;have f0:=H2.o.res.frozen 0;have f1:=H2.o.res.frozen 1;have f2:=H2.o.res.frozen 2;have f3:=H2.o.res.frozen 3;have hl:=H2.o.res.lt;simp only[Xd.zD]at r0 r1 r2 r3;simp at r0 r1 r2 r3;go_wp2;refine bodyPost_ret (v:=.agg #[.slice (some ⟨g1,0,none⟩) 16 c1,.slice a8 8 c8,.slice (some ⟨g2,0,none⟩) 8 c2,.slice (some ⟨g3,0,none⟩) 16 c3]) sR4 rfl ⟨_,_,_,_,_,_,_,_,rfl,?_,H2.o.ok,?_⟩
        ·exact(H2.o.dsk.of_heap fun k hk _=>by rw[heap_setCell_other _ ⟨w.1.size,3,none⟩ k _ oB,heap_setCell_other _ ⟨w.1.size,2,none⟩ k _ oB,heap_setCell_other _ ⟨w.1.size,1,none⟩ k _ oB,heap_setCell_other _ ⟨w.1.size,0,none⟩ k _ oB]).mono fun k hk=>by omega
        ·exact(((H2.o.dr.setCell hcw nR _).setCell hcw nR _).setCell hcw nR _).setCell hcw nR _
       | false =>
        clear hx;go_wp2
        go_region_held3 (fun w'=>w'.cell? ⟨b,2,none⟩=some (.slice (some ⟨g2,0,none⟩) 8 c2)) (first| exact H2.o.drew.cells.2.2.1|exact(H2.o.drew.drews D3).cells.2.2.1|exact((H2.o.drew.drews D3).drews D4).cells.2.2.1|exact(((H2.o.drew.drews D3).drews D4).alloc _).cells.2.2.1|exact(H2.o.drew.root (D3.trans D4) x3 x4 hx3 hx4).cells.2.2.1) (first| (go_at_call 36;refine(zao w0 _ c a len cap 17 HO.o hlen (H2.o.drew.drews D3).dr.cur dC dC).mono ?_;rintro e w4 ⟨x4,hx4,rfl,D4⟩;obtain⟨y0,y1,y2,t0,t1,t2,t3,t4,t5,t6⟩:=((H2.o.drew.drews D3).drews D4).inos rfl 0 dC;simp only[Nat.zero_mul,Nat.zero_add]at t0 t1 t2 t3 t4 t5;have wx:IntKind.i64.wrap (1+(x3:Int))=1+(x3:Int):=zef oM oM)| (go_at_call 36;refine(zao w0 _ c a len cap 16 HO.o hlen H2.o.drew.dr.cur dC dC).mono ?_;rintro e w3 ⟨x3,hx3,rfl,D3⟩))
        have H5:=hide (H2.o.drew.root (D3.trans D4) x3 x4 hx3 hx4);generalize (((w4.setCell ⟨g2,0,none⟩ (.int .i64 2)).setCell ⟨g2,1,none⟩ (.int .i64 1)).setCell ⟨g2,2,none⟩ (.slice (some ⟨w4.1.size,0,none⟩) 2 2)).alloc (.cells #[.int .i64 (1+(x3:Int)),.int .i64 (x4:Int)] 3)=W5 at*;obtain⟨is5,hi5⟩:∃is5,is.set 0 (2,1,[1+(x3:Int),(x4:Int)])=is5:=⟨_,rfl⟩
        rw[hi5]at H5;have h05:0<is5.length:=by rw[H5.o.ok.i];decide
        have e5:is5[0].2.2=[1+(x3:Int),(x4:Int)]:=by subst hi5;rw[List.getElem_set_self]
        have HE5:=hide e5;have wy:IntKind.i64.wrap (1+(x3:Int)-1)=(x3:Int):=by rw[zef oM oM];omega
        have x30:(0:Int)<=(x3:Int):=by omega
        have x31:(x3:Int)<16:=by omega
        clear D3 D4 t0 t1 t2 t3 t4 t5 t6 H2 hi5 wx;obtain⟨gp,cp,hD⟩:=H5.o.dir h05 hx3 e5;have HD:=hide hD;have hD0:=hide (Drew.refl H5.o.dr.cur).drew;have h5c:c<W5.1.size:=by have:=H5.o.dr.2.size;omega
        clear hD e5;go_wp2
        go_region_held3 (fun w'=>w'.cell? ⟨b,3,none⟩=some (.slice (some ⟨g3,0,none⟩) 16 c3)/\w'.cell? ⟨b,2,none⟩=some (.slice (some ⟨g2,0,none⟩) 8 c2)/\w'.cell? ⟨g2,2,none⟩=some (.slice (some ⟨gp,0,none⟩) 2 cp)/\w'.cell? ⟨gp,0,none⟩=some (.int .i64 (1+(x3:Int)))) (first| exact(HD.o _ hD0.out).1|exact(HD.o _ (hD0.out.below h5c B6)).1|exact((HD.o _ hD0.out).2 w6 _ B6 O6).1) (first| (go_at_call 113;refine(zd9 _).mono ?_;rintro e w6 ⟨a6,c6,rfl,O6,B6⟩;obtain⟨y0,y1,y2,t0,t1,t2,t3,t4,t5,t6⟩:=(H5.o.drew.over B6).blks rfl x3 hx3))
        have H6:=hide ((HD.o _ hD0.out).2 w6 _ B6 O6).2;clear t0 t1 t2 t3 t4 t5 t6 HD hD0 B6 O6 H5 wy;simp only[set3]at H6;generalize ((w6.setCell ⟨g3,x3*3,none⟩ (.bool true)).setCell ⟨g3,x3*3+1,none⟩ (.slice a6 4 c6)).setCell ⟨g3,x3*3+2,none⟩ (.string ⟨#[]⟩)=W7 at*;go_wp2;go_loopw [7] (fun i wr4=>∃(j:Nat)(ss:List Sl),j<=4/\i=.int .i64 j/\Fill j ss/\Wd w0 w wr4 c a len cap b (.slice (some ⟨g1,0,none⟩) 16 c1) (.slice a8 8 c8) (.slice (some ⟨g2,0,none⟩) 8 c2) (.slice (some ⟨g3,0,none⟩) 16 c3) xs newY is5 (bs.set x3 (true,ss,⟨#[]⟩))) (fun i _=>4-(intOf i).toNat)
        case atStart=>exact⟨0,noSl,Nat.zero_le _,rfl,fill_new,H6.o⟩
        case round =>
         clear hj hlt;obtain⟨j,ss,hj,rfl,hf,hst⟩:=hrel;have HT4:=hide hst;clear hst H6;by_cases hlt:j<4
         ·have j0:(0:Int)<=(j:Int):=by omega
          have j1:(j:Int)<4:=by omega
          have hcr:c<wr.1.size:=by have:=HT4.o.dr.2.size;omega
          have wy:IntKind.i64.wrap (1+(x3:Int)-1)=(x3:Int):=by rw[zef oM oM];omega
          obtain⟨gp,cp,gs,cs,hD⟩:=HT4.o.deep h05 hx3 HE5.o hlt hf;have HD:=hide hD;have D0:=hide (Drew.refl HT4.o.dr.cur).drew;have hnm:(#[Value.string ⟨#[112]⟩,Value.string ⟨#[113]⟩,Value.string ⟨#[114]⟩,Value.string ⟨#[115]⟩]:Array Value)[j]?=some (.string (nm4 j)):=by
           match j,hlt with
           | 0,_=>rfl
           | 1,_=>rfl
           | 2,_=>rfl
           | 3,_=>rfl
          have hnl:([Value.string ⟨#[112]⟩,Value.string ⟨#[113]⟩,Value.string ⟨#[114]⟩,Value.string ⟨#[115]⟩]:List Value)[j]?=some (.string (nm4 j)):=by simpa using hnm
          have hne:∀h:j<4,([Value.string ⟨#[112]⟩,Value.string ⟨#[113]⟩,Value.string ⟨#[114]⟩,Value.string ⟨#[115]⟩]:List Value)[j]'h=.string (nm4 j):=fun h=>by
           have:=hnl;rw[List.getElem?_eq_getElem h,Option.some.injEq]at this;exact this
          have hna:∀h:j<4,(#[Value.string ⟨#[112]⟩,Value.string ⟨#[113]⟩,Value.string ⟨#[114]⟩,Value.string ⟨#[115]⟩]:Array Value)[j]'h=.string (nm4 j):=fun h=>by
           have:=hnm;rw[Array.getElem?_eq_getElem h,Option.some.injEq]at this;exact this
          clear hD hf;go_wp2;refine wp_region_noPanic ?_;refine wp_region_held_drew (S:=fun w'=>(w'.cell? ⟨b,3,none⟩=some (.slice (some ⟨g3,0,none⟩) 16 c3)/\w'.cell? ⟨b,2,none⟩=some (.slice (some ⟨g2,0,none⟩) 8 c2)/\w'.cell? ⟨g2,2,none⟩=some (.slice (some ⟨gp,0,none⟩) 2 cp)/\w'.cell? ⟨gp,0,none⟩=some (.int .i64 (1+(x3:Int))))/\w'.cell? ⟨g3,x3*3+1,none⟩=some (.slice (some ⟨gs,0,none⟩) 4 cs)) kL (HD.o _ D0.out).1 (fun hHeld=>?_);refine tk 0 hHeld ?_;simp only[Act.put];refine tk 1 hHeld ?_;simp only[Act.put];refine tk 2 hHeld ?_;simp only[Act.put];refine tk 3 hHeld ?_;simp only[Act.put];refine tk 4 hHeld ?_;simp only[Act.put];refine tk 5 hHeld ?_;simp only[Act.put];refine tk 6 hHeld ?_;simp only[Act.put];refine tk 7 hHeld ?_;simp only[Act.put];refine tk 8 hHeld ?_;simp only[Act.put];refine tk 9 hHeld ?_;simp only[Act.put];refine tk 10 hHeld ?_;simp only[Act.put];refine tk 11 hHeld ?_;simp only[Act.put];refine tk 12 hHeld ?_;simp only[Act.put];refine tk 13 hHeld ?_;simp only[Act.put];refine tk 15 hHeld ?_;simp only[Act.put];refine tk 18 hHeld ?_;simp only[Act.put];refine wpAnyH_ready (rs:=[14,19]) kL sI ?_;refine AllReadyH.cons rfl (fun K hK=>?_) (AllReadyH.cons rfl (fun K hK=>?_) AllReadyH.nil)
          ·go_simp;refine hK.out _ _ ?_ (fun hHeld=>?_)
           ·exact(HD.o _ (D0.out.alloc hcr _)).1
           clear hK K;refine zdl (S':=fun w'=>((w'.cell? ⟨b,3,none⟩=some (.slice (some ⟨g3,0,none⟩) 16 c3)/\w'.cell? ⟨b,2,none⟩=some (.slice (some ⟨g2,0,none⟩) 8 c2)/\w'.cell? ⟨g2,2,none⟩=some (.slice (some ⟨gp,0,none⟩) 2 cp)/\w'.cell? ⟨gp,0,none⟩=some (.int .i64 (1+(x3:Int))))/\w'.cell? ⟨g3,x3*3+1,none⟩=some (.slice (some ⟨gs,0,none⟩) 4 cs))/\w'.cell? ⟨wr.1.size,j,none⟩=some (.string (nm4 j))) (fun _ h=>h.1) _ _ _ _ ?_;have hNew:(wr.drew.alloc (.cells #[.string ⟨#[112]⟩,.string ⟨#[113]⟩,.string ⟨#[114]⟩,.string ⟨#[115]⟩] 9)).cell? ⟨wr.1.size,j,none⟩=some (.string (nm4 j)):=((AtC.new wr.drew 9 _).cell j).trans hnm;have hHeld2:=And.intro hHeld hNew;refine tk 16 hHeld2 ?_;simp only[Act.put];refine tk 17 hHeld2 ?_;simp only[Act.put];refine wpAnyH_ready (rs:=[19]) kL sI ?_;refine AllReadyH.cons rfl (fun K hK=>?_) AllReadyH.nil;go_simp
           go_at_call 36
           refine(zao w0 _ c a len cap 8 HO.o hlen (D0.out.alloc hcr _).cur dC dC).mono ?_;rintro e w8 ⟨x8,hx8,rfl,D8⟩;have hz8:1<=1+(x8:Int)/\1+(x8:Int)<=8:=⟨by omega,by omega⟩
           have wz:IntKind.i64.wrap (1+(x8:Int))=1+(x8:Int):=zef oM oM;have tA:w8.cell? ⟨wr.1.size,j,none⟩=some (.string (nm4 j)):=(((AtC.new wr.drew 9 _).grown D8.2 (by have h9:wr.drew.1.size=wr.1.size:=rfl;simp;omega)).cell j).trans hnm;obtain⟨k0,⟨t0,t1,t2,y0,y1,t3,t4⟩,k2⟩:=HD.o _ ((D0.out.alloc hcr _).trans D8);clear hHeld hHeld2;go_wp2_with fail
           refine hK.out _ _ ⟨k0,tA⟩ (fun hHeld=>?_);clear hK K;refine tk 20 hHeld ?_;simp only[Act.put];refine tk 21 hHeld ?_;simp only[Act.put];refine tk 22 hHeld ?_;simp only[Act.put];refine wpAnyH_ready (rs:=[23]) kL sI ?_;refine AllReadyH.cons rfl (fun K hK=>?_) AllReadyH.nil;go_simp;refine hK.out _ _ ⟨((HD.o _ ((D0.out.alloc hcr _).trans D8)).2.2 _ hz8).1,(zmw w8 _ _ _ _ _ (by have:=(HD.o _ D0.out).2.1.1;have h9:wr.drew.1.size=wr.1.size:=rfl;omega)).trans tA⟩ (fun hHeld=>?_);clear hK K;refine wpAnyH_done kL ?_ _;refine NoPanic.normal ?_;obtain⟨ss',hf',wd⟩:=((HD.o _ ((D0.out.alloc hcr _).trans D8)).2.2 _ hz8).2;have H9:=hide (And.intro hf' wd);clear hf' wd HD D0 D8 t0 t1 t2 t3 t4 hnm hnl hne hna hHeld tA hNew k0 k2;go_wp2;go_roundw
           case rel=>exact⟨j+1,ss',by omega,by go_num,H9.o.1,H9.o.2⟩
           case measure=>simp[intOf];omega
          ·go_simp
           go_at_call 36
           refine(zao w0 _ c a len cap 8 HO.o hlen D0.out.cur dC dC).mono ?_;rintro e w8 ⟨x8,hx8,rfl,D8⟩;have hz8:1<=1+(x8:Int)/\1+(x8:Int)<=8:=⟨by omega,by omega⟩
           have wz:IntKind.i64.wrap (1+(x8:Int))=1+(x8:Int):=zef oM oM;obtain⟨k0,⟨t0,t1,t2,y0,y1,t3,t4⟩,k2⟩:=HD.o _ (D0.out.trans D8);clear hHeld;go_wp2_with fail
           refine hK.out _ _ k0 (fun hHeld=>?_);clear hK K;refine tk 20 hHeld ?_;simp only[Act.put];refine wpAnyH_ready (rs:=[14]) kL sI ?_;refine AllReadyH.cons rfl (fun K hK=>?_) AllReadyH.nil;go_simp;refine hK.out _ _ (HD.o _ ((D0.out.trans D8).alloc hcr _)).1 (fun hHeld=>?_);clear hK K;refine zdl (S':=fun w'=>((w'.cell? ⟨b,3,none⟩=some (.slice (some ⟨g3,0,none⟩) 16 c3)/\w'.cell? ⟨b,2,none⟩=some (.slice (some ⟨g2,0,none⟩) 8 c2)/\w'.cell? ⟨g2,2,none⟩=some (.slice (some ⟨gp,0,none⟩) 2 cp)/\w'.cell? ⟨gp,0,none⟩=some (.int .i64 (1+(x3:Int))))/\w'.cell? ⟨g3,x3*3+1,none⟩=some (.slice (some ⟨gs,0,none⟩) 4 cs))/\w'.cell? ⟨w8.1.size,j,none⟩=some (.string (nm4 j))) (fun _ h=>h.1) _ _ _ _ ?_;have hNew:(w8.alloc (.cells #[.string ⟨#[112]⟩,.string ⟨#[113]⟩,.string ⟨#[114]⟩,.string ⟨#[115]⟩] 9)).cell? ⟨w8.1.size,j,none⟩=some (.string (nm4 j)):=((AtC.new w8 9 _).cell j).trans hnm;have hHeld2:=And.intro hHeld hNew;refine tk 16 hHeld2 ?_;simp only[Act.put];refine tk 17 hHeld2 ?_;simp only[Act.put];refine tk 21 hHeld2 ?_;simp only[Act.put];refine tk 22 hHeld2 ?_;simp only[Act.put];clear hHeld hHeld2 hNew;refine wpAnyH_ready (rs:=[23]) kL sI ?_;refine AllReadyH.cons rfl (fun K hK=>?_) AllReadyH.nil;go_simp;refine hK.out _ _ ⟨⟨(k2 _ hz8).1.1.alloc _,zc2 (k2 _ hz8).1.2 _⟩,zmx w8 _ _ _ _ _ hnm⟩ (fun hHeld=>?_);clear hK K;refine wpAnyH_done kL ?_ _;refine NoPanic.normal ?_;obtain⟨ss',hf',wd⟩:=(k2 _ hz8).2;have H9:=hide (And.intro hf' (wd.alloc (.cells #[.string ⟨#[112]⟩,.string ⟨#[113]⟩,.string ⟨#[114]⟩,.string ⟨#[115]⟩] 9)));clear hf' wd HD D0 D8 t0 t1 t2 t3 t4 hnm hnl hne hna hHeld k0 k2;go_wp2;go_roundw
           case rel=>exact⟨j+1,ss',by omega,by go_num,H9.o.1,H9.o.2⟩
           case measure=>simp[intOf];omega
         ·obtain⟨q0,q1,q2,q3,-⟩:=HT4.o.cells;have r0:=HT4.o.res.cell 0;have r1:=HT4.o.res.cell 1;have r2:=HT4.o.res.cell 2;have r3:=HT4.o.res.cell 3;have f0:=HT4.o.res.frozen 0;have f1:=HT4.o.res.frozen 1;have f2:=HT4.o.res.frozen 2;have f3:=HT4.o.res.frozen 3;have hl:=HT4.o.res.lt;simp only[Xd.zD]at r0 r1 r2 r3;simp at r0 r1 r2 r3;go_wp2;refine bodyPost_ret (v:=.agg #[.slice (some ⟨g1,0,none⟩) 16 c1,.slice a8 8 c8,.slice (some ⟨g2,0,none⟩) 8 c2,.slice (some ⟨g3,0,none⟩) 16 c3]) sR4 rfl ⟨_,_,_,_,_,_,_,_,rfl,?_,HT4.o.ok,?_⟩
          ·exact(HT4.o.dsk.of_heap fun k hk _=>by rw[heap_setCell_other _ ⟨w.1.size,3,none⟩ k _ oB,heap_setCell_other _ ⟨w.1.size,2,none⟩ k _ oB,heap_setCell_other _ ⟨w.1.size,1,none⟩ k _ oB,heap_setCell_other _ ⟨w.1.size,0,none⟩ k _ oB]).mono fun k hk=>by omega
          ·exact(((HT4.o.dr.setCell hcw nR _).setCell hcw nR _).setCell hcw nR _).setCell hcw nR _
def zbm(is:List Ino)(i:Int):Int:=if inB i 1 is.length=true then(is.getD (i-1).toNat (0,0,[])).1 else 0
def zbg(is:List Ino)(i:Int):List Int:=if inB i 1 is.length=true then(is.getD (i-1).toNat (0,0,[])).2.2 else[]
def nmdS(ss:List Sl):List Sl:=ss.filter fun s=>decide (¬s.1=⟨#[]⟩)
def nmd(b:Blk):List Sl:=if b.1=true then nmdS b.2.1 else[]
def nmdP(bs:List Blk)(ps:List Int):List Sl:=ps.flatMap fun p=>nmd (blkAt bs p)
def named(is:List Ino)(bs:List Blk)(i:Int):List Sl:=if zbm is i=2 then nmdP bs (zbg is i)else[]
def findI:List Sl->ByteArray->Int
 | [],_=>0
 | s::r,nm=>if s.1=nm then s.2 else findI r nm
theorem zen{a b:List Sl}{nm:ByteArray}(h:∀s∈a,¬s.1=nm):findI (a++b) nm=findI b nm:=by
 induction a with
 | nil=>rfl
 | cons s r ih =>
  rw[List.cons_append,findI,if_neg (h s sI)];exact ih fun x hx=>h x (by simp[hx])
theorem zk0{a:List Sl}{nm:ByteArray}(h:∀s∈a,¬s.1=nm):findI a nm=0:=by
 have:=zen (b:=[]) h;rw[List.append_nil]at this;rw[this];rfl
theorem zj0{is:List Ino}{bs:List Blk}{j:Nat}(h:j<is.length):named is bs ((j:Int)+1)=if is[j].1=2 then nmdP bs is[j].2.2 else[]:=by
 have hb:inB ((j:Int)+1) 1 is.length=true:=by simp[inB];omega
 unfold named zbm zbg;rw[if_pos hb,if_pos hb,show((j:Int)+1-1).toNat=j by omega,List.getD_eq_getElem?_getD,List.getElem?_eq_getElem h];rfl
theorem zmz{is:List Ino}{bs:List Blk}{x:Int}(h:inB x 1 is.length=false):named is bs x=[]:=by
 unfold named zbm;rw[h];rfl
theorem zje{bs:List Blk}{x:Int}(h:inB x 1 bs.length=false):nmd (blkAt bs x)=[]:=by
 unfold blkAt;rw[h];rfl
theorem size_ne{nm:ByteArray}(h:nm.size≠0):¬nm=⟨#[]⟩:=fun e=>h (by rw[e];rfl)
theorem zm0{nm:ByteArray}(h:¬nm=⟨#[]⟩):nm.size≠0:=fun e=>h (by
 obtain⟨⟨l⟩⟩:=nm;have:l=[]:=List.length_eq_zero_iff.1 e;subst this;rfl)
theorem zjf{ss c:List Sl}{nm:ByteArray}{j:Nat}(hj:j<ss.length)(h:ss[j].1=nm)(hn:nm.size≠0)(hf:∀(i:Nat)(hi:i<j),¬(ss[i]'(Nat.lt_trans hi hj)).1=nm):findI (nmdS ss++c) nm=ss[j].2:=by
 induction ss generalizing j with
 | nil=>simp at hj
 | cons s r ih =>
  cases j with
  | zero =>
   have h':s.1=nm:=h;have:nmdS (s::r)=s::nmdS r:=by simp[nmdS,h',size_ne hn]
   rw[this,List.cons_append,findI,if_pos h'];rfl
  | succ j =>
   have h0:¬s.1=nm:=hf 0 (Nat.succ_pos _);have hi:=ih (j:=j) (by simpa using hj) h (fun i hi=>hf (i+1) (Nat.succ_lt_succ hi));by_cases e:s.1=⟨#[]⟩
   ·have:nmdS (s::r)=nmdS r:=by simp[nmdS,e]
    rw[this];exact hi
   ·have:nmdS (s::r)=s::nmdS r:=by simp[nmdS,e]
    rw[this,List.cons_append,findI,if_neg h0];exact hi
theorem zdy{ss:List Sl}{s:Sl}(h:s∈nmdS ss):s∈ss/\¬s.1=⟨#[]⟩:=by
 have:=List.mem_filter.1 h;exact⟨this.1,by simpa using this.2⟩
theorem zm1{ss:List Sl}{nm:ByteArray}(h:∀(i:Nat)(hi:i<ss.length),¬ss[i].1=nm):∀s∈nmdS ss,¬s.1=nm:=fun s hs=>by
 obtain⟨i,hi,rfl⟩:=List.getElem_of_mem (zdy hs).1;exact h i hi
theorem zia{bs:List Blk}{ps:List Int}{q:Nat}(h:q<ps.length):nmdP bs (ps.take (q+1))=nmdP bs (ps.take q)++nmd (blkAt bs ps[q]):=by
 rw[List.take_succ_eq_append_getElem h];unfold nmdP;rw[List.flatMap_append,List.flatMap_cons,List.flatMap_nil,List.append_nil]
theorem zk1{bs:List Blk}{ps:List Int}{q:Nat}(h:q<ps.length):nmdP bs ps=nmdP bs (ps.take q)++(nmd (blkAt bs ps[q])++nmdP bs (ps.drop (q+1))):=by
 have e:ps=ps.take q++ps[q]::ps.drop (q+1):=by
  rw[←List.drop_eq_getElem_cons h,List.take_append_drop]
 have:nmdP bs (ps.take q++ps[q]::ps.drop (q+1))=nmdP bs (ps.take q)++(nmd (blkAt bs ps[q])++nmdP bs (ps.drop (q+1))):=by
  unfold nmdP;rw[List.flatMap_append,List.flatMap_cons]
 rw[←e]at this;exact this
theorem zib{ss:List Sl}{t:Nat}(h:t<ss.length):nmdS (ss.take (t+1))=nmdS (ss.take t)++(if ss[t].1=⟨#[]⟩then[]else[ss[t]]):=by
 rw[List.take_succ_eq_append_getElem h];unfold nmdS;rw[List.filter_append];by_cases e:ss[t].1=⟨#[]⟩
 ·rw[if_pos e,List.filter_cons_of_neg (by simp[e]),List.filter_nil]
 ·rw[if_neg e,List.filter_cons_of_pos (by simp[e]),List.filter_nil]
theorem zbi{is:List Ino}{j:Nat}(h:j<is.length):zbm is ((j:Int)+1)=is[j].1/\zbg is ((j:Int)+1)=is[j].2.2:=by
 have hb:inB ((j:Int)+1) 1 is.length=true:=by simp[inB];omega
 unfold zbm zbg;rw[if_pos hb,if_pos hb,show((j:Int)+1-1).toNat=j by omega];simp[h]
theorem zch{is:List Ino}{i:Int}(h:inB i 1 is.length=false):zbm is i=0:=by unfold zbm;rw[h];rfl
theorem zg4{bs:List Blk}{x:Int}(h:inB x 1 bs.length=false):blkAt bs x=(false,[],⟨#[]⟩):=by unfold blkAt;rw[h];rfl
def FindP(is:List Ino)(bs:List Blk)(nm:ByteArray)(B s k:Int):Prop:=zh9 bs nm B s k/\(k≠0->∃x∈is,B∈x.2.2)
theorem FindP.zero(is:List Ino)(bs:List Blk)(nm:ByteArray):FindP is bs nm 0 0 0:=⟨.inl ⟨rfl,rfl,rfl⟩,fun e=>absurd rfl e⟩
theorem zfn(x:Int)(nm:ByteArray)(dx dy iv bv:Value)(xs ys:List Bool)(is:List Ino)(bs:List Blk)(w:World)(h:DR w dx dy iv bv xs ys is bs)(hB:Big 1048576 xs ys is bs):
  Calls Tryz.prog 204 #[.agg #[dx,dy,iv,bv],.int .i64 x,.string nm] w fun e w'=>∃B s k:Int,e=.returned (.tuple #[.int .i64 B,.int .i64 s,.int .i64 k])/\FindP is bs nm B s k/\k=findI (named is bs x) nm/\Below w.1.size w w':=by
 have H:=hide h;have HG:=hide hB;obtain⟨a3,c3,rfl,-,hc⟩:=h.i;have HC:=hide hc;clear h hc hB
 cases hb:inB x 1 is.length with
 | false =>
  have HX:=hide hb;have HNM:Hid (0=findI (named is bs x) nm):=by show 0=_;rw[zmz hb];rfl
  clear hb;have HB:Hid (∀A,Below w.1.size w (w.alloc (.cells A 30))):=fun A=>(Below.refl _ w).alloc nR _;go_enter Tryz.func204,Tryz.ntmps204
  go_wp2_with fail
  refine(zai x 1 _ _).mono ?_;rintro e w1 ⟨rfl,rfl⟩;rw[HX.o];go_wp2
  go_ret3
  exact⟨0,0,0,rfl,FindP.zero is bs nm,HNM.o,HB.o _⟩
 | true =>
  have HX:=hide hb;obtain⟨h1,h2⟩:=zas hb;clear hb;obtain⟨j,rfl⟩:∃j:Nat,x=(j:Int)+1:=⟨(x-1).toNat,by omega⟩
  have hj:j<is.length:=by omega
  obtain⟨g,off,t,rfl,hg,k0,k1,k2,r1,r2,r3⟩:=HC.o j hj;obtain⟨t0,t1,t2⟩:=t;simp only at r1 r2 r3 k0 k1 k2;subst r1 r2;have hps:=HG.o.p j hj;have HNM:Hid (named is bs ((j:Int)+1)=if is[j].1=2 then nmdP bs is[j].2.2 else[]):=zj0 hj;have hil:is.length<=1048576:=HG.o.i;generalize is[j].1=kd at*;generalize is[j].2.1=ln at*;have HPS:Hid (∀p,p∈is[j].2.2->∃x∈is,p∈x.2.2):=fun p hp=>⟨_,List.getElem_mem hj,hp⟩
  generalize is[j].2.2=ps at*;have HR:=hide r3;obtain⟨pa,pc,rfl,-⟩:=r3;have HB:Hid (Below w.1.size w (w.alloc (.cells #[dx,dy,.slice (some ⟨g,off,none⟩) is.length c3,bv] 30))):=(Below.refl _ w).alloc nR _;have n0:(w.alloc (.cells #[dx,dy,.slice (some ⟨g,off,none⟩) is.length c3,bv] 30)).cell? ⟨g,off+j*3,none⟩=some (.int .i64 kd):=(HB.o.cell (p:=⟨g,off+j*3,none⟩) hg).trans k0;have n1:(w.alloc (.cells #[dx,dy,.slice (some ⟨g,off,none⟩) is.length c3,bv] 30)).cell? ⟨g,off+j*3+1,none⟩=some (.int .i64 ln):=(HB.o.cell (p:=⟨g,off+j*3+1,none⟩) hg).trans k1;have n2:(w.alloc (.cells #[dx,dy,.slice (some ⟨g,off,none⟩) is.length c3,bv] 30)).cell? ⟨g,off+j*3+2,none⟩=some (.slice pa ps.length pc):=(HB.o.cell (p:=⟨g,off+j*3+2,none⟩) hg).trans k2;have j0:(0:Int)<=(j:Int):=by omega
  have j1:(j:Int)<(is.length:Int):=by omega
  clear k0 k1 k2;go_enter Tryz.func204,Tryz.ntmps204
  go_wp2_with fail
  refine(zai _ 1 _ _).mono ?_;rintro e w1 ⟨rfl,rfl⟩;rw[HX.o];by_cases hk:kd=2
  ·subst hk;have HW:Hid (∀W,Below ((w.alloc (.cells #[dx,dy,.slice (some ⟨g,off,none⟩) is.length c3,bv] 30)).alloc (.cells #[.int .i64 2,.int .i64 ln,.slice pa ps.length pc] 59)).1.size ((w.alloc (.cells #[dx,dy,.slice (some ⟨g,off,none⟩) is.length c3,bv] 30)).alloc (.cells #[.int .i64 2,.int .i64 ln,.slice pa ps.length pc] 59)) W->AtC W w.1.size 30 #[dx,dy,.slice (some ⟨g,off,none⟩) is.length c3,bv]/\AtC W (w.1.size+1) 59 #[.int .i64 2,.int .i64 ln,.slice pa ps.length pc]/\Below w.1.size w W/\RInts W (.slice pa ps.length pc) ps/\DR W dx dy (.slice (some ⟨g,off,none⟩) is.length c3) bv xs ys is bs):=fun W b=>by
    have q2:=(AtC.new (w.alloc (.cells #[dx,dy,.slice (some ⟨g,off,none⟩) is.length c3,bv] 30)) 59 #[.int .i64 2,.int .i64 ln,.slice pa ps.length pc]).over b;simp at q2;have bb:Below w.1.size w W:=(((Below.refl _ w).alloc nR _).alloc sI _).trans (b.mono sO);exact⟨((AtC.new w 30 _).alloc _).over b,q2,bb,HR.o.below bb nR,H.out.below bb nR⟩
   go_wp2;go_loopw [10] (fun i wr=>∃q:Nat,q<=ps.length/\i=.int .i64 q/\Hid (Below ((w.alloc (.cells #[dx,dy,.slice (some ⟨g,off,none⟩) is.length c3,bv] 30)).alloc (.cells #[.int .i64 2,.int .i64 ln,.slice pa ps.length pc] 59)).1.size ((w.alloc (.cells #[dx,dy,.slice (some ⟨g,off,none⟩) is.length c3,bv] 30)).alloc (.cells #[.int .i64 2,.int .i64 ln,.slice pa ps.length pc] 59)) wr)/\Hid (∀s∈nmdP bs (ps.take q),¬s.1=nm)) (fun i _=>ps.length-(intOf i).toNat)
   case atStart=>exact⟨0,Nat.zero_le _,rfl,Below.refl _ _,fun s hs=>by simp[nmdP]at hs⟩
   case round =>
    obtain⟨q,hq,rfl,HQ,HTK⟩:=hrel;obtain⟨A0,A1,-,-,-⟩:=HW.o wr HQ.o;have y2:=A1.c2;clear A0 A1;by_cases hlt:q<ps.length
    ·obtain⟨A0,A1,-,rI,dR⟩:=HW.o wr HQ.o;obtain⟨pa',pc',e1,hcp⟩:=rI;simp only[Value.slice.injEq,true_and]at e1;obtain⟨rfl,rfl⟩:=e1;obtain⟨gp,op,rfl,hgp,kp⟩:=hcp q hlt;obtain⟨Pn,hPn⟩:∃Pn,ps[q]=Pn:=⟨_,rfl⟩
     rw[hPn]at kp;have HNQ:Hid ((∀s∈nmd (blkAt bs Pn),¬s.1=nm)->∀s∈nmdP bs (ps.take (q+1)),¬s.1=nm):=fun h s hs=>by
      rw[zia hlt,hPn]at hs;exact(List.mem_append.1 hs).elim (HTK.o s) (h s)
     have HNS:Hid (∀r,(∀c,findI (nmd (blkAt bs Pn)++c) nm=r)->r=findI (named is bs ((j:Int)+1)) nm):=fun r h=>by
      rw[HNM.o,if_pos trivial,zk1 hlt,zen HTK.o,hPn];exact(h _).symm
     have HPM:Hid (∃x∈is,Pn∈x.2.2):=HPS.o Pn (by rw[←hPn];exact List.getElem_mem _);have HD:=hide dR;have hbl:bs.length<=1048576:=HG.o.b;have CB:=hide (fun(W:World)(hd:Below wr.1.size wr W)=>zgw Pn dx dy (.slice (some ⟨g,off,none⟩) is.length c3) bv xs ys is bs wr W HD.o hd hbl);have hbn:=zms HG.o Pn;obtain⟨⟨bd,bss,btx⟩,hBD⟩:∃X,blkAt bs Pn=X:=⟨_,rfl⟩
     obtain⟨F,hF⟩:∃F,inB Pn 1 bs.length=F:=⟨_,rfl⟩
     rw[hBD,hF]at CB;rw[hBD]at hbn;have HBD:=hide hBD;have HFF:=hide hF;have q0:(0:Int)<=(q:Int):=by omega
     have q1:(q:Int)<(ps.length:Int):=by omega
     have HC2:Hid (∀W,Below wr.drew.1.size wr.drew W->AtC W w.1.size 30 #[dx,dy,.slice (some ⟨g,off,none⟩) is.length c3,bv]/\AtC W (w.1.size+1) 59 #[.int .i64 2,.int .i64 ln,.slice (some ⟨gp,op,none⟩) ps.length pc]/\W.cell? ⟨gp,op+q,none⟩=some (.int .i64 Pn)/\DR W dx dy (.slice (some ⟨g,off,none⟩) is.length c3) bv xs ys is bs):=fun W b=>by
      have b2:=zac b;exact⟨A0.over b2,A1.over b2,(b2.cell (p:=⟨gp,op+q,none⟩) hgp).trans kp,HD.o.below b2 nR⟩
     have HKP:=hide kp;clear hPn kp dR hcp hBD hF A0 A1;go_wp2_with fail
     refine Exists.elim (p:=fun QQ:Exit->Act->World->Prop=>∀ex ac W,QQ ex ac W↔(ex=.normal/\∃(z6:Value)(bw:Nat)(sa:Option Addr)(sc:Nat),ac=⟨List.toArray ((Value.agg #[dx,dy,Value.slice (some ⟨g,off,none⟩) is.length c3,bv])::(Value.int IntKind.i64 (↑j+1))::(Value.string nm)::(Value.pointer (some ⟨w.1.size,0,none⟩))::undef::undef::u6::u7::u8::(Value.pointer (some ⟨w.1.size+1,0,none⟩))::(Value.int IntKind.i64 ↑q)::(.pointer (some ⟨bw,0,none⟩))::(.bool F)::u13::(Value.int IntKind.i64 (↑j+1))::(Value.pointer (some ⟨w.1.size,2,none⟩))::(Value.slice (some ⟨g,off,none⟩) is.length c3)::(Value.int IntKind.i64 ↑is.length)::(Value.bool true)::(Value.bool false)::(Value.bool false)::(Value.pointer (some ⟨w.1.size,2,none⟩))::(Value.slice (some ⟨g,off,none⟩) is.length c3)::(Value.int IntKind.i64 (↑j+1))::(Value.int IntKind.i64 ↑j)::(Value.pointer (some ⟨g,off+j*3,none⟩))::(Value.pointer (some ⟨g,off+j*3,none⟩))::(Value.int IntKind.i64 2)::(Value.bool false)::(Value.bool false)::(Value.pointer (some ⟨w.1.size,2,none⟩))::(Value.slice (some ⟨g,off,none⟩) is.length c3)::(Value.int IntKind.i64 (↑j+1))::(Value.int IntKind.i64 ↑j)::(Value.pointer (some ⟨g,off+j*3,none⟩))::(Value.agg #[Value.int IntKind.i64 2,Value.int IntKind.i64 ln,Value.slice (some ⟨gp,op,none⟩) ps.length pc])::(Value.int IntKind.i64 ↑q)::(Value.pointer (some ⟨w.1.size+1,2,none⟩))::(Value.slice (some ⟨gp,op,none⟩) ps.length pc)::(Value.int IntKind.i64 ↑ps.length)::(Value.bool true)::u41::u42::z6::(.agg #[dx,dy,.slice (some ⟨g,off,none⟩) is.length c3,bv])::(.pointer (some ⟨w.1.size+1,2,none⟩))::(.slice (some ⟨gp,op,none⟩) ps.length pc)::(.int .i64 q)::(.pointer (some ⟨gp,op+q,none⟩))::(.int .i64 Pn)::z6::(.agg #[.bool bd,.slice sa bss.length sc,.string btx])::(.bool F)::u53::u54::u55::u56::u57::u58::u59::u60::u61::u62::u63::u64::u65::u66::u67::u68::u69::u70::u71::u72::u73::u74::u75::u76::[]),[]⟩/\AtC W bw 95 #[.bool bd,.slice sa bss.length sc,.string btx]/\RSl wr (.slice sa bss.length sc) bss/\Below wr.1.size wr W)) ⟨_,fun _ _ _=>Iff.rfl⟩ fun QQ hQQ=>?_;have HQQ:=hide hQQ;clear hQQ;refine Code.wp_mono (Q:=QQ) ?_ ?_
     rotate_left
     ·refine zbd kL [0,1,2,3,4,5,6,7,8,9,10] [11,12] [([0,1,2,3,4,5,6,7,8,10],[[9,11,12],[11,9,12]])] (fun i=>match i with|0=>.const [] (.agg #[dx,dy,.slice (some ⟨g,off,none⟩) is.length c3,bv])|1=>.const [] (.pointer (some ⟨w.1.size+1,2,none⟩))|2=>.const [1] (.slice (some ⟨gp,op,none⟩) ps.length pc)|3=>.const [] (.int .i64 q)|4=>.const [2,3] (.pointer (some ⟨gp,op+q,none⟩))|5=>.const [4] (.int .i64 Pn)|6=>MkBf 0 5 wr bd btx bss F|7=>MkBv 6 bd btx bss.length F|8=>MkBx 7|9=>.const [7] (.bool F)|10=>MkW 95 #[.bool false,.slice none 0 0,.string ⟨#[]⟩]|_=>.triv) (fun x=>⟨List.toArray ((.agg #[dx,dy,.slice (some ⟨g,off,none⟩) is.length c3,bv])::(.int .i64 (↑j+1))::(.string nm)::(.pointer (some ⟨w.1.size,0,none⟩))::undef::undef::u6::u7::u8::(.pointer (some ⟨w.1.size+1,0,none⟩))::(.int .i64 ↑q)::(x 10)::u12::u13::(.int .i64 (↑j+1))::(.pointer (some ⟨w.1.size,2,none⟩))::(.slice (some ⟨g,off,none⟩) is.length c3)::(.int .i64 ↑is.length)::(.bool true)::(.bool false)::(.bool false)::(.pointer (some ⟨w.1.size,2,none⟩))::(.slice (some ⟨g,off,none⟩) is.length c3)::(.int .i64 (↑j+1))::(.int .i64 ↑j)::(.pointer (some ⟨g,off+j*3,none⟩))::(.pointer (some ⟨g,off+j*3,none⟩))::(.int .i64 2)::(.bool false)::(.bool false)::(.pointer (some ⟨w.1.size,2,none⟩))::(.slice (some ⟨g,off,none⟩) is.length c3)::(.int .i64 (↑j+1))::(.int .i64 ↑j)::(.pointer (some ⟨g,off+j*3,none⟩))::(.agg #[.int .i64 2,.int .i64 ln,.slice (some ⟨gp,op,none⟩) ps.length pc])::(.int .i64 ↑q)::(.pointer (some ⟨w.1.size+1,2,none⟩))::(.slice (some ⟨gp,op,none⟩) ps.length pc)::(.int .i64 ↑ps.length)::(.bool true)::u41::u42::(x 7)::(x 0)::(x 1)::(x 2)::(x 3)::(x 4)::(x 5)::(x 6)::(x 8)::(x 9)::u53::u54::u55::u56::u57::u58::u59::u60::u61::u62::u63::u64::u65::u66::u67::u68::u69::u70::u71::u72::u73::u74::u75::u76::[]),[]⟩) (fun i=>match i with|0=>u44|1=>u45|2=>u46|3=>u47|4=>u48|5=>u49|6=>u50|7=>u43|8=>u51|9=>u52|10=>u11|_=>undef) rfl kL kL kL kL rfl ?_ ?_ ?_
      ·intro jo hj so x iw W hd hp K hK;simp only[List.mem_cons,List.not_mem_nil,or_false]at hj;rcases hj with rfl|rfl|rfl|rfl|rfl|rfl|rfl|rfl|rfl|rfl|rfl<;>refine wpOp_step (o:=_) rfl fun K' hK'=>?_<;>have HK:=hide (fun(v:Value) (W':World) h1 h2=>hK' _ _ (hK v W' h1 h2))<;>simp only[upd,Nat.reduceEqDiff,if_true,if_false]at HK
       ·have k0:=(HC2.o W hp.bel).1;have y0:=k0.c0;have y1:=k0.c1;have y2:=k0.c2;have y3:=k0.c3;clear k0;go_simp;exact HK.o _ _ bR rfl
       ·exact cQ10
       ·have e1:x 1=.pointer (some ⟨w.1.size+1,2,none⟩):=hp.post 1 (hd 1 mz0);have y0:=(HC2.o W hp.bel).2.1.c2;simp only[e1]at HK ⊢;go_simp;exact HK.o _ _ bR rfl
       ·exact cQ10
       ·have e2:x 2=.slice (some ⟨gp,op,none⟩) ps.length pc:=hp.post 2 (hd 2 mz0);have e3:x 3=.int .i64 q:=hp.post 3 (hd 3 mz1);simp only[e2,e3]at HK ⊢;go_simp;exact HK.o _ _ bR rfl
       ·have e4:x 4=.pointer (some ⟨gp,op+q,none⟩):=hp.post 4 (hd 4 mz0);have y0:W.cell? ⟨gp,op+q,none⟩=some (.int .i64 Pn):=(HC2.o W hp.bel).2.2.1;simp only[e4]at HK ⊢;go_simp;exact HK.o _ _ bR rfl
       ·have e0:x 0=.agg #[dx,dy,.slice (some ⟨g,off,none⟩) is.length c3,bv]:=hp.post 0 (hd 0 mz0);have e5:x 5=.int .i64 Pn:=hp.post 5 (hd 5 mz1);have dr:=zac hp.bel;simp only[e0,e5]at HK ⊢;clear e0 e5;go_simp;refine(CB.out W dr).mono ?_;rintro e w6 ⟨sv,rfl,R6,B6⟩;obtain⟨sa,sc,rfl,hR6⟩:=R6;go_simp;exact HK.o _ _ B6 ⟨sa,sc,rfl,sa,sc,rfl,hR6⟩
       ·have e6:∃a c,x 6=.tuple #[.agg #[.bool bd,.slice a bss.length c,.string btx],.bool F]/\RSl wr (.slice a bss.length c) bss:=hp.post 6 (hd 6 mz0);obtain⟨sa,sc,e6,-⟩:=e6;have e6a:=hide e6;simp only[e6]at HK ⊢;clear e6;go_simp;exact HK.o _ _ bR ⟨e6a.out,sa,sc,rfl⟩
       ·have e7:x 6=x 7/\∃a c,x 7=.tuple #[.agg #[.bool bd,.slice a bss.length c,.string btx],.bool F]:=hp.post 7 (hd 7 mz0);obtain⟨-,sa,sc,e7⟩:=e7;have e7a:Hid (.agg #[.bool bd,.slice sa bss.length sc,.string btx]=fstOf (x 7)):=by rw[e7];rfl
        simp only[e7]at HK ⊢;clear e7;go_simp;exact HK.o _ _ bR e7a.out
       ·have e7:x 6=x 7/\∃a c,x 7=.tuple #[.agg #[.bool bd,.slice a bss.length c,.string btx],.bool F]:=hp.post 7 (hd 7 mz0);obtain⟨-,sa,sc,e7⟩:=e7;simp only[e7]at HK ⊢;clear e7;go_simp;exact HK.o _ _ bR rfl
       ·exact cQ40
      ·intro x iw W hp;obtain⟨e7,-⟩:=hp.post 7 dC;obtain⟨sa,sc,e6,R6⟩:=hp.post 6 dC;have e8:x 8=fstOf (x 7):=hp.post 8 dC;obtain⟨e10,z10,A10⟩:=hp.post 10 dC;have l10:=hp.lo 10 dC;have bel:=zac hp.bel;rw[←e7,e6]at e8;rw[e6]at e7
       replace e8:x 8=.agg #[.bool bd,.slice sa bss.length sc,.string btx]:=e8
       have e9:x 9=.bool F:=hp.post 9 dC;have e0:x 0=.agg #[dx,dy,.slice (some ⟨g,off,none⟩) is.length c3,bv]:=hp.post 0 dC;have e1:x 1=.pointer (some ⟨w.1.size+1,2,none⟩):=hp.post 1 dC;have e2:x 2=.slice (some ⟨gp,op,none⟩) ps.length pc:=hp.post 2 dC;have e3:x 3=.int .i64 q:=hp.post 3 dC;have e4:x 4=.pointer (some ⟨gp,op+q,none⟩):=hp.post 4 dC;have e5:x 5=.int .i64 Pn:=hp.post 5 dC;have y0:=A10.c0;have f0:=A10.frozen 0;have y1:=A10.c1;have f1:=A10.frozen 1;have y2:=A10.c2;have f2:=A10.frozen 2;have hb10:wr.1.size<=(iw 10).1:=l10.1;have HM:Hid (AtC (((W.setCell ⟨(iw 10).1,0,none⟩ (.bool bd)).setCell ⟨(iw 10).1,1,none⟩ (.slice sa bss.length sc)).setCell ⟨(iw 10).1,2,none⟩ (.string btx)) (iw 10).1 95 #[.bool bd,.slice sa bss.length sc,.string btx]/\RSl wr (.slice sa bss.length sc) bss/\Below wr.1.size wr (((W.setCell ⟨(iw 10).1,0,none⟩ (.bool bd)).setCell ⟨(iw 10).1,1,none⟩ (.slice sa bss.length sc)).setCell ⟨(iw 10).1,2,none⟩ (.string btx))):=by
        exact cQ39
       clear hp l10 A10 bel hb10 z10;generalize (iw 10).1=bw at*;simp only[e0,e1,e2,e3,e4,e5,e6,←e7,e8,e9,e10];clear e0 e1 e2 e3 e4 e5 e6 e7 e8 e9 e10;refine line2 rfl rfl ?_;go_wp2;exact(HQQ.o _ _ _).2 ⟨rfl,_,bw,sa,sc,rfl,HM.o.1,HM.o.2.1,HM.o.2.2⟩
      ·intro qa hqa l hl x iw W hp;simp only[List.mem_cons,List.not_mem_nil,or_false]at hqa;subst hqa;simp only[List.mem_cons,List.not_mem_nil,or_false]at hl;obtain⟨e7,-⟩:=hp.post 7 dC;obtain⟨sa,sc,e6,R6⟩:=hp.post 6 dC;have e8:x 8=fstOf (x 7):=hp.post 8 dC;obtain⟨e10,z10,A10⟩:=hp.post 10 dC;have l10:=hp.lo 10 dC;have bel:=zac hp.bel;rw[←e7,e6]at e8;rw[e6]at e7
       replace e8:x 8=.agg #[.bool bd,.slice sa bss.length sc,.string btx]:=e8
       have e0:x 0=.agg #[dx,dy,.slice (some ⟨g,off,none⟩) is.length c3,bv]:=hp.post 0 dC;have e1:x 1=.pointer (some ⟨w.1.size+1,2,none⟩):=hp.post 1 dC;have e2:x 2=.slice (some ⟨gp,op,none⟩) ps.length pc:=hp.post 2 dC;have e3:x 3=.int .i64 q:=hp.post 3 dC;have e4:x 4=.pointer (some ⟨gp,op+q,none⟩):=hp.post 4 dC;have e5:x 5=.int .i64 Pn:=hp.post 5 dC;have y0:=A10.c0;have f0:=A10.frozen 0;have y1:=A10.c1;have f1:=A10.frozen 1;have y2:=A10.c2;have f2:=A10.frozen 2;have hb10:wr.1.size<=(iw 10).1:=l10.1;have HM:Hid (AtC (((W.setCell ⟨(iw 10).1,0,none⟩ (.bool bd)).setCell ⟨(iw 10).1,1,none⟩ (.slice sa bss.length sc)).setCell ⟨(iw 10).1,2,none⟩ (.string btx)) (iw 10).1 95 #[.bool bd,.slice sa bss.length sc,.string btx]/\RSl wr (.slice sa bss.length sc) bss/\Below wr.1.size wr (((W.setCell ⟨(iw 10).1,0,none⟩ (.bool bd)).setCell ⟨(iw 10).1,1,none⟩ (.slice sa bss.length sc)).setCell ⟨(iw 10).1,2,none⟩ (.string btx))):=by
        exact cQ39
       clear hp l10 A10 bel hb10 z10;generalize (iw 10).1=bw at*;simp only[e0,e1,e2,e3,e4,e5,e6,←e7,e8,e10];clear e0 e1 e2 e3 e4 e5 e6 e7 e8 e10;rcases hl with rfl|rfl
       ·exact cQ106
       ·exact cQ106
     intro ex ac W3 hq3;obtain⟨rfl,z6,bw,sa,sc,rfl,A3,R3,B3⟩:=(HQQ.o _ _ _).1 hq3;clear hq3 HQQ;have HN:Hid (∀W,Below W3.1.size W3 W->AtC W bw 95 #[.bool bd,.slice sa bss.length sc,.string btx]/\RSl W (.slice sa bss.length sc) bss/\W.cell? ⟨w.1.size+1,2,none⟩=some (.slice (some ⟨gp,op,none⟩) ps.length pc)/\W.cell? ⟨gp,op+q,none⟩=some (.int .i64 Pn)/\Below w.1.size w W/\Below ((w.alloc (.cells #[dx,dy,.slice (some ⟨g,off,none⟩) is.length c3,bv] 30)).alloc (.cells #[.int .i64 2,.int .i64 ln,.slice (some ⟨gp,op,none⟩) ps.length pc] 59)).1.size ((w.alloc (.cells #[dx,dy,.slice (some ⟨g,off,none⟩) is.length c3,bv] 30)).alloc (.cells #[.int .i64 2,.int .i64 ln,.slice (some ⟨gp,op,none⟩) ps.length pc] 59)) W):=fun W b=>by
      have b2:=B3.trans (b.mono B3.size);have b3:=HQ.o.trans (b2.mono HQ.o.size);obtain⟨-,k2,k3,-⟩:=HW.o W b3;exact⟨A3.over b,R3.below b2 nR,k2.cell 2,(b2.cell (p:=⟨gp,op+q,none⟩) hgp).trans HKP.o,k3,b3⟩
     obtain⟨d1,d2,-⟩:=HN.o _ bR;have g0:=d1.c0;have g1:=d1.c1;have g2:=d1.c2;have HD2:=hide d2;clear d1 d2 A3 R3 B3 y2 CB HC2;go_wp2_with fail
     refine(zju bd _ bss btx nm W3 HD2.o hbn).mono ?_;rintro e w4 ⟨k,rfl,SL,B4⟩;obtain⟨d1,d2,d3,d4,d5,d6⟩:=HN.o w4 B4;have g0:=d1.c0;have g1:=d1.c1;have HE:=hide (And.intro d5 d6);clear d1 d5 d6 HN B4 HD2 HQ
     cases F with
     | false =>
      have HTN:Hid (∀s∈nmdP bs (ps.take (q+1)),¬s.1=nm):=HNQ.o (by rw[zje HFF.o];intro s hs;simp at hs);go_wp2;go_roundw
      case rel=>exact⟨q+1,by omega,by go_num,HE.o.2,HTN.o⟩
      case measure=>simp[intOf];omega
     | true =>
      cases bd with
      | false =>
       have HTN:Hid (∀s∈nmdP bs (ps.take (q+1)),¬s.1=nm):=HNQ.o (by rw[HBD.o];intro s hs;simp[nmd]at hs);go_wp2;go_roundw
       case rel=>exact⟨q+1,by omega,by go_num,HE.o.2,HTN.o⟩
       case measure=>simp[intOf];omega
      | true =>
       rcases SL with⟨rfl,hno⟩| ⟨jj,hjj,rfl,hnm,hsz,hfst⟩
       ·have HTN:Hid (∀s∈nmdP bs (ps.take (q+1)),¬s.1=nm):=HNQ.o (by
         rw[HBD.o];intro s hs e;have hs2:s∈nmdS bss:=by simpa[nmd]using hs
         rcases hno with h0|h0
         ·exact absurd (by rw[e];exact h0) (zm0 (zdy hs2).2)
         ·exact zm1 h0 s hs2 e)
        clear hno;go_wp2;go_roundw
        case rel=>exact⟨q+1,by omega,by go_num,HE.o.2,HTN.o⟩
        case measure=>simp[intOf];omega
       ·obtain⟨sa',sc',e1,-,hcs⟩:=d2;simp only[Value.slice.injEq,true_and]at e1;obtain⟨rfl,rfl⟩:=e1;obtain⟨gs,os,rfl,-,-,ks⟩:=hcs jj hjj;have HFI:Hid (zh9 bs nm Pn (jj:Int) bss[jj].2):=by
         show zh9 bs nm Pn (jj:Int) bss[jj].2;unfold zh9;rw[HBD.o];exact .inr ⟨HFF.o,rfl,jj,hjj,rfl,rfl,hnm,hsz⟩
        have HFX:Hid (bss[jj].2=findI (named is bs ((j:Int)+1)) nm):=HNS.o _ fun c=>by
         rw[HBD.o];exact zjf hjj hnm hsz hfst
        clear hfst;generalize bss[jj].2=ino at*;have t0:(0:Int)<=(jj:Int):=by omega
        have t1:(jj:Int)<(bss.length:Int):=by omega
        clear hcs hnm hsz;go_wp2;go_quiet(fail)
        go_wp2
        go_ret3
        exact⟨_,_,_,rfl,⟨HFI.o,fun _=>HPM.o⟩,HFX.o,below_drewN HE.o.1 _⟩
    ·have HF:=hide (HW.o wr HQ.o).2.2.1;have HFX:Hid (0=findI (named is bs ((j:Int)+1)) nm):=by
      have e:=HTK.o;rw[List.take_of_length_le oM]at e;show 0=_;rw[HNM.o,if_pos trivial,zk0 e]
     clear HQ;go_wp2
     go_ret3
     exact⟨0,0,0,rfl,FindP.zero is bs nm,HFX.o,HF.o⟩
  ·have hk2:decide (kd=2)=false:=decide_eq_false hk;have HFX:Hid (0=findI (named is bs ((j:Int)+1)) nm):=by show 0=_;rw[HNM.o,if_neg hk];rfl
   go_wp2
   go_ret3
   exact⟨0,0,0,rfl,FindP.zero is bs nm,HFX.o,HB.o⟩
theorem zic(x:Int)(nm:ByteArray)(dx dy iv bv:Value)(xs ys:List Bool)(is:List Ino)(bs:List Blk)(w:World)(h:DR w dx dy iv bv xs ys is bs)(hB:Big 1048576 xs ys is bs):
  Calls Tryz.prog 204 #[.agg #[dx,dy,iv,bv],.int .i64 x,.string nm] w fun e w'=>∃B s k:Int,e=.returned (.tuple #[.int .i64 B,.int .i64 s,.int .i64 k])/\FindP is bs nm B s k/\Below w.1.size w w' :=
 (zfn x nm dx dy iv bv xs ys is bs w h hB).mono fun _ _ ⟨a,b,c,h1,h2,_,h3⟩=>⟨a,b,c,h1,h2,h3⟩
theorem find_any(x:Int)(nm:ByteArray)(dx dy iv bv:Value)(xs ys:List Bool)(is:List Ino)(bs:List Blk)(w:World)(h:DR w dx dy iv bv xs ys is bs)(hB:Big 1048576 xs ys is bs):
  Calls Tryz.prog 204 #[.agg #[dx,dy,iv,bv],.int .i64 x,.string nm] w fun e w'=>∃B s k:Int,e=.returned (.tuple #[.int .i64 B,.int .i64 s,.int .i64 k])/\zh9 bs nm B s k/\Below w.1.size w w' :=
 (zfn x nm dx dy iv bv xs ys is bs w h hB).mono fun _ _ ⟨a,b,c,h1,h2,_,h3⟩=>⟨a,b,c,h1,h2.1,h3⟩
namespace Kit
theorem zc3{w:World}{B:Nat}{v:Value}{l:List ByteArray}(h:ROwns w B 9 v (stc l))(j:Nat)(hj:j<l.length):∃g c,v=.slice (some ⟨g,0,none⟩) l.length c/\w.cell? ⟨g,j,none⟩=some (.string l[j])/\g<w.1.size:=by
 obtain⟨g,c,e,h1,-,-,h4,-⟩:=h.at j (by rw[zaf];exact hj);rw[zaf]at e;exact⟨g,c,e,h1.trans (by simp[stc,hj]),h4⟩
end Kit
def walkN(is:List Ino)(bs:List Blk):Int->List ByteArray->Int
 | i,[]=>i
 | i,n::r=>if inB (findI (named is bs i) n) 1 is.length=true then walkN is bs (findI (named is bs i) n) r else 0
def InoN(is:List Ino)(bs:List Blk)(p:ByteArray)(e:Ending):Prop:=∃k:Int,e=.returned (.int .i64 k)/\0<=k/\k<=8/\∀l,Ans p l true->k=walkN is bs 1 l
theorem InoN.mk{is:List Ino}{bs:List Blk}{p:ByteArray}{e:Ending}(h:∃k:Int,e=.returned (.int .i64 k)/\0<=k/\k<=8/\∀l,Ans p l true->k=walkN is bs 1 l):InoN is bs p e:=h
theorem zcm(dx dy iv bv:Value)(xs ys:List Bool)(is:List Ino)(bs:List Blk)(p:ByteArray)(w:World)(h:DR w dx dy iv bv xs ys is bs)(hB:Big 1048576 xs ys is bs)(hi:is.length=8)(hp:p.size<=1048576):
  Calls Tryz.prog 193 #[.agg #[dx,dy,iv,bv],.string p] w fun e w'=>InoN is bs p e/\Below w.1.size w w':=by
 obtain⟨a1,c1,a2,c2,a3,c3,a4,c4,rfl,rfl,rfl,rfl⟩:=h.form;have HH:=hide h;have HB:=hide hB;have HI:=hide hi;have HPP:=hide hp;have HW:Hid (∀W,Below (w.alloc (.cells #[.slice a1 xs.length c1,.slice a2 ys.length c2,.slice a3 is.length c3,.slice a4 bs.length c4] 30)).1.size (w.alloc (.cells #[.slice a1 xs.length c1,.slice a2 ys.length c2,.slice a3 is.length c3,.slice a4 bs.length c4] 30)) W->Below w.1.size w W/\AtC W w.1.size 30 #[.slice a1 xs.length c1,.slice a2 ys.length c2,.slice a3 is.length c3,.slice a4 bs.length c4]):=fun W bb=>⟨((Below.refl _ w).alloc nR _).trans (bb.mono sI),(AtC.new w 30 _).over bb⟩
 clear h hB hi hp;go_enter Tryz.func193,Tryz.ntmps193
 go_wp2_with fail
 refine(zdv p _ HPP.o).mono ?_;rintro e w1 ⟨⟨lv,l,r,rfl,O1,hl1,-,hans⟩,B1⟩;have HANS:=hide hans;clear hans;obtain⟨la,lc,rfl,-⟩:=O1.form;obtain⟨ll,hll⟩:∃ll,(stc l).length=ll:=⟨_,rfl⟩
 have HL2:Hid (l.length=ll):=by show l.length=ll;rw[←hll,zaf]
 rw[hll]at O1;rw[hll];clear hll;generalize hW0:(w.alloc (.cells #[.slice a1 xs.length c1,.slice a2 ys.length c2,.slice a3 is.length c3,.slice a4 bs.length c4] 30))=W0 at*;clear hW0;have HO1:=hide O1;have HL1:=hide hl1;have HB1:=hide B1;clear O1 hl1 B1
 cases r with
 | false =>
  go_wp2;go_ret;exact⟨InoN.mk ⟨0,rfl,by decide,by decide,fun l2 h2=>absurd (HANS.o.one h2).2 dC⟩,(HW.o _ HB1.o).1⟩
 | true =>
  have HL3:Hid (l.length<=4/\∀s∈l,zan s=true):=HL1.o rfl;have hl4:ll<=4:=by have:=HL2.o;have:=HL3.o.1;omega
  clear HL1;go_wp2_with fail
  go_loopw [8,7] (fun i' k' wr=>∃(q:Nat)(k:Int),q<=ll/\i'=.int .i64 q/\k'=.int .i64 k/\1<=k/\k<=8/\Hid (Below w1.1.size w1 wr/\walkN is bs 1 l=walkN is bs k (l.drop q))) (fun i' k' _=>ll-(intOf i').toNat)
  case atStart=>exact⟨0,1,Nat.zero_le _,rfl,rfl,by decide,by decide,Below.refl _ _,by rw[List.drop_zero]⟩
  case round =>
   obtain⟨q,k,hq,rfl,rfl,hk1,hk8,HR2⟩:=hrel;have HR:=hide HR2.o.1;have HWN:=hide HR2.o.2;clear HR2;by_cases hlt:q<ll
   ·obtain⟨g,c,e9,kq9,hg⟩:=zc3 (HO1.o.below HR.o nR) q (by rw[HL2.o];exact hlt);rw[HL2.o]at e9;simp only[Value.slice.injEq,true_and]at e9;obtain⟨rfl,rfl⟩:=e9;obtain⟨nm,hnm⟩:∃nm,l[q]'(by rw[HL2.o];exact hlt)=nm:=⟨_,rfl⟩
    have k9:wr.cell? ⟨g,q,none⟩=some (.string nm):=by rw[←hnm];exact kq9
    have HWS:Hid (walkN is bs 1 l=if inB (findI (named is bs k) nm) 1 is.length=true then walkN is bs (findI (named is bs k) nm) (l.drop (q+1))else 0):=by
     show _=_;rw[HWN.o,List.drop_eq_getElem_cons (show q<l.length by rw[HL2.o];exact hlt),hnm];rfl
    clear hnm;have hbw:=HW.o wr (HB1.o.trans (HR.o.mono HB1.o.size));have HAL:Hid (∀W,Below wr.1.size wr W->AtC W w.1.size 30 #[.slice a1 xs.length c1,.slice a2 ys.length c2,.slice a3 is.length c3,.slice a4 bs.length c4]/\Below w.1.size w W/\Below w1.1.size w1 W):=fun W bb=>⟨hbw.2.over bb,hbw.1.trans (bb.mono hbw.1.size),HR.o.trans (bb.mono HR.o.size)⟩
    have A0:=hbw.2;obtain⟨x0,x1,x2,x3⟩:=AtC.four A0;have q0:(0:Int)<=(q:Int):=by omega
    have q1:(q:Int)<(ll:Int):=by omega
    clear A0 hbw hg kq9;go_upto_region 8 with fail
    go_cut [7]from 16 to 38 (fun c wx=>(∃k2:Int,c=.int .i64 k2/\k2=findI (named is bs k) nm)/\Below wr.1.size wr wx)
    case first =>
     go_region_with (go_at_call 204;refine(zfn k nm _ _ _ _ xs ys is bs _ (HH.o.below (HAL.o _ (zac bR)).2.1 nR) HB.o).mono ?_;rintro e w2 ⟨Bk,s2,k2,rfl,-,hk2,B2⟩;have HB2:=hide (And.intro hk2 B2);clear B2 hk2)
     all_goals (go_wp2_with fail;go_meet;exact⟨⟨_,rfl,HB2.o.1⟩,zac HB2.o.2⟩)
    case rest =>
     obtain⟨⟨k2,rfl,hk2⟩,hb2⟩:=hcut;have HK2:=hide hk2;clear hk2;obtain⟨A2,b2,b3⟩:=HAL.o wc hb2;have y2:=A2.c2;have HZ:=hide (And.intro b2 b3);clear A2 b2 b3 hb2 HAL x0 x1 x2 x3 k9
     cases hin:inB k2 1 is.length with
     | false =>
      have HIN:=hide hin;clear hin;go_wp2_with fail
      refine(zai k2 1 _ _).mono ?_;rintro e w7 ⟨rfl,rfl⟩;rw[HIN.o];go_wp2;go_ret;exact⟨InoN.mk ⟨0,rfl,by decide,by decide,fun l2 h2=>by rw[←(HANS.o.one h2).1,HWS.o,←HK2.o,HIN.o];rfl⟩,HZ.o.1⟩
     | true =>
      have HIN:=hide hin;have hk:=zas hin;have HK:Hid (1<=k2/\k2<=8):=by rw[HI.o]at hk;exact hk
      clear hin hk;go_wp2_with fail
      refine(zai k2 1 _ _).mono ?_;rintro e w7 ⟨rfl,rfl⟩;rw[HIN.o];go_wp2;have HREL:Hid (∃(q':Nat)(k':Int),q'<=ll/\Value.int .i64 ((q:Int)+1)=.int .i64 q'/\Value.int .i64 k2=.int .i64 k'/\1<=k'/\k'<=8/\Hid (Below w1.1.size w1 w7/\walkN is bs 1 l=walkN is bs k' (l.drop q'))):=⟨q+1,k2,by omega,by go_num,rfl,HK.o.1,HK.o.2,HZ.o.2,by rw[HWS.o,←HK2.o,HIN.o];rfl⟩
      go_roundw
      case rel=>first| exact HREL.o|((repeat apply Exists.intro);exact⟨HREL.o,rfl⟩)
      case measure=>simp[intOf];omega
   ·have HF:Hid (Below w.1.size w wr):=(HW.o wr (HB1.o.trans (HR.o.mono HB1.o.size))).1;go_wp2;go_ret;exact⟨InoN.mk ⟨k,rfl,by omega,hk8,fun l2 h2=>by rw[←(HANS.o.one h2).1,HWN.o,List.drop_of_length_le (by rw[HL2.o];omega)];rfl⟩,HF.o⟩
namespace Kit
def mkB:ByteArray:=⟨#[47]⟩
def jn:List ByteArray->ByteArray
 | []=>⟨#[]⟩
 | n::r=>mkB++n++jn r
theorem zm2(a:ByteArray):a++(⟨#[]⟩:ByteArray)=a:=by
 apply ByteArray.ext;rw[ByteArray.data_append];simp
theorem zm3(a:ByteArray):(⟨#[]⟩:ByteArray)++a=a:=by
 apply ByteArray.ext;rw[ByteArray.data_append];simp
theorem jn_snoc(l:List ByteArray)(n:ByteArray):jn (l++[n])=jn l++mkB++n:=by
 induction l with
 | nil=>show mkB++n++(⟨#[]⟩:ByteArray)=(⟨#[]⟩:ByteArray)++mkB++n;rw[zm2,zm3]
 | cons a r ih=>show mkB++a++jn (r++[n])=mkB++a++jn r++mkB++n;rw[ih];simp only[ByteArray.append_assoc]
theorem ch_ne{c:Nat}(h:chN c=true):c≠47:=fun e=>by subst e;exact absurd h dC
theorem zg5(a n c:ByteArray)(j:Nat)(h1:a.size<=j)(h2:j<a.size+n.size):∃h:j<(a++n++c).size,∃h':j-a.size<n.size,(a++n++c)[j]=n[j-a.size]:=by
 have hs:(a++n++c).size=a.size+n.size+c.size:=by rw[ByteArray.size_append,ByteArray.size_append]
 refine⟨by omega,by omega,?_⟩;rw[ByteArray.getElem_append_left (by rw[ByteArray.size_append];omega),ByteArray.getElem_append_right h1]
theorem zm4(a n c:ByteArray):(a++n++c).extract a.size (a.size+n.size)=n:=by
 apply ByteArray.ext;rw[ByteArray.data_extract,ByteArray.data_append,ByteArray.data_append];show(a.data++n.data++c.data).extract a.data.size (a.data.size+n.data.size)=n.data;rw[Array.append_assoc,Array.extract_append_right,Array.extract_append_left];simp
theorem zm5:∀(r:List ByteArray)(a n:ByteArray),(∀s∈n::r,zan s=true)->rest (a++n++jn r) a.size a.size=n::r
 | [],a,n,h=>by
  have hn:=(of_decide_eq_true (h n sI)).2;rw[zcg _ _ n.size a.size (fun j h1 h2=>by
   obtain⟨h3,h4,e⟩:=zg5 a n (jn []) j h1 h2;exact⟨h3,by rw[e];exact ch_ne (hn _ h4)⟩)]
  have e0:a++n++jn []=a++n:=zm2 _;have e2:=zm4 a n (jn []);rw[zex _ _ _ (by rw[e0,ByteArray.size_append];exact Nat.le_refl _)];rw[show(a++n++jn []).size=a.size+n.size by rw[e0,ByteArray.size_append],e2]
 | m::r,a,n,h=>by
  have hn:=(of_decide_eq_true (h n sI)).2;have hs:(a++n++jn (m::r)).size=a.size+n.size+(1+m.size+(jn r).size):=by
   rw[ByteArray.size_append,ByteArray.size_append];show _+(mkB++m++jn r).size=_;rw[ByteArray.size_append,ByteArray.size_append];rfl
  rw[zcg _ _ n.size a.size (fun j h1 h2=>by
   obtain⟨h3,h4,e⟩:=zg5 a n (jn (m::r)) j h1 h2;exact⟨h3,by rw[e];exact ch_ne (hn _ h4)⟩)]
  have hp:a++n++jn (m::r)=(a++n++mkB)++m++jn r:=by show a++n++(mkB++m++jn r)=_;simp only[ByteArray.append_assoc]
  have hz:(a++n++mkB).size=a.size+n.size+1:=by rw[ByteArray.size_append,ByteArray.size_append];rfl
  rw[zgx _ _ _ oM (by
   obtain⟨h3,h4,e⟩:=zg5 (a++n) mkB (m++jn r) (a.size+n.size) (by rw[ByteArray.size_append];exact Nat.le_refl _) (by rw[ByteArray.size_append];show _<_+1;omega);have e5:a++n++jn (m::r)=a++n++mkB++(m++jn r):=by rw[hp];simp only[ByteArray.append_assoc]
   simp only[e5,e,ByteArray.size_append,Nat.sub_self];rfl),zm4 a n (jn (m::r))]
  have ih:=zm5 r (a++n++mkB) m (fun s hs=>h s (List.mem_cons_of_mem _ hs));rw[hz]at ih;rw[hp,ih]
theorem ans_jn{l:List ByteArray}(h:∀s∈l,zan s=true)(h4:l.length<=4):Ans (if l=[]then mkB else jn l) l true:=by
 cases l with
 | nil=>exact .inr (.inl ⟨⟨by decide,rfl⟩,rfl,rfl,rfl⟩)
 | cons n r =>
  rw[if_neg sI];have hz:(jn (n::r)).size=1+n.size+(jn r).size:=by
   show(mkB++n++jn r).size=_;rw[ByteArray.size_append,ByteArray.size_append];rfl
  have hn:=(zap (h n sI)).1;have hr:rest (jn (n::r)) 1 1=n::r:=zm5 r mkB n h;refine .inr (.inr (.inl ⟨⟨by omega,?_⟩,by omega,by rw[hr];exact⟨h,h4⟩,hr.symm,rfl⟩));have e5:jn (n::r)=⟨#[]⟩++mkB++(n++jn r):=by show mkB++n++jn r=_;rw[zm3,ByteArray.append_assoc]
  obtain⟨h3,h4,e⟩:=zg5 ⟨#[]⟩ mkB (n++jn r) 0 nR dC;simp only[e5,e];rfl
end Kit
namespace Kit
def SplR(p:ByteArray)(e:Ending):Prop:=∃(s t:ByteArray)(r:Bool),e=.returned (.tuple #[.string s,.string t,.bool r])/\s.size<=100/\t.size<=6/\(r=true->zan t=true/\∃l,Ans p (l++[t]) true/\Ans s l true)
theorem SplR.mk{p:ByteArray}{e:Ending}(h:∃(s t:ByteArray)(r:Bool),e=.returned (.tuple #[.string s,.string t,.bool r])/\s.size<=100/\t.size<=6/\(r=true->zan t=true/\∃l,Ans p (l++[t]) true/\Ans s l true)):SplR p e:=h
theorem jn_nil{l:List ByteArray}(h:(jn l).size=0):l=[]:=by
 cases l with
 | nil=>rfl
 | cons a r =>
  have:(mkB++a++jn r).size=0:=h;rw[ByteArray.size_append,ByteArray.size_append]at this;have e:mkB.size=1:=rfl;omega
end Kit
theorem zdc(p:ByteArray)(w:World)(hp:p.size<=1048576):
  Calls Tryz.prog 191 #[.string p] w fun e w'=>SplR p e/\Below w.1.size w w':=by
 have HPP:=hide hp;clear hp;go_enter Tryz.func191,Tryz.ntmps191
 go_wp2_with fail
 refine(zdv p _ HPP.o).mono ?_;rintro e w1 ⟨⟨lv,l,r,rfl,O1,hl1,-,hans⟩,B1⟩;have HANS:=hide hans;clear hans;obtain⟨la,lc,rfl,-⟩:=O1.form;obtain⟨ll,hll⟩:∃ll,(stc l).length=ll:=⟨_,rfl⟩
 have HL2:Hid (l.length=ll):=by show l.length=ll;rw[←hll,zaf]
 rw[hll]at O1;rw[hll];clear hll;have HO1:=hide O1;have HL1:=hide hl1;have HB1:=hide B1;clear O1 hl1 B1
 cases r with
 | false =>
  go_wp2
  exact cQ116
 | true =>
  have HL3:Hid (l.length<=4/\∀s∈l,zan s=true):=HL1.o rfl;have hl4:ll<=4:=by have:=HL2.o;have:=HL3.o.1;omega
  clear HL1;by_cases hz:ll=0
  ·subst hz;go_wp2
   exact cQ116
  have hzb:((ll:Int)==0)=false:=beq_eq_false_iff_ne.mpr oM;go_wp2_with fail
  clear hzb;go_loopw [8,7] (fun i' s' wr=>∃(q:Nat)(s:ByteArray),q<ll/\i'=.int .i64 q/\s'=.string s/\Hid (s.size<=7*q/\s=jn (l.take q))/\w1=wr) (fun i' s' _=>ll-(intOf i').toNat)
  case atStart=>exact⟨0,⟨#[]⟩,by omega,rfl,rfl,⟨Nat.le_refl _,rfl⟩,rfl⟩
  case round =>
   obtain⟨q,s,hq,rfl,rfl,HS,rfl⟩:=hrel;obtain⟨g,c,e9,kq9,hg⟩:=zc3 HO1.o q (by rw[HL2.o];exact hq);have hnm:=HL3.o.2 _ (List.getElem_mem (show q<l.length by rw[HL2.o];exact hq));rw[HL2.o]at e9;simp only[Value.slice.injEq,true_and]at e9;obtain⟨rfl,rfl⟩:=e9;by_cases hlt:q+1<ll
   ·obtain⟨nm,hnmv⟩:∃nm,l[q]'(by rw[HL2.o];exact hq)=nm:=⟨_,rfl⟩
    rw[hnmv]at kq9 hnm;have q0:(0:Int)<=(q:Int):=by omega
    have q1:(q:Int)<(ll:Int):=by omega
    have q2:(q:Int)+1<(ll:Int):=by omega
    have hnm6:=(zap hnm).2;have HJN:Hid (s++mkB++nm=jn (l.take (q+1))):=by show _=_;rw[List.take_succ_eq_append_getElem (show q<l.length by rw[HL2.o];exact hq),jn_snoc,←HS.o.2,hnmv]
    have hs28:s.size<=28:=by have:=HS.o.1;omega
    clear hnm hnmv hg;go_wp2;go_roundw
    case rel=>exact⟨q+1,_,by omega,by go_num,rfl,⟨by have:=HS.o.1;show ByteArray.size _<=_;simp only[ByteArray.size_append];show s.size+1+nm.size<=_;omega,HJN.o⟩,by first| rfl|trivial⟩
    case measure=>simp[intOf];omega
   ·have hq1:ll=q+1:=by omega
    subst hq1;obtain⟨nm,hnmv⟩:∃nm,l[q]'(by rw[HL2.o];exact hq)=nm:=⟨_,rfl⟩
    rw[hnmv]at kq9 hnm;have q0:(0:Int)<=(q:Int):=by omega
    have q1:(q:Int)<(q:Int)+1:=by omega
    have hwq:IntKind.i64.wrap (q:Int)=(q:Int):=wrap_small _ oM oM;have HNM:=hide hnm;have HLQ:Hid (l=l.take q++[nm]):=by
     show l=_;have e:l.take (q+1)=l:=List.take_of_length_le (by rw[HL2.o];exact Nat.le_refl _);rw[←hnmv,←List.take_succ_eq_append_getElem (show q<l.length by rw[HL2.o];exact hq),e]
    have HAJ:Hid (Ans (if l.take q=[]then mkB else s) (l.take q) true):=by
     show Ans _ _ _;rw[HS.o.2];exact ans_jn (fun x hx=>HL3.o.2 x (List.mem_of_mem_take hx)) (by rw[List.length_take];have:=HL3.o.1;omega)
    clear hnm hnmv hg;by_cases he:(s.toList==([]:List UInt8))=true
    ·have HFN:Hid (∃l0,Ans p (l0++[nm]) true/\Ans (⟨#[47]⟩:ByteArray) l0 true):=by
      have hz:s.size=0:=by
       have e2:s.toList=[]:=by simpa using he
       rw[ByteArray.toList_eq]at e2;have e3:s.data.toList.length=s.size:=rfl;rw[e2]at e3;exact e3.symm
      have e0:l.take q=[]:=jn_nil (by rw[←HS.o.2];exact hz);have e1:=HAJ.o;rw[if_pos e0]at e1;exact⟨l.take q,by rw[←HLQ.o];exact HANS.o,e1⟩
     go_upto_region 11 with fail
     go_quiet(fail)
     go_wp2
     go_ret3
     exact⟨SplR.mk ⟨_,_,_,rfl,by decide,(zap HNM.o).2,fun _=>⟨HNM.o,HFN.o⟩⟩,below_drewN HB1.o _⟩
    ·replace he:(s.toList==([]:List UInt8))=false:=by simpa using he
     have HFN:Hid (∃l0,Ans p (l0++[nm]) true/\Ans s l0 true):=by
      have e0:l.take q≠[]:=fun e=>by
       have:=HS.o.2;rw[e]at this;subst this;have h5:(jn []).toList=[]:=by rw[ByteArray.toList_eq];rfl
       rw[h5]at he;exact absurd he dC
      have e1:=HAJ.o;rw[if_neg e0]at e1;exact⟨l.take q,by rw[←HLQ.o];exact HANS.o,e1⟩
     go_upto_region 11 with fail
     go_quiet(fail)
     go_wp2
     go_ret3
     exact⟨SplR.mk ⟨_,_,_,rfl,by have:=HS.o.1;show s.size<=100;omega,(zap HNM.o).2,fun _=>⟨HNM.o,HFN.o⟩⟩,below_drewN HB1.o _⟩
def AnyB(e:Ending):Prop:=∃r,e=.returned (.bool r)
theorem zdz(S:Nat->Prop)(b:Nat)(u v iv bv dv pv:Value)(m:MD)(w:World)(h:PM w S b u v iv bv dv pv m):
  Calls Tryz.prog 196 #[.pointer (some ⟨b,0,none⟩)] w fun e w'=>AnyB e/\w'=w:=by
 obtain⟨a1,c1,a2,c2,a3,c3,a4,c4,a5,c5,a6,c6,rfl,rfl,rfl,rfl,rfl,rfl⟩:=h.form;have x5:=h.box.c5;have x6:=h.box.c6;clear h;by_cases h1:(m.6.length:Int)<=32
 ·by_cases h2:m.nx<=99000
  ·exact cQ85
  ·exact cQ85
 ·exact cQ85
def isNm(k:Int):Bool:=(k==2 || k==3)|| k==4
theorem zid(id kd io pt bk sl:Int)(nm:ByteArray)(bt ot:Bool)(af:Int)(a:Option Addr)(n c:Nat)(w:World):
  Calls Tryz.prog 41 #[.agg (K7 id kd io pt bk sl nm bt ot af a n c)] w fun e w'=>e=.returned (.bool (isNm kd))/\Below w.1.size w w':=by
 by_cases h2:kd=2
 ·subst h2;go_enter Tryz.func41,Tryz.ntmps41
  go_wp2;go_ret;exact⟨rfl,by go_grown⟩
 ·by_cases h3:kd=3
  ·subst h3;go_enter Tryz.func41,Tryz.ntmps41
   go_wp2;go_ret;exact⟨rfl,by go_grown⟩
  ·by_cases h4:kd=4
   ·subst h4;go_enter Tryz.func41,Tryz.ntmps41
    go_wp2;go_ret;exact⟨rfl,by go_grown⟩
   ·have HN:Hid (isNm kd=false):=by show isNm kd=false;unfold isNm;simp[h2,h3,h4]
    go_enter Tryz.func41,Tryz.ntmps41
    go_wp2;go_ret;exact⟨by rw[HN.o];simp[h2,h3,h4],by go_grown⟩
theorem zfo(x y:Int)(u v iv bv dv pv:Value)(m:MD)(w:World)(h:MR w u v iv bv dv pv m)(hl:m.6.length<=1048576):
  Calls Tryz.prog 12 #[.agg #[u,v,iv,bv,dv,pv,.int .i64 m.nx],.int .i64 x,.int .i64 y] w fun e w'=>(∃k:Int,e=.returned (.int .i64 k))/\Below w.1.size w w':=by
 have H:=hide h;obtain⟨a1,c1,a2,c2,a3,c3,a4,c4,a5,c5,a6,c6,rfl,rfl,rfl,rfl,rfl,rfl⟩:=h.form;clear h;obtain⟨W0,hW0⟩:∃W0,w.alloc (.cells (M7 m a1 c1 a2 c2 a3 c3 a4 c4 a5 c5 a6 c6) 33)=W0:=⟨_,rfl⟩
 have HC:Hid (∀W,Below W0.1.size W0 W->W.cell? ⟨w.1.size,5,none⟩=some (.slice a6 m.6.length c6)/\RN KDep W (.slice a6 m.6.length c6) m.ds/\Below w.1.size w W):=fun W b=>by
  rw[←hW0]at b;have bb:=((Below.refl _ w).alloc nR (.cells (M7 m a1 c1 a2 c2 a3 c3 a4 c4 a5 c5 a6 c6) 33)).trans (b.mono sI);exact⟨((AtC.new w 33 (M7 m a1 c1 a2 c2 a3 c3 a4 c4 a5 c5 a6 c6)).over b).cell 5,H.out.p.below bb nR,bb⟩
 have x5:=(HC.o _ bR).1;go_enter Tryz.func12,Tryz.ntmps12
 go_wp2;clear hW0;go_loopw [7] (fun i wr=>∃j:Nat,j<=m.6.length/\i=.int .i64 j/\Hid (Below W0.1.size W0 wr)) (fun i _=>m.6.length-(intOf i).toNat)
 case atStart=>exact⟨0,Nat.zero_le _,rfl,Below.refl _ _⟩
 case round =>
  obtain⟨j,hj,rfl,HR⟩:=hrel;obtain⟨y5,hr,hb⟩:=HC.o wr HR.o;by_cases hlt:j<m.6.length
  ·obtain⟨a,c,e1,-,hc⟩:=hr;simp only[Value.slice.injEq,true_and]at e1;obtain⟨rfl,rfl⟩:=e1;obtain⟨g,off,t,rfl,-,hc,p,rfl,hp⟩:=hc j hlt;obtain⟨X,hX⟩:∃X,m.ds[j]=X:=⟨_,rfl⟩
   rw[hX]at hc hp;obtain⟨id,kd,io,pt,bk,sl,nm,bt,ot,af,bl⟩:=X;simp only at hp;obtain⟨pa,pc,rfl⟩:=hp.form;have n0:wr.cell? ⟨g,off+j*11,none⟩=some (.int .i64 id):=hc 0 dC;have n1:wr.cell? ⟨g,off+j*11+1,none⟩=some (.int .i64 kd):=hc 1 dC;have n2:wr.cell? ⟨g,off+j*11+2,none⟩=some (.int .i64 io):=hc 2 dC;have n3:wr.cell? ⟨g,off+j*11+3,none⟩=some (.int .i64 pt):=hc 3 dC;have n4:wr.cell? ⟨g,off+j*11+4,none⟩=some (.int .i64 bk):=hc 4 dC;have n5:wr.cell? ⟨g,off+j*11+5,none⟩=some (.int .i64 sl):=hc 5 dC;have n6:wr.cell? ⟨g,off+j*11+6,none⟩=some (.string nm):=hc 6 dC;have n7:wr.cell? ⟨g,off+j*11+7,none⟩=some (.bool bt):=hc 7 dC;have n8:wr.cell? ⟨g,off+j*11+8,none⟩=some (.bool ot):=hc 8 dC;have n9:wr.cell? ⟨g,off+j*11+9,none⟩=some (.int .i64 af):=hc 9 dC;have n10:wr.cell? ⟨g,off+j*11+10,none⟩=some (.slice pa bl.length pc):=hc 10 dC;have HD:Hid (∀W,Below (wr.alloc (.cells (K7 id kd io pt bk sl nm bt ot af pa bl.length pc) 42)).1.size (wr.alloc (.cells (K7 id kd io pt bk sl nm bt ot af pa bl.length pc) 42)) W->AtC W wr.1.size 42 (K7 id kd io pt bk sl nm bt ot af pa bl.length pc)/\Below W0.1.size W0 W/\Below w.1.size w W):=fun W b=>by
    have bb:=(HR.o.alloc HR.o.size (.cells (K7 id kd io pt bk sl nm bt ot af pa bl.length pc) 42)).trans (b.mono (HR.o.alloc HR.o.size (.cells (K7 id kd io pt bk sl nm bt ot af pa bl.length pc) 42)).size);exact⟨(AtC.new wr 42 (K7 id kd io pt bk sl nm bt ot af pa bl.length pc)).over b,bb,(HC.o W bb).2.2⟩
   clear hc hp hX hb HR;have j0:(0:Int)<=(j:Int):=by omega
   have j1:(j:Int)<(m.6.length:Int):=by omega
   go_wp2_with fail
   refine(zid id kd io pt bk sl nm bt ot af pa bl.length pc _).mono ?_;rintro e w5 ⟨rfl,B5⟩;obtain⟨A5,b5,b6⟩:=HD.o w5 B5;have d0:=A5.c0;have d4:=A5.c4;have d5:=A5.c5;have HB:=hide (And.intro b5 b6);clear A5 b5 b6 B5 HD
   cases hn:isNm kd with
   | false =>
    clear hn;go_wp2;go_roundw
    case rel=>exact⟨j+1,by omega,by go_num,HB.o.1⟩
    case measure=>simp[intOf];omega
   | true =>
    clear hn;by_cases h1:bk=x
    ·by_cases h2:sl=y
     ·subst h1 h2;go_wp2;go_ret;exact⟨⟨_,rfl⟩,HB.o.2⟩
     ·subst h1;go_wp2;go_roundw
      case rel=>exact⟨j+1,by omega,by go_num,HB.o.1⟩
      case measure=>simp[intOf];omega
    ·go_wp2;go_roundw
     case rel=>exact⟨j+1,by omega,by go_num,HB.o.1⟩
     case measure=>simp[intOf];omega
  ·have HB:=hide hb;clear hr hb HR;go_wp2;go_ret;exact⟨⟨_,rfl⟩,HB.o⟩
namespace Kit
theorem PM.slotAt{w:World}{S:Nat->Prop}{b:Nat}{u v iv bv dv pv:Value}{m:MD}(h:PM w S b u v iv bv dv pv m)(j:Nat)(hj:j<m.4.length)(t:Nat)(ht:t<m.bs[j].2.1.length):
  ∃g c gs cs,bv=.slice (some ⟨g,0,none⟩) m.4.length c/\w.cell? ⟨g,j*3,none⟩=some (.bool m.bs[j].1)/\w.cell? ⟨g,j*3+1,none⟩=some (.slice (some ⟨gs,0,none⟩) m.bs[j].2.1.length cs)/\w.cell? ⟨gs,t*2,none⟩=some (.string m.bs[j].2.1[t].1)/\w.cell? ⟨gs,t*2+1,none⟩=some (.int .i64 m.bs[j].2.1[t].2)/\(∀k,w.frozen? ⟨gs,k,none⟩=false)/\S gs/\gs<w.1.size /\
   ∀(nm:ByteArray)(z:Int),PM ((w.setCell ⟨gs,t*2,none⟩ (.string nm)).setCell ⟨gs,t*2+1,none⟩ (.int .i64 z)) S b u v iv bv dv pv { m with bs:=m.bs.set j (m.bs[j].1,m.bs[j].2.1.set t (nm,z),m.bs[j].2.2) }:=by
 obtain⟨S1,S2,S3,ts,k1,k2,k3,k4,k5,k6,k7⟩:=h.own;obtain⟨T1,T2,T3,ti,tb,z1,z2,z3,z4,z5,z6,z7⟩:=k1;have hl:=z4.len;obtain⟨g,c,e,r0,r1,r2,fz,gl,-⟩:=z4.row.at j oM;obtain⟨i1,i2,i3⟩:=z4.inn j oM hj;obtain⟨gs,cs,e2,q1,q2,fz2,-,hlt,-⟩:=i2.at t ht;have sT:T3 gs:=z4.si j oM gs (by show(tb[j].2.1).ownBlock=some gs;rw[e2];rfl);have sS1:S1 gs:=z7 gs (.inr (.inr sT));have sS:S gs:=k7 gs (.inl sS1);refine⟨g,c,gs,cs,by rw[e,hl],by rw[r0,i1],by rw[r1,e2],q1,q2,fz2,sS,hlt,fun nm z=>?_⟩;have un:∀k,k≠gs->((w.setCell ⟨gs,t*2,none⟩ (.string nm)).setCell ⟨gs,t*2+1,none⟩ (.int .i64 z)).1[k]?=w.1[k]?:=fun k hk=>(heap_setCell_other _ ⟨gs,t*2+1,none⟩ k _ hk).trans (heap_setCell_other _ ⟨gs,t*2,none⟩ k _ hk);have hsb:=SOwns.set_both (l:=m.bs[j].2.1) (g:=gs) (cap:=cs) (by rw[←e2];exact i2) t ht nm z;have hlen:(m.bs[j].2.1.set t (nm,z)).length=m.bs[j].2.1.length:=by simp
 have zz:=z4.turn (w':=(w.setCell ⟨gs,t*2,none⟩ (.string nm)).setCell ⟨gs,t*2+1,none⟩ (.int .i64 z)) (S':=T3) j oM tb[j] (m.bs[j].1,m.bs[j].2.1.set t (nm,z),m.bs[j].2.2)
  (by rw[List.set_getElem_self];exact z4.row.of_heap fun k hk=>un k fun q=>z4.out j oM gs (by show(tb[j].2.1).ownBlock=some gs;rw[e2];rfl) (q ▸ hk))
  ⟨i1,by rw[e2];exact hsb.1,i3⟩
  (fun k _ _ hn=>un k fun q=>hn (by show(tb[j].2.1).ownBlock=some k;rw[e2,q];rfl))
  (fun k hk=>.inl hk) (fun k hk=>hk) (fun k hk=>z4.si j oM k hk)
 exact⟨(un b fun q=>h.nb (q ▸ sS)).trans h.box,⟨S1,S2,S3,ts,⟨T1,T2,T3,ti,_,⟨z1.a.of_heap fun k hk=>un k fun q=>(z5 k (z2 k (.inl hk))).2 (q ▸ sT),z1.b.of_heap fun k hk=>un k fun q=>(z5 k (z2 k (.inr hk))).2 (q ▸ sT),z1.ne⟩,z2,z3.of_heap fun k hk _=>un k fun q=>z6 k hk (q ▸ sT),zz,z5,z6,z7⟩,k2.of_heap fun k hk=>un k fun q=>(k5 gs sS1).1 (q ▸ k3 k hk),k3,k4.of_heap fun k hk _=>un k fun q=>(k5 gs sS1).2 (q ▸ hk),k5,k6,k7⟩,h.nb⟩
theorem PM.ptrAt{w:World}{S:Nat->Prop}{b:Nat}{u v iv bv dv pv:Value}{m:MD}(h:PM w S b u v iv bv dv pv m)(j:Nat)(hj:j<m.3.length)(t:Nat)(ht:t<m.is[j].2.2.length):
  ∃g c gs cs,iv=.slice (some ⟨g,0,none⟩) m.3.length c/\w.cell? ⟨g,j*3,none⟩=some (.int .i64 m.is[j].1)/\w.cell? ⟨g,j*3+2,none⟩=some (.slice (some ⟨gs,0,none⟩) m.is[j].2.2.length cs)/\w.cell? ⟨gs,t,none⟩=some (.int .i64 m.is[j].2.2[t])/\w.frozen? ⟨gs,t,none⟩=false/\S gs/\gs<w.1.size /\
   ∀z:Int,PM (w.setCell ⟨gs,t,none⟩ (.int .i64 z)) S b u v iv bv dv pv { m with is:=m.is.set j (m.is[j].1,m.is[j].2.1,m.is[j].2.2.set t z) }:=by
 obtain⟨S1,S2,S3,ts,k1,k2,k3,k4,k5,k6,k7⟩:=h.own;obtain⟨T1,T2,T3,ti,tb,z1,z2,z3,z4,z5,z6,z7⟩:=k1;have hl:=z3.len;obtain⟨g,c,e,r0,r1,r2,fz,gl,-⟩:=z3.row.at j oM;obtain⟨i1,i2,i3⟩:=z3.inn j oM hj;obtain⟨gs,cs,e2,q1,fz2,-,hlt,-⟩:=i3.at t (by rw[zah];exact ht);rw[zah]at e2;have sT:T2 gs:=z3.si j oM gs (by show(ti[j].2.2).ownBlock=some gs;rw[e2];rfl);have sS1:S1 gs:=z7 gs (.inr (.inl sT));have sS:S gs:=k7 gs (.inl sS1);refine⟨g,c,gs,cs,by rw[e,hl],by rw[r0,i1],by rw[r2,e2],q1.trans (by simp[ic,ht]),fz2,sS,hlt,fun z=>?_⟩;have un:∀k,k≠gs->(w.setCell ⟨gs,t,none⟩ (.int .i64 z)).1[k]?=w.1[k]?:=fun k hk=>heap_setCell_other _ ⟨gs,t,none⟩ k _ hk;have hsb:=ROwns.stored (l:=ic m.is[j].2.2) (g:=gs) (cap:=cs) (by rw[zah,←e2];exact i3) t (.int .i64 z);have hic:(ic m.is[j].2.2).set t (.int .i64 z)=ic (m.is[j].2.2.set t z):=by simp[ic,List.map_set]
 rw[zah,hic]at hsb;have zz:=z3.turn (w':=w.setCell ⟨gs,t,none⟩ (.int .i64 z)) (S':=T2) j oM ti[j] (m.is[j].1,m.is[j].2.1,m.is[j].2.2.set t z)
  (by rw[List.set_getElem_self];exact z3.row.of_heap fun k hk=>un k fun q=>z3.out j oM gs (by show(ti[j].2.2).ownBlock=some gs;rw[e2];rfl) (q ▸ hk))
  ⟨i1,i2,by rw[e2];exact hsb.1⟩
  (fun k _ _ hn=>un k fun q=>hn (by show(ti[j].2.2).ownBlock=some k;rw[e2,q];rfl))
  (fun k hk=>.inl hk) (fun k hk=>hk) (fun k hk=>z3.si j oM k hk)
 exact⟨(un b fun q=>h.nb (q ▸ sS)).trans h.box,⟨S1,S2,S3,ts,⟨T1,T2,T3,_,tb,⟨z1.a.of_heap fun k hk=>un k fun q=>(z5 k (z2 k (.inl hk))).1 (q ▸ sT),z1.b.of_heap fun k hk=>un k fun q=>(z5 k (z2 k (.inr hk))).1 (q ▸ sT),z1.ne⟩,z2,zz,z4.of_heap fun k hk _=>un k fun q=>z6 gs sT (q ▸ hk),z5,z6,z7⟩,k2.of_heap fun k hk=>un k fun q=>(k5 gs sS1).1 (q ▸ k3 k hk),k3,k4.of_heap fun k hk _=>un k fun q=>(k5 gs sS1).2 (q ▸ hk),k5,k6,k7⟩,h.nb⟩
end Kit
namespace Kit
theorem zie:∀(l:List Bool),ff l≠0->ff l-1<l.length/\l[ff l-1]?=some false
 | [],h=>by simp[ff]at h
 | b::r,h=>by
  cases b with
  | false=>simp[ff]
  | true =>
   have hr:ff r≠0:=fun e=>h (by simp[ff,e]);have:=zie r hr;have e:ff (true::r)=ff r+1:=by simp[ff,hr]
   rw[e];refine⟨by simp;omega,?_⟩;rw[show ff r+1-1=(ff r-1)+1 by omega,List.getElem?_cons_succ];exact this.2
theorem zif{m:MD}(h:ff m.xs≠0):takeB m={ m with xs:=m.xs.set (ff m.xs-1) true,fs:=m.fs.set 0 true }:=by unfold takeB;rw[if_neg h]
theorem zm6{m:MD}(h:Sh Z0 m)(hf:ff m.xs≠0)(j t:Nat)(hj:j<m.3.length)(ht:t<m.is[j].2.2.length)(h0:m.is[j].2.2[t]=0)(hk:m.is[j].1≠0):
  Sh Z0 { m with xs:=m.xs.set (ff m.xs-1) true,fs:=m.fs.set 0 true,is:=m.is.set j (m.is[j].1,m.is[j].2.1,m.is[j].2.2.set t (ff m.xs:Int)) }:=by
 obtain⟨p1,p2⟩:=zie m.xs hf;have hx:=h.ii _ (List.getElem_mem hj);have h16:=h.x;refine⟨by rw[List.length_set];exact h.x,h.y,by rw[List.length_set];exact h.i,fun q hq=>(List.mem_or_eq_of_mem_set hq).elim (h.ii q) (fun e=>?_),h.b,h.bb,by rw[List.length_set];exact h.f,h.l,h.dd,h.nx,?_⟩
 ·subst e;refine⟨hx.l,by rw[List.length_set];exact hx.n,fun p hp=>(List.mem_or_eq_of_mem_set hp).elim (hx.p p) (fun e=>?_),hx.z.elim .inl fun z=>z.elim (fun z=>.inr (.inl z)) fun z=>absurd z.1 hk⟩;omega
 ·refine h.k.take j (ff m.xs-1) _ _ p1 p2 (fun hj' q q1=>?_);show(m.is[j].2.2.set t (ff m.xs:Int)).count q<=_;rw[List.count_set ht,h0];have e:((ff m.xs-1:Nat):Int)+1=(ff m.xs:Int):=by omega
  rw[e];by_cases hq:q=(ff m.xs:Int)
  ·subst hq;simp
  ·have:((ff m.xs:Int)==q)=false:=beq_eq_false_iff_ne.mpr (fun x=>hq x.symm);simp[this];omega
end Kit
theorem zm7{w:World}{g j:Nat}{x:Value}(h:w.cell? ⟨g,j,none⟩=some x):g<w.1.size:=by
 exact cQ90
def CallR(B:Nat)(w':World)(e:Ending):Prop:=∃(u v i b d p:Value)(m':MD)(c:Int),e=.returned (.tuple #[.agg #[u,v,i,b,d,p,.int .i64 m'.nx],.int .i64 c])/\MO w' (fun k=>B<=k) u v i b d p m'/\Sh Z0 m'
theorem zg6(u v iv bv dv pv:Value)(m:MD)(p:ByteArray)(k:Int)(s:ByteArray)(w:World)(h:MR w u v iv bv dv pv m)(hm:Sh Z0 m)(hp:p.size<=1048576)(hs:s.size<=1048576):
  Calls Tryz.prog 169 #[.agg #[u,v,iv,bv,dv,pv,.int .i64 m.nx],.string p,.int .i64 k,.string s] w fun e w'=>CallR w.1.size w' e/\Below w.1.size w w':=by
 obtain⟨a1,c1,a2,c2,a3,c3,a4,c4,a5,c5,a6,c6,rfl,rfl,rfl,rfl,rfl,rfl⟩:=h.form;obtain⟨qa,qc,qe,-,qh⟩:=h.d.i;simp only[Value.slice.injEq,true_and]at qe;obtain⟨rfl,rfl⟩:=qe;obtain⟨g2,o2,⟨q0,q1,q2⟩,rfl,-⟩:=qh 0 (by rw[hm.i];decide);have HIN:Hid (∀(W:World)(j:Nat)(hj:j<m.3.length),Below w.1.size w W->∃ta tc,W.cell? ⟨g2,o2+j*3,none⟩=some (.int .i64 m.is[j].1)/\W.cell? ⟨g2,o2+j*3+1,none⟩=some (.int .i64 m.is[j].2.1)/\W.cell? ⟨g2,o2+j*3+2,none⟩=some (.slice ta m.is[j].2.2.length tc)/\RInts W (.slice ta m.is[j].2.2.length tc) m.is[j].2.2):=fun W j hj hb=>by
  exact cQ15
 clear qh q0 q1 q2;obtain⟨W0,hW0⟩:∃W0,((w.alloc (.cells (M7 m a1 c1 a2 c2 (some ⟨g2,o2,none⟩) c3 a4 c4 a5 c5 a6 c6) 33)).alloc (.cells E7 33))=W0:=⟨_,rfl⟩
 have HB0:Hid (Below w.1.size w W0/\W0.1.size=w.1.size+1+1/\AtC W0 w.1.size 33 (M7 m a1 c1 a2 c2 (some ⟨g2,o2,none⟩) c3 a4 c4 a5 c5 a6 c6)/\AtC W0 (w.1.size+1) 33 E7):=by
  exact cQ12
 have HH:=hide h;have HM:=hide hm;obtain⟨x0,x1,x2,x3,x4,x5,x6⟩:=AtC.sev HB0.o.2.2.1;have HM0:Hid (R7 W0 m a1 c1 a2 c2 (some ⟨g2,o2,none⟩) c3 a4 c4 a5 c5 a6 c6):=HH.o.below HB0.o.1 nR;clear h hm;go_enter Tryz.func169,Tryz.ntmps169
 go_wp2_with fail
 refine(zax _ _ _ _ _ _ m W0 HM0.o HM.o.big).mono ?_;rintro e w1 ⟨u1,u2,u3,u4,u5,u6,rfl,O1,B1⟩;obtain⟨s1,t1,s2,t2,s3,t3,s4,t4,s5,t5,s6,t6,rfl,rfl,rfl,rfl,rfl,rfl⟩:=O1.mr.form;obtain⟨W2,hW2⟩:∃W2,w1.alloc (.cells (M7 m s1 t1 s2 t2 s3 t3 s4 t4 s5 t5 s6 t6) 33)=W2:=⟨_,rfl⟩
 obtain⟨b2,hb2⟩:∃b2,w1.1.size=b2:=⟨_,rfl⟩
 have HC:Hid (∀W,Below W2.1.size W2 W->AtC W w.1.size 33 (M7 m a1 c1 a2 c2 (some ⟨g2,o2,none⟩) c3 a4 c4 a5 c5 a6 c6)/\AtC W (w.1.size+1) 33 E7/\AtC W b2 33 (M7 m s1 t1 s2 t2 s3 t3 s4 t4 s5 t5 s6 t6)/\N7 W (fun k=>w.1.size+1+1<=k/\k<b2) m s1 t1 s2 t2 s3 t3 s4 t4 s5 t5 s6 t6/\Below w.1.size w W/\w.1.size+1+1<=b2/\b2<W.1.size):=fun W b=>by
  exact cQ11
 have HB2:Hid (Below W2.1.size W2 W2):=Below.refl _ _;clear O1 B1 HM0 x0 x1 x2 x3 x4 x5 x6 hW0 HB0;have hb:∀(W:World),Below W2.1.size W2 W->True:=fun _ _=>trivial;clear hb;go_wp2_with fail
 refine(zdv p W2 hp).mono ?_;rintro e w3 ⟨⟨lv,l,q1,rfl,L3,-,-⟩,B3⟩;have HB3:Hid (Below W2.1.size W2 w3):=B3;obtain⟨la,lc,rfl,-⟩:=L3.form;clear B3 L3 hW2 hb2;obtain⟨x0,x1,x2,x3,x4,x5,x6⟩:=AtC.sev ((HC.o w3 HB3.o).1);have HM3:Hid (R7 w3 m a1 c1 a2 c2 (some ⟨g2,o2,none⟩) c3 a4 c4 a5 c5 a6 c6):=HH.o.below (HC.o w3 HB3.o).2.2.2.2.1 nR;go_wp2_with fail
 refine(zb4 _ _ _ _ _ _ m w3 HM3.o HM.o).mono ?_;rintro e w4 ⟨⟨q2,rfl⟩,B4⟩;have HB4:Hid (Below W2.1.size W2 w4):=HB3.o.trans (B4.mono HB3.o.size);clear B4 HM3 HB3 x0 x1 x2 x3 x4 x5 x6
 cases q2 with
 | false =>
  exact cQ1
 | true =>
 cases q1 with
 | false =>
  exact cQ1
 | true =>
 cases hk:inB k 0 1 with
 | false =>
  have HK:=hide hk;clear hk;obtain⟨y0,y1,y2,y3,y4,y5,y6⟩:=AtC.sev ((HC.o w4 HB4.o).2.2.1);obtain⟨r0,r1,r2,r3,r4,r5,r6⟩:=AtC.sev ((HC.o w4 HB4.o).2.1);have v0:=(HC.o w4 HB4.o).2.1.frozen 0;have v1:=(HC.o w4 HB4.o).2.1.frozen 1;have v2:=(HC.o w4 HB4.o).2.1.frozen 2;have v3:=(HC.o w4 HB4.o).2.1.frozen 3;have v4:=(HC.o w4 HB4.o).2.1.frozen 4;have v5:=(HC.o w4 HB4.o).2.1.frozen 5;have v6:=(HC.o w4 HB4.o).2.1.frozen 6;have HFF:=hide (HC.o w4 HB4.o);go_wp2_with (go_at_call 50;refine(zai k 0 1 _).mono ?_;rintro e w9 ⟨rfl,hw9⟩;subst w9;rw[HK.o])
  refine bodyPost_ret (v:=.tuple #[.agg (M7 m s1 t1 s2 t2 s3 t3 s4 t4 s5 t5 s6 t6),.int .i64 6]) sR7 rfl ⟨⟨_,_,_,_,_,_,m,_,rfl,(HFF.o.2.2.2.1.of_heap fun k hk _=>zaa _ _ _ _ _ _ _ _ _ k oF).mono (fun k hk=>by have:w.1.size+1+1<=k/\k<b2:=hk;omega),HM.o⟩,zab HFF.o.2.2.2.2.1 oM _ _ _ _ _ _ _⟩
 | true =>
 have HK:=hide hk;obtain⟨hk0,hk1⟩:=zas hk;clear hk;by_cases hs16:16<s.size
 ·have hs1:(16:Int)<(s.size:Int):=by omega
  obtain⟨y0,y1,y2,y3,y4,y5,y6⟩:=AtC.sev ((HC.o w4 HB4.o).2.2.1);obtain⟨r0,r1,r2,r3,r4,r5,r6⟩:=AtC.sev ((HC.o w4 HB4.o).2.1);have v0:=(HC.o w4 HB4.o).2.1.frozen 0;have v1:=(HC.o w4 HB4.o).2.1.frozen 1;have v2:=(HC.o w4 HB4.o).2.1.frozen 2;have v3:=(HC.o w4 HB4.o).2.1.frozen 3;have v4:=(HC.o w4 HB4.o).2.1.frozen 4;have v5:=(HC.o w4 HB4.o).2.1.frozen 5;have v6:=(HC.o w4 HB4.o).2.1.frozen 6;have HFF:=hide (HC.o w4 HB4.o);go_wp2_with (go_at_call 50;refine(zai k 0 1 _).mono ?_;rintro e w9 ⟨rfl,hw9⟩;subst w9;rw[HK.o])
  refine bodyPost_ret (v:=.tuple #[.agg (M7 m s1 t1 s2 t2 s3 t3 s4 t4 s5 t5 s6 t6),.int .i64 6]) sR7 rfl ⟨⟨_,_,_,_,_,_,m,_,rfl,(HFF.o.2.2.2.1.of_heap fun k hk _=>zaa _ _ _ _ _ _ _ _ _ k oF).mono (fun k hk=>by have:w.1.size+1+1<=k/\k<b2:=hk;omega),HM.o⟩,zab HFF.o.2.2.2.2.1 oM _ _ _ _ _ _ _⟩
 have hs1:¬(16:Int)<(s.size:Int):=by omega
 obtain⟨x0,x1,x2,x3,x4,x5,x6⟩:=AtC.sev ((HC.o w4 HB4.o).1);have HD4:Hid (DR w4 (.slice a1 m.1.length c1) (.slice a2 m.2.length c2) (.slice (some ⟨g2,o2,none⟩) m.3.length c3) (.slice a4 m.4.length c4) m.xs m.ys m.is m.bs):=(HH.o.below (HC.o w4 HB4.o).2.2.2.2.1 nR).d;go_wp2_with (go_at_call 50;refine(zai k 0 1 _).mono ?_;rintro e w9 ⟨rfl,hw9⟩;subst w9;rw[HK.o])
 refine(zcm _ _ _ _ m.xs m.ys m.is m.bs p w4 HD4.o HM.o.big.d HM.o.i hp).mono ?_;rintro e w5 ⟨⟨i,rfl,hi0,hi8,-⟩,B5⟩;have HB5:Hid (Below W2.1.size W2 w5):=HB4.o.trans (B5.mono HB4.o.size);clear B5 HD4 HB4 x0 x1 x2 x3 x4 x5 x6;by_cases hiz:i=0
 ·subst hiz;obtain⟨y0,y1,y2,y3,y4,y5,y6⟩:=AtC.sev ((HC.o w5 HB5.o).2.2.1);obtain⟨r0,r1,r2,r3,r4,r5,r6⟩:=AtC.sev ((HC.o w5 HB5.o).2.1);have v0:=(HC.o w5 HB5.o).2.1.frozen 0;have v1:=(HC.o w5 HB5.o).2.1.frozen 1;have v2:=(HC.o w5 HB5.o).2.1.frozen 2;have v3:=(HC.o w5 HB5.o).2.1.frozen 3;have v4:=(HC.o w5 HB5.o).2.1.frozen 4;have v5:=(HC.o w5 HB5.o).2.1.frozen 5;have v6:=(HC.o w5 HB5.o).2.1.frozen 6;have HFF:=hide (HC.o w5 HB5.o);go_wp2;refine bodyPost_ret (v:=.tuple #[.agg (M7 m s1 t1 s2 t2 s3 t3 s4 t4 s5 t5 s6 t6),.int .i64 1]) sR7 rfl ⟨⟨_,_,_,_,_,_,m,_,rfl,(HFF.o.2.2.2.1.of_heap fun k hk _=>zaa _ _ _ _ _ _ _ _ _ k oF).mono (fun k hk=>by have:w.1.size+1+1<=k/\k<b2:=hk;omega),HM.o⟩,zab HFF.o.2.2.2.2.1 oM _ _ _ _ _ _ _⟩
 have hib:(i==0)=false:=beq_eq_false_iff_ne.mpr hiz;obtain⟨j,rfl⟩:∃j:Nat,i=(j:Int)+1:=⟨(i-1).toNat,by omega⟩
 have hj8:j<8:=by omega
 have hj:j<m.3.length:=by rw[HM.o.i];exact hj8
 have hwj:IntKind.i64.wrap (j:Int)=(j:Int):=wrap_small _ oM oM;have j0:(0:Int)<=(j:Int):=by omega
 have j1:(j:Int)<(m.3.length:Int):=by omega
 obtain⟨pa,pc,i0,i1,i2,ri⟩:=HIN.o w5 j hj (HC.o w5 HB5.o).2.2.2.2.1;have hix:=HM.o.ii _ (List.getElem_mem hj);obtain⟨⟨kd,ln,ps⟩,hX⟩:∃X,m.is[j]=X:=⟨_,rfl⟩
 rw[hX]at i0 i1 i2 ri hix;simp only at i0 i1 i2 ri;have HIX:=hide hix;have HXX:=hide hX;have HRI:=hide ri;have hkn:∃kn:Nat,k=(kn:Int)/\kn<2:=⟨k.toNat,by omega,by omega⟩
 obtain⟨kn,rfl,hkn2⟩:=hkn;have hpl:ps.length=2:=HIX.o.n;clear hix hX ri;obtain⟨x0,x1,x2,x3,x4,x5,x6⟩:=AtC.sev ((HC.o w5 HB5.o).1);by_cases hkd:kd=1
 rotate_left
 ·have hkb:(kd != 1)=true:=by simp[hkd]
  obtain⟨y0,y1,y2,y3,y4,y5,y6⟩:=AtC.sev ((HC.o w5 HB5.o).2.2.1);obtain⟨r0,r1,r2,r3,r4,r5,r6⟩:=AtC.sev ((HC.o w5 HB5.o).2.1);have v0:=(HC.o w5 HB5.o).2.1.frozen 0;have v1:=(HC.o w5 HB5.o).2.1.frozen 1;have v2:=(HC.o w5 HB5.o).2.1.frozen 2;have v3:=(HC.o w5 HB5.o).2.1.frozen 3;have v4:=(HC.o w5 HB5.o).2.1.frozen 4;have v5:=(HC.o w5 HB5.o).2.1.frozen 5;have v6:=(HC.o w5 HB5.o).2.1.frozen 6;have HFF:=hide (HC.o w5 HB5.o);go_wp2;refine bodyPost_ret (v:=.tuple #[.agg (M7 m s1 t1 s2 t2 s3 t3 s4 t4 s5 t5 s6 t6),.int .i64 3]) sR7 rfl ⟨⟨_,_,_,_,_,_,m,_,rfl,(HFF.o.2.2.2.1.of_heap fun k hk _=>zaa _ _ _ _ _ _ _ _ _ k oF).mono (fun k hk=>by have:w.1.size+1+1<=k/\k<b2:=hk;omega),HM.o⟩,zab HFF.o.2.2.2.2.1 oM _ _ _ _ _ _ _⟩
 subst hkd;have HM5:Hid (R7 w5 m a1 c1 a2 c2 (some ⟨g2,o2,none⟩) c3 a4 c4 a5 c5 a6 c6):=HH.o.below (HC.o w5 HB5.o).2.2.2.2.1 nR;go_wp2_with fail
 refine(zax _ _ _ _ _ _ m w5 HM5.o HM.o.big).mono ?_;rintro e w6 ⟨u1,u2,u3,u4,u5,u6,rfl,O6,B6⟩;obtain⟨n1,o1,n2,o2',n3,o3,n4,o4,n5,o5,n6,o6,rfl,rfl,rfl,rfl,rfl,rfl⟩:=O6.mr.form;obtain⟨W7,hW7⟩:∃W7,w6.alloc (.cells (M7 m n1 o1 n2 o2' n3 o3 n4 o4 n5 o5 n6 o6) 33)=W7:=⟨_,rfl⟩
 obtain⟨bo,hbo⟩:∃bo,w6.1.size=bo:=⟨_,rfl⟩
 have HP7:Hid (P7 W7 (fun k=>w5.1.size<=k/\k<bo) bo m n1 o1 n2 o2' n3 o3 n4 o4 n5 o5 n6 o6/\Below w5.1.size w5 W7/\w5.1.size<=bo/\bo<W7.1.size):=by
  rw[←hW7];have z6:=B6.size;refine⟨⟨?_,(O6.bound.below ((Below.refl _ w6).alloc nR _) nR).mono (fun k hk=>by have:w5.1.size<=k/\k<w6.1.size:=hk;omega),by omega⟩,B6.alloc z6 _,by omega,by simp;omega⟩;rw[←hbo];exact AtC.new w6 33 _
 have HB7:Hid (Below W2.1.size W2 W7):=HB5.o.trans (HP7.o.2.1.mono HB5.o.size);have b7:=HP7.o.2.1;have g2l:g2<w5.1.size:=zm7 i2;have y2:W7.cell? ⟨g2,o2+j*3+2,none⟩=some (.slice pa ps.length pc):=(b7.cell (p:=⟨g2,o2+j*3+2,none⟩) g2l).trans i2;obtain⟨pa',pc',ep,hpp⟩:=HRI.o.below b7 nR;simp only[Value.slice.injEq,true_and]at ep;obtain⟨rfl,rfl⟩:=ep;obtain⟨gp,op,rfl,-,kp⟩:=hpp kn oM;have hpr:=HIX.o.p _ (List.getElem_mem (show kn<ps.length by omega));obtain⟨bp,hbp⟩:∃bp,ps[kn]'oM=bp:=⟨_,rfl⟩
 rw[hbp]at kp hpr;have HBP:=hide hbp;have kn0:(0:Int)<=(kn:Int):=by omega
 have kn1:(kn:Int)<(ps.length:Int):=by omega
 clear O6 B6 b7 hpp hbp i0 i1 i2 x0 x1 x2 x3 x4 x5 x6 HM5;obtain⟨x0,x1,x2,x3,x4,x5,x6⟩:=AtC.sev ((HC.o W7 HB7.o).1);go_upto_if 74 with fail
 go_cut [15]from 16 to 110 (fun c wx=>∃(pn:Nat)(S:Nat->Prop)(u v iv bv dv pv:Value)(m':MD),c=.int .i64 ((pn:Int)+1)/\pn<16/\PM wx S bo u v iv bv dv pv m'/\(∀k,S k->w5.1.size<=k)/\Sh Z0 m'/\Below w5.1.size w5 wx)
 case first =>
  by_cases hb0:bp=0
  rotate_left
  ·obtain⟨pn,rfl⟩:∃pn:Nat,bp=(pn:Int)+1:=⟨(bp-1).toNat,by omega⟩
   have hbb:(((pn:Int)+1)==0)=false:=beq_eq_false_iff_ne.mpr oM;go_wp2_with fail
   go_meet
   exact⟨pn,_,_,_,_,_,_,_,m,rfl,by omega,HP7.o.1,fun k hk=>hk.1,HM.o,HP7.o.2.1⟩
  subst hb0;have HM7:Hid (R7 W7 m a1 c1 a2 c2 (some ⟨g2,o2,none⟩) c3 a4 c4 a5 c5 a6 c6):=HH.o.below (HC.o W7 HB7.o).2.2.2.2.1 nR;by_cases hf:ff m.xs=0
  ·have CT:Hid (Calls Tryz.prog 201 #[.agg (M7 m a1 c1 a2 c2 (some ⟨g2,o2,none⟩) c3 a4 c4 a5 c5 a6 c6)] W7 fun e w'=>∃(z1:Option Addr)(l1 y1:Nat)(z2:Option Addr)(l2 y2:Nat)(z3:Option Addr)(l3 y3:Nat)(z4:Option Addr)(l4 y4:Nat)(z5:Option Addr)(l5 y5:Nat)(z6:Option Addr)(l6 y6:Nat),e=.returned (.tuple #[.agg #[.slice z1 l1 y1,.slice z2 l2 y2,.slice z3 l3 y3,.slice z4 l4 y4,.slice z5 l5 y5,.slice z6 l6 y6,.int .i64 m.nx],.int .i64 0])/\Below W7.1.size W7 w'):=by
    refine(zc9 _ _ _ _ _ _ m W7 HM7.o HM.o.big).mono ?_;rintro e w' ⟨v1,v2,v3,v4,v5,v6,rfl,O8,B8⟩;obtain⟨z1,y1,z2,y2,z3,y3,z4,y4,z5,y5,z6,y6,rfl,rfl,rfl,rfl,rfl,rfl⟩:=O8.mr.form;rw[hf];exact⟨z1,_,y1,z2,_,y2,z3,_,y3,z4,_,y4,z5,_,y5,z6,_,y6,rfl,B8⟩
   exact cQ9
  ·obtain⟨p1,p2⟩:=zie m.xs hf;obtain⟨qn,hqn⟩:∃qn:Nat,ff m.xs=qn+1:=⟨ff m.xs-1,by omega⟩
   have hq16:qn<16:=by have:=HM.o.x;omega
   have hz:((ff m.xs:Nat):Int)=(qn:Int)+1:=by omega
   have CT:Hid (Calls Tryz.prog 201 #[.agg (M7 m a1 c1 a2 c2 (some ⟨g2,o2,none⟩) c3 a4 c4 a5 c5 a6 c6)] W7 fun e w'=>∃(z1:Option Addr)(y1:Nat)(z2:Option Addr)(y2:Nat)(z3:Option Addr)(y3:Nat)(z4:Option Addr)(y4:Nat)(z5:Option Addr)(y5:Nat)(z6:Option Addr)(y6:Nat),e=.returned (.tuple #[.agg (M7 m z1 y1 z2 y2 z3 y3 z4 y4 z5 y5 z6 y6),.int .i64 ((qn:Int)+1)])/\MO w' (fun k=>W7.1.size<=k) (.slice z1 m.1.length y1) (.slice z2 m.2.length y2) (.slice z3 m.3.length y3) (.slice z4 m.4.length y4) (.slice z5 m.5.length y5) (.slice z6 m.6.length y6) ({ m with xs:=m.xs.set (ff m.xs-1) true,fs:=m.fs.set 0 true }:MD)/\Below W7.1.size W7 w'):=by
    refine(zc9 _ _ _ _ _ _ m W7 HM7.o HM.o.big).mono ?_;rintro e w' ⟨v1,v2,v3,v4,v5,v6,rfl,O8,B8⟩;rw[zif hf]at O8;obtain⟨z1,y1,z2,y2,z3,y3,z4,y4,z5,y5,z6,y6,e1,rfl,rfl,rfl,e5,rfl⟩:=O8.mr.form;have e1':v1=.slice z1 m.1.length y1:=e1.trans (by rw[show({ m with xs:=m.xs.set (ff m.xs-1) true,fs:=m.fs.set 0 true }:MD).xs.length=m.1.length from List.length_set ..]);have e5':v5=.slice z5 m.5.length y5:=e5.trans (by rw[show({ m with xs:=m.xs.set (ff m.xs-1) true,fs:=m.fs.set 0 true }:MD).fs.length=m.5.length from List.length_set ..]);clear e1 e5;subst e1' e5';rw[hz];exact⟨z1,y1,z2,y2,z3,y3,z4,y4,z5,y5,z6,y6,rfl,O8,B8⟩
   have HSH:Hid (Sh Z0 { m with xs:=m.xs.set (ff m.xs-1) true,fs:=m.fs.set 0 true,is:=m.is.set j (m.is[j].1,m.is[j].2.1,m.is[j].2.2.set kn ((qn:Int)+1)) }):=by
    rw[←hz];have e0:=HXX.o;exact zm6 HM.o hf j kn hj (by simp only[e0];omega) (by simp only[e0];exact HBP.o) (by simp only[e0];decide)
   go_wp2_with fail
   refine CT.out.mono ?_;rintro e w8 ⟨z1,y1,z2,y2',z3,y3,z4,y4,z5,y5,z6,y6,rfl,O8,B8⟩;obtain⟨W9,hW9⟩:∃W9,w8.alloc (.cells (M7 m z1 y1 z2 y2' z3 y3 z4 y4 z5 y5 z6 y6) 33)=W9:=⟨_,rfl⟩
   obtain⟨bn,hbn⟩:∃bn,w8.1.size=bn:=⟨_,rfl⟩
   have HP9:Hid (PM W9 (fun k=>W7.1.size<=k/\k<bn) bn (.slice z1 m.1.length y1) (.slice z2 m.2.length y2') (.slice z3 m.3.length y3) (.slice z4 m.4.length y4) (.slice z5 m.5.length y5) (.slice z6 m.6.length y6) ({ m with xs:=m.xs.set (ff m.xs-1) true,fs:=m.fs.set 0 true }:MD)/\Below W7.1.size W7 W9/\W7.1.size<=bn):=by
    rw[←hW9];have z8:=B8.size;refine⟨⟨?_,(O8.bound.below ((Below.refl _ w8).alloc nR _) nR).mono (fun k hk=>by have:W7.1.size<=k/\k<w8.1.size:=hk;omega),by omega⟩,B8.alloc z8 _,by omega⟩;rw[←hbn];exact AtC.new w8 33 _
   have HB9:Hid (Below W2.1.size W2 W9):=HB7.o.trans (HP9.o.2.1.mono HB7.o.size);have HPO:Hid (P7 W9 (fun k=>w5.1.size<=k/\k<bo) bo m n1 o1 n2 o2' n3 o3 n4 o4 n5 o5 n6 o6):=HP7.o.1.below HP9.o.2.1;have hqb:(((qn:Int)+1)==0)=false:=beq_eq_false_iff_ne.mpr oM;clear O8 B8 CT p1 p2;go_wp2_with fail
   refine(zdz _ bo _ _ _ _ _ _ m W9 HPO.o).mono ?_;rintro e w9' ⟨⟨rr,rfl⟩,hw9⟩;rw[hw9];clear hw9 w9' hW9 hbn
   cases rr with
   | false =>
    exact cQ20
   | true =>
   have hbW:bo<W7.1.size:=HP7.o.2.2.2;obtain⟨gi,ci,gs,cs,ei,k0,k2,kt,kf,kS,kl,hput⟩:=HP9.o.1.ptrAt j hj kn (by have e0:=HXX.o;simp only[e0];omega);simp only[Value.slice.injEq,true_and]at ei;obtain⟨rfl,rfl⟩:=ei;have hps:m.is[j].2.2.length=ps.length:=by have e0:=HXX.o;simp only[e0]
   have k2':W9.cell? ⟨gi,j*3+2,none⟩=some (.slice (some ⟨gs,0,none⟩) ps.length cs):=by rw[←hps];exact k2
   obtain⟨zv,kt'⟩:∃zv,W9.cell? ⟨gs,kn,none⟩=some zv:=⟨_,kt⟩
   have xn2:=HP9.o.1.box.c2;obtain⟨W10,hW10⟩:∃W10,W9.setCell ⟨gs,kn,none⟩ (.int .i64 ((qn:Int)+1))=W10:=⟨_,rfl⟩
   have HBX:Hid (BT Z0 W10 (fun k=>W7.1.size<=k) bn/\Below W7.1.size W7 W10/\AtC W10 bo 33 (M7 m n1 o1 n2 o2' n3 o3 n4 o4 n5 o5 n6 o6)):=by
    rw[←hW10];have hgs:W7.1.size<=gs:=kS.1;refine⟨⟨_,_,_,_,_,_,_,_,hput _,fun k hk=>hk.1,HP9.o.2.2,HSH.o⟩,HP9.o.2.1.setCell (p:=⟨gs,kn,none⟩) hgs _,HPO.o.box.other oM _⟩
   obtain⟨U,hU⟩:∃U,uoI ((j:Int)+1)=U:=⟨_,rfl⟩
   have CU:Hid (∀W,Calls Tryz.prog 198 #[.int .i64 ((j:Int)+1)] W fun e w'=>e=.returned (.int .i64 U)/\w'=W):=fun W=>by rw[←hU];exact zbr _ W
   clear hU hput k0 k2 kt hps HSH;go_wp2_with fail
   refine(CU.out _).mono ?_;rintro e w9' ⟨rfl,hw9⟩;rw[hw9];clear hw9 w9' hW10 k2' kt' xn2 kf;go_wp2_with fail
   refine(zdw _ bn U W10 HBX.o.1).mono ?_;rintro e w11 ⟨rfl,b11,c11⟩;have HB11:Hid (Below W7.1.size W7 w11/\AtC w11 bo 33 (M7 m n1 o1 n2 o2' n3 o3 n4 o4 n5 o5 n6 o6)):=⟨HBX.o.2.1.trans (c11.below HBX.o.2.1.size (fun k hk=>hk)),(c11.block bo HBX.o.2.2.lt oM).trans HBX.o.2.2⟩
   obtain⟨SB,u,v,iv,bv,dv,pv,mb,PB,hSB,hTB,hmB⟩:=b11;obtain⟨h1,k1,h2,k2,h3,k3,h4,k4,h5,k5,h6,k6,rfl,rfl,rfl,rfl,rfl,rfl⟩:=PB.form;obtain⟨t0,t1,t2,t3,t4,t5,t6⟩:=AtC.sev PB.box;have HPB:=hide (And.intro PB hmB);have HDO:Hid (DOkN ⟨mb.nx,1,(j:Int)+1,(kn:Int),(qn:Int)+1,0,⟨#[]⟩,false,false,0,[]⟩):=⟨⟨by show 1<=(j:Int)+1;omega,by show(j:Int)+1<=8;omega⟩,⟨by show(0:Int)<=kn;omega,by show(kn:Int)<=1;omega⟩,⟨by show(0:Int)<=(qn:Int)+1;omega,by show(qn:Int)+1<=16;omega⟩,by simp,fun p hp=>by simp at hp,by simp,by show(0:Nat)<=6;omega⟩
   clear PB hSB hTB hmB c11 HBX CU;go_wp2_with fail
   refine(zfc 0 1 ((j:Int)+1) kn ((qn:Int)+1) 0 ⟨#[]⟩ false false 0 [] _ _ _ _ _ _ _ mb w11 HPB.o.1.mr HPB.o.2 ⟨none,0,rfl,fun j hj=>by simp at hj⟩ HDO.o (fun e=>absurd e dC)).mono ?_;rintro e wn ⟨u1,u2,u3,u4,u5,u6,mn,rr,rfl,On,hSn,-,-,Bn⟩;obtain⟨q1,r1,q2,r2,q3,r3,q4,r4,q5,r5,q6,r6,rfl,rfl,rfl,rfl,rfl,rfl⟩:=On.mr.form;have AO:AtC wn bo 33 (M7 m n1 o1 n2 o2' n3 o3 n4 o4 n5 o5 n6 o6):=HB11.o.2.over Bn;obtain⟨s0,s1,s2,s3,s4,s5,s6⟩:=AtC.sev AO;have f0:=AO.frozen 0;have f1:=AO.frozen 1;have f2:=AO.frozen 2;have f3:=AO.frozen 3;have f4:=AO.frozen 4;have f5:=AO.frozen 5;have f6:=AO.frozen 6;have HFN:Hid (PM (((((((wn.setCell ⟨bo,0,none⟩ (.slice q1 mn.1.length r1)).setCell ⟨bo,1,none⟩ (.slice q2 mn.2.length r2)).setCell ⟨bo,2,none⟩ (.slice q3 mn.3.length r3)).setCell ⟨bo,3,none⟩ (.slice q4 mn.4.length r4)).setCell ⟨bo,4,none⟩ (.slice q5 mn.5.length r5)).setCell ⟨bo,5,none⟩ (.slice q6 mn.6.length r6)).setCell ⟨bo,6,none⟩ (.int .i64 mn.nx)) (fun k=>w11.1.size<=k) bo (.slice q1 mn.1.length r1) (.slice q2 mn.2.length r2) (.slice q3 mn.3.length r3) (.slice q4 mn.4.length r4) (.slice q5 mn.5.length r5) (.slice q6 mn.6.length r6) mn/\Sh Z0 mn/\Below w5.1.size w5 (((((((wn.setCell ⟨bo,0,none⟩ (.slice q1 mn.1.length r1)).setCell ⟨bo,1,none⟩ (.slice q2 mn.2.length r2)).setCell ⟨bo,2,none⟩ (.slice q3 mn.3.length r3)).setCell ⟨bo,3,none⟩ (.slice q4 mn.4.length r4)).setCell ⟨bo,4,none⟩ (.slice q5 mn.5.length r5)).setCell ⟨bo,5,none⟩ (.slice q6 mn.6.length r6)).setCell ⟨bo,6,none⟩ (.int .i64 mn.nx))/\w5.1.size<=w11.1.size):=by
    have b7:=HP7.o.2.1;have z11:=HB11.o.1.size;have bnn:Below w5.1.size w5 wn:=(b7.trans (HB11.o.1.mono b7.size)).trans (Bn.mono (by have:=b7.size;omega));exact⟨PM.store AO On (by have:=HB11.o.1.size;omega),hSn,zab bnn HP7.o.2.2.1 _ _ _ _ _ _ _,by have:=b7.size;omega⟩
   clear AO On hSn Bn HPB HDO HB11;go_wp2_with fail
   go_meet
   exact⟨qn,_,_,_,_,_,_,_,mn,rfl,hq16,HFN.o.1,fun k hk=>Nat.le_trans HFN.o.2.2.2 hk,HFN.o.2.1,HFN.o.2.2.1⟩
 case rest =>
  obtain⟨pn,S8,u,v,iv,bv,dv,pv,mo,rfl,hpn,P8,hS8,hm8,B8⟩:=hcut
  replace P8:=P8.bound
  obtain⟨f1,e1,f2,e2,f3,e3,f4,e4,f5,e5,f6,e6,rfl,rfl,rfl,rfl,rfl,rfl⟩:=P8.form;have hbj:pn<mo.4.length:=by rw[hm8.b];exact hpn
  obtain⟨gb,cb,pblk,eb,q0,q1,q2,-,hfz,hgl,gS⟩:=P8.blkAt pn hbj;simp only[Value.slice.injEq,true_and]at eb;obtain⟨rfl,rfl⟩:=eb;have hpb:=P8.putB rfl pn hbj (.bool false,.slice none 0 0,.string s) (false,[],s) ⟨rfl,SOwns.nil _ _ _,rfl⟩ (fun k hk=>by simp[Value.ownBlock]at hk);have hS5:∀k,(S8 k/\k<wc.1.size)->w5.1.size<=k:=fun k hk=>hS8 k hk.1;have hbo5:w5.1.size<=bo:=HP7.o.2.2.1;obtain⟨W9,hW9⟩:∃W9,((wc.setCell ⟨gb,pn*3,none⟩ (.bool false)).setCell ⟨gb,pn*3+1,none⟩ (.slice none 0 0)).setCell ⟨gb,pn*3+2,none⟩ (.string s)=W9:=⟨_,rfl⟩
  have HB9:Hid (BT Z0 W9 (fun k=>w5.1.size<=k) bo/\Below w5.1.size w5 W9):=by
   rw[←hW9];have g5:=hS5 gb gS;refine⟨⟨_,_,_,_,_,_,_,_,hpb.1,fun k hk=>hk.elim (hS5 k) (fun e=>by simp[Value.ownBlock]at e),hbo5,hm8.block pn ⟨⟨fun e=>by simp at e,by simp,fun s hs=>by simp at hs,by show s.size<=16;omega⟩,fun _=>rfl,fun e=>by simp at e,fun s hs=>by simp at hs,Unl.nil⟩⟩,((B8.setCell (p:=⟨gb,pn*3,none⟩) g5 _).setCell (p:=⟨gb,pn*3+1,none⟩) g5 _).setCell (p:=⟨gb,pn*3+2,none⟩) g5 _⟩
  have x3:=P8.box.c3;have z0:=hfz (pn*3);have z1:=hfz (pn*3+1);have z2:=hfz (pn*3+2);have hwp:IntKind.i64.wrap (pn:Int)=(pn:Int):=wrap_small _ oM oM;have pn0:(0:Int)<=(pn:Int):=by omega
  have pn1:(pn:Int)<(mo.4.length:Int):=by omega
  obtain⟨U,hU⟩:∃U,uoB ((pn:Int)+1)=U:=⟨_,rfl⟩
  have CU:Hid (∀W,Calls Tryz.prog 203 #[.int .i64 ((pn:Int)+1)] W fun e w'=>e=.returned (.int .i64 U)/\w'=W):=fun W=>by rw[←hU];exact zbl _ W
  clear hU hpb hfz P8;go_wp2_with fail
  refine(CU.out _).mono ?_;rintro e w9' ⟨rfl,hw9⟩;rw[hw9];clear hw9 w9' q0 q1 q2 x3 z0 z1 z2 hW9;go_wp2_with fail
  refine(zdw _ bo U W9 HB9.o.1).mono ?_;rintro e w10 ⟨rfl,b10,c10⟩;have HBA:Hid (Below w5.1.size w5 w10):=HB9.o.2.trans (c10.below HB9.o.2.size (fun k hk=>hk));obtain⟨SA,u,v,iv,bv,dv,pv,ma,PA,hSA,hTA,hmA⟩:=b10;obtain⟨h1,k1,h2,k2,h3,k3,h4,k4,h5,k5,h6,k6,rfl,rfl,rfl,rfl,rfl,rfl⟩:=PA.form;have HBF:Hid (Below W2.1.size W2 w10):=HB5.o.trans (HBA.o.mono HB5.o.size);obtain⟨y0,y1,y2,y3,y4,y5,y6⟩:=AtC.sev PA.box;obtain⟨r0,r1,r2,r3,r4,r5,r6⟩:=AtC.sev ((HC.o w10 HBF.o).2.1);have v0:=(HC.o w10 HBF.o).2.1.frozen 0;have v1:=(HC.o w10 HBF.o).2.1.frozen 1;have v2:=(HC.o w10 HBF.o).2.1.frozen 2;have v3:=(HC.o w10 HBF.o).2.1.frozen 3;have v4:=(HC.o w10 HBF.o).2.1.frozen 4;have v5:=(HC.o w10 HBF.o).2.1.frozen 5;have v6:=(HC.o w10 HBF.o).2.1.frozen 6;have HF:=hide (And.intro PA.own (And.intro hSA hmA));have HZ5:Hid (w.1.size+1+1<=w5.1.size):=by have:=(HC.o w5 HB5.o).2.2.2.2.2;show _<=_;omega
  clear PA hSA hTA hmA c10 HB9 CU;go_wp2;refine bodyPost_ret (v:=.tuple #[.agg (M7 ma h1 k1 h2 k2 h3 k3 h4 k4 h5 k5 h6 k6),.int .i64 0]) sR7 rfl ⟨⟨_,_,_,_,_,_,ma,_,rfl,(HF.o.1.of_heap fun k hk _=>zaa _ _ _ _ _ _ _ _ _ k (by have:=HF.o.2.1 k hk;have:=HZ5.o;omega)).mono (fun k hk=>by have:=HF.o.2.1 k hk;have:=HZ5.o;omega),HF.o.2.2⟩,zab (HC.o w10 HBF.o).2.2.2.2.1 oM _ _ _ _ _ _ _⟩
theorem zbw{bs:List Blk}{x:Int}(h:inB x 1 bs.length=true):∃(jb:Nat)(hb:jb<bs.length),x=(jb:Int)+1/\blkAt bs x=bs[jb]:=by
 obtain⟨h1,h2⟩:=zas h;refine⟨(x-1).toNat,by omega,by omega,?_⟩;unfold blkAt;rw[h,if_pos rfl];rw[List.getD_eq_getElem?_getD,List.getElem?_eq_getElem (show(x-1).toNat<bs.length by omega)];rfl
theorem zgi{is:List Ino}{bs:List Blk}{n:ByteArray}{k:Int}:∀(l:List ByteArray)(i:Int),walkN is bs i l=k->k≠0->walkN is bs i (l++[n])=if inB (findI (named is bs k) n) 1 is.length=true then findI (named is bs k) n else 0
 | [],i,h,_=>by
  have e:i=k:=h;subst e;rfl
 | a::r,i,h,hk=>by
  show(if inB (findI (named is bs i) a) 1 is.length=true then walkN is bs (findI (named is bs i) a) (r++[n])else 0)=_;have h':(if inB (findI (named is bs i) a) 1 is.length=true then walkN is bs (findI (named is bs i) a) r else 0)=k:=h;by_cases hb:inB (findI (named is bs i) a) 1 is.length=true
  ·rw[if_pos hb]at h' ⊢;exact zgi r _ h' hk
  ·rw[if_neg hb]at h';exact absurd h'.symm hk
theorem zig{nm:ByteArray}:∀{L:List Sl},(∃s∈L,s.1=nm)->∃s∈L,s.1=nm/\findI L nm=s.2
 | [],h=>by obtain⟨s,hs,_⟩:=h;simp at hs
 | a::r,h=>by
  by_cases e:a.1=nm
  ·exact⟨a,by simp,e,by rw[findI,if_pos e]⟩
  ·obtain⟨s,hs,h1⟩:=h;rcases List.mem_cons.1 hs with h2|h2
   ·subst h2;exact absurd h1 e
   ·obtain⟨t,ht,h3,h4⟩:=zig (L:=r) ⟨s,h2,h1⟩;exact⟨t,List.mem_cons_of_mem _ ht,h3,by rw[findI,if_neg e,h4]⟩
def Abs(j:Nat)(nm:ByteArray)(is:List Ino)(bs:List Blk):Prop:=∀h:j<is.length,is[j].1≠0/\∀p∈is[j].2.2,∀s∈nmd (blkAt bs p),¬s.1=nm
theorem nmd_ino{Z:ZT}{m:MD}(hm:Sh Z m){p:Int}{s:Sl}(h:s∈nmd (blkAt m.bs p)):1<=s.2/\s.2<=8:=by
 by_cases hb:inB p 1 m.4.length=true
 ·obtain⟨jb,hl,e1,e2⟩:=zbw hb;rw[e2]at h;have hk:=hm.bb _ (List.getElem_mem hl);generalize m.bs[jb]=X at h hk;obtain⟨d,ss,t⟩:=X
  cases d with
  | false=>simp[nmd]at h
  | true =>
   have h2:s∈nmdS ss:=by simpa[nmd]using h
   obtain⟨h3,h4⟩:=zdy h2;have h5:=hk.s s h3;rcases h5.2 with h6|h6
   ·exact absurd h6.1 (zm0 h4)
   ·exact h6
 ·rw[zje (by simpa using hb)]at h;simp at h
theorem zfp{Z:ZT}{m:MD}(hm:Sh Z m){l:List ByteArray}{nm:ByteArray}{j:Nat}(hw:walkN m.is m.bs 1 l=(j:Int)+1)(h0:walkN m.is m.bs 1 (l++[nm])=0)(hj:j<m.3.length)(hk:m.is[j].1=2):Abs j nm m.is m.bs:=fun h=>by
 refine⟨by rw[hk];decide,fun p hp s hs e=>?_⟩;rw[zgi l 1 hw oM]at h0;have hn:named m.is m.bs ((j:Int)+1)=nmdP m.bs m.is[j].2.2:=by rw[zj0 hj,if_pos hk]
 rw[hn]at h0;obtain⟨t,ht,-,h2⟩:=zig (L:=nmdP m.bs m.is[j].2.2) (nm:=nm) ⟨s,by unfold nmdP;exact List.mem_flatMap.2 ⟨p,hp,hs⟩,e⟩;unfold nmdP at ht;obtain⟨p2,-,h3⟩:=List.mem_flatMap.1 ht;have h4:=nmd_ino hm h3;have hb:inB (findI (nmdP m.bs m.is[j].2.2) nm) 1 m.3.length=true:=by rw[h2,hm.i];simp[inB];omega
 rw[if_pos hb,h2]at h0;omega
theorem Abs.set0{j:Nat}{nm:ByteArray}{is:List Ino}{bs:List Blk}(h:Abs j nm is bs)(q:Nat){kd ln:Int}(hk:kd≠0):Abs j nm (is.set q (kd,ln,[0,0])) bs:=fun hl=>by
 rw[List.length_set]at hl;rw[List.getElem_set];by_cases e:q=j
 ·rw[if_pos e];refine⟨hk,fun p hp s hs=>?_⟩;have hp0:p=0:=by simpa using hp
  subst hp0;rw[zje (by simp[inB])]at hs;simp at hs
 ·rw[if_neg e];exact h hl
theorem Abs.setL{j:Nat}{nm:ByteArray}{is:List Ino}{bs:List Blk}(h:Abs j nm is bs)(q:Nat)(hq:q<is.length)(ln:Int):Abs j nm (is.set q (is[q].1,ln,is[q].2.2)) bs:=fun hl=>by
 rw[List.length_set]at hl;rw[List.getElem_set];by_cases e:q=j
 ·subst e;rw[if_pos rfl];exact h hq
 ·rw[if_neg e];exact h hl
theorem zj1(u:Int)(m:MD):(markU u m).is=m.is:=by unfold markU;split<;>rfl
theorem zih(u:Int)(m:MD):(markU u m).bs=m.bs:=by unfold markU;split<;>rfl
def BTQ(Q:List Ino->List Blk->Prop)(w:World)(T:Nat->Prop)(b:Nat):Prop:=∃(S:Nat->Prop)(u v iv bv dv pv:Value)(m:MD),PM w S b u v iv bv dv pv m/\(∀k,S k->T k)/\T b/\Sh Z0 m/\Q m.is m.bs
theorem zm8{Q:List Ino->List Blk->Prop}(T:Nat->Prop)(b:Nat)(x:Int)(w:World)(h:BTQ Q w T b):
  Calls Tryz.prog 197 #[.pointer (some ⟨b,0,none⟩),.int .i64 x] w fun e w'=>e=.returned (.tuple #[])/\BTQ Q w' T b/\Chg T w w':=by
 obtain⟨S,u,v,iv,bv,dv,pv,m,hP,hS,hb,hm,hq⟩:=h;refine(zb1 S b x _ _ _ _ _ _ m w hP).mono ?_;rintro e w' ⟨rfl,P2,C2⟩;exact⟨rfl,⟨S,u,v,iv,bv,dv,pv,_,P2,hS,hb,hm.mark x,by rw[zj1,zih];exact hq⟩,C2.mono hS⟩
def slotO(bs:List Blk)(jb t:Nat):Option Sl:=(bs[jb]?).bind fun x=>x.2.1[t]?
def Keep(m:MD)(bs':List Blk):Prop:=∀(jb t:Nat)(s:Sl),m.xs[jb]?=some true->slotO m.bs jb t=some s->1<=s.2->slotO bs' jb t=some s
def FreeS(bs:List Blk)(ps:List Int)(B s:Int):Prop:=(B=0/\s=0)\/∃(jb t:Nat),B=(jb:Int)+1/\s=(t:Int)/\jb<16/\t<4/\B∈ps/\∃nm,slotO bs jb t=some (nm,0)
def NoN(bs:List Blk)(jb:Nat)(nm:ByteArray):Prop:=∀(h:jb<bs.length)(i:Nat)(hi:i<bs[jb].2.1.length),¬bs[jb].2.1[i].1=nm
theorem NoN.of{m:MD}(hm:Sh Z0 m){jb:Nat}{nm:ByteArray}(hn:zan nm=true)(h:∀s∈nmd (blkAt m.bs ((jb:Int)+1)),¬s.1=nm):NoN m.bs jb nm:=fun hl i hi e=>by
 have hb:inB ((jb:Int)+1) 1 m.4.length=true:=by simp[inB];omega
 obtain⟨j2,hl2,e1,e2⟩:=zbw hb;have e3:j2=jb:=by omega
 subst e3;rw[e2]at h;have hk:=hm.bb _ (List.getElem_mem hl);generalize m.bs[j2]=X at h hk hi e;obtain⟨d,ss,t⟩:=X
 cases d with
 | false =>
  have e4:ss=[]:=hk.f rfl;subst e4;exact absurd hi (Nat.not_lt_zero i)
 | true =>
  refine h ss[i] ?_ e;have:¬ss[i].1=⟨#[]⟩:=fun e5=>by
   have e6:ss[i].1=nm:=e;have:=(zap hn).1;rw[←e6,e5]at this;exact absurd this dC
  have h2:ss[i]∈nmdS ss:=List.mem_filter.2 ⟨List.getElem_mem hi,by simpa using this⟩;simpa[nmd]using h2
theorem zj2{bs:List Blk}{jb t:Nat}(h:jb<bs.length)(ht:t<bs[jb].2.1.length):slotO bs jb t=some bs[jb].2.1[t]:=by simp[slotO,h,ht]
theorem zgj{bs:List Blk}{jb t:Nat}{s:Sl}(h:slotO bs jb t=some s):∃(h1:jb<bs.length)(h2:t<bs[jb].2.1.length),bs[jb].2.1[t]=s:=by
 unfold slotO at h
 cases hb:bs[jb]? with
 | none=>rw[hb]at h;simp at h
 | some x =>
  rw[hb]at h;obtain⟨h1,rfl⟩:=List.getElem?_eq_some_iff.1 hb;simp only[Option.bind_some]at h;obtain⟨h2,h3⟩:=List.getElem?_eq_some_iff.1 h;exact⟨h1,h2,h3⟩
theorem zeo{bs:List Blk}{jb kb t:Nat}{x:Blk}(h:kb≠jb):slotO (bs.set kb x) jb t=slotO bs jb t:=by simp[slotO,List.getElem?_set_ne h]
theorem Keep.block{m:MD}{bs:List Blk}(h:Keep m bs)(kb:Nat)(x:Blk)(hf:m.xs[kb]?=some false):Keep m (bs.set kb x):=fun jb t s hx hs h1=>by
 have hn:kb≠jb:=fun e=>by rw[←e,hf]at hx;simp at hx
 rw[zeo hn];exact h jb t s hx hs h1
theorem Keep.slot{m:MD}{bs:List Blk}(h:Keep m bs)(kb k:Nat)(hk:kb<bs.length)(y:Sl)(hf:m.xs[kb]?=some true->∃nm,slotO m.bs kb k=some (nm,0)):Keep m (bs.set kb (bs[kb].1,bs[kb].2.1.set k y,bs[kb].2.2)):=fun jb t s hx hs h1=>by
 have q:=h jb t s hx hs h1;by_cases hn:kb=jb
 ·subst hn;obtain⟨nm,e⟩:=hf hx;have hkt:k≠t:=fun e2=>by
   subst e2;rw[hs]at e;simp only[Option.some.injEq]at e;subst e;simp at h1
  unfold slotO at q ⊢;rw[List.getElem?_set_self hk];simp only[Option.bind_some];rw[List.getElem?_set_ne hkt];rw[List.getElem?_eq_getElem hk]at q;exact q
 ·rw[zeo hn];exact q
theorem Keep.refl(m:MD):Keep m m.bs:=fun _ _ _ _ h _=>h
theorem zg7(u:Int)(m:MD):(markU u m).bs=m.bs:=zih u m
theorem zj3{Z:ZT}(id kd io pt bk sl:Int)(nm:ByteArray)(bt ot:Bool)(af:Int)(bl:List Int)(p:Value)(u v iv bv dv pv:Value)(m:MD)(w:World)(h:MR w u v iv bv dv pv m)(hS:Sh Z m)(hv:RInts w p bl)
  (hd:DOkN ⟨m.nx,kd,io,pt,bk,sl,nm,bt,ot,af,bl⟩) (hr5:kd=5->Kz.Room Z m bl) :
  Calls Tryz.prog 202 #[.agg #[u,v,iv,bv,dv,pv,.int .i64 m.nx],.agg #[.int .i64 id,.int .i64 kd,.int .i64 io,.int .i64 pt,.int .i64 bk,.int .i64 sl,.string nm,.bool bt,.bool ot,.int .i64 af,p]] w fun e w'=>∃u' v' i' b' d' p' m' r,e=.returned (.tuple #[.agg #[u',v',i',b',d',p',.int .i64 m'.nx],.int .i64 r])/\MO w' (fun k=>w.1.size<=k) u' v' i' b' d' p' m'/\Sh Z m'/\m'.bs=m.bs/\0<=r/\r<=99999/\Below w.1.size w w':=by
 have hbl:bl.length<=1048576:=Nat.le_trans hd.bn dC;by_cases hf:40<=m.6.length
 ·refine(zhv id kd io pt bk sl nm bt ot af bl p u v iv bv dv pv m w h hS.big hv hbl hf).mono ?_;rintro e w' ⟨u1,u2,u3,u4,u5,u6,rfl,O,B⟩;exact⟨u1,u2,u3,u4,u5,u6,m,0,rfl,O,hS,rfl,by omega,by omega,B⟩
 ·cases hx:inB m.nx 1 99999 with
  | false =>
   refine(zhw id kd io pt bk sl nm bt ot af bl p u v iv bv dv pv m w h hS.big hv hbl oM hx).mono ?_;rintro e w' ⟨u1,u2,u3,u4,u5,u6,rfl,O,B⟩;exact⟨u1,u2,u3,u4,u5,u6,m,0,rfl,O,hS,rfl,by omega,by omega,B⟩
  | true =>
   have hr:=zas hx;refine(zjt id kd io pt bk sl nm bt ot af bl p u v iv bv dv pv m w h hS.big hv hbl oM hx).mono ?_;rintro e w' ⟨u1,u2,u3,u4,u5,u6,rfl,O,B⟩;refine⟨u1,u2,u3,u4,u5,u6,_,m.nx,rfl,O,⟨hS.x,hS.y,hS.i,hS.ii,hS.b,hS.bb,hS.f,?_,?_,?_,hS.k.put _ rfl rfl rfl hr5⟩,rfl,by omega,by omega,B⟩
   ·rw[List.length_append];simp;omega
   ·exact cQ80
   ·show 1<=m.nx+1/\m.nx+1<=100000;omega
theorem zk2{m:MD}(hm:Sh Z0 m)(x:Int):(blkAt m.bs x).2.1.length<=4:=by
 cases h:inB x 1 m.4.length with
 | false=>unfold blkAt;rw[h];simp
 | true =>
  obtain⟨jb,hb,-,e⟩:=zbw h;rw[e];exact(hm.bb _ (List.getElem_mem hb)).m
def BlkR(w0:World)(bd:Bool)(btx:ByteArray)(bss:List Sl)(F:Bool)(_ _:Nat)(_:World)(a r:Value):Prop:=∃(sa:Option Addr)(sc:Nat),a=.agg #[.bool bd,.slice sa bss.length sc,.string btx]/\r=.bool F/\RSl w0 (.slice sa bss.length sc) bss
theorem BlkR.below{w0:World}{bd:Bool}{btx:ByteArray}{bss:List Sl}{F:Bool}(lo hi:Nat)(w w':World)(a r:Value)(h:BlkR w0 bd btx bss F lo hi w a r)(_:Below w.1.size w w'):BlkR w0 bd btx bss F lo hi w' a r:=h
theorem zd0{a:ByteArray}(h:¬a=⟨#[]⟩):(a.toList==([]:List UInt8))=false:=by
 have:=zbh (b:=⟨#[]⟩) h
 rwa[show(⟨#[]⟩:ByteArray).toList=[]from by rw[ByteArray.toList_eq]]at this
theorem zm9{w:World}{g j:Nat}{x:Value}(h:w.cell? ⟨g,j,none⟩=some x):g<w.1.size:=by
 exact cQ90
theorem zg8(n:Int)(h0:-1<=n)(h1:n<1000000):IntKind.i64.wrap n=n:=by
 by_cases h:n=-1
 ·subst h;decide
 ·exact wrap_small n oM oM
def BBx(B:List Blk)(w:World)(T:Nat->Prop)(b:Nat):Prop:=∃(S:Nat->Prop)(u v iv bv dv pv:Value)(m:MD),PM w S b u v iv bv dv pv m/\(∀k,S k->T k)/\T b/\Sh Z0 m/\m.bs=B
theorem zd1(B:List Blk)(T:Nat->Prop)(b:Nat)(x:Int)(w:World)(h:BBx B w T b):
  Calls Tryz.prog 197 #[.pointer (some ⟨b,0,none⟩),.int .i64 x] w fun e w'=>e=.returned (.tuple #[])/\BBx B w' T b/\Chg T w w':=by
 obtain⟨S,u,v,iv,bv,dv,pv,m,hP,hS,hb,hm,hB⟩:=h;refine(zb1 S b x _ _ _ _ _ _ m w hP).mono ?_;rintro e w' ⟨rfl,P2,C2⟩;exact⟨rfl,⟨S,u,v,iv,bv,dv,pv,_,P2,hS,hb,hm.mark x,(zg7 x m).trans hB⟩,C2.mono hS⟩
def KT(m:MD)(w:World)(T:Nat->Prop)(b:Nat):Prop:=∃(S:Nat->Prop)(u v iv bv dv pv:Value)(m':MD),PM w S b u v iv bv dv pv m'/\(∀k,S k->T k)/\T b/\Sh Z0 m'/\Keep m m'.bs
theorem zii(T:Nat->Prop)(b j:Nat)(nm:ByteArray)(ino:Int)(S:Nat->Prop)(u v iv bv dv pv:Value)(m:MD)(w:World)(hP:PM w S b u v iv bv dv pv m)(hST:∀k,S k->T k)(hTb:T b)(hT:∀k,w.1.size<=k->T k)(hm:Sh Z0 m)(hj8:j<8)(hn6:nm.size<=6)(hino:1<=ino/\ino<=8)(hnok:zan nm=true)(hab:Abs j nm m.is m.bs):
  Calls Tryz.prog 199 #[.pointer (some ⟨b,0,none⟩),.int .i64 ((j:Int)+1),.string nm,.int .i64 ino] w fun e w'=>(∃id:Int,e=.returned (.int .i64 id)/\0<=id/\id<=99999)/\KT m w' T b/\Chg T w w':=by
 replace hP:=hP.bound
 have hj:j<m.3.length:=by rw[hm.i];exact hj8
 obtain⟨a1,c1,a2,c2,a3,c3,a4,c4,a5,c5,a6,c6,rfl,rfl,rfl,rfl,rfl,rfl⟩:=hP.form;obtain⟨qa,qc,qe,-,qh⟩:=hP.mr.d.i;simp only[Value.slice.injEq,true_and]at qe;obtain⟨rfl,rfl⟩:=qe;obtain⟨g2,o2,⟨t0,t1,t2⟩,rfl,hg2,r0,r1,r2,e0,e1,rr⟩:=qh j hj;simp only at e0 e1 rr r0 r1 r2;subst e0 e1;obtain⟨pa,pc,rfl⟩:=rr.form;have hix:=hm.ii _ (List.getElem_mem hj);obtain⟨⟨kd,ln,ps⟩,hX⟩:∃X,m.is[j]=X:=⟨_,rfl⟩
 have HAB:Hid (kd≠0/\∀p∈ps,∀s∈nmd (blkAt m.bs p),¬s.1=nm):=by have:=hab hj;rw[hX]at this;exact this
 have HNK:=hide hnok;clear hab hnok;rw[hX]at r0 r1 r2 rr hix;simp only at r0 r1 r2 rr;have HIX:=hide hix;have HXX:=hide hX;have hpl:ps.length=2:=hix.n;obtain⟨pa',pc',ep,hpp⟩:=rr;simp only[Value.slice.injEq,true_and]at ep;obtain⟨rfl,rfl⟩:=ep;obtain⟨gp,op,rfl,-,-⟩:=hpp 0 oM;have rr:RInts w (.slice (some ⟨gp,op,none⟩) ps.length pc) ps:=⟨_,_,rfl,hpp⟩
 have hwj:IntKind.i64.wrap (j:Int)=(j:Int):=wrap_small _ oM oM;have j0:(0:Int)<=(j:Int):=by omega
 have j1:(j:Int)<(m.3.length:Int):=by omega
 obtain⟨W1,hW1⟩:∃W1,w.alloc (.cells #[.int .i64 kd,.int .i64 ln,.slice (some ⟨gp,op,none⟩) ps.length pc] 59)=W1:=⟨_,rfl⟩
 have HC:Hid (∀W,Below W1.1.size W1 W->AtC W w.1.size 59 #[.int .i64 kd,.int .i64 ln,.slice (some ⟨gp,op,none⟩) ps.length pc]/\P7 W (fun k=>S k/\k<w.1.size) b m a1 c1 a2 c2 (some ⟨g2,o2,none⟩) c3 a4 c4 a5 c5 a6 c6/\RInts W (.slice (some ⟨gp,op,none⟩) ps.length pc) ps/\Below w.1.size w W/\w.1.size+1<=W.1.size):=fun W bb=>by
  rw[←hW1]at bb;have b1:Below w.1.size w W:=((Below.refl _ w).alloc nR _).trans (bb.mono sI);have z1:=bb.size;simp at z1;exact⟨(AtC.new w 59 _).over bb,hP.below b1,rr.below b1 nR,b1,z1⟩
 have HB1:Hid (Below W1.1.size W1 W1):=Below.refl _ _;have HM:=hide hm;have HTB:Hid (T b/\b<w.1.size):=⟨hTb,hP.box.lt⟩
 have HST:Hid (∀k,(S k/\k<w.1.size)->T k):=fun k hk=>hST k hk.1;have HTT:Hid (∀k,w.1.size<=k->T k):=hT;have HIN:=hide hino;have HN6:=hide hn6;have HPL:=hide hpl;obtain⟨x0,x1,x2,x3,x4,x5,x6⟩:=AtC.sev hP.box;have y2:=(HC.o W1 HB1.o).1.c2;have hpl2:(ps.length:Int)<=2:=by omega
 have hwl:IntKind.i64.wrap ((ps.length:Int)-1)=(ps.length:Int)-1:=wrap_small _ oM oM;clear hP hm hino hn6 hix hX hpp rr qh hST hTb hT hpl;go_enter Tryz.func199,Tryz.ntmps199
 go_wp2_with fail
 clear x0 x1 x2 x3 x4 x5 x6 r0 r1 r2 hW1 y2;go_loopw [10,11,12] (fun bb ss kk wr=>∃(B s kz:Int),bb=.int .i64 B/\ss=.int .i64 s/\kk=.int .i64 kz/\-1<=kz/\kz<(ps.length:Int)/\Hid (FreeS m.bs ps B s/\Below W1.1.size W1 wr)) (fun _ _ kk _=>(intOf kk+1).toNat)
 case atStart =>
  have q2:=HPL.o;exact⟨0,0,(ps.length:Int)-1,rfl,rfl,rfl,by omega,by omega,.inl ⟨rfl,rfl⟩,HB1.o⟩
 case round =>
  obtain⟨B,s,kz,rfl,rfl,rfl,hk1,hk2,HR⟩:=hrel;obtain⟨wo,hwo⟩:∃wo,wo=wr:=⟨_,rfl⟩
  subst hwo;by_cases hkz:0<=kz
  rotate_left
  ·have e1:kz=-1:=by omega
   subst e1;have HF:=hide HR.o.1;have HB0:=hide HR.o.2;have hdl:m.6.length<=1048576:=Nat.le_trans HM.o.l dC;clear HR;go_upto_if 102 with fail
   go_cut [10,11]from 16 to 168 (fun c10 c11 wx=>∃(pn t:Nat)(S':Nat->Prop)(u v iv bv dv pv:Value)(m':MD),c10=.int .i64 ((pn:Int)+1)/\c11=.int .i64 (t:Int)/\pn<16/\t<4/\PM wx S' b u v iv bv dv pv m'/\(∀k,S' k->T k)/\Sh Z0 m'/\Keep m m'.bs/\(∃s0,slotO m'.bs pn t=some s0)/\NoN m'.bs pn nm/\(m.xs[pn]?=some true->∃nm0,slotO m.bs pn t=some (nm0,0))/\Chg T w wx)
   case first =>
    rcases HF.o with⟨rfl,rfl⟩| ⟨jb,t,rfl,rfl,hjb,ht4,hbp,nm0,hs0⟩
    rotate_left
    ·have hbb:(((jb:Int)+1)==0)=false:=beq_eq_false_iff_ne.mpr oM;have HNN:Hid (NoN m.bs jb nm):=NoN.of HM.o HNK.o (HAB.o.2 _ hbp);clear hbp;have HFS:Hid (jb<16/\t<4/\∃nm0,slotO m.bs jb t=some (nm0,0)):=⟨hjb,ht4,nm0,hs0⟩
     clear hs0 hjb ht4;go_wp2_with fail
     go_meet
     obtain⟨h1,h2,nm0,h3⟩:=HFS.o;obtain⟨A0,P0,rI,bW,zW⟩:=HC.o wo HB0.o;exact⟨jb,t,_,_,_,_,_,_,_,m,rfl,rfl,h1,h2,P0,HST.o,HM.o,Keep.refl m,⟨_,h3⟩,HNN.o,fun _=>⟨_,h3⟩,Chg.of_below bW⟩
    have y2:=(HC.o wo HB0.o).1.c2;clear HF;go_wp2_with fail
    go_loopw [16] (fun kk wr=>∃q:Nat,q<=ps.length/\kk=.int .i64 q/\wo=wr) (fun kk _=>ps.length-(intOf kk).toNat)
    case atStart=>exact⟨0,Nat.zero_le _,rfl,rfl⟩
    case round =>
     obtain⟨q,hq,rfl,rfl⟩:=hrel;have q0:(0:Int)<=(q:Int):=by omega
     by_cases hql:q<ps.length
     rotate_left
     ·have qeq:((q:Int)==(ps.length:Int))=true:=by simp;omega
      have q1:¬((q:Int)<(ps.length:Int)):=by omega
      go_wp2;go_ret;obtain⟨A0,P0,rI,bW,zW⟩:=HC.o wo HB0.o;exact⟨⟨0,rfl,by omega,by omega⟩,⟨_,_,_,_,_,_,_,m,P0,HST.o,HTB.o.1,HM.o,Keep.refl m⟩,Chg.of_below bW⟩
     obtain⟨A0,P0,rI,bW,zW⟩:=HC.o wo HB0.o;obtain⟨pa',pc',e1,hcp⟩:=rI;simp only[Value.slice.injEq,true_and]at e1;obtain⟨rfl,rfl⟩:=e1;obtain⟨gp',op',e2,hgp,kp⟩:=hcp q hql;simp only[Option.some.injEq,Addr.mk.injEq,and_true]at e2;obtain⟨rfl,rfl⟩:=e2;have q1:(q:Int)<(ps.length:Int):=by omega
     obtain⟨Pn,hPn⟩:∃Pn,ps[q]=Pn:=⟨_,rfl⟩
     rw[hPn]at kp;have HPN:=hide hPn;have HP0:=hide P0;have HBW:=hide (And.intro bW zW);clear hPn hcp A0 P0 bW zW hgp;by_cases hz:Pn=0
     rotate_left
     ·have hzb:(Pn==0)=false:=beq_eq_false_iff_ne.mpr hz;have hq2:q<2:=by omega
      go_wp2;go_roundw
      case rel=>exact⟨q+1,by omega,by go_num,trivial⟩
      case measure=>simp[intOf];omega
     subst hz;have qne:((q:Int)==(ps.length:Int))=false:=beq_eq_false_iff_ne.mpr oM;have hq2:q<2:=by omega
     obtain⟨x0,x1,x2,x3,x4,x5,x6⟩:=AtC.sev HP0.o.box;by_cases hf:ff m.xs=0
     ·have CT:Hid (Calls Tryz.prog 201 #[.agg (M7 m a1 c1 a2 c2 (some ⟨g2,o2,none⟩) c3 a4 c4 a5 c5 a6 c6)] wo fun e w'=>∃(z1:Option Addr)(l1 y1:Nat)(z2:Option Addr)(l2 y2:Nat)(z3:Option Addr)(l3 y3:Nat)(z4:Option Addr)(l4 y4:Nat)(z5:Option Addr)(l5 y5:Nat)(z6:Option Addr)(l6 y6:Nat),e=.returned (.tuple #[.agg #[.slice z1 l1 y1,.slice z2 l2 y2,.slice z3 l3 y3,.slice z4 l4 y4,.slice z5 l5 y5,.slice z6 l6 y6,.int .i64 m.nx],.int .i64 0])/\Below wo.1.size wo w'):=by
       refine(zc9 _ _ _ _ _ _ m wo HP0.o.mr HM.o.big).mono ?_;rintro e w' ⟨v1,v2,v3,v4,v5,v6,rfl,O8,B8⟩;obtain⟨z1,y1,z2,y2,z3,y3,z4,y4,z5,y5,z6,y6,rfl,rfl,rfl,rfl,rfl,rfl⟩:=O8.mr.form;rw[hf];exact⟨z1,_,y1,z2,_,y2,z3,_,y3,z4,_,y4,z5,_,y5,z6,_,y6,rfl,B8⟩
      go_wp2_with fail
      refine CT.out.mono ?_;rintro e w8 ⟨z1,l1,y1,z2,l2,y2',z3,l3,y3,z4,l4,y4,z5,l5,y5,z6,l6,y6,rfl,B8⟩;have HB8:=hide B8;clear B8 CT;go_wp2;go_ret;have b8:=HB8.o.alloc HB8.o.size (.cells #[.slice z1 l1 y1,.slice z2 l2 y2',.slice z3 l3 y3,.slice z4 l4 y4,.slice z5 l5 y5,.slice z6 l6 y6,.int .i64 m.nx] 33);have bw:=HBW.o.1;exact⟨⟨0,rfl,by omega,by omega⟩,⟨_,_,_,_,_,_,_,m,HP0.o.below b8,HST.o,HTB.o.1,HM.o,Keep.refl m⟩,Chg.of_below (bw.trans (b8.mono bw.size))⟩
     obtain⟨p1,p2⟩:=zie m.xs hf;obtain⟨qn,hqn⟩:∃qn:Nat,ff m.xs=qn+1:=⟨ff m.xs-1,by omega⟩
     have hq16:qn<16:=by have:=HM.o.x;omega
     have hz:((ff m.xs:Nat):Int)=(qn:Int)+1:=by omega
     have HXF:Hid (m.xs[qn]?=some false):=by
      have e:ff m.xs-1=qn:=by omega
      rw[←e];exact p2
     have CT:Hid (Calls Tryz.prog 201 #[.agg (M7 m a1 c1 a2 c2 (some ⟨g2,o2,none⟩) c3 a4 c4 a5 c5 a6 c6)] wo fun e w'=>∃(z1:Option Addr)(y1:Nat)(z2:Option Addr)(y2:Nat)(z3:Option Addr)(y3:Nat)(z4:Option Addr)(y4:Nat)(z5:Option Addr)(y5:Nat)(z6:Option Addr)(y6:Nat),e=.returned (.tuple #[.agg (M7 m z1 y1 z2 y2 z3 y3 z4 y4 z5 y5 z6 y6),.int .i64 ((qn:Int)+1)])/\MO w' (fun k=>wo.1.size<=k) (.slice z1 m.1.length y1) (.slice z2 m.2.length y2) (.slice z3 m.3.length y3) (.slice z4 m.4.length y4) (.slice z5 m.5.length y5) (.slice z6 m.6.length y6) ({ m with xs:=m.xs.set (ff m.xs-1) true,fs:=m.fs.set 0 true }:MD)/\Below wo.1.size wo w'):=by
      refine(zc9 _ _ _ _ _ _ m wo HP0.o.mr HM.o.big).mono ?_;rintro e w' ⟨v1,v2,v3,v4,v5,v6,rfl,O8,B8⟩;rw[zif hf]at O8;obtain⟨z1,y1,z2,y2,z3,y3,z4,y4,z5,y5,z6,y6,e1,rfl,rfl,rfl,e5,rfl⟩:=O8.mr.form;have e1':v1=.slice z1 m.1.length y1:=e1.trans (by rw[show({ m with xs:=m.xs.set (ff m.xs-1) true,fs:=m.fs.set 0 true }:MD).xs.length=m.1.length from List.length_set ..]);have e5':v5=.slice z5 m.5.length y5:=e5.trans (by rw[show({ m with xs:=m.xs.set (ff m.xs-1) true,fs:=m.fs.set 0 true }:MD).fs.length=m.5.length from List.length_set ..]);clear e1 e5;subst e1' e5';rw[hz];exact⟨z1,y1,z2,y2,z3,y3,z4,y4,z5,y5,z6,y6,rfl,O8,B8⟩
     have HSH:Hid (Sh Z0 { m with xs:=m.xs.set (ff m.xs-1) true,fs:=m.fs.set 0 true,is:=m.is.set j (m.is[j].1,m.is[j].2.1,m.is[j].2.2.set q ((qn:Int)+1)),bs:=(m.bs.set qn (true,noSl,⟨#[]⟩)) }):=by
      rw[←hz];have e0:=HXX.o;exact(zm6 HM.o hf j q hj (by simp only[e0];omega) (by simp only[e0];exact HPN.o) (by simp only[e0];exact HAB.o.1)).block qn zja
     go_wp2_with fail
     refine CT.out.mono ?_;rintro e w8 ⟨z1,y1,z2,y2',z3,y3,z4,y4,z5,y5,z6,y6,rfl,O8,B8⟩;obtain⟨W9,hW9⟩:∃W9,w8.alloc (.cells (M7 m z1 y1 z2 y2' z3 y3 z4 y4 z5 y5 z6 y6) 33)=W9:=⟨_,rfl⟩
     obtain⟨bn,hbn⟩:∃bn,w8.1.size=bn:=⟨_,rfl⟩
     have HP9:Hid (PM W9 (fun k=>wo.1.size<=k/\k<bn) bn (.slice z1 m.1.length y1) (.slice z2 m.2.length y2') (.slice z3 m.3.length y3) (.slice z4 m.4.length y4) (.slice z5 m.5.length y5) (.slice z6 m.6.length y6) ({ m with xs:=m.xs.set (ff m.xs-1) true,fs:=m.fs.set 0 true }:MD)/\Below wo.1.size wo W9/\wo.1.size<=bn/\bn<W9.1.size):=by
      rw[←hW9];have z8:=B8.size;refine⟨⟨?_,(O8.bound.below ((Below.refl _ w8).alloc nR _) nR).mono (fun k hk=>by have:wo.1.size<=k/\k<w8.1.size:=hk;omega),by omega⟩,B8.alloc z8 _,by omega,by simp;omega⟩;rw[←hbn];exact AtC.new w8 33 _
     have hqb:(((qn:Int)+1)==0)=false:=beq_eq_false_iff_ne.mpr oM;obtain⟨gb,cb,pb,eb,kb0,kb1,kb2,-,hfz,hgl,hgS⟩:=HP9.o.1.blkAt qn (show qn<m.4.length by rw[HM.o.b];exact hq16);simp only[Value.slice.injEq,true_and]at eb;obtain⟨rfl,rfl⟩:=eb;obtain⟨v0,kb0⟩:∃v0,W9.cell? ⟨gb,qn*3,none⟩=some v0:=⟨_,kb0⟩
     obtain⟨v2,kb2⟩:∃v2,W9.cell? ⟨gb,qn*3+2,none⟩=some v2:=⟨_,kb2⟩
     have xn3:=HP9.o.1.box.c3;have f0:=hfz (qn*3);have f1:=hfz (qn*3+1);have f2:=hfz (qn*3+2);have HW9:Hid (∀W,Below W9.1.size W9 W->W.cell? ⟨bn,3,none⟩=some (.slice (some ⟨gb,0,none⟩) m.4.length y4)/\W.cell? ⟨gb,qn*3,none⟩=some v0/\W.cell? ⟨gb,qn*3+1,none⟩=some pb/\W.cell? ⟨gb,qn*3+2,none⟩=some v2/\W.frozen? ⟨gb,qn*3,none⟩=false/\W.frozen? ⟨gb,qn*3+1,none⟩=false/\W.frozen? ⟨gb,qn*3+2,none⟩=false):=fun W bb=>⟨(bb.cell (p:=⟨bn,3,none⟩) HP9.o.2.2.2).trans xn3,(bb.cell (p:=⟨gb,qn*3,none⟩) hgl).trans kb0,(bb.cell (p:=⟨gb,qn*3+1,none⟩) hgl).trans kb1,(bb.cell (p:=⟨gb,qn*3+2,none⟩) hgl).trans kb2,(bb.frozen (p:=⟨gb,qn*3,none⟩) hgl).trans f0,(bb.frozen (p:=⟨gb,qn*3+1,none⟩) hgl).trans f1,(bb.frozen (p:=⟨gb,qn*3+2,none⟩) hgl).trans f2⟩
     have HPUT:Hid (∀(W:World)(sa:Option Addr)(sc:Nat),SOwns W W9.1.size 90 (.slice sa 4 sc) noSl->Below W9.1.size W9 W->∃S9:Nat->Prop,PM (((W.setCell ⟨gb,qn*3,none⟩ (.bool true)).setCell ⟨gb,qn*3+1,none⟩ (.slice sa 4 sc)).setCell ⟨gb,qn*3+2,none⟩ (.string ⟨#[]⟩)) S9 bn (.slice z1 m.1.length y1) (.slice z2 m.2.length y2') (.slice z3 m.3.length y3) (.slice (some ⟨gb,0,none⟩) m.4.length y4) (.slice z5 m.5.length y5) (.slice z6 m.6.length y6) { ({ m with xs:=m.xs.set (ff m.xs-1) true,fs:=m.fs.set 0 true }:MD)with bs:=(m.bs.set qn (true,noSl,⟨#[]⟩)) }/\(∀k,S9 k->wo.1.size<=k)/\Below wo.1.size wo (((W.setCell ⟨gb,qn*3,none⟩ (.bool true)).setCell ⟨gb,qn*3+1,none⟩ (.slice sa 4 sc)).setCell ⟨gb,qn*3+2,none⟩ (.string ⟨#[]⟩))):=fun W sa sc O bb=>by
      obtain⟨P9,b9,l9,l9'⟩:=HP9.o;have hp:=(P9.below bb).putB rfl qn (show qn<m.4.length by rw[HM.o.b];exact hq16) (.bool true,.slice sa 4 sc,.string ⟨#[]⟩) (true,noSl,⟨#[]⟩) ⟨rfl,O.base_le (Nat.zero_le _),rfl⟩ (fun k hk=>by
       have h1:=(O.lt k hk).1;exact⟨fun e=>by have:=e.2;omega,by omega⟩)
      have hg:wo.1.size<=gb:=hgS.1;have bo:=b9.trans (bb.mono b9.size);refine⟨_,hp.1,fun k hk=>?_,((bo.setCell (p:=⟨gb,qn*3,none⟩) hg _).setCell (p:=⟨gb,qn*3+1,none⟩) hg _).setCell (p:=⟨gb,qn*3+2,none⟩) hg _⟩;rcases hk with h|h
      ·exact h.1
      ·have h1:=(O.lt k h).1;have:=b9.size;omega
     have hwp:IntKind.i64.wrap (qn:Int)=(qn:Int):=wrap_small _ oM oM;have qn0:(0:Int)<=(qn:Int):=by omega
     have qn1:(qn:Int)<(m.4.length:Int):=by have:=HM.o.b;omega
     clear O8 B8 CT p1 p2 x0 x1 x2 x3 x4 x5 x6 y2 kp hfz;go_upto_region 23 with fail
     clear hW9 hbn;go_cut [17]from 130 to 138 (fun c wx=>c=.pointer (some ⟨bn,0,none⟩)/\∃S9:Nat->Prop,PM wx S9 bn (.slice z1 m.1.length y1) (.slice z2 m.2.length y2') (.slice z3 m.3.length y3) (.slice (some ⟨gb,0,none⟩) m.4.length y4) (.slice z5 m.5.length y5) (.slice z6 m.6.length y6) { ({ m with xs:=m.xs.set (ff m.xs-1) true,fs:=m.fs.set 0 true }:MD)with bs:=(m.bs.set qn (true,noSl,⟨#[]⟩)) }/\(∀k,S9 k->wo.1.size<=k)/\Below wo.1.size wo wx)
     case first =>
      go_region_with (go_at_call 113;refine(zd9 _).mono ?_;rintro e w10 ⟨sa,sc,rfl,O10,B10⟩;have HO10:=hide (And.intro O10 B10);obtain⟨n0,n1,n2,n3,n4,n5,n6⟩:=HW9.o w10 (zac B10);clear O10 B10)
      all_goals (go_wp2_with fail;go_meet;exact⟨rfl,HPUT.o w10 sa sc HO10.o.1 (zac HO10.o.2)⟩)
     case rest =>
      obtain⟨rfl,S9,P10,hS9,B10⟩:=hcut
      replace P10:=P10.bound
      have hbnw:wo.1.size<=bn:=HP9.o.2.2.1;obtain⟨gi,ci,gs,cs,ei,-,k2,kt,kf,kS,-,hput⟩:=P10.ptrAt j hj q (show q<m.is[j].2.2.length by have e0:=HXX.o;simp only[e0];exact hql);simp only[Value.slice.injEq,true_and]at ei;obtain⟨rfl,rfl⟩:=ei;have hps:m.is[j].2.2.length=ps.length:=by have e0:=HXX.o;simp only[e0]
      have k2':wc.cell? ⟨gi,j*3+2,none⟩=some (.slice (some ⟨gs,0,none⟩) ps.length cs):=by rw[←hps];exact k2
      obtain⟨zv,kt'⟩:∃zv,wc.cell? ⟨gs,q,none⟩=some zv:=⟨_,kt⟩
      have xn2:=P10.box.c2;obtain⟨W11,hW11⟩:∃W11,wc.setCell ⟨gs,q,none⟩ (.int .i64 ((qn:Int)+1))=W11:=⟨_,rfl⟩
      have HB11:Hid (BBx (m.bs.set qn (true,noSl,⟨#[]⟩)) W11 (fun k=>wo.1.size<=k) bn/\Below wo.1.size wo W11):=by
       rw[←hW11];have hgs:wo.1.size<=gs:=hS9 gs kS.1;exact⟨⟨_,_,_,_,_,_,_,_,hput _,fun k hk=>hS9 k hk.1,hbnw,HSH.o,rfl⟩,B10.setCell (p:=⟨gs,q,none⟩) hgs _⟩
      obtain⟨U,hU⟩:∃U,uoB ((qn:Int)+1)=U:=⟨_,rfl⟩
      have CU:Hid (∀W,Calls Tryz.prog 203 #[.int .i64 ((qn:Int)+1)] W fun e w'=>e=.returned (.int .i64 U)/\w'=W):=fun W=>by rw[←hU];exact zbl _ W
      obtain⟨U2,hU2⟩:∃U2,uoI ((j:Int)+1)=U2:=⟨_,rfl⟩
      have CU2:Hid (∀W,Calls Tryz.prog 198 #[.int .i64 ((j:Int)+1)] W fun e w'=>e=.returned (.int .i64 U2)/\w'=W):=fun W=>by rw[←hU2];exact zbr _ W
      clear hU hU2 hput k2 kt hps HSH P10 hS9 B10 kS HP9 HPUT HW9 hgS hgl kb0 kb1 kb2 xn3 f0 f1 f2;go_wp2_with fail
      refine(CU.out _).mono ?_;rintro e w9' ⟨rfl,hw9⟩;rw[hw9];clear hw9 w9' hW11 k2' kt' xn2 kf;go_wp2_with fail
      refine(zd1 _ _ bn U W11 HB11.o.1).mono ?_;rintro e w12 ⟨rfl,b12,c12⟩;have HB12:Hid (BBx (m.bs.set qn (true,noSl,⟨#[]⟩)) w12 (fun k=>wo.1.size<=k) bn/\Below wo.1.size wo w12):=⟨b12,HB11.o.2.trans (c12.below HB11.o.2.size (fun k hk=>hk))⟩
      clear b12 c12 HB11 CU;go_wp2_with fail
      refine(CU2.out _).mono ?_;rintro e w9' ⟨rfl,hw9⟩;rw[hw9];clear hw9 w9';go_wp2_with fail
      refine(zd1 _ _ bn U2 w12 HB12.o.1).mono ?_;rintro e w13 ⟨rfl,b13,c13⟩;have HB13:Hid (Below wo.1.size wo w13):=HB12.o.2.trans (c13.below HB12.o.2.size (fun k hk=>hk));obtain⟨SB,u,v,iv,bv,dv,pv,mb,PB,hSB,hTB,hmB,hbB⟩:=b13;obtain⟨h1,k1,h2,k2,h3,k3,h4,k4,h5,k5,h6,k6,rfl,rfl,rfl,rfl,rfl,rfl⟩:=PB.form;obtain⟨t0,t1,t2,t3,t4,t5,t6⟩:=AtC.sev PB.box;have HPB:=hide (And.intro PB (And.intro hmB hbB));have HDO:Hid (DOkN ⟨mb.nx,1,(j:Int)+1,(q:Int),(qn:Int)+1,0,⟨#[]⟩,false,false,0,[]⟩):=⟨⟨by show 1<=(j:Int)+1;omega,by show(j:Int)+1<=8;omega⟩,⟨by show(0:Int)<=q;omega,by show(q:Int)<=1;omega⟩,⟨by show(0:Int)<=(qn:Int)+1;omega,by show(qn:Int)+1<=16;omega⟩,by simp,fun p hp=>by simp at hp,by simp,by show(0:Nat)<=6;omega⟩
      clear PB hSB hTB hmB hbB c13 HB12 CU2;go_wp2_with fail
      refine(zj3 0 1 ((j:Int)+1) q ((qn:Int)+1) 0 ⟨#[]⟩ false false 0 [] _ _ _ _ _ _ _ mb w13 HPB.o.1.mr HPB.o.2.1 ⟨none,0,rfl,fun j hj=>by simp at hj⟩ HDO.o (fun e=>absurd e dC)).mono ?_;rintro e wn ⟨u1,u2,u3,u4,u5,u6,mn,rr,rfl,On,hSn,hbn,-,-,Bn⟩;obtain⟨q1',r1,q2,r2,q3,r3,q4,r4,q5,r5,q6,r6,rfl,rfl,rfl,rfl,rfl,rfl⟩:=On.mr.form;have AN:AtC wn bn 33 (M7 mb h1 k1 h2 k2 h3 k3 h4 k4 h5 k5 h6 k6):=HPB.o.1.box.over Bn;have bnn:Below wo.1.size wo wn:=HB13.o.trans (Bn.mono HB13.o.size);have AO:AtC wn b 33 (M7 m a1 c1 a2 c2 (some ⟨g2,o2,none⟩) c3 a4 c4 a5 c5 a6 c6):=HP0.o.box.over bnn;have hbo:b<wo.1.size:=HP0.o.box.lt;have hne:b≠bn:=by omega
      have hne':bn≠b:=by omega
      obtain⟨s0,s1,s2,s3,s4,s5,s6⟩:=AtC.sev AN;obtain⟨x0,x1,x2,x3,x4,x5,x6⟩:=AtC.sev AO;have f0:=AN.frozen 0;have f1:=AN.frozen 1;have f2:=AN.frozen 2;have f3:=AN.frozen 3;have f4:=AN.frozen 4;have f5:=AN.frozen 5;have f6:=AN.frozen 6;have e0:=AO.frozen 0;have e1:=AO.frozen 1;have e2:=AO.frozen 2;have e3:=AO.frozen 3;have e4:=AO.frozen 4;have e5:=AO.frozen 5;have e6:=AO.frozen 6;have HFN:Hid (PM ((((((((((((((wn.setCell ⟨bn,0,none⟩ (.slice q1' mn.1.length r1)).setCell ⟨bn,1,none⟩ (.slice q2 mn.2.length r2)).setCell ⟨bn,2,none⟩ (.slice q3 mn.3.length r3)).setCell ⟨bn,3,none⟩ (.slice q4 mn.4.length r4)).setCell ⟨bn,4,none⟩ (.slice q5 mn.5.length r5)).setCell ⟨bn,5,none⟩ (.slice q6 mn.6.length r6)).setCell ⟨bn,6,none⟩ (.int .i64 mn.nx)).setCell ⟨b,0,none⟩ (.slice q1' mn.1.length r1)).setCell ⟨b,1,none⟩ (.slice q2 mn.2.length r2)).setCell ⟨b,2,none⟩ (.slice q3 mn.3.length r3)).setCell ⟨b,3,none⟩ (.slice q4 mn.4.length r4)).setCell ⟨b,4,none⟩ (.slice q5 mn.5.length r5)).setCell ⟨b,5,none⟩ (.slice q6 mn.6.length r6)).setCell ⟨b,6,none⟩ (.int .i64 mn.nx)) (fun k=>w13.1.size<=k) b (.slice q1' mn.1.length r1) (.slice q2 mn.2.length r2) (.slice q3 mn.3.length r3) (.slice q4 mn.4.length r4) (.slice q5 mn.5.length r5) (.slice q6 mn.6.length r6) mn/\Sh Z0 mn/\mn.bs=(m.bs.set qn (true,noSl,⟨#[]⟩))/\Chg T w ((((((((((((((wn.setCell ⟨bn,0,none⟩ (.slice q1' mn.1.length r1)).setCell ⟨bn,1,none⟩ (.slice q2 mn.2.length r2)).setCell ⟨bn,2,none⟩ (.slice q3 mn.3.length r3)).setCell ⟨bn,3,none⟩ (.slice q4 mn.4.length r4)).setCell ⟨bn,4,none⟩ (.slice q5 mn.5.length r5)).setCell ⟨bn,5,none⟩ (.slice q6 mn.6.length r6)).setCell ⟨bn,6,none⟩ (.int .i64 mn.nx)).setCell ⟨b,0,none⟩ (.slice q1' mn.1.length r1)).setCell ⟨b,1,none⟩ (.slice q2 mn.2.length r2)).setCell ⟨b,2,none⟩ (.slice q3 mn.3.length r3)).setCell ⟨b,3,none⟩ (.slice q4 mn.4.length r4)).setCell ⟨b,4,none⟩ (.slice q5 mn.5.length r5)).setCell ⟨b,5,none⟩ (.slice q6 mn.6.length r6)).setCell ⟨b,6,none⟩ (.int .i64 mn.nx))/\w.1.size<=w13.1.size):=by
       have z13:=HB13.o.size;have zo:=HBW.o.2;have bnT:T bn:=HTT.o bn oM;have bT:=HTB.o.1;have cw:Chg T w wn:=Chg.of_below (HBW.o.1.trans (bnn.mono oM));have lbn:=HPB.o.1.box.lt;refine⟨PM.store ((zaa _ _ _ _ _ _ _ _ _ b hne).trans AO) (On.of_heap fun k hk _=>zaa _ _ _ _ _ _ _ _ _ k (by have:w13.1.size<=k:=hk;omega)) oM,hSn,hbn.trans HPB.o.2.2,?_,by omega⟩;exact(((((((((((((cw.setCell bnT _).setCell bnT _).setCell bnT _).setCell bnT _).setCell bnT _).setCell bnT _).setCell bnT _).setCell bT _).setCell bT _).setCell bT _).setCell bT _).setCell bT _).setCell bT _).setCell bT _
      clear AN AO On hSn Bn HPB HDO HB13 hbn bnn;go_wp2_with fail
      go_meet
      refine⟨qn,0,_,_,_,_,_,_,_,mn,rfl,rfl,hq16,by omega,HFN.o.1,fun k hk=>HTT.o k (Nat.le_trans HFN.o.2.2.2.2 hk),HFN.o.2.1,?_,?_,?_,fun e=>?_,HFN.o.2.2.2.1⟩
      ·rw[HFN.o.2.2.1];exact(Keep.refl m).block qn _ HXF.o
      ·rw[HFN.o.2.2.1];have hbl:qn<m.4.length:=by rw[HM.o.b];exact hq16
       exact⟨(⟨#[]⟩,0),by unfold slotO;rw[List.getElem?_set_self hbl];rfl⟩
      ·intro hl i hi e;have e9:mn.bs[qn]=(true,noSl,⟨#[]⟩):=by
        have hb2:=HFN.o.2.2.1;simp only[hb2];exact List.getElem_set_self ..
       have e8:∀s∈mn.bs[qn].2.1,s.1.size=0:=by
        rw[e9];intro s hs;simp[noSl]at hs;subst hs;rfl
       have e7:=e8 _ (List.getElem_mem hi);rw[e]at e7;have:=(zap HNK.o).1;omega
      ·have:=HXF.o;rw[e]at this;simp at this
   case rest =>
    obtain⟨pn,t,S',u,v,iv,bv,dv,pv,m',rfl,rfl,hpn,ht4,P8,hS8,hm8,hk8,hso8,hnn8,hfr8,hc8⟩:=hcut
    replace P8:=P8.bound
    obtain⟨f1,e1,f2,e2,f3,e3,f4,e4,f5,e5,f6,e6,rfl,rfl,rfl,rfl,rfl,rfl⟩:=P8.form;obtain⟨s0,hs0⟩:=hso8;obtain⟨hpl,htl,-⟩:=zgj hs0;obtain⟨gb,cb,gs,cs,eb,k0,k1,k2,k3,hfz,hgS,hgl,hput⟩:=P8.slotAt pn hpl t htl;simp only[Value.slice.injEq,true_and]at eb;obtain⟨rfl,rfl⟩:=eb;obtain⟨sl,hsl⟩:∃sl,m'.bs[pn].2.1.length=sl:=⟨_,rfl⟩
    have htl':t<sl:=by rw[←hsl];exact htl
    rw[hsl]at k1;obtain⟨v2,k2⟩:∃v2,wc.cell? ⟨gs,t*2,none⟩=some v2:=⟨_,k2⟩
    obtain⟨v3,k3⟩:∃v3,wc.cell? ⟨gs,t*2+1,none⟩=some v3:=⟨_,k3⟩
    have hkk:=hm8.bb _ (List.getElem_mem hpl);have HIO:=hide HIN.o;obtain⟨W9,hW9⟩:∃W9,(wc.setCell ⟨gs,t*2,none⟩ (.string nm)).setCell ⟨gs,t*2+1,none⟩ (.int .i64 ino)=W9:=⟨_,rfl⟩
    have HB9:Hid (BBx (m'.bs.set pn (m'.bs[pn].1,m'.bs[pn].2.1.set t (nm,ino),m'.bs[pn].2.2)) W9 T b/\Chg T w W9/\Keep m (m'.bs.set pn (m'.bs[pn].1,m'.bs[pn].2.1.set t (nm,ino),m'.bs[pn].2.2))):=by
     rw[←hW9];have gT:T gs:=hS8 gs hgS.1;refine⟨⟨_,_,_,_,_,_,_,_,hput nm ino,fun k hk=>hS8 k hk.1,HTB.o.1,hm8.block pn ⟨⟨fun e=>by rw[List.length_set];exact hkk.n e,by rw[List.length_set];exact hkk.m,fun s hs=>(List.mem_or_eq_of_mem_set hs).elim (hkk.s s) (fun e=>e ▸ ⟨HN6.o,.inr HIO.o⟩),hkk.t⟩,fun e=>by have e0:=hkk.f e;have h9:=htl;rw[e0]at h9;exact absurd h9 (Nat.not_lt_zero t),hkk.e,fun s hs=>(List.mem_or_eq_of_mem_set hs).elim (hkk.q s) (fun e=>e ▸ .inr HNK.o),hkk.u.set (.inr (hnn8 hpl))⟩,rfl⟩,(hc8.setCell gT _).setCell gT _,hk8.slot pn t hpl (nm,ino) hfr8⟩
    obtain⟨BB,hBB⟩:∃BB,m'.bs.set pn (m'.bs[pn].1,m'.bs[pn].2.1.set t (nm,ino),m'.bs[pn].2.2)=BB:=⟨_,rfl⟩
    rw[hBB]at HB9;have x3:=P8.box.c3;have z0:=hfz (t*2);have z1:=hfz (t*2+1);have hwp:IntKind.i64.wrap (pn:Int)=(pn:Int):=wrap_small _ oM oM;have pn0:(0:Int)<=(pn:Int):=by omega
    have pn1:(pn:Int)<(m'.4.length:Int):=by omega
    have t0:(0:Int)<=(t:Int):=by omega
    have t1:(t:Int)<(sl:Int):=by omega
    obtain⟨U,hU⟩:∃U,uoB ((pn:Int)+1)=U:=⟨_,rfl⟩
    have CU:Hid (∀W,Calls Tryz.prog 203 #[.int .i64 ((pn:Int)+1)] W fun e w'=>e=.returned (.int .i64 U)/\w'=W):=fun W=>by rw[←hU];exact zbl _ W
    clear hU hput hfz P8 hkk hs0 hBB hfr8 hk8 hm8 hS8 hc8 hsl;go_wp2_with fail
    refine(CU.out _).mono ?_;rintro e w9' ⟨rfl,hw9⟩;rw[hw9];clear hw9 w9' k0 k1 k2 k3 x3 z0 z1 hW9;go_wp2_with fail
    refine(zd1 _ _ b U W9 HB9.o.1).mono ?_;rintro e w10 ⟨rfl,b10,c10⟩;have HB10:Hid (BBx BB w10 T b/\Chg T w w10):=⟨b10,HB9.o.2.1.trans c10⟩
    clear b10 c10 CU;go_wp2_with fail
    refine(zd1 _ _ b 0 w10 HB10.o.1).mono ?_;rintro e w11 ⟨rfl,b11,c11⟩;have HC11:Hid (Chg T w w11):=HB10.o.2.trans c11;obtain⟨SB,u,v,iv,bv,dv,pv,mb,PB,hSB,hTB,hmB,hbB⟩:=b11;obtain⟨h1,k1,h2,k2,h3,k3,h4,k4,h5,k5,h6,k6,rfl,rfl,rfl,rfl,rfl,rfl⟩:=PB.form;obtain⟨y0,y1,y2,y3,y4,y5,y6⟩:=AtC.sev PB.box;have HPB:=hide (And.intro PB (And.intro hmB hbB));have HDO:Hid (DOkN ⟨mb.nx,2,ino,0,(pn:Int)+1,(t:Int),⟨#[]⟩,false,false,0,[]⟩):=⟨HIO.o,by simp,⟨by show(0:Int)<=(pn:Int)+1;omega,by show(pn:Int)+1<=16;omega⟩,⟨by show(0:Int)<=t;omega,by show(t:Int)<=3;omega⟩,fun p hp=>by simp at hp,by simp,by show(0:Nat)<=6;omega⟩
    clear PB hSB hTB hmB hbB c11 HB10;go_wp2_with fail
    refine(zj3 0 2 ino 0 ((pn:Int)+1) t ⟨#[]⟩ false false 0 [] _ _ _ _ _ _ _ mb w11 HPB.o.1.mr HPB.o.2.1 ⟨none,0,rfl,fun j hj=>by simp at hj⟩ HDO.o (fun e=>absurd e dC)).mono ?_;rintro e wn ⟨u1,u2,u3,u4,u5,u6,mn,rr,rfl,On,hSn,hbn,hr0,hr9,Bn⟩;obtain⟨q1',r1,q2,r2,q3,r3,q4,r4,q5,r5,q6,r6,rfl,rfl,rfl,rfl,rfl,rfl⟩:=On.mr.form;obtain⟨WA,hWA⟩:∃WA,wn.alloc (.cells (M7 mn q1' r1 q2 r2 q3 r3 q4 r4 q5 r5 q6 r6) 33)=WA:=⟨_,rfl⟩
    have bA:Below wn.1.size wn WA:=by rw[←hWA];exact(Below.refl _ wn).alloc nR _
    have AO:AtC WA b 33 (M7 mb h1 k1 h2 k2 h3 k3 h4 k4 h5 k5 h6 k6):=(HPB.o.1.box.over Bn).over bA;have AN:AtC WA wn.1.size 33 (M7 mn q1' r1 q2 r2 q3 r3 q4 r4 q5 r5 q6 r6):=by rw[←hWA];exact AtC.new wn 33 _
    have hbo:b<w11.1.size:=HPB.o.1.box.lt;have hzz:=Bn.size;obtain⟨s0,s1,s2,s3,s4,s5,s6⟩:=AtC.sev AN;have g0:=AO.frozen 0;have g1:=AO.frozen 1;have g2:=AO.frozen 2;have g3:=AO.frozen 3;have g4:=AO.frozen 4;have g5:=AO.frozen 5;have g6:=AO.frozen 6;obtain⟨x0,x1,x2,x3,x4,x5,x6⟩:=AtC.sev AO;have HFN:Hid (PM (((((((WA.setCell ⟨b,0,none⟩ (.slice q1' mn.1.length r1)).setCell ⟨b,1,none⟩ (.slice q2 mn.2.length r2)).setCell ⟨b,2,none⟩ (.slice q3 mn.3.length r3)).setCell ⟨b,3,none⟩ (.slice q4 mn.4.length r4)).setCell ⟨b,4,none⟩ (.slice q5 mn.5.length r5)).setCell ⟨b,5,none⟩ (.slice q6 mn.6.length r6)).setCell ⟨b,6,none⟩ (.int .i64 mn.nx)) (fun k=>w11.1.size<=k) b (.slice q1' mn.1.length r1) (.slice q2 mn.2.length r2) (.slice q3 mn.3.length r3) (.slice q4 mn.4.length r4) (.slice q5 mn.5.length r5) (.slice q6 mn.6.length r6) mn/\Sh Z0 mn/\Keep m mn.bs/\Chg T w (((((((WA.setCell ⟨b,0,none⟩ (.slice q1' mn.1.length r1)).setCell ⟨b,1,none⟩ (.slice q2 mn.2.length r2)).setCell ⟨b,2,none⟩ (.slice q3 mn.3.length r3)).setCell ⟨b,3,none⟩ (.slice q4 mn.4.length r4)).setCell ⟨b,4,none⟩ (.slice q5 mn.5.length r5)).setCell ⟨b,5,none⟩ (.slice q6 mn.6.length r6)).setCell ⟨b,6,none⟩ (.int .i64 mn.nx))/\w.1.size<=w11.1.size/\0<=rr/\rr<=99999):=by
     have z11:=HC11.o.size;have bT:=HTB.o.1;have cw:Chg T w WA:=HC11.o.trans (Chg.of_below (Bn.trans (bA.mono Bn.size)));refine⟨PM.store AO (On.below bA nR) oM,hSn,by rw[hbn,HPB.o.2.2];exact HB9.o.2.2,?_,by omega,hr0,hr9⟩;exact((((((cw.setCell bT _).setCell bT _).setCell bT _).setCell bT _).setCell bT _).setCell bT _).setCell bT _
    clear AN AO On hSn Bn HPB HDO HB9 hbn bA hr0 hr9 HC11;go_wp2;go_ret;exact⟨⟨rr,rfl,HFN.o.2.2.2.2.2.1,HFN.o.2.2.2.2.2.2⟩,⟨_,_,_,_,_,_,_,mn,HFN.o.1,fun k hk=>HTT.o k (Nat.le_trans HFN.o.2.2.2.2.1 hk),HTB.o.1,HFN.o.2.1,HFN.o.2.2.1⟩,HFN.o.2.2.2.1⟩
  obtain⟨q,rfl⟩:∃q:Nat,kz=(q:Int):=⟨kz.toNat,by omega⟩
  have hq:q<ps.length:=by omega
  obtain⟨A0,P0,rI,-,-⟩:=HC.o wo HR.o.2;obtain⟨pa',pc',e1,hcp⟩:=rI;simp only[Value.slice.injEq,true_and]at e1;obtain⟨rfl,rfl⟩:=e1;obtain⟨gp',op',e2,hgp,kp⟩:=hcp q hq;simp only[Option.some.injEq,Addr.mk.injEq,and_true]at e2;obtain⟨rfl,rfl⟩:=e2;obtain⟨Pn,hPn⟩:∃Pn,ps[q]=Pn:=⟨_,rfl⟩
  rw[hPn]at kp;have HPM:Hid (Pn∈ps):=by rw[←hPn];exact List.getElem_mem _
  have CB:=hide (fun(W:World)(hd:Below wo.1.size wo W)=>zgw Pn (.slice a1 m.1.length c1) (.slice a2 m.2.length c2) (.slice (some ⟨g2,o2,none⟩) m.3.length c3) (.slice a4 m.4.length c4) m.xs m.ys m.is m.bs wo W P0.mr.d hd (by rw[HM.o.b];decide));have hb4:=zk2 HM.o Pn;obtain⟨⟨bd,bss,btx⟩,hBD⟩:∃X,blkAt m.bs Pn=X:=⟨_,rfl⟩
  obtain⟨F,hF⟩:∃F,inB Pn 1 m.4.length=F:=⟨_,rfl⟩
  have HSL:Hid (F=true->∃jb:Nat,Pn=(jb:Int)+1/\jb<16/\∀(t:Nat)(h:t<bss.length),slotO m.bs jb t=some bss[t]):=fun e=>by
   rw[e]at hF;obtain⟨jb,hb,e1,e2⟩:=zbw hF;rw[hBD]at e2;have e3:bss=m.bs[jb].2.1:=congrArg (fun z:Blk=>z.2.1) e2;subst e3;exact⟨jb,e1,by rw[←HM.o.b];exact hb,fun t h=>zj2 hb h⟩
  rw[hBD,hF]at CB;rw[hBD]at hb4;simp only at hb4;have q0:(0:Int)<=(q:Int):=by omega
  have q1:(q:Int)<(ps.length:Int):=by omega
  have HKP:Hid (∀W,Below wo.1.size wo W->W.cell? ⟨gp,op+q,none⟩=some (.int .i64 Pn)):=fun W b=>(b.cell (p:=⟨gp,op+q,none⟩) hgp).trans kp;have HWR:Hid (∀W,Below wo.1.size wo W->AtC W w.1.size 59 #[.int .i64 kd,.int .i64 ln,.slice (some ⟨gp,op,none⟩) ps.length pc]/\P7 W (fun k=>S k/\k<w.1.size) b m a1 c1 a2 c2 (some ⟨g2,o2,none⟩) c3 a4 c4 a5 c5 a6 c6/\Below W1.1.size W1 W):=fun W b=>⟨A0.over b,P0.below b,HR.o.2.trans (b.mono HR.o.2.size)⟩
  clear hPn kp hcp hBD hF A0 P0 hgp;go_upto_region 7 with fail
  go_cut [13,14]from 34 to 100 (fun bv ok wx=>∃(bw:Nat)(sa:Option Addr)(sc:Nat),bv=.pointer (some ⟨bw,0,none⟩)/\ok=.bool F/\AtC wx bw 95 #[.bool bd,.slice sa bss.length sc,.string btx]/\RSl wx (.slice sa bss.length sc) bss/\Below wo.1.size wo wx)
  case first =>
   refine zbd kL [0,1,2,3,4,5,6,7,8,9,10,11,12,13] [14,15] [([0,1,2,3,4,5,6,7,8,9,10,11,13],[[12,14,15],[14,12,15]])] (fun i=>match i with|0=>.const [] (.pointer (some ⟨b,0,none⟩))|1=>.const [0] (.pointer (some ⟨b,0,none⟩))|2=>.const [1] (.pointer (some ⟨b,0,none⟩))|3=>.const [2] (.agg #[.slice a1 m.1.length c1,.slice a2 m.2.length c2,.slice (some ⟨g2,o2,none⟩) m.3.length c3,.slice a4 m.4.length c4])|4=>.const [] (.pointer (some ⟨w.1.size,2,none⟩))|5=>.const [4] (.slice (some ⟨gp,op,none⟩) ps.length pc)|6=>.const [] (.int .i64 (q:Int))|7=>.const [5,6] (.pointer (some ⟨gp,op+q,none⟩))|8=>.const [7] (.int .i64 Pn)|9=>MkT2 [3,8] (BlkR wo bd btx bss F) BlkR.below|10=>MkMv 9|11=>MkFs 10|12=>MkSd 10|13=>MkW 95 #[.bool false,.slice none 0 0,.string ⟨#[]⟩]|_=>.triv) (fun x=>⟨List.toArray ((.pointer (some ⟨b,0,none⟩))::(.int .i64 (↑j+1))::(.string nm)::(.int .i64 ino)::undef::undef::undef::undef::(.int .i64 0)::(.pointer (some ⟨w.1.size,0,none⟩))::(.int .i64 B)::(.int .i64 s)::(.int .i64 ↑q)::(x 13)::u14::u15::undef::undef::undef::undef::undef::(.pointer (some ⟨b,0,none⟩))::(.pointer (some ⟨b,0,none⟩))::(.pointer (some ⟨b,0,none⟩))::(.pointer (some ⟨b,2,none⟩))::(.slice (some ⟨g2,o2,none⟩) m.3.length c3)::(.int .i64 (↑j+1))::(.int .i64 ↑j)::(.pointer (some ⟨g2,o2+j*3,none⟩))::(.agg #[.int .i64 kd,.int .i64 ln,.slice (some ⟨gp,op,none⟩) ps.length pc])::(.pointer (some ⟨w.1.size,2,none⟩))::(.slice (some ⟨gp,op,none⟩) ps.length pc)::(.int .i64 ↑ps.length)::(.int .i64 (↑ps.length-1))::(.int .i64 ↑q)::(.bool true)::u36::u37::(x 10)::(x 0)::(x 1)::(x 2)::(x 3)::(x 4)::(x 5)::(x 6)::(x 7)::(x 8)::(x 9)::(x 11)::(x 12)::u51::u52::u53::u54::u55::u56::u57::u58::u59::u60::u61::u62::u63::u64::u65::u66::u67::u68::u69::u70::u71::u72::u73::u74::u75::u76::u77::u78::u79::u80::u81::u82::u83::u84::u85::u86::u87::u88::u89::u90::u91::u92::u93::u94::u95::u96::u97::u98::u99::u100::undef::undef::undef::undef::undef::undef::undef::undef::undef::undef::undef::undef::undef::undef::undef::undef::undef::undef::undef::undef::undef::undef::undef::undef::undef::undef::undef::undef::undef::undef::undef::undef::undef::undef::undef::undef::undef::undef::undef::undef::undef::undef::undef::undef::undef::undef::undef::undef::undef::undef::undef::undef::undef::undef::undef::undef::undef::undef::undef::undef::undef::undef::undef::undef::undef::undef::undef::undef::undef::undef::undef::undef::undef::undef::undef::undef::undef::undef::undef::undef::undef::undef::undef::undef::undef::undef::undef::undef::undef::undef::undef::undef::undef::undef::undef::undef::undef::undef::undef::undef::undef::undef::undef::undef::[]),[]⟩) (fun i=>match i with|0=>u39|1=>u40|2=>u41|3=>u42|4=>u43|5=>u44|6=>u45|7=>u46|8=>u47|9=>u48|10=>u38|11=>u49|12=>u50|13=>u13|_=>undef) rfl (za9 kL kL) kL kL kL rfl ?_ ?_ ?_
   ·intro jo hj so x iw W hd hp K hK;simp only[List.mem_cons,List.not_mem_nil,or_false]at hj;rcases hj with rfl|rfl|rfl|rfl|rfl|rfl|rfl|rfl|rfl|rfl|rfl|rfl|rfl|rfl<;>refine wpOp_step (o:=_) rfl fun K' hK'=>?_<;>have HK:=hide (fun(v:Value) (W':World) h1 h2=>hK' _ _ (hK v W' h1 h2))<;>simp only[upd,Nat.reduceEqDiff,if_true,if_false]at HK
    ·exact cQ10
    ·exact cQ45
    ·exact cQ56
    ·have e2:x 2=.pointer (some ⟨b,0,none⟩):=hp.post 2 (hd 2 mz0);have bw:=zac hp.bel;have k0:=(HWR.o W bw).2.1.box;obtain⟨q0,q1,q2,q3⟩:=AtC.four k0;clear k0 bw;simp only[e2]at HK ⊢;go_simp;exact HK.o _ _ bR rfl
    ·exact cQ10
    ·have e4:x 4=.pointer (some ⟨w.1.size,2,none⟩):=hp.post 4 (hd 4 mz0);have bw:=zac hp.bel;have q0:=(HWR.o W bw).1.c2;clear bw;simp only[e4]at HK ⊢;go_simp;exact HK.o _ _ bR rfl
    ·exact cQ10
    ·have e5:x 5=.slice (some ⟨gp,op,none⟩) ps.length pc:=hp.post 5 (hd 5 mz0);have e6:x 6=.int .i64 (q:Int):=hp.post 6 (hd 6 mz1);simp only[e5,e6]at HK ⊢;go_simp;exact HK.o _ _ bR rfl
    ·have e7:x 7=.pointer (some ⟨gp,op+q,none⟩):=hp.post 7 (hd 7 mz0);have bw:=zac hp.bel;have q9:=HKP.o W bw;clear bw;simp only[e7]at HK ⊢;go_simp;exact HK.o _ _ bR rfl
    ·have e3:x 3=.agg #[.slice a1 m.1.length c1,.slice a2 m.2.length c2,.slice (some ⟨g2,o2,none⟩) m.3.length c3,.slice a4 m.4.length c4]:=hp.post 3 (hd 3 mz0);have e8:x 8=.int .i64 Pn:=hp.post 8 (hd 8 mz1);have dr:=zac hp.bel;simp only[e3,e8]at HK ⊢;clear e3 e8;go_simp;refine(CB.out W dr).mono ?_;rintro e w6 ⟨sv,rfl,R6,B6⟩;obtain⟨sa,sc,rfl,hR6⟩:=R6;go_simp;exact HK.o _ _ B6 ⟨_,_,rfl,sa,sc,rfl,rfl,sa,sc,rfl,hR6⟩
    ·have e9:∃a r,x 9=.tuple #[a,r]/\BlkR wo bd btx bss F (iw 9).1 (iw 9).2 W a r:=hp.post 9 (hd 9 mz0);obtain⟨a,r,e9,-⟩:=e9;have ea:=hide e9;simp only[e9]at HK ⊢;clear e9;go_simp;exact HK.o _ _ bR ⟨ea.out,a,r,rfl⟩
    ·have e10:x 9=x 10/\∃a r,x 10=.tuple #[a,r]:=hp.post 10 (hd 10 mz0);obtain⟨-,a,r,e10⟩:=e10;have ea:Hid (a=fstOf (x 10)):=by rw[e10];rfl
     simp only[e10]at HK ⊢;clear e10;go_simp;exact HK.o _ _ bR ea.out
    ·have e10:x 9=x 10/\∃a r,x 10=.tuple #[a,r]:=hp.post 10 (hd 10 mz0);obtain⟨-,a,r,e10⟩:=e10;have ea:Hid (r=sndOf (x 10)):=by rw[e10];rfl
     simp only[e10]at HK ⊢;clear e10;go_simp;exact HK.o _ _ bR ea.out
    ·exact cQ40
   ·intro x iw W hp;obtain⟨a,r,e9,R9⟩:=hp.post 9 dC;obtain⟨e10,-⟩:=hp.post 10 dC;have e11:x 11=fstOf (x 10):=hp.post 11 dC;have e12:x 12=sndOf (x 10):=hp.post 12 dC;obtain⟨e13,z13,A13⟩:=hp.post 13 dC;have l13:=hp.lo 13 dC;have lc:=hp.lo 9 dC;have bel:=zac hp.bel;have ap:=hp.apart 9 dC 13 dC dC;rw[←e10,e9]at e11;rw[←e10,e9]at e12
    replace e12:x 12=r:=e12
    rw[e9]at e10
    replace e10:=e10.symm
    replace e11:x 11=a:=e11
    have y0:=A13.c0;have f0:=A13.frozen 0;have y1:=A13.c1;have f1:=A13.frozen 1;have y2:=A13.c2;have f2:=A13.frozen 2;obtain⟨sa,sc,rfl,rfl,hR⟩:=R9;have hb13:wo.1.size<=(iw 13).1:=l13.1;have HFI:Hid (AtC W (iw 13).1 95 #[.bool false,.slice none 0 0,.string ⟨#[]⟩]/\RSl wo (.slice sa bss.length sc) bss/\Below wo.1.size wo W/\wo.1.size<=(iw 13).1):=⟨A13,hR,bel,hb13⟩
    clear hp A13 hR bel ap lc l13 z13 hb13;simp only[e10,e11,e13,e12]at*;generalize (iw 13).1=bw at*;go_wp2_with fail
    exact cQ23
   ·intro qa hqa l hl x iw W hp;simp only[List.mem_cons,List.not_mem_nil,or_false]at hqa;subst hqa;simp only[List.mem_cons,List.not_mem_nil,or_false]at hl;obtain⟨a,r,e9,R9⟩:=hp.post 9 dC;obtain⟨e10,-⟩:=hp.post 10 dC;have e11:x 11=fstOf (x 10):=hp.post 11 dC;obtain⟨e13,z13,A13⟩:=hp.post 13 dC;have l13:=hp.lo 13 dC;have lc:=hp.lo 9 dC;have bel:=zac hp.bel;have ap:=hp.apart 9 dC 13 dC dC;rw[←e10,e9]at e11;rw[e9]at e10
    replace e10:=e10.symm
    replace e11:x 11=a:=e11
    have y0:=A13.c0;have f0:=A13.frozen 0;have y1:=A13.c1;have f1:=A13.frozen 1;have y2:=A13.c2;have f2:=A13.frozen 2;obtain⟨sa,sc,rfl,rfl,hR⟩:=R9;have hb13:wo.1.size<=(iw 13).1:=l13.1;have HFI:Hid (AtC W (iw 13).1 95 #[.bool false,.slice none 0 0,.string ⟨#[]⟩]/\RSl wo (.slice sa bss.length sc) bss/\Below wo.1.size wo W/\wo.1.size<=(iw 13).1):=⟨A13,hR,bel,hb13⟩
    clear hp A13 hR bel ap lc l13 z13 hb13;simp only[e10,e11,e13]at*;generalize (iw 13).1=bw at*;rcases hl with rfl|rfl
    ·go_wp2_with fail
     exact cQ23
    ·go_wp2_with fail
     exact cQ23
  case rest =>
   obtain⟨bw,sa,sc,rfl,rfl,Aw,Rw,Bw⟩:=hcut;obtain⟨wi,hwi⟩:∃wi,wi=wc:=⟨_,rfl⟩
   subst hwi;have HN:Hid (∀W,Below wi.1.size wi W->AtC W bw 95 #[.bool bd,.slice sa bss.length sc,.string btx]/\RSl W (.slice sa bss.length sc) bss/\Below wo.1.size wo W):=fun W b=>⟨Aw.over b,Rw.below b nR,Bw.trans (b.mono Bw.size)⟩
   have HB0:Hid (Below wi.1.size wi wi):=Below.refl _ _;have hwl2:IntKind.i64.wrap ((bss.length:Int)-1)=(bss.length:Int)-1:=zg8 _ oM oM;have g1:=Aw.c1;clear Aw Rw Bw CB;go_wp2_with fail
   clear g1;go_loopw [10,11,15] (fun bb ss kk wx=>∃(B s sz:Int),bb=.int .i64 B/\ss=.int .i64 s/\kk=.int .i64 sz/\-1<=sz/\sz<(bss.length:Int)/\Hid (FreeS m.bs ps B s/\Below wi.1.size wi wx)) (fun _ _ kk _=>(intOf kk+1).toNat)
   case atStart=>exact⟨B,s,(bss.length:Int)-1,rfl,rfl,rfl,by omega,by omega,HR.o.1,HB0.o⟩
   case round =>
    obtain⟨B',s',sz,rfl,rfl,rfl,hz1,hz2,HS⟩:=hrel;obtain⟨Aw,Rw,Bw⟩:=HN.o wr HS.o.2;have hwq:IntKind.i64.wrap ((q:Int)-1)=(q:Int)-1:=zg8 _ oM oM;have g0:=Aw.c0;have HX1:Hid (FreeS m.bs ps B' s'/\Below W1.1.size W1 wr):=⟨HS.o.1,(HWR.o wr Bw).2.2⟩
    by_cases hsz:0<=sz
    rotate_left
    ·have e1:sz=-1:=by omega
     subst e1;clear HS HR HWR HKP Aw Rw Bw;go_wp2;go_roundw
     case rel=>exact⟨B',s',(q:Int)-1,rfl,rfl,by first| rfl|go_num,by omega,by omega,HX1.o⟩
     case measure=>simp[intOf]
    obtain⟨t,rfl⟩:∃t:Nat,sz=(t:Int):=⟨sz.toNat,by omega⟩
    have t0:(0:Int)<=(t:Int):=by omega
    cases F with
    | false =>
     exact cQ74
    | true =>
    cases bd with
    | false =>
     exact cQ74
    | true =>
    have ht:t<bss.length:=by omega
    obtain⟨sa',sc',e1,-,hcs⟩:=Rw;simp only[Value.slice.injEq,true_and]at e1;obtain⟨rfl,rfl⟩:=e1;obtain⟨gs,os,rfl,hgs,ks0,ks1⟩:=hcs t ht;have g1:=Aw.c1;obtain⟨⟨sn,si⟩,hsx⟩:∃X,bss[t]=X:=⟨_,rfl⟩
    rw[hsx]at ks0 ks1;simp only at ks0 ks1;have HFR:Hid (si=0->FreeS m.bs ps Pn t):=fun e=>by
     obtain⟨jb,e1,e2,e3⟩:=HSL.o rfl;refine .inr ⟨jb,t,e1,rfl,e2,by omega,HPM.o,sn,?_⟩;rw[e3 t ht,hsx,e]
    have t1:(t:Int)<(bss.length:Int):=by omega
    have HAC:Hid (∀W,Below wr.1.size wr W->Below wi.1.size wi W):=fun W b=>HS.o.2.trans (b.mono HS.o.2.size);have HS1:=hide HS.o.1;have HMW:Hid (∀W,Below wr.1.size wr W->AtC W w.1.size 59 #[.int .i64 kd,.int .i64 ln,.slice (some ⟨gp,op,none⟩) ps.length pc]/\P7 W (fun k=>S k/\k<w.1.size) b m a1 c1 a2 c2 (some ⟨g2,o2,none⟩) c3 a4 c4 a5 c5 a6 c6/\W.cell? ⟨gp,op+q,none⟩=some (.int .i64 Pn)):=fun W bb=>by
     have q2:=Bw.trans (bb.mono Bw.size);have q3:=HWR.o W q2;exact⟨q3.1,q3.2.1,HKP.o W q2⟩
    have HBR:Hid (Below wr.1.size wr wr):=Below.refl _ _;have hdl:m.6.length<=1048576:=Nat.le_trans HM.o.l dC;clear hsx hcs HS HR Aw Bw HWR HKP;go_upto_region 11 with fail
    go_cut [94]from 55 to 100 (fun c wy=>(∃r,c=.bool r/\(r=true->si=0))/\Below wr.1.size wr wy)
    case first =>
     by_cases hsi:si=0
     rotate_left
     ·have hsb:(si==0)=false:=beq_eq_false_iff_ne.mpr hsi;by_cases hsn:sn=⟨#[]⟩
      ·subst hsn;go_quiet(fail)
       exact cQ123
      ·have hsn2:(sn.toList==([]:List UInt8))=false:=zd0 hsn;go_quiet(fail)
       exact cQ123
     subst hsi;by_cases hsn:sn=⟨#[]⟩
     rotate_left
     ·have hsn2:(sn.toList==([]:List UInt8))=false:=zd0 hsn;go_quiet(fail)
      go_wp2_with fail
      go_meet
      exact⟨⟨_,rfl,fun _=>by first| trivial|rfl⟩,below_drewN bR _⟩
     ·subst hsn;have HSS:Hid (∀w',Below wr.1.size wr w'->(w'.cell? ⟨bw,1,none⟩=some (.slice (some ⟨gs,os,none⟩) bss.length sc)/\w'.cell? ⟨gs,os+t*2,none⟩=some (.string ⟨#[]⟩)/\w'.cell? ⟨gs,os+t*2+1,none⟩=some (.int .i64 0)/\w'.cell? ⟨b,0,none⟩=some (.slice a1 m.1.length c1)/\w'.cell? ⟨b,1,none⟩=some (.slice a2 m.2.length c2)/\w'.cell? ⟨b,2,none⟩=some (.slice (some ⟨g2,o2,none⟩) m.3.length c3)/\w'.cell? ⟨b,3,none⟩=some (.slice a4 m.4.length c4)/\w'.cell? ⟨b,4,none⟩=some (.slice a5 m.5.length c5)/\w'.cell? ⟨b,5,none⟩=some (.slice a6 m.6.length c6)/\w'.cell? ⟨b,6,none⟩=some (.int .i64 m.nx)/\w'.cell? ⟨w.1.size,2,none⟩=some (.slice (some ⟨gp,op,none⟩) ps.length pc)/\w'.cell? ⟨gp,op+q,none⟩=some (.int .i64 Pn))):=fun w' bb=>by
       have q3:=HMW.o w' bb;have bx:=q3.2.1.box;exact⟨(bb.cell (p:=⟨bw,1,none⟩) (zm9 g1)).trans g1,(bb.cell (p:=⟨gs,os+t*2,none⟩) (zm9 ks0)).trans ks0,(bb.cell (p:=⟨gs,os+t*2+1,none⟩) (zm9 ks1)).trans ks1,bx.cell 0,bx.cell 1,bx.cell 2,bx.cell 3,bx.cell 4,bx.cell 5,bx.cell 6,q3.1.cell 2,q3.2.2⟩
      go_region_held3 (fun w'=>w'.cell? ⟨bw,1,none⟩=some (.slice (some ⟨gs,os,none⟩) bss.length sc)/\w'.cell? ⟨gs,os+t*2,none⟩=some (.string ⟨#[]⟩)/\w'.cell? ⟨gs,os+t*2+1,none⟩=some (.int .i64 0)/\w'.cell? ⟨b,0,none⟩=some (.slice a1 m.1.length c1)/\w'.cell? ⟨b,1,none⟩=some (.slice a2 m.2.length c2)/\w'.cell? ⟨b,2,none⟩=some (.slice (some ⟨g2,o2,none⟩) m.3.length c3)/\w'.cell? ⟨b,3,none⟩=some (.slice a4 m.4.length c4)/\w'.cell? ⟨b,4,none⟩=some (.slice a5 m.5.length c5)/\w'.cell? ⟨b,5,none⟩=some (.slice a6 m.6.length c6)/\w'.cell? ⟨b,6,none⟩=some (.int .i64 m.nx)/\w'.cell? ⟨w.1.size,2,none⟩=some (.slice (some ⟨gp,op,none⟩) ps.length pc)/\w'.cell? ⟨gp,op+q,none⟩=some (.int .i64 Pn)) (first| exact HSS.o _ bR.drew|exact HSS.o _ (zac B2)) ((go_at_call 12;refine(zfo Pn t _ _ _ _ _ _ m _ (HMW.o _ (zac bR)).2.1.mr hdl).mono ?_;rintro e w2 ⟨⟨kk,rfl⟩,B2⟩))
      have HB2:=hide B2;clear B2 HSS;go_wp2_with fail
      go_meet
      exact⟨⟨_,rfl,fun _=>by first| trivial|rfl⟩,zac HB2.o⟩
    case rest =>
     obtain⟨⟨r,rfl,hr⟩,hb2⟩:=hcut;have HXB:Hid (Below wi.1.size wi wc):=HAC.o _ hb2;have HMC:=HMW.o wc hb2;have z2:=HMC.1.c2;have z3:wc.cell? ⟨gp,op+q,none⟩=some (.int .i64 Pn):=HMC.2.2;have hwt:IntKind.i64.wrap ((t:Int)-1)=(t:Int)-1:=zg8 _ oM oM;clear HMC hb2 g0 g1 ks0 ks1 HMW HAC HBR
     cases r with
     | false =>
      go_wp2;go_roundw
      case rel=>exact⟨B',s',(t:Int)-1,rfl,rfl,by first| rfl|go_num,by omega,by omega,HS1.o,HXB.o⟩
      case measure=>simp[intOf]
     | true =>
      have HF2:Hid (FreeS m.bs ps Pn t):=HFR.o (hr rfl);clear hr;go_wp2;go_roundw
      case rel=>exact⟨Pn,t,(t:Int)-1,rfl,rfl,by first| rfl|go_num,by omega,by omega,HF2.o,HXB.o⟩
      case measure=>simp[intOf]
variable {Z : ZT}
theorem zij(u v iv bv dv pv:Value)(m:MD)(i:Int)(nx:ByteArray)(w:World)(h:MR w u v iv bv dv pv m)(hm:Sh Z m)(hi1:1<=i)(hi8:i<=8):
  Calls Tryz.prog 194 #[.agg #[u,v,iv,bv,dv,pv,.int .i64 m.nx],.int .i64 i,.string nx] w fun e w'=>AnyB e/\Below w.1.size w w':=by
 obtain⟨a1,c1,a2,c2,a3,c3,a4,c4,a5,c5,a6,c6,rfl,rfl,rfl,rfl,rfl,rfl⟩:=h.form;have HH:=hide h;have HM:=hide hm;have hdl:m.6.length<=40:=hm.l;obtain⟨j,rfl⟩:∃j:Nat,i=(j:Int)+1:=⟨(i-1).toNat,by omega⟩
 have hwj:IntKind.i64.wrap (j:Int)=(j:Int):=wrap_small _ oM oM;have hj:j<m.3.length:=by rw[hm.i];omega
 obtain⟨qa,qc,qe,-,qh⟩:=h.d.i;simp only[Value.slice.injEq,true_and]at qe;obtain⟨rfl,rfl⟩:=qe;obtain⟨g2,o2,⟨t0,t1,t2⟩,rfl,hg2,-,-,r2,-,-,rr⟩:=qh j hj;simp only at r2 rr;obtain⟨sa,sc,rfl⟩:=rr.form;have hio:=(hm.ii _ (List.getElem_mem hj)).n;obtain⟨ps,hps⟩:∃ps,m.is[j].2.2=ps:=⟨_,rfl⟩
 rw[hps]at r2 rr hio;have HRR:=hide rr;have hpl:ps.length<=2:=Nat.le_of_eq hio;have hbn:∀d∈m.ds,d.bl.length<=2:=fun d hd=>(hm.dd d hd).bn;have HG2:Hid (g2<w.1.size/\w.cell? ⟨g2,o2+j*3+2,none⟩=some (.slice sa ps.length sc)):=⟨hg2,r2⟩
 have j0:(0:Int)<=(j:Int):=by omega
 have j1:(j:Int)<(m.3.length:Int):=by omega
 obtain⟨a,c,ei,-,hc⟩:=h.p.dep;simp only[Value.slice.injEq,true_and]at ei;obtain⟨rfl,rfl⟩:=ei;have HC:=hide hc;have HW:Hid (∀W,Below (w.alloc (.cells (M7 m a1 c1 a2 c2 (some ⟨g2,o2,none⟩) c3 a4 c4 a5 c5 a6 c6) 33)).1.size (w.alloc (.cells (M7 m a1 c1 a2 c2 (some ⟨g2,o2,none⟩) c3 a4 c4 a5 c5 a6 c6) 33)) W->Below w.1.size w W/\AtC W w.1.size 33 (M7 m a1 c1 a2 c2 (some ⟨g2,o2,none⟩) c3 a4 c4 a5 c5 a6 c6)):=fun W bb=>⟨((Below.refl _ w).alloc nR _).trans (bb.mono sI),(AtC.new w 33 _).over bb⟩
 clear h hm qh hc rr hio hps r2 hg2 hbn;go_enter Tryz.func194,Tryz.ntmps194
 go_wp2_with fail
 generalize hW0:(w.alloc (.cells (M7 m a1 c1 a2 c2 (some ⟨g2,o2,none⟩) c3 a4 c4 a5 c5 a6 c6) 33))=W0 at*;clear hW0;go_loopw [7] (fun i' wr=>∃q:Nat,q<=m.6.length/\i'=.int .i64 q/\Hid (Below W0.1.size W0 wr)) (fun i' _=>m.6.length-(intOf i').toNat)
 case atStart=>exact⟨0,Nat.zero_le _,rfl,Below.refl _ _⟩
 case round =>
  obtain⟨q,hq,rfl,HR⟩:=hrel;obtain⟨hbw,hmb⟩:=HW.o wr HR.o;have x5:=hmb.c5;by_cases hlt:q<m.6.length
  ·obtain⟨g6,o6,p,rfl,hg6,nn,hp⟩:=HC.o q hlt;obtain⟨X,hX⟩:∃X,m.ds[q]=X:=⟨_,rfl⟩
   rw[hX]at nn hp;obtain⟨id,kk,io,pt,bk,sl,nm,bt,ot,af,bl⟩:=X;simp only at hp;obtain⟨pa,pc,rfl,-⟩:=hp;simp only[DCells]at nn;obtain⟨m0,m1,m2,m3,m4,m5,m6,m7,m8,m9,m10⟩:=nn;have k0:wr.cell? ⟨g6,o6+q*11,none⟩=some (.int .i64 id):=(hbw.cell (p:=⟨g6,o6+q*11,none⟩) hg6).trans m0;have k1:wr.cell? ⟨g6,o6+q*11+1,none⟩=some (.int .i64 kk):=(hbw.cell (p:=⟨g6,o6+q*11+1,none⟩) hg6).trans m1;have k2:wr.cell? ⟨g6,o6+q*11+2,none⟩=some (.int .i64 io):=(hbw.cell (p:=⟨g6,o6+q*11+2,none⟩) hg6).trans m2;have k3:wr.cell? ⟨g6,o6+q*11+3,none⟩=some (.int .i64 pt):=(hbw.cell (p:=⟨g6,o6+q*11+3,none⟩) hg6).trans m3;have k4:wr.cell? ⟨g6,o6+q*11+4,none⟩=some (.int .i64 bk):=(hbw.cell (p:=⟨g6,o6+q*11+4,none⟩) hg6).trans m4;have k5:wr.cell? ⟨g6,o6+q*11+5,none⟩=some (.int .i64 sl):=(hbw.cell (p:=⟨g6,o6+q*11+5,none⟩) hg6).trans m5;have k6:wr.cell? ⟨g6,o6+q*11+6,none⟩=some (.string nm):=(hbw.cell (p:=⟨g6,o6+q*11+6,none⟩) hg6).trans m6;have k7:wr.cell? ⟨g6,o6+q*11+7,none⟩=some (.bool bt):=(hbw.cell (p:=⟨g6,o6+q*11+7,none⟩) hg6).trans m7;have k8:wr.cell? ⟨g6,o6+q*11+8,none⟩=some (.bool ot):=(hbw.cell (p:=⟨g6,o6+q*11+8,none⟩) hg6).trans m8;have k9:wr.cell? ⟨g6,o6+q*11+9,none⟩=some (.int .i64 af):=(hbw.cell (p:=⟨g6,o6+q*11+9,none⟩) hg6).trans m9;have k10:wr.cell? ⟨g6,o6+q*11+10,none⟩=some (.slice pa bl.length pc):=(hbw.cell (p:=⟨g6,o6+q*11+10,none⟩) hg6).trans m10;have q0:(0:Int)<=(q:Int):=by omega
   have q1:(q:Int)<(m.6.length:Int):=by omega
   have b1:Below wr.1.size wr (wr.alloc (.cells (K7 id kk io pt bk sl nm bt ot af pa bl.length pc) 42)):=(Below.refl _ wr).alloc nR _;have HA:Hid (Below W0.1.size W0 (wr.alloc (.cells (K7 id kk io pt bk sl nm bt ot af pa bl.length pc) 42))/\AtC (wr.alloc (.cells (K7 id kk io pt bk sl nm bt ot af pa bl.length pc) 42)) wr.1.size 42 (K7 id kk io pt bk sl nm bt ot af pa bl.length pc)):=⟨HR.o.trans (b1.mono HR.o.size),AtC.new wr 42 _⟩
   clear m0 m1 m2 m3 m4 m5 m6 m7 m8 m9 m10 hX hbw hmb b1;go_upto_region 5 with fail
   generalize hbd:wr.1.size=bd at*;clear hbd HR k0 k1 k2 k3 k4 k5 k6 k7 k8 k9 k10 x5;generalize wr.alloc (.cells (K7 id kk io pt bk sl nm bt ot af pa bl.length pc) 42)=wA at*;obtain⟨hbw,hmb⟩:=HW.o wA HA.o.1;have x2:=hmb.c2;have d1:=HA.o.2.c1;have d4:=HA.o.2.c4;have d6:=HA.o.2.c6;have d9:=HA.o.2.c9;have y2:wA.cell? ⟨g2,o2+j*3+2,none⟩=some (.slice sa ps.length sc):=(hbw.cell (p:=⟨g2,o2+j*3+2,none⟩) HG2.o.1).trans HG2.o.2;have CH:Hid (∀W,wA.1=W.heap->Below w.1.size w W->Calls Tryz.prog 217 #[.slice sa ps.length sc,.int .i64 bk] W fun e w'=>(∃r:Bool,e=.returned (.bool r))/\w'=W):=fun W _ bb=>(ze6 _ ps bk W (HRR.o.below bb nR) oM).mono fun e w' ⟨h1,h2⟩=>⟨⟨_,h1⟩,h2⟩
   have HBW:=hide hbw;clear hbw hmb;go_cut [47]from 9 to 47 (fun c wx=>(∃r,c=.bool r)/\Below wA.1.size wA wx)
   case first =>
    by_cases hk:kk=4
    ·subst hk;by_cases ha:0<af
     ·have had:decide (0<af)=true:=decide_eq_true ha;by_cases hs:nm=nx
      ·subst hs;go_quiet((go_at_call 217;exact Calls.quiet_of_same (ze6 _ ps bk _ (HRR.o.below (below_drewN HBW.o _) nR) oM)))
       exact cQ51
      ·have hsb:(nm.toList==nx.toList)=false:=zbh hs;go_quiet(fail)
       exact cQ51
     ·have had:decide (0<af)=false:=decide_eq_false ha;go_quiet(fail)
      exact cQ51
    ·have hkb:(kk==4)=false:=by simp[hk]
     go_quiet(fail)
     exact cQ51
   case rest =>
    exact cQ47
  ·exact cQ135
theorem held_any(u v iv bv dv pv:Value)(m:MD)(i:Int)(w:World)(h:MR w u v iv bv dv pv m)(hm:Sh Z m)(hi1:1<=i)(hi8:i<=8):
  Calls Tryz.prog 205 #[.agg #[u,v,iv,bv,dv,pv,.int .i64 m.nx],.int .i64 i] w fun e w'=>AnyB e/\Below w.1.size w w':=by
 obtain⟨a1,c1,a2,c2,a3,c3,a4,c4,a5,c5,a6,c6,rfl,rfl,rfl,rfl,rfl,rfl⟩:=h.form;have HH:=hide h;have HM:=hide hm;have hdl:m.6.length<=40:=hm.l;obtain⟨j,rfl⟩:∃j:Nat,i=(j:Int)+1:=⟨(i-1).toNat,by omega⟩
 have hwj:IntKind.i64.wrap (j:Int)=(j:Int):=wrap_small _ oM oM;have hj:j<m.3.length:=by rw[hm.i];omega
 obtain⟨qa,qc,qe,-,qh⟩:=h.d.i;simp only[Value.slice.injEq,true_and]at qe;obtain⟨rfl,rfl⟩:=qe;obtain⟨g2,o2,⟨t0,t1,t2⟩,rfl,hg2,-,-,r2,-,-,rr⟩:=qh j hj;simp only at r2 rr;obtain⟨sa,sc,rfl⟩:=rr.form;have hio:=(hm.ii _ (List.getElem_mem hj)).n;obtain⟨ps,hps⟩:∃ps,m.is[j].2.2=ps:=⟨_,rfl⟩
 rw[hps]at r2 rr hio;have HRR:=hide rr;have hpl:ps.length<=2:=Nat.le_of_eq hio;have hbn:∀d∈m.ds,d.bl.length<=2:=fun d hd=>(hm.dd d hd).bn;have HG2:Hid (g2<w.1.size/\w.cell? ⟨g2,o2+j*3+2,none⟩=some (.slice sa ps.length sc)):=⟨hg2,r2⟩
 have j0:(0:Int)<=(j:Int):=by omega
 have j1:(j:Int)<(m.3.length:Int):=by omega
 obtain⟨a,c,ei,-,hc⟩:=h.p.dep;simp only[Value.slice.injEq,true_and]at ei;obtain⟨rfl,rfl⟩:=ei;have HC:=hide hc;have HW:Hid (∀W,Below (w.alloc (.cells (M7 m a1 c1 a2 c2 (some ⟨g2,o2,none⟩) c3 a4 c4 a5 c5 a6 c6) 33)).1.size (w.alloc (.cells (M7 m a1 c1 a2 c2 (some ⟨g2,o2,none⟩) c3 a4 c4 a5 c5 a6 c6) 33)) W->Below w.1.size w W/\AtC W w.1.size 33 (M7 m a1 c1 a2 c2 (some ⟨g2,o2,none⟩) c3 a4 c4 a5 c5 a6 c6)):=fun W bb=>⟨((Below.refl _ w).alloc nR _).trans (bb.mono sI),(AtC.new w 33 _).over bb⟩
 clear h hm qh hc rr hio hps r2 hg2 hbn;go_enter Tryz.func205,Tryz.ntmps205
 go_wp2_with fail
 generalize hW0:(w.alloc (.cells (M7 m a1 c1 a2 c2 (some ⟨g2,o2,none⟩) c3 a4 c4 a5 c5 a6 c6) 33))=W0 at*;clear hW0;go_loopw [5] (fun i' wr=>∃q:Nat,q<=m.6.length/\i'=.int .i64 q/\Hid (Below W0.1.size W0 wr)) (fun i' _=>m.6.length-(intOf i').toNat)
 case atStart=>exact⟨0,Nat.zero_le _,rfl,Below.refl _ _⟩
 case round =>
  obtain⟨q,hq,rfl,HR⟩:=hrel;obtain⟨hbw,hmb⟩:=HW.o wr HR.o;have x5:=hmb.c5;by_cases hlt:q<m.6.length
  ·obtain⟨g6,o6,p,rfl,hg6,nn,hp⟩:=HC.o q hlt;obtain⟨X,hX⟩:∃X,m.ds[q]=X:=⟨_,rfl⟩
   rw[hX]at nn hp;obtain⟨id,kk,io,pt,bk,sl,nm,bt,ot,af,bl⟩:=X;simp only at hp;obtain⟨pa,pc,rfl,-⟩:=hp;simp only[DCells]at nn;obtain⟨m0,m1,m2,m3,m4,m5,m6,m7,m8,m9,m10⟩:=nn;have k0:wr.cell? ⟨g6,o6+q*11,none⟩=some (.int .i64 id):=(hbw.cell (p:=⟨g6,o6+q*11,none⟩) hg6).trans m0;have k1:wr.cell? ⟨g6,o6+q*11+1,none⟩=some (.int .i64 kk):=(hbw.cell (p:=⟨g6,o6+q*11+1,none⟩) hg6).trans m1;have k2:wr.cell? ⟨g6,o6+q*11+2,none⟩=some (.int .i64 io):=(hbw.cell (p:=⟨g6,o6+q*11+2,none⟩) hg6).trans m2;have k3:wr.cell? ⟨g6,o6+q*11+3,none⟩=some (.int .i64 pt):=(hbw.cell (p:=⟨g6,o6+q*11+3,none⟩) hg6).trans m3;have k4:wr.cell? ⟨g6,o6+q*11+4,none⟩=some (.int .i64 bk):=(hbw.cell (p:=⟨g6,o6+q*11+4,none⟩) hg6).trans m4;have k5:wr.cell? ⟨g6,o6+q*11+5,none⟩=some (.int .i64 sl):=(hbw.cell (p:=⟨g6,o6+q*11+5,none⟩) hg6).trans m5;have k6:wr.cell? ⟨g6,o6+q*11+6,none⟩=some (.string nm):=(hbw.cell (p:=⟨g6,o6+q*11+6,none⟩) hg6).trans m6;have k7:wr.cell? ⟨g6,o6+q*11+7,none⟩=some (.bool bt):=(hbw.cell (p:=⟨g6,o6+q*11+7,none⟩) hg6).trans m7;have k8:wr.cell? ⟨g6,o6+q*11+8,none⟩=some (.bool ot):=(hbw.cell (p:=⟨g6,o6+q*11+8,none⟩) hg6).trans m8;have k9:wr.cell? ⟨g6,o6+q*11+9,none⟩=some (.int .i64 af):=(hbw.cell (p:=⟨g6,o6+q*11+9,none⟩) hg6).trans m9;have k10:wr.cell? ⟨g6,o6+q*11+10,none⟩=some (.slice pa bl.length pc):=(hbw.cell (p:=⟨g6,o6+q*11+10,none⟩) hg6).trans m10;have q0:(0:Int)<=(q:Int):=by omega
   have q1:(q:Int)<(m.6.length:Int):=by omega
   have b1:Below wr.1.size wr (wr.alloc (.cells (K7 id kk io pt bk sl nm bt ot af pa bl.length pc) 42)):=(Below.refl _ wr).alloc nR _;have HA:Hid (Below W0.1.size W0 (wr.alloc (.cells (K7 id kk io pt bk sl nm bt ot af pa bl.length pc) 42))/\AtC (wr.alloc (.cells (K7 id kk io pt bk sl nm bt ot af pa bl.length pc) 42)) wr.1.size 42 (K7 id kk io pt bk sl nm bt ot af pa bl.length pc)):=⟨HR.o.trans (b1.mono HR.o.size),AtC.new wr 42 _⟩
   clear m0 m1 m2 m3 m4 m5 m6 m7 m8 m9 m10 hX hbw hmb b1;go_upto_region 5 with fail
   generalize hbd:wr.1.size=bd at*;clear hbd HR k0 k1 k2 k3 k4 k5 k6 k7 k8 k9 k10 x5;generalize wr.alloc (.cells (K7 id kk io pt bk sl nm bt ot af pa bl.length pc) 42)=wA at*;obtain⟨hbw,hmb⟩:=HW.o wA HA.o.1;have x2:=hmb.c2;have d1:=HA.o.2.c1;have d4:=HA.o.2.c4;have d6:=HA.o.2.c6;have d9:=HA.o.2.c9;have y2:wA.cell? ⟨g2,o2+j*3+2,none⟩=some (.slice sa ps.length sc):=(hbw.cell (p:=⟨g2,o2+j*3+2,none⟩) HG2.o.1).trans HG2.o.2;have CH:Hid (∀W,wA.1=W.heap->Below w.1.size w W->Calls Tryz.prog 217 #[.slice sa ps.length sc,.int .i64 bk] W fun e w'=>(∃r:Bool,e=.returned (.bool r))/\w'=W):=fun W _ bb=>(ze6 _ ps bk W (HRR.o.below bb nR) oM).mono fun e w' ⟨h1,h2⟩=>⟨⟨_,h1⟩,h2⟩
   have HBW:=hide hbw;clear hbw hmb;go_cut [39]from 7 to 39 (fun c wx=>(∃r,c=.bool r)/\Below wA.1.size wA wx)
   case first =>
    by_cases hk:kk=4
    ·subst hk;by_cases ha:0<af
     ·have had:decide (0<af)=true:=decide_eq_true ha;go_quiet((go_at_call 217;exact Calls.quiet_of_same (ze6 _ ps bk _ (HRR.o.below (below_drewN HBW.o _) nR) oM)))
      exact cQ51
     ·have had:decide (0<af)=false:=decide_eq_false ha;go_quiet(fail)
      exact cQ51
    ·have hkb:(kk==4)=false:=by simp[hk]
     go_quiet(fail)
     exact cQ51
   case rest =>
    exact cQ47
  ·exact cQ135
theorem zik{m:MD}(h:ff m.ys≠0):takeI m={ m with ys:=m.ys.set (ff m.ys-1) true,fs:=m.fs.set 0 true }:=by unfold takeI;rw[if_neg h]
theorem zep(u v iv bv dv pv:Value)(m:MD)(p:ByteArray)(kind:Int)(w:World)(h:MR w u v iv bv dv pv m)(hm:Sh Z0 m)(hp:p.size<=1048576):
  Calls Tryz.prog 168 #[.agg #[u,v,iv,bv,dv,pv,.int .i64 m.nx],.string p,.int .i64 kind] w fun e w'=>CallR w.1.size w' e/\Below w.1.size w w':=by
 obtain⟨a1,c1,a2,c2,a3,c3,a4,c4,a5,c5,a6,c6,rfl,rfl,rfl,rfl,rfl,rfl⟩:=h.form;obtain⟨qa,qc,qe,-,qh⟩:=h.d.i;simp only[Value.slice.injEq,true_and]at qe;obtain⟨rfl,rfl⟩:=qe;obtain⟨g2,o2,⟨q0,q1,q2⟩,rfl,-⟩:=qh 0 (by rw[hm.i];decide);have HIN:Hid (∀(W:World)(j:Nat)(hj:j<m.3.length),Below w.1.size w W->∃ta tc,W.cell? ⟨g2,o2+j*3,none⟩=some (.int .i64 m.is[j].1)/\W.cell? ⟨g2,o2+j*3+1,none⟩=some (.int .i64 m.is[j].2.1)/\W.cell? ⟨g2,o2+j*3+2,none⟩=some (.slice ta m.is[j].2.2.length tc)/\RInts W (.slice ta m.is[j].2.2.length tc) m.is[j].2.2):=fun W j hj hb=>by
  exact cQ15
 clear qh q0 q1 q2;obtain⟨W0,hW0⟩:∃W0,((w.alloc (.cells (M7 m a1 c1 a2 c2 (some ⟨g2,o2,none⟩) c3 a4 c4 a5 c5 a6 c6) 33)).alloc (.cells E7 33))=W0:=⟨_,rfl⟩
 have HB0:Hid (Below w.1.size w W0/\W0.1.size=w.1.size+1+1/\AtC W0 w.1.size 33 (M7 m a1 c1 a2 c2 (some ⟨g2,o2,none⟩) c3 a4 c4 a5 c5 a6 c6)/\AtC W0 (w.1.size+1) 33 E7):=by
  exact cQ12
 have HH:=hide h;have HM:=hide hm;obtain⟨x0,x1,x2,x3,x4,x5,x6⟩:=AtC.sev HB0.o.2.2.1;have HM0:Hid (R7 W0 m a1 c1 a2 c2 (some ⟨g2,o2,none⟩) c3 a4 c4 a5 c5 a6 c6):=HH.o.below HB0.o.1 nR;clear h hm;go_enter Tryz.func168,Tryz.ntmps168
 go_wp2_with fail
 refine(zax _ _ _ _ _ _ m W0 HM0.o HM.o.big).mono ?_;rintro e w1 ⟨u1,u2,u3,u4,u5,u6,rfl,O1,B1⟩;obtain⟨s1,t1,s2,t2,s3,t3,s4,t4,s5,t5,s6,t6,rfl,rfl,rfl,rfl,rfl,rfl⟩:=O1.mr.form;obtain⟨W2,hW2⟩:∃W2,w1.alloc (.cells (M7 m s1 t1 s2 t2 s3 t3 s4 t4 s5 t5 s6 t6) 33)=W2:=⟨_,rfl⟩
 obtain⟨b2,hb2⟩:∃b2,w1.1.size=b2:=⟨_,rfl⟩
 have HC:Hid (∀W,Below W2.1.size W2 W->AtC W w.1.size 33 (M7 m a1 c1 a2 c2 (some ⟨g2,o2,none⟩) c3 a4 c4 a5 c5 a6 c6)/\AtC W (w.1.size+1) 33 E7/\AtC W b2 33 (M7 m s1 t1 s2 t2 s3 t3 s4 t4 s5 t5 s6 t6)/\N7 W (fun k=>w.1.size+1+1<=k/\k<b2) m s1 t1 s2 t2 s3 t3 s4 t4 s5 t5 s6 t6/\Below w.1.size w W/\w.1.size+1+1<=b2/\b2<W.1.size):=fun W b=>by
  exact cQ11
 have HB2:Hid (Below W2.1.size W2 W2):=Below.refl _ _;clear O1 B1 HM0 x0 x1 x2 x3 x4 x5 x6 hW0 HB0;go_wp2_with fail
 refine(zdc p W2 hp).mono ?_;rintro e w3 ⟨⟨dn,nm,q1,rfl,hdn,hnm,hsp⟩,B3⟩;have HSP:=hide hsp;clear hsp;have HB3:Hid (Below W2.1.size W2 w3):=B3;clear B3 hW2 hb2;have hdn2:dn.size<=1048576:=by omega
 obtain⟨x0,x1,x2,x3,x4,x5,x6⟩:=AtC.sev ((HC.o w3 HB3.o).1);have HM3:Hid (R7 w3 m a1 c1 a2 c2 (some ⟨g2,o2,none⟩) c3 a4 c4 a5 c5 a6 c6):=HH.o.below (HC.o w3 HB3.o).2.2.2.2.1 nR;go_upto_region 3 with fail
 go_cut [37]from 17 to 37 (fun c wx=>(∃r,c=.bool r/\(r=false->q1=true/\(kind=1\/kind=2)))/\Below W2.1.size W2 wx)
 case first =>
  go_wp2_with fail
  refine(zb4 _ _ _ _ _ _ m w3 HM3.o HM.o).mono ?_;rintro e w4 ⟨⟨q2,rfl⟩,B4⟩;have HB4:Hid (Below W2.1.size W2 w4):=HB3.o.trans (B4.mono HB3.o.size);clear B4 HM3 HB3 x0 x1 x2 x3 x4 x5 x6
  cases q2 with
  | false =>
   exact cQ125
  | true =>
  cases q1 with
  | false =>
   exact cQ125
  | true =>
  by_cases hk1:kind=1
  ·subst hk1;go_wp2_with fail
   go_meet
   exact⟨⟨_,rfl,fun _=>⟨trivial,.inl trivial⟩⟩,HB4.o⟩
  ·have hk1b:(kind != 1)=true:=by simp[hk1]
   go_wp2_with fail
   go_meet
   exact⟨⟨_,rfl,fun e=>⟨by first| rfl|trivial,.inr (by simpa using e)⟩⟩,HB4.o⟩
 case rest =>
  obtain⟨⟨r,rfl,hrq⟩,hb4⟩:=hcut;have HRQ:=hide hrq;clear hrq;obtain⟨w4,hw4⟩:∃w4,w4=wc:=⟨_,rfl⟩
  subst hw4;have HB4:=hide hb4;clear hb4 HM3 HB3 x0 x1 x2 x3 x4 x5 x6
  cases r with
  | true =>
   exact cQ1
  | false =>
  obtain⟨x0,x1,x2,x3,x4,x5,x6⟩:=AtC.sev ((HC.o w4 HB4.o).1);have HD4:Hid (DR w4 (.slice a1 m.1.length c1) (.slice a2 m.2.length c2) (.slice (some ⟨g2,o2,none⟩) m.3.length c3) (.slice a4 m.4.length c4) m.xs m.ys m.is m.bs):=(HH.o.below (HC.o w4 HB4.o).2.2.2.2.1 nR).d;go_wp2_with fail
  refine(zcm _ _ _ _ m.xs m.ys m.is m.bs p w4 HD4.o HM.o.big.d HM.o.i hp).mono ?_;rintro e w5 ⟨⟨i,rfl,-,-,hw1⟩,B5⟩;have HSQ:=hide (HSP.o (HRQ.o trivial).1);have HKQ:=hide (HRQ.o trivial).2;have HW1:=hide hw1;clear hw1 HSP HRQ;have HB5:Hid (Below W2.1.size W2 w5):=HB4.o.trans (B5.mono HB4.o.size);clear B5 HD4 HB4 x0 x1 x2 x3 x4 x5 x6;by_cases hiz:i=0
  rotate_left
  ·have hib:(i != 0)=true:=by simp[hiz]
   obtain⟨y0,y1,y2,y3,y4,y5,y6⟩:=AtC.sev ((HC.o w5 HB5.o).2.2.1);obtain⟨r0,r1,r2,r3,r4,r5,r6⟩:=AtC.sev ((HC.o w5 HB5.o).2.1);have v0:=(HC.o w5 HB5.o).2.1.frozen 0;have v1:=(HC.o w5 HB5.o).2.1.frozen 1;have v2:=(HC.o w5 HB5.o).2.1.frozen 2;have v3:=(HC.o w5 HB5.o).2.1.frozen 3;have v4:=(HC.o w5 HB5.o).2.1.frozen 4;have v5:=(HC.o w5 HB5.o).2.1.frozen 5;have v6:=(HC.o w5 HB5.o).2.1.frozen 6;have HFF:=hide (HC.o w5 HB5.o);go_wp2;refine bodyPost_ret (v:=.tuple #[.agg (M7 m s1 t1 s2 t2 s3 t3 s4 t4 s5 t5 s6 t6),.int .i64 2]) sR7 rfl ⟨⟨_,_,_,_,_,_,m,_,rfl,(HFF.o.2.2.2.1.of_heap fun k hk _=>zaa _ _ _ _ _ _ _ _ _ k oF).mono (fun k hk=>by have:w.1.size+1+1<=k/\k<b2:=hk;omega),HM.o⟩,zab HFF.o.2.2.2.2.1 oM _ _ _ _ _ _ _⟩
  subst hiz;obtain⟨x0,x1,x2,x3,x4,x5,x6⟩:=AtC.sev ((HC.o w5 HB5.o).1);have HD5:Hid (DR w5 (.slice a1 m.1.length c1) (.slice a2 m.2.length c2) (.slice (some ⟨g2,o2,none⟩) m.3.length c3) (.slice a4 m.4.length c4) m.xs m.ys m.is m.bs):=(HH.o.below (HC.o w5 HB5.o).2.2.2.2.1 nR).d;go_wp2_with fail
  refine(zcm _ _ _ _ m.xs m.ys m.is m.bs dn w5 HD5.o HM.o.big.d HM.o.i hdn2).mono ?_;rintro e w6 ⟨⟨i,rfl,hi0,hi8,hw2⟩,B6⟩;have HW2:=hide hw2;clear hw2;have HB6:Hid (Below W2.1.size W2 w6):=HB5.o.trans (B6.mono HB5.o.size);clear B6 HD5 HB5 x0 x1 x2 x3 x4 x5 x6;by_cases hiz:i=0
  ·exact cQ19
  have hib:(i==0)=false:=beq_eq_false_iff_ne.mpr hiz;obtain⟨j,rfl⟩:∃j:Nat,i=(j:Int)+1:=⟨(i-1).toNat,by omega⟩
  have hj8:j<8:=by omega
  have hj:j<m.3.length:=by rw[HM.o.i];exact hj8
  have hwj:IntKind.i64.wrap (j:Int)=(j:Int):=wrap_small _ oM oM;have j0:(0:Int)<=(j:Int):=by omega
  have j1:(j:Int)<(m.3.length:Int):=by omega
  obtain⟨pa,pc,i0,-,-,-⟩:=HIN.o w6 j hj (HC.o w6 HB6.o).2.2.2.2.1;obtain⟨kd,hkd⟩:∃kd,m.is[j].1=kd:=⟨_,rfl⟩
  rw[hkd]at i0;have HKD:=hide hkd;clear hkd;obtain⟨x0,x1,x2,x3,x4,x5,x6⟩:=AtC.sev ((HC.o w6 HB6.o).1);by_cases hkd:kd=2
  rotate_left
  ·have hkb:(kd != 2)=true:=by simp[hkd]
   obtain⟨y0,y1,y2,y3,y4,y5,y6⟩:=AtC.sev ((HC.o w6 HB6.o).2.2.1);obtain⟨r0,r1,r2,r3,r4,r5,r6⟩:=AtC.sev ((HC.o w6 HB6.o).2.1);have v0:=(HC.o w6 HB6.o).2.1.frozen 0;have v1:=(HC.o w6 HB6.o).2.1.frozen 1;have v2:=(HC.o w6 HB6.o).2.1.frozen 2;have v3:=(HC.o w6 HB6.o).2.1.frozen 3;have v4:=(HC.o w6 HB6.o).2.1.frozen 4;have v5:=(HC.o w6 HB6.o).2.1.frozen 5;have v6:=(HC.o w6 HB6.o).2.1.frozen 6;have HFF:=hide (HC.o w6 HB6.o);go_wp2;refine bodyPost_ret (v:=.tuple #[.agg (M7 m s1 t1 s2 t2 s3 t3 s4 t4 s5 t5 s6 t6),.int .i64 3]) sR7 rfl ⟨⟨_,_,_,_,_,_,m,_,rfl,(HFF.o.2.2.2.1.of_heap fun k hk _=>zaa _ _ _ _ _ _ _ _ _ k oF).mono (fun k hk=>by have:w.1.size+1+1<=k/\k<b2:=hk;omega),HM.o⟩,zab HFF.o.2.2.2.2.1 oM _ _ _ _ _ _ _⟩
  subst hkd;have HAB:Hid (Abs j nm m.is m.bs):=by
   obtain⟨-,l,q1,q2⟩:=HSQ.o;exact zfp HM.o (HW2.o l q2).symm (HW1.o _ q1).symm hj HKD.o
  clear HW1 HW2;have HM6:Hid (R7 w6 m a1 c1 a2 c2 (some ⟨g2,o2,none⟩) c3 a4 c4 a5 c5 a6 c6):=HH.o.below (HC.o w6 HB6.o).2.2.2.2.1 nR;go_wp2_with fail
  refine(zij _ _ _ _ _ _ m ((j:Int)+1) nm w6 HM6.o HM.o oM oM).mono ?_;rintro e w7 ⟨⟨r,rfl⟩,B7⟩;have HB7:Hid (Below W2.1.size W2 w7):=HB6.o.trans (B7.mono HB6.o.size);clear B7 HM6 HB6 x0 x1 x2 x3 x4 x5 x6 i0
  cases r with
  | true =>
   exact cQ3
  | false =>
  obtain⟨x0,x1,x2,x3,x4,x5,x6⟩:=AtC.sev ((HC.o w7 HB7.o).1);have HM7:Hid (R7 w7 m a1 c1 a2 c2 (some ⟨g2,o2,none⟩) c3 a4 c4 a5 c5 a6 c6):=HH.o.below (HC.o w7 HB7.o).2.2.2.2.1 nR;by_cases hf:ff m.ys=0
  ·have CT:Hid (Calls Tryz.prog 195 #[.agg (M7 m a1 c1 a2 c2 (some ⟨g2,o2,none⟩) c3 a4 c4 a5 c5 a6 c6)] w7 fun e w'=>∃(z1:Option Addr)(l1 y1:Nat)(z2:Option Addr)(l2 y2:Nat)(z3:Option Addr)(l3 y3:Nat)(z4:Option Addr)(l4 y4:Nat)(z5:Option Addr)(l5 y5:Nat)(z6:Option Addr)(l6 y6:Nat),e=.returned (.tuple #[.agg #[.slice z1 l1 y1,.slice z2 l2 y2,.slice z3 l3 y3,.slice z4 l4 y4,.slice z5 l5 y5,.slice z6 l6 y6,.int .i64 m.nx],.int .i64 0])/\Below w7.1.size w7 w'):=by
    refine(zf3 _ _ _ _ _ _ m w7 HM7.o HM.o.big).mono ?_;rintro e w' ⟨v1,v2,v3,v4,v5,v6,rfl,O8,B8⟩;obtain⟨z1,y1,z2,y2,z3,y3,z4,y4,z5,y5,z6,y6,rfl,rfl,rfl,rfl,rfl,rfl⟩:=O8.mr.form;rw[hf];exact⟨z1,_,y1,z2,_,y2,z3,_,y3,z4,_,y4,z5,_,y5,z6,_,y6,rfl,B8⟩
   exact cQ9
  obtain⟨p1,p2⟩:=zie m.ys hf;obtain⟨qn,hqn⟩:∃qn:Nat,ff m.ys=qn+1:=⟨ff m.ys-1,by omega⟩
  have hq8:qn<8:=by have:=HM.o.y;omega
  have hz:((ff m.ys:Nat):Int)=(qn:Int)+1:=by omega
  have CT:Hid (Calls Tryz.prog 195 #[.agg (M7 m a1 c1 a2 c2 (some ⟨g2,o2,none⟩) c3 a4 c4 a5 c5 a6 c6)] w7 fun e w'=>∃(z1:Option Addr)(y1:Nat)(z2:Option Addr)(y2:Nat)(z3:Option Addr)(y3:Nat)(z4:Option Addr)(y4:Nat)(z5:Option Addr)(y5:Nat)(z6:Option Addr)(y6:Nat),e=.returned (.tuple #[.agg (M7 m z1 y1 z2 y2 z3 y3 z4 y4 z5 y5 z6 y6),.int .i64 ((qn:Int)+1)])/\MO w' (fun k=>w7.1.size<=k) (.slice z1 m.1.length y1) (.slice z2 m.2.length y2) (.slice z3 m.3.length y3) (.slice z4 m.4.length y4) (.slice z5 m.5.length y5) (.slice z6 m.6.length y6) ({ m with ys:=m.ys.set (ff m.ys-1) true,fs:=m.fs.set 0 true }:MD)/\Below w7.1.size w7 w'):=by
   refine(zf3 _ _ _ _ _ _ m w7 HM7.o HM.o.big).mono ?_;rintro e w' ⟨v1,v2,v3,v4,v5,v6,rfl,O8,B8⟩;rw[zik hf]at O8;obtain⟨z1,y1,z2,y2,z3,y3,z4,y4,z5,y5,z6,y6,rfl,e2,rfl,rfl,e5,rfl⟩:=O8.mr.form;have e2':v2=.slice z2 m.2.length y2:=e2.trans (by rw[show({ m with ys:=m.ys.set (ff m.ys-1) true,fs:=m.fs.set 0 true }:MD).ys.length=m.2.length from List.length_set ..]);have e5':v5=.slice z5 m.5.length y5:=e5.trans (by rw[show({ m with ys:=m.ys.set (ff m.ys-1) true,fs:=m.fs.set 0 true }:MD).fs.length=m.5.length from List.length_set ..]);clear e2 e5;subst e2' e5';rw[hz];exact⟨z1,y1,z2,y2,z3,y3,z4,y4,z5,y5,z6,y6,rfl,O8,B8⟩
  have HSH:Hid (Sh Z0 ({ m with ys:=m.ys.set (ff m.ys-1) true,fs:=m.fs.set 0 true }:MD)):=by
   have:=HM.o.takeI;rw[zik hf]at this;exact this
  go_wp2_with fail
  refine CT.out.mono ?_;rintro e w8 ⟨z1,y1,z2,y2,z3,y3,z4,y4,z5,y5,z6,y6,rfl,O8,B8⟩;obtain⟨W9,hW9⟩:∃W9,w8.alloc (.cells (M7 m z1 y1 z2 y2 z3 y3 z4 y4 z5 y5 z6 y6) 33)=W9:=⟨_,rfl⟩
  obtain⟨bn,hbn⟩:∃bn,w8.1.size=bn:=⟨_,rfl⟩
  have HP9:Hid (PM W9 (fun k=>w7.1.size<=k/\k<bn) bn (.slice z1 m.1.length y1) (.slice z2 m.2.length y2) (.slice z3 m.3.length y3) (.slice z4 m.4.length y4) (.slice z5 m.5.length y5) (.slice z6 m.6.length y6) ({ m with ys:=m.ys.set (ff m.ys-1) true,fs:=m.fs.set 0 true }:MD)/\Below w7.1.size w7 W9/\w7.1.size<=bn/\bn<W9.1.size):=by
   rw[←hW9];have z8:=B8.size;refine⟨⟨?_,(O8.bound.below ((Below.refl _ w8).alloc nR _) nR).mono (fun k hk=>by have:w7.1.size<=k/\k<w8.1.size:=hk;omega),by omega⟩,B8.alloc z8 _,by omega,by simp;omega⟩;rw[←hbn];exact AtC.new w8 33 _
  have HB9:Hid (Below W2.1.size W2 W9):=HB7.o.trans (HP9.o.2.1.mono HB7.o.size);have hqb:(((qn:Int)+1)==0)=false:=beq_eq_false_iff_ne.mpr oM;clear O8 B8 CT p1 p2;go_wp2_with fail
  refine(zdz _ bn _ _ _ _ _ _ ({ m with ys:=m.ys.set (ff m.ys-1) true,fs:=m.fs.set 0 true }:MD) W9 HP9.o.1).mono ?_;rintro e w9' ⟨⟨rr,rfl⟩,hw9⟩;rw[hw9];clear hw9 w9' hW9 hbn x0 x1 x2 x3 x4 x5 x6
  cases rr with
  | false =>
   exact cQ20
  | true =>
  obtain⟨gi,ci,pb,ei,ki0,ki1,ki2,-,hfz,hgl,hgS⟩:=HP9.o.1.inoAt qn (show qn<m.3.length by rw[HM.o.i];exact hq8);simp only[Value.slice.injEq,true_and]at ei;obtain⟨rfl,rfl⟩:=ei;obtain⟨v0,ki0⟩:∃v0,W9.cell? ⟨gi,qn*3,none⟩=some v0:=⟨_,ki0⟩
  obtain⟨v1,ki1⟩:∃v1,W9.cell? ⟨gi,qn*3+1,none⟩=some v1:=⟨_,ki1⟩
  have xn2:=HP9.o.1.box.c2;have f0:=hfz (qn*3);have f1:=hfz (qn*3+1);have f2:=hfz (qn*3+2);have HW9:Hid (∀W,Below W9.1.size W9 W->W.cell? ⟨bn,2,none⟩=some (.slice (some ⟨gi,0,none⟩) m.3.length y3)/\W.cell? ⟨gi,qn*3,none⟩=some v0/\W.cell? ⟨gi,qn*3+1,none⟩=some v1/\W.cell? ⟨gi,qn*3+2,none⟩=some pb/\W.frozen? ⟨gi,qn*3,none⟩=false/\W.frozen? ⟨gi,qn*3+1,none⟩=false/\W.frozen? ⟨gi,qn*3+2,none⟩=false):=fun W bb=>⟨(bb.cell (p:=⟨bn,2,none⟩) HP9.o.2.2.2).trans xn2,(bb.cell (p:=⟨gi,qn*3,none⟩) hgl).trans ki0,(bb.cell (p:=⟨gi,qn*3+1,none⟩) hgl).trans ki1,(bb.cell (p:=⟨gi,qn*3+2,none⟩) hgl).trans ki2,(bb.frozen (p:=⟨gi,qn*3,none⟩) hgl).trans f0,(bb.frozen (p:=⟨gi,qn*3+1,none⟩) hgl).trans f1,(bb.frozen (p:=⟨gi,qn*3+2,none⟩) hgl).trans f2⟩
  have HPUT:Hid (∀(W:World)(pv:Value),ROwns W W9.1.size 3 pv (ic [0,0])->Below W9.1.size W9 W->BTQ (Abs j nm) (((W.setCell ⟨gi,qn*3,none⟩ (.int .i64 kind)).setCell ⟨gi,qn*3+1,none⟩ (.int .i64 (zam kind))).setCell ⟨gi,qn*3+2,none⟩ pv) (fun k=>w7.1.size<=k) bn/\Below w7.1.size w7 (((W.setCell ⟨gi,qn*3,none⟩ (.int .i64 kind)).setCell ⟨gi,qn*3+1,none⟩ (.int .i64 (zam kind))).setCell ⟨gi,qn*3+2,none⟩ pv)):=fun W pv O bb=>by
   obtain⟨P9,b9,l9,l9'⟩:=HP9.o;have hp:=(P9.below bb).putI rfl qn (show qn<m.3.length by rw[HM.o.i];exact hq8) (.int .i64 kind,.int .i64 (zam kind),pv) (kind,zam kind,[0,0]) ⟨rfl,rfl,O.base_le (Nat.zero_le _)⟩ (fun k hk=>by
    have h1:=(O.lt k hk).1;exact⟨fun e=>by have:=e.2;omega,by omega⟩)
   have hg:w7.1.size<=gi:=hgS.1;have bo:=b9.trans (bb.mono b9.size);refine⟨⟨_,_,_,_,_,_,_,_,hp.1,fun k hk=>?_,l9,HSH.o.inode qn ⟨by show 0<=zam kind/\zam kind<=200;unfold zam;split<;>omega,rfl,fun p hp=>by simp at hp;omega,HKQ.o.elim .inl fun z=>.inr (.inl z)⟩ (fun hj p hp=>?_),HAB.o.set0 qn (by have:=HKQ.o;omega)⟩,((bo.setCell (p:=⟨gi,qn*3,none⟩) hg _).setCell (p:=⟨gi,qn*3+1,none⟩) hg _).setCell (p:=⟨gi,qn*3+2,none⟩) hg _⟩
   ·rcases hk with h|h
    ·exact h.1
    ·have h1:=(O.lt k h).1;have:=b9.size;omega
   ·have e:List.count p ([0,0]:List Int)=0:=by
     rw[List.count_eq_zero];intro h;simp at h;omega
    show List.count p ([0,0]:List Int)<=_;omega
  have hwp:IntKind.i64.wrap (qn:Int)=(qn:Int):=wrap_small _ oM oM;have qn0:(0:Int)<=(qn:Int):=by omega
  have qn1:(qn:Int)<(m.3.length:Int):=by have:=HM.o.i;omega
  clear hfz;go_upto_region 17 with fail
  go_cut [13]from 72 to 86 (fun c wx=>c=.pointer (some ⟨bn,0,none⟩)/\BTQ (Abs j nm) wx (fun k=>w7.1.size<=k) bn/\Below w7.1.size w7 wx)
  case first =>
   go_region_with (go_at_call 119;refine(za6 kind _).mono ?_;rintro e w10 ⟨pv,rfl,O10,B10⟩;obtain⟨pa9,pc9,rfl⟩:=O10.form2;have HO10:=hide (And.intro O10 B10);obtain⟨n0,n1,n2,n3,n4,n5,n6⟩:=HW9.o w10 (zac B10);clear O10 B10)
   all_goals (go_wp2_with fail;go_meet;exact⟨rfl,HPUT.o w10 (.slice pa9 2 pc9) HO10.o.1 (zac HO10.o.2)⟩)
  case rest =>
   obtain⟨rfl,hb10,B10⟩:=hcut;have HB10:=hide (And.intro hb10 B10);have hbn7:w7.1.size<=bn:=HP9.o.2.2.1;obtain⟨U,hU⟩:∃U,uoI ((qn:Int)+1)=U:=⟨_,rfl⟩
   have CU:Hid (∀W,Calls Tryz.prog 198 #[.int .i64 ((qn:Int)+1)] W fun e w'=>e=.returned (.int .i64 U)/\w'=W):=fun W=>by rw[←hU];exact zbr _ W
   clear hU hb10 B10 HPUT HW9 ki0 ki1 ki2 f0 f1 f2 xn2 hgl hgS HSH HP9;go_wp2_with fail
   refine(CU.out _).mono ?_;rintro e w9' ⟨rfl,hw9⟩;rw[hw9];clear hw9 w9';go_wp2_with fail
   refine(zm8 _ bn U wc HB10.o.1).mono ?_;rintro e w11 ⟨rfl,b11,c11⟩;have HB11:Hid (Below w7.1.size w7 w11):=HB10.o.2.trans (c11.below HB10.o.2.size (fun k hk=>hk));obtain⟨SB,u,v,iv,bv,dv,pv,mb,PB,hSB,hTB,hmB,hqB⟩:=b11;have HQB:=hide hqB;clear hqB;have HPB:Hid (PM w11 SB bn u v iv bv dv pv mb/\(∀k,SB k->w7.1.size<=k)/\Sh Z0 mb):=⟨PB,hSB,hmB⟩
   have HT11:Hid (∀k,w11.1.size<=k->w7.1.size<=k):=fun k hk=>by have:=HB11.o.size;omega
   clear PB hSB hTB hmB c11 HB10 CU;go_wp2_with fail
   refine(zii (fun k=>w7.1.size<=k) bn j nm ((qn:Int)+1) SB u v iv bv dv pv mb w11 HPB.o.1 HPB.o.2.1 hbn7 HT11.o HPB.o.2.2 hj8 hnm ⟨by omega,by omega⟩ HSQ.o.1 HQB.o).mono ?_;rintro e w12 ⟨⟨id,rfl,-,-⟩,⟨SA,u',v',iv',bv',dv',pv',ma,PA,hSA,-,hmA,-⟩,c12⟩;have HB12:Hid (Below W2.1.size W2 w12):=by
    have b12:=HB11.o.trans (c12.below HB11.o.size (fun k hk=>hk));exact HB7.o.trans (b12.mono HB7.o.size)
   obtain⟨h1,k1,h2,k2,h3,k3,h4,k4,h5,k5,h6,k6,rfl,rfl,rfl,rfl,rfl,rfl⟩:=PA.form;clear c12 HPB HT11 HB11;by_cases hid:id=0
   ·subst hid;clear PA hSA hmA;obtain⟨y0,y1,y2,y3,y4,y5,y6⟩:=AtC.sev ((HC.o w12 HB12.o).2.2.1);obtain⟨r0,r1,r2,r3,r4,r5,r6⟩:=AtC.sev ((HC.o w12 HB12.o).2.1);have v0:=(HC.o w12 HB12.o).2.1.frozen 0;have v1:=(HC.o w12 HB12.o).2.1.frozen 1;have v2:=(HC.o w12 HB12.o).2.1.frozen 2;have v3:=(HC.o w12 HB12.o).2.1.frozen 3;have v4:=(HC.o w12 HB12.o).2.1.frozen 4;have v5:=(HC.o w12 HB12.o).2.1.frozen 5;have v6:=(HC.o w12 HB12.o).2.1.frozen 6;have HFF:=hide (HC.o w12 HB12.o);go_wp2;refine bodyPost_ret (v:=.tuple #[.agg (M7 m s1 t1 s2 t2 s3 t3 s4 t4 s5 t5 s6 t6),.int .i64 4]) sR7 rfl ⟨⟨_,_,_,_,_,_,m,_,rfl,(HFF.o.2.2.2.1.of_heap fun k hk _=>zaa _ _ _ _ _ _ _ _ _ k oF).mono (fun k hk=>by have:w.1.size+1+1<=k/\k<b2:=hk;omega),HM.o⟩,zab HFF.o.2.2.2.2.1 oM _ _ _ _ _ _ _⟩
   have hidb:(id==0)=false:=beq_eq_false_iff_ne.mpr hid;have HZ:Hid (w.1.size+1+1<=w7.1.size):=by have:=(HC.o w7 HB7.o).2.2.2.2.2;show _<=_;omega
   obtain⟨y0,y1,y2,y3,y4,y5,y6⟩:=AtC.sev PA.box;obtain⟨r0,r1,r2,r3,r4,r5,r6⟩:=AtC.sev ((HC.o w12 HB12.o).2.1);have v0:=(HC.o w12 HB12.o).2.1.frozen 0;have v1:=(HC.o w12 HB12.o).2.1.frozen 1;have v2:=(HC.o w12 HB12.o).2.1.frozen 2;have v3:=(HC.o w12 HB12.o).2.1.frozen 3;have v4:=(HC.o w12 HB12.o).2.1.frozen 4;have v5:=(HC.o w12 HB12.o).2.1.frozen 5;have v6:=(HC.o w12 HB12.o).2.1.frozen 6;have HF:=hide (And.intro PA.own (And.intro hSA hmA));clear PA hSA hmA;go_wp2;refine bodyPost_ret (v:=.tuple #[.agg (M7 ma h1 k1 h2 k2 h3 k3 h4 k4 h5 k5 h6 k6),.int .i64 0]) sR7 rfl ⟨⟨_,_,_,_,_,_,ma,_,rfl,(HF.o.1.of_heap fun k hk _=>zaa _ _ _ _ _ _ _ _ _ k (by have:=HF.o.2.1 k hk;have:=HZ.o;omega)).mono (fun k hk=>by have:=HF.o.2.1 k hk;have:=HZ.o;omega),HF.o.2.2⟩,zab (HC.o w12 HB12.o).2.2.2.2.1 oM _ _ _ _ _ _ _⟩
namespace Kit
structure NmR(w wr:World)(D X:Array Value)(bw:Nat)(lv:Value)(l:List ByteArray):Prop where
 o:ROwns wr (w.1.size+1) 9 lv (stc l)
 n:∀k,lv.ownBlock=some k->k≠w.1.size+1+1/\k≠bw
 b:Below w.1.size w wr
 d:AtC wr w.1.size 30 D
 x:AtC wr (w.1.size+1+1) 59 X
theorem NmR.below{w wr wr':World}{D X:Array Value}{bw:Nat}{lv:Value}{l:List ByteArray}(h:NmR w wr D X bw lv l)(hb:Below wr.1.size wr wr'):NmR w wr' D X bw lv l :=
 ⟨h.o.below hb nR,h.n,h.b.trans (hb.mono h.b.size),h.d.over hb,h.x.over hb⟩
theorem NmR.app{w wr wr':World}{D X:Array Value}{bw:Nat}{lv lv':Value}{l l':List ByteArray}(h:NmR w wr D X bw lv l)(ho:ROwns wr' (w.1.size+1) 9 lv' (stc l'))(hg:wr.grownBy wr' lv.ownBlock)(hv:∀k,lv'.ownBlock=some k->lv.ownBlock=some k\/wr.1.size<=k)(hbw:bw<wr.1.size):NmR w wr' D X bw lv' l' :=
 ⟨ho,fun k hk=>(hv k hk).elim (h.n k) (fun e=>by have:=h.x.lt;omega),h.b.grown hg h.b.size (fun k hk=>by have:=(h.o.lt k hk).1;omega),h.d.grown hg (fun e=>by have:=(h.o.lt _ e).1;omega),h.x.grown hg (fun e=>(h.n _ e).1 rfl)⟩
theorem NmR.turn{w wr:World}{D X:Array Value}{bw bw':Nat}{lv:Value}{l:List ByteArray}(h:NmR w wr D X bw lv l)(hb:∀k,lv.ownBlock=some k->k≠bw'):NmR w wr D X bw' lv l:=⟨h.o,fun k hk=>⟨(h.n k hk).1,hb k hk⟩,h.b,h.d,h.x⟩
theorem zfq{bs:List Blk}(hk:∀q∈bs,q.2.1.length<=4)(x:Int):(blkAt bs x).2.1.length<=4:=by
 cases h:inB x 1 bs.length with
 | false=>unfold blkAt;rw[h];simp
 | true =>
  obtain⟨jb,hb,-,e⟩:=zbw h;rw[e];exact hk _ (List.getElem_mem hb)
def TxR(B:Nat)(w:World)(e:Ending):Prop:=∃(lv:Value)(l:List ByteArray),e=.returned lv/\ROwns w B 9 lv (stc l)/\l.length<=100
theorem TxR.mk{B:Nat}{w:World}{e:Ending}(h:∃(lv:Value)(l:List ByteArray),e=.returned lv/\ROwns w B 9 lv (stc l)/\l.length<=100):TxR B w e:=h
end Kit
theorem zdm{α β:Type}{f:α->List β}{m:Nat}:∀(l:List α),(∀x∈l,(f x).length<=m)->(l.flatMap f).length<=l.length*m
 | [],_=>by simp
 | x::r,h=>by
  have h1:=h x sI;have h2:=zdm r (fun y hy=>h y (by simp[hy]));rw[List.flatMap_cons,List.length_append,List.length_cons,Nat.add_mul];omega
theorem zj4(x:Int)(dx dy iv bv:Value)(xs ys:List Bool)(is:List Ino)(bs:List Blk)(w:World)(h:DR w dx dy iv bv xs ys is bs)(hi:is.length=8)(hbl:bs.length<=1048576)(hp:∀q∈is,q.2.2.length<=2)(hk:∀q∈bs,q.2.1.length<=4):
  Calls Tryz.prog 26 #[.agg #[dx,dy,iv,bv],.int .i64 x] w fun e w'=>∃lv,e=.returned lv/\ROwns w' w.1.size 9 lv (stc ((named is bs x).map (·.1)))/\Below w.1.size w w':=by
 obtain⟨a1,c1,a2,c2,a3,c3,a4,c4,rfl,rfl,rfl,rfl⟩:=h.form;have HH:=hide h;have HW:Hid (∀W,Below ((w.alloc (.cells #[.slice a1 xs.length c1,.slice a2 ys.length c2,.slice a3 is.length c3,.slice a4 bs.length c4] 30)).alloc (.cells #[] 9)).1.size ((w.alloc (.cells #[.slice a1 xs.length c1,.slice a2 ys.length c2,.slice a3 is.length c3,.slice a4 bs.length c4] 30)).alloc (.cells #[] 9)) W->Below w.1.size w W/\AtC W w.1.size 30 #[.slice a1 xs.length c1,.slice a2 ys.length c2,.slice a3 is.length c3,.slice a4 bs.length c4]/\w.1.size+1+1<=W.1.size):=fun W bb=>by
  have k1:=((AtC.new w 30 #[.slice a1 xs.length c1,.slice a2 ys.length c2,.slice a3 is.length c3,.slice a4 bs.length c4]).over ((Below.refl _ (w.alloc (.cells #[.slice a1 xs.length c1,.slice a2 ys.length c2,.slice a3 is.length c3,.slice a4 bs.length c4] 30))).alloc nR (.cells #[] 9))).over bb;have sz:=bb.size;simp at sz;exact⟨(((Below.refl _ w).alloc nR _).alloc sI _).trans (bb.mono sO),k1,sz⟩
 have HL0:Hid (ROwns ((w.alloc (.cells #[.slice a1 xs.length c1,.slice a2 ys.length c2,.slice a3 is.length c3,.slice a4 bs.length c4] 30)).alloc (.cells #[] 9)) w.1.size 9 (.slice (some ⟨w.1.size+1,0,none⟩) 0 0) (stc [])):=by
  have l0:=ROwns.lit0 (w.alloc (.cells #[.slice a1 xs.length c1,.slice a2 ys.length c2,.slice a3 is.length c3,.slice a4 bs.length c4] 30)) w.1.size 9 sI;have e0:(w.alloc (.cells #[.slice a1 xs.length c1,.slice a2 ys.length c2,.slice a3 is.length c3,.slice a4 bs.length c4] 30)).1.size=w.1.size+1:=by simp
  rw[e0]at l0;exact l0
 have x2:((w.alloc (.cells #[.slice a1 xs.length c1,.slice a2 ys.length c2,.slice a3 is.length c3,.slice a4 bs.length c4] 30)).alloc (.cells #[] 9)).cell? ⟨w.1.size,2,none⟩=some (.slice a3 is.length c3):=(HW.o _ bR).2.1.cell 2;have HBL:=hide hbl;have HKK:=hide hk
 cases hin:inB x 1 is.length with
 | false =>
  have HIN:=hide hin;have e0:named is bs x=[]:=by unfold named;rw[zch hin];rfl
  rw[e0];clear e0;clear hin h hi hp hk hbl;go_enter Tryz.func26,Tryz.ntmps26
  go_wp2_with (go_at_call 50;refine(zai x 1 _ _).mono ?_;rintro e w7 ⟨rfl,rfl⟩;rw[HIN.o])
  go_ret;exact⟨_,rfl,HL0.o,(HW.o _ bR).1⟩
 | true =>
  have HIN:=hide hin;obtain⟨h1,h2⟩:=zas hin;obtain⟨j,rfl⟩:∃j:Nat,x=(j:Int)+1:=⟨(x-1).toNat,by omega⟩
  have hj:j<is.length:=by omega
  have hj8:j<8:=by omega
  have hnm:named is bs ((j:Int)+1)=if is[j].1=2 then nmdP bs is[j].2.2 else[]:=by unfold named;rw[(zbi hj).1,(zbi hj).2]
  rw[hnm];clear hnm;have hwj:IntKind.i64.wrap (j:Int)=(j:Int):=wrap_small _ oM oM;obtain⟨qa,qc,qe,-,qh⟩:=h.i;simp only[Value.slice.injEq,true_and]at qe;obtain⟨rfl,rfl⟩:=qe;obtain⟨g2,o2,⟨t0,t1,t2⟩,rfl,hg2,r0,r1,r2,e0,e1,rr⟩:=qh j hj;have hpl:=hp _ (List.getElem_mem hj);obtain⟨⟨kd,ln,ps⟩,hX⟩:∃X,is[j]=X:=⟨_,rfl⟩
  rw[hX]at e0 e1 rr hpl ⊢;simp only at e0 e1 rr r0 r1 r2 hpl;subst e0 e1;obtain⟨sa,sc,rfl⟩:=rr.form;have HRR:=hide rr;have HIH:=hide h;have bW:=(HW.o _ bR).1;have y0:=(bW.cell (p:=⟨g2,o2+j*3,none⟩) hg2).trans r0;have y1:=(bW.cell (p:=⟨g2,o2+j*3+1,none⟩) hg2).trans r1;have y2:=(bW.cell (p:=⟨g2,o2+j*3+2,none⟩) hg2).trans r2;have j0:(0:Int)<=(j:Int):=by omega
  have j1:(j:Int)<(is.length:Int):=by omega
  clear qh hX rr bW r0 r1 r2 hin h1 h2 hp hk hbl h hi;by_cases hkd:kd=2
  rotate_left
  ·have hkb:(kd != 2)=true:=by simp[hkd]
   rw[if_neg hkd];go_enter Tryz.func26,Tryz.ntmps26
   go_wp2_with (go_at_call 50;refine(zai ((j:Int)+1) 1 _ _).mono ?_;rintro e w7 ⟨rfl,rfl⟩;rw[HIN.o])
   go_ret;exact⟨_,rfl,HL0.o,(HW.o _ bR).1⟩
  subst hkd;rw[if_pos rfl];obtain⟨RES,hRES⟩:∃r,(nmdP bs ps).map (·.1)=r:=⟨_,rfl⟩
  rw[hRES];have HRES:=hide hRES;clear hRES;obtain⟨W1,hW1⟩:∃W1,(((w.alloc (.cells #[.slice a1 xs.length c1,.slice a2 ys.length c2,.slice (some ⟨g2,o2,none⟩) is.length c3,.slice a4 bs.length c4] 30)).alloc (.cells #[] 9)).alloc (.cells #[.int .i64 2,.int .i64 ln,.slice sa ps.length sc] 59))=W1:=⟨_,rfl⟩
  have HB1:Hid (AtC W1 (w.1.size+1+1) 59 #[.int .i64 2,.int .i64 ln,.slice sa ps.length sc]/\Below ((w.alloc (.cells #[.slice a1 xs.length c1,.slice a2 ys.length c2,.slice (some ⟨g2,o2,none⟩) is.length c3,.slice a4 bs.length c4] 30)).alloc (.cells #[] 9)).1.size ((w.alloc (.cells #[.slice a1 xs.length c1,.slice a2 ys.length c2,.slice (some ⟨g2,o2,none⟩) is.length c3,.slice a4 bs.length c4] 30)).alloc (.cells #[] 9)) W1):=by
   rw[←hW1];refine⟨?_,bR.alloc nR _⟩;have k:=AtC.new ((w.alloc (.cells #[.slice a1 xs.length c1,.slice a2 ys.length c2,.slice (some ⟨g2,o2,none⟩) is.length c3,.slice a4 bs.length c4] 30)).alloc (.cells #[] 9)) 59 #[.int .i64 2,.int .i64 ln,.slice sa ps.length sc];have e0:((w.alloc (.cells #[.slice a1 xs.length c1,.slice a2 ys.length c2,.slice (some ⟨g2,o2,none⟩) is.length c3,.slice a4 bs.length c4] 30)).alloc (.cells #[] 9)).1.size=w.1.size+1+1:=by simp
   rw[e0]at k;exact k
  have HN1:Hid (NmR w W1 #[.slice a1 xs.length c1,.slice a2 ys.length c2,.slice (some ⟨g2,o2,none⟩) is.length c3,.slice a4 bs.length c4] #[.int .i64 2,.int .i64 ln,.slice sa ps.length sc] 0 (.slice (some ⟨w.1.size+1,0,none⟩) 0 0) []):=by
   obtain⟨k1,k2,k3⟩:=HW.o W1 HB1.o.2;have l0:=ROwns.lit0 (w.alloc (.cells #[.slice a1 xs.length c1,.slice a2 ys.length c2,.slice (some ⟨g2,o2,none⟩) is.length c3,.slice a4 bs.length c4] 30)) (w.1.size+1) 9 sI;have e0:(w.alloc (.cells #[.slice a1 xs.length c1,.slice a2 ys.length c2,.slice (some ⟨g2,o2,none⟩) is.length c3,.slice a4 bs.length c4] 30)).1.size=w.1.size+1:=by simp
   rw[e0]at l0;exact⟨l0.below HB1.o.2 nR,fun k hk=>by simp[Value.ownBlock]at hk;omega,k1,k2,HB1.o.1⟩
  go_enter Tryz.func26,Tryz.ntmps26
  go_wp2_with (go_at_call 50;refine(zai ((j:Int)+1) 1 _ _).mono ?_;rintro e w7 ⟨rfl,rfl⟩;rw[HIN.o])
  clear hW1 y0 y1 y2 x2 HB1 HW HL0;go_loopw [5,7] (fun x5 kk wr=>∃(lv:Value)(l:List ByteArray)(q:Nat),lv=x5/\q<=ps.length/\kk=.int .i64 q/\Hid (NmR w wr #[.slice a1 xs.length c1,.slice a2 ys.length c2,.slice (some ⟨g2,o2,none⟩) is.length c3,.slice a4 bs.length c4] #[.int .i64 2,.int .i64 ln,.slice sa ps.length sc] 0 lv l/\l.length<=4*q/\l=(nmdP bs (ps.take q)).map (·.1))) (fun _ kk _=>ps.length-(intOf kk).toNat)
  case atStart=>exact⟨_,[],0,rfl,Nat.zero_le _,rfl,HN1.o,by decide,by simp[nmdP]⟩
  case round =>
   obtain⟨lv,l,q,hlv,hq,rfl,HR⟩:=hrel;subst hlv;obtain⟨wo,hwo⟩:∃wo,wo=wr:=⟨_,rfl⟩
   subst hwo;clear HN1;have q0:(0:Int)<=(q:Int):=by omega
   have x7:=HR.o.1.x.c2;by_cases hlt:q<ps.length
   rotate_left
   ·have q1:¬((q:Int)<(ps.length:Int)):=by omega
    go_wp2;go_ret;refine⟨_,rfl,?_,HR.o.1.b⟩;have e1:=HR.o.2.2;rw[List.take_of_length_le oM,HRES.o]at e1;rw[←e1];exact HR.o.1.o.base_le oM
   have q1:(q:Int)<(ps.length:Int):=by omega
   obtain⟨pa',pc',e1,hcp⟩:=HRR.o;simp only[Value.slice.injEq,true_and]at e1;obtain⟨rfl,rfl⟩:=e1;obtain⟨gp,op,rfl,hgp,kp⟩:=hcp q hlt;obtain⟨Pn,hPn⟩:∃Pn,ps[q]=Pn:=⟨_,rfl⟩
   rw[hPn]at kp;have HTK:=hide (zia (bs:=bs) hlt);rw[hPn]at HTK;have CB:=hide (fun(W:World)(hd:Below w.1.size w W)=>zgw Pn (.slice a1 xs.length c1) (.slice a2 ys.length c2) (.slice (some ⟨g2,o2,none⟩) is.length c3) (.slice a4 bs.length c4) xs ys is bs w W HIH.o hd HBL.o);have hb4:(blkAt bs Pn).2.1.length<=4:=zfq HKK.o Pn;obtain⟨⟨bd,bss,btx⟩,hBD⟩:∃X,blkAt bs Pn=X:=⟨_,rfl⟩
   obtain⟨F,hF⟩:∃F,inB Pn 1 bs.length=F:=⟨_,rfl⟩
   rw[hBD,hF]at CB;rw[hBD]at hb4;simp only at hb4;have HWR:Hid (∀W,Below wo.1.size wo W->NmR w W #[.slice a1 xs.length c1,.slice a2 ys.length c2,.slice (some ⟨g2,o2,none⟩) is.length c3,.slice a4 bs.length c4] #[.int .i64 2,.int .i64 ln,.slice (some ⟨gp,op,none⟩) ps.length sc] 0 lv l/\W.cell? ⟨gp,op+q,none⟩=some (.int .i64 Pn)):=fun W b=>by
    have r2:=HR.o.1.below b;exact⟨r2,(r2.b.cell (p:=⟨gp,op+q,none⟩) hgp).trans kp⟩
   rw[hBD]at HTK;clear hPn kp hcp hBD hF;go_upto_region 8 with fail
   clear x7;go_cut [8,9]from 35 to 78 (fun bv ok wx=>∃(bw:Nat)(ba:Option Addr)(bc:Nat),bv=.pointer (some ⟨bw,0,none⟩)/\ok=.bool F/\AtC wx bw 95 #[.bool bd,.slice ba bss.length bc,.string btx]/\RSl w (.slice ba bss.length bc) bss/\Below wo.1.size wo wx/\wo.1.size<=bw)
   case first =>
    refine zbd kL [0,1,2,3,4,5,6,7,8,9,10] [11,12] [([0,1,2,3,4,5,6,7,8,10],[[9,11,12],[11,9,12]])] (fun i=>match i with|0=>.const [] (.agg #[.slice a1 xs.length c1,.slice a2 ys.length c2,.slice (some ⟨g2,o2,none⟩) is.length c3,.slice a4 bs.length c4])|1=>.const [] (.pointer (some ⟨w.1.size+1+1,2,none⟩))|2=>.const [1] (.slice (some ⟨gp,op,none⟩) ps.length sc)|3=>.const [] (.int .i64 (q:Int))|4=>.const [2,3] (.pointer (some ⟨gp,op+q,none⟩))|5=>.const [4] (.int .i64 Pn)|6=>MkT2 [0,5] (BlkR w bd btx bss F) BlkR.below|7=>MkMv 6|8=>MkFs 7|9=>MkSd 7|10=>MkW 95 #[.bool false,.slice none 0 0,.string ⟨#[]⟩]|_=>.triv) (fun x=>⟨List.toArray ((.agg #[.slice a1 xs.length c1,.slice a2 ys.length c2,.slice (some ⟨g2,o2,none⟩) is.length c3,.slice a4 bs.length c4])::(.int .i64 (↑j+1))::(.pointer (some ⟨w.1.size,0,none⟩))::undef::(.slice none 0 0)::lv::(.pointer (some ⟨w.1.size+1+1,0,none⟩))::(.int .i64 ↑q)::(x 10)::u9::u10::(.slice (some ⟨w.1.size+1,0,none⟩) 0 0)::(.int .i64 (↑j+1))::(.pointer (some ⟨w.1.size,2,none⟩))::(.slice (some ⟨g2,o2,none⟩) is.length c3)::(.int .i64 ↑is.length)::(.bool true)::(.bool false)::(.bool false)::(.pointer (some ⟨w.1.size,2,none⟩))::(.slice (some ⟨g2,o2,none⟩) is.length c3)::(.int .i64 (↑j+1))::(.int .i64 ↑j)::(.pointer (some ⟨g2,o2+j*3,none⟩))::(.pointer (some ⟨g2,o2+j*3,none⟩))::(.int .i64 2)::(.bool false)::(.bool false)::undef::(.pointer (some ⟨w.1.size,2,none⟩))::(.slice (some ⟨g2,o2,none⟩) is.length c3)::(.int .i64 (↑j+1))::(.int .i64 ↑j)::(.pointer (some ⟨g2,o2+j*3,none⟩))::(.agg #[.int .i64 2,.int .i64 ln,.slice (some ⟨gp,op,none⟩) ps.length sc])::(.int .i64 ↑q)::(.pointer (some ⟨w.1.size+1+1,2,none⟩))::(.slice (some ⟨gp,op,none⟩) ps.length sc)::(.int .i64 ↑ps.length)::(.bool true)::u40::u41::(x 7)::(x 0)::(x 1)::(x 2)::(x 3)::(x 4)::(x 5)::(x 6)::(x 8)::(x 9)::u52::u53::u54::u55::u56::u57::u58::u59::u60::u61::u62::u63::u64::u65::u66::u67::u68::u69::u70::u71::u72::u73::u74::u75::u76::u77::u78::undef::[]),[]⟩) (fun i=>match i with|0=>u43|1=>u44|2=>u45|3=>u46|4=>u47|5=>u48|6=>u49|7=>u42|8=>u50|9=>u51|10=>u8|_=>undef) rfl (za9 kL kL) kL kL kL rfl ?_ ?_ ?_
    ·intro jo hj so x iw W hd hp K hK;simp only[List.mem_cons,List.not_mem_nil,or_false]at hj;rcases hj with rfl|rfl|rfl|rfl|rfl|rfl|rfl|rfl|rfl|rfl|rfl<;>refine wpOp_step (o:=_) rfl fun K' hK'=>?_<;>have HK:=hide (fun(v:Value) (W':World) h1 h2=>hK' _ _ (hK v W' h1 h2))<;>simp only[upd,Nat.reduceEqDiff,if_true,if_false]at HK
     ·have bw:=zac hp.bel;have k0:=(HWR.o W bw).1.d;obtain⟨q5,q6,q7,q8⟩:=AtC.four k0;clear k0 bw;go_simp;exact HK.o _ _ bR rfl
     ·exact cQ10
     ·have e1:x 1=.pointer (some ⟨w.1.size+1+1,2,none⟩):=hp.post 1 (hd 1 mz0);have bw:=zac hp.bel;have q5:=(HWR.o W bw).1.x.c2;clear bw;simp only[e1]at HK ⊢;go_simp;exact HK.o _ _ bR rfl
     ·exact cQ10
     ·have e2:x 2=.slice (some ⟨gp,op,none⟩) ps.length sc:=hp.post 2 (hd 2 mz0);have e3:x 3=.int .i64 (q:Int):=hp.post 3 (hd 3 mz1);simp only[e2,e3]at HK ⊢;go_simp;exact HK.o _ _ bR rfl
     ·have e4:x 4=.pointer (some ⟨gp,op+q,none⟩):=hp.post 4 (hd 4 mz0);have bw:=zac hp.bel;have q9:=(HWR.o W bw).2;clear bw;simp only[e4]at HK ⊢;go_simp;exact HK.o _ _ bR rfl
     ·have e0:x 0=.agg #[.slice a1 xs.length c1,.slice a2 ys.length c2,.slice (some ⟨g2,o2,none⟩) is.length c3,.slice a4 bs.length c4]:=hp.post 0 (hd 0 mz0);have e5:x 5=.int .i64 Pn:=hp.post 5 (hd 5 mz1);have dr:=(HWR.o W (zac hp.bel)).1.b;simp only[e0,e5]at HK ⊢;clear e0 e5;go_simp;refine(CB.out W dr).mono ?_;rintro e w6 ⟨sv,rfl,R6,B6⟩;obtain⟨ba,bc,rfl,hR6⟩:=R6;go_simp;exact HK.o _ _ B6 ⟨_,_,rfl,ba,bc,rfl,rfl,ba,bc,rfl,hR6⟩
     ·have e6:∃a r,x 6=.tuple #[a,r]/\BlkR w bd btx bss F (iw 6).1 (iw 6).2 W a r:=hp.post 6 (hd 6 mz0);obtain⟨a,r,e6,-⟩:=e6;have ea:=hide e6;simp only[e6]at HK ⊢;clear e6;go_simp;exact HK.o _ _ bR ⟨ea.out,a,r,rfl⟩
     ·exact cQ64
     ·exact cQ65
     ·exact cQ40
    ·intro x iw W hp;obtain⟨a,r,e6,R6⟩:=hp.post 6 dC;obtain⟨e7,-⟩:=hp.post 7 dC;have e8:x 8=fstOf (x 7):=hp.post 8 dC;have e9:x 9=sndOf (x 7):=hp.post 9 dC;obtain⟨e10,z10,A10⟩:=hp.post 10 dC;have l10:=hp.lo 10 dC;have lc:=hp.lo 6 dC;have bel:=zac hp.bel;have ap:=hp.apart 6 dC 10 dC dC;rw[←e7,e6]at e8;rw[←e7,e6]at e9
     replace e9:x 9=r:=e9
     rw[e6]at e7
     replace e7:=e7.symm
     replace e8:x 8=a:=e8
     have y0:=A10.c0;have f0:=A10.frozen 0;have y1:=A10.c1;have f1:=A10.frozen 1;have y2:=A10.c2;have f2:=A10.frozen 2;obtain⟨ba,bc,rfl,rfl,hR⟩:=R6;have hb10:wo.1.size<=(iw 10).1:=l10.1;have HFI:Hid (AtC W (iw 10).1 95 #[.bool false,.slice none 0 0,.string ⟨#[]⟩]/\RSl w (.slice ba bss.length bc) bss/\Below wo.1.size wo W/\wo.1.size<=(iw 10).1):=⟨A10,hR,bel,hb10⟩
     clear hp A10 hR bel ap lc l10 z10 hb10;simp only[e7,e8,e10,e9]at*;generalize (iw 10).1=bw at*;go_wp2_with fail
     exact cQ27
    ·intro qa hqa l hl x iw W hp;simp only[List.mem_cons,List.not_mem_nil,or_false]at hqa;subst hqa;simp only[List.mem_cons,List.not_mem_nil,or_false]at hl;obtain⟨a,r,e6,R6⟩:=hp.post 6 dC;obtain⟨e7,-⟩:=hp.post 7 dC;have e8:x 8=fstOf (x 7):=hp.post 8 dC;obtain⟨e10,z10,A10⟩:=hp.post 10 dC;have l10:=hp.lo 10 dC;have lc:=hp.lo 6 dC;have bel:=zac hp.bel;have ap:=hp.apart 6 dC 10 dC dC;rw[←e7,e6]at e8;rw[e6]at e7
     replace e7:=e7.symm
     replace e8:x 8=a:=e8
     have y0:=A10.c0;have f0:=A10.frozen 0;have y1:=A10.c1;have f1:=A10.frozen 1;have y2:=A10.c2;have f2:=A10.frozen 2;obtain⟨ba,bc,rfl,rfl,hR⟩:=R6;have hb10:wo.1.size<=(iw 10).1:=l10.1;have HFI:Hid (AtC W (iw 10).1 95 #[.bool false,.slice none 0 0,.string ⟨#[]⟩]/\RSl w (.slice ba bss.length bc) bss/\Below wo.1.size wo W/\wo.1.size<=(iw 10).1):=⟨A10,hR,bel,hb10⟩
     clear hp A10 hR bel ap lc l10 z10 hb10;simp only[e7,e8,e10]at*;generalize (iw 10).1=bw at*;rcases hl with rfl|rfl
     ·go_wp2_with fail
      exact cQ27
     ·go_wp2_with fail
      exact cQ27
   case rest =>
    obtain⟨bw,ba,bc,rfl,rfl,Aw,Rw,Bw,lw⟩:=hcut;have HN2:Hid (NmR w wc #[.slice a1 xs.length c1,.slice a2 ys.length c2,.slice (some ⟨g2,o2,none⟩) is.length c3,.slice a4 bs.length c4] #[.int .i64 2,.int .i64 ln,.slice (some ⟨gp,op,none⟩) ps.length sc] bw lv l/\AtC wc bw 95 #[.bool bd,.slice ba bss.length bc,.string btx]/\l.length<=4*q+0/\l=(nmdP bs (ps.take q)).map (·.1)++(nmdS (bss.take 0)).map (·.1)):=⟨(HR.o.1.below Bw).turn (fun k hk=>by have:=(HR.o.1.o.lt k hk).2;omega),Aw,HR.o.2.1,by rw[HR.o.2.2];simp[nmdS]⟩
    have HRS:=hide Rw;clear Aw Rw Bw CB HR HWR lw;go_wp2_with fail
    go_loopw [5,10] (fun x5 kk wr=>∃(lv:Value)(l:List ByteArray)(t:Nat),lv=x5/\t<=bss.length/\kk=.int .i64 t/\Hid (NmR w wr #[.slice a1 xs.length c1,.slice a2 ys.length c2,.slice (some ⟨g2,o2,none⟩) is.length c3,.slice a4 bs.length c4] #[.int .i64 2,.int .i64 ln,.slice (some ⟨gp,op,none⟩) ps.length sc] bw lv l/\AtC wr bw 95 #[.bool bd,.slice ba bss.length bc,.string btx]/\l.length<=4*q+t/\l=(nmdP bs (ps.take q)).map (·.1)++(nmdS (bss.take t)).map (·.1)/\(bd=true\/t=0))) (fun _ kk _=>bss.length-(intOf kk).toNat)
    case atStart=>exact⟨lv,l,0,rfl,Nat.zero_le _,rfl,HN2.o.1,HN2.o.2.1,HN2.o.2.2.1,HN2.o.2.2.2,.inr rfl⟩
    case round =>
     clear HN2;obtain⟨lv',l',t,hlv,ht,rfl,HS⟩:=hrel;subst hlv;have g0:=HS.o.2.1.c0;have g1:=HS.o.2.1.c1;have t0:(0:Int)<=(t:Int):=by omega
     have hq2:q<2:=by omega
     by_cases htl:t<bss.length
     rotate_left
     ·have t1:¬((t:Int)<(bss.length:Int)):=by omega
      go_wp2;go_roundw
      case rel =>
       refine⟨lv',l',q+1,rfl,by omega,by go_num,HS.o.1.turn (fun k hk=>by have:=(HS.o.1.o.lt k hk).1;omega),by have:=HS.o.2.2.1;omega,?_⟩;rw[HTK.o,List.map_append,HS.o.2.2.2.1,List.take_of_length_le (show bss.length<=t by omega)];rcases HS.o.2.2.2.2 with rfl|e
       ·rfl
       ·have:bss=[]:=List.length_eq_zero_iff.1 oM;subst this
        cases bd<;>rfl
      case measure=>simp[intOf];omega
     have t1:(t:Int)<(bss.length:Int):=by omega
     cases bd with
     | false =>
      go_wp2;go_roundw
      case rel =>
       refine⟨lv',l',q+1,rfl,by omega,by go_num,HS.o.1.turn (fun k hk=>by have:=(HS.o.1.o.lt k hk).1;omega),by have:=HS.o.2.2.1;omega,?_⟩;rcases HS.o.2.2.2.2 with e|e
       ·cases e
       ·subst e;rw[HTK.o,List.map_append,HS.o.2.2.2.1];rfl
      case measure=>simp[intOf];omega
     | true =>
     obtain⟨sa',sc',e1,-,hcs⟩:=HRS.o;simp only[Value.slice.injEq,true_and]at e1;obtain⟨rfl,rfl⟩:=e1;obtain⟨gs,os,rfl,hgs,ks0,ks1⟩:=hcs t htl;obtain⟨sn,hsn⟩:∃sn,bss[t].1=sn:=⟨_,rfl⟩
     rw[hsn]at ks0;have HTS:=hide (zib htl);have HSN:=hide hsn
     replace ks0:=(HS.o.1.b.cell (p:=⟨gs,os+t*2,none⟩) hgs).trans ks0
     clear hcs hsn ks1;by_cases hse:sn=⟨#[]⟩
     ·subst hse;go_wp2;go_roundw
      case rel =>
       refine⟨lv',l',t+1,rfl,by omega,by go_num,HS.o.1,HS.o.2.1,by have:=HS.o.2.2.1;omega,?_,by simp⟩;rw[HTS.o,HS.o.2.2.2.1,if_pos HSN.o,List.append_nil]
      case measure=>simp[intOf];omega
     have hse2:(sn.toList==([]:List UInt8))=false:=zd0 hse;have hse3:(sn.toList != ([]:List UInt8))=true:=by simp[bne,hse2]
     have HT:Hid (ROwns (wr.alloc (.cells #[.string sn] 9)) (w.1.size+1) 9 lv' (stc l')):=HS.o.1.o.alloc _;have HK2:Hid ((wr.alloc (.cells #[.string sn] 9)).cell? ⟨wr.1.size,0,none⟩=some (.string sn)):=(AtC.new wr 9 #[.string sn]).cell 0;have HSZ:Hid (w.1.size+1<=(wr.alloc (.cells #[.string sn] 9)).1.size):=by have:=HS.o.1.b.size;show _<=_;simp;omega
     have HTL:Hid ((stc l').length<=100000000000):=by have:=HS.o.2.2.1;show _<=_;rw[zaf];omega
     have HAL:Hid (Below wr.1.size wr (wr.alloc (.cells #[.string sn] 9))):=(Below.refl _ wr).alloc nR _;go_wp2_with (at_builtin;refine wpList_step fun K' hK'=>?_;refine zak _ rfl (.tmp 70) (.tmp 77) 44 rfl (w.1.size+1) 9 Tryz.u44 _ 16 Tryz.i9 rfl dC lv' _ rfl HT.o HSZ.o wr.1.size (.string sn) rfl HK2.o rfl HTL.o ?_;intro v12 w12 T12 G12 V12;refine hK' _ _ ?_;have HR12:=hide (And.intro T12 (And.intro G12 V12));clear T12 G12 V12 hK')
     have HRL:Hid (NmR w w12 #[.slice a1 xs.length c1,.slice a2 ys.length c2,.slice (some ⟨g2,o2,none⟩) is.length c3,.slice a4 bs.length c4] #[.int .i64 2,.int .i64 ln,.slice (some ⟨gp,op,none⟩) ps.length sc] bw v12 (l'++[sn])/\AtC w12 bw 95 #[.bool true,.slice (some ⟨gs,os,none⟩) bss.length bc,.string btx]/\(l'++[sn]).length<=4*q+(t+1)/\l'++[sn]=(nmdP bs (ps.take q)).map (·.1)++(nmdS (bss.take (t+1))).map (·.1)):=by
      obtain⟨T12,G12,V12⟩:=HR12.o;have n1:=HS.o.1.below HAL.o;have hbw:bw<(wr.alloc (.cells #[.string sn] 9)).1.size:=(HS.o.2.1.over HAL.o).lt;refine⟨n1.app (by rw[za3];exact T12) G12 V12 hbw,(HS.o.2.1.over HAL.o).grown G12 (fun e=>(HS.o.1.n _ e).2 rfl),by have:=HS.o.2.2.1;simp;omega,?_⟩;rw[HTS.o,HS.o.2.2.2.1,if_neg (by rw[HSN.o];exact hse),List.map_append,List.append_assoc,List.map_cons,List.map_nil,HSN.o]
     go_roundw
     case rel=>exact⟨v12,l'++[sn],t+1,rfl,by omega,by go_num,HRL.o.1,HRL.o.2.1,HRL.o.2.2.1,HRL.o.2.2.2,by simp⟩
     case measure=>simp[intOf];omega
theorem zna(x:Int)(dx dy iv bv:Value)(xs ys:List Bool)(is:List Ino)(bs:List Blk)(w:World)(h:DR w dx dy iv bv xs ys is bs)(hi:is.length=8)(hbl:bs.length<=1048576)(hp:∀q∈is,q.2.2.length<=2)(hk:∀q∈bs,q.2.1.length<=4):
  Calls Tryz.prog 26 #[.agg #[dx,dy,iv,bv],.int .i64 x] w fun e w'=>TxR w.1.size w' e/\Below w.1.size w w':=by
 refine(zj4 x dx dy iv bv xs ys is bs w h hi hbl hp hk).mono ?_;rintro e w' ⟨lv,rfl,O,B⟩;refine⟨TxR.mk ⟨lv,_,rfl,O,?_⟩,B⟩;rw[List.length_map];unfold named
 split
 ·have h1:=zdm (m:=4) (f:=fun p=>nmd (blkAt bs p)) (zbg is x) (fun p _=>by
   unfold nmd
   split
   ·exact Nat.le_trans (List.length_filter_le _ _) (zfq hk p)
   ·simp)
  have h2:(zbg is x).length<=2:=by
   unfold zbg
   split
   ·rename_i hin;obtain⟨q1,q2⟩:=zas hin;have hj:(x-1).toNat<is.length:=by omega
    rw[List.getD_eq_getElem?_getD,List.getElem?_eq_getElem hj];exact hp _ (List.getElem_mem hj)
   ·simp
  show(nmdP bs (zbg is x)).length<=100;have e:nmdP bs (zbg is x)=(zbg is x).flatMap (fun p=>nmd (blkAt bs p)):=rfl;rw[e];have:=Nat.mul_le_mul_right 4 h2;omega
 ·simp
variable {Z : ZT}
theorem zk3(T:Nat->Prop)(b:Nat)(x y:Int)(w:World)(h:BT Z w T b)(hT:∀k,w.1.size<=k->T k):
  Calls Tryz.prog 213 #[.pointer (some ⟨b,0,none⟩),.int .i64 x,.int .i64 y] w fun e w'=>e=.returned (.tuple #[])/\BT Z w' T b/\Chg T w w':=by
 obtain⟨S,u,v,iv,bv,dv,pv,m,hP,hSL,hLb,hS⟩:=h;obtain⟨a1,c1,a2,c2,a3,c3,a4,c4,a5,c5,a6,c6,rfl,rfl,rfl,rfl,rfl,rfl⟩:=hP.form;obtain⟨x0,x1,x2,x3,x4,x5,x6⟩:=AtC.sev hP.box;have HP:=hide hP;have HS:=hide hS;have HLB:Hid (T b/\b<w.1.size):=⟨hLb,hP.box.lt⟩
 have HTT:=hide hT;have q5:w.frozen? ⟨b,0,none⟩=false:=hP.box.frozen 0;clear hP hS hSL hLb hT;go_enter Tryz.func213,Tryz.ntmps213
 go_wp2_with fail
 refine(zdu x _ _ _ _ _ _ m w HP.o.mr HS.o.big).mono ?_;rintro e w2 ⟨u1,u2,u3,u4,u5,u6,rfl,O2,B2⟩;obtain⟨b1,d1,b2,d2,b3,d3,b4,d4,b5,d5,b6,d6,rfl,rfl,rfl,rfl,rfl,rfl⟩:=O2.mr.form;obtain⟨n,hn⟩:∃n,({ m with ds:=zbo x m.ds }:MD).ds.length=n:=⟨_,rfl⟩
 rw[hn]at O2;simp only[hn];have A2:=HP.o.box.over B2;have hn40:n<=40:=by rw[←hn];exact(zd8 HS.o x).l
 obtain⟨W3,hW3⟩:∃W3,(((((((w2.setCell ⟨b,0,none⟩ (.slice b1 m.1.length d1)).setCell ⟨b,1,none⟩ (.slice b2 m.2.length d2)).setCell ⟨b,2,none⟩ (.slice b3 m.3.length d3)).setCell ⟨b,3,none⟩ (.slice b4 m.4.length d4)).setCell ⟨b,4,none⟩ (.slice b5 m.5.length d5)).setCell ⟨b,5,none⟩ (.slice b6 n d6)).setCell ⟨b,6,none⟩ (.int .i64 m.nx))=W3:=⟨_,rfl⟩
 have HH:Hid (PM W3 (fun k=>w.1.size<=k) b (.slice b1 m.1.length d1) (.slice b2 m.2.length d2) (.slice b3 m.3.length d3) (.slice b4 m.4.length d4) (.slice b5 m.5.length d5) (.slice b6 n d6) { m with ds:=zbo x m.ds }/\Sh Z { m with ds:=zbo x m.ds }/\({ m with ds:=zbo x m.ds }:MD).ds.length=n/\Chg T w W3):=by
  rw[←hW3];exact⟨PM.store A2 O2 (by have:=HLB.o;omega),zd8 HS.o x,hn,((((((((Chg.of_below B2).setCell HLB.o.1 _).setCell HLB.o.1 _).setCell HLB.o.1 _).setCell HLB.o.1 _).setCell HLB.o.1 _).setCell HLB.o.1 _).setCell HLB.o.1 _)⟩
 have r0:=A2.c0;have v0:=A2.frozen 0;have r1:=A2.c1;have v1:=A2.frozen 1;have r2:=A2.c2;have v2:=A2.frozen 2;have r3:=A2.c3;have v3:=A2.frozen 3;have r4:=A2.c4;have v4:=A2.frozen 4;have r5:=A2.c5;have v5:=A2.frozen 5;have r6:=A2.c6;have v6:=A2.frozen 6;have y5:=HH.o.1.box.c5;clear A2 O2 B2 hn q5 x0 x1 x2 x3 x4 x5 x6;go_wp2;go_loopw [6] (fun i wr=>∃j:Nat,j<=n/\i=.int .i64 j/\Hid (∃m':MD,PM wr (fun k=>w.1.size<=k) b (.slice b1 m.1.length d1) (.slice b2 m.2.length d2) (.slice b3 m.3.length d3) (.slice b4 m.4.length d4) (.slice b5 m.5.length d5) (.slice b6 n d6) m'/\Sh Z m'/\m'.6.length=n/\Chg T w wr)) (fun i _=>n-(intOf i).toNat)
 case atStart=>exact⟨0,Nat.zero_le _,rfl,_,HH.o⟩
 case round =>
  obtain⟨j,hj,rfl,HR⟩:=hrel;obtain⟨m',q1,q2,q3,q4⟩:=HR.o;have y5:=q1.box.c5;by_cases hlt:j<n
  ·have hj2:j<m'.6.length:=by omega
   have hdk:=q2.dd _ (List.getElem_mem hj2);obtain⟨g,c,p,e1,nn,-,hz,gS,hglt,hset⟩:=q1.dep_at j hj2;rw[q3]at e1;simp only[Value.slice.injEq,true_and]at e1;obtain⟨rfl,rfl⟩:=e1;obtain⟨X,hX⟩:∃X,m'.ds[j]=X:=⟨_,rfl⟩
   rw[hX]at nn hset hdk;obtain⟨id,kd,io,pt,bk,sl,nm,bt,ot,af,bl⟩:=X;simp only[DCells]at nn;obtain⟨-,n1,-,-,n4,-,-,-,-,n9,-⟩:=nn;have f9:=hz (j*11+9);have H0:Hid (∃M',PM wr (fun k=>w.1.size<=k) b (.slice b1 m.1.length d1) (.slice b2 m.2.length d2) (.slice b3 m.3.length d3) (.slice b4 m.4.length d4) (.slice b5 m.5.length d5) (.slice (some ⟨g,0,none⟩) n d6) M'/\Sh Z M'/\M'.ds.length=n/\Chg T w wr):=⟨m',q1,q2,q3,q4⟩
   have HE:Hid (∃W9,wr.setCell ⟨g,j*11+9,none⟩ (.int .i64 y)=W9/\W9.cell? ⟨b,5,none⟩=some (.slice (some ⟨g,0,none⟩) n d6)/\W9.cell? ⟨g,j*11+4,none⟩=some (.int .i64 bk)/\Hid (∃M',PM W9 (fun k=>w.1.size<=k) b (.slice b1 m.1.length d1) (.slice b2 m.2.length d2) (.slice b3 m.3.length d3) (.slice b4 m.4.length d4) (.slice b5 m.5.length d5) (.slice (some ⟨g,0,none⟩) n d6) M'/\Sh Z M'/\M'.ds.length=n/\Chg T w W9)):=by
    have P9:=hset 9 (.int .i64 y) (⟨id,kd,io,pt,bk,sl,nm,bt,ot,y,bl⟩:Dp) dC rfl rfl;have hj9:j<(m'.ds.set j (⟨id,kd,io,pt,bk,sl,nm,bt,ot,y,bl⟩:Dp)).length:=by rw[List.length_set];exact hj2
    obtain⟨g2,c2',p2,e2,nn2,-⟩:=P9.dep_at j hj9;have e3:({ m' with ds:=m'.ds.set j (⟨id,kd,io,pt,bk,sl,nm,bt,ot,y,bl⟩:Dp) }:MD).ds[j]'hj9=⟨id,kd,io,pt,bk,sl,nm,bt,ot,y,bl⟩:=by show(m'.ds.set j _)[j]'_=_;simp
    simp only[Value.slice.injEq,Option.some.injEq,Addr.mk.injEq,and_true]at e2;obtain⟨rfl,-,-⟩:=e2;rw[e3]at nn2;simp only[DCells]at nn2;obtain⟨-,-,-,-,z4,-⟩:=nn2;refine⟨_,rfl,P9.box.cell 5,z4,_,P9,q2.deps (by rw[List.length_set];exact q2.l) (fun q hq=>(List.mem_or_eq_of_mem_set hq).elim (q2.dd q) (fun e=>e ▸ ⟨⟨hdk.io,hdk.pt,hdk.bk,hdk.sl,hdk.bl,hdk.bn,hdk.nm⟩,hdk.id⟩)) (zd7 _ j hj2 _ (by rw[hX];exact⟨Iff.rfl,fun _=>⟨rfl,rfl⟩⟩)),by show(m'.ds.set j _).length=n;rw[List.length_set];exact q3,q4.setCell (HTT.o _ gS) _⟩
   have j0:(0:Int)<=(j:Int):=by omega
   have j1:(j:Int)<(n:Int):=by omega
   clear q1 q2 q3 q4 HR hX hset hdk hz gS;by_cases h1:kd=4
   ·subst h1;by_cases h2:af=x
    ·subst h2;obtain⟨W9,hW9,a5,a4',HW⟩:=HE.o;by_cases h3:y=0
     ·subst h3;obtain⟨U,hU⟩:∃U,uoB bk=U:=⟨_,rfl⟩
      have CU:Hid (∀W,Calls Tryz.prog 203 #[.int .i64 bk] W fun e w'=>e=.returned (.int .i64 U)/\w'=W):=fun W=>by rw[←hU];exact zbl bk W
      clear hU;go_wp2_with fail
      refine(CU.out _).mono ?_;rintro e w9 ⟨rfl,rfl⟩;go_wp2_with fail
      obtain⟨M',r1,r2,r3,r4⟩:=HW.o;refine(zb1 _ b U _ _ _ _ _ _ M' _ r1).mono ?_;rintro e w10 ⟨rfl,P10,C10⟩;have HZ:Hid (∃M',PM w10 (fun k=>w.1.size<=k) b (.slice b1 m.1.length d1) (.slice b2 m.2.length d2) (.slice b3 m.3.length d3) (.slice b4 m.4.length d4) (.slice b5 m.5.length d5) (.slice (some ⟨g,0,none⟩) n d6) M'/\Sh Z M'/\M'.ds.length=n/\Chg T w w10):=⟨_,P10,r2.mark U,by rw[show(markU U M').ds=M'.ds by unfold markU;split<;>rfl];exact r3,r4.trans (C10.mono HTT.o)⟩
      clear r1 r2 r3 r4 P10 C10;go_wp2;go_roundw
      case rel=>exact⟨j+1,by omega,by go_num,HZ.o⟩
      case measure=>simp[intOf];omega
     ·exact cQ114
    ·exact cQ42
   ·exact cQ42
  ·have HF:Hid (BT Z wr T b/\Chg T w wr):=⟨⟨_,_,_,_,_,_,_,m',q1,HTT.o,HLB.o.1,q2⟩,q4⟩
   exact cQ92
variable {Z : ZT}
def PutR(Z:ZT)(lo hi:Nat)(w:World)(a r:Value):Prop:=∃(n1:Option Addr)(o1:Nat)(n2:Option Addr)(o2:Nat)(n3:Option Addr)(o3:Nat)(n4:Option Addr)(o4:Nat)(n5:Option Addr)(o5:Nat)(n6:Option Addr)(o6:Nat)(mn:MD)(rr:Int),a=.agg (M7 mn n1 o1 n2 o2 n3 o3 n4 o4 n5 o5 n6 o6)/\r=.int .i64 rr/\N7 w (fun k=>lo<=k/\k<hi) mn n1 o1 n2 o2 n3 o3 n4 o4 n5 o5 n6 o6/\Sh Z mn/\0<=rr/\rr<=99999
theorem PutR.below{Z:ZT}(lo hi:Nat)(w w':World)(a r:Value)(h:PutR Z lo hi w a r)(hb:Below w.1.size w w'):PutR Z lo hi w' a r:=by
 obtain⟨n1,o1,n2,o2,n3,o3,n4,o4,n5,o5,n6,o6,mn,rr,h1,h2,h3,h4⟩:=h;exact⟨n1,o1,n2,o2,n3,o3,n4,o4,n5,o5,n6,o6,mn,rr,h1,h2,h3.below hb nR,h4⟩
theorem zj5(T:Nat->Prop)(b j t:Nat)(by_:Int)(S:Nat->Prop)(u v iv bv dv pv:Value)(m:MD)(w:World)(hP:PM w S b u v iv bv dv pv m)(hST:∀k,S k->T k)(hTb:T b)(hT:∀k,w.1.size<=k->T k)(hm:Sh Z m)(hj:j<m.4.length)(ht:t<m.bs[j].2.1.length)(hio:1<=m.bs[j].2.1[t].2/\m.bs[j].2.1[t].2<=8):
  Calls Tryz.prog 206 #[.pointer (some ⟨b,0,none⟩),.int .i64 ((j:Int)+1),.int .i64 (t:Int),.int .i64 by_] w fun e w'=>e=.returned (.tuple #[])/\BT Z w' T b/\Chg T w w':=by
 replace hP:=hP.bound
 obtain⟨g,c,gs,cs,rfl,r0,r1,q1,q2,-,gS,gl,-⟩:=hP.slotAt j hj t ht;obtain⟨a1,c1,a2,c2,a3,c3,a4,c4,a5,c5,a6,c6,rfl,rfl,rfl,e4,rfl,rfl⟩:=hP.form;clear e4 a4 c4;have hkk:=hm.bb _ (List.getElem_mem hj);have hs4:=hkk.m;have hso:=hkk.s _ (List.getElem_mem ht);have hj16:j<16:=by rw[←hm.b];exact hj
 obtain⟨nm,hnm⟩:∃nm,m.bs[j].2.1[t].1=nm:=⟨_,rfl⟩
 obtain⟨io,hi⟩:∃io,m.bs[j].2.1[t].2=io:=⟨_,rfl⟩
 rw[hnm]at q1;rw[hi]at q2 hio;have HNM:Hid (nm.size<=6):=by rw[←hnm];exact hso.1
 have HHT:Hid (t<m.bs[j].2.1.length):=ht;obtain⟨sl,hsl⟩:∃sl,m.bs[j].2.1.length=sl:=⟨_,rfl⟩
 have HSL:=hide hsl;rw[hsl]at r1 hs4;have htl:t<sl:=by rw[←hsl];exact ht
 have HSH:Hid (Sh Z { m with bs:=m.bs.set j (m.bs[j].1,m.bs[j].2.1.set t (⟨#[]⟩,0),m.bs[j].2.2) }):=hm.block j ⟨⟨fun e=>by rw[List.length_set];exact hkk.n e,by rw[List.length_set];exact hkk.m,fun s hs=>(List.mem_or_eq_of_mem_set hs).elim (hkk.s s) (fun e=>e ▸ ⟨Nat.zero_le _,.inl ⟨rfl,rfl⟩⟩),hkk.t⟩,fun e=>by have e0:=hkk.f e;rw[e0]at ht;exact absurd ht (Nat.not_lt_zero t),hkk.e,fun s hs=>(List.mem_or_eq_of_mem_set hs).elim (hkk.q s) (fun e=>e ▸ .inl ⟨rfl,rfl⟩),hkk.u.set (.inl rfl)⟩;have hwj:IntKind.i64.wrap (j:Int)=(j:Int):=wrap_small _ oM oM;have j0:(0:Int)<=(j:Int):=by omega
 have j1:(j:Int)<(m.4.length:Int):=by omega
 have t0:(0:Int)<=(t:Int):=by omega
 have t1:(t:Int)<(sl:Int):=by omega
 have HIO:=hide hio;have HP:=hide hP;have HM:=hide hm;have HTB:Hid (T b/\b<w.1.size):=⟨hTb,hP.box.lt⟩
 have HSS:Hid (∀k,(S k/\k<w.1.size)->T k/\k≠w.1.size):=fun k hk=>⟨hST k hk.1,by have:=hk.2;omega⟩
 have HTT:Hid (∀k,(w.alloc (.cells #[.string nm,.int .i64 io] 90)).1.size<=k->T k/\k≠w.1.size):=fun k hk=>by simp at hk;exact⟨hT k oM,by omega⟩
 have HKK:Hid (∀W,Chg (fun k=>T k/\k≠w.1.size) (w.alloc (.cells #[.string nm,.int .i64 io] 90)) W->AtC W w.1.size 90 #[.string nm,.int .i64 io]/\Chg T w W/\w.1.size+1<=W.1.size):=fun W hc=>⟨(hc.block _ sI (fun e=>e.2 rfl)).trans (AtC.new w 90 #[.string nm,.int .i64 io]),(Chg.of_below ((Below.refl _ w).alloc nR _)).trans (hc.mono fun k hk=>hk.1),by have:=hc.size;simp at this;exact this⟩
 have x3:=hP.box.c3;have y0:(w.alloc (.cells #[.string nm,.int .i64 io] 90)).cell? ⟨b,0,none⟩=some (.slice a1 m.1.length c1):=(hP.alloc _).box.cell 0;have y1:(w.alloc (.cells #[.string nm,.int .i64 io] 90)).cell? ⟨b,1,none⟩=some (.slice a2 m.2.length c2):=(hP.alloc _).box.cell 1;have y2:(w.alloc (.cells #[.string nm,.int .i64 io] 90)).cell? ⟨b,2,none⟩=some (.slice a3 m.3.length c3):=(hP.alloc _).box.cell 2;have y3:(w.alloc (.cells #[.string nm,.int .i64 io] 90)).cell? ⟨b,3,none⟩=some (.slice (some ⟨g,0,none⟩) m.4.length c):=(hP.alloc _).box.cell 3;have y4:(w.alloc (.cells #[.string nm,.int .i64 io] 90)).cell? ⟨b,4,none⟩=some (.slice a5 m.5.length c5):=(hP.alloc _).box.cell 4;have y5:(w.alloc (.cells #[.string nm,.int .i64 io] 90)).cell? ⟨b,5,none⟩=some (.slice a6 m.6.length c6):=(hP.alloc _).box.cell 5;have y6:(w.alloc (.cells #[.string nm,.int .i64 io] 90)).cell? ⟨b,6,none⟩=some (.int .i64 m.nx):=(hP.alloc _).box.cell 6;clear hP hm hio hkk hso hnm hi hsl hST hTb hT gS ht;go_enter Tryz.func206,Tryz.ntmps206
 go_wp2_with fail
 generalize hw1:(w.alloc (.cells #[.string nm,.int .i64 io] 90))=W1 at*;have HP1:Hid (P7 W1 (fun k=>S k/\k<w.1.size) b m a1 c1 a2 c2 a3 c3 (some ⟨g,0,none⟩) c a5 c5 a6 c6):=by rw[←hw1];exact HP.o.alloc _
 have HLW:Hid (w.1.size<W1.1.size):=by rw[←hw1];show _<_;simp
 clear hw1 HP r0 r1 q1 q2 x3;refine(zfo ((j:Int)+1) t _ _ _ _ _ _ m W1 HP1.o.mr (Nat.le_trans HM.o.l dC)).mono ?_;rintro e w2 ⟨⟨id,rfl⟩,B2⟩;have HP2:Hid (P7 w2 (fun k=>S k/\k<w.1.size) b m a1 c1 a2 c2 a3 c3 (some ⟨g,0,none⟩) c a5 c5 a6 c6):=HP1.o.below B2;have HC2:Hid (Chg (fun k=>T k/\k≠w.1.size) W1 w2):=Chg.of_below B2;clear B2 y0 y1 y2 y3 y4 y5 y6 HP1;go_wp2_with fail
 refine(kind_any _ b id _ _ _ _ _ _ m w2 HP2.o (Nat.le_trans HM.o.l dC)).mono ?_;rintro e w2' ⟨⟨kd,rfl⟩,hw2⟩;rw[hw2];clear hw2 w2';obtain⟨g',c',gs',cs',e5,r0,r1,q1,q2,fz,gS,gl',hput⟩:=HP2.o.slotAt j hj t HHT.o;simp only[Value.slice.injEq,Option.some.injEq,Addr.mk.injEq,true_and,and_true]at e5;obtain⟨rfl,rfl⟩:=e5;rw[HSL.o]at r1;obtain⟨rv1,q1⟩:∃rv,w2.cell? ⟨gs',t*2,none⟩=some rv:=⟨_,q1⟩
 obtain⟨rv2,q2⟩:∃rv,w2.cell? ⟨gs',t*2+1,none⟩=some rv:=⟨_,q2⟩
 have hst:=hput ⟨#[]⟩ 0;have HB3:Hid (BT Z ((w2.setCell ⟨gs',t*2,none⟩ (.string ⟨#[]⟩)).setCell ⟨gs',t*2+1,none⟩ (.int .i64 0)) (fun k=>T k/\k≠w.1.size) b/\Chg (fun k=>T k/\k≠w.1.size) W1 ((w2.setCell ⟨gs',t*2,none⟩ (.string ⟨#[]⟩)).setCell ⟨gs',t*2+1,none⟩ (.int .i64 0))):=by
  have sg:=HSS.o gs' gS;exact⟨⟨_,_,_,_,_,_,_,_,hst,HSS.o,⟨HTB.o.1,by have:=HTB.o.2;omega⟩,HSH.o⟩,(HC2.o.setCell sg _).setCell sg _⟩
 have f1:=fz (t*2);have f2:=fz (t*2+1);have z3:=HP2.o.box.c3;obtain⟨U,hU⟩:∃U,uoB ((j:Int)+1)=U:=⟨_,rfl⟩
 have CU:Hid (∀W,Calls Tryz.prog 203 #[.int .i64 ((j:Int)+1)] W fun e w'=>e=.returned (.int .i64 U)/\w'=W):=fun W=>by rw[←hU];exact zbl _ W
 clear hU fz hput hst HP2 HC2 HSH;go_wp2_with fail
 generalize ((w2.setCell ⟨gs',t*2,none⟩ (.string ⟨#[]⟩)).setCell ⟨gs',t*2+1,none⟩ (.int .i64 0))=W3 at*;clear r0 r1 q1 q2 f1 f2 z3;refine(CU.out _).mono ?_;rintro e w3' ⟨rfl,hw3⟩;rw[hw3];clear hw3 w3';go_wp2_with fail
 refine(zdw _ b U W3 HB3.o.1).mono ?_;rintro e w4 ⟨rfl,b4,c4⟩;have HB4:Hid (BT Z w4 (fun k=>T k/\k≠w.1.size) b/\Chg (fun k=>T k/\k≠w.1.size) W1 w4):=⟨b4,HB3.o.2.trans c4⟩
 have HT4:Hid (∀k,w4.1.size<=k->T k/\k≠w.1.size):=fun k hk=>HTT.o k (by have:=HB4.o.2.size;omega);clear b4 c4 HB3 CU;go_upto_region 5 with fail
 go_cut [57]from 13 to 57 (fun c wx=>(∃r,c=.bool r)/\w4=wx)
 case first =>
  by_cases h2:kd=2
  ·subst h2;go_wp2_with fail
   go_meet
   exact⟨⟨_,rfl⟩,rfl⟩
  ·have h2b:(kd==2)=false:=by simp[h2]
   exact cQ57
 case rest =>
  obtain⟨⟨r,rfl⟩,rfl⟩:=hcut
  cases r
  case true =>
   go_wp2_with fail
   refine(zk3 _ b id by_ w4 HB4.o.1 HT4.o).mono ?_;rintro e w5 ⟨rfl,b5,c5⟩;have HB5:Hid (BT Z w5 (fun k=>T k/\k≠w.1.size) b/\Chg (fun k=>T k/\k≠w.1.size) W1 w5):=⟨b5,HB4.o.2.trans c5⟩
   have HT5:Hid (∀k,w5.1.size<=k->T k/\k≠w.1.size):=fun k hk=>HTT.o k (by have:=HB5.o.2.size;omega);have k1:=(HKK.o w5 HB5.o.2).1.c1;clear b5 c5 HB4 HT4;go_wp2_with fail
   refine(zg2 _ b io w5 HB5.o.1 HT5.o HIO.o.1 HIO.o.2).mono ?_;rintro e w6 ⟨rfl,b6,c6⟩;have HF:Hid (BT Z w6 T b/\Chg T w w6):=⟨b6.mono fun k hk=>hk.1,(HKK.o w6 (HB5.o.2.trans c6)).2.1⟩
   clear b6 c6 HB5 HT5;go_wp2;exact bodyPost_ret (results_none rfl _ _ _) rfl ⟨rfl,HF.o⟩
  case false =>
   obtain⟨S4,pu,pv,pi,pb,pd,pp,mp,hP4,hS4,hTb4,hmp⟩:=HB4.o.1;obtain⟨p1,r1,p2,r2,p3,r3,p4,r4,p5,r5,p6,r6,rfl,rfl,rfl,rfl,rfl,rfl⟩:=hP4.form;obtain⟨y0,y1,y2,y3,y4,y5,y6⟩:=AtC.sev hP4.box;have HK4:=hide (HKK.o w4 HB4.o.2).1;have k0:=HK4.o.c0;have k1:=HK4.o.c1;have AA:=HK4.o.over ((Below.refl _ w4).alloc nR (.cells E7 33));have ka0:=AA.c0;have ka1:=AA.c1;have ya0:=(hP4.alloc (.cells E7 33)).box.c0;have ya1:=(hP4.alloc (.cells E7 33)).box.c1;have ya2:=(hP4.alloc (.cells E7 33)).box.c2;have ya3:=(hP4.alloc (.cells E7 33)).box.c3;have ya4:=(hP4.alloc (.cells E7 33)).box.c4;have ya5:=(hP4.alloc (.cells E7 33)).box.c5;have ya6:=(hP4.alloc (.cells E7 33)).box.c6;clear AA;have HP4:=hide hP4;have HMP:=hide hmp;have HDO:Hid (DOkN ⟨mp.nx,4,io,0,(j:Int)+1,(t:Int),nm,false,false,by_,[]⟩):=⟨HIO.o,by simp,⟨by show(0:Int)<=(j:Int)+1;omega,by show(j:Int)+1<=16;omega⟩,⟨by show(0:Int)<=(t:Int);omega,by show(t:Int)<=3;omega⟩,fun p hp=>by simp at hp,by simp,HNM.o⟩
   clear hP4 hS4 hTb4 hmp;go_upto_region 8 with fail
   go_cut [11]from 66 to 80 (fun c wx=>∃(bn:Nat)(u' v' i' b' d' p':Value)(mn:MD),c=.pointer (some ⟨bn,0,none⟩)/\AtC wx bn 33 #[u',v',i',b',d',p',.int .i64 mn.nx]/\MO wx (fun k=>w4.1.size<=k) u' v' i' b' d' p' mn/\Sh Z mn/\Below w4.1.size w4 wx)
   case first =>
    refine zbd kL [0,1,2,3,4,5,6,7,8,9,10,11,12,13,14,15] [16,17] [([0,1,2,3,4,5,6,7,8,9,10,11,12,13,15],[[14,16,17],[16,14,17]])] (fun i=>match i with|0=>.const [] (.pointer (some ⟨b,0,none⟩))|1=>.const [0] (.pointer (some ⟨b,0,none⟩))|2=>.const [1] (.agg (M7 mp p1 r1 p2 r2 p3 r3 p4 r4 p5 r5 p6 r6))|3=>.const [] (.pointer (some ⟨w.1.size,1,none⟩))|4=>.const [3] (.int .i64 io)|5=>.const [] (.int .i64 ((j:Int)+1))|6=>.const [] (.int .i64 (t:Int))|7=>.const [] (.pointer (some ⟨w.1.size,0,none⟩))|8=>.const [7] (.string nm)|9=>.const [] (.int .i64 by_)|10=>.const [4,5,6,8,9] (.agg (K7 0 4 io 0 ((j:Int)+1) (t:Int) nm false false by_ none 0 0))|11=>MkT2 [2,10] (PutR Z) PutR.below|12=>MkMv 11|13=>MkFs 12|14=>MkSd 12|15=>MkW 33 E7|_=>.triv) (fun x=>⟨List.toArray ((.pointer (some ⟨b,0,none⟩))::(.int .i64 (↑j+1))::(.int .i64 ↑t)::(.int .i64 by_)::undef::undef::undef::undef::(.pointer (some ⟨w.1.size,0,none⟩))::(.int .i64 id)::(.int .i64 kd)::(x 15)::undef::u13::u14::u15::u16::u17::u18::u19::u20::u21::u22::u23::u24::u25::u26::u27::u28::u29::u30::u31::u32::u33::u34::u35::u36::u37::u38::u39::u40::u41::u42::u43::u44::u45::u46::u47::u48::u49::u50::u51::u52::u53::u54::u55::u56::(.bool false)::undef::undef::undef::undef::undef::undef::undef::undef::(x 12)::(x 0)::(x 1)::(x 2)::(x 3)::(x 4)::(x 5)::(x 6)::(x 7)::(x 8)::(x 9)::(x 10)::(x 11)::(x 13)::(x 14)::undef::undef::undef::[]),[]⟩) (fun i=>match i with|0=>undef|1=>undef|2=>undef|3=>undef|4=>undef|5=>undef|6=>undef|7=>undef|8=>undef|9=>undef|10=>undef|11=>undef|12=>undef|13=>undef|14=>undef|15=>undef|_=>undef) rfl (za9 kL kL) kL kL kL rfl ?_ ?_ ?_
    ·intro jo hj so x iw W hd hp K hK;simp only[List.mem_cons,List.not_mem_nil,or_false]at hj;rcases hj with rfl|rfl|rfl|rfl|rfl|rfl|rfl|rfl|rfl|rfl|rfl|rfl|rfl|rfl|rfl|rfl<;>refine wpOp_step (o:=_) rfl fun K' hK'=>?_<;>have HK:=hide (fun(v:Value) (W':World) h1 h2=>hK' _ _ (hK v W' h1 h2))<;>simp only[upd,Nat.reduceEqDiff,if_true,if_false]at HK
     ·exact cQ10
     ·exact cQ45
     ·have e1:x 1=.pointer (some ⟨b,0,none⟩):=hp.post 1 (hd 1 mz0);have bw:=zac hp.bel;have k0:=HP4.o.box.over bw;obtain⟨q0,q1,q2,q3,q4,q5,q6⟩:=AtC.sev k0;clear k0 bw;simp only[e1]at HK ⊢;go_simp;exact HK.o _ _ bR rfl
     ·exact cQ10
     ·have e3:x 3=.pointer (some ⟨w.1.size,1,none⟩):=hp.post 3 (hd 3 mz0);have bw:=zac hp.bel;have q0:=(HK4.o.over bw).c1;clear bw;simp only[e3]at HK ⊢;go_simp;exact HK.o _ _ bR rfl
     ·exact cQ10
     ·exact cQ10
     ·exact cQ10
     ·have e7:x 7=.pointer (some ⟨w.1.size,0,none⟩):=hp.post 7 (hd 7 mz0);have bw:=zac hp.bel;have q0:=(HK4.o.over bw).c0;clear bw;simp only[e7]at HK ⊢;go_simp;exact HK.o _ _ bR rfl
     ·exact cQ10
     ·have e4:x 4=.int .i64 io:=hp.post 4 (hd 4 mz0);have e5:x 5=.int .i64 ((j:Int)+1):=hp.post 5 (hd 5 mz1);have e6:x 6=.int .i64 (t:Int):=hp.post 6 (hd 6 mz2);have e8:x 8=.string nm:=hp.post 8 (hd 8 mz3);have e9:x 9=.int .i64 by_:=hp.post 9 (hd 9 mz4);simp only[e4,e5,e6,e8,e9]at HK ⊢;go_simp;exact HK.o _ _ bR rfl
     ·have e2:x 2=.agg (M7 mp p1 r1 p2 r2 p3 r3 p4 r4 p5 r5 p6 r6):=hp.post 2 (hd 2 mz0);have e10:x 10=.agg (K7 0 4 io 0 ((j:Int)+1) (t:Int) nm false false by_ none 0 0):=hp.post 10 (hd 10 mz1);have HM4:Hid (R7 W mp p1 r1 p2 r2 p3 r3 p4 r4 p5 r5 p6 r6):=(HP4.o.below (zac hp.bel)).mr;simp only[e2,e10]at HK ⊢;clear e2 e10;go_simp;refine(zfc 0 4 io 0 ((j:Int)+1) t nm false false by_ [] _ _ _ _ _ _ _ mp W HM4.o HMP.o ⟨none,0,rfl,fun j hj=>by simp at hj⟩ HDO.o (fun e=>absurd e dC)).mono ?_;rintro e wn ⟨u1,u2,u3,u4,u5,u6,mn,rr,rfl,On,hSn,hr0,hr9,Bn⟩;obtain⟨n1,o1,n2,o2,n3,o3,n4,o4,n5,o5,n6,o6,rfl,rfl,rfl,rfl,rfl,rfl⟩:=On.mr.form;go_simp;exact HK.o _ _ Bn ⟨_,_,rfl,_,_,_,_,_,_,_,_,_,_,_,_,mn,rr,rfl,rfl,On.bound,hSn,hr0,hr9⟩
     ·have e11:∃a r,x 11=.tuple #[a,r]/\PutR Z (iw 11).1 (iw 11).2 W a r:=hp.post 11 (hd 11 mz0);obtain⟨a,r,e11,-⟩:=e11;have ea:=hide e11;simp only[e11]at HK ⊢;clear e11;go_simp;exact HK.o _ _ bR ⟨ea.out,a,r,rfl⟩
     ·have e12:x 11=x 12/\∃a r,x 12=.tuple #[a,r]:=hp.post 12 (hd 12 mz0);obtain⟨-,a,r,e12⟩:=e12;have ea:Hid (a=fstOf (x 12)):=by rw[e12];rfl
      simp only[e12]at HK ⊢;clear e12;go_simp;exact HK.o _ _ bR ea.out
     ·have e12:x 11=x 12/\∃a r,x 12=.tuple #[a,r]:=hp.post 12 (hd 12 mz0);obtain⟨-,a,r,e12⟩:=e12;have ea:Hid (r=sndOf (x 12)):=by rw[e12];rfl
      simp only[e12]at HK ⊢;clear e12;go_simp;exact HK.o _ _ bR ea.out
     ·exact cQ67
    ·intro x iw W hp;obtain⟨a,r,e11,R11⟩:=hp.post 11 dC;obtain⟨e12,-⟩:=hp.post 12 dC;have e13:x 13=fstOf (x 12):=hp.post 13 dC;have e14:x 14=sndOf (x 12):=hp.post 14 dC;obtain⟨e15,z15,A15⟩:=hp.post 15 dC;have l15:=hp.lo 15 dC;have lc:=hp.lo 11 dC;have bel:=zac hp.bel;have ap:=hp.apart 11 dC 15 dC dC;rw[←e12,e11]at e13;rw[←e12,e11]at e14
     replace e14:x 14=r:=e14
     rw[e11]at e12
     replace e12:=e12.symm
     replace e13:x 13=a:=e13
     have y0:=A15.c0;have f0:=A15.frozen 0;have y1:=A15.c1;have f1:=A15.frozen 1;have y2:=A15.c2;have f2:=A15.frozen 2;have y3:=A15.c3;have f3:=A15.frozen 3;have y4:=A15.c4;have f4:=A15.frozen 4;have y5:=A15.c5;have f5:=A15.frozen 5;have y6:=A15.c6;have f6:=A15.frozen 6;obtain⟨n1,o1,n2,o2,n3,o3,n4,o4,n5,o5,n6,o6,mn,rr,rfl,rfl,On,hSn,-,-⟩:=R11;have HFI:Hid (AtC W (iw 15).1 33 E7/\N7 W (fun k=>(iw 11).1<=k/\k<(iw 11).2) mn n1 o1 n2 o2 n3 o3 n4 o4 n5 o5 n6 o6/\Sh Z mn/\Below w4.1.size w4 W/\((iw 11).2<=(iw 15).1\/(iw 15).1<(iw 11).1)/\w4.1.size<=(iw 11).1/\w4.1.size<=(iw 15).1):=⟨A15,On,hSn,bel,by omega,by have:=lc.1;exact this,by have:=l15.1;exact this⟩
     clear hp A15 On hSn bel ap lc l15 z15;simp only[e12,e13,e15,e14]at*;generalize (iw 15).1=bn at*;generalize (iw 11).1=lo at*;generalize (iw 11).2=hi at*;go_wp2_with fail
     exact cQ26
    ·intro qa hqa l hl x iw W hp;simp only[List.mem_cons,List.not_mem_nil,or_false]at hqa;subst hqa;simp only[List.mem_cons,List.not_mem_nil,or_false]at hl;obtain⟨a,r,e11,R11⟩:=hp.post 11 dC;obtain⟨e12,-⟩:=hp.post 12 dC;have e13:x 13=fstOf (x 12):=hp.post 13 dC;obtain⟨e15,z15,A15⟩:=hp.post 15 dC;have l15:=hp.lo 15 dC;have lc:=hp.lo 11 dC;have bel:=zac hp.bel;have ap:=hp.apart 11 dC 15 dC dC;rw[←e12,e11]at e13;rw[e11]at e12
     replace e12:=e12.symm
     replace e13:x 13=a:=e13
     have y0:=A15.c0;have f0:=A15.frozen 0;have y1:=A15.c1;have f1:=A15.frozen 1;have y2:=A15.c2;have f2:=A15.frozen 2;have y3:=A15.c3;have f3:=A15.frozen 3;have y4:=A15.c4;have f4:=A15.frozen 4;have y5:=A15.c5;have f5:=A15.frozen 5;have y6:=A15.c6;have f6:=A15.frozen 6;obtain⟨n1,o1,n2,o2,n3,o3,n4,o4,n5,o5,n6,o6,mn,rr,rfl,rfl,On,hSn,-,-⟩:=R11;have HFI:Hid (AtC W (iw 15).1 33 E7/\N7 W (fun k=>(iw 11).1<=k/\k<(iw 11).2) mn n1 o1 n2 o2 n3 o3 n4 o4 n5 o5 n6 o6/\Sh Z mn/\Below w4.1.size w4 W/\((iw 11).2<=(iw 15).1\/(iw 15).1<(iw 11).1)/\w4.1.size<=(iw 11).1/\w4.1.size<=(iw 15).1):=⟨A15,On,hSn,bel,by omega,by have:=lc.1;exact this,by have:=l15.1;exact this⟩
     clear hp A15 On hSn bel ap lc l15 z15;simp only[e12,e13,e15]at*;generalize (iw 15).1=bn at*;generalize (iw 11).1=lo at*;generalize (iw 11).2=hi at*;rcases hl with rfl|rfl
     ·go_wp2_with fail
      exact cQ26
     ·go_wp2_with fail
      exact cQ26
   case rest =>
    obtain⟨bn,u1,u2,u3,u4,u5,u6,mn,rfl,An,On,hSn,Bn⟩:=hcut;obtain⟨n1,o1,n2,o2,n3,o3,n4,o4,n5,o5,n6,o6,rfl,rfl,rfl,rfl,rfl,rfl⟩:=On.mr.form;have A2:=HP4.o.box.over Bn;have r0:=A2.c0;have v0:=A2.frozen 0;have r1:=A2.c1;have v1:=A2.frozen 1;have r2:=A2.c2;have v2:=A2.frozen 2;have r3:=A2.c3;have v3:=A2.frozen 3;have r4:=A2.c4;have v4:=A2.frozen 4;have r5:=A2.c5;have v5:=A2.frozen 5;have r6:=A2.c6;have v6:=A2.frozen 6;obtain⟨s0,s1,s2,s3,s4,s5,s6⟩:=AtC.sev An;have hF:=zh6 (w:=w4) (T:=(fun k=>T k/\k≠w.1.size)) A2 On (Chg.of_below Bn) hSn ⟨HTB.o.1,by have:=HTB.o.2;omega⟩ HP4.o.box.lt HT4.o;have HF:Hid (BT Z (((((((wc.setCell ⟨b,0,none⟩ (.slice n1 mn.1.length o1)).setCell ⟨b,1,none⟩ (.slice n2 mn.2.length o2)).setCell ⟨b,2,none⟩ (.slice n3 mn.3.length o3)).setCell ⟨b,3,none⟩ (.slice n4 mn.4.length o4)).setCell ⟨b,4,none⟩ (.slice n5 mn.5.length o5)).setCell ⟨b,5,none⟩ (.slice n6 mn.6.length o6)).setCell ⟨b,6,none⟩ (.int .i64 mn.nx)) T b/\Chg T w (((((((wc.setCell ⟨b,0,none⟩ (.slice n1 mn.1.length o1)).setCell ⟨b,1,none⟩ (.slice n2 mn.2.length o2)).setCell ⟨b,2,none⟩ (.slice n3 mn.3.length o3)).setCell ⟨b,3,none⟩ (.slice n4 mn.4.length o4)).setCell ⟨b,4,none⟩ (.slice n5 mn.5.length o5)).setCell ⟨b,5,none⟩ (.slice n6 mn.6.length o6)).setCell ⟨b,6,none⟩ (.int .i64 mn.nx))):=⟨hF.1.mono fun k hk=>hk.1,(HKK.o _ (HB4.o.2.trans hF.2)).2.1⟩
    clear A2 On hSn Bn An hF y0 y1 y2 y3 y4 y5 y6 ya0 ya1 ya2 ya3 ya4 ya5 ya6 ka0 ka1 k0 k1 HK4 HB4 HT4 HP4 HMP HDO;go_wp2
    go_end0
    exact⟨rfl,HF.o⟩
theorem FindP.slot{m:MD}(hm:Sh Z0 m){nm:ByteArray}{B s k:Int}(h:FindP m.is m.bs nm B s k)(hk:k≠0):
  ∃(jb t:Nat)(hj:jb<m.4.length)(ht:t<m.bs[jb].2.1.length),B=(jb:Int)+1/\s=(t:Int)/\m.bs[jb].2.1[t].2=k/\1<=k/\k<=8/\jb<16/\m.xs[jb]?=some true:=by
 obtain⟨h1,h2⟩:=h;rcases h1 with⟨-,-,e⟩| ⟨hb,-,t,ht,e1,e2,e3,e4⟩
 ·exact absurd e hk
 ·obtain⟨x,hx,hp⟩:=h2 hk;obtain⟨jb,hj,eB,eb⟩:=zbw hb;have ht':t<m.bs[jb].2.1.length:=by rw[←eb];exact ht
  have ek:m.bs[jb].2.1[t].2=k:=by
   rw[e2];simp only[eb]
  have hs:=(hm.bb _ (List.getElem_mem hj)).s _ (List.getElem_mem ht');have hj16:jb<16:=by rw[←hm.b];exact hj
  have hr:1<=k/\k<=8:=by
   rcases hs.2 with⟨-,e⟩| e
   ·exact absurd (ek ▸ e) hk
   ·rw[ek]at e;exact e
  have hxt:=hm.k.ptr hx hp oM oM;refine⟨jb,t,hj,ht',eB,e1,ek,hr.1,hr.2,hj16,?_⟩;rw[eB]at hxt;rw[show((jb:Int)+1).toNat-1=jb by omega]at hxt;exact hxt
theorem zk4(u v iv bv dv pv:Value)(m:MD)(p:ByteArray)(w:World)(h:MR w u v iv bv dv pv m)(hm:Sh Z0 m)(hp:p.size<=1048576):
  Calls Tryz.prog 170 #[.agg #[u,v,iv,bv,dv,pv,.int .i64 m.nx],.string p] w fun e w'=>CallR w.1.size w' e/\Below w.1.size w w':=by
 obtain⟨a1,c1,a2,c2,a3,c3,a4,c4,a5,c5,a6,c6,rfl,rfl,rfl,rfl,rfl,rfl⟩:=h.form;obtain⟨qa,qc,qe,-,qh⟩:=h.d.i;simp only[Value.slice.injEq,true_and]at qe;obtain⟨rfl,rfl⟩:=qe;obtain⟨g2,o2,⟨q0,q1,q2⟩,rfl,-⟩:=qh 0 (by rw[hm.i];decide);have HIN:Hid (∀(W:World)(j:Nat)(hj:j<m.3.length),Below w.1.size w W->∃ta tc,W.cell? ⟨g2,o2+j*3,none⟩=some (.int .i64 m.is[j].1)/\W.cell? ⟨g2,o2+j*3+1,none⟩=some (.int .i64 m.is[j].2.1)/\W.cell? ⟨g2,o2+j*3+2,none⟩=some (.slice ta m.is[j].2.2.length tc)/\RInts W (.slice ta m.is[j].2.2.length tc) m.is[j].2.2):=fun W j hj hb=>by
  exact cQ15
 clear qh q0 q1 q2;obtain⟨W0,hW0⟩:∃W0,((w.alloc (.cells (M7 m a1 c1 a2 c2 (some ⟨g2,o2,none⟩) c3 a4 c4 a5 c5 a6 c6) 33)).alloc (.cells E7 33))=W0:=⟨_,rfl⟩
 have HB0:Hid (Below w.1.size w W0/\W0.1.size=w.1.size+1+1/\AtC W0 w.1.size 33 (M7 m a1 c1 a2 c2 (some ⟨g2,o2,none⟩) c3 a4 c4 a5 c5 a6 c6)/\AtC W0 (w.1.size+1) 33 E7):=by
  exact cQ12
 have HH:=hide h;have HM:=hide hm;obtain⟨x0,x1,x2,x3,x4,x5,x6⟩:=AtC.sev HB0.o.2.2.1;have HM0:Hid (R7 W0 m a1 c1 a2 c2 (some ⟨g2,o2,none⟩) c3 a4 c4 a5 c5 a6 c6):=HH.o.below HB0.o.1 nR;clear h hm;go_enter Tryz.func170,Tryz.ntmps170
 go_wp2_with fail
 refine(zax _ _ _ _ _ _ m W0 HM0.o HM.o.big).mono ?_;rintro e w1 ⟨u1,u2,u3,u4,u5,u6,rfl,O1,B1⟩;obtain⟨s1,t1,s2,t2,s3,t3,s4,t4,s5,t5,s6,t6,rfl,rfl,rfl,rfl,rfl,rfl⟩:=O1.mr.form;obtain⟨W2,hW2⟩:∃W2,w1.alloc (.cells (M7 m s1 t1 s2 t2 s3 t3 s4 t4 s5 t5 s6 t6) 33)=W2:=⟨_,rfl⟩
 obtain⟨b2,hb2⟩:∃b2,w1.1.size=b2:=⟨_,rfl⟩
 have HC:Hid (∀W,Below W2.1.size W2 W->AtC W w.1.size 33 (M7 m a1 c1 a2 c2 (some ⟨g2,o2,none⟩) c3 a4 c4 a5 c5 a6 c6)/\AtC W (w.1.size+1) 33 E7/\AtC W b2 33 (M7 m s1 t1 s2 t2 s3 t3 s4 t4 s5 t5 s6 t6)/\N7 W (fun k=>w.1.size+1+1<=k/\k<b2) m s1 t1 s2 t2 s3 t3 s4 t4 s5 t5 s6 t6/\Below w.1.size w W/\w.1.size+1+1<=b2/\b2<W.1.size):=fun W b=>by
  exact cQ11
 have HB2:Hid (Below W2.1.size W2 W2):=Below.refl _ _;clear O1 B1 HM0 x0 x1 x2 x3 x4 x5 x6 hW0 HB0;go_wp2_with fail
 refine(zdc p W2 hp).mono ?_;rintro e w3 ⟨⟨dn,nm,q1,rfl,hdn,hnm,-⟩,B3⟩;have HB3:Hid (Below W2.1.size W2 w3):=B3;clear B3 hW2 hb2;have hdn2:dn.size<=1048576:=by omega
 obtain⟨x0,x1,x2,x3,x4,x5,x6⟩:=AtC.sev ((HC.o w3 HB3.o).1);have HM3:Hid (R7 w3 m a1 c1 a2 c2 (some ⟨g2,o2,none⟩) c3 a4 c4 a5 c5 a6 c6):=HH.o.below (HC.o w3 HB3.o).2.2.2.2.1 nR;go_wp2_with fail
 refine(zb4 _ _ _ _ _ _ m w3 HM3.o HM.o).mono ?_;rintro e w4 ⟨⟨q2,rfl⟩,B4⟩;have HB4:Hid (Below W2.1.size W2 w4):=HB3.o.trans (B4.mono HB3.o.size);clear B4 HM3 HB3 x0 x1 x2 x3 x4 x5 x6
 cases q2 with
 | false =>
  exact cQ1
 | true =>
 cases q1 with
 | false =>
  exact cQ1
 | true =>
 have HXW:Hid (∀W,Below w4.1.size w4 W->(W.cell? ⟨w.1.size,0,none⟩=some (.slice a1 m.1.length c1)/\W.cell? ⟨w.1.size,1,none⟩=some (.slice a2 m.2.length c2)/\W.cell? ⟨w.1.size,2,none⟩=some (.slice (some ⟨g2,o2,none⟩) m.3.length c3)/\W.cell? ⟨w.1.size,3,none⟩=some (.slice a4 m.4.length c4))/\DR W (.slice a1 m.1.length c1) (.slice a2 m.2.length c2) (.slice (some ⟨g2,o2,none⟩) m.3.length c3) (.slice a4 m.4.length c4) m.xs m.ys m.is m.bs/\Below W2.1.size W2 W):=fun W b=>by
  have b2:=HB4.o.trans (b.mono HB4.o.size);have k:=HC.o W b2;exact⟨⟨k.1.cell 0,k.1.cell 1,k.1.cell 2,k.1.cell 3⟩,(HH.o.below k.2.2.2.2.1 nR).d,b2⟩
 obtain⟨x0,x1,x2,x3,x4,x5,x6⟩:=AtC.sev ((HC.o w4 HB4.o).1);go_upto_region 5 with fail
 go_cut [10,11,12]from 22 to 41 (fun c1 c2 c3 wx=>(∃B s k:Int,c1=.int .i64 B/\c2=.int .i64 s/\c3=.int .i64 k/\FindP m.is m.bs nm B s k)/\Below W2.1.size W2 wx)
 case first =>
  clear x4 x5 x6
  go_region_with (first| (go_at_call 193;refine(zcm _ _ _ _ m.xs m.ys m.is m.bs dn _ (HXW.o _ (zac bR)).2.1 HM.o.big.d HM.o.i hdn2).mono ?_;rintro e w5 ⟨⟨i5,rfl,-,-⟩,B5⟩;have HB5:=hide (zac B5);obtain⟨⟨n0,n1,n2,n3⟩,-,-⟩:=HXW.o w5 (zac B5);clear B5)| (go_at_call 204;refine(zic i5 nm _ _ _ _ m.xs m.ys m.is m.bs _ (HXW.o _ HB5.o).2.1 HM.o.big.d).mono ?_;rintro e w6 ⟨B,s,k,rfl,FP,B6⟩;have HF6:=hide (And.intro FP (HB5.o.trans (B6.mono HB5.o.size)));clear FP B6))
  all_goals (go_wp2_with fail;go_meet;exact⟨⟨_,_,_,rfl,rfl,rfl,HF6.o.1⟩,(HXW.o _ HF6.o.2).2.2⟩)
 case rest =>
  obtain⟨⟨B,s,i,rfl,rfl,rfl,hFP⟩,hb6⟩:=hcut;obtain⟨w6,hw6⟩:∃w6,w6=wc:=⟨_,rfl⟩
  subst hw6;have HB6:=hide hb6;have HFP:=hide hFP;clear hb6 hFP HXW x0 x1 x2 x3 x4 x5 x6;by_cases hiz:i=0
  ·exact cQ19
  have hib:(i==0)=false:=beq_eq_false_iff_ne.mpr hiz;obtain⟨jb,tt,hjb,htt,rfl,rfl,hk,hi1,hi8,hj16,-⟩:=FindP.slot HM.o HFP.o hiz;have HSL:Hid (1<=m.bs[jb].2.1[tt].2/\m.bs[jb].2.1[tt].2<=8):=by rw[hk];exact⟨hi1,hi8⟩
  obtain⟨j,rfl⟩:∃j:Nat,i=(j:Int)+1:=⟨(i-1).toNat,by omega⟩
  have hj8:j<8:=by omega
  have hj:j<m.3.length:=by rw[HM.o.i];exact hj8
  have hwj:IntKind.i64.wrap (j:Int)=(j:Int):=wrap_small _ oM oM;have j0:(0:Int)<=(j:Int):=by omega
  have j1:(j:Int)<(m.3.length:Int):=by omega
  obtain⟨x0,x1,x2,x3,x4,x5,x6⟩:=AtC.sev ((HC.o w6 HB6.o).1);have HM6:Hid (R7 w6 m a1 c1 a2 c2 (some ⟨g2,o2,none⟩) c3 a4 c4 a5 c5 a6 c6):=HH.o.below (HC.o w6 HB6.o).2.2.2.2.1 nR;have HIP:Hid ((∀q∈m.is,q.2.2.length<=2)/\(∀q∈m.bs,q.2.1.length<=4)):=⟨fun q hq=>by rw[(HM.o.ii q hq).n];decide,fun q hq=>(HM.o.bb q hq).m⟩
  have HBL:Hid (m.4.length<=1048576):=by show _<=_;rw[HM.o.b];decide
  clear hk hiz;go_upto_region 8 with fail
  go_cut [70]from 42 to 70 (fun c wx=>(∃r,c=.bool r)/\Below W2.1.size W2 wx)
  case first =>
   go_wp2_with fail
   refine(zna ((j:Int)+1) _ _ _ _ m.xs m.ys m.is m.bs w6 HM6.o.d HM.o.i HBL.o HIP.o.1 HIP.o.2).mono ?_;rintro e w7 ⟨⟨lv,ll,rfl,L7,hl7⟩,B7⟩;have HB7:Hid (Below W2.1.size W2 w7):=HB6.o.trans (B7.mono HB6.o.size);obtain⟨la,lc,rfl,-⟩:=L7.form;obtain⟨n7,hn7⟩:∃n7,(stc ll).length=n7:=⟨_,rfl⟩
   rw[hn7];clear B7 L7 hn7 HM6 HB6 x0 x1 x2 x3 x4 x5 x6;have HP7:Hid (∀W,Below W2.1.size W2 W->P7 W (fun k=>w.1.size+1+1<=k/\k<b2) b2 m s1 t1 s2 t2 s3 t3 s4 t4 s5 t5 s6 t6):=fun W bb=>by
    obtain⟨-,-,k3,k4,-⟩:=HC.o W bb;exact⟨k3,k4,fun e=>by have:w.1.size+1+1<=b2/\b2<b2:=e;omega⟩
   by_cases hn:0<n7
   ·have hn1:(0:Int)<(n7:Int):=by omega
    go_wp2_with fail
    go_meet
    exact⟨⟨_,rfl⟩,HB7.o⟩
   have hn1:¬(0:Int)<(n7:Int):=by omega
   obtain⟨pa,pc,i0,-,-,-⟩:=HIN.o w7 j hj (HC.o w7 HB7.o).2.2.2.2.1;obtain⟨kd,hkd⟩:∃kd,m.is[j].1=kd:=⟨_,rfl⟩
   rw[hkd]at i0;clear hkd;obtain⟨x0,x1,x2,x3,x4,x5,x6⟩:=AtC.sev ((HC.o w7 HB7.o).1);by_cases hkd:kd=2
   ·subst hkd;have HM7:Hid (R7 w7 m a1 c1 a2 c2 (some ⟨g2,o2,none⟩) c3 a4 c4 a5 c5 a6 c6):=HH.o.below (HC.o w7 HB7.o).2.2.2.2.1 nR;go_wp2_with fail
    refine(held_any _ _ _ _ _ _ m ((j:Int)+1) w7 HM7.o HM.o oM oM).mono ?_;rintro e w8 ⟨⟨r8,rfl⟩,B8⟩;have HB8:Hid (Below W2.1.size W2 w8):=HB7.o.trans (B8.mono HB7.o.size);clear B8 HM7 HB7 x0 x1 x2 x3 x4 x5 x6 i0
    cases r8 with
    | true =>
     go_wp2_with fail
     go_meet
     exact⟨⟨_,rfl⟩,HB8.o⟩
    | false =>
     go_wp2_with fail
     refine(zdz _ b2 _ _ _ _ _ _ m w8 (HP7.o w8 HB8.o)).mono ?_;rintro e w9' ⟨⟨rr,rfl⟩,hw9⟩;rw[hw9];clear hw9 w9';go_wp2_with fail
     go_meet
     exact⟨⟨_,rfl⟩,HB8.o⟩
   ·have hkb:(kd==2)=false:=beq_eq_false_iff_ne.mpr hkd;go_wp2_with fail
    refine(zdz _ b2 _ _ _ _ _ _ m w7 (HP7.o w7 HB7.o)).mono ?_;rintro e w9' ⟨⟨rr,rfl⟩,hw9⟩;rw[hw9];clear hw9 w9';go_wp2_with fail
    go_meet
    exact⟨⟨_,rfl⟩,HB7.o⟩
  case rest =>
   obtain⟨⟨r,rfl⟩,hb7⟩:=hcut;obtain⟨w7,hw7⟩:∃w7,w7=wc:=⟨_,rfl⟩
   subst hw7;have HB7:=hide hb7;clear hb7 HM6 HIP HBL HB6 x0 x1 x2 x3 x4 x5 x6
   cases r with
   | true =>
    exact cQ3
   | false =>
   obtain⟨x0,x1,x2,x3,x4,x5,x6⟩:=AtC.sev ((HC.o w7 HB7.o).1);have HMC:Hid (R7 w7 m a1 c1 a2 c2 (some ⟨g2,o2,none⟩) c3 a4 c4 a5 c5 a6 c6):=HH.o.below (HC.o w7 HB7.o).2.2.2.2.1 nR;go_wp2_with fail
   refine(zax _ _ _ _ _ _ m w7 HMC.o HM.o.big).mono ?_;rintro e w8 ⟨u1,u2,u3,u4,u5,u6,rfl,O8,B8⟩;obtain⟨n1,o1,n2,o2',n3,o3,n4,o4,n5,o5,n6,o6,rfl,rfl,rfl,rfl,rfl,rfl⟩:=O8.mr.form;obtain⟨W9,hW9⟩:∃W9,w8.alloc (.cells (M7 m n1 o1 n2 o2' n3 o3 n4 o4 n5 o5 n6 o6) 33)=W9:=⟨_,rfl⟩
   obtain⟨bo,hbo⟩:∃bo,w8.1.size=bo:=⟨_,rfl⟩
   have HP9:Hid (P7 W9 (fun k=>w7.1.size<=k/\k<bo) bo m n1 o1 n2 o2' n3 o3 n4 o4 n5 o5 n6 o6/\Below w7.1.size w7 W9/\w7.1.size<=bo/\bo<W9.1.size):=by
    exact cQ55
   have HB9:Hid (Below W2.1.size W2 W9):=HB7.o.trans (HP9.o.2.1.mono HB7.o.size);clear O8 B8 HMC;have HT9:Hid ((∀k,(w7.1.size<=k/\k<bo)->w7.1.size<=k)/\w7.1.size<=bo/\(∀k,W9.1.size<=k->w7.1.size<=k)):=⟨fun k hk=>hk.1,HP9.o.2.2.1,fun k hk=>by have:=HP9.o.2.1.size;omega⟩
   go_wp2_with fail
   refine(zj5 (fun k=>w7.1.size<=k) bo jb tt 0 _ _ _ _ _ _ _ m W9 HP9.o.1 HT9.o.1 HT9.o.2.1 HT9.o.2.2 HM.o hjb htt HSL.o).mono ?_;rintro e w12 ⟨rfl,⟨SA,u',v',iv',bv',dv',pv',ma,PA,hSA,-,hmA⟩,c12⟩;have HB12:Hid (Below W2.1.size W2 w12):=by
    have b12:=HP9.o.2.1.trans (c12.below HP9.o.2.1.size (fun k hk=>hk));exact HB7.o.trans (b12.mono HB7.o.size)
   obtain⟨h1,k1,h2,k2,h3,k3,h4,k4,h5,k5,h6,k6,rfl,rfl,rfl,rfl,rfl,rfl⟩:=PA.form;have HZ:Hid (w.1.size+1+1<=w7.1.size):=by have:=(HC.o w7 HB7.o).2.2.2.2.2;show _<=_;omega
   clear c12 HP9 HT9 HB9 hW9 hbo x0 x1 x2 x3 x4 x5 x6;obtain⟨y0,y1,y2,y3,y4,y5,y6⟩:=AtC.sev PA.box;obtain⟨r0,r1,r2,r3,r4,r5,r6⟩:=AtC.sev ((HC.o w12 HB12.o).2.1);have v0:=(HC.o w12 HB12.o).2.1.frozen 0;have v1:=(HC.o w12 HB12.o).2.1.frozen 1;have v2:=(HC.o w12 HB12.o).2.1.frozen 2;have v3:=(HC.o w12 HB12.o).2.1.frozen 3;have v4:=(HC.o w12 HB12.o).2.1.frozen 4;have v5:=(HC.o w12 HB12.o).2.1.frozen 5;have v6:=(HC.o w12 HB12.o).2.1.frozen 6;have HF:=hide (And.intro PA.own (And.intro hSA hmA));clear PA hSA hmA;go_wp2;refine bodyPost_ret (v:=.tuple #[.agg (M7 ma h1 k1 h2 k2 h3 k3 h4 k4 h5 k5 h6 k6),.int .i64 0]) sR7 rfl ⟨⟨_,_,_,_,_,_,ma,_,rfl,(HF.o.1.of_heap fun k hk _=>zaa _ _ _ _ _ _ _ _ _ k (by have:=HF.o.2.1 k hk;have:=HZ.o;omega)).mono (fun k hk=>by have:=HF.o.2.1 k hk;have:=HZ.o;omega),HF.o.2.2⟩,zab (HC.o w12 HB12.o).2.2.2.2.1 oM _ _ _ _ _ _ _⟩
namespace Kit
theorem PM.lnkAt{w:World}{S:Nat->Prop}{b:Nat}{u v iv bv dv pv:Value}{m:MD}(h:PM w S b u v iv bv dv pv m)(j:Nat)(hj:j<m.3.length)(hp:m.is[j].2.2.length=2):
  ∃g c,iv=.slice (some ⟨g,0,none⟩) m.3.length c/\w.cell? ⟨g,j*3+1,none⟩=some (.int .i64 m.is[j].2.1)/\w.frozen? ⟨g,j*3+1,none⟩=false/\S g/\g<w.1.size /\
   ∀z:Int,PM (w.setCell ⟨g,j*3+1,none⟩ (.int .i64 z)) S b u v iv bv dv pv { m with is:=m.is.set j (m.is[j].1,z,m.is[j].2.2) }:=by
 obtain⟨g,c,gs,cs,rfl,k0,k2,kt,kf,kS,kl,hput⟩:=h.ptrAt j hj 0 oM;obtain⟨g',c',p',e1,q0,q1,q2,-,qf,ql,qS⟩:=h.inoAt j hj;simp only[Value.slice.injEq,Option.some.injEq,Addr.mk.injEq,true_and,and_true]at e1;obtain⟨rfl,rfl⟩:=e1;refine⟨g,c,rfl,q1,qf _,qS,ql,fun z=>?_⟩;obtain⟨S1,S2,S3,ts,k1,k2',k3,k4,k5,k6,k7⟩:=h.own;obtain⟨T1,T2,T3,ti,tb,z1,z2,z3,z4,z5,z6,z7⟩:=k1;have hl:=z3.len;obtain⟨g3,c3,e3,r0,r1,r2,fz,gl,-⟩:=z3.row.at j oM;simp only[Value.slice.injEq,Option.some.injEq,Addr.mk.injEq,and_true]at e3;obtain⟨rfl,-,rfl⟩:=e3;obtain⟨i1,i2,i3⟩:=z3.inn j oM hj;have gT:T2 g:=z3.so g rfl;have sS1:S1 g:=z7 g (.inr (.inl gT));have un:∀k,k≠g->(w.setCell ⟨g,j*3+1,none⟩ (.int .i64 z)).1[k]?=w.1[k]?:=fun k hk=>heap_setCell_other _ ⟨g,j*3+1,none⟩ k _ hk;have hj':j<ti.length:=by omega
 have row:=z3.row;rw[←hl]at row;have rs:=row.set1 j hj' (.int .i64 z);rw[hl]at rs;have nG:∀k,(ti[j]'hj').2.2.ownBlock=some k->k≠g:=fun k hk e=>by
  subst e;exact z3.out j hj' k hk rfl
 have hlen:ti.length=m.3.length:=hl;have zz:=z3.turn (w':=w.setCell ⟨g,j*3+1,none⟩ (.int .i64 z)) (S':=T2) j oM (ti[j].1,.int .i64 z,ti[j].2.2) (m.is[j].1,z,m.is[j].2.2)
  rs
  ⟨i1,rfl,(i3.of_heap fun k hk=>un k (nG k hk))⟩
  (fun k h1 h2 hn=>un k fun q=>h2 (by rw[q];rfl))
  (fun k hk=>.inl hk) (fun k hk=>hk) (fun k hk=>z3.si j oM k hk)
 exact⟨(un b fun q=>h.nb (q ▸ qS)).trans h.box,⟨S1,S2,S3,ts,⟨T1,T2,T3,_,tb,⟨z1.a.of_heap fun k hk=>un k fun q=>(z5 k (z2 k (.inl hk))).1 (q ▸ gT),z1.b.of_heap fun k hk=>un k fun q=>(z5 k (z2 k (.inr hk))).1 (q ▸ gT),z1.ne⟩,z2,zz,z4.of_heap fun k hk _=>un k fun q=>z6 g gT (q ▸ hk),z5,z6,z7⟩,k2'.of_heap fun k hk=>un k fun q=>(k5 g sS1).1 (q ▸ k3 k hk),k3,k4.of_heap fun k hk _=>un k fun q=>(k5 g sS1).2 (q ▸ hk),k5,k6,k7⟩,h.nb⟩
end Kit
variable {Z : ZT}
theorem znb(b:Nat)(x:Int)(u v iv bv dv pv:Value)(m:MD)(w:World)(hbx:AtC w b 33 #[u,v,iv,bv,dv,pv,.int .i64 m.nx])(h:MR w u v iv bv dv pv m)(hl:m.6.length<=1048576):
  Calls Tryz.prog 223 #[.pointer (some ⟨b,0,none⟩),.int .i64 x] w fun e w'=>(∃k:Int,e=.returned (.int .i64 k))/\w'=w:=by
 obtain⟨a6,c6,rfl,-,ha⟩:=h.p;have x5:=hbx.c5;have HA:=hide ha;clear ha h;go_enter Tryz.func223,Tryz.ntmps223
 exact cQ25
theorem deep_any(u v iv bv dv pv:Value)(m:MD)(p:ByteArray)(w:World)(h:MR w u v iv bv dv pv m)(hm:Sh Z m)(hp:p.size<=1048576):
  Calls Tryz.prog 207 #[.agg #[u,v,iv,bv,dv,pv,.int .i64 m.nx],.string p] w fun e w'=>AnyB e/\Below w.1.size w w':=by
 obtain⟨a1,c1,a2,c2,a3,c3,a4,c4,a5,c5,a6,c6,rfl,rfl,rfl,rfl,rfl,rfl⟩:=h.form;have HH:=hide h;have HM:=hide hm;have HPP:=hide hp;have HW:Hid (∀W,Below (w.alloc (.cells (M7 m a1 c1 a2 c2 a3 c3 a4 c4 a5 c5 a6 c6) 33)).1.size (w.alloc (.cells (M7 m a1 c1 a2 c2 a3 c3 a4 c4 a5 c5 a6 c6) 33)) W->Below w.1.size w W/\AtC W w.1.size 33 (M7 m a1 c1 a2 c2 a3 c3 a4 c4 a5 c5 a6 c6)):=fun W bb=>⟨((Below.refl _ w).alloc nR _).trans (bb.mono sI),(AtC.new w 33 _).over bb⟩
 clear h hm hp;go_enter Tryz.func207,Tryz.ntmps207
 go_wp2_with fail
 refine(zdv p _ HPP.o).mono ?_;rintro e w1 ⟨⟨lv,l,r,rfl,O1,hl1,hl0,-⟩,B1⟩;obtain⟨la,lc,rfl,-⟩:=O1.form;obtain⟨ll,hll⟩:∃ll,(stc l).length=ll:=⟨_,rfl⟩
 have HL2:Hid (l.length=ll):=by show l.length=ll;rw[←hll,zaf]
 have hl4:ll<=4:=by
  rw[←hll,zaf]
  cases r with
  | true=>exact(hl1 rfl).1
  | false=>rw[hl0 rfl];decide
 rw[hll]at O1;rw[hll];clear hll;generalize hW0:(w.alloc (.cells (M7 m a1 c1 a2 c2 a3 c3 a4 c4 a5 c5 a6 c6) 33))=W0 at*;clear hW0;have HO1:=hide O1;have HB1:=hide B1;clear O1 hl1 hl0 B1;go_wp2_with fail
 go_loopw [8,7] (fun i' k' wr=>∃(q:Nat)(k:Int),q<=ll/\i'=.int .i64 q/\k'=.int .i64 k/\Hid (Below w1.1.size w1 wr)) (fun i' k' _=>ll-(intOf i').toNat)
 case atStart=>exact⟨0,1,Nat.zero_le _,rfl,rfl,Below.refl _ _⟩
 case round =>
  obtain⟨q,k,hq,rfl,rfl,HR⟩:=hrel;by_cases hlt:q<ll
  ·obtain⟨g,c,e9,kq9,hg⟩:=zc3 (HO1.o.below HR.o nR) q (by rw[HL2.o];exact hlt);rw[HL2.o]at e9;simp only[Value.slice.injEq,true_and]at e9;obtain⟨rfl,rfl⟩:=e9;obtain⟨nm,k9⟩:∃nm,wr.cell? ⟨g,q,none⟩=some (.string nm):=⟨_,kq9⟩
   have hbw:=HW.o wr (HB1.o.trans (HR.o.mono HB1.o.size));have HAL:Hid (∀W,Below wr.1.size wr W->AtC W w.1.size 33 (M7 m a1 c1 a2 c2 a3 c3 a4 c4 a5 c5 a6 c6)/\Below w.1.size w W/\Below w1.1.size w1 W):=fun W bb=>⟨hbw.2.over bb,hbw.1.trans (bb.mono hbw.1.size),HR.o.trans (bb.mono HR.o.size)⟩
   have A0:=hbw.2;obtain⟨x0,x1,x2,x3⟩:=AtC.four A0;have q0:(0:Int)<=(q:Int):=by omega
   have q1:(q:Int)<(ll:Int):=by omega
   clear A0 hbw hg kq9;go_upto_region 6 with fail
   go_cut [9,10,11]from 18 to 51 (fun c1 c2 c3 wx=>(∃k1 k2 k3:Int,c1=.int .i64 k1/\c2=.int .i64 k2/\c3=.int .i64 k3)/\Below wr.1.size wr wx)
   case first =>
    go_region_with (go_at_call 204;refine(find_any k nm _ _ _ _ m.xs m.ys m.is m.bs _ (HH.o.below (HAL.o _ (zac bR)).2.1 nR).d HM.o.big.d).mono ?_;rintro e w2 ⟨Bk,s2,k2,rfl,-,B2⟩;have HB2:=hide B2;clear B2)
    all_goals (go_wp2_with fail;go_meet;exact⟨⟨_,_,_,rfl,rfl,rfl⟩,zac HB2.o⟩)
   case rest =>
    obtain⟨⟨k1,k2,k3,rfl,rfl,rfl⟩,hb2⟩:=hcut;obtain⟨A2,b2,b3⟩:=HAL.o wc hb2;obtain⟨y0,y1,y2,y3,y4,y5,y6⟩:=AtC.sev A2;have HZ:=hide (And.intro b2 (And.intro b3 A2));clear A2 b2 b3 hb2 HAL x0 x1 x2 x3 k9;go_wp2_with fail
    refine(zfo k1 k2 _ _ _ _ _ _ m wc (HH.o.below HZ.o.1 nR) (Nat.le_trans HM.o.l dC)).mono ?_;rintro e w3 ⟨⟨id,rfl⟩,B3⟩;have HZ3:Hid (Below w.1.size w w3/\Below w1.1.size w1 w3/\AtC w3 w.1.size 33 (M7 m a1 c1 a2 c2 a3 c3 a4 c4 a5 c5 a6 c6)):=⟨HZ.o.1.trans (B3.mono HZ.o.1.size),HZ.o.2.1.trans (B3.mono HZ.o.2.1.size),HZ.o.2.2.over B3⟩
    clear B3 y0 y1 y2 y3 y4 y5 y6 HZ;go_wp2_with fail
    refine(znb w.1.size id _ _ _ _ _ _ m w3 HZ3.o.2.2 (HH.o.below HZ3.o.1 nR) (Nat.le_trans HM.o.l dC)).mono ?_;rintro e w4 ⟨⟨kd,rfl⟩,rfl⟩;have HREL:Hid (∃(q':Nat)(k':Int),q'<=ll/\Value.int .i64 ((q:Int)+1)=.int .i64 q'/\Value.int .i64 k3=.int .i64 k'/\Hid (Below w1.1.size w1 w4)):=⟨q+1,k3,by omega,by go_num,rfl,HZ3.o.2.1⟩
    go_upto_region 8 with fail
    go_cut [50]from 18 to 51 (fun c wx=>(∃r,c=.bool r)/\w4=wx)
    case first =>
     by_cases h3:0<k3
     ·by_cases h2:kd=2
      ·subst h2;go_wp2_with fail
       go_meet
       exact⟨⟨_,rfl⟩,rfl⟩
      ·have h2b:(kd==2)=false:=by simp[h2]
       exact cQ57
     ·exact cQ57
    case rest =>
     obtain⟨⟨r,rfl⟩,rfl⟩:=hcut
     cases r
     ·go_wp2;go_roundw
      case rel=>first| exact HREL.o|((repeat apply Exists.intro);exact⟨HREL.o,rfl⟩)
      case measure=>simp[intOf];omega
     ·go_wp2;go_ret;exact⟨⟨_,rfl⟩,HZ3.o.1⟩
  ·have HF:Hid (Below w.1.size w wr):=(HW.o wr (HB1.o.trans (HR.o.mono HB1.o.size))).1;go_wp2;go_ret;exact⟨⟨_,rfl⟩,HF.o⟩
end Go.Proofs.YtgnplpmgkegcnaaGreat
