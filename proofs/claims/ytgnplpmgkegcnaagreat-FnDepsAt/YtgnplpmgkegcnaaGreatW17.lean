/- Texts. -/
import Derived.Test.YtgnplpmgkegcnaaGreatW12
import Derived.Test.YtgnplpmgkegcnaaGreatW13
import Derived.Test.YtgnplpmgkegcnaaGreatW14
set_option maxRecDepth 100000
set_option maxHeartbeats 12800000
namespace Go.Proofs.YtgnplpmgkegcnaaGreat
namespace Xd
open Go.RowKit Kit
theorem newOk:za9 newX newY newIs newBs=true:=by decide +kernel
theorem newBig:∀(j:Nat)(h:j<newBs.length),bigB 1048576 newBs[j]:=fun j h=>by
 have e:newBs[j]=zB:=List.eq_of_mem_replicate (gM_ h);rw[e];exact⟨dC,fun k hk=>by simp[zB]at hk,dC⟩
theorem newDBig:Big 1048576 newX newY newIs newBs:=⟨dC,dC,dC,fun j hj=>by
 have:∀q∈newIs,q.2.2.length<=1048576:=dC
 exact this _ (gM_ hj),dC,newBig⟩
theorem zm8:Sh Z0 (newM newX newY newIs newBs):=by
 refine⟨rfl,rfl,rfl,?_,rfl,?_,rfl,dC,fun d hd=>by simp[newM]at hd,by simp[newM],⟨?_,fun _ _ e=>e.elim⟩⟩
 ·have:∀q∈newIs,(0<=q.2.1/\q.2.1<=200)/\q.2.2.length=2/\(∀p∈q.2.2,(0:Int)<=p/\p<=16)/\(q.1=1\/q.1=2\/(q.1=0/\q.2.1=0/\∀p∈q.2.2,p=0)):=dC
  exact fun q hq=>⟨(this q hq).1,(this q hq).2.1,(this q hq).2.2.1,(this q hq).2.2.2⟩
 ·intro q hq;have e:q=zB:=by simp[newM,newBs]at hq;exact hq
  subst e;exact⟨⟨fun e=>by simp[zB]at e,dC,fun s hs=>by simp[zB]at hs,dC⟩,fun _=>rfl,fun e=>by simp[zB]at e,fun s hs=>by simp[zB]at hs,Unl.nil⟩
 intro p p1 p2;have e:pc p newIs=0:=by
  simp[pc,newIs,noI,List.count_cons];omega
 show pc p newIs+0<=_;omega
theorem fsNew_any(w:Wd):
  Calls Tryz.prog 114 #[] w fun e w'=>∃a,e=.returned a/\FsW w' w.1.size a/\Bw w w':=by
 obtain⟨W0,aH⟩:∃W0,w.alloc (.cells #[nZ,nZ,nZ,nZ,nZ,nZ,nI 0,nZ] 119)=W0:=⟨_,rfl⟩
 have HC:Hid (∀W,Bw W0 W->AtC W w.1.size 119 #[nZ,nZ,nZ,nZ,nZ,nZ,nI 0,nZ]/\Bw w W/\w.1.size+1<=W.1.size):=fun W b2=>by
  rw[←aH]at b2;have sz:=b2.size;simp at sz;exact⟨(AtC.new w 119 _).over b2,((bF _ w).alloc nR _).trans (b2.mono sI),sz⟩
 go_enter Tryz.func114,Tryz.ntmps114
 go_wp2_with fail
 refine(specNew_disk W0).mono ?_;rintro e w1 ⟨u1,u2,u3,u4,rfl,O1,B1⟩;go_wp2_with fail
 refine(zm7 _ _ _ _ _ newX newY newIs newBs w1 O1 newOk newBig).mono ?_;rintro e w2 ⟨tv,ts,rfl,T2,D2,B2⟩;have aF:Hid (Bw W0 w2):=B1.trans (B2.mono B1.size);obtain⟨ta,tc,rfl⟩:=T2.rst.form;have aM:=hJ D2;obtain⟨W4,aN⟩:∃W4,w2.alloc (.cells #[sL ta ts tc] 46)=W4:=⟨_,rfl⟩
 have aC:Hid (Bw W0 W4/\ROwns W4 w1.1.size 9 (sL ta ts tc) (stc ts)/\AtC W4 w2.1.size 46 #[sL ta ts tc]/\W0.1.size<=w1.1.size):=by
  rw[←aN];exact⟨aF.o.alloc aF.o.size _,T2.alloc _,AtC.new w2 46 _,B1.size⟩
 clear O1 B1 T2 D2 B2 aF;have HF:Hid (∀W,Bw W4.drew W->Bw W0 W/\ROwns W w1.1.size 9 (sL ta ts tc) (stc ts)/\AtC W w2.1.size 46 #[sL ta ts tc]/\W4.1.size<=W.1.size):=fun W b=>by
  have b5:=zac b;exact⟨aC.o.1.trans (b5.mono aC.o.1.size),aC.o.2.1.below b5 nR,aC.o.2.2.1.over b5,b5.size⟩
 have y4:=aC.o.2.2.1.c0;go_upto_region 2 with fail
 go_region_with (first
  | (go_at_call 110;refine(specNew_disk _).mono ?_;rintro e w5 ⟨p1,p2,p3,p4,rfl,O5,B5⟩;obtain⟨g1,h1,g2,h2,g3,h3,g4,h4,rfl,rfl,rfl,rfl⟩:=O5.dr.form;have aD:Hid (Bw W4.drew w5):=B5;have aK:=hJ O5;have y5:w5.cell? ⟨w2.1.size,0,none⟩=some (.slice ta ts.length tc):=(HF.o w5 B5).2.2.1.cell 0;clear O5 B5)
  | (go_at_call 141;refine(zkq _ _ _ _ newX newY newIs newBs _ aK.o.dr newDBig).mono ?_;rintro e w6 ⟨q1,q2,q3,q4,q5,q6,rfl,O6,B6⟩;obtain⟨b1,d1,b2,d2,b3,d3,b4,d4,b5,d5,b6,d6,rfl,rfl,rfl,rfl,rfl,rfl⟩:=O6.mr.form;have aG:Hid (Bw W4.drew w6):=aD.o.trans (B6.mono aD.o.size);have aB:=hJ (HF.o w6 aG.o);have y6:w6.cell? ⟨w2.1.size,0,none⟩=some (.slice ta ts.length tc):=aB.o.2.2.1.cell 0;have r0:w6.cell? ⟨w.1.size,0,none⟩=some (.slice none 0 0):=(HC.o w6 aB.o.1).1.cell 0;have r1:w6.cell? ⟨w.1.size,1,none⟩=some (.slice none 0 0):=(HC.o w6 aB.o.1).1.cell 1;have r2:w6.cell? ⟨w.1.size,2,none⟩=some (.slice none 0 0):=(HC.o w6 aB.o.1).1.cell 2;have r3:w6.cell? ⟨w.1.size,3,none⟩=some (.slice none 0 0):=(HC.o w6 aB.o.1).1.cell 3;have r4:w6.cell? ⟨w.1.size,4,none⟩=some (.slice none 0 0):=(HC.o w6 aB.o.1).1.cell 4;have r5:w6.cell? ⟨w.1.size,5,none⟩=some (.slice none 0 0):=(HC.o w6 aB.o.1).1.cell 5;have r6:w6.cell? ⟨w.1.size,6,none⟩=some (nI 0):=(HC.o w6 aB.o.1).1.cell 6;have r7:w6.cell? ⟨w.1.size,7,none⟩=some (.slice none 0 0):=(HC.o w6 aB.o.1).1.cell 7;have v0:=(HC.o w6 aB.o.1).1.frozen 0;have v1:=(HC.o w6 aB.o.1).1.frozen 1;have v2:=(HC.o w6 aB.o.1).1.frozen 2;have v3:=(HC.o w6 aB.o.1).1.frozen 3;have v4:=(HC.o w6 aB.o.1).1.frozen 4;have v5:=(HC.o w6 aB.o.1).1.frozen 5;have v6:=(HC.o w6 aB.o.1).1.frozen 6;have v7:=(HC.o w6 aB.o.1).1.frozen 7;have aL:Hid (MO w6 (fun k=>W4.1.size<=k) (.slice b1 (newM newX newY newIs newBs).xs.length d1) (.slice b2 (newM newX newY newIs newBs).ys.length d2) (.slice b3 (newM newX newY newIs newBs).is.length d3) (.slice b4 (newM newX newY newIs newBs).bs.length d4) (.slice b5 (newM newX newY newIs newBs).fs.length d5) (.slice b6 (newM newX newY newIs newBs).ds.length d6) (newM newX newY newIs newBs)):=O6.mono (fun k hk=>lT aD.o.size hk);clear O6 B6))
 all_goals go_wp2
 all_goals exact bY (v:=.agg #[.slice b1 (newM newX newY newIs newBs).xs.length d1,.slice b2 (newM newX newY newIs newBs).ys.length d2,.slice b3 (newM newX newY newIs newBs).is.length d3,.slice b4 (newM newX newY newIs newBs).bs.length d4,.slice b5 (newM newX newY newIs newBs).fs.length d5,.slice b6 (newM newX newY newIs newBs).ds.length d6,nI 1,sL ta ts tc]) sR8 rfl ⟨_,rfl,⟨b1,d1,b2,d2,b3,d3,b4,d4,b5,d5,b6,d6,ta,tc,newM newX newY newIs newBs,ts,rfl,(aL.o.of_heap fun k hk _=>zag _ _ _ _ _ _ _ _ _ _ k (by have:=(HC.o w6 aB.o.1).2.2;have:W4.1.size<=k:=hk;have:=aC.o.1.size;have:=(HC.o W0 bR).2.2;omega)).mono (fun k hk=>by have:W4.1.size<=k:=hk;have:=aC.o.1.size;have:=(HC.o W0 bR).2.2;omega),(aB.o.2.1.of_heap fun k hk=>zag _ _ _ _ _ _ _ _ _ _ k (by have:=(aB.o.2.1.lt k hk).1;have:=aC.o.2.2.2;have:=(HC.o W0 bR).2.2;omega)).base_le (by have:=aC.o.2.2.2;have:=(HC.o W0 bR).2.2;omega),zm8,aM.o⟩,zav (HC.o w6 aB.o.1).2.1 nR _ _ _ _ _ _ _ _⟩
end Xd
open Go.RowKit Kit Xd
namespace Kit
theorem wd_start{w0 w w1:World}{c len cap:Nat}{a:Option Addr}{u v iv bv:Value}{xs ys:List Bool}{is:List Ino}{bs:List Blk}(hcur:Cur 103 w0 w c a len cap)(hcw:c<w.1.size)(B1:Below (w.alloc (.cells Xd.zD 30)).1.size (w.alloc (.cells Xd.zD 30)) w1)(O1:DO w1 (fun k=>(w.alloc (.cells Xd.zD 30)).1.size<=k) u v iv bv xs ys is bs)(ok:DkR xs ys is bs):
  WdQ w0 w (w1.alloc (.cells #[u,v,iv,bv] 30)) c a len cap w1.1.size u v iv bv xs ys is bs:=by
 have hs:=B1.size;rw[World.size_alloc]at hs O1;refine⟨((AtC.new w 30 _).over B1).alloc _,AtC.new w1 30 _,(O1.bound.mono fun k hk=>⟨by have:=hk.1;omega,by have:=hk.2;omega⟩).alloc _,(((Drew.refl hcur).alloc hcw _).below hcw B1).alloc hcw _,by omega,hcw,ok⟩
theorem newDk:DkR newX newY newIs newBs:=⟨rfl,rfl,rfl,zm8.ii,rfl,zm8.bb⟩
end Kit
def nm4:Nat->ByteArray
 | 0=>⟨#[112]⟩
 | 1=>⟨#[113]⟩
 | 2=>⟨#[114]⟩
 | _=>⟨#[115]⟩
theorem nm4_ok:∀i,i<4->zat (nm4 i)=true/\(nm4 i).size≠0:=by decide
theorem nm4_ne:∀i,i<4->∀j,j<4->i≠j->nm4 i≠nm4 j:=by decide
def Fill(j:Nat)(ss:List Sl):Prop:=ss.length=4/\∀(k:Nat)(h:k<ss.length),(k<j->ss[k].1=nm4 k/\1<=ss[k].2/\ss[k].2<=8)/\(j<=k->ss[k]=(⟨#[]⟩,0))
theorem fill_new:Fill 0 noSl:=⟨rfl,fun k h=>⟨fun e=>absurd e oM,fun _=>by
 match k,h with
 | 0,_=>rfl
 | 1,_=>rfl
 | 2,_=>rfl
 | 3,_=>rfl⟩⟩
theorem Fill.next{j:Nat}{ss:List Sl}(h:Fill j ss){z:Int}(hz:1<=z/\z<=8):Fill (j+1) (ss.set j (nm4 j,z)):=by
 refine⟨by simp[h.1],fun k hk=>?_⟩;rw[List.length_set]at hk;by_cases e:j=k
 ·subst e;rw[List.getElem_set_self];exact⟨fun _=>⟨rfl,hz⟩,fun e=>absurd e oM⟩
 rw[List.getElem_set_ne e];exact⟨fun q=>(h.2 k hk).1 oM,fun q=>(h.2 k hk).2 oM⟩
theorem Fill.kok{j:Nat}{ss:List Sl}(h:Fill j ss):KOk ((true,ss,⟨#[]⟩):Blk):=by
 have hl:=h.1;have at_:∀s∈ss,s=(⟨#[]⟩,0)\/∃k,k<4/\s.1=nm4 k/\1<=s.2/\s.2<=8:=fun s hs=>by
  obtain⟨k,hk,rfl⟩:=List.getElem_of_mem hs;by_cases e:k<j
  ·exact .inr ⟨k,by omega,(h.2 k hk).1 e⟩
  exact .inl ((h.2 k hk).2 oM)
 refine⟨⟨fun _=>hl,by show ss.length<=4;omega,fun s hs=>?_,by show(0:Nat)<=16;decide⟩,fun e=>(by cases e),fun _=>rfl,fun s hs=>?_,fun a b ha hb aB e=>?_⟩
 ·rcases at_ s hs with rfl|⟨k,hk,e,z⟩
  ·exact⟨by decide,.inl ⟨rfl,rfl⟩⟩
  exact⟨by rw[e];exact(za1 (nm4_ok k hk).1).2,.inr z⟩
 ·rcases at_ s hs with rfl|⟨k,hk,e,z⟩
  ·exact .inl ⟨rfl,rfl⟩
  exact .inr (by rw[e];exact(nm4_ok k hk).1)
 have aC:a<ss.length:=ha;have aD:b<ss.length:=hb;by_cases ea:a<j
 ·have k1:=((h.2 a ha).1 ea).1;by_cases eb:b<j
  ·have k2:=((h.2 b hb).1 eb).1;rw[k1,k2]at e;exact absurd e (nm4_ne a oM b oM aB)
  have k2:=(h.2 b hb).2 oM;rw[e,k2];rfl
 have k1:=(h.2 a ha).2 oM;rw[k1];rfl
theorem Kit.DO.apart1{w:World}{S:Nat->Prop}{u v iv bv:Value}{xs ys:List Bool}{is:List Ino}{bs:List Blk}(h:DO w S u v iv bv xs ys is bs){g n cap g3 n3 c3:Nat}(hv:iv=.slice (some ⟨g,0,none⟩) n cap)(hw:bv=.slice (some ⟨g3,0,none⟩) n3 c3){j gp n1 cp:Nat}(hj:j<is.length)
  (k1:w.cell? ⟨g,j*3+2,none⟩=some (.slice (some ⟨gp,0,none⟩) n1 cp)):g≠g3/\gp≠g3/\S g/\S gp/\S g3/\∀{x gs n2 cs:Nat},x<bs.length->w.cell? ⟨g3,x*3+1,none⟩=some (.slice (some ⟨gs,0,none⟩) n2 cs)->g≠gs/\gp≠gs/\g3≠gs:=by
 obtain⟨T1,T2,T3,ti,tb,z1,z2,z3,z4,z5,z6,z7⟩:=h;have aC:j<ti.length:=by rw[z3.len];exact hj
 obtain⟨g',c',e',-,-,q3,-⟩:=z3.row.at j aC;rw[hv]at e';simp only[Value.slice.injEq,Option.some.injEq,Addr.mk.injEq]at e';obtain⟨⟨rfl,-⟩,-,-⟩:=e';have e1:=q3.symm.trans k1;simp only[Option.some.injEq]at e1;have tg:T2 g:=z3.so g vR;have tp:T2 gp:=z3.si j aC gp (by show(ti[j].2.2).ownBlock=some gp;rw[e1];rfl);have t3:T3 g3:=z4.so g3 (by rw[hw];rfl);refine⟨fun e=>z6 g tg (e ▸ t3),fun e=>z6 gp tp (e ▸ t3),z7 g (.inr (.inl tg)),z7 gp (.inr (.inl tp)),z7 g3 (.inr (.inr t3)),fun{x gs n2 cs} hx k2=>?_⟩;have aB:x<tb.length:=by rw[z4.len];exact hx
 obtain⟨g',c',e',-,q2,-⟩:=z4.row.at x aB;rw[hw]at e';simp only[Value.slice.injEq,Option.some.injEq,Addr.mk.injEq]at e';obtain⟨⟨rfl,-⟩,-,-⟩:=e';have e2:=q2.symm.trans k2;simp only[Option.some.injEq]at e2;have ts:T3 gs:=z4.si x aB gs (by show(tb[x].2.1).ownBlock=some gs;rw[e2];rfl);exact⟨fun e=>z6 g tg (e ▸ ts),fun e=>z6 gp tp (e ▸ ts),fun e=>z4.out x aB gs (by show(tb[x].2.1).ownBlock=some gs;rw[e2];rfl) (by rw[hw,e];rfl)⟩
def Lead(b g2 c2 g3 c3 gp cp:Nat)(P:Int)(w:World):Prop :=
 w.cell? ⟨b,3,none⟩=some (.slice (some ⟨g3,0,none⟩) 16 c3)/\w.cell? ⟨b,2,none⟩=some (.slice (some ⟨g2,0,none⟩) 8 c2)/\w.cell? ⟨g2,2,none⟩=some (.slice (some ⟨gp,0,none⟩) 2 cp)/\w.cell? ⟨gp,0,none⟩=some (.int .i64 P)
theorem zdl{P:Program}{md:Region.Mode}{ops:Array Oper}{Q:Exit->Act->World->Prop}{S S':World->Prop}(hS:∀w,S' w->S w):∀(fuel:Nat)(listed:Array Bool)(a:Act)(w:World),wpAnyH P md ops Q S' fuel listed a w->wpAnyH P md ops Q S fuel listed a w
 | 0,_,_,_,h=>h
 | _+1,_,_,_,h=>⟨h.1,fun i hi=>wpOp_mono (fun a' w' h'=>⟨hS w' h'.1,zdl hS _ _ a' w' h'.2⟩) (h.2 i hi)⟩
theorem zm9(w:World){g h:Nat}(j k i:Nat)(x y:Value)(hg:h≠g):((w.setCell ⟨g,j,none⟩ x).setCell ⟨g,k,none⟩ y).cell? ⟨h,i,none⟩=w.cell? ⟨h,i,none⟩:=by
 simp only[World.cell?,heap_setCell_other _ ⟨g,k,none⟩ h _ hg,heap_setCell_other _ ⟨g,j,none⟩ h _ hg]
theorem zna(w:World)(g j k:Nat)(x y:Value){arr:Array Value}{T:TypeId}{i:Nat}{z:Value}(h:arr[i]?=some z):(((w.setCell ⟨g,j,none⟩ x).setCell ⟨g,k,none⟩ y).alloc (.cells arr T)).cell? ⟨w.1.size,i,none⟩=some z:=by
 have:=((AtC.new ((w.setCell ⟨g,j,none⟩ x).setCell ⟨g,k,none⟩ y) T arr).cell i).trans h
 rwa[show((w.setCell ⟨g,j,none⟩ x).setCell ⟨g,k,none⟩ y).heap.size=w.1.size by simp]at this
theorem zcz{w:World}{a:Addr}{x:Value}(h:w.cell? a=some x)(o:Obj):(w.alloc o).cell? a=some x:=by
 have aB:a.block<w.1.size:=by
  rcases Nat.lt_or_ge a.block w.1.size with q|q
  ·exact q
  simp[World.cell?,Array.getElem?_eq_none q]at h
 have e:(w.alloc o).heap[a.block]?=w.1[a.block]?:=Below.heap_alloc _ _ _ aB;simpa only[World.cell?,e]using h
theorem Lead.alloc{b g2 c2 g3 c3 gp cp:Nat}{P:Int}{w:World}(h:Lead b g2 c2 g3 c3 gp cp P w)(o:Obj):Lead b g2 c2 g3 c3 gp cp P (w.alloc o):=⟨zcz h.1 o,zcz h.2.1 o,zcz h.2.2.1 o,zcz h.2.2.2 o⟩
section
variable {w0 w w' : World} {c len cap b g2 c2 g3 c3 : Nat} {a : Option Addr} {u v : Value} {xs ys : List Bool} {is : List Ino} {bs : List Blk}
theorem Kit.WdQ.root(h:WdQ w0 w w' c a len cap b u v (.slice (some ⟨g2,0,none⟩) 8 c2) (.slice (some ⟨g3,0,none⟩) 16 c3) xs ys is bs){w4:World}(D:Drew w0 w' w4 c a len cap)(x y:Nat)(hx:x<16)(hy:y<17):
  WdQ w0 w ((((w4.setCell ⟨g2,0,none⟩ (.int .i64 2)).setCell ⟨g2,1,none⟩ (.int .i64 1)).setCell ⟨g2,2,none⟩ (.slice (some ⟨w4.1.size,0,none⟩) 2 2)).alloc (.cells #[.int .i64 (1+(x:Int)),.int .i64 (y:Int)] 3)) c a len cap b u v (.slice (some ⟨g2,0,none⟩) 8 c2) (.slice (some ⟨g3,0,none⟩) 16 c3) xs ys (is.set 0 (2,1,[1+(x:Int),(y:Int)])) bs:=by
 have hc:c<w'.1.size:=by have:=h.hc;have:=h.dr.2.size;omega
 have k:=h.putI rfl 0 dC (D.alloc hc (.cells #[.int .i64 (1+(x:Int)),.int .i64 (y:Int)] 3)) 2 1 (1+(x:Int)) y (.slice (some ⟨w4.1.size,0,none⟩) 2 2) (ROwns.lit w4 w'.1.size 3 #[.int .i64 (1+(x:Int)),.int .i64 (y:Int)] D.2.size (by simp[maxLen])) (zc5 (.inr oM)).symm;obtain⟨-,-,-,-,-,-,-,-,-,hg⟩:=(h.drews D).inos rfl 0 dC;unfold set3 at k;rw[World.setCell_alloc_past _ _ _ _ hg,World.setCell_alloc_past _ _ _ _ (by simpa using hg),World.setCell_alloc_past _ _ _ _ (by simpa using hg)]at k;exact k
theorem Kit.WdQ.dir(h:WdQ w0 w w' c a len cap b u v (.slice (some ⟨g2,0,none⟩) 8 c2) (.slice (some ⟨g3,0,none⟩) 16 c3) xs ys is bs)(h0:0<is.length){x:Nat}{P q:Int}(hx:x<16)(e:is[0].2.2=[P,q]):
  ∃gp cp,∀w2:World,Drew w0 w' w2 c a len cap->Lead b g2 c2 g3 c3 gp cp P w2/\∀(w3:World)(sv:Value),Below w2.1.size w2 w3->SOwns w3 w2.1.size 90 sv noSl ->
   Lead b g2 c2 g3 c3 gp cp P (set3 w3 g3 x (.bool true,sv,.string ⟨#[]⟩))/\WdQ w0 w (set3 w3 g3 x (.bool true,sv,.string ⟨#[]⟩)) c a len cap b u v (.slice (some ⟨g2,0,none⟩) 8 c2) (.slice (some ⟨g3,0,none⟩) 16 c3) xs ys is (bs.set x (true,noSl,⟨#[]⟩)):=by
 obtain⟨gp,cp,hk⟩:=h.dsk.ptAt rfl 0 h0 e;refine⟨gp,cp,fun w2 D=>?_⟩;have k:=hk w2 (h.keepD D);have hd:=h.drews D;have L:∀{w3:World}{is':List Ino}{bs':List Blk},WdQ w0 w w3 c a len cap b u v (.slice (some ⟨g2,0,none⟩) 8 c2) (.slice (some ⟨g3,0,none⟩) 16 c3) xs ys is' bs'->w3.cell? ⟨g2,2,none⟩=some (.slice (some ⟨gp,0,none⟩) 2 cp)->w3.cell? ⟨gp,0,none⟩=some (.int .i64 P)->Lead b g2 c2 g3 c3 gp cp P w3:=fun h3 q1 q2=>⟨h3.cells.2.2.2.1,h3.cells.2.2.1,q1,q2⟩
 refine⟨L hd k.1 k.2,fun w3 sv B O=>?_⟩;have hc:c<w2.1.size:=by have:=hd.hc;have:=hd.dr.2.size;omega
 have d3:Drew w0 w2 w3 c a len cap:=(Drew.refl hd.dr.cur).below hc B;have k3:=hk w3 (h.keepD (D.trans d3));have wd:=hd.putB rfl x hx d3 true sv ⟨#[]⟩ noSl O zi0;obtain⟨n1,n2,-⟩:=DO.apart1 (hd.drews d3).dsk rfl rfl (j:=0) h0 k3.1;have oth:∀g i,g≠g3->(set3 w3 g3 x (.bool true,sv,.string ⟨#[]⟩)).cell? ⟨g,i,none⟩=w3.cell? ⟨g,i,none⟩:=fun g i hg=>by
  simp only[World.cell?,zaz _ _ _ _ _ hg]
 exact⟨L wd ((oth g2 2 n1).trans k3.1) ((oth gp 0 n2).trans k3.2),wd⟩
theorem Kit.WdQ.deep{x:Nat}{ss:List Sl}(h:WdQ w0 w w' c a len cap b u v (.slice (some ⟨g2,0,none⟩) 8 c2) (.slice (some ⟨g3,0,none⟩) 16 c3) xs ys is (bs.set x (true,ss,⟨#[]⟩)))(h0:0<is.length){P q:Int}(hx:x<16)(e:is[0].2.2=[P,q]){j:Nat}(hj:j<4)(hf:Fill j ss):
  ∃gp cp gs cs,∀w2:World,Drew w0 w' w2 c a len cap->(Lead b g2 c2 g3 c3 gp cp P w2/\w2.cell? ⟨g3,x*3+1,none⟩=some (.slice (some ⟨gs,0,none⟩) 4 cs)) /\
   (gs<w2.1.size/\w2.frozen? ⟨gs,j*2,none⟩=false/\w2.frozen? ⟨gs,j*2+1,none⟩=false/\∃(n:ByteArray)(z:Int),w2.cell? ⟨gs,j*2,none⟩=some (.string n)/\w2.cell? ⟨gs,j*2+1,none⟩=some (.int .i64 z)) /\
   ∀z:Int,1<=z/\z<=8->(Lead b g2 c2 g3 c3 gp cp P ((w2.setCell ⟨gs,j*2,none⟩ (.string (nm4 j))).setCell ⟨gs,j*2+1,none⟩ (.int .i64 z))/\((w2.setCell ⟨gs,j*2,none⟩ (.string (nm4 j))).setCell ⟨gs,j*2+1,none⟩ (.int .i64 z)).cell? ⟨g3,x*3+1,none⟩=some (.slice (some ⟨gs,0,none⟩) 4 cs)) /\
    ∃ss',Fill (j+1) ss'/\WdQ w0 w ((w2.setCell ⟨gs,j*2,none⟩ (.string (nm4 j))).setCell ⟨gs,j*2+1,none⟩ (.int .i64 z)) c a len cap b u v (.slice (some ⟨g2,0,none⟩) 8 c2) (.slice (some ⟨g3,0,none⟩) 16 c3) xs ys is (bs.set x (true,ss',⟨#[]⟩)):=by
 have hb:=h.ok.b;have aB:x<(bs.set x (true,ss,⟨#[]⟩)).length:=by rw[hb];exact hx
 have aC:x<bs.length:=by rw[List.length_set]at aB;exact aB
 have at_:(bs.set x (true,ss,⟨#[]⟩))[x]=(true,ss,⟨#[]⟩):=List.getElem_set_self _;obtain⟨gp,cp,hk⟩:=h.dsk.ptAt rfl 0 h0 e;obtain⟨gs,cs,sg,hs⟩:=h.dsk.slAt rfl x aB (by rw[at_];exact hf.1);refine⟨gp,cp,gs,cs,fun w2 D=>?_⟩;have k:=hk w2 (h.keepD D);have s:=hs w2 (h.keepD D);have hd:=h.drews D;have L:∀{w3:World}{is':List Ino}{bs':List Blk},WdQ w0 w w3 c a len cap b u v (.slice (some ⟨g2,0,none⟩) 8 c2) (.slice (some ⟨g3,0,none⟩) 16 c3) xs ys is' bs'->w3.cell? ⟨g2,2,none⟩=some (.slice (some ⟨gp,0,none⟩) 2 cp)->w3.cell? ⟨gp,0,none⟩=some (.int .i64 P)->Lead b g2 c2 g3 c3 gp cp P w3:=fun h3 q1 q2=>⟨h3.cells.2.2.2.1,h3.cells.2.2.1,q1,q2⟩
 refine⟨⟨L hd k.1 k.2,s.1⟩,⟨s.2.1,s.2.2.1 _,s.2.2.1 _,(s.2.2.2 j hj).1⟩,fun z hz=>?_⟩;obtain⟨n1,n2,-,-,-,n3⟩:=DO.apart1 hd.dsk rfl rfl (j:=0) h0 k.1;obtain⟨m1,m2,m3⟩:=n3 aB s.1;have dd:=(s.2.2.2 j hj).2 (nm4 j) z;rw[at_,List.set_set]at dd;have fl:Fill (j+1) (ss.set j (nm4 j,z)):=hf.next hz;have ok:DkR xs ys is (bs.set x (true,ss.set j (nm4 j,z),⟨#[]⟩)):=by
  have:=h.ok.blk x (z:=(true,ss.set j (nm4 j,z),⟨#[]⟩)) fl.kok
  rwa[List.set_set]at this
 have wd:=hd.slot sg dd ok;have oth:∀g i,g≠gs->((w2.setCell ⟨gs,j*2,none⟩ (.string (nm4 j))).setCell ⟨gs,j*2+1,none⟩ (.int .i64 z)).cell? ⟨g,i,none⟩=w2.cell? ⟨g,i,none⟩:=fun g i hg=>by
  simp only[World.cell?,heap_setCell_other _ ⟨gs,j*2+1,none⟩ g _ hg,heap_setCell_other _ ⟨gs,j*2,none⟩ g _ hg]
 exact⟨⟨L wd ((oth g2 2 m1).trans k.1) ((oth gp 0 m2).trans k.2),(oth g3 _ m3).trans s.1⟩,_,fl,wd⟩
end
namespace Kit
end Kit
theorem wild_any(w0 w:Wd)(c:Nat)(a:OA)(len cap:Nat)(hcode:za0 w0 a len)(hlen:len<=1048576)(hcur:Cur 103 w0 w c a len cap)(hcw:c<w.1.size):
  Calls Tryz.prog 81 #[.pointer (aA c 0)] w fun e w'=>∃u v iv bv xs ys is bs,e=.returned (.agg #[u,v,iv,bv])/\DO w' (fun k=>w.1.size<=k) u v iv bv xs ys is bs/\DkR xs ys is bs/\Drew w0 w w' c a len cap:=by
 have HC:=hJ hcur;have HO:=hJ hcode;clear hcur hcode;go_enter Tryz.func81,Tryz.ntmps81
 go_wp2_with fail
 refine(Xd.specNew_disk _).mono ?_;rintro e w1 ⟨u,v,iv,bv,rfl,O1,B1⟩;obtain⟨g1,c1,g2,c2,g3,c3,e1,e2,e3⟩:=O1.forms dC dC dC;rw[show newX.length=16 from rfl]at e1;rw[show newIs.length=8 from rfl]at e2;rw[show newBs.length=16 from rfl]at e3;obtain⟨-,-,a8,c8,-,e8⟩:=O1.two.form;rw[show newY.length=8 from rfl]at e8;subst e8;subst e1;subst e2;subst e3;obtain⟨b,hb⟩:∃b,w1.1.size=b:=⟨_,rfl⟩
 have aT:=hJ (wd_start HC.o hcw B1 O1 newDk);clear O1 B1 HC;rw[hb]at aT;obtain⟨W1,bC⟩:∃W1,w1.alloc (.cells #[.slice (aA g1 0) 16 c1,.slice a8 8 c8,.slice (aA g2 0) 8 c2,.slice (aA g3 0) 16 c3] 30)=W1:=⟨_,rfl⟩
 go_wp2;rw[bC]at aT;clear bC hb;go_loopw [4] (fun i wr=>∃(j:Nat)(is:List Ino),j<=8/\i=.int .i64 j/\WdQ w0 w wr c a len cap b (.slice (some ⟨g1,0,none⟩) 16 c1) (.slice a8 8 c8) (.slice (some ⟨g2,0,none⟩) 8 c2) (.slice (some ⟨g3,0,none⟩) 16 c3) newX newY is newBs) (fun i _=>8-(intOf i).toNat)
 case atStart=>exact⟨0,newIs,zL _,rfl,aT.o⟩
 obtain⟨j,is,hj,rfl,aF⟩:=hrel;have HT:=hJ aF;clear aF aT;by_cases hlt:j<8
 ·have j0:(0:Int)<=(j:Int):=oM
  have j1:(j:Int)<8:=oM
  go_wp2_with fail
  refine(zaw w0 wr c a len cap 2 HO.o hlen HT.o.dr.cur dC dC).mono ?_;rintro e w2 ⟨x,rfl,D2⟩;have H2:=hJ (HT.o.drews D2);clear D2 HT
  cases hx:(x==0)with
  | false =>
   clear hx;go_wp2;go_roundw
   case rel=>exact⟨j+1,is,oM,gK,H2.o⟩
   simp[intOf];omega
  | true =>
   clear hx;go_wp2
   go_region_held3 (fun w'=>w'.cell? ⟨b,2,none⟩=some (.slice (some ⟨g2,0,none⟩) 8 c2)) (first| exact H2.o.drew.cells.2.2.1|exact(H2.o.drew.drews D3).cells.2.2.1|exact(H2.o.drew.putI rfl j hlt D3 k l p q _ O3 aR.o).cells.2.2.1) (first| (go_at_call 111;refine(zhz w0 _ c a len cap HO.o hlen H2.o.drew.dr.cur (by have h1:=H2.o.drew.dr.2.size;omega)).mono ?_;rintro e w3 ⟨k,l,p,q,pv,hz,rfl,O3,D3⟩;have aR:=hJ hz;clear hz;obtain⟨gp,cp,rfl,-,-⟩:=ROwns.slice2 O3;obtain⟨y0,y1,y2,t0,t1,t2,t3,t4,t5,t6⟩:=(H2.o.drew.drews D3).inos rfl j hlt))
   have H4:=hJ (H2.o.drew.putI rfl j hlt D3 k l p q _ O3 aR.o);clear D3 O3 t0 t1 t2 t3 t4 t5 t6 H2;go_wp2;go_roundw
   case rel=>exact⟨j+1,_,oM,gK,H4.o⟩
   simp[intOf];omega
 go_wp2;go_loopw [5] (fun i bG=>∃(j:Nat)(bs:List Blk),j<=16/\i=.int .i64 j/\WdQ w0 w bG c a len cap b (.slice (some ⟨g1,0,none⟩) 16 c1) (.slice a8 8 c8) (.slice (some ⟨g2,0,none⟩) 8 c2) (.slice (some ⟨g3,0,none⟩) 16 c3) newX newY is bs) (fun i _=>16-(intOf i).toNat)
 case atStart=>exact⟨0,newBs,zL _,rfl,HT.o⟩
 clear hj hlt;obtain⟨j,bs,hj,rfl,aF⟩:=hrel;have aO:=hJ aF;clear aF HT;by_cases hlt:j<16
 ·have j0:(0:Int)<=(j:Int):=oM
  have j1:(j:Int)<16:=oM
  go_wp2_with fail
  refine(zaw w0 wr c a len cap 2 HO.o hlen aO.o.dr.cur dC dC).mono ?_;rintro e w2 ⟨x,rfl,D2⟩;have H2:=hJ (aO.o.drews D2);clear D2 aO
  cases hx:(x==0)with
  | false =>
   clear hx;go_wp2;go_roundw
   case rel=>exact⟨j+1,bs,oM,gK,H2.o⟩
   simp[intOf];omega
  | true =>
   clear hx;go_wp2
   go_region_held3 (fun w'=>w'.cell? ⟨b,3,none⟩=some (.slice (some ⟨g3,0,none⟩) 16 c3)) (first| exact H2.o.drew.cells.2.2.2.1|exact(H2.o.drew.drews D3).cells.2.2.2.1|exact(H2.o.drew.putB rfl j hlt D3 d _ t ss O3 aR.o).cells.2.2.2.1) (first| (go_at_call 112;refine(zgb w0 _ c a len cap HO.o hlen H2.o.drew.dr.cur (by have h1:=H2.o.drew.dr.2.size;omega)).mono ?_;rintro e w3 ⟨d,sv,t,ss,rfl,O3,hz,D3⟩;have aR:=hJ hz;clear hz;obtain⟨sa,bM,rfl,-⟩:=O3.form;obtain⟨y0,y1,y2,t0,t1,t2,t3,t4,t5,t6⟩:=(H2.o.drew.drews D3).blks rfl j hlt))
   have H4:=hJ (H2.o.drew.putB rfl j hlt D3 d _ t ss O3 aR.o);clear D3 O3 t0 t1 t2 t3 t4 t5 t6 H2;go_wp2;go_roundw
   case rel=>exact⟨j+1,_,oM,gK,H4.o⟩
   simp[intOf];omega
 go_wp2;go_loopw [6] (fun i bK=>∃(j:Nat)(xs:List Bool),j<=16/\i=.int .i64 j/\WdQ w0 w bK c a len cap b (.slice (some ⟨g1,0,none⟩) 16 c1) (.slice a8 8 c8) (.slice (some ⟨g2,0,none⟩) 8 c2) (.slice (some ⟨g3,0,none⟩) 16 c3) xs newY is bs) (fun i _=>16-(intOf i).toNat)
 case atStart=>exact⟨0,newX,zL _,rfl,aO.o⟩
 clear hj hlt;obtain⟨j,xs,hj,rfl,aF⟩:=hrel;have aH:=hJ aF;clear aF aO;by_cases hlt:j<16
 ·have j0:(0:Int)<=(j:Int):=oM
  have j1:(j:Int)<16:=oM
  go_wp2
  go_region_held3 (fun w'=>w'.cell? ⟨b,0,none⟩=some (.slice (some ⟨g1,0,none⟩) 16 c1)) (first| exact aH.o.drew.cells.1|exact(aH.o.drew.drews D3).cells.1|exact((aH.o.drew.drews D3).putX rfl j (x==0)).cells.1) (first| (go_at_call 35;refine(zaw w0 _ c a len cap 2 HO.o hlen aH.o.drew.dr.cur dC dC).mono ?_;rintro e w3 ⟨x,rfl,D3⟩;obtain⟨y0,t0,t1,t2⟩:=(aH.o.drew.drews D3).bit rfl j hlt))
  have H4:=hJ ((aH.o.drew.drews D3).putX rfl j (x==0));clear D3 t0 t1 t2 aH;go_wp2;go_roundw
  case rel=>exact⟨j+1,_,oM,gK,H4.o⟩
  simp[intOf];omega
 go_wp2_with fail
 refine(zaw w0 wr c a len cap 6 HO.o hlen aH.o.dr.cur dC dC).mono ?_;rintro e w2 ⟨x,rfl,D2⟩;have H2:=hJ (aH.o.drews D2);clear D2 aH
 cases hx:(x==0)with
 | true =>
  clear hx;obtain⟨q0,q1,q2,q3,-⟩:=H2.o.cells;have r0:=H2.o.res.cell 0;have r1:=H2.o.res.cell 1;have r2:=H2.o.res.cell 2;have r3:=H2.o.res.cell 3;obtain⟨f0,f1,f2,f3⟩:=H2.o.res.f4;have hl:=H2.o.res.lt;simp only[Xd.zD]at r0 r1 r2 r3;simp at r0 r1 r2 r3;go_wp2;refine bY (v:=.agg #[.slice (aA g1 0) 16 c1,.slice a8 8 c8,.slice (aA g2 0) 8 c2,.slice (aA g3 0) 16 c3]) sR4 rfl ⟨_,_,_,_,_,_,_,_,rfl,?_,H2.o.ok,?_⟩
  ·exact(H2.o.dsk.of_heap fun k hk _=>by rw[hO_ _ ⟨w.1.size,3,none⟩ k _ oB,hO_ _ ⟨w.1.size,2,none⟩ k _ oB,hO_ _ ⟨w.1.size,1,none⟩ k _ oB,hO_ _ ⟨w.1.size,0,none⟩ k _ oB]).mono fun k hk=>by omega
  exact(((H2.o.dr.setCell hcw nR _).setCell hcw nR _).setCell hcw nR _).setCell hcw nR _
 | false =>
  clear hx;go_wp2
  go_region_held3 (fun w'=>w'.cell? ⟨b,2,none⟩=some (.slice (some ⟨g2,0,none⟩) 8 c2)) (first| exact H2.o.drew.cells.2.2.1|exact(H2.o.drew.drews D3).cells.2.2.1|exact((H2.o.drew.drews D3).drews D4).cells.2.2.1|exact(((H2.o.drew.drews D3).drews D4).alloc _).cells.2.2.1|exact(H2.o.drew.root (D3.trans D4) x3 x4 aP aZ).cells.2.2.1) (first| (go_at_call 36;refine(zah w0 _ c a len cap 17 HO.o hlen (H2.o.drew.drews D3).dr.cur dC dC).mono ?_;rintro e w4 ⟨x4,aZ,rfl,D4⟩;obtain⟨y0,y1,y2,t0,t1,t2,t3,t4,t5,t6⟩:=((H2.o.drew.drews D3).drews D4).inos rfl 0 dC;simp only[Nat.zero_mul,zA_]at t0 t1 t2 t3 t4 t5;have wx:IntKind.i64.wrap (1+(x3:Int))=1+(x3:Int):=zdd oM oM)| (go_at_call 36;refine(zah w0 _ c a len cap 16 HO.o hlen H2.o.drew.dr.cur dC dC).mono ?_;rintro e w3 ⟨x3,aP,rfl,D3⟩))
  have H5:=hJ (H2.o.drew.root (D3.trans D4) x3 x4 aP aZ);generalize (((w4.setCell ⟨g2,0,none⟩ (nI 2)).setCell ⟨g2,1,none⟩ (nI 1)).setCell ⟨g2,2,none⟩ (.slice (aA w4.1.size 0) 2 2)).alloc (.cells #[nI (1+(x3:Int)),nI (x4:Int)] 3)=W5 at*;obtain⟨aN,aW⟩:∃aN,is.set 0 (2,1,[1+(x3:Int),(x4:Int)])=aN:=⟨_,rfl⟩
  rw[aW]at H5;have aX:0<aN.length:=by rw[H5.o.ok.i];decide
  have e5:aN[0].2.2=[1+(x3:Int),(x4:Int)]:=by subst aW;rw[gS_]
  have bL:=hJ e5;have wy:IntKind.i64.wrap (1+(x3:Int)-1)=(x3:Int):=by rw[zdd oM oM];omega
  have bO:(0:Int)<=(x3:Int):=oM
  have bN:(x3:Int)<16:=oM
  clear D3 D4 t0 t1 t2 t3 t4 t5 t6 H2 aW wx;obtain⟨gp,cp,hD⟩:=H5.o.dir aX aP e5;have HD:=hJ hD;have aS:=hJ (Drew.refl H5.o.dr.cur).drew;have bH:c<W5.1.size:=by have:=H5.o.dr.2.size;omega
  clear hD e5;go_wp2
  go_region_held3 (fun w'=>w'.cell? ⟨b,3,none⟩=some (.slice (some ⟨g3,0,none⟩) 16 c3)/\w'.cell? ⟨b,2,none⟩=some (.slice (some ⟨g2,0,none⟩) 8 c2)/\w'.cell? ⟨g2,2,none⟩=some (.slice (some ⟨gp,0,none⟩) 2 cp)/\w'.cell? ⟨gp,0,none⟩=some (.int .i64 (1+(x3:Int)))) (first| exact(HD.o _ aS.out).1|exact(HD.o _ (aS.out.below bH B6)).1|exact((HD.o _ aS.out).2 w6 _ B6 O6).1) (first| (go_at_call 113;refine(zd8 _).mono ?_;rintro e w6 ⟨a6,c6,rfl,O6,B6⟩;obtain⟨y0,y1,y2,t0,t1,t2,t3,t4,t5,t6⟩:=(H5.o.drew.over B6).blks rfl x3 aP))
  have H6:=hJ ((HD.o _ aS.out).2 w6 _ B6 O6).2;clear t0 t1 t2 t3 t4 t5 t6 HD aS B6 O6 H5 wy;simp only[set3]at H6;generalize ((w6.setCell ⟨g3,x3*3,none⟩ (.bool true)).setCell ⟨g3,x3*3+1,none⟩ (.slice a6 4 c6)).setCell ⟨g3,x3*3+2,none⟩ (.string ⟨#[]⟩)=W7 at*;go_wp2;go_loopw [7] (fun i bI=>∃(j:Nat)(ss:List Sl),j<=4/\i=.int .i64 j/\Fill j ss/\WdQ w0 w bI c a len cap b (.slice (some ⟨g1,0,none⟩) 16 c1) (.slice a8 8 c8) (.slice (some ⟨g2,0,none⟩) 8 c2) (.slice (some ⟨g3,0,none⟩) 16 c3) xs newY aN (bs.set x3 (true,ss,⟨#[]⟩))) (fun i _=>4-(intOf i).toNat)
  case atStart=>exact⟨0,noSl,zL _,rfl,fill_new,H6.o⟩
  clear hj hlt;obtain⟨j,ss,hj,rfl,hf,aF⟩:=hrel;have aD:=hJ aF;clear aF H6;by_cases hlt:j<4
  ·have j0:(0:Int)<=(j:Int):=oM
   have j1:(j:Int)<4:=oM
   have aL:c<wr.1.size:=by have:=aD.o.dr.2.size;omega
   have wy:IntKind.i64.wrap (1+(x3:Int)-1)=(x3:Int):=by rw[zdd oM oM];omega
   obtain⟨gp,cp,gs,cs,hD⟩:=aD.o.deep aX aP bL.o hlt hf;have HD:=hJ hD;have D0:=hJ (Drew.refl aD.o.dr.cur).drew;have aK:(#[Value.string ⟨#[112]⟩,Value.string ⟨#[113]⟩,Value.string ⟨#[114]⟩,Value.string ⟨#[115]⟩]:Array Va)[j]?=some (.string (nm4 j)):=by
    match j,hlt with
    | 0,_=>rfl
    | 1,_=>rfl
    | 2,_=>rfl
    | 3,_=>rfl
   have aU:([Value.string ⟨#[112]⟩,Value.string ⟨#[113]⟩,Value.string ⟨#[114]⟩,Value.string ⟨#[115]⟩]:List Va)[j]?=some (.string (nm4 j)):=by simpa using aK
   have bE:∀h:j<4,([Value.string ⟨#[112]⟩,Value.string ⟨#[113]⟩,Value.string ⟨#[114]⟩,Value.string ⟨#[115]⟩]:List Va)[j]'h=.string (nm4 j):=fun h=>by
    have:=aU;rw[gE h,oJ]at this;exact this
   have aY:∀h:j<4,(#[Value.string ⟨#[112]⟩,Value.string ⟨#[113]⟩,Value.string ⟨#[114]⟩,Value.string ⟨#[115]⟩]:Array Va)[j]'h=.string (nm4 j):=fun h=>by
    have:=aK;rw[Array.getElem?_eq_getElem h,oJ]at this;exact this
   clear hD hf;go_wp2;refine rP ?_;refine wp_region_held_drew (S:=fun w'=>(w'.cell? ⟨b,3,none⟩=some (.slice (aA g3 0) 16 c3)/\w'.cell? ⟨b,2,none⟩=some (.slice (aA g2 0) 8 c2)/\w'.cell? ⟨g2,2,none⟩=some (.slice (aA gp 0) 2 cp)/\w'.cell? ⟨gp,0,none⟩=some (nI (1+(x3:Int))))/\w'.cell? ⟨g3,x3*3+1,none⟩=some (.slice (aA gs 0) 4 cs)) kL (HD.o _ D0.out).1 (fun aB=>?_);refine tk 0 aB ?_;simp only[Act.put];refine tk 1 aB ?_;simp only[Act.put];refine tk 2 aB ?_;simp only[Act.put];refine tk 3 aB ?_;simp only[Act.put];refine tk 4 aB ?_;simp only[Act.put];refine tk 5 aB ?_;simp only[Act.put];refine tk 6 aB ?_;simp only[Act.put];refine tk 7 aB ?_;simp only[Act.put];refine tk 8 aB ?_;simp only[Act.put];refine tk 9 aB ?_;simp only[Act.put];refine tk 10 aB ?_;simp only[Act.put];refine tk 11 aB ?_;simp only[Act.put];refine tk 12 aB ?_;simp only[Act.put];refine tk 13 aB ?_;simp only[Act.put];refine tk 15 aB ?_;simp only[Act.put];refine tk 18 aB ?_;simp only[Act.put];refine wH (rs:=[14,19]) kL sI ?_;refine rC rfl (fun K hK=>?_) (rC rfl (fun K hK=>?_) rN)
   ·go_simp;refine hK.out _ _ ?_ (fun aB=>?_)
    ·exact(HD.o _ (D0.out.alloc aL _)).1
    clear hK K;refine zdl (S':=fun w'=>((w'.cell? ⟨b,3,none⟩=some (.slice (aA g3 0) 16 c3)/\w'.cell? ⟨b,2,none⟩=some (.slice (aA g2 0) 8 c2)/\w'.cell? ⟨g2,2,none⟩=some (.slice (aA gp 0) 2 cp)/\w'.cell? ⟨gp,0,none⟩=some (nI (1+(x3:Int))))/\w'.cell? ⟨g3,x3*3+1,none⟩=some (.slice (aA gs 0) 4 cs))/\w'.cell? ⟨wr.1.size,j,none⟩=some (.string (nm4 j))) (fun _ h=>h.1) _ _ _ _ ?_;have aG:(wr.drew.alloc (.cells #[.string ⟨#[112]⟩,.string ⟨#[113]⟩,.string ⟨#[114]⟩,.string ⟨#[115]⟩] 9)).cell? ⟨wr.1.size,j,none⟩=some (.string (nm4 j)):=((AtC.new wr.drew 9 _).cell j).trans aK;have aC:=aI aB aG;refine tk 16 aC ?_;simp only[Act.put];refine tk 17 aC ?_;simp only[Act.put];refine wH (rs:=[19]) kL sI ?_;refine rC rfl (fun K hK=>?_) rN;go_simp
    go_at_call 36
    refine(zah w0 _ c a len cap 8 HO.o hlen (D0.out.alloc aL _).cur dC dC).mono ?_;rintro e w8 ⟨x8,bJ,rfl,D8⟩;have aM:1<=1+(x8:Int)/\1+(x8:Int)<=8:=⟨oM,oM⟩
    have wz:IntKind.i64.wrap (1+(x8:Int))=1+(x8:Int):=zdd oM oM;have tA:w8.cell? ⟨wr.1.size,j,none⟩=some (.string (nm4 j)):=(((AtC.new wr.drew 9 _).grown D8.2 (by have h9:wr.drew.1.size=wr.1.size:=rfl;simp;omega)).cell j).trans aK;obtain⟨k0,⟨t0,t1,t2,y0,y1,t3,t4⟩,k2⟩:=HD.o _ ((D0.out.alloc aL _).trans D8);clear aB aC;go_wp2_with fail
    refine hK.out _ _ ⟨k0,tA⟩ (fun aB=>?_);clear hK K;refine tk 20 aB ?_;simp only[Act.put];refine tk 21 aB ?_;simp only[Act.put];refine tk 22 aB ?_;simp only[Act.put];refine wH (rs:=[23]) kL sI ?_;refine rC rfl (fun K hK=>?_) rN;go_simp;refine hK.out _ _ ⟨((HD.o _ ((D0.out.alloc aL _).trans D8)).2.2 _ aM).1,(zm9 w8 _ _ _ _ _ (by have:=(HD.o _ D0.out).2.1.1;have h9:wr.drew.1.size=wr.1.size:=rfl;omega)).trans tA⟩ (fun aB=>?_);clear hK K;refine wpAnyH_done kL ?_ _;refine NoPanic.normal ?_;obtain⟨aV,aQ,wd⟩:=((HD.o _ ((D0.out.alloc aL _).trans D8)).2.2 _ aM).2;have H9:=hJ (aI aQ wd);clear aQ wd HD D0 D8 t0 t1 t2 t3 t4 aK aU bE aY aB tA aG k0 k2;go_wp2;go_roundw
    case rel=>exact⟨j+1,aV,oM,gK,H9.o.1,H9.o.2⟩
    simp[intOf];omega
   go_simp
   go_at_call 36
   refine(zah w0 _ c a len cap 8 HO.o hlen D0.out.cur dC dC).mono ?_;rintro e w8 ⟨x8,bJ,rfl,D8⟩;have aM:1<=1+(x8:Int)/\1+(x8:Int)<=8:=⟨oM,oM⟩
   have wz:IntKind.i64.wrap (1+(x8:Int))=1+(x8:Int):=zdd oM oM;obtain⟨k0,⟨t0,t1,t2,y0,y1,t3,t4⟩,k2⟩:=HD.o _ (D0.out.trans D8);clear aB;go_wp2_with fail
   refine hK.out _ _ k0 (fun aB=>?_);clear hK K;refine tk 20 aB ?_;simp only[Act.put];refine wH (rs:=[14]) kL sI ?_;refine rC rfl (fun K hK=>?_) rN;go_simp;refine hK.out _ _ (HD.o _ ((D0.out.trans D8).alloc aL _)).1 (fun aB=>?_);clear hK K;refine zdl (S':=fun w'=>((w'.cell? ⟨b,3,none⟩=some (.slice (aA g3 0) 16 c3)/\w'.cell? ⟨b,2,none⟩=some (.slice (aA g2 0) 8 c2)/\w'.cell? ⟨g2,2,none⟩=some (.slice (aA gp 0) 2 cp)/\w'.cell? ⟨gp,0,none⟩=some (nI (1+(x3:Int))))/\w'.cell? ⟨g3,x3*3+1,none⟩=some (.slice (aA gs 0) 4 cs))/\w'.cell? ⟨w8.1.size,j,none⟩=some (.string (nm4 j))) (fun _ h=>h.1) _ _ _ _ ?_;have aG:(w8.alloc (.cells #[.string ⟨#[112]⟩,.string ⟨#[113]⟩,.string ⟨#[114]⟩,.string ⟨#[115]⟩] 9)).cell? ⟨w8.1.size,j,none⟩=some (.string (nm4 j)):=((AtC.new w8 9 _).cell j).trans aK;have aC:=aI aB aG;refine tk 16 aC ?_;simp only[Act.put];refine tk 17 aC ?_;simp only[Act.put];refine tk 21 aC ?_;simp only[Act.put];refine tk 22 aC ?_;simp only[Act.put];clear aB aC aG;refine wH (rs:=[23]) kL sI ?_;refine rC rfl (fun K hK=>?_) rN;go_simp;refine hK.out _ _ ⟨⟨(k2 _ aM).1.1.alloc _,zcz (k2 _ aM).1.2 _⟩,zna w8 _ _ _ _ _ aK⟩ (fun aB=>?_);clear hK K;refine wpAnyH_done kL ?_ _;refine NoPanic.normal ?_;obtain⟨aV,aQ,wd⟩:=(k2 _ aM).2;have H9:=hJ (aI aQ (wd.alloc (.cells #[.string ⟨#[112]⟩,.string ⟨#[113]⟩,.string ⟨#[114]⟩,.string ⟨#[115]⟩] 9)));clear aQ wd HD D0 D8 t0 t1 t2 t3 t4 aK aU bE aY aB k0 k2;go_wp2;go_roundw
   case rel=>exact⟨j+1,aV,oM,gK,H9.o.1,H9.o.2⟩
   simp[intOf];omega
  obtain⟨q0,q1,q2,q3,-⟩:=aD.o.cells;have r0:=aD.o.res.cell 0;have r1:=aD.o.res.cell 1;have r2:=aD.o.res.cell 2;have r3:=aD.o.res.cell 3;obtain⟨f0,f1,f2,f3⟩:=aD.o.res.f4;have hl:=aD.o.res.lt;simp only[Xd.zD]at r0 r1 r2 r3;simp at r0 r1 r2 r3;go_wp2;refine bY (v:=.agg #[.slice (aA g1 0) 16 c1,.slice a8 8 c8,.slice (aA g2 0) 8 c2,.slice (aA g3 0) 16 c3]) sR4 rfl ⟨_,_,_,_,_,_,_,_,rfl,?_,aD.o.ok,?_⟩
  ·exact(aD.o.dsk.of_heap fun k hk _=>by rw[hO_ _ ⟨w.1.size,3,none⟩ k _ oB,hO_ _ ⟨w.1.size,2,none⟩ k _ oB,hO_ _ ⟨w.1.size,1,none⟩ k _ oB,hO_ _ ⟨w.1.size,0,none⟩ k _ oB]).mono fun k hk=>by omega
  exact(((aD.o.dr.setCell hcw nR _).setCell hcw nR _).setCell hcw nR _).setCell hcw nR _
namespace Kit
structure Wp(w:Wd)(B b n:Nat)(a1 a2 a3 a4 a5 a6 ta ma ka pa:OA)(c1 c2 c3 c4 c5 c6 tc mc kc pl pc:Nat)(m:MD)(ts:List BA)(ns:List Nd)(cs:List Int):Prop where
 mo:N7 w (fun k=>B<=k/\k≠b) m a1 c1 a2 c2 a3 c3 a4 c4 a5 c5 a6 c6
 sh:Sh Z0 m
 dv:ROwns w B 9 (.slice ta ts.length tc) (stc ts)
 dn:∀k,(Value.slice ta ts.length tc).ownBlock=some k->k≠b
 dk:DvOk ts
 nd:NdO w B (.slice ma ns.length mc) ns
 nn:∀k,(Value.slice ma ns.length mc).ownBlock=some k->k≠b
 nl:ns.length<=n
 nb:NdB (8*n) ns
 co:ROwns w B 3 (.slice ka cs.length kc) (ic cs)
 cn:∀k,(Value.slice ka cs.length kc).ownBlock=some k->k≠b
 cl:cs.length<=n
namespace Wp
variable {w w' : World} {B b n : Nat} {a1 a2 a3 a4 a5 a6 ta ma ka pa : Option Addr} {c1 c2 c3 c4 c5 c6 tc mc kc pl pc : Nat} {m : MD} {ts : List ByteArray} {ns : List Nd} {cs : List Int}
theorem of_heap(h:Wp w B b n a1 a2 a3 a4 a5 a6 ta ma ka pa c1 c2 c3 c4 c5 c6 tc mc kc pl pc m ts ns cs)(hh:∀k,k<w.1.size->k≠b->w'.1[k]?=w.1[k]?):Wp w' B b n a1 a2 a3 a4 a5 a6 ta ma ka pa c1 c2 c3 c4 c5 c6 tc mc kc pl pc m ts ns cs :=
 ⟨h.mo.bound.of_heap (fun k hk _=>hh k hk.2 hk.1.2)|>.mono (fun _ hk=>hk.1),h.sh,h.dv.of_heap (fun k hk=>hh k (h.dv.lt k hk).2 (h.dn k hk)),h.dn,h.dk,h.nd.of_heap (fun k hk=>hh k (h.nd.lt k hk).2 (h.nn k hk)),h.nn,h.nl,h.nb,h.co.of_heap (fun k hk=>hh k (h.co.lt k hk).2 (h.cn k hk)),h.cn,h.cl⟩
theorem below(h:Wp w B b n a1 a2 a3 a4 a5 a6 ta ma ka pa c1 c2 c3 c4 c5 c6 tc mc kc pl pc m ts ns cs)(hb:Below w.1.size w w'):Wp w' B b n a1 a2 a3 a4 a5 a6 ta ma ka pa c1 c2 c3 c4 c5 c6 tc mc kc pl pc m ts ns cs:=h.of_heap (fun k hk _=>hb.block k hk)
theorem grown(h:Wp w B b n a1 a2 a3 a4 a5 a6 ta ma ka pa c1 c2 c3 c4 c5 c6 tc mc kc pl pc m ts ns cs)(hg:w.grownBy w' (some b)):Wp w' B b n a1 a2 a3 a4 a5 a6 ta ma ka pa c1 c2 c3 c4 c5 c6 tc mc kc pl pc m ts ns cs:=h.of_heap (fun k hk hn=>hg.block k hk (by simpa using hn))
theorem more{n':Nat}(h:Wp w B b n a1 a2 a3 a4 a5 a6 ta ma ka pa c1 c2 c3 c4 c5 c6 tc mc kc pl pc m ts ns cs)(hn:n<=n'):Wp w B b n' a1 a2 a3 a4 a5 a6 ta ma ka pa c1 c2 c3 c4 c5 c6 tc mc kc pl pc m ts ns cs:=⟨h.mo,h.sh,h.dv,h.dn,h.dk,h.nd,h.nn,Nat.le_trans h.nl hn,h.nb.mono oM,h.co,h.cn,Nat.le_trans h.cl hn⟩
end Wp
def WB(w:World)(B b n:Nat):Prop:=∃(a1 a2 a3 a4 a5 a6 ta ma ka pa:Option Addr)(c1 c2 c3 c4 c5 c6 tc mc kc pl pc:Nat)(m:MD)(ts:List ByteArray)(ns:List Nd)(cs:List Int),AtC w b 154 #[.slice a1 m.1.length c1,.slice a2 m.2.length c2,.slice a3 m.3.length c3,.slice a4 m.4.length c4,.slice a5 m.5.length c5,.slice a6 m.6.length c6,.int .i64 m.nx,.slice ta ts.length tc,.slice ma ns.length mc,.slice ka cs.length kc,.slice pa pl pc]/\Wp w B b n a1 a2 a3 a4 a5 a6 ta ma ka pa c1 c2 c3 c4 c5 c6 tc mc kc pl pc m ts ns cs/\B<=b
theorem WB.below{w w':World}{B b n:Nat}(h:WB w B b n)(hb:Below w.1.size w w'):WB w' B b n:=by
 obtain⟨a1,a2,a3,a4,a5,a6,ta,ma,ka,pa,c1,c2,c3,c4,c5,c6,tc,mc,kc,pl,pc,m,ts,ns,cs,h1,h2,h3⟩:=h;exact⟨a1,a2,a3,a4,a5,a6,ta,ma,ka,pa,c1,c2,c3,c4,c5,c6,tc,mc,kc,pl,pc,m,ts,ns,cs,h1.over hb,h2.below hb,h3⟩
theorem zar{w w':World}{b i:Nat}{x:Value}(h:w.grownBy w' (some b)):w.grownBy (w'.setCell ⟨b,i,none⟩ x) (some b) :=
 ⟨h.os,h.tape,h.output,Nat.le_trans h.size sI,fun k hk hn=>(heap_setCell_other w' ⟨b,i,none⟩ k _ (fun e=>hn (by simp[e]))).trans (h.block k hk hn)⟩
theorem zbn(w:World)(row:Option Nat):w.grownBy w row:=⟨rfl,rfl,rfl,Nat.le_refl _,fun _ _ _=>rfl⟩
end Kit
def SpoR(bs:List Blk)(nm:BA)(e:Ending):Prop:=∃(p s:Nat)(hp:p<bs.length)(hs:s<bs[p].2.1.length),e=.returned (.tuple #[.agg #[nI ((p:Int)+1),nI (s:Int)],.bool true])/\bs[p].2.1[s].1=nm
theorem SpoR.mk{bs:List Blk}{nm:BA}{e:Ending}{P:Int}{s:Nat}(hs:s<(blkAt bs P).2.1.length)(he:e=.returned (.tuple #[.agg #[nI P,nI (s:Int)],.bool true]))(hn:(blkAt bs P).2.1[s].1=nm):SpoR bs nm e:=by
 cases hb:inB P 1 bs.length with
 | false=>rw[zj1 hb]at hs;exact absurd hs sI
 | true =>
  obtain⟨jb,hj,e1,e2⟩:=zb8 hb;subst e1;have:∀(B:Blk),blkAt bs ((jb:Int)+1)=B->∀(hs:s<B.2.1.length),B.2.1[s].1=nm:=fun B hB=>by subst hB;exact fun _=>hn
  exact⟨jb,s,hj,e2 ▸ hs,he,this _ e2 _⟩
end Go.Proofs.YtgnplpmgkegcnaaGreat
