/- Texts of the proof, bundled. -/
import Derived.Below
import Derived.BigQuiet
import Derived.BigRegion
import Derived.ChangeOld
import Derived.Deep.AppendLies
import Derived.Deep.CutRange
import Derived.Deep.DeepCutAuto
import Derived.Deep.OwnRows
import Derived.Deep.QuietTactic
import Derived.Deep.RegionHeld
import Derived.Deep.RegionHeld3
import Derived.Deep.RegionWith
import Derived.Deep.Upon
import Derived.Handy
import Derived.Laws.Bits128
import Derived.Laws.CopyOwn
import Derived.Laws.IdiomStrings
import Derived.Lib.AppendStr
import Derived.LoopIn
import Derived.LoopNIn
import Derived.OpenShut
import Derived.OwnWalkIn
import Derived.ProofKit
import Derived.RangeFuncBound
import Derived.RangeFuncCalls
import Derived.RangeFuncLeaves
import Derived.RangeFuncNested
import Derived.RegionTactic
import Derived.Shelf.Abstract
import Derived.Shelf.LaysM
import Derived.Shelf.RegionOpen
import Derived.Shelf.Strconv.Clone
import Derived.ShutString
import Derived.TacticsInMore
import Derived.WalkKit
import Derived.WalkLawsBesides
import Derived.WalkSpells
import Derived.Test.YtmbimpmebfoglaaGreatRows
import Derived.Test.YtmbimpmebfoglaaGreatProg
set_option maxRecDepth 100000
set_option maxHeartbeats 12800000
/- Closing blocks by name. -/
namespace Go.Proofs.YtmbimpmebfoglaaGreat
theorem cQ0 {p:Prop}(h:p:=by
 refine zar (by kernel_rfl) [0,1,2,3,4,5,6,7,8,9,10] [11,12] [([0,1,2,3,4,5,6,7,8,10],[[9,11,12],[11,9,12]])] (fun i=>match i with|0=>.const [] (.agg #[dx,dy,.slice (some ⟨g,off,none⟩) is.length c3,bv])|1=>.const [] (.pointer (some ⟨w.heap.size+1,2,none⟩))|2=>.const [1] (.slice (some ⟨gp,op,none⟩) ps.length pc)|3=>.const [] (.int .i64 q)|4=>.const [2,3] (.pointer (some ⟨gp,op+q,none⟩))|5=>.const [4] (.int .i64 Pn)|6=>MkBf 0 5 wr bd btx bss F|7=>MkBv 6 bd btx bss.length F|8=>MkBx 7|9=>.const [7] (.bool F)|10=>MkW 44 #[.bool false,.slice none 0 0,.string ⟨#[]⟩]|_=>.triv) (fun x=>⟨List.toArray ((.agg #[dx,dy,.slice (some ⟨g,off,none⟩) is.length c3,bv])::(.int .i64 (↑j+1))::(.string nm)::(.pointer (some ⟨w.heap.size,0,none⟩))::(undef)::(undef)::(u6)::(u7)::(u8)::(.pointer (some ⟨w.heap.size+1,0,none⟩))::(.int .i64 ↑q)::(x 10)::(u12)::(u13)::(.int .i64 (↑j+1))::(.pointer (some ⟨w.heap.size,2,none⟩))::(.slice (some ⟨g,off,none⟩) is.length c3)::(.int .i64 ↑is.length)::(.bool true)::(.bool false)::(.bool false)::(.pointer (some ⟨w.heap.size,2,none⟩))::(.slice (some ⟨g,off,none⟩) is.length c3)::(.int .i64 (↑j+1))::(.int .i64 ↑j)::(.pointer (some ⟨g,off+j * 3,none⟩))::(.pointer (some ⟨g,off+j * 3,none⟩))::(.int .i64 2)::(.bool false)::(.bool false)::(.pointer (some ⟨w.heap.size,2,none⟩))::(.slice (some ⟨g,off,none⟩) is.length c3)::(.int .i64 (↑j+1))::(.int .i64 ↑j)::(.pointer (some ⟨g,off+j * 3,none⟩))::(.agg #[.int .i64 2,.int .i64 ln,.slice (some ⟨gp,op,none⟩) ps.length pc])::(.int .i64 ↑q)::(.pointer (some ⟨w.heap.size+1,2,none⟩))::(.slice (some ⟨gp,op,none⟩) ps.length pc)::(.int .i64 ↑ps.length)::(.bool true)::(u41)::(u42)::(x 7)::(x 0)::(x 1)::(x 2)::(x 3)::(x 4)::(x 5)::(x 6)::(x 8)::(x 9)::(u53)::(u54)::(u55)::(u56)::(u57)::(u58)::(u59)::(u60)::(u61)::(u62)::(u63)::(u64)::(u65)::(u66)::(u67)::(u68)::(u69)::(u70)::(u71)::(u72)::(u73)::(u74)::(u75)::(u76)::[]),[]⟩) (fun i=>match i with|0=>u44|1=>u45|2=>u46|3=>u47|4=>u48|5=>u49|6=>u50|7=>u43|8=>u51|9=>u52|10=>u11|_=>undef) rfl (by kernel_rfl) (by kernel_rfl) (by kernel_rfl) (by kernel_rfl) rfl ?_ ?_ ?_
 ·intro jo hj so x iw W hd hp K hK;simp only [List.mem_cons,List.not_mem_nil,or_false] at hj;rcases hj with rfl|rfl|rfl|rfl|rfl|rfl|rfl|rfl|rfl|rfl|rfl<;>refine wpOp_step (o:=_) rfl fun K' hK'=>?_<;>have HK:=hide (fun (v:Value) (W':World) h1 h2=>hK' _ _ (hK v W' h1 h2))<;>simp only [upd,Nat.reduceEqDiff,if_true,if_false] at HK
  ·have k0:=(HC2.out W hp.bel).1;have y0:=k0.c0;have y1:=k0.c1;have y2:=k0.c2;have y3:=k0.c3;clear k0;go_simp;exact HK.out _ _ bR rfl
  ·clear hK hK' hp hd;go_simp;exact HK.out _ _ bR rfl
  ·have e1:x 1=.pointer (some ⟨w.heap.size+1,2,none⟩):=hp.post 1 (hd 1 mz0);have y0:=(HC2.out W hp.bel).2.1.c2;simp only [e1] at HK ⊢;go_simp;exact HK.out _ _ bR rfl
  ·clear hK hK' hp hd;go_simp;exact HK.out _ _ bR rfl
  ·have e2:x 2=.slice (some ⟨gp,op,none⟩) ps.length pc:=hp.post 2 (hd 2 mz0);have e3:x 3=.int .i64 q:=hp.post 3 (hd 3 mz1);simp only [e2,e3] at HK ⊢;go_simp;exact HK.out _ _ bR rfl
  ·have e4:x 4=.pointer (some ⟨gp,op+q,none⟩):=hp.post 4 (hd 4 mz0);have y0:W.cell? ⟨gp,op+q,none⟩=some (.int .i64 Pn):=(HC2.out W hp.bel).2.2.1;simp only [e4] at HK ⊢;go_simp;exact HK.out _ _ bR rfl
  ·have e0:x 0=.agg #[dx,dy,.slice (some ⟨g,off,none⟩) is.length c3,bv]:=hp.post 0 (hd 0 mz0);have e5:x 5=.int .i64 Pn:=hp.post 5 (hd 5 mz1);have dr:=zac hp.bel;simp only [e0,e5] at HK ⊢;clear e0 e5;go_simp;refine (CB.out W dr).mono ?_;rintro e w6 ⟨sv,rfl,R6,B6⟩;obtain ⟨sa,sc,rfl,hR6⟩:=R6;go_simp;exact HK.out _ _ B6 ⟨sa,sc,rfl,sa,sc,rfl,hR6⟩
  ·have e6:∃ a c,x 6=.tuple #[.agg #[.bool bd,.slice a bss.length c,.string btx],.bool F]/\RSl wr (.slice a bss.length c) bss:=hp.post 6 (hd 6 mz0);obtain ⟨sa,sc,e6,-⟩:=e6;have e6a:=hide e6;simp only [e6] at HK ⊢;clear e6;go_simp;exact HK.out _ _ bR ⟨e6a.out,sa,sc,rfl⟩
  ·have e7:x 6=x 7/\∃ a c,x 7=.tuple #[.agg #[.bool bd,.slice a bss.length c,.string btx],.bool F]:=hp.post 7 (hd 7 mz0);obtain ⟨-,sa,sc,e7⟩:=e7;have e7a:Hid (.agg #[.bool bd,.slice sa bss.length sc,.string btx]=fstOf (x 7)):=by rw [e7];rfl
   simp only [e7] at HK ⊢;clear e7;go_simp;exact HK.out _ _ bR e7a.out
  ·have e7:x 6=x 7/\∃ a c,x 7=.tuple #[.agg #[.bool bd,.slice a bss.length c,.string btx],.bool F]:=hp.post 7 (hd 7 mz0);obtain ⟨-,sa,sc,e7⟩:=e7;simp only [e7] at HK ⊢;clear e7;go_simp;exact HK.out _ _ bR rfl
  ·clear hK hK' hp hd;go_simp;exact HK.out _ _ ((Below.refl _ W).alloc nR _) ⟨rfl,by simp,AtC.new W 44 _⟩
 ·intro x iw W hp;obtain ⟨e7,-⟩:=hp.post 7 (by decide);obtain ⟨sa,sc,e6,R6⟩:=hp.post 6 (by decide);have e8:x 8=fstOf (x 7):=hp.post 8 (by decide);obtain ⟨e10,z10,A10⟩:=hp.post 10 (by decide);have l10:=hp.lo 10 (by decide);have bel:=zac hp.bel;rw [← e7,e6] at e8;rw [e6] at e7
  replace e8:x 8=.agg #[.bool bd,.slice sa bss.length sc,.string btx]:=e8
  have e9:x 9=.bool F:=hp.post 9 (by decide);have e0:x 0=.agg #[dx,dy,.slice (some ⟨g,off,none⟩) is.length c3,bv]:=hp.post 0 (by decide);have e1:x 1=.pointer (some ⟨w.heap.size+1,2,none⟩):=hp.post 1 (by decide);have e2:x 2=.slice (some ⟨gp,op,none⟩) ps.length pc:=hp.post 2 (by decide);have e3:x 3=.int .i64 q:=hp.post 3 (by decide);have e4:x 4=.pointer (some ⟨gp,op+q,none⟩):=hp.post 4 (by decide);have e5:x 5=.int .i64 Pn:=hp.post 5 (by decide);have y0:=A10.c0;have f0:=A10.frozen 0;have y1:=A10.c1;have f1:=A10.frozen 1;have y2:=A10.c2;have f2:=A10.frozen 2;have hb10:wr.heap.size<=(iw 10).1:=l10.1;have HM:Hid (AtC (((W.setCell ⟨(iw 10).1,0,none⟩ (.bool bd)).setCell ⟨(iw 10).1,1,none⟩ (.slice sa bss.length sc)).setCell ⟨(iw 10).1,2,none⟩ (.string btx)) (iw 10).1 44 #[.bool bd,.slice sa bss.length sc,.string btx]/\RSl wr (.slice sa bss.length sc) bss/\Below wr.heap.size wr (((W.setCell ⟨(iw 10).1,0,none⟩ (.bool bd)).setCell ⟨(iw 10).1,1,none⟩ (.slice sa bss.length sc)).setCell ⟨(iw 10).1,2,none⟩ (.string btx))):=by
   have s0:AtC (W.setCell ⟨(iw 10).1,0,none⟩ (.bool bd)) (iw 10).1 44 #[.bool bd,.slice none 0 0,.string ⟨#[]⟩]:=A10.set 0 _;have s1:AtC ((W.setCell ⟨(iw 10).1,0,none⟩ (.bool bd)).setCell ⟨(iw 10).1,1,none⟩ (.slice sa bss.length sc)) (iw 10).1 44 #[.bool bd,.slice sa bss.length sc,.string ⟨#[]⟩]:=s0.set 1 _;exact ⟨s1.set 2 _,R6,((bel.setCell hb10 _).setCell hb10 _).setCell hb10 _⟩
  clear hp l10 A10 bel hb10 z10;generalize (iw 10).1=bw at *;simp only [e0,e1,e2,e3,e4,e5,e6,← e7,e8,e9,e10];clear e0 e1 e2 e3 e4 e5 e6 e7 e8 e9 e10;refine line2 rfl rfl ?_;go_wp2;exact (HQQ.out _ _ _).2 ⟨rfl,_,bw,sa,sc,rfl,HM.out.1,HM.out.2.1,HM.out.2.2⟩
 ·intro qa hqa l hl x iw W hp;simp only [List.mem_cons,List.not_mem_nil,or_false] at hqa;subst hqa;simp only [List.mem_cons,List.not_mem_nil,or_false] at hl;obtain ⟨e7,-⟩:=hp.post 7 (by decide);obtain ⟨sa,sc,e6,R6⟩:=hp.post 6 (by decide);have e8:x 8=fstOf (x 7):=hp.post 8 (by decide);obtain ⟨e10,z10,A10⟩:=hp.post 10 (by decide);have l10:=hp.lo 10 (by decide);have bel:=zac hp.bel;rw [← e7,e6] at e8;rw [e6] at e7
  replace e8:x 8=.agg #[.bool bd,.slice sa bss.length sc,.string btx]:=e8
  have e0:x 0=.agg #[dx,dy,.slice (some ⟨g,off,none⟩) is.length c3,bv]:=hp.post 0 (by decide);have e1:x 1=.pointer (some ⟨w.heap.size+1,2,none⟩):=hp.post 1 (by decide);have e2:x 2=.slice (some ⟨gp,op,none⟩) ps.length pc:=hp.post 2 (by decide);have e3:x 3=.int .i64 q:=hp.post 3 (by decide);have e4:x 4=.pointer (some ⟨gp,op+q,none⟩):=hp.post 4 (by decide);have e5:x 5=.int .i64 Pn:=hp.post 5 (by decide);have y0:=A10.c0;have f0:=A10.frozen 0;have y1:=A10.c1;have f1:=A10.frozen 1;have y2:=A10.c2;have f2:=A10.frozen 2;have hb10:wr.heap.size<=(iw 10).1:=l10.1;have HM:Hid (AtC (((W.setCell ⟨(iw 10).1,0,none⟩ (.bool bd)).setCell ⟨(iw 10).1,1,none⟩ (.slice sa bss.length sc)).setCell ⟨(iw 10).1,2,none⟩ (.string btx)) (iw 10).1 44 #[.bool bd,.slice sa bss.length sc,.string btx]/\RSl wr (.slice sa bss.length sc) bss/\Below wr.heap.size wr (((W.setCell ⟨(iw 10).1,0,none⟩ (.bool bd)).setCell ⟨(iw 10).1,1,none⟩ (.slice sa bss.length sc)).setCell ⟨(iw 10).1,2,none⟩ (.string btx))):=by
   have s0:AtC (W.setCell ⟨(iw 10).1,0,none⟩ (.bool bd)) (iw 10).1 44 #[.bool bd,.slice none 0 0,.string ⟨#[]⟩]:=A10.set 0 _;have s1:AtC ((W.setCell ⟨(iw 10).1,0,none⟩ (.bool bd)).setCell ⟨(iw 10).1,1,none⟩ (.slice sa bss.length sc)) (iw 10).1 44 #[.bool bd,.slice sa bss.length sc,.string ⟨#[]⟩]:=s0.set 1 _;exact ⟨s1.set 2 _,R6,((bel.setCell hb10 _).setCell hb10 _).setCell hb10 _⟩
  clear hp l10 A10 bel hb10 z10;generalize (iw 10).1=bw at *;simp only [e0,e1,e2,e3,e4,e5,e6,← e7,e8,e10];clear e0 e1 e2 e3 e4 e5 e6 e7 e8 e10;rcases hl with rfl | rfl
  ·refine line3 rfl rfl rfl ?_;go_wp2;exact (HQQ.out _ _ _).2 ⟨rfl,_,bw,sa,sc,rfl,HM.out.1,HM.out.2.1,HM.out.2.2⟩
  ·refine line3 rfl rfl rfl ?_;go_wp2;exact (HQQ.out _ _ _).2 ⟨rfl,_,bw,sa,sc,rfl,HM.out.1,HM.out.2.1,HM.out.2.2⟩):p:=h
theorem cQ1 {p:Prop}(h:p:=by
 have HB2:Hid (Below W0.heap.size W0 W2/\AtC W2 w1.heap.size 33 #[.slice s1 m1.xs.length t1,.slice s2 m1.ys.length t2,.slice s3 m1.is.length t3,.slice s4 m1.bs.length t4,.slice s5 m1.fs.length t5,.slice s6 m1.ds.length t6,.int .i64 m1.nx]/\MO W2 (fun k=>W0.heap.size<=k) (.slice s1 m1.xs.length t1) (.slice s2 m1.ys.length t2) (.slice s3 m1.is.length t3) (.slice s4 m1.bs.length t4) (.slice s5 m1.fs.length t5) (.slice s6 m1.ds.length t6) m1/\Sh Z0 m1/\w.heap.size+1+1 < W0.heap.size):=by
  rw [← hW2];exact ⟨B1.alloc B1.size _,AtC.new w1 33 _,O1.alloc _,S1,(HC.out W0 HB0.out).2.2.2.2⟩
 clear O1 S1 B1 x0 x1 x2 x3 x4 x5 x6 e0 e1 e2 e3 e4;obtain ⟨y0,y1,y2,y3,y4,y5,y6⟩:=AtC.sev HB2.out.2.1;obtain ⟨r0,r1,r2,r3,r4,r5,r6⟩:=AtC.sev ((HC.out W2 HB2.out.1).2.2.1);have v0:=(HC.out W2 HB2.out.1).2.2.1.frozen 0;have v1:=(HC.out W2 HB2.out.1).2.2.1.frozen 1;have v2:=(HC.out W2 HB2.out.1).2.2.1.frozen 2;have v3:=(HC.out W2 HB2.out.1).2.2.1.frozen 3;have v4:=(HC.out W2 HB2.out.1).2.2.1.frozen 4;have v5:=(HC.out W2 HB2.out.1).2.2.1.frozen 5;have v6:=(HC.out W2 HB2.out.1).2.2.1.frozen 6;go_wp2;refine bodyPost_ret (v:=.tuple #[.agg #[.slice s1 m1.xs.length t1,.slice s2 m1.ys.length t2,.slice s3 m1.is.length t3,.slice s4 m1.bs.length t4,.slice s5 m1.fs.length t5,.slice s6 m1.ds.length t6,.int .i64 m1.nx],.int .i64 cc,.bool true]) (by simp [results,go_sem,r0,r1,r2,r3,r4,r5,r6]) rfl ⟨⟨_,_,_,_,_,_,_,_,_,_,_,_,m1,_,_,rfl,fun _=>⟨(HB2.out.2.2.1.of_heap fun k hk _=>zaa _ _ _ _ _ _ _ _ _ k (by have:W0.heap.size<=k:=hk;have:=HB2.out.2.2.2.2;omega)).mono (fun k hk=>by have:W0.heap.size<=k:=hk;have:=HB2.out.2.2.2.2;omega),HB2.out.2.2.2.1⟩⟩,zab (HC.out W2 HB2.out.1).2.2.2.1 (by omega) _ _ _ _ _ _ _⟩):p:=h
theorem cQ2 {p:Prop}(h:p:=by
 obtain ⟨y0,y1,y2,y3,y4,y5,y6⟩:=AtC.sev ((HC.out w4 HB4.out).2.2.1);obtain ⟨r0,r1,r2,r3,r4,r5,r6⟩:=AtC.sev ((HC.out w4 HB4.out).2.1);have v0:=(HC.out w4 HB4.out).2.1.frozen 0;have v1:=(HC.out w4 HB4.out).2.1.frozen 1;have v2:=(HC.out w4 HB4.out).2.1.frozen 2;have v3:=(HC.out w4 HB4.out).2.1.frozen 3;have v4:=(HC.out w4 HB4.out).2.1.frozen 4;have v5:=(HC.out w4 HB4.out).2.1.frozen 5;have v6:=(HC.out w4 HB4.out).2.1.frozen 6;have HFF:=hide (HC.out w4 HB4.out);go_wp2;refine bodyPost_ret (v:=.tuple #[.agg #[.slice s1 m.xs.length t1,.slice s2 m.ys.length t2,.slice s3 m.is.length t3,.slice s4 m.bs.length t4,.slice s5 m.fs.length t5,.slice s6 m.ds.length t6,.int .i64 m.nx],.int .i64 6]) (by simp [results,go_sem,r0,r1,r2,r3,r4,r5,r6]) rfl ⟨⟨_,_,_,_,_,_,m,_,rfl,(HFF.out.2.2.2.1.of_heap fun k hk _=>zaa _ _ _ _ _ _ _ _ _ k (by have:w.heap.size+1+1<=k/\k < b2:=hk;omega)).mono (fun k hk=>by have:w.heap.size+1+1<=k/\k < b2:=hk;omega),HM.out⟩,zab HFF.out.2.2.2.2.1 (by omega) _ _ _ _ _ _ _⟩):p:=h
theorem cQ3 {p:Prop}(h:p:=by
 intro W hSw;(try dsimp only at hSw);go_simp;(try with_reducible rfl)):p:=h
theorem cQ4 {p:Prop}(h:p:=by
 cases r with
 | false =>
  go_wp2_with (go_at_call 122;refine (CN.out _).mono ?_;rintro e w2 ⟨rfl,B2⟩;have HB2:=hide (HR.out.2.2.2.trans (B2.mono HR.out.2.2.2.size));clear B2)
  go_ret2
  exact ⟨SpR.mk ⟨_,[],_,rfl,ROwns.lit0 _ _ 9 HB2.out.size,fun e=>absurd e (by decide),fun _=>rfl⟩,HB2.out.alloc HB2.out.size _⟩
 | true =>
  go_wp2_with (first | (go_at_call 122;refine (CN.out _).mono ?_;rintro e w2 ⟨rfl,B2⟩;have HB2:=hide (HR.out.2.2.2.trans (B2.mono HR.out.2.2.2.size));have HT:Hid (ROwns (w2.alloc (.cells #[.string (p.extract b n)] 9)) w.heap.size 9 u4 (stc l)):=(HR.out.1.below B2 nR).alloc _;have HK2:Hid ((w2.alloc (.cells #[.string (p.extract b n)] 9)).cell? ⟨w2.heap.size,0,none⟩=some (.string (p.extract b n))):=(AtC.new w2 9 #[.string (p.extract b n)]).cell 0;have HSZ:Hid (w.heap.size<=(w2.alloc (.cells #[.string (p.extract b n)] 9)).heap.size):=(HB2.out.alloc HB2.out.size _).size;clear B2) | (at_builtin;refine wpList_step fun K' hK'=>?_;refine zal _ rfl (.tmp 43) (.tmp 48) 67 rfl w.heap.size 9 Tryz.u67 _ 16 Tryz.i9 rfl (by decide) u4 _ rfl HT.out HSZ.out w2.heap.size (.string (p.extract b n)) rfl HK2.out rfl HTL.out ?_;intro v12 w12 T12 G12 V12;refine hK' _ _ ?_;have HR12:=hide (And.intro T12 ((HB2.out.alloc HB2.out.size _).grown G12 HSZ.out (fun k hk=>(HT.out.lt k hk).1)));clear T12 G12 V12 hK'))
  have HREL:Hid (∃ (n' b':Nat) (l':List ByteArray),1<=b'/\b'<=n'/\n'<=p.size+1/\Value.int .i64 ((n:Int)+1)=.int .i64 n'/\Value.int .i64 ((n:Int)+1)=.int .i64 b'/\Hid (ROwns w12 w.heap.size 9 v12 (stc l')/\l'.length<=n'/\(∀ s∈l',za2 s=true)/\Below w.heap.size w w12)):=by
   refine ⟨n+1,n+1,l ++ [p.extract b n],by omega,Nat.le_refl _,by omega,by go_num,by go_num,by rw [za6];exact HR12.out.1,by have:=HR.out.2.1;simp;omega,fun s hs=>?_,HR12.out.2⟩;rcases List.mem_append.mp hs with e | e
   ·exact HR.out.2.2.1 s e
   ·simp only [List.mem_cons,List.not_mem_nil,or_false] at e;subst e;exact HNR.out
  go_roundw
  case rel=>first | exact HREL.out | ((repeat apply Exists.intro);exact ⟨HREL.out,rfl⟩)
  case measure=>simp [intOf];omega):p:=h
theorem cQ5 {p:Prop}(h:p:=by
 obtain ⟨y0,y1,y2,y3,y4,y5,y6⟩:=AtC.sev ((HC.out w5 HB5.out).2.2.1);obtain ⟨r0,r1,r2,r3,r4,r5,r6⟩:=AtC.sev ((HC.out w5 HB5.out).2.1);have v0:=(HC.out w5 HB5.out).2.1.frozen 0;have v1:=(HC.out w5 HB5.out).2.1.frozen 1;have v2:=(HC.out w5 HB5.out).2.1.frozen 2;have v3:=(HC.out w5 HB5.out).2.1.frozen 3;have v4:=(HC.out w5 HB5.out).2.1.frozen 4;have v5:=(HC.out w5 HB5.out).2.1.frozen 5;have v6:=(HC.out w5 HB5.out).2.1.frozen 6;have HFF:=hide (HC.out w5 HB5.out);go_wp2;refine bodyPost_ret (v:=.tuple #[.agg #[.slice s1 m.xs.length t1,.slice s2 m.ys.length t2,.slice s3 m.is.length t3,.slice s4 m.bs.length t4,.slice s5 m.fs.length t5,.slice s6 m.ds.length t6,.int .i64 m.nx],.int .i64 6]) (by simp [results,go_sem,r0,r1,r2,r3,r4,r5,r6]) rfl ⟨⟨_,_,_,_,_,_,m,_,rfl,(HFF.out.2.2.2.1.of_heap fun k hk _=>zaa _ _ _ _ _ _ _ _ _ k (by have:w.heap.size+1+1<=k/\k < b2:=hk;omega)).mono (fun k hk=>by have:w.heap.size+1+1<=k/\k < b2:=hk;omega),HM.out⟩,zab HFF.out.2.2.2.2.1 (by omega) _ _ _ _ _ _ _⟩):p:=h
theorem cQ6 {p:Prop}(h:p:=by
 obtain ⟨y0,y1,y2,y3,y4,y5,y6⟩:=AtC.sev ((HC.out w7 HB7.out).2.2.1);obtain ⟨r0,r1,r2,r3,r4,r5,r6⟩:=AtC.sev ((HC.out w7 HB7.out).2.1);have v0:=(HC.out w7 HB7.out).2.1.frozen 0;have v1:=(HC.out w7 HB7.out).2.1.frozen 1;have v2:=(HC.out w7 HB7.out).2.1.frozen 2;have v3:=(HC.out w7 HB7.out).2.1.frozen 3;have v4:=(HC.out w7 HB7.out).2.1.frozen 4;have v5:=(HC.out w7 HB7.out).2.1.frozen 5;have v6:=(HC.out w7 HB7.out).2.1.frozen 6;have HFF:=hide (HC.out w7 HB7.out);go_wp2;refine bodyPost_ret (v:=.tuple #[.agg #[.slice s1 m.xs.length t1,.slice s2 m.ys.length t2,.slice s3 m.is.length t3,.slice s4 m.bs.length t4,.slice s5 m.fs.length t5,.slice s6 m.ds.length t6,.int .i64 m.nx],.int .i64 5]) (by simp [results,go_sem,r0,r1,r2,r3,r4,r5,r6]) rfl ⟨⟨_,_,_,_,_,_,m,_,rfl,(HFF.out.2.2.2.1.of_heap fun k hk _=>zaa _ _ _ _ _ _ _ _ _ k (by have:w.heap.size+1+1<=k/\k < b2:=hk;omega)).mono (fun k hk=>by have:w.heap.size+1+1<=k/\k < b2:=hk;omega),HM.out⟩,zab HFF.out.2.2.2.2.1 (by omega) _ _ _ _ _ _ _⟩):p:=h
theorem cQ7 {p:Prop}(h:p:=by
 have k1:=(AtC.new ((w.alloc (.cells #[.slice a1 m.xs.length c1,.slice a2 m.ys.length c2,.slice a3 m.is.length c3,.slice a4 m.bs.length c4,.slice a5 m.fs.length c5,.slice a6 m.ds.length c6,.int .i64 m.nx] 33)).alloc (.cells #[.int .i64 id,.int .i64 kd,.int .i64 io,.int .i64 pt,.int .i64 bk,.int .i64 sl,.string nm,.bool bt,.bool ot,.int .i64 af,.slice pa bl.length pc] 41)) 33 noM).over b2;have k2:=((AtC.new (w.alloc (.cells #[.slice a1 m.xs.length c1,.slice a2 m.ys.length c2,.slice a3 m.is.length c3,.slice a4 m.bs.length c4,.slice a5 m.fs.length c5,.slice a6 m.ds.length c6,.int .i64 m.nx] 33)) 41 #[.int .i64 id,.int .i64 kd,.int .i64 io,.int .i64 pt,.int .i64 bk,.int .i64 sl,.string nm,.bool bt,.bool ot,.int .i64 af,.slice pa bl.length pc]).alloc (.cells noM 33)).over b2;have sz:=b2.size;simp at k1 k2 sz;exact ⟨(((AtC.new w 33 _).alloc _).alloc _).over b2,k2,k1,((((Below.refl _ w).alloc nR _).alloc (by simp) _).alloc (by simp;omega) _).trans (b2.mono (by simp;omega)),sz⟩):p:=h
theorem cQ8 {p:Prop}(h:p:=by
 have hl:=h.len;have hsz:=hb.size;have hlt:∀ (i:Nat) (hi:i < ts.length) (k:Nat),(K.p ts[i]).ownBlock=some k->k < w.heap.size:=fun i hi k hk=>K.lt (h.inn i hi (by omega)) k hk;have hlt':∀ k,(K.p t').ownBlock=some k->k < w1.heap.size:=fun k hk=>K.lt hO k hk;have hvl:∀ k,v.ownBlock=some k->k < w.heap.size:=h.row.lt;have at_l:∀ (i:Nat) (hi:i < (ts ++ [t']).length),(∃ h':i < ts.length,(ts ++ [t'])[i]=ts[i])\/(i=ts.length/\(ts ++ [t'])[i]=t'):=fun i hi=>by
  by_cases e:i < ts.length
  ·exact .inl ⟨e,List.getElem_append_left e⟩
  ·have e2:i=ts.length:=by simp at hi;omega
   refine .inr ⟨e2,?_⟩;subst e2;simp
 refine ⟨by simp [hl],hr,fun i hi hi'=>?_,fun i j hi hj hne k e1 e2=>?_,fun i hi k e1 e2=>?_,fun k e=>?_,fun i hi k e=>?_⟩
 ·rcases at_l i hi with ⟨h',e⟩ | ⟨rfl,e⟩
  ·rw [e,List.getElem_append_left (by omega)];exact K.heap (h.inn i h' (by omega)) fun k hk=>(hg.block k (by have:=hlt i h' k hk;omega) (fun e=>h.out i h' k hk e.symm)).trans (hb.block k (hlt i h' k hk))
  ·have e2:(xs ++ [x'])[ts.length]=x':=by simp [hl]
   rw [e,e2];exact K.heap hO fun k hk=>hg.block k (hlt' k hk) (fun e=>by have:=hvl k e.symm;have:=hn k hk;omega)
 ·rcases at_l i hi with ⟨h1,q1⟩ | ⟨q0,q1⟩<;>rcases at_l j hj with ⟨h2,q2⟩ | ⟨q3,q2⟩<;>rw [q1] at e1<;>rw [q2] at e2
  ·exact h.sep i j h1 h2 hne k e1 e2
  ·have:=hlt i h1 k e1;have:=hn k e2;omega
  ·have:=hlt j h2 k e2;have:=hn k e1;omega
  ·omega
 ·rcases at_l i hi with ⟨h1,q1⟩ | ⟨q0,q1⟩<;>rw [q1] at e1
  ·rcases hv k e2 with q | q
   ·exact h.out i h1 k e1 q
   ·have:=hlt i h1 k e1;omega
  ·rcases hv k e2 with q | q
   ·have:=hvl k q;have:=hn k e1;omega
   ·have:=hlt' k e1;omega
 ·rcases hv k e with q | q
  ·exact .inl ⟨h.so k q,hvl k q⟩
  ·exact .inr (by omega)
 ·rcases at_l i hi with ⟨h1,q1⟩ | ⟨q0,q1⟩<;>rw [q1] at e
  ·exact .inl ⟨h.si i h1 k e,hlt i h1 k e⟩
  ·exact .inr (hn k e)):p:=h
theorem cQ9 {p:Prop}(h:p:=by
 clear hK hK' hp hd;go_simp;exact HK.out _ _ bR rfl):p:=h
theorem cQ10 {p:Prop}(h:p:=by
 obtain ⟨j,rfl⟩:∃ j:Nat,bk=(j:Int)+1:=⟨(bk - 1).toNat,by omega⟩
 have hwj:IntKind.i64.wrap (j:Int)=(j:Int):=wrap_small _ (by omega) (by omega);have hjl:j < m.bs.length:=by rw [HM.out.b];omega
 have hkk:=HM.out.bb _ (List.getElem_mem hjl);obtain ⟨qa,qc,qe,-,qh⟩:=HH.out.d.k;simp only [Value.slice.injEq,true_and] at qe;obtain ⟨rfl,rfl⟩:=qe;obtain ⟨g2,o2,⟨t0,t1,t2⟩,rfl,hg2,r0,r1,-,e0,rr,-⟩:=qh j hjl;simp only at r0 r1 e0 rr;subst e0;obtain ⟨dd,hdd⟩:∃ dd,m.bs[j].1=dd:=⟨_,rfl⟩
 rw [hdd] at r0;obtain ⟨sa,sc,rfl,-,sh⟩:=rr;have hkn:=hkk.n;rw [hdd] at hkn;have y0:wX.cell? ⟨g2,o2+j * 3,none⟩=some (.bool dd):=(HBW.out.cell (p:=⟨g2,o2+j * 3,none⟩) hg2).trans r0;have y1:=(HBW.out.cell (p:=⟨g2,o2+j * 3+1,none⟩) hg2).trans r1;have j0:(0:Int)<=(j:Int):=by omega
 have j1:(j:Int) < (m.bs.length:Int):=by omega
 have hbd:decide (0 < (j:Int)+1)=true:=decide_eq_true (by omega)
 cases dd
 ·clear sh hkn hkk r0 r1 qh hdd;go_upto_region 20 with fail
  go_quiet (fail)
  go_wp2;go_ret
  first | exact ⟨⟨_,rfl⟩,below_drewN HBW.out _⟩ | exact ⟨⟨_,rfl⟩,below_drewN (below_drewN HBW.out _) _⟩
 ·have hsl:=hkn rfl;obtain ⟨t,rfl⟩:∃ t:Nat,sl=(t:Int):=⟨sl.toNat,by omega⟩
  obtain ⟨g3,o3,rfl,hg3,-,r3⟩:=sh t (by omega);obtain ⟨pp,y3⟩:∃ pp,wX.cell? ⟨g3,o3+t * 2+1,none⟩=some (.int .i64 pp):=⟨_,(HBW.out.cell (p:=⟨g3,o3+t * 2+1,none⟩) hg3).trans r3⟩
  rw [hsl] at y1;have t0:(0:Int)<=(t:Int):=by omega
  have t1:(t:Int) < 4:=by omega
  clear sh hkn hkk r0 r1 r3 qh hdd hsl;go_upto_region 20 with fail
  go_quiet (fail)
  go_wp2;go_ret
  first | exact ⟨⟨_,rfl⟩,below_drewN HBW.out _⟩ | exact ⟨⟨_,rfl⟩,below_drewN (below_drewN HBW.out _) _⟩):p:=h
theorem cQ11 {p:Prop}(h:p:=by
 have e5:x 5=.bool false:=hp.post 5 (hd 5 mz0);simp only [e5] at HK ⊢;go_simp;exact HK.out _ _ bR trivial):p:=h
theorem cQ12 {p:Prop}(h:p:=by
 have hl:=h.len;have hv:=h.row.lt;refine ⟨by simp [hl],hr,fun i hi hi'=>?_,fun i i2 hi hi2 hne k e1 e2=>?_,fun i hi k e1 e2=>?_,fun k e=>hs k (h.so k e),fun i hi k e=>?_⟩
 ·simp only [List.length_set] at hi hi';by_cases e:j=i
  ·subst e;simp only [List.getElem_set_self];exact hO
  ·simp only [List.getElem_set_ne e];exact K.heap (h.inn i hi hi') fun k hk=>hf k (K.lt (h.inn i hi hi') k hk) (fun e'=>h.out i hi k hk e') (fun e'=>h.sep i j hi hj (fun q=>e q.symm) k hk e')
 ·simp only [List.length_set] at hi hi2;by_cases ei:j=i
  ·subst ei;simp only [List.getElem_set_self] at e1;rw [List.getElem_set_ne hne] at e2;rcases hn k e1 with q | q
   ·exact h.sep j i2 hi hi2 hne k q e2
   ·have:=K.lt (h.inn i2 hi2 (by omega)) k e2;omega
  ·rw [List.getElem_set_ne ei] at e1;by_cases e2':j=i2
   ·subst e2';simp only [List.getElem_set_self] at e2;rcases hn k e2 with q | q
    ·exact h.sep i j hi hj hne k e1 q
    ·have:=K.lt (h.inn i hi (by omega)) k e1;omega
   ·rw [List.getElem_set_ne e2'] at e2;exact h.sep i i2 hi hi2 hne k e1 e2
 ·simp only [List.length_set] at hi;by_cases ei:j=i
  ·subst ei;simp only [List.getElem_set_self] at e1;rcases hn k e1 with q | q
   ·exact h.out j hi k q e2
   ·have:=hv k e2;omega
  ·rw [List.getElem_set_ne ei] at e1;exact h.out i hi k e1 e2
 ·simp only [List.length_set] at hi;by_cases ei:j=i
  ·subst ei;simp only [List.getElem_set_self] at e;exact hs2 k e
  ·rw [List.getElem_set_ne ei] at e;exact hs k (h.si i hi k e)):p:=h
theorem cQ13 {p:Prop}(h:p:=by
 go_wp2_with fail
 refine CT.out.mono ?_;rintro e w8 ⟨z1,l1,y1,z2,l2,y2',z3,l3,y3,z4,l4,y4,z5,l5,y5,z6,l6,y6,rfl,B8⟩;obtain ⟨W9,hW9⟩:∃ W9,w8.alloc (.cells #[.slice z1 l1 y1,.slice z2 l2 y2',.slice z3 l3 y3,.slice z4 l4 y4,.slice z5 l5 y5,.slice z6 l6 y6,.int .i64 m.nx] 33)=W9:=⟨_,rfl⟩
 have HB9:Hid (Below W2.heap.size W2 W9):=by
  rw [← hW9];have b8:=HB7.out.trans (B8.mono HB7.out.size);exact b8.alloc b8.size _
 clear B8 CT;obtain ⟨y0,y1,y2,y3,y4,y5,y6⟩:=AtC.sev ((HC.out W9 HB9.out).2.2.1);obtain ⟨r0,r1,r2,r3,r4,r5,r6⟩:=AtC.sev ((HC.out W9 HB9.out).2.1);have v0:=(HC.out W9 HB9.out).2.1.frozen 0;have v1:=(HC.out W9 HB9.out).2.1.frozen 1;have v2:=(HC.out W9 HB9.out).2.1.frozen 2;have v3:=(HC.out W9 HB9.out).2.1.frozen 3;have v4:=(HC.out W9 HB9.out).2.1.frozen 4;have v5:=(HC.out W9 HB9.out).2.1.frozen 5;have v6:=(HC.out W9 HB9.out).2.1.frozen 6;have HFF:=hide (HC.out W9 HB9.out);go_wp2;refine bodyPost_ret (v:=.tuple #[.agg #[.slice s1 m.xs.length t1,.slice s2 m.ys.length t2,.slice s3 m.is.length t3,.slice s4 m.bs.length t4,.slice s5 m.fs.length t5,.slice s6 m.ds.length t6,.int .i64 m.nx],.int .i64 4]) (by simp [results,go_sem,r0,r1,r2,r3,r4,r5,r6]) rfl ⟨⟨_,_,_,_,_,_,m,_,rfl,(HFF.out.2.2.2.1.of_heap fun k hk _=>zaa _ _ _ _ _ _ _ _ _ k (by have:w.heap.size+1+1<=k/\k < b2:=hk;omega)).mono (fun k hk=>by have:w.heap.size+1+1<=k/\k < b2:=hk;omega),HM.out⟩,zab HFF.out.2.2.2.2.1 (by omega) _ _ _ _ _ _ _⟩):p:=h
theorem cQ14 {p:Prop}(h:p:=by
 rw [← hW2] at b;obtain ⟨k0,kz,k1,k2⟩:=HB0.out;have b1:Below w1.heap.size w1 W:=((Below.refl _ w1).alloc nR _).trans (b.mono (by simp));have bb:Below W0.heap.size W0 W:=B1.trans (b1.mono B1.size);have z1:=B1.size;have zb:=b.size;simp at zb;refine ⟨k1.over bb,k2.over bb,?_,(O1.bound.below b1 nR).mono (fun k hk=>by have:W0.heap.size<=k/\k < w1.heap.size:=hk;omega),k0.trans (bb.mono (by omega)),by omega,by omega⟩;rw [← hb2];exact (AtC.new w1 33 _).over b):p:=h
theorem cQ15 {p:Prop}(h:p:=by
 rw [← hW0];refine ⟨((Below.refl _ w).alloc nR _).alloc (by simp) _,by simp,(AtC.new w 33 _).alloc _,?_⟩;have:=AtC.new (w.alloc (.cells #[.slice a1 m.xs.length c1,.slice a2 m.ys.length c2,.slice (some ⟨g2,o2,none⟩) m.is.length c3,.slice a4 m.bs.length c4,.slice a5 m.fs.length c5,.slice a6 m.ds.length c6,.int .i64 m.nx] 33)) 33 #[.slice none 0 0,.slice none 0 0,.slice none 0 0,.slice none 0 0,.slice none 0 0,.slice none 0 0,.int .i64 0];simpa using this):p:=h
theorem cQ16 {p:Prop}(h:p:=by
 have hbd:decide (0 < bk)=true:=decide_eq_true hb;obtain ⟨j,rfl⟩:∃ j:Nat,io=(j:Int)+1:=⟨(io - 1).toNat,by omega⟩
 have hwj:IntKind.i64.wrap (j:Int)=(j:Int):=wrap_small _ (by omega) (by omega);obtain ⟨t,rfl⟩:∃ t:Nat,pt=(t:Int):=⟨pt.toNat,by omega⟩
 obtain ⟨qa,qc,qe,-,qh⟩:=HH.out.d.i;simp only [Value.slice.injEq,true_and] at qe;obtain ⟨rfl,rfl⟩:=qe;obtain ⟨g2,o2,tt,rfl,hg2,-,-,r2,-,-,rr⟩:=qh j (by rw [HM.out.i];omega);have hpn:=(HM.out.ii _ (List.getElem_mem (show j < m.is.length by rw [HM.out.i];omega))).n;obtain ⟨sa,sc,se,sh⟩:=rr;rw [hpn] at se;obtain ⟨g3,o3,rfl,hg3,r3⟩:=sh t (by rw [hpn];omega);rw [se] at r2;have y2:wX.cell? ⟨g2,o2+j * 3+2,none⟩=some (.slice (some ⟨g3,o3,none⟩) 2 sc):=(HBW.out.cell (p:=⟨g2,o2+j * 3+2,none⟩) hg2).trans r2;obtain ⟨pp,y3⟩:∃ pp,wX.cell? ⟨g3,o3+t,none⟩=some (.int .i64 pp):=⟨_,(HBW.out.cell (p:=⟨g3,o3+t,none⟩) hg3).trans r3⟩
 have j0:(0:Int)<=(j:Int):=by omega
 have j1:(j:Int) < (m.is.length:Int):=by rw [HM.out.i];omega
 have t0:(0:Int)<=(t:Int):=by omega
 have t1:(t:Int) < 2:=by omega
 clear qh sh r2 r3 se hpn;go_upto_region 17 with fail
 go_quiet (fail)
 go_wp2;go_ret
 first | exact ⟨⟨_,rfl⟩,below_drewN HBW.out _⟩ | exact ⟨⟨_,rfl⟩,below_drewN (below_drewN HBW.out _) _⟩):p:=h
theorem cQ17 {p:Prop}(h:p:=by
 obtain ⟨g3,o3,⟨t0,t1,t2⟩,e3,hg,r0,r1,r2,e0,e1,rr⟩:=qh j hj;simp only [Option.some.injEq,Addr.mk.injEq,and_true] at e3;obtain ⟨rfl,rfl⟩:=e3;simp only at e0 e1 rr r0 r1 r2;subst e0 e1;obtain ⟨ta,tc,rfl⟩:=rr.form;exact ⟨ta,tc,(hb.cell (p:=⟨g2,o2+j * 3,none⟩) hg).trans r0,(hb.cell (p:=⟨g2,o2+j * 3+1,none⟩) hg).trans r1,(hb.cell (p:=⟨g2,o2+j * 3+2,none⟩) hg).trans r2,rr.below hb nR⟩):p:=h
theorem cQ18 {p:Prop}(h:p:=by
 exact ⟨(HS.out.2.2.2.2.1.of_heap fun k hk _=>((((((heap_setCell_other _ ⟨(w.heap.size+1+1),6,none⟩ k _ (by show k≠(w.heap.size+1+1);omega)).trans (heap_setCell_other _ ⟨(w.heap.size+1+1),5,none⟩ k _ (by show k≠(w.heap.size+1+1);omega))).trans (heap_setCell_other _ ⟨(w.heap.size+1+1),4,none⟩ k _ (by show k≠(w.heap.size+1+1);omega))).trans (heap_setCell_other _ ⟨(w.heap.size+1+1),3,none⟩ k _ (by show k≠(w.heap.size+1+1);omega))).trans (heap_setCell_other _ ⟨(w.heap.size+1+1),2,none⟩ k _ (by show k≠(w.heap.size+1+1);omega))).trans (heap_setCell_other _ ⟨(w.heap.size+1+1),1,none⟩ k _ (by show k≠(w.heap.size+1+1);omega))).trans (heap_setCell_other _ ⟨(w.heap.size+1+1),0,none⟩ k _ (by show k≠(w.heap.size+1+1);omega))).mono fun k hk=>by omega,(((((((HS.out.2.2.2.2.2.1).setCell (by show w.heap.size<=w.heap.size+1+1;omega) _).setCell (by show w.heap.size<=w.heap.size+1+1;omega) _).setCell (by show w.heap.size<=w.heap.size+1+1;omega) _).setCell (by show w.heap.size<=w.heap.size+1+1;omega) _).setCell (by show w.heap.size<=w.heap.size+1+1;omega) _).setCell (by show w.heap.size<=w.heap.size+1+1;omega) _).setCell (by show w.heap.size<=w.heap.size+1+1;omega) _⟩):p:=h
theorem cQ19 {p:Prop}(h:p:=by
 go_quiet (fail)
 go_wp2;go_ret
 first | exact ⟨⟨_,rfl⟩,below_drewN HBW.out _⟩ | exact ⟨⟨_,rfl⟩,below_drewN (below_drewN HBW.out _) _⟩):p:=h
theorem cQ20 {p:Prop}(h:p:=by
 by_cases hz:0 < fl.length
 rotate_left
 ·have hz1:¬ (0:Int) < (fl.length:Int):=by omega
  go_wp2_with fail
  go_meet
  exact ⟨rfl,⟨#[47,97]⟩,by show (2:Nat)<=L+3;omega,HX3.out⟩
 have hz1:(0:Int) < (fl.length:Int):=by omega
 obtain ⟨gd,cd,ed,-,-⟩:=zca HX3.out.f 0 hz;simp only [Value.slice.injEq,true_and] at ed;obtain ⟨rfl,rfl⟩:=ed;go_wp2_with fail
 refine (zax w0 W3 c a len cap fl.length HO.out hlen HX3.out.cur hz (by omega)).mono ?_;rintro e w13 ⟨x,hx,rfl,hd13⟩;have HX13:=hide (HX3.out.drew hd13);obtain ⟨gd',cd',e1',ks,-⟩:=zca HX13.out.f x hx;simp only [Value.slice.injEq,Option.some.injEq,Addr.mk.injEq,and_true,true_and] at e1';obtain ⟨rfl,-⟩:=e1';have hsz:=HS.out.1 _ (List.getElem_mem hx);obtain ⟨s,hs⟩:∃ s,fl[x]=s:=⟨_,rfl⟩
 rw [hs] at ks hsz;have x0:(0:Int)<=(x:Int):=by omega
 have x1:(x:Int) < (fl.length:Int):=by omega
 have b1:=HX13.out.ev.cell 1;have b2:=HX13.out.ev.frozen 1;clear hd13 hs;go_wp2_with fail
 go_meet
 exact ⟨rfl,s,by omega,HX13.out.setE 1 (.string s)⟩):p:=h
theorem cQ21 {p:Prop}(h:p:=by
 subst hiz;obtain ⟨y0,y1,y2,y3,y4,y5,y6⟩:=AtC.sev ((HC.out w6 HB6.out).2.2.1);obtain ⟨r0,r1,r2,r3,r4,r5,r6⟩:=AtC.sev ((HC.out w6 HB6.out).2.1);have v0:=(HC.out w6 HB6.out).2.1.frozen 0;have v1:=(HC.out w6 HB6.out).2.1.frozen 1;have v2:=(HC.out w6 HB6.out).2.1.frozen 2;have v3:=(HC.out w6 HB6.out).2.1.frozen 3;have v4:=(HC.out w6 HB6.out).2.1.frozen 4;have v5:=(HC.out w6 HB6.out).2.1.frozen 5;have v6:=(HC.out w6 HB6.out).2.1.frozen 6;have HFF:=hide (HC.out w6 HB6.out);go_wp2;refine bodyPost_ret (v:=.tuple #[.agg #[.slice s1 m.xs.length t1,.slice s2 m.ys.length t2,.slice s3 m.is.length t3,.slice s4 m.bs.length t4,.slice s5 m.fs.length t5,.slice s6 m.ds.length t6,.int .i64 m.nx],.int .i64 1]) (by simp [results,go_sem,r0,r1,r2,r3,r4,r5,r6]) rfl ⟨⟨_,_,_,_,_,_,m,_,rfl,(HFF.out.2.2.2.1.of_heap fun k hk _=>zaa _ _ _ _ _ _ _ _ _ k (by have:w.heap.size+1+1<=k/\k < b2:=hk;omega)).mono (fun k hk=>by have:w.heap.size+1+1<=k/\k < b2:=hk;omega),HM.out⟩,zab HFF.out.2.2.2.2.1 (by omega) _ _ _ _ _ _ _⟩):p:=h
theorem cQ22 {p:Prop}(h:p:=by
 obtain ⟨y0,y1,y2,y3,y4,y5,y6⟩:=AtC.sev ((HC.out W9 HB9.out).2.2.1);obtain ⟨r0,r1,r2,r3,r4,r5,r6⟩:=AtC.sev ((HC.out W9 HB9.out).2.1);have v0:=(HC.out W9 HB9.out).2.1.frozen 0;have v1:=(HC.out W9 HB9.out).2.1.frozen 1;have v2:=(HC.out W9 HB9.out).2.1.frozen 2;have v3:=(HC.out W9 HB9.out).2.1.frozen 3;have v4:=(HC.out W9 HB9.out).2.1.frozen 4;have v5:=(HC.out W9 HB9.out).2.1.frozen 5;have v6:=(HC.out W9 HB9.out).2.1.frozen 6;have HFF:=hide (HC.out W9 HB9.out);go_wp2;refine bodyPost_ret (v:=.tuple #[.agg #[.slice s1 m.xs.length t1,.slice s2 m.ys.length t2,.slice s3 m.is.length t3,.slice s4 m.bs.length t4,.slice s5 m.fs.length t5,.slice s6 m.ds.length t6,.int .i64 m.nx],.int .i64 4]) (by simp [results,go_sem,r0,r1,r2,r3,r4,r5,r6]) rfl ⟨⟨_,_,_,_,_,_,m,_,rfl,(HFF.out.2.2.2.1.of_heap fun k hk _=>zaa _ _ _ _ _ _ _ _ _ k (by have:w.heap.size+1+1<=k/\k < b2:=hk;omega)).mono (fun k hk=>by have:w.heap.size+1+1<=k/\k < b2:=hk;omega),HM.out⟩,zab HFF.out.2.2.2.2.1 (by omega) _ _ _ _ _ _ _⟩):p:=h
theorem cQ23 {p:Prop}(h:p:=by
 obtain ⟨y0,y1,y2,y3,y4,y5,y6⟩:=AtC.sev ((HC.out w7 HB7.out).2.2.1);obtain ⟨r0,r1,r2,r3,r4,r5,r6⟩:=AtC.sev ((HC.out w7 HB7.out).2.1);have v0:=(HC.out w7 HB7.out).2.1.frozen 0;have v1:=(HC.out w7 HB7.out).2.1.frozen 1;have v2:=(HC.out w7 HB7.out).2.1.frozen 2;have v3:=(HC.out w7 HB7.out).2.1.frozen 3;have v4:=(HC.out w7 HB7.out).2.1.frozen 4;have v5:=(HC.out w7 HB7.out).2.1.frozen 5;have v6:=(HC.out w7 HB7.out).2.1.frozen 6;have HFF:=hide (HC.out w7 HB7.out);go_wp2;refine bodyPost_ret (v:=.tuple #[.agg #[.slice s1 m.xs.length t1,.slice s2 m.ys.length t2,.slice s3 m.is.length t3,.slice s4 m.bs.length t4,.slice s5 m.fs.length t5,.slice s6 m.ds.length t6,.int .i64 m.nx],.int .i64 3]) (by simp [results,go_sem,r0,r1,r2,r3,r4,r5,r6]) rfl ⟨⟨_,_,_,_,_,_,m,_,rfl,(HFF.out.2.2.2.1.of_heap fun k hk _=>zaa _ _ _ _ _ _ _ _ _ k (by have:w.heap.size+1+1<=k/\k < b2:=hk;omega)).mono (fun k hk=>by have:w.heap.size+1+1<=k/\k < b2:=hk;omega),HM.out⟩,zab HFF.out.2.2.2.2.1 (by omega) _ _ _ _ _ _ _⟩):p:=h
theorem cQ24 {p:Prop}(h:p:=by
 rw [e];exact ⟨(HS.out.2.2.2.1.of_heap fun k hk _=>((((((heap_setCell_other _ ⟨w.heap.size+1,6,none⟩ k _ (by show k≠w.heap.size+1;omega)).trans (heap_setCell_other _ ⟨w.heap.size+1,5,none⟩ k _ (by show k≠w.heap.size+1;omega))).trans (heap_setCell_other _ ⟨w.heap.size+1,4,none⟩ k _ (by show k≠w.heap.size+1;omega))).trans (heap_setCell_other _ ⟨w.heap.size+1,3,none⟩ k _ (by show k≠w.heap.size+1;omega))).trans (heap_setCell_other _ ⟨w.heap.size+1,2,none⟩ k _ (by show k≠w.heap.size+1;omega))).trans (heap_setCell_other _ ⟨w.heap.size+1,1,none⟩ k _ (by show k≠w.heap.size+1;omega))).trans (heap_setCell_other _ ⟨w.heap.size+1,0,none⟩ k _ (by show k≠w.heap.size+1;omega))).mono fun k hk=>by omega,(((((((HS.out.2.2.2.2).setCell (by simp) _).setCell (by simp) _).setCell (by simp) _).setCell (by simp) _).setCell (by simp) _).setCell (by simp) _).setCell (by simp) _⟩):p:=h
theorem cQ25 {p:Prop}(h:p:=by
 try rw [List.filterMap_nil]
 try go_wp2_with fail
 go_meet
 exact ⟨bw,sa,sc,rfl,rfl,((HFI.out.1.set 0 _).set 1 _).set 2 _,HFI.out.2.1.below (((HFI.out.2.2.1.setCell (p:=⟨bw,0,none⟩) HFI.out.2.2.2 _).setCell (p:=⟨bw,1,none⟩) HFI.out.2.2.2 _).setCell (p:=⟨bw,2,none⟩) HFI.out.2.2.2 _) nR,((HFI.out.2.2.1.setCell (p:=⟨bw,0,none⟩) HFI.out.2.2.2 _).setCell (p:=⟨bw,1,none⟩) HFI.out.2.2.2 _).setCell (p:=⟨bw,2,none⟩) HFI.out.2.2.2 _⟩):p:=h
theorem cQ26 {p:Prop}(h:p:=by
 rw [e];exact ⟨(M6.of_heap fun k hk _=>((((((heap_setCell_other _ ⟨w.heap.size+1,6,none⟩ k _ (by show k≠w.heap.size+1;omega)).trans (heap_setCell_other _ ⟨w.heap.size+1,5,none⟩ k _ (by show k≠w.heap.size+1;omega))).trans (heap_setCell_other _ ⟨w.heap.size+1,4,none⟩ k _ (by show k≠w.heap.size+1;omega))).trans (heap_setCell_other _ ⟨w.heap.size+1,3,none⟩ k _ (by show k≠w.heap.size+1;omega))).trans (heap_setCell_other _ ⟨w.heap.size+1,2,none⟩ k _ (by show k≠w.heap.size+1;omega))).trans (heap_setCell_other _ ⟨w.heap.size+1,1,none⟩ k _ (by show k≠w.heap.size+1;omega))).trans (heap_setCell_other _ ⟨w.heap.size+1,0,none⟩ k _ (by show k≠w.heap.size+1;omega))).mono fun k hk=>by omega,(((((((bel6).setCell (by simp) _).setCell (by simp) _).setCell (by simp) _).setCell (by simp) _).setCell (by simp) _).setCell (by simp) _).setCell (by simp) _⟩):p:=h
theorem cQ27 {p:Prop}(h:p:=by
 intro x iw W hp;have e23:x 23=.bool false:=hp.post 23 (by decide);have HQ:=hide (HN.out W (zac hp.bel)).1;simp only [e23];clear hp e23;generalize x 0=zz0 at *;generalize x 1=zz1 at *;generalize x 2=zz2 at *;generalize x 3=zz3 at *;generalize x 4=zz4 at *;generalize x 5=zz5 at *;generalize x 6=zz6 at *;generalize x 7=zz7 at *;generalize x 8=zz8 at *;generalize x 9=zz9 at *;generalize x 10=zz10 at *;generalize x 11=zz11 at *;generalize x 12=zz12 at *;generalize x 13=zz13 at *;generalize x 14=zz14 at *;generalize x 15=zz15 at *;generalize x 16=zz16 at *;generalize x 17=zz17 at *;generalize x 18=zz18 at *;generalize x 19=zz19 at *;generalize x 20=zz20 at *;generalize x 21=zz21 at *;generalize x 22=zz22 at *;generalize x 23=zz23 at *;try rw [List.filterMap_nil]
 clear x;go_wp2;go_roundw
 case rel=>exact ⟨s+1,by omega,by go_num,HQ.out⟩
 case measure=>simp [intOf];omega):p:=h
theorem cQ28 {p:Prop}(h:p:=by
 go_wp2;go_loopw [5] (fun i wr=>∃ j:Nat,j<=m.ds.length/\i=.int .i64 j/\w=wr) (fun i _=>m.ds.length - (intOf i).toNat)
 case atStart=>exact ⟨0,Nat.zero_le _,rfl,rfl⟩
 case round =>
  obtain ⟨j,hj,rfl,rfl⟩:=hrel;by_cases hlt:j < m.ds.length
  ·obtain ⟨g,off,t,rfl,-,hc,p,rfl,-⟩:=HA.out j hlt;have k0:w.cell? ⟨g,off+j * 11,none⟩=some (.int .i64 m.ds[j].id):=hc 0 (by decide);have k1:w.cell? ⟨g,off+j * 11+1,none⟩=some (.int .i64 m.ds[j].kd):=hc 1 (by decide);generalize m.ds[j].kd=kd at k1;generalize m.ds[j].id=id at k0;clear hc;have j0:(0:Int)<=(j:Int):=by omega
   have j1:(j:Int) < (m.ds.length:Int):=by omega
   by_cases hx:id=x
   ·subst hx;go_wp2;go_ret;exact ⟨⟨_,rfl⟩,rfl⟩
   ·go_wp2;go_roundw
    case rel=>exact ⟨j+1,by omega,by go_num,by first | trivial | rfl⟩
    case measure=>simp [intOf];omega
  ·go_wp2;go_ret;exact ⟨⟨_,rfl⟩,rfl⟩):p:=h
theorem cQ29 {p:Prop}(h:p:=by
 try rw [List.filterMap_nil]
 try go_wp2_with fail
 go_meet
 exact ⟨bn,_,_,_,_,_,_,mn,rfl,zd6 HFI.out.1 _ _ _ _ _ _ _,(HFI.out.2.1.of_heap fun k hk _=>zaa _ _ _ _ _ _ _ _ _ k (by have:lo<=k/\k < hi:=hk;have:=HFI.out.2.2.2.2.1;omega)).mono (fun k hk=>by have:lo<=k/\k < hi:=hk;have:=HFI.out.2.2.2.2.2.1;omega),HFI.out.2.2.1,zab HFI.out.2.2.2.1 HFI.out.2.2.2.2.2.2 _ _ _ _ _ _ _⟩):p:=h
theorem cQ30 {p:Prop}(h:p:=by
 go_wp2_with (go_at_call 27;refine (CN.out _).mono ?_;rintro e w1 ⟨rfl,B1⟩;have K1:=(AtC.new wr 41 #[.int .i64 id,.int .i64 kd,.int .i64 io,.int .i64 pt,.int .i64 bk,.int .i64 sl,.string nm,.bool bt,.bool ot,.int .i64 af,.slice pa bl.length pc]).over B1;have v0:w1.cell? ⟨wr.heap.size,0,none⟩=some (.int .i64 id):=K1.cell 0;have v4:w1.cell? ⟨wr.heap.size,4,none⟩=some (.int .i64 bk):=K1.cell 4;have v5:w1.cell? ⟨wr.heap.size,5,none⟩=some (.int .i64 sl):=K1.cell 5;have HB1:=hide (HB.out.trans ((((Below.refl _ wr).alloc nR _).trans (B1.mono (by simp))).mono hsz));clear K1 B1)
 go_roundw
 case rel=>exact ⟨j+1,by omega,by go_num,HE.out,HB1.out⟩
 case measure=>simp [intOf];omega):p:=h
theorem cQ31 {p:Prop}(h:p:=by
 try rw [List.filterMap_nil]
 try go_wp2_with fail
 go_meet
 exact ⟨bw,ba,bc,rfl,rfl,((HFI.out.1.set 0 _).set 1 _).set 2 _,HFI.out.2.1,((HFI.out.2.2.1.setCell (p:=⟨bw,0,none⟩) HFI.out.2.2.2 _).setCell (p:=⟨bw,1,none⟩) HFI.out.2.2.2 _).setCell (p:=⟨bw,2,none⟩) HFI.out.2.2.2 _,HFI.out.2.2.2⟩):p:=h
theorem cQ32 {p:Prop}(h:p:=by
 have q:=HC.out (w2.alloc (.cells #[.slice b1 m.xs.length d1,.slice b2 m.ys.length d2,.slice b3 m.is.length d3,.slice b4 m.bs.length d4,.slice b5 m.fs.length d5,.slice b6 m.ds.length d6,.int .i64 m.nx] 33)) (B2.alloc B2.size _);exact ⟨q.1,q.2.1,q.2.2.1,AtC.new w2 33 _,O3.alloc _,q.2.2.2.1,by simp⟩):p:=h
theorem cQ33 {p:Prop}(h:p:=by
 obtain ⟨hn,hlo,hbl⟩:=HRR.out;have hsz:=hbl.size;have:=HST.out;rw [hfx,if_pos rfl] at this;refine ⟨by rw [this];exact k1,fun k hk=>?_,?_⟩
 ·rcases k3 k hk with e | e
  ·exact hlo k e
  ·simp at e;omega
 ·exact (hbl.alloc hsz _).grown k2 (by simp at hsz ⊢;omega) (fun k hk=>hlo k hk)):p:=h
theorem cQ34 {p:Prop}(h:p:=by
 rw [← hW0] at b2;have k1:=(AtC.new (w.alloc (.cells #[.slice a1 m.xs.length c1,.slice a2 m.ys.length c2,.slice a3 m.is.length c3,.slice a4 m.bs.length c4,.slice a5 m.fs.length c5,.slice a6 m.ds.length c6,.int .i64 m.nx,.slice ta ts.length tc] 71)) 71 #[.slice none 0 0,.slice none 0 0,.slice none 0 0,.slice none 0 0,.slice none 0 0,.slice none 0 0,.int .i64 0,.slice none 0 0]).over b2;have sz:=b2.size;simp at k1 sz;exact ⟨((AtC.new w 71 _).alloc _).over b2,k1,(((Below.refl _ w).alloc nR _).alloc (by simp) _).trans (b2.mono (by simp;omega)),sz⟩):p:=h
theorem cQ35 {p:Prop}(h:p:=by
 have e0:x 0=.agg #[.slice a1 m.xs.length c1,.slice a2 m.ys.length c2,.slice (some ⟨g3,o3,none⟩) m.is.length c3,.slice (some ⟨g4,o4,none⟩) m.bs.length c4,.slice a5 m.fs.length c5,.slice a6 m.ds.length c6,.int .i64 m.nx]:=hp.post 0 (hd 0 mz0);have e1:x 1=.int .i64 ((p:Int)+1):=hp.post 1 (hd 1 mz1);have e2:x 2=.int .i64 (s:Int):=hp.post 2 (hd 2 mz2);have bw:=HN.out W (zac hp.bel);simp only [e0,e1,e2] at HK ⊢;clear e0 e1 e2;go_simp;refine (CD.out W (HS.out W bw.2.1).1).mono ?_;rintro e w6 ⟨rfl,B6⟩;go_simp;exact HK.out _ _ B6 rfl):p:=h
theorem cQ36 {p:Prop}(h:p:=by
 cases ho:ops[j]? with
 | none=>rw [ho] at h;cases h
 | some o =>
  rw [ho] at h;simp only [List.all_eq_true,Array.any_eq_true] at h;obtain ⟨i,hi,h2⟩:=h k hk;simp only [Bool.and_eq_true,beq_iff_eq] at h2;exact zbl hr ho ⟨o.after[i],Array.getElem_mem hi,h2.1,h2.2⟩):p:=h
theorem cQ37 {p:Prop}(h:p:=by
 go_wp2;go_roundw
 case rel=>exact ⟨q+1,by omega,by go_num,HE.out.2⟩
 case measure=>simp [intOf];omega):p:=h
theorem cQ38 {p:Prop}(h:p:=by
 refine ⟨?_,((hbw.setCell (by simp) _).setCell (by simp) _).setCell (by simp) _⟩;have:=HR.out.1;rw [hq2,List.take_length] at this;refine this.of_heap fun k hk=>?_;have:=(HO1.out k hk).1;rw [heap_setCell_other _ ⟨w.heap.size+1,2,none⟩ k _ (by show k≠w.heap.size+1;omega),heap_setCell_other _ ⟨w.heap.size+1,1,none⟩ k _ (by show k≠w.heap.size+1;omega),heap_setCell_other _ ⟨w.heap.size+1,0,none⟩ k _ (by show k≠w.heap.size+1;omega)]):p:=h
theorem cQ39 {p:Prop}(h:p:=by
 have HRR2:Hid (NOwns wr 41 11 u5 (rowsP f (ts.take (q+1)) (M5.ds.take (q+1)))/\(∀ k,u5.ownBlock=some k->wc.heap.size<=k)/\Below wc.heap.size wc wr):=by
  refine ⟨?_,HRR.out.2.1,HRR.out.2.2⟩;have:=HST.out;rw [hfx] at this;simp only [Bool.false_eq_true,if_false,List.append_nil] at this;rw [this];exact HRR.out.1
 clear hfx HRR HST HXF;go_wp2;go_roundw
 case rel=>exact ⟨q+1,by omega,by go_num,HRR2.out⟩
 case measure=>simp [intOf];omega):p:=h
theorem cQ40 {p:Prop}(h:p:=by
 gi_wp2
 refine ⟨fun _ h=>(by cases h),?_⟩
 gi_wp2
 go_roundw
 case rel=>exact ⟨k+1,by omega,by go_num,HE.out⟩
 case measure=>simp [intOf];omega):p:=h
theorem cQ41 {p:Prop}(h:p:=by
 exact ⟨rfl,TOwns.nil _ _,fun j hj=>by simp at hj,fun i j hi=>by simp at hi,fun j hj=>by simp at hj,(fun k e=>by cases e),fun j hj=>by simp at hj⟩):p:=h
theorem cQ42 {p:Prop}(h:p:=by
 obtain ⟨a,cap,rfl,h⟩:=h;refine ⟨a,cap,rfl,fun j hj=>?_⟩;obtain ⟨g,off,e,hg,hc⟩:=h j hj;exact ⟨g,off,e,Nat.lt_of_lt_of_le hg hb.size,(hb.cell (p:=⟨g,off+j,none⟩) (Nat.lt_of_lt_of_le hg hB)).trans hc⟩):p:=h
theorem cQ43 {p:Prop}(h:p:=by
 have k1:=(AtC.new (w.alloc (.cells #[.slice a1 m.xs.length c1,.slice a2 m.ys.length c2,.slice a3 m.is.length c3,.slice a4 m.bs.length c4,.slice a5 m.fs.length c5,.slice a6 m.ds.length c6,.int .i64 m.nx] 33)) 33 noM).over b2;have sz:=b2.size;simp at k1 sz;exact ⟨((AtC.new w 33 _).alloc _).over b2,k1,(((Below.refl _ w).alloc nR _).alloc (by simp) _).trans (b2.mono (by simp;omega)),sz⟩):p:=h
theorem cQ44 {p:Prop}(h:p:=by
 go_wp2;go_roundw
 case rel=>exact ⟨j+1,by omega,by go_num,H0.out⟩
 case measure=>simp [intOf];omega):p:=h
theorem cQ45 {p:Prop}(h:p:=by
 have e5:x 5=.bool true:=hp.post 5 (hd 5 mz0);simp only [e5] at HK ⊢;go_simp;exact HK.out _ _ bR rfl):p:=h
theorem cQ46 {p:Prop}(h:p:=by
 have q2:=(AtC.new (w.alloc (.cells #[dx,dy,.slice (some ⟨g,off,none⟩) is.length c3,bv] 30)) 37 #[.int .i64 2,.int .i64 ln,.slice pa ps.length pc]).over b;simp at q2;have bb:Below w.heap.size w W:=(((Below.refl _ w).alloc nR _).alloc (by simp) _).trans (b.mono (by simp;omega));exact ⟨((AtC.new w 30 _).alloc _).over b,q2,bb,HR.out.below bb nR,H.out.below bb nR⟩):p:=h
theorem cQ47 {p:Prop}(h:p:=by
 clear q9 q8 HS;go_wp2;refine bodyPost_ret (v:=.tuple #[.agg #[.slice b1 m.xs.length d1,.slice b2 m.ys.length d2,.slice b3 m.is.length d3,.slice b4 m.bs.length d4,.slice b5 m.fs.length d5,.slice b6 m.ds.length d6,.int .i64 m.nx],.int .i64 0]) (by simp [results,go_sem,r0,r1,r2,r3,r4,r5,r6]) rfl ⟨_,_,_,_,_,_,by rw [HFF.out];rfl,HM.out.1,HM.out.2⟩):p:=h
theorem cQ48 {p:Prop}(h:p:=by
 have e0:x 0=.pointer (some ⟨b,0,none⟩):=hp.post 0 (hd 0 mz0);simp only [e0] at HK ⊢;go_simp;exact HK.out _ _ bR rfl):p:=h
theorem cQ49 {p:Prop}(h:p:=by
 have e:(js.filter fun i=>!(j :: s).contains i)=(js.filter fun i=>!s.contains i).filter fun i=>!(i == j):=by
  rw [List.filter_filter];apply List.filter_congr;intro i _;by_cases e1:i=j<;>by_cases e2:i∈s<;>simp [e1,e2]
 rw [e,List.length_filter_lt_length_iff_exists];exact ⟨j,List.mem_filter.2 ⟨hjs,by simpa using hjn⟩,by simp⟩):p:=h
theorem cQ50 {p:Prop}(h:p:=by
 obtain ⟨⟨r,rfl⟩,hbx⟩:=hcut;have HZ:Hid (Below W0.heap.size W0 wc):=HA.out.1.trans (hbx.mono HA.out.1.size);clear hbx HA CH d1 d4 d6 d9 x2 y2 HBW
 cases r
 ·go_wp2;go_roundw
  case rel=>exact ⟨q+1,by omega,by go_num,HZ.out⟩
  case measure=>simp [intOf];omega
 ·go_wp2;go_ret;exact ⟨⟨_,rfl⟩,(HW.out _ HZ.out).1⟩):p:=h
theorem cQ51 {p:Prop}(h:p:=by
 refine List.all_eq_true.2 fun i hi=>?_;have his:i∈s:=by simpa using (List.mem_filter.1 hi).2
 cases ho:ops[i]? with
 | none=>rfl
 | some o =>
  simp only;refine Array.all_eq_true_iff_forall_mem.2 fun e he=>?_
  cases hbi:Region.binds md e with
  | false=>rfl
  | true =>
   have:=hcl i his o ho e he hbi;simp [this,hs _ this]):p:=h
theorem cQ52 {p:Prop}(h:p:=by
 refine ⟨h.1,?_⟩;rcases h.2 with h1 | ⟨g,cap,cur,h1,h2,h3,h4⟩
 ·exact .inl h1
 ·exact .inr ⟨g,cap,cur,h1,h2,by rw [hh g (by rw [h1];rfl),h3],h4⟩):p:=h
theorem cQ53 {p:Prop}(h:p:=by
 refine wpOp_step (o:=_) rfl fun K' hK'=>?_;have HK:=hide (fun v W' h1 h2=>hK' _ _ (hK v W' h1 h2));simp only [actOf];go_simp;have F:=HK.out (.slice (some ⟨W.heap.size,0,none⟩) 0 0) (W.alloc (.cells #[] 4)) ((Below.refl _ W).alloc nR _) ⟨rfl,by simp,AtC.new W 4 _⟩;simp [go_sem,actOf,upd] at F;exact F):p:=h
theorem cQ54 {p:Prop}(h:p:=by
 clear hK hK' hp hd;go_simp;exact HK.out _ _ ((Below.refl _ W).alloc nR _) ⟨rfl,by simp,AtC.new W 44 _⟩):p:=h
theorem cQ55 {p:Prop}(h:p:=by
 refine ⟨by simp,?_,?_,((Below.refl _ W5).alloc nR _).alloc (by simp) _⟩
 ·exact ((AtC.new W5 31 #[.slice a6 m.ds.length c6]).alloc _).cell 0
 ·have:=(AtC.new (W5.alloc (.cells #[.slice a6 m.ds.length c6] 31)) 3 #[.int .i64 ((j:Int)+1)]).cell 0;rw [World.size_alloc] at this;exact this):p:=h
theorem cQ56 {p:Prop}(h:p:=by
 go_wp2;go_meet
 exact ⟨⟨_,rfl⟩,below_drewN bR _⟩):p:=h
theorem cQ57 {p:Prop}(h:p:=by
 have q:=HC.out (w2.alloc (.cells #[.slice b1 m.xs.length d1,.slice b2 m.ys.length d2,.slice b3 m.is.length d3,.slice b4 m.bs.length d4,.slice b5 m.fs.length d5,.slice b6 m.ds.length d6,.int .i64 m.nx] 33)) (B2.alloc B2.size _);exact ⟨q.1,q.2.1,AtC.new w2 33 _,O3.alloc _,q.2.2.1⟩):p:=h
theorem cQ58 {p:Prop}(h:p:=by
 have H1:=hide h1;have hd:decide (x < (m.fs.length:Int))=false:=decide_eq_false h1;clear h;go_enter Tryz.func95,Tryz.ntmps95
 go_wp2
 go_end0
 have e:markU x m=m:=by unfold markU;rw [if_neg (fun q=>Int.not_lt.2 H1.out q.2)]
 rw [e];exact ⟨rfl,H.out,Chg.refl _ _⟩):p:=h
theorem cQ59 {p:Prop}(h:p:=by
 simp only [List.getElem_replicate] at e;rw [hz] at e;cases e):p:=h
theorem cQ60 {p:Prop}(h:p:=by
 simp only [Value.ownBlock,Option.some.injEq] at hk;subst hk;rcases hat with hat | hat
 ·exact .inl hat
 ·exact .inr (by omega)):p:=h
theorem cQ61 {p:Prop}(h:p:=by
 rw [← hW9];have z8:=B8.size;refine ⟨⟨?_,(O8.bound.below ((Below.refl _ w8).alloc nR _) nR).mono (fun k hk=>by have:w7.heap.size<=k/\k < w8.heap.size:=hk;omega),by omega⟩,B8.alloc z8 _,by omega,by simp;omega⟩;rw [← hbo];exact AtC.new w8 33 _):p:=h
theorem cQ62 {p:Prop}(h:p:=by
 have e1:x 1=.pointer (some ⟨b,0,none⟩):=hp.post 1 (hd 1 mz0);simp only [e1] at HK ⊢;go_simp;exact HK.out _ _ bR rfl):p:=h
theorem cQ63 {p:Prop}(h:p:=by
 go_wp2_with fail
 go_meet
 exact ⟨⟨_,rfl⟩,rfl⟩):p:=h
theorem cQ64 {p:Prop}(h:p:=by
 subst hk;go_wp2_with (first | (go_at_call 96;refine (CU.out _ _).mono ?_;rintro e w7 ⟨⟨z,rfl⟩,rfl⟩) | (go_at_call 101;refine (CV.out _ _).mono ?_;rintro e w7 ⟨⟨z,rfl⟩,rfl⟩))
 (go_meet;exact ⟨⟨_,rfl⟩,rfl⟩)):p:=h
theorem cQ65 {p:Prop}(h:p:=by
 have b2:=B3.trans (b.mono B3.size);have b3:=HQ.out.trans (b2.mono HQ.out.size);obtain ⟨-,k2,k3,-⟩:=HW.out W b3;exact ⟨A3.over b,R3.below b2 nR,k2.cell 2,(b2.cell (p:=⟨gp,op+q,none⟩) hgp).trans HKP.out,k3,b3⟩):p:=h
theorem cQ66 {p:Prop}(h:p:=by
 rcases R1.2 with ⟨h1,h0⟩ | ⟨g,cap,cur,h1,-⟩
 ·exact ⟨none,0,by rw [h1,h0]⟩
 ·exact ⟨_,_,h1⟩):p:=h
theorem cQ67 {p:Prop}(h:p:=by
 have HV:=hide hv;clear hv;go_enter Tryz.func20,Tryz.ntmps20
 go_wp2;go_ret;exact ⟨by rw [HV.out];simp,rfl⟩):p:=h
theorem cQ68 {p:Prop}(h:p:=by
 have e7:x 6=x 7/\∃ a r,x 7=.tuple #[a,r]:=hp.post 7 (hd 7 mz0);obtain ⟨-,a,r,e7⟩:=e7;have ea:Hid (a=fstOf (x 7)):=by rw [e7];rfl
 simp only [e7] at HK ⊢;clear e7;go_simp;exact HK.out _ _ bR ea.out):p:=h
theorem cQ69 {p:Prop}(h:p:=by
 have e7:x 6=x 7/\∃ a r,x 7=.tuple #[a,r]:=hp.post 7 (hd 7 mz0);obtain ⟨-,a,r,e7⟩:=e7;have ea:Hid (r=sndOf (x 7)):=by rw [e7];rfl
 simp only [e7] at HK ⊢;clear e7;go_simp;exact HK.out _ _ bR ea.out):p:=h
theorem cQ70 {p:Prop}(h:p:=by
 clear hK hK' hp hd;go_simp;exact HK.out _ _ ((Below.refl _ W).alloc nR _) ⟨rfl,by simp,AtC.new W 33 _⟩):p:=h
theorem cQ71 {p:Prop}(h:p:=by
 have H0:=hide h0;clear h;go_enter Tryz.func95,Tryz.ntmps95
 go_wp2
 go_end0
 have e:markU x m=m:=by unfold markU;rw [if_neg (fun q=>Int.not_le.2 H0.out q.1)]
 rw [e];exact ⟨rfl,H.out,Chg.refl _ _⟩):p:=h
theorem cQ72 {p:Prop}(h:p:=by
 go_wp2;go_roundw
 case rel=>exact ⟨lv',l',q+1,rfl,by omega,by go_num,HS.out.1.turn (fun k hk=>by have:=(HS.out.1.o.lt k hk).1;omega),by have:=HS.out.2.2;omega⟩
 case measure=>simp [intOf];omega):p:=h
theorem cQ73 {p:Prop}(h:p:=by
 have e5:x 5=.bool false:=hp.post 5 (hd 5 mz0);simp only [e5] at HK ⊢;go_simp;exact HK.out _ _ bR rfl):p:=h
theorem cQ74 {p:Prop}(h:p:=by
 go_wp2_with fail
 go_meet
 exact ⟨⟨_,rfl⟩,_,rfl⟩):p:=h
theorem cQ75 {p:Prop}(h:p:=by
 by_cases h:i∈s
 ·exact h
 ·have:i∈js.filter fun i=>!s.contains i:=List.mem_filter.2 ⟨hi,by simpa using h⟩;rw [List.eq_nil_of_length_eq_zero (Nat.le_zero.1 hc)] at this
  cases this):p:=h
theorem cQ76 {p:Prop}(h:p:=by
 go_wp2_with fail
 refine (HC.out _).mono ?_;rintro e w1 ⟨rfl,B1⟩;have HB1:=hide B1;clear B1;go_wp2
 go_ret2
 exact ⟨rfl,((Below.refl _ w).alloc nR _).trans (HB1.out.mono (by simp))⟩):p:=h
theorem cQ77 {p:Prop}(h:p:=by
 obtain rfl:k=ds.length:=by omega
 have k1:¬ ((ds.length:Int) < (ds.length:Int)):=by omega
 gi_wp2
 go_end0
 have hz:=HR.out.1;rw [List.take_length] at hz;exact ⟨⟨_,rfl⟩,.inl hz⟩):p:=h
theorem cQ78 {p:Prop}(h:p:=by
 have e0:x 0=.pointer (some ⟨bx,0,none⟩):=hp.post 0 (hd 0 mz0);have bw:=HW.out W (zac hp.bel);have q:=bw.2.1.c0;clear bw;simp only [e0] at HK ⊢;go_simp;exact HK.out _ _ bR rfl):p:=h
theorem cQ79 {p:Prop}(h:p:=by
 rcases hk with hk | (hk | hk) | hk
 ·exact .inl (hU k (.inl (hs1 k hk)))
 ·exact .inl (hU k (.inr (.inl hk.1)))
 ·exact .inr hk
 ·exact .inl (hU k (.inr (.inr hk.1)))):p:=h
theorem cQ80 {p:Prop}(h:p:=by
 have e5:x 5=.pointer (some ⟨g,off+j * 3,none⟩):=hp.post 5 (hd 5 mz0);obtain ⟨-,-,q0,q1,q2,-⟩:=HC.out W hp.bel;simp only [e5] at HK ⊢;go_simp;exact HK.out _ _ bR rfl):p:=h
theorem cQ81 {p:Prop}(h:p:=by
 clear HS HR HWR HKP Aw Rw Bw;go_wp2;go_roundw
 case rel=>exact ⟨B',s',(q:Int) - 1,rfl,rfl,by first | rfl | go_num,by omega,by omega,HX1.out⟩
 case measure=>simp [intOf]):p:=h
theorem cQ82 {p:Prop}(h:p:=by
 have j1:(j:Int) < (l.length:Int):=by omega
 go_wp2;go_quiet (fail)
 go_wp2;go_roundw
 case rel=>exact ⟨j+1,by omega,by go_num,_,rfl⟩
 case measure=>simp [intOf];omega):p:=h
theorem cQ83 {p:Prop}(h:p:=by
 have hB:Below w.heap.size w w1:=(((Below.refl _ w).alloc nR _).alloc (by simp) _).trans (HB.out.mono (by simp;omega));exact ((hB.setCell nR _).setCell nR _).setCell nR _):p:=h
theorem cQ84 {p:Prop}(h:p:=by
 rcases hk with (hk | hk) | hk | hk
 ·exact .inl (k7 k (.inl hk))
 ·exact .inr hk
 ·exact .inl (k7 k (.inr (.inl hk)))
 ·exact .inl (k7 k (.inr (.inr hk)))):p:=h
theorem cQ85 {p:Prop}(h:p:=by
 rcases hk with hk | hk | (hk | hk)
 ·exact .inl (k7 k (.inl hk))
 ·exact .inl (k7 k (.inr (.inl hk)))
 ·exact .inl (k7 k (.inr (.inr hk)))
 ·exact .inr hk):p:=h
theorem cQ86 {p:Prop}(h:p:=by
 rcases h.2 with ⟨rfl,h0⟩ | ⟨g,cap,cur,rfl,_⟩
 ·exact ⟨none,0,by rw [h0],fun _=>List.length_eq_zero_iff.1 h0⟩
 ·exact ⟨_,_,rfl,fun h=>by cases h⟩):p:=h
theorem cQ87 {p:Prop}(h:p:=by
 intro d hd2;rcases List.mem_append.mp hd2 with q | q
 ·exact hS.dd d q
 ·simp only [List.mem_cons,List.not_mem_nil,or_false] at q;subst q;exact ⟨hd,hS.nx⟩):p:=h
theorem cQ88 {p:Prop}(h:p:=by
 have q9:=zb6 f (ts.take q) (M5.ds.take q);rw [List.length_take] at q9;show _<=_;omega):p:=h
theorem cQ89 {p:Prop}(h:p:=by
 go_wp2;go_roundw
 case rel=>exact ⟨n+1,by omega,by go_num,ms,HQ5.out.1,HQ.out.2.1,HQ.out.2.2.1,HQ5.out.2.1,HQ5.out.2.2⟩
 case measure=>simp [intOf];omega):p:=h
theorem cQ90 {p:Prop}(h:p:=by
 have HE:=hide hJx3;clear hJx3 hyes hy hR
 gi_wp2
 refine bodyPost_ret (results_none rfl _ _ _) rfl ?_;exact ⟨⟨_,rfl⟩,.inr ⟨_,trivial,HE.out⟩⟩):p:=h
theorem cQ91 {p:Prop}(h:p:=by
 have bw:=HN.out W (zac hp.bel);have bv:=(HS.out W bw.2.1).2.1;obtain ⟨k0,k1,k2,k3,k4,k5,k6⟩:=AtC.sev bv;clear bw bv;go_simp;exact HK.out _ _ bR rfl):p:=h
theorem cQ92 {p:Prop}(h:p:=by
 rcases List.mem_cons.1 hk with ek | hk2
 ·exact absurd (ei.trans ek.symm) hne
 ·rw [ei,zay,zas _ _ _ _ (ne k hk2)];exact .inr (h.lo k hk2).2.2):p:=h
theorem cQ93 {p:Prop}(h:p:=by
 rw [zja e1.out];exact (H2.out.2.setCell_other (by omega) _).base_le (by omega)):p:=h
theorem cQ94 {p:Prop}(h:p:=by
 go_enter Tryz.func94,Tryz.ntmps94
 go_wp2;go_ret;exact ⟨⟨_,rfl⟩,rfl⟩):p:=h
theorem cQ95 {p:Prop}(h:p:=by
 exact ((((HO.out.setCell_other (by simp;omega) _).setCell_other (by simp;omega) _).setCell_other (by simp;omega) _).base_le (by simp;omega))):p:=h
theorem cQ96 {p:Prop}(h:p:=by
 rcases List.mem_cons.1 hi with rfl | hi
 ·rw [zay];exact ⟨hs,hs2,Nat.le_refl _⟩
 ·rw [zas _ _ _ _ (ne i hi)];have:=h.lo i hi;omega):p:=h
theorem cQ97 {p:Prop}(h:p:=by
 rcases List.mem_cons.1 hi with rfl | hi
 ·exact List.mem_cons_of_mem _ (hd k hk)
 ·exact List.mem_cons_of_mem _ (hcl i hi hne k hk)):p:=h
theorem cQ98 {p:Prop}(h:p:=by
 obtain ⟨i0,hi,hz0,hz1,hz2⟩:=info_parts Tryz.i3;simp [Instr.index,run_underlying Tryz.u76,asIntOf,go_sem,sizeOf,typeInfo,hi,hz1,part]):p:=h
theorem cQ99 {p:Prop}(h:p:=by
 rw [List.isEmpty_eq_false_iff,ByteArray.toList_eq];intro e;have h2:s.data.toList.length=s.size:=rfl;rw [e,List.length_nil] at h2;omega):p:=h
theorem cQ100 {p:Prop}(h:p:=by
 unfold World.cell? at h
 cases hg:w.heap[g]? with
 | none=>rw [hg] at h;simp at h
 | some o=>exact (Array.getElem?_eq_some_iff.1 hg).1):p:=h
theorem cQ101 {p:Prop}(h:p:=by
 apply Bool.eq_false_iff.2;intro e;rw [beq_iff_eq] at e;exact hall fun i hi=>by
  rw [← e] at hi;simpa using (List.mem_filter.1 hi).2):p:=h
theorem cQ102 {p:Prop}(h:p:=by
 clear q1 q2 q3 q4 HR;go_wp2
 go_end0
 exact ⟨rfl,HF.out.1,HF.out.2⟩):p:=h
theorem cQ103 {p:Prop}(h:p:=by
 refine ⟨h.1,?_⟩;rcases h.2 with h1 | ⟨g,cap,cur,h1,h2,h3⟩
 ·exact .inl h1
 ·exact .inr ⟨g,cap,cur,h1,by omega,h3⟩):p:=h
theorem cQ104 {p:Prop}(h:p:=by
 clear hJ3 hk3 hyes hy hR
 gi_wp2
 go_roundw
 case rel=>exact ⟨k+1,by omega,by go_num,HE.out⟩
 case measure=>simp [intOf];omega):p:=h
theorem cQ105 {p:Prop}(h:p:=by
 rw [show ds=(ts.zip ds).map (·.2) from (List.map_snd_zip (by omega)).symm];rw [List.filter_map,List.map_snd_zip (by omega)];rfl):p:=h
theorem cQ106 {p:Prop}(h:p:=by
 obtain ⟨q1,q2,q3,-⟩:=hr i hi;obtain ⟨r1,r2,r3,-⟩:=hr j hj;rw [q3,r3];exact h.sep (f i) (f j) q1 r1 (fi i j hi hj hne) k):p:=h
theorem cQ107 {p:Prop}(h:p:=by
 rw [beq_eq_false_iff_ne,ByteArray.toList_eq,ByteArray.toList_eq];intro e;exact h (ByteArray.ext (Array.toList_inj.1 e))):p:=h
theorem cQ108 {p:Prop}(h:p:=by
 clear HSN HA hd;go_wp2;go_roundw
 case rel=>exact ⟨q+1,by omega,by go_num,HN.out⟩
 case measure=>simp [intOf];omega):p:=h
theorem cQ109 {p:Prop}(h:p:=by
 have:j∈js.filter fun i=>s.contains i:=List.mem_filter.2 ⟨hjs,by simpa using h⟩;have h3:=hj2.2;simp [hjs,h] at h3):p:=h
theorem cQ110 {p:Prop}(h:p:=by
 clear b8 c8 HA;go_wp2;go_roundw
 case rel=>exact ⟨q+1,by omega,by go_num,HZ.out⟩
 case measure=>simp [intOf];omega):p:=h
theorem cQ111 {p:Prop}(h:p:=by
 have b2:=zac b;exact ⟨A0.over b2,A1.over b2,(b2.cell (p:=⟨gp,op+q,none⟩) hgp).trans kp,HD.out.below b2 nR⟩):p:=h
theorem cQ112 {p:Prop}(h:p:=by
 go_wp2_with fail
 go_meet
 exact ⟨⟨_,rfl,by simp⟩,rfl⟩):p:=h
theorem cQ113 {p:Prop}(h:p:=by
 show zdh bs nm Pn (jj:Int) bss[jj].2;unfold zdh;rw [HBD.out];exact .inr ⟨HFF.out,rfl,jj,hjj,rfl,rfl,hnm,hsz⟩):p:=h
theorem cQ114 {p:Prop}(h:p:=by
 go_wp2
 go_ret2
 exact ⟨SpR.mk ⟨_,[],_,rfl,H0.out.1,fun e=>absurd e (by decide),fun _=>rfl⟩,H0.out.2⟩):p:=h
theorem cQ115 {p:Prop}(h:p:=by
 go_wp2_with fail
 refine (CU.out _).mono ?_;rintro e w1 ⟨r,rfl,hr,rfl⟩;go_wp2;go_ret;exact ⟨rfl,rfl⟩):p:=h
theorem cQ116 {p:Prop}(h:p:=by
 go_wp2;go_ret;exact ⟨rfl,⟨Nat.le_refl _,bR.alloc nR _,0,h,heap_alloc_new w _,Nat.zero_le _⟩,by simp⟩):p:=h
theorem cQ117 {p:Prop}(h:p:=by
 have e11:x 11=.bool false:=hp.post 11 (hd 11 mz0);simp only [e11] at HK ⊢;go_simp;exact HK.out _ _ bR rfl):p:=h
theorem cQ118 {p:Prop}(h:p:=by
 go_wp2_with fail
 go_meet
 exact ⟨⟨_,rfl⟩,HB4.out⟩):p:=h
theorem cQ119 {p:Prop}(h:p:=by
 clear hK hK' hp hd;go_simp;exact HK.out _ _ ((Below.refl _ W).alloc nR _) ⟨rfl,by simp,AtC.new W 4 _⟩):p:=h
theorem cQ120 {p:Prop}(h:p:=by
 obtain ⟨S1',S2',S3',ts',-,p2,p3,-,-,-,p7⟩:=q4;exact ⟨p2,fun k hk=>p7 k (.inr (.inl (p3 k hk)))⟩):p:=h
theorem cQ121 {p:Prop}(h:p:=by
 go_wp2;go_roundw
 case rel=>exact ⟨j+1,by omega,by go_num,HW.out⟩
 case measure=>simp [intOf];omega):p:=h
theorem cQ122 {p:Prop}(h:p:=by
 have e4:x 4=.bool false:=hp.post 4 (hd 4 mz0);simp only [e4] at HK ⊢;go_simp;exact HK.out _ _ bR rfl):p:=h
theorem cQ123 {p:Prop}(h:p:=by
 rcases Nat.lt_or_gt_of_ne hne with q | q
 ·have:=h2 i j q hj2;omega
 ·have:=h2 j i q hi2;omega):p:=h
theorem cQ124 {p:Prop}(h:p:=by
 go_ret3
 exact ⟨SplR.mk ⟨_,_,_,rfl,by decide,by decide,fun e=>absurd e (by decide)⟩,HB1.out⟩):p:=h
theorem cQ125 {p:Prop}(h:p:=by
 exact ((((HB.out.setCell (by simp) _).setCell (by simp) _).setCell (by simp) _).setCell (by simp) _)):p:=h
theorem cQ126 {p:Prop}(h:p:=by
 rcases Nat.eq_zero_or_pos n with h | h
 ·exact h
 ·have:=Nat.mul_pos h hm0;simp at hcl;omega):p:=h
theorem cQ127 {p:Prop}(h:p:=by
 obtain ⟨a',c,e,_⟩:=h.row.form;rw [hv] at e;simp only [Value.slice.injEq] at e;exact e.2.1):p:=h
theorem cQ128 {p:Prop}(h:p:=by
 rcases hk with hk | hk
 ·exact (k5 k hk).2 e
 ·exact nS k hk (k7 k (.inr (.inr e)))):p:=h
theorem cQ129 {p:Prop}(h:p:=by
 rcases hk with hk | hk
 ·exact (k5 k hk).1 e
 ·exact nS k hk (k7 k (.inr (.inl e)))):p:=h
theorem cQ130 {p:Prop}(h:p:=by
 obtain ⟨S,u,v,iv,bv,dv,pv,m,h1,h2⟩:=h;exact ⟨S,u,v,iv,bv,dv,pv,m,h1.below hb,h2⟩):p:=h
theorem cQ131 {p:Prop}(h:p:=by
 go_wp2_with fail
 go_meet
 exact ⟨⟨_,rfl,fun e=>by simp at e⟩,below_drewN bR _⟩):p:=h
theorem cQ132 {p:Prop}(h:p:=by
 rcases e with e | e
 ·exact k6 k hk e
 ·exact (h4 k e).1 (k7 k (.inr (.inl hk)))):p:=h
theorem cQ133 {p:Prop}(h:p:=by
 rw [b0,b1];go_enter Tryz.func20,Tryz.ntmps20
 go_wp2;go_ret;exact ⟨by go_num,rfl⟩):p:=h
theorem cQ134 {p:Prop}(h:p:=by
 cases cs with
 | nil=>rfl
 | cons y r=>obtain ⟨_,_,h,_⟩:=hc 0 y (by simp);cases h):p:=h
theorem cQ135 {p:Prop}(h:p:=by
 have:=zcb id kd io pt bk sl nm bt ot af pa bl.length pc W;rw [hN] at this;exact this):p:=h
theorem cQ136 {p:Prop}(h:p:=by
 rcases e with e | e
 ·exact (k5 k hk).2 e
 ·exact (h4 k e).1 (k7 k (.inl hk))):p:=h
theorem cQ137 {p:Prop}(h:p:=by
 rcases e with e | e
 ·exact (d1 k (hs1 k hk)).1 e.1
 ·have:=h12 k hk;omega):p:=h
theorem cQ138 {p:Prop}(h:p:=by
 unfold imgI;rw [hib,if_pos rfl,show ((j:Int)+1 - 1).toNat=j by omega];simp [hj]):p:=h
theorem cQ139 {p:Prop}(h:p:=by
 unfold imgB;rw [hib,if_pos rfl,show ((j:Int)+1 - 1).toNat=j by omega];simp [hj]):p:=h
theorem cQ140 {p:Prop}(h:p:=by
 go_enter Tryz.func4,Tryz.ntmps4
 go_wp2;go_ret;exact ⟨by simp;omega,rfl⟩):p:=h
theorem cQ141 {p:Prop}(h:p:=by
 exact ⟨none,0,by rw [h0],by omega,fun _=>List.length_eq_zero_iff.1 h0⟩):p:=h
theorem cQ142 {p:Prop}(h:p:=by
 clear hbw hmb;go_wp2;go_ret;exact ⟨⟨_,rfl⟩,(HW.out _ HR.out).1⟩):p:=h
theorem cQ143 {p:Prop}(h:p:=by
 rcases hk with hk | hk
 ·exact d2 k hk.1 e.1
 ·have:=e.2;omega):p:=h
namespace Kit
open Go.RowKit
theorem hide {p:Prop}(h:p):Hid p:=h
theorem bR {n:Nat}{w:World}:Below n w w:=Below.refl _ _
theorem nR {n:Nat}:n<=n:=Nat.le_refl _
theorem mz0 {a:Nat}{l:List Nat}:a∈a::l:=.head _
theorem mz1 {a b:Nat}{l:List Nat}:a∈b::a::l:=.tail _ mz0
theorem mz2 {a b c:Nat}{l:List Nat}:a∈b::c::a::l:=.tail _ mz1
theorem mz3 {a b c d:Nat}{l:List Nat}:a∈b::c::d::a::l:=.tail _ mz2
theorem mz4 {a b c d e:Nat}{l:List Nat}:a∈b::c::d::e::a::l:=.tail _ mz3
theorem mz5 {a b c d e f:Nat}{l:List Nat}:a∈b::c::d::e::f::a::l:=.tail _ mz4
def bc (l:List UInt8):List Value:=l.map fun b=>Value.int .u8 (b.toNat:Int)
theorem zil (a b:List UInt8):bc (a ++ b)=bc a ++ bc b:=by simp [bc]
theorem bc_one (b:UInt8):bc [b]=[Value.int .u8 (b.toNat:Int)]:=rfl
def Owns (w:World) (base:Nat) (e:TypeId) (v:Value) (l:List UInt8):Prop:=w.ownsRow base e 1 v l.length (bc l)
theorem Owns.alloc {w:World}{base:Nat}{e:TypeId}{v:Value}{l:List UInt8}(h:Owns w base e v l)(o:Obj):Owns (w.alloc o) base e v l:=World.ownsRow.alloc h o
theorem Owns.drew {w:World}{base:Nat}{e:TypeId}{v:Value}{l:List UInt8}(h:Owns w base e v l):Owns w.drew base e v l:=World.ownsRow.drew h
theorem Owns.nil (w:World)(base:Nat)(e:TypeId):Owns w base e (.slice none 0 0) []:=World.ownsRow_nil _ _ _ _
theorem Owns.lit0 (w:World)(base:Nat)(e:TypeId)(hb:base<=w.heap.size):Owns (w.alloc (.cells #[] e)) base e (.slice (some ⟨w.heap.size,0,none⟩) 0 0) [] :=
 World.ownsRow_lit w #[] 0 hb (Nat.zero_le _) rfl
theorem zgw {P:Program}{w:World}{base:Nat}{v:Value}{l:List UInt8}(src dst e:TypeId)(hs:P.underlying src=some (.slice e))(he:P.underlying e=some (.int .u8))(hd:P.underlying dst=some .string)
  (hown:Owns w base e v l):(convert src dst v).run P w=.ok (.string ⟨l.toArray⟩) w:=by
 unfold Owns at hown;rcases hown.2 with ⟨rfl,h0⟩ | ⟨g,cap,cur,rfl,_,hg,hnc,hcm,hcs,htake⟩
 ·have:l=[]:=List.length_eq_zero_iff.1 h0;subst this;rw [run_convert_bytes_string w src dst e none 0 0 hs he hd];simp [Conv.bytesToString];rfl
 ·refine run_convert_bytes_back w src dst e ⟨g,0,none⟩ cap l hs he hd ?_;intro j hj;have hc:w.cell? ⟨g,j,none⟩=(bc l)[j]?:=hown.cellAt j (by omega);have ha:(⟨g,0,none⟩:Addr).add j=⟨g,j,none⟩:=by cases j<;>simp [Addr.add]
  rw [ha,hc];simp [bc,hj]
theorem zbq {P:Program}{w:World}{ops:Array Oper}{rest:List Oper}{o:Oper}{a:Act}{Q:Exit->Act->World->Prop}(w0:World)(hgd:o.guard=none)(s x:Operand)(t:TypeId)
  (ho:o.op=.call { callee:=.builtin .append,args:=#[s,x],argTypes:=#[t,t] }) (base:Nat) (e:TypeId) (ht:P.underlying t=some (.slice e))
  (hi:(P.info? e).map (fun i=>(i.zero,i.size,i.bytes))=some (some (.int .u8 0),1,1)) (v:Value) (pre:List UInt8) (hs:a.eval s=v) (hown:Owns w base e v pre)
  (hb:Below base w0 w) (hbase:base<=w.heap.size) (g:Nat) (hx:a.eval x=.slice (some ⟨g,0,none⟩) 1 1) (b:UInt8) (z:Int) (hz:z=(b.toNat:Int)) (hc:w.cell? ⟨g,0,none⟩=some (.int .u8 z)) (hl:pre.length<=1000000000000)
  (h:∀ v' w',Owns w' base e v' (pre ++ [b])->Below base w0 w'->w.grownBy w' v.ownBlock->wpList P ops Q rest (a.put o.dst v') w'):wpList P ops Q (o :: rest) a w:=by
 obtain ⟨i0,hi,hz0,hz1,hz2⟩:=info_parts hi;unfold Owns at hown;refine wpList_append_own w hgd s x t ho base e i0 (.int .u8 0) 1 1 ht hi hz0 hz1 hz2 rfl (by decide) v pre.length (bc pre) hs hown ⟨g,0,none⟩ 1 1 [.int .u8 z] hx rfl ?_ ?_ ?_ ?_ hbase ?_
 ·intro j u hj
  match j,hj with
  | 0,hj=>simp at hj;subst hj;simpa [Addr.add] using hc
 ·intro u hu;simp at hu;subst hu;rfl
 ·unfold maxLen;omega
 ·omega
 ·intro v' w' hown' hgrow _;refine h v' w' ?_ (hb.grown hgrow hbase fun k hk=>(hown.lt k hk).1) hgrow;unfold Owns;rw [zil,bc_one,← hz];simpa using hown'
def hiB (m:Nat):UInt8:=UInt8.ofNat (m % 128+128)
def loB (m:Nat):UInt8:=UInt8.ofNat m
def vbF:Nat->Nat->List UInt8
 | 0,n=>[loB n]
 | f+1,n=>if 127 < n then hiB n :: vbF f (n / 128) else [loB n]
def vb (n:Nat):List UInt8:=vbF 9 n
theorem zge (f n:Nat)(h:127 < n):vbF (f+1) n=hiB n :: vbF f (n / 128):=by simp [vbF,h]
theorem zcq (f n:Nat)(h:n<=127):vbF f n=[loB n]:=by
 cases f with
 | zero=>rfl
 | succ f=>simp [vbF];omega
theorem vbF_len (f n:Nat):(vbF f n).length<=f+1:=by
 induction f generalizing n with
 | zero=>simp [vbF]
 | succ f ih =>
  unfold vbF
  split
  ·have:=ih (n / 128);simp;omega
  ·simp
theorem wrapId {x:Int}(h0:0<=x)(h1:x<=1000000000000):IntKind.i64.wrap x=x:=by
 simp [IntKind.wrap,IntKind.signed,IntKind.bits];omega
def Lies (w:World) (B:Nat) (s:ByteArray):Prop:=∃ cur e fr,w.heap[B]?=some (.cells cur e fr)/\∀ (k:Nat) (h:k < s.size),cur[k]?=some (.int .u8 (s[k].toNat:Int))
theorem Lies.cell {w:World}{B:Nat}{s:ByteArray}(h:Lies w B s)(k:Nat)(hk:k < s.size):w.cell? ⟨B,k,none⟩=some (.int .u8 (s[k].toNat:Int)):=by
 obtain ⟨cur,e,fr,h1,h2⟩:=h;rw [cell_of_row w B k cur e fr h1,h2 k hk]
theorem Lies.of_heap {w w':World}{B:Nat}{s:ByteArray}(h:Lies w B s)(he:w'.heap[B]?=w.heap[B]?):Lies w' B s:=by
 obtain ⟨cur,e,fr,h1,h2⟩:=h;exact ⟨cur,e,fr,by rw [he,h1],h2⟩
theorem Lies.lt {w:World}{B:Nat}{s:ByteArray}(h:Lies w B s):B < w.heap.size:=by
 obtain ⟨cur,e,fr,h1,_⟩:=h;exact (Array.getElem?_eq_some_iff.1 h1).1
theorem zac {w w1:World}(h:Below w.drew.heap.size w.drew w1):Below w.heap.size w w1:=(Below.refl _ w).drew.trans h
theorem ret_of {v v':Value}(h:v'=v):Ending.returned v=.returned v':=by rw [h]
end Kit
namespace Kit
open Go.RowKit
def ROwns (w:World) (base:Nat) (e:TypeId) (v:Value) (xs:List Value):Prop:=w.ownsRow base e 1 v xs.length xs
theorem ROwns.alloc {w:World}{base:Nat}{e:TypeId}{v:Value}{l:List Value}(h:ROwns w base e v l)(o:Obj):ROwns (w.alloc o) base e v l:=World.ownsRow.alloc h o
theorem ROwns.drew {w:World}{base:Nat}{e:TypeId}{v:Value}{l:List Value}(h:ROwns w base e v l):ROwns w.drew base e v l:=World.ownsRow.drew h
theorem ROwns.nil (w:World)(base:Nat)(e:TypeId):ROwns w base e (.slice none 0 0) []:=World.ownsRow_nil _ _ _ _
theorem ROwns.lit0 (w:World)(base:Nat)(e:TypeId)(hb:base<=w.heap.size):ROwns (w.alloc (.cells #[] e)) base e (.slice (some ⟨w.heap.size,0,none⟩) 0 0) [] :=
 World.ownsRow_lit w #[] 0 hb (Nat.zero_le _) rfl
theorem ROwns.lit (w:World)(base:Nat)(e:TypeId)(cs:Array Value)(hb:base<=w.heap.size)(hm:cs.size<=maxLen):ROwns (w.alloc (.cells cs e)) base e (.slice (some ⟨w.heap.size,0,none⟩) cs.size cs.size) cs.toList:=by
 have:=World.ownsRow_lit (base:=base) (e:=e) (size:=1) w cs cs.size hb hm (by omega);unfold ROwns
 rwa [Array.length_toList]
theorem ROwns.lt {w:World}{base:Nat}{e:TypeId}{v:Value}{l:List Value}(h:ROwns w base e v l):∀ k,v.ownBlock=some k->base<=k/\k < w.heap.size:=World.ownsRow.lt h
theorem ROwns.base_le {w:World}{base base':Nat}{e:TypeId}{v:Value}{l:List Value}(h:ROwns w base e v l)(hb:base'<=base):ROwns w base' e v l:=by
 exact cQ103
theorem ROwns.form {w:World}{base:Nat}{e:TypeId}{v:Value}{l:List Value}(h:ROwns w base e v l):∃ a cap,v=.slice a l.length cap/\(a=none->l=[]):=by
 exact cQ86
theorem ROwns.of_heap {w w':World}{base:Nat}{e:TypeId}{v:Value}{l:List Value}(h:ROwns w base e v l)(hh:∀ k,v.ownBlock=some k->w'.heap[k]?=w.heap[k]?):ROwns w' base e v l:=by
 exact cQ52
theorem ROwns.below {w w':World}{base B:Nat}{e:TypeId}{v:Value}{l:List Value}(h:ROwns w base e v l)(hb:Below B w w')(hB:w.heap.size<=B):ROwns w' base e v l :=
 h.of_heap fun k hk=>hb.block k (by have:=(h.lt k hk).2;omega)
theorem ROwns.grown {w w':World}{base:Nat}{e:TypeId}{v:Value}{l:List Value}{row:Option Nat}(h:ROwns w base e v l)(hg:w.grownBy w' row)(hn:∀ k,v.ownBlock=some k->row≠some k):ROwns w' base e v l :=
 h.of_heap fun k hk=>hg.block k (h.lt k hk).2 (fun e=>hn k hk e.symm)
theorem zam {w w':World}(h:Below w.heap.size w w')(row:Option Nat):w.grownBy w' row:=⟨h.os,h.tape,h.output,h.size,fun k hk _=>h.block k hk⟩
theorem zad {a b c:World}{row:Option Nat}(h:a.grownBy b row)(k:b.grownBy c row):a.grownBy c row :=
 ⟨k.os.trans h.os,k.tape.trans h.tape,k.output.trans h.output,Nat.le_trans h.size k.size,fun i hi hr=>(k.block i (by have:=h.size;omega) hr).trans (h.block i hi hr)⟩
theorem ROwns.at {w:World}{base:Nat}{e:TypeId}{v:Value}{l:List Value}(h:ROwns w base e v l)(k:Nat)(hk:k < l.length) :
  ∃ g cap,v=.slice (some ⟨g,0,none⟩) l.length cap/\w.cell? ⟨g,k,none⟩=l[k]?/\w.frozen? ⟨g,k,none⟩=false/\base<=g/\g < w.heap.size/\l.length<=cap:=by
 have hlt:=h.lt;rcases h.2 with ⟨h1,h0⟩ | ⟨g,cap,cur,rfl,h2,h3,h4,h5,h6,h7⟩
 ·omega
 ·have h':w.ownsRow base e 1 (.slice (some ⟨g,0,none⟩) l.length cap) l.length l:=h;exact ⟨g,cap,rfl,h'.cellAt k (by omega),h'.frozenAt k,h2,(hlt g rfl).2,h4⟩
theorem ROwns.stored {w:World}{base g cap:Nat}{e:TypeId}{l:List Value}(h:ROwns w base e (.slice (some ⟨g,0,none⟩) l.length cap) l)(k:Nat)(u:Value) :
  ROwns (w.setCell ⟨g,k,none⟩ u) base e (.slice (some ⟨g,0,none⟩) l.length cap) (l.set k u)/\w.grownBy (w.setCell ⟨g,k,none⟩ u) (some g):=by
 have:=World.ownsRow.stored h k u;refine ⟨?_,this.2⟩;unfold ROwns;rw [List.length_set];exact this.1
end Kit
namespace Kit
open Go.RowKit
theorem ROwns.setCell_other {w:World}{base:Nat}{e:TypeId}{v:Value}{l:List Value}(h:ROwns w base e v l){b j:Nat}(hp:b < base)(x:Value):ROwns (w.setCell ⟨b,j,none⟩ x) base e v l :=
 h.of_heap fun k hk=>heap_setCell_other w ⟨b,j,none⟩ k x (fun e=>by have:=(h.lt k hk).1;simp at e;omega)
theorem zbh (w:World)(o:Obj):(w.alloc o).heap[w.heap.size]?=some o:=by
 show (w.heap.push o)[w.heap.size]?=some o;simp
end Kit
open Go.RowKit Kit
theorem Tryz.u22:Tryz.prog.underlying 22=some (.slice 5):=by kernel_rfl
theorem Tryz.i5:(Tryz.prog.info? 5).map (fun i=>(i.zero,i.size,i.bytes))=some (some (.int .u8 0),1,1):=by kernel_rfl
theorem zaw {b c:Bool}(h:b=c):Ending.returned (.bool b)=.returned (.bool c):=by rw [h]
namespace Kit
abbrev Sl:=ByteArray×Int
def sc:List Sl->List Value
 | []=>[]
 | s :: r=>.string s.1 :: .int .i64 s.2 :: sc r
theorem zcr (xs:List Sl):(sc xs).length=xs.length * 2:=by
 induction xs with
 | nil=>rfl
 | cons s r ih=>simp [sc,ih];omega
theorem zim (xs:List Sl)(j:Nat)(h:j < xs.length):(sc xs)[j * 2]?=some (.string xs[j].1):=by
 induction xs generalizing j with
 | nil=>simp at h
 | cons s r ih =>
  cases j with
  | zero=>rfl
  | succ j =>
   rw [show (j+1) * 2=j * 2+1+1 by omega];simp only [sc,List.getElem?_cons_succ,List.getElem_cons_succ];exact ih j (by simpa using h)
theorem sc_ino (xs:List Sl)(j:Nat)(h:j < xs.length):(sc xs)[j * 2+1]?=some (.int .i64 xs[j].2):=by
 induction xs generalizing j with
 | nil=>simp at h
 | cons s r ih =>
  cases j with
  | zero=>rfl
  | succ j =>
   rw [show (j+1) * 2+1=j * 2+1+1+1 by omega];simp only [sc,List.getElem?_cons_succ,List.getElem_cons_succ];exact ih j (by simpa using h)
theorem zgf (xs:List Sl)(j:Nat)(t:ByteArray)(h:j < xs.length):(sc xs).set (j * 2) (.string t)=sc (xs.set j (t,xs[j].2)):=by
 induction xs generalizing j with
 | nil=>simp at h
 | cons s r ih =>
  cases j with
  | zero=>rfl
  | succ j =>
   rw [show (j+1) * 2=j * 2+1+1 by omega];simp only [sc,List.set_cons_succ,List.getElem_cons_succ];rw [ih j (by simpa using h)]
theorem zhh (xs:List Sl)(j:Nat)(z:Int)(h:j < xs.length):(sc xs).set (j * 2+1) (.int .i64 z)=sc (xs.set j (xs[j].1,z)):=by
 induction xs generalizing j with
 | nil=>simp at h
 | cons s r ih =>
  cases j with
  | zero=>rfl
  | succ j =>
   rw [show (j+1) * 2+1=j * 2+1+1+1 by omega];simp only [sc,List.set_cons_succ,List.getElem_cons_succ];rw [ih j (by simpa using h)]
def SOwns (w:World) (base:Nat) (e:TypeId) (v:Value) (xs:List Sl):Prop:=w.ownsRow base e 2 v xs.length (sc xs)
theorem SOwns.alloc {w:World}{base:Nat}{e:TypeId}{v:Value}{l:List Sl}(h:SOwns w base e v l)(o:Obj):SOwns (w.alloc o) base e v l:=World.ownsRow.alloc h o
theorem SOwns.drew {w:World}{base:Nat}{e:TypeId}{v:Value}{l:List Sl}(h:SOwns w base e v l):SOwns w.drew base e v l:=World.ownsRow.drew h
theorem SOwns.nil (w:World)(base:Nat)(e:TypeId):SOwns w base e (.slice none 0 0) []:=World.ownsRow_nil _ _ _ _
theorem SOwns.lit (w:World)(base:Nat)(e:TypeId)(cs:Array Value)(xs:List Sl)(hc:cs.toList=sc xs)(hb:base<=w.heap.size)(hm:xs.length<=maxLen):SOwns (w.alloc (.cells cs e)) base e (.slice (some ⟨w.heap.size,0,none⟩) xs.length xs.length) xs:=by
 have h1:cs.size=xs.length * 2:=by rw [← Array.length_toList,hc,zcr]
 have:=World.ownsRow_lit (base:=base) (e:=e) (size:=2) w cs xs.length hb hm h1;unfold SOwns
 rwa [hc] at this
theorem SOwns.lt {w:World}{base:Nat}{e:TypeId}{v:Value}{l:List Sl}(h:SOwns w base e v l):∀ k,v.ownBlock=some k->base<=k/\k < w.heap.size:=World.ownsRow.lt h
theorem SOwns.base_le {w:World}{base base':Nat}{e:TypeId}{v:Value}{l:List Sl}(h:SOwns w base e v l)(hb:base'<=base):SOwns w base' e v l:=by
 exact cQ103
theorem SOwns.form {w:World}{base:Nat}{e:TypeId}{v:Value}{l:List Sl}(h:SOwns w base e v l):∃ a cap,v=.slice a l.length cap/\(a=none->l=[]):=by
 exact cQ86
theorem SOwns.of_heap {w w':World}{base:Nat}{e:TypeId}{v:Value}{l:List Sl}(h:SOwns w base e v l)(hh:∀ k,v.ownBlock=some k->w'.heap[k]?=w.heap[k]?):SOwns w' base e v l:=by
 exact cQ52
theorem SOwns.below {w w':World}{base B:Nat}{e:TypeId}{v:Value}{l:List Sl}(h:SOwns w base e v l)(hb:Below B w w')(hB:w.heap.size<=B):SOwns w' base e v l :=
 h.of_heap fun k hk=>hb.block k (by have:=(h.lt k hk).2;omega)
theorem SOwns.grown {w w':World}{base:Nat}{e:TypeId}{v:Value}{l:List Sl}{row:Option Nat}(h:SOwns w base e v l)(hg:w.grownBy w' row)(hn:∀ k,v.ownBlock=some k->row≠some k):SOwns w' base e v l :=
 h.of_heap fun k hk=>hg.block k (h.lt k hk).2 (fun e=>hn k hk e.symm)
theorem SOwns.setCell_other {w:World}{base:Nat}{e:TypeId}{v:Value}{l:List Sl}(h:SOwns w base e v l){b j:Nat}(hp:v.ownBlock≠some b)(x:Value):SOwns (w.setCell ⟨b,j,none⟩ x) base e v l :=
 h.of_heap fun k hk=>heap_setCell_other w ⟨b,j,none⟩ k x (fun e=>by simp at e;subst e;exact hp hk)
theorem SOwns.setCell_low {w:World}{base:Nat}{e:TypeId}{v:Value}{l:List Sl}(h:SOwns w base e v l){b j:Nat}(hp:b < base)(x:Value):SOwns (w.setCell ⟨b,j,none⟩ x) base e v l :=
 h.setCell_other (fun e=>by have:=(h.lt b e).1;omega) x
theorem SOwns.at {w:World}{base:Nat}{e:TypeId}{v:Value}{l:List Sl}(h:SOwns w base e v l)(k:Nat)(hk:k < l.length) :
  ∃ g cap,v=.slice (some ⟨g,0,none⟩) l.length cap/\w.cell? ⟨g,k * 2,none⟩=some (.string l[k].1)/\w.cell? ⟨g,k * 2+1,none⟩=some (.int .i64 l[k].2)/\(∀ j,w.frozen? ⟨g,j,none⟩=false)/\base<=g/\g < w.heap.size/\l.length<=cap:=by
 have hlt:=h.lt;rcases h.2 with ⟨h1,h0⟩ | ⟨g,cap,cur,rfl,h2,h3,h4,h5,h6,h7⟩
 ·omega
 ·have h':w.ownsRow base e 2 (.slice (some ⟨g,0,none⟩) l.length cap) l.length (sc l):=h;exact ⟨g,cap,rfl,(h'.cellAt _ (by omega)).trans (zim l k hk),(h'.cellAt _ (by omega)).trans (sc_ino l k hk),h'.frozenAt,h2,(hlt g rfl).2,h4⟩
theorem SOwns.set_name {w:World}{base g cap:Nat}{e:TypeId}{l:List Sl}(h:SOwns w base e (.slice (some ⟨g,0,none⟩) l.length cap) l)(k:Nat)(hk:k < l.length)(t:ByteArray) :
  SOwns (w.setCell ⟨g,k * 2,none⟩ (.string t)) base e (.slice (some ⟨g,0,none⟩) l.length cap) (l.set k (t,l[k].2))/\w.grownBy (w.setCell ⟨g,k * 2,none⟩ (.string t)) (some g):=by
 have:=World.ownsRow.stored h (k * 2) (.string t);refine ⟨?_,this.2⟩;unfold SOwns;rw [List.length_set,← zgf l k t hk];exact this.1
theorem SOwns.set_ino {w:World}{base g cap:Nat}{e:TypeId}{l:List Sl}(h:SOwns w base e (.slice (some ⟨g,0,none⟩) l.length cap) l)(k:Nat)(hk:k < l.length)(z:Int) :
  SOwns (w.setCell ⟨g,k * 2+1,none⟩ (.int .i64 z)) base e (.slice (some ⟨g,0,none⟩) l.length cap) (l.set k (l[k].1,z))/\w.grownBy (w.setCell ⟨g,k * 2+1,none⟩ (.int .i64 z)) (some g):=by
 have:=World.ownsRow.stored h (k * 2+1) (.int .i64 z);refine ⟨?_,this.2⟩;unfold SOwns;rw [List.length_set,← zhh l k z hk];exact this.1
theorem SOwns.set_both {w:World}{base g cap:Nat}{e:TypeId}{l:List Sl}(h:SOwns w base e (.slice (some ⟨g,0,none⟩) l.length cap) l)(k:Nat)(hk:k < l.length)(t:ByteArray)(z:Int) :
  SOwns ((w.setCell ⟨g,k * 2,none⟩ (.string t)).setCell ⟨g,k * 2+1,none⟩ (.int .i64 z)) base e (.slice (some ⟨g,0,none⟩) l.length cap) (l.set k (t,z))/\w.grownBy ((w.setCell ⟨g,k * 2,none⟩ (.string t)).setCell ⟨g,k * 2+1,none⟩ (.int .i64 z)) (some g):=by
 have h1:=h.set_name k hk t;have h2:SOwns (w.setCell ⟨g,k * 2,none⟩ (.string t)) base e (.slice (some ⟨g,0,none⟩) (l.set k (t,l[k].2)).length cap) (l.set k (t,l[k].2)):=by rw [List.length_set];exact h1.1
 have h3:=h2.set_ino k (by simpa using hk) z;simp only [List.length_set,List.getElem_set_self,List.set_set] at h3;exact ⟨h3.1,zad h1.2 h3.2⟩
def RSl (w:World) (v:Value) (xs:List Sl):Prop:=∃ a cap,v=.slice a xs.length cap/\xs.length<=cap/\∀ (j:Nat) (h:j < xs.length),∃ g off,a=some ⟨g,off,none⟩/\g < w.heap.size/\w.cell? ⟨g,off+j * 2,none⟩=some (.string xs[j].1)/\w.cell? ⟨g,off+j * 2+1,none⟩=some (.int .i64 xs[j].2)
theorem RSl.below {w w':World}{B:Nat}{v:Value}{xs:List Sl}(h:RSl w v xs)(hb:Below B w w')(hB:w.heap.size<=B):RSl w' v xs:=by
 obtain ⟨a,cap,rfl,hcap,h⟩:=h;refine ⟨a,cap,rfl,hcap,fun j hj=>?_⟩;obtain ⟨g,off,e,hg,hc,hd⟩:=h j hj;exact ⟨g,off,e,Nat.lt_of_lt_of_le hg hb.size,(hb.cell (p:=⟨g,off+j * 2,none⟩) (Nat.lt_of_lt_of_le hg hB)).trans hc,(hb.cell (p:=⟨g,off+j * 2+1,none⟩) (Nat.lt_of_lt_of_le hg hB)).trans hd⟩
theorem RSl.alloc {w:World}{v:Value}{xs:List Sl}(h:RSl w v xs)(o:Obj):RSl (w.alloc o) v xs:=h.below ((Below.refl _ w).alloc nR o) nR
theorem RSl.drew {w:World}{v:Value}{xs:List Sl}(h:RSl w v xs):RSl w.drew v xs:=h
theorem RSl.form {w:World}{v:Value}{xs:List Sl}(h:RSl w v xs):∃ a c,v=.slice a xs.length c:=by
 obtain ⟨a,c,h,_⟩:=h;exact ⟨a,c,h⟩
theorem SOwns.rsl {w:World}{base:Nat}{e:TypeId}{v:Value}{xs:List Sl}(h:SOwns w base e v xs):RSl w v xs:=by
 rcases h.2 with ⟨rfl,h0⟩ | ⟨g,cap,cur,rfl,_,_,hcap,_⟩
 ·have:xs=[]:=List.length_eq_zero_iff.1 h0;subst this;exact ⟨none,0,rfl,Nat.le_refl _,fun j hj=>absurd hj (Nat.not_lt_zero _)⟩
 ·refine ⟨_,cap,rfl,hcap,fun j hj=>?_⟩;obtain ⟨g',c',e1,k1,k2,_,_,k5,_⟩:=h.at j hj;simp only [Value.slice.injEq,Option.some.injEq,Addr.mk.injEq] at e1;obtain ⟨⟨rfl,-,-⟩,-,rfl⟩:=e1;exact ⟨g,0,rfl,k5,by rw [Nat.zero_add];exact k1,by rw [Nat.zero_add];exact k2⟩
end Kit
namespace Kit
def AtC (w:World) (b:Nat) (T:TypeId) (cs:Array Value):Prop:=w.heap[b]?=some (.cells cs T (0,0))
theorem AtC.lt {w:World}{b:Nat}{T:TypeId}{cs:Array Value}(h:AtC w b T cs):b < w.heap.size:=(Array.getElem?_eq_some_iff.1 h).1
theorem AtC.new (w:World)(T:TypeId)(cs:Array Value):AtC (w.alloc (.cells cs T)) w.heap.size T cs:=zbh w _
theorem AtC.alloc {w:World}{b:Nat}{T:TypeId}{cs:Array Value}(h:AtC w b T cs)(o:Obj):AtC (w.alloc o) b T cs:=(Below.heap_alloc _ _ _ h.lt).trans h
theorem AtC.drew {w:World}{b:Nat}{T:TypeId}{cs:Array Value}(h:AtC w b T cs):AtC w.drew b T cs:=h
theorem AtC.below {w w':World}{b B:Nat}{T:TypeId}{cs:Array Value}(h:AtC w b T cs)(hb:Below B w w')(hB:b < B):AtC w' b T cs:=(hb.block b hB).trans h
theorem AtC.over {w w':World}{b:Nat}{T:TypeId}{cs:Array Value}(h:AtC w b T cs)(hb:Below w.heap.size w w'):AtC w' b T cs:=h.below hb h.lt
theorem AtC.grown {w w':World}{b:Nat}{T:TypeId}{cs:Array Value}{row:Option Nat}(h:AtC w b T cs)(hg:w.grownBy w' row)(hr:row≠some b):AtC w' b T cs:=(hg.block b h.lt (fun e=>hr e.symm)).trans h
theorem AtC.set {w:World}{b:Nat}{T:TypeId}{cs:Array Value}(h:AtC w b T cs)(k:Nat)(x:Value):AtC (w.setCell ⟨b,k,none⟩ x) b T (cs.setIfInBounds k x):=heap_setCell_same w b k cs T x h
theorem AtC.other {w:World}{b:Nat}{T:TypeId}{cs:Array Value}(h:AtC w b T cs){g k:Nat}(hn:b≠g)(x:Value):AtC (w.setCell ⟨g,k,none⟩ x) b T cs:=(heap_setCell_other w ⟨g,k,none⟩ b x hn).trans h
theorem AtC.cell {w:World}{b:Nat}{T:TypeId}{cs:Array Value}(h:AtC w b T cs)(k:Nat):w.cell? ⟨b,k,none⟩=cs[k]?:=cell_of_row w b k cs T _ h
theorem AtC.c0 {w:World}{z:Nat}{T:TypeId}{v:Value}{l:List Value}(h:AtC w z T (v::l).toArray):w.cell? ⟨z,0,none⟩=some v:=h.cell 0
theorem AtC.c1 {w:World}{z:Nat}{T:TypeId}{a v:Value}{l:List Value}(h:AtC w z T (a::v::l).toArray):w.cell? ⟨z,1,none⟩=some v:=h.cell 1
theorem AtC.c2 {w:World}{z:Nat}{T:TypeId}{a b v:Value}{l:List Value}(h:AtC w z T (a::b::v::l).toArray):w.cell? ⟨z,2,none⟩=some v:=h.cell 2
theorem AtC.c3 {w:World}{z:Nat}{T:TypeId}{a b c v:Value}{l:List Value}(h:AtC w z T (a::b::c::v::l).toArray):w.cell? ⟨z,3,none⟩=some v:=h.cell 3
theorem AtC.c4 {w:World}{z:Nat}{T:TypeId}{a b c d v:Value}{l:List Value}(h:AtC w z T (a::b::c::d::v::l).toArray):w.cell? ⟨z,4,none⟩=some v:=h.cell 4
theorem AtC.c5 {w:World}{z:Nat}{T:TypeId}{a b c d e v:Value}{l:List Value}(h:AtC w z T (a::b::c::d::e::v::l).toArray):w.cell? ⟨z,5,none⟩=some v:=h.cell 5
theorem AtC.c6 {w:World}{z:Nat}{T:TypeId}{a b c d e f v:Value}{l:List Value}(h:AtC w z T (a::b::c::d::e::f::v::l).toArray):w.cell? ⟨z,6,none⟩=some v:=h.cell 6
theorem AtC.c7 {w:World}{z:Nat}{T:TypeId}{a b c d e f g v:Value}{l:List Value}(h:AtC w z T (a::b::c::d::e::f::g::v::l).toArray):w.cell? ⟨z,7,none⟩=some v:=h.cell 7
theorem AtC.c8 {w:World}{z:Nat}{T:TypeId}{a b c d e f g h v:Value}{l:List Value}(h:AtC w z T (a::b::c::d::e::f::g::h::v::l).toArray):w.cell? ⟨z,8,none⟩=some v:=h.cell 8
theorem AtC.c9 {w:World}{z:Nat}{T:TypeId}{a b c d e f g h i v:Value}{l:List Value}(h:AtC w z T (a::b::c::d::e::f::g::h::i::v::l).toArray):w.cell? ⟨z,9,none⟩=some v:=h.cell 9
theorem AtC.c10 {w:World}{z:Nat}{T:TypeId}{a b c d e f g h i j v:Value}{l:List Value}(h:AtC w z T (a::b::c::d::e::f::g::h::i::j::v::l).toArray):w.cell? ⟨z,10,none⟩=some v:=h.cell 10
theorem AtC.four {w:World}{b:Nat}{T:TypeId}{p q r s:Value}{l:List Value}(h:AtC w b T (p::q::r::s::l).toArray):w.cell? ⟨b,0,none⟩=some p/\w.cell? ⟨b,1,none⟩=some q/\w.cell? ⟨b,2,none⟩=some r/\w.cell? ⟨b,3,none⟩=some s:=⟨h.cell 0,h.cell 1,h.cell 2,h.cell 3⟩
theorem AtC.sev {w:World}{z:Nat}{T:TypeId}{a b c d e f g:Value}{l:List Value}(y:AtC w z T (a::b::c::d::e::f::g::l).toArray):w.cell? ⟨z,0,none⟩=some a/\w.cell? ⟨z,1,none⟩=some b/\w.cell? ⟨z,2,none⟩=some c/\w.cell? ⟨z,3,none⟩=some d/\w.cell? ⟨z,4,none⟩=some e/\w.cell? ⟨z,5,none⟩=some f/\w.cell? ⟨z,6,none⟩=some g:=⟨y.cell 0,y.cell 1,y.cell 2,y.cell 3,y.cell 4,y.cell 5,y.cell 6⟩
theorem AtC.eig {w:World}{z:Nat}{T:TypeId}{a b c d e f g h:Value}{l:List Value}(y:AtC w z T (a::b::c::d::e::f::g::h::l).toArray):w.cell? ⟨z,0,none⟩=some a/\w.cell? ⟨z,1,none⟩=some b/\w.cell? ⟨z,2,none⟩=some c/\w.cell? ⟨z,3,none⟩=some d/\w.cell? ⟨z,4,none⟩=some e/\w.cell? ⟨z,5,none⟩=some f/\w.cell? ⟨z,6,none⟩=some g/\w.cell? ⟨z,7,none⟩=some h:=⟨y.cell 0,y.cell 1,y.cell 2,y.cell 3,y.cell 4,y.cell 5,y.cell 6,y.cell 7⟩
theorem AtC.elv {w:World}{z:Nat}{T:TypeId}{a b c d e f g h i j k:Value}{l:List Value}(y:AtC w z T (a::b::c::d::e::f::g::h::i::j::k::l).toArray):w.cell? ⟨z,0,none⟩=some a/\w.cell? ⟨z,1,none⟩=some b/\w.cell? ⟨z,2,none⟩=some c/\w.cell? ⟨z,3,none⟩=some d/\w.cell? ⟨z,4,none⟩=some e/\w.cell? ⟨z,5,none⟩=some f/\w.cell? ⟨z,6,none⟩=some g/\w.cell? ⟨z,7,none⟩=some h/\w.cell? ⟨z,8,none⟩=some i/\w.cell? ⟨z,9,none⟩=some j/\w.cell? ⟨z,10,none⟩=some k:=⟨y.cell 0,y.cell 1,y.cell 2,y.cell 3,y.cell 4,y.cell 5,y.cell 6,y.cell 7,y.cell 8,y.cell 9,y.cell 10⟩
theorem AtC.frozen {w:World}{b:Nat}{T:TypeId}{cs:Array Value}(h:AtC w b T cs)(k:Nat):w.frozen? ⟨b,k,none⟩=false:=frozen_of_row w b k cs T h
theorem AtC.two {w:World}{b:Nat}{T:TypeId}{x y:Value}(h:AtC w b T #[x,y]):w.cell? ⟨b,0,none⟩=some x/\w.cell? ⟨b,1,none⟩=some y/\b < w.heap.size:=⟨h.cell 0,h.cell 1,h.lt⟩
theorem AtC.three {w:World}{b:Nat}{T:TypeId}{x y z:Value}(h:AtC w b T #[x,y,z]):w.cell? ⟨b,0,none⟩=some x/\w.cell? ⟨b,1,none⟩=some y/\w.cell? ⟨b,2,none⟩=some z/\b < w.heap.size:=⟨h.cell 0,h.cell 1,h.cell 2,h.lt⟩
end Kit
namespace Kit
def ic (l:List Int):List Value:=l.map fun z=>Value.int .i64 z
theorem zaf (l:List Int):(ic l).length=l.length:=by simp [ic]
def RInts (w:World) (v:Value) (xs:List Int):Prop:=∃ a cap,v=.slice a xs.length cap/\∀ (j:Nat) (h:j < xs.length),∃ g off,a=some ⟨g,off,none⟩/\g < w.heap.size/\w.cell? ⟨g,off+j,none⟩=some (.int .i64 xs[j])
theorem RInts.below {w w':World}{B:Nat}{v:Value}{xs:List Int}(h:RInts w v xs)(hb:Below B w w')(hB:w.heap.size<=B):RInts w' v xs:=by
 exact cQ42
theorem ROwns.rints {w:World}{base:Nat}{e:TypeId}{v:Value}{xs:List Int}(h:ROwns w base e v (ic xs)):RInts w v xs:=by
 obtain ⟨a,cap,rfl,_⟩:=h.form;refine ⟨a,cap,by rw [zaf],fun j hj=>?_⟩;obtain ⟨g,c,e1,k1,_,_,k4,_⟩:=h.at j (by rw [zaf];exact hj);simp only [Value.slice.injEq] at e1;refine ⟨g,0,e1.1,k4,?_⟩;rw [Nat.zero_add,k1];simp [ic,hj]
end Kit
namespace Kit
theorem ROwns.form2 {w:World}{base:Nat}{e:TypeId}{v:Value}{p q:Int}(h:ROwns w base e v (ic [p,q])):∃ a c,v=.slice a 2 c:=by
 obtain ⟨a,c,h1,_⟩:=h.form;exact ⟨a,c,h1⟩
theorem zfd (w:World)(o o2:Obj):((w.alloc o).alloc o2).heap[w.heap.size]?=some o:=(Below.heap_alloc _ _ _ (by simp)).trans (zbh w o)
end Kit
theorem Tryz.u35:Tryz.prog.underlying 35=some (.slice 3):=by kernel_rfl
theorem Tryz.i3:(Tryz.prog.info? 3).map (fun i=>(i.zero,i.size,i.bytes))=some (some (.int .i64 0),1,8):=by kernel_rfl
theorem make22 (w:World):(Instr.makeSlice 35 (.int .i64 2) (.int .i64 2)).run Tryz.prog w=.ok (.slice (some ⟨w.heap.size,0,none⟩) 2 2) (w.alloc (.cells #[.int .i64 0,.int .i64 0] 3)):=by
 obtain ⟨i0,hi,hz0,hz1,hz2⟩:=info_parts Tryz.i3;rw [run_make w 35 3 i0 (.int .i64 0) Tryz.u35 hi hz0 .i64 .i64 2 2 (by decide) (by decide) (by rw [hz2];decide) (by decide),hz1];have e1:∀ (z:Value) n (l:List Value),List.replicate n z=l->madeCells #[z] n=l.toArray:=fun z n l h=>Array.toList_inj.1 (by rw [toList_madeCells_one,h]);rw [show Value.cells _=#[_] from rfl,e1 _ _ _ rfl];rfl
theorem make02 (w:World):(Instr.makeSlice 35 (.int .i64 0) (.int .i64 2)).run Tryz.prog w=.ok (.slice (some ⟨w.heap.size,0,none⟩) 0 2) (w.alloc (.cells #[.int .i64 0,.int .i64 0] 3)):=by
 obtain ⟨i0,hi,hz0,hz1,hz2⟩:=info_parts Tryz.i3;rw [run_make w 35 3 i0 (.int .i64 0) Tryz.u35 hi hz0 .i64 .i64 0 2 (by decide) (by decide) (by rw [hz2];decide) (by decide),hz1];have e1:∀ (z:Value) n (l:List Value),List.replicate n z=l->madeCells #[z] n=l.toArray:=fun z n l h=>Array.toList_inj.1 (by rw [toList_madeCells_one,h]);rw [show Value.cells _=#[_] from rfl,e1 _ _ _ rfl];rfl
def zak (k:Int):Int:=if k=0 then 0 else 1
namespace Kit
theorem RInts.alloc {w:World}{v:Value}{xs:List Int}(h:RInts w v xs)(o:Obj):RInts (w.alloc o) v xs:=h.below ((Below.refl _ w).alloc nR o) nR
theorem RInts.form {w:World}{v:Value}{xs:List Int}(h:RInts w v xs):∃ a c,v=.slice a xs.length c:=by
 obtain ⟨a,c,h,_⟩:=h;exact ⟨a,c,h⟩
def AtI (w:World) (b:Nat) (k l:Int) (v:Value):Prop:=w.heap[b]?=some (.cells #[.int .i64 k,.int .i64 l,v] 37 (0,0))
theorem AtI.lt {w:World}{b:Nat}{k l:Int}{v:Value}(h:AtI w b k l v):b < w.heap.size:=(Array.getElem?_eq_some_iff.1 h).1
theorem AtI.new (w:World)(k l:Int)(v:Value):AtI (w.alloc (.cells #[.int .i64 k,.int .i64 l,v] 37)) w.heap.size k l v:=zbh w _
theorem AtI.alloc {w:World}{b:Nat}{k l:Int}{v:Value}(h:AtI w b k l v)(o:Obj):AtI (w.alloc o) b k l v:=(Below.heap_alloc _ _ _ h.lt).trans h
theorem AtI.below {w w':World}{b B:Nat}{k l:Int}{v:Value}(h:AtI w b k l v)(hb:Below B w w')(hB:b < B):AtI w' b k l v:=(hb.block b hB).trans h
theorem AtI.grown {w w':World}{b:Nat}{k l:Int}{v:Value}{row:Option Nat}(h:AtI w b k l v)(hg:w.grownBy w' row)(hr:row≠some b):AtI w' b k l v:=(hg.block b h.lt (fun e=>hr e.symm)).trans h
theorem AtI.cells {w:World}{b:Nat}{k l:Int}{v:Value}(h:AtI w b k l v) :
  w.cell? ⟨b,0,none⟩=some (.int .i64 k)/\w.cell? ⟨b,1,none⟩=some (.int .i64 l)/\w.cell? ⟨b,2,none⟩=some v/\b < w.heap.size:=by
 have h':w.heap[b]?=some (.cells #[.int .i64 k,.int .i64 l,v] 37 (0,0)):=h;exact ⟨by simp [World.cell?,h'],by simp [World.cell?,h'],by simp [World.cell?,h'],h.lt⟩
end Kit
namespace Kit
def fc (l:List Bool):List Value:=l.map fun z=>Value.bool z
theorem zae (l:List Bool):(fc l).length=l.length:=by simp [fc]
def RFl (w:World) (v:Value) (xs:List Bool):Prop:=∃ a cap,v=.slice a xs.length cap/\∀ (j:Nat) (h:j < xs.length),∃ g off,a=some ⟨g,off,none⟩/\g < w.heap.size/\w.cell? ⟨g,off+j,none⟩=some (.bool xs[j])
theorem RFl.below {w w':World}{B:Nat}{v:Value}{xs:List Bool}(h:RFl w v xs)(hb:Below B w w')(hB:w.heap.size<=B):RFl w' v xs:=by
 exact cQ42
theorem ROwns.rfl {w:World}{base:Nat}{e:TypeId}{v:Value}{xs:List Bool}(h:ROwns w base e v (fc xs)):RFl w v xs:=by
 obtain ⟨a,cap,rfl,_⟩:=h.form;refine ⟨a,cap,by rw [zae],fun j hj=>?_⟩;obtain ⟨g,c,e1,k1,_,_,k4,_⟩:=h.at j (by rw [zae];exact hj);simp only [Value.slice.injEq] at e1;refine ⟨g,0,e1.1,k4,?_⟩;rw [Nat.zero_add,k1];simp [fc,hj]
theorem RFl.alloc {w:World}{v:Value}{xs:List Bool}(h:RFl w v xs)(o:Obj):RFl (w.alloc o) v xs:=h.below ((Below.refl _ w).alloc nR o) nR
theorem RFl.drew {w:World}{v:Value}{xs:List Bool}(h:RFl w v xs):RFl w.drew v xs:=h.below (Below.refl w.heap.size w).drew nR
theorem RFl.form {w:World}{v:Value}{xs:List Bool}(h:RFl w v xs):∃ a c,v=.slice a xs.length c:=by
 obtain ⟨a,c,h,_⟩:=h;exact ⟨a,c,h⟩
end Kit
namespace Kit
end Kit
theorem Tryz.u24:Tryz.prog.underlying 24=some (.slice 4):=by kernel_rfl
theorem Tryz.i4:(Tryz.prog.info? 4).map (fun i=>(i.zero,i.size,i.bytes))=some (some (.bool false),1,1):=by kernel_rfl
theorem zgg (n:Nat)(h:n<=8388608)(w:World):(Instr.makeSlice 24 (.int .i64 (n:Int)) (.int .i64 (n:Int))).run Tryz.prog w=.ok (.slice (some ⟨w.heap.size,0,none⟩) n n) (w.alloc (.cells (madeCells #[.bool false] n) 4)) :=
 run_make_row' 24 4 (.bool false) 1 Tryz.u24 Tryz.i4 rfl .i64 .i64 n (by omega) (by omega) w
namespace Kit
def AtP (T:TypeId) (w:World) (b:Nat) (u v:Value):Prop:=w.heap[b]?=some (.cells #[u,v] T (0,0))
theorem AtP.lt {T:TypeId}{w:World}{b:Nat}{u v:Value}(h:AtP T w b u v):b < w.heap.size:=(Array.getElem?_eq_some_iff.1 h).1
theorem AtP.new (T:TypeId)(w:World)(u v:Value):AtP T (w.alloc (.cells #[u,v] T)) w.heap.size u v:=zbh w _
theorem AtP.alloc {T:TypeId}{w:World}{b:Nat}{u v:Value}(h:AtP T w b u v)(o:Obj):AtP T (w.alloc o) b u v:=(Below.heap_alloc _ _ _ h.lt).trans h
theorem AtP.below {T:TypeId}{w w':World}{b B:Nat}{u v:Value}(h:AtP T w b u v)(hb:Below B w w')(hB:b < B):AtP T w' b u v:=(hb.block b hB).trans h
theorem AtP.grown {T:TypeId}{w w':World}{b:Nat}{u v:Value}{row:Option Nat}(h:AtP T w b u v)(hg:w.grownBy w' row)(hr:row≠some b):AtP T w' b u v:=(hg.block b h.lt (fun e=>hr e.symm)).trans h
theorem AtP.cells {T:TypeId}{w:World}{b:Nat}{u v:Value}(h:AtP T w b u v):w.cell? ⟨b,0,none⟩=some u/\w.cell? ⟨b,1,none⟩=some v:=by
 have h':w.heap[b]?=some (.cells #[u,v] T (0,0)):=h;exact ⟨by simp [World.cell?,h'],by simp [World.cell?,h']⟩
theorem AtP.frozen {T:TypeId}{w:World}{b:Nat}{u v:Value}(h:AtP T w b u v):w.frozen? ⟨b,0,none⟩=false/\w.frozen? ⟨b,1,none⟩=false:=by
 have h':w.heap[b]?=some (.cells #[u,v] T (0,0)):=h;exact ⟨by simp [World.frozen?,h'],by simp [World.frozen?,h']⟩
theorem AtP.set_other {T:TypeId}{w:World}{b:Nat}{u v:Value}(h:AtP T w b u v){B j:Nat}(hne:b≠B)(x:Value):AtP T (w.setCell ⟨B,j,none⟩ x) b u v:=(heap_setCell_other w ⟨B,j,none⟩ b x hne).trans h
theorem AtP.set0 {T:TypeId}{w:World}{b:Nat}{u v:Value}(h:AtP T w b u v)(x:Value):AtP T (w.setCell ⟨b,0,none⟩ x) b x v:=heap_setCell_same w b 0 _ T x h
theorem AtP.set1 {T:TypeId}{w:World}{b:Nat}{u v:Value}(h:AtP T w b u v)(x:Value):AtP T (w.setCell ⟨b,1,none⟩ x) b u x:=heap_setCell_same w b 1 _ T x h
theorem AtP.drew {T:TypeId}{w:World}{b:Nat}{u v:Value}(h:AtP T w b u v):AtP T w.drew b u v:=h
structure Two (w:World) (base:Nat) (u v:Value) (xs ys:List Bool):Prop where
 a:ROwns w base 4 u (fc xs)
 b:ROwns w base 4 v (fc ys)
 ne:∀ k,u.ownBlock=some k->v.ownBlock≠some k
namespace Two
variable {w w' : World} {base : Nat} {u v : Value} {xs ys : List Bool}
theorem alloc (h:Two w base u v xs ys)(o:Obj):Two (w.alloc o) base u v xs ys:=⟨h.a.alloc o,h.b.alloc o,h.ne⟩
theorem drew (h:Two w base u v xs ys):Two w.drew base u v xs ys:=⟨h.a.drew,h.b.drew,h.ne⟩
theorem below {B:Nat}(h:Two w base u v xs ys)(hb:Below B w w')(hB:w.heap.size<=B):Two w' base u v xs ys:=⟨h.a.below hb hB,h.b.below hb hB,h.ne⟩
theorem base_le {base':Nat}(h:Two w base u v xs ys)(hb:base'<=base):Two w base' u v xs ys:=⟨h.a.base_le hb,h.b.base_le hb,h.ne⟩
theorem set_other (h:Two w base u v xs ys){b j:Nat}(hp:b < base)(x:Value):Two (w.setCell ⟨b,j,none⟩ x) base u v xs ys:=⟨h.a.setCell_other hp x,h.b.setCell_other hp x,h.ne⟩
theorem form (h:Two w base u v xs ys):∃ a1 c1 a2 c2,u=.slice a1 xs.length c1/\v=.slice a2 ys.length c2:=by
 obtain ⟨a1,c1,e1⟩:=h.a.rfl.form;obtain ⟨a2,c2,e2⟩:=h.b.rfl.form;exact ⟨a1,c1,a2,c2,e1,e2⟩
theorem nil (w:World)(base:Nat):Two w base (.slice none 0 0) (.slice none 0 0) [] []:=⟨ROwns.nil _ _ _,ROwns.nil _ _ _,fun k h=>by cases h⟩
end Two
structure G2 (w w':World) (r1 r2:Option Nat):Prop where
 os:w'.os=w.os
 tape:w'.tape=w.tape
 output:w'.output=w.output
 size:w.heap.size<=w'.heap.size
 block:∀ k,k < w.heap.size->r1≠some k->r2≠some k->w'.heap[k]?=w.heap[k]?
theorem AtP.g2 {T:TypeId}{w w':World}{b:Nat}{u v:Value}{r1 r2:Option Nat}(h:AtP T w b u v)(hg:G2 w w' r1 r2)(h1:r1≠some b)(h2:r2≠some b):AtP T w' b u v:=(hg.block b h.lt h1 h2).trans h
theorem Two.g2 {w w':World}{base:Nat}{u v:Value}{xs ys:List Bool}{r1 r2:Option Nat}(h:Two w base u v xs ys)(hg:G2 w w' r1 r2)(h1:∀ k,(u.ownBlock=some k\/v.ownBlock=some k)->r1≠some k/\r2≠some k):Two w' base u v xs ys :=
 ⟨h.a.of_heap fun k hk=>hg.block k (h.a.lt k hk).2 (h1 k (.inl hk)).1 (h1 k (.inl hk)).2,h.b.of_heap fun k hk=>hg.block k (h.b.lt k hk).2 (h1 k (.inr hk)).1 (h1 k (.inr hk)).2,h.ne⟩
end Kit
namespace Kit
abbrev V3:=Value×Value×Value
def f3:List V3->List Value
 | []=>[]
 | t :: r=>t.1 :: t.2.1 :: t.2.2 :: f3 r
theorem zb0 (ts:List V3):(f3 ts).length=ts.length * 3:=by
 induction ts with
 | nil=>rfl
 | cons s r ih=>simp [f3,ih];omega
theorem zin (a b:List V3):f3 (a ++ b)=f3 a ++ f3 b:=by
 induction a with
 | nil=>rfl
 | cons s r ih=>simp [f3,ih]
theorem f3_at (ts:List V3)(j:Nat)(h:j < ts.length):(f3 ts)[j * 3]?=some ts[j].1/\(f3 ts)[j * 3+1]?=some ts[j].2.1/\(f3 ts)[j * 3+2]?=some ts[j].2.2:=by
 induction ts generalizing j with
 | nil=>simp at h
 | cons s r ih =>
  cases j with
  | zero=>exact ⟨rfl,rfl,rfl⟩
  | succ j =>
   rw [show (j+1) * 3=j * 3+1+1+1 by omega,show j * 3+1+1+1+1=j * 3+1+1+1+1 from rfl,show j * 3+1+1+1+2=j * 3+2+1+1+1 by omega];simp only [f3,List.getElem?_cons_succ,List.getElem_cons_succ];exact ih j (by simpa using h)
theorem f3_set0 (ts:List V3)(j:Nat)(x:Value)(h:j < ts.length):(f3 ts).set (j * 3) x=f3 (ts.set j (x,ts[j].2.1,ts[j].2.2)):=by
 induction ts generalizing j with
 | nil=>simp at h
 | cons s r ih =>
  cases j with
  | zero=>rfl
  | succ j =>
   rw [show (j+1) * 3=j * 3+1+1+1 by omega];simp only [f3,List.set_cons_succ,List.getElem_cons_succ];rw [ih j (by simpa using h)]
theorem f3_set1 (ts:List V3)(j:Nat)(x:Value)(h:j < ts.length):(f3 ts).set (j * 3+1) x=f3 (ts.set j (ts[j].1,x,ts[j].2.2)):=by
 induction ts generalizing j with
 | nil=>simp at h
 | cons s r ih =>
  cases j with
  | zero=>rfl
  | succ j =>
   rw [show (j+1) * 3+1=j * 3+1+1+1+1 by omega];simp only [f3,List.set_cons_succ,List.getElem_cons_succ];rw [ih j (by simpa using h)]
theorem f3_set2 (ts:List V3)(j:Nat)(x:Value)(h:j < ts.length):(f3 ts).set (j * 3+2) x=f3 (ts.set j (ts[j].1,ts[j].2.1,x)):=by
 induction ts generalizing j with
 | nil=>simp at h
 | cons s r ih =>
  cases j with
  | zero=>rfl
  | succ j =>
   rw [show (j+1) * 3+2=j * 3+2+1+1+1 by omega];simp only [f3,List.set_cons_succ,List.getElem_cons_succ];rw [ih j (by simpa using h)]
def TOwns (w:World) (e:TypeId) (v:Value) (ts:List V3):Prop:=w.ownsRow 0 e 3 v ts.length (f3 ts)
theorem TOwns.lt {w:World}{e:TypeId}{v:Value}{l:List V3}(h:TOwns w e v l):∀ k,v.ownBlock=some k->k < w.heap.size:=fun k hk=>(World.ownsRow.lt h k hk).2
theorem TOwns.of_heap {w w':World}{e:TypeId}{v:Value}{l:List V3}(h:TOwns w e v l)(hh:∀ k,v.ownBlock=some k->w'.heap[k]?=w.heap[k]?):TOwns w' e v l:=by
 exact cQ52
theorem TOwns.nil (w:World)(e:TypeId):TOwns w e (.slice none 0 0) []:=World.ownsRow_nil _ _ _ _
theorem TOwns.lit (w:World)(e:TypeId)(cs:Array Value)(ts:List V3)(hc:cs.toList=f3 ts)(hm:ts.length<=maxLen):TOwns (w.alloc (.cells cs e)) e (.slice (some ⟨w.heap.size,0,none⟩) ts.length ts.length) ts:=by
 have h1:cs.size=ts.length * 3:=by rw [← Array.length_toList,hc,zb0]
 have:=World.ownsRow_lit (base:=0) (e:=e) (size:=3) w cs ts.length (Nat.zero_le _) hm h1;unfold TOwns
 rwa [hc] at this
theorem TOwns.form {w:World}{e:TypeId}{v:Value}{l:List V3}(h:TOwns w e v l):∃ a cap,v=.slice a l.length cap/\l.length<=cap/\(a=none->l=[]):=by
 rcases h.2 with ⟨rfl,h0⟩ | ⟨g,cap,cur,rfl,_,_,hc,_⟩
 ·exact cQ141
 ·exact ⟨_,_,rfl,hc,fun h=>by cases h⟩
theorem TOwns.at {w:World}{e:TypeId}{v:Value}{l:List V3}(h:TOwns w e v l)(k:Nat)(hk:k < l.length) :
  ∃ g cap,v=.slice (some ⟨g,0,none⟩) l.length cap/\w.cell? ⟨g,k * 3,none⟩=some l[k].1/\w.cell? ⟨g,k * 3+1,none⟩=some l[k].2.1/\w.cell? ⟨g,k * 3+2,none⟩=some l[k].2.2/\(∀ j,w.frozen? ⟨g,j,none⟩=false)/\g < w.heap.size/\l.length<=cap:=by
 have hlt:=h.lt;rcases h.2 with ⟨h1,h0⟩ | ⟨g,cap,cur,rfl,h2,h3,h4,h5,h6,h7⟩
 ·omega
 ·have h':w.ownsRow 0 e 3 (.slice (some ⟨g,0,none⟩) l.length cap) l.length (f3 l):=h;exact ⟨g,cap,rfl,(h'.cellAt _ (by omega)).trans (f3_at l k hk).1,(h'.cellAt _ (by omega)).trans (f3_at l k hk).2.1,(h'.cellAt _ (by omega)).trans (f3_at l k hk).2.2,h'.frozenAt,hlt g rfl,h4⟩
theorem TOwns.set0 {w:World}{g cap:Nat}{e:TypeId}{l:List V3}(h:TOwns w e (.slice (some ⟨g,0,none⟩) l.length cap) l)(k:Nat)(hk:k < l.length)(x:Value) :
  TOwns (w.setCell ⟨g,k * 3,none⟩ x) e (.slice (some ⟨g,0,none⟩) l.length cap) (l.set k (x,l[k].2.1,l[k].2.2)):=by
 unfold TOwns;rw [List.length_set,← f3_set0 l k x hk];exact (World.ownsRow.stored h (k * 3) x).1
theorem TOwns.set1 {w:World}{g cap:Nat}{e:TypeId}{l:List V3}(h:TOwns w e (.slice (some ⟨g,0,none⟩) l.length cap) l)(k:Nat)(hk:k < l.length)(x:Value) :
  TOwns (w.setCell ⟨g,k * 3+1,none⟩ x) e (.slice (some ⟨g,0,none⟩) l.length cap) (l.set k (l[k].1,x,l[k].2.2)):=by
 unfold TOwns;rw [List.length_set,← f3_set1 l k x hk];exact (World.ownsRow.stored h (k * 3+1) x).1
theorem TOwns.set2 {w:World}{g cap:Nat}{e:TypeId}{l:List V3}(h:TOwns w e (.slice (some ⟨g,0,none⟩) l.length cap) l)(k:Nat)(hk:k < l.length)(x:Value) :
  TOwns (w.setCell ⟨g,k * 3+2,none⟩ x) e (.slice (some ⟨g,0,none⟩) l.length cap) (l.set k (l[k].1,l[k].2.1,x)):=by
 unfold TOwns;rw [List.length_set,← f3_set2 l k x hk];exact (World.ownsRow.stored h (k * 3+2) x).1
theorem TOwns.set {w:World}{g cap:Nat}{e:TypeId}{l:List V3}(h:TOwns w e (.slice (some ⟨g,0,none⟩) l.length cap) l)(k:Nat)(hk:k < l.length)(x y z:Value) :
  TOwns (((w.setCell ⟨g,k * 3,none⟩ x).setCell ⟨g,k * 3+1,none⟩ y).setCell ⟨g,k * 3+2,none⟩ z) e (.slice (some ⟨g,0,none⟩) l.length cap) (l.set k (x,y,z)):=by
 have h1:=h.set0 k hk x;have h2:TOwns (w.setCell ⟨g,k * 3,none⟩ x) e (.slice (some ⟨g,0,none⟩) (l.set k (x,l[k].2.1,l[k].2.2)).length cap) (l.set k (x,l[k].2.1,l[k].2.2)):=by rw [List.length_set];exact h1
 have h3:=h2.set1 k (by simpa using hk) y;simp only [List.length_set,List.getElem_set_self,List.set_set] at h3;have h4:TOwns ((w.setCell ⟨g,k * 3,none⟩ x).setCell ⟨g,k * 3+1,none⟩ y) e (.slice (some ⟨g,0,none⟩) (l.set k (x,y,l[k].2.2)).length cap) (l.set k (x,y,l[k].2.2)):=by rw [List.length_set];exact h3
 have h5:=h4.set2 k (by simpa using hk) z;simp only [List.length_set,List.getElem_set_self,List.set_set] at h5;exact h5
structure Chg (S:Nat->Prop) (w w':World):Prop where
 os:w'.os=w.os
 tape:w'.tape=w.tape
 output:w'.output=w.output
 size:w.heap.size<=w'.heap.size
 block:∀ k,k < w.heap.size->¬ S k->w'.heap[k]?=w.heap[k]?
theorem Chg.refl (S:Nat->Prop)(w:World):Chg S w w:=⟨rfl,rfl,rfl,Nat.le_refl _,fun _ _ _=>rfl⟩
theorem Chg.trans {S:Nat->Prop}{a b c:World}(h:Chg S a b)(k:Chg S b c):Chg S a c :=
 ⟨k.os.trans h.os,k.tape.trans h.tape,k.output.trans h.output,Nat.le_trans h.size k.size,fun i hi hr=>(k.block i (by have:=h.size;omega) hr).trans (h.block i hi hr)⟩
theorem Chg.mono {S S':Nat->Prop}{a b:World}(h:Chg S a b)(hs:∀ k,S k->S' k):Chg S' a b:=⟨h.os,h.tape,h.output,h.size,fun k hk hn=>h.block k hk fun e=>hn (hs k e)⟩
theorem Chg.of_below {S:Nat->Prop}{a b:World}(h:Below a.heap.size a b):Chg S a b:=⟨h.os,h.tape,h.output,h.size,fun k hk _=>h.block k hk⟩
theorem Chg.of_grown {S:Nat->Prop}{a b:World}{row:Option Nat}(h:a.grownBy b row)(hr:∀ k,row=some k->S k):Chg S a b:=⟨h.os,h.tape,h.output,h.size,fun k hk hn=>h.block k hk fun e=>hn (hr k e.symm)⟩
theorem Chg.below {S:Nat->Prop}{a b:World}{B:Nat}(h:Chg S a b)(hB:B<=a.heap.size)(hs:∀ k,S k->B<=k):Below B a b :=
 ⟨h.os,h.tape,h.output,h.size,fun k hk=>h.block k (by omega) fun e=>by have:=hs k e;omega⟩
theorem Chg.setCell {S:Nat->Prop}{a b:World}(h:Chg S a b){g j:Nat}(hg:S g)(x:Value):Chg S a (b.setCell ⟨g,j,none⟩ x) :=
 h.trans ⟨rfl,rfl,rfl,by simp,fun k _ hn=>heap_setCell_other b ⟨g,j,none⟩ k x (fun e=>hn (by simp at e;subst e;exact hg))⟩
structure Kd (α:Type) where
 T:TypeId
 p:V3->Value
 O:World->V3->α->Prop
 R:World->V3->α->Prop
 heap:∀ {w w':World} {t:V3} {x:α},O w t x->(∀ k,(p t).ownBlock=some k->w'.heap[k]?=w.heap[k]?)->O w' t x
 lt:∀ {w:World} {t:V3} {x:α},O w t x->∀ k,(p t).ownBlock=some k->k < w.heap.size
 rd:∀ {w:World} {t:V3} {x:α},O w t x->R w t x
 bel:∀ {w w':World} {t:V3} {x:α} {B:Nat},R w t x->Below B w w'->w.heap.size<=B->R w' t x
structure GO {α:Type} (K:Kd α) (w:World) (S:Nat->Prop) (v:Value) (ts:List V3) (xs:List α):Prop where
 len:ts.length=xs.length
 row:TOwns w K.T v ts
 inn:∀ (j:Nat) (h:j < ts.length) (h':j < xs.length),K.O w ts[j] xs[j]
 sep:∀ (i j:Nat) (hi:i < ts.length) (hj:j < ts.length),i≠j->∀ k,(K.p ts[i]).ownBlock=some k->(K.p ts[j]).ownBlock≠some k
 out:∀ (j:Nat) (h:j < ts.length) (k:Nat),(K.p ts[j]).ownBlock=some k->v.ownBlock≠some k
 so:∀ k,v.ownBlock=some k->S k
 si:∀ (j:Nat) (h:j < ts.length) (k:Nat),(K.p ts[j]).ownBlock=some k->S k
namespace GO
variable {α : Type} {K : Kd α} {w w' : World} {S S' : Nat -> Prop} {v : Value} {ts : List V3} {xs : List α}
theorem of_heap (h:GO K w S v ts xs)(hh:∀ k,S k->k < w.heap.size->w'.heap[k]?=w.heap[k]?):GO K w' S v ts xs :=
 ⟨h.len,h.row.of_heap fun k hk=>hh k (h.so k hk) (h.row.lt k hk),fun j hj hj'=>K.heap (h.inn j hj hj') fun k hk=>hh k (h.si j hj k hk) (K.lt (h.inn j hj hj') k hk),h.sep,h.out,h.so,h.si⟩
theorem below {B:Nat}(h:GO K w S v ts xs)(hb:Below B w w')(hB:w.heap.size<=B):GO K w' S v ts xs:=h.of_heap fun k _ hk=>hb.block k (by omega)
theorem alloc (h:GO K w S v ts xs)(o:Obj):GO K (w.alloc o) S v ts xs:=h.below ((Below.refl _ w).alloc nR o) nR
theorem drew (h:GO K w S v ts xs):GO K w.drew S v ts xs:=h.below (Below.refl w.heap.size w).drew nR
theorem mono (h:GO K w S v ts xs)(hs:∀ k,S k->S' k):GO K w S' v ts xs:=⟨h.len,h.row,h.inn,h.sep,h.out,fun k e=>hs k (h.so k e),fun j hj k e=>hs k (h.si j hj k e)⟩
theorem form (h:GO K w S v ts xs):∃ a cap,v=.slice a xs.length cap:=by
 obtain ⟨a,c,e,_⟩:=h.row.form;exact ⟨a,c,by rw [e,h.len]⟩
theorem turn (h:GO K w S v ts xs)(j:Nat)(hj:j < ts.length)(t':V3)(x':α)(hr:TOwns w' K.T v (ts.set j t'))(hO:K.O w' t' x')
  (hf:∀ k,k < w.heap.size->v.ownBlock≠some k->(K.p ts[j]).ownBlock≠some k->w'.heap[k]?=w.heap[k]?)
  (hn:∀ k,(K.p t').ownBlock=some k->(K.p ts[j]).ownBlock=some k\/w.heap.size<=k) (hs:∀ k,S k->S' k) (hs2:∀ k,(K.p t').ownBlock=some k->S' k):GO K w' S' v (ts.set j t') (xs.set j x'):=by
 exact cQ12
end GO
def R3 {α:Type} (K:Kd α) (w:World) (v:Value) (xs:List α):Prop:=∃ a cap,v=.slice a xs.length cap/\xs.length<=cap/\∀ (j:Nat) (h:j < xs.length),∃ g off t,a=some ⟨g,off,none⟩/\g < w.heap.size/\w.cell? ⟨g,off+j * 3,none⟩=some t.1/\w.cell? ⟨g,off+j * 3+1,none⟩=some t.2.1/\w.cell? ⟨g,off+j * 3+2,none⟩=some t.2.2/\K.R w t xs[j]
theorem R3.below {α:Type}{K:Kd α}{w w':World}{B:Nat}{v:Value}{xs:List α}(h:R3 K w v xs)(hb:Below B w w')(hB:w.heap.size<=B):R3 K w' v xs:=by
 obtain ⟨a,cap,rfl,hcap,h⟩:=h;refine ⟨a,cap,rfl,hcap,fun j hj=>?_⟩;obtain ⟨g,off,t,e,hg,c0,c1,c2,r⟩:=h j hj;have hg':=Nat.lt_of_lt_of_le hg hB;exact ⟨g,off,t,e,Nat.lt_of_lt_of_le hg hb.size,(hb.cell (p:=⟨g,off+j * 3,none⟩) hg').trans c0,(hb.cell (p:=⟨g,off+j * 3+1,none⟩) hg').trans c1,(hb.cell (p:=⟨g,off+j * 3+2,none⟩) hg').trans c2,K.bel r hb hB⟩
theorem R3.alloc {α:Type}{K:Kd α}{w:World}{v:Value}{xs:List α}(h:R3 K w v xs)(o:Obj):R3 K (w.alloc o) v xs:=h.below ((Below.refl _ w).alloc nR o) nR
theorem R3.drew {α:Type}{K:Kd α}{w:World}{v:Value}{xs:List α}(h:R3 K w v xs):R3 K w.drew v xs:=h.below (Below.refl w.heap.size w).drew nR
theorem R3.form {α:Type}{K:Kd α}{w:World}{v:Value}{xs:List α}(h:R3 K w v xs):∃ a c,v=.slice a xs.length c:=by
 obtain ⟨a,c,h,_⟩:=h;exact ⟨a,c,h⟩
theorem R3.form2 {α:Type}{K:Kd α}{w:World}{v:Value}{xs:List α}(h:R3 K w v xs):∃ a c,v=.slice a xs.length c/\xs.length<=c:=by
 obtain ⟨a,c,h,h2,_⟩:=h;exact ⟨a,c,h,h2⟩
theorem GO.r3 {α:Type}{K:Kd α}{w:World}{S:Nat->Prop}{v:Value}{ts:List V3}{xs:List α}(h:GO K w S v ts xs):R3 K w v xs:=by
 obtain ⟨a,cap,e,hc,hnil⟩:=h.row.form;have hl:=h.len;refine ⟨a,cap,by rw [e,hl],by omega,fun j hj=>?_⟩;obtain ⟨g,c,e1,c0,c1,c2,_,hg,_⟩:=h.row.at j (by omega);rw [e] at e1;simp only [Value.slice.injEq] at e1;obtain ⟨rfl,-,-⟩:=e1;exact ⟨g,0,ts[j]'(by omega),rfl,hg,by rw [Nat.zero_add];exact c0,by rw [Nat.zero_add];exact c1,by rw [Nat.zero_add];exact c2,K.rd (h.inn j (by omega) hj)⟩
abbrev Ino:=Int×Int×List Int
abbrev Blk:=Bool×List Sl×ByteArray
def KI:Kd Ino where
 T:=37
 p:=fun t=>t.2.2
 O:=fun w t x=>t.1=.int .i64 x.1/\t.2.1=.int .i64 x.2.1/\ROwns w 0 3 t.2.2 (ic x.2.2)
 R:=fun w t x=>t.1=.int .i64 x.1/\t.2.1=.int .i64 x.2.1/\RInts w t.2.2 x.2.2
 heap:=fun h hh=>⟨h.1,h.2.1,h.2.2.of_heap hh⟩
 lt:=fun h k hk=>(h.2.2.lt k hk).2
 rd:=fun h=>⟨h.1,h.2.1,h.2.2.rints⟩
 bel:=fun h hb hB=>⟨h.1,h.2.1,h.2.2.below hb hB⟩
def KB:Kd Blk where
 T:=44
 p:=fun t=>t.2.1
 O:=fun w t x=>t.1=.bool x.1/\SOwns w 0 49 t.2.1 x.2.1/\t.2.2=.string x.2.2
 R:=fun w t x=>t.1=.bool x.1/\RSl w t.2.1 x.2.1/\t.2.2=.string x.2.2
 heap:=fun h hh=>⟨h.1,h.2.1.of_heap hh,h.2.2⟩
 lt:=fun h k hk=>(h.2.1.lt k hk).2
 rd:=fun h=>⟨h.1,h.2.1.rsl,h.2.2⟩
 bel:=fun h hb hB=>⟨h.1,h.2.1.below hb hB,h.2.2⟩
end Kit
namespace Kit
abbrev Row:=List Value
def Even (n:Nat) (ts:List Row):Prop:=∀ t∈ts,t.length=n
theorem Even.nil (n:Nat):Even n []:=fun _ h=>by cases h
theorem Even.cons {n:Nat}{t:Row}{ts:List Row}(h:Even n (t :: ts)):t.length=n/\Even n ts:=⟨h t (by simp),fun x hx=>h x (by simp [hx])⟩
theorem Even.mk {n:Nat}{t:Row}{ts:List Row}(h1:t.length=n)(h:Even n ts):Even n (t :: ts):=fun x hx=>(List.mem_cons.1 hx).elim (fun e=>e ▸ h1) (h x)
theorem Even.append {n:Nat}{a b:List Row}(ha:Even n a)(hb:Even n b):Even n (a ++ b):=fun x hx=>(List.mem_append.1 hx).elim (ha x) (hb x)
theorem Even.at {n:Nat}{ts:List Row}(h:Even n ts)(j:Nat)(hj:j < ts.length):ts[j].length=n:=h _ (List.getElem_mem hj)
theorem Even.set {n:Nat}{ts:List Row}(h:Even n ts)(j:Nat){t:Row}(ht:t.length=n):Even n (ts.set j t):=fun x hx=>(List.mem_or_eq_of_mem_set hx).elim (h x) (fun e=>e ▸ ht)
theorem zbk {n:Nat}{ts:List Row}(h:Even n ts):ts.flatten.length=ts.length * n:=by
 induction ts with
 | nil=>simp
 | cons t r ih=>rw [List.flatten_cons,List.length_append,ih h.cons.2,h.cons.1,List.length_cons,Nat.add_mul];omega
theorem flat_at {n:Nat}{ts:List Row}(h:Even n ts)(j i:Nat)(hj:j < ts.length)(hi:i < n):ts.flatten[j * n+i]?=ts[j][i]?:=by
 induction ts generalizing j with
 | nil=>simp at hj
 | cons t r ih =>
  have h1:=h.cons.1
  cases j with
  | zero =>
   rw [Nat.zero_mul,Nat.zero_add,List.flatten_cons,List.getElem?_append_left (by omega)];rfl
  | succ j =>
   rw [List.flatten_cons,List.getElem?_append_right (by rw [Nat.add_mul];omega),show (j+1) * n+i - t.length=j * n+i by rw [Nat.add_mul];omega];exact ih h.cons.2 j (by simpa using hj)
theorem flat_set {n:Nat}{ts:List Row}(h:Even n ts)(j i:Nat)(hj:j < ts.length)(hi:i < n)(x:Value):ts.flatten.set (j * n+i) x=(ts.set j (ts[j].set i x)).flatten:=by
 induction ts generalizing j with
 | nil=>simp at hj
 | cons t r ih =>
  have h1:=h.cons.1
  cases j with
  | zero =>
   rw [Nat.zero_mul,Nat.zero_add,List.flatten_cons,List.set_append_left _ _ (by omega)];rfl
  | succ j =>
   rw [List.flatten_cons,List.set_append_right _ _ (by rw [Nat.add_mul];omega),show (j+1) * n+i - t.length=j * n+i by rw [Nat.add_mul];omega,ih h.cons.2 j (by simpa using hj)];rfl
def setRow (w:World) (g off:Nat):Row->World
 | []=>w
 | x :: r=>setRow (w.setCell ⟨g,off,none⟩ x) g (off+1) r
theorem zda (g:Nat)(t:Row):∀ (w:World) (off k:Nat),k≠g->(setRow w g off t).heap[k]?=w.heap[k]?:=by
 induction t with
 | nil=>exact fun _ _ _ _=>rfl
 | cons x r ih=>exact fun w off k hk=>(ih _ _ k hk).trans (heap_setCell_other w ⟨g,off,none⟩ k x hk)
def NOwns (w:World) (e:TypeId) (n:Nat) (v:Value) (ts:List Row):Prop:=Even n ts/\w.ownsRow 0 e n v ts.length ts.flatten
theorem NOwns.lt {w:World}{e:TypeId}{n:Nat}{v:Value}{l:List Row}(h:NOwns w e n v l):∀ k,v.ownBlock=some k->k < w.heap.size:=fun k hk=>(World.ownsRow.lt h.2 k hk).2
theorem NOwns.of_heap {w w':World}{e:TypeId}{n:Nat}{v:Value}{l:List Row}(h:NOwns w e n v l)(hh:∀ k,v.ownBlock=some k->w'.heap[k]?=w.heap[k]?):NOwns w' e n v l:=by
 refine ⟨h.1,h.2.1,?_⟩;rcases h.2.2 with h1 | ⟨g,cap,cur,h1,h2,h3,h4⟩
 ·exact .inl h1
 ·exact .inr ⟨g,cap,cur,h1,h2,by rw [hh g (by rw [h1];rfl),h3],h4⟩
theorem NOwns.nil (w:World)(e:TypeId)(n:Nat):NOwns w e n (.slice none 0 0) []:=⟨Even.nil _,World.ownsRow_nil _ _ _ _⟩
theorem NOwns.form {w:World}{e:TypeId}{n:Nat}{v:Value}{l:List Row}(h:NOwns w e n v l):∃ a cap,v=.slice a l.length cap/\l.length<=cap/\(a=none->l=[]):=by
 rcases h.2.2 with ⟨rfl,h0⟩ | ⟨g,cap,cur,rfl,_,_,hc,_⟩
 ·exact cQ141
 ·exact ⟨_,_,rfl,hc,fun h=>by cases h⟩
theorem NOwns.at {w:World}{e:TypeId}{n:Nat}{v:Value}{l:List Row}(h:NOwns w e n v l)(k:Nat)(hk:k < l.length) :
  ∃ g cap,v=.slice (some ⟨g,0,none⟩) l.length cap/\(∀ i,i < n->w.cell? ⟨g,k * n+i,none⟩=l[k][i]?)/\(∀ j,w.frozen? ⟨g,j,none⟩=false)/\g < w.heap.size/\l.length<=cap:=by
 have hlt:=h.lt;rcases h.2.2 with ⟨h1,h0⟩ | ⟨g,cap,cur,rfl,h2,h3,h4,h5,h6,h7⟩
 ·omega
 ·have h':w.ownsRow 0 e n (.slice (some ⟨g,0,none⟩) l.length cap) l.length l.flatten:=h.2;refine ⟨g,cap,rfl,fun i hi=>(h'.cellAt _ ?_).trans (flat_at h.1 k i hk hi),h'.frozenAt,hlt g rfl,h4⟩;have:(k+1) * n<=l.length * n:=Nat.mul_le_mul_right n hk;rw [Nat.add_mul] at this;omega
theorem NOwns.set {w:World}{g cap:Nat}{e:TypeId}{n:Nat}{l:List Row}(h:NOwns w e n (.slice (some ⟨g,0,none⟩) l.length cap) l)(k i:Nat)(hk:k < l.length)(hi:i < n)(x:Value) :
  NOwns (w.setCell ⟨g,k * n+i,none⟩ x) e n (.slice (some ⟨g,0,none⟩) l.length cap) (l.set k (l[k].set i x)):=by
 refine ⟨h.1.set k (by rw [List.length_set];exact h.1.at k hk),?_⟩;rw [List.length_set,← flat_set h.1 k i hk hi x];exact (World.ownsRow.stored h.2 (k * n+i) x).1
theorem NOwns.setRow {g cap:Nat}{e:TypeId}{n:Nat}(k:Nat)(t:Row):∀ (w:World) (l:List Row) (hk:k < l.length) (pre:Row),NOwns w e n (.slice (some ⟨g,0,none⟩) l.length cap) l->pre.length+t.length=n->l[k].take pre.length=pre ->
  NOwns (setRow w g (k * n+pre.length) t) e n (.slice (some ⟨g,0,none⟩) l.length cap) (l.set k (pre ++ t)):=by
 induction t with
 | nil =>
  intro w l hk pre h hl hp;have e1:l[k]=pre:=by
   have:=h.1.at k hk;rw [← hp,List.take_of_length_le (by simp at hl;omega)]
  rw [List.append_nil,← e1,List.set_getElem_self];exact h
 | cons x r ih =>
  intro w l hk pre h hl hp;have hlen:=h.1.at k hk;simp only [List.length_cons] at hl;have h1:=h.set k pre.length hk (by omega) x;have hk2:k < (l.set k (l[k].set pre.length x)).length:=by simpa using hk
  have h2:NOwns (w.setCell ⟨g,k * n+pre.length,none⟩ x) e n (.slice (some ⟨g,0,none⟩) (l.set k (l[k].set pre.length x)).length cap) (l.set k (l[k].set pre.length x)):=by rw [List.length_set];exact h1
  have hp2:(l.set k (l[k].set pre.length x))[k].take (pre ++ [x]).length=pre ++ [x]:=by
   rw [List.getElem_set_self,List.length_append,List.length_singleton,List.take_add_one,List.take_set_of_le nR,hp,List.getElem?_set_self (by omega)];rfl
  have h3:=ih _ _ hk2 (pre ++ [x]) h2 (by simp;omega) hp2;rw [List.length_append,List.length_singleton,List.length_set,List.set_set,List.append_assoc] at h3;exact h3
theorem NOwns.of_at {w:World}{e:TypeId}{n g:Nat}{cs:Array Value}{ts:List Row}(h:AtC w g e cs)(hc:cs.toList=ts.flatten)(he:Even n ts)(hm:ts.length<=maxLen):NOwns w e n (.slice (some ⟨g,0,none⟩) ts.length ts.length) ts:=by
 have hs:cs.size=ts.length * n:=by rw [← Array.length_toList,hc,zbk he]
 refine ⟨he,by rw [zbk he],.inr ⟨g,ts.length,cs,rfl,Nat.zero_le _,h,Nat.le_refl _,hm,hs,?_⟩⟩;rw [hc,List.take_of_length_le (by rw [zbk he];exact Nat.le_refl _)]
theorem zap {P:Program}(W:World){ops:Array Oper}{o:Oper}{a:Act}{K:Act->World->Prop}{Q:Exit->Act->World->Prop}{E:Prop}(hgd:o.guard=none)(s x:Operand)(t:TypeId)
  (ho:o.op=.call { callee:=.builtin .append,args:=#[s,x],argTypes:=#[t,t] }) (e:TypeId) (ht:P.underlying t=some (.slice e)) (z:Value) (n bytes:Nat)
  (hi:(P.info? e).map (fun i=>(i.zero,i.size,i.bytes))=some (some z,n,bytes)) (hzc:z.cells.size=n) (hn:0 < n) (hby:bytes<=640) (v:Value) (ts:List Row) (hs:a.eval s=v) (hown:NOwns W e n v ts)
  (g:Nat) (y:Row) (hy:y.length=n) (hx:a.eval x=.slice (some ⟨g,0,none⟩) 1 1) (hc:∀ (j:Nat) (u:Value),y[j]?=some u->W.cell? ⟨g,j,none⟩=some u) (h1:∀ u∈y,u.oneCell'=true) (hl:ts.length<=100000000000)
  (h:∀ v' w',NOwns w' e n v' (ts ++ [y])->W.grownBy w' v.ownBlock->(∀ k,v'.ownBlock=some k->v.ownBlock=some k\/W.heap.size<=k)->K (a.put o.dst v') w') :
  if Region.wanted o (yielded ops a.tmps)=true then Oper.wp P o a W K Q else E:=by
 obtain ⟨i0,hi,hz0,hz1,hz2⟩:=info_parts hi;refine step_append_lies _ hgd s x t ho 0 e i0 z n bytes ht hi hz0 hz1 hz2 hzc hn v ts.length ts.flatten hs hown.2 ⟨g,0,none⟩ 1 1 y hx (by rw [hy,Nat.one_mul]) ?_ h1 (by decide) ?_ ?_ (Nat.zero_le _) W.heap.size rfl ?_
 ·intro j u hj;have:=hc j u hj;by_cases e:j=0
  ·subst e;simpa [Addr.add] using this
  ·simpa [Addr.add,e] using this
 ·unfold maxLen;omega
 ·have:(ts.length+1) * bytes<=100000000001 * 640:=Nat.mul_le_mul (by omega) hby;omega
 ·intro g' cap w' hown' hgrow hat _;refine h _ w' ⟨hown.1.append (Even.mk hy (Even.nil _)),?_⟩ hgrow fun k hk=>?_
  ·rw [List.length_append,List.flatten_append,show [y].flatten=y by simp];exact hown'
  ·exact cQ60
structure Kn (α:Type) where
 n:Nat
 T:TypeId
 p:Row->Value
 O:World->Row->α->Prop
 R:World->Row->α->Prop
 len:∀ {w:World} {t:Row} {x:α},O w t x->t.length=n
 heap:∀ {w w':World} {t:Row} {x:α},O w t x->(∀ k,(p t).ownBlock=some k->w'.heap[k]?=w.heap[k]?)->O w' t x
 lt:∀ {w:World} {t:Row} {x:α},O w t x->∀ k,(p t).ownBlock=some k->k < w.heap.size
 rd:∀ {w:World} {t:Row} {x:α},O w t x->R w t x
 bel:∀ {w w':World} {t:Row} {x:α} {B:Nat},R w t x->Below B w w'->w.heap.size<=B->R w' t x
structure GN {α:Type} (K:Kn α) (w:World) (S:Nat->Prop) (v:Value) (ts:List Row) (xs:List α):Prop where
 len:ts.length=xs.length
 row:NOwns w K.T K.n v ts
 inn:∀ (j:Nat) (h:j < ts.length) (h':j < xs.length),K.O w ts[j] xs[j]
 sep:∀ (i j:Nat) (hi:i < ts.length) (hj:j < ts.length),i≠j->∀ k,(K.p ts[i]).ownBlock=some k->(K.p ts[j]).ownBlock≠some k
 out:∀ (j:Nat) (h:j < ts.length) (k:Nat),(K.p ts[j]).ownBlock=some k->v.ownBlock≠some k
 so:∀ k,v.ownBlock=some k->S k
 si:∀ (j:Nat) (h:j < ts.length) (k:Nat),(K.p ts[j]).ownBlock=some k->S k
namespace GN
variable {α : Type} {K : Kn α} {w w' w1 w2 : World} {S S' : Nat -> Prop} {v v' : Value} {ts : List Row} {xs : List α} {t' : Row} {x' : α}
theorem of_heap (h:GN K w S v ts xs)(hh:∀ k,S k->k < w.heap.size->w'.heap[k]?=w.heap[k]?):GN K w' S v ts xs :=
 ⟨h.len,h.row.of_heap fun k hk=>hh k (h.so k hk) (h.row.lt k hk),fun j hj hj'=>K.heap (h.inn j hj hj') fun k hk=>hh k (h.si j hj k hk) (K.lt (h.inn j hj hj') k hk),h.sep,h.out,h.so,h.si⟩
theorem below {B:Nat}(h:GN K w S v ts xs)(hb:Below B w w')(hB:w.heap.size<=B):GN K w' S v ts xs:=h.of_heap fun k _ hk=>hb.block k (by omega)
theorem alloc (h:GN K w S v ts xs)(o:Obj):GN K (w.alloc o) S v ts xs:=h.below ((Below.refl _ w).alloc nR o) nR
theorem drew (h:GN K w S v ts xs):GN K w.drew S v ts xs:=h.below (Below.refl w.heap.size w).drew nR
theorem mono (h:GN K w S v ts xs)(hs:∀ k,S k->S' k):GN K w S' v ts xs:=⟨h.len,h.row,h.inn,h.sep,h.out,fun k e=>hs k (h.so k e),fun j hj k e=>hs k (h.si j hj k e)⟩
theorem bound (h:GN K w S v ts xs):GN K w (fun k=>S k/\k < w.heap.size) v ts xs :=
 ⟨h.len,h.row,h.inn,h.sep,h.out,fun k e=>⟨h.so k e,h.row.lt k e⟩,fun j hj k e=>⟨h.si j hj k e,K.lt (h.inn j hj (by rw [← h.len];exact hj)) k e⟩⟩
theorem form (h:GN K w S v ts xs):∃ a cap,v=.slice a xs.length cap:=by
 obtain ⟨a,c,e,_⟩:=h.row.form;exact ⟨a,c,by rw [e,h.len]⟩
theorem nil (w:World)(S:Nat->Prop):GN K w S (.slice none 0 0) [] [] :=
 ⟨rfl,NOwns.nil _ _ _,fun j hj=>by simp at hj,fun i j hi=>by simp at hi,fun j hj=>by simp at hj,(fun k e=>by cases e),fun j hj=>by simp at hj⟩
theorem len_of (h:GN K w S v ts xs){a:Option Addr}{n cap:Nat}(hv:v=.slice a n cap):n=ts.length:=by
 exact cQ127
theorem turn (h:GN K w S v ts xs)(j:Nat)(hj:j < ts.length)(t':Row)(x':α)(hr:NOwns w' K.T K.n v (ts.set j t'))(hO:K.O w' t' x')
  (hf:∀ k,k < w.heap.size->v.ownBlock≠some k->(K.p ts[j]).ownBlock≠some k->w'.heap[k]?=w.heap[k]?)
  (hn:∀ k,(K.p t').ownBlock=some k->(K.p ts[j]).ownBlock=some k\/w.heap.size<=k) (hs:∀ k,S k->S' k) (hs2:∀ k,(K.p t').ownBlock=some k->S' k):GN K w' S' v (ts.set j t') (xs.set j x'):=by
 exact cQ12
theorem put (h:GN K w S v ts xs){g n cap:Nat}(hv:v=.slice (some ⟨g,0,none⟩) n cap)(j:Nat)(hj:j < ts.length)(hb:Below w.heap.size w w1)(hO:K.O w1 t' x')
  (hn:∀ k,(K.p t').ownBlock=some k->w.heap.size<=k) (hs:∀ k,S k->S' k) (hs2:∀ k,w.heap.size<=k->S' k):GN K (setRow w1 g (j * K.n) t') S' v (ts.set j t') (xs.set j x'):=by
 have hg:g < w.heap.size:=h.row.lt g (by rw [hv];rfl);have r1:NOwns w1 K.T K.n v ts:=h.row.of_heap fun k hk=>hb.block k (h.row.lt k hk);have hlen:=h.len_of hv;subst hlen;subst hv;refine h.turn j hj t' x' ?_ (K.heap hO fun k hk=>zda g t' _ _ k (by have:=hn k hk;omega)) (fun k hk h1 _=>(zda g t' _ _ k (fun e=>h1 (by rw [e];rfl))).trans (hb.block k hk)) (fun k hk=>.inr (hn k hk)) hs (fun k hk=>hs2 k (hn k hk));have:=NOwns.setRow (g:=g) (cap:=cap) j t' w1 ts hj [] r1 (by rw [List.length_nil,Nat.zero_add];exact K.len hO) rfl;exact this
theorem append (h:GN K w S v ts xs)(hb:Below w.heap.size w w1)(hO:K.O w1 t' x')(hn:∀ k,(K.p t').ownBlock=some k->w.heap.size<=k)
  (hr:NOwns w2 K.T K.n v' (ts ++ [t'])) (hg:w1.grownBy w2 v.ownBlock) (hv:∀ k,v'.ownBlock=some k->v.ownBlock=some k\/w1.heap.size<=k):GN K w2 (fun k=>(S k/\k < w.heap.size)\/w.heap.size<=k) v' (ts ++ [t']) (xs ++ [x']):=by
 exact cQ8
end GN
def RN {α:Type} (K:Kn α) (w:World) (v:Value) (xs:List α):Prop:=∃ a cap,v=.slice a xs.length cap/\xs.length<=cap/\∀ (j:Nat) (h:j < xs.length),∃ g off t,a=some ⟨g,off,none⟩/\g < w.heap.size/\(∀ i,i < K.n->w.cell? ⟨g,off+j * K.n+i,none⟩=t[i]?)/\K.R w t xs[j]
theorem RN.below {α:Type}{K:Kn α}{w w':World}{B:Nat}{v:Value}{xs:List α}(h:RN K w v xs)(hb:Below B w w')(hB:w.heap.size<=B):RN K w' v xs:=by
 obtain ⟨a,cap,h1,h2,h3⟩:=h;refine ⟨a,cap,h1,h2,fun j hj=>?_⟩;obtain ⟨g,off,t,k1,k2,k3,k4⟩:=h3 j hj;exact ⟨g,off,t,k1,Nat.lt_of_lt_of_le k2 hb.size,fun i hi=>(hb.cell (p:=⟨g,off+j * K.n+i,none⟩) (by show g < B;omega)).trans (k3 i hi),K.bel k4 hb hB⟩
theorem RN.alloc {α:Type}{K:Kn α}{w:World}{v:Value}{xs:List α}(h:RN K w v xs)(o:Obj):RN K (w.alloc o) v xs:=h.below ((Below.refl _ w).alloc nR o) nR
theorem RN.drew {α:Type}{K:Kn α}{w:World}{v:Value}{xs:List α}(h:RN K w v xs):RN K w.drew v xs:=h.below (Below.refl w.heap.size w).drew nR
theorem RN.form {α:Type}{K:Kn α}{w:World}{v:Value}{xs:List α}(h:RN K w v xs):∃ a c,v=.slice a xs.length c:=by
 obtain ⟨a,c,h,_⟩:=h;exact ⟨a,c,h⟩
theorem GN.rn {α:Type}{K:Kn α}{w:World}{S:Nat->Prop}{v:Value}{ts:List Row}{xs:List α}(h:GN K w S v ts xs):RN K w v xs:=by
 obtain ⟨a,cap,e,hc,_⟩:=h.row.form;have hl:=h.len;refine ⟨a,cap,by rw [e,hl],by omega,fun j hj=>?_⟩;obtain ⟨g,c',e',k1,k2,k3,-⟩:=h.row.at j (by omega);rw [e] at e';simp only [Value.slice.injEq] at e';exact ⟨g,0,ts[j],e'.1,k3,fun i hi=>by rw [Nat.zero_add];exact k1 i hi,K.rd (h.inn j (by omega) hj)⟩
end Kit
theorem zgh (z:Value)(n:Nat)(l:List Value)(h:List.replicate n z=l):madeCells #[z] n=l.toArray:=Array.toList_inj.1 (by rw [toList_madeCells_one,h])
def fl16:Array Value:=(fc (List.replicate 16 false)).toArray
theorem make16 (w:World):(Instr.makeSlice 24 (.int .i64 16) (.int .i64 16)).run Tryz.prog w=.ok (.slice (some ⟨w.heap.size,0,none⟩) 16 16) (w.alloc (.cells fl16 4)):=by
 have:=zgg 16 (by decide) w;rw [zgh _ 16 (fc (List.replicate 16 false)) (by simp [fc])] at this;exact this
theorem make8 (w:World):(Instr.makeSlice 24 (.int .i64 8) (.int .i64 8)).run Tryz.prog w=.ok (.slice (some ⟨w.heap.size,0,none⟩) 8 8) (w.alloc (.cells #[.bool false,.bool false,.bool false,.bool false,.bool false,.bool false,.bool false,.bool false] 4)):=by
 have:=zgg 8 (by decide) w;rw [zgh _ 8 [.bool false,.bool false,.bool false,.bool false,.bool false,.bool false,.bool false,.bool false] rfl] at this;exact this
def newX:List Bool:=List.replicate 16 false
def newY:List Bool:=true :: List.replicate 7 false
theorem zc0 (W:World)(base gx gy:Nat)(h1:W.heap[gx]?=some (.cells fl16 4 (0,0)))(h2:W.heap[gy]?=some (.cells #[.bool true,.bool false,.bool false,.bool false,.bool false,.bool false,.bool false,.bool false] 4 (0,0)))(hx:base<=gx)(hy:base<=gy)(hne:gx≠gy) :
  Two W base (.slice (some ⟨gx,0,none⟩) 16 16) (.slice (some ⟨gy,0,none⟩) 8 8) newX newY:=by
 refine ⟨⟨by simp [fc,newX],.inr ⟨gx,16,_,by simp [fc,newX],hx,h1,?_,?_,?_,?_⟩⟩,⟨by simp [fc,newY],.inr ⟨gy,8,_,by simp [fc,newY],hy,h2,?_,?_,?_,?_⟩⟩,fun k e1 e2=>?_⟩
 ·simp [fc,newX]
 ·unfold maxLen;decide
 ·simp [fl16,fc]
 ·simp [fl16,fc,newX]
 ·simp [fc,newY]
 ·unfold maxLen;decide
 ·simp
 ·simp [fc,newY]
 ·simp only [Value.ownBlock,Option.some.injEq] at e1 e2;omega
theorem heap4 (w:World)(a b c d:Obj):((((w.alloc a).alloc b).alloc c).alloc d).drew.heap[w.heap.size+1]?=some b/\((((w.alloc a).alloc b).alloc c).alloc d).drew.heap[w.heap.size+1+1]?=some c/\((((w.alloc a).alloc b).alloc c).alloc d).drew.heap[w.heap.size+1+1+1]?=some d:=by
 have e1:=zbh (w.alloc a) b;have e2:=zbh ((w.alloc a).alloc b) c;have e3:=zbh (((w.alloc a).alloc b).alloc c) d;rw [World.size_alloc] at e1;rw [World.size_alloc,World.size_alloc] at e2;rw [World.size_alloc,World.size_alloc,World.size_alloc] at e3;exact ⟨((Below.heap_alloc _ _ _ (by simp)).trans ((Below.heap_alloc _ _ _ (by simp)).trans e1)),(Below.heap_alloc _ _ _ (by simp)).trans e2,e3⟩
def okB (n m:Nat):Bool:=decide (n=16) && decide (m=8)
theorem okB_true {n m:Nat}(h:okB n m=true):n=16/\m=8:=by simpa [okB] using h
theorem zfe {w1:World}{b:Nat}(K:w1.heap[b]?=some (.cells #[.int .i64 0,.int .i64 0,.slice none 0 0] 37 (0,0))) :
  w1.cell? ⟨b,0,none⟩=some (.int .i64 0)/\w1.cell? ⟨b,1,none⟩=some (.int .i64 0)/\w1.cell? ⟨b,2,none⟩=some (.slice none 0 0)/\w1.frozen? ⟨b,0,none⟩=false/\w1.frozen? ⟨b,1,none⟩=false/\w1.frozen? ⟨b,2,none⟩=false/\b < w1.heap.size:=by
 refine ⟨by simp [World.cell?,K],by simp [World.cell?,K],by simp [World.cell?,K],by simp [World.frozen?,K],by simp [World.frozen?,K],by simp [World.frozen?,K],(Array.getElem?_eq_some_iff.1 K).1⟩
namespace Kit
end Kit
namespace Kit
def oneB (b:UInt8):ByteArray:=⟨#[b]⟩
theorem zdq (b:UInt8):(oneB b).size=1:=rfl
def accB (l:List UInt8):ByteArray:=⟨l.toArray⟩
theorem zff (l:List UInt8):(accB l).size=l.length:=by simp [accB,ByteArray.size]
end Kit
namespace Kit
end Kit
namespace Kit
end Kit
theorem Tryz.u42:Tryz.prog.underlying 42=some (.slice 49):=by kernel_rfl
theorem Tryz.i49:(Tryz.prog.info? 49).map (fun i=>(i.zero,i.size,i.bytes))=some (some (.agg #[.string ⟨#[]⟩,.int .i64 0]),2,24):=by kernel_rfl
namespace Kit
theorem R3.ino {w:World}{v:Value}{xs:List Ino}(h:R3 KI w v xs):∃ a cap,v=.slice a xs.length cap/\xs.length<=cap/\∀ (j:Nat) (h:j < xs.length),∃ g off p,a=some ⟨g,off,none⟩/\g < w.heap.size/\w.cell? ⟨g,off+j * 3,none⟩=some (.int .i64 xs[j].1)/\w.cell? ⟨g,off+j * 3+1,none⟩=some (.int .i64 xs[j].2.1)/\w.cell? ⟨g,off+j * 3+2,none⟩=some p/\RInts w p xs[j].2.2:=by
 obtain ⟨a,cap,e,hc,h⟩:=h;refine ⟨a,cap,e,hc,fun j hj=>?_⟩;obtain ⟨g,off,t,e1,hg,c0,c1,c2,r0,r1,r2⟩:=h j hj;exact ⟨g,off,t.2.2,e1,hg,by rw [c0,r0],by rw [c1,r1],c2,r2⟩
theorem R3.blk {w:World}{v:Value}{xs:List Blk}(h:R3 KB w v xs):∃ a cap,v=.slice a xs.length cap/\xs.length<=cap/\∀ (j:Nat) (h:j < xs.length),∃ g off p,a=some ⟨g,off,none⟩/\g < w.heap.size/\w.cell? ⟨g,off+j * 3,none⟩=some (.bool xs[j].1)/\w.cell? ⟨g,off+j * 3+1,none⟩=some p/\w.cell? ⟨g,off+j * 3+2,none⟩=some (.string xs[j].2.2)/\RSl w p xs[j].2.1:=by
 obtain ⟨a,cap,e,hc,h⟩:=h;refine ⟨a,cap,e,hc,fun j hj=>?_⟩;obtain ⟨g,off,t,e1,hg,c0,c1,c2,r0,r1,r2⟩:=h j hj;exact ⟨g,off,t.2.1,e1,hg,by rw [c0,r0],c1,by rw [c2,r2],r1⟩
def bigB (n:Nat) (b:Blk):Prop:=b.2.1.length<=n/\(∀ (j:Nat) (h:j < b.2.1.length),b.2.1[j].1.size<=n)/\b.2.2.size<=n
structure Big (n:Nat) (xs ys:List Bool) (is:List Ino) (bs:List Blk):Prop where
 x:xs.length<=n
 y:ys.length<=n
 i:is.length<=n
 p:∀ (j:Nat) (h:j < is.length),is[j].2.2.length<=n
 b:bs.length<=n
 s:∀ (j:Nat) (h:j < bs.length),bigB n bs[j]
end Kit
namespace Kit
theorem zhi (a b c:Value)(n:Nat):(madeCells #[a,b,c] (n * 3)).toList=f3 (List.replicate n (a,b,c)):=by
 apply List.ext_getElem?;intro j;by_cases hj:j < n * 3
 ·have e:(madeCells #[a,b,c] (n * 3)).toList[j]?=some (#[a,b,c][j % 3]!):=by simp [madeCells,hj]
  rw [e];obtain ⟨q,hq⟩:∃ q,q=j / 3:=⟨_,rfl⟩
  have hql:q < (List.replicate n (a,b,c)).length:=by simp;omega
  have k:=f3_at (List.replicate n (a,b,c)) q hql;have hm:j % 3=0\/j % 3=1\/j % 3=2:=by omega
  rcases hm with h | h | h
  ·rw [show j=q * 3 by omega,k.1,show q * 3 % 3=0 by omega];simp
  ·rw [show j=q * 3+1 by omega,k.2.1,show (q * 3+1) % 3=1 by omega];simp
  ·rw [show j=q * 3+2 by omega,k.2.2,show (q * 3+2) % 3=2 by omega];simp
 ·rw [List.getElem?_eq_none (by simp [madeCells];omega),List.getElem?_eq_none (by rw [zb0];simp;omega)]
namespace GO
variable {α : Type} {K : Kd α} {w w1 w' : World} {S S' : Nat -> Prop} {v : Value} {ts : List V3} {xs : List α}
theorem bound (h:GO K w S v ts xs):GO K w (fun k=>S k/\k < w.heap.size) v ts xs :=
 ⟨h.len,h.row,h.inn,h.sep,h.out,fun k e=>⟨h.so k e,h.row.lt k e⟩,fun j hj k e=>⟨h.si j hj k e,K.lt (h.inn j hj (by rw [← h.len];exact hj)) k e⟩⟩
theorem setCell_other (h:GO K w S v ts xs){b j:Nat}(hb:¬ S b)(x:Value):GO K (w.setCell ⟨b,j,none⟩ x) S v ts xs :=
 h.of_heap fun k hs _=>heap_setCell_other w ⟨b,j,none⟩ k x (fun e=>hb (by simp at e;subst e;exact hs))
theorem put (h:GO K w S v ts xs){g n cap:Nat}(hv:v=.slice (some ⟨g,0,none⟩) n cap)(j:Nat)(hj:j < ts.length)(t':V3)(x':α)(hb:Below w.heap.size w w1)(hO:K.O w1 t' x')
  (hn:∀ k,(K.p t').ownBlock=some k->w.heap.size<=k) (hs:∀ k,S k->S' k) (hs2:∀ k,w.heap.size<=k->S' k) :
  GO K (((w1.setCell ⟨g,j * 3,none⟩ t'.1).setCell ⟨g,j * 3+1,none⟩ t'.2.1).setCell ⟨g,j * 3+2,none⟩ t'.2.2) S' v (ts.set j t') (xs.set j x'):=by
 have hg:g < w.heap.size:=h.row.lt g (by rw [hv];rfl);have r1:TOwns w1 K.T v ts:=h.row.of_heap fun k hk=>hb.block k (h.row.lt k hk);have hlen:n=ts.length:=by
  obtain ⟨a,c,e,_⟩:=h.row.form;rw [hv] at e;simp only [Value.slice.injEq] at e;exact e.2.1
 have hoth:∀ k,k≠g->(((w1.setCell ⟨g,j * 3,none⟩ t'.1).setCell ⟨g,j * 3+1,none⟩ t'.2.1).setCell ⟨g,j * 3+2,none⟩ t'.2.2).heap[k]?=w1.heap[k]?:=fun k hk =>
  ((heap_setCell_other _ ⟨g,j * 3+2,none⟩ k _ (by simpa using hk)).trans (heap_setCell_other _ ⟨g,j * 3+1,none⟩ k _ (by simpa using hk))).trans (heap_setCell_other _ ⟨g,j * 3,none⟩ k _ (by simpa using hk))
 subst hlen;subst hv;refine h.turn j hj t' x' ?_ (K.heap hO fun k hk=>hoth k (by have:=hn k hk;omega)) (fun k hk h1 _=>(hoth k (fun e=>h1 (by rw [e];rfl))).trans (hb.block k hk)) (fun k hk=>.inr (hn k hk)) hs (fun k hk=>hs2 k (hn k hk));exact r1.set j hj _ _ _
theorem made (w:World)(z:V3)(x:α)(n:Nat)(hm:n<=maxLen)(cs:Array Value)(hc:cs.toList=f3 (List.replicate n z))(hO:∀ w,K.O w z x)(hz:(K.p z).ownBlock=none) :
  GO K (w.alloc (.cells cs K.T)) (fun k=>w.heap.size<=k) (.slice (some ⟨w.heap.size,0,none⟩) n n) (List.replicate n z) (List.replicate n x):=by
 refine ⟨by simp,?_,fun j hj hj'=>?_,fun i j hi hj _ k e=>?_,fun j hj k e=>?_,fun k e=>?_,fun j hj k e=>?_⟩
 ·have:=TOwns.lit w K.T cs (List.replicate n z) hc (by simpa using hm);simpa using this
 ·simp only [List.getElem_replicate];exact hO _
 ·exact cQ59
 ·exact cQ59
 ·simp only [Value.ownBlock,Option.some.injEq] at e;omega
 ·exact cQ59
end GO
def zI:Ino:=(0,0,[])
def zB:Blk:=(false,[],⟨#[]⟩)
def zB3:V3:=(.bool false,.slice none 0 0,.string ⟨#[]⟩)
theorem zB_own (w:World):KB.O w zB3 zB:=⟨rfl,SOwns.nil _ _ _,rfl⟩
structure DR (w:World) (u v iv bv:Value) (xs ys:List Bool) (is:List Ino) (bs:List Blk):Prop where
 a:RFl w u xs
 b:RFl w v ys
 i:R3 KI w iv is
 k:R3 KB w bv bs
namespace DR
variable {w w' : World} {u v iv bv : Value} {xs ys : List Bool} {is : List Ino} {bs : List Blk}
theorem below {B:Nat}(h:DR w u v iv bv xs ys is bs)(hb:Below B w w')(hB:w.heap.size<=B):DR w' u v iv bv xs ys is bs:=⟨h.a.below hb hB,h.b.below hb hB,h.i.below hb hB,h.k.below hb hB⟩
theorem alloc (h:DR w u v iv bv xs ys is bs)(o:Obj):DR (w.alloc o) u v iv bv xs ys is bs:=h.below ((Below.refl _ w).alloc nR o) nR
theorem drew (h:DR w u v iv bv xs ys is bs):DR w.drew u v iv bv xs ys is bs:=h.below (Below.refl w.heap.size w).drew nR
theorem form (h:DR w u v iv bv xs ys is bs):∃ a1 c1 a2 c2 a3 c3 a4 c4,u=.slice a1 xs.length c1/\v=.slice a2 ys.length c2/\iv=.slice a3 is.length c3/\bv=.slice a4 bs.length c4:=by
 obtain ⟨a1,c1,e1⟩:=h.a.form;obtain ⟨a2,c2,e2⟩:=h.b.form;obtain ⟨a3,c3,e3⟩:=h.i.form;obtain ⟨a4,c4,e4⟩:=h.k.form;exact ⟨a1,c1,a2,c2,a3,c3,a4,c4,e1,e2,e3,e4⟩
end DR
def DO (w:World) (S:Nat->Prop) (u v iv bv:Value) (xs ys:List Bool) (is:List Ino) (bs:List Blk):Prop :=
 ∃ (S1 S2 S3:Nat->Prop) (ti tb:List V3),Two w 0 u v xs ys/\(∀ k,(u.ownBlock=some k\/v.ownBlock=some k)->S1 k)/\GO KI w S2 iv ti is/\GO KB w S3 bv tb bs/\(∀ k,S1 k->¬ S2 k/\¬ S3 k)/\(∀ k,S2 k->¬ S3 k)/\∀ k,S1 k\/S2 k\/S3 k->S k
namespace DO
variable {w w' : World} {S S' : Nat -> Prop} {u v iv bv : Value} {xs ys : List Bool} {is : List Ino} {bs : List Blk}
theorem of_heap (h:DO w S u v iv bv xs ys is bs)(hh:∀ k,S k->k < w.heap.size->w'.heap[k]?=w.heap[k]?):DO w' S u v iv bv xs ys is bs:=by
 obtain ⟨S1,S2,S3,ti,tb,h1,h2,h3,h4,h5,h6,h7⟩:=h;refine ⟨S1,S2,S3,ti,tb,⟨h1.a.of_heap fun k hk=>hh k (h7 k (.inl (h2 k (.inl hk)))) (h1.a.lt k hk).2,h1.b.of_heap fun k hk=>hh k (h7 k (.inl (h2 k (.inr hk)))) (h1.b.lt k hk).2,h1.ne⟩,h2,h3.of_heap fun k hs hk=>hh k (h7 k (.inr (.inl hs))) hk,h4.of_heap fun k hs hk=>hh k (h7 k (.inr (.inr hs))) hk,h5,h6,h7⟩
theorem below {B:Nat}(h:DO w S u v iv bv xs ys is bs)(hb:Below B w w')(hB:w.heap.size<=B):DO w' S u v iv bv xs ys is bs:=h.of_heap fun k _ hk=>hb.block k (by omega)
theorem alloc (h:DO w S u v iv bv xs ys is bs)(o:Obj):DO (w.alloc o) S u v iv bv xs ys is bs:=h.below ((Below.refl _ w).alloc nR o) nR
theorem mono (h:DO w S u v iv bv xs ys is bs)(hs:∀ k,S k->S' k):DO w S' u v iv bv xs ys is bs:=by
 obtain ⟨S1,S2,S3,ti,tb,h1,h2,h3,h4,h5,h6,h7⟩:=h;exact ⟨S1,S2,S3,ti,tb,h1,h2,h3,h4,h5,h6,fun k hk=>hs k (h7 k hk)⟩
theorem dr (h:DO w S u v iv bv xs ys is bs):DR w u v iv bv xs ys is bs:=by
 obtain ⟨S1,S2,S3,ti,tb,h1,h2,h3,h4,-⟩:=h;exact ⟨h1.a.rfl,h1.b.rfl,h3.r3,h4.r3⟩
end DO
end Kit
theorem Tryz.u27:Tryz.prog.underlying 27=some (.slice 37):=by kernel_rfl
theorem Tryz.i37:(Tryz.prog.info? 37).map (fun i=>(i.zero,i.size,i.bytes))=some (some (.agg #[.int .i64 0,.int .i64 0,.slice none 0 0]),3,40):=by kernel_rfl
theorem Tryz.u28:Tryz.prog.underlying 28=some (.slice 44):=by kernel_rfl
theorem Tryz.i44:(Tryz.prog.info? 44).map (fun i=>(i.zero,i.size,i.bytes))=some (some (.agg #[.bool false,.slice none 0 0,.string ⟨#[]⟩]),3,48):=by kernel_rfl
theorem make_blk (n:Nat)(h:n<=1048576)(w:World):(Instr.makeSlice 28 (.int .i64 (n:Int)) (.int .i64 (n:Int))).run Tryz.prog w=.ok (.slice (some ⟨w.heap.size,0,none⟩) n n) (w.alloc (.cells (madeCells #[.bool false,.slice none 0 0,.string ⟨#[]⟩] (n * 3)) 44)):=by
 obtain ⟨i0,hi,hz0,hz1,hz2⟩:=info_parts Tryz.i44;rw [run_make w 28 44 i0 _ Tryz.u28 hi hz0 .i64 .i64 n n (by omega) (by omega) (by rw [hz2];omega) (by omega),hz1];rfl
namespace Kit
section
variable {α : Type} {sz : α -> Nat} {mk : Nat -> α -> α}
end
theorem GO.len_of {α:Type}{K:Kd α}{w:World}{S:Nat->Prop}{v:Value}{ts:List V3}{xs:List α}(h:GO K w S v ts xs){a:Option Addr}{n cap:Nat}(hv:v=.slice a n cap):n=ts.length:=by
 exact cQ127
end Kit
namespace Kit
structure Dp where
 id:Int
 kd:Int
 io:Int
 pt:Int
 bk:Int
 sl:Int
 nm:ByteArray
 bt:Bool
 ot:Bool
 af:Int
 bl:List Int
def Dp.row (d:Dp) (p:Value):Row:=[.int .i64 d.id,.int .i64 d.kd,.int .i64 d.io,.int .i64 d.pt,.int .i64 d.bk,.int .i64 d.sl,.string d.nm,.bool d.bt,.bool d.ot,.int .i64 d.af,p]
def KDep:Kn Dp where
 n:=11
 T:=41
 p:=fun t=>t.getD 10 (.slice none 0 0)
 O:=fun w t x=>∃ p,t=x.row p/\ROwns w 0 3 p (ic x.bl)
 R:=fun w t x=>∃ p,t=x.row p/\RInts w p x.bl
 len:=fun h=>by obtain ⟨p,rfl,-⟩:=h;rfl
 heap:=fun h hh=>by obtain ⟨p,rfl,h⟩:=h;exact ⟨p,rfl,h.of_heap hh⟩
 lt:=fun h k hk=>by obtain ⟨p,rfl,h⟩:=h;exact (h.lt k hk).2
 rd:=fun h=>by obtain ⟨p,rfl,h⟩:=h;exact ⟨p,rfl,h.rints⟩
 bel:=fun h hb hB=>by obtain ⟨p,rfl,h⟩:=h;exact ⟨p,rfl,h.below hb hB⟩
def DCells (w:World) (g o:Nat) (d:Dp) (p:Value):Prop:=w.cell? ⟨g,o,none⟩=some (.int .i64 d.id)/\w.cell? ⟨g,o+1,none⟩=some (.int .i64 d.kd)/\w.cell? ⟨g,o+2,none⟩=some (.int .i64 d.io)/\w.cell? ⟨g,o+3,none⟩=some (.int .i64 d.pt)/\w.cell? ⟨g,o+4,none⟩=some (.int .i64 d.bk)/\w.cell? ⟨g,o+5,none⟩=some (.int .i64 d.sl)/\w.cell? ⟨g,o+6,none⟩=some (.string d.nm)/\w.cell? ⟨g,o+7,none⟩=some (.bool d.bt)/\w.cell? ⟨g,o+8,none⟩=some (.bool d.ot)/\w.cell? ⟨g,o+9,none⟩=some (.int .i64 d.af)/\w.cell? ⟨g,o+10,none⟩=some (p)
theorem DCells.of {w:World}{g o:Nat}{d:Dp}{p:Value}(h:∀ i,i < 11->w.cell? ⟨g,o+i,none⟩=(d.row p)[i]?):DCells w g o d p :=
 ⟨h 0 (by decide),h 1 (by decide),h 2 (by decide),h 3 (by decide),h 4 (by decide),h 5 (by decide),h 6 (by decide),h 7 (by decide),h 8 (by decide),h 9 (by decide),h 10 (by decide)⟩
theorem DCells.below {w w':World}{g o:Nat}{d:Dp}{p:Value}{B:Nat}(h:DCells w g o d p)(hb:Below B w w')(hg:g < B):DCells w' g o d p:=by
 obtain ⟨h0,h1,h2,h3,h4,h5,h6,h7,h8,h9,h10⟩:=h;exact ⟨(hb.cell (p:=⟨g,o,none⟩) hg).trans h0,(hb.cell (p:=⟨g,o+1,none⟩) hg).trans h1,(hb.cell (p:=⟨g,o+2,none⟩) hg).trans h2,(hb.cell (p:=⟨g,o+3,none⟩) hg).trans h3,(hb.cell (p:=⟨g,o+4,none⟩) hg).trans h4,(hb.cell (p:=⟨g,o+5,none⟩) hg).trans h5,(hb.cell (p:=⟨g,o+6,none⟩) hg).trans h6,(hb.cell (p:=⟨g,o+7,none⟩) hg).trans h7,(hb.cell (p:=⟨g,o+8,none⟩) hg).trans h8,(hb.cell (p:=⟨g,o+9,none⟩) hg).trans h9,(hb.cell (p:=⟨g,o+10,none⟩) hg).trans h10⟩
theorem RN.dep {w:World}{v:Value}{xs:List Dp}(h:RN KDep w v xs):∃ a cap,v=.slice a xs.length cap/\xs.length<=cap/\∀ (j:Nat) (h:j < xs.length),∃ g off p,a=some ⟨g,off,none⟩/\g < w.heap.size/\DCells w g (off+j * 11) xs[j] p/\RInts w p xs[j].bl:=by
 obtain ⟨a,cap,e,hc,h⟩:=h;refine ⟨a,cap,e,hc,fun j hj=>?_⟩;obtain ⟨g,off,t,e1,hg,hc,p,rfl,hr⟩:=h j hj;exact ⟨g,off,p,e1,hg,DCells.of fun i hi=>hc i hi,hr⟩
theorem DO.bound {w:World}{S:Nat->Prop}{u v iv bv:Value}{xs ys:List Bool}{is:List Ino}{bs:List Blk}(h:DO w S u v iv bv xs ys is bs):DO w (fun k=>S k/\k < w.heap.size) u v iv bv xs ys is bs:=by
 obtain ⟨T1,T2,T3,ti,tb,k1,k2,k3,k4,k5,k6,k7⟩:=h;refine ⟨fun k=>T1 k/\k < w.heap.size,fun k=>T2 k/\k < w.heap.size,fun k=>T3 k/\k < w.heap.size,ti,tb,k1,fun k hk=>⟨k2 k hk,hk.elim (fun e=>(k1.a.lt k e).2) (fun e=>(k1.b.lt k e).2)⟩,k3.bound,k4.bound,fun k hk=>⟨fun e=>(k5 k hk.1).1 e.1,fun e=>(k5 k hk.1).2 e.1⟩,fun k hk e=>k6 k hk.1 e.1,fun k hk=>?_⟩;rcases hk with hk | hk | hk
 ·exact ⟨k7 k (.inl hk.1),hk.2⟩
 ·exact ⟨k7 k (.inr (.inl hk.1)),hk.2⟩
 ·exact ⟨k7 k (.inr (.inr hk.1)),hk.2⟩
structure MD where
 xs:List Bool
 ys:List Bool
 is:List Ino
 bs:List Blk
 fs:List Bool
 ds:List Dp
 nx:Int
structure MR (w:World) (u v iv bv dv pv:Value) (m:MD):Prop where
 d:DR w u v iv bv m.xs m.ys m.is m.bs
 f:RFl w dv m.fs
 p:RN KDep w pv m.ds
namespace MR
variable {w w' : World} {u v iv bv dv pv : Value} {m : MD}
theorem below {B:Nat}(h:MR w u v iv bv dv pv m)(hb:Below B w w')(hB:w.heap.size<=B):MR w' u v iv bv dv pv m:=⟨h.d.below hb hB,h.f.below hb hB,h.p.below hb hB⟩
theorem alloc (h:MR w u v iv bv dv pv m)(o:Obj):MR (w.alloc o) u v iv bv dv pv m:=h.below ((Below.refl _ w).alloc nR o) nR
theorem drew (h:MR w u v iv bv dv pv m):MR w.drew u v iv bv dv pv m:=h.below (Below.refl w.heap.size w).drew nR
theorem form (h:MR w u v iv bv dv pv m):∃ a1 c1 a2 c2 a3 c3 a4 c4 a5 c5 a6 c6,u=.slice a1 m.xs.length c1/\v=.slice a2 m.ys.length c2/\iv=.slice a3 m.is.length c3/\bv=.slice a4 m.bs.length c4/\dv=.slice a5 m.fs.length c5/\pv=.slice a6 m.ds.length c6:=by
 obtain ⟨a1,c1,a2,c2,a3,c3,a4,c4,e1,e2,e3,e4⟩:=h.d.form;obtain ⟨a5,c5,e5⟩:=h.f.form;obtain ⟨a6,c6,e6⟩:=h.p.form;exact ⟨a1,c1,a2,c2,a3,c3,a4,c4,a5,c5,a6,c6,e1,e2,e3,e4,e5,e6⟩
end MR
def MO (w:World) (S:Nat->Prop) (u v iv bv dv pv:Value) (m:MD):Prop :=
 ∃ (S1 S2 S3:Nat->Prop) (ts:List Row),DO w S1 u v iv bv m.xs m.ys m.is m.bs/\ROwns w 0 4 dv (fc m.fs)/\(∀ k,dv.ownBlock=some k->S2 k)/\GN KDep w S3 pv ts m.ds/\(∀ k,S1 k->¬ S2 k/\¬ S3 k)/\(∀ k,S2 k->¬ S3 k)/\∀ k,S1 k\/S2 k\/S3 k->S k
namespace MO
variable {w w' : World} {S S' : Nat -> Prop} {u v iv bv dv pv : Value} {m : MD}
theorem of_heap (h:MO w S u v iv bv dv pv m)(hh:∀ k,S k->k < w.heap.size->w'.heap[k]?=w.heap[k]?):MO w' S u v iv bv dv pv m:=by
 obtain ⟨S1,S2,S3,ts,h1,h2,h3,h4,h5,h6,h7⟩:=h;exact ⟨S1,S2,S3,ts,h1.of_heap fun k hs hk=>hh k (h7 k (.inl hs)) hk,h2.of_heap fun k hk=>hh k (h7 k (.inr (.inl (h3 k hk)))) (h2.lt k hk).2,h3,h4.of_heap fun k hs hk=>hh k (h7 k (.inr (.inr hs))) hk,h5,h6,h7⟩
theorem below {B:Nat}(h:MO w S u v iv bv dv pv m)(hb:Below B w w')(hB:w.heap.size<=B):MO w' S u v iv bv dv pv m:=h.of_heap fun k _ hk=>hb.block k (by omega)
theorem alloc (h:MO w S u v iv bv dv pv m)(o:Obj):MO (w.alloc o) S u v iv bv dv pv m:=h.below ((Below.refl _ w).alloc nR o) nR
theorem mono (h:MO w S u v iv bv dv pv m)(hs:∀ k,S k->S' k):MO w S' u v iv bv dv pv m:=by
 obtain ⟨S1,S2,S3,ts,h1,h2,h3,h4,h5,h6,h7⟩:=h;exact ⟨S1,S2,S3,ts,h1,h2,h3,h4,h5,h6,fun k hk=>hs k (h7 k hk)⟩
theorem mr (h:MO w S u v iv bv dv pv m):MR w u v iv bv dv pv m:=by
 obtain ⟨S1,S2,S3,ts,h1,h2,h3,h4,-⟩:=h;exact ⟨h1.dr,h2.rfl,h4.rn⟩
theorem bound (h:MO w S u v iv bv dv pv m):MO w (fun k=>S k/\k < w.heap.size) u v iv bv dv pv m:=by
 obtain ⟨S1,S2,S3,ts,h1,h2,h3,h4,h5,h6,h7⟩:=h;obtain ⟨T1,T2,T3,ti,tb,k1,k2,k3,k4,k5,k6,k7⟩:=h1;refine ⟨fun k=>S1 k/\k < w.heap.size,fun k=>S2 k/\k < w.heap.size,fun k=>S3 k/\k < w.heap.size,ts,⟨fun k=>T1 k/\k < w.heap.size,fun k=>T2 k/\k < w.heap.size,fun k=>T3 k/\k < w.heap.size,ti,tb,k1,fun k hk=>⟨k2 k hk,hk.elim (fun e=>(k1.a.lt k e).2) (fun e=>(k1.b.lt k e).2)⟩,k3.bound,k4.bound,fun k hk=>⟨fun e=>(k5 k hk.1).1 e.1,fun e=>(k5 k hk.1).2 e.1⟩,fun k hk e=>k6 k hk.1 e.1,fun k hk=>?_⟩,h2,fun k hk=>⟨h3 k hk,(h2.lt k hk).2⟩,h4.bound,fun k hk=>⟨fun e=>(h5 k hk.1).1 e.1,fun e=>(h5 k hk.1).2 e.1⟩,fun k hk e=>h6 k hk.1 e.1,fun k hk=>?_⟩
 ·rcases hk with hk | hk | hk
  ·exact ⟨k7 k (.inl hk.1),hk.2⟩
  ·exact ⟨k7 k (.inr (.inl hk.1)),hk.2⟩
  ·exact ⟨k7 k (.inr (.inr hk.1)),hk.2⟩
 ·rcases hk with hk | hk | hk
  ·exact ⟨h7 k (.inl hk.1),hk.2⟩
  ·exact ⟨h7 k (.inr (.inl hk.1)),hk.2⟩
  ·exact ⟨h7 k (.inr (.inr hk.1)),hk.2⟩
end MO
structure BigM (n:Nat) (m:MD):Prop where
 d:Big n m.xs m.ys m.is m.bs
 f:m.fs.length<=n
 l:m.ds.length<=n
 b:∀ (j:Nat) (h:j < m.ds.length),m.ds[j].bl.length<=n
 t:∀ (j:Nat) (h:j < m.ds.length),m.ds[j].nm.size<=n
end Kit
namespace Kit
def RC (w:World) (v:Value) (n:Nat) (cs:List Value):Prop:=∃ a cap,v=.slice a n cap/\∀ (j:Nat) (u:Value),cs[j]?=some u->∃ g off,a=some ⟨g,off,none⟩/\w.cell? ⟨g,off+j,none⟩=some u
theorem zb1 {P:Program}(w:World)(t ty:TypeId)(base:Nat)(e:TypeId)(ht:P.underlying t=some (.slice e))(z:Value)(m bytes:Nat)
  (hi:(P.info? e).map (fun i=>(i.zero,i.size,i.bytes))=some (some z,m,bytes)) (hzc:z.cells.size=m) (hm0:0 < m) (hby:bytes<=640) (v:Value) (hown:w.ownsRow base e m v 0 [])
  (hbase:base<=w.heap.size) (x:Value) (n:Nat) (cs:List Value) (hx:RC w x n cs) (hcl:cs.length=n * m) (h1:∀ u∈cs,u.oneCell'=true) (hl:n<=100000000000) :
  ∃ v' w',(Builtin.append_ #[t,t] ty #[v,x]).run P w=.ok v' w'/\w'.ownsRow base e m v' n cs/\w.grownBy w' v.ownBlock/\(v'.ownBlock=v.ownBlock\/v'.ownBlock=some w.heap.size):=by
 obtain ⟨i0,hi,hz0,hz1,hz2⟩:=info_parts hi;obtain ⟨a,c,rfl,hc⟩:=hx
 cases a with
 | none =>
  have hx0:cs=[]:=by
   exact cQ134
  subst hx0;have hn:n=0:=by
   exact cQ126
  subst hn;obtain ⟨av,cv,rfl⟩:∃ av cv,v=.slice av 0 cv:=by
   rcases hown.2 with ⟨h1,h0⟩ | ⟨g,cap,cur,h1,-,-,h4,-⟩
   ·exact ⟨_,_,h1⟩
   ·exact ⟨_,_,h1⟩
  have hr:=run_append_nothing (P:=P) w t t ty e i0 ht hi av 0 cv (Nat.zero_le _) (.slice none 0 c) (Src.ofNil w ht c);exact ⟨_,w,hr,hown,zam bR _,.inl rfl⟩
 | some ad =>
  have h63:(0+n) * bytes<=100000000000 * 640:=Nat.mul_le_mul (by omega) hby;obtain ⟨v',w',hr,h2,h3,_,h5⟩:=run_append_own_at (P:=P) w base t ty e i0 z m bytes ht hi hz0 hz1 hz2 hzc hm0 v 0 [] hown ad n c cs hcl
   (fun j u hj=>by
    obtain ⟨g,off,e1,h4⟩:=hc j u hj
    cases e1
    have ha:(⟨g,off,none⟩:Addr).add j=⟨g,off+j,none⟩:=by cases j<;>simp [Addr.add]
    rw [ha,h4]) h1 (by unfold maxLen;omega) (by omega) hbase
  refine ⟨v',w',hr,?_,h3,h5⟩;rw [Nat.zero_add,List.nil_append] at h2;exact h2
theorem zee {P:Program}(w:World){o:Oper}{a:Act}{K:Act->World->Prop}{Q:Exit->Act->World->Prop}(s x:Operand)(t:TypeId)
  (ho:o.op=.call { callee:=.builtin .append,args:=#[s,x],argTypes:=#[t,t] }) (base:Nat) (e:TypeId) (ht:P.underlying t=some (.slice e)) (z:Value) (m bytes:Nat)
  (hi:(P.info? e).map (fun i=>(i.zero,i.size,i.bytes))=some (some z,m,bytes)) (hzc:z.cells.size=m) (hm0:0 < m) (hby:bytes<=640) (v:Value) (hs:a.eval s=v) (hown:w.ownsRow base e m v 0 [])
  (hbase:base<=w.heap.size) (u:Value) (hu:a.eval x=u) (n:Nat) (cs:List Value) (hx:RC w u n cs) (hcl:cs.length=n * m) (h1:∀ u∈cs,u.oneCell'=true) (hl:n<=100000000000)
  (h:∀ v' w',w'.ownsRow base e m v' n cs->w.grownBy w' v.ownBlock->(v'.ownBlock=v.ownBlock\/v'.ownBlock=some w.heap.size)->K (a.put o.dst v') w'):o.wp P a w K Q:=by
 obtain ⟨v',w',hr,h2,h3,h4⟩:=zb1 (P:=P) w t o.type base e ht z m bytes hi hzc hm0 hby v hown hbase u n cs hx hcl h1 hl;unfold Oper.wp execOp;simp only [ho,resolve,invoke,builtin,Sem.run_bind,Sem.run_pure,Result.andThen_ok,List.map_toArray,List.map_cons,List.map_nil,hs,hu,hr];exact h v' w' h2 h3 h4
theorem zah {P:Program}(w:World){ops:Array Oper}{rest:List Oper}{o:Oper}{a:Act}{Q:Exit->Act->World->Prop}(hgd:o.guard=none)(s x:Operand)(t:TypeId)
  (ho:o.op=.call { callee:=.builtin .append,args:=#[s,x],argTypes:=#[t,t] }) (base:Nat) (e:TypeId) (ht:P.underlying t=some (.slice e)) (z:Value) (m bytes:Nat)
  (hi:(P.info? e).map (fun i=>(i.zero,i.size,i.bytes))=some (some z,m,bytes)) (hzc:z.cells.size=m) (hm0:0 < m) (hby:bytes<=640) (v:Value) (hs:a.eval s=v) (hown:w.ownsRow base e m v 0 [])
  (hbase:base<=w.heap.size) (u:Value) (hu:a.eval x=u) (n:Nat) (cs:List Value) (hx:RC w u n cs) (hcl:cs.length=n * m) (h1:∀ u∈cs,u.oneCell'=true) (hl:n<=100000000000)
  (h:∀ v' w',w'.ownsRow base e m v' n cs->w.grownBy w' v.ownBlock->(v'.ownBlock=v.ownBlock\/v'.ownBlock=some w.heap.size)->wpList P ops Q rest (a.put o.dst v') w'):wpList P ops Q (o :: rest) a w :=
 wpList_plain hgd fun _ hK=>zee w s x t ho base e ht z m bytes hi hzc hm0 hby v hs hown hbase u hu n cs hx hcl h1 hl fun v' w' a b c=>hK _ _ (h v' w' a b c)
theorem zdm {P:Program}(w:World)(t ty:TypeId)(base:Nat)(e:TypeId)(ht:P.underlying t=some (.slice e))(z:Value)(m bytes:Nat)
  (hi:(P.info? e).map (fun i=>(i.zero,i.size,i.bytes))=some (some z,m,bytes)) (hzc:z.cells.size=m) (hm0:0 < m) (hby:bytes<=640) (ao:Option Addr) (hown:w.ownsRow base e m (.slice ao 0 0) 0 [])
  (hbase:base<=w.heap.size) (x:Value) (n:Nat) (cs:List Value) (hx:RC w x n cs) (hcl:cs.length=n * m) (h1:∀ u∈cs,u.oneCell'=true) (hl:n<=100000000000) :
  ∃ v' w',(Builtin.append_ #[t,t] ty #[.slice ao 0 0,x]).run P w=.ok v' w'/\w'.ownsRow base e m v' n cs/\Below w.heap.size w w'/\(v'.ownBlock=(Value.slice ao 0 0).ownBlock\/v'.ownBlock=some w.heap.size):=by
 obtain ⟨v',w',hr,h2,h3,h4⟩:=zb1 (P:=P) w t ty base e ht z m bytes hi hzc hm0 hby _ hown hbase x n cs hx hcl h1 hl;refine ⟨v',w',hr,h2,?_,h4⟩;obtain ⟨i0,hi0,hz0,hz1,hz2⟩:=info_parts hi;obtain ⟨a,c,rfl,hc⟩:=hx;have same:w'=w->Below w.heap.size w w':=fun e=>e ▸ Below.refl _ _
 cases a with
 | none =>
  have hx0:cs=[]:=by
   exact cQ134
  subst hx0;have hn:n=0:=by
   exact cQ126
  subst hn;have hr2:=run_append_nothing (P:=P) w t t ty e i0 ht hi0 ao 0 0 (Nat.zero_le _) (.slice none 0 c) (Src.ofNil w ht c);rw [hr2] at hr;simp only [Result.ok.injEq] at hr;exact same hr.2.symm
 | some ad =>
  have hnews:∀ j u,cs[j]?=some u->w.cell? (ad.add j)=some u:=fun j u hj=>by
   obtain ⟨g,off,e1,h4⟩:=hc j u hj
   cases e1
   have ha:(⟨g,off,none⟩:Addr).add j=⟨g,off+j,none⟩:=by cases j<;>simp [Addr.add]
   rw [ha,h4]
  subst hz1;by_cases hn:n=0
  ·subst hn;have hx0:cs=[]:=List.eq_nil_of_length_eq_zero (by simpa using hcl);subst hx0;have hs:Src P i0.size t (.slice (some ad) 0 c) 0 [] w:=Src.ofSlice w ht ad 0 c [] (by simp) (by simp) (by simp);have hr2:=run_append_nothing (P:=P) w t t ty e i0 ht hi0 ao 0 0 (Nat.zero_le _) (.slice (some ad) 0 c) hs;rw [hr2] at hr;simp only [Result.ok.injEq] at hr;exact same hr.2.symm
  ·have hs:Src P i0.size t (.slice (some ad) n c) n cs w:=Src.ofSlice w ht ad n c cs hcl hnews h1;have h63:(0+n) * i0.bytes<=100000000000 * 640:=Nat.mul_le_mul (by omega) (by rw [hz2];exact hby);have hr2:=run_append_grow_src (P:=P) w t t ty e i0 z ht hi0 hz0 ao 0 0 [] (by cases ao<;>simp [Builtin.firstCells,loadCells,loadCellsFrom]) (.slice (some ad) n c) n cs hs (by omega) (by omega) (growslice_fits (by omega) (by omega));rw [hr2] at hr;simp only [Result.ok.injEq] at hr;rw [← hr.2];exact (Below.refl _ w).drew.alloc nR _
theorem zdr {P:Program}(w:World){o:Oper}{a:Act}{K:Act->World->Prop}{Q:Exit->Act->World->Prop}(s x:Operand)(t:TypeId)
  (ho:o.op=.call { callee:=.builtin .append,args:=#[s,x],argTypes:=#[t,t] }) (base:Nat) (e:TypeId) (ht:P.underlying t=some (.slice e)) (z:Value) (m bytes:Nat)
  (hi:(P.info? e).map (fun i=>(i.zero,i.size,i.bytes))=some (some z,m,bytes)) (hzc:z.cells.size=m) (hm0:0 < m) (hby:bytes<=640) (ao:Option Addr) (hs:a.eval s=.slice ao 0 0) (hown:w.ownsRow base e m (.slice ao 0 0) 0 [])
  (hbase:base<=w.heap.size) (u:Value) (hu:a.eval x=u) (n:Nat) (cs:List Value) (hx:RC w u n cs) (hcl:cs.length=n * m) (h1:∀ u∈cs,u.oneCell'=true) (hl:n<=100000000000)
  (h:∀ v' w',w'.ownsRow base e m v' n cs->Below w.heap.size w w'->(v'.ownBlock=(Value.slice ao 0 0).ownBlock\/v'.ownBlock=some w.heap.size)->K (a.put o.dst v') w'):o.wp P a w K Q:=by
 obtain ⟨v',w',hr,h2,h3,h4⟩:=zdm (P:=P) w t o.type base e ht z m bytes hi hzc hm0 hby ao hown hbase u n cs hx hcl h1 hl;unfold Oper.wp execOp;simp only [ho,resolve,invoke,builtin,Sem.run_bind,Sem.run_pure,Result.andThen_ok,List.map_toArray,List.map_cons,List.map_nil,hs,hu,hr];exact h v' w' h2 h3 h4
theorem za3 {P:Program}(w:World){ops:Array Oper}{o:Oper}{a:Act}{K:Act->World->Prop}{Q:Exit->Act->World->Prop}{E:Prop}(hgd:o.guard=none)(s x:Operand)(t:TypeId)
  (ho:o.op=.call { callee:=.builtin .append,args:=#[s,x],argTypes:=#[t,t] }) (base:Nat) (e:TypeId) (ht:P.underlying t=some (.slice e)) (z:Value) (m bytes:Nat)
  (hi:(P.info? e).map (fun i=>(i.zero,i.size,i.bytes))=some (some z,m,bytes)) (hzc:z.cells.size=m) (hm0:0 < m) (hby:bytes<=640) (ao:Option Addr) (hs:a.eval s=.slice ao 0 0) (hown:w.ownsRow base e m (.slice ao 0 0) 0 [])
  (hbase:base<=w.heap.size) (u:Value) (hu:a.eval x=u) (n:Nat) (cs:List Value) (hx:RC w u n cs) (hcl:cs.length=n * m) (h1:∀ u∈cs,u.oneCell'=true) (hl:n<=100000000000)
  (h:∀ v' w',w'.ownsRow base e m v' n cs->Below w.heap.size w w'->(v'.ownBlock=(Value.slice ao 0 0).ownBlock\/v'.ownBlock=some w.heap.size)->K (a.put o.dst v') w') :
  if Region.wanted o (yielded ops a.tmps)=true then Oper.wp P o a w K Q else E:=by
 rw [if_pos (by simp [Region.wanted,hgd])];exact zdr w s x t ho base e ht z m bytes hi hzc hm0 hby ao hs hown hbase u hu n cs hx hcl h1 hl h
theorem RFl.rc {w:World}{v:Value}{xs:List Bool}(h:RFl w v xs):RC w v xs.length (fc xs):=by
 obtain ⟨a,c,rfl,h⟩:=h;refine ⟨a,c,rfl,fun j u hj=>?_⟩;have hl:j < xs.length:=by have:=(List.getElem?_eq_some_iff.1 hj).1;rwa [zae] at this
 obtain ⟨g,off,e1,-,e2⟩:=h j hl;have:u=.bool xs[j]:=by simp [fc,hl] at hj;exact hj.symm
 exact ⟨g,off,e1,by rw [e2,this]⟩
theorem RInts.rc {w:World}{v:Value}{xs:List Int}(h:RInts w v xs):RC w v xs.length (ic xs):=by
 obtain ⟨a,c,rfl,h⟩:=h;refine ⟨a,c,rfl,fun j u hj=>?_⟩;have hl:j < xs.length:=by have:=(List.getElem?_eq_some_iff.1 hj).1;rwa [zaf] at this
 obtain ⟨g,off,e1,-,e2⟩:=h j hl;have:u=.int .i64 xs[j]:=by simp [ic,hl] at hj;exact hj.symm
 exact ⟨g,off,e1,by rw [e2,this]⟩
theorem RSl.rc {w:World}{v:Value}{xs:List Sl}(h:RSl w v xs):RC w v xs.length (sc xs):=by
 obtain ⟨a,c,rfl,-,h⟩:=h;refine ⟨a,c,rfl,fun j u hj=>?_⟩;have hl:j < xs.length * 2:=by have:=(List.getElem?_eq_some_iff.1 hj).1;rwa [zcr] at this
 obtain ⟨q,hq⟩:∃ q,q=j / 2:=⟨_,rfl⟩
 have hql:q < xs.length:=by omega
 obtain ⟨g,off,e1,-,e2,e3⟩:=h q hql;have hm:j % 2=0\/j % 2=1:=by omega
 rcases hm with hm | hm
 ·have hj2:j=q * 2:=by omega
  rw [hj2,zim xs q hql] at hj;exact ⟨g,off,e1,by rw [hj2,e2];exact hj⟩
 ·have hj2:j=q * 2+1:=by omega
  rw [hj2,sc_ino xs q hql] at hj;exact ⟨g,off,e1,by rw [hj2,← Nat.add_assoc,e3];exact hj⟩
theorem zio (xs:List Bool):∀ u∈fc xs,u.oneCell'=true:=fun u hu=>by simp only [fc,List.mem_map] at hu;obtain ⟨_,-,rfl⟩:=hu;rfl
theorem zgx (xs:List Int):∀ u∈ic xs,u.oneCell'=true:=fun u hu=>by simp only [ic,List.mem_map] at hu;obtain ⟨_,-,rfl⟩:=hu;rfl
theorem sc_one (xs:List Sl):∀ u∈sc xs,u.oneCell'=true:=by
 induction xs with
 | nil=>intro u hu;cases hu
 | cons s r ih =>
  intro u hu;simp only [sc,List.mem_cons] at hu;rcases hu with rfl | rfl | hu
  ·rfl
  ·rfl
  ·exact ih u hu
theorem RInts.drew {w:World}{v:Value}{xs:List Int}(h:RInts w v xs):RInts w.drew v xs:=h.below (Below.refl w.heap.size w).drew nR
theorem za1 {B:Nat}{w0 w w':World}{v:Value}(hb:Below B w0 w)(hB:B<=w.heap.size)(hg:w.grownBy w' v.ownBlock)(hv:∀ k,v.ownBlock=some k->B<=k):Below B w0 w':=hb.grown hg hB hv
end Kit
namespace Kit
def subs:List Nat->List (List Nat)
 | []=>[[]]
 | x :: r=>subs r ++ (subs r).map fun t=>x :: t
theorem zds (p:Nat->Bool)(js:List Nat):js.filter p∈subs js:=by
 induction js with
 | nil=>simp [subs]
 | cons x r ih =>
  rw [subs,List.mem_append];by_cases h:p x=true
  ·rw [List.filter_cons_of_pos h];exact .inr (List.mem_map.2 ⟨_,ih,rfl⟩)
  ·rw [List.filter_cons_of_neg h];exact .inl ih
def mask (n:Nat) (s:List Nat):Array Bool:=((List.range n).map fun i=>s.contains i).toArray
theorem zdo (n:Nat)(s:List Nat)(j:Nat):(mask n s).setIfInBounds j true=mask n (j :: s):=by
 apply Array.ext
 ·simp [mask]
 ·intro i h1 h2;simp only [mask,Array.size_setIfInBounds,List.size_toArray,List.length_map,List.length_range] at h1;rw [Array.getElem_setIfInBounds (by simpa [mask] using h1)];simp only [mask,List.getElem_toArray,List.getElem_map,List.getElem_range,List.contains_cons];by_cases e:j=i
  ·simp [e]
  ·have e':(i == j)=false:=by simp;omega
   simp [e,e']
theorem zbi (n:Nat)(s s':List Nat)(h:∀ i,i∈s↔i∈s'):mask n s=mask n s':=by
 have e:(fun i=>s.contains i)=fun i=>s'.contains i:=by
  funext i
  have:=h i;by_cases hi:i∈s
  ·simp [hi,this.1 hi]
  ·have:¬ i∈s':=fun q=>hi (this.2 q);simp [hi,this]
 rw [mask,mask,e]
theorem zes (n:Nat):mask n []=Array.replicate n false:=by
 apply Array.ext
 ·simp [mask]
 ·intro i h1 h2;simp [mask]
def upd {α:Type} (x:Nat->α) (j:Nat) (v:α):Nat->α:=fun i=>if i=j then v else x i
theorem zay {α:Type}(x:Nat->α)(j:Nat)(v:α):upd x j v j=v:=if_pos rfl
theorem zas {α:Type}(x:Nat->α)(j i:Nat)(v:α)(h:i≠j):upd x j v i=x i:=if_neg h
structure PI (W0:World) (s:List Nat) (Post:Nat->Nat->Nat->World->Value->Prop) (x:Nat->Value) (iv:Nat->Nat×Nat) (w:World):Prop where
 bel:Below W0.heap.size W0 w
 post:∀ i∈s,Post i (iv i).1 (iv i).2 w (x i)
 lo:∀ i∈s,W0.heap.size<=(iv i).1/\(iv i).1<=(iv i).2/\(iv i).2<=w.heap.size
 apart:∀ i∈s,∀ j∈s,i≠j->(iv i).2<=(iv j).1\/(iv j).2<=(iv i).1
theorem PI.add {W0:World}{s:List Nat}{Post:Nat->Nat->Nat->World->Value->Prop}{x:Nat->Value}{iv:Nat->Nat×Nat}{w w':World}{j:Nat}{v:Value}(h:PI W0 s Post x iv w)
  (stable:∀ i lo hi w w' v,Post i lo hi w v->Below w.heap.size w w'->Post i lo hi w' v) (hj:¬ j∈s) (hb:Below w.heap.size w w') (hp:Post j w.heap.size w'.heap.size w' v) :
  PI W0 (j :: s) Post (upd x j v) (upd iv j (w.heap.size,w'.heap.size)) w':=by
 have hs:=h.bel.size;have hs2:=hb.size;have ne:∀ i∈s,i≠j:=fun i hi e=>hj (e ▸ hi);refine ⟨h.bel.trans (hb.mono hs),fun i hi=>?_,fun i hi=>?_,fun i hi k hk hne=>?_⟩
 ·rcases List.mem_cons.1 hi with rfl | hi
  ·rw [zay,zay];exact hp
  ·rw [zas _ _ _ _ (ne i hi),zas _ _ _ _ (ne i hi)];exact stable _ _ _ _ _ _ (h.post i hi) hb
 ·exact cQ96
 ·rcases List.mem_cons.1 hi with ei | hi2
  ·exact cQ92
  ·rcases List.mem_cons.1 hk with ek | hk2
   ·rw [ek,zay,zas _ _ _ _ (ne i hi2)];exact .inl (h.lo i hi2).2.2
   ·replace hi:=hi2
    replace hk:=hk2
    rw [zas _ _ _ _ (ne i hi),zas _ _ _ _ (ne k hk)];exact h.apart i hi k hk hne
theorem PI.of_mem {W0:World}{s s':List Nat}{Post:Nat->Nat->Nat->World->Value->Prop}{x:Nat->Value}{iv:Nat->Nat×Nat}{w:World}(h:PI W0 s Post x iv w)(hs:∀ i∈s',i∈s):PI W0 s' Post x iv w :=
 ⟨h.bel,fun i hi=>h.post i (hs i hi),fun i hi=>h.lo i (hs i hi),fun i hi j hj=>h.apart i (hs i hi) j (hs j hj)⟩
def zc1 (md:Region.Mode) (ops:Array Oper) (t:List Nat):Bool:=t.all fun i=>match ops[i]? with | some o=>o.after.all fun e=>!Region.binds md e || t.contains e.on | none=>true
def zcd (md:Region.Mode) (ops:Array Oper) (js:List Nat):Bool :=
 (subs js).all fun t=>t == js || !zc1 md ops t || (!(Region.ready md ops (mask ops.size t)).isEmpty && (Region.ready md ops (mask ops.size t)).all fun i=>js.contains i && !t.contains i)
def zby (md:Region.Mode) (ops:Array Oper):List Nat->List Nat->Bool
 | s,[]=>(Region.ready md ops (mask ops.size s)).isEmpty
 | s,i :: r=>(Region.ready md ops (mask ops.size s) == [i]) && (ops[i]?).isSome && zby md ops (i :: s) r
section
variable {P : Program} {ops : Array Oper} {Q : Exit -> Act -> World -> Prop} {md : Region.Mode}
theorem zbs:∀ (line s:List Nat) (fuel:Nat) (a:Act) (w:World),zby md ops s line=true->line.length<=fuel->wpList P ops Q (line.filterMap fun i=>ops[i]?) a w->wpAny P md ops Q fuel (mask ops.size s) a w
 | [],s,fuel,a,w,h,_,hw=>wpAny_done (by simpa [zby] using h) (by simpa [wpList] using hw) fuel
 | i :: r,s,0,a,w,_,hl,_=>by simp at hl
 | i :: r,s,fuel+1,a,w,h,hl,hw=>by
  simp only [zby,Bool.and_eq_true,beq_iff_eq] at h;obtain ⟨⟨h1,h2⟩,h3⟩:=h;obtain ⟨o,ho⟩:=Option.isSome_iff_exists.1 h2;have ih:=fun a w hw=>zbs r (i :: s) fuel a w h3 (by simpa using hl) hw;refine wpAny_all h1 (by simp) fun j hj=>?_;obtain rfl:j=i:=by simpa using hj
  rw [zdo];have hw':wpList P ops Q (o :: r.filterMap fun i=>ops[i]?) a w:=by simpa [ho] using hw
  refine wpOp_mono (fun a w=>ih a w) ?_;unfold wpOp;rw [ho];exact hw'
theorem zbl {n:Nat}{s:List Nat}{j:Nat}(h:j∈Region.ready md ops (mask n s)){o:Oper}(ho:ops[j]?=some o){k:Nat}(he:∃ e∈o.after,e.on=k/\Region.binds md e=true):k∈s:=by
 obtain ⟨-,o',ho',hall⟩:=mem_ready.1 h;rw [ho] at ho'
 cases ho'
 obtain ⟨e,he1,rfl,he2⟩:=he;have:=hall e he1 he2;rw [mask] at this;by_cases hn:e.on < n
 ·simpa [Array.getD,hn] using this
 ·simp [Array.getD,hn] at this
theorem zfg (js:List Nat)(fuel:Nat)(act:(Nat->Value)->Act)(W0:World)(Post:Nat->Nat->Nat->World->Value->Prop)(Inv:List Nat->(Nat->Value)->World->Prop)
  (stable:∀ i lo hi w w' v,Post i lo hi w v->Below w.heap.size w w'->Post i lo hi w' v) (ok:zcd md ops js=true)
  (prod:∀ j∈js,∀ s x iv W,j∈Region.ready md ops (mask ops.size s)->¬ j∈s->PI W0 s Post x iv W->Inv s x W->∀ K:Act->World->Prop,(∀ v W',Below W.heap.size W W'->Post j W.heap.size W'.heap.size W' v->Inv (j :: s) (upd x j v) W'->K (act (upd x j v)) W')->wpOp P ops Q j K (act x) W)
  (rest:∀ s x iv W f,fuel<=f->(∀ i∈js,i∈s)->PI W0 js Post x iv W->Inv s x W->wpAny P md ops Q f (mask ops.size js) (act x) W) :
  ∀ (m f:Nat) (s:List Nat) (x:Nat->Value) (iv:Nat->Nat×Nat) (W:World),(js.filter fun i=>!s.contains i).length<=m->fuel<=f->(∀ i∈s,i∈js)->(∀ i∈s,∀ o,ops[i]?=some o->∀ e∈o.after,Region.binds md e=true->e.on∈s)->PI W0 s Post x iv W->Inv s x W->wpAny P md ops Q (f+m) (mask ops.size s) (act x) W:=by
 intro m
 induction m with
 | zero =>
  intro f s x iv W hc hf hs hcl hp hv;have hall:∀ i∈js,i∈s:=fun i hi=>by
   exact cQ75
  rw [zbi ops.size s js fun i=>⟨hs i,hall i⟩];exact rest s x iv W (f+0) (by omega) hall (hp.of_mem hall) hv
 | succ m ih =>
  intro f s x iv W hc hf hs hcl hp hv;by_cases hall:∀ i∈js,i∈s
  ·rw [zbi ops.size s js fun i=>⟨hs i,hall i⟩];exact rest s x iv W _ (by omega) hall (hp.of_mem hall) hv
  ·have hmask:mask ops.size s=mask ops.size (js.filter fun i=>s.contains i):=zbi _ _ _ fun i=>⟨fun h=>List.mem_filter.2 ⟨hs i h,by simpa using h⟩,fun h=>by simpa using (List.mem_filter.1 h).2⟩
   have hk:=List.all_eq_true.1 ok _ (zds (fun i=>s.contains i) js);have hne:((js.filter fun i=>s.contains i) == js)=false:=by
    exact cQ101
   have hclo:zc1 md ops (js.filter fun i=>s.contains i)=true:=by
    exact cQ51
   rw [hne,hclo,Bool.false_or,Bool.not_true,Bool.false_or,Bool.and_eq_true] at hk;obtain ⟨h1,h2⟩:=hk;rw [← hmask] at h1 h2;refine wpAny_all rfl (by intro e;rw [e] at h1;simp at h1) fun j hj=>?_;have hj2:=List.all_eq_true.1 h2 j hj;simp only [Bool.and_eq_true,List.contains_iff_mem,Bool.not_eq_true'] at hj2;have hjs:j∈js:=by simpa using hj2.1
   have hjn:¬ j∈s:=fun h=>by
    exact cQ109
   rw [zdo];refine prod j hjs s x iv W hj hjn hp hv _ fun v W' hb hpo hv'=>ih f (j :: s) _ _ W' ?_ hf (fun i hi=>(List.mem_cons.1 hi).elim (fun e=>e ▸ hjs) (hs i)) (fun i hi o ho e he hbi=>List.mem_cons_of_mem _ ((List.mem_cons.1 hi).elim (fun q=>by subst q;exact zbl hj ho ⟨e,he,rfl,hbi⟩) (fun q=>hcl i q o ho e he hbi))) (hp.add stable hjn hb hpo) hv';have hlt:(js.filter fun i=>!(j :: s).contains i).length < (js.filter fun i=>!s.contains i).length:=by
    exact cQ49
   omega
theorem zbz {id:Nat}{w:World}{a0:Act}(hm:P.follows .mixedOrders=true)(js line:List Nat)(act:(Nat->Value)->Act)(x0:Nat->Value)(ha:a0=act x0)(Post:Nat->Nat->Nat->World->Value->Prop)(Inv:List Nat->(Nat->Value)->World->Prop)
  (stable:∀ i lo hi w w' v,Post i lo hi w v->Below w.heap.size w w'->Post i lo hi w' v) (ok:zcd .any ops js=true) (okl:zby .any ops js line=true) (hsz:line.length+js.length=ops.size) (hv:Inv [] x0 w.drew)
  (prod:∀ j∈js,∀ s x iv W,j∈Region.ready .any ops (mask ops.size s)->¬ j∈s->PI w.drew s Post x iv W->Inv s x W->∀ K:Act->World->Prop,(∀ v W',Below W.heap.size W W'->Post j W.heap.size W'.heap.size W' v->Inv (j :: s) (upd x j v) W'->K (act (upd x j v)) W')->wpOp P ops Q j K (act x) W)
  (rest:∀ s x iv W,(∀ i∈js,i∈s)->PI w.drew js Post x iv W->Inv s x W->wpList P ops Q (line.filterMap fun i=>ops[i]?) (act x) W):(Code.region id ops true).wp P Q a0 w:=by
 subst ha;refine wp_region_any hm ?_;have h:=zfg (P:=P) (Q:=Q) (md:=.any) js line.length act w.drew Post Inv stable ok prod (fun s x iv W f hf hs hp hi=>zbs line js f (act x) W okl hf (rest s x iv W hs hp hi)) js.length line.length [] x0 (fun _=>(0,0)) w.drew (List.length_filter_le _ _) nR (fun i hi=>by cases hi) (fun i hi=>by cases hi) ⟨Below.refl _ _,(fun i hi=>by cases hi),(fun i hi=>by cases hi),(fun i hi=>by cases hi)⟩ hv;rw [hsz,zes] at h;exact h
end
end Kit
namespace Kit
structure PX (W0:World) (s:List Nat) (Po:Nat->Nat->Nat->World->(Nat->Value)->Prop) (x:Nat->Value) (iv:Nat->Nat×Nat) (w:World):Prop where
 bel:Below W0.heap.size W0 w
 post:∀ i∈s,Po i (iv i).1 (iv i).2 w x
 lo:∀ i∈s,W0.heap.size<=(iv i).1/\(iv i).1<=(iv i).2/\(iv i).2<=w.heap.size
 apart:∀ i∈s,∀ j∈s,i≠j->(iv i).2<=(iv j).1\/(iv j).2<=(iv i).1
theorem PX.add {W0:World}{s:List Nat}{Po:Nat->Nat->Nat->World->(Nat->Value)->Prop}{x:Nat->Value}{iv:Nat->Nat×Nat}{w w':World}{j:Nat}{v:Value}(deps:Nat->List Nat)(h:PX W0 s Po x iv w)
  (stable:∀ i lo hi w w' x,Po i lo hi w x->Below w.heap.size w w'->Po i lo hi w' x) (cong:∀ i lo hi w x x',x i=x' i->(∀ k∈deps i,x k=x' k)->Po i lo hi w x->Po i lo hi w x')
  (hcl:∀ i∈s,∀ k∈deps i,k∈s) (hj:¬ j∈s) (hb:Below w.heap.size w w') (hp:Po j w.heap.size w'.heap.size w' (upd x j v)) :
  PX W0 (j :: s) Po (upd x j v) (upd iv j (w.heap.size,w'.heap.size)) w':=by
 have hs:=h.bel.size;have hs2:=hb.size;have ne:∀ i∈s,i≠j:=fun i hi e=>hj (e ▸ hi);refine ⟨h.bel.trans (hb.mono hs),fun i hi=>?_,fun i hi=>?_,fun i hi k hk hne=>?_⟩
 ·rcases List.mem_cons.1 hi with rfl | hi
  ·rw [zay];exact hp
  ·rw [zas _ _ _ _ (ne i hi)];exact cong _ _ _ _ _ _ (zas _ _ _ _ (ne i hi)).symm (fun k hk=>(zas _ _ _ _ (ne k (hcl i hi k hk))).symm) (stable _ _ _ _ _ _ (h.post i hi) hb)
 ·exact cQ96
 ·rcases List.mem_cons.1 hi with ei | hi2
  ·exact cQ92
  ·rcases List.mem_cons.1 hk with ek | hk2
   ·rw [ek,zay,zas _ _ _ _ (ne i hi2)];exact .inl (h.lo i hi2).2.2
   ·rw [zas _ _ _ _ (ne i hi2),zas _ _ _ _ (ne k hk2)];exact h.apart i hi2 k hk2 hne
theorem PX.of_mem {W0:World}{s s':List Nat}{Po:Nat->Nat->Nat->World->(Nat->Value)->Prop}{x:Nat->Value}{iv:Nat->Nat×Nat}{w:World}(h:PX W0 s Po x iv w)(hs:∀ i∈s',i∈s):PX W0 s' Po x iv w :=
 ⟨h.bel,fun i hi=>h.post i (hs i hi),fun i hi=>h.lo i (hs i hi),fun i hi j hj=>h.apart i (hs i hi) j (hs j hj)⟩
def zdb (ops:Array Oper) (js:List Nat) (deps:Nat->List Nat):Bool:=js.all fun j=>match ops[j]? with | some o=>(deps j).all fun k=>o.after.any fun e=>e.on == k && Region.binds .any e | none=>false
section
variable {P : Program} {ops : Array Oper} {Q : Exit -> Act -> World -> Prop}
theorem zcs {id:Nat}{w:World}{a0:Act}(hm:P.follows .mixedOrders=true)(js line:List Nat)(deps:Nat->List Nat)(act:(Nat->Value)->Act)(x0:Nat->Value)(ha:a0=act x0)(Po:Nat->Nat->Nat->World->(Nat->Value)->Prop)
  (stable:∀ i lo hi w w' x,Po i lo hi w x->Below w.heap.size w w'->Po i lo hi w' x) (cong:∀ i lo hi w x x',x i=x' i->(∀ k∈deps i,x k=x' k)->Po i lo hi w x->Po i lo hi w x')
  (ok:zcd .any ops js=true) (okl:zby .any ops js line=true) (okd:zdb ops js deps=true) (hsz:line.length+js.length=ops.size)
  (prod:∀ j∈js,∀ s x iv W,(∀ k∈deps j,k∈s)->PX w.drew s Po x iv W->∀ K:Act->World->Prop,(∀ v W',Below W.heap.size W W'->Po j W.heap.size W'.heap.size W' (upd x j v)->K (act (upd x j v)) W')->wpOp P ops Q j K (act x) W)
  (rest:∀ x iv W,PX w.drew js Po x iv W->wpList P ops Q (line.filterMap fun i=>ops[i]?) (act x) W):(Code.region id ops true).wp P Q a0 w:=by
 have dep:∀ j∈js,∀ s,j∈Region.ready .any ops (mask ops.size s)->∀ k∈deps j,k∈s:=by
  intro j hj s hr k hk;have h:=List.all_eq_true.1 okd j hj
  exact cQ36
 refine zbz hm js line act x0 ha (fun _ _ _ _ _=>True) (fun s x W=>(∀ i∈s,∀ k∈deps i,k∈s)/\∃ iv,PX w.drew s Po x iv W) (fun _ _ _ _ _ _ _ _=>trivial) ok okl hsz ⟨(fun i hi=>by cases hi),fun _=>(0,0),⟨Below.refl _ _,(fun i hi=>by cases hi),(fun i hi=>by cases hi),(fun i hi=>by cases hi)⟩⟩ ?_ ?_
 ·intro j hj s x iv W hr hns _ hI K hK;obtain ⟨hcl,iv2,hp⟩:=hI;have hd:=dep j hj s hr;refine prod j hj s x iv2 W hd hp K fun v W' hb hpo=>hK v W' hb trivial ⟨fun i hi k hk=>?_,_,hp.add deps stable cong hcl hns hb hpo⟩;rcases List.mem_cons.1 hi with rfl | hi
  ·exact List.mem_cons_of_mem _ (hd k hk)
  ·exact List.mem_cons_of_mem _ (hcl i hi k hk)
 ·intro s x iv W hs _ hI;obtain ⟨-,iv2,hp⟩:=hI;exact rest x iv2 W (hp.of_mem hs)
end
end Kit
namespace Kit
structure Mk where
 deps:List Nat
 P:Nat->Nat->World->Value->(Nat->Value)->Prop
 st:∀ lo hi w w' v x,P lo hi w v x->Below w.heap.size w w'->P lo hi w' v x
 cg:∀ lo hi w v x x',(∀ k∈deps,x k=x' k)->P lo hi w v x->P lo hi w v x'
def Mk.triv:Mk:=⟨[],fun _ _ _ _ _=>True,fun _ _ _ _ _ _ _ _=>trivial,fun _ _ _ _ _ _ _ _=>trivial⟩
def Mk.const (deps:List Nat) (C:Value):Mk:=⟨deps,fun _ _ _ v _=>v=C,fun _ _ _ _ _ _ h _=>h,fun _ _ _ _ _ _ _ h=>h⟩
def Mk.val (deps:List Nat) (R:Nat->Nat->World->Value->Prop) (st:∀ lo hi w w' v,R lo hi w v->Below w.heap.size w w'->R lo hi w' v):Mk :=
 ⟨deps,fun lo hi w v _=>R lo hi w v,fun lo hi w w' v _ h hb=>st lo hi w w' v h hb,fun _ _ _ _ _ _ _ h=>h⟩
def Mk.val1 (deps:List Nat) (k:Nat) (hk:k∈deps) (R:Nat->Nat->World->Value->Value->Prop) (st:∀ lo hi w w' u v,R lo hi w u v->Below w.heap.size w w'->R lo hi w' u v):Mk :=
 ⟨deps,fun lo hi w v x=>R lo hi w (x k) v,fun lo hi w w' v x h hb=>st lo hi w w' (x k) v h hb,fun lo hi w v x x' e h=>by rw [← e k hk];exact h⟩
def actOf (a:Act):List Nat->Nat->(Nat->Value)->Act
 | [],_,_=>a
 | s :: r,i,x=>actOf (a.put (some s) (x i)) r (i+1) x
section
variable {P : Program} {ops : Array Oper} {Q : Exit -> Act -> World -> Prop}
theorem zfh {id:Nat}{w:World}{a0:Act}(hm:P.follows .mixedOrders=true)(js line sl:List Nat)(L:Nat->Mk)(x0:Nat->Value)(ha:a0=actOf a0 sl 0 x0)
  (ok:zcd .any ops js=true) (okl:zby .any ops js line=true) (okd:zdb ops js (fun i=>(L i).deps)=true) (hsz:line.length+js.length=ops.size)
  (prod:∀ j∈js,∀ s x iv W,(∀ k∈(L j).deps,k∈s)->PX w.drew s (fun i lo hi w x=>(L i).P lo hi w (x i) x) x iv W->∀ K:Act->World->Prop,(∀ v W',Below W.heap.size W W'->(L j).P W.heap.size W'.heap.size W' v (upd x j v)->K (actOf a0 sl 0 (upd x j v)) W')->wpOp P ops Q j K (actOf a0 sl 0 x) W)
  (rest:∀ x iv W,PX w.drew js (fun i lo hi w x=>(L i).P lo hi w (x i) x) x iv W->wpList P ops Q (line.filterMap fun i=>ops[i]?) (actOf a0 sl 0 x) W):(Code.region id ops true).wp P Q a0 w :=
 zcs hm js line (fun i=>(L i).deps) (actOf a0 sl 0) x0 ha (fun i lo hi w x=>(L i).P lo hi w (x i) x) (fun i lo hi w w' x h hb=>(L i).st lo hi w w' (x i) x h hb)
  (fun i lo hi w x x' e1 e2 h=>by rw [← e1];exact (L i).cg lo hi w (x i) x x' e2 h) ok okl okd hsz (fun j hj s x iv W hd hp K hK=>prod j hj s x iv W hd hp K fun v W' hb h=>hK v W' hb (by rw [zay];exact h)) rest
theorem zet {id:Nat}{w:World}{a0:Act}(hm:P.follows .mixedOrders=true)(js line sl:List Nat)(L:Nat->Mk)(ha:a0=actOf a0 sl 0 (fun i=>a0.tmps.getD (sl.getD i 0) undef))
  (ok:zcd .any ops js=true) (okl:zby .any ops js line=true) (okd:zdb ops js (fun i=>(L i).deps)=true) (hsz:line.length+js.length=ops.size)
  (prod:∀ j∈js,∀ s x iv W,(∀ k∈(L j).deps,k∈s)->PX w.drew s (fun i lo hi w x=>(L i).P lo hi w (x i) x) x iv W->∀ K:Act->World->Prop,(∀ v W',Below W.heap.size W W'->(L j).P W.heap.size W'.heap.size W' v (upd x j v)->K (actOf a0 sl 0 (upd x j v)) W')->wpOp P ops Q j K (actOf a0 sl 0 x) W)
  (rest:∀ x iv W,PX w.drew js (fun i lo hi w x=>(L i).P lo hi w (x i) x) x iv W->wpList P ops Q (line.filterMap fun i=>ops[i]?) (actOf a0 sl 0 x) W):(Code.region id ops true).wp P Q a0 w :=
 zfh hm js line sl L _ ha ok okl okd hsz prod rest
theorem za4 {id:Nat}{w:World}{a0:Act}(hm:P.follows .mixedOrders=true)(js line:List Nat)(L:Nat->Mk)(act:(Nat->Value)->Act)(x0:Nat->Value)(ha:a0=act x0)
  (ok:zcd .any ops js=true) (okl:zby .any ops js line=true) (okd:zdb ops js (fun i=>(L i).deps)=true) (hsz:line.length+js.length=ops.size)
  (prod:∀ j∈js,∀ s x iv W,(∀ k∈(L j).deps,k∈s)->PX w.drew s (fun i lo hi w x=>(L i).P lo hi w (x i) x) x iv W->∀ K:Act->World->Prop,(∀ v W',Below W.heap.size W W'->(L j).P W.heap.size W'.heap.size W' v (upd x j v)->K (act (upd x j v)) W')->wpOp P ops Q j K (act x) W)
  (rest:∀ x iv W,PX w.drew js (fun i lo hi w x=>(L i).P lo hi w (x i) x) x iv W->wpList P ops Q (line.filterMap fun i=>ops[i]?) (act x) W):(Code.region id ops true).wp P Q a0 w :=
 zcs hm js line (fun i=>(L i).deps) act x0 ha (fun i lo hi w x=>(L i).P lo hi w (x i) x) (fun i lo hi w w' x h hb=>(L i).st lo hi w w' (x i) x h hb)
  (fun i lo hi w x x' e1 e2 h=>by rw [← e1];exact (L i).cg lo hi w (x i) x x' e2 h) ok okl okd hsz (fun j hj s x iv W hd hp K hK=>prod j hj s x iv W hd hp K fun v W' hb h=>hK v W' hb (by rw [zay];exact h)) rest
end
end Kit
open Go.Shelf
def Tryz.laysM316_ren:Go.Shelf.Ren:=⟨fun | 316=>41 | n=>n,fun | 9=>9 | 3=>3 | 4=>4 | 37=>22 | 0=>0 | 127=>118 | 5=>5 | n=>n,fun | n=>n⟩
theorem Tryz.laysM316:Go.Proofs.LaysM.n316 Tryz.prog Tryz.laysM316_ren:={
 mixed:=by kernel_rfl
 f316:=Tryz.func41.trans (congrArg some (by kernel_rfl))
 t0:=Tryz.underlying0
 a0:=Tryz.isAgg0
 z0:=Tryz.sizeOf0
 v0:=Tryz.zeroValue0
 t3:=Tryz.underlying3
 a3:=Tryz.isAgg3
 z3:=Tryz.sizeOf3
 v3:=Tryz.zeroValue3
 t4:=Tryz.underlying4
 a4:=Tryz.isAgg4
 z4:=Tryz.sizeOf4
 v4:=Tryz.zeroValue4
 t9:=Tryz.underlying9
 a9:=Tryz.isAgg9
 z9:=Tryz.sizeOf9
 v9:=Tryz.zeroValue9
 t37:=Tryz.underlying22
 a37:=Tryz.isAgg22
 z37:=Tryz.sizeOf22
 v37:=Tryz.zeroValue22
 t127:=Tryz.underlying118
 a127:=Tryz.isAgg118
 z127:=Tryz.sizeOf118
 v127:=Tryz.zeroValue118
 t5:=Tryz.underlying5
 a5:=Tryz.isAgg5
 z5:=Tryz.sizeOf5
 v5:=Tryz.zeroValue5
 i0:=by kernel_rfl
 i3:=by kernel_rfl
 i4:=by kernel_rfl
 i5:=by kernel_rfl
 i9:=by kernel_rfl
 i37:=by kernel_rfl
 i127:=by kernel_rfl }
open Go.RowKit in
theorem Tryz.stringslite_Clone (s:ByteArray)(w:World)(hlim:s.size<=281474976710656) :
  Calls Tryz.prog 41 #[.string s] w fun e w'=>e=.returned (.string s)/\Below w.heap.size w w':=Any.stringslite_Clone Tryz.laysM316 s w hlim
theorem newI_any (v:Value)(xs:List Int)(w:World)(h:RInts w v xs)(hl:xs.length<=1048576) :
  Calls Tryz.prog 17 #[v] w fun e w'=>∃ u,e=.returned u/\ROwns w' w.heap.size 3 u (ic xs)/\Below w.heap.size w w':=by
 have HR:=hide h;have HL:Hid (xs.length<=100000000000):=Nat.le_trans hl (by decide);clear h hl;go_enter Tryz.func17,Tryz.ntmps17
 go_wp2_with (at_builtin;refine zah _ rfl _ _ 35 rfl w.heap.size 3 Tryz.underlying35 _ 1 8 Tryz.i3 rfl (by decide) (by decide) _ rfl (World.ownsRow_nil _ _ _ _) nR _ rfl xs.length (ic xs) HR.out.rc (by rw [zaf,Nat.mul_one]) (zgx xs) HL.out ?_;intro v' w1 R1 R2 R3)
 have HX:Hid (ROwns w1 w.heap.size 3 v' (ic xs)/\Below w.heap.size w w1):=⟨by unfold ROwns;rw [zaf];exact R1,za1 bR nR R2 (fun k hk=>by cases hk)⟩
 clear R1 R2 R3;go_wp2;go_ret;exact ⟨_,rfl,HX.out.1,HX.out.2⟩
theorem newS_any (v:Value)(xs:List Sl)(w:World)(h:RSl w v xs)(hl:xs.length<=1048576) :
  Calls Tryz.prog 34 #[v] w fun e w'=>∃ u,e=.returned u/\SOwns w' w.heap.size 49 u xs/\Below w.heap.size w w':=by
 have HR:=hide h;have HL:Hid (xs.length<=100000000000):=Nat.le_trans hl (by decide);clear h hl;go_enter Tryz.func34,Tryz.ntmps34
 go_wp2_with (at_builtin;refine zah _ rfl _ _ 42 rfl w.heap.size 49 Tryz.underlying42 _ 2 24 Tryz.i49 rfl (by decide) (by decide) _ rfl (World.ownsRow_nil _ _ _ _) nR _ rfl xs.length (sc xs) HR.out.rc (zcr xs) (sc_one xs) HL.out ?_;intro v' w1 R1 R2 R3)
 have HX:Hid (SOwns w1 w.heap.size 49 v' xs/\Below w.heap.size w w1):=⟨R1,za1 bR nR R2 (fun k hk=>by cases hk)⟩
 clear R1 R2 R3;go_wp2;go_ret;exact ⟨_,rfl,HX.out.1,HX.out.2⟩
theorem zdt (s:ByteArray)(w:World)(h:s.size<=281474976710656) :
  Calls Tryz.prog 33 #[.string s] w fun e w'=>e=.returned (.string s)/\Below w.heap.size w w':=by
 go_enter Tryz.func33,Tryz.ntmps33
 go_wp2_with (go_at_call 41;refine (Tryz.stringslite_Clone _ _ h).mono ?_;rintro e w1 ⟨rfl,hb⟩)
 go_ret;exact ⟨rfl,hb⟩
namespace Kit
theorem ziq (w:World)(A B:Obj)(e:TypeId)(m:Nat):(((w.alloc A).alloc B).alloc (.cells #[] e)).ownsRow (w.heap.size+1+1) e m (.slice (some ⟨w.heap.size+1+1,0,none⟩) 0 0) 0 []:=by
 have:=World.ownsRow_lit (base:=w.heap.size+1+1) (e:=e) (size:=m) ((w.alloc A).alloc B) #[] 0 (by simp) (Nat.zero_le _) (by simp);simpa using this
theorem zfi (w:World)(A B C:Obj):Below w.heap.size w (((w.alloc A).alloc B).alloc C):=(((Below.refl _ w).alloc nR _).alloc (by simp) _).alloc (by simp;omega) _
theorem AtC.two3 (w:World)(T1 T2:TypeId)(cs ds:Array Value)(C:Obj):AtC (((w.alloc (.cells cs T1)).alloc (.cells ds T2)).alloc C) w.heap.size T1 cs/\AtC (((w.alloc (.cells cs T1)).alloc (.cells ds T2)).alloc C) (w.heap.size+1) T2 ds:=by
 refine ⟨((AtC.new w T1 cs).alloc _).alloc _,?_⟩;have:=(AtC.new (w.alloc (.cells cs T1)) T2 ds).alloc C;simpa using this
theorem zgy {w w1:World}{T e:TypeId}{m n:Nat}{cs Z:Array Value}{ds:List Value}{v':Value}(R1:w1.ownsRow (w.heap.size+1+1) e m v' n ds)
  (R2:(((w.alloc (.cells cs T)).alloc (.cells Z T)).alloc (.cells #[] e)).grownBy w1 (Value.slice (some ⟨w.heap.size+1+1,0,none⟩) 0 0).ownBlock) :
  ∃ a1 c1,v'=.slice a1 n c1/\Below w.heap.size w w1/\AtC w1 w.heap.size T cs/\AtC w1 (w.heap.size+1) T Z:=by
 obtain ⟨k0,k1⟩:=AtC.two3 w T T cs Z (.cells #[] e);obtain ⟨a1,c1,e1⟩:∃ a1 c1,v'=.slice a1 n c1:=by
  exact cQ66
 exact ⟨a1,c1,e1,za1 (zfi w _ _ _) (by simp;omega) R2 (fun k hk=>by simp [Value.ownBlock] at hk;omega),k0.grown R2 (by simp [Value.ownBlock];omega),k1.grown R2 (by simp [Value.ownBlock])⟩
end Kit
theorem zdu (k l:Int)(v:Value)(xs:List Int)(w:World)(hv:RInts w v xs)(hl:xs.length<=1048576) :
  Calls Tryz.prog 22 #[.agg #[.int .i64 k,.int .i64 l,v]] w fun e w'=>∃ u,e=.returned (.agg #[.int .i64 k,.int .i64 l,u])/\ROwns w' w.heap.size 3 u (ic xs)/\Below w.heap.size w w':=by
 have HV:=hide hv;obtain ⟨a,c,rfl,-⟩:=hv;have HL:Hid (xs.length<=100000000000):=Nat.le_trans hl (by decide);clear hl;go_enter Tryz.func22,Tryz.ntmps22
 go_wp2_with (at_builtin;refine zah _ rfl _ _ 35 rfl (w.heap.size+1+1) 3 Tryz.underlying35 _ 1 8 Tryz.i3 rfl (by decide) (by decide) (.slice (some ⟨w.heap.size+1+1,0,none⟩) 0 0) rfl (ziq w _ _ 3 1) (by simp) _ rfl xs.length (ic xs) (((HV.out.alloc _).alloc _).alloc _).rc (by rw [zaf,Nat.mul_one]) (zgx xs) HL.out ?_;intro v' w1 R1 R2 R3;obtain ⟨a1,c1,rfl,B1,K0,K1⟩:=zgy R1 R2;have p0:w1.cell? ⟨w.heap.size,0,none⟩=some (.int .i64 k):=K0.cell 0;have p1:w1.cell? ⟨w.heap.size,1,none⟩=some (.int .i64 l):=K0.cell 1;have p2:w1.cell? ⟨w.heap.size,2,none⟩=some (.slice a xs.length c):=K0.cell 2;have y2:=K0.frozen 2;have q0:w1.cell? ⟨w.heap.size+1,0,none⟩=some (.int .i64 0):=K1.cell 0;have q1:w1.cell? ⟨w.heap.size+1,1,none⟩=some (.int .i64 0):=K1.cell 1;have q2:w1.cell? ⟨w.heap.size+1,2,none⟩=some (.slice none 0 0):=K1.cell 2;have z0:=K1.frozen 0;have z1:=K1.frozen 1;have z2:=K1.frozen 2;have HR:=hide R1;have HB:=hide B1;clear R1 R2 R3 K0 K1 B1)
 have HO:Hid (ROwns w1 (w.heap.size+1+1) 3 (.slice a1 xs.length c1) (ic xs)):=by show ROwns _ _ _ _ _;unfold ROwns;rw [zaf];exact HR.out
 refine bodyPost_ret (v:=.agg #[.int .i64 k,.int .i64 l,.slice a1 xs.length c1]) (by simp [results,go_sem,q0,q1,q2]) rfl ⟨_,rfl,?_,?_⟩
 ·exact ((((((HO.out.setCell_other (by omega) _).setCell_other (by omega) _).setCell_other (by omega) _).setCell_other (by omega) _)).base_le (by omega))
 ·exact cQ125
theorem zfj (d:Bool)(t:ByteArray)(v:Value)(xs:List Sl)(w:World)(hv:RSl w v xs)(hl:xs.length<=1048576) :
  Calls Tryz.prog 26 #[.agg #[.bool d,v,.string t]] w fun e w'=>∃ u,e=.returned (.agg #[.bool d,u,.string t])/\SOwns w' w.heap.size 49 u xs/\Below w.heap.size w w':=by
 have HV:=hide hv;obtain ⟨a,c,rfl,-⟩:=hv;have HL:Hid (xs.length<=100000000000):=Nat.le_trans hl (by decide);clear hl;go_enter Tryz.func26,Tryz.ntmps26
 go_wp2_with (at_builtin;refine zah _ rfl _ _ 42 rfl (w.heap.size+1+1) 49 Tryz.underlying42 _ 2 24 Tryz.i49 rfl (by decide) (by decide) (.slice (some ⟨w.heap.size+1+1,0,none⟩) 0 0) rfl (ziq w _ _ 49 2) (by simp) _ rfl xs.length (sc xs) (((HV.out.alloc _).alloc _).alloc _).rc (zcr xs) (sc_one xs) HL.out ?_;intro v' w1 R1 R2 R3;obtain ⟨a1,c1,rfl,B1,K0,K1⟩:=zgy R1 R2;have p0:w1.cell? ⟨w.heap.size,0,none⟩=some (.bool d):=K0.cell 0;have p1:w1.cell? ⟨w.heap.size,1,none⟩=some (.slice a xs.length c):=K0.cell 1;have p2:w1.cell? ⟨w.heap.size,2,none⟩=some (.string t):=K0.cell 2;have y2:=K0.frozen 1;have q0:w1.cell? ⟨w.heap.size+1,0,none⟩=some (.bool false):=K1.cell 0;have q1:w1.cell? ⟨w.heap.size+1,1,none⟩=some (.slice none 0 0):=K1.cell 1;have q2:w1.cell? ⟨w.heap.size+1,2,none⟩=some (.string ⟨#[]⟩):=K1.cell 2;have z0:=K1.frozen 0;have z1:=K1.frozen 1;have z2:=K1.frozen 2;have HR:=hide R1;have HB:=hide B1;clear R1 R2 R3 K0 K1 B1)
 have HO:Hid (SOwns w1 (w.heap.size+1+1) 49 (.slice a1 xs.length c1) xs):=HR.out;refine bodyPost_ret (v:=.agg #[.bool d,.slice a1 xs.length c1,.string t]) (by simp [results,go_sem,q0,q1,q2]) rfl ⟨_,rfl,?_,?_⟩
 ·exact ((((((HO.out.setCell_low (by omega) _).setCell_low (by omega) _).setCell_low (by omega) _).setCell_low (by omega) _)).base_le (by omega))
 ·exact cQ125
structure Nb (w w':World) (d:Bool) (t:ByteArray) (u:Value) (xs:List Sl):Prop where
 box:AtC w' w.heap.size 44 #[.bool d,u,.string t]
 res:AtC w' (w.heap.size+1) 44 #[.bool false,.slice none 0 0,.string ⟨#[]⟩]
 own:SOwns w' (w.heap.size+1+1) 49 u xs
 bel:Below w.heap.size w w'
theorem Nb.below {w w' w1:World}{d:Bool}{t:ByteArray}{u:Value}{xs:List Sl}(h:Nb w w' d t u xs)(hb:Below w'.heap.size w' w1):Nb w w1 d t u xs:=⟨h.box.over hb,h.res.over hb,h.own.below hb nR,h.bel.trans (hb.mono h.bel.size)⟩
theorem Nb.set {w w':World}{d:Bool}{t:ByteArray}{g c:Nat}{xs:List Sl}(h:Nb w w' d t (.slice (some ⟨g,0,none⟩) xs.length c) xs)(j:Nat)(hj:j < xs.length):Nb w (w'.setCell ⟨g,j * 2,none⟩ (.string xs[j].1)) d t (.slice (some ⟨g,0,none⟩) xs.length c) xs:=by
 have hg:=(h.own.lt g rfl).1;have h2:=(h.own.set_name j hj xs[j].1).1;have e:xs.set j (xs[j].1,xs[j].2)=xs:=by rw [show (xs[j].1,xs[j].2)=xs[j] from rfl,List.set_getElem_self]
 rw [e] at h2;exact ⟨h.box.other (by omega) _,h.res.other (by omega) _,h2,h.bel.setCell (by show w.heap.size<=g;omega) _⟩
theorem newK_any (d:Bool)(t:ByteArray)(v:Value)(xs:List Sl)(w:World)(hv:RSl w v xs)(hB:bigB 1048576 (d,xs,t)) :
  Calls Tryz.prog 24 #[.agg #[.bool d,v,.string t]] w fun e w'=>∃ u,e=.returned (.agg #[.bool d,u,.string t])/\SOwns w' w.heap.size 49 u xs/\Below w.heap.size w w':=by
 have HV:=hide hv;have HB:=hide hB;obtain ⟨a,c,rfl,-⟩:=hv;have hxl:xs.length<=1048576:=hB.1;clear hB;go_enter Tryz.func24,Tryz.ntmps24
 go_wp2_with fail
 refine (zdt t _ (Nat.le_trans HB.out.2.2 (by decide))).mono ?_;rintro e w1 ⟨rfl,B1⟩;obtain ⟨k0,k1⟩:=AtC.two3 w 44 44 #[.bool d,.slice a xs.length c,.string t] #[.bool false,.slice none 0 0,.string ⟨#[]⟩] (.cells #[] 49);have K0:AtC w1 w.heap.size 44 #[.bool d,.slice a xs.length c,.string t]:=((AtC.new w 44 _).alloc _).over B1;have K1:AtC w1 (w.heap.size+1) 44 #[.bool false,.slice none 0 0,.string ⟨#[]⟩]:=by
  have:=(AtC.new (w.alloc (.cells #[.bool d,.slice a xs.length c,.string t] 44)) 44 #[.bool false,.slice none 0 0,.string ⟨#[]⟩]).over B1;simpa using this
 have BW:Below w.heap.size w w1:=(((Below.refl _ w).alloc nR _).alloc (by simp) _).trans (B1.mono (by simp;omega));have p1:=K0.c1;have p2:=K0.c2;have y2:=K0.frozen 2;have KS:=K0.set 2 (.string t);have HK:Hid (AtC (w1.setCell ⟨w.heap.size,2,none⟩ (.string t)) w.heap.size 44 #[.bool d,.slice a xs.length c,.string t]/\AtC (w1.setCell ⟨w.heap.size,2,none⟩ (.string t)) (w.heap.size+1) 44 #[.bool false,.slice none 0 0,.string ⟨#[]⟩]/\Below w.heap.size w (w1.setCell ⟨w.heap.size,2,none⟩ (.string t))):=⟨K0.set 2 (.string t),K1.other (by omega) _,BW.setCell (by simp) _⟩
 have hsz:w.heap.size+1+1<=w1.heap.size:=by have:=B1.size;simpa using this
 have x1:=HK.out.1;obtain ⟨W1,hW1⟩:∃ W1,w1.setCell ⟨w.heap.size,2,none⟩ (.string t)=W1:=⟨_,rfl⟩
 have hsz1:W1.heap.size=w1.heap.size:=by rw [← hW1];simp
 rw [hW1] at HK x1;have r1:=x1.c1;clear B1 K0 K1 BW KS k0 k1 x1;go_wp2_with fail
 refine (newS_any _ xs _ (HV.out.below HK.out.2.2 nR) HB.out.1).mono ?_;rintro e w2 ⟨u,rfl,O2,B2⟩;obtain ⟨a2,c2,rfl⟩:=O2.rsl.form;have ND:Nb w (w2.setCell ⟨w.heap.size,1,none⟩ (.slice a2 xs.length c2)) d t (.slice a2 xs.length c2) xs:=by
  have O3:SOwns w2 (w.heap.size+1+1) 49 (.slice a2 xs.length c2) xs:=O2.base_le (by omega);exact ⟨(HK.out.1.over B2).set 1 _,(HK.out.2.1.over B2).other (by omega) _,O3.setCell_low (by omega) _,(HK.out.2.2.trans (B2.mono HK.out.2.2.size)).setCell (by simp) _⟩
 have x2:=HK.out.1.over B2;have s1:=x2.c1;have f1:=x2.frozen 1;obtain ⟨W2,hW2⟩:∃ W2,w2.setCell ⟨w.heap.size,1,none⟩ (.slice a2 xs.length c2)=W2:=⟨_,rfl⟩
 rw [hW2] at ND;have HN:=hide ND;have t1:=ND.box.c1;clear x2 O2 B2 ND HK r1 p1 p2 y2 hW1 hsz1 hsz;go_wp2;go_loopw [16] (fun i wr=>∃ j:Nat,j<=xs.length/\i=.int .i64 j/\Hid (Nb w wr d t (.slice a2 xs.length c2) xs)) (fun i _=>xs.length - (intOf i).toNat)
 case atStart=>exact ⟨0,Nat.zero_le _,rfl,HN.out⟩
 case round =>
  obtain ⟨j,hj,rfl,HR⟩:=hrel;by_cases hlt:j < xs.length
  ·obtain ⟨g,c3,e3,m1,m2,m3,m4,m5,-⟩:=HR.out.own.at j hlt;simp only [Value.slice.injEq] at e3;obtain ⟨rfl,-,rfl⟩:=e3;have HZ:Hid (∀ w6,Below (wr.alloc (.cells #[.string xs[j].1,.int .i64 xs[j].2] 49)).heap.size (wr.alloc (.cells #[.string xs[j].1,.int .i64 xs[j].2] 49)) w6->Nb w w6 d t (.slice (some ⟨g,0,none⟩) xs.length c2) xs/\Nb w (w6.setCell ⟨g,j * 2,none⟩ (.string xs[j].1)) d t (.slice (some ⟨g,0,none⟩) xs.length c2) xs/\AtC w6 wr.heap.size 49 #[.string xs[j].1,.int .i64 xs[j].2]/\AtC (w6.setCell ⟨g,j * 2,none⟩ (.string xs[j].1)) wr.heap.size 49 #[.string xs[j].1,.int .i64 xs[j].2]):=fun w6 b6 =>
    have n6:=(HR.out.below ((Below.refl _ wr).alloc nR _)).below b6;have a6:=(AtC.new wr 49 #[.string xs[j].1,.int .i64 xs[j].2]).over b6
    ⟨n6,n6.set j hlt,a6,a6.other (by omega) _⟩
   have HSZ:Hid (xs[j].1.size<=281474976710656):=Nat.le_trans (HB.out.2.1 j hlt) (by decide);obtain ⟨nm,hnm⟩:∃ nm,xs[j].1=nm:=⟨_,rfl⟩
   obtain ⟨z,hz⟩:∃ z,xs[j].2=z:=⟨_,rfl⟩
   rw [hnm] at m1 HZ HSZ;rw [hz] at m2 HZ;have HS:Hid (∀ w6,Below (wr.alloc (.cells #[.string nm,.int .i64 z] 49)).heap.size (wr.alloc (.cells #[.string nm,.int .i64 z] 49)) w6->(w6.cell? ⟨w.heap.size,1,none⟩=some (.slice (some ⟨g,0,none⟩) xs.length c2)/\w6.cell? ⟨wr.heap.size,0,none⟩=some (.string nm))/\((w6.setCell ⟨g,j * 2,none⟩ (.string nm)).cell? ⟨w.heap.size,1,none⟩=some (.slice (some ⟨g,0,none⟩) xs.length c2)/\(w6.setCell ⟨g,j * 2,none⟩ (.string nm)).cell? ⟨wr.heap.size,0,none⟩=some (.string nm))/\w6.cell? ⟨g,j * 2,none⟩=some (.string nm)/\w6.frozen? ⟨g,j * 2,none⟩=false):=fun w6 b6=>by
    obtain ⟨h1,h2,h3,h4⟩:=HZ.out w6 b6;obtain ⟨g',c',e',n1,n2,n3,-⟩:=h1.own.at j hlt;simp only [Value.slice.injEq,Option.some.injEq,Addr.mk.injEq] at e';obtain ⟨⟨rfl,-,-⟩,-,-⟩:=e';rw [hnm] at n1;exact ⟨⟨h1.box.cell 1,h3.cell 0⟩,⟨h2.box.cell 1,h4.cell 0⟩,n1,n3 _⟩
   have b1:=HR.out.box.c1;have j0:(0:Int)<=(j:Int):=by omega
   have j1:(j:Int) < (xs.length:Int):=by omega
   have hbx:=HR.out.box.lt;clear hnm hz m3 HR HV HB t1;go_wp2_with fail
   go_region_held3 (fun w'=>w'.cell? ⟨w.heap.size,1,none⟩=some (.slice (some ⟨g,0,none⟩) xs.length c2)/\w'.cell? ⟨wr.heap.size,0,none⟩=some (.string nm)) (first | exact (HS.out _ bR.drew).1 | exact (HS.out _ (zac B6)).1 | exact (HS.out _ (zac B6)).2.1) ((go_at_call 33;refine (zdt nm _ HSZ.out).mono ?_;rintro e w6 ⟨rfl,B6⟩;obtain ⟨-,-,n1,n2⟩:=HS.out _ (zac B6)))
   have HN6:=hide (HZ.out _ (zac B6)).2.1;clear B6 n1 n2;go_wp2;go_roundw
   case rel=>exact ⟨j+1,by omega,by go_num,HN6.out⟩
   case measure=>simp [intOf];omega
  ·have q0:=HR.out.box.c0;have q1:=HR.out.box.c1;have q2:=HR.out.box.c2;have r0:=HR.out.res.c0;have r1:=HR.out.res.c1;have r2:=HR.out.res.c2;have z0:=HR.out.res.frozen 0;have z1:=HR.out.res.frozen 1;have z2:=HR.out.res.frozen 2;clear t1;go_wp2;refine bodyPost_ret (v:=.agg #[.bool d,.slice a2 xs.length c2,.string t]) (by simp [results,go_sem,r0,r1,r2]) rfl ⟨_,rfl,?_,?_⟩
   ·exact (((HR.out.own.setCell_low (by omega) _).setCell_low (by omega) _).setCell_low (by omega) _).base_le (by omega)
   ·exact ((HR.out.bel.setCell (by simp) _).setCell (by simp) _).setCell (by simp) _
namespace Kit
def MkE (T:TypeId):Mk:=.val [] (fun lo hi w v=>v=.slice (some ⟨lo,0,none⟩) 0 0/\hi=lo+1/\AtC w lo T #[]) (fun _ _ _ _ _ h hb=>⟨h.1,h.2.1,h.2.2.over hb⟩)
def MkC (k j:Nat) (xs:List Bool) (B:Nat):Mk:=.val1 [k,j] k (by simp) (fun lo hi w u v=>∃ a c,v=.slice a xs.length c/\ROwns w B 4 v (fc xs)/\∀ i,v.ownBlock=some i->(lo<=i/\i < hi)\/u.ownBlock=some i)
 (fun _ _ _ _ _ _ h hb=>by obtain ⟨a,c,h1,h2,h3⟩:=h;exact ⟨a,c,h1,h2.below hb nR,h3⟩)
theorem AtC.empty {w:World}{g:Nat}{T:TypeId}(h:AtC w g T #[])(B:Nat)(hB:B<=g)(m:Nat):w.ownsRow B T m (.slice (some ⟨g,0,none⟩) 0 0) 0 [] :=
 ⟨by simp,.inr ⟨g,0,#[],rfl,hB,h,Nat.le_refl _,Nat.zero_le _,by simp,by simp⟩⟩
end Kit
theorem zir (u v:Value)(xs ys:List Bool)(w:World)(hu:RFl w u xs)(hv:RFl w v ys)(hx:xs.length<=1048576)(hy:ys.length<=1048576) :
  Calls Tryz.prog 87 #[.agg #[u,v]] w fun e w'=>∃ u' v',e=.returned (.agg #[u',v'])/\Two w' w.heap.size u' v' xs ys/\Below w.heap.size w w':=by
 have HU:=hide hu;have HV:=hide hv;obtain ⟨a1,c1,rfl,-⟩:=hu;obtain ⟨a2,c2,rfl,-⟩:=hv;have HX:Hid (xs.length<=100000000000):=Nat.le_trans hx (by decide);have HY:Hid (ys.length<=100000000000):=Nat.le_trans hy (by decide);clear hx hy;go_enter Tryz.func87,Tryz.ntmps87
 go_wp2_with fail
 have HC:Hid (∀ W,Below ((w.alloc (.cells #[.slice a1 xs.length c1,.slice a2 ys.length c2] 26)).alloc (.cells #[.slice none 0 0,.slice none 0 0] 26)).drew.heap.size ((w.alloc (.cells #[.slice a1 xs.length c1,.slice a2 ys.length c2] 26)).alloc (.cells #[.slice none 0 0,.slice none 0 0] 26)).drew W->AtC W w.heap.size 26 #[.slice a1 xs.length c1,.slice a2 ys.length c2]/\AtC W (w.heap.size+1) 26 #[.slice none 0 0,.slice none 0 0]/\Below w.heap.size w W/\w.heap.size+1+1<=W.heap.size):=fun W b=>by
  have b2:=zac b;have k1:=(AtC.new (w.alloc (.cells #[.slice a1 xs.length c1,.slice a2 ys.length c2] 26)) 26 #[.slice none 0 0,.slice none 0 0]).over b2;have sz:=b2.size;simp at k1 sz;exact ⟨((AtC.new w 26 _).alloc _).over b2,k1,(((Below.refl _ w).alloc nR _).alloc (by simp) _).trans (b2.mono (by simp;omega)),sz⟩
 refine zet (by kernel_rfl) [0,1,2,3,4,5,6,7] [8,9] [3,4,5,6,7,8,9,10] (fun i=>match i with|0=>MkE 4|1=>.const [] (.pointer (some ⟨w.heap.size,0,none⟩))|2=>.const [1] (.slice a1 xs.length c1)|3=>MkC 0 2 xs (w.heap.size+1+1)|4=>MkE 4|5=>.const [] (.pointer (some ⟨w.heap.size,1,none⟩))|6=>.const [5] (.slice a2 ys.length c2)|7=>MkC 4 6 ys (w.heap.size+1+1)|_=>.triv) (by kernel_rfl) (by kernel_rfl) (by kernel_rfl) (by kernel_rfl) rfl ?_ ?_
 ·intro j hj s x iv W hd hp K hK;simp only [List.mem_cons,List.not_mem_nil,or_false] at hj;rcases hj with rfl|rfl|rfl|rfl|rfl|rfl|rfl|rfl
  ·exact cQ53
  ·refine wpOp_step (o:=_) rfl fun K' hK'=>?_;have HK:=hide (fun v W' h1 h2=>hK' _ _ (hK v W' h1 h2));simp only [actOf];go_simp;have F:=HK.out (.pointer (some ⟨w.heap.size,0,none⟩)) W bR rfl;simp [go_sem,actOf,upd] at F;exact F
  ·refine wpOp_step (o:=_) rfl fun K' hK'=>?_;have HK:=hide (fun v W' h1 h2=>hK' _ _ (hK v W' h1 h2));have e1:x 1=.pointer (some ⟨w.heap.size,0,none⟩):=hp.post 1 (hd 1 mz0);have q0:=(HC.out W hp.bel).1.c0;simp only [actOf];go_simp;have F:=HK.out (.slice a1 xs.length c1) W bR rfl;simp [go_sem,actOf,upd,e1] at F;exact F
  ·refine wpOp_step (o:=_) rfl fun K' hK'=>?_;have HK:=hide (fun v W' h1 h2=>hK' _ _ (hK v W' h1 h2));have e0:x 0=.slice (some ⟨(iv 0).1,0,none⟩) 0 0/\(iv 0).2=(iv 0).1+1/\AtC W (iv 0).1 4 #[]:=hp.post 0 (hd 0 mz0);have e2:x 2=.slice a1 xs.length c1:=hp.post 2 (hd 2 mz1);have bl:=HC.out W hp.bel;have l0:=(hp.lo 0 (hd 0 mz0)).1;simp [World.drew] at l0;obtain ⟨f0,-,A0⟩:=e0;simp only [actOf,Act.put,List.setIfInBounds_toArray,List.set_cons_succ,List.set_cons_zero,Nat.reduceAdd,List.getElem_toArray,List.getElem_cons_succ,List.getElem_cons_zero];refine za3 (a:=⟨_,[]⟩) W rfl (.tmp 3) (.tmp 5) 24 rfl (w.heap.size+1+1) 4 Tryz.underlying24 _ 1 1 Tryz.i4 rfl (by decide) (by decide) (some ⟨(iv 0).1,0,none⟩) (by exact f0) (A0.empty _ (by omega) 1) bl.2.2.2 (.slice a1 xs.length c1) (by exact e2) xs.length (fc xs) (HU.out.below bl.2.2.1 nR).rc (by rw [zae,Nat.mul_one]) (zio xs) HX.out ?_;intro v' w' R1 R2 R3;have O1:ROwns w' (w.heap.size+1+1) 4 v' (fc xs):=by unfold ROwns;rw [zae];exact R1
   obtain ⟨a3,c3,e3⟩:=O1.rfl.form;have F:=HK.out v' w' R2 ⟨a3,c3,e3,O1,fun i hi=>R3.elim (fun e=>.inr (by rw [zas _ _ _ _ (by decide),f0];rw [hi] at e;exact e.symm)) (fun e=>.inl ⟨by rw [hi] at e;cases e;exact Nat.le_refl _,(O1.lt i hi).2⟩)⟩;simp [go_sem,actOf,upd] at F;simp only [Act.put,List.setIfInBounds_toArray,List.set_cons_succ,List.set_cons_zero];exact F
  ·exact cQ53
  ·refine wpOp_step (o:=_) rfl fun K' hK'=>?_;have HK:=hide (fun v W' h1 h2=>hK' _ _ (hK v W' h1 h2));simp only [actOf];go_simp;have F:=HK.out (.pointer (some ⟨w.heap.size,1,none⟩)) W bR rfl;simp [go_sem,actOf,upd] at F;exact F
  ·refine wpOp_step (o:=_) rfl fun K' hK'=>?_;have HK:=hide (fun v W' h1 h2=>hK' _ _ (hK v W' h1 h2));have e5:x 5=.pointer (some ⟨w.heap.size,1,none⟩):=hp.post 5 (hd 5 mz0);have q0:=(HC.out W hp.bel).1.c1;simp only [actOf];go_simp;have F:=HK.out (.slice a2 ys.length c2) W bR rfl;simp [go_sem,actOf,upd,e5] at F;exact F
  ·refine wpOp_step (o:=_) rfl fun K' hK'=>?_;have HK:=hide (fun v W' h1 h2=>hK' _ _ (hK v W' h1 h2));have e4:x 4=.slice (some ⟨(iv 4).1,0,none⟩) 0 0/\(iv 4).2=(iv 4).1+1/\AtC W (iv 4).1 4 #[]:=hp.post 4 (hd 4 mz0);have e6:x 6=.slice a2 ys.length c2:=hp.post 6 (hd 6 mz1);have bl:=HC.out W hp.bel;have l0:=(hp.lo 4 (hd 4 mz0)).1;simp [World.drew] at l0;obtain ⟨f0,-,A0⟩:=e4;simp only [actOf,Act.put,List.setIfInBounds_toArray,List.set_cons_succ,List.set_cons_zero,Nat.reduceAdd,List.getElem_toArray,List.getElem_cons_succ,List.getElem_cons_zero];refine za3 (a:=⟨_,[]⟩) W rfl (.tmp 7) (.tmp 9) 24 rfl (w.heap.size+1+1) 4 Tryz.underlying24 _ 1 1 Tryz.i4 rfl (by decide) (by decide) (some ⟨(iv 4).1,0,none⟩) (by exact f0) (A0.empty _ (by omega) 1) bl.2.2.2 (.slice a2 ys.length c2) (by exact e6) ys.length (fc ys) (HV.out.below bl.2.2.1 nR).rc (by rw [zae,Nat.mul_one]) (zio ys) HY.out ?_;intro v' w' R1 R2 R3;have O1:ROwns w' (w.heap.size+1+1) 4 v' (fc ys):=by unfold ROwns;rw [zae];exact R1
   obtain ⟨a3,c3,e3⟩:=O1.rfl.form;have F:=HK.out v' w' R2 ⟨a3,c3,e3,O1,fun i hi=>R3.elim (fun e=>.inr (by rw [zas _ _ _ _ (by decide),f0];rw [hi] at e;exact e.symm)) (fun e=>.inl ⟨by rw [hi] at e;cases e;exact Nat.le_refl _,(O1.lt i hi).2⟩)⟩;simp [go_sem,actOf,upd] at F;simp only [Act.put,List.setIfInBounds_toArray,List.set_cons_succ,List.set_cons_zero];exact F
 ·intro x iv W hp;obtain ⟨a3,c3,e3,O3,own3⟩:=hp.post 3 (by decide);obtain ⟨a7,c7,e7,O7,own7⟩:=hp.post 7 (by decide);obtain ⟨f0,z0,-⟩:=hp.post 0 (by decide);obtain ⟨f4,z4,-⟩:=hp.post 4 (by decide);have p04:=hp.apart 0 (by decide) 4 (by decide) (by decide);have p07:=hp.apart 0 (by decide) 7 (by decide) (by decide);have p34:=hp.apart 3 (by decide) 4 (by decide) (by decide);have p37:=hp.apart 3 (by decide) 7 (by decide) (by decide);have l3:=(hp.lo 3 (by decide)).2.1;have l7:=(hp.lo 7 (by decide)).2.1;have hne:∀ k,(x 3).ownBlock=some k->(x 7).ownBlock≠some k:=fun k h1 h2=>by
   have q3:=own3 k h1;have q7:=own7 k h2;rw [f0] at q3;rw [f4] at q7;simp only [Value.ownBlock,Option.some.injEq] at q3 q7;omega
  obtain ⟨k0,k1,bel,-⟩:=HC.out W hp.bel;rw [e3] at O3 hne;rw [e7] at O7 hne;have HT:Hid (Two W (w.heap.size+1+1) (.slice a3 xs.length c3) (.slice a7 ys.length c7) xs ys/\Below w.heap.size w W):=⟨⟨O3,O7,hne⟩,bel⟩
  have r0:=k1.c0;have r1:=k1.c1;have z5:=k1.frozen 0;have z6:=k1.frozen 1;clear hp own3 own7 O3 O7 hne k0 k1 bel f0 f4 z0 z4 p04 p07 p34 p37 l3 l7;simp only [actOf,e3,e7];go_wp2_with fail
  rw [List.filterMap_nil];go_wp2;refine bodyPost_ret (v:=.agg #[.slice a3 xs.length c3,.slice a7 ys.length c7]) (by simp [results,go_sem,r0,r1]) rfl ⟨_,_,rfl,?_,?_⟩
  ·exact ((HT.out.1.set_other (by omega) _).set_other (by omega) _).base_le (by omega)
  ·exact (HT.out.2.setCell (by simp) _).setCell (by simp) _
namespace Kit
def noM:Array Value:=#[.slice none 0 0,.slice none 0 0,.slice none 0 0,.slice none 0 0,.slice none 0 0,.slice none 0 0,.int .i64 0]
theorem MO.soP {w:World}{S:Nat->Prop}{u v iv bv dv pv:Value}{m:MD}(h:MO w S u v iv bv dv pv m):∀ k,pv.ownBlock=some k->S k:=by
 obtain ⟨S1,S2,S3,ts,h1,h2,h3,h4,h5,h6,h7⟩:=h;exact fun k hk=>h7 k (.inr (.inr (h4.so k hk)))
theorem MO.appD {w:World}{S:Nat->Prop}{u v iv bv dv pv:Value}{m:MD}(h:MO w S u v iv bv dv pv m) :
  ∃ ts,NOwns w 41 11 pv ts/\ts.length=m.ds.length/\∀ (w1 w2:World) (pv':Value) (t':Row) (x':Dp),Below w.heap.size w w1->KDep.O w1 t' x'->(∀ k,(KDep.p t').ownBlock=some k->w.heap.size<=k) ->
   NOwns w2 41 11 pv' (ts ++ [t'])->w1.grownBy w2 pv.ownBlock->(∀ k,pv'.ownBlock=some k->pv.ownBlock=some k\/w1.heap.size<=k)->MO w2 (fun k=>S k\/w.heap.size<=k) u v iv bv dv pv' { m with ds:=m.ds ++ [x'] }:=by
 obtain ⟨S1,S2,S3,ts,h1,h2,h3,h4,h5,h6,h7⟩:=h.bound;refine ⟨ts,h4.row,h4.len,fun w1 w2 pv' t' x' hb hO hn hr hg hv=>?_⟩;have hsz:=hb.size;have hlow:∀ q,S1 q\/S2 q\/S3 q->q < w.heap.size:=fun q hq=>(h7 q hq).2;have hSS:∀ q,S1 q\/S2 q\/S3 q->S q:=fun q hq=>(h7 q hq).1;have hoth:∀ k,k < w.heap.size->pv.ownBlock≠some k->w2.heap[k]?=w.heap[k]?:=fun k hk hne=>(hg.block k (by omega) (fun e=>hne e.symm)).trans (hb.block k hk);refine ⟨S1,S2,_,_,h1.of_heap fun k hk hlt=>hoth k hlt (fun e=>(h5 k hk).2 (h4.so k e)),h2.of_heap fun k hk=>hoth k (h2.lt k hk).2 (fun e=>h6 k (h3 k hk) (h4.so k e)),h3,h4.append hb hO hn hr hg hv,fun k hk=>⟨(h5 k hk).1,fun e=>?_⟩,fun k hk e=>?_,fun k hk=>?_⟩
 ·rcases e with e | e
  ·exact (h5 k hk).2 e.1
  ·have:=hlow k (.inl hk);omega
 ·rcases e with e | e
  ·exact h6 k hk e.1
  ·have:=hlow k (.inr (.inl hk));omega
 ·rcases hk with hk | hk | hk | hk
  ·exact .inl (hSS k (.inl hk))
  ·exact .inl (hSS k (.inr (.inl hk)))
  ·exact .inl (hSS k (.inr (.inr hk.1)))
  ·exact .inr hk
structure Mz (w w':World) (A:Array Value) (b:Nat) (u v iv bv dv pv:Value) (m:MD):Prop where
 arg:AtC w' w.heap.size 33 A
 res:AtC w' (w.heap.size+1) 33 noM
 box:AtC w' b 33 #[u,v,iv,bv,dv,pv,.int .i64 m.nx]
 own:MO w' (fun k=>w.heap.size+1 < k/\k≠b) u v iv bv dv pv m
 bel:Below w.heap.size w w'
 hb:w.heap.size+1 < b
namespace Mz
variable {w w' w1 : World} {A : Array Value} {b : Nat} {u v iv bv dv pv : Value} {m : MD}
theorem below (h:Mz w w' A b u v iv bv dv pv m)(hb:Below w'.heap.size w' w1):Mz w w1 A b u v iv bv dv pv m :=
 ⟨h.arg.over hb,h.res.over hb,h.box.over hb,h.own.below hb nR,h.bel.trans (hb.mono h.bel.size),h.hb⟩
theorem app (h:Mz w w' A b u v iv bv dv pv m):∃ ts,NOwns w' 41 11 pv ts/\ts.length=m.ds.length/\∀ (w1 w2:World) (pv':Value) (t':Row) (x':Dp),Below w'.heap.size w' w1->KDep.O w1 t' x'->(∀ k,(KDep.p t').ownBlock=some k->w'.heap.size<=k) ->
  NOwns w2 41 11 pv' (ts ++ [t'])->w1.grownBy w2 pv.ownBlock->(∀ k,pv'.ownBlock=some k->pv.ownBlock=some k\/w1.heap.size<=k) ->
  AtC w2 b 33 #[u,v,iv,bv,dv,pv,.int .i64 m.nx]/\Mz w (w2.setCell ⟨b,5,none⟩ pv') A b u v iv bv dv pv' { m with ds:=m.ds ++ [x'] }:=by
 obtain ⟨ts,h1,h2,h3⟩:=h.own.appD;refine ⟨ts,h1,h2,fun w1 w2 pv' t' x' hb hO hn hr hg hv=>?_⟩;have hso:=h.own.soP;have hbs:=h.box.lt;have hsz:=h.bel.size;have hsz1:=hb.size;have hr0:=h.res.lt;have ha0:=h.arg.lt;have e0:AtC w2 w.heap.size 33 A:=(hg.block _ (by omega) (fun e=>by have:=hso _ e.symm;omega)).trans (h.arg.over hb);have e1:AtC w2 (w.heap.size+1) 33 noM:=(hg.block _ (by omega) (fun e=>by have:=hso _ e.symm;omega)).trans (h.res.over hb);have e2:AtC w2 b 33 #[u,v,iv,bv,dv,pv,.int .i64 m.nx]:=(hg.block _ (by omega) (fun e=>by have:=hso _ e.symm;omega)).trans (h.box.over hb);have d:=h3 w1 w2 pv' t' x' hb hO hn hr hg hv;have b2:Below w.heap.size w w2:=(h.bel.trans (hb.mono hsz)).grown hg (by omega) (fun k hk=>by have:=hso k hk;omega);have hbb:=h.hb;refine ⟨e2,⟨e0.other (by omega) _,e1.other (by omega) _,e2.set 5 pv',?_,b2.setCell (by show w.heap.size<=b;omega) _,h.hb⟩⟩;have d2:=d.mono (S':=fun k=>w.heap.size+1 < k/\k≠b) fun k hk=>hk.elim id (fun e=>⟨by omega,by omega⟩);exact d2.of_heap fun k hk _=>heap_setCell_other w2 ⟨b,5,none⟩ k pv' (by show k≠b;omega)
end Mz
def MkD (k:Nat) (xs ys:List Bool) (is:List Ino) (bs:List Blk):Mk:=.val [k] (fun lo hi w v=>∃ a1 c1 a2 c2 a3 c3 a4 c4,v=.agg #[.slice a1 xs.length c1,.slice a2 ys.length c2,.slice a3 is.length c3,.slice a4 bs.length c4]/\DO w (fun q=>lo<=q/\q < hi) (.slice a1 xs.length c1) (.slice a2 ys.length c2) (.slice a3 is.length c3) (.slice a4 bs.length c4) xs ys is bs)
 (fun _ _ _ _ _ h hb=>by obtain ⟨a1,c1,a2,c2,a3,c3,a4,c4,h1,h2⟩:=h;exact ⟨a1,c1,a2,c2,a3,c3,a4,c4,h1,h2.below hb nR⟩)
def MkW (T:TypeId) (Z:Array Value):Mk:=.val [] (fun lo hi w v=>v=.pointer (some ⟨lo,0,none⟩)/\hi=lo+1/\AtC w lo T Z) (fun _ _ _ _ _ h hb=>⟨h.1,h.2.1,h.2.2.over hb⟩)
def MkM3 (k l q n1 n2 n3 n4 n5:Nat) (nx:Int):Mk:=⟨[k,l,q],fun _ _ _ v x=>∃ a1 c1 a2 c2 a3 c3 a4 c4 a5 c5,x k=.agg #[.slice a1 n1 c1,.slice a2 n2 c2,.slice a3 n3 c3,.slice a4 n4 c4]/\x l=.slice a5 n5 c5/\v=.agg #[.slice a1 n1 c1,.slice a2 n2 c2,.slice a3 n3 c3,.slice a4 n4 c4,.slice a5 n5 c5,.slice none 0 0,.int .i64 nx],fun _ _ _ _ _ _ h _=>h,fun _ _ _ _ x x' e h=>by
 obtain ⟨a1,c1,a2,c2,a3,c3,a4,c4,a5,c5,h1,h2,h3⟩:=h;exact ⟨a1,c1,a2,c2,a3,c3,a4,c4,a5,c5,by rw [← e k (by simp),h1],by rw [← e l (by simp),h2],h3⟩⟩
theorem zis {w W:World}{A:Array Value}{b lo hi:Nat}{u v iv bv dv:Value}{m:MD}(hA:AtC W w.heap.size 33 A)(hR:AtC W (w.heap.size+1) 33 noM)(hb:AtC W b 33 noM)(hd:DO W (fun q=>lo<=q/\q < hi) u v iv bv m.xs m.ys m.is m.bs)(hf:ROwns W (w.heap.size+1+1) 4 dv (fc m.fs))
  (hsep:∀ k,dv.ownBlock=some k->(k < lo\/hi<=k)/\k≠b) (hlo:w.heap.size+1 < lo) (hbs:b < lo\/hi<=b) (bel:Below w.heap.size w W) (hbb:w.heap.size+1 < b) (hds:m.ds=[]) :
  Mz w (((((((W.setCell ⟨b,0,none⟩ u).setCell ⟨b,1,none⟩ v).setCell ⟨b,2,none⟩ iv).setCell ⟨b,3,none⟩ bv).setCell ⟨b,4,none⟩ dv).setCell ⟨b,5,none⟩ (.slice none 0 0)).setCell ⟨b,6,none⟩ (.int .i64 m.nx)) A b u v iv bv dv (.slice none 0 0) m:=by
 have hoth:∀ k,k≠b->(((((((W.setCell ⟨b,0,none⟩ u).setCell ⟨b,1,none⟩ v).setCell ⟨b,2,none⟩ iv).setCell ⟨b,3,none⟩ bv).setCell ⟨b,4,none⟩ dv).setCell ⟨b,5,none⟩ (.slice none 0 0)).setCell ⟨b,6,none⟩ (.int .i64 m.nx)).heap[k]?=W.heap[k]?:=fun k hk =>
  ((((((heap_setCell_other _ ⟨b,6,none⟩ k _ hk).trans (heap_setCell_other _ ⟨b,5,none⟩ k _ hk)).trans (heap_setCell_other _ ⟨b,4,none⟩ k _ hk)).trans (heap_setCell_other _ ⟨b,3,none⟩ k _ hk)).trans (heap_setCell_other _ ⟨b,2,none⟩ k _ hk)).trans (heap_setCell_other _ ⟨b,1,none⟩ k _ hk)).trans (heap_setCell_other _ ⟨b,0,none⟩ k _ hk)
 refine ⟨(hoth _ (by omega)).trans hA,(hoth _ (by omega)).trans hR,((((((hb.set 0 u).set 1 v).set 2 iv).set 3 bv).set 4 dv).set 5 (.slice none 0 0)).set 6 (.int .i64 m.nx),?_,((((((bel.setCell (by show w.heap.size<=b;omega) _).setCell (by show w.heap.size<=b;omega) _).setCell (by show w.heap.size<=b;omega) _).setCell (by show w.heap.size<=b;omega) _).setCell (by show w.heap.size<=b;omega) _).setCell (by show w.heap.size<=b;omega) _).setCell (by show w.heap.size<=b;omega) _,hbb⟩;refine ⟨_,fun k=>dv.ownBlock=some k,fun _=>False,[],hd.of_heap fun k hk _=>hoth k (by omega),(hf.of_heap fun k hk=>hoth k (hsep k hk).2).base_le (Nat.zero_le _),fun k hk=>hk,by rw [hds];exact GN.nil _ _,fun k hk=>⟨fun e=>by have:=hsep k e;omega,id⟩,fun k hk e=>e,fun k hk=>?_⟩;rcases hk with hk | hk | hk
 ·exact ⟨by omega,by omega⟩
 ·exact ⟨by have:=hf.lt k hk;omega,(hsep k hk).2⟩
 ·exact hk.elim
end Kit
namespace Kit
theorem TOwns.of_at {w:World}{e:TypeId}{g:Nat}{cs:Array Value}{ts:List V3}(h:AtC w g e cs)(hc:cs.toList=f3 ts)(hm:ts.length<=maxLen):TOwns w e (.slice (some ⟨g,0,none⟩) ts.length ts.length) ts:=by
 have hs:cs.size=ts.length * 3:=by rw [← Array.length_toList,hc,zb0]
 refine ⟨by rw [zb0],.inr ⟨g,ts.length,cs,rfl,Nat.zero_le _,h,Nat.le_refl _,hm,hs,?_⟩⟩;rw [hc,List.take_of_length_le (by rw [zb0];exact Nat.le_refl _)]
theorem GO.of_at {α:Type}{K:Kd α}{w:World}{g n:Nat}{cs:Array Value}{z:V3}{x:α}(h:AtC w g K.T cs)(hc:cs.toList=f3 (List.replicate n z))(hm:n<=maxLen)(hO:K.O w z x)(hz:(K.p z).ownBlock=none) :
  GO K w (fun k=>k=g) (.slice (some ⟨g,0,none⟩) n n) (List.replicate n z) (List.replicate n x):=by
 refine ⟨by simp,?_,fun j hj hj'=>?_,fun i j hi hj _ k e=>?_,fun j hj k e=>?_,fun k e=>?_,fun j hj k e=>?_⟩
 ·have:=TOwns.of_at (ts:=List.replicate n z) h hc (by simpa using hm);simpa using this
 ·simp only [List.getElem_replicate];exact hO
 ·exact cQ59
 ·exact cQ59
 ·simpa [Value.ownBlock] using e.symm
 ·exact cQ59
theorem DO.two {w:World}{S:Nat->Prop}{u v iv bv:Value}{xs ys:List Bool}{is:List Ino}{bs:List Blk}(h:DO w S u v iv bv xs ys is bs):Two w 0 u v xs ys:=by
 obtain ⟨S1,S2,S3,ti,tb,h1,-⟩:=h;exact h1
theorem DO.atI {w:World}{S:Nat->Prop}{u v iv bv:Value}{xs ys:List Bool}{is:List Ino}{bs:List Blk}(h:DO w S u v iv bv xs ys is bs){g n cap:Nat}(hv:iv=.slice (some ⟨g,0,none⟩) n cap)(j:Nat)(hj:j < is.length) :
  (∃ a b p,w.cell? ⟨g,j * 3,none⟩=some (.int .i64 a)/\w.cell? ⟨g,j * 3+1,none⟩=some (.int .i64 b)/\w.cell? ⟨g,j * 3+2,none⟩=some p/\a=is[j].1/\b=is[j].2.1/\RInts w p is[j].2.2)/\(∀ k,w.frozen? ⟨g,k,none⟩=false)/\g < w.heap.size/\n=is.length/\S g:=by
 obtain ⟨S1,S2,S3,ti,tb,h1,-,hi,-,-,-,hU⟩:=h;have hl:=hi.len;obtain ⟨g',c',e',k1,k2,k3,k4,k5,-⟩:=hi.row.at j (by omega);rw [hv] at e';simp only [Value.slice.injEq,Option.some.injEq,Addr.mk.injEq] at e';obtain ⟨⟨rfl,-⟩,hn,-⟩:=e';obtain ⟨i1,i2,i3⟩:=hi.inn j (by omega) hj;exact ⟨⟨_,_,_,by rw [k1,i1],by rw [k2,i2],k3,rfl,rfl,i3.rints⟩,k4,k5,by omega,hU _ (.inr (.inl (hi.so _ (by rw [hv];rfl))))⟩
theorem DO.atB {w:World}{S:Nat->Prop}{u v iv bv:Value}{xs ys:List Bool}{is:List Ino}{bs:List Blk}(h:DO w S u v iv bv xs ys is bs){g n cap:Nat}(hv:bv=.slice (some ⟨g,0,none⟩) n cap)(j:Nat)(hj:j < bs.length) :
  (∃ a p t,w.cell? ⟨g,j * 3,none⟩=some (.bool a)/\w.cell? ⟨g,j * 3+1,none⟩=some p/\w.cell? ⟨g,j * 3+2,none⟩=some (.string t)/\a=bs[j].1/\t=bs[j].2.2/\RSl w p bs[j].2.1)/\(∀ k,w.frozen? ⟨g,k,none⟩=false)/\g < w.heap.size/\n=bs.length/\S g:=by
 obtain ⟨S1,S2,S3,ti,tb,h1,-,-,hi,-,-,hU⟩:=h;have hl:=hi.len;obtain ⟨g',c',e',k1,k2,k3,k4,k5,-⟩:=hi.row.at j (by omega);rw [hv] at e';simp only [Value.slice.injEq,Option.some.injEq,Addr.mk.injEq] at e';obtain ⟨⟨rfl,-⟩,hn,-⟩:=e';obtain ⟨i1,i2,i3⟩:=hi.inn j (by omega) hj;exact ⟨⟨_,_,_,by rw [k1,i1],k2,by rw [k3,i3],rfl,rfl,i2.rsl⟩,k4,k5,by omega,hU _ (.inr (.inr (hi.so _ (by rw [hv];rfl))))⟩
theorem DO.putI {w w1:World}{S:Nat->Prop}{u v iv bv:Value}{xs ys:List Bool}{is:List Ino}{bs:List Blk}(h:DO w S u v iv bv xs ys is bs){g n cap:Nat}(hv:iv=.slice (some ⟨g,0,none⟩) n cap)(j:Nat)(hj:j < is.length)(t':V3)(x':Ino)
  (hb:Below w.heap.size w w1) (hO:KI.O w1 t' x') (hn:∀ k,t'.2.2.ownBlock=some k->w.heap.size<=k) :
  DO (((w1.setCell ⟨g,j * 3,none⟩ t'.1).setCell ⟨g,j * 3+1,none⟩ t'.2.1).setCell ⟨g,j * 3+2,none⟩ t'.2.2) (fun k=>S k\/w.heap.size<=k) u v iv bv xs ys (is.set j x') bs:=by
 obtain ⟨S1,S2,S3,ti,tb,h1,hs1,hi,hk,d1,d2,hU⟩:=h;have hg:g < w.heap.size:=hi.row.lt g (by rw [hv];rfl);have hg2:S2 g:=hi.so g (by rw [hv];rfl);have hoth:∀ k,k < w.heap.size->k≠g->(((w1.setCell ⟨g,j * 3,none⟩ t'.1).setCell ⟨g,j * 3+1,none⟩ t'.2.1).setCell ⟨g,j * 3+2,none⟩ t'.2.2).heap[k]?=w.heap[k]?:=fun k hk1 hk =>
  (((heap_setCell_other _ ⟨g,j * 3+2,none⟩ k _ (by simpa using hk)).trans (heap_setCell_other _ ⟨g,j * 3+1,none⟩ k _ (by simpa using hk))).trans (heap_setCell_other _ ⟨g,j * 3,none⟩ k _ (by simpa using hk))).trans (hb.block k hk1)
 have h12:∀ m,(u.ownBlock=some m\/v.ownBlock=some m)->m < w.heap.size:=fun m hm=>hm.elim (fun e=>(h1.a.lt m e).2) (fun e=>(h1.b.lt m e).2);have hi2:=hi.bound.put hv j (by rw [hi.len];exact hj) t' x' hb hO hn (S':=fun k=>(S2 k/\k < w.heap.size)\/w.heap.size<=k) (fun k hk=>.inl hk) (fun k hk=>.inr hk);refine ⟨fun k=>u.ownBlock=some k\/v.ownBlock=some k,_,fun k=>S3 k/\k < w.heap.size,_,tb,⟨h1.a.of_heap fun k hk=>hoth k (h12 k (.inl hk)) (fun e=>(d1 k (hs1 k (.inl hk))).1 (e ▸ hg2)),h1.b.of_heap fun k hk=>hoth k (h12 k (.inr hk)) (fun e=>(d1 k (hs1 k (.inr hk))).1 (e ▸ hg2)),h1.ne⟩,fun k hk=>hk,hi2,hk.bound.of_heap fun k hk hlt=>hoth k hlt (fun e=>d2 g hg2 (e ▸ hk.1)),fun k hk=>⟨fun e=>?_,fun e=>(d1 k (hs1 k hk)).2 e.1⟩,fun k hk e=>?_,fun k hk=>?_⟩
 ·exact cQ137
 ·exact cQ143
 ·exact cQ79
theorem DO.putB {w w1:World}{S:Nat->Prop}{u v iv bv:Value}{xs ys:List Bool}{is:List Ino}{bs:List Blk}(h:DO w S u v iv bv xs ys is bs){g n cap:Nat}(hv:bv=.slice (some ⟨g,0,none⟩) n cap)(j:Nat)(hj:j < bs.length)(t':V3)(x':Blk)
  (hb:Below w.heap.size w w1) (hO:KB.O w1 t' x') (hn:∀ k,t'.2.1.ownBlock=some k->w.heap.size<=k) :
  DO (((w1.setCell ⟨g,j * 3,none⟩ t'.1).setCell ⟨g,j * 3+1,none⟩ t'.2.1).setCell ⟨g,j * 3+2,none⟩ t'.2.2) (fun k=>S k\/w.heap.size<=k) u v iv bv xs ys is (bs.set j x'):=by
 obtain ⟨S1,S2,S3,ti,tb,h1,hs1,hi,hk,d1,d2,hU⟩:=h;have hg:g < w.heap.size:=hk.row.lt g (by rw [hv];rfl);have hg3:S3 g:=hk.so g (by rw [hv];rfl);have hoth:∀ k,k < w.heap.size->k≠g->(((w1.setCell ⟨g,j * 3,none⟩ t'.1).setCell ⟨g,j * 3+1,none⟩ t'.2.1).setCell ⟨g,j * 3+2,none⟩ t'.2.2).heap[k]?=w.heap[k]?:=fun k hk1 hk =>
  (((heap_setCell_other _ ⟨g,j * 3+2,none⟩ k _ (by simpa using hk)).trans (heap_setCell_other _ ⟨g,j * 3+1,none⟩ k _ (by simpa using hk))).trans (heap_setCell_other _ ⟨g,j * 3,none⟩ k _ (by simpa using hk))).trans (hb.block k hk1)
 have h12:∀ m,(u.ownBlock=some m\/v.ownBlock=some m)->m < w.heap.size:=fun m hm=>hm.elim (fun e=>(h1.a.lt m e).2) (fun e=>(h1.b.lt m e).2);have hk2:=hk.bound.put hv j (by rw [hk.len];exact hj) t' x' hb hO hn (S':=fun k=>(S3 k/\k < w.heap.size)\/w.heap.size<=k) (fun k hk=>.inl hk) (fun k hk=>.inr hk);refine ⟨fun k=>u.ownBlock=some k\/v.ownBlock=some k,fun k=>S2 k/\k < w.heap.size,_,ti,_,⟨h1.a.of_heap fun k hk=>hoth k (h12 k (.inl hk)) (fun e=>(d1 k (hs1 k (.inl hk))).2 (e ▸ hg3)),h1.b.of_heap fun k hk=>hoth k (h12 k (.inr hk)) (fun e=>(d1 k (hs1 k (.inr hk))).2 (e ▸ hg3)),h1.ne⟩,fun k hk=>hk,hi.bound.of_heap fun k hk hlt=>hoth k hlt (fun e=>d2 k hk.1 (e.symm ▸ hg3)),hk2,fun k hk=>⟨fun e=>(d1 k (hs1 k hk)).1 e.1,fun e=>?_⟩,fun k hk e=>?_,fun k hk=>?_⟩
 ·rcases e with e | e
  ·exact (d1 k (hs1 k hk)).2 e.1
  ·have:=h12 k hk;omega
 ·rcases e with e | e
  ·exact d2 k hk.1 e.1
  ·have:=hk.2;omega
 ·rcases hk with hk | hk | (hk | hk)
  ·exact .inl (hU k (.inl (hs1 k hk)))
  ·exact .inl (hU k (.inr (.inl hk.1)))
  ·exact .inl (hU k (.inr (.inr hk.1)))
  ·exact .inr hk
end Kit
namespace Kit
theorem za9 {P:Program}(W:World){ops:Array Oper}{o:Oper}{a:Act}{K:Act->World->Prop}{Q:Exit->Act->World->Prop}{E:Prop}(hgd:o.guard=none)(s x:Operand)(t:TypeId)
  (ho:o.op=.call { callee:=.builtin .append,args:=#[s,x],argTypes:=#[t,t] }) (e:TypeId) (ht:P.underlying t=some (.slice e)) (z:Value) (bytes:Nat)
  (hi:(P.info? e).map (fun i=>(i.zero,i.size,i.bytes))=some (some z,3,bytes)) (hzc:z.cells.size=3) (hby:bytes<=64) (v:Value) (ts:List V3) (hs:a.eval s=v) (hown:TOwns W e v ts)
  (g:Nat) (y:V3) (hx:a.eval x=.slice (some ⟨g,0,none⟩) 1 1) (hc:W.cell? ⟨g,0,none⟩=some y.1/\W.cell? ⟨g,1,none⟩=some y.2.1/\W.cell? ⟨g,2,none⟩=some y.2.2) (h1:y.1.oneCell'=true/\y.2.1.oneCell'=true/\y.2.2.oneCell'=true) (hl:ts.length<=1000000000000)
  (h:∀ v' w',TOwns w' e v' (ts ++ [y])->W.grownBy w' v.ownBlock->(∀ k,v'.ownBlock=some k->v.ownBlock=some k\/W.heap.size<=k)->K (a.put o.dst v') w') :
  if Region.wanted o (yielded ops a.tmps)=true then Oper.wp P o a W K Q else E:=by
 obtain ⟨i0,hi,hz0,hz1,hz2⟩:=info_parts hi;have hown2:W.ownsRow 0 e 3 v ts.length (f3 ts):=hown;refine step_append_lies _ hgd s x t ho 0 e i0 z 3 bytes ht hi hz0 hz1 hz2 hzc (by decide) v ts.length (f3 ts) hs hown2 ⟨g,0,none⟩ 1 1 (f3 [y]) hx rfl ?_ ?_ (by decide) ?_ ?_ (Nat.zero_le _) W.heap.size rfl ?_
 ·intro j u hj
  match j,hj with
  | 0,hj=>simp [f3] at hj;subst hj;simpa [Addr.add] using hc.1
  | 1,hj=>simp [f3] at hj;subst hj;simpa [Addr.add] using hc.2.1
  | 2,hj=>simp [f3] at hj;subst hj;simpa [Addr.add] using hc.2.2
  | j+3,hj=>simp [f3] at hj
 ·intro u hu;simp only [f3,List.mem_cons,List.not_mem_nil,or_false] at hu;rcases hu with rfl | rfl | rfl
  ·exact h1.1
  ·exact h1.2.1
  ·exact h1.2.2
 ·unfold maxLen;omega
 ·have:(ts.length+1) * bytes<=1000000000001 * 64:=Nat.mul_le_mul (by omega) hby;omega
 ·intro g' cap w' hown' hgrow hat _;refine h _ w' ?_ hgrow fun k hk=>?_
  ·unfold TOwns;rw [List.length_append,zin];exact hown'
  ·exact cQ60
theorem GO.append {α:Type}{K:Kd α}{w w1 w2:World}{S:Nat->Prop}{v v':Value}{ts:List V3}{xs:List α}{t':V3}{x':α}(h:GO K w S v ts xs)(hb:Below w.heap.size w w1)(hO:K.O w1 t' x')(hn:∀ k,(K.p t').ownBlock=some k->w.heap.size<=k)
  (hr:TOwns w2 K.T v' (ts ++ [t'])) (hg:w1.grownBy w2 v.ownBlock) (hv:∀ k,v'.ownBlock=some k->v.ownBlock=some k\/w1.heap.size<=k):GO K w2 (fun k=>(S k/\k < w.heap.size)\/w.heap.size<=k) v' (ts ++ [t']) (xs ++ [x']):=by
 exact cQ8
theorem DO.appI {w:World}{S:Nat->Prop}{u v iv bv:Value}{xs ys:List Bool}{is:List Ino}{bs:List Blk}(h:DO w S u v iv bv xs ys is bs) :
  ∃ ti,TOwns w 37 iv ti/\ti.length=is.length/\∀ (w1 w2:World) (iv':Value) (t':V3) (x':Ino),Below w.heap.size w w1->KI.O w1 t' x'->(∀ k,t'.2.2.ownBlock=some k->w.heap.size<=k) ->
   TOwns w2 37 iv' (ti ++ [t'])->w1.grownBy w2 iv.ownBlock->(∀ k,iv'.ownBlock=some k->iv.ownBlock=some k\/w1.heap.size<=k)->DO w2 (fun k=>S k\/w.heap.size<=k) u v iv' bv xs ys (is ++ [x']) bs:=by
 obtain ⟨S1,S2,S3,ti,tb,h1,hs1,hi,hk,d1,d2,hU⟩:=h;refine ⟨ti,hi.row,hi.len,fun w1 w2 iv' t' x' hb hO hn hr hg hv=>?_⟩;have hsz:=hb.size;have h12:∀ m,(u.ownBlock=some m\/v.ownBlock=some m)->m < w.heap.size:=fun m hm=>hm.elim (fun e=>(h1.a.lt m e).2) (fun e=>(h1.b.lt m e).2);have hoth:∀ k,k < w.heap.size->iv.ownBlock≠some k->w2.heap[k]?=w.heap[k]?:=fun k hk hne=>(hg.block k (by omega) (fun e=>hne e.symm)).trans (hb.block k hk);refine ⟨fun k=>u.ownBlock=some k\/v.ownBlock=some k,_,fun k=>S3 k/\k < w.heap.size,_,tb,⟨h1.a.of_heap fun k hk=>hoth k (h12 k (.inl hk)) (fun e=>(d1 k (hs1 k (.inl hk))).1 (hi.so k e)),h1.b.of_heap fun k hk=>hoth k (h12 k (.inr hk)) (fun e=>(d1 k (hs1 k (.inr hk))).1 (hi.so k e)),h1.ne⟩,fun k hk=>hk,hi.append hb hO hn hr hg hv,hk.bound.of_heap fun k hk hlt=>hoth k hlt (fun e=>d2 k (hi.so k e) hk.1),fun k hk=>⟨fun e=>?_,fun e=>(d1 k (hs1 k hk)).2 e.1⟩,fun k hk e=>?_,fun k hk=>?_⟩
 ·exact cQ137
 ·exact cQ143
 ·exact cQ79
theorem DO.setB {w w1:World}{S S':Nat->Prop}{u v iv bv bv':Value}{xs ys:List Bool}{is:List Ino}{bs bs':List Blk}(h:DO w S u v iv bv xs ys is bs)(hb:Below w.heap.size w w1){tb':List V3}(hk':GO KB w1 S' bv' tb' bs')(hs':∀ k,S' k->w.heap.size<=k) :
  DO w1 (fun k=>S k\/w.heap.size<=k) u v iv bv' xs ys is bs':=by
 obtain ⟨S1,S2,S3,ti,tb,h1,hs1,hi,hk,d1,d2,hU⟩:=h;have h12:∀ m,(u.ownBlock=some m\/v.ownBlock=some m)->m < w.heap.size:=fun m hm=>hm.elim (fun e=>(h1.a.lt m e).2) (fun e=>(h1.b.lt m e).2);refine ⟨fun k=>u.ownBlock=some k\/v.ownBlock=some k,fun k=>S2 k/\k < w.heap.size,S',ti,tb',h1.below hb nR,fun k hk=>hk,hi.bound.below hb nR,hk',fun k hk=>⟨fun e=>(d1 k (hs1 k hk)).1 e.1,fun e=>?_⟩,fun k hk e=>?_,fun k hk=>?_⟩
 ·have:=h12 k hk;have:=hs' k e;omega
 ·have:=hk.2;have:=hs' k e;omega
 ·rcases hk with hk | hk | hk
  ·exact .inl (hU k (.inl (hs1 k hk)))
  ·exact .inl (hU k (.inr (.inl hk.1)))
  ·exact .inr (hs' k hk)
end Kit
namespace Kit
theorem DO.appB {w:World}{S:Nat->Prop}{u v iv bv:Value}{xs ys:List Bool}{is:List Ino}{bs:List Blk}(h:DO w S u v iv bv xs ys is bs) :
  ∃ tb,TOwns w 44 bv tb/\tb.length=bs.length/\∀ (w1 w2:World) (bv':Value) (t':V3) (x':Blk),Below w.heap.size w w1->KB.O w1 t' x'->(∀ k,t'.2.1.ownBlock=some k->w.heap.size<=k) ->
   TOwns w2 44 bv' (tb ++ [t'])->w1.grownBy w2 bv.ownBlock->(∀ k,bv'.ownBlock=some k->bv.ownBlock=some k\/w1.heap.size<=k)->DO w2 (fun k=>S k\/w.heap.size<=k) u v iv bv' xs ys is (bs ++ [x']):=by
 obtain ⟨S1,S2,S3,ti,tb,h1,hs1,hi,hk,d1,d2,hU⟩:=h;refine ⟨tb,hk.row,hk.len,fun w1 w2 bv' t' x' hb hO hn hr hg hv=>?_⟩;have hsz:=hb.size;have h12:∀ m,(u.ownBlock=some m\/v.ownBlock=some m)->m < w.heap.size:=fun m hm=>hm.elim (fun e=>(h1.a.lt m e).2) (fun e=>(h1.b.lt m e).2);have hoth:∀ k,k < w.heap.size->bv.ownBlock≠some k->w2.heap[k]?=w.heap[k]?:=fun k hk hne=>(hg.block k (by omega) (fun e=>hne e.symm)).trans (hb.block k hk);refine ⟨fun k=>u.ownBlock=some k\/v.ownBlock=some k,fun k=>S2 k/\k < w.heap.size,_,ti,_,⟨h1.a.of_heap fun m hm=>hoth m (h12 m (.inl hm)) (fun e=>(d1 m (hs1 m (.inl hm))).2 (hk.so m e)),h1.b.of_heap fun m hm=>hoth m (h12 m (.inr hm)) (fun e=>(d1 m (hs1 m (.inr hm))).2 (hk.so m e)),h1.ne⟩,fun k hk=>hk,hi.bound.of_heap fun m hm hlt=>hoth m hlt (fun e=>d2 m hm.1 (hk.so m e)),hk.append hb hO hn hr hg hv,fun m hm=>⟨fun e=>(d1 m (hs1 m hm)).1 e.1,fun e=>?_⟩,fun m hm e=>?_,fun m hm=>?_⟩
 ·rcases e with e | e
  ·exact (d1 m (hs1 m hm)).2 e.1
  ·have:=h12 m hm;omega
 ·rcases e with e | e
  ·exact d2 m hm.1 e.1
  ·have:=hm.2;omega
 ·rcases hm with hm | hm | (hm | hm)
  ·exact .inl (hU m (.inl (hs1 m hm)))
  ·exact .inl (hU m (.inr (.inl hm.1)))
  ·exact .inl (hU m (.inr (.inr hm.1)))
  ·exact .inr hm
theorem DO.soI {w:World}{S:Nat->Prop}{u v iv bv:Value}{xs ys:List Bool}{is:List Ino}{bs:List Blk}(h:DO w S u v iv bv xs ys is bs):∀ k,(iv.ownBlock=some k\/bv.ownBlock=some k)->S k:=by
 obtain ⟨S1,S2,S3,ti,tb,a1,a2,a3,a4,a5,a6,a7⟩:=h;exact fun k hk=>hk.elim (fun e=>a7 k (.inr (.inl (a3.so k e)))) (fun e=>a7 k (.inr (.inr (a4.so k e))))
theorem DO.bits {w:World}{B:Nat}{u v:Value}{xs ys:List Bool}(h:Two w B u v xs ys):DO w (fun k=>B<=k) u v (.slice none 0 0) (.slice none 0 0) xs ys [] []:=by
 refine ⟨fun k=>B<=k,fun _=>False,fun _=>False,[],[],h.base_le (Nat.zero_le _),fun k hk=>hk.elim (fun e=>(h.a.lt k e).1) (fun e=>(h.b.lt k e).1),?_,?_,fun k hk=>⟨id,id⟩,fun k hk=>hk.elim,fun k hk=>hk.elim id (fun e=>e.elim (fun e=>e.elim) (fun e=>e.elim))⟩
 ·exact cQ41
 ·exact cQ41
def noD:Array Value:=#[.slice none 0 0,.slice none 0 0,.slice none 0 0,.slice none 0 0]
structure Dz (w w':World) (A:Array Value) (b:Nat) (u v iv bv:Value) (xs ys:List Bool) (is:List Ino) (bs:List Blk):Prop where
 arg:AtC w' w.heap.size 30 A
 res:AtC w' (w.heap.size+1) 30 noD
 box:AtC w' b 30 #[u,v,iv,bv]
 dsk:DO w' (fun k=>w.heap.size+1 < k/\k≠b) u v iv bv xs ys is bs
 bel:Below w.heap.size w w'
 hb:w.heap.size+1 < b
namespace Dz
variable {w w' w1 : World} {A : Array Value} {b : Nat} {u v iv bv : Value} {xs ys : List Bool} {is : List Ino} {bs : List Blk}
theorem below (h:Dz w w' A b u v iv bv xs ys is bs)(hb:Below w'.heap.size w' w1):Dz w w1 A b u v iv bv xs ys is bs :=
 ⟨h.arg.over hb,h.res.over hb,h.box.over hb,h.dsk.below hb nR,h.bel.trans (hb.mono h.bel.size),h.hb⟩
theorem drew (h:Dz w w' A b u v iv bv xs ys is bs):Dz w w'.drew A b u v iv bv xs ys is bs:=h.below bR.drew
theorem alloc (h:Dz w w' A b u v iv bv xs ys is bs)(o:Obj):Dz w (w'.alloc o) A b u v iv bv xs ys is bs:=h.below (bR.alloc nR o)
theorem other (h:Dz w w' A b u v iv bv xs ys is bs){B j:Nat}(hB:w.heap.size+1 < B)(hb:B≠b)(hn:∀ k,k=B->¬ (w.heap.size+1 < k/\k≠b/\k < w1.heap.size))(x:Value)(hw:Below w1.heap.size w1 w')(h1:Dz w w1 A b u v iv bv xs ys is bs):Dz w (w'.setCell ⟨B,j,none⟩ x) A b u v iv bv xs ys is bs:=by
 have hlt:w1.heap.size<=B:=by
  rcases Nat.lt_or_ge B w1.heap.size with e | e
  ·exact absurd ⟨hB,hb,e⟩ (hn B rfl)
  ·exact e
 have hbb:=h1.box.lt;have hrr:=h1.res.lt;refine ⟨h.arg.other (by omega) _,h.res.other (by omega) _,h.box.other (by omega) _,?_,h.bel.setCell (by show w.heap.size<=B;omega) _,h.hb⟩;exact h1.dsk.of_heap fun k hk hkl=>(heap_setCell_other w' ⟨B,j,none⟩ k x (by show k≠B;omega)).trans (hw.block k hkl)
theorem appI (h:Dz w w' A b u v iv bv xs ys is bs):∃ ti,TOwns w' 37 iv ti/\ti.length=is.length/\∀ (w1 w2:World) (iv':Value) (t':V3) (x':Ino),Below w'.heap.size w' w1->KI.O w1 t' x'->(∀ k,t'.2.2.ownBlock=some k->w'.heap.size<=k) ->
  TOwns w2 37 iv' (ti ++ [t'])->w1.grownBy w2 iv.ownBlock->(∀ k,iv'.ownBlock=some k->iv.ownBlock=some k\/w1.heap.size<=k) ->
  AtC w2 b 30 #[u,v,iv,bv]/\Dz w (w2.setCell ⟨b,2,none⟩ iv') A b u v iv' bv xs ys (is ++ [x']) bs:=by
 obtain ⟨ti,h1,h2,h3⟩:=h.dsk.appI;refine ⟨ti,h1,h2,fun w1 w2 iv' t' x' hb hO hn hr hg hv=>?_⟩;have hso:=fun k (hk:iv.ownBlock=some k)=>h.dsk.soI k (.inl hk);have hbs:=h.box.lt;have hsz:=h.bel.size;have hsz1:=hb.size;have hr0:=h.res.lt;have ha0:=h.arg.lt;have e0:AtC w2 w.heap.size 30 A:=(hg.block _ (by omega) (fun e=>by have:=hso _ e.symm;omega)).trans (h.arg.over hb);have e1:AtC w2 (w.heap.size+1) 30 noD:=(hg.block _ (by omega) (fun e=>by have:=hso _ e.symm;omega)).trans (h.res.over hb);have e2:AtC w2 b 30 #[u,v,iv,bv]:=(hg.block _ (by omega) (fun e=>by have:=hso _ e.symm;omega)).trans (h.box.over hb);have d:=h3 w1 w2 iv' t' x' hb hO hn hr hg hv;have b2:Below w.heap.size w w2:=(h.bel.trans (hb.mono hsz)).grown hg (by omega) (fun k hk=>by have:=hso k hk;omega);have hbb:=h.hb;refine ⟨e2,⟨e0.other (by omega) _,e1.other (by omega) _,e2.set 2 iv',?_,b2.setCell (by show w.heap.size<=b;omega) _,h.hb⟩⟩;have d2:=d.mono (S':=fun k=>w.heap.size+1 < k/\k≠b) fun k hk=>hk.elim id (fun e=>⟨by omega,by omega⟩);exact d2.of_heap fun k hk _=>heap_setCell_other w2 ⟨b,2,none⟩ k iv' (by show k≠b;omega)
theorem appB (h:Dz w w' A b u v iv bv xs ys is bs):∃ tb,TOwns w' 44 bv tb/\tb.length=bs.length/\∀ (w1 w2:World) (bv':Value) (t':V3) (x':Blk),Below w'.heap.size w' w1->KB.O w1 t' x'->(∀ k,t'.2.1.ownBlock=some k->w'.heap.size<=k) ->
  TOwns w2 44 bv' (tb ++ [t'])->w1.grownBy w2 bv.ownBlock->(∀ k,bv'.ownBlock=some k->bv.ownBlock=some k\/w1.heap.size<=k) ->
  AtC w2 b 30 #[u,v,iv,bv]/\Dz w (w2.setCell ⟨b,3,none⟩ bv') A b u v iv bv' xs ys is (bs ++ [x']):=by
 obtain ⟨ti,h1,h2,h3⟩:=h.dsk.appB;refine ⟨ti,h1,h2,fun w1 w2 iv' t' x' hb hO hn hr hg hv=>?_⟩;have hso:=fun k (hk:bv.ownBlock=some k)=>h.dsk.soI k (.inr hk);have hbs:=h.box.lt;have hsz:=h.bel.size;have hsz1:=hb.size;have hr0:=h.res.lt;have ha0:=h.arg.lt;have e0:AtC w2 w.heap.size 30 A:=(hg.block _ (by omega) (fun e=>by have:=hso _ e.symm;omega)).trans (h.arg.over hb);have e1:AtC w2 (w.heap.size+1) 30 noD:=(hg.block _ (by omega) (fun e=>by have:=hso _ e.symm;omega)).trans (h.res.over hb);have e2:AtC w2 b 30 #[u,v,iv,bv]:=(hg.block _ (by omega) (fun e=>by have:=hso _ e.symm;omega)).trans (h.box.over hb);have d:=h3 w1 w2 iv' t' x' hb hO hn hr hg hv;have b2:Below w.heap.size w w2:=(h.bel.trans (hb.mono hsz)).grown hg (by omega) (fun k hk=>by have:=hso k hk;omega);have hbb:=h.hb;refine ⟨e2,⟨e0.other (by omega) _,e1.other (by omega) _,e2.set 3 iv',?_,b2.setCell (by show w.heap.size<=b;omega) _,h.hb⟩⟩;have d2:=d.mono (S':=fun k=>w.heap.size+1 < k/\k≠b) fun k hk=>hk.elim id (fun e=>⟨by omega,by omega⟩);exact d2.of_heap fun k hk _=>heap_setCell_other w2 ⟨b,3,none⟩ k iv' (by show k≠b;omega)
end Dz
theorem dz_start {w w1:World}{A:Array Value}{u v:Value}{xs ys:List Bool}(B1:Below ((w.alloc (.cells A 30)).alloc (.cells noD 30)).heap.size ((w.alloc (.cells A 30)).alloc (.cells noD 30)) w1)(T1:Two w1 ((w.alloc (.cells A 30)).alloc (.cells noD 30)).heap.size u v xs ys) :
  Dz w (w1.alloc (.cells #[u,v,.slice none 0 0,.slice none 0 0] 30)) A w1.heap.size u v (.slice none 0 0) (.slice none 0 0) xs ys [] []:=by
 have hsz:=B1.size;simp at hsz;have k1:=(AtC.new (w.alloc (.cells A 30)) 30 noD).over B1;simp at k1;refine ⟨(((AtC.new w 30 A).alloc _).over B1).alloc _,k1.alloc _,AtC.new w1 30 _,?_,((((Below.refl _ w).alloc nR _).alloc (by simp) _).trans (B1.mono (by simp;omega))).alloc (by omega) _,by omega⟩;have T2:Two w1 (w.heap.size+1+1) u v xs ys:=T1.base_le (by simp);obtain ⟨S1,S2,S3,ti,tb,h1,h2,h3,h4,h5,h6,h7⟩:=DO.bits T2;have hlt:∀ k,(u.ownBlock=some k\/v.ownBlock=some k)->w.heap.size+1 < k/\k≠w1.heap.size:=fun k hk=>hk.elim (fun e=>by have:=T2.a.lt k e;omega) (fun e=>by have:=T2.b.lt k e;omega);exact ⟨fun k=>u.ownBlock=some k\/v.ownBlock=some k,fun _=>False,fun _=>False,[],[],(T2.base_le (Nat.zero_le _)).alloc _,fun k hk=>hk,⟨rfl,TOwns.nil _ _,fun j hj=>by simp at hj,fun i j hi=>by simp at hi,fun j hj=>by simp at hj,(fun k e=>by cases e),fun j hj=>by simp at hj⟩,⟨rfl,TOwns.nil _ _,fun j hj=>by simp at hj,fun i j hi=>by simp at hi,fun j hj=>by simp at hj,(fun k e=>by cases e),fun j hj=>by simp at hj⟩,fun k hk=>⟨id,id⟩,fun k hk=>hk.elim,fun k hk=>hk.elim (hlt k) (fun e=>e.elim (fun e=>e.elim) (fun e=>e.elim))⟩
def MkI (k:Nat) (y s:Int) (z:List Int):Mk:=.val [k] (fun lo hi w v=>∃ u,v=.agg #[.int .i64 y,.int .i64 s,u]/\ROwns w lo 3 u (ic z)/\∀ i,u.ownBlock=some i->i < hi)
 (fun _ _ _ _ _ h hb=>by obtain ⟨u,h1,h2,h3⟩:=h;exact ⟨u,h1,h2.below hb nR,h3⟩)
def MkI1 (k:Nat) (y s:Int):Mk:=.val1 [k] k (by simp) (fun lo hi w u v=>v=.slice (some ⟨lo,0,none⟩) 1 1/\hi=lo+1/\∃ p,u=.agg #[.int .i64 y,.int .i64 s,p]/\AtC w lo 37 #[.int .i64 y,.int .i64 s,p])
 (fun _ _ _ _ _ _ h hb=>by obtain ⟨h1,h2,p,h3,h4⟩:=h;exact ⟨h1,h2,p,h3,h4.over hb⟩)
def MkK (k:Nat) (d:Bool) (t:ByteArray) (z:List Sl):Mk:=.val [k] (fun lo hi w v=>∃ u,v=.agg #[.bool d,u,.string t]/\SOwns w lo 49 u z/\∀ i,u.ownBlock=some i->i < hi)
 (fun _ _ _ _ _ h hb=>by obtain ⟨u,h1,h2,h3⟩:=h;exact ⟨u,h1,h2.below hb nR,h3⟩)
def MkK1 (k:Nat) (d:Bool) (t:ByteArray):Mk:=.val1 [k] k (by simp) (fun lo hi w u v=>v=.slice (some ⟨lo,0,none⟩) 1 1/\hi=lo+1/\∃ p,u=.agg #[.bool d,p,.string t]/\AtC w lo 44 #[.bool d,p,.string t])
 (fun _ _ _ _ _ _ h hb=>by obtain ⟨h1,h2,p,h3,h4⟩:=h;exact ⟨h1,h2,p,h3,h4.over hb⟩)
end Kit
theorem zb2 (u v iv bv:Value)(xs ys:List Bool)(is:List Ino)(bs:List Blk)(w:World)(h:DR w u v iv bv xs ys is bs)(hB:Big 1048576 xs ys is bs) :
  Calls Tryz.prog 61 #[.agg #[u,v,iv,bv]] w fun e w'=>∃ u' v' i' b',e=.returned (.agg #[u',v',i',b'])/\DO w' (fun k=>w.heap.size<=k) u' v' i' b' xs ys is bs/\Below w.heap.size w w':=by
 have H:=hide h;have HG:=hide hB;have hil:is.length<=1048576:=hB.i;have hbl:bs.length<=1048576:=hB.b;obtain ⟨a1,c1,a2,c2,a3,c3,a4,c4,rfl,rfl,rfl,rfl⟩:=h.form;clear hB h;go_enter Tryz.func61,Tryz.ntmps61
 go_wp2_with fail
 refine (zir _ _ xs ys _ ((H.out.a.alloc _).alloc _) ((H.out.b.alloc _).alloc _) HG.out.x HG.out.y).mono ?_;rintro e w1 ⟨u1,v1,rfl,T1,B1⟩;obtain ⟨d1,f1,d2,f2,rfl,rfl⟩:=T1.form;have HD:=hide (dz_start (A:=#[.slice a1 xs.length c1,.slice a2 ys.length c2,.slice a3 is.length c3,.slice a4 bs.length c4]) B1 T1);clear T1 B1;go_wp2_with fail
 generalize w1.heap.size=b at *;generalize w1.alloc (.cells #[.slice d1 xs.length f1,.slice d2 ys.length f2,.slice none 0 0,.slice none 0 0] 30)=W1 at *;go_loopw [4] (fun i wr=>∃ j:Nat,j<=is.length/\i=.int .i64 j/\Hid (∃ iv,Dz w wr #[.slice a1 xs.length c1,.slice a2 ys.length c2,.slice a3 is.length c3,.slice a4 bs.length c4] b (.slice d1 xs.length f1) (.slice d2 ys.length f2) iv (.slice none 0 0) xs ys (is.take j) [])) (fun i _=>is.length - (intOf i).toNat)
 case atStart=>exact ⟨0,Nat.zero_le _,rfl,_,HD.out⟩
 case round =>
  obtain ⟨j,hj,rfl,HR⟩:=hrel;obtain ⟨iv,hds⟩:=HR.out;by_cases hlt:j < is.length
  ·obtain ⟨ti,k1,k2,k3⟩:=hds.drew.appI;obtain ⟨gi,ci,rfl,-⟩:=k1.form;obtain ⟨ai,cai,ei,-,hci⟩:=H.out.i.ino;obtain ⟨g,off,p,rfl,hg,m1,m2,m3,hp⟩:=hci j hlt;simp only [Value.slice.injEq] at ei;obtain ⟨rfl,-,rfl⟩:=ei;have hpl:=HG.out.p j hlt;have htk:is.take j ++ [is[j]]=is.take (j+1):=List.take_append_getElem hlt;obtain ⟨X,hX⟩:∃ X,is[j]=X:=⟨_,rfl⟩
   obtain ⟨y,s,z⟩:=X;rw [hX] at m1 m2 hp hpl htk;simp only at m1 m2 hp hpl;obtain ⟨pa,pc,rfl⟩:=hp.form;have hti:ti.length=j:=by rw [k2,List.length_take];omega
   have HX:=hide (And.intro k1 (And.intro k3 hti));have HDS:=hide hds;have HP:Hid (∀ W,Below w.heap.size w W->RInts W (.slice pa z.length pc) z):=fun W b=>hp.below b nR;have HPL:=hide hpl;have HTK:=hide htk;have HC:Hid (∀ W,Below wr.drew.heap.size wr.drew W->W.cell? ⟨b,2,none⟩=some (.slice gi ti.length ci)/\W.cell? ⟨w.heap.size,2,none⟩=some (.slice (some ⟨g,off,none⟩) is.length c3)/\W.cell? ⟨g,off+j * 3,none⟩=some (.int .i64 y)/\W.cell? ⟨g,off+j * 3+1,none⟩=some (.int .i64 s)/\W.cell? ⟨g,off+j * 3+2,none⟩=some (.slice pa z.length pc)/\Below w.heap.size w W):=fun W b=>by
    have hw:=HDS.out.drew.below b;exact ⟨hw.box.cell 2,hw.arg.cell 2,(hw.bel.cell (p:=⟨g,off+j * 3,none⟩) hg).trans m1,(hw.bel.cell (p:=⟨g,off+j * 3+1,none⟩) hg).trans m2,(hw.bel.cell (p:=⟨g,off+j * 3+2,none⟩) hg).trans m3,hw.bel⟩
   have b0:=HDS.out.arg.cell 2;simp at b0;have j0:(0:Int)<=(j:Int):=by omega
   have j1:(j:Int) < (is.length:Int):=by omega
   clear k1 k2 k3 hds HR hti m1 m2 m3 hp hpl htk hci hX hg;go_wp2_with fail
   refine za4 (by kernel_rfl) [0,1,2,3,4,5,6,7,8] [9,10,11] (fun i=>match i with|0=>.const [] (.pointer (some ⟨b,2,none⟩))|1=>.const [0] (.slice gi ti.length ci)|2=>.const [] (.pointer (some ⟨w.heap.size,2,none⟩))|3=>.const [2] (.slice (some ⟨g,off,none⟩) is.length c3)|4=>.const [] (.int .i64 (j:Int))|5=>.const [3,4] (.pointer (some ⟨g,off+j * 3,none⟩))|6=>.const [5] (.agg #[.int .i64 y,.int .i64 s,.slice pa z.length pc])|7=>MkI 6 y s z|8=>MkI1 7 y s|_=>.triv) (fun x=>⟨#[.agg #[.slice a1 xs.length c1,.slice a2 ys.length c2,.slice (some ⟨g,off,none⟩) is.length c3,.slice a4 bs.length c4],.pointer (some ⟨w.heap.size,0,none⟩),.pointer (some ⟨w.heap.size+1,0,none⟩),.pointer (some ⟨b,0,none⟩),.int .i64 ↑j,undef,.pointer (some ⟨w.heap.size,0,none⟩),.agg #[.slice a1 xs.length c1,.slice a2 ys.length c2],.agg #[.slice d1 xs.length f1,.slice d2 ys.length f2],.agg #[.slice d1 xs.length f1,.slice d2 ys.length f2,.slice none 0 0,.slice none 0 0],.int .i64 ↑j,.pointer (some ⟨w.heap.size,2,none⟩),.slice (some ⟨g,off,none⟩) is.length c3,.int .i64 ↑is.length,.bool true,u15,u16,x 0,x 1,x 2,x 3,x 4,x 5,x 6,x 7,x 8,u26,u27,undef,undef,undef,undef,undef,undef,undef,undef,undef,undef,undef,undef,undef,undef,undef,undef,undef,undef,undef],[]⟩) (fun i=>match i with|0=>u17|1=>u18|2=>u19|3=>u20|4=>u21|5=>u22|6=>u23|7=>u24|8=>u25|_=>undef) rfl (by kernel_rfl) (by kernel_rfl) (by kernel_rfl) rfl ?_ ?_
   ·intro jo hj so x iw W hd hp K hK;simp only [List.mem_cons,List.not_mem_nil,or_false] at hj;rcases hj with rfl|rfl|rfl|rfl|rfl|rfl|rfl|rfl|rfl<;>refine wpOp_step (o:=_) rfl fun K' hK'=>?_<;>have HK:=hide (fun (v:Value) (W':World) h1 h2=>hK' _ _ (hK v W' h1 h2))<;>simp only [upd,Nat.reduceEqDiff,if_true,if_false] at HK
    ·exact cQ9
    ·have e0:x 0=.pointer (some ⟨b,2,none⟩):=hp.post 0 (hd 0 mz0);have q0:=(HC.out W hp.bel).1;simp only [e0] at HK ⊢;go_simp;exact HK.out _ _ bR rfl
    ·exact cQ9
    ·have e2:x 2=.pointer (some ⟨w.heap.size,2,none⟩):=hp.post 2 (hd 2 mz0);have q0:=(HC.out W hp.bel).2.1;simp only [e2] at HK ⊢;go_simp;exact HK.out _ _ bR rfl
    ·exact cQ9
    ·have e3:x 3=.slice (some ⟨g,off,none⟩) is.length c3:=hp.post 3 (hd 3 mz0);have e4:x 4=.int .i64 (j:Int):=hp.post 4 (hd 4 mz1);simp only [e3,e4] at HK ⊢;go_simp;exact HK.out _ _ bR rfl
    ·exact cQ80
    ·have e6:x 6=.agg #[.int .i64 y,.int .i64 s,.slice pa z.length pc]:=hp.post 6 (hd 6 mz0);have bl:=(HC.out W hp.bel).2.2.2.2.2;simp only [e6] at HK ⊢;go_simp;refine (zdu y s _ z W (HP.out W bl) HPL.out).mono ?_;rintro e w6 ⟨p6,rfl,O6,B6⟩;go_simp;exact HK.out _ _ B6 ⟨p6,rfl,O6,fun i hi=>(O6.lt i hi).2⟩
    ·have e7:∃ u,x 7=.agg #[.int .i64 y,.int .i64 s,u]/\ROwns W (iw 7).1 3 u (ic z)/\∀ i,u.ownBlock=some i->i < (iw 7).2:=hp.post 7 (hd 7 mz0);obtain ⟨p7,e7,O7,-⟩:=e7;obtain ⟨pb,pd,rfl⟩:=O7.rints.form;clear O7;have HE:=hide e7;simp only [e7] at HK ⊢;clear e7;go_simp;exact HK.out _ _ ((Below.refl _ W).alloc nR _) ⟨rfl,by simp,.slice pb z.length pd,by rw [zas _ _ _ _ (by decide)];exact HE.out,AtC.new W 37 _⟩
   ·intro x iw W hp;have e1:x 1=.slice gi ti.length ci:=hp.post 1 (by decide);obtain ⟨p7,e7,O7,-⟩:=hp.post 7 (by decide);obtain ⟨e8,-,p8,f8,A8⟩:=hp.post 8 (by decide);rw [e7] at f8;simp only [Value.agg.injEq,Array.mk.injEq,List.cons.injEq,and_true,true_and] at f8;subst f8;have l7:=(hp.lo 7 (by decide)).1;have hbel:=hp.bel;have O9:ROwns W wr.drew.heap.size 3 p7 (ic z):=O7.base_le l7;obtain ⟨pb,pd,rfl⟩:=O9.rints.form;have hT:TOwns W 37 (.slice gi ti.length ci) ti:=HX.out.1.of_heap fun k hk=>hbel.block k (HX.out.1.lt k hk);have HN:Hid (∀ v' w',TOwns w' 37 v' (ti ++ [(.int .i64 y,.int .i64 s,.slice pb z.length pd)])->W.grownBy w' (Value.slice gi ti.length ci).ownBlock->(∀ k,v'.ownBlock=some k->(Value.slice gi ti.length ci).ownBlock=some k\/W.heap.size<=k)->(AtC w' b 30 #[.slice d1 xs.length f1,.slice d2 ys.length f2,.slice gi ti.length ci,.slice none 0 0])/\Dz w (w'.setCell ⟨b,2,none⟩ v') #[.slice a1 xs.length c1,.slice a2 ys.length c2,.slice (some ⟨g,off,none⟩) is.length c3,.slice a4 bs.length c4] b (.slice d1 xs.length f1) (.slice d2 ys.length f2) v' (.slice none 0 0) xs ys (is.take j ++ [(y,s,z)]) []):=fun v' w' h1 h2 h3=>HX.out.2.1 W w' v' _ (y,s,z) hbel ⟨rfl,rfl,O9.base_le (Nat.zero_le _)⟩ (fun k hk=>(O9.lt k hk).1) h1 h2 h3;have HTL:Hid (ti.length<=1000000000000):=by have:=HX.out.2.2;show ti.length<=_;omega
    have HA8:=hide A8;have HT:=hide hT;generalize (iw 8).1=g8 at *;clear hT O9 O7 hp l7 hbel A8 HX HDS b0;simp only [e1,e7,e8];refine wpList_step fun K' hK'=>?_;refine za9 _ rfl (.tmp 18) (.tmp 25) 27 rfl 37 Tryz.u27 _ 40 Tryz.i37 rfl (by decide) (.slice gi ti.length ci) ti rfl HT.out g8 (.int .i64 y,.int .i64 s,.slice pb z.length pd) rfl ⟨HA8.out.cell 0,HA8.out.cell 1,HA8.out.cell 2⟩ ⟨rfl,rfl,rfl⟩ HTL.out ?_;intro v9 w9 T9 G9 V9;refine hK' _ _ ?_;obtain ⟨e9,D9⟩:=HN.out v9 w9 T9 G9 V9;obtain ⟨g9,c9,rfl,-⟩:=T9.form;have e10:(ti ++ [((.int .i64 y,.int .i64 s,.slice pb z.length pd):V3)]).length=ti.length+1:=by simp
    rw [e10] at D9 ⊢;clear e10;have z2:=e9.frozen 2;have z3:=e9.c2;have H9:=hide D9;clear e9 D9 T9 G9 V9 HN HA8 HT HTL hK' K' e1 e7 e8;go_wp2_with fail
    rw [List.filterMap_nil];go_wp2;go_roundw
    case rel=>exact ⟨j+1,by omega,by go_num,_,by rw [← HTK.out];exact H9.out⟩
    case measure=>simp [intOf];omega
  ·have hj2:j=is.length:=by omega
   subst hj2;rw [List.take_length] at hds;obtain ⟨a5,c5,a6,c6,a7,c7,a8,c8,-,-,rfl,-⟩:=hds.dsk.dr.form;have HD2:=hide hds;have b0:=hds.arg.c2;clear hds HR;go_wp2_with fail
   go_loopw [5] (fun i wr=>∃ j:Nat,j<=bs.length/\i=.int .i64 j/\Hid (∃ bv,Dz w wr #[.slice a1 xs.length c1,.slice a2 ys.length c2,.slice a3 is.length c3,.slice a4 bs.length c4] b (.slice d1 xs.length f1) (.slice d2 ys.length f2) (.slice a7 is.length c7) bv xs ys is (bs.take j))) (fun i _=>bs.length - (intOf i).toNat)
   case atStart=>exact ⟨0,Nat.zero_le _,rfl,_,HD2.out⟩
   case round =>
    obtain ⟨j,hj,rfl,HR⟩:=hrel;obtain ⟨bv,hds⟩:=HR.out;by_cases hlt:j < bs.length
    ·obtain ⟨ti,k1,k2,k3⟩:=hds.drew.appB;obtain ⟨gi,ci,rfl,-⟩:=k1.form;obtain ⟨ai,cai,ei,-,hci⟩:=H.out.k.blk;obtain ⟨g,off,p,rfl,hg,m1,m2,m3,hp⟩:=hci j hlt;simp only [Value.slice.injEq] at ei;obtain ⟨rfl,-,rfl⟩:=ei;have hpl:=HG.out.s j hlt;have htk:bs.take j ++ [bs[j]]=bs.take (j+1):=List.take_append_getElem hlt;obtain ⟨X,hX⟩:∃ X,bs[j]=X:=⟨_,rfl⟩
     obtain ⟨y,z,s⟩:=X;rw [hX] at m1 m3 hp hpl htk;simp only at m1 m3 hp;obtain ⟨pa,pc,rfl⟩:=hp.form;have hti:ti.length=j:=by rw [k2,List.length_take];omega
     have HX:=hide (And.intro k1 (And.intro k3 hti));have HDS:=hide hds;have HP:Hid (∀ W,Below w.heap.size w W->RSl W (.slice pa z.length pc) z):=fun W b=>hp.below b nR;have HPL:=hide hpl;have HTK:=hide htk;have HC:Hid (∀ W,Below wr.drew.heap.size wr.drew W->W.cell? ⟨b,3,none⟩=some (.slice gi ti.length ci)/\W.cell? ⟨w.heap.size,3,none⟩=some (.slice (some ⟨g,off,none⟩) bs.length c4)/\W.cell? ⟨g,off+j * 3,none⟩=some (.bool y)/\W.cell? ⟨g,off+j * 3+1,none⟩=some (.slice pa z.length pc)/\W.cell? ⟨g,off+j * 3+2,none⟩=some (.string s)/\Below w.heap.size w W):=fun W b=>by
      have hw:=HDS.out.drew.below b;exact ⟨hw.box.cell 3,hw.arg.cell 3,(hw.bel.cell (p:=⟨g,off+j * 3,none⟩) hg).trans m1,(hw.bel.cell (p:=⟨g,off+j * 3+1,none⟩) hg).trans m2,(hw.bel.cell (p:=⟨g,off+j * 3+2,none⟩) hg).trans m3,hw.bel⟩
     have b0:=HDS.out.arg.cell 3;simp at b0;have j0:(0:Int)<=(j:Int):=by omega
     have j1:(j:Int) < (bs.length:Int):=by omega
     clear k1 k2 k3 hds HR hti m1 m2 m3 hp hpl htk hci hX hg;go_wp2_with fail
     refine za4 (by kernel_rfl) [0,1,2,3,4,5,6,7,8] [9,10,11] (fun i=>match i with|0=>.const [] (.pointer (some ⟨b,3,none⟩))|1=>.const [0] (.slice gi ti.length ci)|2=>.const [] (.pointer (some ⟨w.heap.size,3,none⟩))|3=>.const [2] (.slice (some ⟨g,off,none⟩) bs.length c4)|4=>.const [] (.int .i64 (j:Int))|5=>.const [3,4] (.pointer (some ⟨g,off+j * 3,none⟩))|6=>.const [5] (.agg #[.bool y,.slice pa z.length pc,.string s])|7=>MkK 6 y s z|8=>MkK1 7 y s|_=>.triv) (fun x=>⟨#[.agg #[.slice a1 xs.length c1,.slice a2 ys.length c2,.slice a3 is.length c3,.slice (some ⟨g,off,none⟩) bs.length c4],.pointer (some ⟨w.heap.size,0,none⟩),.pointer (some ⟨w.heap.size+1,0,none⟩),.pointer (some ⟨b,0,none⟩),.int .i64 ↑is.length,.int .i64 ↑j,.pointer (some ⟨w.heap.size,0,none⟩),.agg #[.slice a1 xs.length c1,.slice a2 ys.length c2],.agg #[.slice d1 xs.length f1,.slice d2 ys.length f2],.agg #[.slice d1 xs.length f1,.slice d2 ys.length f2,.slice none 0 0,.slice none 0 0],.int .i64 ↑is.length,.pointer (some ⟨w.heap.size,2,none⟩),.slice a3 is.length c3,.int .i64 ↑is.length,.bool false,u15,u16,u17,u18,u19,u20,u21,u22,u23,u24,u25,u26,u27,.int .i64 ↑j,.pointer (some ⟨w.heap.size,3,none⟩),.slice (some ⟨g,off,none⟩) bs.length c4,.int .i64 ↑bs.length,.bool true,u33,u34,x 0,x 1,x 2,x 3,x 4,x 5,x 6,x 7,x 8,u44,u45,undef],[]⟩) (fun i=>match i with|0=>u35|1=>u36|2=>u37|3=>u38|4=>u39|5=>u40|6=>u41|7=>u42|8=>u43|_=>undef) rfl (by kernel_rfl) (by kernel_rfl) (by kernel_rfl) rfl ?_ ?_
     ·intro jo hj so x iw W hd hp K hK;simp only [List.mem_cons,List.not_mem_nil,or_false] at hj;rcases hj with rfl|rfl|rfl|rfl|rfl|rfl|rfl|rfl|rfl<;>refine wpOp_step (o:=_) rfl fun K' hK'=>?_<;>have HK:=hide (fun (v:Value) (W':World) h1 h2=>hK' _ _ (hK v W' h1 h2))<;>simp only [upd,Nat.reduceEqDiff,if_true,if_false] at HK
      ·exact cQ9
      ·have e0:x 0=.pointer (some ⟨b,3,none⟩):=hp.post 0 (hd 0 mz0);have q0:=(HC.out W hp.bel).1;simp only [e0] at HK ⊢;go_simp;exact HK.out _ _ bR rfl
      ·exact cQ9
      ·have e2:x 2=.pointer (some ⟨w.heap.size,3,none⟩):=hp.post 2 (hd 2 mz0);have q0:=(HC.out W hp.bel).2.1;simp only [e2] at HK ⊢;go_simp;exact HK.out _ _ bR rfl
      ·exact cQ9
      ·have e3:x 3=.slice (some ⟨g,off,none⟩) bs.length c4:=hp.post 3 (hd 3 mz0);have e4:x 4=.int .i64 (j:Int):=hp.post 4 (hd 4 mz1);simp only [e3,e4] at HK ⊢;go_simp;exact HK.out _ _ bR rfl
      ·exact cQ80
      ·have e6:x 6=.agg #[.bool y,.slice pa z.length pc,.string s]:=hp.post 6 (hd 6 mz0);have bl:=(HC.out W hp.bel).2.2.2.2.2;simp only [e6] at HK ⊢;go_simp;refine (zfj y s _ z W (HP.out W bl) HPL.out.1).mono ?_;rintro e w6 ⟨p6,rfl,O6,B6⟩;go_simp;exact HK.out _ _ B6 ⟨p6,rfl,O6,fun i hi=>(O6.lt i hi).2⟩
      ·have e7:∃ u,x 7=.agg #[.bool y,u,.string s]/\SOwns W (iw 7).1 49 u z/\∀ i,u.ownBlock=some i->i < (iw 7).2:=hp.post 7 (hd 7 mz0);obtain ⟨p7,e7,O7,-⟩:=e7;obtain ⟨pb,pd,rfl⟩:=O7.rsl.form;clear O7;have HE:=hide e7;simp only [e7] at HK ⊢;clear e7;go_simp;exact HK.out _ _ ((Below.refl _ W).alloc nR _) ⟨rfl,by simp,.slice pb z.length pd,by rw [zas _ _ _ _ (by decide)];exact HE.out,AtC.new W 44 _⟩
     ·intro x iw W hp;have e1:x 1=.slice gi ti.length ci:=hp.post 1 (by decide);obtain ⟨p7,e7,O7,-⟩:=hp.post 7 (by decide);obtain ⟨e8,-,p8,f8,A8⟩:=hp.post 8 (by decide);rw [e7] at f8;simp only [Value.agg.injEq,Array.mk.injEq,List.cons.injEq,and_true,true_and] at f8;subst f8;have l7:=(hp.lo 7 (by decide)).1;have hbel:=hp.bel;have O9:SOwns W wr.drew.heap.size 49 p7 z:=O7.base_le l7;obtain ⟨pb,pd,rfl⟩:=O9.rsl.form;have hT:TOwns W 44 (.slice gi ti.length ci) ti:=HX.out.1.of_heap fun k hk=>hbel.block k (HX.out.1.lt k hk);have HN:Hid (∀ v' w',TOwns w' 44 v' (ti ++ [(.bool y,.slice pb z.length pd,.string s)])->W.grownBy w' (Value.slice gi ti.length ci).ownBlock->(∀ k,v'.ownBlock=some k->(Value.slice gi ti.length ci).ownBlock=some k\/W.heap.size<=k)->(AtC w' b 30 #[.slice d1 xs.length f1,.slice d2 ys.length f2,.slice a7 is.length c7,.slice gi ti.length ci])/\Dz w (w'.setCell ⟨b,3,none⟩ v') #[.slice a1 xs.length c1,.slice a2 ys.length c2,.slice a3 is.length c3,.slice (some ⟨g,off,none⟩) bs.length c4] b (.slice d1 xs.length f1) (.slice d2 ys.length f2) (.slice a7 is.length c7) v' xs ys is (bs.take j ++ [(y,z,s)])):=fun v' w' h1 h2 h3=>HX.out.2.1 W w' v' _ (y,z,s) hbel ⟨rfl,O9.base_le (Nat.zero_le _),rfl⟩ (fun k hk=>(O9.lt k hk).1) h1 h2 h3;have HTL:Hid (ti.length<=1000000000000):=by have:=HX.out.2.2;show ti.length<=_;omega
      have HA8:=hide A8;have HT:=hide hT;generalize (iw 8).1=g8 at *;clear hT O9 O7 hp l7 hbel A8 HX HDS b0;simp only [e1,e7,e8];refine wpList_step fun K' hK'=>?_;refine za9 _ rfl (.tmp 36) (.tmp 43) 28 rfl 44 Tryz.u28 _ 48 Tryz.i44 rfl (by decide) (.slice gi ti.length ci) ti rfl HT.out g8 (.bool y,.slice pb z.length pd,.string s) rfl ⟨HA8.out.cell 0,HA8.out.cell 1,HA8.out.cell 2⟩ ⟨rfl,rfl,rfl⟩ HTL.out ?_;intro v9 w9 T9 G9 V9;refine hK' _ _ ?_;obtain ⟨e9,D9⟩:=HN.out v9 w9 T9 G9 V9;obtain ⟨g9,c9,rfl,-⟩:=T9.form;have e10:(ti ++ [((.bool y,.slice pb z.length pd,.string s):V3)]).length=ti.length+1:=by simp
      rw [e10] at D9 ⊢;clear e10;have z2:=e9.frozen 3;have z3:=e9.c3;have H9:=hide D9;clear e9 D9 T9 G9 V9 HN HA8 HT HTL hK' K' e1 e7 e8;go_wp2_with fail
      rw [List.filterMap_nil];go_wp2;go_roundw
      case rel=>exact ⟨j+1,by omega,by go_num,_,by rw [← HTK.out];exact H9.out⟩
      case measure=>simp [intOf];omega
    ·have hj3:j=bs.length:=by omega
     subst hj3;rw [List.take_length] at hds;obtain ⟨-,-,-,-,-,-,p8,q8,-,-,-,rfl⟩:=hds.dsk.dr.form;have H7:=hide hds;have b0:=hds.arg.c3;obtain ⟨y0,y1,y2,y3⟩:=AtC.four hds.box;obtain ⟨r0,r1,r2,r3⟩:=AtC.four hds.res;have v0:=hds.res.frozen 0;have v1:=hds.res.frozen 1;have v2:=hds.res.frozen 2;have v3:=hds.res.frozen 3;clear hds HR;go_wp2;refine bodyPost_ret (v:=.agg #[.slice d1 xs.length f1,.slice d2 ys.length f2,.slice a7 is.length c7,.slice p8 bs.length q8]) (by simp [results,go_sem,r0,r1,r2,r3]) rfl ⟨_,_,_,_,rfl,?_,?_⟩
     ·exact (H7.out.dsk.of_heap fun k hk _=>((((heap_setCell_other _ ⟨w.heap.size+1,3,none⟩ k _ (by show k≠w.heap.size+1;omega)).trans (heap_setCell_other _ ⟨w.heap.size+1,2,none⟩ k _ (by show k≠w.heap.size+1;omega))).trans (heap_setCell_other _ ⟨w.heap.size+1,1,none⟩ k _ (by show k≠w.heap.size+1;omega))).trans (heap_setCell_other _ ⟨w.heap.size+1,0,none⟩ k _ (by show k≠w.heap.size+1;omega)))).mono fun k hk=>by omega
     ·exact (((H7.out.bel.setCell (by simp) _).setCell (by simp) _).setCell (by simp) _).setCell (by simp) _
namespace Kit
theorem NOwns.deps {w:World}{v:Value}{l:List Row}(h:NOwns w 41 11 v l)(k:Nat)(hk:k < l.length){d:Dp}{p:Value}(hd:l[k]=d.row p){g n cap:Nat}(hv:v=.slice (some ⟨g,0,none⟩) n cap):DCells w g (k * 11) d p/\∀ j,w.frozen? ⟨g,j,none⟩=false:=by
 obtain ⟨g',cap',e,h1,h2,-⟩:=h.at k hk;rw [hv] at e;simp only [Value.slice.injEq,Option.some.injEq,Addr.mk.injEq] at e;obtain ⟨⟨rfl,-⟩,-⟩:=e;exact ⟨DCells.of fun i hi=>by rw [h1 i hi,hd],h2⟩
end Kit
namespace Kit
theorem lit0_one (w:World)(A:Obj)(e:TypeId)(m:Nat):((w.alloc A).alloc (.cells #[] e)).ownsRow (w.heap.size+1) e m (.slice (some ⟨w.heap.size+1,0,none⟩) 0 0) 0 []:=by
 have:=World.ownsRow_lit (base:=w.heap.size+1) (e:=e) (size:=m) (w.alloc A) #[] 0 (by simp) (Nat.zero_le _) (by simp);simpa using this
theorem cp_one {w w1:World}{T e:TypeId}{m n:Nat}{cs:Array Value}{ds:List Value}{v':Value}(R1:w1.ownsRow (w.heap.size+1) e m v' n ds)
  (R2:((w.alloc (.cells cs T)).alloc (.cells #[] e)).grownBy w1 (Value.slice (some ⟨w.heap.size+1,0,none⟩) 0 0).ownBlock) :
  ∃ a1 c1,v'=.slice a1 n c1/\Below w.heap.size w w1/\AtC w1 w.heap.size T cs:=by
 obtain ⟨a1,c1,e1⟩:∃ a1 c1,v'=.slice a1 n c1:=by
  exact cQ66
 exact ⟨a1,c1,e1,za1 (((Below.refl _ w).alloc nR _).alloc (by simp) _) (by simp;omega) R2 (fun k hk=>by simp [Value.ownBlock] at hk;omega),((AtC.new w T cs).alloc _).grown R2 (by simp [Value.ownBlock])⟩
theorem AtC.at_ {w:World}{b:Nat}{T:TypeId}{cs:Array Value}(h:AtC w b T cs)(i:Nat)(u:Value)(hu:cs.toList[i]?=some u):w.cell? ⟨b,i,none⟩=some u:=by
 rw [cell_of_row w b i cs T (0,0) h];simpa using hu
end Kit
theorem Tryz.u31:Tryz.prog.underlying 31=some (.slice 41):=by kernel_rfl
theorem Tryz.i41:(Tryz.prog.info? 41).map (fun i=>(i.zero,i.size,i.bytes))=some (some (.agg #[.int .i64 0,.int .i64 0,.int .i64 0,.int .i64 0,.int .i64 0,.int .i64 0,.string ⟨#[]⟩,.bool false,.bool false,.int .i64 0,.slice none 0 0]),11,104):=by kernel_rfl
theorem zau (u v iv bv dv pv:Value)(m:MD)(w:World)(h:MR w u v iv bv dv pv m)(hB:BigM 1048576 m) :
  Calls Tryz.prog 88 #[.agg #[u,v,iv,bv,dv,pv,.int .i64 m.nx]] w fun e w'=>∃ u' v' i' b' d' p',e=.returned (.agg #[u',v',i',b',d',p',.int .i64 m.nx])/\MO w' (fun k=>w.heap.size<=k) u' v' i' b' d' p' m/\Below w.heap.size w w':=by
 have H:=hide h;have HG:=hide hB;have hdl:m.ds.length<=1048576:=hB.l;have HX:Hid (m.fs.length<=100000000000):=Nat.le_trans hB.f (by decide);obtain ⟨a1,c1,a2,c2,a3,c3,a4,c4,a5,c5,a6,c6,rfl,rfl,rfl,rfl,rfl,rfl⟩:=h.form;clear h hB;go_enter Tryz.func88,Tryz.ntmps88
 go_wp2_with fail
 have HC:Hid (∀ W,Below ((w.alloc (.cells #[.slice a1 m.xs.length c1,.slice a2 m.ys.length c2,.slice a3 m.is.length c3,.slice a4 m.bs.length c4,.slice a5 m.fs.length c5,.slice a6 m.ds.length c6,.int .i64 m.nx] 33)).alloc (.cells noM 33)).drew.heap.size ((w.alloc (.cells #[.slice a1 m.xs.length c1,.slice a2 m.ys.length c2,.slice a3 m.is.length c3,.slice a4 m.bs.length c4,.slice a5 m.fs.length c5,.slice a6 m.ds.length c6,.int .i64 m.nx] 33)).alloc (.cells noM 33)).drew W->AtC W w.heap.size 33 #[.slice a1 m.xs.length c1,.slice a2 m.ys.length c2,.slice a3 m.is.length c3,.slice a4 m.bs.length c4,.slice a5 m.fs.length c5,.slice a6 m.ds.length c6,.int .i64 m.nx]/\AtC W (w.heap.size+1) 33 noM/\Below w.heap.size w W/\w.heap.size+1+1<=W.heap.size):=fun W b=>by
  have b2:=zac b;have k1:=(AtC.new (w.alloc (.cells #[.slice a1 m.xs.length c1,.slice a2 m.ys.length c2,.slice a3 m.is.length c3,.slice a4 m.bs.length c4,.slice a5 m.fs.length c5,.slice a6 m.ds.length c6,.int .i64 m.nx] 33)) 33 noM).over b2;have sz:=b2.size;simp at k1 sz;exact ⟨((AtC.new w 33 _).alloc _).over b2,k1,(((Below.refl _ w).alloc nR _).alloc (by simp) _).trans (b2.mono (by simp;omega)),sz⟩
 refine za4 (by kernel_rfl) [0,1,2,3,4,5,6,7,8,9,10] [11] (fun i=>match i with|0=>.const [] (.pointer (some ⟨w.heap.size,0,none⟩))|1=>.const [0] (.agg #[.slice a1 m.xs.length c1,.slice a2 m.ys.length c2,.slice a3 m.is.length c3,.slice a4 m.bs.length c4])|2=>MkD 1 m.xs m.ys m.is m.bs|3=>MkE 4|4=>.const [] (.pointer (some ⟨w.heap.size,4,none⟩))|5=>.const [4] (.slice a5 m.fs.length c5)|6=>MkC 3 5 m.fs (w.heap.size+1+1)|7=>.const [] (.pointer (some ⟨w.heap.size,6,none⟩))|8=>.const [7] (.int .i64 m.nx)|9=>MkM3 2 6 8 m.xs.length m.ys.length m.is.length m.bs.length m.fs.length m.nx|10=>MkW 33 noM|_=>.triv) (fun x=>⟨#[.agg #[.slice a1 m.xs.length c1,.slice a2 m.ys.length c2,.slice a3 m.is.length c3,.slice a4 m.bs.length c4,.slice a5 m.fs.length c5,.slice a6 m.ds.length c6,.int .i64 m.nx],.pointer (some ⟨w.heap.size,0,none⟩),.pointer (some ⟨w.heap.size+1,0,none⟩),x 10,undef,undef,x 0,x 1,x 2,x 3,x 4,x 5,x 6,x 7,x 8,x 9,undef,undef,undef,undef,undef,undef,undef,undef,undef,undef,undef,undef,undef,undef,undef,undef,undef,undef,undef,undef,undef,undef,undef,undef],[]⟩) (fun i=>match i with|0=>undef|1=>undef|2=>undef|3=>undef|4=>undef|5=>undef|6=>undef|7=>undef|8=>undef|9=>undef|10=>undef|_=>undef) rfl (by kernel_rfl) (by kernel_rfl) (by kernel_rfl) rfl ?_ ?_
 ·intro jo hj so x iw W hd hp K hK;simp only [List.mem_cons,List.not_mem_nil,or_false] at hj;rcases hj with rfl|rfl|rfl|rfl|rfl|rfl|rfl|rfl|rfl|rfl|rfl<;>refine wpOp_step (o:=_) rfl fun K' hK'=>?_<;>have HK:=hide (fun (v:Value) (W':World) h1 h2=>hK' _ _ (hK v W' h1 h2))<;>simp only [upd,Nat.reduceEqDiff,if_true,if_false] at HK
  ·exact cQ9
  ·have e0:x 0=.pointer (some ⟨w.heap.size,0,none⟩):=hp.post 0 (hd 0 mz0);have k0:=(HC.out W hp.bel).1;obtain ⟨q0,q1,q2,q3⟩:=AtC.four k0;clear k0;simp only [e0] at HK ⊢;go_simp;exact HK.out _ _ bR rfl
  ·have e1:x 1=.agg #[.slice a1 m.xs.length c1,.slice a2 m.ys.length c2,.slice a3 m.is.length c3,.slice a4 m.bs.length c4]:=hp.post 1 (hd 1 mz0);have bl:=(HC.out W hp.bel).2.2.1;simp only [e1] at HK ⊢;go_simp;refine (zb2 _ _ _ _ m.xs m.ys m.is m.bs W (H.out.d.below bl nR) HG.out.d).mono ?_;rintro e w6 ⟨p1,p2,p3,p4,rfl,O6,B6⟩;obtain ⟨b1,d1,b2,d2,b3,d3,b4,d4,rfl,rfl,rfl,rfl⟩:=O6.dr.form;go_simp;exact HK.out _ _ B6 ⟨b1,d1,b2,d2,b3,d3,b4,d4,rfl,O6.bound⟩
  ·exact cQ119
  ·exact cQ9
  ·have e4:x 4=.pointer (some ⟨w.heap.size,4,none⟩):=hp.post 4 (hd 4 mz0);have q0:=(HC.out W hp.bel).1.c4;simp only [e4] at HK ⊢;go_simp;exact HK.out _ _ bR rfl
  ·have e3:x 3=.slice (some ⟨(iw 3).1,0,none⟩) 0 0/\(iw 3).2=(iw 3).1+1/\AtC W (iw 3).1 4 #[]:=hp.post 3 (hd 3 mz0);have e5:x 5=.slice a5 m.fs.length c5:=hp.post 5 (hd 5 mz1);have bl:=HC.out W hp.bel;have l0:=(hp.lo 3 (hd 3 mz0)).1;simp [World.drew] at l0;obtain ⟨f0,-,A0⟩:=e3;refine za3 W rfl (.tmp 9) (.tmp 11) 24 rfl (w.heap.size+1+1) 4 Tryz.underlying24 _ 1 1 Tryz.i4 rfl (by decide) (by decide) (some ⟨(iw 3).1,0,none⟩) (by exact f0) (A0.empty _ (by omega) 1) bl.2.2.2 (.slice a5 m.fs.length c5) (by exact e5) m.fs.length (fc m.fs) (H.out.f.below bl.2.2.1 nR).rc (by rw [zae,Nat.mul_one]) (zio m.fs) HX.out ?_;intro v' w' R1 R2 R3;have O1:ROwns w' (w.heap.size+1+1) 4 v' (fc m.fs):=by unfold ROwns;rw [zae];exact R1
   obtain ⟨a8,c8,e8⟩:=O1.rfl.form;exact HK.out v' w' R2 ⟨a8,c8,e8,O1,fun i hi=>R3.elim (fun e=>.inr (by rw [zas _ _ _ _ (by decide),f0];rw [hi] at e;exact e.symm)) (fun e=>.inl ⟨by rw [hi] at e;cases e;exact Nat.le_refl _,(O1.lt i hi).2⟩)⟩
  ·exact cQ9
  ·have e7:x 7=.pointer (some ⟨w.heap.size,6,none⟩):=hp.post 7 (hd 7 mz0);have q0:=(HC.out W hp.bel).1.c6;simp only [e7] at HK ⊢;go_simp;exact HK.out _ _ bR rfl
  ·have e2:∃ a1 c1 a2 c2 a3 c3 a4 c4,x 2=.agg #[.slice a1 m.xs.length c1,.slice a2 m.ys.length c2,.slice a3 m.is.length c3,.slice a4 m.bs.length c4]/\DO W (fun q=>(iw 2).1<=q/\q < (iw 2).2) (.slice a1 m.xs.length c1) (.slice a2 m.ys.length c2) (.slice a3 m.is.length c3) (.slice a4 m.bs.length c4) m.xs m.ys m.is m.bs:=hp.post 2 (hd 2 mz0);have e6:∃ a c,x 6=.slice a m.fs.length c/\ROwns W (w.heap.size+1+1) 4 (x 6) (fc m.fs)/\∀ i,(x 6).ownBlock=some i->((iw 6).1<=i/\i < (iw 6).2)\/(x 3).ownBlock=some i:=hp.post 6 (hd 6 mz1);have e8:x 8=.int .i64 m.nx:=hp.post 8 (hd 8 mz2);obtain ⟨b1,d1,b2,d2,b3,d3,b4,d4,e2,-⟩:=e2;obtain ⟨b5,d5,e6,-⟩:=e6;have HE:=hide (And.intro e2 e6);simp only [e2,e6,e8] at HK ⊢;clear e2 e6 e8;go_simp;exact HK.out _ _ bR ⟨b1,d1,b2,d2,b3,d3,b4,d4,b5,d5,by rw [zas _ _ _ _ (by decide)];exact HE.out.1,by rw [zas _ _ _ _ (by decide)];exact HE.out.2,rfl⟩
  ·exact cQ70
 ·intro x iw W hp;obtain ⟨b1,d1,b2,d2,b3,d3,b4,d4,e2,O2⟩:=hp.post 2 (by decide);obtain ⟨f3,z3,-⟩:=hp.post 3 (by decide);obtain ⟨b5,d5,e6,O6,own6⟩:=hp.post 6 (by decide);have e8:x 8=.int .i64 m.nx:=hp.post 8 (by decide);obtain ⟨g1,h1,g2,h2,g3,h3,g4,h4,g5,h5,k2,k6,e9⟩:=hp.post 9 (by decide);obtain ⟨e10,z10,A10⟩:=hp.post 10 (by decide);rw [e2] at k2;rw [e6] at k6;simp only [Value.agg.injEq,Array.mk.injEq,List.cons.injEq,Value.slice.injEq,true_and,and_true] at k2 k6;obtain ⟨⟨rfl,rfl⟩,⟨rfl,rfl⟩,⟨rfl,rfl⟩,rfl,rfl⟩:=k2;obtain ⟨rfl,rfl⟩:=k6;have p210:=hp.apart 2 (by decide) 10 (by decide) (by decide);have p26:=hp.apart 2 (by decide) 6 (by decide) (by decide);have p23:=hp.apart 2 (by decide) 3 (by decide) (by decide);have p610:=hp.apart 6 (by decide) 10 (by decide) (by decide);have p310:=hp.apart 3 (by decide) 10 (by decide) (by decide);have l2:=hp.lo 2 (by decide);have l3:=hp.lo 3 (by decide);have l6:=hp.lo 6 (by decide);have l10:=hp.lo 10 (by decide);simp [World.drew] at l2 l3 l6 l10;obtain ⟨kA,kR,bel,-⟩:=HC.out W hp.bel;rw [e6,f3] at own6;rw [e6] at O6;have hsep:∀ k,(Value.slice b5 m.fs.length d5).ownBlock=some k->(k < (iw 2).1\/(iw 2).2<=k)/\k≠(iw 10).1:=fun k hk=>by
   have q:=own6 k hk;simp only [Value.ownBlock,Option.some.injEq] at q;omega
  have D0:=zis (m:={ m with ds:=[] }) kA kR A10 O2 O6 hsep (by omega) (by omega) bel (by omega) rfl;obtain ⟨y0,y1,y2,y3,y4,y5,y6⟩:=AtC.sev A10;have z0:=A10.frozen 0;have z1:=A10.frozen 1;have z2:=A10.frozen 2;have z3':=A10.frozen 3;have z4:=A10.frozen 4;have z5:=A10.frozen 5;have z6:=A10.frozen 6;generalize (iw 10).1=b at *;have HD:=hide D0;clear hp own6 O6 O2 hsep kA kR bel z10 z3 p210 p26 p23 p610 p310 l2 l3 l6 l10 D0 A10 HC HX f3;simp only [e2,e6,e8,e9,e10];clear e2 e6 e8 e9 e10;go_wp2_with fail
  obtain ⟨W1,hW1⟩:∃ W1,(((((((W.setCell ⟨b,0,none⟩ (.slice b1 m.xs.length d1)).setCell ⟨b,1,none⟩ (.slice b2 m.ys.length d2)).setCell ⟨b,2,none⟩ (.slice b3 m.is.length d3)).setCell ⟨b,3,none⟩ (.slice b4 m.bs.length d4)).setCell ⟨b,4,none⟩ (.slice b5 m.fs.length d5)).setCell ⟨b,5,none⟩ (.slice none 0 0)).setCell ⟨b,6,none⟩ (.int .i64 m.nx))=W1:=⟨_,rfl⟩
  rw [hW1] at HD ⊢;clear y0 y1 y2 y3 y4 y5 y6 z0 z1 z2 z3' z4 z5 z6 hW1;go_loopw [4] (fun i wr=>∃ j:Nat,j<=m.ds.length/\i=.int .i64 j/\Hid (∃ pv,Mz w wr #[.slice a1 m.xs.length c1,.slice a2 m.ys.length c2,.slice a3 m.is.length c3,.slice a4 m.bs.length c4,.slice a5 m.fs.length c5,.slice a6 m.ds.length c6,.int .i64 m.nx] b (.slice b1 m.xs.length d1) (.slice b2 m.ys.length d2) (.slice b3 m.is.length d3) (.slice b4 m.bs.length d4) (.slice b5 m.fs.length d5) pv { m with ds:=m.ds.take j })) (fun i _=>m.ds.length - (intOf i).toNat)
  case atStart=>exact ⟨0,Nat.zero_le _,rfl,_,HD.out⟩
  case round =>
   obtain ⟨j,hj,rfl,HR⟩:=hrel;obtain ⟨pv,hds⟩:=HR.out;by_cases hlt:j < m.ds.length
   ·obtain ⟨ts,k1,k2,k3⟩:=hds.app;obtain ⟨gi,ci,rfl,-⟩:=k1.form;obtain ⟨ai,cai,ei,-,hci⟩:=H.out.p.dep;obtain ⟨g,off,p,rfl,hg,mm,hp⟩:=hci j hlt;simp only [Value.slice.injEq,true_and] at ei;obtain ⟨rfl,rfl⟩:=ei;have hpl:=HG.out.b j hlt;have htk:m.ds.take j ++ [m.ds[j]]=m.ds.take (j+1):=List.take_append_getElem hlt;obtain ⟨X,hX⟩:∃ X,m.ds[j]=X:=⟨_,rfl⟩
    rw [hX] at mm hp hpl htk;obtain ⟨id,kd,io,pt,bk,sl,nm,bt,ot,af,bl⟩:=X;simp only at hp hpl;obtain ⟨pa,pc,rfl⟩:=hp.form;have hti:ts.length=j:=by
     rw [k2];show (m.ds.take j).length=j;rw [List.length_take];omega
    have nn:=mm.below hds.bel hg;simp only [DCells] at nn;obtain ⟨n0,n1,n2,n3,n4,n5,n6,n7,n8,n9,n10⟩:=nn;have HPR:Hid (RInts ((wr.alloc (.cells #[.int .i64 id,.int .i64 kd,.int .i64 io,.int .i64 pt,.int .i64 bk,.int .i64 sl,.string nm,.bool bt,.bool ot,.int .i64 af,.slice pa bl.length pc] 41)).alloc (.cells #[] 3)) (.slice pa bl.length pc) bl):=((hp.below hds.bel nR).alloc _).alloc _;have HPL:Hid (bl.length<=100000000000):=Nat.le_trans hpl (by decide);have HXX:=hide (And.intro k1 (And.intro k3 hti));have HDS:=hide hds;have HTK:=hide htk;have xb5:=hds.arg.c5;have j0:(0:Int)<=(j:Int):=by omega
    have j1:(j:Int) < (m.ds.length:Int):=by omega
    clear k1 k2 k3 hds HR hti mm hp hpl htk hci hX hg;have HSTEP:Hid (∀ (v9:Value) (w9:World),w9.ownsRow (wr.heap.size+1) 3 1 v9 bl.length (ic bl)->((wr.alloc (.cells #[.int .i64 id,.int .i64 kd,.int .i64 io,.int .i64 pt,.int .i64 bk,.int .i64 sl,.string nm,.bool bt,.bool ot,.int .i64 af,.slice pa bl.length pc] 41)).alloc (.cells #[] 3)).grownBy w9 (Value.slice (some ⟨wr.heap.size+1,0,none⟩) 0 0).ownBlock->∃ pb pd W10,v9=.slice pb bl.length pd/\w9.setCell ⟨wr.heap.size,10,none⟩ (.slice pb bl.length pd)=W10/\AtC w9 wr.heap.size 41 #[.int .i64 id,.int .i64 kd,.int .i64 io,.int .i64 pt,.int .i64 bk,.int .i64 sl,.string nm,.bool bt,.bool ot,.int .i64 af,.slice pa bl.length pc]/\AtC W10 wr.heap.size 41 #[.int .i64 id,.int .i64 kd,.int .i64 io,.int .i64 pt,.int .i64 bk,.int .i64 sl,.string nm,.bool bt,.bool ot,.int .i64 af,.slice pb bl.length pd]/\W10.cell? ⟨b,5,none⟩=some (.slice gi ts.length ci)/\AtC (W10.alloc (.cells #[.int .i64 id,.int .i64 kd,.int .i64 io,.int .i64 pt,.int .i64 bk,.int .i64 sl,.string nm,.bool bt,.bool ot,.int .i64 af,.slice pb bl.length pd] 41)) W10.heap.size 41 #[.int .i64 id,.int .i64 kd,.int .i64 io,.int .i64 pt,.int .i64 bk,.int .i64 sl,.string nm,.bool bt,.bool ot,.int .i64 af,.slice pb bl.length pd]/\NOwns (W10.alloc (.cells #[.int .i64 id,.int .i64 kd,.int .i64 io,.int .i64 pt,.int .i64 bk,.int .i64 sl,.string nm,.bool bt,.bool ot,.int .i64 af,.slice pb bl.length pd] 41)) 41 11 (.slice gi ts.length ci) ts/\∀ v' w',NOwns w' 41 11 v' (ts ++ [(⟨id,kd,io,pt,bk,sl,nm,bt,ot,af,bl⟩:Dp).row (.slice pb bl.length pd)])->(W10.alloc (.cells #[.int .i64 id,.int .i64 kd,.int .i64 io,.int .i64 pt,.int .i64 bk,.int .i64 sl,.string nm,.bool bt,.bool ot,.int .i64 af,.slice pb bl.length pd] 41)).grownBy w' (Value.slice gi ts.length ci).ownBlock->(∀ k,v'.ownBlock=some k->(Value.slice gi ts.length ci).ownBlock=some k\/(W10.alloc (.cells #[.int .i64 id,.int .i64 kd,.int .i64 io,.int .i64 pt,.int .i64 bk,.int .i64 sl,.string nm,.bool bt,.bool ot,.int .i64 af,.slice pb bl.length pd] 41)).heap.size<=k)->AtC w' b 33 #[.slice b1 m.xs.length d1,.slice b2 m.ys.length d2,.slice b3 m.is.length d3,.slice b4 m.bs.length d4,.slice b5 m.fs.length d5,.slice gi ts.length ci,.int .i64 m.nx]/\Mz w (w'.setCell ⟨b,5,none⟩ v') #[.slice a1 m.xs.length c1,.slice a2 m.ys.length c2,.slice a3 m.is.length c3,.slice a4 m.bs.length c4,.slice a5 m.fs.length c5,.slice (some ⟨g,off,none⟩) m.ds.length c6,.int .i64 m.nx] b (.slice b1 m.xs.length d1) (.slice b2 m.ys.length d2) (.slice b3 m.is.length d3) (.slice b4 m.bs.length d4) (.slice b5 m.fs.length d5) v' { m with ds:=m.ds.take (j+1) }):=fun v9 w9 R1 R2=>by
     obtain ⟨pb,pd,rfl,B9,K9⟩:=cp_one R1 R2;have O9:ROwns w9 (wr.heap.size+1) 3 (.slice pb bl.length pd) (ic bl):=by unfold ROwns;rw [zaf];exact R1
     have hbl:=HDS.out.box.lt;have hs9:=B9.size;have hk9:=K9.lt;have bW:Below wr.heap.size wr ((w9.setCell ⟨wr.heap.size,10,none⟩ (.slice pb bl.length pd)).alloc (.cells #[.int .i64 id,.int .i64 kd,.int .i64 io,.int .i64 pt,.int .i64 bk,.int .i64 sl,.string nm,.bool bt,.bool ot,.int .i64 af,.slice pb bl.length pd] 41)):=(B9.setCell nR _).alloc (by simp;omega) _;have K10:AtC (w9.setCell ⟨wr.heap.size,10,none⟩ (.slice pb bl.length pd)) wr.heap.size 41 #[.int .i64 id,.int .i64 kd,.int .i64 io,.int .i64 pt,.int .i64 bk,.int .i64 sl,.string nm,.bool bt,.bool ot,.int .i64 af,.slice pb bl.length pd]:=K9.set 10 (.slice pb bl.length pd);have O10:ROwns ((w9.setCell ⟨wr.heap.size,10,none⟩ (.slice pb bl.length pd)).alloc (.cells #[.int .i64 id,.int .i64 kd,.int .i64 io,.int .i64 pt,.int .i64 bk,.int .i64 sl,.string nm,.bool bt,.bool ot,.int .i64 af,.slice pb bl.length pd] 41)) (wr.heap.size+1) 3 (.slice pb bl.length pd) (ic bl):=(O9.setCell_other (by omega) _).alloc _;refine ⟨pb,pd,_,rfl,rfl,K9,K10,((HDS.out.below B9).box.other (by omega) _).cell 5,AtC.new _ 41 _,HXX.out.1.of_heap fun k hk=>bW.block k (HXX.out.1.lt k hk),fun v' w' h1 h2 h3=>?_⟩;have:=HXX.out.2.1 _ w' v' _ ⟨id,kd,io,pt,bk,sl,nm,bt,ot,af,bl⟩ bW ⟨_,rfl,O10.base_le (Nat.zero_le _)⟩ (fun k hk=>by have:=(O10.lt k hk).1;omega) h1 h2 h3;rw [show ({ m with ds:=m.ds.take j }:MD).ds ++ [(⟨id,kd,io,pt,bk,sl,nm,bt,ot,af,bl⟩:Dp)]=m.ds.take (j+1) from HTK.out] at this;exact this
    have HTL:Hid (ts.length<=100000000000):=by have:=HXX.out.2.2;show ts.length<=_;omega
    clear HXX HDS;go_wp2_with (first | (at_builtin;refine zah _ rfl _ _ 35 rfl (wr.heap.size+1) 3 Tryz.underlying35 _ 1 8 Tryz.i3 rfl (by decide) (by decide) (.slice (some ⟨wr.heap.size+1,0,none⟩) 0 0) rfl (lit0_one wr _ 3 1) (by simp) _ rfl bl.length (ic bl) HPR.out.rc (by rw [zaf,Nat.mul_one]) (zgx bl) HPL.out ?_;intro v9 w9 R1 R2 R3;obtain ⟨pb,pd,W10,rfl,hW10,K9,K10,cb5,K11,T11,S11⟩:=HSTEP.out v9 w9 R1 R2;have y10:w9.cell? ⟨wr.heap.size,10,none⟩=some (.slice pa bl.length pc):=K9.cell 10;have yf:=K9.frozen 10;have kc0:W10.cell? ⟨wr.heap.size,0,none⟩=some (.int .i64 id):=K10.cell 0;have kc1:W10.cell? ⟨wr.heap.size,1,none⟩=some (.int .i64 kd):=K10.cell 1;have kc2:W10.cell? ⟨wr.heap.size,2,none⟩=some (.int .i64 io):=K10.cell 2;have kc3:W10.cell? ⟨wr.heap.size,3,none⟩=some (.int .i64 pt):=K10.cell 3;have kc4:W10.cell? ⟨wr.heap.size,4,none⟩=some (.int .i64 bk):=K10.cell 4;have kc5:W10.cell? ⟨wr.heap.size,5,none⟩=some (.int .i64 sl):=K10.cell 5;have kc6:W10.cell? ⟨wr.heap.size,6,none⟩=some (.string nm):=K10.cell 6;have kc7:W10.cell? ⟨wr.heap.size,7,none⟩=some (.bool bt):=K10.cell 7;have kc8:W10.cell? ⟨wr.heap.size,8,none⟩=some (.bool ot):=K10.cell 8;have kc9:W10.cell? ⟨wr.heap.size,9,none⟩=some (.int .i64 af):=K10.cell 9;have kc10:W10.cell? ⟨wr.heap.size,10,none⟩=some (.slice pb bl.length pd):=K10.cell 10;have HK11:=hide K11;have HT11:=hide T11;have HS11:=hide S11;clear R1 R2 R3 K9 K10 K11 T11 S11) | (at_builtin;refine wpList_step fun K' hK'=>?_;refine zap _ rfl (.tmp 34) (.tmp 36) 31 rfl 41 Tryz.u31 _ 11 104 Tryz.i41 rfl (by decide) (by decide) (.slice gi ts.length ci) ts rfl HT11.out W10.heap.size ((⟨id,kd,io,pt,bk,sl,nm,bt,ot,af,bl⟩:Dp).row (.slice pb bl.length pd)) rfl rfl (fun i u hu=>(HK11.out.at_ i u hu)) (by simp [Dp.row,Value.oneCell']) HTL.out ?_;intro v12 w12 T12 G12 V12;refine hK' _ _ ?_;obtain ⟨e12,D12⟩:=HS11.out v12 w12 T12 G12 V12;obtain ⟨g12,c12,rfl,-⟩:=T12.form;rw [show (ts ++ [(⟨id,kd,io,pt,bk,sl,nm,bt,ot,af,bl⟩:Dp).row (.slice pb bl.length pd)]).length=ts.length+1 from List.length_append] at D12 ⊢;have z2:=e12.frozen 5;have z3:w12.cell? ⟨b,5,none⟩=some (.slice gi ts.length ci):=e12.cell 5;have H12:=hide D12;clear e12 D12 T12 G12 V12 hK'))
    go_roundw
    case rel=>exact ⟨j+1,by omega,by go_num,_,H12.out⟩
    case measure=>simp [intOf];omega
   ·have hj2:j=m.ds.length:=by omega
    subst hj2;rw [List.take_length] at hds;obtain ⟨g6,l6,e6⟩:=hds.own.mr.p.form;simp only at e6;subst e6;have H7:=hide hds;have xb5:=hds.arg.c5;obtain ⟨y0,y1,y2,y3,y4,y5,y6⟩:=AtC.sev hds.box;have r0:=hds.res.c0;have v0:=hds.res.frozen 0;have r1:=hds.res.c1;have v1:=hds.res.frozen 1;have r2:=hds.res.c2;have v2:=hds.res.frozen 2;have r3:=hds.res.c3;have v3:=hds.res.frozen 3;have r4:=hds.res.c4;have v4:=hds.res.frozen 4;have r5:=hds.res.c5;have v5:=hds.res.frozen 5;have r6:=hds.res.c6;have v6:=hds.res.frozen 6;clear hds HR;go_wp2;refine bodyPost_ret (v:=.agg #[.slice b1 m.xs.length d1,.slice b2 m.ys.length d2,.slice b3 m.is.length d3,.slice b4 m.bs.length d4,.slice b5 m.fs.length d5,.slice g6 m.ds.length l6,.int .i64 m.nx]) (by simp [results,go_sem,r0,r1,r2,r3,r4,r5,r6]) rfl ⟨_,_,_,_,_,_,rfl,?_,?_⟩
    ·exact (H7.out.own.of_heap fun k hk _=>((((((heap_setCell_other _ ⟨w.heap.size+1,6,none⟩ k _ (by show k≠w.heap.size+1;omega)).trans (heap_setCell_other _ ⟨w.heap.size+1,5,none⟩ k _ (by show k≠w.heap.size+1;omega))).trans (heap_setCell_other _ ⟨w.heap.size+1,4,none⟩ k _ (by show k≠w.heap.size+1;omega))).trans (heap_setCell_other _ ⟨w.heap.size+1,3,none⟩ k _ (by show k≠w.heap.size+1;omega))).trans (heap_setCell_other _ ⟨w.heap.size+1,2,none⟩ k _ (by show k≠w.heap.size+1;omega))).trans (heap_setCell_other _ ⟨w.heap.size+1,1,none⟩ k _ (by show k≠w.heap.size+1;omega))).trans (heap_setCell_other _ ⟨w.heap.size+1,0,none⟩ k _ (by show k≠w.heap.size+1;omega))).mono fun k hk=>by omega
    ·exact (((((((H7.out.bel).setCell (by simp) _).setCell (by simp) _).setCell (by simp) _).setCell (by simp) _).setCell (by simp) _).setCell (by simp) _).setCell (by simp) _
namespace Kit
def ff:List Bool->Nat
 | []=>0
 | b :: r=>if b then (if ff r=0 then 0 else ff r+1) else 1
theorem ff_at (l:List Bool)(j:Nat)(h:j < l.length)(hf:l[j]=false)(ha:∀ (i:Nat) (hi:i < j),l[i]=true):ff l=j+1:=by
 induction l generalizing j with
 | nil=>simp at h
 | cons b r ih =>
  cases j with
  | zero=>simp at hf;simp [ff,hf]
  | succ j =>
   have h0:b=true:=ha 0 (by omega);have h1:=ih j (by simpa using h) (by simpa using hf) (fun i hi=>by have:=ha (i+1) (by omega);simpa using this);simp [ff,h0,h1]
theorem ff_none (l:List Bool)(ha:∀ (i:Nat) (hi:i < l.length),l[i]=true):ff l=0:=by
 induction l with
 | nil=>rfl
 | cons b r ih =>
  have h0:b=true:=ha 0 (by simp);have h1:=ih (fun i hi=>by have:=ha (i+1) (by simp;omega);simpa using this);simp [ff,h0,h1]
theorem ff_or (l:List Bool):(ff l=0/\∀ (i:Nat) (hi:i < l.length),l[i]=true)\/∃ (k:Nat) (hk:k < l.length),ff l=k+1/\l[k]=false/\∀ (i:Nat) (hi:i < k),l[i]=true:=by
 induction l with
 | nil=>left;exact ⟨rfl,fun i hi=>by simp at hi⟩
 | cons b r ih =>
  cases b with
  | false=>right;exact ⟨0,by simp,rfl,rfl,fun i hi=>by omega⟩
  | true =>
   rcases ih with ⟨e,h⟩ | ⟨k,hk,e,h1,h2⟩
   ·left
    refine ⟨by simp [ff,e],fun i hi=>?_⟩
    cases i with
    | zero=>rfl
    | succ i=>simpa using h i (by simpa using hi)
   ·right
    refine ⟨k+1,by simpa using hk,by simp [ff,e],by simpa using h1,fun i hi=>?_⟩
    cases i with
    | zero=>rfl
    | succ i=>simpa using h2 i (by omega)
end Kit
theorem zdc (l:List Bool)(k:Nat)(b:Bool):fc (l.set k b)=(fc l).set k (.bool b):=by simp [fc,List.map_set]
theorem zch (v:Value)(l:List Bool)(w:World)(hv:RFl w v l)(hl:l.length<=1048576) :
  Calls Tryz.prog 126 #[v] w fun e w'=>e=.returned (.int .i64 (ff l:Nat))/\w=w':=by
 obtain ⟨a,c,rfl,ha⟩:=hv;have HA:=hide ha;clear ha;go_enter Tryz.func126,Tryz.ntmps126
 go_wp2;go_loopw [3] (fun i wr=>∃ j:Nat,j<=l.length/\i=.int .i64 j/\Hid (∀ (i:Nat) (h1:i < j) (h2:i < l.length),l[i]=true)/\w=wr) (fun i _=>l.length - (intOf i).toNat)
 case atStart=>exact ⟨0,Nat.zero_le _,rfl,hide (fun i h1 h2=>by omega),rfl⟩
 case round =>
  obtain ⟨j,hj,rfl,HT,rfl⟩:=hrel;by_cases hlt:j < l.length
  ·obtain ⟨g,off,rfl,_,k1⟩:=HA.out j hlt;obtain ⟨t,ht⟩:∃ t,l[j]=t:=⟨_,rfl⟩
   rw [ht] at k1;have j0:(0:Int)<=(j:Int):=by omega
   have j1:(j:Int) < (l.length:Int):=by omega
   cases t with
   | true =>
    have HT2:Hid (∀ (i:Nat) (h1:i < j+1) (h2:i < l.length),l[i]=true):=hide (fun i h1 h2=>by
     by_cases e:i=j
     ·subst e;exact ht
     ·exact HT.out i (by omega) h2)
    clear ht;go_wp2;go_roundw
    case rel=>exact ⟨j+1,by omega,by go_num,HT2,trivial⟩
    case measure=>simp [intOf];omega
   | false =>
    have HF:=hide (ff_at l j hlt ht (fun i hi=>HT.out i hi (by omega)));clear ht;go_wp2;go_ret;exact ⟨ret_of (show Value.int .i64 _=Value.int .i64 _ by rw [HF.out];rfl),rfl⟩
  ·have HF:=hide (ff_none l (fun i hi=>HT.out i (by omega) hi));go_wp2;go_ret;exact ⟨by rw [HF.out];rfl,rfl⟩
theorem zei (b:Nat)(u v iv bv pv:Value)(a:Option Addr)(c:Nat)(fs:List Bool)(nx:Int)(w:World)(h:AtC w b 33 #[u,v,iv,bv,.slice a fs.length c,pv,.int .i64 nx])(ho:ROwns w 0 4 (.slice a fs.length c) (fc fs)) :
  Calls Tryz.prog 95 #[.pointer (some ⟨b,0,none⟩),.int .i64 0] w fun e w'=>e=.returned (.tuple #[])/\ROwns w' 0 4 (.slice a fs.length c) (fc (fs.set 0 true))/\w.grownBy w' (Value.slice a fs.length c).ownBlock:=by
 have x4:=h.c4;have HO:=hide ho;clear ho h;by_cases hl:0 < fs.length
 ·obtain ⟨g,cap,e1,k1,k2,k3,k4⟩:=HO.out.at 0 (by rw [zae];exact hl);rw [zae] at e1;simp only [Value.slice.injEq,true_and] at e1;obtain ⟨rfl,rfl⟩:=e1;have k1':w.cell? ⟨g,0,none⟩=some (.bool fs[0]):=k1.trans (by simp [fc,hl]);generalize fs[0]=t0 at k1';clear k1;have HS:=hide (ROwns.stored (l:=fc fs) (g:=g) (cap:=c) (by rw [zae];exact HO.out) 0 (.bool true));have hl1:(0:Int) < (fs.length:Int):=by omega
  have hd:decide ((0:Int) < (fs.length:Int))=true:=decide_eq_true hl1;clear HO;go_enter Tryz.func95,Tryz.ntmps95
  go_wp2
  go_end0
  have q:=HS.out.1;rw [zae,← zdc] at q;exact ⟨rfl,q,HS.out.2⟩
 ·have hl1:¬ (0:Int) < (fs.length:Int):=by omega
  have hd:decide ((0:Int) < (fs.length:Int))=false:=decide_eq_false hl1;have hfs:fs=[]:=List.length_eq_zero_iff.1 (by omega);have HF:=hide hfs;clear hfs;go_enter Tryz.func95,Tryz.ntmps95
  go_wp2
  go_end0
  have e:=HF.out;refine ⟨rfl,?_,zam bR _⟩;rw [show fs.set 0 true=fs by rw [e];rfl];exact HO.out
end Go.Proofs.YtmbimpmebfoglaaGreat
